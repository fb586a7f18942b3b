/-
  Words of this seat: a region that draws its order, in a round of a range over a function; a load whose cell is written behind it. Plain lemmas, no claim of their own.
-/
import Derived.Test.YtlkojonchlcpdaaSeq
import Derived.RegionTactic
namespace Go.Proofs.Ytlkojonchlcpdaa
open Go.RowKit Go.Shelf

section
variable {P : Program} {ops : Array Oper} {Q : Exit → Act → World → Prop} {md : Region.Mode}

/-- every order from here on; what U says of the world is shown behind each operation as long as none of ws has come up -/
def AnyU (P : Program) (md : Region.Mode) (ops : Array Oper) (Q : Exit → Act → World → Prop) (ws : List Nat) (U : World → Prop) : Nat → Array Bool → Act → World → Prop
  | 0, L, a, w => Region.ready md ops L = [] ∧ Q .normal a w
  | f + 1, L, a, w => (Region.ready md ops L = [] → Q .normal a w) ∧
      ∀ i ∈ Region.ready md ops L, wpOp P ops Q i (fun a' w' => (ws.all (fun k => !(L.setIfInBounds i true).getD k true) = true → U w') ∧ AnyU P md ops Q ws U f (L.setIfInBounds i true) a' w') a w

theorem AnyU.any {ws : List Nat} {U : World → Prop} : ∀ (f : Nat) (L : Array Bool) (a : Act) (w : World), AnyU P md ops Q ws U f L a w → wpAny P md ops Q f L a w
  | 0, _, _, _, h => h
  | f + 1, _, _, _, h => ⟨h.1, fun i hi => wpOp_mono (fun a w hh => AnyU.any f _ a w hh.2) (h.2 i hi)⟩

/-- operation i may be taken first: its value is the same in every world of which U holds; each of ws waits for it; U holds of the world at hand -/
theorem AnyU.first {ws : List Nat} {U : World → Prop} {i : Nat} {o : Oper} {v : Value} (hi : ops[i]? = some o) (hsel : Region.noSelect ops = true)
    (hQ : ∀ c a w, Q (.panic c) (a.put o.dst v) w → Q (.panic c) a w) (hwait : ∀ k ∈ ws, k ≠ i ∧ ∃ ok, ops[k]? = some ok ∧ ∃ e ∈ ok.after, Region.binds md e = true ∧ e.on = i) :
    ∀ (f : Nat) (L : Array Bool) (a : Act) (w : World), Region.free md ops L i = true → i ∈ Region.ready md ops L → ws.all (fun k => !L.getD k true) = true → YieldsIf P ops U o v a → U w →
      AnyU P md ops Q ws U f (L.setIfInBounds i true) (a.put o.dst v) w → AnyU P md ops Q ws U (f + 1) L a w := by
  intro f
  induction f with
  | zero =>
    intro L a w _ hr _ hy hU H
    refine ⟨(fun e => by rw [e] at hr; cases hr), fun j hj => ?_⟩
    by_cases e : j = i
    · subst e; exact hy.wpOp hi hU ⟨fun _ => hU, H⟩
    · have := ready_mono hj e
      rw [H.1] at this
      cases this
  | succ f ih =>
    intro L a w hfree hr hws hy hU H
    refine ⟨(fun e => by rw [e] at hr; cases hr), fun j hj => ?_⟩
    by_cases e : j = i
    · subst e; exact hy.wpOp hi hU ⟨fun _ => hU, H⟩
    obtain ⟨hun, oj, hoj, hon⟩ := mem_ready.1 hj
    have hiun := (mem_ready.1 hr).1
    -- j does not wait for i
    have hno : ∀ x ∈ oj.after, Region.binds md x = true → x.on ≠ i := by
      intro x hx hb he
      have h1 := hon x hx hb
      rw [he] at h1
      rw [Array.getD_eq_getD_getElem?] at h1 hiun
      cases hL : L[i]? with
      | none => rw [hL] at h1; cases h1
      | some b => rw [hL] at h1 hiun; simp only [Option.getD_some] at h1 hiun; rw [h1] at hiun; cases hiun
    have hjw : j ∉ ws := fun hm => by
      obtain ⟨_, ok, hok, x, hx, hb, he⟩ := hwait j hm
      rw [hoj] at hok
      cases hok
      exact hno x hx hb he
    have hap := Region.free_spec hi hfree j oj hoj e hun hno
    have h2 := wpOp_putIf hoj hap (Region.noSelect_spec hsel i o · · hi) (Region.noSelect_spec hsel j oj · · hoj) hQ hy (H.2 j (ready_mono hj e))
    refine wpOp_mono ?_ h2
    rintro a' w' ⟨hy', hU', hrest⟩
    have hws' : ws.all (fun k => !(L.setIfInBounds j true).getD k true) = true := by
      rw [List.all_eq_true] at hws ⊢
      intro k hk
      have := hws k hk
      rwa [getD_set_ne true (fun (h : j = k) => hjw (by rw [h]; exact hk))]
    have hws2 : ws.all (fun k => !((L.setIfInBounds i true).setIfInBounds j true).getD k true) = true := by
      rw [List.all_eq_true] at hws' ⊢
      intro k hk
      rw [Array.setIfInBounds_comm _ _ (Ne.symm e), getD_set_ne true (Ne.symm (hwait k hk).1)]
      exact hws' k hk
    have hUw := hU' hws2
    refine ⟨fun _ => hUw, ih (L.setIfInBounds j true) a' w' ?_ (ready_mono hr (Ne.symm e)) hws' hy' hUw (by rw [Array.setIfInBounds_comm _ _ e]; exact hrest)⟩
    -- still free
    unfold Region.free at hfree ⊢
    rw [hi] at hfree ⊢
    dsimp only at hfree ⊢
    rw [List.all_eq_true] at hfree ⊢
    intro k hk
    have := hfree k hk
    simp only [Bool.or_eq_true] at this ⊢
    rcases this with (h | h) | h
    · exact .inl (.inl h)
    · refine .inl (.inr ?_)
      by_cases hjk : j = k
      · subst hjk; rw [hun] at h; cases h
      · rw [getD_set_ne true hjk]; exact h
    · exact .inr h

/-- the moves of a walk -/
theorem AnyU.take {ws : List Nat} {U : World → Prop} (i : Nat) {o : Oper} (v : Value) {f : Nat} {L : Array Bool} {a : Act} {w : World} (hi : ops[i]? = some o) (hsel : Region.noSelect ops = true) (hfree : Region.free md ops L i = true) (hr : (Region.ready md ops L).contains i = true)
    (hwait : (ws.all fun k => k != i && ((ops[k]?).map fun ok => ok.after.any fun e => Region.binds md e && e.on == i).getD false) = true) (hws : ws.all (fun k => !L.getD k true) = true)
    (hQ : ∀ c a w, Q (.panic c) (a.put o.dst v) w → Q (.panic c) a w) (hg : Region.wanted o (yielded ops a.tmps) = true) (hy : ∀ w, U w → (execOp a.eval o).run P w = .ok (.value v) w) (hU : U w)
    (h : AnyU P md ops Q ws U f (L.setIfInBounds i true) (a.put o.dst v) w) : AnyU P md ops Q ws U (f + 1) L a w := by
  refine AnyU.first hi hsel hQ (fun k hk => ?_) f L a w hfree (by simpa using hr) hws (.inl ⟨hg, hy⟩) hU h
  rw [List.all_eq_true] at hwait
  have h1 := hwait k hk
  simp only [Bool.and_eq_true, bne_iff_ne, ne_eq] at h1
  refine ⟨h1.1, ?_⟩
  cases hk2 : ops[k]? with
  | none => rw [hk2] at h1; exact absurd h1.2 (by simp)
  | some ok =>
    rw [hk2] at h1
    have h2 := h1.2
    simp only [Option.map_some, Option.getD_some] at h2
    obtain ⟨e, he, hb⟩ := Array.any_eq_true'.1 h2
    simp only [Bool.and_eq_true, beq_iff_eq] at hb
    exact ⟨ok, rfl, e, he, hb.1, hb.2⟩
/-- one operation alone may come up -/
theorem AnyU.step {ws : List Nat} {U : World → Prop} (i : Nat) {o : Oper} {f : Nat} {L : Array Bool} {a : Act} {w : World} (hi : ops[i]? = some o) (hr : Region.ready md ops L = [i])
    (h : ∀ K : Act → World → Prop, (∀ a' w', (ws.all (fun k => !(L.setIfInBounds i true).getD k true) = true → U w') → AnyU P md ops Q ws U f (L.setIfInBounds i true) a' w' → K a' w') → if Region.wanted o (yielded ops a.tmps) = true then Oper.wp P o a w K Q else K (a.put o.dst undef) w) :
    AnyU P md ops Q ws U (f + 1) L a w := by
  refine ⟨(fun e => by rw [hr] at e; cases e), fun j hj => ?_⟩
  rw [hr] at hj
  obtain rfl : j = i := by simpa using hj
  exact wpOp_step hi fun K hK => h K fun a' w' h1 h2 => hK a' w' ⟨h1, h2⟩
theorem AnyU.done {ws : List Nat} {U : World → Prop} {L : Array Bool} {a : Act} {w : World} (hr : Region.ready md ops L = []) (h : Q .normal a w) : AnyU P md ops Q ws U 0 L a w := ⟨hr, h⟩

/-- the region, in a round -/
theorem round_anyU {l n id : Nat} {a : Act} {w : World} (ws : List Nat) (U : World → Prop) (hm : P.follows .mixedOrders = true) (hout : ¬ LetsOut Q) (hd : noDefer ops = true)
    (h : AnyU P .any ops Q ws U ops.size (Array.replicate ops.size false) a w.drew) : (Code.region id ops true).wpIn (Fence.wide.inRound l) n P Q a w :=
  wpIn_region_any hm (roundAny hout (noDefer_spec hd) _ _ _ _ (AnyU.any _ _ _ _ h))
end
end Go.Proofs.Ytlkojonchlcpdaa
