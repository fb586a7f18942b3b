/-
  dataOf of package cell, and bytes.Clone, by their contracts. No claim of their own.
-/
import Derived.Test.YtdblplkaobeimaaGc3
import Derived.Deep.RegionHeld3
import Derived.IntWalk
namespace Go.Proofs.Ytdblplkaobeimaa
open Go.RowKit Go.Deep
set_option linter.unusedVariables false
set_option linter.unusedSimpArgs false

theorem eql_nil (a : Option Addr) (n c : Nat) (w : World) : (binOp .eql 29 (.slice a n c) (.slice none 0 0)).run Try.prog w = .ok (.bool a.isNone) w := by
  simp only [binOp]
  simp [run_equal_slice_nil w 29 5 a n c Try.underlying29]
/-- a slice of n bytes that are laid below the heap's end -/
def ClP (w : World) (bs : List UInt8) (n : Nat) (e : Ending) (w' : World) : Prop := ∃ a' c', e = .returned (.slice a' n c') ∧ Ro w' w'.heap.size a' (u8s bs) ∧ (∀ ad, a' = some ad → w.heap.size ≤ ad.block) ∧ Below w.heap.size w w'
end Go.Proofs.Ytdblplkaobeimaa
namespace Go.Proofs.Ytdblplkaobeimaa
open Go.RowKit Go.Deep
set_option linter.unusedVariables false
set_option linter.unusedSimpArgs false

theorem Ro.far {w : World} {B : Nat} {a : Option Addr} {vs : List Value} (h : Ro w B a vs) {p : Addr} {u : Value} (hp : ∀ ad, a = some ad → ad.block ≠ p.block) : Ro (w.setCell p u) B a vs := by
  rcases h with h | ⟨b, off, h1, h2, h3⟩
  · exact .inl h
  · refine .inr ⟨b, off, h1, h2, fun i hi => ?_⟩
    have hb := Below.heap_setCell w p u b (hp _ h1)
    rw [← h3 i hi]
    simp only [World.cell?, hb]
/-- a slice of Backs of the call's own -/
def Lb (w : World) (base : Nat) (v : Value) (L : List Bk) : Prop := w.ownsRow base 54 3 v L.length (bcs L)
theorem Lb.nil (w : World) (base : Nat) : Lb w base (.slice none 0 0) [] := World.ownsRow_nil w base _ 3
theorem Lb.qt {w w' : World} {base : Nat} {v : Value} {L : List Bk} (h : Lb w base v L) (k : Qt w w') : Lb w' base v L := by
  obtain ⟨n, rfl⟩ := k
  exact h
theorem Lb.alloc {w : World} {base : Nat} {v : Value} {L : List Bk} (h : Lb w base v L) (o : Obj) : Lb (w.alloc o) base v L := World.ownsRow.alloc h o
theorem Lb.below {w w' : World} {base B : Nat} {v : Value} {L : List Bk} (h : Lb w base v L) (hb : Below B w w') (hB : w.heap.size ≤ B) : Lb w' base v L := by
  unfold Lb at h ⊢
  refine World.ownsRow.kept (row := none) h ⟨hb.os, hb.tape, hb.output, hb.size, fun b hlt _ => hb.block b (by omega)⟩ ?_
  by_cases hv : v.ownBlock = none
  · exact .inl hv
  · exact .inr hv
theorem Lb.lt {w : World} {base : Nat} {v : Value} {L : List Bk} (h : Lb w base v L) : ∀ k, v.ownBlock = some k → base ≤ k ∧ k < w.heap.size := World.ownsRow.lt h
theorem Lb.form {w : World} {base : Nat} {v : Value} {L : List Bk} (h : Lb w base v L) : ∃ a c, v = .slice a L.length c ∧ Ro w w.heap.size a (bcs L) ∧ L.length ≤ c ∧ c ≤ maxLen := by
  unfold Lb at h
  rcases h.2 with ⟨rfl, h0⟩ | ⟨g, cap, cur, rfl, hb, hh, hle, hm, hrest⟩
  · have : L = [] := by simpa using h0
    subst this
    exact ⟨none, 0, rfl, .inl rfl, by simp, by decide⟩
  · refine ⟨some ⟨g, 0, none⟩, cap, rfl, .inr ⟨g, 0, rfl, ?_, fun i hi => ?_⟩, hle, hm⟩
    · exact (World.ownsRow.lt h g rfl).2
    · have := World.ownsRow.cellAt h i (by rw [bcs_length] at hi; exact hi)
      rw [Nat.zero_add, this]
      simp only [List.getD, List.getElem?_eq_getElem hi, Option.getD_some]
theorem Lb.far {w : World} {base : Nat} {v : Value} {L : List Bk} (h : Lb w base v L) {p : Addr} (hp : p.block < base) (u : Value) : Lb (w.setCell p u) base v L := by
  unfold Lb at h ⊢
  refine World.ownsRow.kept (row := some p.block) h ⟨rfl, rfl, rfl, by simp [World.setCell], fun b hlt hne => Below.heap_setCell w p u b (fun e => hne (by rw [e]))⟩ ?_
  by_cases hv : v.ownBlock = none
  · exact .inl hv
  · refine .inr (fun e => ?_)
    have := (World.ownsRow.lt h p.block e).1
    omega
theorem Try.info_back : (Try.prog.info? 54).map (fun i => (i.zero, i.size, i.bytes)) = some (some (.agg #[.int .i64 0, .int .u64 0, .int .u64 0]), 3, 24) := by kernel_rfl
theorem Lb.grown_below {B base : Nat} {a w w' : World} {v : Value} {L : List Bk} (h : Below B a w) (hl : Lb w base v L) (hg : w.grownBy w' v.ownBlock) (hB : B ≤ base) (hB2 : B ≤ w.heap.size) : Below B a w' :=
  ⟨hg.os.trans h.os, hg.tape.trans h.tape, hg.output.trans h.output, Nat.le_trans h.size hg.size, fun b hb => (hg.block b (by omega) (fun e => by have := (hl.lt b e.symm).1; omega)).trans (h.block b hb)⟩
/-- append of one Back at a step of a region that draws its order -/
theorem step_app3 {ops : Array Oper} {o : Oper} {a : Act} {w : World} {K : Act → World → Prop} {Q : Exit → Act → World → Prop} {E : Prop} (hgd : o.guard = none) (s x : Operand)
    (ho : o.op = .call { callee := .builtin .append, args := #[s, x], argTypes := #[30, 30] })
    (base : Nat) (v : Value) (L : List Bk) (hs : a.eval s = v) (hown : Lb w base v L) (g : Nat) (y : Bk) (t : TypeId) (hnew : Own w g t (bcs [y]))
    (hx : a.eval x = .slice (some ⟨g, 0, none⟩) 1 1) (hlen : L.length ≤ 1000000) (hbase : base ≤ w.heap.size)
    (h : ∀ v' w', Hid (Lb w' base v' (L ++ [y])) → w.grownBy w' v.ownBlock → K (a.put o.dst v') w') :
    if Region.wanted o (yielded ops a.tmps) = true then Oper.wp Try.prog o a w K Q else E := by
  have hw : Region.wanted o (yielded ops a.tmps) = true := by simp [Region.wanted, hgd]
  rw [if_pos hw]
  obtain ⟨i, hi, hzz⟩ := Option.map_eq_some_iff.1 Try.info_back
  simp only [Prod.mk.injEq] at hzz
  obtain ⟨hz, hsz, hby⟩ := hzz
  refine wp_append_own w s x 30 ho base 54 i _ 3 24 Try.underlying30 hi hz hsz hby rfl (by omega) v L.length (bcs L) hs hown ⟨g, 0, none⟩ 1 1 (bcs [y]) hx (by simp) (fun j u hu => ?_) (bcs_one _) (by unfold maxLen; omega) (by omega) hbase fun v' w' h2 h3 _ => h v' w' ?_ h3
  · rw [add_off, Nat.zero_add, hnew.cell j]; exact hu
  · show w'.ownsRow base 54 3 v' (L ++ [y]).length (bcs (L ++ [y]))
    rw [List.length_append, bcs_append]
    exact h2

theorem wrap_small2 (k : Nat) (h : k < 1000) : IntKind.i64.wrap (k : Int) = (k : Int) := IntWalk.i64_in _ (by omega)
theorem wrap_small (k : Nat) (h : k < 1000) : wrap64 (k : Int) = (k : Int) := by unfold wrap64; omega
/-- an address of blocks that are new since w -/
def Frs (w : World) (a : Option Addr) : Prop := ∀ ad, a = some ad → w.heap.size ≤ ad.block
/-- a cell that has been read out of bytes -/
def DcP (w : World) (x : Ce) (r : Value) (e : Ending) (w' : World) : Prop := ∃ a1 c1 a2 c2, e = .returned (.tuple #[cev x.k a1 x.d.length c1 a2 x.b.length c2, r]) ∧ Ro w' w'.heap.size a1 (u8s x.d) ∧ Ro w' w'.heap.size a2 (bcs x.b) ∧ Frs w a1 ∧ Frs w a2 ∧ Below w.heap.size w w'
/-- the same over letters -/
def DcQ (w : World) (sz cnt : Nat) (ds : List UInt8) (L : List Bk) (e : Ending) (w' : World) : Prop := ∃ a1 c1 a2 c2, e = .returned (.tuple #[cev 1 a1 sz c1 a2 cnt c2, .bool true]) ∧ Ro w' w'.heap.size a1 (u8s ds) ∧ Ro w' w'.heap.size a2 (bcs L) ∧ Frs w a1 ∧ Frs w a2 ∧ Below w.heap.size w w'
/-- the numbers behind the first one -/
def tl (vs : List Nat) (k : Nat) : List Bk := ((vs.drop 1).take k).map backN
theorem tl_step (vs : List Nat) (k : Nat) (h : k + 1 < vs.length) : tl vs (k + 1) = tl vs k ++ [backN (vs.getD (k + 1) 0)] := by
  unfold tl
  have h1 : k < (vs.drop 1).length := by rw [List.length_drop]; omega
  rw [List.take_succ_eq_append_getElem h1, List.map_append]
  have : (vs.drop 1)[k] = vs.getD (k + 1) 0 := by
    rw [List.getElem_drop]
    have h2 : 1 + k < vs.length := by omega
    simp only [List.getD]
    rw [show k + 1 = 1 + k by omega, List.getElem?_eq_getElem h2]
    rfl
  rw [this]
  rfl
theorem tl_length (vs : List Nat) (k : Nat) (h : k + 1 ≤ vs.length) : (tl vs k).length = k := by
  unfold tl
  rw [List.length_map, List.length_take, List.length_drop]
  omega

end Go.Proofs.Ytdblplkaobeimaa
