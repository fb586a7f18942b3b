/-
  Contract of slices.Replace at a row of runs of the call's own, whole. No claim of its own.
-/
import Derived.Test.YtmpajlpemabniaaGreatRepB
import Derived.Test.YtmpajlpemabniaaGreatShelf
import Derived.StillTailTactics
import Derived.Shelf.RegionOpen
import Derived.Shelf.Abstract
import Derived.RangeFuncNested
import Derived.RangeFuncBound
import Derived.RangeFuncCalls
import Derived.RangeFuncLeaves
import Derived.WalkKit
import Derived.OwnWalkIn
import Derived.TacticsInMore
import Derived.LoopNIn
import Derived.LoopIn
import Derived.Deep.RegionHeld3
namespace Go.Proofs.YtmpajlpemabniaaGreat
open Go.RowKit Go.Deep
set_option linter.unusedVariables false
set_option linter.unusedSimpArgs false

theorem drop_end (L : List Rn) (j : Nat) (h : j = L.length) (A V : List Rn) : A ++ (V ++ L.drop j) = A ++ V := by rw [h, List.drop_length, List.append_nil]
set_option maxHeartbeats 1000000 in
set_option maxRecDepth 100000 in
/-- slices.Replace at a row of the call's own by a row that lies apart -/
theorem replace_any (w : World) (base : Nat) (v : Value) (L : List Rn) (hown : Lr w base 86 v L) (v2 : Value) (V : List Rn) (base2 : Nat) (hV : Lr w base2 86 v2 V) (hne : v.ownBlock = none ∨ v.ownBlock ≠ v2.ownBlock) (i j : Nat) (hij : i ≤ j) (hj : j ≤ L.length) (hb : L.length + V.length ≤ 4000000) (hbase : base ≤ w.heap.size) :
    Calls Tryz.prog 147 #[v, .int .i64 i, .int .i64 j, v2] w (RepPost w base v (L.take i ++ (V ++ L.drop j))) := by
  by_cases hij2 : i = j
  · subst hij2
    have HI := insert_any w base v L hown v2 V base2 hV hne i (by omega) hb hbase
    obtain ⟨a, c, hv, hro, hc, hc2, hnil, _⟩ := hown.form
    obtain ⟨a2, c2, hv2⟩ := hV.shape
    have HII := Lib.hid HI
    obtain ⟨n, HN⟩ : ∃ n, Hid (L.length = n) := ⟨_, Lib.hid rfl⟩
    rw [HN.out] at hv hj hc
    have HV := Lib.hid hv
    rw [hv, hv2] at HII
    rw [hv, hv2]
    have h0 : (0 : Int) ≤ (i : Int) := by omega
    clear HI hv hv2 hnil hro hne hV hown
    go_enter Tryz.func147, Tryz.ntmps147
    go_wp2_with (go_at_call 202; refine HII.out.mono ?_; rintro e w' ⟨v1, rfl, h1, h2, h3⟩)
    all_goals go_ret
    all_goals first
      | exact RepPost.mk h1 h2 h3
      | (have hcn : c = i := by assumption
         subst hcn
         exact RepPost.mk h1 h2 h3)
  · have hn1 : v ≠ .slice none 0 0 := by
      rintro rfl
      obtain ⟨e, _⟩ := hown.ro
      omega
    obtain ⟨g, c, cur, rfl, hg, ho, hle, hcm, hcl, ht⟩ := hown.open_ hn1
    have hcm2 := hcm
    unfold maxLen at hcm2
    obtain ⟨a2, c2, e2⟩ := hV.shape
    by_cases hje : j = L.length
    · rw [drop_end L j hje]
      subst e2
      have hro := hV.ro.2
      rcases Nat.lt_or_ge (i + V.length) L.length with hl | hl
      · rw [hje]; exact replace_end_less w base g c L cur hg ho hcl ht (by omega) hle a2 c2 _ V hro i (by omega) hl hb
      · rw [hje]; exact replace_end_more w base g c L cur hg ho hcl ht hcm hle a2 c2 _ V hro i (by omega) hl hb hbase
    · by_cases hs : i + V.length ≤ j
      · subst e2
        refine replace_small w base g c L cur hg ho hcl ht (by omega) hle a2 c2 V (fun hn => ?_) i j (by omega) (by omega) hs hb
        have hn2 : Value.slice a2 V.length c2 ≠ .slice none 0 0 := by
          intro e
          rw [e] at hV
          obtain ⟨e3, _⟩ := hV.ro
          exact hn (List.eq_nil_of_length_eq_zero e3.symm)
        obtain ⟨g2, c3, cur2, hv2, hg2, ho2, hle2, hcm2, hcl2, ht2⟩ := hV.open_ hn2
        simp only [Value.slice.injEq] at hv2
        exact ⟨g2, hv2.1, ho2.src ⟨cur2.drop (V.length * 2), by rw [← ht2, List.take_append_drop]; rfl⟩⟩
      · have hn2 : v2 ≠ .slice none 0 0 := by
          rintro rfl
          obtain ⟨e, _⟩ := hV.ro
          omega
        obtain ⟨g2, c3, cur2, rfl, hg2, ho2, hle2, hcm2, hcl2, ht2⟩ := hV.open_ hn2
        have hne2 : g ≠ g2 := by
          rcases hne with h | h
          · simp [Value.ownBlock] at h
          · intro e; exact h (by simp [Value.ownBlock, e])
        rcases Nat.lt_or_ge c (i + V.length + (L.length - j)) with hr | hr
        · exact replace_grow w base g c L cur hg ho hcl ht (by omega) hle g2 c3 V cur2 ho2 ht2 i j (by omega) (by omega) hr hb hbase
        · exact replace_wide w base g c L cur hg ho hcl ht (by omega) hle g2 c3 V cur2 ho2 ht2 hne2 i j (by omega) (by omega) (by omega) hr hb
end Go.Proofs.YtmpajlpemabniaaGreat
namespace Go.Proofs.YtmpajlpemabniaaGreat
open Go.RowKit Go.Deep Go.Sort
set_option linter.unusedVariables false
set_option linter.unusedSimpArgs false

theorem low_chg {a w : World} (h : Below a.heap.size a w) : Chg [] a w := (Chg.refl [] a).of_below h
theorem Lr.chg {l : List Nat} {a w : World} {base : Nat} {e : TypeId} {v : Value} {L : List Rn} (h : Lr a base e v L) (hc : Chg l a w) (hg : ∀ g, v.ownBlock = some g → g ∉ l) : Lr w base e v L := by
  refine ⟨h.1, ?_⟩
  rcases h.2 with hn | ⟨g, cap, cur, rfl, hb, hgg, rest⟩
  · exact .inl hn
  · exact .inr ⟨g, cap, cur, rfl, hb, (hc.block g (Array.getElem?_eq_some_iff.1 hgg).1 (hg g rfl)).trans hgg, rest⟩

/-- the greatest end -/
def top64 : Nat := 18446744073709551615
/-- a set: its struct in block p, whose slice is v; its runs are L -/
structure St (w : World) (p : Nat) (v : Value) (L : List Rn) : Prop where
  own : Own w p 199 [v]
  row : Lr w 0 86 v L
  nf : NF L
  fit : ∀ r ∈ L, r.2 ≤ top64
  len : L.length ≤ 1000000
theorem St.apart {w : World} {p : Nat} {v : Value} {L : List Rn} (h : St w p v L) : v.ownBlock ≠ some p := by
  intro e
  rcases h.row.2 with ⟨hn, _⟩ | ⟨g, cap, cur, hv, hb, hgg, rest⟩
  · subst hn; cases e
  · subst hv
    have e2 : g = p := by simpa [Value.ownBlock] using e
    subst e2
    have := h.own
    unfold Own at this
    rw [hgg] at this
    simp at this
theorem St.chg {l : List Nat} {a w : World} {p : Nat} {v : Value} {L : List Rn} (h : St a p v L) (hc : Chg l a w) (hp : p ∉ l) (hg : ∀ g, v.ownBlock = some g → g ∉ l) : St w p v L :=
  ⟨h.own.chg hc hp, h.row.chg hc hg, h.nf, h.fit, h.len⟩
theorem St.kept {a w : World} {p : Nat} {v : Value} {L : List Rn} (h : St a p v L) (hc : Chg [] a w) : St w p v L := h.chg hc (by simp) (by simp)
theorem St.cell {w : World} {p : Nat} {v : Value} {L : List Rn} (h : St w p v L) : w.cell? ⟨p, 0, none⟩ = some v := by have := h.own.cell 0; simpa using this
theorem fit_el {L : List Rn} (h : ∀ r ∈ L, r.2 ≤ top64) (hn : NF L) : ∀ r ∈ L, Fit r := fun r hr => by
  have h1 := h r hr
  have h2 := hn.nonempty r hr
  unfold top64 at h1
  unfold Fit
  omega

/-! first -/
set_option maxHeartbeats 1000000 in
set_option maxRecDepth 100000 in
theorem cl_any (f : Nat) (q : Rn → Nat → Bool) (hq : ∀ (r : Rn) (n : Nat) (w : World), Calls Tryz.prog f #[rv r, .int .u64 n] w fun e w' => e = .returned (.bool (q r n)) ∧ w' = w.alloc (rb r 86))
    (eg : ∀ args w, (callFunc f args).run Tryz.prog w = .ok (.enter f args) w) (bi bs bn p g c n i k off : Nat) (x : Rn) (W : World) (hi : i < k)
    (h1 : W.cell? ⟨bi, 0, none⟩ = some (.func (.func f) #[] #[])) (h2 : W.cell? ⟨bs, 0, none⟩ = some (.pointer (some ⟨p, 0, none⟩))) (h3 : W.cell? ⟨bn, 0, none⟩ = some (.int .u64 n))
    (h4 : W.cell? ⟨p, 0, none⟩ = some (.slice (some ⟨g, 0, none⟩) k c)) (h5 : W.cell? ⟨g, i * 2, none⟩ = some (.int .u64 (x.1 : Int))) (h6 : W.cell? ⟨g, i * 2 + 1, none⟩ = some (.int .u64 (x.2 : Int))) :
    Calls Tryz.prog 201 #[.int .i64 i, .pointer (some ⟨bi, 0, none⟩), .pointer (some ⟨bs, 0, none⟩), .pointer (some ⟨bn, 0, none⟩)] W fun e w' => e = .returned (.bool (q x n)) ∧ ∃ m os, w' = grow (W.drewN m) os := by
  have HQ := Lib.hid (hq x n)
  have h7 : (0 : Int) ≤ (i : Int) := by omega
  have h8 : (i : Int) < (k : Int) := by omega
  clear hq
  go_enter Tryz.func201, Tryz.ntmps201
  go_wp2_with fail
  refine wp_region_still_tail 9 (by kernel_rfl) (by kernel_rfl) ?_
  simp only [List.take_succ_cons, List.take_zero, List.drop_succ_cons, List.drop_zero]
  change wpStill _ _ W.drew (fun a1 => wpList _ _ _ _ a1 W.drew) _ _
  repeat still_step
  refine wpStill_nil ?_
  go_wp2_with (go_at_fn f; refine (HQ.out _).mono ?_; rintro e w' ⟨rfl, rfl⟩)
  go_ret
  exact ⟨rfl, 1, #[rb x 86], by rw [← alloc_eq_grow]; rfl⟩
theorem el_range (L : List Rn) : L = (List.range L.length).map (el L) := by
  apply List.ext_getElem
  · simp
  · intro i h1 h2
    simp [el, List.getD, h1]
theorem countP_el (L : List Rn) (b : Rn → Bool) : (List.range L.length).countP (fun i => !!b (el L i)) = L.countP b := by
  conv => rhs; rw [el_range L, List.countP_map]
  simp [Function.comp]
  rfl
set_option maxHeartbeats 1000000 in
set_option maxRecDepth 100000 in
/-- the index of the first run that is no longer below n -/
theorem first_any (f : Nat) (b : Nat → Rn → Bool) (hq : ∀ (r : Rn) (n : Nat) (w : World), Calls Tryz.prog f #[rv r, .int .u64 n] w fun e w' => e = .returned (.bool (!b n r)) ∧ w' = w.alloc (rb r 86))
    (eg : ∀ args w, (callFunc f args).run Tryz.prog w = .ok (.enter f args) w) (p n : Nat) (v : Value) (L : List Rn) (w : World) (hs : St w p v L) (hm : L.Pairwise fun x y => b n y = true → b n x = true) :
    Calls Tryz.prog 143 #[.pointer (some ⟨p, 0, none⟩), .func (.func f) #[] #[], .int .u64 n] w fun e w' => e = .returned (.int .i64 (L.countP (b n) : Nat)) ∧ Below w.heap.size w w' := by
  obtain ⟨W0, hW0⟩ : ∃ W0, ((w.alloc (.cells #[.pointer (some ⟨p, 0, none⟩)] 135)).alloc (.cells #[.func (.func f) #[] #[]] 214)).alloc (.cells #[.int .u64 n] 37) = W0 := ⟨_, rfl⟩
  have hsz : W0.heap.size = w.heap.size + 3 := by rw [← hW0]; simp
  have hB : Below w.heap.size w W0 := by rw [← hW0]; exact below3 _ _ _ _
  have c1 : W0.cell? ⟨w.heap.size, 0, none⟩ = some (.pointer (some ⟨p, 0, none⟩)) := by
    rw [← hW0]; exact cell_alloc_sl _ (cell_alloc_sl _ (cell_new_sl w _ _))
  have c2 : W0.cell? ⟨w.heap.size + 1, 0, none⟩ = some (.func (.func f) #[] #[]) := by
    rw [← hW0]
    have := cell_alloc_sl (.cells #[.int .u64 n] 37) (cell_new_sl (w.alloc (.cells #[.pointer (some ⟨p, 0, none⟩)] 135)) (.func (.func f) #[] #[]) 214)
    rwa [World.size_alloc] at this
  have c3 : W0.cell? ⟨w.heap.size + 1 + 1, 0, none⟩ = some (.int .u64 n) := by
    rw [← hW0]
    have := cell_new_sl ((w.alloc (.cells #[.pointer (some ⟨p, 0, none⟩)] 135)).alloc (.cells #[.func (.func f) #[] #[]] 214)) (.int .u64 n) 37
    rwa [World.size_alloc, World.size_alloc] at this
  have hs0 := hs.kept (low_chg hB)
  have c4 := hs0.cell
  have hlen := hs.len
  obtain ⟨a, c, hv, hro, hlc, hc63, hnil, hbk⟩ := hs0.row.form
  obtain ⟨k, HK⟩ : ∃ k, Hid (L.length = k) := ⟨_, Lib.hid rfl⟩
  have hf : ∀ (m : Nat) (os : Array Obj) (i : Nat), i < L.length → Calls Tryz.prog 201 (#[.int .i64 i] ++ #[.pointer (some ⟨w.heap.size + 1, 0, none⟩), .pointer (some ⟨w.heap.size, 0, none⟩), .pointer (some ⟨w.heap.size + 1 + 1, 0, none⟩)]) (grow (W0.drewN m) os) fun e w' => e = .returned (.bool (!b n (el L i))) ∧ ∃ q os', w' = grow ((grow (W0.drewN m) os).drewN q) os' := by
    intro m os i hi
    obtain ⟨g, off, rfl, hg, hcl⟩ := hro.rn (by omega)
    obtain ⟨rfl, _, _, _, _⟩ := hbk _ _ _ rfl
    have hcl2 := hcl i hi
    rw [Nat.zero_add] at hcl2
    have gr : ∀ {a : Addr} {u : Value}, W0.cell? a = some u → (grow (W0.drewN m) os).cell? a = some u := fun {a u} h => cell_grown (World.block_lt_of_cell? _ _ h) h m os
    refine cl_any f (fun r n => !b n r) hq eg _ _ _ p g c n i L.length 0 (el L i) _ hi (gr c2) (gr c1) (gr c3) (gr (by rw [c4, hv])) (gr hcl2.1) (gr hcl2.2)
  have hS := Any.sort_Search searchA 201 #[.pointer (some ⟨w.heap.size + 1, 0, none⟩), .pointer (some ⟨w.heap.size, 0, none⟩), .pointer (some ⟨w.heap.size + 1 + 1, 0, none⟩)] L.length (fun i => !b n (el L i)) W0 (enters_of Tryz.func201 (by kernel_rfl) rfl) (by omega) hf (fun i j hij hj hb => by
    rcases Nat.lt_or_ge i j with hlt | hge
    · have h1 : i < L.length := by omega
      have := List.pairwise_iff_getElem.1 hm i j h1 hj hlt
      have e1 : el L i = L[i] := by simp [el, List.getD, h1]
      have e2 : el L j = L[j] := by simp [el, List.getD, hj]
      rw [e1] at hb
      rw [e2]
      cases h2 : b n L[j] with
      | false => rfl
      | true => rw [this h2] at hb; cases hb
    · rw [show j = i by omega]; exact hb)
  rw [countP_el] at hS
  change Calls Tryz.prog 200 _ _ _ at hS
  rw [HK.out] at hS hv hlc
  obtain ⟨N, HN⟩ : ∃ N, Hid (L.countP (b n) = N) := ⟨_, Lib.hid rfl⟩
  rw [HN.out] at hS ⊢
  have HS := Lib.hid hS
  subst hv
  have hc0 := hs.cell
  clear hS hf hbk hnil hs0 hro hq eg hm
  have HB := Lib.hid hB
  have HSZ := Lib.hid hsz
  have HW := Lib.hid hW0
  subst hW0
  clear hsz hB
  have hp := hs.own.lt
  go_enter Tryz.func143, Tryz.ntmps143
  go_wp2_with (go_at_call 200; refine HS.out.mono ?_; rintro e w' ⟨rfl, q, os, rfl⟩)
  go_ret
  exact ⟨rfl, HB.out.trans (below_grown_sl _ _ q os HB.out.size)⟩
theorem endsAbove_ix (p n : Nat) (v : Value) (L : List Rn) (w : World) (hs : St w p v L) : Calls Tryz.prog 143 #[.pointer (some ⟨p, 0, none⟩), .func (.func 144) #[] #[], .int .u64 n] w fun e w' => e = .returned (.int .i64 (L.countP (bEA n) : Nat)) ∧ Below w.heap.size w w' :=
  first_any 144 bEA (fun r n w => (endsAbove_any r n w).mono fun e w' ⟨he, hw⟩ => ⟨by rw [he]; refine ret_bool ?_; simp only [bEA]; by_cases h : r.2 ≤ n <;> simp [h] <;> omega, hw⟩) (enters_of Tryz.func144 (by kernel_rfl) rfl) p n v L w hs (hs.nf.mEA n)
theorem endsFrom_ix (p n : Nat) (v : Value) (L : List Rn) (w : World) (hs : St w p v L) : Calls Tryz.prog 143 #[.pointer (some ⟨p, 0, none⟩), .func (.func 151) #[] #[], .int .u64 n] w fun e w' => e = .returned (.int .i64 (L.countP (bEF n) : Nat)) ∧ Below w.heap.size w w' :=
  first_any 151 bEF (fun r n w => (endsFrom_any r n w).mono fun e w' ⟨he, hw⟩ => ⟨by rw [he]; refine ret_bool ?_; simp only [bEF]; by_cases h : r.2 < n <;> simp [h] <;> omega, hw⟩) (enters_of Tryz.func151 (by kernel_rfl) rfl) p n v L w hs (hs.nf.mEF n)
theorem beginsFrom_ix (p n : Nat) (v : Value) (L : List Rn) (w : World) (hs : St w p v L) : Calls Tryz.prog 143 #[.pointer (some ⟨p, 0, none⟩), .func (.func 145) #[] #[], .int .u64 n] w fun e w' => e = .returned (.int .i64 (L.countP (bBF n) : Nat)) ∧ Below w.heap.size w w' :=
  first_any 145 bBF (fun r n w => (beginsFrom_any r n w).mono fun e w' ⟨he, hw⟩ => ⟨by rw [he]; refine ret_bool ?_; simp only [bBF]; by_cases h : r.1 < n <;> simp [h] <;> omega, hw⟩) (enters_of Tryz.func145 (by kernel_rfl) rfl) p n v L w hs (hs.nf.mBF n)
theorem beginsAbove_ix (p n : Nat) (v : Value) (L : List Rn) (w : World) (hs : St w p v L) : Calls Tryz.prog 143 #[.pointer (some ⟨p, 0, none⟩), .func (.func 152) #[] #[], .int .u64 n] w fun e w' => e = .returned (.int .i64 (L.countP (bBA n) : Nat)) ∧ Below w.heap.size w w' :=
  first_any 152 bBA (fun r n w => (beginsAbove_any r n w).mono fun e w' ⟨he, hw⟩ => ⟨by rw [he]; refine ret_bool ?_; simp only [bBA]; by_cases h : r.1 ≤ n <;> simp [h] <;> omega, hw⟩) (enters_of Tryz.func152 (by kernel_rfl) rfl) p n v L w hs (hs.nf.mBA n)
end Go.Proofs.YtmpajlpemabniaaGreat
namespace Go.Proofs.YtmpajlpemabniaaGreat
open Go.RowKit Go.Shelf Go.Deep
set_option linter.unusedVariables false
set_option linter.unusedSimpArgs false
attribute [local go_sem] Oper.semAt_some

/-- a set, or none: the value sp; its blocks lie in FS -/
def SetV (w : World) (sp : Value) (FS : List Nat) (L : List Rn) : Prop :=
  (sp = .pointer none ∧ L = []) ∨ ∃ p v, sp = .pointer (some ⟨p, 0, none⟩) ∧ St w p v L ∧ p ∈ FS ∧ ∀ g, v.ownBlock = some g → g ∈ FS
/-- a run that has numbers -/
abbrev GR := {x : Rn // x.1 < x.2 ∧ Fit x}
def encG (x : GR) : Array Value := #[rv x.1]
def rvals (xs : List GR) : List Rn := xs.map (·.1)
theorem within_any (sp : Option Addr) (r : Rn) (w : World) : Calls Tryz.prog 199 #[.pointer sp, rv r] w fun e w' => e = .returned (.func (.func 232) #[] #[.pointer (some ⟨w.heap.size, 0, none⟩), .pointer (some ⟨w.heap.size + 1, 0, none⟩)]) ∧ w' = (w.alloc (.cells #[.pointer sp] 135)).alloc (rb r 86) := by
  go_enter Tryz.func199, Tryz.ntmps199
  go_wp2
  go_ret
  exact ⟨rfl, rfl⟩
theorem St.same {FS : List Nat} {a w : World} {p : Nat} {v : Value} {L : List Rn} (h : St a p v L) (hS : Same FS a w) (hp : p ∈ FS) (hg : ∀ g, v.ownBlock = some g → g ∈ FS) : St w p v L := by
  refine ⟨h.own.same hS hp, ⟨h.row.1, ?_⟩, h.nf, h.fit, h.len⟩
  rcases h.row.2 with hn | ⟨g, cap, cur, rfl, hb, hgg, rest⟩
  · exact .inl hn
  · exact .inr ⟨g, cap, cur, rfl, hb, (hS.2 g (hg g rfl)).trans hgg, rest⟩
theorem parts_pre {L : List Rn} (r : Rn) (i : Nat) : parts L r = parts (L.take i) r ++ parts (L.drop i) r := by rw [← parts_append, List.take_append_drop]
theorem take_el {L : List Rn} {i : Nat} (h : i < L.length) : L.take (i + 1) = L.take i ++ [el L i] := by
  rw [List.take_succ_eq_append_getElem h]
  simp [el, List.getD, h]
theorem drop_el {L : List Rn} {i : Nat} (h : i < L.length) : L.drop i = el L i :: L.drop (i + 1) := by
  rw [List.drop_eq_getElem_cons h]
  simp [el, List.getD, h]
theorem parts_step {L : List Rn} {i : Nat} (h : i < L.length) {r : Rn} (hm : (met (el L i) r).1 < (met (el L i) r).2) : parts (L.take (i + 1)) r = parts (L.take i) r ++ [met (el L i) r] := by
  rw [take_el h, parts_append, parts, if_pos hm, parts]
theorem parts_end {L : List Rn} (hN : NF L) {i : Nat} (h : i < L.length) {r : Rn} (hm : ¬ (met (el L i) r).1 < (met (el L i) r).2) (hx : r.1 < (el L i).2) : parts L r = parts (L.take i) r := by
  have hd := hN.drop i
  rw [drop_el h] at hd
  rw [parts_pre r i, drop_el h, parts_stop hd hm hx, List.append_nil]
theorem parts_len_lt {L : List Rn} {i : Nat} (h : i < L.length) {r : Rn} (hm : (met (el L i) r).1 < (met (el L i) r).2) : (parts (L.take i) r).length < (parts L r).length := by
  rw [parts_pre r i (L := L), drop_el h, parts, if_pos hm, List.length_append, List.length_cons]
  omega
theorem parts_pref {L : List Rn} {r : Rn} (i : Nat) : parts (L.take i) r <+: parts L r := ⟨_, (parts_pre r i).symm⟩
theorem met_fit {x r : Rn} (hx : Fit x) (hr : Fit r) : Fit (met x r) := by
  unfold Fit at *
  simp only [met]
  omega

set_option maxRecDepth 100000 in
set_option maxHeartbeats 2000000 in
theorem within_some (n p : Nat) (v : Value) (L : List Rn) (r : Rn) (bs br : Nat) (w : World) (FS : List Nat) (hs : St w p v L) (hp : p ∈ FS) (hg : ∀ g, v.ownBlock = some g → g ∈ FS) (hbs : Own w bs 135 [.pointer (some ⟨p, 0, none⟩)]) (hbr : Own w br 86 [.int .u64 (r.1 : Int), .int .u64 (r.2 : Int)]) (hbsF : bs ∈ FS) (hbrF : br ∈ FS) (hFS : ∀ k ∈ FS, k < w.heap.size) (hr : Fit r)
    (Kp : World → World → Prop) (hK : ∀ W W', Kp W W' → Same FS W W') :
    SeqStopsK Fence.wide n Tryz.prog 232 #[.pointer (some ⟨bs, 0, none⟩), .pointer (some ⟨br, 0, none⟩)] encG Kp (fun xs => rvals xs = parts L r) (fun pre => rvals pre <+: parts L r) (parts L r).length w := by
  intro l J Jx W hW hJ hJx hY h0
  have hsW := hs.kept (low_chg hW)
  have hbsW := hbs.below hW hbs.lt
  have hbrW := hbr.below hW hbr.lt
  have hFW : ∀ k ∈ FS, k < W.heap.size := fun k hk => Nat.lt_of_lt_of_le (hFS k hk) hW.size
  have HFW := Lib.hid hFW
  obtain ⟨a, c, rfl, hro, hlc, hc63, hnil, hbk⟩ := hsW.row.form
  have hlen := hs.len
  have hI : ∀ W1, Below W.heap.size W W1 → Calls Tryz.prog 143 #[.pointer (some ⟨p, 0, none⟩), .func (.func 144) #[] #[], .int .u64 r.1] W1 fun e w' => e = .returned (.int .i64 (L.countP (bEA r.1) : Nat)) ∧ Below W1.heap.size W1 w' := fun W1 h => endsAbove_ix p r.1 _ L W1 (hsW.kept (low_chg h))
  have hle : L.countP (bEA r.1) ≤ L.length := List.countP_le_length
  have hsp := split_at (hs.nf.mEA r.1)
  obtain ⟨i0, HI0⟩ : ∃ i0, Hid (L.countP (bEA r.1) = i0) := ⟨_, Lib.hid rfl⟩
  obtain ⟨k, HKl⟩ : ∃ k, Hid (L.length = k) := ⟨_, Lib.hid rfl⟩
  rw [HI0.out] at hle hsp
  simp only [HI0.out] at hI
  rw [HKl.out] at hle hlc hlen
  have c1 := hbsW.cell 0
  have c2 := hbrW.cell 0
  have c3 := hbrW.cell 1
  have c4 := hsW.cell
  simp at c1 c2 c3
  rw [HKl.out] at c4
  have HSP := Lib.hid hsp
  have HI := Lib.hid hI
  have hj1 : (0 : Int) ≤ (i0 : Int) := by omega
  have hj2 : (i0 : Int) ≤ (k : Int) := by omega
  have hci : (c = i0) = True ∨ (c = i0) = False := by by_cases h : c = i0 <;> simp [h]
  clear hI hsp hbsW hbrW hnil
  refine callsIn_of_wp Tryz.func232 rfl trivial ?_ rfl
  simp only [Tryz.ntmps232, List.size_toArray, List.length_cons, List.length_nil, Nat.reduceAdd, Nat.reduceSub, Array.replicate_succ, Array.replicate_zero, List.push_toArray, List.append_toArray, List.nil_append, List.cons_append]
  have hfull : i0 = k ∨ i0 < k := by omega
  rcases hfull with hfull | hfull
  case' inl =>
    have hci : (c = i0) = True ∨ (c = i0) = False := by by_cases h : c = i0 <;> simp [h]
    have hnone : parts L r = [] := parts_low fun x hx => by
      have := HSP.out.1 x (by rw [hfull, ← HKl.out, List.take_length]; exact hx)
      simpa [bEA] using this
    have HNN := Lib.hid hnone
    have hfull2 := hfull.symm
    clear hfull
    subst hfull2
    clear hnone
    rcases hci with hci | hci
    all_goals
      gi_wp2_with fail
      refine wpIn_wide.2 ?_
      go_region_held3 (fun w' => w'.cell? ⟨bs, 0, none⟩ = some (.pointer (some ⟨p, 0, none⟩)) ∧ w'.cell? ⟨br, 0, none⟩ = some (.int .u64 (r.1 : Int)) ∧ w'.cell? ⟨p, 0, none⟩ = some (.slice a k c) ∧ Below W.heap.size W w')
        (first
          | assumption
          | exact ⟨c1, c2, c4, (Below.refl _ _).drew⟩
          | (have hH := ‹World.cell? _ ⟨bs, 0, none⟩ = _ ∧ _›; exact ⟨(hb9.cell (World.block_lt_of_cell? _ _ hH.1)).trans hH.1, (hb9.cell (World.block_lt_of_cell? _ _ hH.2.1)).trans hH.2.1, (hb9.cell (World.block_lt_of_cell? _ _ hH.2.2.1)).trans hH.2.2.1, hH.2.2.2.trans (hb9.mono hH.2.2.2.size)⟩))
        (first
          | (go_at_call 143; have hH := ‹World.cell? _ ⟨bs, 0, none⟩ = _ ∧ _›; refine (HI.out _ hH.2.2.2).mono ?_; clear hH; rintro e w9 ⟨rfl, hb9⟩))
      have hH := ‹World.cell? w9 ⟨bs, 0, none⟩ = _ ∧ _›
      have hb1 := hH.2.2.2
      have hj9 := hJ _ _ _ _ h0 (Below.grow0 hb1) (fun r e => by cases e)
      clear hb9 hH
      gi_wp2_with fail
      refine wpIn_loop_rounds 1 ?_
      rw [roundsIn_succ]
      gi_wp2_with fail
      go_end0
      exact ⟨⟨_, rfl⟩, .inl ⟨[], by rw [HNN.out]; rfl, hj9⟩⟩
  case' inr =>
    have hci2 : (c = i0) = False := by simp; omega
    obtain ⟨g, off, rfl, hgl, hcells⟩ := hro.rn (by rw [HKl.out]; omega)
    obtain ⟨rfl, _, _, _, hob⟩ := hbk _ _ _ rfl
    have hgF := hg _ hob
    have HC := Lib.hid hcells
    have hbp := hsW.own.lt
    have HNF := Lib.hid hs.nf
    have HFT := Lib.hid hs.fit
    have HBS := Lib.hid (hbs.below hW hbs.lt)
    have HBR := Lib.hid (hbr.below hW hbr.lt)
    clear hcells hbk hro hci hbs hbr hs hg
    gi_wp2_with fail
    refine wpIn_wide.2 ?_
    go_region_held3 (fun w' => w'.cell? ⟨bs, 0, none⟩ = some (.pointer (some ⟨p, 0, none⟩)) ∧ w'.cell? ⟨br, 0, none⟩ = some (.int .u64 (r.1 : Int)) ∧ w'.cell? ⟨p, 0, none⟩ = some (.slice (some ⟨g, 0, none⟩) k c) ∧ Below W.heap.size W w')
      (first
        | assumption
        | exact ⟨c1, c2, c4, (Below.refl _ _).drew⟩
        | (have hH := ‹World.cell? _ ⟨bs, 0, none⟩ = _ ∧ _›; exact ⟨(hb9.cell (World.block_lt_of_cell? _ _ hH.1)).trans hH.1, (hb9.cell (World.block_lt_of_cell? _ _ hH.2.1)).trans hH.2.1, (hb9.cell (World.block_lt_of_cell? _ _ hH.2.2.1)).trans hH.2.2.1, hH.2.2.2.trans (hb9.mono hH.2.2.2.size)⟩))
      (first
        | (go_at_call 143; have hH := ‹World.cell? _ ⟨bs, 0, none⟩ = _ ∧ _›; refine (HI.out _ hH.2.2.2).mono ?_; clear hH; rintro e w9 ⟨rfl, hb9⟩))
    have hH := ‹World.cell? w9 ⟨bs, 0, none⟩ = _ ∧ _›
    have hb1 := hH.2.2.2
    have hj9 := hJ _ _ _ _ h0 (Below.grow0 hb1) (fun r e => by cases e)
    clear hb9 hH
    gi_wp2_with fail
    have hS9 : Same FS W w9 := Same.low hb1 HFW.out
    have HS9 := Lib.hid hS9
    have hWs := hb1.size
    clear c1 c2 c3 c4 h0 hS9 hb1
    gi_loopw [19] (fun i wr => ∃ (j : Nat) (pre : List GR), i = .int .i64 (j : Int) ∧ j ≤ k - i0 ∧ rvals pre = parts (L.take (i0 + j)) r ∧ J pre wr ∧ Same FS W wr) (fun i _ => k - i0 - (intOf i).toNat)
    case atStart =>
      refine ⟨0, [], rfl, Nat.zero_le _, ?_, hj9, HS9.out⟩
      rw [Nat.add_zero]
      exact (parts_low fun x hx => by have := HSP.out.1 x hx; simpa [bEA] using this).symm
    case round =>
      obtain ⟨j, pre, rfl, hj, hpre, hjj, hS⟩ := hrel
      by_cases hlt : j < k - i0
      · have hdt : decide (j < k - i0) = true := by simpa using hlt
        have hj0 : (0 : Int) ≤ (j : Int) := by omega
        have hj3 : (j : Int) < ((k - i0 : Nat) : Int) := by omega
        have hL : i0 + j < L.length := by rw [HKl.out]; omega
        have hcc := HC.out (i0 + j) hL
        have hx := el_mem hL
        have hxl : r.1 < (el L (i0 + j)).2 := by
          have : el L (i0 + j) ∈ L.drop i0 := by
            have e : el L (i0 + j) = (L.drop i0)[j]'(by rw [List.length_drop]; omega) := by simp [el, List.getD, hL]
            rw [e]; exact List.getElem_mem _
          have := HSP.out.2 _ this
          simp [bEA] at this
          exact this
        have hxf := fit_el HFT.out HNF.out _ hx
        have HEND := Lib.hid (fun hm => parts_end HNF.out hL (r := r) hm hxl)
        have HSTEP := Lib.hid (fun hm => parts_step hL (r := r) hm)
        have HLT := Lib.hid (fun hm => parts_len_lt hL (r := r) hm)
        generalize el L (i0 + j) = x at *
        have hx1 : wr.cell? ⟨g, i0 * 2 + j * 2, none⟩ = some (.int .u64 (x.1 : Int)) := by
          rw [World.cell?_of_block (w := W) (hS.2 g hgF), show i0 * 2 + j * 2 = 0 + (i0 + j) * 2 by omega]; exact hcc.1
        have hx2 : wr.cell? ⟨g, i0 * 2 + j * 2 + 1, none⟩ = some (.int .u64 (x.2 : Int)) := by
          rw [World.cell?_of_block (w := W) (hS.2 g hgF), show i0 * 2 + j * 2 + 1 = 0 + (i0 + j) * 2 + 1 by omega]; exact hcc.2
        have hr1 := (HBR.out.same hS hbrF).cell 0
        have hr2 := (HBR.out.same hS hbrF).cell 1
        simp at hr1 hr2
        have hbrl := (HBR.out.same hS hbrF).lt
        have HM := Lib.hid (fun W => met_any x r W)
        have hyf := met_fit hxf hr
        generalize met x r = y at HM HEND HSTEP HLT hyf
        clear hcc hx hxl
        gi_wp2_with fail
        refine ⟨trivial, (fun h => by cases h), ?_⟩
        refine (callsIn_wide.2 (HM.out _)).mono ?_
        rintro e w2 ⟨rfl, hb2⟩
        have hb2' : Below wr.heap.size wr w2 := ((Below.refl _ wr).alloc (Nat.le_refl _) _).trans (hb2.mono (by simp))
        have hb4 : Below wr.heap.size wr ((w2.alloc (rb y 86)).alloc (rb y 86)) := (hb2'.alloc hb2'.size _).alloc (by simp; have := hb2'.size; omega) _
        have hj4 := hJ _ _ _ _ hjj (Below.grow0 hb4) (fun r e => by cases e)
        have hS4 := hS.trans (Same.low hb4 (fun k hk => Nat.lt_of_lt_of_le (HFW.out k hk) hS.1))
        have hpl : (rvals pre).length = pre.length := by simp [rvals]
        clear hb2 hb2' hx1 hx2 hr1 hr2 hb4
        gi_wp2_with fail
        refine ⟨trivial, (fun h => by cases h), ?_⟩
        refine (callsIn_wide.2 (empty_any y _)).mono ?_
        rintro e w4 ⟨rfl, rfl⟩
        by_cases hyn : y.1 < y.2
        · have hd : decide (y.2 ≤ y.1) = false := by simp; omega
          obtain ⟨fn, tmps, assign, body, hyy, hR⟩ := hY pre ⟨y, hyn, hyf⟩ _ hj4 (by have := HLT.out hyn; rw [← hpre, hpl] at this; exact this)
          dsimp only [encG] at hyy
          have HYN := Lib.hid hyn
          have hpost : rvals (pre ++ [⟨y, hyn, hyf⟩]) = parts (L.take (i0 + (j + 1))) r := by
            rw [← Nat.add_assoc, HSTEP.out hyn, ← hpre]; simp [rvals]
          have HPO := Lib.hid hpost
          generalize (⟨y, hyn, hyf⟩ : GR) = yg at hR HPO
          clear hpost hyn
          gi_wp2_with fail
          refine ⟨(fun h => by cases h), (roundIn_any hR).mono ?_⟩
          rintro e W5 (⟨rfl, hj5, hk5⟩ | ⟨rfl, hjx5⟩)
          · gi_wp2_with fail
            go_roundw
            case rel => exact ⟨j + 1, pre ++ [yg], by go_num, by omega, HPO.out, hj5, hS4.trans (hK _ _ hk5)⟩
            case measure => simp [intOf]; omega
          · gi_wp2_with fail
            refine bodyPost_ret (results_none rfl _ _ _) rfl ?_
            exact ⟨⟨_, rfl⟩, .inr ⟨pre ++ [yg], by rw [HPO.out]; exact parts_pref _, hjx5⟩⟩
        · have hd : decide (y.2 ≤ y.1) = true := by simp; omega
          have HE := Lib.hid (HEND.out hyn)
          clear hyn
          gi_wp2_with fail
          refine ⟨fun _ h => (by cases h), ?_⟩
          gi_wp2_with fail
          refine bodyPost_ret (results_none rfl _ _ _) rfl ?_
          exact ⟨⟨_, rfl⟩, .inl ⟨pre, by rw [hpre, HE.out], hj4⟩⟩
      · have hdt : decide (j < k - i0) = false := by simpa using hlt
        have hend : i0 + j = k := by omega
        have HE := Lib.hid hend
        clear hend
        gi_wp2_with fail
        go_end0
        exact ⟨⟨_, rfl⟩, .inl ⟨pre, by rw [hpre, HE.out, ← HKl.out, List.take_length], hjj⟩⟩
theorem within_none (n : Nat) (r : Rn) (bs br : Nat) (w : World) (hbs : Own w bs 135 [.pointer none]) (Kp : World → World → Prop) :
    SeqStopsK Fence.wide n Tryz.prog 232 #[.pointer (some ⟨bs, 0, none⟩), .pointer (some ⟨br, 0, none⟩)] encG Kp (fun xs => rvals xs = parts [] r) (fun pre => rvals pre <+: parts [] r) (parts [] r).length w := by
  intro l J Jx W hW hJ hJx hY h0
  have c1 := (hbs.below hW hbs.lt).cell 0
  simp at c1
  refine callsIn_of_wp Tryz.func232 rfl trivial ?_ rfl
  simp only [Tryz.ntmps232, List.size_toArray, List.length_cons, List.length_nil, Nat.reduceAdd, Nat.reduceSub, Array.replicate_succ, Array.replicate_zero, List.push_toArray, List.append_toArray, List.nil_append, List.cons_append]
  gi_wp2_with fail
  refine bodyPost_ret (results_none rfl _ _ _) rfl ?_
  exact ⟨⟨_, rfl⟩, .inl ⟨[], rfl, h0⟩⟩
/-- the iterator's contract, whole: behind a call of within -/
theorem within_stops (n : Nat) (sp : Option Addr) (L : List Rn) (r : Rn) (bs br : Nat) (w : World) (FS : List Nat) (hs : SetV w (.pointer sp) FS L) (hbs : Own w bs 135 [.pointer sp]) (hbr : Own w br 86 [.int .u64 (r.1 : Int), .int .u64 (r.2 : Int)]) (hFS : ∀ k ∈ FS, k < w.heap.size) (hr : Fit r)
    (Kp : World → World → Prop) (hK : ∀ W W', Kp W W' → Same (bs :: br :: FS) W W') :
    SeqStopsK Fence.wide n Tryz.prog 232 #[.pointer (some ⟨bs, 0, none⟩), .pointer (some ⟨br, 0, none⟩)] encG Kp (fun xs => rvals xs = parts L r) (fun pre => rvals pre <+: parts L r) (parts L r).length w := by
  rcases hs with ⟨h, rfl⟩ | ⟨p, v, h, hst, hp, hg⟩
  · injection h with h
    subst h
    exact within_none n r bs br w hbs Kp
  · injection h with h
    subst h
    refine within_some n p v L r bs br w (bs :: br :: FS) hst (by simp [hp]) (fun g h => by simp [hg g h]) hbs hbr (by simp) (by simp) (fun k hk => ?_) hr Kp hK
    simp only [List.mem_cons] at hk
    rcases hk with rfl | rfl | hk
    · exact hbs.lt
    · exact hbr.lt
    · exact hFS k hk
end Go.Proofs.YtmpajlpemabniaaGreat
namespace Go.Proofs.YtmpajlpemabniaaGreat
open Go.RowKit Go.Shelf Go.Deep
set_option linter.unusedVariables false
set_option linter.unusedSimpArgs false
attribute [local go_sem] Oper.semAt_some

theorem below_row {B n₀ : Nat} {w X Y : World} {row : Option Nat} (hb : Below n₀ w X) (hg : X.grownBy Y row) (hr : ∀ r, row = some r → B ≤ r ∧ ∃ o : Obj, X.heap[r]? = some o ∧ o.isCells = false) (hn : n₀ ≤ B) (hX : n₀ ≤ w.heap.size) : Below n₀ w Y :=
  hb.grown hg (Nat.le_trans hX hb.size) fun k e => Nat.le_trans hn (hr k e).1
theorem same_keeps {FS : List Nat} {a b : World} (h : Below a.heap.size a b) (hF : ∀ k ∈ FS, k < a.heap.size) : Same FS a b := Same.low h hF
theorem same_set {FS : List Nat} {b : Nat} (hb : b ∉ FS) (w : World) (u : Value) : Same FS w (w.setCell ⟨b, 0, none⟩ u) :=
  ⟨by rw [set_size]; exact Nat.le_refl _, fun k hk => Below.heap_setCell w ⟨b, 0, none⟩ u k (fun e => hb (by rw [show b = k from e.symm]; exact hk))⟩
/-- the cell in which a count runs, wrapped -/
def cntW (xs : List GR) : Int := ((cnt (rvals xs) % 18446744073709551616 : Nat) : Int)
theorem cnt_append (A B : List Rn) : cnt (A ++ B) = cnt A + cnt B := by
  induction A with
  | nil => simp [cnt]
  | cons r A ih => simp [cnt, ih]; omega
theorem cntW_snoc (xs : List GR) (x : GR) : IntKind.u64.wrap (cntW xs + ((x.1.2 - x.1.1 : Nat) : Int)) = cntW (xs ++ [x]) := by
  have e : rvals (xs ++ [x]) = rvals xs ++ [x.1] := by simp [rvals]
  unfold cntW
  rw [e, cnt_append, IntKind.wrap_u64]
  simp only [cnt]
  omega
theorem lay4 (w : World) (a b c d : Obj) : Below w.heap.size w ((((w.alloc a).alloc b).alloc c).alloc d) := (below3 w a b c).alloc (by simp; omega) _
theorem SetV.kept {w w' : World} {sp : Value} {FS : List Nat} {L : List Rn} (h : SetV w sp FS L) (hb : Chg [] w w') : SetV w' sp FS L := by
  rcases h with h | ⟨p, v, h1, h2, h3, h4⟩
  · exact .inl h
  · exact .inr ⟨p, v, h1, h2.kept hb, h3, h4⟩

set_option maxRecDepth 100000 in
set_option maxHeartbeats 2000000 in
theorem count_any (sp : Option Addr) (L : List Rn) (r : Rn) (w : World) (FS : List Nat) (hs : SetV w (.pointer sp) FS L) (hFS : ∀ k ∈ FS, k < w.heap.size) (hr : Fit r) (hc : cnt (parts L r) < 18446744073709551616) :
    Calls Tryz.prog 142 #[.pointer sp, rv r] w fun e w' => e = .returned (.int .u64 ((cnt (parts L r) : Nat) : Int)) ∧ Below w.heap.size w w' := by
  refine (callsIn_wide (n := 5)).1 ?_
  refine callsIn_of_wp_marks Tryz.func142 rfl trivial ?_ rfl
  simp only [Tryz.ntmps142, List.size_toArray, List.length_cons, List.length_nil, Nat.reduceAdd, Nat.reduceSub, Array.replicate_succ, Array.replicate_zero, List.push_toArray, List.append_toArray, List.nil_append, List.cons_append]
  gi_wp2_with fail
  refine ⟨trivial, ?_⟩
  refine (callsIn_wide.2 (within_any sp r _)).mono ?_
  rintro e w1 ⟨rfl, rfl⟩
  gi_wp2_with fail
  obtain ⟨W0, hW0⟩ : ∃ W0, ((((w.alloc (rb r 86)).alloc (.cells #[.int .u64 0] 37)).alloc (.cells #[.pointer sp] 135)).alloc (rb r 86)) = W0 := ⟨_, rfl⟩
  have hs0 : W0.heap.size = w.heap.size + 4 := by rw [← hW0]; simp
  have hB0 : Below w.heap.size w W0 := by rw [← hW0]; exact lay4 _ _ _ _ _
  have hoN : Own W0 (w.heap.size + 1) 37 [.int .u64 0] := by
    rw [← hW0]
    have := ((Own.new (w.alloc (rb r 86)) 37 [.int .u64 0]).alloc (.cells #[.pointer sp] 135)).alloc (rb r 86)
    rwa [World.size_alloc] at this
  have hobs : Own W0 (w.heap.size + 1 + 1) 135 [.pointer sp] := by
    rw [← hW0]
    have := (Own.new ((w.alloc (rb r 86)).alloc (.cells #[.int .u64 0] 37)) 135 [.pointer sp]).alloc (rb r 86)
    rwa [World.size_alloc, World.size_alloc] at this
  have hobr : Own W0 (w.heap.size + 1 + 1 + 1) 86 [.int .u64 (r.1 : Int), .int .u64 (r.2 : Int)] := by
    rw [← hW0]
    have := Own.new (((w.alloc (rb r 86)).alloc (.cells #[.int .u64 0] 37)).alloc (.cells #[.pointer sp] 135)) 86 [.int .u64 (r.1 : Int), .int .u64 (r.2 : Int)]
    rwa [World.size_alloc, World.size_alloc, World.size_alloc] at this
  have hW0' : ((((w.alloc (.cells #[.int .u64 (r.1 : Int), .int .u64 (r.2 : Int)] 86)).alloc (.cells #[.int .u64 0] 37)).alloc (.cells #[.pointer sp] 135)).alloc (.cells #[.int .u64 (r.1 : Int), .int .u64 (r.2 : Int)] 86)) = W0 := hW0
  rw [hW0']
  clear hW0 hW0'
  have HS0 := Lib.hid hs0
  have hFB : ∀ k ∈ (w.heap.size + 1 + 1) :: (w.heap.size + 1 + 1 + 1) :: FS, k < W0.heap.size := by
    intro k hk
    simp only [List.mem_cons] at hk
    rcases hk with rfl | rfl | hk
    · omega
    · omega
    · have := hFS k hk; omega
  have hnm : w.heap.size + 1 ∉ (w.heap.size + 1 + 1) :: (w.heap.size + 1 + 1 + 1) :: FS := by
    intro hk
    simp only [List.mem_cons] at hk
    rcases hk with hk | hk | hk
    · omega
    · omega
    · have := hFS _ hk; omega
  have hseq := within_stops 4 sp L r (w.heap.size + 1 + 1) (w.heap.size + 1 + 1 + 1) W0 FS (hs.kept (low_chg hB0)) hobs hobr (fun k hk => hFB k (by simp [hk])) hr (Same ((w.heap.size + 1 + 1) :: (w.heap.size + 1 + 1 + 1) :: FS)) (fun _ _ h => h)
  have HSEQ := Lib.hid hseq
  have HFB := Lib.hid hFB
  clear hseq hs hFS hs0 hFB
  refine wpIn_rangeFunc_ownH rfl (by omega) (gf := 232) (lb := #[.pointer (some ⟨w.heap.size + 1 + 1, 0, none⟩), .pointer (some ⟨w.heap.size + 1 + 1 + 1, 0, none⟩)]) rfl trivial (enters_of Tryz.func232 (by kernel_rfl) rfl) HSEQ.out
    (fun h k => h.trans k) (same_put HFB.out) (Below.refl _ _) (fun _ => rfl)
    (fun xs W => Own W (w.heap.size + 1) 37 [.int .u64 (cntW xs)] ∧ Below w.heap.size w W ∧ W0.heap.size ≤ W.heap.size) (fun _ _ _ => False) ?hI ?hIx ?h0
    (fun x a' W => ∃ B2, a' = { tmps := #[.pointer sp, rv r, undef, .pointer (some ⟨w.heap.size, 0, none⟩), .int .u64 0, .pointer (some ⟨w.heap.size + 1, 0, none⟩), .pointer (some ⟨B2, 0, none⟩), .pointer sp, rv r, .func (.func 232) #[] #[.pointer (some ⟨w.heap.size + 1 + 1, 0, none⟩), .pointer (some ⟨w.heap.size + 1 + 1 + 1, 0, none⟩)], rv x.1, undef, undef, undef, undef, undef], defers := [] } ∧ w.heap.size + 1 < B2 ∧ Own W B2 86 [.int .u64 (x.1.1 : Int), .int .u64 (x.1.2 : Int)]) ?hAx ?assign ?body ?done ?stop
  case hI =>
    rintro xs X Y row ⟨h1, h2, h4⟩ hg hr
    exact ⟨own_kept h1 hg (fun r e => (hr r e).2), below_row h2 hg hr (by have := HS0.out; omega) (Nat.le_refl _), Nat.le_trans h4 hg.size⟩
  case hIx => exact fun _ _ _ _ _ h _ _ => h.elim
  case h0 => exact ⟨hoN, hB0, Nat.le_refl _⟩
  case hAx =>
    rintro x a' _ X Y row ⟨B2, h1, h2, h3⟩ hg hr
    exact ⟨B2, h1, h2, own_kept h3 hg (fun r e => (hr r e).2)⟩
  case assign =>
    rintro l pre x W K ⟨h1, h2, h4⟩ hK
    unfold encG
    obtain ⟨⟨x1, x2⟩, hx⟩ := x
    have HK := Lib.hid hK
    clear hK
    gi_wp2_with fail
    have hlt := h1.lt
    exact HK.out _ _ ((KeepsOthers.alloc _ _).from _) (Same.low ((Below.refl _ W).alloc (Nat.le_refl _) _) (fun k hk => Nat.lt_of_lt_of_le (HFB.out k hk) h4)) ⟨h1.alloc _, h2.alloc h2.size _, by simp; omega⟩ ⟨_, rfl, by have := HS0.out; omega, Own.new W _ [.int .u64 (x1 : Int), .int .u64 (x2 : Int)]⟩
  case body =>
    rintro l pre x a' W hl hlr ⟨h1, h2, h4⟩ ⟨B2, rfl, hB2, h3⟩ hlt
    have HLN := Lib.hid (fun W => length_any x.1 x.2.2 (Nat.le_of_lt x.2.1) W)
    have HSN := Lib.hid (cntW_snoc pre x)
    have hx1 := h3.cell 0
    have hx2 := h3.cell 1
    have hn1 := h1.cell 0
    have hf1 := h1.frozen 0
    simp at hx1 hx2 hn1
    obtain ⟨⟨x1, x2⟩, hx⟩ := x
    dsimp only at hx1 hx2 HLN HSN h3
    obtain ⟨d, HD⟩ : ∃ d, Hid (x2 - x1 = d) := ⟨_, Lib.hid rfl⟩
    rw [HD.out] at HLN HSN
    obtain ⟨s0, HS1⟩ : ∃ s0, Hid (cntW pre = s0) := ⟨_, Lib.hid rfl⟩
    rw [HS1.out] at hn1 HSN
    have hN := h1.lt
    have hmx : Tryz.prog.follows .mixedOrders = true := by kernel_rfl
    gi_wp2_with fail
    gi_region_with_o (refine ⟨trivial, ?_⟩; gi_at_call 150; refine (CallsIn.inRound l (callsIn_wide.2 (HLN.out _))).mono ?_; rintro e w7 ⟨rfl, hb7⟩; have hn7 := (hb7.cell (p := ⟨w.heap.size + 1, 0, none⟩) hN).trans hn1; have hf7 := (hb7.frozen (p := ⟨w.heap.size + 1, 0, none⟩) hN).trans hf1)
    all_goals
      have hb : Below W.heap.size W w7 := (Below.refl _ W).drew.trans hb7
      refine ⟨(keepsFrom_below hb).trans ((KeepsOthers.setCell _ _ _).from _), (Same.low hb (fun k hk => Nat.lt_of_lt_of_le (HFB.out k hk) h4)).trans (same_set hnm _ _), ?_, (h2.trans (hb.mono h2.size)).setCell (p := ⟨w.heap.size + 1, 0, none⟩) (by simp) _, by rw [set_size]; exact Nat.le_trans h4 hb.size⟩
      rw [HSN.out]
      exact (h1.below hb hN).set 0 _
  case done =>
    rintro D xs W hD hS ⟨h1, h2, h4⟩ hK
    have hn1 := h1.cell 0
    simp at hn1
    have hx : cntW xs = ((cnt (parts L r) : Nat) : Int) := by unfold cntW; rw [hS]; omega
    rw [hx] at hn1
    have HX := Lib.hid hx
    clear hx
    gi_wp2_with fail
    refine ⟨by simp, .inl ⟨_, _, rfl, run_takeDeferred hK, ?_⟩⟩
    exact ⟨_, results_tmp rfl _ _ _, rfl, h2.grown (grownBy_putObj' W D (.deferred none)) h2.size (fun k e => by cases e; have := HS0.out; omega)⟩
  case stop => exact fun D c pre W _ _ h _ => h.elim
end Go.Proofs.YtmpajlpemabniaaGreat
