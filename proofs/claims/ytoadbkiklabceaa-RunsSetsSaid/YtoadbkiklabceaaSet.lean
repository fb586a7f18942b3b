/-
  What a set is in memory; what a call keeps. Contract of first (package runs): the library's sort.Search. No claim of its own.
-/
import Derived.Test.YtoadbkiklabceaaRepC
import Derived.Test.YtoadbkiklabceaaShelf
import Derived.StillTailTactics
import Derived.Shelf.RegionOpen
import Derived.Shelf.Abstract
namespace Go.Proofs.Ytoadbkiklabceaa
open Go.RowKit Go.Deep Go.Sort
set_option linter.unusedVariables false
set_option linter.unusedSimpArgs false

/-- only the blocks that are named, and what is new, has turned -/
structure Chg (l : List Nat) (a w : World) : Prop where
  os : w.os = a.os
  tape : w.tape = a.tape
  output : w.output = a.output
  size : a.heap.size ≤ w.heap.size
  block : ∀ k, k < a.heap.size → k ∉ l → w.heap[k]? = a.heap[k]?
theorem Chg.refl (l : List Nat) (a : World) : Chg l a a := ⟨rfl, rfl, rfl, Nat.le_refl _, fun _ _ _ => rfl⟩
theorem Chg.then {l l' : List Nat} {a b c : World} (h : Chg l a b) (k : Chg l' b c) (hs : ∀ x ∈ l', x ∈ l ∨ a.heap.size ≤ x) : Chg l a c :=
  ⟨k.os.trans h.os, k.tape.trans h.tape, k.output.trans h.output, Nat.le_trans h.size k.size, fun i hi hn => (k.block i (Nat.lt_of_lt_of_le hi h.size) (fun hm => by rcases hs i hm with h1 | h1; exact hn h1; omega)).trans (h.block i hi hn)⟩
theorem Chg.mono {l l' : List Nat} {a b : World} (h : Chg l a b) (hs : ∀ x ∈ l, x ∈ l' ∨ a.heap.size ≤ x) : Chg l' a b :=
  ⟨h.os, h.tape, h.output, h.size, fun k hk hn => h.block k hk (fun hm => by rcases hs k hm with h1 | h1; exact hn h1; omega)⟩
theorem Chg.drew {l : List Nat} {a b : World} (h : Chg l a b) : Chg l a b.drew := ⟨h.os, h.tape, h.output, h.size, h.block⟩
theorem Chg.qt {l : List Nat} {a b c : World} (h : Chg l a b) (k : Qt b c) : Chg l a c := by obtain ⟨n, rfl⟩ := k; exact ⟨h.os, h.tape, h.output, h.size, h.block⟩
theorem Chg.alloc {l : List Nat} {a b : World} (h : Chg l a b) (o : Obj) : Chg l a (b.alloc o) :=
  ⟨h.os, h.tape, h.output, by simp; have := h.size; omega, fun k hk hn => (Below.heap_alloc b o k (by have := h.size; omega)).trans (h.block k hk hn)⟩
theorem Chg.setCell {l : List Nat} {a w : World} (h : Chg l a w) {p : Addr} (hb : p.block ∈ l ∨ a.heap.size ≤ p.block) (v : Value) : Chg l a (w.setCell p v) := by
  refine ⟨h.os, h.tape, h.output, by rw [set_size]; exact h.size, fun k hk hn => (Below.heap_setCell w p v k (fun e => ?_)).trans (h.block k hk hn)⟩
  subst e
  rcases hb with hb | hb
  · exact hn hb
  · omega
theorem Chg.grown {l : List Nat} {a w w' : World} (h : Chg l a w) {row : Option Nat} (hg : w.grownBy w' row) (hr : ∀ k, row = some k → k ∈ l ∨ a.heap.size ≤ k) : Chg l a w' :=
  ⟨hg.os.trans h.os, hg.tape.trans h.tape, hg.output.trans h.output, Nat.le_trans h.size hg.size, fun k hk hn => (hg.block k (by have := h.size; omega) (fun e => by
    rcases hr k e.symm with h1 | h1
    · exact hn h1
    · omega)).trans (h.block k hk hn)⟩
theorem Chg.of_below {l : List Nat} {a w w' : World} (h : Chg l a w) (hb : Below w.heap.size w w') : Chg l a w' :=
  ⟨hb.os.trans h.os, hb.tape.trans h.tape, hb.output.trans h.output, Nat.le_trans h.size hb.size, fun k hk hn => (hb.block k (by have := h.size; omega)).trans (h.block k hk hn)⟩
theorem Chg.below {l : List Nat} {a w : World} (h : Chg l a w) {B : Nat} (hB : B ≤ a.heap.size) (hl : ∀ x ∈ l, B ≤ x) : Below B a w :=
  ⟨h.os, h.tape, h.output, h.size, fun k hk => h.block k (by omega) (fun hm => by have := hl k hm; omega)⟩
theorem Chg.low {a w : World} (h : Chg [] a w) : Below a.heap.size a w := h.below (Nat.le_refl _) (by simp)
theorem low_chg {a w : World} (h : Below a.heap.size a w) : Chg [] a w := (Chg.refl [] a).of_below h
theorem below_chg {l : List Nat} {a w w' : World} {B : Nat} (hb : Below B a w) (h : Chg l w w') (hB : B ≤ w.heap.size) (hl : ∀ x ∈ l, B ≤ x) : Below B a w' := hb.trans (h.below hB hl)
theorem Own.chg {l : List Nat} {a w : World} {g : Nat} {t : TypeId} {cs : List Value} (ho : Own a g t cs) (h : Chg l a w) (hg : g ∉ l) : Own w g t cs := (h.block g ho.lt hg).trans ho
theorem Lr.chg {l : List Nat} {a w : World} {base : Nat} {e : TypeId} {v : Value} {L : List Rn} (h : Lr a base e v L) (hc : Chg l a w) (hg : ∀ g, v.ownBlock = some g → g ∉ l) : Lr w base e v L := by
  refine ⟨h.1, ?_⟩
  rcases h.2 with hn | ⟨g, cap, cur, rfl, hb, hgg, rest⟩
  · exact .inl hn
  · exact .inr ⟨g, cap, cur, rfl, hb, (hc.block g (Array.getElem?_eq_some_iff.1 hgg).1 (hg g rfl)).trans hgg, rest⟩

/-- the greatest end -/
def top64 : Nat := 18446744073709551615
/-- a set: its struct in block p, whose slice is v; its runs are L -/
structure St (w : World) (p : Nat) (v : Value) (L : List Rn) : Prop where
  own : Own w p 61 [v]
  row : Lr w 0 28 v L
  nf : NF L
  fit : ∀ r ∈ L, r.2 ≤ top64
  len : L.length ≤ 1000000
theorem St.apart {w : World} {p : Nat} {v : Value} {L : List Rn} (h : St w p v L) : v.ownBlock ≠ some p := by
  intro e
  rcases h.row.2 with ⟨hn, _⟩ | ⟨g, cap, cur, hv, hb, hgg, rest⟩
  · subst hn; cases e
  · subst hv
    have e2 : g = p := by simpa [Value.ownBlock] using e
    subst e2
    have := h.own
    unfold Own at this
    rw [hgg] at this
    simp at this
theorem St.chg {l : List Nat} {a w : World} {p : Nat} {v : Value} {L : List Rn} (h : St a p v L) (hc : Chg l a w) (hp : p ∉ l) (hg : ∀ g, v.ownBlock = some g → g ∉ l) : St w p v L :=
  ⟨h.own.chg hc hp, h.row.chg hc hg, h.nf, h.fit, h.len⟩
theorem St.kept {a w : World} {p : Nat} {v : Value} {L : List Rn} (h : St a p v L) (hc : Chg [] a w) : St w p v L := h.chg hc (by simp) (by simp)
theorem St.cell {w : World} {p : Nat} {v : Value} {L : List Rn} (h : St w p v L) : w.cell? ⟨p, 0, none⟩ = some v := by have := h.own.cell 0; simpa using this
theorem fit_el {L : List Rn} (h : ∀ r ∈ L, r.2 ≤ top64) (hn : NF L) : ∀ r ∈ L, Fit r := fun r hr => by
  have h1 := h r hr
  have h2 := hn.nonempty r hr
  unfold top64 at h1
  unfold Fit
  omega

/-! first -/
set_option maxHeartbeats 1000000 in
set_option maxRecDepth 100000 in
theorem cl_any (f : Nat) (q : Rn → Nat → Bool) (hq : ∀ (r : Rn) (n : Nat) (w : World), Calls Try.prog f #[rv r, .int .u64 n] w fun e w' => e = .returned (.bool (q r n)) ∧ w' = w.alloc (rb r 28))
    (eg : ∀ args w, (callFunc f args).run Try.prog w = .ok (.enter f args) w) (bi bs bn p g c n i k off : Nat) (x : Rn) (W : World) (hi : i < k)
    (h1 : W.cell? ⟨bi, 0, none⟩ = some (.func (.func f) #[] #[])) (h2 : W.cell? ⟨bs, 0, none⟩ = some (.pointer (some ⟨p, 0, none⟩))) (h3 : W.cell? ⟨bn, 0, none⟩ = some (.int .u64 n))
    (h4 : W.cell? ⟨p, 0, none⟩ = some (.slice (some ⟨g, 0, none⟩) k c)) (h5 : W.cell? ⟨g, i * 2, none⟩ = some (.int .u64 (x.1 : Int))) (h6 : W.cell? ⟨g, i * 2 + 1, none⟩ = some (.int .u64 (x.2 : Int))) :
    Calls Try.prog 53 #[.int .i64 i, .pointer (some ⟨bi, 0, none⟩), .pointer (some ⟨bs, 0, none⟩), .pointer (some ⟨bn, 0, none⟩)] W fun e w' => e = .returned (.bool (q x n)) ∧ ∃ m os, w' = grow (W.drewN m) os := by
  have HQ := Lib.hid (hq x n)
  have h7 : (0 : Int) ≤ (i : Int) := by omega
  have h8 : (i : Int) < (k : Int) := by omega
  clear hq
  go_enter Try.func53, Try.ntmps53
  go_wp2_with fail
  refine wp_region_still_tail 9 (by kernel_rfl) (by kernel_rfl) ?_
  simp only [List.take_succ_cons, List.take_zero, List.drop_succ_cons, List.drop_zero]
  change wpStill _ _ W.drew (fun a1 => wpList _ _ _ _ a1 W.drew) _ _
  repeat still_step
  refine wpStill_nil ?_
  go_wp2_with (go_at_fn f; refine (HQ.out _).mono ?_; rintro e w' ⟨rfl, rfl⟩)
  go_ret
  exact ⟨rfl, 1, #[rb x 28], by rw [← alloc_eq_grow]; rfl⟩
theorem el_range (L : List Rn) : L = (List.range L.length).map (el L) := by
  apply List.ext_getElem
  · simp
  · intro i h1 h2
    simp [el, List.getD, h1]
theorem countP_el (L : List Rn) (b : Rn → Bool) : (List.range L.length).countP (fun i => !!b (el L i)) = L.countP b := by
  conv => rhs; rw [el_range L, List.countP_map]
  simp [Function.comp]
  rfl
set_option maxHeartbeats 1000000 in
set_option maxRecDepth 100000 in
/-- the index of the first run that is no longer below n -/
theorem first_any (f : Nat) (b : Nat → Rn → Bool) (hq : ∀ (r : Rn) (n : Nat) (w : World), Calls Try.prog f #[rv r, .int .u64 n] w fun e w' => e = .returned (.bool (!b n r)) ∧ w' = w.alloc (rb r 28))
    (eg : ∀ args w, (callFunc f args).run Try.prog w = .ok (.enter f args) w) (p n : Nat) (v : Value) (L : List Rn) (w : World) (hs : St w p v L) (hm : L.Pairwise fun x y => b n y = true → b n x = true) :
    Calls Try.prog 37 #[.pointer (some ⟨p, 0, none⟩), .func (.func f) #[] #[], .int .u64 n] w fun e w' => e = .returned (.int .i64 (L.countP (b n) : Nat)) ∧ Below w.heap.size w w' := by
  obtain ⟨W0, hW0⟩ : ∃ W0, ((w.alloc (.cells #[.pointer (some ⟨p, 0, none⟩)] 24)).alloc (.cells #[.func (.func f) #[] #[]] 64)).alloc (.cells #[.int .u64 n] 23) = W0 := ⟨_, rfl⟩
  have hsz : W0.heap.size = w.heap.size + 3 := by rw [← hW0]; simp
  have hB : Below w.heap.size w W0 := by rw [← hW0]; exact below3 _ _ _ _
  have c1 : W0.cell? ⟨w.heap.size, 0, none⟩ = some (.pointer (some ⟨p, 0, none⟩)) := by
    rw [← hW0]; exact cell_alloc_sl _ (cell_alloc_sl _ (cell_new_sl w _ _))
  have c2 : W0.cell? ⟨w.heap.size + 1, 0, none⟩ = some (.func (.func f) #[] #[]) := by
    rw [← hW0]
    have := cell_alloc_sl (.cells #[.int .u64 n] 23) (cell_new_sl (w.alloc (.cells #[.pointer (some ⟨p, 0, none⟩)] 24)) (.func (.func f) #[] #[]) 64)
    rwa [World.size_alloc] at this
  have c3 : W0.cell? ⟨w.heap.size + 1 + 1, 0, none⟩ = some (.int .u64 n) := by
    rw [← hW0]
    have := cell_new_sl ((w.alloc (.cells #[.pointer (some ⟨p, 0, none⟩)] 24)).alloc (.cells #[.func (.func f) #[] #[]] 64)) (.int .u64 n) 23
    rwa [World.size_alloc, World.size_alloc] at this
  have hs0 := hs.kept (low_chg hB)
  have c4 := hs0.cell
  have hlen := hs.len
  obtain ⟨a, c, hv, hro, hlc, hc63, hnil, hbk⟩ := hs0.row.form
  obtain ⟨k, HK⟩ : ∃ k, Hid (L.length = k) := ⟨_, Lib.hid rfl⟩
  have hf : ∀ (m : Nat) (os : Array Obj) (i : Nat), i < L.length → Calls Try.prog 53 (#[.int .i64 i] ++ #[.pointer (some ⟨w.heap.size + 1, 0, none⟩), .pointer (some ⟨w.heap.size, 0, none⟩), .pointer (some ⟨w.heap.size + 1 + 1, 0, none⟩)]) (grow (W0.drewN m) os) fun e w' => e = .returned (.bool (!b n (el L i))) ∧ ∃ q os', w' = grow ((grow (W0.drewN m) os).drewN q) os' := by
    intro m os i hi
    obtain ⟨g, off, rfl, hg, hcl⟩ := hro.rn (by omega)
    obtain ⟨rfl, _, _, _, _⟩ := hbk _ _ _ rfl
    have hcl2 := hcl i hi
    rw [Nat.zero_add] at hcl2
    have gr : ∀ {a : Addr} {u : Value}, W0.cell? a = some u → (grow (W0.drewN m) os).cell? a = some u := fun {a u} h => cell_grown (World.block_lt_of_cell? _ _ h) h m os
    refine cl_any f (fun r n => !b n r) hq eg _ _ _ p g c n i L.length 0 (el L i) _ hi (gr c2) (gr c1) (gr c3) (gr (by rw [c4, hv])) (gr hcl2.1) (gr hcl2.2)
  have hS := Any.sort_Search searchA 53 #[.pointer (some ⟨w.heap.size + 1, 0, none⟩), .pointer (some ⟨w.heap.size, 0, none⟩), .pointer (some ⟨w.heap.size + 1 + 1, 0, none⟩)] L.length (fun i => !b n (el L i)) W0 (enters_of Try.func53 (by kernel_rfl) rfl) (by omega) hf (fun i j hij hj hb => by
    rcases Nat.lt_or_ge i j with hlt | hge
    · have h1 : i < L.length := by omega
      have := List.pairwise_iff_getElem.1 hm i j h1 hj hlt
      have e1 : el L i = L[i] := by simp [el, List.getD, h1]
      have e2 : el L j = L[j] := by simp [el, List.getD, hj]
      rw [e1] at hb
      rw [e2]
      cases h2 : b n L[j] with
      | false => rfl
      | true => rw [this h2] at hb; cases hb
    · rw [show j = i by omega]; exact hb)
  rw [countP_el] at hS
  change Calls Try.prog 52 _ _ _ at hS
  rw [HK.out] at hS hv hlc
  obtain ⟨N, HN⟩ : ∃ N, Hid (L.countP (b n) = N) := ⟨_, Lib.hid rfl⟩
  rw [HN.out] at hS ⊢
  have HS := Lib.hid hS
  subst hv
  have hc0 := hs.cell
  clear hS hf hbk hnil hs0 hro hq eg hm
  have HB := Lib.hid hB
  have HSZ := Lib.hid hsz
  have HW := Lib.hid hW0
  subst hW0
  clear hsz hB
  have hp := hs.own.lt
  go_enter Try.func37, Try.ntmps37
  go_wp2_with (go_at_call 52; refine HS.out.mono ?_; rintro e w' ⟨rfl, q, os, rfl⟩)
  go_ret
  exact ⟨rfl, HB.out.trans (below_grown_sl _ _ q os HB.out.size)⟩
theorem endsAbove_ix (p n : Nat) (v : Value) (L : List Rn) (w : World) (hs : St w p v L) : Calls Try.prog 37 #[.pointer (some ⟨p, 0, none⟩), .func (.func 38) #[] #[], .int .u64 n] w fun e w' => e = .returned (.int .i64 (L.countP (bEA n) : Nat)) ∧ Below w.heap.size w w' :=
  first_any 38 bEA (fun r n w => (endsAbove_any r n w).mono fun e w' ⟨he, hw⟩ => ⟨by rw [he]; refine ret_bool ?_; simp only [bEA]; by_cases h : r.2 ≤ n <;> simp [h] <;> omega, hw⟩) (enters_of Try.func38 (by kernel_rfl) rfl) p n v L w hs (hs.nf.mEA n)
theorem endsFrom_ix (p n : Nat) (v : Value) (L : List Rn) (w : World) (hs : St w p v L) : Calls Try.prog 37 #[.pointer (some ⟨p, 0, none⟩), .func (.func 43) #[] #[], .int .u64 n] w fun e w' => e = .returned (.int .i64 (L.countP (bEF n) : Nat)) ∧ Below w.heap.size w w' :=
  first_any 43 bEF (fun r n w => (endsFrom_any r n w).mono fun e w' ⟨he, hw⟩ => ⟨by rw [he]; refine ret_bool ?_; simp only [bEF]; by_cases h : r.2 < n <;> simp [h] <;> omega, hw⟩) (enters_of Try.func43 (by kernel_rfl) rfl) p n v L w hs (hs.nf.mEF n)
theorem beginsFrom_ix (p n : Nat) (v : Value) (L : List Rn) (w : World) (hs : St w p v L) : Calls Try.prog 37 #[.pointer (some ⟨p, 0, none⟩), .func (.func 39) #[] #[], .int .u64 n] w fun e w' => e = .returned (.int .i64 (L.countP (bBF n) : Nat)) ∧ Below w.heap.size w w' :=
  first_any 39 bBF (fun r n w => (beginsFrom_any r n w).mono fun e w' ⟨he, hw⟩ => ⟨by rw [he]; refine ret_bool ?_; simp only [bBF]; by_cases h : r.1 < n <;> simp [h] <;> omega, hw⟩) (enters_of Try.func39 (by kernel_rfl) rfl) p n v L w hs (hs.nf.mBF n)
theorem beginsAbove_ix (p n : Nat) (v : Value) (L : List Rn) (w : World) (hs : St w p v L) : Calls Try.prog 37 #[.pointer (some ⟨p, 0, none⟩), .func (.func 44) #[] #[], .int .u64 n] w fun e w' => e = .returned (.int .i64 (L.countP (bBA n) : Nat)) ∧ Below w.heap.size w w' :=
  first_any 44 bBA (fun r n w => (beginsAbove_any r n w).mono fun e w' ⟨he, hw⟩ => ⟨by rw [he]; refine ret_bool ?_; simp only [bBA]; by_cases h : r.1 ≤ n <;> simp [h] <;> omega, hw⟩) (enters_of Try.func44 (by kernel_rfl) rfl) p n v L w hs (hs.nf.mBA n)
end Go.Proofs.Ytoadbkiklabceaa
