/-
  dataOf of package cell where what is packed is not as its widths ask; Decode, by its contracts. No claim of its own.
-/
import Derived.Test.YtdpaofedepnnbaaGreatCeG
import Derived.Test.YtdpaofedepnnbaaGreatCeD
import Derived.Test.YtdpaofedepnnbaaGreatCeS
namespace Go.Proofs.YtdpaofedepnnbaaGreat
open Go.RowKit Go.Deep
set_option linter.unusedVariables false
set_option linter.unusedSimpArgs false

set_option maxHeartbeats 8000000 in
theorem data_no3 (bs : List UInt8) (n : Nat) (a : Option Addr) (c B : Nat) (w : World) (hn : bs.length = n) (h : Ro w B a (u8s bs)) (hB : B ≤ w.heap.size) (hnc : n ≤ c) (hc : c ≤ 9223372036854775807) (hl : n ≤ 1000000) (h2 : 2 ≤ n) (hnb : num bs 0 12 / 1024 = 1) (hsz : num bs 0 12 % 128 ≤ n) (hno : ¬ UnpOk (wid (cntOf bs)) (bs.take (begOf bs))) :
    Calls Tryz.prog 110 #[.slice a n c] w fun e w' => e = .returned (.tuple #[cev 0 none 0 0 none 0 0, .bool false]) ∧ Below w.heap.size w w' := by
  subst hn
  have HG := Lib.hid (get_yes bs a c B 0 12 (w.alloc (.cells #[.int .i64 0, .slice none 0 0, .slice none 0 0] 32)) (h.below ((Below.refl B w).alloc hB _) (Nat.le_refl _)) (by simp; omega) hl (by omega) (by omega) (by omega) (by omega))
  have hlt := num_lt bs 0 12
  change Hid (Calls _ _ _ _ fun e w' => e = .returned (.tuple #[.int .u64 (num bs 0 12 : Nat), .bool true]) ∧ _) at HG
  have hbl : begOf bs ≤ bs.length := by unfold begOf; omega
  have HU : Hid (∀ W aw cw, Ro W W.heap.size aw (i64s (wid (cntOf bs))) → Below w.heap.size w W → Calls Tryz.prog 130 #[.slice aw (cntOf bs + 1) cw, .slice a (begOf bs) c] W fun e w' => e = .returned (.tuple #[.slice none 0 0, .bool false]) ∧ Below W.heap.size W w') := by
    apply Lib.hid
    intro W aw cw g1 g2
    have hro : Ro W W.heap.size a (u8s (bs.take (begOf bs))) := by
      have := ((h.below g2 hB).mono (Nat.le_trans hB g2.size)).take (begOf bs)
      rwa [show (u8s bs).take (begOf bs) = u8s (bs.take (begOf bs)) by simp [u8s]] at this
    have := unpack_no (wid (cntOf bs)) (bs.take (begOf bs)) aw a cw c W.heap.size W g1 hro (by simp [cntOf]; omega) (by rw [List.length_take]; omega) hno
    rw [wid_length, show (bs.take (begOf bs)).length = begOf bs by rw [List.length_take]; omega] at this
    exact this
  obtain ⟨b0, off, rfl, hb0, -⟩ := h.u8 (by omega)
  clear hno
  have hbeg : begOf bs + num bs 0 12 % 128 = bs.length := by unfold begOf; omega
  have hcd : cntOf bs = num bs 0 12 / 128 % 8 := rfl
  generalize begOf bs = beg at *
  generalize cntOf bs = cnt at *
  generalize num bs 0 12 = h0 at *
  generalize bs.length = n at *
  clear h
  have HS1 := Lib.hid (fun W => split_z (h0 : Int) 7 ((h0 / 128 : Nat) : Int) ((h0 % 128 : Nat) : Int) W (by omega) (by omega) (by omega) (by omega) (by omega))
  have HS2 := Lib.hid (fun W => split_z ((h0 / 128 : Nat) : Int) 3 1 ((h0 / 128 % 8 : Nat) : Int) W (by omega) (by omega) (by omega) (by omega) (by omega))
  change Hid (∀ W, Calls _ _ #[.int .u64 (h0 : Int), .int .i64 7] _ _) at HS1
  change Hid (∀ W, Calls _ _ #[.int .u64 ((h0 / 128 : Nat) : Int), .int .i64 3] _ _) at HS2
  have hR : h0 / 128 < 32 := by omega
  have hs : h0 % 128 < 128 := by omega
  rw [← hcd] at HS2
  have hct : cnt < 8 := by omega
  clear hcd hnb
  generalize h0 / 128 = R at *
  generalize h0 % 128 = sz at *
  have HE1 := Lib.hid (wrap_small sz (Nat.lt_trans hs (by decide)))
  have HE2 := Lib.hid (wrap_small cnt (Nat.lt_trans hct (by decide)))
  have HW := Lib.hid (fun W => widths_any cnt W (Nat.le_of_lt (Nat.lt_trans hct (by decide))))
  have hbc : (beg : Int) ≤ (c : Int) := by omega
  have HE4 : Hid (n - beg = sz) := Lib.hid (by omega)
  have HE3 : Hid ((n : Int) - (sz : Int) = (beg : Int)) := Lib.hid (by omega)
  have HE2' : Hid (IntKind.i64.wrap (cnt : Int) = (cnt : Int)) := Lib.hid (wrap_small2 cnt (Nat.lt_trans hct (by decide)))
  have HF := Lib.hid (And.intro h2 (And.intro hl (And.intro hbl (And.intro hnc (And.intro hc (And.intro hct hbc))))))
  have HR2 := Lib.hid hR
  have HB0 := Lib.hid hB
  have HB00 := Lib.hid hb0
  have hn1 : (n : Int) ≤ 1000000 := by omega
  have hs1 : (sz : Int) ≤ (n : Int) := by omega
  clear h2 hl hbl hnc hc hct hbc hlt hsz hs hR HE2 hB hb0
  have HBEG := Lib.hid hbeg
  clear hbeg
  go_enter Tryz.func110, Tryz.ntmps110
  go_wp2_with fail
  refine HG.out.mono ?_
  rintro e w1 ⟨rfl, hb⟩
  have HB1 : Hid (Below w.heap.size w w1) := Lib.hid (((Below.refl _ _).alloc (Nat.le_refl _) _).trans (hb.mono (by simp)))
  have o1 := (Own.new w 32 [.int .i64 0, .slice none 0 0, .slice none 0 0]).below hb (by simp)
  have HO1 := Lib.hid o1
  clear hb o1
  go_wp2_with fail
  refine (HS1.out _).mono ?_
  rintro e w2 ⟨rfl, rfl⟩
  go_wp2_with fail
  refine (HS2.out _).mono ?_
  rintro e w2 ⟨rfl, rfl⟩
  have e1 := HE1.out
  have e3 := HE3.out
  go_wp2_with fail
  clear e1 e3
  have HZ0 : Hid (Below w.heap.size w w1.drew.drew ∧ Own w1.drew.drew w.heap.size 32 [.int .i64 0, .slice none 0 0, .slice none 0 0]) := Lib.hid ⟨HB1.out.drew.drew, HO1.out⟩
  generalize w1.drew.drew = w2 at *
  clear HB1 HO1 HG HS1 HS2
  have HS9 : Hid (Below w.heap.size w w2.drew ∧ Own w2.drew w.heap.size 32 [.int .i64 0, .slice none 0 0, .slice none 0 0]) := Lib.hid ⟨HZ0.out.1.drew, HZ0.out.2⟩
  refine wp_region_held_drew (S := (fun w' => Below w.heap.size w w' ∧ Own w' w.heap.size 32 [.int .i64 0, .slice none 0 0, .slice none 0 0])) (by kernel_rfl) HS9.out (fun hHeld => ?_)
  have e2 := HE2'.out
  have hbc : (beg : Int) ≤ (c : Int) := HF.out.2.2.2.2.2.2
  clear hn1 hs1
  refine wpAnyH_take (i := 0) (v := ?_) rfl (by kernel_rfl) (by kernel_rfl) (by kernel_rfl) (fun _ _ _ h => h) (Or.inl ⟨by kernel_rfl, ?_⟩) hHeld ?_
  rotate_left
  · (intro w hSw; first | (go_simp; done) | (go_simp; with_reducible rfl))
  (try simp only [Act.put, List.getElem_toArray, List.getElem_cons_succ, List.getElem_cons_zero, List.setIfInBounds_toArray, List.set_cons_zero, List.set_cons_succ])
  refine wpAnyH_take (i := 1) (v := ?_) rfl (by kernel_rfl) (by kernel_rfl) (by kernel_rfl) (fun _ _ _ h => h) (Or.inl ⟨by kernel_rfl, ?_⟩) hHeld ?_
  rotate_left
  · (intro w hSw; first | (go_simp; done) | (go_simp; with_reducible rfl))
  (try simp only [Act.put, List.getElem_toArray, List.getElem_cons_succ, List.getElem_cons_zero, List.setIfInBounds_toArray, List.set_cons_zero, List.set_cons_succ])
  refine wpAnyH_take (i := 3) (v := ?_) rfl (by kernel_rfl) (by kernel_rfl) (by kernel_rfl) (fun _ _ _ h => h) (Or.inl ⟨by kernel_rfl, ?_⟩) hHeld ?_
  rotate_left
  · (intro w hSw; first | (go_simp; done) | (go_simp; with_reducible rfl))
  (try simp only [Act.put, List.getElem_toArray, List.getElem_cons_succ, List.getElem_cons_zero, List.setIfInBounds_toArray, List.set_cons_zero, List.set_cons_succ])
  refine wpAnyH_take (i := 4) (v := ?_) rfl (by kernel_rfl) (by kernel_rfl) (by kernel_rfl) (fun _ _ _ h => h) (Or.inl ⟨by kernel_rfl, ?_⟩) hHeld ?_
  rotate_left
  · (intro w hSw; first | (go_simp; done) | (go_simp; with_reducible rfl))
  (try simp only [Act.put, List.getElem_toArray, List.getElem_cons_succ, List.getElem_cons_zero, List.setIfInBounds_toArray, List.set_cons_zero, List.set_cons_succ])
  refine wpAnyH_take (i := 5) (v := ?_) rfl (by kernel_rfl) (by kernel_rfl) (by kernel_rfl) (fun _ _ _ h => h) (Or.inl ⟨by kernel_rfl, ?_⟩) hHeld ?_
  rotate_left
  · (intro w hSw; first | (go_simp; done) | (go_simp; with_reducible rfl))
  (try simp only [Act.put, List.getElem_toArray, List.getElem_cons_succ, List.getElem_cons_zero, List.setIfInBounds_toArray, List.set_cons_zero, List.set_cons_succ])
  refine wpAnyH_ready (rs := [2]) (by kernel_rfl) (by simp) (AllReadyH.cons rfl (fun K hK => ?_) AllReadyH.nil)
  have hH := hHeld
  (go_simp; go_at_call 71; refine (HW.out _).mono ?_; rintro e w6 ⟨aw, cw, rfl, hrw, hb6⟩)
  refine hK.out _ _ (by exact ⟨hH.1.trans (hb6.mono hH.1.size), hH.2.below hb6 hH.2.lt⟩) (fun hHq1 => ?_)
  clear hK K hH 
  (try simp only [Act.put, List.getElem_toArray, List.getElem_cons_succ, List.getElem_cons_zero, List.setIfInBounds_toArray, List.set_cons_zero, List.set_cons_succ])
  refine wpAnyH_ready (rs := [6]) (by kernel_rfl) (by simp) (AllReadyH.cons rfl (fun K hK => ?_) AllReadyH.nil)
  have hH := hHq1
  (go_simp; go_at_call 130; refine (HU.out _ _ _ hrw hH.1).mono ?_; rintro e w7 ⟨rfl, hb7⟩)
  refine hK.out _ _ (by exact ⟨hH.1.trans (hb7.mono hH.1.size), hH.2.below hb7 hH.2.lt⟩) (fun hHq2 => ?_)
  clear hK K hH hHq1
  (try simp only [Act.put, List.getElem_toArray, List.getElem_cons_succ, List.getElem_cons_zero, List.setIfInBounds_toArray, List.set_cons_zero, List.set_cons_succ])
  refine wpAnyH_take (i := 7) (v := ?_) rfl (by kernel_rfl) (by kernel_rfl) (by kernel_rfl) (fun _ _ _ h => h) (Or.inl ⟨by kernel_rfl, ?_⟩) hHq2 ?_
  rotate_left
  · (intro w hSw; first | (go_simp; done) | (go_simp; with_reducible rfl))
  (try simp only [Act.put, List.getElem_toArray, List.getElem_cons_succ, List.getElem_cons_zero, List.setIfInBounds_toArray, List.set_cons_zero, List.set_cons_succ])
  refine wpAnyH_take (i := 8) (v := ?_) rfl (by kernel_rfl) (by kernel_rfl) (by kernel_rfl) (fun _ _ _ h => h) (Or.inl ⟨by kernel_rfl, ?_⟩) hHq2 ?_
  rotate_left
  · (intro w hSw; first | (go_simp; done) | (go_simp; with_reducible rfl))
  (try simp only [Act.put, List.getElem_toArray, List.getElem_cons_succ, List.getElem_cons_zero, List.setIfInBounds_toArray, List.set_cons_zero, List.set_cons_succ])
  refine wpAnyH_take (i := 9) (v := ?_) rfl (by kernel_rfl) (by kernel_rfl) (by kernel_rfl) (fun _ _ _ h => h) (Or.inl ⟨by kernel_rfl, ?_⟩) hHq2 ?_
  rotate_left
  · (intro w hSw; first | (go_simp; done) | (go_simp; with_reducible rfl))
  (try simp only [Act.put, List.getElem_toArray, List.getElem_cons_succ, List.getElem_cons_zero, List.setIfInBounds_toArray, List.set_cons_zero, List.set_cons_succ])
  refine wpAnyH_take (i := 10) (v := ?_) rfl (by kernel_rfl) (by kernel_rfl) (by kernel_rfl) (fun _ _ _ h => h) (Or.inl ⟨by kernel_rfl, ?_⟩) hHq2 ?_
  rotate_left
  · (intro w hSw; first | (go_simp; done) | (go_simp; with_reducible rfl))
  (try simp only [Act.put, List.getElem_toArray, List.getElem_cons_succ, List.getElem_cons_zero, List.setIfInBounds_toArray, List.set_cons_zero, List.set_cons_succ])
  refine wpAnyH_take (i := 11) (v := ?_) rfl (by kernel_rfl) (by kernel_rfl) (by kernel_rfl) (fun _ _ _ h => h) (Or.inl ⟨by kernel_rfl, ?_⟩) hHq2 ?_
  rotate_left
  · (intro w hSw; first | (go_simp; done) | (go_simp; with_reducible rfl))
  (try simp only [Act.put, List.getElem_toArray, List.getElem_cons_succ, List.getElem_cons_zero, List.setIfInBounds_toArray, List.set_cons_zero, List.set_cons_succ])
  refine wpAnyH_done (by kernel_rfl) ?_ _
  have hEnd := hHq2
  clear hHeld e2
  have HB7 : Hid (Below w.heap.size w w7) := Lib.hid hEnd.1
  have oR := hEnd.2
  have d0 := oR.cell 0
  have d1 := oR.cell 1
  have d2 := oR.cell 2
  have f0 := oR.frozen 0
  have f1 := oR.frozen 1
  have f2 := oR.frozen 2
  simp at d0 d1 d2
  clear hrw hb6 hb7 hEnd oR hbc
  go_wp2_with fail
  refine bodyPost_ret (v := .tuple #[cev 0 none 0 0 none 0 0, .bool false]) (by simp [results, Tryz.results110, go_sem, d0, d1, d2]) rfl ⟨rfl, ?_⟩
  exact ((HB7.out.setCell (Nat.le_refl _) _).setCell (Nat.le_refl _) _).setCell (Nat.le_refl _) _
end Go.Proofs.YtdpaofedepnnbaaGreat
namespace Go.Proofs.YtdpaofedepnnbaaGreat
open Go.RowKit Go.Deep
set_option linter.unusedVariables false
set_option linter.unusedSimpArgs false

theorem data_no (bs : List UInt8) (n : Nat) (a : Option Addr) (c B : Nat) (w : World) (hn : bs.length = n) (h : Ro w B a (u8s bs)) (hB : B ≤ w.heap.size) (hnc : n ≤ c) (hc : c ≤ 9223372036854775807) (hl : n ≤ 1000000) (hno : ∀ x, ¬ IsDec bs x) :
    Calls Tryz.prog 110 #[.slice a n c] w fun e w' => e = .returned (.tuple #[cev 0 none 0 0 none 0 0, .bool false]) ∧ Below w.heap.size w w' := by
  by_cases h2 : n < 2
  · exact data_no1 n a c w h2
  by_cases h3 : num bs 0 12 / 1024 ≠ 1 ∨ n < num bs 0 12 % 128
  · exact data_no2 bs n a c B w hn h hB hl (by omega) h3
  · by_cases h4 : UnpOk (wid (cntOf bs)) (bs.take (begOf bs))
    · exact absurd (show IsDec bs _ from ⟨by omega, by omega, by omega, h4, rfl⟩) (hno _)
    · exact data_no3 bs n a c B w hn h hB hnc hc hl (by omega) (by omega) (by omega) h4

/-- a cell that has been read, over letters -/
def DcR (w : World) (dn ln : Nat) (d : List UInt8) (L : List Bk) (e : Ending) (w' : World) : Prop := ∃ a1 c1 a2 c2, e = .returned (.tuple #[cev 1 a1 dn c1 a2 ln c2, .int .i64 0]) ∧ Ro w' w'.heap.size a1 (u8s d) ∧ Ro w' w'.heap.size a2 (bcs L) ∧ Frs w a1 ∧ Frs w a2 ∧ Below w.heap.size w w'
/-- how the first test goes -/
theorem first_no {bs : List UInt8} {n : Nat} (hn : bs.length = n) (h : bs ≠ [2]) : ((n : Int) == 1) = false ∨ (n = 1 ∧ ∃ z : UInt8, bs = [z] ∧ ((z.toNat : Int) == 2) = false) := by
  by_cases h1 : n = 1
  · subst h1
    obtain ⟨z, rfl⟩ := List.length_eq_one_iff.1 hn
    refine .inr ⟨rfl, z, rfl, ?_⟩
    rw [beq_eq_false_iff_ne]
    intro e
    apply h
    have : z = 2 := UInt8.toNat_inj.1 (by show z.toNat = 2; omega)
    rw [this]
  · exact .inl (by rw [beq_eq_false_iff_ne]; omega)

set_option maxHeartbeats 1000000 in
theorem decode_a (bs : List UInt8) (n : Nat) (a : Option Addr) (c B : Nat) (w : World) (hn : bs.length = n) (h : Ro w B a (u8s bs)) (hB : B ≤ w.heap.size) (hnc : n ≤ c) (hc : c ≤ 9223372036854775807) (hl : n ≤ 1000000) (h2 : bs ≠ [2]) (hno : ∀ x, ¬ IsDec bs x) :
    Calls Tryz.prog 86 #[.slice a n c] w fun e w' => e = .returned (.tuple #[cev 0 none 0 0 none 0 0, .int .i64 71]) ∧ Below w.heap.size w w' := by
  have HD := Lib.hid (data_no bs n a c B (w.alloc (.cells #[.int .i64 0, .slice none 0 0, .slice none 0 0] 32)) hn (h.below ((Below.refl B w).alloc hB _) (Nat.le_refl _)) (by simp; omega) hnc hc hl hno)
  have HB0 := Lib.hid hB
  rcases first_no hn h2 with h1 | ⟨rfl, z, rfl, hz⟩
  · clear h2 hnc hl hn h hno hB hc
    go_enter Tryz.func86, Tryz.ntmps86
    go_wp2_with fail
    refine HD.out.mono ?_
    rintro e w1 ⟨rfl, hb⟩
    have HB := Lib.hid hb
    have o1 := (Own.new w 32 [.int .i64 0, .slice none 0 0, .slice none 0 0]).below hb (by simp)
    have c0 := o1.cell 0
    have c1 := o1.cell 1
    have c2 := o1.cell 2
    have f0 := o1.frozen 0
    have f1 := o1.frozen 1
    have f2 := o1.frozen 2
    have hz := o1.lt
    simp at c0 c1 c2
    clear hb o1
    go_wp2_with fail
    refine bodyPost_ret (v := .tuple #[cev 0 none 0 0 none 0 0, .int .i64 71]) (by simp [results, Tryz.results86, go_sem, c0, c1, c2, hz]) rfl ⟨rfl, ?_⟩
    exact (((((Below.refl w.heap.size w).alloc (Nat.le_refl _) _).trans (HB.out.mono (by simp))).setCell (Nat.le_refl _) _).setCell (Nat.le_refl _) _).setCell (Nat.le_refl _) _ |>.alloc (by simp [set_size]; omega) _
  · obtain ⟨b, off, rfl, hb0, hcl⟩ := h.u8 (by simp)
    have hc0 := hcl 0 (by simp)
    have hblt : b < w.heap.size := by omega
    change w.cell? ⟨b, off, none⟩ = some (.int .u8 (z.toNat : Int)) at hc0
    clear h2 hnc hl hn h hno hB hc hcl
    go_enter Tryz.func86, Tryz.ntmps86
    go_wp2_with fail
    refine HD.out.mono ?_
    rintro e w1 ⟨rfl, hb⟩
    have HB := Lib.hid hb
    have o1 := (Own.new w 32 [.int .i64 0, .slice none 0 0, .slice none 0 0]).below hb (by simp)
    have c0 := o1.cell 0
    have c1 := o1.cell 1
    have c2 := o1.cell 2
    have f0 := o1.frozen 0
    have f1 := o1.frozen 1
    have f2 := o1.frozen 2
    have hz := o1.lt
    simp at c0 c1 c2
    clear hb o1
    go_wp2_with fail
    refine bodyPost_ret (v := .tuple #[cev 0 none 0 0 none 0 0, .int .i64 71]) (by simp [results, Tryz.results86, go_sem, c0, c1, c2, hz]) rfl ⟨rfl, ?_⟩
    exact (((((Below.refl w.heap.size w).alloc (Nat.le_refl _) _).trans (HB.out.mono (by simp))).setCell (Nat.le_refl _) _).setCell (Nat.le_refl _) _).setCell (Nat.le_refl _) _ |>.alloc (by simp [set_size]; omega) _

set_option maxHeartbeats 2000000 in
theorem decode_b (bs : List UInt8) (n : Nat) (a : Option Addr) (c B : Nat) (w : World) (hn : bs.length = n) (h : Ro w B a (u8s bs)) (hB : B ≤ w.heap.size) (hnc : n ≤ c) (hc : c ≤ 9223372036854775807) (hl : n ≤ 1000000) (x : Ce) (hx : IsDec bs x) (hr : right x = false) :
    Calls Tryz.prog 86 #[.slice a n c] w fun e w' => e = .returned (.tuple #[cev 0 none 0 0 none 0 0, .int .i64 71]) ∧ Below w.heap.size w w' := by
  have HD := Lib.hid (data_yes bs n a c B (w.alloc (.cells #[.int .i64 0, .slice none 0 0, .slice none 0 0] 32)) hn (h.below ((Below.refl B w).alloc hB _) (Nat.le_refl _)) (by simp; omega) hnc hc hl x hx)
  have h1 : ((n : Int) == 1) = false := by rw [beq_eq_false_iff_ne]; have := hx.1; omega
  have hk : x.k = 1 := by rw [hx.2.2.2.2]
  have HLd : Hid (x.d.length ≤ 1000000) := Lib.hid (by rw [hx.2.2.2.2]; simp only [List.length_drop]; omega)
  have HLb : Hid (x.b.length ≤ 1000000) := Lib.hid (by rw [hx.2.2.2.2]; simp [cntOf]; omega)
  have HRi := Lib.hid hr
  clear hx hr h hnc hl hn hB hc
  obtain ⟨k, d, L⟩ := x
  simp only at hk
  subst hk
  go_enter Tryz.func86, Tryz.ntmps86
  go_wp2_with fail
  refine HD.out.mono ?_
  rintro e w1 hp
  unfold DcP at hp
  obtain ⟨a1, c1, a2, c2, rfl, hr1, hr2, -, -, hb⟩ := hp
  have HB := Lib.hid hb
  have HR := Lib.hid (right_any ⟨1, d, L⟩ a1 c1 a2 c2 w1.heap.size (w1.alloc (.cells #[.int .i64 1, .slice a1 d.length c1, .slice a2 L.length c2] 32)) (hr2.below ((Below.refl w1.heap.size w1).alloc (Nat.le_refl _) _) (Nat.le_refl _)) (by simp) (by have := HLb.out; simp only at this ⊢; omega) (by have := HLd.out; simp only at this ⊢; omega))
  rw [HRi.out] at HR
  simp only at HR ⊢
  have o1 := (Own.new w 32 [.int .i64 0, .slice none 0 0, .slice none 0 0]).below hb (by simp)
  have HO1 := Lib.hid o1
  clear hr1 hr2 hb o1
  generalize d.length = dn at *
  generalize L.length = ln at *
  go_wp2_with fail
  refine HR.out.mono ?_
  rintro e w2 ⟨rfl, hb⟩
  have HB2 := Lib.hid hb
  have o2 := (HO1.out.alloc (.cells #[.int .i64 1, .slice a1 dn c1, .slice a2 ln c2] 32)).below hb (by have := HO1.out.lt; simp; omega)
  have c0 := o2.cell 0
  have c1' := o2.cell 1
  have c2' := o2.cell 2
  have f0 := o2.frozen 0
  have f1 := o2.frozen 1
  have f2 := o2.frozen 2
  simp at c0 c1' c2'
  clear hb o2
  go_wp2_with fail
  refine bodyPost_ret (v := .tuple #[cev 0 none 0 0 none 0 0, .int .i64 71]) (by simp [results, Tryz.results86, go_sem, c0, c1', c2']) rfl ⟨rfl, ?_⟩
  have hbw : Below w.heap.size w w1 := ((Below.refl w.heap.size w).alloc (Nat.le_refl _) _).trans (HB.out.mono (by simp))
  have hbw2 : Below w.heap.size w w2 := (hbw.alloc hbw.size _).trans (HB2.out.mono (by have := hbw.size; simp; omega))
  exact ((hbw2.setCell (Nat.le_refl _) _).setCell (Nat.le_refl _) _).setCell (Nat.le_refl _) _

set_option maxHeartbeats 2000000 in
theorem decode_c (bs : List UInt8) (n : Nat) (a : Option Addr) (c B : Nat) (w : World) (hn : bs.length = n) (h : Ro w B a (u8s bs)) (hB : B ≤ w.heap.size) (hnc : n ≤ c) (hc : c ≤ 9223372036854775807) (hl : n ≤ 1000000) (x : Ce) (hx : IsDec bs x) (hr : right x = true) :
    Calls Tryz.prog 86 #[.slice a n c] w (DcP w x (.int .i64 0)) := by
  have HD := Lib.hid (data_yes bs n a c B (w.alloc (.cells #[.int .i64 0, .slice none 0 0, .slice none 0 0] 32)) hn (h.below ((Below.refl B w).alloc hB _) (Nat.le_refl _)) (by simp; omega) hnc hc hl x hx)
  have h1 : ((n : Int) == 1) = false := by rw [beq_eq_false_iff_ne]; have := hx.1; omega
  have hk : x.k = 1 := by rw [hx.2.2.2.2]
  have HLd : Hid (x.d.length ≤ 1000000) := Lib.hid (by rw [hx.2.2.2.2]; simp only [List.length_drop]; omega)
  have HLb : Hid (x.b.length ≤ 1000000) := Lib.hid (by rw [hx.2.2.2.2]; simp [cntOf]; omega)
  have HRi := Lib.hid hr
  clear hx hr h hnc hl hn hB hc
  obtain ⟨k, d, L⟩ := x
  simp only at hk
  subst hk
  unfold DcP
  simp only
  change Calls _ _ _ _ (DcR w d.length L.length d L)
  go_enter Tryz.func86, Tryz.ntmps86
  go_wp2_with fail
  refine HD.out.mono ?_
  rintro e w1 hp
  unfold DcP at hp
  obtain ⟨a1, c1, a2, c2, rfl, hr1, hr2, hf1, hf2, hb⟩ := hp
  have HB := Lib.hid hb
  have HR := Lib.hid (right_any ⟨1, d, L⟩ a1 c1 a2 c2 w1.heap.size (w1.alloc (.cells #[.int .i64 1, .slice a1 d.length c1, .slice a2 L.length c2] 32)) (hr2.below ((Below.refl w1.heap.size w1).alloc (Nat.le_refl _) _) (Nat.le_refl _)) (by simp) (by have := HLb.out; simp only at this ⊢; omega) (by have := HLd.out; simp only at this ⊢; omega))
  rw [HRi.out] at HR
  simp only at HR ⊢
  have o1 := (Own.new w 32 [.int .i64 0, .slice none 0 0, .slice none 0 0]).below hb (by simp)
  have HO1 := Lib.hid o1
  have HR1 := Lib.hid hr1
  have HR2 := Lib.hid hr2
  have HF1 : Hid (∀ ad, a1 = some ad → w.heap.size < ad.block) := Lib.hid fun ad e => by have := hf1 ad e; simp at this; omega
  have HF2 : Hid (∀ ad, a2 = some ad → w.heap.size < ad.block) := Lib.hid fun ad e => by have := hf2 ad e; simp at this; omega
  clear hr1 hr2 hb o1 hf1 hf2
  generalize d.length = dn at *
  generalize L.length = ln at *
  go_wp2_with fail
  refine HR.out.mono ?_
  rintro e w2 ⟨rfl, hb⟩
  have HB2 := Lib.hid hb
  have HBA : Hid (Below w1.heap.size w1 w2) := Lib.hid (((Below.refl w1.heap.size w1).alloc (Nat.le_refl _) _).trans (hb.mono (by simp)))
  have o2 := (HO1.out.alloc (.cells #[.int .i64 1, .slice a1 dn c1, .slice a2 ln c2] 32)).below hb (by have := HO1.out.lt; simp; omega)
  have o3 := (Own.new w1 32 [.int .i64 1, .slice a1 dn c1, .slice a2 ln c2]).below hb (by simp)
  have c0 := o2.cell 0
  have c1' := o2.cell 1
  have c2' := o2.cell 2
  have f0 := o2.frozen 0
  have f1 := o2.frozen 1
  have f2 := o2.frozen 2
  have d0 := o3.cell 0
  have d1 := o3.cell 1
  have d2 := o3.cell 2
  simp at c0 c1' c2' d0 d1 d2
  have hne : w.heap.size < w1.heap.size := HO1.out.lt
  clear hb o2 o3
  go_wp2_with fail
  refine bodyPost_ret (v := .tuple #[cev 1 a1 dn c1 a2 ln c2, .int .i64 0]) (by simp [results, Tryz.results86, go_sem, c0, c1', c2']) rfl ?_
  unfold DcR
  refine ⟨a1, c1, a2, c2, rfl, ?_, ?_, fun ad e => Nat.le_of_lt (HF1.out ad e), fun ad e => Nat.le_of_lt (HF2.out ad e), ?_⟩
  · have h := HR1.out.below HBA.out (Nat.le_refl _)
    refine (((h.far fun ad e => ?_).far fun ad e => ?_).far fun ad e => ?_).mono (by simp [set_size]; exact HBA.out.size)
    all_goals exact Nat.ne_of_gt (HF1.out ad e)
  · have h := HR2.out.below HBA.out (Nat.le_refl _)
    refine (((h.far fun ad e => ?_).far fun ad e => ?_).far fun ad e => ?_).mono (by simp [set_size]; exact HBA.out.size)
    all_goals exact Nat.ne_of_gt (HF2.out ad e)
  · have hbw : Below w.heap.size w w1 := ((Below.refl w.heap.size w).alloc (Nat.le_refl _) _).trans (HB.out.mono (by simp))
    have hbw2 : Below w.heap.size w w2 := hbw.trans (HBA.out.mono hbw.size)
    exact ((hbw2.setCell (Nat.le_refl _) _).setCell (Nat.le_refl _) _).setCell (Nat.le_refl _) _
end Go.Proofs.YtdpaofedepnnbaaGreat
namespace Go.Proofs.YtdpaofedepnnbaaGreat
open Go.RowKit Go.Deep
set_option linter.unusedVariables false
set_option linter.unusedSimpArgs false

set_option maxHeartbeats 1000000 in
theorem decode_j (a : Option Addr) (c B : Nat) (w : World) (h : Ro w B a (u8s [2])) (hB : B ≤ w.heap.size) :
    Calls Tryz.prog 86 #[.slice a 1 c] w fun e w' => e = .returned (.tuple #[cev 2 none 0 0 none 0 0, .int .i64 0]) ∧ Below w.heap.size w w' := by
  obtain ⟨b, off, rfl, hb0, hcl⟩ := h.u8 (by simp)
  have hc0 := hcl 0 (by simp)
  have hblt : b < w.heap.size := by omega
  change w.cell? ⟨b, off, none⟩ = some (.int .u8 2) at hc0
  clear h hcl
  go_enter Tryz.func86, Tryz.ntmps86
  go_wp2_with fail
  refine bodyPost_ret (v := .tuple #[cev 2 none 0 0 none 0 0, .int .i64 0]) (by simp [results, Tryz.results86, go_sem]) rfl ⟨rfl, ?_⟩
  exact (Below.refl w.heap.size w).alloc (Nat.le_refl _) _

/-- bytes of a valid cell -/
theorem dec_yes (bs : List UInt8) (n : Nat) (a : Option Addr) (c B : Nat) (w : World) (hn : bs.length = n) (h : Ro w B a (u8s bs)) (hB : B ≤ w.heap.size) (hnc : n ≤ c) (hc : c ≤ 9223372036854775807) (hl : n ≤ 1000000) (x : Ce) (hx : IsEnc x bs) (hr : right x = true) :
    Calls Tryz.prog 86 #[.slice a n c] w (DcP w x (.int .i64 0)) := by
  rcases right_kind hr with hk | hk
  · exact decode_c bs n a c B w hn h hB hnc hc hl x (dec_of_enc hx hr hk) hr
  · obtain rfl := right_junk hr hk
    rcases hx with ⟨_, rfl⟩ | ⟨h1, _⟩
    · subst hn
      refine (decode_j a c B w h hB).mono ?_
      rintro e w' ⟨rfl, hb⟩
      exact ⟨none, 0, none, 0, rfl, Ro.nil _ _ _, Ro.nil _ _ _, (fun ad e => nomatch e), (fun ad e => nomatch e), hb⟩
    · simp at h1
/-- bytes of none -/
theorem dec_no (bs : List UInt8) (n : Nat) (a : Option Addr) (c B : Nat) (w : World) (hn : bs.length = n) (h : Ro w B a (u8s bs)) (hB : B ≤ w.heap.size) (hnc : n ≤ c) (hc : c ≤ 9223372036854775807) (hl : n ≤ 1000000) (hno : ∀ x, right x = true → ¬ IsEnc x bs) :
    Calls Tryz.prog 86 #[.slice a n c] w fun e w' => e = .returned (.tuple #[cev 0 none 0 0 none 0 0, .int .i64 71]) ∧ Below w.heap.size w w' := by
  have h2 : bs ≠ [2] := fun e => hno ⟨2, [], []⟩ rfl (.inl ⟨rfl, e⟩)
  by_cases hx : ∃ x, IsDec bs x
  · obtain ⟨x, hx⟩ := hx
    cases hr : right x with
    | true => exact absurd (enc_of_dec hx hr) (hno x hr)
    | false => exact decode_b bs n a c B w hn h hB hnc hc hl x hx hr
  · exact decode_a bs n a c B w hn h hB hnc hc hl h2 (fun x hd => hx ⟨x, hd⟩)

/-- is a cell one that is asked about? -/
def fitsC (x : Ce) : Bool := decide (x.d.length ≤ 400) && decide (x.b.length ≤ 30)
set_option maxHeartbeats 400000 in
theorem fits_any (k : Int) (a : Option Addr) (n c : Nat) (a2 : Option Addr) (n2 c2 : Nat) (w : World) :
    Calls Tryz.prog 17 #[cev k a n c a2 n2 c2] w fun e w' => e = .returned (.bool (decide (n ≤ 400) && decide (n2 ≤ 30))) ∧ Below w.heap.size w w' := by
  by_cases h : n ≤ 400
  · have h1 : decide (n ≤ 400) = true := by simpa using h
    rw [h1, Bool.true_and]
    go_enter Tryz.func17, Tryz.ntmps17
    go_wp2_with fail
    go_ret
    exact ⟨ret_bool (by rw [decide_eq_decide]; omega), (Below.refl _ _).alloc (Nat.le_refl _) _⟩
  · have h1 : decide (n ≤ 400) = false := by simpa using h
    rw [h1, Bool.false_and]
    go_enter Tryz.func17, Tryz.ntmps17
    go_wp2_with fail
    go_ret
    exact ⟨rfl, (Below.refl _ _).alloc (Nat.le_refl _) _⟩

def aliveC : Ce := ⟨1, [97, 98], [(3, 7, 18446744073709551615)]⟩
theorem alive_right : right aliveC = true := by decide
theorem alive_enc : IsEnc aliveC [72, 35, 0, 0, 60, 0, 0, 0, 97, 98] := .inr ⟨rfl, [72, 35, 0, 0, 60, 0, 0, 0], ⟨by decide, by decide⟩, rfl⟩
end Go.Proofs.YtdpaofedepnnbaaGreat
