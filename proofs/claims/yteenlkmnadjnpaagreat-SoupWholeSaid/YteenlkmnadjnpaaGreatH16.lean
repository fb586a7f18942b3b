/-
  dataOf of package cell where what is packed is not as its widths ask; Decode, by its contracts. No claim of its own.
-/
import Derived.Test.YteenlkmnadjnpaaGreatH15
import Derived.Test.YteenlkmnadjnpaaGreatH13
import Derived.Test.YteenlkmnadjnpaaGreatH6
import Derived.Test.YteenlkmnadjnpaaGreatH10
namespace Go.Proofs.YteenlkmnadjnpaaGreat
open Go.RowKit Go.Deep
set_option linter.unusedVariables false
set_option linter.unusedSimpArgs false

set_option maxHeartbeats 8000000 in
theorem data_no3 (bs : List UInt8) (n : Nat) (a : Option Addr) (c B : Nat) (w : World) (hn : bs.length = n) (h : Ro w B a (u8s bs)) (hB : B ≤ w.heap.size) (hnc : n ≤ c) (hc : c ≤ 9223372036854775807) (hl : n ≤ 1000000) (h2 : 2 ≤ n) (hnb : num bs 0 12 / 1024 = 1) (hsz : num bs 0 12 % 128 ≤ n) (hno : ¬ UnpOk (wid (cntOf bs)) (bs.take (begOf bs))) :
    Calls Tryz.prog 142 #[.slice a n c] w fun e w' => e = .returned (.tuple #[cev 0 none 0 0 none 0 0, .bool false]) ∧ Below w.heap.size w w' := by
  subst hn
  have HG := Lib.hid (get_yes bs a c B 0 12 (w.alloc (.cells #[.int .i64 0, .slice none 0 0, .slice none 0 0] 32)) (h.below ((Below.refl B w).alloc hB _) (Nat.le_refl _)) (by simp; omega) hl (by omega) (by omega) (by omega) (by omega))
  have hlt := num_lt bs 0 12
  change Hid (Calls _ _ _ _ fun e w' => e = .returned (.tuple #[.int .u64 (num bs 0 12 : Nat), .bool true]) ∧ _) at HG
  have hbl : begOf bs ≤ bs.length := by unfold begOf; omega
  have HU : Hid (∀ W aw cw, Ro W W.heap.size aw (i64s (wid (cntOf bs))) → Below w.heap.size w W → Calls Tryz.prog 167 #[.slice aw (cntOf bs + 1) cw, .slice a (begOf bs) c] W fun e w' => e = .returned (.tuple #[.slice none 0 0, .bool false]) ∧ Below W.heap.size W w') := by
    apply Lib.hid
    intro W aw cw g1 g2
    have hro : Ro W W.heap.size a (u8s (bs.take (begOf bs))) := by
      have := ((h.below g2 hB).mono (Nat.le_trans hB g2.size)).take (begOf bs)
      rwa [show (u8s bs).take (begOf bs) = u8s (bs.take (begOf bs)) by simp [u8s]] at this
    have := unpack_no (wid (cntOf bs)) (bs.take (begOf bs)) aw a cw c W.heap.size W g1 hro (by simp [cntOf]; omega) (by rw [List.length_take]; omega) hno
    rw [wid_length, show (bs.take (begOf bs)).length = begOf bs by rw [List.length_take]; omega] at this
    exact this
  obtain ⟨b0, off, rfl, hb0, -⟩ := h.u8 (by omega)
  clear hno
  have hbeg : begOf bs + num bs 0 12 % 128 = bs.length := by unfold begOf; omega
  have hcd : cntOf bs = num bs 0 12 / 128 % 8 := rfl
  generalize begOf bs = beg at *
  generalize cntOf bs = cnt at *
  generalize num bs 0 12 = h0 at *
  generalize bs.length = n at *
  clear h
  have HS1 := Lib.hid (fun W => split_z (h0 : Int) 7 ((h0 / 128 : Nat) : Int) ((h0 % 128 : Nat) : Int) W (by omega) (by omega) (by omega) (by omega) (by omega))
  have HS2 := Lib.hid (fun W => split_z ((h0 / 128 : Nat) : Int) 3 1 ((h0 / 128 % 8 : Nat) : Int) W (by omega) (by omega) (by omega) (by omega) (by omega))
  change Hid (∀ W, Calls _ _ #[.int .u64 (h0 : Int), .int .i64 7] _ _) at HS1
  change Hid (∀ W, Calls _ _ #[.int .u64 ((h0 / 128 : Nat) : Int), .int .i64 3] _ _) at HS2
  have hR : h0 / 128 < 32 := by omega
  have hs : h0 % 128 < 128 := by omega
  rw [← hcd] at HS2
  have hct : cnt < 8 := by omega
  clear hcd hnb
  generalize h0 / 128 = R at *
  generalize h0 % 128 = sz at *
  have HE1 := Lib.hid (wrap_small sz (Nat.lt_trans hs (by decide)))
  have HE2 := Lib.hid (wrap_small cnt (Nat.lt_trans hct (by decide)))
  have HW := Lib.hid (fun W => widths_any cnt W (Nat.le_of_lt (Nat.lt_trans hct (by decide))))
  have hbc : (beg : Int) ≤ (c : Int) := by omega
  have HE4 : Hid (n - beg = sz) := Lib.hid (by omega)
  have HE3 : Hid ((n : Int) - (sz : Int) = (beg : Int)) := Lib.hid (by omega)
  have HE2' : Hid (IntKind.i64.wrap (cnt : Int) = (cnt : Int)) := Lib.hid (wrap_small2 cnt (Nat.lt_trans hct (by decide)))
  have HF := Lib.hid (And.intro h2 (And.intro hl (And.intro hbl (And.intro hnc (And.intro hc (And.intro hct hbc))))))
  have HR2 := Lib.hid hR
  have HB0 := Lib.hid hB
  have HB00 := Lib.hid hb0
  have hn1 : (n : Int) ≤ 1000000 := by omega
  have hs1 : (sz : Int) ≤ (n : Int) := by omega
  clear h2 hl hbl hnc hc hct hbc hlt hsz hs hR HE2 hB hb0
  have HBEG := Lib.hid hbeg
  clear hbeg
  go_enter Tryz.func142, Tryz.ntmps142
  go_wp2_with fail
  refine HG.out.mono ?_
  rintro e w1 ⟨rfl, hb⟩
  have HB1 : Hid (Below w.heap.size w w1) := Lib.hid (((Below.refl _ _).alloc (Nat.le_refl _) _).trans (hb.mono (by simp)))
  have o1 := (Own.new w 32 [.int .i64 0, .slice none 0 0, .slice none 0 0]).below hb (by simp)
  have HO1 := Lib.hid o1
  clear hb o1
  go_wp2_with fail
  refine (HS1.out _).mono ?_
  rintro e w2 ⟨rfl, rfl⟩
  go_wp2_with fail
  refine (HS2.out _).mono ?_
  rintro e w2 ⟨rfl, rfl⟩
  have e1 := HE1.out
  have e3 := HE3.out
  go_wp2_with fail
  clear e1 e3
  have HZ0 : Hid (Below w.heap.size w w1.drew.drew ∧ Own w1.drew.drew w.heap.size 32 [.int .i64 0, .slice none 0 0, .slice none 0 0]) := Lib.hid ⟨HB1.out.drew.drew, HO1.out⟩
  generalize w1.drew.drew = w2 at *
  clear HB1 HO1 HG HS1 HS2
  have HS9 : Hid (Below w.heap.size w w2.drew ∧ Own w2.drew w.heap.size 32 [.int .i64 0, .slice none 0 0, .slice none 0 0]) := Lib.hid ⟨HZ0.out.1.drew, HZ0.out.2⟩
  refine wp_region_held_drew (S := (fun w' => Below w.heap.size w w' ∧ Own w' w.heap.size 32 [.int .i64 0, .slice none 0 0, .slice none 0 0])) (by kernel_rfl) HS9.out (fun hHeld => ?_)
  have e2 := HE2'.out
  have hbc : (beg : Int) ≤ (c : Int) := HF.out.2.2.2.2.2.2
  clear hn1 hs1
  refine wpAnyH_take (i := 0) (v := ?_) rfl (by kernel_rfl) (by kernel_rfl) (by kernel_rfl) (fun _ _ _ h => h) (Or.inl ⟨by kernel_rfl, ?_⟩) hHeld ?_
  rotate_left
  · (intro w hSw; first | (go_simp; done) | (go_simp; with_reducible rfl))
  (try simp only [Act.put, List.getElem_toArray, List.getElem_cons_succ, List.getElem_cons_zero, List.setIfInBounds_toArray, List.set_cons_zero, List.set_cons_succ])
  refine wpAnyH_take (i := 1) (v := ?_) rfl (by kernel_rfl) (by kernel_rfl) (by kernel_rfl) (fun _ _ _ h => h) (Or.inl ⟨by kernel_rfl, ?_⟩) hHeld ?_
  rotate_left
  · (intro w hSw; first | (go_simp; done) | (go_simp; with_reducible rfl))
  (try simp only [Act.put, List.getElem_toArray, List.getElem_cons_succ, List.getElem_cons_zero, List.setIfInBounds_toArray, List.set_cons_zero, List.set_cons_succ])
  refine wpAnyH_take (i := 3) (v := ?_) rfl (by kernel_rfl) (by kernel_rfl) (by kernel_rfl) (fun _ _ _ h => h) (Or.inl ⟨by kernel_rfl, ?_⟩) hHeld ?_
  rotate_left
  · (intro w hSw; first | (go_simp; done) | (go_simp; with_reducible rfl))
  (try simp only [Act.put, List.getElem_toArray, List.getElem_cons_succ, List.getElem_cons_zero, List.setIfInBounds_toArray, List.set_cons_zero, List.set_cons_succ])
  refine wpAnyH_take (i := 4) (v := ?_) rfl (by kernel_rfl) (by kernel_rfl) (by kernel_rfl) (fun _ _ _ h => h) (Or.inl ⟨by kernel_rfl, ?_⟩) hHeld ?_
  rotate_left
  · (intro w hSw; first | (go_simp; done) | (go_simp; with_reducible rfl))
  (try simp only [Act.put, List.getElem_toArray, List.getElem_cons_succ, List.getElem_cons_zero, List.setIfInBounds_toArray, List.set_cons_zero, List.set_cons_succ])
  refine wpAnyH_take (i := 5) (v := ?_) rfl (by kernel_rfl) (by kernel_rfl) (by kernel_rfl) (fun _ _ _ h => h) (Or.inl ⟨by kernel_rfl, ?_⟩) hHeld ?_
  rotate_left
  · (intro w hSw; first | (go_simp; done) | (go_simp; with_reducible rfl))
  (try simp only [Act.put, List.getElem_toArray, List.getElem_cons_succ, List.getElem_cons_zero, List.setIfInBounds_toArray, List.set_cons_zero, List.set_cons_succ])
  refine wpAnyH_ready (rs := [2]) (by kernel_rfl) (by simp) (AllReadyH.cons rfl (fun K hK => ?_) AllReadyH.nil)
  have hH := hHeld
  (go_simp; go_at_call 98; refine (HW.out _).mono ?_; rintro e w6 ⟨aw, cw, rfl, hrw, hb6⟩)
  refine hK.out _ _ (by exact ⟨hH.1.trans (hb6.mono hH.1.size), hH.2.below hb6 hH.2.lt⟩) (fun hHq1 => ?_)
  clear hK K hH 
  (try simp only [Act.put, List.getElem_toArray, List.getElem_cons_succ, List.getElem_cons_zero, List.setIfInBounds_toArray, List.set_cons_zero, List.set_cons_succ])
  refine wpAnyH_ready (rs := [6]) (by kernel_rfl) (by simp) (AllReadyH.cons rfl (fun K hK => ?_) AllReadyH.nil)
  have hH := hHq1
  (go_simp; go_at_call 167; refine (HU.out _ _ _ hrw hH.1).mono ?_; rintro e w7 ⟨rfl, hb7⟩)
  refine hK.out _ _ (by exact ⟨hH.1.trans (hb7.mono hH.1.size), hH.2.below hb7 hH.2.lt⟩) (fun hHq2 => ?_)
  clear hK K hH hHq1
  (try simp only [Act.put, List.getElem_toArray, List.getElem_cons_succ, List.getElem_cons_zero, List.setIfInBounds_toArray, List.set_cons_zero, List.set_cons_succ])
  refine wpAnyH_take (i := 7) (v := ?_) rfl (by kernel_rfl) (by kernel_rfl) (by kernel_rfl) (fun _ _ _ h => h) (Or.inl ⟨by kernel_rfl, ?_⟩) hHq2 ?_
  rotate_left
  · (intro w hSw; first | (go_simp; done) | (go_simp; with_reducible rfl))
  (try simp only [Act.put, List.getElem_toArray, List.getElem_cons_succ, List.getElem_cons_zero, List.setIfInBounds_toArray, List.set_cons_zero, List.set_cons_succ])
  refine wpAnyH_take (i := 8) (v := ?_) rfl (by kernel_rfl) (by kernel_rfl) (by kernel_rfl) (fun _ _ _ h => h) (Or.inl ⟨by kernel_rfl, ?_⟩) hHq2 ?_
  rotate_left
  · (intro w hSw; first | (go_simp; done) | (go_simp; with_reducible rfl))
  (try simp only [Act.put, List.getElem_toArray, List.getElem_cons_succ, List.getElem_cons_zero, List.setIfInBounds_toArray, List.set_cons_zero, List.set_cons_succ])
  refine wpAnyH_take (i := 9) (v := ?_) rfl (by kernel_rfl) (by kernel_rfl) (by kernel_rfl) (fun _ _ _ h => h) (Or.inl ⟨by kernel_rfl, ?_⟩) hHq2 ?_
  rotate_left
  · (intro w hSw; first | (go_simp; done) | (go_simp; with_reducible rfl))
  (try simp only [Act.put, List.getElem_toArray, List.getElem_cons_succ, List.getElem_cons_zero, List.setIfInBounds_toArray, List.set_cons_zero, List.set_cons_succ])
  refine wpAnyH_take (i := 10) (v := ?_) rfl (by kernel_rfl) (by kernel_rfl) (by kernel_rfl) (fun _ _ _ h => h) (Or.inl ⟨by kernel_rfl, ?_⟩) hHq2 ?_
  rotate_left
  · (intro w hSw; first | (go_simp; done) | (go_simp; with_reducible rfl))
  (try simp only [Act.put, List.getElem_toArray, List.getElem_cons_succ, List.getElem_cons_zero, List.setIfInBounds_toArray, List.set_cons_zero, List.set_cons_succ])
  refine wpAnyH_take (i := 11) (v := ?_) rfl (by kernel_rfl) (by kernel_rfl) (by kernel_rfl) (fun _ _ _ h => h) (Or.inl ⟨by kernel_rfl, ?_⟩) hHq2 ?_
  rotate_left
  · (intro w hSw; first | (go_simp; done) | (go_simp; with_reducible rfl))
  (try simp only [Act.put, List.getElem_toArray, List.getElem_cons_succ, List.getElem_cons_zero, List.setIfInBounds_toArray, List.set_cons_zero, List.set_cons_succ])
  refine wpAnyH_done (by kernel_rfl) ?_ _
  have hEnd := hHq2
  clear hHeld e2
  have HB7 : Hid (Below w.heap.size w w7) := Lib.hid hEnd.1
  have oR := hEnd.2
  have d0 := oR.cell 0
  have d1 := oR.cell 1
  have d2 := oR.cell 2
  have f0 := oR.frozen 0
  have f1 := oR.frozen 1
  have f2 := oR.frozen 2
  simp at d0 d1 d2
  clear hrw hb6 hb7 hEnd oR hbc
  go_wp2_with fail
  refine bodyPost_ret (v := .tuple #[cev 0 none 0 0 none 0 0, .bool false]) (by simp [results, Tryz.results142, go_sem, d0, d1, d2]) rfl ⟨rfl, ?_⟩
  exact ((HB7.out.setCell (Nat.le_refl _) _).setCell (Nat.le_refl _) _).setCell (Nat.le_refl _) _
end Go.Proofs.YteenlkmnadjnpaaGreat
namespace Go.Proofs.YteenlkmnadjnpaaGreat
open Go.RowKit Go.Deep
set_option linter.unusedVariables false
set_option linter.unusedSimpArgs false

theorem data_no (bs : List UInt8) (n : Nat) (a : Option Addr) (c B : Nat) (w : World) (hn : bs.length = n) (h : Ro w B a (u8s bs)) (hB : B ≤ w.heap.size) (hnc : n ≤ c) (hc : c ≤ 9223372036854775807) (hl : n ≤ 1000000) (hno : ∀ x, ¬ IsDec bs x) :
    Calls Tryz.prog 142 #[.slice a n c] w fun e w' => e = .returned (.tuple #[cev 0 none 0 0 none 0 0, .bool false]) ∧ Below w.heap.size w w' := by
  by_cases h2 : n < 2
  · exact data_no1 n a c w h2
  by_cases h3 : num bs 0 12 / 1024 ≠ 1 ∨ n < num bs 0 12 % 128
  · exact data_no2 bs n a c B w hn h hB hl (by omega) h3
  · by_cases h4 : UnpOk (wid (cntOf bs)) (bs.take (begOf bs))
    · exact absurd (show IsDec bs _ from ⟨by omega, by omega, by omega, h4, rfl⟩) (hno _)
    · exact data_no3 bs n a c B w hn h hB hnc hc hl (by omega) (by omega) (by omega) h4

/-- a cell that has been read, over letters -/
def DcR (w : World) (dn ln : Nat) (d : List UInt8) (L : List Bk) (e : Ending) (w' : World) : Prop := ∃ a1 c1 a2 c2, e = .returned (.tuple #[cev 1 a1 dn c1 a2 ln c2, .int .i64 0]) ∧ Ro w' w'.heap.size a1 (u8s d) ∧ Ro w' w'.heap.size a2 (bcs L) ∧ Frs w a1 ∧ Frs w a2 ∧ Below w.heap.size w w'
/-- how the first test goes -/
theorem first_no {bs : List UInt8} {n : Nat} (hn : bs.length = n) (h : bs ≠ [2]) : ((n : Int) == 1) = false ∨ (n = 1 ∧ ∃ z : UInt8, bs = [z] ∧ ((z.toNat : Int) == 2) = false) := by
  by_cases h1 : n = 1
  · subst h1
    obtain ⟨z, rfl⟩ := List.length_eq_one_iff.1 hn
    refine .inr ⟨rfl, z, rfl, ?_⟩
    rw [beq_eq_false_iff_ne]
    intro e
    apply h
    have : z = 2 := UInt8.toNat_inj.1 (by show z.toNat = 2; omega)
    rw [this]
  · exact .inl (by rw [beq_eq_false_iff_ne]; omega)

set_option maxHeartbeats 1000000 in
theorem decode_a (bs : List UInt8) (n : Nat) (a : Option Addr) (c B : Nat) (w : World) (hn : bs.length = n) (h : Ro w B a (u8s bs)) (hB : B ≤ w.heap.size) (hnc : n ≤ c) (hc : c ≤ 9223372036854775807) (hl : n ≤ 1000000) (h2 : bs ≠ [2]) (hno : ∀ x, ¬ IsDec bs x) :
    Calls Tryz.prog 113 #[.slice a n c] w fun e w' => e = .returned (.tuple #[cev 0 none 0 0 none 0 0, .int .i64 71]) ∧ Below w.heap.size w w' := by
  have HD := Lib.hid (data_no bs n a c B (w.alloc (.cells #[.int .i64 0, .slice none 0 0, .slice none 0 0] 32)) hn (h.below ((Below.refl B w).alloc hB _) (Nat.le_refl _)) (by simp; omega) hnc hc hl hno)
  have HB0 := Lib.hid hB
  rcases first_no hn h2 with h1 | ⟨rfl, z, rfl, hz⟩
  · clear h2 hnc hl hn h hno hB hc
    go_enter Tryz.func113, Tryz.ntmps113
    go_wp2_with fail
    refine HD.out.mono ?_
    rintro e w1 ⟨rfl, hb⟩
    have HB := Lib.hid hb
    have o1 := (Own.new w 32 [.int .i64 0, .slice none 0 0, .slice none 0 0]).below hb (by simp)
    have c0 := o1.cell 0
    have c1 := o1.cell 1
    have c2 := o1.cell 2
    have f0 := o1.frozen 0
    have f1 := o1.frozen 1
    have f2 := o1.frozen 2
    have hz := o1.lt
    simp at c0 c1 c2
    clear hb o1
    go_wp2_with fail
    refine bodyPost_ret (v := .tuple #[cev 0 none 0 0 none 0 0, .int .i64 71]) (by simp [results, Tryz.results113, go_sem, c0, c1, c2, hz]) rfl ⟨rfl, ?_⟩
    exact (((((Below.refl w.heap.size w).alloc (Nat.le_refl _) _).trans (HB.out.mono (by simp))).setCell (Nat.le_refl _) _).setCell (Nat.le_refl _) _).setCell (Nat.le_refl _) _ |>.alloc (by simp [set_size]; omega) _
  · obtain ⟨b, off, rfl, hb0, hcl⟩ := h.u8 (by simp)
    have hc0 := hcl 0 (by simp)
    have hblt : b < w.heap.size := by omega
    change w.cell? ⟨b, off, none⟩ = some (.int .u8 (z.toNat : Int)) at hc0
    clear h2 hnc hl hn h hno hB hc hcl
    go_enter Tryz.func113, Tryz.ntmps113
    go_wp2_with fail
    refine HD.out.mono ?_
    rintro e w1 ⟨rfl, hb⟩
    have HB := Lib.hid hb
    have o1 := (Own.new w 32 [.int .i64 0, .slice none 0 0, .slice none 0 0]).below hb (by simp)
    have c0 := o1.cell 0
    have c1 := o1.cell 1
    have c2 := o1.cell 2
    have f0 := o1.frozen 0
    have f1 := o1.frozen 1
    have f2 := o1.frozen 2
    have hz := o1.lt
    simp at c0 c1 c2
    clear hb o1
    go_wp2_with fail
    refine bodyPost_ret (v := .tuple #[cev 0 none 0 0 none 0 0, .int .i64 71]) (by simp [results, Tryz.results113, go_sem, c0, c1, c2, hz]) rfl ⟨rfl, ?_⟩
    exact (((((Below.refl w.heap.size w).alloc (Nat.le_refl _) _).trans (HB.out.mono (by simp))).setCell (Nat.le_refl _) _).setCell (Nat.le_refl _) _).setCell (Nat.le_refl _) _ |>.alloc (by simp [set_size]; omega) _

set_option maxHeartbeats 2000000 in
theorem decode_b (bs : List UInt8) (n : Nat) (a : Option Addr) (c B : Nat) (w : World) (hn : bs.length = n) (h : Ro w B a (u8s bs)) (hB : B ≤ w.heap.size) (hnc : n ≤ c) (hc : c ≤ 9223372036854775807) (hl : n ≤ 1000000) (x : Ce) (hx : IsDec bs x) (hr : right x = false) :
    Calls Tryz.prog 113 #[.slice a n c] w fun e w' => e = .returned (.tuple #[cev 0 none 0 0 none 0 0, .int .i64 71]) ∧ Below w.heap.size w w' := by
  have HD := Lib.hid (data_yes bs n a c B (w.alloc (.cells #[.int .i64 0, .slice none 0 0, .slice none 0 0] 32)) hn (h.below ((Below.refl B w).alloc hB _) (Nat.le_refl _)) (by simp; omega) hnc hc hl x hx)
  have h1 : ((n : Int) == 1) = false := by rw [beq_eq_false_iff_ne]; have := hx.1; omega
  have hk : x.k = 1 := by rw [hx.2.2.2.2]
  have HLd : Hid (x.d.length ≤ 1000000) := Lib.hid (by rw [hx.2.2.2.2]; simp only [List.length_drop]; omega)
  have HLb : Hid (x.b.length ≤ 1000000) := Lib.hid (by rw [hx.2.2.2.2]; simp [cntOf]; omega)
  have HRi := Lib.hid hr
  clear hx hr h hnc hl hn hB hc
  obtain ⟨k, d, L⟩ := x
  simp only at hk
  subst hk
  go_enter Tryz.func113, Tryz.ntmps113
  go_wp2_with fail
  refine HD.out.mono ?_
  rintro e w1 hp
  unfold DcP at hp
  obtain ⟨a1, c1, a2, c2, rfl, hr1, hr2, -, -, hb⟩ := hp
  have HB := Lib.hid hb
  have HR := Lib.hid (right_any ⟨1, d, L⟩ a1 c1 a2 c2 w1.heap.size (w1.alloc (.cells #[.int .i64 1, .slice a1 d.length c1, .slice a2 L.length c2] 32)) (hr2.below ((Below.refl w1.heap.size w1).alloc (Nat.le_refl _) _) (Nat.le_refl _)) (by simp) (by have := HLb.out; simp only at this ⊢; omega) (by have := HLd.out; simp only at this ⊢; omega))
  rw [HRi.out] at HR
  simp only at HR ⊢
  have o1 := (Own.new w 32 [.int .i64 0, .slice none 0 0, .slice none 0 0]).below hb (by simp)
  have HO1 := Lib.hid o1
  clear hr1 hr2 hb o1
  generalize d.length = dn at *
  generalize L.length = ln at *
  go_wp2_with fail
  refine HR.out.mono ?_
  rintro e w2 ⟨rfl, hb⟩
  have HB2 := Lib.hid hb
  have o2 := (HO1.out.alloc (.cells #[.int .i64 1, .slice a1 dn c1, .slice a2 ln c2] 32)).below hb (by have := HO1.out.lt; simp; omega)
  have c0 := o2.cell 0
  have c1' := o2.cell 1
  have c2' := o2.cell 2
  have f0 := o2.frozen 0
  have f1 := o2.frozen 1
  have f2 := o2.frozen 2
  simp at c0 c1' c2'
  clear hb o2
  go_wp2_with fail
  refine bodyPost_ret (v := .tuple #[cev 0 none 0 0 none 0 0, .int .i64 71]) (by simp [results, Tryz.results113, go_sem, c0, c1', c2']) rfl ⟨rfl, ?_⟩
  have hbw : Below w.heap.size w w1 := ((Below.refl w.heap.size w).alloc (Nat.le_refl _) _).trans (HB.out.mono (by simp))
  have hbw2 : Below w.heap.size w w2 := (hbw.alloc hbw.size _).trans (HB2.out.mono (by have := hbw.size; simp; omega))
  exact ((hbw2.setCell (Nat.le_refl _) _).setCell (Nat.le_refl _) _).setCell (Nat.le_refl _) _

set_option maxHeartbeats 2000000 in
theorem decode_c (bs : List UInt8) (n : Nat) (a : Option Addr) (c B : Nat) (w : World) (hn : bs.length = n) (h : Ro w B a (u8s bs)) (hB : B ≤ w.heap.size) (hnc : n ≤ c) (hc : c ≤ 9223372036854775807) (hl : n ≤ 1000000) (x : Ce) (hx : IsDec bs x) (hr : right x = true) :
    Calls Tryz.prog 113 #[.slice a n c] w (DcP w x (.int .i64 0)) := by
  have HD := Lib.hid (data_yes bs n a c B (w.alloc (.cells #[.int .i64 0, .slice none 0 0, .slice none 0 0] 32)) hn (h.below ((Below.refl B w).alloc hB _) (Nat.le_refl _)) (by simp; omega) hnc hc hl x hx)
  have h1 : ((n : Int) == 1) = false := by rw [beq_eq_false_iff_ne]; have := hx.1; omega
  have hk : x.k = 1 := by rw [hx.2.2.2.2]
  have HLd : Hid (x.d.length ≤ 1000000) := Lib.hid (by rw [hx.2.2.2.2]; simp only [List.length_drop]; omega)
  have HLb : Hid (x.b.length ≤ 1000000) := Lib.hid (by rw [hx.2.2.2.2]; simp [cntOf]; omega)
  have HRi := Lib.hid hr
  clear hx hr h hnc hl hn hB hc
  obtain ⟨k, d, L⟩ := x
  simp only at hk
  subst hk
  unfold DcP
  simp only
  change Calls _ _ _ _ (DcR w d.length L.length d L)
  go_enter Tryz.func113, Tryz.ntmps113
  go_wp2_with fail
  refine HD.out.mono ?_
  rintro e w1 hp
  unfold DcP at hp
  obtain ⟨a1, c1, a2, c2, rfl, hr1, hr2, hf1, hf2, hb⟩ := hp
  have HB := Lib.hid hb
  have HR := Lib.hid (right_any ⟨1, d, L⟩ a1 c1 a2 c2 w1.heap.size (w1.alloc (.cells #[.int .i64 1, .slice a1 d.length c1, .slice a2 L.length c2] 32)) (hr2.below ((Below.refl w1.heap.size w1).alloc (Nat.le_refl _) _) (Nat.le_refl _)) (by simp) (by have := HLb.out; simp only at this ⊢; omega) (by have := HLd.out; simp only at this ⊢; omega))
  rw [HRi.out] at HR
  simp only at HR ⊢
  have o1 := (Own.new w 32 [.int .i64 0, .slice none 0 0, .slice none 0 0]).below hb (by simp)
  have HO1 := Lib.hid o1
  have HR1 := Lib.hid hr1
  have HR2 := Lib.hid hr2
  have HF1 : Hid (∀ ad, a1 = some ad → w.heap.size < ad.block) := Lib.hid fun ad e => by have := hf1 ad e; simp at this; omega
  have HF2 : Hid (∀ ad, a2 = some ad → w.heap.size < ad.block) := Lib.hid fun ad e => by have := hf2 ad e; simp at this; omega
  clear hr1 hr2 hb o1 hf1 hf2
  generalize d.length = dn at *
  generalize L.length = ln at *
  go_wp2_with fail
  refine HR.out.mono ?_
  rintro e w2 ⟨rfl, hb⟩
  have HB2 := Lib.hid hb
  have HBA : Hid (Below w1.heap.size w1 w2) := Lib.hid (((Below.refl w1.heap.size w1).alloc (Nat.le_refl _) _).trans (hb.mono (by simp)))
  have o2 := (HO1.out.alloc (.cells #[.int .i64 1, .slice a1 dn c1, .slice a2 ln c2] 32)).below hb (by have := HO1.out.lt; simp; omega)
  have o3 := (Own.new w1 32 [.int .i64 1, .slice a1 dn c1, .slice a2 ln c2]).below hb (by simp)
  have c0 := o2.cell 0
  have c1' := o2.cell 1
  have c2' := o2.cell 2
  have f0 := o2.frozen 0
  have f1 := o2.frozen 1
  have f2 := o2.frozen 2
  have d0 := o3.cell 0
  have d1 := o3.cell 1
  have d2 := o3.cell 2
  simp at c0 c1' c2' d0 d1 d2
  have hne : w.heap.size < w1.heap.size := HO1.out.lt
  clear hb o2 o3
  go_wp2_with fail
  refine bodyPost_ret (v := .tuple #[cev 1 a1 dn c1 a2 ln c2, .int .i64 0]) (by simp [results, Tryz.results113, go_sem, c0, c1', c2']) rfl ?_
  unfold DcR
  refine ⟨a1, c1, a2, c2, rfl, ?_, ?_, fun ad e => Nat.le_of_lt (HF1.out ad e), fun ad e => Nat.le_of_lt (HF2.out ad e), ?_⟩
  · have h := HR1.out.below HBA.out (Nat.le_refl _)
    refine (((h.far fun ad e => ?_).far fun ad e => ?_).far fun ad e => ?_).mono (by simp [set_size]; exact HBA.out.size)
    all_goals exact Nat.ne_of_gt (HF1.out ad e)
  · have h := HR2.out.below HBA.out (Nat.le_refl _)
    refine (((h.far fun ad e => ?_).far fun ad e => ?_).far fun ad e => ?_).mono (by simp [set_size]; exact HBA.out.size)
    all_goals exact Nat.ne_of_gt (HF2.out ad e)
  · have hbw : Below w.heap.size w w1 := ((Below.refl w.heap.size w).alloc (Nat.le_refl _) _).trans (HB.out.mono (by simp))
    have hbw2 : Below w.heap.size w w2 := hbw.trans (HBA.out.mono hbw.size)
    exact ((hbw2.setCell (Nat.le_refl _) _).setCell (Nat.le_refl _) _).setCell (Nat.le_refl _) _
end Go.Proofs.YteenlkmnadjnpaaGreat
namespace Go.Proofs.YteenlkmnadjnpaaGreat
open Go.RowKit Go.Deep
set_option linter.unusedVariables false
set_option linter.unusedSimpArgs false

set_option maxHeartbeats 1000000 in
theorem decode_j (a : Option Addr) (c B : Nat) (w : World) (h : Ro w B a (u8s [2])) (hB : B ≤ w.heap.size) :
    Calls Tryz.prog 113 #[.slice a 1 c] w fun e w' => e = .returned (.tuple #[cev 2 none 0 0 none 0 0, .int .i64 0]) ∧ Below w.heap.size w w' := by
  obtain ⟨b, off, rfl, hb0, hcl⟩ := h.u8 (by simp)
  have hc0 := hcl 0 (by simp)
  have hblt : b < w.heap.size := by omega
  change w.cell? ⟨b, off, none⟩ = some (.int .u8 2) at hc0
  clear h hcl
  go_enter Tryz.func113, Tryz.ntmps113
  go_wp2_with fail
  refine bodyPost_ret (v := .tuple #[cev 2 none 0 0 none 0 0, .int .i64 0]) (by simp [results, Tryz.results113, go_sem]) rfl ⟨rfl, ?_⟩
  exact (Below.refl w.heap.size w).alloc (Nat.le_refl _) _

/-- bytes of a valid cell -/
theorem dec_yes (bs : List UInt8) (n : Nat) (a : Option Addr) (c B : Nat) (w : World) (hn : bs.length = n) (h : Ro w B a (u8s bs)) (hB : B ≤ w.heap.size) (hnc : n ≤ c) (hc : c ≤ 9223372036854775807) (hl : n ≤ 1000000) (x : Ce) (hx : IsEnc x bs) (hr : right x = true) :
    Calls Tryz.prog 113 #[.slice a n c] w (DcP w x (.int .i64 0)) := by
  rcases right_kind hr with hk | hk
  · exact decode_c bs n a c B w hn h hB hnc hc hl x (dec_of_enc hx hr hk) hr
  · obtain rfl := right_junk hr hk
    rcases hx with ⟨_, rfl⟩ | ⟨h1, _⟩
    · subst hn
      refine (decode_j a c B w h hB).mono ?_
      rintro e w' ⟨rfl, hb⟩
      exact ⟨none, 0, none, 0, rfl, Ro.nil _ _ _, Ro.nil _ _ _, (fun ad e => nomatch e), (fun ad e => nomatch e), hb⟩
    · simp at h1
/-- bytes of none -/
theorem dec_no (bs : List UInt8) (n : Nat) (a : Option Addr) (c B : Nat) (w : World) (hn : bs.length = n) (h : Ro w B a (u8s bs)) (hB : B ≤ w.heap.size) (hnc : n ≤ c) (hc : c ≤ 9223372036854775807) (hl : n ≤ 1000000) (hno : ∀ x, right x = true → ¬ IsEnc x bs) :
    Calls Tryz.prog 113 #[.slice a n c] w fun e w' => e = .returned (.tuple #[cev 0 none 0 0 none 0 0, .int .i64 71]) ∧ Below w.heap.size w w' := by
  have h2 : bs ≠ [2] := fun e => hno ⟨2, [], []⟩ rfl (.inl ⟨rfl, e⟩)
  by_cases hx : ∃ x, IsDec bs x
  · obtain ⟨x, hx⟩ := hx
    cases hr : right x with
    | true => exact absurd (enc_of_dec hx hr) (hno x hr)
    | false => exact decode_b bs n a c B w hn h hB hnc hc hl x hx hr
  · exact decode_a bs n a c B w hn h hB hnc hc hl h2 (fun x hd => hx ⟨x, hd⟩)

/-- is a cell one that is asked about? -/
def fitsC (x : Ce) : Bool := decide (x.d.length ≤ 400) && decide (x.b.length ≤ 30)
set_option maxHeartbeats 400000 in
theorem fits_any (k : Int) (a : Option Addr) (n c : Nat) (a2 : Option Addr) (n2 c2 : Nat) (w : World) :
    Calls Tryz.prog 38 #[cev k a n c a2 n2 c2] w fun e w' => e = .returned (.bool (decide (n ≤ 400) && decide (n2 ≤ 30))) ∧ Below w.heap.size w w' := by
  by_cases h : n ≤ 400
  · have h1 : decide (n ≤ 400) = true := by simpa using h
    rw [h1, Bool.true_and]
    go_enter Tryz.func38, Tryz.ntmps38
    go_wp2_with fail
    go_ret
    exact ⟨ret_bool (by rw [decide_eq_decide]; omega), (Below.refl _ _).alloc (Nat.le_refl _) _⟩
  · have h1 : decide (n ≤ 400) = false := by simpa using h
    rw [h1, Bool.false_and]
    go_enter Tryz.func38, Tryz.ntmps38
    go_wp2_with fail
    go_ret
    exact ⟨rfl, (Below.refl _ _).alloc (Nat.le_refl _) _⟩

def aliveC : Ce := ⟨1, [97, 98], [(3, 7, 18446744073709551615)]⟩
theorem alive_right : right aliveC = true := by decide
theorem alive_enc : IsEnc aliveC [72, 35, 0, 0, 60, 0, 0, 0, 97, 98] := .inr ⟨rfl, [72, 35, 0, 0, 60, 0, 0, 0], ⟨by decide, by decide⟩, rfl⟩
end Go.Proofs.YteenlkmnadjnpaaGreat
namespace Go.Proofs.YteenlkmnadjnpaaGreat
open Go.RowKit Go.Deep Go.Shelf
set_option linter.unusedVariables false
set_option linter.unusedSimpArgs false

theorem rep_mem {α : Type} {p : Nat → α × Nat} {P : α → Prop} (h : ∀ k, P (p k).1) : ∀ n k, ∀ x ∈ (rep p n k).1, P x
  | 0, k, x, hx => by cases hx
  | n + 1, k, x, hx => by
    rw [rep] at hx
    rcases List.mem_append.1 hx with hx | hx
    · exact rep_mem h n k x hx
    · simp only [List.mem_singleton] at hx
      subst hx
      exact h _
theorem fit_of {T : LyT} {bs : List UInt8} (h : T.x = pLy bs) : SgFit T.sg ∧ T.sg.length ≤ 4 := by
  have h1 : sgx T.sg = (rep (pSg bs) (tkN bs 26 2 + 1) 28).1 := by
    have := congrArg Ly.s h
    exact this
  have h2 := tkN_lt bs 26 2
  have h3 : T.sg.length = tkN bs 26 2 + 1 := by rw [← sgx_length, h1, rep_length]
  refine ⟨⟨by omega, fun s hs => ?_⟩, by omega⟩
  have hm : s.x ∈ (rep (pSg bs) (tkN bs 26 2 + 1) 28).1 := by rw [← h1]; exact List.mem_map_of_mem hs
  have h4 := rep_mem (p := pSg bs) (P := fun x => x.2.length ≤ 4 ∧ ∀ c ∈ x.2, c.length ≤ 4) (fun k => ⟨(pSg_at bs k).2, fun c hc => rep_mem (p := pCh bs) (P := fun c => c.length ≤ 4) (fun k => (pCh_at bs k).2) _ _ c hc⟩) _ _ _ hm
  obtain ⟨h5, h6⟩ := h4
  have h7 : s.x.2 = chx s.ch := rfl
  rw [h7, chx_length] at h5
  refine ⟨by omega, fun c hc => ?_⟩
  have := h6 c.u (List.mem_map_of_mem hc)
  omega
theorem Sl.ro {w : World} {base : Nat} {a : Option Addr} {n c : Nat} {L : List SgT} (h : Sl w base (.slice a n c) L) : Ro w w.heap.size a (sgv L) := by
  obtain ⟨a', c', e, hr, _⟩ := h.form
  injection e with e1 _ _
  rw [e1]
  exact hr

/-- what Decode of a layout tells -/
def DL (w : World) (bs : List UInt8) (e : Ending) (w' : World) : Prop :=
  Below w.heap.size w w' ∧ ((∃ T : LyT, e = .returned (.tuple #[T.val, .int .i64 0]) ∧ lright (pLy bs) = true ∧ IsLE (pLy bs) bs ∧ T.x = pLy bs ∧ LyIn w' w'.heap.size T ∧ SgFit T.sg) ∨
    (e = .returned (.tuple #[.agg #[.int .u64 0, .slice none 0 0, .int .i64 0], .int .i64 91]) ∧ ∀ x, lright x = true → ¬ IsLE x bs))
theorem noLE_of {bs : List UInt8} (h : lright (pLy bs) = true → ¬ IsLE (pLy bs) bs) : ∀ x, lright x = true → ¬ IsLE x bs := fun x hr he => by
  have := pLy_enc' hr he
  rw [this] at h
  exact h hr he

def DLG (w : World) (bs : List UInt8) (e : Ending) (w' : World) : Prop :=
  Below w.heap.size w w' ∧ ((∃ T : LyT, e = .returned (.tuple #[T.val, .int .i64 0]) ∧ lright (pLy bs) = true ∧ IsLE (pLy bs) bs ∧ T.x = pLy bs ∧ LyIn w' w'.heap.size T ∧ SgFit T.sg ∧ Sl w' w.heap.size (.slice T.a T.sg.length T.c) T.sg ∧ GwS w' w.heap.size T.sg) ∨
    (e = .returned (.tuple #[.agg #[.int .u64 0, .slice none 0 0, .int .i64 0], .int .i64 91]) ∧ ∀ x, lright x = true → ¬ IsLE x bs))
theorem GwS.base {w : World} {base base' : Nat} {Gs : List SgT} (h : GwS w base Gs) (hb : base' ≤ base) : GwS w base' Gs := fun T hT => ⟨(h T hT).1.base hb, (h T hT).2.base hb⟩
set_option maxHeartbeats 4000000 in
theorem ldecG_any (bs : List UInt8) (n : Nat) (a : Option Addr) (c B : Nat) (w : World) (hn : bs.length = n) (hro : Ro w B a (u8s bs)) (hB : B ≤ w.heap.size) (hl : n ≤ 1000000) :
    Calls Tryz.prog 115 #[.slice a n c] w (DLG w bs) := by
  obtain ⟨W, HWW⟩ : ∃ W, Hid (w.alloc (.cells #[.int .u64 0, .slice none 0 0, .int .i64 0] 38) = W) := ⟨_, Lib.hid rfl⟩
  obtain ⟨W2, HW2⟩ : ∃ W2, Hid (W.alloc (.cells #[.slice a n c, .int .i64 0] 184) = W2) := ⟨_, Lib.hid rfl⟩
  have hWc : Chg [] w W := by rw [← HWW.out]; exact (Chg.refl [] w).alloc _
  have hWc2 : Chg [] w W2 := by rw [← HW2.out]; exact hWc.alloc _
  have hs : W.heap.size = w.heap.size + 1 := by rw [← HWW.out]; simp
  have o1 : Own W w.heap.size 38 [.int .u64 0, .slice none 0 0, .int .i64 0] := by rw [← HWW.out]; exact Own.new w _ _
  have HO1 : Hid (Own W2 w.heap.size 38 [.int .u64 0, .slice none 0 0, .int .i64 0]) := Lib.hid (by rw [← HW2.out]; exact o1.alloc _)
  have HSRC : Hid (Src W2 184 B (w.heap.size + 1) bs 0) := Lib.hid ⟨⟨a, c, by rw [hn, ← hs, ← HW2.out]; exact Own.new W _ _, hro.below hWc2.low hB⟩, by omega, by omega⟩
  have HC2 := Lib.hid hWc2
  have HRO := Lib.hid hro
  have HBW := Lib.hid hB
  have HN := Lib.hid hn
  have HS := Lib.hid hs
  clear hWc hWc2 hs o1 hro hB hn
  go_enter Tryz.func115, Tryz.ntmps115
  go_upto_region 1 with fail
  rw [HWW.out]
  go_upto_region 2 with fail
  rw [HW2.out, HS.out]
  go_wp2_with fail
  refine (lply_any bs B (w.heap.size + 1) W2 HSRC.out).mono ?_
  rintro e w1 ⟨T, rfl, hx, h1, h2, h3⟩
  have HX := Lib.hid hx
  have HFIT := Lib.hid (fit_of hx)
  have HSL1 := Lib.hid h1
  have HGW1 := Lib.hid h2
  have HIN1 : Hid (LyIn w1 w1.heap.size T) := Lib.hid ⟨h1.ro, h2.inn⟩
  have HC1 : Hid (Below w.heap.size w w1) := Lib.hid ((HC2.out.nil1 [w.heap.size + 1]).trans h3 |>.below (Nat.le_refl _) (by simp))
  have HO2 := Lib.hid (HO1.out.chg h3 (by simp))
  have HNoB := Lib.hid (@noLE_of bs)
  clear h1 h2 h3 hx
  obtain ⟨y, hy⟩ : ∃ y, pLy bs = y := ⟨_, rfl⟩
  have HY := Lib.hid hy
  rw [hy] at HX HNoB
  obtain ⟨r, hr⟩ : ∃ r, lright y = r := ⟨_, rfl⟩
  have HR := Lib.hid hr
  obtain ⟨ep, al, cl, L, q⟩ := T
  simp only [LyT.val]
  obtain ⟨m, hm⟩ : ∃ m, L.length = m := ⟨_, rfl⟩
  have HM := Lib.hid hm
  rw [hm]
  clear hy hm hr
  go_upto_region 3 with fail
  obtain ⟨p, hp⟩ : ∃ p, w1.heap.size = p := ⟨_, rfl⟩
  have HPW : Hid (w.heap.size < p) := Lib.hid (by rw [← hp]; exact HO2.out.lt)
  obtain ⟨W3, hW3⟩ : ∃ W3, w1.alloc (.cells #[.int .u64 (ep : Int), .slice al m cl, .int .i64 q] 38) = W3 := ⟨_, rfl⟩
  have HO3 : Hid (Own W3 w.heap.size 38 [.int .u64 0, .slice none 0 0, .int .i64 0]) := Lib.hid (by rw [← hW3]; exact HO2.out.alloc _)
  have HP3 : Hid (Own W3 p 38 [.int .u64 (ep : Int), .slice al m cl, .int .i64 q]) := Lib.hid (by rw [← hW3, ← hp]; exact Own.new w1 _ _)
  have hin : LyIn W3 w1.heap.size ⟨ep, al, cl, L, q⟩ := by rw [← hW3]; exact HIN1.out.below ((Below.refl _ _).alloc (Nat.le_refl _) _) (Nat.le_refl _)
  have HIN3 := Lib.hid hin
  have HC3 : Hid (Below w.heap.size w W3) := Lib.hid (by rw [← hW3]; exact HC1.out.alloc HC1.out.size _)
  have hsz : w1.heap.size ≤ W3.heap.size := by rw [← hW3]; simp
  have HSZ := Lib.hid hsz
  have HB13 : Hid (Below w1.heap.size w1 W3) := Lib.hid (by rw [← hW3]; exact (Below.refl _ _).alloc (Nat.le_refl _) _)
  have HEN : Hid (r = false → Calls Tryz.prog 45 #[.agg #[.int .u64 (ep : Int), .slice al m cl, .int .i64 q]] W3 fun e w' => e = .returned (.tuple #[.slice none 0 0, .int .i64 91]) ∧ Below W3.heap.size W3 w') := Lib.hid fun hr => by
    have := lenc_no ⟨ep, al, cl, L, q⟩ w1.heap.size W3 hin hsz HFIT.out.1 (by rw [HX.out, HR.out, hr])
    simp only [LyT.val, HM.out] at this
    exact this
  have HEY : Hid (r = true → Calls Tryz.prog 45 #[.agg #[.int .u64 (ep : Int), .slice al m cl, .int .i64 q]] W3 fun e w' => ∃ (g : Nat) (cs : List UInt8), e = .returned (.tuple #[.slice (some ⟨g, 0, none⟩) cs.length cs.length, .int .i64 0]) ∧ W3.heap.size ≤ g ∧ IsLE y cs ∧ Own w' g 5 (u8s cs) ∧ Below W3.heap.size W3 w') := Lib.hid fun hr => by
    have := lenc_yes ⟨ep, al, cl, L, q⟩ w1.heap.size W3 hin hsz HFIT.out.1 (by rw [HX.out, HR.out, hr])
    rw [HX.out] at this
    simp only [LyT.val, HM.out] at this
    exact this
  rw [hW3, hp]
  clear hW3 hp hin hsz
  have c0 := HP3.out.cell 0
  have c1 := HP3.out.cell 1
  have c2 := HP3.out.cell 2
  have hz3 := HP3.out.lt
  simp at c0 c1 c2
  cases r with
  | false =>
    go_wp2_with fail
    refine (HEN.out trivial).mono ?_
    rintro e w4 ⟨rfl, hb⟩
    have HB4 := Lib.hid (HC3.out.trans (hb.mono HC3.out.size))
    have HO4 := Lib.hid (HO3.out.below hb HO3.out.lt)
    have r0 := HO4.out.cell 0
    have r1 := HO4.out.cell 1
    have r2 := HO4.out.cell 2
    have f0 := HO4.out.frozen 0
    have f1 := HO4.out.frozen 1
    have f2 := HO4.out.frozen 2
    have hz4 := HO4.out.lt
    simp at r0 r1 r2
    clear hb c0 c1 c2 hz3
    go_wp2_with fail
    refine bodyPost_ret (v := .tuple #[.agg #[.int .u64 0, .slice none 0 0, .int .i64 0], .int .i64 91]) (by simp [results, Tryz.results115, go_sem, r0, r1, r2, hz4]) rfl ?_
    exact ⟨((HB4.out.setCell (Nat.le_refl _) _).setCell (Nat.le_refl _) _).setCell (Nat.le_refl _) _, .inr ⟨rfl, HNoB.out (fun h => by rw [HR.out] at h; cases h)⟩⟩
  | true =>
    go_wp2_with fail
    refine (HEY.out trivial).mono ?_
    rintro e w4 ⟨g, cs, rfl, hg, he, ho, hb⟩
    have HB4 := Lib.hid (HC3.out.trans (hb.mono HC3.out.size))
    have HO4 := Lib.hid (HO3.out.below hb HO3.out.lt)
    have HP4 := Lib.hid (HP3.out.below hb HP3.out.lt)
    have HB14 : Hid (Below w1.heap.size w1 w4) := Lib.hid (HB13.out.trans (hb.mono HSZ.out))
    have HSZ4 := Lib.hid (Nat.le_trans HSZ.out hb.size)
    have HE := Lib.hid he
    obtain ⟨nc, hnc⟩ : ∃ nc, cs.length = nc := ⟨_, rfl⟩
    have HEQ := Lib.hid (bytesEqual_any cs bs nc n (some ⟨g, 0, none⟩) a nc c w4.heap.size w4 hnc HN.out (ho.ro _ ho.lt) ((HRO.out.below HB4.out HBW.out).mono (Nat.le_trans HBW.out HB4.out.size)))
    rw [hnc]
    have r0 := HO4.out.cell 0
    have r1 := HO4.out.cell 1
    have r2 := HO4.out.cell 2
    have f0 := HO4.out.frozen 0
    have f1 := HO4.out.frozen 1
    have f2 := HO4.out.frozen 2
    have d0 := HP4.out.cell 0
    have d1 := HP4.out.cell 1
    have d2 := HP4.out.cell 2
    have hz4 := HO4.out.lt
    simp at r0 r1 r2 d0 d1 d2
    clear hb c0 c1 c2 hz3 ho hg he hnc
    by_cases heq : cs = bs
    · have hE : decide (cs = bs) = true := by simpa using heq
      rw [hE] at HEQ
      have HEQ2 := Lib.hid heq
      clear heq hE
      go_wp2_with fail
      refine HEQ.out.mono ?_
      rintro e w5 ⟨rfl, rfl⟩
      go_wp2_with fail
      refine bodyPost_ret (v := .tuple #[.agg #[.int .u64 (ep : Int), .slice al m cl, .int .i64 q], .int .i64 0]) (by simp [results, Tryz.results115, go_sem, r0, r1, r2, d0, d1, d2, hz4]) rfl ?_
      refine ⟨((HB4.out.setCell (Nat.le_refl _) _).setCell (Nat.le_refl _) _).setCell (Nat.le_refl _) _, .inl ⟨⟨ep, al, cl, L, q⟩, by simp only [LyT.val, HM.out], by rw [HY.out]; exact HR.out, by rw [HY.out, ← HEQ2.out]; exact HE.out, by rw [HY.out]; exact HX.out, ?_⟩⟩
      have hb4 : Below w1.heap.size w1 w5 := HB14.out
      have sc : Chg [w.heap.size] w5 (((w5.setCell ⟨w.heap.size, 0, none⟩ (.int .u64 (ep : Int))).setCell ⟨w.heap.size, 1, none⟩ (.slice al m cl)).setCell ⟨w.heap.size, 2, none⟩ (.int .i64 q)) := (((Chg.refl _ w5).setCell (by simp) _).setCell (by simp) _).setCell (by simp) _
      have g1 := (HSL1.out.below hb4).chg sc (HO4.out.notT' (by decide))
      have g2 := (HGW1.out.chg ((Chg.refl [] w1).of_below hb4) (by simp) (by simp)).chg sc (HO4.out.notT' (by decide)) (HO4.out.notT' (by decide))
      exact ⟨⟨g1.ro, g2.inn⟩, HFIT.out.1, g1.base HC2.out.size, g2.base HC2.out.size⟩
    · have hE : decide (cs = bs) = false := by simpa using heq
      rw [hE] at HEQ
      have HEQ2 := Lib.hid heq
      clear heq hE
      go_wp2_with fail
      refine HEQ.out.mono ?_
      rintro e w5 ⟨rfl, rfl⟩
      go_wp2_with fail
      refine bodyPost_ret (v := .tuple #[.agg #[.int .u64 0, .slice none 0 0, .int .i64 0], .int .i64 91]) (by simp [results, Tryz.results115, go_sem, r0, r1, r2, hz4]) rfl ?_
      exact ⟨((HB4.out.setCell (Nat.le_refl _) _).setCell (Nat.le_refl _) _).setCell (Nat.le_refl _) _, .inr ⟨rfl, HNoB.out (fun _ h => HEQ2.out (HE.out.unique h))⟩⟩
theorem ldec_any (bs : List UInt8) (n : Nat) (a : Option Addr) (c B : Nat) (w : World) (hn : bs.length = n) (hro : Ro w B a (u8s bs)) (hB : B ≤ w.heap.size) (hl : n ≤ 1000000) :
    Calls Tryz.prog 115 #[.slice a n c] w (DL w bs) := by
  refine (ldecG_any bs n a c B w hn hro hB hl).mono ?_
  rintro e w' ⟨hb, ⟨T, h1, h2, h3, h4, h5, h6, _⟩ | h⟩
  · exact ⟨hb, .inl ⟨T, h1, h2, h3, h4, h5, h6⟩⟩
  · exact ⟨hb, .inr h⟩
end Go.Proofs.YteenlkmnadjnpaaGreat
namespace Go.Proofs.YteenlkmnadjnpaaGreat
open Go.RowKit Go.Deep
set_option linter.unusedVariables false
set_option linter.unusedSimpArgs false

theorem Lst.cap {w : World} {base n c : Nat} {e : TypeId} {a : Option Addr} {xs : List Value} (h : Lst w base e (.slice a n c) xs) : c ≤ 9223372036854775807 := by
  rcases h.2 with ⟨hv, _⟩ | ⟨g, cap, cur, hv, _, _, _, hm, _⟩
  · injection hv with _ _ hv; omega
  · injection hv with _ _ hv; unfold maxLen at hm; omega
theorem Lb.apart {w : World} {base n c : Nat} {a : Option Addr} {L : List Bk} {l : List Nat} (h : Lb w base (.slice a n c) L) (hl : ∀ x ∈ l, x < base) : RoX w l a (bcs L) := by
  obtain ⟨a', c', h1, h2, _⟩ := h.form
  injection h1 with h1 _ _
  subst h1
  rcases h2 with h2 | ⟨b, off, g1, g2, g3⟩
  · exact .inl h2
  · refine .inr ⟨b, off, g1, g2, fun hm => ?_, g3⟩
    have hr := h.row b (by rw [g1]; simp [rowOf, Value.ownBlock]) |>.1
    have := hl b hm
    omega
theorem Frs.apart {w w' : World} {a : Option Addr} {vs : List Value} {l : List Nat} (h : Ro w' w'.heap.size a vs) (hf : Frs w a) (hl : ∀ x ∈ l, x < w.heap.size) : RoX w' l a vs := by
  rcases h with h | ⟨b, off, g1, g2, g3⟩
  · exact .inl h
  · refine .inr ⟨b, off, g1, g2, fun hm => ?_, g3⟩
    have hr := hf _ g1
    have := hl b hm
    simp only at hr
    omega
theorem RoX.mono {w : World} {l l' : List Nat} {a : Option Addr} {vs : List Value} (h : RoX w l a vs) (hl : ∀ x ∈ l', x ∈ l) : RoX w l' a vs := by
  rcases h with h | ⟨b, off, h1, h2, h3, h4⟩
  · exact .inl h
  · exact .inr ⟨b, off, h1, h2, fun hm => h3 (hl b hm), h4⟩
theorem RoX.nil (w : World) (l : List Nat) (a : Option Addr) : RoX w l a [] := .inl rfl
theorem decC_fit (l : List UInt8) : (decC l).d.length ≤ 100 ∧ (decC l).b.length ≤ 4 ∧ ∀ b ∈ (decC l).b, FitB b := by
  by_cases h : ∃ x, right x = true ∧ IsEnc x l
  · obtain ⟨x, hr, he⟩ := h
    rw [decC_yes hr he]
    rcases right_kind hr with hk | hk
    · obtain ⟨h1, h2, h3⟩ := right_data hr hk
      refine ⟨h1, h2, fun b hb => ?_⟩
      obtain ⟨i, hi, rfl⟩ := List.getElem_of_mem hb
      have h4 := backsOk_at h3 i hi
      have e : bk x.b i = x.b[i] := by simp [bk, hi]
      rw [e] at h4
      obtain ⟨g1, g2, g3, g4⟩ := h4
      have g5 := lastOk_iff.1 g4
      unfold FitB
      omega
    · rw [right_junk hr hk]
      exact ⟨by simp, by simp, fun b hb => by cases hb⟩
  · rw [decC_no (fun x h1 h2 => h ⟨x, h1, h2⟩)]
    exact ⟨by simp [noC], by simp [noC], fun b hb => by cases hb⟩
/-- Decode of a cell, by what its bytes say -/
theorem cdec_u (bs : List UInt8) (n : Nat) (a : Option Addr) (c B : Nat) (w : World) (hn : bs.length = n) (h : Ro w B a (u8s bs)) (hB : B ≤ w.heap.size) (hnc : n ≤ c) (hc : c ≤ 9223372036854775807) (hl : n ≤ 1000000) :
    Calls Tryz.prog 113 #[.slice a n c] w fun e w' => ∃ a1 c1 a2 c2 g, e = .returned (.tuple #[cev (decC bs).k a1 (decC bs).d.length c1 a2 (decC bs).b.length c2, .int .i64 g]) ∧ Ro w' w'.heap.size a1 (u8s (decC bs).d) ∧ Ro w' w'.heap.size a2 (bcs (decC bs).b) ∧ Frs w a1 ∧ Frs w a2 ∧ Below w.heap.size w w' := by
  by_cases hx : ∃ x, right x = true ∧ IsEnc x bs
  · obtain ⟨x, hr, he⟩ := hx
    refine (dec_yes bs n a c B w hn h hB hnc hc hl x he hr).mono ?_
    rintro e w' ⟨a1, c1, a2, c2, he', h1, h2, h3, h4, h5⟩
    rw [decC_yes hr he]
    exact ⟨a1, c1, a2, c2, 0, he', h1, h2, h3, h4, h5⟩
  · have hno := fun x h1 h2 => hx ⟨x, h1, h2⟩
    refine (dec_no bs n a c B w hn h hB hnc hc hl hno).mono ?_
    rintro e w' ⟨he', hb⟩
    rw [decC_no hno]
    exact ⟨none, 0, none, 0, 71, he', Ro.nil _ _ _, Ro.nil _ _ _, (fun ad e => nomatch e), (fun ad e => nomatch e), hb⟩
/-- Decode of a layout, by what its bytes say -/
theorem ldec_u (bs : List UInt8) (n : Nat) (a : Option Addr) (c B : Nat) (w : World) (hn : bs.length = n) (hro : Ro w B a (u8s bs)) (hB : B ≤ w.heap.size) (hl : n ≤ 1000000) :
    Calls Tryz.prog 115 #[.slice a n c] w fun e w' => ∃ (T : LyT) (g : Int), e = .returned (.tuple #[T.val, .int .i64 g]) ∧ T.x = decL bs ∧ SgFit T.sg ∧ Sl w' w.heap.size (.slice T.a T.sg.length T.c) T.sg ∧ GwS w' w.heap.size T.sg ∧ Below w.heap.size w w' := by
  refine (ldecG_any bs n a c B w hn hro hB hl).mono ?_
  rintro e w' ⟨hb, ⟨T, h1, h2, h3, h4, h5, h6, h7, h8⟩ | ⟨h1, h2⟩⟩
  · exact ⟨T, 0, h1, by rw [decL_yes h2 h3]; exact h4, h6, h7, h8, hb⟩
  · exact ⟨⟨0, none, 0, [], 0⟩, 91, h1, by rw [decL_no h2]; rfl, ⟨by simp, (fun s hs => by cases hs)⟩, Sl.nil _ _, (fun s hs => by cases hs), hb⟩

/-- where the walk that reads a message stands: k bits read, the result in block w.heap.size, the message in block p -/
def Fr (w : World) (B s : Nat) (bs : List UInt8) (p k : Nat) (T : MgT) (W : World) : Prop := Src W 98 B s bs k ∧ Chg [s] w W ∧ Own W w.heap.size 40 zmT.cs ∧ Own W p 40 T.cs
theorem Fr.step {w : World} {B s p : Nat} {bs : List UInt8} {k k' : Nat} {T : MgT} {W W' : World} (h : Fr w B s bs p k T W) (hs : s < w.heap.size ∧ w.heap.size < p) (h1 : Src W' 98 B s bs k') (h2 : Chg [s] W W') : Fr w B s bs p k' T W' :=
  ⟨h1, h.2.1.trans h2, h.2.2.1.chg h2 (by simp; omega), h.2.2.2.chg h2 (by simp; omega)⟩
theorem Fr.below {w : World} {B s p : Nat} {bs : List UInt8} {k : Nat} {T : MgT} {W W' : World} (h : Fr w B s bs p k T W) (hb : Below W.heap.size W W') : Fr w B s bs p k T W' :=
  have hc : Chg [] W W' := (Chg.refl [] W).of_below hb
  ⟨h.1.new0 hc, h.2.1.trans (hc.nil1 [s]), h.2.2.1.chg hc (by simp), h.2.2.2.chg hc (by simp)⟩
theorem Fr.set {w : World} {B s p : Nat} {bs : List UInt8} {k : Nat} {T : MgT} {W : World} (h : Fr w B s bs p k T W) (hs : s < w.heap.size ∧ w.heap.size < p) (i : Nat) (v : Value) (T' : MgT) (e : T'.cs = T.cs.set i v) : Fr w B s bs p k T' (W.setCell ⟨p, i, none⟩ v) := by
  have hc : Chg [p] W (W.setCell ⟨p, i, none⟩ v) := (Chg.refl _ W).setCell (by simp) _
  have hB := h.1.2.1
  refine ⟨h.1.chg hc (by simp; omega) (fun x hx => by simp only [List.mem_singleton] at hx; subst hx; omega), h.2.1.then hc (fun x hx => by simp only [List.mem_singleton] at hx; subst hx; exact .inr (by omega)), h.2.2.1.chg hc (by simp; omega), ?_⟩
  rw [e]
  exact h.2.2.2.set i v
/-- three cells at once -/
theorem Fr.set3 {w : World} {B s p : Nat} {bs : List UInt8} {k : Nat} {T : MgT} {W : World} (h : Fr w B s bs p k T W) (hs : s < w.heap.size ∧ w.heap.size < p) (i : Nat) (v1 v2 v3 : Value) (T' : MgT) (e : T'.cs = ((T.cs.set i v1).set (i + 1) v2).set (i + 2) v3) : Fr w B s bs p k T' (((W.setCell ⟨p, i, none⟩ v1).setCell ⟨p, i + 1, none⟩ v2).setCell ⟨p, i + 2, none⟩ v3) := by
  have hc : Chg [p] W (((W.setCell ⟨p, i, none⟩ v1).setCell ⟨p, i + 1, none⟩ v2).setCell ⟨p, i + 2, none⟩ v3) := (((Chg.refl _ W).setCell (by simp) _).setCell (by simp) _).setCell (by simp) _
  have hB := h.1.2.1
  refine ⟨h.1.chg hc (by simp; omega) (fun x hx => by simp only [List.mem_singleton] at hx; subst hx; omega), h.2.1.then hc (fun x hx => by simp only [List.mem_singleton] at hx; subst hx; exact .inr (by omega)), h.2.2.1.chg hc (by simp; omega), ?_⟩
  rw [e]
  exact ((h.2.2.2.set i v1).set (i + 1) v2).set (i + 2) v3
theorem Fr.lt {w : World} {B s p : Nat} {xs : List Nat} {bs : List UInt8} {k : Nat} {T : MgT} {W : World} (h : Fr w B s bs p k T W) (hs : s < w.heap.size ∧ w.heap.size < p) (hx : ∀ x ∈ xs, x < w.heap.size) : ∀ y ∈ s :: w.heap.size :: p :: xs, y < W.heap.size := by
  have := h.2.2.2.lt
  intro y hy
  simp only [List.mem_cons] at hy
  rcases hy with rfl | rfl | rfl | hy
  · omega
  · omega
  · omega
  · have := hx y hy
    omega
/-- the slices of a message lie apart from the blocks of l -/
structure MgX (W : World) (base : Nat) (l : List Nat) (T : MgT) : Prop where
  d : RoX W l T.ca (u8s T.c.d)
  b : RoX W l T.ca2 (bcs T.c.b)
  st : RoX W l T.sa (i64s T.st)
  bk : RoX W l T.ka (bcs T.bk)
  sl : Sl W base (.slice T.ly.a T.ly.sg.length T.ly.c) T.ly.sg
  gw : GwS W base T.ly.sg
theorem MgX.inn {W : World} {base : Nat} {l : List Nat} {T : MgT} (h : MgX W base l T) : MgIn W W.heap.size T := ⟨h.d.ro, h.b.ro, h.st.ro, h.bk.ro, h.sl.ro, h.gw.inn⟩
theorem MgX.own {W W' : World} {base b : Nat} {l l' : List Nat} {T : MgT} {cs : List Value} (h : MgX W base l T) (hc : Chg [b] W W') (hb : b ∈ l) (ho : Own W b 40 cs) (hl : ∀ x ∈ l', x ∈ l) : MgX W' base l' T := by
  have hc' : Chg l W W' := hc.mono (fun x hx => by simp only [List.mem_singleton] at hx; subst hx; exact .inl hb)
  exact ⟨(h.d.chg hc').mono hl, (h.b.chg hc').mono hl, (h.st.chg hc').mono hl, (h.bk.chg hc').mono hl, h.sl.chg hc (ho.notT' (by decide)), h.gw.chg hc (ho.notT' (by decide)) (ho.notT' (by decide))⟩
theorem MgX.below {W W' : World} {base : Nat} {l : List Nat} {T : MgT} (h : MgX W base l T) (hb : Below W.heap.size W W') : MgX W' base l T := by
  have hc : Chg [] W W' := (Chg.refl [] W).of_below hb
  have hc' : Chg l W W' := hc.mono (fun x hx => by cases hx)
  exact ⟨h.d.chg hc', h.b.chg hc', h.st.chg hc', h.bk.chg hc', h.sl.chg hc (by simp), h.gw.chg hc (by simp) (by simp)⟩
theorem MgX.base {W : World} {base base' : Nat} {l : List Nat} {T : MgT} (h : MgX W base l T) (hb : base' ≤ base) : MgX W base' l T := ⟨h.d, h.b, h.st, h.bk, h.sl.base hb, h.gw.base hb⟩
end Go.Proofs.YteenlkmnadjnpaaGreat
