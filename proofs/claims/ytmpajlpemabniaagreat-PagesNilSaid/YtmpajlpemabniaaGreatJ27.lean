/-
  dataOf of package cell where what is packed is not as its widths ask; Decode, by its contracts. No claim of its own.
-/
import Derived.Test.YtmpajlpemabniaaGreatCeG
import Derived.Test.YtmpajlpemabniaaGreatJ12
import Derived.Test.YtmpajlpemabniaaGreatJ11
import Derived.Laws.StructEq
namespace Go.Proofs.YtmpajlpemabniaaGreat
open Go.RowKit Go.Deep
set_option linter.unusedVariables false
set_option linter.unusedSimpArgs false

set_option maxHeartbeats 8000000 in
theorem data_no3 (bs : List UInt8) (n : Nat) (a : Option Addr) (c B : Nat) (w : World) (hn : bs.length = n) (h : Ro w B a (u8s bs)) (hB : B ≤ w.heap.size) (hnc : n ≤ c) (hc : c ≤ 9223372036854775807) (hl : n ≤ 1000000) (h2 : 2 ≤ n) (hnb : num bs 0 12 / 1024 = 1) (hsz : num bs 0 12 % 128 ≤ n) (hno : ¬ UnpOk (wid (cntOf bs)) (bs.take (begOf bs))) :
    Calls Tryz.prog 140 #[.slice a n c] w fun e w' => e = .returned (.tuple #[cev 0 none 0 0 none 0 0, .bool false]) ∧ Below w.heap.size w w' := by
  subst hn
  have HG := Lib.hid (get_yes bs a c B 0 12 (w.alloc (.cells #[.int .i64 0, .slice none 0 0, .slice none 0 0] 42)) (h.below ((Below.refl B w).alloc hB _) (Nat.le_refl _)) (by simp; omega) hl (by omega) (by omega) (by omega) (by omega))
  have hlt := num_lt bs 0 12
  change Hid (Calls _ _ _ _ fun e w' => e = .returned (.tuple #[.int .u64 (num bs 0 12 : Nat), .bool true]) ∧ _) at HG
  have hbl : begOf bs ≤ bs.length := by unfold begOf; omega
  have HU : Hid (∀ W aw cw, Ro W W.heap.size aw (i64s (wid (cntOf bs))) → Below w.heap.size w W → Calls Tryz.prog 87 #[.slice aw (cntOf bs + 1) cw, .slice a (begOf bs) c] W fun e w' => e = .returned (.tuple #[.slice none 0 0, .bool false]) ∧ Below W.heap.size W w') := by
    apply Lib.hid
    intro W aw cw g1 g2
    have hro : Ro W W.heap.size a (u8s (bs.take (begOf bs))) := by
      have := ((h.below g2 hB).mono (Nat.le_trans hB g2.size)).take (begOf bs)
      rwa [show (u8s bs).take (begOf bs) = u8s (bs.take (begOf bs)) by simp [u8s]] at this
    have := unpack_no (wid (cntOf bs)) (bs.take (begOf bs)) aw a cw c W.heap.size W g1 hro (by simp [cntOf]; omega) (by rw [List.length_take]; omega) hno
    rw [wid_length, show (bs.take (begOf bs)).length = begOf bs by rw [List.length_take]; omega] at this
    exact this
  obtain ⟨b0, off, rfl, hb0, -⟩ := h.u8 (by omega)
  clear hno
  have hbeg : begOf bs + num bs 0 12 % 128 = bs.length := by unfold begOf; omega
  have hcd : cntOf bs = num bs 0 12 / 128 % 8 := rfl
  generalize begOf bs = beg at *
  generalize cntOf bs = cnt at *
  generalize num bs 0 12 = h0 at *
  generalize bs.length = n at *
  clear h
  have HS1 := Lib.hid (fun W => split_z (h0 : Int) 7 ((h0 / 128 : Nat) : Int) ((h0 % 128 : Nat) : Int) W (by omega) (by omega) (by omega) (by omega) (by omega))
  have HS2 := Lib.hid (fun W => split_z ((h0 / 128 : Nat) : Int) 3 1 ((h0 / 128 % 8 : Nat) : Int) W (by omega) (by omega) (by omega) (by omega) (by omega))
  change Hid (∀ W, Calls _ _ #[.int .u64 (h0 : Int), .int .i64 7] _ _) at HS1
  change Hid (∀ W, Calls _ _ #[.int .u64 ((h0 / 128 : Nat) : Int), .int .i64 3] _ _) at HS2
  have hR : h0 / 128 < 32 := by omega
  have hs : h0 % 128 < 128 := by omega
  rw [← hcd] at HS2
  have hct : cnt < 8 := by omega
  clear hcd hnb
  generalize h0 / 128 = R at *
  generalize h0 % 128 = sz at *
  have HE1 := Lib.hid (wrap_small sz (Nat.lt_trans hs (by decide)))
  have HE2 := Lib.hid (wrap_small cnt (Nat.lt_trans hct (by decide)))
  have HW := Lib.hid (fun W => widths_any cnt W (Nat.le_of_lt (Nat.lt_trans hct (by decide))))
  have hbc : (beg : Int) ≤ (c : Int) := by omega
  have HE4 : Hid (n - beg = sz) := Lib.hid (by omega)
  have HE3 : Hid ((n : Int) - (sz : Int) = (beg : Int)) := Lib.hid (by omega)
  have HE2' : Hid (IntKind.i64.wrap (cnt : Int) = (cnt : Int)) := Lib.hid (wrap_small2 cnt (Nat.lt_trans hct (by decide)))
  have HF := Lib.hid (And.intro h2 (And.intro hl (And.intro hbl (And.intro hnc (And.intro hc (And.intro hct hbc))))))
  have HR2 := Lib.hid hR
  have HB0 := Lib.hid hB
  have HB00 := Lib.hid hb0
  have hn1 : (n : Int) ≤ 1000000 := by omega
  have hs1 : (sz : Int) ≤ (n : Int) := by omega
  clear h2 hl hbl hnc hc hct hbc hlt hsz hs hR HE2 hB hb0
  have HBEG := Lib.hid hbeg
  clear hbeg
  go_enter Tryz.func140, Tryz.ntmps140
  go_wp2_with fail
  refine HG.out.mono ?_
  rintro e w1 ⟨rfl, hb⟩
  have HB1 : Hid (Below w.heap.size w w1) := Lib.hid (((Below.refl _ _).alloc (Nat.le_refl _) _).trans (hb.mono (by simp)))
  have o1 := (Own.new w 42 [.int .i64 0, .slice none 0 0, .slice none 0 0]).below hb (by simp)
  have HO1 := Lib.hid o1
  clear hb o1
  go_wp2_with fail
  refine (HS1.out _).mono ?_
  rintro e w2 ⟨rfl, rfl⟩
  go_wp2_with fail
  refine (HS2.out _).mono ?_
  rintro e w2 ⟨rfl, rfl⟩
  have e1 := HE1.out
  have e3 := HE3.out
  go_wp2_with fail
  clear e1 e3
  have HZ0 : Hid (Below w.heap.size w w1.drew.drew ∧ Own w1.drew.drew w.heap.size 42 [.int .i64 0, .slice none 0 0, .slice none 0 0]) := Lib.hid ⟨HB1.out.drew.drew, HO1.out⟩
  generalize w1.drew.drew = w2 at *
  clear HB1 HO1 HG HS1 HS2
  have HS9 : Hid (Below w.heap.size w w2.drew ∧ Own w2.drew w.heap.size 42 [.int .i64 0, .slice none 0 0, .slice none 0 0]) := Lib.hid ⟨HZ0.out.1.drew, HZ0.out.2⟩
  refine wp_region_held_drew (S := (fun w' => Below w.heap.size w w' ∧ Own w' w.heap.size 42 [.int .i64 0, .slice none 0 0, .slice none 0 0])) (by kernel_rfl) HS9.out (fun hHeld => ?_)
  have e2 := HE2'.out
  have hbc : (beg : Int) ≤ (c : Int) := HF.out.2.2.2.2.2.2
  clear hn1 hs1
  refine wpAnyH_take (i := 0) (v := ?_) rfl (by kernel_rfl) (by kernel_rfl) (by kernel_rfl) (fun _ _ _ h => h) (Or.inl ⟨by kernel_rfl, ?_⟩) hHeld ?_
  rotate_left
  · (intro w hSw; first | (go_simp; done) | (go_simp; with_reducible rfl))
  (try simp only [Act.put, List.getElem_toArray, List.getElem_cons_succ, List.getElem_cons_zero, List.setIfInBounds_toArray, List.set_cons_zero, List.set_cons_succ])
  refine wpAnyH_take (i := 1) (v := ?_) rfl (by kernel_rfl) (by kernel_rfl) (by kernel_rfl) (fun _ _ _ h => h) (Or.inl ⟨by kernel_rfl, ?_⟩) hHeld ?_
  rotate_left
  · (intro w hSw; first | (go_simp; done) | (go_simp; with_reducible rfl))
  (try simp only [Act.put, List.getElem_toArray, List.getElem_cons_succ, List.getElem_cons_zero, List.setIfInBounds_toArray, List.set_cons_zero, List.set_cons_succ])
  refine wpAnyH_take (i := 3) (v := ?_) rfl (by kernel_rfl) (by kernel_rfl) (by kernel_rfl) (fun _ _ _ h => h) (Or.inl ⟨by kernel_rfl, ?_⟩) hHeld ?_
  rotate_left
  · (intro w hSw; first | (go_simp; done) | (go_simp; with_reducible rfl))
  (try simp only [Act.put, List.getElem_toArray, List.getElem_cons_succ, List.getElem_cons_zero, List.setIfInBounds_toArray, List.set_cons_zero, List.set_cons_succ])
  refine wpAnyH_take (i := 4) (v := ?_) rfl (by kernel_rfl) (by kernel_rfl) (by kernel_rfl) (fun _ _ _ h => h) (Or.inl ⟨by kernel_rfl, ?_⟩) hHeld ?_
  rotate_left
  · (intro w hSw; first | (go_simp; done) | (go_simp; with_reducible rfl))
  (try simp only [Act.put, List.getElem_toArray, List.getElem_cons_succ, List.getElem_cons_zero, List.setIfInBounds_toArray, List.set_cons_zero, List.set_cons_succ])
  refine wpAnyH_take (i := 5) (v := ?_) rfl (by kernel_rfl) (by kernel_rfl) (by kernel_rfl) (fun _ _ _ h => h) (Or.inl ⟨by kernel_rfl, ?_⟩) hHeld ?_
  rotate_left
  · (intro w hSw; first | (go_simp; done) | (go_simp; with_reducible rfl))
  (try simp only [Act.put, List.getElem_toArray, List.getElem_cons_succ, List.getElem_cons_zero, List.setIfInBounds_toArray, List.set_cons_zero, List.set_cons_succ])
  refine wpAnyH_ready (rs := [2]) (by kernel_rfl) (by simp) (AllReadyH.cons rfl (fun K hK => ?_) AllReadyH.nil)
  have hH := hHeld
  (go_simp; go_at_call 197; refine (HW.out _).mono ?_; rintro e w6 ⟨aw, cw, rfl, hrw, hb6⟩)
  refine hK.out _ _ (by exact ⟨hH.1.trans (hb6.mono hH.1.size), hH.2.below hb6 hH.2.lt⟩) (fun hHq1 => ?_)
  clear hK K hH 
  (try simp only [Act.put, List.getElem_toArray, List.getElem_cons_succ, List.getElem_cons_zero, List.setIfInBounds_toArray, List.set_cons_zero, List.set_cons_succ])
  refine wpAnyH_ready (rs := [6]) (by kernel_rfl) (by simp) (AllReadyH.cons rfl (fun K hK => ?_) AllReadyH.nil)
  have hH := hHq1
  (go_simp; go_at_call 87; refine (HU.out _ _ _ hrw hH.1).mono ?_; rintro e w7 ⟨rfl, hb7⟩)
  refine hK.out _ _ (by exact ⟨hH.1.trans (hb7.mono hH.1.size), hH.2.below hb7 hH.2.lt⟩) (fun hHq2 => ?_)
  clear hK K hH hHq1
  (try simp only [Act.put, List.getElem_toArray, List.getElem_cons_succ, List.getElem_cons_zero, List.setIfInBounds_toArray, List.set_cons_zero, List.set_cons_succ])
  refine wpAnyH_take (i := 7) (v := ?_) rfl (by kernel_rfl) (by kernel_rfl) (by kernel_rfl) (fun _ _ _ h => h) (Or.inl ⟨by kernel_rfl, ?_⟩) hHq2 ?_
  rotate_left
  · (intro w hSw; first | (go_simp; done) | (go_simp; with_reducible rfl))
  (try simp only [Act.put, List.getElem_toArray, List.getElem_cons_succ, List.getElem_cons_zero, List.setIfInBounds_toArray, List.set_cons_zero, List.set_cons_succ])
  refine wpAnyH_take (i := 8) (v := ?_) rfl (by kernel_rfl) (by kernel_rfl) (by kernel_rfl) (fun _ _ _ h => h) (Or.inl ⟨by kernel_rfl, ?_⟩) hHq2 ?_
  rotate_left
  · (intro w hSw; first | (go_simp; done) | (go_simp; with_reducible rfl))
  (try simp only [Act.put, List.getElem_toArray, List.getElem_cons_succ, List.getElem_cons_zero, List.setIfInBounds_toArray, List.set_cons_zero, List.set_cons_succ])
  refine wpAnyH_take (i := 9) (v := ?_) rfl (by kernel_rfl) (by kernel_rfl) (by kernel_rfl) (fun _ _ _ h => h) (Or.inl ⟨by kernel_rfl, ?_⟩) hHq2 ?_
  rotate_left
  · (intro w hSw; first | (go_simp; done) | (go_simp; with_reducible rfl))
  (try simp only [Act.put, List.getElem_toArray, List.getElem_cons_succ, List.getElem_cons_zero, List.setIfInBounds_toArray, List.set_cons_zero, List.set_cons_succ])
  refine wpAnyH_take (i := 10) (v := ?_) rfl (by kernel_rfl) (by kernel_rfl) (by kernel_rfl) (fun _ _ _ h => h) (Or.inl ⟨by kernel_rfl, ?_⟩) hHq2 ?_
  rotate_left
  · (intro w hSw; first | (go_simp; done) | (go_simp; with_reducible rfl))
  (try simp only [Act.put, List.getElem_toArray, List.getElem_cons_succ, List.getElem_cons_zero, List.setIfInBounds_toArray, List.set_cons_zero, List.set_cons_succ])
  refine wpAnyH_take (i := 11) (v := ?_) rfl (by kernel_rfl) (by kernel_rfl) (by kernel_rfl) (fun _ _ _ h => h) (Or.inl ⟨by kernel_rfl, ?_⟩) hHq2 ?_
  rotate_left
  · (intro w hSw; first | (go_simp; done) | (go_simp; with_reducible rfl))
  (try simp only [Act.put, List.getElem_toArray, List.getElem_cons_succ, List.getElem_cons_zero, List.setIfInBounds_toArray, List.set_cons_zero, List.set_cons_succ])
  refine wpAnyH_done (by kernel_rfl) ?_ _
  have hEnd := hHq2
  clear hHeld e2
  have HB7 : Hid (Below w.heap.size w w7) := Lib.hid hEnd.1
  have oR := hEnd.2
  have d0 := oR.cell 0
  have d1 := oR.cell 1
  have d2 := oR.cell 2
  have f0 := oR.frozen 0
  have f1 := oR.frozen 1
  have f2 := oR.frozen 2
  simp at d0 d1 d2
  clear hrw hb6 hb7 hEnd oR hbc
  go_wp2_with fail
  refine bodyPost_ret (v := .tuple #[cev 0 none 0 0 none 0 0, .bool false]) (by simp [results, Tryz.results140, go_sem, d0, d1, d2]) rfl ⟨rfl, ?_⟩
  exact ((HB7.out.setCell (Nat.le_refl _) _).setCell (Nat.le_refl _) _).setCell (Nat.le_refl _) _
end Go.Proofs.YtmpajlpemabniaaGreat
namespace Go.Proofs.YtmpajlpemabniaaGreat
open Go.RowKit Go.Deep
set_option linter.unusedVariables false
set_option linter.unusedSimpArgs false

theorem data_no (bs : List UInt8) (n : Nat) (a : Option Addr) (c B : Nat) (w : World) (hn : bs.length = n) (h : Ro w B a (u8s bs)) (hB : B ≤ w.heap.size) (hnc : n ≤ c) (hc : c ≤ 9223372036854775807) (hl : n ≤ 1000000) (hno : ∀ x, ¬ IsDec bs x) :
    Calls Tryz.prog 140 #[.slice a n c] w fun e w' => e = .returned (.tuple #[cev 0 none 0 0 none 0 0, .bool false]) ∧ Below w.heap.size w w' := by
  by_cases h2 : n < 2
  · exact data_no1 n a c w h2
  by_cases h3 : num bs 0 12 / 1024 ≠ 1 ∨ n < num bs 0 12 % 128
  · exact data_no2 bs n a c B w hn h hB hl (by omega) h3
  · by_cases h4 : UnpOk (wid (cntOf bs)) (bs.take (begOf bs))
    · exact absurd (show IsDec bs _ from ⟨by omega, by omega, by omega, h4, rfl⟩) (hno _)
    · exact data_no3 bs n a c B w hn h hB hnc hc hl (by omega) (by omega) (by omega) h4

/-- a cell that has been read, over letters -/
def DcR (w : World) (dn ln : Nat) (d : List UInt8) (L : List Bk) (e : Ending) (w' : World) : Prop := ∃ a1 c1 a2 c2, e = .returned (.tuple #[cev 1 a1 dn c1 a2 ln c2, .int .i64 0]) ∧ Ro w' w'.heap.size a1 (u8s d) ∧ Ro w' w'.heap.size a2 (bcs L) ∧ Frs w a1 ∧ Frs w a2 ∧ Below w.heap.size w w'
/-- how the first test goes -/
theorem first_no {bs : List UInt8} {n : Nat} (hn : bs.length = n) (h : bs ≠ [2]) : ((n : Int) == 1) = false ∨ (n = 1 ∧ ∃ z : UInt8, bs = [z] ∧ ((z.toNat : Int) == 2) = false) := by
  by_cases h1 : n = 1
  · subst h1
    obtain ⟨z, rfl⟩ := List.length_eq_one_iff.1 hn
    refine .inr ⟨rfl, z, rfl, ?_⟩
    rw [beq_eq_false_iff_ne]
    intro e
    apply h
    have : z = 2 := UInt8.toNat_inj.1 (by show z.toNat = 2; omega)
    rw [this]
  · exact .inl (by rw [beq_eq_false_iff_ne]; omega)

set_option maxHeartbeats 1000000 in
theorem decode_a (bs : List UInt8) (n : Nat) (a : Option Addr) (c B : Nat) (w : World) (hn : bs.length = n) (h : Ro w B a (u8s bs)) (hB : B ≤ w.heap.size) (hnc : n ≤ c) (hc : c ≤ 9223372036854775807) (hl : n ≤ 1000000) (h2 : bs ≠ [2]) (hno : ∀ x, ¬ IsDec bs x) :
    Calls Tryz.prog 89 #[.slice a n c] w fun e w' => e = .returned (.tuple #[cev 0 none 0 0 none 0 0, .int .i64 71]) ∧ Below w.heap.size w w' := by
  have HD := Lib.hid (data_no bs n a c B (w.alloc (.cells #[.int .i64 0, .slice none 0 0, .slice none 0 0] 42)) hn (h.below ((Below.refl B w).alloc hB _) (Nat.le_refl _)) (by simp; omega) hnc hc hl hno)
  have HB0 := Lib.hid hB
  rcases first_no hn h2 with h1 | ⟨rfl, z, rfl, hz⟩
  · clear h2 hnc hl hn h hno hB hc
    go_enter Tryz.func89, Tryz.ntmps89
    go_wp2_with fail
    refine HD.out.mono ?_
    rintro e w1 ⟨rfl, hb⟩
    have HB := Lib.hid hb
    have o1 := (Own.new w 42 [.int .i64 0, .slice none 0 0, .slice none 0 0]).below hb (by simp)
    have c0 := o1.cell 0
    have c1 := o1.cell 1
    have c2 := o1.cell 2
    have f0 := o1.frozen 0
    have f1 := o1.frozen 1
    have f2 := o1.frozen 2
    have hz := o1.lt
    simp at c0 c1 c2
    clear hb o1
    go_wp2_with fail
    refine bodyPost_ret (v := .tuple #[cev 0 none 0 0 none 0 0, .int .i64 71]) (by simp [results, Tryz.results89, go_sem, c0, c1, c2, hz]) rfl ⟨rfl, ?_⟩
    exact (((((Below.refl w.heap.size w).alloc (Nat.le_refl _) _).trans (HB.out.mono (by simp))).setCell (Nat.le_refl _) _).setCell (Nat.le_refl _) _).setCell (Nat.le_refl _) _ |>.alloc (by simp [set_size]; omega) _
  · obtain ⟨b, off, rfl, hb0, hcl⟩ := h.u8 (by simp)
    have hc0 := hcl 0 (by simp)
    have hblt : b < w.heap.size := by omega
    change w.cell? ⟨b, off, none⟩ = some (.int .u8 (z.toNat : Int)) at hc0
    clear h2 hnc hl hn h hno hB hc hcl
    go_enter Tryz.func89, Tryz.ntmps89
    go_wp2_with fail
    refine HD.out.mono ?_
    rintro e w1 ⟨rfl, hb⟩
    have HB := Lib.hid hb
    have o1 := (Own.new w 42 [.int .i64 0, .slice none 0 0, .slice none 0 0]).below hb (by simp)
    have c0 := o1.cell 0
    have c1 := o1.cell 1
    have c2 := o1.cell 2
    have f0 := o1.frozen 0
    have f1 := o1.frozen 1
    have f2 := o1.frozen 2
    have hz := o1.lt
    simp at c0 c1 c2
    clear hb o1
    go_wp2_with fail
    refine bodyPost_ret (v := .tuple #[cev 0 none 0 0 none 0 0, .int .i64 71]) (by simp [results, Tryz.results89, go_sem, c0, c1, c2, hz]) rfl ⟨rfl, ?_⟩
    exact (((((Below.refl w.heap.size w).alloc (Nat.le_refl _) _).trans (HB.out.mono (by simp))).setCell (Nat.le_refl _) _).setCell (Nat.le_refl _) _).setCell (Nat.le_refl _) _ |>.alloc (by simp [set_size]; omega) _

set_option maxHeartbeats 2000000 in
theorem decode_b (bs : List UInt8) (n : Nat) (a : Option Addr) (c B : Nat) (w : World) (hn : bs.length = n) (h : Ro w B a (u8s bs)) (hB : B ≤ w.heap.size) (hnc : n ≤ c) (hc : c ≤ 9223372036854775807) (hl : n ≤ 1000000) (x : Ce) (hx : IsDec bs x) (hr : right x = false) :
    Calls Tryz.prog 89 #[.slice a n c] w fun e w' => e = .returned (.tuple #[cev 0 none 0 0 none 0 0, .int .i64 71]) ∧ Below w.heap.size w w' := by
  have HD := Lib.hid (data_yes bs n a c B (w.alloc (.cells #[.int .i64 0, .slice none 0 0, .slice none 0 0] 42)) hn (h.below ((Below.refl B w).alloc hB _) (Nat.le_refl _)) (by simp; omega) hnc hc hl x hx)
  have h1 : ((n : Int) == 1) = false := by rw [beq_eq_false_iff_ne]; have := hx.1; omega
  have hk : x.k = 1 := by rw [hx.2.2.2.2]
  have HLd : Hid (x.d.length ≤ 1000000) := Lib.hid (by rw [hx.2.2.2.2]; simp only [List.length_drop]; omega)
  have HLb : Hid (x.b.length ≤ 1000000) := Lib.hid (by rw [hx.2.2.2.2]; simp [cntOf]; omega)
  have HRi := Lib.hid hr
  clear hx hr h hnc hl hn hB hc
  obtain ⟨k, d, L⟩ := x
  simp only at hk
  subst hk
  go_enter Tryz.func89, Tryz.ntmps89
  go_wp2_with fail
  refine HD.out.mono ?_
  rintro e w1 hp
  unfold DcP at hp
  obtain ⟨a1, c1, a2, c2, rfl, hr1, hr2, -, -, hb⟩ := hp
  have HB := Lib.hid hb
  have HR := Lib.hid (right_any ⟨1, d, L⟩ a1 c1 a2 c2 w1.heap.size (w1.alloc (.cells #[.int .i64 1, .slice a1 d.length c1, .slice a2 L.length c2] 42)) (hr2.below ((Below.refl w1.heap.size w1).alloc (Nat.le_refl _) _) (Nat.le_refl _)) (by simp) (by have := HLb.out; simp only at this ⊢; omega) (by have := HLd.out; simp only at this ⊢; omega))
  rw [HRi.out] at HR
  simp only at HR ⊢
  have o1 := (Own.new w 42 [.int .i64 0, .slice none 0 0, .slice none 0 0]).below hb (by simp)
  have HO1 := Lib.hid o1
  clear hr1 hr2 hb o1
  generalize d.length = dn at *
  generalize L.length = ln at *
  go_wp2_with fail
  refine HR.out.mono ?_
  rintro e w2 ⟨rfl, hb⟩
  have HB2 := Lib.hid hb
  have o2 := (HO1.out.alloc (.cells #[.int .i64 1, .slice a1 dn c1, .slice a2 ln c2] 42)).below hb (by have := HO1.out.lt; simp; omega)
  have c0 := o2.cell 0
  have c1' := o2.cell 1
  have c2' := o2.cell 2
  have f0 := o2.frozen 0
  have f1 := o2.frozen 1
  have f2 := o2.frozen 2
  simp at c0 c1' c2'
  clear hb o2
  go_wp2_with fail
  refine bodyPost_ret (v := .tuple #[cev 0 none 0 0 none 0 0, .int .i64 71]) (by simp [results, Tryz.results89, go_sem, c0, c1', c2']) rfl ⟨rfl, ?_⟩
  have hbw : Below w.heap.size w w1 := ((Below.refl w.heap.size w).alloc (Nat.le_refl _) _).trans (HB.out.mono (by simp))
  have hbw2 : Below w.heap.size w w2 := (hbw.alloc hbw.size _).trans (HB2.out.mono (by have := hbw.size; simp; omega))
  exact ((hbw2.setCell (Nat.le_refl _) _).setCell (Nat.le_refl _) _).setCell (Nat.le_refl _) _

set_option maxHeartbeats 2000000 in
theorem decode_c (bs : List UInt8) (n : Nat) (a : Option Addr) (c B : Nat) (w : World) (hn : bs.length = n) (h : Ro w B a (u8s bs)) (hB : B ≤ w.heap.size) (hnc : n ≤ c) (hc : c ≤ 9223372036854775807) (hl : n ≤ 1000000) (x : Ce) (hx : IsDec bs x) (hr : right x = true) :
    Calls Tryz.prog 89 #[.slice a n c] w (DcP w x (.int .i64 0)) := by
  have HD := Lib.hid (data_yes bs n a c B (w.alloc (.cells #[.int .i64 0, .slice none 0 0, .slice none 0 0] 42)) hn (h.below ((Below.refl B w).alloc hB _) (Nat.le_refl _)) (by simp; omega) hnc hc hl x hx)
  have h1 : ((n : Int) == 1) = false := by rw [beq_eq_false_iff_ne]; have := hx.1; omega
  have hk : x.k = 1 := by rw [hx.2.2.2.2]
  have HLd : Hid (x.d.length ≤ 1000000) := Lib.hid (by rw [hx.2.2.2.2]; simp only [List.length_drop]; omega)
  have HLb : Hid (x.b.length ≤ 1000000) := Lib.hid (by rw [hx.2.2.2.2]; simp [cntOf]; omega)
  have HRi := Lib.hid hr
  clear hx hr h hnc hl hn hB hc
  obtain ⟨k, d, L⟩ := x
  simp only at hk
  subst hk
  unfold DcP
  simp only
  change Calls _ _ _ _ (DcR w d.length L.length d L)
  go_enter Tryz.func89, Tryz.ntmps89
  go_wp2_with fail
  refine HD.out.mono ?_
  rintro e w1 hp
  unfold DcP at hp
  obtain ⟨a1, c1, a2, c2, rfl, hr1, hr2, hf1, hf2, hb⟩ := hp
  have HB := Lib.hid hb
  have HR := Lib.hid (right_any ⟨1, d, L⟩ a1 c1 a2 c2 w1.heap.size (w1.alloc (.cells #[.int .i64 1, .slice a1 d.length c1, .slice a2 L.length c2] 42)) (hr2.below ((Below.refl w1.heap.size w1).alloc (Nat.le_refl _) _) (Nat.le_refl _)) (by simp) (by have := HLb.out; simp only at this ⊢; omega) (by have := HLd.out; simp only at this ⊢; omega))
  rw [HRi.out] at HR
  simp only at HR ⊢
  have o1 := (Own.new w 42 [.int .i64 0, .slice none 0 0, .slice none 0 0]).below hb (by simp)
  have HO1 := Lib.hid o1
  have HR1 := Lib.hid hr1
  have HR2 := Lib.hid hr2
  have HF1 : Hid (∀ ad, a1 = some ad → w.heap.size < ad.block) := Lib.hid fun ad e => by have := hf1 ad e; simp at this; omega
  have HF2 : Hid (∀ ad, a2 = some ad → w.heap.size < ad.block) := Lib.hid fun ad e => by have := hf2 ad e; simp at this; omega
  clear hr1 hr2 hb o1 hf1 hf2
  generalize d.length = dn at *
  generalize L.length = ln at *
  go_wp2_with fail
  refine HR.out.mono ?_
  rintro e w2 ⟨rfl, hb⟩
  have HB2 := Lib.hid hb
  have HBA : Hid (Below w1.heap.size w1 w2) := Lib.hid (((Below.refl w1.heap.size w1).alloc (Nat.le_refl _) _).trans (hb.mono (by simp)))
  have o2 := (HO1.out.alloc (.cells #[.int .i64 1, .slice a1 dn c1, .slice a2 ln c2] 42)).below hb (by have := HO1.out.lt; simp; omega)
  have o3 := (Own.new w1 42 [.int .i64 1, .slice a1 dn c1, .slice a2 ln c2]).below hb (by simp)
  have c0 := o2.cell 0
  have c1' := o2.cell 1
  have c2' := o2.cell 2
  have f0 := o2.frozen 0
  have f1 := o2.frozen 1
  have f2 := o2.frozen 2
  have d0 := o3.cell 0
  have d1 := o3.cell 1
  have d2 := o3.cell 2
  simp at c0 c1' c2' d0 d1 d2
  have hne : w.heap.size < w1.heap.size := HO1.out.lt
  clear hb o2 o3
  go_wp2_with fail
  refine bodyPost_ret (v := .tuple #[cev 1 a1 dn c1 a2 ln c2, .int .i64 0]) (by simp [results, Tryz.results89, go_sem, c0, c1', c2']) rfl ?_
  unfold DcR
  refine ⟨a1, c1, a2, c2, rfl, ?_, ?_, fun ad e => Nat.le_of_lt (HF1.out ad e), fun ad e => Nat.le_of_lt (HF2.out ad e), ?_⟩
  · have h := HR1.out.below HBA.out (Nat.le_refl _)
    refine (((h.far fun ad e => ?_).far fun ad e => ?_).far fun ad e => ?_).mono (by simp [set_size]; exact HBA.out.size)
    all_goals exact Nat.ne_of_gt (HF1.out ad e)
  · have h := HR2.out.below HBA.out (Nat.le_refl _)
    refine (((h.far fun ad e => ?_).far fun ad e => ?_).far fun ad e => ?_).mono (by simp [set_size]; exact HBA.out.size)
    all_goals exact Nat.ne_of_gt (HF2.out ad e)
  · have hbw : Below w.heap.size w w1 := ((Below.refl w.heap.size w).alloc (Nat.le_refl _) _).trans (HB.out.mono (by simp))
    have hbw2 : Below w.heap.size w w2 := hbw.trans (HBA.out.mono hbw.size)
    exact ((hbw2.setCell (Nat.le_refl _) _).setCell (Nat.le_refl _) _).setCell (Nat.le_refl _) _
end Go.Proofs.YtmpajlpemabniaaGreat
namespace Go.Proofs.YtmpajlpemabniaaGreat
open Go.RowKit Go.Deep
set_option linter.unusedVariables false
set_option linter.unusedSimpArgs false

set_option maxHeartbeats 1000000 in
theorem enc_no (x : Ce) (a : Option Addr) (c : Nat) (a2 : Option Addr) (c2 B : Nat) (w : World) (hro : Ro w B a2 (bcs x.b)) (hB : B ≤ w.heap.size) (hl : x.b.length ≤ 9223372036854775807) (hl2 : x.d.length ≤ 9223372036854775807) (hr : right x = false) :
    Calls Tryz.prog 180 #[cev x.k a x.d.length c a2 x.b.length c2] w fun e w' => e = .returned (.tuple #[.slice none 0 0, .int .i64 71]) ∧ Below w.heap.size w w' := by
  have HR := Lib.hid (right_any x a c a2 c2 B (w.alloc (.cells #[.int .i64 x.k, .slice a x.d.length c, .slice a2 x.b.length c2] 42)) (hro.below ((Below.refl B w).alloc hB _) (Nat.le_refl _)) (by simp; omega) hl hl2)
  rw [hr] at HR
  clear hr hro
  go_enter Tryz.func180, Tryz.ntmps180
  go_wp2_with fail
  refine HR.out.mono ?_
  rintro e w1 ⟨rfl, hb⟩
  have HB := Lib.hid hb
  clear hb
  go_wp2_with fail
  go_ret2
  exact ⟨rfl, ((Below.refl _ _).alloc (Nat.le_refl _) _).trans (HB.out.mono (by simp))⟩

set_option maxHeartbeats 1000000 in
theorem enc_junk (a : Option Addr) (c : Nat) (a2 : Option Addr) (c2 : Nat) (w : World) :
    Calls Tryz.prog 180 #[cev 2 a 0 c a2 0 c2] w fun e w' => ∃ g, e = .returned (.tuple #[.slice (some ⟨g, 0, none⟩) 1 1, .int .i64 0]) ∧ Own w' g 5 (u8s [2]) ∧ Below w.heap.size w w' := by
  have HR := Lib.hid (right_any ⟨2, [], []⟩ a c a2 c2 0 (w.alloc (.cells #[.int .i64 2, .slice a 0 c, .slice a2 0 c2] 42)) (Ro.nil _ _ _) (by omega) (by simp) (by simp))
  rw [show right ⟨2, [], []⟩ = true from rfl] at HR
  simp only [List.length_nil] at HR
  go_enter Tryz.func180, Tryz.ntmps180
  go_wp2_with fail
  refine HR.out.mono ?_
  rintro e w1 ⟨rfl, hb⟩
  have HB := Lib.hid hb
  have o1 := (Own.new w 42 [.int .i64 2, .slice a 0 c, .slice a2 0 c2]).below hb (by simp)
  have c0 := o1.cell 0
  simp at c0
  clear hb o1
  go_wp2_with fail
  go_ret2
  exact ⟨w1.heap.size, rfl, Own.new w1 _ _, (((Below.refl _ _).alloc (Nat.le_refl _) _).trans (HB.out.mono (by simp))).alloc (by have := HB.out.size; simp at this; omega) _⟩

theorem Lst.cap_le {w : World} {base : Nat} {e : TypeId} {a : Option Addr} {n c : Nat} {xs : List Value} (h : Lst w base e (.slice a n c) xs) : c ≤ maxLen := by
  unfold Lst at h
  rcases h.2 with ⟨h1, _⟩ | ⟨g, cap, cur, h1, _, _, _, h2, _⟩
  · injection h1 with _ _ h3; subst h3; decide
  · injection h1 with _ _ h3; subst h3; exact h2
theorem vals_take (x : Ce) (k : Nat) (h : k < x.b.length) : (headN x.b.length x.d.length :: (x.b.take (k + 1)).map fieldN) = (headN x.b.length x.d.length :: (x.b.take k).map fieldN) ++ [fieldN (bk x.b k)] := by
  rw [bk_take h]; simp
set_option maxHeartbeats 4000000 in
theorem enc_data (x : Ce) (a : Option Addr) (c : Nat) (a2 : Option Addr) (c2 B : Nat) (w : World) (hro0 : Ro w B a (u8s x.d)) (hro : Ro w B a2 (bcs x.b)) (hB : B ≤ w.heap.size) (hfit : ∀ b ∈ x.b, FitB b) (hk : x.k = 1) (hr : right x = true) :
    Calls Tryz.prog 180 #[cev 1 a x.d.length c a2 x.b.length c2] w fun e w' => ∃ bs a' c', e = .returned (.tuple #[.slice a' bs.length c', .int .i64 0]) ∧ IsEnc x bs ∧ Ro w' w'.heap.size a' (u8s bs) ∧ (bs.length ≤ c' ∧ c' ≤ maxLen) ∧ Below w.heap.size w w' := by
  obtain ⟨hd, hn, hbk⟩ := right_data hr hk
  have HR := Lib.hid (right_any x a c a2 c2 B (w.alloc (.cells #[.int .i64 x.k, .slice a x.d.length c, .slice a2 x.b.length c2] 42)) (hro.below ((Below.refl B w).alloc hB _) (Nat.le_refl _)) (by simp; omega) (by omega) (by omega))
  rw [hr, hk] at HR
  have HP := Lib.hid (packOk_vals hr hk)
  have HK := Lib.hid hk
  have HBK := Lib.hid hbk
  have HRO0 := Lib.hid hro0
  have HRO := Lib.hid hro
  have HF := Lib.hid hfit
  clear hr hro hro0 hk hbk hfit
  obtain ⟨n, HN⟩ : ∃ n, Hid (x.b.length = n) := ⟨_, Lib.hid rfl⟩
  obtain ⟨m, HM⟩ : ∃ m, Hid (x.d.length = m) := ⟨_, Lib.hid rfl⟩
  rw [HN.out] at hn HR ⊢
  rw [HM.out] at hd HR ⊢
  have HH := Lib.hid (fun W => headOf_any 1 a m c a2 n c2 W (by omega) (by omega))
  go_enter Tryz.func180, Tryz.ntmps180
  go_wp2_with fail
  refine HR.out.mono ?_
  rintro e w1 ⟨rfl, hb⟩
  have HB1 := Lib.hid (((Below.refl w.heap.size w).alloc (Nat.le_refl _) (.cells #[.int .i64 1, .slice a m c, .slice a2 n c2] 42)).trans (hb.mono (by simp)))
  have o1 := (Own.new w 42 [.int .i64 1, .slice a m c, .slice a2 n c2]).below hb (by simp)
  have c0 := o1.cell 0
  have c1 := o1.cell 1
  have c2' := o1.cell 2
  simp at c0 c1 c2'
  have HO1 := Lib.hid o1
  clear hb o1
  go_wp2_with fail
  refine (HH.out _).mono ?_
  rintro e w2 ⟨rfl, hb⟩
  have HB2 := Lib.hid (HB1.out.trans (hb.mono HB1.out.size))
  have HO2 := Lib.hid (HO1.out.below hb HO1.out.lt)
  have c2'' := HO2.out.cell 2
  simp at c2''
  have HZ2 := Lib.hid (Nat.lt_of_lt_of_le HO1.out.lt hb.size)
  have hz2 : w.heap.size < w2.heap.size := Nat.lt_of_lt_of_le HO1.out.lt hb.size
  clear hb c0 c1 c2'
  go_wp2_with fail
  obtain ⟨hd0, HD0⟩ : ∃ h, Hid (headN n m = h) := ⟨_, Lib.hid rfl⟩
  rw [HD0.out]
  have HLst0 : Hid (Lst (w2.alloc (.cells #[.int .u64 (hd0 : Int)] 37)) (w.heap.size + 1) 37 (.slice (some ⟨w2.heap.size, 0, none⟩) 1 1) (u64s (hd0 :: (x.b.take 0).map fieldN))) :=
    Lib.hid ((Own.new w2 37 (u64s [hd0])).lst (by omega) 1 rfl (by decide))
  have hnn : (0 : Int) ≤ (n : Int) := by omega
  go_loopw [4, 22] (fun s4 i wr => ∃ (k : Nat) (al : Option Addr) (nl cl : Nat), k ≤ n ∧ i = .int .i64 (k : Int) ∧ s4 = .slice al nl cl ∧ Hid (Lst wr (w.heap.size + 1) 37 (.slice al nl cl) (u64s (hd0 :: (x.b.take k).map fieldN))) ∧ Hid (Below (w.heap.size + 1) w2 wr)) (fun _ i _ => n - (Go.RowKit.intOf i).toNat)
  case atStart => exact ⟨0, _, _, _, Nat.zero_le _, rfl, rfl, HLst0, Lib.hid ((Below.refl _ _).alloc (by omega) _)⟩
  case round =>
    obtain ⟨k, al, nl, cl, hk, rfl, rfl, HL, HBr⟩ := hrel
    have hzr : w.heap.size < wr.heap.size := Nat.lt_of_lt_of_le hz2 HBr.out.size
    have HBw : Hid (Below w.heap.size w wr) := Lib.hid (HB2.out.trans (HBr.out.mono (by omega)))
    have HOr := Lib.hid (HO2.out.below HBr.out (Nat.lt_succ_self _))
    by_cases hlt : k < n
    · have hkL : k < x.b.length := by rw [HN.out]; exact hlt
      obtain ⟨b, off, rfl, hb, hc⟩ := (HRO.out.below HBw.out hB).bk (by omega)
      obtain ⟨c1, c2, c3⟩ := hc k hkL
      have HV := Lib.hid (vals_take x k hkL)
      have hat := backsOk_at HBK.out k hkL
      have hft := HF.out _ (bk_mem hkL)
      clear hc
      have HFt := Lib.hid hft
      have HAt := Lib.hid hat
      generalize bk x.b k = y at *
      have HC := Lib.hid (fun W => fieldOf_any y W (by have := HAt.out; omega) HAt.out.2.2.1 (by have := HFt.out; unfold FitB at this; omega) (by have := HFt.out; unfold FitB at this; omega))
      have hk0 : (0 : Int) ≤ (k : Int) := by omega
      have hk1 : (k : Int) < (n : Int) := by omega
      clear hat hft
      go_wp2_with fail
      refine (HC.out _).mono ?_
      rintro e w4 ⟨rfl, hb4⟩
      have HB4 : Hid (Below (w.heap.size + 1) w2 w4) := Lib.hid ((HBr.out.alloc (by omega) _).trans (hb4.mono (by simp; omega)))
      have HL4 := Lib.hid ((HL.out.alloc (.cells #[.int .i64 y.1, .int .u64 (y.2.1 : Int), .int .u64 (y.2.2 : Int)] 143)).below hb4 (Nat.le_refl _))
      have HZ4 : Hid (w.heap.size < w4.heap.size) := Lib.hid (Nat.lt_of_lt_of_le hz2 HB4.out.size)
      have HLen : Hid ((u64s (hd0 :: (x.b.take k).map fieldN)).length ≤ 5) := Lib.hid (by rw [u64s_length, List.length_cons, List.length_map, List.length_take]; omega)
      clear hb4
      go_wp2_with (at_builtin; refine wpList_app1 rfl (.tmp 26) (.tmp 29) 79 rfl (w.heap.size + 1) 37 (.int .u64 0) 8 Tryz.underlying79 Tryz.info_u64 rfl (.int .u64 (fieldN y : Int)) rfl (.slice al nl cl) (u64s (hd0 :: (x.b.take k).map fieldN)) rfl HL4.out rfl (by have := HLen.out; omega) (by have := HLen.out; omega) (w.heap.size + 1) w2 HB4.out (Nat.le_refl _) HZ4.out ?_)
      intro v' w5 hl5 hb5 hs5
      have HL5 := Lib.hid hl5.out
      have HB5 := Lib.hid hb5
      clear hl5 hb5 hs5
      obtain ⟨al', cl', rfl, _, _, _⟩ := HL5.out.form
      go_wp2_with fail
      go_roundw
      case rel =>
        have hV := HV.out
        rw [HN.out, HM.out, HD0.out] at hV
        refine ⟨k + 1, _, _, _, by omega, by go_num, rfl, ?_, HB5⟩
        rw [hV]
        have := HL5.out
        simpa [u64s] using Lib.hid this
      case measure => simp [Go.RowKit.intOf]; omega
    · obtain rfl : k = n := by omega
      have c2r := HOr.out.cell 2
      simp at c2r
      have hnl : nl = k + 1 := by
        obtain ⟨a', c', he, _, _, _⟩ := HL.out.form
        injection he with _ h2 _
        rw [h2, u64s_length, List.length_cons, List.length_map, List.length_take, HN.out]
        omega
      subst hnl
      have hvals : vals x = hd0 :: (x.b.take k).map fieldN := by
        unfold vals
        rw [List.take_of_length_le (by rw [HN.out]; exact Nat.le_refl _), HN.out, HM.out, HD0.out]
      have HL2 := HL.out
      rw [← hvals] at HL2
      have HL3 := Lib.hid HL2
      have HPK : Hid (∀ W aw cw, Ro W W.heap.size aw (i64s (wid k)) → Ro W W.heap.size al (u64s (vals x)) → Calls Tryz.prog 179 #[.slice aw (k + 1) cw, .slice al (k + 1) cl] W fun e w' => ∃ (g : Nat) (cs : List UInt8) (p : Nat), p = cs.length ∧ e = .returned (.tuple #[.slice (some ⟨g, 0, none⟩) p p, .bool true]) ∧ W.heap.size ≤ g ∧ IsPack (wid k) (vals x) cs ∧ Own w' g 5 (u8s cs) ∧ Below W.heap.size W w') := by
        apply Lib.hid
        intro W aw cw g1 g2
        have := pack_yes (wid k) (vals x) aw al cw cl W.heap.size W g1 g2 (Nat.le_refl _) (by simp; omega) (by have := HP.out; rwa [HN.out] at this)
        rw [wid_length, vals_length, HN.out] at this
        refine this.mono ?_
        rintro e w' ⟨g, cs, h1, h2, h3, h4, h5⟩
        exact ⟨g, cs, _, rfl, h1, h2, h3, h4, h5⟩
      clear HL2 hvals HL
      go_wp2_with fail
      refine (widths_any k _ (by omega)).mono ?_
      rintro e w6 ⟨aw, cw, rfl, hrw, hb6⟩
      have HRW := Lib.hid hrw
      have HL6 := Lib.hid (HL3.out.below hb6 (Nat.le_refl _))
      have HB6 := Lib.hid (HBw.out.trans (hb6.mono HBw.out.size))
      have HO6 := Lib.hid (HOr.out.below hb6 hzr)
      clear hrw hb6
      go_wp2_with fail
      refine (HPK.out _ _ _ HRW.out (by
        obtain ⟨a', c', he, hr, _, _⟩ := HL6.out.form
        injection he with h1 _ _
        subst h1
        exact hr)).mono ?_
      rintro e w7 ⟨g, cs, p, hp, rfl, hg, hpk, hown, hb7⟩
      have HPp := Lib.hid hp
      have HPK2 := Lib.hid hpk
      have HG := Lib.hid (Nat.le_trans HB6.out.size hg)
      have HOwn := Lib.hid hown
      have HB7 := Lib.hid (HB6.out.trans (hb7.mono HB6.out.size))
      have o7 := HO6.out.below hb7 HO6.out.lt
      have d1 := o7.cell 1
      simp at d1
      have hpl : p ≤ 100 := by
        have := hpk.1
        rw [wid_sum] at this
        omega
      clear hp hpk hown hb7 o7 hg
      have HLs : Hid (Lst w7 w.heap.size 5 (.slice (some ⟨g, 0, none⟩) p p) (u8s cs)) := Lib.hid (HOwn.out.lst HG.out p (by rw [u8s_length]; exact HPp.out.symm) (by unfold maxLen; omega))
      have HCl : Hid ((u8s cs).length = p) := Lib.hid (by rw [u8s_length]; exact HPp.out.symm)
      go_wp2_with (at_builtin; refine wpList_appB rfl (.tmp 43) (.tmp 45) 39 rfl w.heap.size 5 (.int .u8 0) 1 Tryz.underlying39 Tryz.info_u8 rfl (.slice (some ⟨g, 0, none⟩) p p) (u8s cs) rfl HLs.out a B m c (u8s x.d) rfl (by rw [u8s_length]; exact HM.out) (HRO0.out.below HB7.out hB) (u8s_oneCell _) (by have := HCl.out; omega) (by have := HCl.out; omega) w.heap.size w HB7.out (Nat.le_refl _) HB7.out.size ?_)
      intro v' w8 hl8 hb8 hs8
      have HL8 := Lib.hid hl8.out
      have HB8 := Lib.hid hb8
      clear hl8 hb8 hs8
      obtain ⟨a8, c8, rfl, hr8, hc8, _⟩ := HL8.out.form
      have HR8 := Lib.hid hr8
      have HC8 := Lib.hid (And.intro hc8 (HL8.out.cap_le))
      clear hr8 hc8
      go_wp2_with fail
      go_ret2
      have e8 : u8s cs ++ u8s x.d = u8s (cs ++ x.d) := by simp [u8s]
      refine ⟨cs ++ x.d, a8, c8, by rw [e8, u8s_length]; rfl, .inr ⟨HK.out, cs, by rw [HN.out]; exact HPK2.out, rfl⟩, by rw [← e8]; exact HR8.out, by have := HC8.out; rw [e8, u8s_length] at this; exact this, HB8.out⟩

/-- Encode of a valid cell -/
theorem enc_yes (x : Ce) (a : Option Addr) (c : Nat) (a2 : Option Addr) (c2 B : Nat) (w : World) (hro0 : Ro w B a (u8s x.d)) (hro : Ro w B a2 (bcs x.b)) (hB : B ≤ w.heap.size) (hfit : ∀ b ∈ x.b, FitB b) (hr : right x = true) :
    Calls Tryz.prog 180 #[cev x.k a x.d.length c a2 x.b.length c2] w fun e w' => ∃ bs a' c', e = .returned (.tuple #[.slice a' bs.length c', .int .i64 0]) ∧ IsEnc x bs ∧ Ro w' w'.heap.size a' (u8s bs) ∧ (bs.length ≤ c' ∧ c' ≤ maxLen) ∧ Below w.heap.size w w' := by
  rcases right_kind hr with hk | hk
  · have := enc_data x a c a2 c2 B w hro0 hro hB hfit hk hr
    rw [← hk] at this
    exact this
  · obtain rfl := right_junk hr hk
    refine (enc_junk a c a2 c2 w).mono ?_
    rintro e w' ⟨g, rfl, ho, hb⟩
    exact ⟨[2], some ⟨g, 0, none⟩, 1, rfl, .inl ⟨rfl, rfl⟩, ho.ro _ ho.lt, ⟨Nat.le_refl _, by decide⟩, hb⟩
end Go.Proofs.YtmpajlpemabniaaGreat
namespace Go.Proofs.YtmpajlpemabniaaGreat
open Go.RowKit Go.Deep
set_option linter.unusedVariables false
set_option linter.unusedSimpArgs false

theorem eq_two (d : Nat) (p q p' q' : Nat) (w : World) : (Op.equalIn (d + 2) 141 (.agg #[.int .u64 (p : Int), .int .u64 (q : Int)]) (.agg #[.int .u64 (p' : Int), .int .u64 (q' : Int)])).run Tryz.prog w = .ok (decide (p = p' ∧ q = q')) w := by
  have hu : Tryz.prog.underlying 141 = some (.array 2 37) := by kernel_rfl
  have hz : (Go.sizeOf 37).run Tryz.prog w = .ok 1 w := Tryz.sizeOf37 w
  rw [Op.equalIn]
  simp only [Sem.run_bind, run_underlying hu, Result.andThen_ok, hz, Std.Legacy.Range.forIn_eq_forIn_range']
  rw [show (List.range' 0 [:2].size) = [0, 1] from rfl]
  have g0 : ∀ (x y : Value), (part 37 #[x, y] 0).run Tryz.prog w = .ok x w := fun x y => run_part_cell Tryz.underlying37 rfl w
  have g1 : ∀ (x y : Value), (part 37 #[x, y] 1).run Tryz.prog w = .ok y w := fun x y => run_part_cell Tryz.underlying37 rfl w
  have ge : ∀ (x y : Int), (Op.equalIn (d + 1) 37 (.int .u64 x) (.int .u64 y)).run Tryz.prog w = .ok (x == y) w := fun x y => run_equalIn_int w d 37 .u64 .u64 _ _ Tryz.underlying37
  by_cases h1 : p = p'
  · subst h1
    by_cases h2 : q = q'
    · subst h2
      simp [g0, g1, ge]
    · have h3 : ((q : Int) == (q' : Int)) = false := by rw [beq_eq_false_iff_ne]; omega
      simp [g0, g1, ge, h2, h3]
  · have h3 : ((p : Int) == (p' : Int)) = false := by rw [beq_eq_false_iff_ne]; omega
    simp [g0, g1, ge, h1, h3]
theorem eq_back (x y : Bk) (w : World) : (Op.equalIn 10000 143 (bkv x) (bkv y)).run Tryz.prog w = .ok (decide (x = y)) w := by
  obtain ⟨s, p, q⟩ := x
  obtain ⟨s', p', q'⟩ := y
  have he := eq_two 9997 p q p' q' w
  have ge : ∀ (x y : Int), (Op.equalIn 9999 3 (.int .i64 x) (.int .i64 y)).run Tryz.prog w = .ok (x == y) w := fun x y => run_equalIn_int w 9998 3 .i64 .i64 _ _ Tryz.underlying3
  refine (run_equalIn_struct w 9999 143 _ _ (by kernel_rfl) (by kernel_rfl)).trans ?_
  have g0 : ∀ (x y z : Value), (part 3 #[x, y, z] 0).run Tryz.prog w = .ok x w := fun x y z => run_part_cell Tryz.underlying3 rfl w
  have gp : ∀ (x y z : Value), (part 141 #[x, y, z] 1).run Tryz.prog w = .ok (.agg #[y, z]) w := fun x y z => by
    have hz : (Go.sizeOf 141).run Tryz.prog w = .ok 2 w := Tryz.sizeOf141 w
    unfold part
    have ha : (isAgg 141).run Tryz.prog w = .ok true w := by
      unfold isAgg; rw [Sem.run_bind, run_underlying (show Tryz.prog.underlying 141 = some (.array 2 37) by kernel_rfl) w]; rfl
    rw [Sem.run_bind, ha]
    simp [hz]
  simp [Program.fieldsOf, Tryz.underlying143, Op.eqFields, g0, ge, gp, he]
  by_cases h1 : s = s'
  · by_cases h2 : p = p' ∧ q = q'
    · simp [h1, h2]
    · have h3 : (decide (p = p') && decide (q = q')) = false := by
        rw [← Bool.decide_and]; exact decide_eq_false h2
      have h4 : p = p' → ¬ q = q' := fun h hq => h2 ⟨h, hq⟩
      rw [if_pos h1, if_pos h4]
      simp [h1, h3]
  · simp [h1]
/-- Backs compared, at the operations -/
theorem neq_back (x y : Bk) (w : World) : (binOp .neq 143 (bkv x) (bkv y)).run Tryz.prog w = .ok (.bool (!decide (x = y))) w := by
  rw [run_neq_struct, eq_back]; rfl
theorem neq_two (p q p' q' : Nat) (w : World) : (binOp .neq 141 (.agg #[.int .u64 (p : Int), .int .u64 (q : Int)]) (.agg #[.int .u64 (p' : Int), .int .u64 (q' : Int)])).run Tryz.prog w = .ok (.bool (!decide (p = p' ∧ q = q'))) w := by
  rw [run_neq_struct, eq_two 9998]; rfl
end Go.Proofs.YtmpajlpemabniaaGreat
