/-
  dataOf of package cell where what is packed is not as its widths ask; Decode, by its contracts. No claim of its own.
-/
import Derived.Test.YtcapphabajplcaaCeG
namespace Go.Proofs.Ytcapphabajplcaa
open Go.RowKit Go.Deep
set_option linter.unusedVariables false
set_option linter.unusedSimpArgs false

set_option maxHeartbeats 8000000 in
theorem data_no3 (bs : List UInt8) (n : Nat) (a : Option Addr) (c B : Nat) (w : World) (hn : bs.length = n) (h : Ro w B a (u8s bs)) (hB : B ≤ w.heap.size) (hnc : n ≤ c) (hc : c ≤ 9223372036854775807) (hl : n ≤ 1000000) (h2 : 2 ≤ n) (hnb : num bs 0 12 / 1024 = 1) (hsz : num bs 0 12 % 128 ≤ n) (hno : ¬ UnpOk (wid (cntOf bs)) (bs.take (begOf bs))) :
    Calls Try.prog 16 #[.slice a n c] w fun e w' => e = .returned (.tuple #[cev 0 none 0 0 none 0 0, .bool false]) ∧ Below w.heap.size w w' := by
  subst hn
  have HG := Lib.hid (get_yes bs a c B 0 12 (w.alloc (.cells #[.int .i64 0, .slice none 0 0, .slice none 0 0] 26)) (h.below ((Below.refl B w).alloc hB _) (Nat.le_refl _)) (by simp; omega) hl (by omega) (by omega) (by omega) (by omega))
  have hlt := num_lt bs 0 12
  change Hid (Calls _ _ _ _ fun e w' => e = .returned (.tuple #[.int .u64 (num bs 0 12 : Nat), .bool true]) ∧ _) at HG
  have hbl : begOf bs ≤ bs.length := by unfold begOf; omega
  have HU : Hid (∀ W aw cw, Ro W W.heap.size aw (i64s (wid (cntOf bs))) → Below w.heap.size w W → Calls Try.prog 33 #[.slice aw (cntOf bs + 1) cw, .slice a (begOf bs) c] W fun e w' => e = .returned (.tuple #[.slice none 0 0, .bool false]) ∧ Below W.heap.size W w') := by
    apply Lib.hid
    intro W aw cw g1 g2
    have hro : Ro W W.heap.size a (u8s (bs.take (begOf bs))) := by
      have := ((h.below g2 hB).mono (Nat.le_trans hB g2.size)).take (begOf bs)
      rwa [show (u8s bs).take (begOf bs) = u8s (bs.take (begOf bs)) by simp [u8s]] at this
    have := unpack_no (wid (cntOf bs)) (bs.take (begOf bs)) aw a cw c W.heap.size W g1 hro (by simp [cntOf]; omega) (by rw [List.length_take]; omega) hno
    rw [wid_length, show (bs.take (begOf bs)).length = begOf bs by rw [List.length_take]; omega] at this
    exact this
  obtain ⟨b0, off, rfl, hb0, -⟩ := h.u8 (by omega)
  clear hno
  have hbeg : begOf bs + num bs 0 12 % 128 = bs.length := by unfold begOf; omega
  have hcd : cntOf bs = num bs 0 12 / 128 % 8 := rfl
  generalize begOf bs = beg at *
  generalize cntOf bs = cnt at *
  generalize num bs 0 12 = h0 at *
  generalize bs.length = n at *
  clear h
  have HS1 := Lib.hid (fun W => split_z (h0 : Int) 7 ((h0 / 128 : Nat) : Int) ((h0 % 128 : Nat) : Int) W (by omega) (by omega) (by omega) (by omega) (by omega))
  have HS2 := Lib.hid (fun W => split_z ((h0 / 128 : Nat) : Int) 3 1 ((h0 / 128 % 8 : Nat) : Int) W (by omega) (by omega) (by omega) (by omega) (by omega))
  change Hid (∀ W, Calls _ _ #[.int .u64 (h0 : Int), .int .i64 7] _ _) at HS1
  change Hid (∀ W, Calls _ _ #[.int .u64 ((h0 / 128 : Nat) : Int), .int .i64 3] _ _) at HS2
  have hR : h0 / 128 < 32 := by omega
  have hs : h0 % 128 < 128 := by omega
  rw [← hcd] at HS2
  have hct : cnt < 8 := by omega
  clear hcd hnb
  generalize h0 / 128 = R at *
  generalize h0 % 128 = sz at *
  have HE1 := Lib.hid (wrap_small sz (Nat.lt_trans hs (by decide)))
  have HE2 := Lib.hid (wrap_small cnt (Nat.lt_trans hct (by decide)))
  have HW := Lib.hid (fun W => widths_any cnt W (Nat.le_of_lt (Nat.lt_trans hct (by decide))))
  have hbc : (beg : Int) ≤ (c : Int) := by omega
  have HE4 : Hid (n - beg = sz) := Lib.hid (by omega)
  have HE3 : Hid ((n : Int) - (sz : Int) = (beg : Int)) := Lib.hid (by omega)
  have HE2' : Hid (IntKind.i64.wrap (cnt : Int) = (cnt : Int)) := Lib.hid (wrap_small2 cnt (Nat.lt_trans hct (by decide)))
  have HF := Lib.hid (And.intro h2 (And.intro hl (And.intro hbl (And.intro hnc (And.intro hc (And.intro hct hbc))))))
  have HR2 := Lib.hid hR
  have HB0 := Lib.hid hB
  have HB00 := Lib.hid hb0
  have hn1 : (n : Int) ≤ 1000000 := by omega
  have hs1 : (sz : Int) ≤ (n : Int) := by omega
  clear h2 hl hbl hnc hc hct hbc hlt hsz hs hR HE2 hB hb0
  have HBEG := Lib.hid hbeg
  clear hbeg
  go_enter Try.func16, Try.ntmps16
  go_wp2_with fail
  refine HG.out.mono ?_
  rintro e w1 ⟨rfl, hb⟩
  have HB1 : Hid (Below w.heap.size w w1) := Lib.hid (((Below.refl _ _).alloc (Nat.le_refl _) _).trans (hb.mono (by simp)))
  have o1 := (Own.new w 26 [.int .i64 0, .slice none 0 0, .slice none 0 0]).below hb (by simp)
  have HO1 := Lib.hid o1
  clear hb o1
  go_wp2_with fail
  refine (HS1.out _).mono ?_
  rintro e w2 ⟨rfl, rfl⟩
  go_wp2_with fail
  refine (HS2.out _).mono ?_
  rintro e w2 ⟨rfl, rfl⟩
  have e1 := HE1.out
  have e3 := HE3.out
  go_wp2_with fail
  clear e1 e3
  have HZ0 : Hid (Below w.heap.size w w1.drew.drew ∧ Own w1.drew.drew w.heap.size 26 [.int .i64 0, .slice none 0 0, .slice none 0 0]) := Lib.hid ⟨HB1.out.drew.drew, HO1.out⟩
  generalize w1.drew.drew = w2 at *
  clear HB1 HO1 HG HS1 HS2
  have HS9 : Hid (Below w.heap.size w w2.drew ∧ Own w2.drew w.heap.size 26 [.int .i64 0, .slice none 0 0, .slice none 0 0]) := Lib.hid ⟨HZ0.out.1.drew, HZ0.out.2⟩
  refine wp_region_held_drew (S := (fun w' => Below w.heap.size w w' ∧ Own w' w.heap.size 26 [.int .i64 0, .slice none 0 0, .slice none 0 0])) (by kernel_rfl) HS9.out (fun hHeld => ?_)
  have e2 := HE2'.out
  have hbc : (beg : Int) ≤ (c : Int) := HF.out.2.2.2.2.2.2
  clear hn1 hs1
  refine wpAnyH_take (i := 0) (v := ?_) rfl (by kernel_rfl) (by kernel_rfl) (by kernel_rfl) (fun _ _ _ h => h) (Or.inl ⟨by kernel_rfl, ?_⟩) hHeld ?_
  rotate_left
  · (intro w hSw; first | (go_simp; done) | (go_simp; with_reducible rfl))
  (try simp only [Act.put, List.getElem_toArray, List.getElem_cons_succ, List.getElem_cons_zero, List.setIfInBounds_toArray, List.set_cons_zero, List.set_cons_succ])
  refine wpAnyH_take (i := 1) (v := ?_) rfl (by kernel_rfl) (by kernel_rfl) (by kernel_rfl) (fun _ _ _ h => h) (Or.inl ⟨by kernel_rfl, ?_⟩) hHeld ?_
  rotate_left
  · (intro w hSw; first | (go_simp; done) | (go_simp; with_reducible rfl))
  (try simp only [Act.put, List.getElem_toArray, List.getElem_cons_succ, List.getElem_cons_zero, List.setIfInBounds_toArray, List.set_cons_zero, List.set_cons_succ])
  refine wpAnyH_take (i := 3) (v := ?_) rfl (by kernel_rfl) (by kernel_rfl) (by kernel_rfl) (fun _ _ _ h => h) (Or.inl ⟨by kernel_rfl, ?_⟩) hHeld ?_
  rotate_left
  · (intro w hSw; first | (go_simp; done) | (go_simp; with_reducible rfl))
  (try simp only [Act.put, List.getElem_toArray, List.getElem_cons_succ, List.getElem_cons_zero, List.setIfInBounds_toArray, List.set_cons_zero, List.set_cons_succ])
  refine wpAnyH_take (i := 4) (v := ?_) rfl (by kernel_rfl) (by kernel_rfl) (by kernel_rfl) (fun _ _ _ h => h) (Or.inl ⟨by kernel_rfl, ?_⟩) hHeld ?_
  rotate_left
  · (intro w hSw; first | (go_simp; done) | (go_simp; with_reducible rfl))
  (try simp only [Act.put, List.getElem_toArray, List.getElem_cons_succ, List.getElem_cons_zero, List.setIfInBounds_toArray, List.set_cons_zero, List.set_cons_succ])
  refine wpAnyH_take (i := 5) (v := ?_) rfl (by kernel_rfl) (by kernel_rfl) (by kernel_rfl) (fun _ _ _ h => h) (Or.inl ⟨by kernel_rfl, ?_⟩) hHeld ?_
  rotate_left
  · (intro w hSw; first | (go_simp; done) | (go_simp; with_reducible rfl))
  (try simp only [Act.put, List.getElem_toArray, List.getElem_cons_succ, List.getElem_cons_zero, List.setIfInBounds_toArray, List.set_cons_zero, List.set_cons_succ])
  refine wpAnyH_ready (rs := [2]) (by kernel_rfl) (by simp) (AllReadyH.cons rfl (fun K hK => ?_) AllReadyH.nil)
  have hH := hHeld
  (go_simp; go_at_call 20; refine (HW.out _).mono ?_; rintro e w6 ⟨aw, cw, rfl, hrw, hb6⟩)
  refine hK.out _ _ (by exact ⟨hH.1.trans (hb6.mono hH.1.size), hH.2.below hb6 hH.2.lt⟩) (fun hHq1 => ?_)
  clear hK K hH 
  (try simp only [Act.put, List.getElem_toArray, List.getElem_cons_succ, List.getElem_cons_zero, List.setIfInBounds_toArray, List.set_cons_zero, List.set_cons_succ])
  refine wpAnyH_ready (rs := [6]) (by kernel_rfl) (by simp) (AllReadyH.cons rfl (fun K hK => ?_) AllReadyH.nil)
  have hH := hHq1
  (go_simp; go_at_call 33; refine (HU.out _ _ _ hrw hH.1).mono ?_; rintro e w7 ⟨rfl, hb7⟩)
  refine hK.out _ _ (by exact ⟨hH.1.trans (hb7.mono hH.1.size), hH.2.below hb7 hH.2.lt⟩) (fun hHq2 => ?_)
  clear hK K hH hHq1
  (try simp only [Act.put, List.getElem_toArray, List.getElem_cons_succ, List.getElem_cons_zero, List.setIfInBounds_toArray, List.set_cons_zero, List.set_cons_succ])
  refine wpAnyH_take (i := 7) (v := ?_) rfl (by kernel_rfl) (by kernel_rfl) (by kernel_rfl) (fun _ _ _ h => h) (Or.inl ⟨by kernel_rfl, ?_⟩) hHq2 ?_
  rotate_left
  · (intro w hSw; first | (go_simp; done) | (go_simp; with_reducible rfl))
  (try simp only [Act.put, List.getElem_toArray, List.getElem_cons_succ, List.getElem_cons_zero, List.setIfInBounds_toArray, List.set_cons_zero, List.set_cons_succ])
  refine wpAnyH_take (i := 8) (v := ?_) rfl (by kernel_rfl) (by kernel_rfl) (by kernel_rfl) (fun _ _ _ h => h) (Or.inl ⟨by kernel_rfl, ?_⟩) hHq2 ?_
  rotate_left
  · (intro w hSw; first | (go_simp; done) | (go_simp; with_reducible rfl))
  (try simp only [Act.put, List.getElem_toArray, List.getElem_cons_succ, List.getElem_cons_zero, List.setIfInBounds_toArray, List.set_cons_zero, List.set_cons_succ])
  refine wpAnyH_take (i := 9) (v := ?_) rfl (by kernel_rfl) (by kernel_rfl) (by kernel_rfl) (fun _ _ _ h => h) (Or.inl ⟨by kernel_rfl, ?_⟩) hHq2 ?_
  rotate_left
  · (intro w hSw; first | (go_simp; done) | (go_simp; with_reducible rfl))
  (try simp only [Act.put, List.getElem_toArray, List.getElem_cons_succ, List.getElem_cons_zero, List.setIfInBounds_toArray, List.set_cons_zero, List.set_cons_succ])
  refine wpAnyH_take (i := 10) (v := ?_) rfl (by kernel_rfl) (by kernel_rfl) (by kernel_rfl) (fun _ _ _ h => h) (Or.inl ⟨by kernel_rfl, ?_⟩) hHq2 ?_
  rotate_left
  · (intro w hSw; first | (go_simp; done) | (go_simp; with_reducible rfl))
  (try simp only [Act.put, List.getElem_toArray, List.getElem_cons_succ, List.getElem_cons_zero, List.setIfInBounds_toArray, List.set_cons_zero, List.set_cons_succ])
  refine wpAnyH_take (i := 11) (v := ?_) rfl (by kernel_rfl) (by kernel_rfl) (by kernel_rfl) (fun _ _ _ h => h) (Or.inl ⟨by kernel_rfl, ?_⟩) hHq2 ?_
  rotate_left
  · (intro w hSw; first | (go_simp; done) | (go_simp; with_reducible rfl))
  (try simp only [Act.put, List.getElem_toArray, List.getElem_cons_succ, List.getElem_cons_zero, List.setIfInBounds_toArray, List.set_cons_zero, List.set_cons_succ])
  refine wpAnyH_done (by kernel_rfl) ?_ _
  have hEnd := hHq2
  clear hHeld e2
  have HB7 : Hid (Below w.heap.size w w7) := Lib.hid hEnd.1
  have oR := hEnd.2
  have d0 := oR.cell 0
  have d1 := oR.cell 1
  have d2 := oR.cell 2
  have f0 := oR.frozen 0
  have f1 := oR.frozen 1
  have f2 := oR.frozen 2
  simp at d0 d1 d2
  clear hrw hb6 hb7 hEnd oR hbc
  go_wp2_with fail
  refine bodyPost_ret (v := .tuple #[cev 0 none 0 0 none 0 0, .bool false]) (by simp [results, Try.results16, go_sem, d0, d1, d2]) rfl ⟨rfl, ?_⟩
  exact ((HB7.out.setCell (Nat.le_refl _) _).setCell (Nat.le_refl _) _).setCell (Nat.le_refl _) _
end Go.Proofs.Ytcapphabajplcaa
