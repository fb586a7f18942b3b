/-
  Contract of the document's Frames (tape). No claim of its own.
-/
import Derived.Test.YtdiemejdbakffaaGreatRt1
import Derived.Test.YtdiemejdbakffaaGreatJ5
namespace Go.Proofs.YtdiemejdbakffaaGreat
open Go.RowKit Go.Deep Go.Shelf Go.Maps
set_option linter.unusedVariables false
set_option linter.unusedSimpArgs false

theorem be2_cells (N : Nat) (h : N < 65536) : u8s (be 2 N) = [.int .u8 ((N : Int) / 256), .int .u8 ((N : Int) % 256)] := by
  simp only [be, u8s, List.range_succ, List.range_zero, List.nil_append, List.cons_append, List.map_cons, List.map_nil, UInt8.toNat_ofNat']
  rw [show (256 : Nat) ^ (2 - 1 - 0) = 256 from by decide, show (256 : Nat) ^ (2 - 1 - 1) = 1 from by decide]
  try rw [show (2 : Nat) ^ 8 = 256 from by decide]
  have e0 : ((N / 256 % 256 : Nat) : Int) = (N : Int) / 256 := by omega
  have e1 : ((N / 1 % 256 : Nat) : Int) = (N : Int) % 256 := by omega
  rw [e0, e1]
theorem be2_letters (N : Nat) (h : N < 65536) : ∃ A D : Nat, Hid (u8s (be 2 N) = [.int .u8 (A : Int), .int .u8 (D : Int)]) ∧ IntKind.i64.wrap ((N : Int) / 256) = (A : Int) ∧ IntKind.u8.wrap (A : Int) = (A : Int) ∧ IntKind.u8.wrap ((N : Int).tmod 256) = (D : Int) := by
  refine ⟨N / 256, N % 256, Lib.hid ?_, ?_, ?_, ?_⟩
  · rw [be2_cells N h]
    rw [show ((N / 256 : Nat) : Int) = (N : Int) / 256 from by omega, show ((N % 256 : Nat) : Int) = (N : Int) % 256 from by omega]
  · rw [IntKind.wrap_i64]; omega
  · rw [IntKind.wrap_u8]; omega
  · rw [IntKind.wrap_u8, Int.tmod_eq_emod_of_nonneg (by omega)]; omega
/-- bytes of the call's own -/
structure New8 (w w' : World) (v : Value) (bs : List UInt8) : Prop where
  lst : Lst w' 0 5 v (u8s bs)
  low : ∀ x ∈ bl v, w.heap.size ≤ x
  chg : Chg [] w w'
theorem New8.more {w w1 w2 : World} {v v' : Value} {bs cs : List UInt8} (h : New8 w w1 v bs) (k : AppK w1 w2 5 v v' (u8s bs) (u8s cs)) : New8 w w2 v' (bs ++ cs) := by
  refine ⟨by rw [show u8s (bs ++ cs) = u8s bs ++ u8s cs by simp [u8s]]; exact k.lst, fun x hx => ?_, h.chg.then k.chg (fun x hx => .inr (h.low x hx))⟩
  rcases k.bl x hx with h1 | h1
  · exact h.low x h1
  · exact Nat.le_trans h.chg.size h1
theorem New8.kept {w w1 w2 : World} {v : Value} {bs : List UInt8} (h : New8 w w1 v bs) (hc : Chg [] w1 w2) : New8 w w2 v bs := ⟨h.lst.kept0 hc, h.low, h.chg.trans hc⟩
set_option maxRecDepth 100000 in
theorem frames_any (w : World) (a : Option Addr) (xs : List SB) (c : Nat) (hx : RoM w a xs) (hok : okL (recs xs)) (hl : xs.length ≤ 1000000) :
    Calls Tryz.prog 67 #[.slice a xs.length c] w fun e w' => ∃ a' c', e = .returned (.slice a' (frs (recs xs)).length c') ∧ New8 w w' (.slice a' (frs (recs xs)).length c') (frs (recs xs)) := by
  obtain ⟨n, HN⟩ : ∃ n, Hid (xs.length = n) := ⟨_, Lib.hid rfl⟩
  rw [HN.out] at hl ⊢
  have HX := Lib.hid hx
  have HOK := Lib.hid hok
  clear hx hok
  go_enter Tryz.func67, Tryz.ntmps67
  go_wp2
  go_loopw [3, 4] (fun v i wr => ∃ k : Nat, k ≤ n ∧ i = .int .i64 k ∧ Hid (New8 w wr v (frs (recs (xs.take k))))) (fun _ i _ => n - (intOf i).toNat)
  case atStart => exact ⟨0, Nat.zero_le _, rfl, Lib.hid ⟨Lst.nil _ _ _, by simp [bl, Value.ownBlock], Chg.refl _ _⟩⟩
  case round =>
    obtain ⟨k, hk, rfl, HV⟩ := hrel
    by_cases hlt : k < n
    · have hkx : k < xs.length := by rw [HN.out]; exact hlt
      obtain ⟨b, off, rfl, hb, hc⟩ := HX.out.at_ hkx
      have hcell := HV.out.chg.cell (hc k hkx) (by simp)
      unfold SB.val at hcell
      have hm := List.getElem_mem hkx
      have HEL := Lib.hid (HX.out.el _ hm)
      have hr : okR (xs[k]).bs := HOK.out _ (List.mem_map.2 ⟨_, hm, rfl⟩)
      have HT := Lib.hid (show frs (recs (xs.take (k + 1))) = frs (recs (xs.take k)) ++ be 2 (xs[k]).bs.length ++ (xs[k]).bs by rw [take_snoc xs k hkx, recs_snoc, frs_snoc, List.append_assoc]; rfl)
      have hle : (frs (recs (xs.take k))).length ≤ 302 * 1000000 := by
        have h1 := frs_le (recs (xs.take k)) (fun r hr => HOK.out r (by
          obtain ⟨y, hy, rfl⟩ := List.mem_map.1 hr
          exact List.mem_map.2 ⟨y, List.mem_of_mem_take hy, rfl⟩))
        rw [recs_len, List.length_take] at h1
        have h2 : 302 * min k xs.length ≤ 302 * 1000000 := Nat.mul_le_mul_left _ (by omega)
        omega
      clear hc hm
      generalize xs[k] = x at *
      generalize frs (recs (xs.take k)) = bs at *
      obtain ⟨N1, HN1⟩ : ∃ M, Hid (x.bs.length = M) := ⟨_, Lib.hid rfl⟩
      have hN1 : N1 ≤ 300 := by rw [← HN1.out]; exact hr.2
      rw [HN1.out] at hcell HT
      have hd : decide (k < n) = true := by simpa using hlt
      have hk1 : (k : Int) < (n : Int) := by omega
      obtain ⟨A, D, HB, hA, hA2, hD⟩ := be2_letters N1 (by omega)
      have HLE := Lib.hid hle
      have hcd : (fun W : World => W.cell? ⟨b, off + k, none⟩ = some (.slice x.a N1 x.c)) wr.drew := hcell
      clear hr hle hcell hkx
      go_wp2
      refine wp_region_held_drew (S := (fun W : World => W.cell? ⟨b, off + k, none⟩ = some (.slice x.a N1 x.c))) (by kernel_rfl) hcd (fun hHeld => ?_)
      refine wpAnyH_take (i := 0) (v := ?_) rfl (by kernel_rfl) (by kernel_rfl) (by kernel_rfl) (fun _ _ _ h => h) (Or.inl ⟨by kernel_rfl, ?_⟩) hHeld ?_
      rotate_left
      · (intro w hSw; first | (go_simp; done) | (go_simp; with_reducible rfl))
      (try simp only [Act.put, List.getElem_toArray, List.getElem_cons_succ, List.getElem_cons_zero, List.setIfInBounds_toArray, List.set_cons_zero, List.set_cons_succ])
      refine wpAnyH_take (i := 1) (v := ?_) rfl (by kernel_rfl) (by kernel_rfl) (by kernel_rfl) (fun _ _ _ h => h) (Or.inl ⟨by kernel_rfl, ?_⟩) hHeld ?_
      rotate_left
      · (intro w hSw; first | (go_simp; done) | (go_simp; with_reducible rfl))
      (try simp only [Act.put, List.getElem_toArray, List.getElem_cons_succ, List.getElem_cons_zero, List.setIfInBounds_toArray, List.set_cons_zero, List.set_cons_succ])
      refine wpAnyH_take (i := 2) (v := ?_) rfl (by kernel_rfl) (by kernel_rfl) (by kernel_rfl) (fun _ _ _ h => h) (Or.inl ⟨by kernel_rfl, ?_⟩) hHeld ?_
      rotate_left
      · (intro w hSw; first | (go_simp; done) | (go_simp; with_reducible rfl))
      (try simp only [Act.put, List.getElem_toArray, List.getElem_cons_succ, List.getElem_cons_zero, List.setIfInBounds_toArray, List.set_cons_zero, List.set_cons_succ])
      refine wpAnyH_take (i := 3) (v := ?_) rfl (by kernel_rfl) (by kernel_rfl) (by kernel_rfl) (fun _ _ _ h => h) (Or.inl ⟨by kernel_rfl, ?_⟩) hHeld ?_
      rotate_left
      · (intro w hSw; first | (go_simp; done) | (go_simp; with_reducible rfl))
      (try simp only [Act.put, List.getElem_toArray, List.getElem_cons_succ, List.getElem_cons_zero, List.setIfInBounds_toArray, List.set_cons_zero, List.set_cons_succ])
      refine wpAnyH_take (i := 4) (v := ?_) rfl (by kernel_rfl) (by kernel_rfl) (by kernel_rfl) (fun _ _ _ h => h) (Or.inl ⟨by kernel_rfl, ?_⟩) hHeld ?_
      rotate_left
      · (intro w hSw; first | (go_simp; done) | (go_simp; with_reducible rfl))
      (try simp only [Act.put, List.getElem_toArray, List.getElem_cons_succ, List.getElem_cons_zero, List.setIfInBounds_toArray, List.set_cons_zero, List.set_cons_succ])
      refine wpAnyH_take (i := 5) (v := ?_) rfl (by kernel_rfl) (by kernel_rfl) (by kernel_rfl) (fun _ _ _ h => h) (Or.inl ⟨by kernel_rfl, ?_⟩) hHeld ?_
      rotate_left
      · (intro w hSw; first | (go_simp; done) | (go_simp; with_reducible rfl))
      (try simp only [Act.put, List.getElem_toArray, List.getElem_cons_succ, List.getElem_cons_zero, List.setIfInBounds_toArray, List.set_cons_zero, List.set_cons_succ])
      refine wpAnyH_take (i := 6) (v := ?_) rfl (by kernel_rfl) (by kernel_rfl) (by kernel_rfl) (fun _ _ _ h => h) (Or.inl ⟨by kernel_rfl, ?_⟩) hHeld ?_
      rotate_left
      · (intro w hSw; first | (go_simp; done) | (go_simp; with_reducible rfl))
      (try simp only [Act.put, List.getElem_toArray, List.getElem_cons_succ, List.getElem_cons_zero, List.setIfInBounds_toArray, List.set_cons_zero, List.set_cons_succ])
      refine wpAnyH_take (i := 7) (v := ?_) rfl (by kernel_rfl) (by kernel_rfl) (by kernel_rfl) (fun _ _ _ h => h) (Or.inl ⟨by kernel_rfl, ?_⟩) hHeld ?_
      rotate_left
      · (intro w hSw; first | (go_simp; done) | (go_simp; with_reducible rfl))
      (try simp only [Act.put, List.getElem_toArray, List.getElem_cons_succ, List.getElem_cons_zero, List.setIfInBounds_toArray, List.set_cons_zero, List.set_cons_succ])
      refine wpAnyH_take (i := 8) (v := ?_) rfl (by kernel_rfl) (by kernel_rfl) (by kernel_rfl) (fun _ _ _ h => h) (Or.inl ⟨by kernel_rfl, ?_⟩) hHeld ?_
      rotate_left
      · (intro w hSw; first | (go_simp; done) | (go_simp; with_reducible rfl))
      (try simp only [Act.put, List.getElem_toArray, List.getElem_cons_succ, List.getElem_cons_zero, List.setIfInBounds_toArray, List.set_cons_zero, List.set_cons_succ])
      refine wpAnyH_take (i := 9) (v := ?_) rfl (by kernel_rfl) (by kernel_rfl) (by kernel_rfl) (fun _ _ _ h => h) (Or.inl ⟨by kernel_rfl, ?_⟩) hHeld ?_
      rotate_left
      · (intro w hSw; first | (go_simp; done) | (go_simp; with_reducible rfl))
      (try simp only [Act.put, List.getElem_toArray, List.getElem_cons_succ, List.getElem_cons_zero, List.setIfInBounds_toArray, List.set_cons_zero, List.set_cons_succ])
      refine wpAnyH_take (i := 10) (v := ?_) rfl (by kernel_rfl) (by kernel_rfl) (by kernel_rfl) (fun _ _ _ h => h) (Or.inl ⟨by kernel_rfl, ?_⟩) hHeld ?_
      rotate_left
      · (intro w hSw; first | (go_simp; done) | (go_simp; with_reducible rfl))
      (try simp only [Act.put, List.getElem_toArray, List.getElem_cons_succ, List.getElem_cons_zero, List.setIfInBounds_toArray, List.set_cons_zero, List.set_cons_succ])
      refine wpAnyH_take (i := 11) (v := ?_) rfl (by kernel_rfl) (by kernel_rfl) (by kernel_rfl) (fun _ _ _ h => h) (Or.inl ⟨by kernel_rfl, ?_⟩) hHeld ?_
      rotate_left
      · (intro w hSw; first | (go_simp; done) | (go_simp; with_reducible rfl))
      (try simp only [Act.put, List.getElem_toArray, List.getElem_cons_succ, List.getElem_cons_zero, List.setIfInBounds_toArray, List.set_cons_zero, List.set_cons_succ])
      refine wpAnyH_take (i := 12) (v := ?_) rfl (by kernel_rfl) (by kernel_rfl) (by kernel_rfl) (fun _ _ _ h => h) (Or.inl ⟨by kernel_rfl, ?_⟩) hHeld ?_
      rotate_left
      · (intro w hSw; first | (go_simp; done) | (go_simp; with_reducible rfl))
      (try simp only [Act.put, List.getElem_toArray, List.getElem_cons_succ, List.getElem_cons_zero, List.setIfInBounds_toArray, List.set_cons_zero, List.set_cons_succ])
      refine wpAnyH_take (i := 13) (v := ?_) rfl (by kernel_rfl) (by kernel_rfl) (by kernel_rfl) (fun _ _ _ h => h) (Or.inl ⟨by kernel_rfl, ?_⟩) hHeld ?_
      rotate_left
      · (intro w hSw; first | (go_simp; done) | (go_simp; with_reducible rfl))
      (try simp only [Act.put, List.getElem_toArray, List.getElem_cons_succ, List.getElem_cons_zero, List.setIfInBounds_toArray, List.set_cons_zero, List.set_cons_succ])
      refine wpAnyH_take (i := 14) (v := ?_) rfl (by kernel_rfl) (by kernel_rfl) (by kernel_rfl) (fun _ _ _ h => h) (Or.inl ⟨by kernel_rfl, ?_⟩) hHeld ?_
      rotate_left
      · (intro w hSw; first | (go_simp; done) | (go_simp; with_reducible rfl))
      (try simp only [Act.put, List.getElem_toArray, List.getElem_cons_succ, List.getElem_cons_zero, List.setIfInBounds_toArray, List.set_cons_zero, List.set_cons_succ])
      refine wpAnyH_ready (rs := [15]) (by kernel_rfl) (by simp) (AllReadyH.cons rfl (fun K hK => ?_) AllReadyH.nil)
      have hH := hHeld
      (go_simp; skip)
      refine hK.out _ _ (by exact ((Chg.refl [] _).alloc _).cell hH (by simp)) (fun hHq1 => ?_)
      clear hK K hH 
      (try simp only [Act.put, List.getElem_toArray, List.getElem_cons_succ, List.getElem_cons_zero, List.setIfInBounds_toArray, List.set_cons_zero, List.set_cons_succ])
      refine wpAnyH_ready (rs := [16]) (by kernel_rfl) (by simp) (AllReadyH.cons rfl (fun K hK => ?_) AllReadyH.nil)
      have hH := hHq1
      (refine step_appK (by rfl) (.tmp 11) (.tmp 26) 37 (by rfl) 5 (.int .u8 0) 1 Tryz.underlying37 infoU8 rfl _ (u8s bs) (by rfl) (HV.out.kept ((Chg.refl [] wr).drew.alloc _)).lst (some ⟨wr.heap.size, 0, none⟩) (wr.heap.size + 1) 2 2 (u8s (be 2 N1)) (by rfl) (by simp [u8s]) (by rw [HB.out]; exact (Own.new wr.drew 5 _).ro (wr.heap.size + 1) (by simp)) (u8s_one _) (by have := HLE.out; rw [u8s_length]; omega) (by have := HLE.out; rw [u8s_length]; omega) ?_; intro v4 w4 K4)
      refine hK.out _ _ (by exact K4.out.chg.cell hH (fun hm => by have := HV.out.low _ hm; have := HV.out.chg.size; omega)) (fun hHq2 => ?_)
      clear hK K hH hHq1
      (try simp only [Act.put, List.getElem_toArray, List.getElem_cons_succ, List.getElem_cons_zero, List.setIfInBounds_toArray, List.set_cons_zero, List.set_cons_succ])
      refine wpAnyH_take (i := 17) (v := ?_) rfl (by kernel_rfl) (by kernel_rfl) (by kernel_rfl) (fun _ _ _ h => h) (Or.inl ⟨by kernel_rfl, ?_⟩) hHq2 ?_
      rotate_left
      · (intro w hSw; first | (go_simp; done) | (go_simp; with_reducible rfl))
      (try simp only [Act.put, List.getElem_toArray, List.getElem_cons_succ, List.getElem_cons_zero, List.setIfInBounds_toArray, List.set_cons_zero, List.set_cons_succ])
      refine wpAnyH_done (by kernel_rfl) ?_ _
      have hEnd := hHq2
      have hcell4 : w4.cell? ⟨b, off + k, none⟩ = some (.slice x.a N1 x.c) := hEnd
      have HV4 := Lib.hid ((HV.out.kept ((Chg.refl [] wr).drew.alloc _)).more K4.out)
      have HRO := Lib.hid (HEL.out.chgs HV4.out.chg (by simp))
      have HLE4 := Lib.hid (show (u8s (bs ++ be 2 N1)).length ≤ 302 * 1000000 + 2 from by have := HLE.out; rw [u8s_length, List.length_append, be_len]; omega)
      clear hEnd HV K4 HEL HB HLE hHq2
      go_wp2_with (first
        | (at_builtin; refine wpList_appK rfl _ _ 37 rfl 5 (.int .u8 0) 1 Tryz.underlying37 infoU8 rfl v4 (u8s (bs ++ be 2 N1)) (by rfl) HV4.out.lst x.a w.heap.size N1 x.c (u8s x.bs) (by rfl) (by rw [u8s_length, HN1.out]) HRO.out (u8s_one x.bs) (by have := HLE4.out; omega) (by have := HLE4.out; omega) ?_; intro v6 w6 K6)
        | fail)
      have HV6 := Lib.hid (HV4.out.more K6.out)
      go_roundw
      case rel => exact ⟨k + 1, by omega, by go_num, by rw [HT.out]; exact HV6⟩
      case measure => simp [intOf]; omega
    · have hd : decide (k < n) = false := by simpa using hlt
      have hkn : k = n := by omega
      have HT := Lib.hid (show recs (xs.take k) = recs xs by rw [hkn, ← HN.out, List.take_length])
      rw [HT.out] at HV
      obtain ⟨a', c', rfl⟩ := HV.out.lst.sl8
      clear hkn
      go_wp2
      go_ret
      exact ⟨a', c', rfl, HV.out⟩
end Go.Proofs.YtdiemejdbakffaaGreat
