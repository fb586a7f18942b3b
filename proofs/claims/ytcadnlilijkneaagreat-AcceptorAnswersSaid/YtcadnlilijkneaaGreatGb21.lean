/-
  Contracts of package tape's putNumber and sector. No claim of their own.
-/
import Derived.Test.YtcadnlilijkneaaGreatGb20
import Derived.Deep.CutBlock
import Derived.Deep.RegionHeld3
import Derived.StillTailTactics
import Derived.BigQuiet
import Derived.Deep.QuietTactic
namespace Go.Proofs.YtcadnlilijkneaaGreat
open Go.RowKit
set_option linter.unusedVariables false
set_option linter.unusedSimpArgs false

theorem infoU8 : (Tryz.prog.info? 5).map (fun i => (i.zero, i.size, i.bytes)) = some (some (.int .u8 0), 1, 1) := by kernel_rfl
theorem infoInt : (Tryz.prog.info? 3).map (fun i => (i.zero, i.size, i.bytes)) = some (some (.int .i64 0), 1, 8) := by kernel_rfl
theorem be_take (k n j z : Nat) (h : z + j + 1 = k) : (be k n).take (j + 1) = (be k n).take j ++ [UInt8.ofNat (n / 256 ^ z)] := by
  rw [take_snoc _ _ (by simp; omega)]
  congr 2
  have e : k - 1 - j = z := by omega
  simp [be, e]
theorem byte_at (n z : Nat) : (n : Int) / 2 ^ (8 * z) % 256 = (((UInt8.ofNat (n / 256 ^ z)).toNat : Nat) : Int) := by
  rw [show (256 : Nat) ^ z = 2 ^ (8 * z) from by rw [Nat.pow_mul]]
  simp
set_option maxRecDepth 100000 in
theorem putNumber_any (w : World) (v : Value) (xs : List Value) (n k : Nat) (hv : Lst w 0 5 v xs) (hx : xs.length + 8 ≤ 100000000) (hn : n < 4294967296) (hk : k ≤ 4) :
    Calls Tryz.prog 199 #[v, .int .u32 (n : Int), .int .i64 (k : Int)] w fun e w' => ∃ v', e = .returned v' ∧ Hid (AppK w w' 5 v v' xs (u8s (be k n))) := by
  have HV := Lib.hid hv
  clear hv
  go_enter Tryz.func199, Tryz.ntmps199
  go_wp2
  go_loopw [0, 7] (fun b i wr => ∃ j : Nat, j ≤ k ∧ i = .int .i64 ((k : Int) - 1 - (j : Int)) ∧ Hid (AppK w wr 5 v b xs (u8s ((be k n).take j)))) (fun _ i _ => (intOf i + 1).toNat)
  case atStart => exact ⟨0, Nat.zero_le _, by go_num, Lib.hid (AppK.refl HV.out)⟩
  case round =>
    obtain ⟨j, hj, rfl, HR⟩ := hrel
    by_cases hlt : j < k
    · obtain ⟨z, hz⟩ : ∃ z : Nat, z + j + 1 = k := ⟨k - 1 - j, by omega⟩
      have e : (k : Int) - 1 - (j : Int) = (z : Int) := by omega
      rw [e]
      clear e
      have hd : decide ((0 : Int) ≤ (z : Int)) = true := by simp
      have HB := Lib.hid (byte_at n z)
      have HT := Lib.hid (be_take k n j z hz)
      have hlj : ((be k n).take j).length ≤ 4 := by rw [List.length_take, be_len]; omega
      go_wp2_with (first
        | (at_builtin; refine wpList_appK1 rfl _ _ 42 rfl 5 (.int .u8 0) 1 Tryz.underlying42 infoU8 rfl _ rfl u0 _ (by rfl) HR.out.lst _ (by rfl) (by simp) (by simp; omega) (by simp; omega) ?_; intro v4 w4 H4)
        | fail)
      go_roundw
      case rel => exact ⟨j + 1, by omega, by go_num, Lib.hid (by
        have h := AppK.trans HV.out HR.out H4.out
        rw [HT.out, HB.out] at *
        simpa [u8s] using h)⟩
      case measure => simp [intOf] <;> omega
    · have hjk : j = k := by omega
      have e : (k : Int) - 1 - (j : Int) = -1 := by omega
      have HK := Lib.hid (show (be k n).take j = be k n by rw [hjk, List.take_of_length_le (by simp)])
      rw [HK.out] at HR
      rw [e]
      clear e hjk
      go_wp2
      go_ret
      exact ⟨_, rfl, HR⟩

abbrev pv (h r b : Nat) : Value := .agg #[.int .u8 (h : Int), .int .u32 (r : Int), .int .u32 (b : Int)]
set_option maxRecDepth 100000 in
theorem sector_any (w : World) (h r b : Nat) (hh : h < 256) (hr : r < 4294967296) (hb : b < 4294967296) :
    Calls Tryz.prog 177 #[pv h r b] w fun e w' => e = .returned (sv (supS h r b)) ∧ Chg [] w w' := by
  have HX := Lib.hid (show h = (UInt8.ofNat h).toNat by simp; omega)
  obtain ⟨W0, HW0⟩ : ∃ W0, Hid (W0 = (w.alloc (.cells #[.int .u8 (h : Int), .int .u32 (r : Int), .int .u32 (b : Int)] 218)).alloc (.cells (u8s zsec).toArray 107)) := ⟨_, Lib.hid rfl⟩
  have hC0 : Chg [] w W0 := by rw [HW0.out]; exact ((Chg.refl [] w).alloc _).alloc _
  have hs0 : W0.heap.size = w.heap.size + 1 + 1 := by rw [HW0.out]; simp
  have hT0 : W0.there (w.heap.size + 1) 0 64 := by
    have := there_box (w.alloc (.cells #[.int .u8 (h : Int), .int .u32 (r : Int), .int .u32 (b : Int)] 218)) zsec 107 zsec_len
    rw [World.size_alloc] at this
    rw [HW0.out]; exact this
  have hcb : W0.cell? ⟨w.heap.size, 2, none⟩ = some (.int .u32 (b : Int)) := by
    rw [HW0.out]
    have h1 := (Own.new w 218 [.int .u8 (h : Int), .int .u32 (r : Int), .int .u32 (b : Int)]).alloc (.cells (u8s zsec).toArray 107)
    rw [h1.cell]
    rfl
  have hcr : W0.cell? ⟨w.heap.size, 1, none⟩ = some (.int .u32 (r : Int)) := by
    rw [HW0.out]
    have h1 := (Own.new w 218 [.int .u8 (h : Int), .int .u32 (r : Int), .int .u32 (b : Int)]).alloc (.cells (u8s zsec).toArray 107)
    rw [h1.cell]
    rfl
  have hch : W0.cell? ⟨w.heap.size, 0, none⟩ = some (.int .u8 (h : Int)) := by
    rw [HW0.out]
    have h1 := (Own.new w 218 [.int .u8 (h : Int), .int .u32 (r : Int), .int .u32 (b : Int)]).alloc (.cells (u8s zsec).toArray 107)
    rw [h1.cell]
    rfl
  have hlit := Lst.lit W0 0 5 #[.int .u8 (h : Int)] (by omega) (by unfold maxLen; simp)
  have HL := Lib.hid hlit
  have H1 := Lib.hid (putNumber_any (W0.alloc (.cells #[.int .u8 (h : Int)] 5)) _ _ r 4 hlit (by simp) hr (by omega))
  rw [hs0] at H1
  have HS0 := Lib.hid hs0
  have HLL := Lib.hid hlit
  clear hlit hs0 HL
  have H1' := H1
  rw [HW0.out] at H1'
  go_enter Tryz.func177, Tryz.ntmps177
  go_wp2_with (first
    | (refine wpList_alloc37 rfl rfl ?_)
    | fail)
  refine H1'.out.mono ?_
  rintro e w4 ⟨v4, rfl, H4⟩
  clear H1 H1'
  rw [← HW0.out] at H4
  have hs0 := HS0.out
  have hB4 : ∀ x ∈ bl v4, W0.heap.size ≤ x := fun x hx => by
    rcases H4.out.bl x hx with h1 | h1
    · rw [mem_bl] at h1; simp only [Value.ownBlock, Option.some.injEq] at h1; omega
    · simp at h1; omega
  have hC4 : Chg [] W0 w4 := ((Chg.refl [] W0).alloc _).then H4.out.chg (fun x hx => .inr (by
    rw [mem_bl] at hx; simp only [Value.ownBlock, Option.some.injEq] at hx; omega))
  have hcb4 := hC4.cell hcb (by simp)
  have HB4 := Lib.hid hB4
  have H2 := Lib.hid (putNumber_any w4 v4 _ b 4 H4.out.lst (by simp) hb (by omega))
  clear hB4 hs0 HX
  go_wp2_with fail
  refine H2.out.mono ?_
  rintro e w5 ⟨v5, rfl, H5⟩
  have hC5 : Chg [] W0 w5 := hC4.then H5.out.chg (fun x hx => .inr (HB4.out x hx))
  have hl5 := H5.out.lst
  have hu : [Value.int .u8 (h : Int)] ++ u8s (be 4 r) ++ u8s (be 4 b) = u8s (UInt8.ofNat h :: (be 4 r ++ be 4 b)) := by
    have : (UInt8.ofNat h).toNat = h := by simp; omega
    simp [u8s, this]
  rw [hu] at hl5
  obtain ⟨a5, c5, rfl, hro5, hc5, _⟩ := hl5.form
  have H6 := Lib.hid (fill_any w5 a5 (UInt8.ofNat h :: (be 4 r ++ be 4 b)) c5 w5.heap.size hro5 (Nat.le_refl _))
  rw [u8s_length] at hc5 ⊢
  have HC5 := Lib.hid hC5
  have hT5 := hC5.there hT0 (by simp)
  clear hu hl5 hro5 H2 H4 H5 hC4 hC5 hcb4 hcb hcr hch hT0
  go_wp2_with fail
  refine H6.out.mono ?_
  rintro e w6 ⟨rfl, hC6⟩
  have hT6 := hC6.there hT5 (by simp)
  go_wp2_with (first
    | (refine wpList_store37 rfl _ _ rfl (w.heap.size + 1) 0 (supS h r b) rfl rfl hT6 (supS_len h r b) ?_)
    | fail)
  refine bodyPost_ret (results_cell (j := 2) (t := 107) (p := ⟨w.heap.size + 1, 0, none⟩) Tryz.results177 rfl (load37 (S := supS h r b) (World.rangeAt_setCells_same _ _ _ _ (by rw [u8s_length, supS_len]; exact hT6)) (supS_len h r b))) rfl ⟨rfl, ?_⟩
  exact ((hC0.trans HC5.out).trans hC6).setCells (Or.inr (by omega)) _ _
end Go.Proofs.YtcadnlilijkneaaGreat
namespace Go.Proofs.YtcadnlilijkneaaGreat
open Go.RowKit
set_option linter.unusedVariables false
set_option linter.unusedSimpArgs false

theorem far3 {w : World} {B b o i j k : Nat} {x y z v : Value} (h : w.cell? ⟨b, o, none⟩ = some v) (hne : b ≠ B) : (((w.setCell ⟨B, i, none⟩ x).setCell ⟨B, j, none⟩ y).setCell ⟨B, k, none⟩ z).cell? ⟨b, o, none⟩ = some v := by
  rw [World.cell?_setCell_far _ _ _ _ (Ne.symm hne), World.cell?_setCell_far _ _ _ _ (Ne.symm hne), World.cell?_setCell_far _ _ _ _ (Ne.symm hne)]
  exact h
set_option maxHeartbeats 4000000 in
set_option maxRecDepth 100000 in
theorem super_any (w : World) (h : Nat) (aF aE : Option Addr) (n cF r cE : Nat) (hh : h ≤ 1) (hr : r < 4294967296) (hn : n < 4294967296) :
    Calls Tryz.prog 121 #[cv h (.slice aF n cF) (.slice aE r cE)] w fun e w' => e = .returned (pv h r n) ∧ Chg [] w w' := by
  have HR := Lib.hid (fun W => (records_any W h (.slice aF n cF) aE r cE).mono fun e w' (h : _ ∧ _) => (⟨h.1, h.2.low⟩ : _ ∧ Below W.heap.size W w'))
  obtain ⟨X, HX⟩ : ∃ X, Hid ((w.alloc (.cells #[.int .i64 (h : Int), .slice aF n cF, .slice aE r cE] 213)).alloc (.cells #[.int .u8 0, .int .u32 0, .int .u32 0] 218) = X) := ⟨_, Lib.hid rfl⟩
  have hO : Own X w.heap.size 213 [.int .i64 (h : Int), .slice aF n cF, .slice aE r cE] := by rw [← HX.out]; exact (Own.new w _ _).alloc _
  have hP : Own X (w.heap.size + 1) 218 [.int .u8 0, .int .u32 0, .int .u32 0] := by rw [← HX.out]; have := Own.new (w.alloc (.cells #[.int .i64 (h : Int), .slice aF n cF, .slice aE r cE] 213)) 218 [.int .u8 0, .int .u32 0, .int .u32 0]; rwa [World.size_alloc] at this
  have hsX : X.heap.size = w.heap.size + 2 := by rw [← HX.out]; simp
  have c0 := hO.cell 0
  have c1 := hO.cell 1
  have c2 := hO.cell 2
  simp at c0 c1 c2
  have HO := Lib.hid hO
  have HP := Lib.hid hP
  have HSX := Lib.hid hsX
  clear hO hP hsX
  have HC := Lib.hid (And.intro c0 (And.intro c1 c2))
  clear c0 c1 c2
  go_enter Tryz.func121, Tryz.ntmps121
  go_wp2_with fail
  simp only [HX.out]
  refine wp_region_held_drew (S := (fun w' => w'.cell? ⟨w.heap.size, 0, none⟩ = some (.int .i64 (h : Int)) ∧ w'.cell? ⟨w.heap.size, 1, none⟩ = some (.slice aF n cF) ∧ w'.cell? ⟨w.heap.size, 2, none⟩ = some (.slice aE r cE))) (by kernel_rfl) HC.out (fun hHeld => ?_)
  have e1 : IntKind.u8.wrap (h : Int) = (h : Int) := by rw [IntKind.wrap_u8]; omega
  have e2 : IntKind.u32.wrap (r : Int) = (r : Int) := by rw [IntKind.wrap_u32]; omega
  have e3 : IntKind.u32.wrap (n : Int) = (n : Int) := by rw [IntKind.wrap_u32]; omega
  refine wpAnyH_take (i := 0) (v := ?_) rfl (by kernel_rfl) (by kernel_rfl) (by kernel_rfl) (fun _ _ _ h => h) (Or.inl ⟨by kernel_rfl, ?_⟩) hHeld ?_
  rotate_left
  · (intro w hSw; first | (go_simp; done) | (go_simp; with_reducible rfl))
  (try simp only [Act.put, List.getElem_toArray, List.getElem_cons_succ, List.getElem_cons_zero, List.setIfInBounds_toArray, List.set_cons_zero, List.set_cons_succ])
  refine wpAnyH_take (i := 1) (v := ?_) rfl (by kernel_rfl) (by kernel_rfl) (by kernel_rfl) (fun _ _ _ h => h) (Or.inl ⟨by kernel_rfl, ?_⟩) hHeld ?_
  rotate_left
  · (intro w hSw; first | (go_simp; done) | (go_simp; with_reducible rfl))
  (try simp only [Act.put, List.getElem_toArray, List.getElem_cons_succ, List.getElem_cons_zero, List.setIfInBounds_toArray, List.set_cons_zero, List.set_cons_succ])
  refine wpAnyH_take (i := 2) (v := ?_) rfl (by kernel_rfl) (by kernel_rfl) (by kernel_rfl) (fun _ _ _ h => h) (Or.inl ⟨by kernel_rfl, ?_⟩) hHeld ?_
  rotate_left
  · (intro w hSw; first | (go_simp; done) | (go_simp; with_reducible rfl))
  (try simp only [Act.put, List.getElem_toArray, List.getElem_cons_succ, List.getElem_cons_zero, List.setIfInBounds_toArray, List.set_cons_zero, List.set_cons_succ])
  refine wpAnyH_take (i := 3) (v := ?_) rfl (by kernel_rfl) (by kernel_rfl) (by kernel_rfl) (fun _ _ _ h => h) (Or.inl ⟨by kernel_rfl, ?_⟩) hHeld ?_
  rotate_left
  · (intro w hSw; first | (go_simp; done) | (go_simp; with_reducible rfl))
  (try simp only [Act.put, List.getElem_toArray, List.getElem_cons_succ, List.getElem_cons_zero, List.setIfInBounds_toArray, List.set_cons_zero, List.set_cons_succ])
  refine wpAnyH_take (i := 6) (v := ?_) rfl (by kernel_rfl) (by kernel_rfl) (by kernel_rfl) (fun _ _ _ h => h) (Or.inl ⟨by kernel_rfl, ?_⟩) hHeld ?_
  rotate_left
  · (intro w hSw; first | (go_simp; done) | (go_simp; with_reducible rfl))
  (try simp only [Act.put, List.getElem_toArray, List.getElem_cons_succ, List.getElem_cons_zero, List.setIfInBounds_toArray, List.set_cons_zero, List.set_cons_succ])
  refine wpAnyH_take (i := 7) (v := ?_) rfl (by kernel_rfl) (by kernel_rfl) (by kernel_rfl) (fun _ _ _ h => h) (Or.inl ⟨by kernel_rfl, ?_⟩) hHeld ?_
  rotate_left
  · (intro w hSw; first | (go_simp; done) | (go_simp; with_reducible rfl))
  (try simp only [Act.put, List.getElem_toArray, List.getElem_cons_succ, List.getElem_cons_zero, List.setIfInBounds_toArray, List.set_cons_zero, List.set_cons_succ])
  refine wpAnyH_take (i := 8) (v := ?_) rfl (by kernel_rfl) (by kernel_rfl) (by kernel_rfl) (fun _ _ _ h => h) (Or.inl ⟨by kernel_rfl, ?_⟩) hHeld ?_
  rotate_left
  · (intro w hSw; first | (go_simp; done) | (go_simp; with_reducible rfl))
  (try simp only [Act.put, List.getElem_toArray, List.getElem_cons_succ, List.getElem_cons_zero, List.setIfInBounds_toArray, List.set_cons_zero, List.set_cons_succ])
  refine wpAnyH_take (i := 9) (v := ?_) rfl (by kernel_rfl) (by kernel_rfl) (by kernel_rfl) (fun _ _ _ h => h) (Or.inl ⟨by kernel_rfl, ?_⟩) hHeld ?_
  rotate_left
  · (intro w hSw; first | (go_simp; done) | (go_simp; with_reducible rfl))
  (try simp only [Act.put, List.getElem_toArray, List.getElem_cons_succ, List.getElem_cons_zero, List.setIfInBounds_toArray, List.set_cons_zero, List.set_cons_succ])
  refine wpAnyH_ready (rs := [4]) (by kernel_rfl) (by simp) (AllReadyH.cons rfl (fun K hK => ?_) AllReadyH.nil)
  have hH := hHeld
  (go_simp; go_at_call 122; refine (HR.out _).mono ?_; rintro e w9 ⟨rfl, hb9⟩)
  refine hK.out _ _ (by exact ⟨(hb9.cell (World.block_lt_of_cell? _ _ hH.1)).trans hH.1, (hb9.cell (World.block_lt_of_cell? _ _ hH.2.1)).trans hH.2.1, (hb9.cell (World.block_lt_of_cell? _ _ hH.2.2)).trans hH.2.2⟩) (fun hHq1 => ?_)
  clear hK K hH 
  have hP9 := Own.below (w := X.drew) HP.out hb9 HP.out.lt; have s0 := hP9.cell 0; have s1 := hP9.cell 1; have s2 := hP9.cell 2; have f0 := hP9.frozen 0; have f1 := hP9.frozen 1; have f2 := hP9.frozen 2; simp at s0 s1 s2
  (try simp only [Act.put, List.getElem_toArray, List.getElem_cons_succ, List.getElem_cons_zero, List.setIfInBounds_toArray, List.set_cons_zero, List.set_cons_succ])
  refine wpAnyH_take (i := 5) (v := ?_) rfl (by kernel_rfl) (by kernel_rfl) (by kernel_rfl) (fun _ _ _ h => h) (Or.inl ⟨by kernel_rfl, ?_⟩) hHq1 ?_
  rotate_left
  · (intro w hSw; first | (go_simp; done) | (go_simp; with_reducible rfl))
  (try simp only [Act.put, List.getElem_toArray, List.getElem_cons_succ, List.getElem_cons_zero, List.setIfInBounds_toArray, List.set_cons_zero, List.set_cons_succ])
  refine wpAnyH_take (i := 10) (v := ?_) rfl (by kernel_rfl) (by kernel_rfl) (by kernel_rfl) (fun _ _ _ h => h) (Or.inl ⟨by kernel_rfl, ?_⟩) hHq1 ?_
  rotate_left
  · (intro w hSw; first | (go_simp; done) | (go_simp; with_reducible rfl))
  (try simp only [Act.put, List.getElem_toArray, List.getElem_cons_succ, List.getElem_cons_zero, List.setIfInBounds_toArray, List.set_cons_zero, List.set_cons_succ])
  refine wpAnyH_ready (rs := [11]) (by kernel_rfl) (by simp) (AllReadyH.cons rfl (fun K hK => ?_) AllReadyH.nil)
  have hH := hHq1
  (go_simp; skip)
  refine hK.out _ _ (by exact ⟨far3 hH.1 (by omega), far3 hH.2.1 (by omega), far3 hH.2.2 (by omega)⟩) (fun hHq2 => ?_)
  clear hK K hH hHq1
  (try simp only [Act.put, List.getElem_toArray, List.getElem_cons_succ, List.getElem_cons_zero, List.setIfInBounds_toArray, List.set_cons_zero, List.set_cons_succ])
  refine wpAnyH_done (by kernel_rfl) ?_ _
  have hEnd := hHq2
  have hCX : Chg [] w X := by rw [← HX.out]; exact ((Chg.refl [] w).alloc _).alloc _
  have hC9 : Chg [] X w9 := ((Chg.refl [] X).drew).of_below hb9
  clear hEnd hHeld hHq2 HR HX e1 e2 e3
  go_wp2_with fail
  refine bodyPost_ret (v := pv h r n) (by simp [results, Tryz.results121, go_sem, s0, s1, s2, f0, f1, f2]) rfl ⟨rfl, ?_⟩
  exact ((((hCX.trans hC9).setCell (p := ⟨w.heap.size + 1, 0, none⟩) (Or.inr (by simp)) _).setCell (p := ⟨w.heap.size + 1, 1, none⟩) (Or.inr (by simp)) _).setCell (p := ⟨w.heap.size + 1, 2, none⟩) (Or.inr (by simp)) _)
end Go.Proofs.YtcadnlilijkneaaGreat
namespace Go.Proofs.YtcadnlilijkneaaGreat
open Go.RowKit
set_option linter.unusedVariables false
set_option linter.unusedSimpArgs false

theorem number2_any (w : World) (a : Option Addr) (bs : List UInt8) (c B : Nat) (hro : Ro w B a (u8s bs)) (hl : 2 ≤ bs.length) (m : Nat) (hm : nb (bs.take 2) = m) :
    Calls Tryz.prog 176 #[.slice a 2 c] w fun e w' => e = .returned (.int .u32 (m : Int)) ∧ w = w' := by
  have e : (bs.take 2).length = 2 := by rw [List.length_take]; omega
  have h := number_any w a (bs.take 2) c B (by have := hro.take 2; simpa [u8s, List.map_take] using this) (by omega)
  rw [e, hm] at h
  exact h
instance (bs : List UInt8) : Decidable (begs bs) := decidable_of_iff _ (begs_iff bs).symm
theorem quiet1 {P : Program} {f : FuncId} {args : Array Value} {w : World} {n : Nat} {v : Value} (h : Calls P f args (w.drewN n) fun e w' => e = .returned v ∧ w.drewN n = w') : Calls P f args (w.drewN n) fun e w'' => e = .returned v ∧ ∃ m, w'' = w.drewN m :=
  h.mono fun _ _ h => ⟨h.1, n, h.2.symm⟩
theorem quiet2 {P : Program} {f : FuncId} {args : Array Value} {w : World} {a n : Nat} {v : Value} (h : Calls P f args (w.drewN (a + n)) fun e w' => e = .returned v ∧ w.drewN (a + n) = w') : Calls P f args (w.drewN (a + n)) fun e w'' => e = .returned v ∧ ∃ m, w'' = w.drewN (a + m) :=
  h.mono fun _ _ h => ⟨h.1, n, h.2.symm⟩
def FirstT (bs : List UInt8) (w : World) (e : Ending) (w' : World) : Prop :=
  ∃ a' n' c' t, e = .returned (.tuple #[.slice a' n' c', .bool t]) ∧ Hid (t = decide (begs bs)) ∧ Hid (t = true → n' = nb (bs.take 2)) ∧ Qt w w'
theorem FirstT.no {bs : List UInt8} {w w' : World} {e : Ending} (h : ¬ begs bs) (a' : Option Addr) (n' c' : Nat) (he : e = .returned (.tuple #[.slice a' n' c', .bool false])) (hw : Qt w w') : FirstT bs w e w' :=
  ⟨a', n', c', false, he, Lib.hid (by simp [h]), Lib.hid (by simp), hw⟩
theorem FirstT.yes {bs : List UInt8} {w w' : World} {e : Ending} {m : Nat} (hm : nb (bs.take 2) = m) (hl : 2 ≤ bs.length) (h2 : m ≤ bs.length - 2) (a' : Option Addr) (c' : Nat) (he : e = .returned (.tuple #[.slice a' m c', .bool (decide (1 ≤ m ∧ m ≤ 300))])) (hw : Qt w w') : FirstT bs w e w' :=
  ⟨a', m, c', _, he, Lib.hid (by
    rw [decide_eq_decide, begs_iff, hm]
    exact ⟨fun h => ⟨hl, h2, h.1, h.2⟩, fun h => ⟨h.2.2.1, h.2.2.2⟩⟩), Lib.hid (fun _ => hm.symm), hw⟩
set_option maxHeartbeats 1000000 in
set_option maxRecDepth 100000 in
theorem firstRecord_any (w : World) (a : Option Addr) (bs : List UInt8) (c B : Nat) (hro : Ro w B a (u8s bs)) (hc : bs.length ≤ c) (h63 : c ≤ 9223372036854775807) :
    Calls Tryz.prog 180 #[.slice a bs.length c] w (FirstT bs w) := by
  obtain ⟨n, HN⟩ : ∃ n, Hid (bs.length = n) := ⟨_, Lib.hid rfl⟩
  rw [HN.out] at hc ⊢
  by_cases h2 : n < 2
  · have HB := Lib.hid (show ¬ begs bs by rw [begs_iff, HN.out]; omega)
    have hd : decide ((n : Int) < 2) = true := by simp; omega
    clear hro
    go_enter Tryz.func180, Tryz.ntmps180
    go_wp2
    go_ret2
    exact FirstT.no HB.out _ _ _ rfl (Qt.refl _)
  · obtain ⟨b, off, rfl, hb, _⟩ := hro.u8 (by rw [HN.out]; omega)
    obtain ⟨m, HM⟩ : ∃ m, Hid (nb (bs.take 2) = m) := ⟨_, Lib.hid rfl⟩
    have hm16 : m < 65536 := by rw [← HM.out]; have := nb_lt 2 (bs.take 2) (by rw [List.length_take, HN.out]; omega); simpa using this
    have HC := Lib.hid (fun W (h : Qt w W) => number2_any W _ bs c B (hro.qt h) (by rw [HN.out]; omega) m HM.out)
    have hd : decide ((n : Int) < 2) = false := by simp; omega
    have HR := Lib.hid (show 2 ≤ n by omega)
    have hci : (c = 2) = True ∨ (c = 2) = False := by by_cases h : c = 2 <;> simp [h]
    have hm0 : (0 : Int) ≤ (m : Int) := by omega
    have hn2 : (2 : Int) ≤ (n : Int) := by omega
    have hc2 : (2 : Int) ≤ (c : Int) := by omega
    have hnc : (n : Int) ≤ (c : Int) := by omega
    clear hro h2
    rcases hci with hci | hci
    all_goals
      go_enter Tryz.func180, Tryz.ntmps180
      go_wp2_with fail
      go_quiet ((go_at_call 176; exact quiet1 (HC.out _ ⟨_, rfl⟩)))
      by_cases hgt : n - 2 < m
      case' pos =>
        have HNB := Lib.hid (show ¬ begs bs by rw [begs_iff, HN.out, HM.out]; omega)
        have hd2 : decide ((n : Int) - 2 < (m : Int)) = true := by simp; omega
        go_wp2
        go_ret2
        exact FirstT.no HNB.out _ _ _ rfl (Qt.drewN _ _)
      case' neg =>
        have hd2 : decide ((n : Int) - 2 < (m : Int)) = false := by simp; omega
        have hmn : (m : Int) ≤ (n : Int) - 2 := by omega
        go_wp2_with fail
        go_quiet ((go_at_call 140; exact quiet2 (isRecord_any _ _ m _)))
        go_wp2
        go_ret2
        exact FirstT.yes HM.out (by rw [HN.out]; exact HR.out) (by rw [HN.out]; omega) _ _ rfl (((Qt.refl _).add _).add _)
end Go.Proofs.YtcadnlilijkneaaGreat
