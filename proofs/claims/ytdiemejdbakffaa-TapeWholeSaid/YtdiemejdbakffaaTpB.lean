/-
  Contracts of package tape's putNumber and sector. No claim of their own.
-/
import Derived.Test.YtdiemejdbakffaaTpA
import Derived.Deep.CutBlock
namespace Go.Proofs.Ytdiemejdbakffaa
open Go.RowKit
set_option linter.unusedVariables false
set_option linter.unusedSimpArgs false

theorem infoU8 : (Try.prog.info? 5).map (fun i => (i.zero, i.size, i.bytes)) = some (some (.int .u8 0), 1, 1) := by kernel_rfl
theorem infoInt : (Try.prog.info? 3).map (fun i => (i.zero, i.size, i.bytes)) = some (some (.int .i64 0), 1, 8) := by kernel_rfl
theorem be_take (k n j z : Nat) (h : z + j + 1 = k) : (be k n).take (j + 1) = (be k n).take j ++ [UInt8.ofNat (n / 256 ^ z)] := by
  rw [take_snoc _ _ (by simp; omega)]
  congr 2
  have e : k - 1 - j = z := by omega
  simp [be, e]
theorem byte_at (n z : Nat) : (n : Int) / 2 ^ (8 * z) % 256 = (((UInt8.ofNat (n / 256 ^ z)).toNat : Nat) : Int) := by
  rw [show (256 : Nat) ^ z = 2 ^ (8 * z) from by rw [Nat.pow_mul]]
  simp
set_option maxRecDepth 100000 in
theorem putNumber_any (w : World) (v : Value) (xs : List Value) (n k : Nat) (hv : Lst w 0 5 v xs) (hx : xs.length + 8 ≤ 100000000) (hn : n < 4294967296) (hk : k ≤ 4) :
    Calls Try.prog 53 #[v, .int .u32 (n : Int), .int .i64 (k : Int)] w fun e w' => ∃ v', e = .returned v' ∧ Hid (AppK w w' 5 v v' xs (u8s (be k n))) := by
  have HV := Lib.hid hv
  clear hv
  go_enter Try.func53, Try.ntmps53
  go_wp2
  go_loopw [0, 7] (fun b i wr => ∃ j : Nat, j ≤ k ∧ i = .int .i64 ((k : Int) - 1 - (j : Int)) ∧ Hid (AppK w wr 5 v b xs (u8s ((be k n).take j)))) (fun _ i _ => (intOf i + 1).toNat)
  case atStart => exact ⟨0, Nat.zero_le _, by go_num, Lib.hid (AppK.refl HV.out)⟩
  case round =>
    obtain ⟨j, hj, rfl, HR⟩ := hrel
    by_cases hlt : j < k
    · obtain ⟨z, hz⟩ : ∃ z : Nat, z + j + 1 = k := ⟨k - 1 - j, by omega⟩
      have e : (k : Int) - 1 - (j : Int) = (z : Int) := by omega
      rw [e]
      clear e
      have hd : decide ((0 : Int) ≤ (z : Int)) = true := by simp
      have HB := Lib.hid (byte_at n z)
      have HT := Lib.hid (be_take k n j z hz)
      have hlj : ((be k n).take j).length ≤ 4 := by rw [List.length_take, be_len]; omega
      go_wp2_with (first
        | (at_builtin; refine wpList_appK1 rfl _ _ 35 rfl 5 (.int .u8 0) 1 Try.underlying35 infoU8 rfl _ rfl u0 _ (by rfl) HR.out.lst _ (by rfl) (by simp) (by simp; omega) (by simp; omega) ?_; intro v4 w4 H4)
        | fail)
      go_roundw
      case rel => exact ⟨j + 1, by omega, by go_num, Lib.hid (by
        have h := AppK.trans HV.out HR.out H4.out
        rw [HT.out, HB.out] at *
        simpa [u8s] using h)⟩
      case measure => simp [intOf] <;> omega
    · have hjk : j = k := by omega
      have e : (k : Int) - 1 - (j : Int) = -1 := by omega
      have HK := Lib.hid (show (be k n).take j = be k n by rw [hjk, List.take_of_length_le (by simp)])
      rw [HK.out] at HR
      rw [e]
      clear e hjk
      go_wp2
      go_ret
      exact ⟨_, rfl, HR⟩

/-- what a superblock tells, as a value -/
abbrev pv (h r b : Nat) : Value := .agg #[.int .u8 (h : Int), .int .u32 (r : Int), .int .u32 (b : Int)]
set_option maxRecDepth 100000 in
theorem sector_any (w : World) (h r b : Nat) (hh : h < 256) (hr : r < 4294967296) (hb : b < 4294967296) :
    Calls Try.prog 49 #[pv h r b] w fun e w' => e = .returned (sv (supS h r b)) ∧ Chg [] w w' := by
  have HX := Lib.hid (show h = (UInt8.ofNat h).toNat by simp; omega)
  obtain ⟨W0, HW0⟩ : ∃ W0, Hid (W0 = (w.alloc (.cells #[.int .u8 (h : Int), .int .u32 (r : Int), .int .u32 (b : Int)] 67)).alloc (.cells (u8s zsec).toArray 56)) := ⟨_, Lib.hid rfl⟩
  have hC0 : Chg [] w W0 := by rw [HW0.out]; exact ((Chg.refl [] w).alloc _).alloc _
  have hs0 : W0.heap.size = w.heap.size + 1 + 1 := by rw [HW0.out]; simp
  have hT0 : W0.there (w.heap.size + 1) 0 64 := by
    have := there_box (w.alloc (.cells #[.int .u8 (h : Int), .int .u32 (r : Int), .int .u32 (b : Int)] 67)) zsec 56 zsec_len
    rw [World.size_alloc] at this
    rw [HW0.out]; exact this
  have hcb : W0.cell? ⟨w.heap.size, 2, none⟩ = some (.int .u32 (b : Int)) := by
    rw [HW0.out]
    have h1 := (Own.new w 67 [.int .u8 (h : Int), .int .u32 (r : Int), .int .u32 (b : Int)]).alloc (.cells (u8s zsec).toArray 56)
    rw [h1.cell]
    rfl
  have hcr : W0.cell? ⟨w.heap.size, 1, none⟩ = some (.int .u32 (r : Int)) := by
    rw [HW0.out]
    have h1 := (Own.new w 67 [.int .u8 (h : Int), .int .u32 (r : Int), .int .u32 (b : Int)]).alloc (.cells (u8s zsec).toArray 56)
    rw [h1.cell]
    rfl
  have hch : W0.cell? ⟨w.heap.size, 0, none⟩ = some (.int .u8 (h : Int)) := by
    rw [HW0.out]
    have h1 := (Own.new w 67 [.int .u8 (h : Int), .int .u32 (r : Int), .int .u32 (b : Int)]).alloc (.cells (u8s zsec).toArray 56)
    rw [h1.cell]
    rfl
  have hlit := Lst.lit W0 0 5 #[.int .u8 (h : Int)] (by omega) (by unfold maxLen; simp)
  have HL := Lib.hid hlit
  have H1 := Lib.hid (putNumber_any (W0.alloc (.cells #[.int .u8 (h : Int)] 5)) _ _ r 4 hlit (by simp) hr (by omega))
  rw [hs0] at H1
  have HS0 := Lib.hid hs0
  have HLL := Lib.hid hlit
  clear hlit hs0 HL
  have H1' := H1
  rw [HW0.out] at H1'
  go_enter Try.func49, Try.ntmps49
  go_wp2_with (first
    | (refine wpList_alloc37 rfl rfl ?_)
    | fail)
  refine H1'.out.mono ?_
  rintro e w4 ⟨v4, rfl, H4⟩
  clear H1 H1'
  rw [← HW0.out] at H4
  have hs0 := HS0.out
  have hB4 : ∀ x ∈ bl v4, W0.heap.size ≤ x := fun x hx => by
    rcases H4.out.bl x hx with h1 | h1
    · rw [mem_bl] at h1; simp only [Value.ownBlock, Option.some.injEq] at h1; omega
    · simp at h1; omega
  have hC4 : Chg [] W0 w4 := ((Chg.refl [] W0).alloc _).then H4.out.chg (fun x hx => .inr (by
    rw [mem_bl] at hx; simp only [Value.ownBlock, Option.some.injEq] at hx; omega))
  have hcb4 := hC4.cell hcb (by simp)
  have HB4 := Lib.hid hB4
  have H2 := Lib.hid (putNumber_any w4 v4 _ b 4 H4.out.lst (by simp) hb (by omega))
  clear hB4 hs0 HX
  go_wp2_with fail
  refine H2.out.mono ?_
  rintro e w5 ⟨v5, rfl, H5⟩
  have hC5 : Chg [] W0 w5 := hC4.then H5.out.chg (fun x hx => .inr (HB4.out x hx))
  have hl5 := H5.out.lst
  have hu : [Value.int .u8 (h : Int)] ++ u8s (be 4 r) ++ u8s (be 4 b) = u8s (UInt8.ofNat h :: (be 4 r ++ be 4 b)) := by
    have : (UInt8.ofNat h).toNat = h := by simp; omega
    simp [u8s, this]
  rw [hu] at hl5
  obtain ⟨a5, c5, rfl, hro5, hc5, _⟩ := hl5.form
  have H6 := Lib.hid (fill_any w5 a5 (UInt8.ofNat h :: (be 4 r ++ be 4 b)) c5 w5.heap.size hro5 (Nat.le_refl _))
  rw [u8s_length] at hc5 ⊢
  have HC5 := Lib.hid hC5
  have hT5 := hC5.there hT0 (by simp)
  clear hu hl5 hro5 H2 H4 H5 hC4 hC5 hcb4 hcb hcr hch hT0
  go_wp2_with fail
  refine H6.out.mono ?_
  rintro e w6 ⟨rfl, hC6⟩
  have hT6 := hC6.there hT5 (by simp)
  go_wp2_with (first
    | (refine wpList_store37 rfl _ _ rfl (w.heap.size + 1) 0 (supS h r b) rfl rfl hT6 (supS_len h r b) ?_)
    | fail)
  refine bodyPost_ret (results_cell (j := 2) (t := 56) (p := ⟨w.heap.size + 1, 0, none⟩) Try.results49 rfl (load37 (S := supS h r b) (World.rangeAt_setCells_same _ _ _ _ (by rw [u8s_length, supS_len]; exact hT6)) (supS_len h r b))) rfl ⟨rfl, ?_⟩
  exact ((hC0.trans HC5.out).trans hC6).setCells (Or.inr (by omega)) _ _
end Go.Proofs.Ytdiemejdbakffaa
