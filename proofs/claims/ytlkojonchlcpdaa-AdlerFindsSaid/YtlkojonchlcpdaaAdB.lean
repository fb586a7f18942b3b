/-
  Package adler's sums by their contracts: over, rolled, Sum, More, Join, Roll. No condition but the ranges that each theorem names.
-/
import Derived.Test.YtlkojonchlcpdaaAdA
import Derived.Test.YtlkojonchlcpdaaAdMath
import Derived.IntWalk
namespace Go.Proofs.Ytlkojonchlcpdaa
open Go.RowKit

set_option maxHeartbeats 400000 in
theorem over_any (a b : Nat) (bs : List UInt8) (len : Nat) (A : Option Addr) (c : Nat) (w : World) (hlen : bs.length = len) (h : Ro w w.heap.size A (u8s bs)) (ha : a < 65521) (hb : b < 65521) (hl : len ≤ 9223372036854775807) :
    Calls Try.prog 25 #[.agg #[.int .i64 (a : Int), .int .i64 (b : Int)], .slice A len c] w fun e w' => e = .returned (.agg #[.int .i64 (aOf a bs : Nat), .int .i64 (bOf a b bs : Nat)]) ∧ Below w.heap.size w w' := by
  have HL := Lib.hid hlen
  clear hlen
  go_enter Try.func25, Try.ntmps25
  go_wp2_with fail
  go_loopw [9] (fun i wr => ∃ k : Nat, k ≤ len ∧ i = .int .i64 (k : Int) ∧ Own wr w.heap.size 43 [.int .i64 (aOf a (bs.take k) : Nat), .int .i64 (bOf a b (bs.take k) : Nat)] ∧ Own wr (w.heap.size + 1) 43 [.int .i64 0, .int .i64 0] ∧ Below w.heap.size w wr) (fun i _ => len - (intOf i).toNat)
  case atStart =>
    refine ⟨0, by omega, by simp, ?_, ?_, ((Below.refl _ _).alloc (Nat.le_refl _) _).alloc (by simp) _⟩
    · rw [List.take_zero, aOf_nil a ha, bOf_nil a b hb]
      exact (Own.new w _ _).alloc _
    · have := Own.new (w.alloc (.cells #[.int .i64 (a : Int), .int .i64 (b : Int)] 43)) 43 [.int .i64 0, .int .i64 0]
      simpa using this
  case round =>
    obtain ⟨k, hk, rfl, hO, hO2, hB⟩ := hrel
    have hc0 := hO.cell 0
    have hc1 := hO.cell 1
    have hf0 := hO.frozen 0
    have hf1 := hO.frozen 1
    have hd0 := hO2.cell 0
    have hd1 := hO2.cell 1
    have hg0 := hO2.frozen 0
    have hg1 := hO2.frozen 1
    simp at hc0 hc1 hd0 hd1
    by_cases hlt : k < len
    · obtain ⟨b0, off, rfl, hb0, hc⟩ := (h.below hB (Nat.le_refl _)).u8 (by have := HL.out; omega)
      have hcell := hc k (by have := HL.out; omega)
      have h1 := aOf_lt a (bs.take k)
      have h2 := bOf_lt a b (bs.take k)
      have h3 := aOf_snoc a (bs.take k) (bs.getD k 0)
      have h4 := bOf_snoc a b (bs.take k) (bs.getD k 0)
      rw [← take_snoc bs k (by have := HL.out; omega)] at h3 h4
      clear hc
      have HS := Lib.hid (And.intro h3 h4)
      clear h3 h4
      have HO := Lib.hid (And.intro hO hO2)
      clear hO hO2
      generalize aOf a (bs.take k) = x at *
      generalize bOf a b (bs.take k) = y at *
      generalize bs.getD k 0 = z at *
      have hz := z.toNat_lt
      go_wp2_with fail
      go_roundw
      case rel =>
        obtain ⟨e1, e2⟩ := HS.out
        obtain ⟨o1, o2⟩ := HO.out
        refine ⟨k + 1, by omega, by go_num, ?_, (o2.far (p := ⟨w.heap.size, 0, none⟩) (by simp) _).far (p := ⟨w.heap.size, 1, none⟩) (by simp) _, (hB.setCell (p := ⟨w.heap.size, 0, none⟩) (Nat.le_refl _) _).setCell (p := ⟨w.heap.size, 1, none⟩) (Nat.le_refl _) _⟩
        have o3 := (o1.set 0 (.int .i64 (((x : Int) + (z.toNat : Int)) % 65521))).set 1 (.int .i64 (((y : Int) + ((x : Int) + (z.toNat : Int))) % 65521))
        rw [e2, e1, show (((x + z.toNat) % 65521 : Nat) : Int) = ((x : Int) + (z.toNat : Int)) % 65521 by omega, show (((y + (x + z.toNat) % 65521) % 65521 : Nat) : Int) = ((y : Int) + ((x : Int) + (z.toNat : Int))) % 65521 by omega]
        simpa using o3
      case measure => simp [intOf]; omega
    · obtain rfl : k = len := by omega
      have hfin : bs.take k = bs := by rw [← HL.out]; exact List.take_length
      rw [hfin] at hc0 hc1
      clear hO hO2 hfin
      generalize hx : aOf a bs = x at hc0
      generalize hy : bOf a b bs = y at hc1
      have HX := Lib.hid hx
      have HY := Lib.hid hy
      clear hx hy
      go_wp2_with fail
      exact bodyPost_ret (v := .agg #[.int .i64 (x : Int), .int .i64 (y : Int)]) (by simp [results, Try.results25, go_sem, hd0, hd1, hg0, hg1]) rfl ⟨by rw [HX.out, HY.out], (hB.setCell (p := ⟨w.heap.size + 1, 0, none⟩) (by simp) _).setCell (p := ⟨w.heap.size + 1, 1, none⟩) (by simp) _⟩

set_option maxHeartbeats 400000 in
theorem more_any (s : Nat) (bs : List UInt8) (len : Nat) (A : Option Addr) (c : Nat) (w : World) (hlen : bs.length = len) (h : Ro w w.heap.size A (u8s bs)) (hs : s < 4294967296) (hl : len ≤ 9223372036854775807) :
    Calls Try.prog 12 #[.int .u32 (s : Int), .slice A len c] w fun e w' => e = .returned (.int .u32 (moreN s bs : Nat)) ∧ Below w.heap.size w w' := by
  obtain ⟨p, q, p', q', hp, hq, hp', hq', hp1, hq1, hp2, hq2, e1⟩ : ∃ p q p' q' : Nat, p < 65536 ∧ q < 65536 ∧ p' < 65521 ∧ q' < 65521 ∧ p' = p % 65521 ∧ q' = q % 65521 ∧ s = 65536 * q + p ∧ True ∧ moreN s bs = 65536 * bOf p' q' bs + aOf p' bs :=
    ⟨s % 65536, s / 65536, s % 65536 % 65521, s / 65536 % 65521, by omega, by omega, by omega, by omega, rfl, rfl, by omega, trivial, rfl⟩
  have h1 := aOf_lt p' bs
  have h2 := bOf_lt p' q' bs
  have hspl := fun w => split_is s p q w hp2 hp hq
  have hred := fun w => reduced_is (p : Int) (q : Int) p' q' w (by omega) (by omega) (by omega) (by omega) (by omega) (by omega)
  have HE := Lib.hid e1
  have HS := Lib.hid hspl
  have HR := Lib.hid hred
  clear e1 hp1 hq1 hp2 hspl hred
  go_enter Try.func12, Try.ntmps12
  go_wp2_with fail
  refine (HS.out _).mono ?_
  rintro e w1 ⟨rfl, hb1⟩
  go_wp2_with fail
  refine (HR.out _).mono ?_
  rintro e w2 ⟨rfl, hb2⟩
  have hb12 := hb1.trans (hb2.mono hb1.size)
  clear hb2
  go_wp2_with fail
  refine (over_any _ _ bs len A c _ hlen ((h.below hb12 (Nat.le_refl _)).mono hb12.size) hp' hq' hl).mono ?_
  rintro e w3 ⟨rfl, hb3⟩
  have hb13 := hb12.trans (hb3.mono hb12.size)
  clear hb3
  go_wp2_with fail
  refine (hsum_any _ _ _ (by omega) (by omega)).mono ?_
  rintro e w4 ⟨rfl, hb4⟩
  have hb14 := hb13.trans (hb4.mono hb13.size)
  clear hb4
  go_wp2_with fail
  go_ret
  exact ⟨ret_int (by rw [HE.out]; simp), hb14⟩

set_option maxHeartbeats 400000 in
theorem sum_any (bs : List UInt8) (len : Nat) (A : Option Addr) (c : Nat) (w : World) (hlen : bs.length = len) (h : Ro w w.heap.size A (u8s bs)) (hl : len ≤ 9223372036854775807) :
    Calls Try.prog 10 #[.slice A len c] w fun e w' => e = .returned (.int .u32 (sumN bs : Nat)) ∧ Below w.heap.size w w' := by
  go_enter Try.func10, Try.ntmps10
  go_wp2_with fail
  refine (more_any 1 bs len A c _ hlen h (by omega) hl).mono ?_
  rintro e w1 ⟨rfl, hb1⟩
  go_wp2_with fail
  go_ret
  exact ⟨rfl, hb1⟩

set_option maxHeartbeats 400000 in
theorem rolled_any (a b : Nat) (n : Int) (o i : Nat) (w : World) (ha : a < 65536) (hb : b < 65536) (hn0 : -9223372036854775808 ≤ n) (hn1 : n ≤ 9223372036854775807) (ho : o < 256) (hi : i < 256) :
    Calls Try.prog 28 #[.agg #[.int .i64 (a : Int), .int .i64 (b : Int)], .int .i64 n, .int .u8 (o : Int), .int .u8 (i : Int)] w fun e w' =>
      e = .returned (.agg #[.int .i64 (rollA a o i), .int .i64 (rollB a b (max n 0 % 65521) o i)]) ∧ Below w.heap.size w w' := by
  obtain ⟨k, hk⟩ : ∃ k, k = max n 0 % 65521 := ⟨_, rfl⟩
  have hk0 : 0 ≤ k := by omega
  have hk1 : k < 65521 := by omega
  have hp0 : 0 ≤ k * (o : Int) := Int.mul_nonneg hk0 (by omega)
  have hp1 : k * (o : Int) ≤ 65521 * 256 := Int.mul_le_mul (by omega) (by omega) (by omega) (by omega)
  rw [← hk]
  have HK := Lib.hid hk
  clear hk
  have hcnt : ∀ w, Calls Try.prog 27 #[.int .i64 n] w fun e w' => e = .returned (.int .i64 k) ∧ w = w' := fun w => by rw [HK.out]; exact counted_any n w hn0 hn1
  have hred := fun w => reduced_any ((a : Int) - o + i) ((b : Int) - k * o - 1 + ((a : Int) - o + i)) w (by omega) (by omega) (by omega) (by omega)
  have HC := Lib.hid hcnt
  have HR := Lib.hid hred
  clear hcnt hred
  go_enter Try.func28, Try.ntmps28
  go_wp2_with fail
  have e1 : IntKind.i64.wrap (o : Int) = (o : Int) := IntWalk.i64_in _ (by omega)
  have e2 : IntKind.i64.wrap (k * (o : Int)) = k * (o : Int) := IntWalk.i64_in _ (by omega)
  have e3 : IntKind.i64.wrap ((b : Int) - k * (o : Int)) = (b : Int) - k * (o : Int) := IntWalk.i64_in _ (by omega)
  have e4 : IntKind.i64.wrap ((b : Int) - k * (o : Int) - 1) = (b : Int) - k * (o : Int) - 1 := IntWalk.i64_in _ (by omega)
  have e5 : IntKind.i64.wrap ((b : Int) - k * (o : Int) - 1 + ((a : Int) - o + i)) = (b : Int) - k * (o : Int) - 1 + ((a : Int) - o + i) := IntWalk.i64_in _ (by omega)
  go_region_held3 (fun w' => w'.cell? ⟨w.heap.size, 0, none⟩ = some (.int .i64 (a : Int)) ∧ w'.cell? ⟨w.heap.size, 1, none⟩ = some (.int .i64 (b : Int)))
    (first | go_keep | (refine ⟨(hb5.cell (by simp; omega)).trans ?_, (hb5.cell (by simp; omega)).trans ?_⟩ <;> go_keep))
    (first
      | (go_at_call 27; refine (HC.out _).mono ?_; rintro e w' ⟨rfl, rfl⟩)
      | (go_at_call 24; refine (HR.out _).mono ?_; rintro e w5 ⟨rfl, hb5⟩; have hs0 : w5.cell? ⟨w.heap.size + 1, 0, none⟩ = some (.int .i64 0) := (hb5.cell (by simp)).trans (by go_simp); have hs1 : w5.cell? ⟨w.heap.size + 1, 1, none⟩ = some (.int .i64 0) := (hb5.cell (by simp)).trans (by go_simp); have hf0 : w5.frozen? ⟨w.heap.size + 1, 0, none⟩ = false := (hb5.frozen (by simp)).trans (by go_simp); have hf1 : w5.frozen? ⟨w.heap.size + 1, 1, none⟩ = false := (hb5.frozen (by simp)).trans (by go_simp)))
  clear e1 e2 e3 e4 e5
  go_wp2_with fail
  have hbel : Below w.heap.size w w5 := (((Below.refl _ _).alloc (Nat.le_refl _) _).alloc (by simp) _).drew.trans (hb5.mono (by simp; omega))
  exact bodyPost_ret (v := .agg #[.int .i64 (((a : Int) - o + i) % 65521), .int .i64 (((b : Int) - k * o - 1 + ((a : Int) - o + i)) % 65521)]) (by simp [results, Try.results28, go_sem, hs0, hs1, hf0, hf1]) rfl
    ⟨rfl, (hbel.setCell (p := ⟨w.heap.size + 1, 0, none⟩) (by simp) _).setCell (p := ⟨w.heap.size + 1, 1, none⟩) (by simp) _⟩

set_option maxHeartbeats 400000 in
theorem roll_any (s : Nat) (n : Int) (o i : Nat) (w : World) (hs : s < 4294967296) (hn0 : -9223372036854775808 ≤ n) (hn1 : n ≤ 9223372036854775807) (ho : o < 256) (hi : i < 256) :
    Calls Try.prog 16 #[.int .u32 (s : Int), .int .i64 n, .int .u8 (o : Int), .int .u8 (i : Int)] w fun e w' =>
      e = .returned (.int .u32 (rollN s n o i : Nat)) ∧ Below w.heap.size w w' := by
  obtain ⟨p, q, p', q', hp, hq, hp', hq', hp2, hp3, hq3, e1⟩ : ∃ p q p' q' : Nat, p < 65536 ∧ q < 65536 ∧ p' < 65521 ∧ q' < 65521 ∧ s = 65536 * q + p ∧ (p' : Int) = rollA p o i ∧ (q' : Int) = rollB p q (max n 0 % 65521) o i ∧ rollN s n o i = 65536 * q' + p' := by
    have h1 := rollA_bd ((s % 65536 : Nat) : Int) o i
    have h2 := rollB_bd ((s % 65536 : Nat) : Int) ((s / 65536 : Nat) : Int) (max n 0 % 65521) o i
    exact ⟨s % 65536, s / 65536, (rollA ((s % 65536 : Nat) : Int) o i).toNat, (rollB ((s % 65536 : Nat) : Int) ((s / 65536 : Nat) : Int) (max n 0 % 65521) o i).toNat, by omega, by omega, by omega, by omega, by omega, by omega, by omega, by unfold rollN; omega⟩
  have hspl := fun w => split_is s p q w hp2 hp hq
  have hrol := fun w => rolled_any p q n o i w hp hq hn0 hn1 ho hi
  rw [← hp3, ← hq3] at hrol
  have HE := Lib.hid e1
  have HS := Lib.hid hspl
  have HR := Lib.hid hrol
  clear e1 hp3 hq3 hp2 hspl hrol
  go_enter Try.func16, Try.ntmps16
  go_wp2_with fail
  refine (HS.out _).mono ?_
  rintro e w1 ⟨rfl, hb1⟩
  go_wp2_with fail
  refine (HR.out _).mono ?_
  rintro e w2 ⟨rfl, hb2⟩
  have hb12 := hb1.trans (hb2.mono hb1.size)
  clear hb2
  go_wp2_with fail
  refine (hsum_any _ _ _ (by omega) (by omega)).mono ?_
  rintro e w4 ⟨rfl, hb4⟩
  have hb14 := hb12.trans (hb4.mono hb12.size)
  clear hb4
  go_wp2_with fail
  go_ret
  exact ⟨ret_int (by rw [HE.out]; simp), hb14⟩

set_option maxHeartbeats 1000000 in
theorem join_any (x y : Nat) (n : Int) (w : World) (hx : x < 4294967296) (hy : y < 4294967296) (hn0 : -9223372036854775808 ≤ n) (hn1 : n ≤ 9223372036854775807) :
    Calls Try.prog 14 #[.int .u32 (x : Int), .int .u32 (y : Int), .int .i64 n] w fun e w' =>
      e = .returned (.int .u32 (joinN x y n : Nat)) ∧ Below w.heap.size w w' := by
  obtain ⟨a, b, c, d, p', q', k, ha, hb, hc, hd, hp', hq', hk0, hk1, hx2, hy2, hk, hp3, hq3, e1⟩ : ∃ (a b c d p' q' : Nat) (k : Int), a < 65536 ∧ b < 65536 ∧ c < 65536 ∧ d < 65536 ∧ p' < 65521 ∧ q' < 65521 ∧ 0 ≤ k ∧ k < 65521 ∧ x = 65536 * b + a ∧ y = 65536 * d + c ∧ k = max n 0 % 65521 ∧
      (p' : Int) = ((a : Int) + c - 1) % 65521 ∧ (q' : Int) = ((b : Int) + d + k * ((a : Int) - 1)) % 65521 ∧ joinN x y n = 65536 * q' + p' := by
    have h1 := joinA_bd ((x % 65536 : Nat) : Int) ((y % 65536 : Nat) : Int)
    have h2 := joinB_bd ((x % 65536 : Nat) : Int) ((x / 65536 : Nat) : Int) ((y / 65536 : Nat) : Int) (max n 0 % 65521)
    refine ⟨x % 65536, x / 65536, y % 65536, y / 65536, (joinA ((x % 65536 : Nat) : Int) ((y % 65536 : Nat) : Int)).toNat, (joinB ((x % 65536 : Nat) : Int) ((x / 65536 : Nat) : Int) ((y / 65536 : Nat) : Int) (max n 0 % 65521)).toNat, max n 0 % 65521, by omega, by omega, by omega, by omega, by omega, by omega, by omega, by omega, by omega, by omega, rfl, ?_, ?_, by unfold joinN; omega⟩
    · rw [show (((joinA ((x % 65536 : Nat) : Int) ((y % 65536 : Nat) : Int)).toNat : Nat) : Int) = joinA ((x % 65536 : Nat) : Int) ((y % 65536 : Nat) : Int) by omega]; rfl
    · rw [show (((joinB ((x % 65536 : Nat) : Int) ((x / 65536 : Nat) : Int) ((y / 65536 : Nat) : Int) (max n 0 % 65521)).toNat : Nat) : Int) = joinB ((x % 65536 : Nat) : Int) ((x / 65536 : Nat) : Int) ((y / 65536 : Nat) : Int) (max n 0 % 65521) by omega]; rfl
  have hm1 : k * ((a : Int) - 1) ≤ 65521 * 65536 := by
    have := Int.mul_le_mul_of_nonneg_left (show (a : Int) - 1 ≤ 65536 by omega) hk0
    omega
  have hm0 : -65521 ≤ k * ((a : Int) - 1) := by
    have := Int.mul_le_mul_of_nonneg_left (show (-1 : Int) ≤ (a : Int) - 1 by omega) hk0
    omega
  have hspl := fun w => split_is x a b w hx2 ha hb
  have hspl2 := fun w => split_is y c d w hy2 hc hd
  have hcnt : ∀ w, Calls Try.prog 27 #[.int .i64 n] w fun e w' => e = .returned (.int .i64 k) ∧ w = w' := fun w => by rw [hk]; exact counted_any n w hn0 hn1
  have hred := fun w => reduced_is ((a : Int) + c - 1) ((b : Int) + d + k * ((a : Int) - 1)) p' q' w hp3 hq3 (by omega) (by omega) (by omega) (by omega)
  have HE := Lib.hid e1
  have HS := Lib.hid hspl
  have HS2 := Lib.hid hspl2
  have HC := Lib.hid hcnt
  have HR := Lib.hid hred
  clear e1 hp3 hq3 hx2 hy2 hspl hspl2 hcnt hred hk
  go_enter Try.func14, Try.ntmps14
  go_wp2_with fail
  refine (HS.out _).mono ?_
  rintro e w1 ⟨rfl, hb1⟩
  go_wp2_with fail
  refine (HS2.out _).mono ?_
  rintro e w2 ⟨rfl, hb2⟩
  have hb12 := hb1.trans (hb2.mono hb1.size)
  clear hb2 hb1
  go_wp2_with fail
  have hbX : Below w.heap.size w ((w2.alloc (.cells #[.int .i64 (a : Int), .int .i64 (b : Int)] 43)).alloc (.cells #[.int .i64 (c : Int), .int .i64 (d : Int)] 43)) := (hb12.alloc hb12.size _).alloc (by simp; have := hb12.size; omega) _
  have g1 : IntKind.i64.wrap ((a : Int) + (c : Int)) = (a : Int) + (c : Int) := IntWalk.i64_in _ (by omega)
  have g2 : IntKind.i64.wrap ((a : Int) + (c : Int) - 1) = (a : Int) + (c : Int) - 1 := IntWalk.i64_in _ (by omega)
  have g3 : IntKind.i64.wrap ((b : Int) + (d : Int)) = (b : Int) + (d : Int) := IntWalk.i64_in _ (by omega)
  have g4 : IntKind.i64.wrap ((a : Int) - 1) = (a : Int) - 1 := IntWalk.i64_in _ (by omega)
  have g5 : IntKind.i64.wrap (k * ((a : Int) - 1)) = k * ((a : Int) - 1) := IntWalk.i64_in _ (by omega)
  have g6 : IntKind.i64.wrap ((b : Int) + d + k * ((a : Int) - 1)) = (b : Int) + d + k * ((a : Int) - 1) := IntWalk.i64_in _ (by omega)
  go_region_held3 (fun w' => w'.cell? ⟨w2.heap.size, 0, none⟩ = some (.int .i64 (a : Int)) ∧ w'.cell? ⟨w2.heap.size, 1, none⟩ = some (.int .i64 (b : Int)) ∧ w'.cell? ⟨w2.heap.size + 1, 0, none⟩ = some (.int .i64 (c : Int)) ∧ w'.cell? ⟨w2.heap.size + 1, 1, none⟩ = some (.int .i64 (d : Int)))
    (first
      | go_keep
      | (have hH := ‹World.cell? _ ⟨w2.heap.size, 0, none⟩ = _ ∧ _›; exact ⟨(hb6.cell (by simp; have := hb5.size; simp at this; omega)).trans hH.1, (hb6.cell (by simp; have := hb5.size; simp at this; omega)).trans hH.2.1, (hb6.cell (by simp; have := hb5.size; simp at this; omega)).trans hH.2.2.1, (hb6.cell (by simp; have := hb5.size; simp at this; omega)).trans hH.2.2.2⟩)
      | (have hH := ‹World.cell? _ ⟨w2.heap.size, 0, none⟩ = _ ∧ _›; exact ⟨(hb5.cell (by simp; omega)).trans hH.1, (hb5.cell (by simp; omega)).trans hH.2.1, (hb5.cell (by simp)).trans hH.2.2.1, (hb5.cell (by simp)).trans hH.2.2.2⟩))
    (first
      | (go_at_call 27; refine (HC.out _).mono ?_; rintro e w' ⟨rfl, rfl⟩)
      | (go_at_call 24; refine (HR.out _).mono ?_; rintro e w5 ⟨rfl, hb5⟩)
      | (go_at_call 26; refine (hsum_any p' q' _ (by omega) (by omega)).mono ?_; rintro e w6 ⟨rfl, hb6⟩))
  clear g1 g2 g3 g4 g5 g6
  go_wp2_with fail
  go_ret
  exact ⟨ret_int (by rw [HE.out]; simp), (hbX.drew.trans (hb5.mono hbX.drew.size)).trans (hb6.mono (by have := hb5.size; simp at this; have := hb12.size; omega))⟩
end Go.Proofs.Ytlkojonchlcpdaa
