/-
  The document's answers on rolling sums, by their contracts: Sum, More, Join, Roll. No condition but the ranges that each theorem names.
-/
import Derived.Test.YtlkojonchlcpdaaBase
import Derived.Test.YtlkojonchlcpdaaAdMath
import Derived.IntWalk
namespace Go.Proofs.Ytlkojonchlcpdaa
open Go.RowKit

set_option maxHeartbeats 400000 in
theorem refMore_any (s : Nat) (bs : List UInt8) (len : Nat) (A : Option Addr) (c B : Nat) (w : World) (hlen : bs.length = len) (h : Ro w B A (u8s bs)) (hs : s < 4294967296) (hl : len ≤ 9223372036854775807) :
    Calls Try.prog 13 #[.int .u32 (s : Int), .slice A len c] w fun e w' => e = .returned (.int .u32 (moreN s bs : Nat)) ∧ w = w' := by
  obtain ⟨p, q, hp, hq, hp2, hq2, e1⟩ : ∃ p q : Nat, p < 65521 ∧ q < 65521 ∧ p = s % 65536 % 65521 ∧ q = s / 65536 % 65521 ∧ moreN s bs = 65536 * bOf p q bs + aOf p bs :=
    ⟨s % 65536 % 65521, s / 65536 % 65521, Nat.mod_lt _ (by omega), Nat.mod_lt _ (by omega), rfl, rfl, rfl⟩
  have HE := Lib.hid e1
  have HP := Lib.hid (And.intro hp2 hq2)
  have HL := Lib.hid hlen
  clear e1 hp2 hq2 hlen
  go_enter Try.func13, Try.ntmps13
  go_wp2_with fail
  go_loop [5, 6, 7] (fun x y i => ∃ k : Nat, k ≤ len ∧ i = .int .i64 (k : Int) ∧ x = .int .u32 (aOf p (bs.take k) : Nat) ∧ y = .int .u32 (bOf p q (bs.take k) : Nat)) (fun _ _ i => len - (intOf i).toNat)
  case atStart =>
    refine ⟨0, by omega, by simp, ?_, ?_⟩
    · rw [List.take_zero, aOf_nil p hp, HP.out.1]; simp
    · rw [List.take_zero, bOf_nil p q hq, HP.out.2]; simp
  case round =>
    obtain ⟨k, hk, rfl, rfl, rfl⟩ := hrel
    have h1 := aOf_lt p (bs.take k)
    have h2 := bOf_lt p q (bs.take k)
    by_cases hlt : k < len
    · obtain ⟨b0, off, rfl, hb0, hc⟩ := h.u8 (by have := HL.out; omega)
      have hcell := hc k (by have := HL.out; omega)
      have h3 := aOf_snoc p (bs.take k) (bs.getD k 0)
      have h4 := bOf_snoc p q (bs.take k) (bs.getD k 0)
      rw [← take_snoc bs k (by have := HL.out; omega)] at h3 h4
      clear hc
      have HS := Lib.hid (And.intro h3 h4)
      clear h3 h4
      generalize aOf p (bs.take k) = x at *
      generalize bOf p q (bs.take k) = y at *
      generalize bs.getD k 0 = z at *
      have hz := z.toNat_lt
      go_wp2_with fail
      go_round
      case rel =>
        obtain ⟨e1, e2⟩ := HS.out
        exact ⟨k + 1, by omega, by go_num, by rw [e1]; go_num, by rw [e2, e1]; go_num⟩
      case measure => simp [intOf]; omega
    · obtain rfl : k = len := by omega
      have hfin : bs.take k = bs := by rw [← HL.out]; exact List.take_length
      rw [hfin] at h1 h2 ⊢
      clear hfin
      generalize hx : aOf p bs = x at h1 ⊢
      generalize hy : bOf p q bs = y at h2 ⊢
      have HX := Lib.hid hx
      have HY := Lib.hid hy
      clear hx hy
      go_wp2_with fail
      go_ret
      exact ⟨ret_int (by rw [HE.out, HX.out, HY.out]; simp), rfl⟩

set_option maxHeartbeats 400000 in
theorem refSum_any (bs : List UInt8) (len : Nat) (A : Option Addr) (c B : Nat) (w : World) (hlen : bs.length = len) (h : Ro w B A (u8s bs)) (hl : len ≤ 9223372036854775807) :
    Calls Try.prog 11 #[.slice A len c] w fun e w' => e = .returned (.int .u32 (sumN bs : Nat)) ∧ w = w' := by
  go_enter Try.func11, Try.ntmps11
  go_wp2_with fail
  refine (refMore_any 1 bs len A c B _ hlen h (by omega) hl).mono ?_
  rintro e w1 ⟨rfl, rfl⟩
  go_wp2_with fail
  go_ret
  exact ⟨rfl, rfl⟩

theorem wrap_fin (h l : Int) (h0 : 0 ≤ h) (h1 : h < 65521) (l0 : 0 ≤ l) (l1 : l < 65521) : IntKind.u64.wrap (65536 * h + l) % 4294967296 = 65536 * h + l := by
  rw [IntKind.wrap_u64]; omega
theorem prod_bd (k a : Int) (h0 : 0 ≤ k) (h1 : k < 65521) (h2 : 0 ≤ a) (h3 : a ≤ 200000) : 0 ≤ k * a ∧ k * a ≤ 65521 * 200000 :=
  ⟨Int.mul_nonneg h0 h2, Int.mul_le_mul (by omega) h3 h2 (by omega)⟩

theorem join_eq (x y : Nat) (n k : Int) (hk : k = max n 0 % 65521) :
    65536 * (((x : Int) / 65536 % 65521 + (y : Int) / 65536 % 65521 + k * ((x : Int) % 65536 % 65521 + 65521 - 1)) % 65521) + ((x : Int) % 65536 % 65521 + (y : Int) % 65536 % 65521 + 65521 - 1) % 65521 = ((joinN x y n : Nat) : Int) := by
  rw [refJoinA, refJoinB, hk]
  unfold joinN
  have h1 := joinA_bd ((x % 65536 : Nat) : Int) ((y % 65536 : Nat) : Int)
  have h2 := joinB_bd ((x % 65536 : Nat) : Int) ((x / 65536 : Nat) : Int) ((y / 65536 : Nat) : Int) (max n 0 % 65521)
  simp only [Int.natCast_emod, Int.natCast_ediv, Int.cast_ofNat_Int] at h1 h2 ⊢
  omega

set_option maxHeartbeats 1000000 in
theorem refJoin_any (x y : Nat) (n : Int) (w : World) (hx : x < 4294967296) (hy : y < 4294967296) (hn0 : -9223372036854775808 ≤ n) (hn1 : n ≤ 9223372036854775807) :
    Calls Try.prog 15 #[.int .u32 (x : Int), .int .u32 (y : Int), .int .i64 n] w fun e w' => e = .returned (.int .u32 (joinN x y n : Nat)) ∧ w = w' := by
  by_cases hn : 0 ≤ n
  · obtain ⟨g0, g1⟩ := prod_bd (n % 65521) ((x : Int) % 65536 % 65521 + 65521 - 1) (by omega) (by omega) (by omega) (by omega)
    go_enter Try.func15, Try.ntmps15
    go_wp2_with fail
    go_ret
    refine ⟨ret_int ?_, rfl⟩
    rw [← join_eq x y n (n % 65521) (by omega)]
    exact wrap_fin _ _ (Int.emod_nonneg _ (by omega)) (Int.emod_lt_of_pos _ (by omega)) (Int.emod_nonneg _ (by omega)) (Int.emod_lt_of_pos _ (by omega))
  · have hn2 : n < 0 := by omega
    go_enter Try.func15, Try.ntmps15
    go_wp2_with fail
    go_ret
    refine ⟨ret_int ?_, rfl⟩
    rw [← join_eq x y n 0 (by omega), Int.zero_mul]
    generalize (x : Int) / 65536 = u
    generalize (y : Int) / 65536 = v
    congr 2
    omega

theorem roll_eq (s : Nat) (n k : Int) (o i : Nat) (hk : k = max n 0 % 65521) :
    65536 * (((s : Int) / 65536 % 65521 + 65521 - k * (o : Int) % 65521 + 65521 - 1 + ((s : Int) % 65536 % 65521 + 65521 - (o : Int) + (i : Int)) % 65521) % 65521) + ((s : Int) % 65536 % 65521 + 65521 - (o : Int) + (i : Int)) % 65521 = ((rollN s n o i : Nat) : Int) := by
  rw [refRollB, refRollA, hk]
  unfold rollN
  have h1 := rollA_bd ((s % 65536 : Nat) : Int) (o : Int) (i : Int)
  have h2 := rollB_bd ((s % 65536 : Nat) : Int) ((s / 65536 : Nat) : Int) (max n 0 % 65521) (o : Int) (i : Int)
  simp only [Int.natCast_emod, Int.natCast_ediv, Int.cast_ofNat_Int] at h1 h2 ⊢
  omega

set_option maxHeartbeats 1000000 in
theorem refRoll_any (s : Nat) (n : Int) (o i : Nat) (w : World) (hs : s < 4294967296) (hn0 : -9223372036854775808 ≤ n) (hn1 : n ≤ 9223372036854775807) (ho : o < 256) (hi : i < 256) :
    Calls Try.prog 17 #[.int .u32 (s : Int), .int .i64 n, .int .u8 (o : Int), .int .u8 (i : Int)] w fun e w' => e = .returned (.int .u32 (rollN s n o i : Nat)) ∧ w = w' := by
  by_cases hn : 0 ≤ n
  · obtain ⟨g0, g1⟩ := prod_bd (n % 65521) (o : Int) (by omega) (by omega) (by omega) (by omega)
    go_enter Try.func17, Try.ntmps17
    go_wp2_with fail
    go_ret
    refine ⟨ret_int ?_, rfl⟩
    rw [← roll_eq s n (n % 65521) o i (by omega)]
    generalize n % 65521 * (o : Int) % 65521 = u
    generalize (s : Int) / 65536 % 65521 = v
    generalize (s : Int) % 65536 % 65521 + 65521 - (o : Int) + (i : Int) = t
    congr 2
    omega
  · have hn2 : n < 0 := by omega
    go_enter Try.func17, Try.ntmps17
    go_wp2_with fail
    go_ret
    refine ⟨ret_int ?_, rfl⟩
    rw [← roll_eq s n 0 o i (by omega), Int.zero_mul]
    generalize (s : Int) / 65536 % 65521 = v
    generalize (s : Int) % 65536 % 65521 + 65521 - (o : Int) + (i : Int) = t
    congr 2
    omega
end Go.Proofs.Ytlkojonchlcpdaa
