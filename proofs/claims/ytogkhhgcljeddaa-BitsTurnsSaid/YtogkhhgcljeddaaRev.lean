/-
  Plain arithmetic: 64 bits in the other order. Lemmas only, no claim of their own.
-/
import Derived.Test.YtogkhhgcljeddaaMath
namespace Go.Proofs.Ytogkhhgcljeddaa

def swp (s m x : Nat) : Nat := (x / 2 ^ s &&& m) ||| ((x &&& m) * 2 ^ s % 2 ^ 64)
def rev64 (x : Nat) : Nat :=
  let a := swp 8 71777214294589695 (swp 4 1085102592571150095 (swp 2 3689348814741910323 (swp 1 6148914691236517205 x)))
  let b := swp 16 281470681808895 a
  (b / 2 ^ 32) ||| (b * 2 ^ 32 % 2 ^ 64)

theorem swp_lt (s m x : Nat) (hm : m < 2 ^ 64) : swp s m x < 2 ^ 64 := by
  unfold swp
  refine Nat.or_lt_two_pow ?_ (Nat.mod_lt _ (Nat.pow_pos (by omega)))
  exact Nat.lt_of_le_of_lt Nat.and_le_right hm
theorem swp_bit (s m x i : Nat) : (swp s m x).testBit i = ((x.testBit (i + s) && m.testBit i) || (decide (i < 64) && (decide (s ≤ i) && (x.testBit (i - s) && m.testBit (i - s))))) := by
  unfold swp
  rw [Nat.testBit_or, Nat.testBit_and, Nat.testBit_div_two_pow, Nat.testBit_mod_two_pow, Nat.testBit_mul_two_pow, Nat.testBit_and]

theorem m1 : ∀ i : Fin 64, (6148914691236517205 : Nat).testBit i.val = decide (i.val % 2 = 0) := by decide +kernel
theorem m2 : ∀ i : Fin 64, (3689348814741910323 : Nat).testBit i.val = decide (i.val / 2 % 2 = 0) := by decide +kernel
theorem m4 : ∀ i : Fin 64, (1085102592571150095 : Nat).testBit i.val = decide (i.val / 4 % 2 = 0) := by decide +kernel
theorem m8 : ∀ i : Fin 64, (71777214294589695 : Nat).testBit i.val = decide (i.val / 8 % 2 = 0) := by decide +kernel
theorem m16 : ∀ i : Fin 64, (281470681808895 : Nat).testBit i.val = decide (i.val / 16 % 2 = 0) := by decide +kernel

theorem sub_div {s i : Nat} (hs : 0 < s) (h : s ≤ i) : (i - s) / s = i / s - 1 := by
  obtain ⟨k, rfl⟩ := Nat.exists_eq_add_of_le h
  rw [Nat.add_sub_cancel_left, Nat.add_div_left _ hs]
  rfl
def mv (s i : Nat) : Nat := if i / s % 2 = 0 then i + s else i - s
theorem swp_bit' (s m x i : Nat) (hi : i < 64) (hm : ∀ j : Fin 64, m.testBit j.val = decide (j.val / s % 2 = 0)) (hs : 0 < s) :
    (swp s m x).testBit i = x.testBit (mv s i) := by
  unfold mv
  rw [swp_bit, hm ⟨i, hi⟩]
  have h2 := hm ⟨i - s, by omega⟩
  simp only at h2
  rw [h2]
  by_cases h0 : i / s % 2 = 0
  · rw [if_pos h0, decide_eq_true h0]
    by_cases hsi : s ≤ i
    · have e : (i - s) / s % 2 ≠ 0 := by
        have := Nat.div_pos hsi hs
        rw [sub_div hs hsi]
        omega
      simp [e]
    · simp [hsi]
  · rw [if_neg h0, decide_eq_false h0]
    have hsi : s ≤ i := by
      rcases Nat.lt_or_ge i s with h | h
      · rw [Nat.div_eq_of_lt h] at h0; omega
      · exact h
    have e : (i - s) / s % 2 = 0 := by
      have := Nat.div_pos hsi hs
      rw [sub_div hs hsi]
      omega
    simp [e, hi, hsi]
theorem mv_lt1 : ∀ i : Fin 64, mv 1 i.val < 64 := by decide +kernel
theorem mv_lt2 : ∀ i : Fin 64, mv 2 i.val < 64 := by decide +kernel
theorem mv_lt4 : ∀ i : Fin 64, mv 4 i.val < 64 := by decide +kernel
theorem mv_lt8 : ∀ i : Fin 64, mv 8 i.val < 64 := by decide +kernel
theorem mv_lt16 : ∀ i : Fin 64, mv 16 i.val < 64 := by decide +kernel
theorem mv_lt32 : ∀ i : Fin 64, mv 32 i.val < 64 := by decide +kernel
theorem mv_all : ∀ i : Fin 64, mv 1 (mv 2 (mv 4 (mv 8 (mv 16 (mv 32 i.val))))) = 63 - i.val := by decide +kernel
theorem last_bit (b i : Nat) (hi : i < 64) (hb : b < 2 ^ 64) : ((b / 2 ^ 32) ||| (b * 2 ^ 32 % 2 ^ 64)).testBit i = b.testBit (mv 32 i) := by
  unfold mv
  rw [Nat.testBit_or, Nat.testBit_div_two_pow, Nat.testBit_mod_two_pow, Nat.testBit_mul_two_pow, decide_eq_true hi]
  rcases Nat.lt_or_ge i 32 with h | h
  · rw [if_pos (by omega), decide_eq_false (by omega)]; simp
  · rw [if_neg (by omega), decide_eq_true h, Nat.testBit_lt_two_pow (Nat.lt_of_lt_of_le hb (Nat.pow_le_pow_right (by omega) (by omega)))]; simp
theorem rev64_bit (x i : Nat) (hi : i < 64) : (rev64 x).testBit i = x.testBit (63 - i) := by
  have a32 := mv_lt32 ⟨i, hi⟩
  have a16 := mv_lt16 ⟨_, a32⟩
  have a8 := mv_lt8 ⟨_, a16⟩
  have a4 := mv_lt4 ⟨_, a8⟩
  have a2 := mv_lt2 ⟨_, a4⟩
  unfold rev64
  rw [last_bit _ i hi (swp_lt _ _ _ (by decide)), swp_bit' 16 _ _ _ a32 m16 (by omega), swp_bit' 8 _ _ _ a16 m8 (by omega), swp_bit' 4 _ _ _ a8 m4 (by omega), swp_bit' 2 _ _ _ a4 m2 (by omega),
    swp_bit' 1 _ _ _ a2 (by simpa using m1) (by omega), mv_all ⟨i, hi⟩]
theorem rev64_lt (x : Nat) : rev64 x < 2 ^ 64 := by
  unfold rev64
  refine Nat.or_lt_two_pow ?_ (Nat.mod_lt _ (Nat.pow_pos (by omega)))
  refine Nat.lt_of_le_of_lt (Nat.div_le_self _ _) ?_
  exact swp_lt _ _ _ (by decide)
/-- the lowest n bits in the other order -/
def revn (x n : Nat) : Nat := rev64 x / 2 ^ (64 - n)
theorem revn_bit (x n i : Nat) (hn : n ≤ 64) : (revn x n).testBit i = (decide (i < n) && x.testBit (n - 1 - i)) := by
  unfold revn
  rw [Nat.testBit_div_two_pow]
  by_cases h : i < n
  · rw [rev64_bit _ _ (by omega), decide_eq_true h, show 63 - (i + (64 - n)) = n - 1 - i from by omega]; simp
  · rw [Nat.testBit_lt_two_pow (Nat.lt_of_lt_of_le (rev64_lt x) (Nat.pow_le_pow_right (by omega) (by omega))), decide_eq_false h]; simp
theorem revn_lt (x n : Nat) (hn : n ≤ 64) : revn x n < 2 ^ n := by
  apply Nat.lt_pow_two_of_testBit
  intro i hi
  rw [revn_bit x n i hn, decide_eq_false (by omega)]; rfl
theorem revn_revn (x n : Nat) (hn : n ≤ 64) : revn (revn x n) n = x % 2 ^ n := by
  apply Nat.eq_of_testBit_eq
  intro i
  rw [revn_bit _ n i hn, Nat.testBit_mod_two_pow]
  by_cases h : i < n
  · rw [revn_bit _ n _ hn, decide_eq_true h, decide_eq_true (by omega), show n - 1 - (n - 1 - i) = i from by omega]; simp
  · rw [decide_eq_false h]; simp

/-! the steps as the walk spells them -/
theorem swp_int (s m x : Nat) (hm : m < 18446744073709551616) (hx : x < 18446744073709551616) :
    bits BinOp.or IntKind.u64 (bits BinOp.and IntKind.u64 ((x : Int) / (2 ^ s : Nat)) (m : Int)) (IntKind.u64.wrap (bits BinOp.and IntKind.u64 (x : Int) (m : Int) * (2 ^ s : Nat))) = ((swp s m x : Nat) : Int) := by
  have h1 : x / 2 ^ s ≤ x := Nat.div_le_self _ _
  have e1 : (x : Int) / ((2 ^ s : Nat) : Int) = ((x / 2 ^ s : Nat) : Int) := by simp
  rw [e1, u64_and_nat _ _ (by omega) hm, u64_and_nat _ _ hx hm]
  have h2 : x / 2 ^ s &&& m ≤ m := Nat.and_le_right
  have e2 : (((x &&& m : Nat) : Int) * ((2 ^ s : Nat) : Int)) = (((x &&& m) * 2 ^ s : Nat) : Int) := by simp
  have e3 : IntKind.u64.wrap (((x &&& m) * 2 ^ s : Nat) : Int) = (((x &&& m) * 2 ^ s % 2 ^ 64 : Nat) : Int) := by rw [IntKind.wrap_u64]; simp
  rw [e2, e3, u64_or_nat _ _ (by omega) (Nat.mod_lt _ (by decide))]
  rfl
theorem last_int (x : Nat) (hx : x < 18446744073709551616) :
    bits BinOp.or IntKind.u64 ((x : Int) / 4294967296) (IntKind.u64.wrap ((x : Int) * 4294967296)) = (((x / 2 ^ 32) ||| (x * 2 ^ 32 % 2 ^ 64) : Nat) : Int) := by
  have e1 : (x : Int) / 4294967296 = ((x / 2 ^ 32 : Nat) : Int) := by simp
  have e3 : IntKind.u64.wrap ((x : Int) * 4294967296) = ((x * 2 ^ 32 % 2 ^ 64 : Nat) : Int) := by rw [IntKind.wrap_u64]; simp
  rw [e1, e3, u64_or_nat _ _ (by omega) (Nat.mod_lt _ (by decide))]
def st1 (x : Int) : Int := bits BinOp.or IntKind.u64 (bits BinOp.and IntKind.u64 (x / 2) 6148914691236517205) (IntKind.u64.wrap (bits BinOp.and IntKind.u64 x 6148914691236517205 * 2))
def st2 (x : Int) : Int := bits BinOp.or IntKind.u64 (bits BinOp.and IntKind.u64 (x / 4) 3689348814741910323) (IntKind.u64.wrap (bits BinOp.and IntKind.u64 x 3689348814741910323 * 4))
def st4 (x : Int) : Int := bits BinOp.or IntKind.u64 (bits BinOp.and IntKind.u64 (x / 16) 1085102592571150095) (IntKind.u64.wrap (bits BinOp.and IntKind.u64 x 1085102592571150095 * 16))
def st8 (x : Int) : Int := bits BinOp.or IntKind.u64 (bits BinOp.and IntKind.u64 (x / 256) 71777214294589695) (IntKind.u64.wrap (bits BinOp.and IntKind.u64 x 71777214294589695 * 256))
def st16 (x : Int) : Int := bits BinOp.or IntKind.u64 (bits BinOp.and IntKind.u64 (x / 65536) 281470681808895) (IntKind.u64.wrap (bits BinOp.and IntKind.u64 x 281470681808895 * 65536))
def st32 (x : Int) : Int := bits BinOp.or IntKind.u64 (x / 4294967296) (IntKind.u64.wrap (x * 4294967296))
theorem st_all (x : Nat) (hx : x < 18446744073709551616) : st32 (st16 (st8 (st4 (st2 (st1 (x : Int)))))) = ((rev64 x : Nat) : Int) := by
  have a1 : st1 (x : Int) = _ := swp_int 1 6148914691236517205 x (by omega) hx
  rw [a1]
  have l1 := swp_lt 1 6148914691236517205 x (by decide)
  generalize h1 : swp 1 6148914691236517205 x = y1 at *
  have a2 : st2 (y1 : Int) = _ := swp_int 2 3689348814741910323 y1 (by omega) l1
  rw [a2]
  have l2 := swp_lt 2 3689348814741910323 y1 (by decide)
  generalize h2 : swp 2 3689348814741910323 y1 = y2 at *
  have a4 : st4 (y2 : Int) = _ := swp_int 4 1085102592571150095 y2 (by omega) l2
  rw [a4]
  have l4 := swp_lt 4 1085102592571150095 y2 (by decide)
  generalize h4 : swp 4 1085102592571150095 y2 = y4 at *
  have a8 : st8 (y4 : Int) = _ := swp_int 8 71777214294589695 y4 (by omega) l4
  rw [a8]
  have l8 := swp_lt 8 71777214294589695 y4 (by decide)
  generalize h8 : swp 8 71777214294589695 y4 = y8 at *
  have a16 : st16 (y8 : Int) = _ := swp_int 16 281470681808895 y8 (by omega) l8
  rw [a16]
  have l16 := swp_lt 16 281470681808895 y8 (by decide)
  generalize h16 : swp 16 281470681808895 y8 = y16 at *
  have a32 : st32 (y16 : Int) = _ := last_int y16 l16
  rw [a32]
  unfold rev64
  rw [h1, h2, h4, h8]
  simp only [h16]
end Go.Proofs.Ytogkhhgcljeddaa
