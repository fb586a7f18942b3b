/-
  Plain arithmetic: bits put into a byte, and into bytes. Lemmas only, no claim of their own.
-/
import Derived.Test.YtcadnlilijkneaaGreatGb1
namespace Go.Proofs.YtcadnlilijkneaaGreat
set_option linter.unusedVariables false
set_option linter.unusedSimpArgs false

def bitB (bs : List UInt8) (i : Nat) : Bool := (bs.getD (i / 8) 0).toNat.testBit (7 - i % 8)
theorem bit_bitB (bs : List UInt8) (i : Nat) : bit bs i = (bitB bs i).toNat := by
  unfold bit bitB
  rw [Nat.toNat_testBit]

def nbP (x V s t : Nat) : Nat := (x &&& (255 - (2 ^ t - 1) * 2 ^ s)) ||| ((V % 256 * 2 ^ s % 256) &&& ((2 ^ t - 1) * 2 ^ s))
theorem mask_lt (s t : Nat) (h : s + t ≤ 8) : (2 ^ t - 1) * 2 ^ s < 256 := by
  have h1 : 0 < 2 ^ t := Nat.pow_pos (by omega)
  have h2 : 0 < 2 ^ s := Nat.pow_pos (by omega)
  have h3 : (2 : Nat) ^ (s + t) ≤ 2 ^ 8 := Nat.pow_le_pow_right (by omega) h
  rw [Nat.pow_add, Nat.mul_comm] at h3
  have h4 : (2 ^ t - 1) * 2 ^ s < 2 ^ t * 2 ^ s := Nat.mul_lt_mul_of_pos_right (by omega) h2
  omega
theorem nbP_lt (x V s t : Nat) (hx : x < 256) (h : s + t ≤ 8) : nbP x V s t < 256 := by
  unfold nbP
  have h1 := mask_lt s t h
  exact Nat.or_lt_two_pow (n := 8) (Nat.lt_of_le_of_lt Nat.and_le_left hx) (Nat.lt_of_le_of_lt Nat.and_le_right h1)
theorem nb_bit (x V s t q : Nat) (h : s + t ≤ 8) (hq : q < 8) : (nbP x V s t).testBit q = if s ≤ q ∧ q < s + t then V.testBit (q - s) else x.testBit q := by
  have h1 := mask_lt s t h
  unfold nbP
  have e : 255 - (2 ^ t - 1) * 2 ^ s = 2 ^ 8 - ((2 ^ t - 1) * 2 ^ s + 1) := by omega
  rw [Nat.testBit_or, Nat.testBit_and, Nat.testBit_and, e, Nat.testBit_two_pow_sub_succ h1, show (256 : Nat) = 2 ^ 8 from rfl]
  simp only [Nat.testBit_mod_two_pow, Nat.testBit_mul_two_pow, Nat.testBit_two_pow_sub_one, decide_eq_true hq]
  by_cases c1 : s ≤ q
  · by_cases c2 : q < s + t
    · rw [if_pos ⟨c1, c2⟩, decide_eq_true c1, decide_eq_true (show q - s < t by omega), decide_eq_true (show q - s < 8 by omega)]; simp
    · rw [if_neg (by omega), decide_eq_true c1, decide_eq_false (show ¬ q - s < t by omega)]; simp
  · rw [if_neg (by omega), decide_eq_false c1]; simp
theorem nb_int (x V s t : Nat) (hx : x < 256) (h : s + t ≤ 8) :
    bits BinOp.or IntKind.u8 (bits BinOp.andNot IntKind.u8 (x : Int) ((2 ^ t - 1) % 256 * 2 ^ s % 256)) (bits BinOp.and IntKind.u8 ((V : Int) % 256 * 2 ^ s % 256) ((2 ^ t - 1) % 256 * 2 ^ s % 256)) = ((nbP x V s t : Nat) : Int) := by
  have h1 := mask_lt s t h
  have h2 : 0 < 2 ^ t := Nat.pow_pos (by omega)
  have h3 : (2 : Nat) ^ t ≤ 2 ^ 8 := Nat.pow_le_pow_right (by omega) (by omega)
  have e0 : ((2 : Int) ^ t - 1) % 256 = ((2 ^ t - 1 : Nat) : Int) := by
    have : ((2 : Int) ^ t) = ((2 ^ t : Nat) : Int) := by simp
    rw [this]; omega
  have e1 : ((2 : Int) ^ t - 1) % 256 * 2 ^ s % 256 = (((2 ^ t - 1) * 2 ^ s : Nat) : Int) := by
    rw [e0]
    have : (((2 ^ t - 1 : Nat) : Int) * 2 ^ s) = (((2 ^ t - 1) * 2 ^ s : Nat) : Int) := by simp
    rw [this]; omega
  have e2 : ((V : Int) % 256 * 2 ^ s % 256) = ((V % 256 * 2 ^ s % 256 : Nat) : Int) := by rw [Int.natCast_emod, Int.natCast_mul, Int.natCast_emod, Int.natCast_pow]; rfl
  have h4 : x &&& (255 - (2 ^ t - 1) * 2 ^ s) ≤ x := Nat.and_le_left
  have h5 : V % 256 * 2 ^ s % 256 &&& ((2 ^ t - 1) * 2 ^ s) ≤ (2 ^ t - 1) * 2 ^ s := Nat.and_le_right
  rw [e1, e2, u8_andNot_nat _ _ hx h1, u8_and_nat _ _ (by omega) h1, u8_or_nat _ _ (by omega) (by omega)]
  rfl
theorem nb_int0 (x V t : Nat) (hx : x < 256) (h : t ≤ 8) :
    bits BinOp.or IntKind.u8 (bits BinOp.andNot IntKind.u8 (x : Int) ((2 ^ t - 1) % 256)) (bits BinOp.and IntKind.u8 ((V : Int) % 256) ((2 ^ t - 1) % 256)) = ((nbP x V 0 t : Nat) : Int) := by
  have := nb_int x V 0 t hx (by omega)
  rw [← this]
  simp

def IsPut (bs cs : List UInt8) (k n v : Nat) : Prop := cs.length = bs.length ∧ ∀ m, m < 8 * bs.length → bitB cs m = if k ≤ m ∧ m < k + n then v.testBit (n - 1 - (m - k)) else bitB bs m
def IsPutTo (bs cs : List UInt8) (k n v j : Nat) : Prop := cs.length = bs.length ∧ ∀ m, m < 8 * bs.length → bitB cs m = if k ≤ m ∧ m < k + j then v.testBit (n - 1 - (m - k)) else bitB bs m
theorem IsPutTo.start (bs : List UInt8) (k n v : Nat) : IsPutTo bs bs k n v 0 := ⟨rfl, fun m _ => by rw [if_neg (by omega)]⟩
theorem IsPutTo.stop {bs cs : List UInt8} {k n v : Nat} (h : IsPutTo bs cs k n v n) : IsPut bs cs k n v := h
theorem set_getD (cs : List UInt8) (i j : Nat) (x : UInt8) (hi : i < cs.length) : (cs.set i x).getD j 0 = if i = j then x else cs.getD j 0 := by
  simp only [List.getD, List.getElem?_set]
  by_cases h : i = j
  · subst h; simp [hi]
  · simp [h]
theorem IsPutTo.step {bs cs : List UInt8} {k n v j : Nat} (h : IsPutTo bs cs k n v j) (t : Nat) (hk : k + n ≤ 8 * bs.length) (hjt : j + t ≤ n) (ht : 0 < t) (hr : (k + j) % 8 + t ≤ 8) (N : Nat)
    (hN : N = nbP (cs.getD ((k + j) / 8) 0).toNat (v / 2 ^ (n - j - t)) (8 - (k + j) % 8 - t) t) : IsPutTo bs (cs.set ((k + j) / 8) (UInt8.ofNat N)) k n v (j + t) := by
  obtain ⟨h1, h2⟩ := h
  have hNlt : N < 256 := by rw [hN]; exact nbP_lt _ _ _ _ (cs.getD ((k + j) / 8) 0).toNat_lt (by omega)
  refine ⟨by simpa using h1, fun m hm => ?_⟩
  have h2 := h2 m hm
  unfold bitB at h2 ⊢
  rw [set_getD _ _ _ _ (by omega)]
  by_cases e : (k + j) / 8 = m / 8
  · rw [if_pos e]
    have eN : (UInt8.ofNat N).toNat = N := by simp; omega
    rw [eN, hN, nb_bit _ _ _ _ _ (by omega) (by omega)]
    by_cases c : k + j ≤ m ∧ m < k + j + t
    · rw [if_pos (by omega), if_pos (by omega), Nat.testBit_div_two_pow]
      congr 1
      omega
    · rw [if_neg (by omega), e, h2]
      by_cases c2 : k ≤ m ∧ m < k + j
      · rw [if_pos c2, if_pos (by omega)]
      · rw [if_neg c2, if_neg (by omega)]
  · rw [if_neg e, h2]
    by_cases c2 : k ≤ m ∧ m < k + j
    · rw [if_pos c2, if_pos (by omega)]
    · rw [if_neg c2, if_neg (by omega)]
theorem u8_of (N : Nat) (h : N < 256) : ((UInt8.ofNat N).toNat : Int) = (N : Int) := by simp; omega
end Go.Proofs.YtcadnlilijkneaaGreat
