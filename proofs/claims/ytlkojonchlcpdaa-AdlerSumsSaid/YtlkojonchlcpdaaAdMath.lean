/-
  Plain arithmetic of the rolling sums (modulus 65521): no Go in it. Lemmas only, no claim of their own.
-/
import Derived.Laws.BitsAllLaws
namespace Go.Proofs.Ytlkojonchlcpdaa

/-- the sum of the bytes, and the sum of all beginnings' sums -/
def sumB : List UInt8 → Nat
  | [] => 0
  | x :: xs => x.toNat + sumB xs
def wB : List UInt8 → Nat
  | [] => 0
  | x :: xs => (xs.length + 1) * x.toNat + wB xs
theorem sumB_append (xs ys : List UInt8) : sumB (xs ++ ys) = sumB xs + sumB ys := by
  induction xs with
  | nil => simp [sumB]
  | cons x xs ih => simp only [List.cons_append, sumB, ih]; omega
theorem wB_append (xs ys : List UInt8) : wB (xs ++ ys) = wB xs + ys.length * sumB xs + wB ys := by
  induction xs with
  | nil => simp [wB, sumB]
  | cons x xs ih =>
    simp only [List.cons_append, wB, sumB, ih, List.length_append]
    have e1 : (xs.length + ys.length + 1) * x.toNat = (xs.length + 1) * x.toNat + ys.length * x.toNat := by
      rw [← Nat.add_mul]; congr 1; omega
    rw [e1, Nat.mul_add]
    omega
theorem sumB_snoc (xs : List UInt8) (y : UInt8) : sumB (xs ++ [y]) = sumB xs + y.toNat := by rw [sumB_append]; simp [sumB]
theorem wB_snoc (xs : List UInt8) (y : UInt8) : wB (xs ++ [y]) = wB xs + (sumB xs + y.toNat) := by rw [wB_append]; simp [wB]; omega

/-- the two halves behind some bytes, from the halves a, b -/
def aOf (a : Nat) (bs : List UInt8) : Nat := (a + sumB bs) % 65521
def bOf (a b : Nat) (bs : List UInt8) : Nat := (b + bs.length * a + wB bs) % 65521
theorem aOf_lt (a : Nat) (bs : List UInt8) : aOf a bs < 65521 := Nat.mod_lt _ (by omega)
theorem bOf_lt (a b : Nat) (bs : List UInt8) : bOf a b bs < 65521 := Nat.mod_lt _ (by omega)
theorem aOf_nil (a : Nat) (h : a < 65521) : aOf a [] = a := by unfold aOf; simp [sumB]; omega
theorem bOf_nil (a b : Nat) (h : b < 65521) : bOf a b [] = b := by unfold bOf; simp [wB]; omega
theorem aOf_snoc (a : Nat) (bs : List UInt8) (y : UInt8) : aOf a (bs ++ [y]) = (aOf a bs + y.toNat) % 65521 := by
  unfold aOf; rw [sumB_snoc]; omega
theorem bOf_snoc (a b : Nat) (bs : List UInt8) (y : UInt8) : bOf a b (bs ++ [y]) = (bOf a b bs + aOf a (bs ++ [y])) % 65521 := by
  unfold bOf aOf
  rw [wB_snoc, sumB_snoc, List.length_append]
  have : (bs.length + [y].length) * a = bs.length * a + a := by rw [Nat.add_mul]; simp
  rw [this]
  omega
theorem take_snoc (bs : List UInt8) (k : Nat) (h : k < bs.length) : bs.take (k + 1) = bs.take k ++ [bs.getD k 0] := by
  rw [List.take_succ_eq_append_getElem h]
  simp [List.getD, h]

/-- More, Sum, as numbers -/
def moreN (s : Nat) (bs : List UInt8) : Nat := 65536 * bOf (s % 65536 % 65521) (s / 65536 % 65521) bs + aOf (s % 65536 % 65521) bs
def sumN (bs : List UInt8) : Nat := moreN 1 bs
theorem moreN_lt (s : Nat) (bs : List UInt8) : moreN s bs < 4294967296 := by
  have h1 := aOf_lt (s % 65536 % 65521) bs
  have h2 := bOf_lt (s % 65536 % 65521) (s / 65536 % 65521) bs
  unfold moreN; omega
theorem moreN_low (s : Nat) (bs : List UInt8) : moreN s bs % 65536 = aOf (s % 65536 % 65521) bs := by
  have h1 := aOf_lt (s % 65536 % 65521) bs
  unfold moreN; omega
theorem moreN_high (s : Nat) (bs : List UInt8) : moreN s bs / 65536 = bOf (s % 65536 % 65521) (s / 65536 % 65521) bs := by
  have h1 := aOf_lt (s % 65536 % 65521) bs
  unfold moreN; omega
theorem aOf_aOf (a : Nat) (xs ys : List UInt8) : aOf (aOf a xs) ys = aOf a (xs ++ ys) := by
  unfold aOf; rw [sumB_append]; omega
/-- n times a residue -/
theorem mul_mod_l (n x : Nat) : (n * (x % 65521)) % 65521 = (n * x) % 65521 := Nat.mul_mod_mod n x 65521
theorem bOf_bOf (a b : Nat) (xs ys : List UInt8) : bOf (aOf a xs) (bOf a b xs) ys = bOf a b (xs ++ ys) := by
  unfold bOf aOf
  rw [wB_append, List.length_append, Nat.add_mul]
  have h1 := mul_mod_l ys.length (a + sumB xs)
  rw [Nat.mul_add] at h1
  generalize ys.length * ((a + sumB xs) % 65521) = p at *
  generalize ys.length * a = q at *
  generalize ys.length * sumB xs = r at *
  generalize xs.length * a = t at *
  omega
theorem moreN_moreN (s : Nat) (xs ys : List UInt8) : moreN (moreN s xs) ys = moreN s (xs ++ ys) := by
  have h1 := aOf_lt (s % 65536 % 65521) xs
  have h2 := bOf_lt (s % 65536 % 65521) (s / 65536 % 65521) xs
  unfold moreN
  rw [show (65536 * bOf (s % 65536 % 65521) (s / 65536 % 65521) xs + aOf (s % 65536 % 65521) xs) % 65536 % 65521 = aOf (s % 65536 % 65521) xs by omega,
    show (65536 * bOf (s % 65536 % 65521) (s / 65536 % 65521) xs + aOf (s % 65536 % 65521) xs) / 65536 % 65521 = bOf (s % 65536 % 65521) (s / 65536 % 65521) xs by omega,
    aOf_aOf, bOf_bOf]

/-- Join: the two halves -/
def joinA (a c : Int) : Int := (a + c - 1) % 65521
def joinB (a b d k : Int) : Int := (b + d + k * (a - 1)) % 65521
def joinN (x y : Nat) (n : Int) : Nat := (65536 * joinB ((x % 65536 : Nat) : Int) ((x / 65536 : Nat) : Int) ((y / 65536 : Nat) : Int) (max n 0 % 65521) + joinA ((x % 65536 : Nat) : Int) ((y % 65536 : Nat) : Int)).toNat
/-- Roll: the two halves -/
def rollA (a o i : Int) : Int := (a - o + i) % 65521
def rollB (a b k o i : Int) : Int := (b - k * o - 1 + (a - o + i)) % 65521
def rollN (s : Nat) (n : Int) (o i : Nat) : Nat := (65536 * rollB ((s % 65536 : Nat) : Int) ((s / 65536 : Nat) : Int) (max n 0 % 65521) (o : Int) (i : Int) + rollA ((s % 65536 : Nat) : Int) (o : Int) (i : Int)).toNat
theorem joinA_bd (a c : Int) : 0 ≤ joinA a c ∧ joinA a c < 65521 := by unfold joinA; omega
theorem joinB_bd (a b d k : Int) : 0 ≤ joinB a b d k ∧ joinB a b d k < 65521 := by unfold joinB; omega
theorem rollA_bd (a o i : Int) : 0 ≤ rollA a o i ∧ rollA a o i < 65521 := by unfold rollA; omega
theorem rollB_bd (a b k o i : Int) : 0 ≤ rollB a b k o i ∧ rollB a b k o i < 65521 := by unfold rollB; omega

theorem sumN_eq (bs : List UInt8) : sumN bs = 65536 * ((bs.length + wB bs) % 65521) + (1 + sumB bs) % 65521 := by
  unfold sumN moreN aOf bOf; simp
theorem mod_of_dvd (x y z : Int) (h : x - y = 65521 * z) : x % 65521 = y % 65521 := by omega

/-- Join of the sums of two lists is the sum of both together -/
theorem joinN_sum (xs ys : List UInt8) (n : Int) (hn : n = (ys.length : Int)) : joinN (sumN xs) (sumN ys) n = sumN (xs ++ ys) := by
  subst hn
  have hx := sumN_eq xs
  have hy := sumN_eq ys
  have hxy := sumN_eq (xs ++ ys)
  rw [sumB_append, wB_append, List.length_append] at hxy
  unfold joinN
  rw [show sumN xs % 65536 = (1 + sumB xs) % 65521 by omega, show sumN xs / 65536 = (xs.length + wB xs) % 65521 by omega,
    show sumN ys % 65536 = (1 + sumB ys) % 65521 by omega, show sumN ys / 65536 = (ys.length + wB ys) % 65521 by omega, hxy]
  rw [show max (ys.length : Int) 0 = (ys.length : Int) by omega]
  have e1 : joinA (((1 + sumB xs) % 65521 : Nat) : Int) (((1 + sumB ys) % 65521 : Nat) : Int) = (((1 + (sumB xs + sumB ys)) % 65521 : Nat) : Int) := by
    unfold joinA; omega
  have e2 : joinB (((1 + sumB xs) % 65521 : Nat) : Int) (((xs.length + wB xs) % 65521 : Nat) : Int) (((ys.length + wB ys) % 65521 : Nat) : Int) ((ys.length : Int) % 65521) =
      (((xs.length + ys.length + (wB xs + ys.length * sumB xs + wB ys)) % 65521 : Nat) : Int) := by
    unfold joinB
    obtain ⟨q, hq⟩ : ∃ q : Int, (((1 + sumB xs) % 65521 : Nat) : Int) - 1 = (sumB xs : Int) - 65521 * q := ⟨(((1 + sumB xs) / 65521 : Nat) : Int), by omega⟩
    obtain ⟨p, hp⟩ : ∃ p : Int, (ys.length : Int) % 65521 = (ys.length : Int) - 65521 * p := ⟨(ys.length : Int) / 65521, by omega⟩
    rw [hq, hp]
    have e : ((ys.length : Int) - 65521 * p) * ((sumB xs : Int) - 65521 * q) = (ys.length : Int) * (sumB xs : Int) - 65521 * (p * (sumB xs : Int) + (ys.length : Int) * q - 65521 * (p * q)) := by
      simp only [Int.sub_mul, Int.mul_sub, Int.mul_add, Int.mul_assoc, Int.mul_left_comm]
      omega
    rw [e]
    have e3 : ((ys.length * sumB xs : Nat) : Int) = (ys.length : Int) * (sumB xs : Int) := by simp
    generalize p * (sumB xs : Int) + (ys.length : Int) * q - 65521 * (p * q) = z at *
    rw [← e3]
    generalize ys.length * sumB xs = u at *
    omega
  rw [e1, e2]
  omega

/-- Roll from window to window -/
theorem rollN_sum (x y : UInt8) (m : List UInt8) (n : Int) (hn : n = (m.length : Int) + 1) : rollN (sumN (x :: m)) n x.toNat y.toNat = sumN (m ++ [y]) := by
  subst hn
  have hx := sumN_eq (x :: m)
  have hy := sumN_eq (m ++ [y])
  rw [sumB_snoc, wB_snoc, List.length_append] at hy
  simp only [sumB, wB, List.length_cons, List.length_nil] at hx hy
  unfold rollN
  rw [hy]
  rw [show sumN (x :: m) % 65536 = (1 + (x.toNat + sumB m)) % 65521 by omega, show sumN (x :: m) / 65536 = (m.length + 1 + ((m.length + 1) * x.toNat + wB m)) % 65521 by omega]
  rw [show max ((m.length : Int) + 1) 0 = (m.length : Int) + 1 by omega]
  have e1 : rollA (((1 + (x.toNat + sumB m)) % 65521 : Nat) : Int) (x.toNat : Int) (y.toNat : Int) = (((1 + (sumB m + y.toNat)) % 65521 : Nat) : Int) := by
    unfold rollA; omega
  have e2 : rollB (((1 + (x.toNat + sumB m)) % 65521 : Nat) : Int) (((m.length + 1 + ((m.length + 1) * x.toNat + wB m)) % 65521 : Nat) : Int) (((m.length : Int) + 1) % 65521) (x.toNat : Int) (y.toNat : Int) =
      (((m.length + (0 + 1) + (wB m + (sumB m + y.toNat))) % 65521 : Nat) : Int) := by
    unfold rollB
    obtain ⟨p, hp⟩ : ∃ p : Int, ((m.length : Int) + 1) % 65521 = ((m.length : Int) + 1) - 65521 * p := ⟨((m.length : Int) + 1) / 65521, by omega⟩
    rw [hp]
    have e3 : (((m.length : Int) + 1) - 65521 * p) * (x.toNat : Int) = (((m.length + 1) * x.toNat : Nat) : Int) - 65521 * (p * (x.toNat : Int)) := by
      rw [Int.sub_mul, Int.mul_assoc]
      simp
    rw [e3]
    generalize (m.length + 1) * x.toNat = u at *
    generalize p * (x.toNat : Int) = z at *
    omega
  rw [e1, e2]
  omega

/-- the document's ways to reckon them -/
theorem refJoinA (a c : Int) : (a % 65521 + c % 65521 + 65521 - 1) % 65521 = joinA a c := by unfold joinA; omega
theorem refJoinB (a b d k : Int) : (b % 65521 + d % 65521 + k * (a % 65521 + 65521 - 1)) % 65521 = joinB a b d k := by
  unfold joinB
  obtain ⟨q, hq⟩ : ∃ q : Int, a % 65521 + 65521 - 1 = a - 1 + 65521 * q := ⟨1 - a / 65521, by omega⟩
  rw [hq, Int.mul_add]
  have e : k * (65521 * q) = 65521 * (k * q) := by rw [Int.mul_left_comm]
  rw [e]
  generalize k * (a - 1) = u
  generalize k * q = z
  omega
theorem refRollA (a o i : Int) : (a % 65521 + 65521 - o + i) % 65521 = rollA a o i := by unfold rollA; omega
theorem refRollB (a b k o i : Int) : (b % 65521 + 65521 - k * o % 65521 + 65521 - 1 + (a % 65521 + 65521 - o + i) % 65521) % 65521 = rollB a b k o i := by
  unfold rollB
  generalize k * o = u
  omega

/-- one byte another one: another sum -/
theorem sumB_set (bs : List UInt8) (i : Nat) (y : UInt8) (h : i < bs.length) : sumB (bs.set i y) + (bs.getD i 0).toNat = sumB bs + y.toNat := by
  induction bs generalizing i with
  | nil => simp at h
  | cons x xs ih =>
    cases i with
    | zero => simp [sumB]; omega
    | succ i =>
      have := ih i (by simpa using h)
      simp only [List.set_cons_succ, sumB, List.getD_cons_succ]
      omega
theorem sumN_one (bs : List UInt8) (i : Nat) (y : UInt8) (h : i < bs.length) : sumN bs = sumN (bs.set i y) ↔ y = bs.getD i 0 := by
  constructor
  · intro e
    have h1 := sumN_eq bs
    have h2 := sumN_eq (bs.set i y)
    have h3 := sumB_set bs i y h
    have hy := y.toNat_lt
    have hx := (bs.getD i 0).toNat_lt
    rw [← UInt8.toNat_inj]
    omega
  · rintro rfl
    congr 1
    apply List.ext_getElem
    · simp
    · intro j h1 h2
      rw [List.getElem_set]
      split
      · rename_i e; subst e; simp [List.getD, h]
      · rfl
end Go.Proofs.Ytlkojonchlcpdaa
