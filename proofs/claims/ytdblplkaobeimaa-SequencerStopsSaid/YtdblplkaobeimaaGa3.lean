/-
  What a layout, and what is asked of one, that came in is. Plain lemmas, no claim of their own.
-/
import Derived.Test.YtdblplkaobeimaaGa1
import Derived.Test.YtdblplkaobeimaaGa2
import Derived.Deep.Grids
import Derived.Deep.Fields
import Derived.Lib.SmallJoins
namespace Go.Proofs.Ytdblplkaobeimaa
open Go.RowKit Go.ChangeShapes Go.WideShapes Go.Deep
set_option linter.unusedVariables false
set_option linter.unusedSimpArgs false

section
variable {H : Type} {enc : TypeId × Value → H} {w : World} {base : Nat} {held : Bool}
theorem row_ints {n : Nat} {v : Value} {y : DataW H × List MemPlace} (h : DataW.trod enc Try.prog w base (fun _ => true) held n 33 [v] = some y) :
    ∃ (a : Option Addr) (L : List Int) (c : Nat), v = .slice a L.length c ∧ Ro w w.heap.size a (i64s L) ∧ L.length ≤ c ∧ c ≤ 9223372036854775807 ∧ (a = none → c = 0) := by
  have hrow : ∃ a l c zs, v = .slice a l c ∧ IsRow .i64 w a l c zs := by
    rcases open_ints Try.underlying33 Try.underlying3 (by kernel_rfl) h with ⟨hc, _⟩ | ⟨a, l, c, zs, hc, _, hl, hm, hz, _, hcell, hwz⟩
    · exact ⟨none, 0, 0, [], by simpa using hc, .inl ⟨rfl, rfl, rfl, rfl⟩⟩
    · exact ⟨some a, l, c, zs, by simpa using hc, .inr ⟨a, rfl, hl, hm, by simpa using hz, hcell, hwz⟩⟩
  obtain ⟨a, l, c, zs, rfl, hr⟩ := hrow
  obtain ⟨bs, h1, h2, h3, h4, _⟩ := hr.i64s
  have := hr.cap_le
  exact ⟨a, bs, c, by rw [h1], h4, by omega, by omega, h3⟩
set_option maxRecDepth 100000 in
theorem row_chs {n : Nat} {v : Value} {y : DataW H × List MemPlace} (h : DataW.trod enc Try.prog w base (fun _ => true) held n 41 [v] = some y) :
    ∃ (a : Option Addr) (M : List ChT) (c : Nat), v = .slice a M.length c ∧ Ro w w.heap.size a (chv M) ∧ ChIn w w.heap.size M ∧ ChFit M := by
  rcases open_slice Try.underlying41 h with ⟨hc, _⟩ | ⟨a, len, cap, m, k, D, Pl, hc, _, hl, hm, hmm, _, hi⟩
  · exact ⟨none, [], 0, by simpa using hc, Ro.nil _ _ _, by intro c hc; simp at hc, by constructor <;> simp⟩
  · have hc1 : Try.prog.cellsOf 33 = 1 := by kernel_rfl
    simp only [if_true] at hmm
    subst hmm
    have hall : ∀ i, i < m → ∃ T : ChT, w.cell? (a.add i) = some T.val ∧ Ro w w.heap.size T.a (i64s T.u) ∧ T.u.length ≤ 9223372036854775807 := by
      intro i him
      obtain ⟨cs, h1, h2⟩ := hi i him
      rw [hc1, Nat.mul_one] at h1
      obtain ⟨hl1, _, h3⟩ := World.cells?_some h1
      have hcs : ∃ v, cs = [v] := by
        match cs, hl1 with
        | [v], _ => exact ⟨v, rfl⟩
      obtain ⟨v, rfl⟩ := hcs
      obtain ⟨b, L, c, rfl, g1, g2, g3, _⟩ := row_ints h2
      refine ⟨⟨b, c, L⟩, ?_, g1, by show L.length ≤ _; omega⟩
      have := h3 0 (by omega)
      simpa [Addr.add, ChT.val] using this
    obtain ⟨A, hA⟩ : ∃ A : Nat → ChT, ∀ i, i < m → w.cell? (a.add i) = some (A i).val ∧ Ro w w.heap.size (A i).a (i64s (A i).u) ∧ (A i).u.length ≤ 9223372036854775807 :=
      ⟨fun i => if hi : i < m then Classical.choose (hall i hi) else ⟨none, 0, []⟩, fun i him => by
        have := Classical.choose_spec (hall i him)
        dsimp only
        rw [dif_pos him]
        exact this⟩
    refine ⟨some a, (List.range len).map A, m, by simpa using hc, ?_, fun c hcm => ?_, ?_, fun c hcm => ?_⟩
    · rcases Nat.eq_zero_or_pos len with h0 | h0
      · subst h0; exact .inl rfl
      · obtain ⟨b, off, spot⟩ := a
        have hc0 := (hA 0 (by omega)).1
        have hspot : spot = none := by simpa [Addr.add] using World.cell?_spot hc0
        subst hspot
        have hb := World.block_lt_of_cell? w _ hc0
        refine .inr ⟨b, off, rfl, by simpa [add_off] using hb, fun i hi => ?_⟩
        rw [chv_length, List.length_map, List.length_range] at hi
        have g1 := (hA i (by omega)).1
        rw [add_off] at g1
        rw [g1]
        simp [chv, List.getD, hi]
    · rw [List.mem_map] at hcm
      obtain ⟨i, hi, rfl⟩ := hcm
      exact (hA i (by have := List.mem_range.1 hi; omega)).2.1
    · simp; unfold maxLen at hm; omega
    · rw [List.mem_map] at hcm
      obtain ⟨i, hi, rfl⟩ := hcm
      exact (hA i (by have := List.mem_range.1 hi; omega)).2.2
set_option maxRecDepth 100000 in
theorem trod_seg {n : Nat} {cs : List Value} {y : DataW H × List MemPlace} (h : DataW.trod enc Try.prog w base (fun _ => true) held n 91 cs = some y) :
    ∃ S : SgT, cs = [.int .u64 (S.f : Int), .slice S.a S.ch.length S.c] ∧ Ro w w.heap.size S.a (chv S.ch) ∧ ChIn w w.heap.size S.ch ∧ ChFit S.ch := by
  obtain ⟨xs, m, _, _, hlen, hxl, hf⟩ := DataW.trod_struct Try.underlying91 h
  have hc2 : cs.length = 2 := hlen.trans (by kernel_rfl)
  match cs, hc2, xs, hxl with
  | [c0, c1], _, [x0, x1], _ =>
    have g0 : DataW.trod enc Try.prog w base (fun _ => true) held m 26 (([c0, c1].drop 0).take (Try.prog.cellsOf 26)) = some x0 := hf 0 _ rfl
    have g1 : DataW.trod enc Try.prog w base (fun _ => true) held m 41 (([c0, c1].drop 1).take (Try.prog.cellsOf 41)) = some x1 := hf 1 _ rfl
    rw [show Try.prog.cellsOf 26 = 1 by kernel_rfl] at g0
    rw [show Try.prog.cellsOf 41 = 1 by kernel_rfl] at g1
    simp only [List.drop_zero, List.drop_succ_cons, List.take_succ_cons, List.take_zero] at g0 g1
    obtain ⟨s, e0, _, hw0⟩ := DataW.trod_int Try.underlying26 g0
    obtain ⟨a, M, c, rfl, k1, k2, k3⟩ := row_chs g1
    simp only [List.cons.injEq, and_true] at e0
    subst e0
    have h1 := bounds_u64 hw0
    refine ⟨⟨s.toNat, a, c, M⟩, ?_, k1, k2, k3⟩
    simp only
    rw [show ((s.toNat : Nat) : Int) = s by omega]
set_option maxRecDepth 100000 in
theorem row_segs {n : Nat} {v : Value} {y : DataW H × List MemPlace} (h : DataW.trod enc Try.prog w base (fun _ => true) held n 36 [v] = some y) :
    ∃ (a : Option Addr) (L : List SgT) (c : Nat), v = .slice a L.length c ∧ Ro w w.heap.size a (sgv L) ∧ SgIn w w.heap.size L ∧ SgFit L := by
  rcases open_slice Try.underlying36 h with ⟨hc, _⟩ | ⟨a, len, cap, m, k, D, Pl, hc, _, hl, hm, hmm, _, hi⟩
  · exact ⟨none, [], 0, by simpa using hc, Ro.nil _ _ _, by intro c hc; simp at hc, by constructor <;> simp⟩
  · have hc2 : Try.prog.cellsOf 91 = 2 := by kernel_rfl
    simp only [if_true] at hmm
    subst hmm
    have hall : ∀ i, i < m → ∃ S : SgT, (Ro w w.heap.size S.a (chv S.ch) ∧ ChIn w w.heap.size S.ch ∧ ChFit S.ch) ∧ w.cell? (a.add (i * 2)) = some (.int .u64 (S.f : Int)) ∧ w.cell? ((a.add (i * 2)).add 1) = some (.slice S.a S.ch.length S.c) := by
      intro i him
      obtain ⟨cs, h1, h2⟩ := hi i him
      rw [hc2] at h1
      obtain ⟨_, _, h3⟩ := World.cells?_some h1
      obtain ⟨S, rfl, hr⟩ := trod_seg h2
      refine ⟨S, hr, ?_, h3 1 (by omega)⟩
      have := h3 0 (by omega)
      simpa [Addr.add] using this
    obtain ⟨A, hA⟩ : ∃ A : Nat → SgT, ∀ i, i < m → (Ro w w.heap.size (A i).a (chv (A i).ch) ∧ ChIn w w.heap.size (A i).ch ∧ ChFit (A i).ch) ∧ w.cell? (a.add (i * 2)) = some (.int .u64 ((A i).f : Int)) ∧ w.cell? ((a.add (i * 2)).add 1) = some (.slice (A i).a (A i).ch.length (A i).c) :=
      ⟨fun i => if hi : i < m then Classical.choose (hall i hi) else ⟨0, none, 0, []⟩, fun i him => by
        have := Classical.choose_spec (hall i him)
        dsimp only
        rw [dif_pos him]
        exact this⟩
    refine ⟨some a, (List.range len).map A, m, by simpa using hc, ?_, fun s hs => ?_, ?_, fun s hs => ?_⟩
    · rcases Nat.eq_zero_or_pos len with h0 | h0
      · subst h0; exact .inl rfl
      · obtain ⟨b, off, spot⟩ := a
        have hc0 := (hA 0 (by omega)).2.1
        have hspot : spot = none := by simpa [Addr.add] using World.cell?_spot hc0
        subst hspot
        have hb := World.block_lt_of_cell? w _ hc0
        refine .inr ⟨b, off, rfl, by simpa [add_off] using hb, fun i hi => ?_⟩
        rw [sgv_length, List.length_map, List.length_range] at hi
        have hi2 : i / 2 < len := by omega
        have hel : ((List.range len).map A)[i / 2]? = some (A (i / 2)) := by simp [hi2]
        obtain ⟨_, g1, g2⟩ := hA (i / 2) (by omega)
        obtain ⟨e1, e2⟩ := sgv_get ((List.range len).map A) (i / 2)
        rw [hel] at e1 e2
        have hp : i % 2 = 0 ∨ i % 2 = 1 := by omega
        rcases hp with hp | hp
        · have ei : i = i / 2 * 2 := by omega
          rw [ei]
          rw [add_off] at g1
          rw [g1]
          simp only [List.getD, e1, Option.map_some, Option.getD_some]
        · have ei : i = i / 2 * 2 + 1 := by omega
          rw [ei]
          rw [add_off, add_off] at g2
          rw [← Nat.add_assoc, g2]
          simp only [List.getD, e2, Option.map_some, Option.getD_some]
    · rw [List.mem_map] at hs
      obtain ⟨i, hi, rfl⟩ := hs
      have := (hA i (by have := List.mem_range.1 hi; omega)).1
      exact ⟨this.1, this.2.1⟩
    · simp; unfold maxLen at hm; omega
    · rw [List.mem_map] at hs
      obtain ⟨i, hi, rfl⟩ := hs
      exact (hA i (by have := List.mem_range.1 hi; omega)).1.2.2
/-- a layout that came in -/
structure LyOk (w : World) (A : LyT) : Prop where
  inn : LyIn w w.heap.size A
  fit : SgFit A.sg
  e : A.e ≤ 18446744073709551615
  q : -9223372036854775808 ≤ A.q ∧ A.q ≤ 9223372036854775807
set_option maxRecDepth 100000 in
theorem open_layoutV {r : Reach} {b0 : Nat} {v : Value} {d : DataW H} {p : List MemPlace} (hv : Value.okWide Try.prog w r b0 38 v) (h : DataW.Trod enc Try.prog w base (fun _ => true) held 38 v d p) :
    ∃ A : LyT, v = A.val ∧ LyOk w A := by
  obtain ⟨cs, rfl, hsz⟩ := okWide_struct Try.underlying38 hv
  obtain ⟨fuel, hf⟩ := h
  obtain ⟨xs, m, _, _, hlen, hxl, hf⟩ := DataW.trod_struct Try.underlying38 hf
  have hc3 : cs.toList.length = 3 := hlen.trans (by kernel_rfl)
  obtain ⟨cl⟩ := cs
  match cl, hc3, xs, hxl with
  | [c0, c1, c2], _, [x0, x1, x2], _ =>
    have g0 : DataW.trod enc Try.prog w base (fun _ => true) held m 26 (([c0, c1, c2].drop 0).take (Try.prog.cellsOf 26)) = some x0 := hf 0 _ rfl
    have g1 : DataW.trod enc Try.prog w base (fun _ => true) held m 36 (([c0, c1, c2].drop 1).take (Try.prog.cellsOf 36)) = some x1 := hf 1 _ rfl
    have g2 : DataW.trod enc Try.prog w base (fun _ => true) held m 3 (([c0, c1, c2].drop 2).take (Try.prog.cellsOf 3)) = some x2 := hf 2 _ rfl
    rw [show Try.prog.cellsOf 26 = 1 by kernel_rfl] at g0
    rw [show Try.prog.cellsOf 36 = 1 by kernel_rfl] at g1
    rw [show Try.prog.cellsOf 3 = 1 by kernel_rfl] at g2
    simp only [List.drop_zero, List.drop_succ_cons, List.take_succ_cons, List.take_zero] at g0 g1 g2
    obtain ⟨s, e0, _, hw0⟩ := DataW.trod_int Try.underlying26 g0
    obtain ⟨a, L, c, rfl, k1, k2, k3⟩ := row_segs g1
    obtain ⟨q, e2, _, hw2⟩ := DataW.trod_int Try.underlying3 g2
    simp only [List.cons.injEq, and_true] at e0 e2
    subst e0 e2
    have h1 := bounds_u64 hw0
    refine ⟨⟨s.toNat, a, c, L, q⟩, ?_, ⟨k1, k2⟩, k3, by show s.toNat ≤ _; omega, bounds_i64 hw2⟩
    unfold LyT.val
    simp only
    rw [show ((s.toNat : Nat) : Int) = s by omega]
/-- what is asked of a layout, that came in -/
structure FoT where
  a1 : Option Addr
  c1 : Nat
  dr : List Int
  a2 : Option Addr
  c2 : Nat
  fr : List Int
  q : Int
  f : Nat
  a3 : Option Addr
  c3 : Nat
  ch : List ChT
def FoT.val (F : FoT) : Value := folV F.a1 F.dr.length F.c1 F.a2 F.fr.length F.c2 F.q F.f F.a3 F.ch.length F.c3
structure FoOk (w : World) (F : FoT) : Prop where
  dr : Ro w w.heap.size F.a1 (i64s F.dr)
  fr : Ro w w.heap.size F.a2 (i64s F.fr)
  fc : F.fr.length ≤ F.c2 ∧ F.c2 ≤ 9223372036854775807 ∧ (F.a2 = none → F.c2 = 0)
  f : F.f ≤ 18446744073709551615
  ch : Ro w w.heap.size F.a3 (chv F.ch)
  chi : ChIn w w.heap.size F.ch
  chf : ChFit F.ch
end
end Go.Proofs.Ytdblplkaobeimaa
namespace Go.Proofs.Ytdblplkaobeimaa
set_option linter.unusedVariables false
set_option linter.unusedSimpArgs false
open Go.RowKit

theorem lowest_eq (v : Int) (n : Nat) (hn : n ≤ 64) :
    bits BinOp.and IntKind.u64 v (IntKind.u64.wrap (IntKind.u64.wrap (2 ^ n) - 1)) = v % 2 ^ n := by
  have h2 : (2 : Nat) ^ n ≤ 2 ^ 64 := Nat.pow_le_pow_right (by omega) hn
  have h3 : 0 < 2 ^ n := Nat.pow_pos (by omega)
  have e2 : ((2 : Int) ^ n) = ((2 ^ n : Nat) : Int) := by simp
  have e : IntKind.u64.wrap (IntKind.u64.wrap (2 ^ n) - 1) = ((2 ^ n - 1 : Nat) : Int) := by
    rw [IntKind.wrap_u64, IntKind.wrap_u64, e2]
    omega
  have hx := and_wrap_left v ((2 ^ n - 1 : Nat) : Int)
  obtain ⟨x, hx0⟩ : ∃ x : Nat, v % 18446744073709551616 = (x : Int) := ⟨(v % 18446744073709551616).toNat, by omega⟩
  rw [e, ← hx, hx0, u64_and_nat x (2 ^ n - 1) (by omega) (by omega), Nat.and_two_pow_sub_one_eq_mod]
  have hd : ((2 : Int) ^ n) ∣ 18446744073709551616 := by
    rw [e2]
    exact Int.natCast_dvd_natCast.2 (Nat.pow_dvd_pow 2 hn : 2 ^ n ∣ 2 ^ 64)
  have h5 := Int.emod_emod_of_dvd v hd
  rw [← h5, hx0]; simp

end Go.Proofs.Ytdblplkaobeimaa
namespace Go.Proofs.Ytdblplkaobeimaa
set_option linter.unusedVariables false
set_option linter.unusedSimpArgs false

def bitB (bs : List UInt8) (i : Nat) : Bool := (bs.getD (i / 8) 0).toNat.testBit (7 - i % 8)
theorem bit_bitB (bs : List UInt8) (i : Nat) : bit bs i = (bitB bs i).toNat := by
  unfold bit bitB
  rw [Nat.toNat_testBit]

def nb (x V s t : Nat) : Nat := (x &&& (255 - (2 ^ t - 1) * 2 ^ s)) ||| ((V % 256 * 2 ^ s % 256) &&& ((2 ^ t - 1) * 2 ^ s))
theorem mask_lt (s t : Nat) (h : s + t ≤ 8) : (2 ^ t - 1) * 2 ^ s < 256 := by
  have h1 : 0 < 2 ^ t := Nat.pow_pos (by omega)
  have h2 : 0 < 2 ^ s := Nat.pow_pos (by omega)
  have h3 : (2 : Nat) ^ (s + t) ≤ 2 ^ 8 := Nat.pow_le_pow_right (by omega) h
  rw [Nat.pow_add, Nat.mul_comm] at h3
  have h4 : (2 ^ t - 1) * 2 ^ s < 2 ^ t * 2 ^ s := Nat.mul_lt_mul_of_pos_right (by omega) h2
  omega
theorem nb_lt (x V s t : Nat) (hx : x < 256) (h : s + t ≤ 8) : nb x V s t < 256 := by
  unfold nb
  have h1 := mask_lt s t h
  exact Nat.or_lt_two_pow (n := 8) (Nat.lt_of_le_of_lt Nat.and_le_left hx) (Nat.lt_of_le_of_lt Nat.and_le_right h1)
theorem nb_bit (x V s t q : Nat) (h : s + t ≤ 8) (hq : q < 8) : (nb x V s t).testBit q = if s ≤ q ∧ q < s + t then V.testBit (q - s) else x.testBit q := by
  have h1 := mask_lt s t h
  unfold nb
  have e : 255 - (2 ^ t - 1) * 2 ^ s = 2 ^ 8 - ((2 ^ t - 1) * 2 ^ s + 1) := by omega
  rw [Nat.testBit_or, Nat.testBit_and, Nat.testBit_and, e, Nat.testBit_two_pow_sub_succ h1, show (256 : Nat) = 2 ^ 8 from rfl]
  simp only [Nat.testBit_mod_two_pow, Nat.testBit_mul_two_pow, Nat.testBit_two_pow_sub_one, decide_eq_true hq]
  by_cases c1 : s ≤ q
  · by_cases c2 : q < s + t
    · rw [if_pos ⟨c1, c2⟩, decide_eq_true c1, decide_eq_true (show q - s < t by omega), decide_eq_true (show q - s < 8 by omega)]; simp
    · rw [if_neg (by omega), decide_eq_true c1, decide_eq_false (show ¬ q - s < t by omega)]; simp
  · rw [if_neg (by omega), decide_eq_false c1]; simp
theorem nb_int (x V s t : Nat) (hx : x < 256) (h : s + t ≤ 8) :
    bits BinOp.or IntKind.u8 (bits BinOp.andNot IntKind.u8 (x : Int) ((2 ^ t - 1) % 256 * 2 ^ s % 256)) (bits BinOp.and IntKind.u8 ((V : Int) % 256 * 2 ^ s % 256) ((2 ^ t - 1) % 256 * 2 ^ s % 256)) = ((nb x V s t : Nat) : Int) := by
  have h1 := mask_lt s t h
  have h2 : 0 < 2 ^ t := Nat.pow_pos (by omega)
  have h3 : (2 : Nat) ^ t ≤ 2 ^ 8 := Nat.pow_le_pow_right (by omega) (by omega)
  have e0 : ((2 : Int) ^ t - 1) % 256 = ((2 ^ t - 1 : Nat) : Int) := by
    have : ((2 : Int) ^ t) = ((2 ^ t : Nat) : Int) := by simp
    rw [this]; omega
  have e1 : ((2 : Int) ^ t - 1) % 256 * 2 ^ s % 256 = (((2 ^ t - 1) * 2 ^ s : Nat) : Int) := by
    rw [e0]
    have : (((2 ^ t - 1 : Nat) : Int) * 2 ^ s) = (((2 ^ t - 1) * 2 ^ s : Nat) : Int) := by simp
    rw [this]; omega
  have e2 : ((V : Int) % 256 * 2 ^ s % 256) = ((V % 256 * 2 ^ s % 256 : Nat) : Int) := by rw [Int.natCast_emod, Int.natCast_mul, Int.natCast_emod, Int.natCast_pow]; rfl
  have h4 : x &&& (255 - (2 ^ t - 1) * 2 ^ s) ≤ x := Nat.and_le_left
  have h5 : V % 256 * 2 ^ s % 256 &&& ((2 ^ t - 1) * 2 ^ s) ≤ (2 ^ t - 1) * 2 ^ s := Nat.and_le_right
  rw [e1, e2, u8_andNot_nat _ _ hx h1, u8_and_nat _ _ (by omega) h1, u8_or_nat _ _ (by omega) (by omega)]
  rfl
theorem nb_int0 (x V t : Nat) (hx : x < 256) (h : t ≤ 8) :
    bits BinOp.or IntKind.u8 (bits BinOp.andNot IntKind.u8 (x : Int) ((2 ^ t - 1) % 256)) (bits BinOp.and IntKind.u8 ((V : Int) % 256) ((2 ^ t - 1) % 256)) = ((nb x V 0 t : Nat) : Int) := by
  have := nb_int x V 0 t hx (by omega)
  rw [← this]
  simp

/-- the bytes cs are bs with the lowest n bits of v at k -/
def IsPut (bs cs : List UInt8) (k n v : Nat) : Prop := cs.length = bs.length ∧ ∀ m, m < 8 * bs.length → bitB cs m = if k ≤ m ∧ m < k + n then v.testBit (n - 1 - (m - k)) else bitB bs m
/-- on the way: the first j of them -/
def IsPutTo (bs cs : List UInt8) (k n v j : Nat) : Prop := cs.length = bs.length ∧ ∀ m, m < 8 * bs.length → bitB cs m = if k ≤ m ∧ m < k + j then v.testBit (n - 1 - (m - k)) else bitB bs m
theorem IsPutTo.start (bs : List UInt8) (k n v : Nat) : IsPutTo bs bs k n v 0 := ⟨rfl, fun m _ => by rw [if_neg (by omega)]⟩
theorem IsPutTo.stop {bs cs : List UInt8} {k n v : Nat} (h : IsPutTo bs cs k n v n) : IsPut bs cs k n v := h
theorem set_getD (cs : List UInt8) (i j : Nat) (x : UInt8) (hi : i < cs.length) : (cs.set i x).getD j 0 = if i = j then x else cs.getD j 0 := by
  simp only [List.getD, List.getElem?_set]
  by_cases h : i = j
  · subst h; simp [hi]
  · simp [h]
theorem IsPutTo.step {bs cs : List UInt8} {k n v j : Nat} (h : IsPutTo bs cs k n v j) (t : Nat) (hk : k + n ≤ 8 * bs.length) (hjt : j + t ≤ n) (ht : 0 < t) (hr : (k + j) % 8 + t ≤ 8) (N : Nat)
    (hN : N = nb (cs.getD ((k + j) / 8) 0).toNat (v / 2 ^ (n - j - t)) (8 - (k + j) % 8 - t) t) : IsPutTo bs (cs.set ((k + j) / 8) (UInt8.ofNat N)) k n v (j + t) := by
  obtain ⟨h1, h2⟩ := h
  have hNlt : N < 256 := by rw [hN]; exact nb_lt _ _ _ _ (cs.getD ((k + j) / 8) 0).toNat_lt (by omega)
  refine ⟨by simpa using h1, fun m hm => ?_⟩
  have h2 := h2 m hm
  unfold bitB at h2 ⊢
  rw [set_getD _ _ _ _ (by omega)]
  by_cases e : (k + j) / 8 = m / 8
  · rw [if_pos e]
    have eN : (UInt8.ofNat N).toNat = N := by simp; omega
    rw [eN, hN, nb_bit _ _ _ _ _ (by omega) (by omega)]
    by_cases c : k + j ≤ m ∧ m < k + j + t
    · rw [if_pos (by omega), if_pos (by omega), Nat.testBit_div_two_pow]
      congr 1
      omega
    · rw [if_neg (by omega), e, h2]
      by_cases c2 : k ≤ m ∧ m < k + j
      · rw [if_pos c2, if_pos (by omega)]
      · rw [if_neg c2, if_neg (by omega)]
  · rw [if_neg e, h2]
    by_cases c2 : k ≤ m ∧ m < k + j
    · rw [if_pos c2, if_pos (by omega)]
    · rw [if_neg c2, if_neg (by omega)]
theorem u8_of (N : Nat) (h : N < 256) : ((UInt8.ofNat N).toNat : Int) = (N : Int) := by simp; omega
end Go.Proofs.Ytdblplkaobeimaa
namespace Go.Proofs.Ytdblplkaobeimaa
set_option linter.unusedVariables false
set_option linter.unusedSimpArgs false
open Go.RowKit Go.Deep

theorem made_u8s (n : Nat) : madeCells #[.int .u8 0] n = (u8s (List.replicate n 0)).toArray := by
  apply Array.ext
  · simp [size_madeCells, u8s]
  · intro i h1 h2
    simp [madeCells, u8s, Nat.mod_one]
theorem own_made (w : World) (n : Nat) : Own (w.alloc (.cells (madeCells #[.int .u8 0] n) 5)) w.heap.size 5 (u8s (List.replicate n 0)) := by
  rw [made_u8s]
  exact Own.new w 5 _
theorem Try.info_u8 : (Try.prog.info? 5).map (fun i => (i.zero, i.size, i.bytes)) = some (some (.int .u8 0), 1, 1) := by kernel_rfl
theorem Try.size_u8 : (Try.prog.info? 5).map (·.size) = some 1 := by kernel_rfl
theorem u8s_oneCell (bs : List UInt8) : ∀ v ∈ u8s bs, v.oneCell' = true := by
  intro v hv
  simp only [u8s, List.mem_map] at hv
  obtain ⟨x, _, rfl⟩ := hv
  rfl
theorem splice_all (cur cs : List Value) (h : cur.length = cs.length) : splice cur 0 cs = cs := by
  unfold splice
  simp [← h]
theorem Ro.src {w : World} {B : Nat} {a : Option Addr} {vs : List Value} (h : Ro w B a vs) (h0 : 0 < vs.length) : ∃ ad, a = some ad ∧ ∀ j v, vs[j]? = some v → w.cell? (ad.add j) = some v := by
  obtain ⟨b, off, rfl, hb, hc⟩ := h.at_ (by intro e; subst e; simp at h0)
  refine ⟨_, rfl, fun j v hv => ?_⟩
  have hj : j < vs.length := (List.getElem?_eq_some_iff.1 hv).1
  have := hc j hj
  have e : (⟨b, off, none⟩ : Addr).add j = ⟨b, off + j, none⟩ := by unfold Addr.add; split <;> simp_all
  rw [e, this]
  simp [List.getD, hv]

end Go.Proofs.Ytdblplkaobeimaa
namespace Go.Proofs.Ytdblplkaobeimaa
set_option linter.unusedVariables false
set_option linter.unusedSimpArgs false

theorem getD_left {α : Type} (a b : List α) (d : α) (i : Nat) (h : i < a.length) : (a ++ b).getD i d = a.getD i d := by
  simp [List.getD, List.getElem?_append_left h]
theorem getD_right {α : Type} (a b : List α) (d : α) (i : Nat) (h : a.length ≤ i) : (a ++ b).getD i d = b.getD (i - a.length) d := by
  simp [List.getD, List.getElem?_append_right h]
/-- the lowest n bits, the highest first -/
def dig (v n : Nat) : List Bool := (List.range n).map fun i => v.testBit (n - 1 - i)
@[simp] theorem dig_length (v n : Nat) : (dig v n).length = n := by simp [dig]
theorem dig_getD (v n i : Nat) (h : i < n) : (dig v n).getD i false = v.testBit (n - 1 - i) := by
  simp [dig, List.getD, h]
def packB : List Nat → List Nat → List Bool
  | n :: ns, v :: vs => dig v n ++ packB ns vs
  | _, _ => []
theorem packB_length (ns vs : List Nat) (h : ns.length = vs.length) : (packB ns vs).length = ns.sum := by
  induction ns generalizing vs with
  | nil => simp [packB]
  | cons n ns ih =>
    cases vs with
    | nil => simp at h
    | cons v vs => simp [packB, ih vs (by simpa using h)]
theorem packB_take (ns vs : List Nat) (i : Nat) (h1 : i < ns.length) (h2 : i < vs.length) : packB (ns.take (i + 1)) (vs.take (i + 1)) = packB (ns.take i) (vs.take i) ++ dig (vs.getD i 0) (ns.getD i 0) := by
  induction ns generalizing vs i with
  | nil => simp at h1
  | cons n ns ih =>
    cases vs with
    | nil => simp at h2
    | cons v vs =>
      cases i with
      | zero => simp [packB, List.getD]
      | succ i =>
        have := ih vs i (by simpa using h1) (by simpa using h2)
        simp only [List.take_succ_cons, packB, this, List.append_assoc]
        simp [List.getD]
theorem sum_take_nat (l : List Nat) (k : Nat) (hk : k < l.length) : (l.take (k + 1)).sum = (l.take k).sum + l.getD k 0 := by
  have e : l.getD k 0 = l[k] := by simp [hk]
  rw [e, List.take_succ_eq_append_getElem hk, List.sum_append]; simp
theorem sum_take_le (l : List Nat) (k : Nat) : (l.take k).sum ≤ l.sum := by
  conv => rhs; rw [← List.take_append_drop k l]
  rw [List.sum_append]; omega

/-- all bits of bytes -/
def rowB (bs : List UInt8) : List Bool := (List.range (8 * bs.length)).map (bitB bs)
@[simp] theorem rowB_length (bs : List UInt8) : (rowB bs).length = 8 * bs.length := by simp [rowB]
theorem rowB_getD (bs : List UInt8) (i : Nat) : (rowB bs).getD i false = if i < 8 * bs.length then bitB bs i else false := by
  unfold rowB
  by_cases h : i < 8 * bs.length <;> simp [List.getD, h]
theorem byte_ext (x y : UInt8) (h : ∀ q, q < 8 → x.toNat.testBit q = y.toNat.testBit q) : x = y := by
  apply UInt8.toNat_inj.1
  apply Nat.eq_of_testBit_eq
  intro q
  by_cases hq : q < 8
  · exact h q hq
  · have h8 : (2 : Nat) ^ 8 ≤ 2 ^ q := Nat.pow_le_pow_right (by omega) (by omega)
    rw [Nat.testBit_lt_two_pow (Nat.lt_of_lt_of_le x.toNat_lt h8), Nat.testBit_lt_two_pow (Nat.lt_of_lt_of_le y.toNat_lt h8)]
/-- bits tell the bytes -/
theorem bytes_ext (a b : List UInt8) (hl : a.length = b.length) (h : ∀ m, m < 8 * a.length → bitB a m = bitB b m) : a = b := by
  apply List.ext_getElem hl
  intro i h1 h2
  apply byte_ext
  intro q hq
  have := h (8 * i + (7 - q)) (by omega)
  unfold bitB at this
  rw [show (8 * i + (7 - q)) / 8 = i from by omega, show 7 - (8 * i + (7 - q)) % 8 = q from by omega] at this
  simpa [List.getD, h1, h2] using this

/-- the widths as numbers -/
def nat (l : List Int) : List Nat := l.map Int.toNat
@[simp] theorem nat_length (l : List Int) : (nat l).length = l.length := by simp [nat]
theorem nat_getD (l : List Int) (i : Nat) : (nat l).getD i 0 = (l.getD i 0).toNat := by
  unfold nat
  by_cases h : i < l.length <;> simp [List.getD, h]
theorem spanOf_some {l : List Int} {t : Int} (h : spanOf l = some t) : (∀ i, i < l.length → 0 ≤ l.getD i 0 ∧ l.getD i 0 ≤ 64) ∧ t = ((nat l).sum : Int) := by
  unfold spanOf at h
  split at h
  · rename_i ha
    rw [List.all_eq_true] at ha
    refine ⟨fun i hi => ?_, ?_⟩
    · have := ha l[i] (List.getElem_mem hi)
      have e : l.getD i 0 = l[i] := by simp [hi]
      rw [e]; simpa using this
    · injection h with h
      rw [← h]
      clear h
      induction l with
      | nil => simp [nat]
      | cons x r ih =>
        have hx := ha x (by simp)
        simp only [decide_eq_true_eq] at hx
        have := ih (fun y hy => ha y (by simp [hy]))
        simp only [List.sum_cons, nat, List.map_cons] at *
        omega
  · cases h
theorem nat_sum_le (l : List Int) (h : ∀ i, i < l.length → 0 ≤ l.getD i 0 ∧ l.getD i 0 ≤ 64) : (nat l).sum ≤ 64 * l.length := by
  induction l with
  | nil => simp [nat]
  | cons x r ih =>
    have h0 := h 0 (by simp)
    have := ih (fun i hi => by simpa [List.getD] using h (i + 1) (by simp; omega))
    simp only [nat, List.map_cons, List.sum_cons, List.length_cons, List.getD_cons_zero] at *
    omega
/-- what Pack takes -/
def PackOk (l : List Int) (vs : List Nat) : Prop := (spanOf l).isSome ∧ l.length = vs.length ∧ ∀ i, i < l.length → vs.getD i 0 < 2 ^ (l.getD i 0).toNat
/-- what Pack makes -/
def IsPack (l : List Int) (vs : List Nat) (cs : List UInt8) : Prop := cs.length = ((nat l).sum + 7) / 8 ∧ ∀ m, m < 8 * cs.length → bitB cs m = (packB (nat l) vs).getD m false
theorem IsPack.unique {l : List Int} {vs : List Nat} {a b : List UInt8} (ha : IsPack l vs a) (hb : IsPack l vs b) : a = b :=
  bytes_ext a b (ha.1.trans hb.1.symm) fun m hm => by rw [ha.2 m hm, hb.2 m (by have := ha.1; have := hb.1; omega)]
def IsPackTo (l : List Int) (vs : List Nat) (cs : List UInt8) (i : Nat) : Prop := cs.length = ((nat l).sum + 7) / 8 ∧ ∀ m, m < 8 * cs.length → bitB cs m = (packB ((nat l).take i) (vs.take i)).getD m false
theorem zeros_bit (n m : Nat) : bitB (List.replicate n 0) m = false := by
  unfold bitB
  have : (List.replicate n (0 : UInt8)).getD (m / 8) 0 = 0 := by
    by_cases h : m / 8 < n <;> simp [List.getD, h]
  rw [this]; simp
theorem IsPackTo.start (l : List Int) (vs : List Nat) : IsPackTo l vs (List.replicate (((nat l).sum + 7) / 8) 0) 0 := ⟨by simp, fun m _ => by rw [zeros_bit]; simp [packB]⟩
theorem IsPackTo.stop {l : List Int} {vs : List Nat} {cs : List UInt8} (hl : l.length = vs.length) (h : IsPackTo l vs cs l.length) : IsPack l vs cs := by
  refine ⟨h.1, fun m hm => ?_⟩
  rw [h.2 m hm, List.take_of_length_le (by simp), List.take_of_length_le (by omega)]
theorem IsPackTo.step {l : List Int} {vs : List Nat} {cs ds : List UInt8} {i : Nat} (h : IsPackTo l vs cs i) (hl : l.length = vs.length) (hi : i < l.length)
    (hp : IsPut cs ds ((nat l).take i).sum (l.getD i 0).toNat (vs.getD i 0)) : IsPackTo l vs ds (i + 1) := by
  refine ⟨hp.1.trans h.1, fun m hm => ?_⟩
  have hm' : m < 8 * cs.length := by have := hp.1; omega
  rw [hp.2 m hm', packB_take _ _ _ (by simpa using hi) (by omega), nat_getD]
  have hlen : (packB ((nat l).take i) (vs.take i)).length = ((nat l).take i).sum := packB_length _ _ (by simp; omega)
  have h2 := h.2 m hm'
  by_cases c : ((nat l).take i).sum ≤ m ∧ m < ((nat l).take i).sum + (l.getD i 0).toNat
  · rw [if_pos c, getD_right _ _ _ _ (by omega), hlen, dig_getD _ _ _ (by omega)]
  · rw [if_neg c, h2]
    by_cases c2 : m < ((nat l).take i).sum
    · rw [getD_left _ _ _ _ (by omega)]
    · rw [getD_right _ _ _ _ (by omega), hlen]
      generalize (l.getD i 0).toNat = N at *
      simp only [List.getD]
      rw [List.getElem?_eq_none (by omega), List.getElem?_eq_none (by rw [dig_length]; omega)]
end Go.Proofs.Ytdblplkaobeimaa
namespace Go.Proofs.Ytdblplkaobeimaa
set_option linter.unusedVariables false
set_option linter.unusedSimpArgs false

/-- a bit as a number -/
def bi (b : Bool) : Int := if b then 1 else 0
def bn (l : List Bool) : List Int := l.map bi
@[simp] theorem bn_length (l : List Bool) : (bn l).length = l.length := by simp [bn]
theorem bn_getD (l : List Bool) (i : Nat) : (bn l).getD i 0 = bi (l.getD i false) := by
  unfold bn
  by_cases h : i < l.length
  · simp [List.getD, h]
  · simp [List.getD, h, bi]
theorem bn_append (a b : List Bool) : bn (a ++ b) = bn a ++ bn b := by simp [bn]
theorem bi_toNat (b : Bool) : bi b = ((b.toNat : Nat) : Int) := by cases b <;> rfl
theorem bi_range (b : Bool) : 0 ≤ bi b ∧ bi b ≤ 1 := by cases b <;> simp [bi]

/-- the number whose bits are f 0, f 1, .. from the highest on -/
def nm (f : Nat → Bool) : Nat → Nat
  | 0 => 0
  | n + 1 => 2 * nm f n + (f n).toNat
theorem toNat_le (b : Bool) : b.toNat ≤ 1 := by cases b <;> simp
theorem nm_lt (f : Nat → Bool) (n : Nat) : nm f n < 2 ^ n := by
  induction n with
  | zero => simp [nm]
  | succ n ih => have := toNat_le (f n); simp only [nm]; rw [Nat.pow_succ]; omega
theorem nm_congr (f g : Nat → Bool) (n : Nat) (h : ∀ i, i < n → f i = g i) : nm f n = nm g n := by
  induction n with
  | zero => rfl
  | succ n ih => simp only [nm]; rw [ih (fun i hi => h i (by omega)), h n (by omega)]
theorem nm_bit (f : Nat → Bool) (n j : Nat) : (nm f n).testBit j = (decide (j < n) && f (n - 1 - j)) := by
  induction n generalizing j with
  | zero => simp [nm]
  | succ n ih =>
    simp only [nm]
    cases j with
    | zero =>
      rw [Nat.testBit_zero]
      cases hf : f n <;> simp [hf] <;> omega
    | succ j =>
      have e : (2 * nm f n + (f n).toNat) / 2 = nm f n := by have := toNat_le (f n); omega
      rw [Nat.testBit_succ, e, ih j, show n + 1 - 1 - (j + 1) = n - 1 - j from by omega]
      congr 1
      simp
theorem num_nm (bs : List UInt8) (k n : Nat) : num bs k n = nm (fun j => bitB bs (k + j)) n := by
  induction n with
  | zero => rfl
  | succ n ih => simp only [num, nm]; rw [ih, bit_bitB]
theorem dig_succ (v n : Nat) : dig v (n + 1) = v.testBit n :: dig v n := by
  unfold dig
  rw [List.range_succ_eq_map, List.map_cons, List.map_map]
  congr 1
  apply List.map_congr_left
  intro i _
  simp only [Function.comp]
  congr 1
  omega
theorem nm_dig (v n : Nat) : nm (fun j => (dig v n).getD j false) n = v % 2 ^ n := by
  apply Nat.eq_of_testBit_eq
  intro i
  rw [nm_bit, Nat.testBit_mod_two_pow]
  by_cases h : i < n
  · rw [dig_getD _ _ _ (by omega), decide_eq_true h, show n - 1 - (n - 1 - i) = i from by omega]
  · rw [decide_eq_false h]; simp

theorem u8_ofNat (N : Nat) (h : N < 256) : (UInt8.ofNat N).toNat = N := by simp; omega
/-- bytes whose bits are the list's, filled up with 0 -/
def IsBytes (l : List Bool) (cs : List UInt8) : Prop := cs.length = (l.length + 7) / 8 ∧ ∀ m, m < 8 * cs.length → bitB cs m = l.getD m false
theorem IsBytes.unique {l : List Bool} {a b : List UInt8} (ha : IsBytes l a) (hb : IsBytes l b) : a = b :=
  bytes_ext a b (ha.1.trans hb.1.symm) fun m hm => by rw [ha.2 m hm, hb.2 m (by have := ha.1; have := hb.1; omega)]
/-- on the way: i bytes -/
def IsBytesTo (l : List Bool) (cs : List UInt8) (i : Nat) : Prop := cs.length = i ∧ ∀ m, m < 8 * i → bitB cs m = l.getD m false
theorem IsBytesTo.start (l : List Bool) : IsBytesTo l [] 0 := ⟨rfl, by omega⟩
theorem IsBytesTo.step {l : List Bool} {cs : List UInt8} {i : Nat} (h : IsBytesTo l cs i) : IsBytesTo l (cs ++ [UInt8.ofNat (nm (fun j => l.getD (8 * i + j) false) 8)]) (i + 1) := by
  obtain ⟨h1, h2⟩ := h
  refine ⟨by simp [h1], fun m hm => ?_⟩
  unfold bitB
  by_cases c : m < 8 * i
  · rw [getD_left _ _ _ _ (by omega)]
    exact h2 m c
  · rw [getD_right _ _ _ _ (by omega), show m / 8 - cs.length = 0 from by omega]
    have hlt := nm_lt (fun j => l.getD (8 * i + j) false) 8
    have e : (UInt8.ofNat (nm (fun j => l.getD (8 * i + j) false) 8)).toNat = nm (fun j => l.getD (8 * i + j) false) 8 := u8_ofNat _ (by omega)
    rw [List.getD_cons_zero, e, nm_bit, decide_eq_true (by omega), Bool.true_and]
    congr 1
    omega
theorem IsBytesTo.stop {l : List Bool} {cs : List UInt8} {i : Nat} (h : IsBytesTo l cs i) (hi : i = (l.length + 7) / 8) : IsBytes l cs := by
  subst hi
  exact ⟨h.1, fun m hm => h.2 m (by rw [h.1] at hm; exact hm)⟩
theorem take_rowB (bs : List UInt8) (k : Nat) (hk : k < 8 * bs.length) : (rowB bs).take (k + 1) = (rowB bs).take k ++ [bitB bs k] := by
  rw [List.take_succ_eq_append_getElem (by simpa using hk)]
  simp [rowB]
/-- what Put of the document makes -/
theorem isPut_of_bytes {bs cs : List UInt8} {k n v : Nat} (hk : k + n ≤ 8 * bs.length) (h : IsBytes ((rowB bs).take k ++ dig v n ++ (rowB bs).drop (k + n)) cs) : IsPut bs cs k n v := by
  obtain ⟨h1, h2⟩ := h
  have hl : ((rowB bs).take k ++ dig v n ++ (rowB bs).drop (k + n)).length = 8 * bs.length := by
    simp only [List.length_append, List.length_take, List.length_drop, rowB_length, dig_length]; omega
  rw [hl] at h1
  have hc : cs.length = bs.length := by omega
  refine ⟨hc, fun m hm => ?_⟩
  rw [h2 m (by omega)]
  have ht : ((rowB bs).take k).length = k := by rw [List.length_take, rowB_length]; omega
  by_cases c1 : m < k
  · rw [if_neg (by omega), List.append_assoc, getD_left _ _ _ _ (by omega)]
    have : ((rowB bs).take k).getD m false = (rowB bs).getD m false := by simp [List.getD, List.getElem?_take, c1]
    rw [this, rowB_getD, if_pos hm]
  · by_cases c2 : m < k + n
    · rw [if_pos (by omega), List.append_assoc, getD_right _ _ _ _ (by omega), ht, getD_left _ _ _ _ (by rw [dig_length]; omega), dig_getD _ _ _ (by omega)]
    · have hl2 : ((rowB bs).take k ++ dig v n).length = k + n := by rw [List.length_append, ht, dig_length]
      rw [if_neg (by omega), getD_right _ _ _ _ (by omega), hl2]
      have : ((rowB bs).drop (k + n)).getD (m - (k + n)) false = (rowB bs).getD m false := by
        simp only [List.getD, List.getElem?_drop]
        rw [show k + n + (m - (k + n)) = m from by omega]
      rw [this, rowB_getD, if_pos hm]
theorem IsPut.unique {bs a b : List UInt8} {k n v : Nat} (ha : IsPut bs a k n v) (hb : IsPut bs b k n v) : a = b :=
  bytes_ext a b (ha.1.trans hb.1.symm) fun m hm => by rw [ha.2 m (by have := ha.1; omega), hb.2 m (by have := ha.1; omega)]
theorem isPack_of_bytes {l : List Int} {vs : List Nat} {cs : List UInt8} (hl : l.length = vs.length) (h : IsBytes (packB (nat l) vs) cs) : IsPack l vs cs := by
  have := packB_length (nat l) vs (by simpa using hl)
  exact ⟨by rw [← this]; exact h.1, h.2⟩
end Go.Proofs.Ytdblplkaobeimaa
