/-
  Same of package cell, and the document's, by their contracts. No claim of their own.
-/
import Derived.Test.YtdpaofedepnnbaaGreatCeQ
import Derived.Laws.IdiomStrings
import Derived.Laws.BytesString
namespace Go.Proofs.YtdpaofedepnnbaaGreat
open Go.RowKit Go.Deep
set_option linter.unusedVariables false
set_option linter.unusedSimpArgs false

theorem conv_ro {w : World} {B len c : Nat} {a : Option Addr} {bs : List UInt8} (h : Ro w B a (u8s bs)) (hl : bs.length = len) :
    (convert 29 9 (.slice a len c)).run Tryz.prog w = .ok (.string ⟨bs.toArray⟩) w := by
  subst hl
  by_cases h0 : 0 < bs.length
  · obtain ⟨b, off, rfl, hb, hc⟩ := h.u8 h0
    exact run_convert_bytes_back w _ _ _ _ _ bs Tryz.underlying29 Tryz.underlying5 Tryz.underlying9 fun j hj => by
      rw [add_off, hc j hj]
      simp [List.getD, hj]
  · have e : bs = [] := List.eq_nil_of_length_eq_zero (by omega)
    subst e
    rw [run_convert_bytes_string w _ _ _ a _ c Tryz.underlying29 Tryz.underlying5 Tryz.underlying9]
    cases a <;> simp [Conv.bytesToString, loadCells]
    all_goals rfl

set_option maxHeartbeats 400000 in
theorem bytesEqual_any (xs ys : List UInt8) (n m : Nat) (a a2 : Option Addr) (c c2 B : Nat) (w : World) (hn : xs.length = n) (hm : ys.length = m) (h : Ro w B a (u8s xs)) (h2 : Ro w B a2 (u8s ys)) :
    Calls Tryz.prog 33 #[.slice a n c, .slice a2 m c2] w fun e w' => e = .returned (.bool (decide (xs = ys))) ∧ w' = w := by
  have e1 := conv_ro (c := c) h hn
  have e2 := conv_ro (c := c2) h2 hm
  have HN := Lib.hid hn
  have HM := Lib.hid hm
  clear hn hm
  go_enter Tryz.func33, Tryz.ntmps33
  go_wp2
  go_ret
  refine ⟨ret_bool ?_, rfl⟩
  by_cases e : xs = ys <;> simp [e]

theorem take_succ_eqB {A B : List Bk} {k : Nat} (ha : k < A.length) (hb : k < B.length) (ht : A.take k = B.take k) (he : bk A k = bk B k) : A.take (k + 1) = B.take (k + 1) := by
  rw [bk_take ha, bk_take hb, ht, he]
theorem ne_of_bk {A B : List Bk} {k : Nat} (he : bk A k ≠ bk B k) : decide (A = B) = false := by
  simp only [decide_eq_false_iff_not]
  rintro rfl
  exact he rfl
set_option maxHeartbeats 2000000 in
theorem equalBacks_any (w : World) (a b : Option Addr) (A B : List Bk) (c d n m B0 : Nat) (hn : A.length = n) (hm : B.length = m) (ha : Ro w B0 a (bcs A)) (hb : Ro w B0 b (bcs B)) (hl : n ≤ 9223372036854775807) (hl2 : m ≤ 9223372036854775807) :
    Calls Tryz.prog 61 #[.slice a n c, .slice b m d] w fun e w' => e = .returned (.bool (decide (A = B))) ∧ Qt w w' := by
  have HN := Lib.hid hn
  have HM := Lib.hid hm
  have HA := Lib.hid ha
  have HB := Lib.hid hb
  clear ha hb hn hm
  go_enter Tryz.func61, Tryz.ntmps61
  by_cases hnm : n = m
  · subst hnm
    go_wp2_with fail
    go_loopw [13] (fun i wr => ∃ k : Nat, i = .int .i64 k ∧ k ≤ n ∧ Hid (A.take k = B.take k) ∧ Qt w wr) (fun i _ => n - (intOf i).toNat)
    case atStart => exact ⟨0, rfl, Nat.zero_le _, Lib.hid rfl, Qt.refl _⟩
    case round =>
      obtain ⟨k, rfl, hk, HT, hq⟩ := hrel
      by_cases hlt : k < n
      · have hkA : k < A.length := by rw [HN.out]; exact hlt
        have hkB : k < B.length := by rw [HM.out]; exact hlt
        obtain ⟨g, off, rfl, hg, hcl⟩ := (HA.out.qt hq).bk (by omega)
        obtain ⟨g', off', rfl, hg', hcl'⟩ := (HB.out.qt hq).bk (by omega)
        obtain ⟨h1, h2, h3⟩ := hcl k hkA
        obtain ⟨h4, h5, h6⟩ := hcl' k hkB
        have HTS := Lib.hid (take_succ_eqB hkA hkB HT.out)
        have HNE := Lib.hid (@ne_of_bk A B k)
        clear hcl hcl'
        generalize bk A k = x at *
        generalize bk B k = y at *
        have hk0 : (0 : Int) ≤ (k : Int) := by omega
        have hk1 : (k : Int) < (n : Int) := by omega
        have HQ := Lib.hid hq
        clear hq
        by_cases hxy : x = y
        · subst hxy
          have hN : ∀ W, (binOp .neq 70 (bkv x) (bkv x)).run Tryz.prog W = .ok (.bool false) W := fun W => by rw [neq_back]; simp
          go_wp2_with fail
          go_region
          go_wp2_with fail
          go_roundw
          case rel => exact ⟨k + 1, by go_num, by omega, Lib.hid (HTS.out trivial), by first | exact HQ.out | exact HQ.out.trans ⟨1, rfl⟩⟩
          case measure => simp [intOf]; omega
        · have hN : ∀ W, (binOp .neq 70 (bkv x) (bkv y)).run Tryz.prog W = .ok (.bool true) W := fun W => by rw [neq_back]; simp [hxy]
          have HF := Lib.hid (HNE.out hxy)
          go_wp2_with fail
          go_region
          go_wp2_with fail
          go_ret
          exact ⟨by rw [HF.out]; rfl, by first | exact HQ.out | exact HQ.out.trans ⟨1, rfl⟩⟩
      · have ht' : decide (A = B) = true := by
          have ht := HT.out
          rw [List.take_of_length_le (by rw [HN.out]; omega), List.take_of_length_le (by rw [HM.out]; omega)] at ht
          simpa using ht
        obtain rfl : k = n := by omega
        have HF := Lib.hid ht'
        clear ht'
        go_wp2_with fail
        go_ret
        exact ⟨by rw [HF.out]; rfl, hq⟩
  · have hd0 : ((n : Int) != (m : Int)) = true := by rw [bne_iff_ne]; omega
    have HF := Lib.hid (show decide (A = B) = false by simp only [decide_eq_false_iff_not]; rintro rfl; exact hnm (HN.out.symm.trans HM.out))
    go_wp2_with fail
    go_ret
    exact ⟨by rw [HF.out]; rfl, Qt.refl _⟩

/-- are two cells alike? -/
def alike (x y : Ce) : Bool := decide (x.k = y.k) && decide (x.d = y.d) && decide (x.b = y.b)
theorem alike_iff {x y : Ce} : alike x y = true ↔ x = y := by
  unfold alike
  simp only [Bool.and_eq_true, decide_eq_true_eq]
  constructor
  · rintro ⟨⟨h1, h2⟩, h3⟩; exact Ce.ext' h1 h2 h3
  · rintro rfl; exact ⟨⟨rfl, rfl⟩, rfl⟩

set_option maxHeartbeats 1000000 in
theorem same_any (x y : Ce) (a : Option Addr) (c : Nat) (a2 : Option Addr) (c2 : Nat) (b : Option Addr) (d : Nat) (b2 : Option Addr) (d2 B : Nat) (w : World) (hx : Ro w B a (u8s x.d)) (hx2 : Ro w B a2 (bcs x.b)) (hy : Ro w B b (u8s y.d)) (hy2 : Ro w B b2 (bcs y.b)) (hB : B ≤ w.heap.size)
    (hl : x.b.length ≤ 9223372036854775807) (hl2 : y.b.length ≤ 9223372036854775807) :
    Calls Tryz.prog 62 #[cev x.k a x.d.length c a2 x.b.length c2, cev y.k b y.d.length d b2 y.b.length d2] w fun e w' => e = .returned (.bool (alike x y)) ∧ Below w.heap.size w w' := by
  obtain ⟨k, l, L⟩ := x
  obtain ⟨k', l', L'⟩ := y
  simp only at hx hx2 hy hy2 hl hl2 ⊢
  have hbA : Below B w ((w.alloc (.cells #[.int .i64 k, .slice a l.length c, .slice a2 L.length c2] 32)).alloc (.cells #[.int .i64 k', .slice b l'.length d, .slice b2 L'.length d2] 32)) := ((Below.refl B w).alloc hB _).alloc (by simp; omega) _
  have H1 := Lib.hid (bytesEqual_any l l' l.length l'.length a b c d B _ rfl rfl (hx.below hbA (Nat.le_refl _)) (hy.below hbA (Nat.le_refl _)))
  have H2 := Lib.hid (equalBacks_any _ a2 b2 L L' c2 d2 L.length L'.length B rfl rfl (hx2.below hbA (Nat.le_refl _)) (hy2.below hbA (Nat.le_refl _)) hl hl2)
  obtain ⟨t, HT⟩ : ∃ t, Hid (alike ⟨k, l, L⟩ ⟨k', l', L'⟩ = t) := ⟨_, Lib.hid rfl⟩
  rw [HT.out]
  obtain ⟨t1, HT1⟩ : ∃ t, Hid (decide (l = l') = t) := ⟨_, Lib.hid rfl⟩
  obtain ⟨t2, HT2⟩ : ∃ t, Hid (decide (L = L') = t) := ⟨_, Lib.hid rfl⟩
  rw [HT1.out] at H1
  rw [HT2.out] at H2
  clear hbA hx hx2 hy hy2
  generalize l.length = n at *
  generalize l'.length = n' at *
  generalize L.length = m at *
  generalize L'.length = m' at *
  by_cases e1 : k = k'
  · subst e1
    cases t1 with
    | true =>
      obtain rfl : t = t2 := by rw [← HT.out]; unfold alike; simp only [HT1.out, HT2.out]; simp
      go_enter Tryz.func62, Tryz.ntmps62
      go_wp2_with fail
      refine H1.out.mono ?_
      rintro e w' ⟨rfl, rfl⟩
      go_wp2_with fail
      refine H2.out.mono ?_
      rintro e w' ⟨rfl, hq⟩
      have HQ := Lib.hid hq
      clear hq
      go_wp2_with fail
      go_ret
      exact ⟨rfl, HQ.out.below (((Below.refl _ _).alloc (Nat.le_refl _) _).alloc (by simp) _)⟩
    | false =>
      obtain rfl : t = false := by rw [← HT.out]; unfold alike; simp only [HT1.out]; simp
      go_enter Tryz.func62, Tryz.ntmps62
      go_wp2_with fail
      refine H1.out.mono ?_
      rintro e w' ⟨rfl, rfl⟩
      go_wp2_with fail
      go_ret
      exact ⟨rfl, ((Below.refl _ _).alloc (Nat.le_refl _) _).alloc (by simp) _⟩
  · obtain rfl : t = false := by rw [← HT.out]; unfold alike; simp [e1]
    have h1 : (k == k') = false := by rw [beq_eq_false_iff_ne]; omega
    clear e1
    go_enter Tryz.func62, Tryz.ntmps62
    go_wp2_with fail
    go_ret
    exact ⟨rfl, ((Below.refl _ _).alloc (Nat.le_refl _) _).alloc (by simp) _⟩
end Go.Proofs.YtdpaofedepnnbaaGreat
