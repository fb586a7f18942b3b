/-
  Decode of package cell, by its contracts. No claim of its own.
-/
import Derived.Test.YtcapphabajplcaaCeH
namespace Go.Proofs.Ytcapphabajplcaa
open Go.RowKit Go.Deep
set_option linter.unusedVariables false
set_option linter.unusedSimpArgs false

theorem data_no (bs : List UInt8) (n : Nat) (a : Option Addr) (c B : Nat) (w : World) (hn : bs.length = n) (h : Ro w B a (u8s bs)) (hB : B ≤ w.heap.size) (hnc : n ≤ c) (hc : c ≤ 9223372036854775807) (hl : n ≤ 1000000) (hno : ∀ x, ¬ IsDec bs x) :
    Calls Try.prog 16 #[.slice a n c] w fun e w' => e = .returned (.tuple #[cev 0 none 0 0 none 0 0, .bool false]) ∧ Below w.heap.size w w' := by
  by_cases h2 : n < 2
  · exact data_no1 n a c w h2
  by_cases h3 : num bs 0 12 / 1024 ≠ 1 ∨ n < num bs 0 12 % 128
  · exact data_no2 bs n a c B w hn h hB hl (by omega) h3
  · by_cases h4 : UnpOk (wid (cntOf bs)) (bs.take (begOf bs))
    · exact absurd (show IsDec bs _ from ⟨by omega, by omega, by omega, h4, rfl⟩) (hno _)
    · exact data_no3 bs n a c B w hn h hB hnc hc hl (by omega) (by omega) (by omega) h4

/-- a cell that has been read, over letters -/
def DcR (w : World) (dn ln : Nat) (d : List UInt8) (L : List Bk) (e : Ending) (w' : World) : Prop := ∃ a1 c1 a2 c2, e = .returned (.tuple #[cev 1 a1 dn c1 a2 ln c2, .int .i64 0]) ∧ Ro w' w'.heap.size a1 (u8s d) ∧ Ro w' w'.heap.size a2 (bcs L) ∧ Frs w a1 ∧ Frs w a2 ∧ Below w.heap.size w w'
/-- how the first test goes -/
theorem first_no {bs : List UInt8} {n : Nat} (hn : bs.length = n) (h : bs ≠ [2]) : ((n : Int) == 1) = false ∨ (n = 1 ∧ ∃ z : UInt8, bs = [z] ∧ ((z.toNat : Int) == 2) = false) := by
  by_cases h1 : n = 1
  · subst h1
    obtain ⟨z, rfl⟩ := List.length_eq_one_iff.1 hn
    refine .inr ⟨rfl, z, rfl, ?_⟩
    rw [beq_eq_false_iff_ne]
    intro e
    apply h
    have : z = 2 := UInt8.toNat_inj.1 (by show z.toNat = 2; omega)
    rw [this]
  · exact .inl (by rw [beq_eq_false_iff_ne]; omega)

set_option maxHeartbeats 1000000 in
theorem decode_a (bs : List UInt8) (n : Nat) (a : Option Addr) (c B : Nat) (w : World) (hn : bs.length = n) (h : Ro w B a (u8s bs)) (hB : B ≤ w.heap.size) (hnc : n ≤ c) (hc : c ≤ 9223372036854775807) (hl : n ≤ 1000000) (h2 : bs ≠ [2]) (hno : ∀ x, ¬ IsDec bs x) :
    Calls Try.prog 9 #[.slice a n c] w fun e w' => e = .returned (.tuple #[cev 0 none 0 0 none 0 0, .int .i64 71]) ∧ Below w.heap.size w w' := by
  have HD := Lib.hid (data_no bs n a c B (w.alloc (.cells #[.int .i64 0, .slice none 0 0, .slice none 0 0] 26)) hn (h.below ((Below.refl B w).alloc hB _) (Nat.le_refl _)) (by simp; omega) hnc hc hl hno)
  have HB0 := Lib.hid hB
  rcases first_no hn h2 with h1 | ⟨rfl, z, rfl, hz⟩
  · clear h2 hnc hl hn h hno hB hc
    go_enter Try.func9, Try.ntmps9
    go_wp2_with fail
    refine HD.out.mono ?_
    rintro e w1 ⟨rfl, hb⟩
    have HB := Lib.hid hb
    have o1 := (Own.new w 26 [.int .i64 0, .slice none 0 0, .slice none 0 0]).below hb (by simp)
    have c0 := o1.cell 0
    have c1 := o1.cell 1
    have c2 := o1.cell 2
    have f0 := o1.frozen 0
    have f1 := o1.frozen 1
    have f2 := o1.frozen 2
    have hz := o1.lt
    simp at c0 c1 c2
    clear hb o1
    go_wp2_with fail
    refine bodyPost_ret (v := .tuple #[cev 0 none 0 0 none 0 0, .int .i64 71]) (by simp [results, Try.results9, go_sem, c0, c1, c2, hz]) rfl ⟨rfl, ?_⟩
    exact (((((Below.refl w.heap.size w).alloc (Nat.le_refl _) _).trans (HB.out.mono (by simp))).setCell (Nat.le_refl _) _).setCell (Nat.le_refl _) _).setCell (Nat.le_refl _) _ |>.alloc (by simp [set_size]; omega) _
  · obtain ⟨b, off, rfl, hb0, hcl⟩ := h.u8 (by simp)
    have hc0 := hcl 0 (by simp)
    have hblt : b < w.heap.size := by omega
    change w.cell? ⟨b, off, none⟩ = some (.int .u8 (z.toNat : Int)) at hc0
    clear h2 hnc hl hn h hno hB hc hcl
    go_enter Try.func9, Try.ntmps9
    go_wp2_with fail
    refine HD.out.mono ?_
    rintro e w1 ⟨rfl, hb⟩
    have HB := Lib.hid hb
    have o1 := (Own.new w 26 [.int .i64 0, .slice none 0 0, .slice none 0 0]).below hb (by simp)
    have c0 := o1.cell 0
    have c1 := o1.cell 1
    have c2 := o1.cell 2
    have f0 := o1.frozen 0
    have f1 := o1.frozen 1
    have f2 := o1.frozen 2
    have hz := o1.lt
    simp at c0 c1 c2
    clear hb o1
    go_wp2_with fail
    refine bodyPost_ret (v := .tuple #[cev 0 none 0 0 none 0 0, .int .i64 71]) (by simp [results, Try.results9, go_sem, c0, c1, c2, hz]) rfl ⟨rfl, ?_⟩
    exact (((((Below.refl w.heap.size w).alloc (Nat.le_refl _) _).trans (HB.out.mono (by simp))).setCell (Nat.le_refl _) _).setCell (Nat.le_refl _) _).setCell (Nat.le_refl _) _ |>.alloc (by simp [set_size]; omega) _

set_option maxHeartbeats 2000000 in
theorem decode_b (bs : List UInt8) (n : Nat) (a : Option Addr) (c B : Nat) (w : World) (hn : bs.length = n) (h : Ro w B a (u8s bs)) (hB : B ≤ w.heap.size) (hnc : n ≤ c) (hc : c ≤ 9223372036854775807) (hl : n ≤ 1000000) (x : Ce) (hx : IsDec bs x) (hr : right x = false) :
    Calls Try.prog 9 #[.slice a n c] w fun e w' => e = .returned (.tuple #[cev 0 none 0 0 none 0 0, .int .i64 71]) ∧ Below w.heap.size w w' := by
  have HD := Lib.hid (data_yes bs n a c B (w.alloc (.cells #[.int .i64 0, .slice none 0 0, .slice none 0 0] 26)) hn (h.below ((Below.refl B w).alloc hB _) (Nat.le_refl _)) (by simp; omega) hnc hc hl x hx)
  have h1 : ((n : Int) == 1) = false := by rw [beq_eq_false_iff_ne]; have := hx.1; omega
  have hk : x.k = 1 := by rw [hx.2.2.2.2]
  have HLd : Hid (x.d.length ≤ 1000000) := Lib.hid (by rw [hx.2.2.2.2]; simp only [List.length_drop]; omega)
  have HLb : Hid (x.b.length ≤ 1000000) := Lib.hid (by rw [hx.2.2.2.2]; simp [cntOf]; omega)
  have HRi := Lib.hid hr
  clear hx hr h hnc hl hn hB hc
  obtain ⟨k, d, L⟩ := x
  simp only at hk
  subst hk
  go_enter Try.func9, Try.ntmps9
  go_wp2_with fail
  refine HD.out.mono ?_
  rintro e w1 hp
  unfold DcP at hp
  obtain ⟨a1, c1, a2, c2, rfl, hr1, hr2, -, -, hb⟩ := hp
  have HB := Lib.hid hb
  have HR := Lib.hid (right_any ⟨1, d, L⟩ a1 c1 a2 c2 w1.heap.size (w1.alloc (.cells #[.int .i64 1, .slice a1 d.length c1, .slice a2 L.length c2] 26)) (hr2.below ((Below.refl w1.heap.size w1).alloc (Nat.le_refl _) _) (Nat.le_refl _)) (by simp) (by have := HLb.out; simp only at this ⊢; omega) (by have := HLd.out; simp only at this ⊢; omega))
  rw [HRi.out] at HR
  simp only at HR ⊢
  have o1 := (Own.new w 26 [.int .i64 0, .slice none 0 0, .slice none 0 0]).below hb (by simp)
  have HO1 := Lib.hid o1
  clear hr1 hr2 hb o1
  generalize d.length = dn at *
  generalize L.length = ln at *
  go_wp2_with fail
  refine HR.out.mono ?_
  rintro e w2 ⟨rfl, hb⟩
  have HB2 := Lib.hid hb
  have o2 := (HO1.out.alloc (.cells #[.int .i64 1, .slice a1 dn c1, .slice a2 ln c2] 26)).below hb (by have := HO1.out.lt; simp; omega)
  have c0 := o2.cell 0
  have c1' := o2.cell 1
  have c2' := o2.cell 2
  have f0 := o2.frozen 0
  have f1 := o2.frozen 1
  have f2 := o2.frozen 2
  simp at c0 c1' c2'
  clear hb o2
  go_wp2_with fail
  refine bodyPost_ret (v := .tuple #[cev 0 none 0 0 none 0 0, .int .i64 71]) (by simp [results, Try.results9, go_sem, c0, c1', c2']) rfl ⟨rfl, ?_⟩
  have hbw : Below w.heap.size w w1 := ((Below.refl w.heap.size w).alloc (Nat.le_refl _) _).trans (HB.out.mono (by simp))
  have hbw2 : Below w.heap.size w w2 := (hbw.alloc hbw.size _).trans (HB2.out.mono (by have := hbw.size; simp; omega))
  exact ((hbw2.setCell (Nat.le_refl _) _).setCell (Nat.le_refl _) _).setCell (Nat.le_refl _) _

set_option maxHeartbeats 2000000 in
theorem decode_c (bs : List UInt8) (n : Nat) (a : Option Addr) (c B : Nat) (w : World) (hn : bs.length = n) (h : Ro w B a (u8s bs)) (hB : B ≤ w.heap.size) (hnc : n ≤ c) (hc : c ≤ 9223372036854775807) (hl : n ≤ 1000000) (x : Ce) (hx : IsDec bs x) (hr : right x = true) :
    Calls Try.prog 9 #[.slice a n c] w (DcP w x (.int .i64 0)) := by
  have HD := Lib.hid (data_yes bs n a c B (w.alloc (.cells #[.int .i64 0, .slice none 0 0, .slice none 0 0] 26)) hn (h.below ((Below.refl B w).alloc hB _) (Nat.le_refl _)) (by simp; omega) hnc hc hl x hx)
  have h1 : ((n : Int) == 1) = false := by rw [beq_eq_false_iff_ne]; have := hx.1; omega
  have hk : x.k = 1 := by rw [hx.2.2.2.2]
  have HLd : Hid (x.d.length ≤ 1000000) := Lib.hid (by rw [hx.2.2.2.2]; simp only [List.length_drop]; omega)
  have HLb : Hid (x.b.length ≤ 1000000) := Lib.hid (by rw [hx.2.2.2.2]; simp [cntOf]; omega)
  have HRi := Lib.hid hr
  clear hx hr h hnc hl hn hB hc
  obtain ⟨k, d, L⟩ := x
  simp only at hk
  subst hk
  unfold DcP
  simp only
  change Calls _ _ _ _ (DcR w d.length L.length d L)
  go_enter Try.func9, Try.ntmps9
  go_wp2_with fail
  refine HD.out.mono ?_
  rintro e w1 hp
  unfold DcP at hp
  obtain ⟨a1, c1, a2, c2, rfl, hr1, hr2, hf1, hf2, hb⟩ := hp
  have HB := Lib.hid hb
  have HR := Lib.hid (right_any ⟨1, d, L⟩ a1 c1 a2 c2 w1.heap.size (w1.alloc (.cells #[.int .i64 1, .slice a1 d.length c1, .slice a2 L.length c2] 26)) (hr2.below ((Below.refl w1.heap.size w1).alloc (Nat.le_refl _) _) (Nat.le_refl _)) (by simp) (by have := HLb.out; simp only at this ⊢; omega) (by have := HLd.out; simp only at this ⊢; omega))
  rw [HRi.out] at HR
  simp only at HR ⊢
  have o1 := (Own.new w 26 [.int .i64 0, .slice none 0 0, .slice none 0 0]).below hb (by simp)
  have HO1 := Lib.hid o1
  have HR1 := Lib.hid hr1
  have HR2 := Lib.hid hr2
  have HF1 : Hid (∀ ad, a1 = some ad → w.heap.size < ad.block) := Lib.hid fun ad e => by have := hf1 ad e; simp at this; omega
  have HF2 : Hid (∀ ad, a2 = some ad → w.heap.size < ad.block) := Lib.hid fun ad e => by have := hf2 ad e; simp at this; omega
  clear hr1 hr2 hb o1 hf1 hf2
  generalize d.length = dn at *
  generalize L.length = ln at *
  go_wp2_with fail
  refine HR.out.mono ?_
  rintro e w2 ⟨rfl, hb⟩
  have HB2 := Lib.hid hb
  have HBA : Hid (Below w1.heap.size w1 w2) := Lib.hid (((Below.refl w1.heap.size w1).alloc (Nat.le_refl _) _).trans (hb.mono (by simp)))
  have o2 := (HO1.out.alloc (.cells #[.int .i64 1, .slice a1 dn c1, .slice a2 ln c2] 26)).below hb (by have := HO1.out.lt; simp; omega)
  have o3 := (Own.new w1 26 [.int .i64 1, .slice a1 dn c1, .slice a2 ln c2]).below hb (by simp)
  have c0 := o2.cell 0
  have c1' := o2.cell 1
  have c2' := o2.cell 2
  have f0 := o2.frozen 0
  have f1 := o2.frozen 1
  have f2 := o2.frozen 2
  have d0 := o3.cell 0
  have d1 := o3.cell 1
  have d2 := o3.cell 2
  simp at c0 c1' c2' d0 d1 d2
  have hne : w.heap.size < w1.heap.size := HO1.out.lt
  clear hb o2 o3
  go_wp2_with fail
  refine bodyPost_ret (v := .tuple #[cev 1 a1 dn c1 a2 ln c2, .int .i64 0]) (by simp [results, Try.results9, go_sem, c0, c1', c2']) rfl ?_
  unfold DcR
  refine ⟨a1, c1, a2, c2, rfl, ?_, ?_, fun ad e => Nat.le_of_lt (HF1.out ad e), fun ad e => Nat.le_of_lt (HF2.out ad e), ?_⟩
  · have h := HR1.out.below HBA.out (Nat.le_refl _)
    refine (((h.far fun ad e => ?_).far fun ad e => ?_).far fun ad e => ?_).mono (by simp [set_size]; exact HBA.out.size)
    all_goals exact Nat.ne_of_gt (HF1.out ad e)
  · have h := HR2.out.below HBA.out (Nat.le_refl _)
    refine (((h.far fun ad e => ?_).far fun ad e => ?_).far fun ad e => ?_).mono (by simp [set_size]; exact HBA.out.size)
    all_goals exact Nat.ne_of_gt (HF2.out ad e)
  · have hbw : Below w.heap.size w w1 := ((Below.refl w.heap.size w).alloc (Nat.le_refl _) _).trans (HB.out.mono (by simp))
    have hbw2 : Below w.heap.size w w2 := hbw.trans (HBA.out.mono hbw.size)
    exact ((hbw2.setCell (Nat.le_refl _) _).setCell (Nat.le_refl _) _).setCell (Nat.le_refl _) _
end Go.Proofs.Ytcapphabajplcaa
