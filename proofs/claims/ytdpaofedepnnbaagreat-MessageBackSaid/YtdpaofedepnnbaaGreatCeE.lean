/-
  dataOf of package cell, and bytes.Clone, by their contracts. No claim of their own.
-/
import Derived.Test.YtdpaofedepnnbaaGreatCeM
namespace Go.Proofs.YtdpaofedepnnbaaGreat
open Go.RowKit Go.Deep
set_option linter.unusedVariables false
set_option linter.unusedSimpArgs false

theorem eql_nil (a : Option Addr) (n c : Nat) (w : World) : (binOp .eql 29 (.slice a n c) (.slice none 0 0)).run Tryz.prog w = .ok (.bool a.isNone) w := by
  simp only [binOp]
  simp [run_equal_slice_nil w 29 5 a n c Tryz.underlying29]
/-- a slice of n bytes that are laid below the heap's end -/
def ClP (w : World) (bs : List UInt8) (n : Nat) (e : Ending) (w' : World) : Prop := ∃ a' c', e = .returned (.slice a' n c') ∧ Ro w' w'.heap.size a' (u8s bs) ∧ (∀ ad, a' = some ad → w.heap.size ≤ ad.block) ∧ Below w.heap.size w w'
set_option maxHeartbeats 1000000 in
theorem clone_any (bs : List UInt8) (n : Nat) (a : Option Addr) (c B : Nat) (w : World) (hn : bs.length = n) (h : Ro w B a (u8s bs)) (hB : B ≤ w.heap.size) (ha : a = none → n = 0 ∧ c = 0) (hl : n ≤ 1000000) :
    Calls Tryz.prog 131 #[.slice a n c] w (ClP w bs n) := by
  rcases a with _ | ad
  · obtain ⟨rfl, rfl⟩ := ha rfl
    obtain rfl : bs = [] := List.eq_nil_of_length_eq_zero hn
    have hnil := fun W => eql_nil none 0 0 W
    simp only [Option.isNone_none] at hnil
    go_enter Tryz.func131, Tryz.ntmps131
    go_wp2
    go_ret
    unfold ClP
    exact ⟨none, 0, rfl, Ro.nil _ _ _, (fun ad h => nomatch h), Below.refl _ _⟩
  · have hnil := fun W => eql_nil (some ad) n c W
    simp only [Option.isNone_some] at hnil
    have HN := Lib.hid hn
    have HR := Lib.hid h
    clear ha hn h
    have HLs : Hid (Lst (w.alloc (.cells #[] 5)) w.heap.size 5 (.slice (some ⟨w.heap.size, 0, none⟩) 0 0) []) := Lib.hid ((Own.new w 5 []).lst (Nat.le_refl _) 0 rfl (by decide))
    have HB0 : Hid (Below w.heap.size w (w.alloc (.cells #[] 5))) := Lib.hid ((Below.refl _ _).alloc (Nat.le_refl _) _)
    go_enter Tryz.func131, Tryz.ntmps131
    go_wp2_with (at_builtin; refine wpList_appB rfl (.tmp 5) (.tmp 6) 29 rfl w.heap.size 5 (.int .u8 0) 1 Tryz.underlying29 Tryz.info_u8 rfl (.slice (some ⟨w.heap.size, 0, none⟩) 0 0) [] rfl HLs.out (some ad) B n c (u8s bs) rfl (by rw [u8s_length]; exact HN.out) (HR.out.below HB0.out hB) (u8s_oneCell _) (by simp; omega) (by simp; omega) w.heap.size w HB0.out (Nat.le_refl _) HB0.out.size ?_)
    intro v' w8 hl8 hb8 hs8
    have HL8 := Lib.hid hl8.out
    have HB8 := Lib.hid hb8
    clear hl8 hb8 hs8
    go_wp2_with fail
    go_ret
    obtain ⟨a8, c8, rfl, hr8, _, _⟩ := HL8.out.form
    unfold ClP
    exact ⟨a8, c8, by show Ending.returned (.slice a8 (u8s bs).length c8) = _; rw [u8s_length, HN.out], hr8, fun ad h => (HL8.out.lt ad.block (by subst h; rfl)).1, HB8.out⟩

set_option maxHeartbeats 1000000 in
theorem data_no1 (n : Nat) (a : Option Addr) (c : Nat) (w : World) (hn : n < 2) :
    Calls Tryz.prog 110 #[.slice a n c] w fun e w' => e = .returned (.tuple #[cev 0 none 0 0 none 0 0, .bool false]) ∧ Below w.heap.size w w' := by
  have HG := Lib.hid (fun W => get_no a n c 0 12 W (by omega) (by omega) (by omega) (by omega))
  clear hn
  go_enter Tryz.func110, Tryz.ntmps110
  go_wp2_with fail
  refine (HG.out _).mono ?_
  rintro e w1 ⟨rfl, hb⟩
  have HB := Lib.hid hb
  have o1 := (Own.new w 32 [.int .i64 0, .slice none 0 0, .slice none 0 0]).below hb (by simp)
  have c0 := o1.cell 0
  have c1 := o1.cell 1
  have c2 := o1.cell 2
  have f0 := o1.frozen 0
  have f1 := o1.frozen 1
  have f2 := o1.frozen 2
  simp at c0 c1 c2
  clear hb o1
  go_wp2_with fail
  refine bodyPost_ret (v := .tuple #[cev 0 none 0 0 none 0 0, .bool false]) (by simp [results, Tryz.results110, go_sem, c0, c1, c2]) rfl ⟨rfl, ?_⟩
  exact (((((Below.refl _ _).alloc (Nat.le_refl _) _).trans (HB.out.mono (by simp))).setCell (Nat.le_refl _) _).setCell (Nat.le_refl _) _).setCell (Nat.le_refl _) _

set_option maxHeartbeats 1000000 in
theorem data_no2 (bs : List UInt8) (n : Nat) (a : Option Addr) (c B : Nat) (w : World) (hn : bs.length = n) (h : Ro w B a (u8s bs)) (hB : B ≤ w.heap.size) (hl : n ≤ 1000000) (h2 : 2 ≤ n) (hno : num bs 0 12 / 1024 ≠ 1 ∨ n < num bs 0 12 % 128) :
    Calls Tryz.prog 110 #[.slice a n c] w fun e w' => e = .returned (.tuple #[cev 0 none 0 0 none 0 0, .bool false]) ∧ Below w.heap.size w w' := by
  subst hn
  have HG := Lib.hid (get_yes bs a c B 0 12 (w.alloc (.cells #[.int .i64 0, .slice none 0 0, .slice none 0 0] 32)) (h.below ((Below.refl B w).alloc hB _) (Nat.le_refl _)) (by simp; omega) hl (by omega) (by omega) (by omega) (by omega))
  have hlt := num_lt bs 0 12
  change Hid (Calls _ _ _ _ fun e w' => e = .returned (.tuple #[.int .u64 (num bs 0 12 : Nat), .bool true]) ∧ _) at HG
  clear h
  generalize num bs 0 12 = h at *
  generalize bs.length = n at *
  have HS1 := Lib.hid (fun W => split_z (h : Int) 7 ((h / 128 : Nat) : Int) ((h % 128 : Nat) : Int) W (by omega) (by omega) (by omega) (by omega) (by omega))
  have HS2 := Lib.hid (fun W => split_z ((h / 128 : Nat) : Int) 3 ((h / 1024 : Nat) : Int) ((h / 128 % 8 : Nat) : Int) W (by omega) (by omega) (by omega) (by omega) (by omega))
  change Hid (∀ W, Calls _ _ #[.int .u64 (h : Int), .int .i64 7] _ _) at HS1
  change Hid (∀ W, Calls _ _ #[.int .u64 ((h / 128 : Nat) : Int), .int .i64 3] _ _) at HS2
  have hR : h / 128 < 32 := by omega
  have hs : h % 128 < 128 := by omega
  have hnb : h / 1024 < 4 := by omega
  have hct : h / 128 % 8 < 8 := by omega
  generalize h / 128 % 8 = cnt at *
  generalize h / 128 = R at *
  generalize h % 128 = sz at *
  generalize h / 1024 = nb at *
  have e1 : wrap64 (sz : Int) = (sz : Int) := by unfold wrap64; omega
  have hcase : (((nb : Int) != 1) = true) ∨ (((nb : Int) != 1) = false ∧ (n : Int) < (sz : Int)) := by
    by_cases e : nb = 1
    · exact .inr ⟨by rw [bne_eq_false_iff_eq]; omega, by omega⟩
    · exact .inl (by rw [bne_iff_ne]; omega)
  clear hno hlt
  rcases hcase with hc1 | ⟨hc1, hc2⟩
  all_goals
    go_enter Tryz.func110, Tryz.ntmps110
    go_wp2_with fail
    refine HG.out.mono ?_
    rintro e w1 ⟨rfl, hb⟩
    have HB := Lib.hid hb
    have o1 := (Own.new w 32 [.int .i64 0, .slice none 0 0, .slice none 0 0]).below hb (by simp)
    have c0 := o1.cell 0
    have c1 := o1.cell 1
    have c2 := o1.cell 2
    have f0 := o1.frozen 0
    have f1 := o1.frozen 1
    have f2 := o1.frozen 2
    simp at c0 c1 c2
    clear hb o1
    go_wp2_with fail
    refine (HS1.out _).mono ?_
    rintro e w2 ⟨rfl, rfl⟩
    go_wp2_with fail
    refine (HS2.out _).mono ?_
    rintro e w2 ⟨rfl, rfl⟩
    go_wp2_with fail
    refine bodyPost_ret (v := .tuple #[cev 0 none 0 0 none 0 0, .bool false]) (by simp [results, Tryz.results110, go_sem, c0, c1, c2]) rfl ⟨rfl, ?_⟩
    exact (((((Below.refl _ _).alloc (Nat.le_refl _) _).trans (HB.out.mono (by simp))).drew.drew.setCell (Nat.le_refl _) _).setCell (Nat.le_refl _) _).setCell (Nat.le_refl _) _
end Go.Proofs.YtdpaofedepnnbaaGreat
