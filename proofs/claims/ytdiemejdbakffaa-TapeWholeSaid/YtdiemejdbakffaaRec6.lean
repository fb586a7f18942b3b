/-
  Contract of the law's records: clones of a tape's records, in a slice of the law's own. No claim of their own.
-/
import Derived.Test.YtdiemejdbakffaaSt6
namespace Go.Proofs.Ytdiemejdbakffaa
open Go.RowKit Go.Deep Go.Shelf Go.Maps
set_option linter.unusedVariables false
set_option linter.unusedSimpArgs false

theorem infoSl : (Try.prog.info? 35).map (fun i => (i.zero, i.size, i.bytes)) = some (some (.slice none 0 0), 1, 24) := by kernel_rfl
theorem ne_sl_u8 : 35 ≠ 5 := by decide
/-- a slice of slices of bytes of the law's own -/
structure RL (w : World) (base : Nat) (v : Value) (xs : List SB) : Prop where
  lst : Lst w 0 35 v (xs.map SB.val)
  low : ∀ x ∈ bl v, base ≤ x
  el : ∀ x ∈ xs, Lst w base 5 x.val (u8s x.bs)
theorem RL.nil (w : World) (base : Nat) : RL w base (.slice none 0 0) [] := ⟨Lst.nil _ _ _, by simp [bl, Value.ownBlock], by simp⟩
theorem RL.kept {w w' : World} {base : Nat} {v : Value} {xs : List SB} (h : RL w base v xs) (hc : Chg [] w w') : RL w' base v xs := ⟨h.lst.kept0 hc, h.low, fun x hx => (h.el x hx).kept0 hc⟩
theorem RL.chg {w w' : World} {base : Nat} {v : Value} {xs : List SB} {l : List Nat} (h : RL w base v xs) (hc : Chg l w w') (hl : ∀ x ∈ l, x < base) : RL w' base v xs :=
  ⟨h.lst.chg hc (fun g hg hm => by have := h.low g (mem_bl.2 hg); have := hl g hm; omega), h.low, fun x hx => (h.el x hx).chg hc (fun g hg hm => by have := ((h.el x hx).lt g hg).1; have := hl g hm; omega)⟩
theorem RL.base {w : World} {base B : Nat} {v : Value} {xs : List SB} (h : RL w base v xs) (hb : B ≤ base) : RL w B v xs := ⟨h.lst, fun x hx => Nat.le_trans hb (h.low x hx), fun x hx => (h.el x hx).base hb⟩
theorem RL.form {w : World} {base : Nat} {v : Value} {xs : List SB} (h : RL w base v xs) : ∃ a c, v = .slice a xs.length c := by
  obtain ⟨a, c, h1, _⟩ := h.lst.form
  rw [List.length_map] at h1
  exact ⟨a, c, h1⟩
theorem RL.rom {w : World} {base : Nat} {a : Option Addr} {n c : Nat} {xs : List SB} (h : RL w base (.slice a n c) xs) (hl : xs.length ≤ 9223372036854775807) (hx : ∀ x ∈ xs, x.bs.length ≤ 9223372036854775807) : RoM w a xs := by
  obtain ⟨a1, c1, h1, h2, _⟩ := h.lst.form
  injection h1 with h3 h4 h5
  subst h3
  refine ⟨h2, fun x hx => ?_, hl, hx⟩
  obtain ⟨a2, c2, h6, h7, _⟩ := (h.el x hx).form
  unfold SB.val at h6
  injection h6 with h8
  subst h8
  exact h7
theorem RL.more {w w' : World} {base : Nat} {v v' : Value} {xs : List SB} {x : SB} (h : RL w base v xs) (hx : Lst w base 5 x.val (u8s x.bs)) (hb : base ≤ w.heap.size) (k : AppK w w' 35 v v' (xs.map SB.val) [x.val]) : RL w' base v' (xs ++ [x]) ∧ Chg (bl v) w w' := by
  have hy : ∀ y : SB, Lst w base 5 y.val (u8s y.bs) → Lst w' base 5 y.val (u8s y.bs) := fun y hy => hy.chg k.chg (fun g hg hm => (hy.base (Nat.zero_le _)).off h.lst (Ne.symm ne_sl_u8) g hg hm)
  refine ⟨⟨by rw [List.map_append]; exact k.lst, fun g hg => ?_, fun y hm => ?_⟩, k.chg⟩
  · rcases k.bl g hg with h1 | h1
    · exact h.low g h1
    · omega
  · rcases List.mem_append.1 hm with hm | hm
    · exact hy y (h.el y hm)
    · simp only [List.mem_cons, List.mem_nil_iff, or_false] at hm
      subst hm
      exact hy y hx
section
variable {w0 w : World} {N : List Nat} {q p g b n : Nat} {S : TS}
theorem Tz.few (t : Tz w0 w N q p g b n S) : S.L.length ≤ 1000000 := by
  obtain ⟨l, t⟩ := t
  obtain ⟨_, _, _, _, tv⟩ := t.td.tp
  have := tv.len_le t.td.dsk.top
  omega
theorem Tz.okR (t : Tz w0 w N q p g b n S) : okL S.L := by
  obtain ⟨l, t⟩ := t
  obtain ⟨_, _, _, _, tv⟩ := t.td.tp
  exact tv.ok
set_option maxRecDepth 100000 in
theorem records_Z (t : Tz w0 w N q p g b n S) : Calls Try.prog 13 #[.pointer (some ⟨q, 0, none⟩)] w fun e w' => ∃ a xs c, e = .returned (.slice a xs.length c) ∧ Hid (RL w' w.heap.size (.slice a xs.length c) xs ∧ recs xs = S.L) ∧ Chg [] w w' := by
  have HT := Lib.hid t
  have hfew := t.few
  obtain ⟨M, HM⟩ : ∃ M, Hid (S.L.length = M) := ⟨_, Lib.hid rfl⟩
  rw [HM.out] at hfew
  clear t
  go_enter Try.func13, Try.ntmps13
  go_wp2_with fail
  go_loopw [3, 4] (fun v i wr => ∃ k : Nat, k ≤ M ∧ i = .int .i64 k ∧ ∃ xs, Hid (RL wr w.heap.size v xs ∧ recs xs = S.L.take k) ∧ Hid (Chg [] w wr)) (fun _ i _ => M - (intOf i).toNat)
  case atStart => exact ⟨0, Nat.zero_le _, rfl, [], Lib.hid ⟨RL.nil _ _, by simp [recs]⟩, Lib.hid (Chg.refl _ _)⟩
  case round =>
    obtain ⟨k, hk, rfl, xs, HL, HC⟩ := hrel
    have h1 := len_Z (HT.out.kept HC.out)
    rw [HM.out] at h1
    have H1 := Lib.hid h1
    clear h1
    by_cases hlt : k < M
    · have hd1 : decide (k < M) = true := by simpa using hlt
      have hd2 : (k : Int) < (M : Int) := by omega
      have hkL : k < S.L.length := by rw [HM.out]; exact hlt
      go_wp2_with fail
      refine H1.out.mono ?_
      rintro e w1 ⟨rfl, hc1⟩
      have HC1 := Lib.hid (HC.out.trans hc1)
      have HL1 := Lib.hid (And.intro (HL.out.1.kept hc1) HL.out.2)
      have H2 := Lib.hid (read_Z (HT.out.kept HC1.out) k hkL)
      clear H1 HL hc1
      go_wp2_with fail
      refine H2.out.mono ?_
      rintro e w2 ⟨x, rfl, hx, hc2⟩
      have HC2 := Lib.hid (HC1.out.trans hc2)
      have HL2 := Lib.hid (And.intro (HL1.out.1.kept hc2) HL1.out.2)
      obtain ⟨ax, cx, rfl⟩ := hx.out.sl8
      have HX := Lib.hid (hx.out.base HC1.out.size)
      have hlen : xs.length = k := by
        have h3 := congrArg List.length HL2.out.2
        rw [recs_len, List.length_take] at h3
        omega
      have HT3 := Lib.hid (show S.L.take (k + 1) = S.L.take k ++ [S.L[k]] from take_snoc S.L k hkL)
      generalize S.L[k] = r at *
      have HLN := Lib.hid hlen
      clear H2 HL1 hx hc2 HC1 hlen hkL
      go_wp2_with (first
        | (at_builtin; refine wpList_appK1 rfl _ _ 22 rfl 35 (.slice none 0 0) 24 Try.underlying22 infoSl rfl _ rfl _ _ (by rfl) HL2.out.1.lst _ (by rfl) (by simp) (by rw [List.length_map, HLN.out]; omega) (by rw [List.length_map, HLN.out]; omega) ?_; intro v4 w4 H4)
        | fail)
      have hm := HL2.out.1.more (x := ⟨ax, r, cx⟩) HX.out HC2.out.size H4.out
      go_roundw
      case rel => exact ⟨k + 1, by omega, by go_num, xs ++ [⟨ax, r, cx⟩], Lib.hid ⟨hm.1, by rw [recs_snoc, HL2.out.2, HT3.out]⟩, Lib.hid (HC2.out.then hm.2 (fun g hg => .inr (HL2.out.1.low g hg)))⟩
      case measure => simp [intOf]; omega
    · have hd1 : decide (k < M) = false := by simpa using hlt
      have hkM : k = M := by omega
      have HLT := Lib.hid (show recs xs = S.L by have h3 := HL.out.2; rw [hkM, ← HM.out, List.take_length] at h3; exact h3)
      clear hkM
      obtain ⟨a, c, rfl⟩ := HL.out.1.form
      go_wp2_with fail
      refine H1.out.mono ?_
      rintro e w1 ⟨rfl, hc1⟩
      have HF := Lib.hid (And.intro (HL.out.1.kept hc1) HLT.out)
      have HC1 := Lib.hid (HC.out.trans hc1)
      clear H1 HL hc1 HLT
      go_wp2_with fail
      go_ret
      exact ⟨a, xs, c, rfl, HF, HC1.out⟩
end
end Go.Proofs.Ytdiemejdbakffaa
