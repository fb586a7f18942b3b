/-
  The live question of package message's laws. No claim of its own.
-/
import Derived.Test.YtdpaofedepnnbaaMn
namespace Go.Proofs.Ytdpaofedepnnbaa
open Go.RowKit Go.Deep Go.Shelf
set_option linter.unusedVariables false
set_option linter.unusedSimpArgs false

def alM : MgT := ⟨6, (4, 1), (1, 5), 7, 0, 3, 0, 0, noC, none, 0, none, 0, [], none, 0, [], none, 0, (0, 0), (0, 0), ⟨0, none, 0, [], 0⟩⟩
theorem alM_right : mright alM.x = true := by kernel_rfl
theorem alM_in (w : World) (B : Nat) : MgIn w B alM := ⟨Ro.nil _ _ _, Ro.nil _ _ _, Ro.nil _ _ _, Ro.nil _ _ _, Ro.nil _ _ _, fun s hs => by cases hs⟩
theorem alM_fit : MgFit alM := ⟨by simp [alM, noC], by simp [alM, noC], by simp [alM], by simp [alM], ⟨by simp [alM], (fun s hs => by cases hs)⟩, (fun s hs => by cases hs), (fun s hs => by cases hs)⟩
theorem alM_bytes {cs : List UInt8} (h : IsME alM.x cs) : cs.length = 20 ∧ cs.getD 0 0 = 96 ∧ cs.getD 1 0 = 129 := by
  obtain ⟨cb, lb, h1, h2, h3⟩ := h
  obtain rfl : cb = [] := by
    rcases h1 with ⟨h, _⟩ | ⟨_, h⟩
    · exact absurd h (by decide)
    · exact h
  obtain rfl : lb = [] := by
    rcases h2 with ⟨h, _⟩ | ⟨_, h⟩
    · exact absurd h (by decide)
    · exact h
  have hl := h3.1
  rw [nat_fw_sum, fMg_sum] at hl
  have hl' : cs.length = 20 := by rw [hl]; rfl
  have hr := rd_of_pack (fMg_ok (mright_all alM_right) h1 h2) h3 []
  rw [List.append_nil] at hr
  obtain ⟨r, _⟩ := hr.app
  obtain ⟨q1, q2, q3, q4, _⟩ := r
  simp only [Nat.zero_add, Nat.reduceAdd] at q1 q2 q3 q4
  unfold tkN at q1 q2 q3 q4
  rw [hl'] at q1 q2 q3 q4
  rw [if_pos (by omega)] at q1 q2 q3 q4
  have e1 := num_add cs 0 4 4
  have e2 := num_add cs 8 3 5
  have f1 := num_byte cs 0 8 (by omega)
  have f2 := num_byte cs 8 8 (by omega)
  simp only [Nat.zero_add, Nat.reduceAdd] at e1 e2
  rw [q1, q2] at e1
  rw [q3, q4] at e2
  have g1 : num cs 0 8 = 96 := by rw [e1]; rfl
  have g2 : num cs 8 8 = 129 := by rw [e2]; rfl
  rw [g1] at f1
  rw [g2] at f2
  have b1 := (cs.getD 0 0).toNat_lt
  have b2 := (cs.getD 1 0).toNat_lt
  refine ⟨hl', ?_, ?_⟩
  · apply UInt8.toNat_inj.1
    have : (cs.getD 0 0).toNat = 96 := by
      simp only [Nat.zero_div, Nat.zero_mod, Nat.sub_zero, Nat.sub_self, Nat.pow_zero, Nat.div_one] at f1
      omega
    exact this
  · apply UInt8.toNat_inj.1
    have : (cs.getD 1 0).toNat = 129 := by
      have e : 8 / 8 = 1 := rfl
      rw [e] at f2
      simp only [Nat.mod_self, Nat.sub_zero, Nat.sub_self, Nat.pow_zero, Nat.div_one] at f2
      omega
    exact this

theorem Own.u8at {w : World} {g : Nat} {t : TypeId} {cs : List UInt8} (h : Own w g t (u8s cs)) (i : Nat) (hi : i < cs.length) : w.cell? ⟨g, i, none⟩ = some (.int .u8 ((cs.getD i 0).toNat : Nat)) := by
  rw [h.cell i]
  simp [u8s, List.getD, hi]
set_option maxHeartbeats 8000000 in
set_option maxRecDepth 100000 in
theorem alive10_any (w : World) : Calls Try.prog 32 #[] w fun e w' => e = .returned (.bool true) ∧ Below w.heap.size w w' := by
  have HEN := Lib.hid (fun (W : World) (hW : 0 ≤ W.heap.size) => menc_yes alM 0 W (alM_in W 0) hW alM_fit alM_right)
  have HAN := Lib.hid (fun (W : World) => answer_any alM 84 W)
  have HBY := Lib.hid (fun (cs : List UInt8) (h : IsME alM.x cs) => alM_bytes h)
  have HZ : Hid (Own (w.alloc (.cells #[.int .i64 0, .int .i64 0, .int .i64 0, .int .i64 0, .int .i64 0, .int .i64 0, .int .i64 0, .int .u64 0, .int .u64 0, .int .i64 0, .int .i64 0, .slice none 0 0, .slice none 0 0, .slice none 0 0, .slice none 0 0, .int .i64 0, .int .i64 0, .int .i64 0, .int .i64 0, .int .u64 0, .slice none 0 0, .int .i64 0] 59)) w.heap.size 59 zmT.cs) := Lib.hid (Own.new w 59 zmT.cs)
  simp only [MgT.val] at HEN
  go_enter Try.func32, Try.ntmps32
  go_wp2_with (refine wpList_storeMg rfl (.tmp 1) (.tmp 7) rfl w.heap.size rfl alM rfl zmT.cs HZ.out rfl ?_)
  intro w1 ho hc
  have HO1 := Lib.hid ho
  have HB1 : Hid (Below w.heap.size w w1) := Lib.hid (((Chg.refl [] w).alloc _).then hc (fun x hx => by simp only [List.mem_singleton] at hx; subst hx; exact .inr (Nat.le_refl _))).low
  clear ho hc
  go_wp2_with (refine wpList_loadMg rfl (.tmp 1) rfl w.heap.size rfl alM HO1.out ?_)
  refine (HEN.out w1 (Nat.zero_le _)).mono ?_
  rintro e w2 ⟨g, cs, rfl, hg, he, ho, hb⟩
  obtain ⟨y1, y2, y3⟩ := HBY.out cs he
  have HCS := Lib.hid (And.intro (And.intro y1 (And.intro y2 y3)) ho)
  have HB2 := Lib.hid (HB1.out.trans (hb.mono HB1.out.size))
  have HO2 := Lib.hid (HO1.out.below hb HO1.out.lt)
  clear hg he ho hb y2 y3
  rw [y1]
  clear y1
  go_wp2_with (refine wpList_loadMg rfl (.tmp 1) rfl w.heap.size rfl alM HO2.out ?_)
  refine (HAN.out w2).mono ?_
  rintro e w3 ⟨rfl, hb⟩
  have HB3 := Lib.hid (HB2.out.trans (hb.mono HB2.out.size))
  have HG3 := Lib.hid (HCS.out.2.below hb HCS.out.2.lt)
  have HZ3 : Hid (Own (w3.alloc (.cells #[.int .i64 0, .int .i64 0, .int .i64 0, .int .i64 0, .int .i64 0, .int .i64 0, .int .i64 0, .int .u64 0, .int .u64 0, .int .i64 0, .int .i64 0, .slice none 0 0, .slice none 0 0, .slice none 0 0, .slice none 0 0, .int .i64 0, .int .i64 0, .int .i64 0, .int .i64 0, .int .u64 0, .slice none 0 0, .int .i64 0] 59)) w3.heap.size 59 zmT.cs) := Lib.hid (Own.new w3 59 zmT.cs)
  clear hb
  go_wp2_with (refine wpList_storeMg rfl (.tmp 4) (.tmp 14) rfl w3.heap.size rfl (ansT alM 84) rfl zmT.cs HZ3.out rfl ?_)
  intro w4 ho hc
  have HO4 := Lib.hid ho
  have hc4 : Chg [] w3 w4 := ((Chg.refl [] w3).alloc _).then hc (fun x hx => by simp only [List.mem_singleton] at hx; subst hx; exact .inr (Nat.le_refl _))
  have HB4 : Hid (Below w.heap.size w w4) := Lib.hid (HB3.out.trans (hc4.low.mono HB3.out.size))
  have hg4 := HG3.out.chg hc4 (by simp)
  have d0 := hg4.u8at 0 (by rw [HCS.out.1.1]; omega)
  have d1 := hg4.u8at 1 (by rw [HCS.out.1.1]; omega)
  rw [HCS.out.1.2.1] at d0
  rw [HCS.out.1.2.2] at d1
  have a0 := HO4.out.cell 0
  have a3 := HO4.out.cell 3
  have a4 := HO4.out.cell 4
  have a6 := HO4.out.cell 6
  have a9 := HO4.out.cell 9
  have hz := HO4.out.lt
  have hgl := hg4.lt
  simp [MgT.cs, ansT, alM] at a0 a3 a4 a6 a9
  replace d0 : w4.cell? ⟨g, 0, none⟩ = some (.int .u8 96) := d0
  replace d1 : w4.cell? ⟨g, 1, none⟩ = some (.int .u8 129) := d1
  clear ho hc hc4 hg4
  go_wp2_with fail
  go_ret
  exact ⟨rfl, HB4.out⟩
end Go.Proofs.Ytdpaofedepnnbaa
