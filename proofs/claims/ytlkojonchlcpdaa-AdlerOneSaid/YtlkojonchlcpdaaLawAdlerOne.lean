/-
  The statement AdlerOne: the walk of its Go text, by the contracts of what it calls.
-/
import Derived.Test.YtlkojonchlcpdaaArgs
import Derived.Test.YtlkojonchlcpdaaAlv
import Derived.Deep.RegionHeld3
import Derived.Deep.AppendLies
namespace Go.Proofs.Ytlkojonchlcpdaa
open Go.RowKit Go.Deep

theorem Try.info_u8 : (Try.prog.info? 5).map (fun i => (i.zero, i.size, i.bytes)) = some (some (.int .u8 0), 1, 1) := by kernel_rfl
theorem u8s_oneCell (bs : List UInt8) : ∀ v ∈ u8s bs, v.oneCell' = true := by
  intro v hv
  simp only [u8s, List.mem_map] at hv
  obtain ⟨x, _, rfl⟩ := hv
  rfl

set_option maxRecDepth 100000 in
set_option maxHeartbeats 4000000 in
theorem adlerOne_walk (a0 : Option Addr) (len cap : Nat) (at_ : Int) (y : UInt8) (bs : List UInt8) (w : World) (hlen : bs.length = len) (hcap : len ≤ cap)
    (h0 : Ro w w.heap.size a0 (u8s bs)) (ha0 : -9223372036854775808 ≤ at_) (ha1 : at_ ≤ 9223372036854775807) (hc0 : len ≤ 9223372036854775807) :
    Calls Try.prog 6 #[.slice a0 len cap, .int .i64 at_, .int .u8 (y.toNat : Int)] w fun e w' => e = .returned (.bool true) ∧ Below w.heap.size w w' := by
  by_cases g0 : len = 0
  · subst g0
    go_enter Try.func6, Try.ntmps6
    go_wp2_with fail
    refine (alive_any _).mono ?_
    rintro e w' ⟨rfl, hb⟩
    go_wp2_with fail
    go_ret
    exact ⟨rfl, hb⟩
  by_cases g1 : 4000 < len
  · have g1' : (4000 : Int) < (len : Int) := by omega
    have g2 : ((len : Int) == 0) = false := by rw [beq_eq_false_iff_ne]; omega
    go_enter Try.func6, Try.ntmps6
    go_wp2_with fail
    refine (alive_any _).mono ?_
    rintro e w' ⟨rfl, hb⟩
    go_wp2_with fail
    go_ret
    exact ⟨rfl, hb⟩
  have d1 : decide ((4000 : Int) < (len : Int)) = false := decide_eq_false (by omega)
  have d2 : ((len : Int) == 0) = false := by rw [beq_eq_false_iff_ne]; omega
  have HL := Lib.hid hlen
  have hlit := Lst.lit w w.heap.size 5 #[] (Nat.le_refl _) (by simp)
  have happ := h0.keep fun p hp => World.cell?_alloc_lt w (.cells #[] 5) p hp
  have hbA : Below w.heap.size w (w.alloc (.cells #[] 5)) := (Below.refl _ _).alloc (Nat.le_refl _) _
  clear hlen
  -- the index
  obtain ⟨m, hm1, hm2⟩ : ∃ m : Nat, m ≤ 9223372036854775807 ∧ (m : Int) = if at_ < 0 then -(at_ + 1) else at_ := ⟨(if at_ < 0 then -(at_ + 1) else at_).toNat, by split <;> omega, by split <;> omega⟩
  obtain ⟨j, hj, hj2⟩ : ∃ j : Nat, j < len ∧ (m : Int) % (len : Int) = (j : Int) := ⟨m % len, Nat.mod_lt _ (by omega), by simp⟩
  have hgoal : ∀ at2 : Int, at2 = at_ → (at2 < 0 ∨ 0 ≤ at2) → Calls Try.prog 6 #[.slice a0 len cap, .int .i64 at2, .int .u8 (y.toNat : Int)] w fun e w' => e = .returned (.bool true) ∧ Below w.heap.size w w' := by
    intro at2 he hs
    by_cases hat : at2 < 0
    all_goals first
     | (
      have hp : at2 < 0 := hat
      have hm3 : (m : Int) = -(at2 + 1) := by rw [he] at hat ⊢; rw [if_pos hat] at hm2; exact hm2
      have HM := Lib.hid hm3
      rw [← he] at ha0 ha1
      clear hm2 hm3 he hs
      go_enter Try.func6, Try.ntmps6
      go_wp2_with (at_builtin; refine wpList_appB rfl (.tmp 22) (.tmp 23) 22 rfl w.heap.size 5 (.int .u8 0) 1 Try.underlying22 Try.info_u8 rfl _ [] rfl hlit a0 w.heap.size len cap (u8s bs) rfl (by simpa using HL.out) happ (u8s_oneCell _) (by simp; omega) (by simp; omega) w.heap.size w hbA (Nat.le_refl _) (by simp) ?_)
      intro v1 w1 hown1 hbel1 hsz1
      rw [← HM.out])
     | (
      obtain rfl : (m : Int) = at2 := by rw [he] at hat ⊢; rw [if_neg hat] at hm2; exact hm2
      rw [← he] at ha0 ha1
      clear hm2 he hs
      go_enter Try.func6, Try.ntmps6
      go_wp2_with (at_builtin; refine wpList_appB rfl (.tmp 22) (.tmp 23) 22 rfl w.heap.size 5 (.int .u8 0) 1 Try.underlying22 Try.info_u8 rfl _ [] rfl hlit a0 w.heap.size len cap (u8s bs) rfl (by simpa using HL.out) happ (u8s_oneCell _) (by simp; omega) (by simp; omega) w.heap.size w hbA (Nat.le_refl _) (by simp) ?_)
      intro v1 w1 hown1 hbel1 hsz1)
    all_goals
      have ho : w1.ownsRow w.heap.size 5 1 v1 len (u8s bs) := by
        have := hown1.out
        unfold Lst at this
        simp only [List.nil_append, u8s_length, HL.out] at this
        exact this
      obtain ⟨g, c1, rfl, hgb, hgl⟩ := ho.form (by omega)
      have hcg := ho.cellAt j (by omega)
      have hfg := ho.frozenAt j
      rw [show (u8s bs)[j]? = some (.int .u8 ((bs.getD j 0).toNat : Nat)) by simp [u8s, List.getD, show j < bs.length by rw [HL.out]; exact hj]] at hcg
      have hst := ho.stored j (.int .u8 (y.toNat : Int))
      have hX := hbel1.setCell (p := ⟨g, j, none⟩) hgb (.int .u8 (y.toNat : Int))
      have HST := Lib.hid hst
      have HX := Lib.hid hX
      clear ho hown1 hst hX hlit happ hbA
      have hji : (j : Int) < (len : Int) := by omega
      go_wp2_with fail
      obtain ⟨X, hXX⟩ : ∃ X, w1.setCell ⟨g, j, none⟩ (.int .u8 (y.toNat : Int)) = X := ⟨_, rfl⟩
      have hbX : Below w.heap.size w X := by rw [← hXX]; exact HX.out
      have hrob : Ro X w.heap.size a0 (u8s bs) := h0.below hbX (Nat.le_refl _)
      have hroc : Ro X X.heap.size (some ⟨g, 0, none⟩) (u8s (bs.set j y)) := by
        have hh := HST.out.1
        rw [hXX] at hh
        refine .inr ⟨g, 0, rfl, (World.ownsRow.lt hh g rfl).2, fun i hi => ?_⟩
        rw [u8s_length, List.length_set, HL.out] at hi
        rw [Nat.zero_add, hh.cellAt i (by omega)]
        simp only [u8s, List.map_set, List.getD]
        rw [List.getElem?_eq_getElem (by simp; have := HL.out; omega)]
        rfl
      rw [hXX]
      obtain ⟨b0, off, rfl, hb0, hc⟩ := hrob.u8 (by have := HL.out; omega)
      have hcell := hc j (by have := HL.out; omega)
      have hb0X : b0 < X.heap.size := by have := hbX.size; omega
      have hS1 : ∀ W, Below X.heap.size X W → Calls Try.prog 10 #[.slice (some ⟨b0, off, none⟩) len cap] W fun e w' => e = .returned (.int .u32 (sumN bs : Nat)) ∧ Below W.heap.size W w' := fun W hW =>
        sum_any bs len _ cap W HL.out ((hrob.mono hbX.size).below hW (Nat.le_refl _) |>.mono hW.size) (by omega)
      have hS2 : ∀ W, Below X.heap.size X W → Calls Try.prog 10 #[.slice (some ⟨g, 0, none⟩) len c1] W fun e w' => e = .returned (.int .u32 (sumN (bs.set j y) : Nat)) ∧ Below W.heap.size W w' := fun W hW =>
        sum_any (bs.set j y) len _ c1 W (by rw [List.length_set, HL.out]) ((hroc.below hW (Nat.le_refl _)).mono hW.size) (by omega)
      have hone := sumN_one bs j y (by have := HL.out; omega)
      have hyz : y = bs.getD j 0 ↔ (y.toNat : Int) = ((bs.getD j 0).toNat : Int) := by rw [← UInt8.toNat_inj]; omega
      rw [hyz] at hone
      generalize sumN bs = s1 at hS1 hone
      generalize sumN (bs.set j y) = s2 at hS2 hone
      generalize bs.getD j 0 = z at hcell hone
      have heq : ∃ t : Bool, ((s1 : Int) == (s2 : Int)) = t ∧ ((y.toNat : Int) == (z.toNat : Int)) = t := by
        by_cases h : s1 = s2
        · exact ⟨true, by rw [beq_iff_eq]; omega, by rw [beq_iff_eq]; exact hone.1 h⟩
        · exact ⟨false, by rw [beq_eq_false_iff_ne]; omega, by rw [beq_eq_false_iff_ne]; exact fun h2 => h (hone.2 h2)⟩
      obtain ⟨t, ht1, ht2⟩ := heq
      have HS1 := Lib.hid hS1
      have HS2 := Lib.hid hS2
      have HBX := Lib.hid hbX
      clear hS1 hS2 hbX hrob hroc hXX HST HX hc hone hyz hcg hfg hbel1 hsz1
      have hj0 : (0 : Int) ≤ (j : Int) := by omega
      have hj3 : (m : Int).tmod (len : Int) = (j : Int) := by rw [Int.tmod_eq_emod_of_nonneg (by omega)]; exact hj2
      have hlen0 : ¬ (len : Int) = 0 := by omega
      cases t
      all_goals
        go_region_held3 (fun w' => w'.cell? ⟨b0, off + j, none⟩ = some (.int .u8 (z.toNat : Int)) ∧ Below X.heap.size X w')
          (first
            | assumption
            | exact ⟨hcell, (Below.refl _ _).drew⟩
            | (have hH := ‹World.cell? _ ⟨b0, off + j, none⟩ = _ ∧ _›; exact ⟨(hb9.cell (Nat.lt_of_lt_of_le hb0X hH.2.size)).trans hH.1, hH.2.trans (hb9.mono hH.2.size)⟩))
          (first
            | (go_at_call 9; refine (alive_any _).mono ?_; rintro e w9 ⟨rfl, hb9⟩)
            | (go_at_call_of 10 b0; have hH := ‹World.cell? _ ⟨b0, off + j, none⟩ = _ ∧ _›; refine (HS1.out _ hH.2).mono ?_; clear hH; rintro e w9 ⟨rfl, hb9⟩)
            | (go_at_call_of 10 g; have hH := ‹World.cell? _ ⟨b0, off + j, none⟩ = _ ∧ _›; refine (HS2.out _ hH.2).mono ?_; clear hH; rintro e w9 ⟨rfl, hb9⟩))
        have hH := ‹World.cell? w9 ⟨b0, off + j, none⟩ = _ ∧ _›
        have HH := Lib.hid hH
        go_wp2_with fail
        go_ret
        exact ⟨rfl, HBX.out.trans (HH.out.2.mono HBX.out.size)⟩
  exact hgoal at_ rfl (by omega)

theorem adlerOne_row (w : World) {a0 : Option Addr} {len cap : Nat} {at_ y : Int} {zs : List Int} (w0 : IsRow .u8 w a0 len cap zs) (w1 : (Lit.int .i64 at_).wf = true) (w2 : (Lit.int .u8 y).wf = true) :
    Calls Try.prog 6 #[.slice a0 len cap, .int .i64 at_, .int .u8 y] w fun e w' => e = .returned (.bool true) ∧ Below w.heap.size w w' := by
  obtain ⟨bs, h0, hm, _, hr⟩ := w0.u8s
  have ha := bounds_i64 w1
  have hy := bounds_u8 w2
  have e : y = ((UInt8.ofNat y.toNat).toNat : Int) := by
    rw [show (UInt8.ofNat y.toNat).toNat = y.toNat by simp; omega]
    omega
  rw [e]
  exact adlerOne_walk a0 len cap at_ (UInt8.ofNat y.toNat) bs w h0 hm hr ha.1 ha.2 w0.len_le
end Go.Proofs.Ytlkojonchlcpdaa
