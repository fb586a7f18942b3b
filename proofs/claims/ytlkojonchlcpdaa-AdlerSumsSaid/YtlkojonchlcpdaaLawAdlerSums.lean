/-
  The statement AdlerSums: the walk of its Go text, by the contracts of what it calls.
-/
import Derived.Test.YtlkojonchlcpdaaLawAdlerOne
import Derived.Laws.IdiomStrings
import Derived.Laws.BytesString
namespace Go.Proofs.Ytlkojonchlcpdaa
open Go.RowKit Go.Deep

theorem conv_ro {w : World} {B len c : Nat} {a : Option Addr} {bs : List UInt8} (h : Ro w B a (u8s bs)) (hl : bs.length = len) :
    (convert 22 9 (.slice a len c)).run Try.prog w = .ok (.string ⟨bs.toArray⟩) w := by
  subst hl
  by_cases h0 : 0 < bs.length
  · obtain ⟨b, off, rfl, hb, hc⟩ := h.u8 h0
    exact run_convert_bytes_back w _ _ _ _ _ bs Try.underlying22 Try.underlying5 Try.underlying9 fun j hj => by
      rw [add_off, hc j hj]
      simp [List.getD, hj]
  · have e : bs = [] := List.eq_nil_of_length_eq_zero (by omega)
    subst e
    rw [run_convert_bytes_string w _ _ _ a _ c Try.underlying22 Try.underlying5 Try.underlying9]
    cases a <;> simp [Conv.bytesToString, loadCells]
    all_goals rfl

set_option maxRecDepth 100000 in
set_option maxHeartbeats 8000000 in
theorem adlerSums_walk (a0 : Option Addr) (len0 cap0 : Nat) (p q : Nat) (n : Int) (bs : List UInt8) (w : World) (hl0 : bs.length = len0)
    (h0 : Ro w w.heap.size a0 (u8s bs)) (hn0 : -9223372036854775808 ≤ n) (hn1 : n ≤ 9223372036854775807) (hc0 : len0 ≤ 9223372036854775807) (hp : p < 4294967296) (hq : q < 4294967296) :
    Calls Try.prog 3 #[.slice a0 len0 cap0, .agg #[.int .u32 (p : Int), .int .u32 (q : Int)], .int .i64 n] w fun e w' => e = .returned (.bool true) ∧ Below w.heap.size w w' := by
  have hbx0 : Below w.heap.size w (w.alloc (.cells #[.int .u32 (p : Int), .int .u32 (q : Int)] 24)) := (Below.refl _ _).alloc (Nat.le_refl _) _
  by_cases g0 : 4000 < len0
  · have g0' : (4000 : Int) < (len0 : Int) := by omega
    have HBX := Lib.hid hbx0
    clear hbx0
    go_enter Try.func3, Try.ntmps3
    go_wp2_with fail
    refine (alive_any _).mono ?_
    rintro e w' ⟨rfl, hb⟩
    go_wp2_with fail
    go_ret
    exact ⟨rfl, HBX.out.trans (hb.mono (by simp))⟩
  have hwb : Ro (w.alloc (.cells #[.int .u32 (p : Int), .int .u32 (q : Int)] 24)) w.heap.size a0 (u8s bs) := h0.below hbx0 (Nat.le_refl _)
  have hcb0 : (w.alloc (.cells #[.int .u32 (p : Int), .int .u32 (q : Int)] 24)).cell? ⟨w.heap.size, 0, none⟩ = some (.int .u32 (p : Int)) := by rw [(Own.new w 24 [.int .u32 (p : Int), .int .u32 (q : Int)]).cell 0]; rfl
  have hcb1 : (w.alloc (.cells #[.int .u32 (p : Int), .int .u32 (q : Int)] 24)).cell? ⟨w.heap.size, 1, none⟩ = some (.int .u32 (q : Int)) := by rw [(Own.new w 24 [.int .u32 (p : Int), .int .u32 (q : Int)]).cell 1]; rfl
  have hszb : (w.alloc (.cells #[.int .u32 (p : Int), .int .u32 (q : Int)] 24)).heap.size = w.heap.size + 1 := by simp
  have HL0 := Lib.hid hl0
  have HBX := Lib.hid hbx0
  clear hl0 hbx0
  obtain ⟨wb, hwbe⟩ : ∃ wb, wb = w.alloc (.cells #[.int .u32 (p : Int), .int .u32 (q : Int)] 24) := ⟨_, rfl⟩
  have hlit := Lst.lit wb wb.heap.size 5 #[] (Nat.le_refl _) (by simp)
  have happ : Ro (wb.alloc (.cells #[] 5)) w.heap.size a0 (u8s bs) := by rw [hwbe]; exact hwb.keep fun p hp => World.cell?_alloc_lt _ _ p (by simp; omega)
  have hbA : Below wb.heap.size wb (wb.alloc (.cells #[] 5)) := (Below.refl _ _).alloc (Nat.le_refl _) _
  rw [← hwbe] at hwb hcb0 hcb1 hszb HBX
  rw [hszb] at hlit hbA
  rw [hwbe] at hlit happ hbA
  have HWB := Lib.hid hwb
  have HC0 := Lib.hid hcb0
  have HC1 := Lib.hid hcb1
  have HSZ := Lib.hid hszb
  have HE := Lib.hid hwbe
  clear hwb hcb0 hcb1 hszb hwbe
  go_enter Try.func3, Try.ntmps3
  go_wp2_with (at_builtin; refine wpList_appB rfl (.tmp 14) (.tmp 15) 22 rfl (w.heap.size + 1) 5 (.int .u8 0) 1 Try.underlying22 Try.info_u8 rfl _ [] rfl hlit a0 w.heap.size len0 cap0 (u8s bs) rfl (by simpa using HL0.out) happ (u8s_oneCell _) (by simp; omega) (by simp; omega) (w.heap.size + 1) _ hbA (Nat.le_refl _) (by simp) ?_)
  intro v2 w2 hown2 hbel2 hsz2
  rw [← HE.out] at hbel2
  clear hlit happ hbA
  go_wp2_with (at_builtin; refine wpList_app1 rfl (.tmp 16) (.tmp 17) 22 rfl (w.heap.size + 1) 5 (.int .u8 0) 1 Try.underlying22 Try.info_u8 rfl (.int .u8 7) rfl v2 (u8s bs) rfl hown2.out rfl (by have := HL0.out; simp; omega) (by have := HL0.out; simp; omega) (w.heap.size + 1) wb hbel2 (Nat.le_refl _) (by have := hbel2.size; have := HSZ.out; omega) ?_)
  intro v3 X hown3 hbel3 hsz3
  obtain ⟨a3, c3, hve, hro3, hc3, _⟩ := hown3.out.form
  rw [show (u8s bs ++ [Value.int .u8 7]).length = len0 + 1 by rw [List.length_append, u8s_length, HL0.out]; rfl] at hve hc3
  subst hve
  have hro3' : Ro X X.heap.size a3 (u8s bs) := by
    have := hro3.take len0
    rwa [List.take_append_of_le_length (by rw [u8s_length, HL0.out]; exact Nat.le_refl _), List.take_of_length_le (by rw [u8s_length, HL0.out]; exact Nat.le_refl _)] at this
  have hb3 := HWB.out.below hbel3 (Nat.le_succ _)
  have hx0 := cell_keep hbel3 HC0.out (Nat.lt_succ_self _)
  have hx1 := cell_keep hbel3 HC1.out (Nat.lt_succ_self _)
  have hs3 : w.heap.size + 1 ≤ X.heap.size := by have := hbel3.size; have := HSZ.out; omega
  have hF3 : Below w.heap.size w X := HBX.out.trans (hbel3.mono (Nat.le_succ _))
  have HF3 := Lib.hid hF3
  clear hown2 hbel2 hsz2 hown3 hro3 hbel3 hsz3 hF3
  obtain ⟨x, y, hx256, hy256, hd1, hd2⟩ : ∃ x y : Nat, x < 256 ∧ y < 256 ∧ (p : Int) % 256 = (x : Int) ∧ (q : Int) / 256 % 256 = (y : Int) := ⟨p % 256, q / 256 % 256, by omega, by omega, by omega, by omega⟩
  go_wp2_with fail
  clear hd1 hd2
  have hro0 : Ro X X.heap.size a0 (u8s bs) := hb3.mono (by omega)
  have k1 : ∀ W, Below X.heap.size X W → Calls Try.prog 10 #[.slice a3 len0 c3] W fun e w' => e = .returned (.int .u32 (sumN bs : Nat)) ∧ Below W.heap.size W w' := fun W hW =>
    sum_any bs len0 _ c3 W HL0.out ((hro3'.below hW (Nat.le_refl _)).mono hW.size) (by omega)
  have k2 : ∀ W, Below X.heap.size X W → Calls Try.prog 11 #[.slice a0 len0 cap0] W fun e w' => e = .returned (.int .u32 (sumN bs : Nat)) ∧ W = w' := fun W hW =>
    refSum_any bs len0 _ cap0 X.heap.size W HL0.out (hro0.below hW (Nat.le_refl _)) (by omega)
  have k3 : ∀ W, Below X.heap.size X W → Calls Try.prog 12 #[.int .u32 (p : Int), .slice a3 len0 c3] W fun e w' => e = .returned (.int .u32 (moreN p bs : Nat)) ∧ Below W.heap.size W w' := fun W hW =>
    more_any p bs len0 _ c3 W HL0.out ((hro3'.below hW (Nat.le_refl _)).mono hW.size) hp (by omega)
  have k4 : ∀ W, Below X.heap.size X W → Calls Try.prog 13 #[.int .u32 (p : Int), .slice a0 len0 cap0] W fun e w' => e = .returned (.int .u32 (moreN p bs : Nat)) ∧ W = w' := fun W hW =>
    refMore_any p bs len0 _ cap0 X.heap.size W HL0.out (hro0.below hW (Nat.le_refl _)) hp (by omega)
  have k5 := fun W => join_any p q n W hp hq hn0 hn1
  have k6 := fun W => refJoin_any p q n W hp hq hn0 hn1
  have k7 := fun W => roll_any p n x y W hp hn0 hn1 hx256 hy256
  have k8 := fun W => refRoll_any p n x y W hp hn0 hn1 hx256 hy256
  have k9 : ∀ W, Below X.heap.size X W → (convert 22 9 (.slice a3 len0 c3)).run Try.prog W = .ok (.string ⟨bs.toArray⟩) W := fun W hW => conv_ro (hro3'.below hW (Nat.le_refl _)) HL0.out
  have k10 : ∀ W, Below X.heap.size X W → (convert 22 9 (.slice a0 len0 cap0)).run Try.prog W = .ok (.string ⟨bs.toArray⟩) W := fun W hW => conv_ro (hro0.below hW (Nat.le_refl _)) HL0.out
  generalize sumN bs = s1 at k1 k2
  generalize moreN p bs = s2 at k3 k4
  generalize joinN p q n = s3 at k5 k6
  generalize rollN p n x y = s4 at k7 k8
  generalize (⟨bs.toArray⟩ : ByteArray) = t at k9 k10
  have hb0X : w.heap.size < X.heap.size := by omega
  have K1 := Lib.hid k1
  have K2 := Lib.hid k2
  have K3 := Lib.hid k3
  have K4 := Lib.hid k4
  have K5 := Lib.hid k5
  have K6 := Lib.hid k6
  have K7 := Lib.hid k7
  have K8 := Lib.hid k8
  clear k1 k2 k3 k4 k5 k6 k7 k8 hro0 hro3' hb3 h0
  go_region_held3 (fun w' => w'.cell? ⟨w.heap.size, 0, none⟩ = some (.int .u32 (p : Int)) ∧ w'.cell? ⟨w.heap.size, 1, none⟩ = some (.int .u32 (q : Int)) ∧ Below X.heap.size X w')
    (first
      | assumption
      | exact ⟨hx0, hx1, (Below.refl _ _).drew⟩
      | (have hH := ‹World.cell? _ ⟨w.heap.size, 0, none⟩ = _ ∧ _›; exact ⟨(hb9.cell (Nat.lt_of_lt_of_le hb0X hH.2.2.size)).trans hH.1, (hb9.cell (Nat.lt_of_lt_of_le hb0X hH.2.2.size)).trans hH.2.1, hH.2.2.trans (hb9.mono hH.2.2.size)⟩))
    (first
      | (go_at_call 9; refine (alive_any _).mono ?_; rintro e w9 ⟨rfl, hb9⟩)
      | (go_at_call 10; have hH := ‹World.cell? _ ⟨w.heap.size, 0, none⟩ = _ ∧ _›; refine (K1.out _ hH.2.2).mono ?_; clear hH; rintro e w9 ⟨rfl, hb9⟩)
      | (go_at_call 11; have hH := ‹World.cell? _ ⟨w.heap.size, 0, none⟩ = _ ∧ _›; refine (K2.out _ hH.2.2).mono ?_; clear hH; rintro e w8 ⟨rfl, rfl⟩)
      | (go_at_call 12; have hH := ‹World.cell? _ ⟨w.heap.size, 0, none⟩ = _ ∧ _›; refine (K3.out _ hH.2.2).mono ?_; clear hH; rintro e w9 ⟨rfl, hb9⟩)
      | (go_at_call 13; have hH := ‹World.cell? _ ⟨w.heap.size, 0, none⟩ = _ ∧ _›; refine (K4.out _ hH.2.2).mono ?_; clear hH; rintro e w8 ⟨rfl, rfl⟩)
      | (go_at_call 14; refine (K5.out _).mono ?_; rintro e w9 ⟨rfl, hb9⟩)
      | (go_at_call 15; refine (K6.out _).mono ?_; rintro e w8 ⟨rfl, rfl⟩)
      | (go_at_call 16; refine (K7.out _).mono ?_; rintro e w9 ⟨rfl, hb9⟩)
      | (go_at_call 17; refine (K8.out _).mono ?_; rintro e w8 ⟨rfl, rfl⟩))
  have hH := ‹World.cell? w9 ⟨w.heap.size, 0, none⟩ = _ ∧ _›
  have HH := Lib.hid hH
  clear hH
  go_wp2_with fail
  go_ret
  exact ⟨rfl, HF3.out.trans (HH.out.2.2.mono HF3.out.size)⟩

theorem adlerSums_row (w : World) {a0 : Option Addr} {len0 cap0 : Nat} {z0 z1 : List Int} {n : Int} (w0 : IsRow .u8 w a0 len0 cap0 z0) (hz1 : z1.length = 2) (w1 : ∀ n ∈ z1, (Lit.int .u32 n).wf = true) (w2 : (Lit.int .i64 n).wf = true) :
    Calls Try.prog 3 #[.slice a0 len0 cap0, .agg (z1.map (Value.int .u32)).toArray, .int .i64 n] w fun e w' => e = .returned (.bool true) ∧ Below w.heap.size w w' := by
  obtain ⟨bs, h0, _, _, hr0⟩ := w0.u8s
  obtain ⟨p, q, rfl⟩ : ∃ p q, z1 = [p, q] := by
    match z1, hz1 with
    | [p, q], _ => exact ⟨p, q, rfl⟩
  have hp := bounds_u32 (w1 p (by simp))
  have hq := bounds_u32 (w1 q (by simp))
  have hn := bounds_i64 w2
  obtain ⟨p, rfl⟩ := Int.eq_ofNat_of_zero_le hp.1
  obtain ⟨q, rfl⟩ := Int.eq_ofNat_of_zero_le hq.1
  exact adlerSums_walk a0 len0 cap0 p q n bs w h0 hr0 hn.1 hn.2 w0.len_le (by omega) (by omega)
end Go.Proofs.Ytlkojonchlcpdaa
