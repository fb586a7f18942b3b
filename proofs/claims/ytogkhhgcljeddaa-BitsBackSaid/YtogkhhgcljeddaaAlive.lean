/-
  The statements' own helpers: alive (a live question), same (two lists).
-/
import Derived.Test.YtogkhhgcljeddaaRefC
import Derived.Test.YtogkhhgcljeddaaBitsD
namespace Go.Proofs.Ytogkhhgcljeddaa
open Go.RowKit Go.Deep

theorem alive_pack : PackOk [3, 6] [5, 33] := ⟨by decide, rfl, by decide⟩
theorem alive_bytes : IsPack [3, 6] [5, 33] [0xB0, 0x80] := ⟨by decide, by decide⟩
theorem alive_num : num [0x12, 0x34] 4 8 = 0x23 := by decide
theorem alive_ext : ext 7 (wd 3) = -1 := by decide

set_option maxHeartbeats 400000 in
theorem alive_any (w : World) : Calls Try.prog 9 #[] w fun e w' => e = .returned (.bool true) ∧ Below w.heap.size w w' := by
  have hget : ∀ W B, Ro W B (some ⟨w.heap.size, 0, none⟩) (u8s [0x12, 0x34]) → B ≤ W.heap.size → Calls Try.prog 10 #[.slice (some ⟨w.heap.size, 0, none⟩) 2 2, .int .i64 4, .int .i64 8] W fun e w' => e = .returned (.tuple #[.int .u64 35, .bool true]) ∧ Below W.heap.size W w' := fun W B h hB =>
    get_yes [0x12, 0x34] _ 2 B 4 8 W h hB (by simp) (by omega) (by omega) (by omega) (by simp)
  have hpack : ∀ W B g1 g2, Ro W B (some ⟨g1, 0, none⟩) (i64s [3, 6]) → Ro W B (some ⟨g2, 0, none⟩) (u64s [5, 33]) → B ≤ W.heap.size → Calls Try.prog 20 #[.slice (some ⟨g1, 0, none⟩) 2 2, .slice (some ⟨g2, 0, none⟩) 2 2] W fun e w' => ∃ g, e = .returned (.tuple #[.slice (some ⟨g, 0, none⟩) 2 2, .bool true]) ∧ Own w' g 5 (u8s [0xB0, 0x80]) ∧ Below W.heap.size W w' := fun W B g1 g2 h1 h2 hB => by
    refine (pack_yes [3, 6] [5, 33] _ _ 2 2 B W h1 h2 hB (by simp) alive_pack).mono ?_
    rintro e w' ⟨g, cs, rfl, _, hcs, hown, hbel⟩
    obtain rfl := hcs.unique alive_bytes
    exact ⟨g, rfl, hown, hbel⟩
  have hext := fun W => extend_is 7 3 W
  rw [alive_ext] at hext
  have HG := Lib.hid hget
  have HP := Lib.hid hpack
  have HE := Lib.hid hext
  clear hget hpack hext
  go_enter Try.func9, Try.ntmps9
  go_wp2_with fail
  refine (HG.out _ (w.heap.size + 1) (Own.ro (Own.new w 5 (u8s [0x12, 0x34])) _ (by omega)) (by simp)).mono ?_
  rintro e w1 ⟨rfl, hb1⟩
  simp only [World.size_alloc] at hb1
  have hbel1 : Below w.heap.size w w1 := ((Below.refl _ _).alloc (Nat.le_refl _) _).trans (hb1.mono (by omega))
  have hs1 : w.heap.size + 1 ≤ w1.heap.size := by have := hb1.size; simp only [World.size_alloc] at this; omega
  clear hb1
  go_wp2_with fail
  have o1 := (Own.new w1 3 (i64s [3, 6])).alloc (.cells #[.int .u64 5, .int .u64 33] 24)
  have o2 := Own.new (w1.alloc (.cells #[.int .i64 3, .int .i64 6] 3)) 24 (u64s [5, 33])
  simp only [World.size_alloc] at o2
  refine (HP.out _ (w1.heap.size + 2) w1.heap.size (w1.heap.size + 1) (o1.ro _ (by omega)) (o2.ro _ (by omega)) (by simp)).mono ?_
  rintro e w2 ⟨g, rfl, ho, hb2⟩
  simp only [World.size_alloc] at hb2
  have hbel2 : Below w.heap.size w w2 := ((hbel1.alloc hbel1.size _).alloc (by simp; omega) _).trans (hb2.mono (by omega))
  have hc0 : w2.cell? ⟨g, 0, none⟩ = some (.int .u8 176) := by rw [ho.cell 0]; rfl
  have hc1 : w2.cell? ⟨g, 1, none⟩ = some (.int .u8 128) := by rw [ho.cell 1]; rfl
  clear o1 o2 hb2 ho
  go_wp2_with fail
  refine (HE.out _).mono ?_
  rintro e w3 ⟨rfl, rfl⟩
  go_wp2_with fail
  go_ret
  exact ⟨rfl, hbel2⟩

set_option maxHeartbeats 400000 in
theorem same_yes (l : List Nat) (len : Nat) (hlen : l.length = len) (a a2 : Option Addr) (c c2 B : Nat) (w : World) (h : Ro w B a (u64s l)) (h2 : Ro w B a2 (u64s l)) (hl : len ≤ 1000000) :
    Calls Try.prog 24 #[.slice a len c, .slice a2 len c2] w fun e w' => e = .returned (.bool true) ∧ Qt w w' := by
  go_enter Try.func24, Try.ntmps24
  have HL := Lib.hid hlen
  clear hlen
  go_wp2_with fail
  go_loopw [5] (fun i wr => ∃ k : Nat, k ≤ len ∧ i = .int .i64 (k : Int) ∧ Qt w wr) (fun i _ => len - (intOf i).toNat)
  case atStart => exact ⟨0, by omega, by simp, Qt.refl _⟩
  case round =>
    obtain ⟨k, hk, rfl, hq⟩ := hrel
    by_cases hlt : k < len
    · obtain ⟨b, off, rfl, hb, hc⟩ := (h.qt hq).u64 (by have := HL.out; omega)
      obtain ⟨b2, off2, rfl, hb2, hc2⟩ := (h2.qt hq).u64 (by have := HL.out; omega)
      have hcell := hc k (by have := HL.out; omega)
      have hcell2 := hc2 k (by have := HL.out; omega)
      have hlt' : (k : Int) < (len : Int) := by omega
      clear hc hc2
      generalize l.getD k 0 = v at *
      go_wp2_with fail
      go_quiet (fail)
      go_wp2_with fail
      go_roundw
      case rel => exact ⟨k + 1, by omega, by go_num, hq.add _⟩
      case measure => simp [intOf]; omega
    · go_wp2_with fail
      go_ret
      exact ⟨rfl, hq⟩
end Go.Proofs.Ytogkhhgcljeddaa
