/-
  The statements' own helpers: alive (a live question), same (two lists). No condition but the ranges that each theorem names.
-/
import Derived.Test.YtlkojonchlcpdaaRefw
import Derived.Lib.SlBytesConst
namespace Go.Proofs.Ytlkojonchlcpdaa
open Go.RowKit Go.Deep

theorem alive_sum : sumN [87, 105, 107, 105, 112, 101, 100, 105, 97] = 300286872 := by decide
theorem alive_nil : sumN [] = 1 := by decide

set_option maxHeartbeats 400000 in
theorem alive_any (w : World) : Calls Try.prog 9 #[] w fun e w' => e = .returned (.bool true) ∧ Below w.heap.size w w' := by
  have h1 := fun W (g : Nat) (hr : Ro W W.heap.size (some ⟨g, 0, none⟩) (u8s [87, 105, 107, 105, 112, 101, 100, 105, 97])) => sum_any [87, 105, 107, 105, 112, 101, 100, 105, 97] 9 (some ⟨g, 0, none⟩) 9 W rfl hr (by omega)
  have h2 := fun W => sum_any [] 0 none 0 W rfl (Ro.nil _ _ _) (by omega)
  rw [alive_sum] at h1
  rw [alive_nil] at h2
  have H1 := Lib.hid h1
  have H2 := Lib.hid h2
  clear h1 h2
  have kc := fun (w : World) (C : Array Value) (n c : Nat) => Lib.run_convert_bytes_const (P := Try.prog) w 22 5 C n c Try.underlying22 Try.underlying5
  go_enter Try.func9, Try.ntmps9
  go_wp2_with fail
  clear kc
  refine (H1.out _ _ (.inr ⟨w.heap.size, 0, rfl, by simp, fun i hi => by
    rw [Nat.zero_add]
    refine (cell_of_row _ w.heap.size i (u8s [87, 105, 107, 105, 112, 101, 100, 105, 97]).toArray 5 (9, 10) (World.alloc_heap_new w _)).trans ?_
    simp [List.getD, List.getElem?_eq_getElem hi]⟩)).mono ?_
  rintro e w1 ⟨rfl, hb1⟩
  have hbel1 : Below w.heap.size w w1 := ((Below.refl _ _).alloc (Nat.le_refl _) _).trans (hb1.mono (by simp))
  clear hb1
  go_wp2_with fail
  refine (H2.out _).mono ?_
  rintro e w2 ⟨rfl, hb2⟩
  go_wp2_with fail
  go_ret
  exact ⟨rfl, hbel1.trans (hb2.mono hbel1.size)⟩

set_option maxHeartbeats 400000 in
theorem same_yes (l : List Nat) (len : Nat) (hlen : l.length = len) (a a2 : Option Addr) (c c2 B B2 : Nat) (w : World) (h : Ro w B a (u32s l)) (h2 : Ro w B2 a2 (u32s l)) (hl : len ≤ 10000000) :
    Calls Try.prog 21 #[.slice a len c, .slice a2 len c2] w fun e w' => e = .returned (.bool true) ∧ Qt w w' := by
  go_enter Try.func21, Try.ntmps21
  have HL := Lib.hid hlen
  clear hlen
  go_wp2_with fail
  go_loopw [5] (fun i wr => ∃ k : Nat, k ≤ len ∧ i = .int .i64 (k : Int) ∧ Qt w wr) (fun i _ => len - (intOf i).toNat)
  case atStart => exact ⟨0, by omega, by simp, Qt.refl _⟩
  case round =>
    obtain ⟨k, hk, rfl, hq⟩ := hrel
    by_cases hlt : k < len
    · obtain ⟨b, off, rfl, hb, hc⟩ := (h.qt hq).u32 (by have := HL.out; omega)
      obtain ⟨b2, off2, rfl, hb2, hc2⟩ := (h2.qt hq).u32 (by have := HL.out; omega)
      have hcell := hc k (by have := HL.out; omega)
      have hcell2 := hc2 k (by have := HL.out; omega)
      have hlt' : (k : Int) < (len : Int) := by omega
      clear hc hc2
      generalize l.getD k 0 = v at *
      go_wp2_with fail
      go_quiet (fail)
      go_wp2_with fail
      go_roundw
      case rel => exact ⟨k + 1, by omega, by go_num, hq.add _⟩
      case measure => simp [intOf]; omega
    · go_wp2_with fail
      go_ret
      exact ⟨rfl, hq⟩
end Go.Proofs.Ytlkojonchlcpdaa
