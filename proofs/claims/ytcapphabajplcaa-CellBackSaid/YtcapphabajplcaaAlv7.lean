/-
  The law package's live question. No claim of its own.
-/
import Derived.Test.YtcapphabajplcaaCeJ
import Derived.Lib.SlBytesConst
namespace Go.Proofs.Ytcapphabajplcaa
open Go.RowKit Go.Deep
set_option linter.unusedVariables false
set_option linter.unusedSimpArgs false

set_option maxHeartbeats 2000000 in
set_option maxRecDepth 100000 in
theorem alive_any (w : World) : Calls Try.prog 8 #[] w fun e w' => e = .returned (.bool true) ∧ Below w.heap.size w w' := by
  obtain ⟨W, hW⟩ : ∃ W, ((w.alloc (.cells #[.int .u8 97, .int .u8 98] 5 (2, 3))).alloc (.cells #[.int .i64 3, .int .u64 7, .int .u64 18446744073709551615] 41)).alloc (.cells #[.int .i64 1, .slice (some ⟨w.heap.size, 0, none⟩) 2 2, .slice (some ⟨w.heap.size + 1, 0, none⟩) 1 1] 26) = W := ⟨_, rfl⟩
  have o1 : Ro W W.heap.size (some ⟨w.heap.size, 0, none⟩) (u8s [97, 98]) := by
    have h0 : Ro (w.alloc (.cells #[.int .u8 97, .int .u8 98] 5 (2, 3))) (w.heap.size + 1) (some ⟨w.heap.size, 0, none⟩) (u8s [97, 98]) := by
      refine .inr ⟨w.heap.size, 0, rfl, by omega, fun i hi => ?_⟩
      rw [cell_of_row _ w.heap.size (0 + i) _ _ _ (heap_alloc_new w _)]
      have hi' : i = 0 ∨ i = 1 := by simp at hi; omega
      rcases hi' with rfl | rfl <;> rfl
    rw [← hW]
    exact ((h0.keep fun p hp => World.cell?_alloc_lt _ _ p (by simp; omega)).keep fun p hp => World.cell?_alloc_lt _ _ p (by simp; omega)).mono (by simp)
  have o2 : Own W (w.heap.size + 1) 41 (bcs [(3, 7, 18446744073709551615)]) := by
    rw [← hW]
    have := Own.new (w.alloc (.cells #[.int .u8 97, .int .u8 98] 5 (2, 3))) 41 (bcs [(3, 7, 18446744073709551615)])
    simp only [World.size_alloc] at this
    exact this.alloc _
  have hWb : Below w.heap.size w W := by rw [← hW]; exact (((Below.refl _ _).alloc (Nat.le_refl _) _).alloc (by simp) _).alloc (by simp; omega) _
  have HE := Lib.hid (enc_yes aliveC (some ⟨w.heap.size, 0, none⟩) 2 (some ⟨w.heap.size + 1, 0, none⟩) 1 W.heap.size W o1 (o2.ro _ o2.lt) (Nat.le_refl _) (fun b hb => by
    simp only [aliveC, List.mem_singleton] at hb
    subst hb
    unfold FitB
    decide) alive_right)
  change Hid (Calls _ _ #[cev 1 (some ⟨w.heap.size, 0, none⟩) 2 2 (some ⟨w.heap.size + 1, 0, none⟩) 1 1] _ _) at HE
  have HW := Lib.hid hW
  have HWb := Lib.hid hWb
  clear o1 o2 hW hWb
  have kc := fun (w : World) (C : Array Value) (n c : Nat) => Lib.run_convert_bytes_const (P := Try.prog) w 23 5 C n c Try.underlying23 Try.underlying5
  go_enter Try.func8, Try.ntmps8
  go_wp2_with fail
  rw [HW.out]
  refine HE.out.mono ?_
  rintro e w1 ⟨bs, a', c', rfl, hen, hro, hcap, hb⟩
  obtain rfl := hen.unique alive_enc
  have HB := Lib.hid (HWb.out.trans (hb.mono HWb.out.size))
  have HR := Lib.hid hro
  have HC := Lib.hid hcap
  clear hen hro hcap hb
  obtain ⟨b, off, rfl, hb0, -⟩ := HR.out.u8 (by simp)
  simp only [List.length_cons, List.length_nil, Nat.zero_add, Nat.reduceAdd] at HC ⊢
  go_wp2_with fail
  refine (decode_j (some ⟨w1.heap.size, 0, none⟩) 1 (w1.heap.size + 1) _ ((Own.new w1 5 (u8s [2])).ro _ (by omega)) (by simp)).mono ?_
  rintro e w2 ⟨rfl, hb⟩
  have hb2 : Below w1.heap.size w1 w2 := ((Below.refl w1.heap.size w1).alloc (Nat.le_refl _) _).trans (hb.mono (by simp))
  have HB2 := Lib.hid (HB.out.trans (hb2.mono HB.out.size))
  have hr2 := HR.out.below hb2 (Nat.le_refl _)
  have hr3 := hr2.below ((Below.refl w1.heap.size w2).alloc hb2.size (.cells #[.int .i64 2, .slice none 0 0, .slice none 0 0] 26)) (Nat.le_refl _)
  have hc8 : (c' = 8) = False := by have := HC.out.1; simp; omega
  have hc9 : (8 : Int) ≤ (c' : Int) := by have := HC.out.1; omega
  have hd := hr3.drop 8 c' (by simp [u8s]; exact HC.out.1)
  rw [if_neg (by simp [hc8]), Option.map_some, add_off] at hd
  change Ro _ _ _ (u8s [97, 98]) at hd
  have hcv := conv_ro (len := 2) (c := c' - 8) hd rfl
  obtain ⟨b', off', he, -, hcl⟩ := hr3.u8 (by simp)
  injection he with he
  injection he with he1 he2 _
  subst he1 he2
  have g0 := hcl 0 (by simp)
  have g1 := hcl 1 (by simp)
  change World.cell? _ ⟨b, off, none⟩ = some (.int .u8 72) at g0
  change World.cell? _ ⟨b, off + 1, none⟩ = some (.int .u8 35) at g1
  have HD8 := Lib.hid hc9
  clear hb hb2 hr2 hr3 hd hcl kc
  go_wp2_with fail
  go_ret
  exact ⟨rfl, HB2.out.alloc HB2.out.size _⟩
end Go.Proofs.Ytcapphabajplcaa
