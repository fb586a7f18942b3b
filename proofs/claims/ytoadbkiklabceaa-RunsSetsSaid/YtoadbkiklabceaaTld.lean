/-
  Contracts of told and of the document's Same: lists of runs. No claim of its own.
-/
import Derived.Test.YtoadbkiklabceaaDrp
import Derived.Laws.StructEq
namespace Go.Proofs.Ytoadbkiklabceaa
open Go.RowKit Go.Shelf Go.Deep
set_option linter.unusedVariables false
set_option linter.unusedSimpArgs false

theorem Try.infoF : (Try.prog.info? 31).map (fun i => (i.zero, i.size, i.bytes)) = some (some zR, 2, 16) := by kernel_rfl
theorem belowG {B : Nat} {a b : World} {row : Option Nat} (h : a.grownBy b row) (hr : ∀ k, row = some k → B ≤ k) (hB : B ≤ a.heap.size) : Below B a b :=
  ⟨h.os, h.tape, h.output, h.size, fun k hk => h.block k (Nat.lt_of_lt_of_le hk hB) (fun e => by have := hr k e.symm; omega)⟩
set_option maxHeartbeats 2000000 in
set_option maxRecDepth 100000 in
theorem told_any (w : World) (a : Option Addr) (L : List Rn) (c B0 : Nat) (hro : Ro w B0 a (rcs L)) (hB0 : B0 ≤ w.heap.size) (hl : L.length ≤ 4000000) :
    Calls Try.prog 20 #[.slice a L.length c] w fun e w' => ∃ v, e = .returned v ∧ Lr w' w.heap.size 31 v L ∧ Below w.heap.size w w' := by
  obtain ⟨n, HN⟩ : ∃ n, Hid (L.length = n) := ⟨_, Lib.hid rfl⟩
  rw [HN.out] at hl ⊢
  have HR := Lib.hid (hro.mono hB0)
  clear hro
  go_enter Try.func20, Try.ntmps20
  go_wp2_with fail
  go_loopw [3, 4] (fun s3 i wr => ∃ k : Nat, i = .int .i64 k ∧ k ≤ n ∧ Lr wr w.heap.size 31 s3 (L.take k) ∧ Below w.heap.size w wr) (fun _ i _ => n - (intOf i).toNat)
  case atStart => exact ⟨0, rfl, Nat.zero_le _, Lr.nil _ _ _, Below.refl _ _⟩
  case round =>
    obtain ⟨k, rfl, hk, hr, hb⟩ := hrel
    by_cases hlt : k < n
    · have hkL : k < L.length := by rw [HN.out]; exact hlt
      obtain ⟨g, off, rfl, hg, hcl⟩ := HR.out.rn (by omega)
      obtain ⟨h1, h2⟩ := hcl k hkL
      have hx1 := (hb.cell (p := ⟨g, off + k * 2, none⟩) hg).trans h1
      have hx2 := (hb.cell (p := ⟨g, off + k * 2 + 1, none⟩) hg).trans h2
      have HT := Lib.hid (show L.take (k + 1) = L.take k ++ [el L k] from take_el hkL)
      have hlk : (L.take k).length = k := by rw [List.length_take]; omega
      have HLK := Lib.hid hlk
      generalize el L k = x at *
      have hd1 : decide (k < n) = true := by simpa using hlt
      have hk0 : (0 : Int) ≤ (k : Int) := by omega
      have hk1 : (k : Int) < (n : Int) := by omega
      have hkb : (k : Int) ≤ 4000000 := by omega
      have HKM := Lib.hid (show n - (k + 1) < n - k by omega)
      have hgr : g < wr.heap.size := Nat.lt_of_lt_of_le hg hb.size
      have HRr := Lib.hid (show Lr wr.drew w.heap.size 31 u3 (L.take k) from hr.kept (row := none) ⟨rfl, rfl, rfl, Nat.le_refl _, fun _ _ _ => rfl⟩ (by cases hv : u3.ownBlock <;> simp))
      have HB := Lib.hid hb
      have hmx : Try.prog.follows .mixedOrders = true := by kernel_rfl
      clear hcl h1 h2 hr hb hlk
      go_wp2_with fail
      have hst : wr.drew.cell? ⟨g, off + k * 2, none⟩ = some (.int .u64 (x.1 : Int)) ∧ wr.drew.cell? ⟨g, off + k * 2 + 1, none⟩ = some (.int .u64 (x.2 : Int)) := ⟨hx1, hx2⟩
      (go_region_held3 (fun w' => w'.cell? ⟨g, off + k * 2, none⟩ = some (.int .u64 (x.1 : Int)) ∧ w'.cell? ⟨g, off + k * 2 + 1, none⟩ = some (.int .u64 (x.2 : Int)))
            (first
              | assumption
              | exact hst
              | exact ⟨(World.cell?_alloc_lt _ _ _ hgr).trans hx1, (World.cell?_alloc_lt _ _ _ hgr).trans hx2⟩
              | (have hb4 := belowG hg4 (B := w.heap.size) (fun k hk => (HRr.out.lt k hk).1) (by have := HB.out.size; simp; omega)
                 exact ⟨(hb4.cell (p := ⟨g, off + k * 2, none⟩) hg).trans ((World.cell?_alloc_lt _ _ _ hgr).trans hx1), (hb4.cell (p := ⟨g, off + k * 2 + 1, none⟩) hg).trans ((World.cell?_alloc_lt _ _ _ hgr).trans hx2)⟩))
            (first
              | (refine step_appS (by rfl) (.tmp 11) (.tmp 23) 26 (by rfl) w.heap.size 31 zR 16 Try.underlying26 Try.infoF rfl _ (L.take k) (by rfl) (HRr.out.alloc _) (some ⟨wr.heap.size, 0, none⟩) (wr.heap.size + 1) 1 1 [x] (by rfl) rfl ((Own.new wr.drew 31 (rcs [x])).ro _ (by simp)) (by rw [HLK.out]; omega) (by rw [HLK.out]; omega) (by simp; have := HB.out.size; omega) ?_; intro v4 w4 H4 hg4 hn4)))
      have hb4 := HB.out.trans (((Below.refl _ wr).alloc HB.out.size _).drew.trans (belowG hg4 (B := w.heap.size) (fun k hk => (HRr.out.lt k hk).1) (by have := HB.out.size; simp; omega)))
      rw [← HT.out] at H4
      clear hg4 hn4
      go_wp2_with fail
      go_roundw
      case rel => exact ⟨k + 1, by go_num, by omega, H4.out, hb4⟩
      case measure => have := HKM.out; simp [intOf]; omega
    · have ht : L.take k = L := List.take_of_length_le (by rw [HN.out]; omega)
      rw [ht] at hr
      have hd1 : decide (k < n) = false := by simpa using hlt
      go_wp2_with fail
      go_ret
      exact ⟨u3, rfl, hr, hb⟩
end Go.Proofs.Ytoadbkiklabceaa
