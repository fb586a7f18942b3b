/-
  Backs and arrays of addresses compared whole. Plain lemmas, no claim of their own.
-/
import Derived.Test.YtdpaofedepnnbaaGreatCeA
import Derived.Laws.StructEq
namespace Go.Proofs.YtdpaofedepnnbaaGreat
open Go.RowKit Go.Deep
set_option linter.unusedVariables false
set_option linter.unusedSimpArgs false

theorem run_part_cell {P : Program} {e : TypeId} {k : IntKind} (he : P.underlying e = some (.int k)) {xs : Array Value} {off : Nat} {v : Value} (hx : xs[off]? = some v) (w : World) : (part e xs off).run P w = .ok v w := by
  unfold part
  have ha : (isAgg e).run P w = .ok false w := by
    unfold isAgg; rw [Sem.run_bind, run_underlying he w]; rfl
  rw [Sem.run_bind, ha]
  simp [hx]
theorem eq_two (d : Nat) (p q p' q' : Nat) (w : World) : (Op.equalIn (d + 2) 68 (.agg #[.int .u64 (p : Int), .int .u64 (q : Int)]) (.agg #[.int .u64 (p' : Int), .int .u64 (q' : Int)])).run Tryz.prog w = .ok (decide (p = p' ∧ q = q')) w := by
  have hu : Tryz.prog.underlying 68 = some (.array 2 26) := by kernel_rfl
  have hz : (Go.sizeOf 26).run Tryz.prog w = .ok 1 w := Tryz.sizeOf26 w
  rw [Op.equalIn]
  simp only [Sem.run_bind, run_underlying hu, Result.andThen_ok, hz, Std.Legacy.Range.forIn_eq_forIn_range']
  rw [show (List.range' 0 [:2].size) = [0, 1] from rfl]
  have g0 : ∀ (x y : Value), (part 26 #[x, y] 0).run Tryz.prog w = .ok x w := fun x y => run_part_cell Tryz.underlying26 rfl w
  have g1 : ∀ (x y : Value), (part 26 #[x, y] 1).run Tryz.prog w = .ok y w := fun x y => run_part_cell Tryz.underlying26 rfl w
  have ge : ∀ (x y : Int), (Op.equalIn (d + 1) 26 (.int .u64 x) (.int .u64 y)).run Tryz.prog w = .ok (x == y) w := fun x y => run_equalIn_int w d 26 .u64 .u64 _ _ Tryz.underlying26
  by_cases h1 : p = p'
  · subst h1
    by_cases h2 : q = q'
    · subst h2
      simp [g0, g1, ge]
    · have h3 : ((q : Int) == (q' : Int)) = false := by rw [beq_eq_false_iff_ne]; omega
      simp [g0, g1, ge, h2, h3]
  · have h3 : ((p : Int) == (p' : Int)) = false := by rw [beq_eq_false_iff_ne]; omega
    simp [g0, g1, ge, h1, h3]
theorem eq_back (x y : Bk) (w : World) : (Op.equalIn 10000 70 (bkv x) (bkv y)).run Tryz.prog w = .ok (decide (x = y)) w := by
  obtain ⟨s, p, q⟩ := x
  obtain ⟨s', p', q'⟩ := y
  have he := eq_two 9997 p q p' q' w
  have ge : ∀ (x y : Int), (Op.equalIn 9999 3 (.int .i64 x) (.int .i64 y)).run Tryz.prog w = .ok (x == y) w := fun x y => run_equalIn_int w 9998 3 .i64 .i64 _ _ Tryz.underlying3
  refine (run_equalIn_struct w 9999 70 _ _ (by kernel_rfl) (by kernel_rfl)).trans ?_
  have g0 : ∀ (x y z : Value), (part 3 #[x, y, z] 0).run Tryz.prog w = .ok x w := fun x y z => run_part_cell Tryz.underlying3 rfl w
  have gp : ∀ (x y z : Value), (part 68 #[x, y, z] 1).run Tryz.prog w = .ok (.agg #[y, z]) w := fun x y z => by
    have hz : (Go.sizeOf 68).run Tryz.prog w = .ok 2 w := Tryz.sizeOf68 w
    unfold part
    have ha : (isAgg 68).run Tryz.prog w = .ok true w := by
      unfold isAgg; rw [Sem.run_bind, run_underlying (show Tryz.prog.underlying 68 = some (.array 2 26) by kernel_rfl) w]; rfl
    rw [Sem.run_bind, ha]
    simp [hz]
  simp [Program.fieldsOf, Tryz.underlying70, Op.eqFields, g0, ge, gp, he]
  by_cases h1 : s = s'
  · by_cases h2 : p = p' ∧ q = q'
    · simp [h1, h2]
    · have h3 : (decide (p = p') && decide (q = q')) = false := by
        rw [← Bool.decide_and]; exact decide_eq_false h2
      have h4 : p = p' → ¬ q = q' := fun h hq => h2 ⟨h, hq⟩
      rw [if_pos h1, if_pos h4]
      simp [h1, h3]
  · simp [h1]
/-- Backs compared, at the operations -/
theorem neq_back (x y : Bk) (w : World) : (binOp .neq 70 (bkv x) (bkv y)).run Tryz.prog w = .ok (.bool (!decide (x = y))) w := by
  rw [run_neq_struct, eq_back]; rfl
theorem neq_two (p q p' q' : Nat) (w : World) : (binOp .neq 68 (.agg #[.int .u64 (p : Int), .int .u64 (q : Int)]) (.agg #[.int .u64 (p' : Int), .int .u64 (q' : Int)])).run Tryz.prog w = .ok (.bool (!decide (p = p' ∧ q = q'))) w := by
  rw [run_neq_struct, eq_two 9998]; rfl
end Go.Proofs.YtdpaofedepnnbaaGreat
