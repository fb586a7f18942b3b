/-
  Maps whose keys are chains as arrays; keyOf of package layout. No claim of its own.
-/
import Derived.Test.YtdpaofedepnnbaaLyD
import Derived.Test.YtdpaofedepnnbaaChg
import Derived.MapKept
import Derived.Laws.StructEq
import Derived.WideKeyRuns
import Derived.WideLaws
namespace Go.Proofs.Ytdpaofedepnnbaa
open Go.RowKit Go.Deep Go.Shelf
set_option linter.unusedVariables false
set_option linter.unusedSimpArgs false

/-- a chain as a key: one more than each unit, 0 behind them -/
def kk (c : List Int) (j i : Nat) : Int := if i < j then c.getD i 0 + 1 else 0
def krow (c : List Int) (j : Nat) : List Value := [.int .i64 (kk c j 0), .int .i64 (kk c j 1), .int .i64 (kk c j 2), .int .i64 (kk c j 3)]
def keyV (c : List Int) : Value := .agg #[.int .i64 (kk c c.length 0), .int .i64 (kk c c.length 1), .int .i64 (kk c c.length 2), .int .i64 (kk c c.length 3)]
theorem krow_zero (c : List Int) : krow c 0 = [.int .i64 0, .int .i64 0, .int .i64 0, .int .i64 0] := rfl
theorem krow_set (c : List Int) (j : Nat) (hj : j < 4) : (krow c j).set j (.int .i64 (c.getD j 0 + 1)) = krow c (j + 1) := by
  have h : j = 0 ∨ j = 1 ∨ j = 2 ∨ j = 3 := by omega
  rcases h with rfl | rfl | rfl | rfl <;> simp [krow, kk]
/-- a chain that may stand in a valid layout -/
def ChP (c : List Int) : Prop := (1 ≤ c.length ∧ c.length ≤ 4) ∧ ∀ u ∈ c, 0 ≤ u ∧ u < 32
theorem key_inj {c d : List Int} (hc : ChP c) (hd : ChP d) (h0 : kk c c.length 0 = kk d d.length 0) (h1 : kk c c.length 1 = kk d d.length 1) (h2 : kk c c.length 2 = kk d d.length 2) (h3 : kk c c.length 3 = kk d d.length 3) : c = d := by
  have hall : ∀ i, kk c c.length i = kk d d.length i := fun i => by
    by_cases hi : i < 4
    · have h : i = 0 ∨ i = 1 ∨ i = 2 ∨ i = 3 := by omega
      rcases h with rfl | rfl | rfl | rfl <;> assumption
    · unfold kk
      rw [if_neg (by have := hc.1; omega), if_neg (by have := hd.1; omega)]
  have hpos : ∀ (c : List Int) (hc : ChP c) i, kk c c.length i = 0 ↔ ¬ i < c.length := fun c hc i => by
    unfold kk
    by_cases hi : i < c.length
    · have := hc.2 c[i] (List.getElem_mem hi)
      rw [if_pos hi]
      simp [List.getD, hi]
      omega
    · rw [if_neg hi]; simp; omega
  have hlen : c.length = d.length := by
    have a1 := hpos c hc d.length
    have a2 := hpos d hd c.length
    rw [hall] at a1
    rw [← hall] at a2
    have b1 := (hpos d hd d.length).2 (by omega)
    have b2 := (hpos c hc c.length).2 (by omega)
    have := a1.1 b1
    have := a2.1 b2
    omega
  apply List.ext_getElem hlen
  intro i g1 g2
  have := hall i
  unfold kk at this
  rw [if_pos g1, if_pos g2] at this
  simp only [List.getD, List.getElem?_eq_getElem g1, List.getElem?_eq_getElem g2, Option.getD_some] at this
  omega

theorem Try.key_under : Try.prog.underlying 179 = some (.array 4 3) := by kernel_rfl
theorem Try.info_i64' : ∃ i, Try.prog.info? 3 = some i := by
  obtain ⟨i, hi, _⟩ := Option.map_eq_some_iff.1 Try.info_i64
  exact ⟨i, hi⟩
theorem Try.plain_i64 : Try.prog.plainKey 3 = true := by kernel_rfl
theorem Try.cells_i64 : Try.prog.cellsOf 3 = 1 := by kernel_rfl
set_option maxHeartbeats 1000000 in
theorem run_eq4 (a b c d x y z u : Int) (w : World) : (Op.equal 179 (.agg #[.int .i64 a, .int .i64 b, .int .i64 c, .int .i64 d]) (.agg #[.int .i64 x, .int .i64 y, .int .i64 z, .int .i64 u])).run Try.prog w = .ok (decide (a = x ∧ b = y ∧ c = z ∧ d = u)) w := by
  obtain ⟨i, hi⟩ := Try.info_i64'
  show (Op.equalIn (9999 + 1) _ _ _).run _ _ = _
  rw [run_equalIn_array w 9999 _ _ Try.key_under hi, Try.cells_i64]
  have p0 : ∀ (p q r s : Value) (W : World), (part 3 #[p, q, r, s] 0).run Try.prog W = .ok p W := fun p q r s W => run_part_plain W Try.plain_i64 rfl
  have p1 : ∀ (p q r s : Value) (W : World), (part 3 #[p, q, r, s] 1).run Try.prog W = .ok q W := fun p q r s W => run_part_plain W Try.plain_i64 rfl
  have p2 : ∀ (p q r s : Value) (W : World), (part 3 #[p, q, r, s] 2).run Try.prog W = .ok r W := fun p q r s W => run_part_plain W Try.plain_i64 rfl
  have p3 : ∀ (p q r s : Value) (W : World), (part 3 #[p, q, r, s] 3).run Try.prog W = .ok s W := fun p q r s W => run_part_plain W Try.plain_i64 rfl
  have he : ∀ (m n : Int) (W : World), (Op.equalIn 9999 3 (.int .i64 m) (.int .i64 n)).run Try.prog W = .ok (m == n) W := fun m n W => by
    show (Op.equalIn (9998 + 1) _ _ _).run _ _ = _
    exact run_equalIn_int _ _ _ _ _ _ _ Try.underlying3
  simp [Op.eqItems, List.range, List.range.loop, p0, p1, p2, p3, he]
  by_cases h1 : a = x <;> by_cases h2 : b = y <;> by_cases h3 : c = z <;> by_cases h4 : d = u <;> simp [h1, h2, h3, h4]
theorem run_check4n (n : Nat) (e : Bool) (a b c d : Int) (w : World) : (Instr.checkKey e (n + 1 + 1) 179 (.agg #[.int .i64 a, .int .i64 b, .int .i64 c, .int .i64 d])).run Try.prog w = .ok () w := by
  have p0 : ∀ (p q r s : Value) (W : World), (part 3 #[p, q, r, s] 0).run Try.prog W = .ok p W := fun p q r s W => run_part_plain W Try.plain_i64 rfl
  have p1 : ∀ (p q r s : Value) (W : World), (part 3 #[p, q, r, s] 1).run Try.prog W = .ok q W := fun p q r s W => run_part_plain W Try.plain_i64 rfl
  have p2 : ∀ (p q r s : Value) (W : World), (part 3 #[p, q, r, s] 2).run Try.prog W = .ok r W := fun p q r s W => run_part_plain W Try.plain_i64 rfl
  have p3 : ∀ (p q r s : Value) (W : World), (part 3 #[p, q, r, s] 3).run Try.prog W = .ok s W := fun p q r s W => run_part_plain W Try.plain_i64 rfl
  have he : ∀ (m : Int) (W : World), (Instr.checkKey e (n + 1) 3 (.int .i64 m)).run Try.prog W = .ok () W := fun m W => by
    simp only [Instr.checkKey, Sem.run_bind, run_underlying Try.underlying3, Result.andThen_ok]
    rfl
  generalize hq : n + 1 = q at *
  unfold Instr.checkKey
  simp only [Sem.run_bind, run_underlying Try.key_under, Result.andThen_ok]
  simp only [Std.Legacy.Range.forIn_eq_forIn_range', Std.Legacy.Range.size, Nat.sub_zero, Nat.add_one_sub_one, Nat.div_one]
  rw [show List.range' 0 4 = [0, 1, 2, 3] from rfl]
  simp only [List.forIn_cons, List.forIn_nil, Sem.run_bind, Try.sizeOf3, Result.andThen_ok]
  simp [p0, p1, p2, p3, he]
theorem run_check4 (e : Bool) (a b c d : Int) (w : World) : (Instr.checkKey e 10000 179 (.agg #[.int .i64 a, .int .i64 b, .int .i64 c, .int .i64 d])).run Try.prog w = .ok () w := run_check4n 9998 e a b c d w

/-- a map of chains in block b: its entries, in their order -/
def MapK (w : World) (b : Nat) (D : List (List Int × Value)) : Prop := ∃ es clock, w.heap[b]? = some (.map es clock) ∧ es.toList.map (fun e => (e.key, e.val)) = D.map (fun p => (keyV p.1, p.2))
def lookD (D : List (List Int × Value)) (c : List Int) : Option Value := (D.find? fun p => decide (p.1 = c)).map (·.2)
theorem MapK.lt {w : World} {b : Nat} {D : List (List Int × Value)} (h : MapK w b D) : b < w.heap.size := by
  obtain ⟨es, clock, h1, _⟩ := h
  exact (Array.getElem?_eq_some_iff.1 h1).1
theorem MapK.made (w : World) : MapK (w.alloc (.map #[] 0)) w.heap.size [] := ⟨#[], 0, heap_alloc_new w _, rfl⟩
theorem MapK.chg {l : List Nat} {w w' : World} {b : Nat} {D : List (List Int × Value)} (h : MapK w b D) (hc : Chg l w w') (hb : b ∉ l) : MapK w' b D := by
  obtain ⟨es, clock, h1, h2⟩ := h
  exact ⟨es, clock, (hc.block b (Array.getElem?_eq_some_iff.1 h1).1 hb).trans h1, h2⟩
theorem run_asking (c : List Int) (hc : ChP c) (w : World) : ∀ (D : List (List Int × Value)) (es : List MapEntry) (hD : ∀ p ∈ D, ChP p.1) (he : es.map (fun e => (e.key, e.val)) = D.map (fun p => (keyV p.1, p.2))) (i : Nat),
    ∃ r, (Instr.findAsking 179 (keyV c) es i).run Try.prog w = .ok r w ∧ r.map (·.2) = lookD D c
  | [], es, _, he, i => by
    have : es = [] := by simpa using he
    subst this
    exact ⟨none, by simp [Instr.findAsking], rfl⟩
  | p :: D, es, hD, he, i => by
    cases es with
    | nil => simp at he
    | cons e es =>
      simp only [List.map_cons, List.cons.injEq, Prod.mk.injEq] at he
      obtain ⟨⟨h1, h2⟩, h3⟩ := he
      have hp := hD p (by simp)
      have heq : (Op.equal 179 (keyV c) e.key).run Try.prog w = .ok (decide (p.1 = c)) w := by
        rw [h1]
        unfold keyV
        rw [run_eq4]
        congr 1
        rw [decide_eq_decide]
        constructor
        · rintro ⟨g0, g1, g2, g3⟩
          exact (key_inj hc hp g0 g1 g2 g3).symm
        · rintro rfl
          exact ⟨rfl, rfl, rfl, rfl⟩
      unfold lookD
      by_cases hpc : p.1 = c
      · refine ⟨some (i, e.val), ?_, ?_⟩
        · simp [Instr.findAsking, heq, hpc]
        · simp [List.find?, hpc, h2]
      · obtain ⟨r, hr, hr2⟩ := run_asking c hc w D es (fun q hq => hD q (by simp [hq])) h3 (i + 1)
        refine ⟨r, ?_, ?_⟩
        · simp [Instr.findAsking, heq, hpc, hr]
        · rw [hr2]
          simp [lookD, List.find?, hpc]
theorem MapK.look {w : World} {b : Nat} {D : List (List Int × Value)} (h : MapK w b D) (hD : ∀ p ∈ D, ChP p.1) {c : List Int} (hc : ChP c) :
    (Instr.lookup 91 (.map (some b)) (keyV c) true).run Try.prog w = .ok (.tuple #[(lookD D c).getD (.slice none 0 0), .bool (lookD D c).isSome]) w := by
  obtain ⟨es, clock, h1, h2⟩ := h
  obtain ⟨r, hr, hr2⟩ := run_asking c hc w D es.toList hD h2 0
  have hk := run_check4 es.isEmpty (kk c c.length 0) (kk c c.length 1) (kk c c.length 2) (kk c c.length 3) w
  change (Instr.checkKey es.isEmpty 10000 179 (keyV c)).run Try.prog w = _ at hk
  have hf := run_findKey_eq (P := Try.prog) w (k := 179) (by rw [Try.key_under]) (keyV c) es.toList
  rw [hr] at hf
  have hz : (zeroValue 36).run Try.prog w = .ok (.slice none 0 0) w := by kernel_rfl
  simp only [Instr.lookup, Sem.run_bind, run_underlying Try.underlying91, Result.andThen_ok, run_getObj_map _ _ _ _ h1, Sem.run_pure, hk, hf]
  cases r with
  | none =>
    rw [← hr2]
    simp [hz]
  | some q =>
    rw [← hr2]
    simp
theorem MapK.put {w : World} {b : Nat} {D : List (List Int × Value)} (h : MapK w b D) (hD : ∀ p ∈ D, ChP p.1) {c : List Int} (hc : ChP c) (hn : lookD D c = none) (v : Value) :
    ∃ w', (Instr.mapUpdate 91 (.map (some b)) (keyV c) v).run Try.prog w = .ok () w' ∧ MapK w' b (D ++ [(c, v)]) ∧ Chg [b] w w' := by
  obtain ⟨es, clock, h1, h2⟩ := h
  obtain ⟨r, hr, hr2⟩ := run_asking c hc w D es.toList hD h2 0
  rw [hn] at hr2
  have hrn : r = none := by simpa using hr2
  subst hrn
  have hk := run_check4 false (kk c c.length 0) (kk c c.length 1) (kk c c.length 2) (kk c c.length 3) w
  change (Instr.checkKey false 10000 179 (keyV c)).run Try.prog w = _ at hk
  have hf := run_findKey_eq (P := Try.prog) w (k := 179) (by rw [Try.key_under]) (keyV c) es.toList
  rw [hr] at hf
  have hb := (Array.getElem?_eq_some_iff.1 h1).1
  refine ⟨{ w with heap := w.heap.setIfInBounds b (.map (es.push { key := keyV c, val := v, born := clock }) (clock + 1)) }, ?_, ?_, ?_⟩
  · simp only [Instr.mapUpdate, Sem.run_bind, run_underlying Try.underlying91, Result.andThen_ok, run_getObj_map _ _ _ _ h1, hk, hf]
    exact MapKept.run_setObj_map _ h1
  · refine ⟨es.push { key := keyV c, val := v, born := clock }, clock + 1, by simp [hb], ?_⟩
    simp [h2]
  · refine ⟨rfl, rfl, rfl, by simp, fun k hk hne => ?_⟩
    have : b ≠ k := fun e => hne (by simp [e])
    simp [Array.getElem?_setIfInBounds, this]

set_option maxHeartbeats 1000000 in
theorem keyOf_any (c : List Int) (hc : ChP c) (a : Option Addr) (cap B : Nat) (w : World) (hro : Ro w B a (i64s c)) (hB : B ≤ w.heap.size) :
    Calls Try.prog 137 #[.slice a c.length cap] w fun e w' => e = .returned (keyV c) ∧ Below w.heap.size w w' := by
  have HRO := Lib.hid hro
  have HS := Lib.hid hB
  have HC := Lib.hid hc
  unfold keyV
  generalize hN : c.length = n at *
  have HN := Lib.hid hN
  have hn1 : (n : Int) ≤ 4 := by have := hc.1; omega
  obtain ⟨k0, HK0⟩ : ∃ k0, Hid (kk c n 0 = k0) := ⟨_, Lib.hid rfl⟩
  obtain ⟨k1, HK1⟩ : ∃ k0, Hid (kk c n 1 = k0) := ⟨_, Lib.hid rfl⟩
  obtain ⟨k2, HK2⟩ : ∃ k0, Hid (kk c n 2 = k0) := ⟨_, Lib.hid rfl⟩
  obtain ⟨k3, HK3⟩ : ∃ k0, Hid (kk c n 3 = k0) := ⟨_, Lib.hid rfl⟩
  rw [HK0.out, HK1.out, HK2.out, HK3.out]
  clear hro hB hN hc
  go_enter Try.func137, Try.ntmps137
  go_wp2_with fail
  go_loopw [8] (fun i wr => ∃ k : Nat, k ≤ n ∧ i = .int .i64 (k : Int) ∧ Hid (Own wr (w.heap.size + 1) 179 (krow c k)) ∧ Hid (Own wr w.heap.size 179 [.int .i64 0, .int .i64 0, .int .i64 0, .int .i64 0]) ∧ Hid (Below w.heap.size w wr)) (fun i _ => n - (intOf i).toNat)
  case atStart =>
    refine ⟨0, Nat.zero_le _, rfl, Lib.hid ?_, Lib.hid ((Own.new w _ _).alloc _), Lib.hid (((Below.refl _ _).alloc (Nat.le_refl _) _).alloc (by simp) _)⟩
    have := Own.new (w.alloc (.cells #[.int .i64 0, .int .i64 0, .int .i64 0, .int .i64 0] 179)) 179 [.int .i64 0, .int .i64 0, .int .i64 0, .int .i64 0]
    rw [krow_zero]
    simpa using this
  case round =>
    obtain ⟨k, hk, rfl, HO, HO2, HBk⟩ := hrel
    by_cases hlt : k < n
    · have hkL : k < c.length := by rw [HN.out]; exact hlt
      obtain ⟨b, off, rfl, hb, hcc⟩ := (HRO.out.below HBk.out HS.out).i64 (show 0 < c.length by omega)
      have e1 := hcc k hkL
      clear hcc
      have hk0 : (0 : Int) ≤ (k : Int) := by omega
      have hk1 : (k : Int) < (n : Int) := by omega
      have hu : 0 ≤ c.getD k 0 ∧ c.getD k 0 < 32 := by
        have := HC.out.2 c[k] (List.getElem_mem hkL)
        simpa [List.getD, hkL] using this
      have HL : Hid ((krow c k).set k (.int .i64 (c.getD k 0 + 1)) = krow c (k + 1)) := Lib.hid (krow_set c k (by have := HC.out.1; omega))
      have hrl : (krow c k).length = 4 := rfl
      have hk3 : k < 4 := by have := HC.out.1; omega
      obtain ⟨y, hy⟩ : ∃ y, (krow c k)[k]? = some y := ⟨_, List.getElem?_eq_getElem (by omega)⟩
      have d1 := (HO.out.cell k).trans hy
      have d2 := HO.out.frozen k
      have hz := HO.out.lt
      have hk4 : (k : Int) < 4 := by omega
      clear hy hrl
      generalize c.getD k 0 = x at *
      obtain ⟨hx0, hx1⟩ := hu
      go_wp2_with fail
      go_roundw
      case rel =>
        refine ⟨k + 1, by omega, by go_num, Lib.hid ?_, Lib.hid (HO2.out.far (by show w.heap.size ≠ w.heap.size + 1; omega) _), Lib.hid (HBk.out.setCell (by show w.heap.size ≤ w.heap.size + 1; omega) _)⟩
        rw [← HL.out]
        exact HO.out.set k _
      case measure => simp [intOf]; omega
    · obtain rfl : k = n := by omega
      have d0 := HO.out.cell 0
      have d1 := HO.out.cell 1
      have d2 := HO.out.cell 2
      have d3 := HO.out.cell 3
      have f0 := HO2.out.frozen 0
      have f1 := HO2.out.frozen 1
      have f2 := HO2.out.frozen 2
      have f3 := HO2.out.frozen 3
      have g0 := HO2.out.cell 0
      have g1 := HO2.out.cell 1
      have g2 := HO2.out.cell 2
      have g3 := HO2.out.cell 3
      simp [krow] at d0 d1 d2 d3 g0 g1 g2 g3
      rw [HK0.out] at d0
      rw [HK1.out] at d1
      rw [HK2.out] at d2
      rw [HK3.out] at d3
      have hz := HO2.out.lt
      go_wp2_with fail
      refine bodyPost_ret (v := .agg #[.int .i64 k0, .int .i64 k1, .int .i64 k2, .int .i64 k3]) (by simp [results, Try.results137, go_sem, g0, g1, g2, g3, hz]) rfl ⟨rfl, ?_⟩
      exact (((HBk.out.setCell (Nat.le_refl _) _).setCell (Nat.le_refl _) _).setCell (Nat.le_refl _) _).setCell (Nat.le_refl _) _
end Go.Proofs.Ytdpaofedepnnbaa
