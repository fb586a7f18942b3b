/-
  A message loaded out of a row, or out of an act. Plain lemmas, no claim of their own.
-/
import Derived.Test.YteenlkmnadjnpaaGreatH18
import Derived.Test.YteenlkmnadjnpaaGreatH17
import Derived.Deep.RegionHeld3
import Derived.Test.YteenlkmnadjnpaaGreatH14
import Derived.Test.YteenlkmnadjnpaaGreatH8
import Derived.Test.YteenlkmnadjnpaaGreatH6
namespace Go.Proofs.YteenlkmnadjnpaaGreat
open Go.RowKit Go.Deep Go.Shelf
set_option linter.unusedVariables false
set_option linter.unusedSimpArgs false

/-- an act in a block of its own -/
theorem Own.actM {w : World} {g : Nat} {A : AcT} (h : Own w g 59 A.cs) : w.rangeAt g 2 A.m.cs := fun j v hv => by
  have hj : j < 22 := by have := (List.getElem?_eq_some_iff.1 hv).1; exact this
  rw [h.cell]
  unfold AcT.cs
  rw [Nat.add_comm 2 j, List.getElem?_cons_succ, List.getElem?_cons_succ, List.getElem?_append_left hj]
  exact hv
theorem Own.actC {w : World} {g : Nat} {A : AcT} (h : Own w g 59 A.cs) : w.cell? ⟨g, 0, none⟩ = some (.int .i64 A.kd) ∧ w.cell? ⟨g, 1, none⟩ = some (.int .i64 A.i) ∧ w.cell? ⟨g, 24, none⟩ = some (.int .i64 A.p.1) ∧ w.cell? ⟨g, 25, none⟩ = some (.int .i64 A.p.2) ∧ g < w.heap.size :=
  ⟨(h.cell 0).trans rfl, (h.cell 1).trans rfl, (h.cell 24).trans rfl, (h.cell 25).trans rfl, h.lt⟩
end Go.Proofs.YteenlkmnadjnpaaGreat
namespace Go.Proofs.YteenlkmnadjnpaaGreat
open Go.RowKit Go.Deep Go.Shelf
set_option linter.unusedVariables false
set_option linter.unusedSimpArgs false

def plc (p : Pl2) : List Value := [.int .i64 p.1, .int .i64 p.2]
def plv (L : List Pl2) : List Value := L.flatMap plc
theorem plv_length (L : List Pl2) : (plv L).length = L.length * 2 := flat_len (cells := plc) (fun _ => rfl) L
theorem plv_append (L M : List Pl2) : plv (L ++ M) = plv L ++ plv M := by simp [plv]
theorem plv_one (p : Pl2) : plv [p] = [.int .i64 p.1, .int .i64 p.2] := rfl
/-- a list of places of the call's own -/
def Lp (w : World) (base : Nat) (v : Value) (L : List Pl2) : Prop := w.ownsRow base 25 2 v L.length (plv L)
theorem Lp.nil (w : World) (base : Nat) : Lp w base (.slice none 0 0) [] := World.ownsRow_nil w base _ 2
theorem Lp.lt {w : World} {base : Nat} {v : Value} {L : List Pl2} (h : Lp w base v L) : ∀ x ∈ rowOf v, base ≤ x ∧ x < w.heap.size := by
  intro x hx
  rcases h.2 with ⟨rfl, _⟩ | ⟨g, cap, cur', rfl, hb, hh, _⟩
  · simp [rowOf, Value.ownBlock] at hx
  · simp [rowOf, Value.ownBlock] at hx
    subst hx
    exact ⟨hb, (Array.getElem?_eq_some_iff.1 hh).1⟩
theorem Lp.chg {w w' : World} {base : Nat} {v : Value} {L : List Pl2} {l : List Nat} (h : Lp w base v L) (hc : Chg l w w') (hl : ∀ x ∈ l, x ∉ rowOf v) : Lp w' base v L := by
  refine ⟨h.1, ?_⟩
  rcases h.2 with h1 | ⟨g, cap, cur, h1, h2, h3, h4⟩
  · exact .inl h1
  · exact .inr ⟨g, cap, cur, h1, h2, (hc.block g (Array.getElem?_eq_some_iff.1 h3).1 (fun hm => hl g hm (by rw [h1]; simp [rowOf, Value.ownBlock]))).trans h3, h4⟩
theorem Lp.kept {w w' : World} {base : Nat} {v : Value} {L : List Pl2} (h : Lp w base v L) (hc : Chg [] w w') : Lp w' base v L := h.chg hc (by simp)
theorem Lp.low {w w' : World} {base : Nat} {v : Value} {L : List Pl2} {l : List Nat} (h : Lp w base v L) (hc : Chg l w w') (hl : ∀ x ∈ l, x < base) : Lp w' base v L := h.chg hc (fun x hx hm => by have := hl x hx; have := (h.lt x hm).1; omega)
theorem Lp.base {w : World} {base base' : Nat} {v : Value} {L : List Pl2} (h : Lp w base v L) (hb : base' ≤ base) : Lp w base' v L := by
  refine ⟨h.1, ?_⟩
  rcases h.2 with h1 | ⟨g, cap, cur, h1, h2, h3⟩
  · exact .inl h1
  · exact .inr ⟨g, cap, cur, h1, by omega, h3⟩
theorem Lp.form {w : World} {base : Nat} {v : Value} {L : List Pl2} (h : Lp w base v L) : ∃ a c, v = .slice a L.length c ∧ Ro w w.heap.size a (plv L) := by
  rcases h.2 with ⟨rfl, h0⟩ | ⟨g, cap, cur, rfl, hb, hh, hle, hm, hrest⟩
  · have : L = [] := by simpa using h0
    subst this
    exact ⟨none, 0, rfl, .inl rfl⟩
  · refine ⟨some ⟨g, 0, none⟩, cap, rfl, .inr ⟨g, 0, rfl, ?_, fun i hi => ?_⟩⟩
    · exact (World.ownsRow.lt h g rfl).2
    · have := World.ownsRow.cellAt h i (by rw [plv_length] at hi; exact hi)
      rw [Nat.zero_add, this]
      simp only [List.getD, List.getElem?_eq_getElem hi, Option.getD_some]
/-- the cells of the k-th place -/
theorem pl_cells {w : World} {B : Nat} {a : Option Addr} {L : List Pl2} (h : Ro w B a (plv L)) {k : Nat} (hk : k < L.length) :
    ∃ b off, a = some ⟨b, off, none⟩ ∧ b < B ∧ w.cell? ⟨b, off + k * 2, none⟩ = some (.int .i64 L[k].1) ∧ w.cell? ⟨b, off + k * 2 + 1, none⟩ = some (.int .i64 L[k].2) := by
  have hl : k * 2 + 1 < (plv L).length := by rw [plv_length]; omega
  rcases h with h | ⟨b, off, h1, h2, h3⟩
  · rw [h] at hl; simp at hl
  · have e0 := h3 (k * 2) (by omega)
    have e1 := h3 (k * 2 + 1) hl
    have g0 := flat_at (cells := plc) (c := 2) (fun _ => rfl) hk (j := 0) (by omega)
    have g1 := flat_at (cells := plc) (c := 2) (fun _ => rfl) hk (j := 1) (by omega)
    refine ⟨b, off, h1, h2, ?_, ?_⟩
    · rw [e0, List.getD_eq_getElem?_getD]
      have : (plv L)[k * 2]? = _ := g0
      rw [this]
      rfl
    · rw [Nat.add_assoc, e1, List.getD_eq_getElem?_getD]
      have : (plv L)[k * 2 + 1]? = _ := g1
      rw [this]
      rfl
theorem Tryz.info_plc : (Tryz.prog.info? 25).map (fun i => (i.zero, i.size, i.bytes)) = some (some (.agg #[.int .i64 0, .int .i64 0]), 2, 16) := by kernel_rfl
/-- append of one place -/
theorem wpList_appPl {ops : Array Oper} {rest : List Oper} {o : Oper} {a : Act} {w : World} {Q : Exit → Act → World → Prop} (hgd : o.guard = none) (s x : Operand)
    (ho : o.op = .call { callee := .builtin .append, args := #[s, x], argTypes := #[55, 55] })
    (base : Nat) (v : Value) (L : List Pl2) (hs : a.eval s = v) (hown : Lp w base v L) (g : Nat) (y : Pl2) (t : TypeId) (hnew : Own w g t (plv [y]))
    (hx : a.eval x = .slice (some ⟨g, 0, none⟩) 1 1) (hlen : L.length ≤ 1000000) (hbase : base ≤ w.heap.size)
    (h : ∀ g' cap w', Hid (Lp w' base (.slice (some ⟨g', 0, none⟩) (L.length + 1) cap) (L ++ [y])) → Chg (rowOf v) w w' → wpList Tryz.prog ops Q rest (a.put o.dst (.slice (some ⟨g', 0, none⟩) (L.length + 1) cap)) w') : wpList Tryz.prog ops Q (o :: rest) a w := by
  obtain ⟨i, hi, hzz⟩ := Option.map_eq_some_iff.1 Tryz.info_plc
  simp only [Prod.mk.injEq] at hzz
  obtain ⟨hz, hsz, hby⟩ := hzz
  refine wpList_append_lies w hgd s x 55 ho base 25 i _ 2 16 Tryz.underlying55 hi hz hsz hby rfl (by omega) v L.length (plv L) hs hown ⟨g, 0, none⟩ 1 1 (plv [y]) hx rfl (fun j u hu => ?_) (fun u hu => by simp [plv, plc] at hu; rcases hu with rfl | rfl <;> rfl) (by omega) (by unfold maxLen; omega) (by omega) hbase _ rfl fun g' cap w' h2 h3 h4 h5 => ?_
  · rw [add_off, Nat.zero_add, hnew.cell j]; exact hu
  · refine h g' cap w' (Lib.hid ?_) ((Chg.refl _ w).grown h3 (fun k hk => .inl (by simp [rowOf, hk])))
    show w'.ownsRow base 25 2 _ (L ++ [y]).length (plv (L ++ [y]))
    rw [List.length_append, plv_append]
    exact h2
/-- an act out of a slice that came in -/
theorem ac_range {w : World} {B : Nat} {a : Option Addr} {L : List AcT} (h : Ro w B a (L.flatMap AcT.cs)) {k : Nat} (hk : k < L.length) : ∃ b off, a = some ⟨b, off, none⟩ ∧ b < B ∧ w.rangeAt b (off + k * 26) L[k].cs := by
  have hl : (L.flatMap AcT.cs).length = L.length * 26 := flat_len (cells := AcT.cs) (fun _ => rfl) L
  rcases h with h | ⟨b, off, h1, h2, h3⟩
  · rw [h] at hl; simp at hl; omega
  · refine ⟨b, off, h1, h2, fun j v hv => ?_⟩
    have hj : j < 26 := by have := (List.getElem?_eq_some_iff.1 hv).1; exact this
    have g := flat_at (cells := AcT.cs) (c := 26) (fun _ => rfl) hk hj
    have := h3 (k * 26 + j) (by rw [hl]; omega)
    rw [Nat.add_assoc, this, List.getD_eq_getElem?_getD, g, hv]
    rfl
def zac : AcT := ⟨0, 0, zmT, (0, 0)⟩
theorem infoAc : (Tryz.prog.info? 59).map (·.size) = some 26 := by kernel_rfl
theorem AcT.one (A : AcT) : ∀ v ∈ A.cs, v.oneCell' = true := by
  intro v hv
  unfold AcT.cs at hv
  simp only [List.mem_cons, List.mem_append, List.not_mem_nil, or_false] at hv
  rcases hv with rfl | rfl | hv | rfl | rfl
  · rfl
  · rfl
  · exact A.m.one v hv
  · rfl
  · rfl
theorem wpList_loadAc {ops : Array Oper} {rest : List Oper} {o : Oper} {a : Act} {w : World} {Q : Exit → Act → World → Prop} (hgd : o.guard = none) (x : Operand) (ho : o.op = .load 59 x) (b off : Nat) (hx : a.eval x = .pointer (some ⟨b, off, none⟩)) (A : AcT) (hr : w.rangeAt b off A.cs)
    (h : wpList Tryz.prog ops Q rest (a.put o.dst (.agg A.cs.toArray)) w) : wpList Tryz.prog ops Q (o :: rest) a w :=
  wpList_load_mid hgd _ x ho b off hx A.cs _ hr Tryz.underlying59 rfl infoAc h
set_option maxRecDepth 100000 in
theorem wpList_storeAc {ops : Array Oper} {rest : List Oper} {o : Oper} {a : Act} {w : World} {Q : Exit → Act → World → Prop} (hgd : o.guard = none) (x y : Operand) (ho : o.op = .store 59 x y) (b : Nat) (hx : a.eval x = .pointer (some ⟨b, 0, none⟩)) (A : AcT) (hy : a.eval y = .agg A.cs.toArray) (old : List Value) (hr : Own w b 59 old) (hl : old.length = 26)
    (h : ∀ w', Own w' b 59 A.cs → Chg [b] w w' → wpList Tryz.prog ops Q rest (a.put o.dst undef) w') : wpList Tryz.prog ops Q (o :: rest) a w := by
  refine wpList_store_mid hgd _ x y ho b 0 A.cs.toArray hx hy (fun j hj => ?_) infoAc (all_oneCell_toArray A.one) (h _ ?_ ?_)
  · have hj' : j < 26 := hj
    rw [Nat.zero_add, hr.cell j]
    exact ⟨by simp [hl, hj'], hr.frozen j⟩
  · exact own_setCells A.cs [] old w hr (by rw [hl]; rfl)
  · exact (Chg.refl [b] w).setCells (.inl (by simp)) 0 _
theorem eqw_placeX (a b a' b' : Int) (w : World) : (Op.equalIn 10000 25 (.agg #[.int .i64 a, .int .i64 b]) (.agg #[.int .i64 a', .int .i64 b'])).run Tryz.prog w = .ok (decide (a = a' ∧ b = b')) w := by
  have g0 : ∀ (x y : Value), (part 23 #[x, y] 0).run Tryz.prog w = .ok x w := fun x y => run_part_cell Tryz.underlying23 rfl w
  have g1 : ∀ (x y : Value), (part 3 #[x, y] 1).run Tryz.prog w = .ok y w := fun x y => run_part_cell Tryz.underlying3 rfl w
  have gg : ∀ (x y : Value), (part 23 #[x, y] 1).run Tryz.prog w = .ok y w := fun x y => run_part_cell Tryz.underlying23 rfl w
  have ge : ∀ (x y : Int), (Op.equalIn 9999 3 (.int .i64 x) (.int .i64 y)).run Tryz.prog w = .ok (x == y) w := fun x y => run_equalIn_int w 9998 3 .i64 .i64 _ _ Tryz.underlying3
  have gr : ∀ (x y : Int), (Op.equalIn 9999 23 (.int .i64 x) (.int .i64 y)).run Tryz.prog w = .ok (x == y) w := fun x y => run_equalIn_int w 9998 23 .i64 .i64 _ _ Tryz.underlying23
  refine (run_equalIn_struct w 9999 25 _ _ (by kernel_rfl) (by kernel_rfl)).trans ?_
  simp [Program.fieldsOf, Tryz.underlying25, Op.eqFields, g0, g1, gg, ge, gr]
  by_cases h1 : a = a'
  · by_cases h2 : b = b' <;> simp [h1, h2]
  · simp [h1]
theorem neq_placeX (p q : Pl2) {r : Bool} (h : decide (p ≠ q) = r) (w : World) : (binOp .neq 25 (.agg #[.int .i64 p.1, .int .i64 p.2]) (.agg #[.int .i64 q.1, .int .i64 q.2])).run Tryz.prog w = .ok (.bool r) w := by
  have e : (binOp .neq 25 (.agg #[.int .i64 p.1, .int .i64 p.2]) (.agg #[.int .i64 q.1, .int .i64 q.2])).run Tryz.prog w = .ok (.bool (!decide (p.1 = q.1 ∧ p.2 = q.2))) w := by
    first
      | (rw [run_neq_struct, eqw_placeX]; rfl)
      | (simp [binOp, eqw_placeX])
  have e2 : (!decide (p.1 = q.1 ∧ p.2 = q.2)) = r := by
    rw [← h]
    by_cases hpq : p = q
    · subst hpq; simp
    · have : ¬ (p.1 = q.1 ∧ p.2 = q.2) := fun ⟨a, b⟩ => hpq (Prod.ext a b)
      simp [hpq, this]
  rw [e, e2]
end Go.Proofs.YteenlkmnadjnpaaGreat
namespace Go.Proofs.YteenlkmnadjnpaaGreat
open Go.RowKit Go.Deep Go.Shelf
set_option linter.unusedVariables false
set_option linter.unusedSimpArgs false

set_option maxHeartbeats 1000000 in
theorem sameChainW_any (L M : List Int) (a a2 : Option Addr) (c c2 B : Nat) (w : World) (hro : Ro w B a (i64s L)) (hro2 : Ro w B a2 (i64s M)) (hB : B ≤ w.heap.size) (hl : L.length ≤ 9223372036854775807) (hl2 : M.length ≤ 9223372036854775807) :
    Calls Tryz.prog 119 #[.slice a L.length c, .slice a2 M.length c2] w fun e w' => e = .returned (.bool (decide (L = M))) ∧ Below w.heap.size w w' := by
  by_cases hlm : L.length = M.length
  · have HRO := Lib.hid hro
    have HRO2 := Lib.hid hro2
    have HS := Lib.hid hB
    have HN2 := Lib.hid hlm
    rw [← hlm] at hl2 ⊢
    generalize hN : L.length = n at *
    have HN := Lib.hid hN
    have hn1 : (n : Int) ≤ 9223372036854775807 := by omega
    obtain ⟨t, HT⟩ : ∃ t, Hid (decide (L = M) = t) := ⟨_, Lib.hid rfl⟩
    rw [HT.out]
    clear hro hro2 hB hN hlm hl2
    go_enter Tryz.func119, Tryz.ntmps119
    go_wp2_with fail
    go_loopw [5] (fun i wr => ∃ k : Nat, k ≤ n ∧ i = .int .i64 (k : Int) ∧ Hid (∀ j, j < k → L.getD j 0 = M.getD j 0) ∧ Hid (Below w.heap.size w wr)) (fun i _ => n - (intOf i).toNat)
    case atStart => exact ⟨0, Nat.zero_le _, rfl, Lib.hid (by omega), Lib.hid (Below.refl _ _)⟩
    case round =>
      obtain ⟨k, hk, rfl, HM, HBk⟩ := hrel
      by_cases hlt : k < n
      · have hkL : k < L.length := by rw [HN.out]; exact hlt
        have hkM : k < M.length := by rw [← HN2.out]; exact hlt
        obtain ⟨b, off, rfl, hb, hc⟩ := (HRO.out.below HBk.out HS.out).i64 (show 0 < L.length by omega)
        obtain ⟨b2, off2, rfl, hb2, hc2⟩ := (HRO2.out.below HBk.out HS.out).i64 (show 0 < M.length by omega)
        have e1 := hc k hkL
        have e2 := hc2 k hkM
        clear hc hc2
        have hk0 : (0 : Int) ≤ (k : Int) := by omega
        have hk1 : (k : Int) < (n : Int) := by omega
        obtain ⟨y, hy⟩ : ∃ y, L.getD k 0 = y := ⟨_, rfl⟩
        obtain ⟨z, hz⟩ : ∃ z, M.getD k 0 = z := ⟨_, rfl⟩
        rw [hy] at e1
        rw [hz] at e2
        have HY := Lib.hid hy
        have HZ := Lib.hid hz
        clear hy hz
        by_cases hx : y = z
        · have hx' : (y != z) = false := by rw [bne_eq_false_iff_eq]; exact hx
          have HX := Lib.hid hx
          clear hx
          go_wp2_with fail
          go_region
          go_wp2_with fail
          go_roundw
          case rel =>
            refine ⟨k + 1, by omega, by go_num, Lib.hid fun j hj => ?_, Lib.hid HBk.out.drew⟩
            by_cases e : j = k
            · subst e; rw [HY.out, HZ.out]; exact HX.out
            · exact HM.out j (by omega)
          case measure => simp [intOf]; omega
        · have hx' : (y != z) = true := by rw [bne_iff_ne]; exact hx
          obtain rfl : t = false := by
            rw [← HT.out]
            simp only [decide_eq_false_iff_not]
            rintro rfl
            exact hx (HY.out.symm.trans HZ.out)
          clear hx
          go_wp2_with fail
          go_region
          go_wp2_with fail
          go_ret
          exact ⟨rfl, HBk.out.drew⟩
      · obtain rfl : k = n := by omega
        obtain rfl : t = true := by
          rw [← HT.out]
          simp only [decide_eq_true_eq]
          apply List.ext_getElem (by rw [HN.out]; exact HN2.out)
          intro i h1 h2
          have := HM.out i (by rw [HN.out] at h1; exact h1)
          simpa [List.getD, h1, h2] using this
        go_wp2_with fail
        go_ret
        exact ⟨rfl, HBk.out⟩
  · have e : decide (L = M) = false := by simp only [decide_eq_false_iff_not]; rintro rfl; exact hlm rfl
    rw [e]
    generalize L.length = n at *
    generalize M.length = m at *
    have hne : ((n : Int) != (m : Int)) = true := by rw [bne_iff_ne]; omega
    clear hlm e hro hro2
    go_enter Tryz.func119, Tryz.ntmps119
    go_wp2_with fail
    go_ret
    exact ⟨rfl, Below.refl _ _⟩


theorem same10_any (L M : List Int) (a a2 : Option Addr) (c c2 B : Nat) (w : World) (hro : Ro w B a (i64s L)) (hro2 : Ro w B a2 (i64s M)) (hB : B ≤ w.heap.size) (hl : L.length ≤ 9223372036854775807) (hl2 : M.length ≤ 9223372036854775807) :
    Calls Tryz.prog 61 #[.slice a L.length c, .slice a2 M.length c2] w fun e w' => e = .returned (.bool (decide (L = M))) ∧ Below w.heap.size w w' := by
  have H := Lib.hid (sameChainW_any L M a a2 c c2 B w hro hro2 hB hl hl2)
  generalize decide (L = M) = t at *
  generalize L.length = n at *
  generalize M.length = m at *
  clear hro hro2 hB hl hl2
  go_enter Tryz.func61, Tryz.ntmps61
  go_wp2_with fail
  refine H.out.mono ?_
  rintro e w1 ⟨rfl, hb⟩
  have HB := Lib.hid hb
  clear hb
  go_wp2_with fail
  go_ret
  exact ⟨rfl, HB.out⟩
end Go.Proofs.YteenlkmnadjnpaaGreat
namespace Go.Proofs.YteenlkmnadjnpaaGreat
open Go.RowKit Go.Deep Go.Shelf
set_option linter.unusedVariables false
set_option linter.unusedSimpArgs false

set_option maxHeartbeats 4000000 in
theorem rlsame_any (A B : LyT) (B0 : Nat) (w0 : World) (ha : LyIn w0 B0 A) (hb : LyIn w0 B0 B) (hfa : SgFit A.sg) (hfb : SgFit B.sg) (hB : B0 ≤ w0.heap.size) :
    Calls Tryz.prog 63 #[A.val, B.val] w0 fun e w' => e = .returned (.bool (lalike A.x B.x)) ∧ Below w0.heap.size w0 w' := by
  obtain ⟨f, a, c, L, q⟩ := A
  obtain ⟨f', a', c', L', q'⟩ := B
  simp only [LyT.val] at *
  obtain ⟨W, HWW⟩ : ∃ W, Hid ((w0.alloc (.cells #[.int .u64 (f : Int), .slice a L.length c, .int .i64 q] 38)).alloc (.cells #[.int .u64 (f' : Int), .slice a' L'.length c', .int .i64 q'] 38) = W) := ⟨_, Lib.hid rfl⟩
  have hWc : Chg [] w0 W := by rw [← HWW.out]; exact ((Chg.refl [] w0).alloc _).alloc _
  have hWb : Below w0.heap.size w0 W := hWc.low
  have o1 : Own W w0.heap.size 38 [.int .u64 (f : Int), .slice a L.length c, .int .i64 q] := by rw [← HWW.out]; exact (Own.new w0 _ _).alloc _
  have o2 : Own W (w0.heap.size + 1) 38 [.int .u64 (f' : Int), .slice a' L'.length c', .int .i64 q'] := by
    rw [← HWW.out]
    have := Own.new (w0.alloc (.cells #[.int .u64 (f : Int), .slice a L.length c, .int .i64 q] 38)) 38 [.int .u64 (f' : Int), .slice a' L'.length c', .int .i64 q']
    simpa using this
  obtain ⟨t, HT⟩ : ∃ t, Hid (lalike (LyT.x ⟨f, a, c, L, q⟩) (LyT.x ⟨f', a', c', L', q'⟩) = t) := ⟨_, Lib.hid rfl⟩
  rw [HT.out]
  have HLK : Hid (lalike (LyT.x ⟨f, a, c, L, q⟩) (LyT.x ⟨f', a', c', L', q'⟩) = true ↔ f = f' ∧ q = q' ∧ sgx L = sgx L') := Lib.hid ⟨fun h => by
    have := lalike_iff.1 h
    simp only [LyT.x, Ly.mk.injEq] at this
    exact ⟨this.1, this.2.2, this.2.1⟩, fun ⟨h1, h2, h3⟩ => lalike_iff.2 (by simp only [LyT.x, h1, h2, h3])⟩
  rw [HT.out] at HLK
  have HA := Lib.hid (And.intro (ha.1.below hWb hB) (ha.2.below hWb hB))
  have HBb := Lib.hid (And.intro (hb.1.below hWb hB) (hb.2.below hWb hB))
  have HS := Lib.hid (Nat.le_trans hB hWb.size)
  have HFA := Lib.hid hfa.2
  have HFB := Lib.hid hfb.2
  have hl1 := hfa.1
  have hl2 := hfb.1
  have HB := Lib.hid hWb
  have HO1 := Lib.hid o1
  have HO2 := Lib.hid o2
  have c0 := o1.cell 0
  have c1 := o1.cell 1
  have c2 := o1.cell 2
  have d0 := o2.cell 0
  have d1 := o2.cell 1
  have d2 := o2.cell 2
  simp at c0 c1 c2 d0 d1 d2
  have HK : Hid (∀ V, Below W.heap.size W V → V.cell? ⟨w0.heap.size, 1, none⟩ = some (.slice a L.length c) ∧ V.cell? ⟨w0.heap.size + 1, 1, none⟩ = some (.slice a' L'.length c')) := Lib.hid fun V hV => ⟨cell_keep hV c1 (World.block_lt_of_cell? _ _ c1), cell_keep hV d1 (World.block_lt_of_cell? _ _ d1)⟩
  obtain ⟨n, hn⟩ : ∃ n, L.length = n := ⟨_, rfl⟩
  obtain ⟨m, hm⟩ : ∃ m, L'.length = m := ⟨_, rfl⟩
  rw [hn] at HK HO1 c1 hl1 HWW ⊢
  rw [hm] at HK HO2 d1 hl2 HWW ⊢
  have HN := Lib.hid hn
  have HM := Lib.hid hm
  clear hWc hWb o1 o2 ha hb hfa hfb hB hn hm
  go_enter Tryz.func63, Tryz.ntmps63
  go_upto_region 1 with fail
  rw [HWW.out]
  by_cases e : f = f'
  case neg =>
    have e1 : ((f : Int) != (f' : Int)) = true := by rw [bne_iff_ne]; omega
    obtain rfl : t = false := by cases t with | false => rfl | true => exact absurd (HLK.out.1 rfl).1 e
    clear e
    go_wp2_with fail
    go_ret
    exact ⟨rfl, HB.out⟩
  subst e
  by_cases e : q = q'
  case neg =>
    have e1 : (q != q') = true := by rw [bne_iff_ne]; exact e
    obtain rfl : t = false := by cases t with | false => rfl | true => exact absurd (HLK.out.1 rfl).2.1 e
    clear e
    go_wp2_with fail
    go_ret
    exact ⟨rfl, HB.out⟩
  subst e
  by_cases e : n = m
  case neg =>
    have e1 : ((n : Int) != (m : Int)) = true := by rw [bne_iff_ne]; omega
    obtain rfl : t = false := by
      cases t with
      | false => rfl
      | true =>
        have := congrArg List.length (HLK.out.1 rfl).2.2
        simp only [sgx_length, HN.out, HM.out] at this
        exact absurd this e
    clear e
    go_wp2_with fail
    go_ret
    exact ⟨rfl, HB.out⟩
  subst e
  go_wp2_with fail
  clear c0 c1 c2 d0 d1 d2
  go_loopw [5] (fun i wr => ∃ k : Nat, k ≤ n ∧ i = .int .i64 (k : Int) ∧ Hid (∀ j, j < k → (st L j).x = (st L' j).x) ∧ Hid (Below W.heap.size W wr)) (fun i _ => n - (intOf i).toNat)
  case atStart => exact ⟨0, Nat.zero_le _, rfl, Lib.hid (by omega), Lib.hid (Below.refl _ _)⟩
  case round =>
    obtain ⟨k, hk, rfl, HE, HBk⟩ := hrel
    rename World => w6
    by_cases hlt : k < n
    · have hkA : k < L.length := by rw [HN.out]; exact hlt
      have hkB : k < L'.length := by rw [HM.out]; exact hlt
      obtain ⟨g, off, rfl, hg, hcl⟩ := (HA.out.1.below HBk.out HS.out).sg (show 0 < L.length by omega)
      obtain ⟨g', off', rfl, hg', hcl'⟩ := (HBb.out.1.below HBk.out HS.out).sg (show 0 < L'.length by omega)
      obtain ⟨h1, h2⟩ := hcl k hkA
      obtain ⟨h4, h5⟩ := hcl' k hkB
      have HCA := Lib.hid (HA.out.2 _ (st_mem hkA))
      have HCB := Lib.hid (HBb.out.2 _ (st_mem hkB))
      have HQA := Lib.hid (HFA.out _ (st_mem hkA))
      have HQB := Lib.hid (HFB.out _ (st_mem hkB))
      clear hcl hcl'
      obtain ⟨x, hx⟩ : ∃ x, st L k = x := ⟨_, rfl⟩
      obtain ⟨y, hy⟩ : ∃ y, st L' k = y := ⟨_, rfl⟩
      rw [hx] at h1 h2 HCA HQA
      rw [hy] at h4 h5 HCB HQB
      have HX := Lib.hid hx
      have HY := Lib.hid hy
      obtain ⟨xf, xa, xc, xu⟩ := x
      obtain ⟨yf, ya, yc, yu⟩ := y
      simp only at h1 h2 h4 h5 HCA HCB HQA HQB
      have hk0 : (0 : Int) ≤ (k : Int) := by omega
      have hk1 : (k : Int) < (n : Int) := by omega
      clear hx hy
      obtain ⟨xn, hxn⟩ : ∃ n, xu.length = n := ⟨_, rfl⟩
      obtain ⟨yn, hyn⟩ : ∃ n, yu.length = n := ⟨_, rfl⟩
      rw [hxn] at h2
      rw [hyn] at h5
      have HXN := Lib.hid hxn
      have HYN := Lib.hid hyn
      clear hxn hyn
      obtain ⟨k1, k2⟩ := HK.out w6 HBk.out
      have hz6 : W.heap.size ≤ w6.heap.size := HBk.out.size
      have hgz2 : g < w6.heap.size := by have := HS.out; omega
      have hgz2' : g' < w6.heap.size := by have := HS.out; omega
      have hw0 : w0.heap.size + 1 < w6.heap.size := by have := HO2.out.lt; omega
      have a2 : (w6.alloc (.cells #[.int .u64 (xf : Int), .slice xa xn xc] 135)).cell? ⟨w0.heap.size + 1, 1, none⟩ = some (.slice (some ⟨g', off', none⟩) n c') := (((Chg.refl [] w6).alloc _).cell k2 (by simp))
      have h4' : (w6.alloc (.cells #[.int .u64 (xf : Int), .slice xa xn xc] 135)).cell? ⟨g', off' + k * 2, none⟩ = some (.int .u64 (yf : Int)) := (((Chg.refl [] w6).alloc _).cell h4 (by simp))
      have h5' : (w6.alloc (.cells #[.int .u64 (xf : Int), .slice xa xn xc] 135)).cell? ⟨g', off' + k * 2 + 1, none⟩ = some (.slice ya yn yc) := (((Chg.refl [] w6).alloc _).cell h5 (by simp))
      go_upto_region 8 with fail
      obtain ⟨r1, hr1⟩ : ∃ r, w6.heap.size = r := ⟨_, rfl⟩
      obtain ⟨W6, hW6⟩ : ∃ V, (w6.alloc (.cells #[.int .u64 (xf : Int), .slice xa xn xc] 135)).alloc (.cells #[.int .u64 (yf : Int), .slice ya yn yc] 135) = V := ⟨_, rfl⟩
      have HS1 : Hid (Own W6 r1 135 [.int .u64 (xf : Int), .slice xa xn xc]) := Lib.hid (by rw [← hW6, ← hr1]; exact (Own.new w6 _ _).alloc _)
      have HS2 : Hid (Own W6 (r1 + 1) 135 [.int .u64 (yf : Int), .slice ya yn yc]) := Lib.hid (by
        have := Own.new (w6.alloc (.cells #[.int .u64 (xf : Int), .slice xa xn xc] 135)) 135 [.int .u64 (yf : Int), .slice ya yn yc]
        rw [World.size_alloc, hW6, hr1] at this
        exact this)
      have HB6 : Hid (Below W.heap.size W W6) := Lib.hid (by rw [← hW6]; exact (HBk.out.alloc HBk.out.size _).alloc (by simp; omega) _)
      rw [hW6, hr1]
      clear hW6 hr1 a2 h4' h5' k1 k2 h1 h2 h4 h5 hgz2 hgz2' hw0 hz6 hg hg'
      have hxn2 : xn ≤ 9223372036854775807 := by have := HQA.out.1; have := HXN.out; omega
      have hyn2 : yn ≤ 9223372036854775807 := by have := HQB.out.1; have := HYN.out; omega
      have HSG : Hid (∀ V, Below W6.heap.size W6 V → V.cell? ⟨r1, 1, none⟩ = some (.slice xa xn xc) ∧ V.cell? ⟨r1 + 1, 1, none⟩ = some (.slice ya yn yc)) := Lib.hid fun V hV => ⟨(HS1.out.below hV HS1.out.lt).cell 1 |>.trans rfl, (HS2.out.below hV HS2.out.lt).cell 1 |>.trans rfl⟩
      have s0 := HS1.out.cell 0
      have s1 := HS1.out.cell 1
      have u0 := HS2.out.cell 0
      have u1 := HS2.out.cell 1
      have hz1 := HS1.out.lt
      have hz2 := HS2.out.lt
      simp at s0 s1 u0 u1
      have HFALSE : Hid ((SgT.x ⟨xf, xa, xc, xu⟩ ≠ SgT.x ⟨yf, ya, yc, yu⟩) → t = false) := Lib.hid (fun hne => by
        cases t with
        | false => rfl
        | true =>
          have := congrArg (fun l => sx l k) (HLK.out.1 rfl).2.2
          simp only [sx_sgx, HX.out, HY.out] at this
          exact absurd this hne)
      by_cases e : xf = yf
      case neg =>
        have e1 : ((xf : Int) != (yf : Int)) = true := by rw [bne_iff_ne]; omega
        obtain rfl : t = false := HFALSE.out (fun h => e (congrArg Prod.fst h))
        clear e
        go_wp2_with fail
        go_ret
        exact ⟨rfl, HB.out.trans (HB6.out.mono HB.out.size)⟩
      subst e
      by_cases e : xn = yn
      case neg =>
        have e1 : ((xn : Int) != (yn : Int)) = true := by rw [bne_iff_ne]; omega
        obtain rfl : t = false := HFALSE.out (fun h => e (by
          have := congrArg (fun z => List.length (Prod.snd z)) h
          simp only [SgT.x, chx_length, HXN.out, HYN.out] at this
          exact this))
        clear e
        go_wp2_with fail
        go_ret
        exact ⟨rfl, HB.out.trans (HB6.out.mono HB.out.size)⟩
      subst e
      go_wp2_with fail
      clear s0 s1 u0 u1
      go_loopw [8] (fun i wr => ∃ j : Nat, j ≤ xn ∧ i = .int .i64 (j : Int) ∧ Hid (∀ i, i < j → (ct xu i).u = (ct yu i).u) ∧ Hid (Below W6.heap.size W6 wr)) (fun i _ => xn - (intOf i).toNat)
      case atStart => exact ⟨0, Nat.zero_le _, rfl, Lib.hid (by omega), Lib.hid (Below.refl _ _)⟩
      case round =>
        obtain ⟨j, hj, rfl, HEj, HBj⟩ := hrel
        rename World => w7
        obtain ⟨v1, v2⟩ := HSG.out w7 HBj.out
        by_cases hlt2 : j < xn
        · have hjA : j < xu.length := by rw [HXN.out]; exact hlt2
          have hjB : j < yu.length := by rw [HYN.out]; exact hlt2
          have HB7 := Lib.hid (HB6.out.trans (HBj.out.mono HB6.out.size))
          have hBW : B0 ≤ W.heap.size := HS.out
          obtain ⟨b, o, rfl, hb, hc⟩ := (HCA.out.1.below HB7.out HS.out).ch (show 0 < xu.length by omega)
          obtain ⟨b', o', rfl, hb', hc'⟩ := (HCB.out.1.below HB7.out HS.out).ch (show 0 < yu.length by omega)
          have p1 := hc j hjA
          have p2 := hc' j hjB
          have HDA := Lib.hid (HCA.out.2 _ (ct_mem hjA))
          have HDB := Lib.hid (HCB.out.2 _ (ct_mem hjB))
          have HPA := Lib.hid (HQA.out.2 _ (ct_mem hjA))
          have HPB := Lib.hid (HQB.out.2 _ (ct_mem hjB))
          clear hc hc'
          obtain ⟨x2, hx2⟩ : ∃ x, ct xu j = x := ⟨_, rfl⟩
          obtain ⟨y2, hy2⟩ : ∃ x, ct yu j = x := ⟨_, rfl⟩
          rw [hx2] at p1 HDA HPA
          rw [hy2] at p2 HDB HPB
          have HX2 := Lib.hid hx2
          have HY2 := Lib.hid hy2
          obtain ⟨ga, gc, gu⟩ := x2
          obtain ⟨ga', gc', gu'⟩ := y2
          simp only at p1 p2 HDA HDB HPA HPB
          have HSC := Lib.hid (fun (V : World) (hV : Below w7.heap.size w7 V) => sameChainW_any gu gu' ga ga' gc gc' B0 V (HDA.out.below (HB7.out.trans (hV.mono HB7.out.size)) HS.out) (HDB.out.below (HB7.out.trans (hV.mono HB7.out.size)) HS.out) (Nat.le_trans HS.out (Nat.le_trans HB7.out.size hV.size)) HPA.out HPB.out)
          obtain ⟨r, hr⟩ : ∃ r, decide (gu = gu') = r := ⟨_, rfl⟩
          rw [hr] at HSC
          have HR := Lib.hid hr
          have hj0 : (0 : Int) ≤ (j : Int) := by omega
          have hj1 : (j : Int) < (xn : Int) := by omega
          clear hx2 hy2 hr hBW
          generalize gu.length = gn at *
          generalize gu'.length = gn' at *
          go_upto_region 13 with fail
          refine wp_region_held_drew (S := (fun V => Below w7.heap.size w7 V ∧ V.cell? ⟨r1, 1, none⟩ = some (.slice (some ⟨b, o, none⟩) xn xc) ∧ V.cell? ⟨r1 + 1, 1, none⟩ = some (.slice (some ⟨b', o', none⟩) xn yc) ∧ V.cell? ⟨b, o + j, none⟩ = some (.slice ga gn gc) ∧ V.cell? ⟨b', o' + j, none⟩ = some (.slice ga' gn' gc'))) (by kernel_rfl) ⟨(Below.refl _ _).drew, v1, v2, p1, p2⟩ (fun hHeld => ?_)
          refine wpAnyH_take (i := 0) (v := ?_) rfl (by kernel_rfl) (by kernel_rfl) (by kernel_rfl) (fun _ _ _ h => h) (Or.inl ⟨by kernel_rfl, ?_⟩) hHeld ?_
          rotate_left
          · (intro w hSw; first | (go_simp; done) | (go_simp; with_reducible rfl))
          (try simp only [Act.put, List.getElem_toArray, List.getElem_cons_succ, List.getElem_cons_zero, List.setIfInBounds_toArray, List.set_cons_zero, List.set_cons_succ])
          refine wpAnyH_take (i := 1) (v := ?_) rfl (by kernel_rfl) (by kernel_rfl) (by kernel_rfl) (fun _ _ _ h => h) (Or.inl ⟨by kernel_rfl, ?_⟩) hHeld ?_
          rotate_left
          · (intro w hSw; first | (go_simp; done) | (go_simp; with_reducible rfl))
          (try simp only [Act.put, List.getElem_toArray, List.getElem_cons_succ, List.getElem_cons_zero, List.setIfInBounds_toArray, List.set_cons_zero, List.set_cons_succ])
          refine wpAnyH_take (i := 2) (v := ?_) rfl (by kernel_rfl) (by kernel_rfl) (by kernel_rfl) (fun _ _ _ h => h) (Or.inl ⟨by kernel_rfl, ?_⟩) hHeld ?_
          rotate_left
          · (intro w hSw; first | (go_simp; done) | (go_simp; with_reducible rfl))
          (try simp only [Act.put, List.getElem_toArray, List.getElem_cons_succ, List.getElem_cons_zero, List.setIfInBounds_toArray, List.set_cons_zero, List.set_cons_succ])
          refine wpAnyH_take (i := 3) (v := ?_) rfl (by kernel_rfl) (by kernel_rfl) (by kernel_rfl) (fun _ _ _ h => h) (Or.inl ⟨by kernel_rfl, ?_⟩) hHeld ?_
          rotate_left
          · (intro w hSw; first | (go_simp; done) | (go_simp; with_reducible rfl))
          (try simp only [Act.put, List.getElem_toArray, List.getElem_cons_succ, List.getElem_cons_zero, List.setIfInBounds_toArray, List.set_cons_zero, List.set_cons_succ])
          refine wpAnyH_take (i := 4) (v := ?_) rfl (by kernel_rfl) (by kernel_rfl) (by kernel_rfl) (fun _ _ _ h => h) (Or.inl ⟨by kernel_rfl, ?_⟩) hHeld ?_
          rotate_left
          · (intro w hSw; first | (go_simp; done) | (go_simp; with_reducible rfl))
          (try simp only [Act.put, List.getElem_toArray, List.getElem_cons_succ, List.getElem_cons_zero, List.setIfInBounds_toArray, List.set_cons_zero, List.set_cons_succ])
          refine wpAnyH_take (i := 5) (v := ?_) rfl (by kernel_rfl) (by kernel_rfl) (by kernel_rfl) (fun _ _ _ h => h) (Or.inl ⟨by kernel_rfl, ?_⟩) hHeld ?_
          rotate_left
          · (intro w hSw; first | (go_simp; done) | (go_simp; with_reducible rfl))
          (try simp only [Act.put, List.getElem_toArray, List.getElem_cons_succ, List.getElem_cons_zero, List.setIfInBounds_toArray, List.set_cons_zero, List.set_cons_succ])
          refine wpAnyH_take (i := 6) (v := ?_) rfl (by kernel_rfl) (by kernel_rfl) (by kernel_rfl) (fun _ _ _ h => h) (Or.inl ⟨by kernel_rfl, ?_⟩) hHeld ?_
          rotate_left
          · (intro w hSw; first | (go_simp; done) | (go_simp; with_reducible rfl))
          (try simp only [Act.put, List.getElem_toArray, List.getElem_cons_succ, List.getElem_cons_zero, List.setIfInBounds_toArray, List.set_cons_zero, List.set_cons_succ])
          refine wpAnyH_take (i := 7) (v := ?_) rfl (by kernel_rfl) (by kernel_rfl) (by kernel_rfl) (fun _ _ _ h => h) (Or.inl ⟨by kernel_rfl, ?_⟩) hHeld ?_
          rotate_left
          · (intro w hSw; first | (go_simp; done) | (go_simp; with_reducible rfl))
          (try simp only [Act.put, List.getElem_toArray, List.getElem_cons_succ, List.getElem_cons_zero, List.setIfInBounds_toArray, List.set_cons_zero, List.set_cons_succ])
          refine wpAnyH_take (i := 8) (v := ?_) rfl (by kernel_rfl) (by kernel_rfl) (by kernel_rfl) (fun _ _ _ h => h) (Or.inl ⟨by kernel_rfl, ?_⟩) hHeld ?_
          rotate_left
          · (intro w hSw; first | (go_simp; done) | (go_simp; with_reducible rfl))
          (try simp only [Act.put, List.getElem_toArray, List.getElem_cons_succ, List.getElem_cons_zero, List.setIfInBounds_toArray, List.set_cons_zero, List.set_cons_succ])
          refine wpAnyH_take (i := 9) (v := ?_) rfl (by kernel_rfl) (by kernel_rfl) (by kernel_rfl) (fun _ _ _ h => h) (Or.inl ⟨by kernel_rfl, ?_⟩) hHeld ?_
          rotate_left
          · (intro w hSw; first | (go_simp; done) | (go_simp; with_reducible rfl))
          (try simp only [Act.put, List.getElem_toArray, List.getElem_cons_succ, List.getElem_cons_zero, List.setIfInBounds_toArray, List.set_cons_zero, List.set_cons_succ])
          refine wpAnyH_ready (rs := [10]) (by kernel_rfl) (by simp) (AllReadyH.cons rfl (fun K hK => ?_) AllReadyH.nil)
          have hH := hHeld
          (go_simp; go_at_call 119; refine (HSC.out _ hH.1).mono ?_; rintro e w9 ⟨rfl, hb9⟩)
          refine hK.out _ _ (by exact ⟨hH.1.trans (hb9.mono hH.1.size), cell_keep hb9 hH.2.1 (World.block_lt_of_cell? _ _ hH.2.1), cell_keep hb9 hH.2.2.1 (World.block_lt_of_cell? _ _ hH.2.2.1), cell_keep hb9 hH.2.2.2.1 (World.block_lt_of_cell? _ _ hH.2.2.2.1), cell_keep hb9 hH.2.2.2.2 (World.block_lt_of_cell? _ _ hH.2.2.2.2)⟩) (fun hHq1 => ?_)
          clear hK K hH 
          (try simp only [Act.put, List.getElem_toArray, List.getElem_cons_succ, List.getElem_cons_zero, List.setIfInBounds_toArray, List.set_cons_zero, List.set_cons_succ])
          refine wpAnyH_take (i := 11) (v := ?_) rfl (by kernel_rfl) (by kernel_rfl) (by kernel_rfl) (fun _ _ _ h => h) (Or.inl ⟨by kernel_rfl, ?_⟩) hHq1 ?_
          rotate_left
          · (intro w hSw; first | (go_simp; done) | (go_simp; with_reducible rfl))
          (try simp only [Act.put, List.getElem_toArray, List.getElem_cons_succ, List.getElem_cons_zero, List.setIfInBounds_toArray, List.set_cons_zero, List.set_cons_succ])
          refine wpAnyH_done (by kernel_rfl) ?_ _
          have hEnd := hHq1
          have HB9 := Lib.hid (HBj.out.trans (hEnd.1.mono HBj.out.size))
          clear hHeld hEnd v1 v2 p1 p2
          cases r with
          | true =>
            go_wp2_with fail
            go_roundw
            case rel =>
              refine ⟨j + 1, by omega, by go_num, Lib.hid fun i hi => ?_, HB9⟩
              by_cases e : i = j
              · subst e
                rw [HX2.out, HY2.out]
                exact of_decide_eq_true HR.out
              · exact HEj.out i (by omega)
            case measure => simp [intOf]; omega
          | false =>
            obtain rfl : t = false := HFALSE.out (fun h => by
              have := congrArg (fun z : Sg => cx z.2 j) h
              simp only [SgT.x, cx_chx, HX2.out, HY2.out] at this
              exact of_decide_eq_false HR.out this)
            go_wp2_with fail
            go_ret
            exact ⟨rfl, HB.out.trans ((HB6.out.trans (HB9.out.mono HB6.out.size)).mono HB.out.size)⟩
        · obtain rfl : j = xn := by omega
          go_wp2_with fail
          go_roundw
          case rel =>
            refine ⟨k + 1, by omega, by go_num, Lib.hid fun i hi => ?_, Lib.hid (HB6.out.trans (HBj.out.mono HB6.out.size))⟩
            by_cases e : i = k
            · subst e
              rw [HX.out, HY.out]
              simp only [SgT.x, Prod.mk.injEq, true_and]
              exact chx_ext (by rw [HXN.out, HYN.out]) (by rw [HXN.out]; exact HEj.out)
            · exact HE.out i (by omega)
          case measure => simp [intOf]; omega
    · obtain rfl : k = n := by omega
      obtain ⟨k1, k2⟩ := HK.out w6 HBk.out
      obtain rfl : t = true := HLK.out.2 ⟨by trivial, by trivial, sgx_ext (by rw [HN.out, HM.out]) (by rw [HN.out]; exact HE.out)⟩
      go_wp2_with fail
      go_ret
      exact ⟨rfl, HB.out.trans (HBk.out.mono HB.out.size)⟩
end Go.Proofs.YteenlkmnadjnpaaGreat
namespace Go.Proofs.YteenlkmnadjnpaaGreat
open Go.RowKit Go.Deep
set_option linter.unusedVariables false
set_option linter.unusedSimpArgs false
set_option maxRecDepth 100000

theorem bytes_beq (l l' : List UInt8) : (({ data := l.toArray } : ByteArray) == ({ data := l'.toArray } : ByteArray)) = decide (l = l') := by
  rw [beq_toListBytes, ByteArray.toList_eq, ByteArray.toList_eq]
  by_cases h : l = l'
  · subst h; simp
  · simp [h]
set_option maxHeartbeats 2000000 in
theorem rsame_any (x y : Ce) (a : Option Addr) (c : Nat) (a2 : Option Addr) (c2 : Nat) (b : Option Addr) (d : Nat) (b2 : Option Addr) (d2 B : Nat) (w : World) (hx : Ro w B a (u8s x.d)) (hx2 : Ro w B a2 (bcs x.b)) (hy : Ro w B b (u8s y.d)) (hy2 : Ro w B b2 (bcs y.b)) (hB : B ≤ w.heap.size)
    (hl : x.b.length ≤ 1000000) (hl2 : y.b.length ≤ 1000000) :
    Calls Tryz.prog 62 #[cev x.k a x.d.length c a2 x.b.length c2, cev y.k b y.d.length d b2 y.b.length d2] w fun e w' => e = .returned (.bool (alike x y)) ∧ Below w.heap.size w w' := by
  obtain ⟨k, l, L⟩ := x
  obtain ⟨k', l', L'⟩ := y
  simp only at hx hx2 hy hy2 hl hl2 ⊢
  obtain ⟨W, hW⟩ : ∃ W, (w.alloc (.cells #[.int .i64 k, .slice a l.length c, .slice a2 L.length c2] 32)).alloc (.cells #[.int .i64 k', .slice b l'.length d, .slice b2 L'.length d2] 32) = W := ⟨_, rfl⟩
  have hbW : Below w.heap.size w W := by rw [← hW]; exact ((Below.refl _ w).alloc (Nat.le_refl _) _).alloc (by simp) _
  have o1 : Own W w.heap.size 32 [.int .i64 k, .slice a l.length c, .slice a2 L.length c2] := by rw [← hW]; exact (Own.new w _ _).alloc _
  have o2 : Own W (w.heap.size + 1) 32 [.int .i64 k', .slice b l'.length d, .slice b2 L'.length d2] := by
    rw [← hW]
    have := Own.new (w.alloc (.cells #[.int .i64 k, .slice a l.length c, .slice a2 L.length c2] 32)) 32 [.int .i64 k', .slice b l'.length d, .slice b2 L'.length d2]
    simpa using this
  have e1 := conv_ro (c := c) (hx.below hbW hB) rfl
  have e2 := conv_ro (c := d) (hy.below hbW hB) rfl
  have HX2 := Lib.hid (hx2.below hbW hB)
  have HY2 := Lib.hid (hy2.below hbW hB)
  have HO1 := Lib.hid o1
  have HO2 := Lib.hid o2
  have HBW := Lib.hid hbW
  obtain ⟨t, HT⟩ : ∃ t, Hid (alike ⟨k, l, L⟩ ⟨k', l', L'⟩ = t) := ⟨_, Lib.hid rfl⟩
  rw [HT.out]
  have c0 := o1.cell 0
  have c1 := o1.cell 1
  have c2' := o1.cell 2
  have d0 := o2.cell 0
  have d1 := o2.cell 1
  have d2' := o2.cell 2
  simp at c0 c1 c2' d0 d1 d2'
  clear hx hx2 hy hy2 o1 o2 hbW
  have HW := Lib.hid hW
  clear hW
  obtain ⟨n, HN⟩ : ∃ n, Hid (L.length = n) := ⟨_, Lib.hid rfl⟩
  obtain ⟨m, HM⟩ : ∃ m, Hid (L'.length = m) := ⟨_, Lib.hid rfl⟩
  rw [HN.out] at hl c2' HW HO1 ⊢
  rw [HM.out] at hl2 d2' HW HO2 ⊢
  generalize hl1 : l.length = p at *
  generalize hl1' : l'.length = p' at *
  have HP1 := Lib.hid hl1
  have HP2 := Lib.hid hl1'
  clear hl1 hl1'
  by_cases hk : k = k'
  · subst hk
    by_cases hd : l = l'
    · have hs : (!(({ data := l.toArray } : ByteArray) == ({ data := l'.toArray } : ByteArray))) = false := by rw [bytes_beq]; simp [hd]
      have HD := Lib.hid hd
      clear hd
      by_cases hnm : n = m
      · subst hnm
        go_enter Tryz.func62, Tryz.ntmps62
        go_wp2_with fail
        rw [HW.out]
        go_simp
        go_wp2_with fail
        clear e1 e2 hs c0 c1 c2' d0 d1 d2'
        go_loopw [5] (fun i wr => ∃ k : Nat, i = .int .i64 k ∧ k ≤ n ∧ Hid (L.take k = L'.take k) ∧ Hid (Qt W wr)) (fun i _ => n - (intOf i).toNat)
        case atStart => exact ⟨0, rfl, Nat.zero_le _, Lib.hid rfl, Lib.hid (Qt.refl _)⟩
        case round =>
          obtain ⟨i, rfl, hi, HTK, HQ⟩ := hrel
          have c2' := (HO1.out.qt HQ.out).cell 2
          have d2' := (HO2.out.qt HQ.out).cell 2
          simp at c2' d2'
          by_cases hlt : i < n
          · have hkA : i < L.length := by rw [HN.out]; exact hlt
            have hkB : i < L'.length := by rw [HM.out]; exact hlt
            obtain ⟨g, off, rfl, hg, hcl⟩ := (HX2.out.qt HQ.out).bk (by omega)
            obtain ⟨g', off', rfl, hg', hcl'⟩ := (HY2.out.qt HQ.out).bk (by omega)
            obtain ⟨h1, h2, h3⟩ := hcl i hkA
            obtain ⟨h4, h5, h6⟩ := hcl' i hkB
            have HTS := Lib.hid (take_succ_eqB hkA hkB HTK.out)
            have HNE := Lib.hid (@ne_of_bk L L' i)
            clear hcl hcl'
            generalize bk L i = x at *
            generalize bk L' i = y at *
            have hk0 : (0 : Int) ≤ (i : Int) := by omega
            have hk1 : (i : Int) < (n : Int) := by omega
            by_cases hxy : x = y
            · subst hxy
              have hN : ∀ W, (binOp .neq 96 (bkv x) (bkv x)).run Tryz.prog W = .ok (.bool false) W := fun W => by rw [neq_back]; simp
              go_wp2_with fail
              go_region
              go_wp2_with fail
              go_roundw
              case rel => exact ⟨i + 1, by go_num, by omega, Lib.hid (HTS.out trivial), Lib.hid (by first | exact HQ.out | exact HQ.out.trans ⟨1, rfl⟩)⟩
              case measure => simp [intOf]; omega
            · have hN : ∀ W, (binOp .neq 96 (bkv x) (bkv y)).run Tryz.prog W = .ok (.bool true) W := fun W => by rw [neq_back]; simp [hxy]
              have HF := Lib.hid (HNE.out hxy)
              obtain rfl : t = false := by rw [← HT.out]; unfold alike; simp only [HF.out]; simp
              go_wp2_with fail
              go_region
              go_wp2_with fail
              go_ret
              exact ⟨rfl, Qt.below (by first | exact HQ.out | exact HQ.out.trans ⟨1, rfl⟩) HBW.out⟩
          · obtain rfl : i = n := by omega
            obtain rfl : t = true := by
              rw [← HT.out, alike_iff]
              have ht := HTK.out
              rw [List.take_of_length_le (by rw [HN.out]; omega), List.take_of_length_le (by rw [HM.out]; omega)] at ht
              exact Ce.ext' rfl HD.out ht
            go_wp2_with fail
            go_ret
            exact ⟨rfl, HQ.out.below HBW.out⟩
      · obtain rfl : t = false := by
          rw [← HT.out]; unfold alike
          have : decide (L = L') = false := by simp only [decide_eq_false_iff_not]; rintro rfl; exact hnm (HN.out.symm.trans HM.out)
          simp only [this]; simp
        have hd0 : ((n : Int) != (m : Int)) = true := by rw [bne_iff_ne]; omega
        go_enter Tryz.func62, Tryz.ntmps62
        go_wp2_with fail
        rw [HW.out]
        go_simp
        go_wp2_with fail
        go_ret
        exact ⟨rfl, HBW.out⟩
    · have hs : (!(({ data := l.toArray } : ByteArray) == ({ data := l'.toArray } : ByteArray))) = true := by rw [bytes_beq]; simp [hd]
      obtain rfl : t = false := by rw [← HT.out]; unfold alike; simp [hd]
      have hd2 : (!(l == l')) = true := by simp [hd]
      go_enter Tryz.func62, Tryz.ntmps62
      go_wp2_with fail
      rw [HW.out]
      go_simp
      go_wp2_with fail
      go_ret
      exact ⟨rfl, HBW.out⟩
  · have h1 : (k != k') = true := by rw [bne_iff_ne]; omega
    obtain rfl : t = false := by rw [← HT.out]; unfold alike; simp [hk]
    clear hk
    go_enter Tryz.func62, Tryz.ntmps62
    go_wp2_with fail
    rw [HW.out]
    go_ret
    exact ⟨rfl, HBW.out⟩
end Go.Proofs.YteenlkmnadjnpaaGreat
namespace Go.Proofs.YteenlkmnadjnpaaGreat
open Go.RowKit Go.Deep Go.Shelf
set_option linter.unusedVariables false
set_option linter.unusedSimpArgs false

theorem eqIn_place9g (a b a' b' : Int) (w : World) : (Op.equalIn 9999 25 (.agg #[.int .i64 a, .int .i64 b]) (.agg #[.int .i64 a', .int .i64 b'])).run Tryz.prog w = .ok (decide (a = a' ∧ b = b')) w := by
  have g0 : ∀ (x y : Value), (part 23 #[x, y] 0).run Tryz.prog w = .ok x w := fun x y => run_part_cell Tryz.underlying23 rfl w
  have g1 : ∀ (x y : Value), (part 3 #[x, y] 1).run Tryz.prog w = .ok y w := fun x y => run_part_cell Tryz.underlying3 rfl w
  have gg : ∀ (x y : Value), (part 23 #[x, y] 1).run Tryz.prog w = .ok y w := fun x y => run_part_cell Tryz.underlying23 rfl w
  have ge : ∀ (x y : Int), (Op.equalIn 9998 3 (.int .i64 x) (.int .i64 y)).run Tryz.prog w = .ok (x == y) w := fun x y => run_equalIn_int w 9997 3 .i64 .i64 _ _ Tryz.underlying3
  have gr : ∀ (x y : Int), (Op.equalIn 9998 23 (.int .i64 x) (.int .i64 y)).run Tryz.prog w = .ok (x == y) w := fun x y => run_equalIn_int w 9997 23 .i64 .i64 _ _ Tryz.underlying23
  refine (run_equalIn_struct w 9998 25 _ _ (by kernel_rfl) (by kernel_rfl)).trans ?_
  simp [Program.fieldsOf, Tryz.underlying25, Op.eqFields, g0, g1, gg, ge, gr]
  by_cases h1 : a = a'
  · by_cases h2 : b = b' <;> simp [h1, h2]
  · simp [h1]
theorem eqIn_ballot9g (a b a' b' : Int) (w : World) : (Op.equalIn 9999 35 (.agg #[.int .i64 a, .int .i64 b]) (.agg #[.int .i64 a', .int .i64 b'])).run Tryz.prog w = .ok (decide (a = a' ∧ b = b')) w := by
  have g0 : ∀ (x y : Value), (part 3 #[x, y] 0).run Tryz.prog w = .ok x w := fun x y => run_part_cell Tryz.underlying3 rfl w
  have g1 : ∀ (x y : Value), (part 3 #[x, y] 1).run Tryz.prog w = .ok y w := fun x y => run_part_cell Tryz.underlying3 rfl w
  have gg : ∀ (x y : Value), (part 3 #[x, y] 1).run Tryz.prog w = .ok y w := fun x y => run_part_cell Tryz.underlying3 rfl w
  have ge : ∀ (x y : Int), (Op.equalIn 9998 3 (.int .i64 x) (.int .i64 y)).run Tryz.prog w = .ok (x == y) w := fun x y => run_equalIn_int w 9997 3 .i64 .i64 _ _ Tryz.underlying3
  have gr : ∀ (x y : Int), (Op.equalIn 9998 3 (.int .i64 x) (.int .i64 y)).run Tryz.prog w = .ok (x == y) w := fun x y => run_equalIn_int w 9997 3 .i64 .i64 _ _ Tryz.underlying3
  refine (run_equalIn_struct w 9998 35 _ _ (by kernel_rfl) (by kernel_rfl)).trans ?_
  simp [Program.fieldsOf, Tryz.underlying35, Op.eqFields, g0, g1, gg, ge, gr]
  by_cases h1 : a = a'
  · by_cases h2 : b = b' <;> simp [h1, h2]
  · simp [h1]
/-- heads are the same -/
def hdEq (A C : MgT) : Bool := decide (A.k = C.k ∧ A.f = C.f ∧ (A.fr.1 = C.fr.1 ∧ A.fr.2 = C.fr.2) ∧ (A.to.1 = C.to.1 ∧ A.to.2 = C.to.2) ∧ A.id = C.id ∧ A.ep = C.ep ∧ A.ad = C.ad ∧ A.er = C.er ∧ (A.ba.1 = C.ba.1 ∧ A.ba.2 = C.ba.2) ∧ (A.pr.1 = C.pr.1 ∧ A.pr.2 = C.pr.2))
end Go.Proofs.YteenlkmnadjnpaaGreat
