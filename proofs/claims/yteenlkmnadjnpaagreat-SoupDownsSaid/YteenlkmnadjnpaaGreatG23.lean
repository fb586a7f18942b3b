/-
  Lists of places of a call's own; an act loaded and stored whole; places compared. No claim of its own.
-/
import Derived.Test.YteenlkmnadjnpaaGreatG18
namespace Go.Proofs.YteenlkmnadjnpaaGreat
open Go.RowKit Go.Deep Go.Shelf
set_option linter.unusedVariables false
set_option linter.unusedSimpArgs false

def plc (p : Pl2) : List Value := [.int .i64 p.1, .int .i64 p.2]
def plv (L : List Pl2) : List Value := L.flatMap plc
theorem plv_length (L : List Pl2) : (plv L).length = L.length * 2 := flat_len (cells := plc) (fun _ => rfl) L
theorem plv_append (L M : List Pl2) : plv (L ++ M) = plv L ++ plv M := by simp [plv]
theorem plv_one (p : Pl2) : plv [p] = [.int .i64 p.1, .int .i64 p.2] := rfl
/-- a list of places of the call's own -/
def Lp (w : World) (base : Nat) (v : Value) (L : List Pl2) : Prop := w.ownsRow base 25 2 v L.length (plv L)
theorem Lp.nil (w : World) (base : Nat) : Lp w base (.slice none 0 0) [] := World.ownsRow_nil w base _ 2
theorem Lp.lt {w : World} {base : Nat} {v : Value} {L : List Pl2} (h : Lp w base v L) : ∀ x ∈ rowOf v, base ≤ x ∧ x < w.heap.size := by
  intro x hx
  rcases h.2 with ⟨rfl, _⟩ | ⟨g, cap, cur', rfl, hb, hh, _⟩
  · simp [rowOf, Value.ownBlock] at hx
  · simp [rowOf, Value.ownBlock] at hx
    subst hx
    exact ⟨hb, (Array.getElem?_eq_some_iff.1 hh).1⟩
theorem Lp.chg {w w' : World} {base : Nat} {v : Value} {L : List Pl2} {l : List Nat} (h : Lp w base v L) (hc : Chg l w w') (hl : ∀ x ∈ l, x ∉ rowOf v) : Lp w' base v L := by
  refine ⟨h.1, ?_⟩
  rcases h.2 with h1 | ⟨g, cap, cur, h1, h2, h3, h4⟩
  · exact .inl h1
  · exact .inr ⟨g, cap, cur, h1, h2, (hc.block g (Array.getElem?_eq_some_iff.1 h3).1 (fun hm => hl g hm (by rw [h1]; simp [rowOf, Value.ownBlock]))).trans h3, h4⟩
theorem Lp.kept {w w' : World} {base : Nat} {v : Value} {L : List Pl2} (h : Lp w base v L) (hc : Chg [] w w') : Lp w' base v L := h.chg hc (by simp)
theorem Lp.low {w w' : World} {base : Nat} {v : Value} {L : List Pl2} {l : List Nat} (h : Lp w base v L) (hc : Chg l w w') (hl : ∀ x ∈ l, x < base) : Lp w' base v L := h.chg hc (fun x hx hm => by have := hl x hx; have := (h.lt x hm).1; omega)
theorem Lp.base {w : World} {base base' : Nat} {v : Value} {L : List Pl2} (h : Lp w base v L) (hb : base' ≤ base) : Lp w base' v L := by
  refine ⟨h.1, ?_⟩
  rcases h.2 with h1 | ⟨g, cap, cur, h1, h2, h3⟩
  · exact .inl h1
  · exact .inr ⟨g, cap, cur, h1, by omega, h3⟩
theorem Lp.form {w : World} {base : Nat} {v : Value} {L : List Pl2} (h : Lp w base v L) : ∃ a c, v = .slice a L.length c ∧ Ro w w.heap.size a (plv L) := by
  rcases h.2 with ⟨rfl, h0⟩ | ⟨g, cap, cur, rfl, hb, hh, hle, hm, hrest⟩
  · have : L = [] := by simpa using h0
    subst this
    exact ⟨none, 0, rfl, .inl rfl⟩
  · refine ⟨some ⟨g, 0, none⟩, cap, rfl, .inr ⟨g, 0, rfl, ?_, fun i hi => ?_⟩⟩
    · exact (World.ownsRow.lt h g rfl).2
    · have := World.ownsRow.cellAt h i (by rw [plv_length] at hi; exact hi)
      rw [Nat.zero_add, this]
      simp only [List.getD, List.getElem?_eq_getElem hi, Option.getD_some]
/-- the cells of the k-th place -/
theorem pl_cells {w : World} {B : Nat} {a : Option Addr} {L : List Pl2} (h : Ro w B a (plv L)) {k : Nat} (hk : k < L.length) :
    ∃ b off, a = some ⟨b, off, none⟩ ∧ b < B ∧ w.cell? ⟨b, off + k * 2, none⟩ = some (.int .i64 L[k].1) ∧ w.cell? ⟨b, off + k * 2 + 1, none⟩ = some (.int .i64 L[k].2) := by
  have hl : k * 2 + 1 < (plv L).length := by rw [plv_length]; omega
  rcases h with h | ⟨b, off, h1, h2, h3⟩
  · rw [h] at hl; simp at hl
  · have e0 := h3 (k * 2) (by omega)
    have e1 := h3 (k * 2 + 1) hl
    have g0 := flat_at (cells := plc) (c := 2) (fun _ => rfl) hk (j := 0) (by omega)
    have g1 := flat_at (cells := plc) (c := 2) (fun _ => rfl) hk (j := 1) (by omega)
    refine ⟨b, off, h1, h2, ?_, ?_⟩
    · rw [e0, List.getD_eq_getElem?_getD]
      have : (plv L)[k * 2]? = _ := g0
      rw [this]
      rfl
    · rw [Nat.add_assoc, e1, List.getD_eq_getElem?_getD]
      have : (plv L)[k * 2 + 1]? = _ := g1
      rw [this]
      rfl
theorem Tryz.info_plc : (Tryz.prog.info? 25).map (fun i => (i.zero, i.size, i.bytes)) = some (some (.agg #[.int .i64 0, .int .i64 0]), 2, 16) := by kernel_rfl
/-- append of one place -/
theorem wpList_appPl {ops : Array Oper} {rest : List Oper} {o : Oper} {a : Act} {w : World} {Q : Exit → Act → World → Prop} (hgd : o.guard = none) (s x : Operand)
    (ho : o.op = .call { callee := .builtin .append, args := #[s, x], argTypes := #[55, 55] })
    (base : Nat) (v : Value) (L : List Pl2) (hs : a.eval s = v) (hown : Lp w base v L) (g : Nat) (y : Pl2) (t : TypeId) (hnew : Own w g t (plv [y]))
    (hx : a.eval x = .slice (some ⟨g, 0, none⟩) 1 1) (hlen : L.length ≤ 1000000) (hbase : base ≤ w.heap.size)
    (h : ∀ g' cap w', Hid (Lp w' base (.slice (some ⟨g', 0, none⟩) (L.length + 1) cap) (L ++ [y])) → Chg (rowOf v) w w' → wpList Tryz.prog ops Q rest (a.put o.dst (.slice (some ⟨g', 0, none⟩) (L.length + 1) cap)) w') : wpList Tryz.prog ops Q (o :: rest) a w := by
  obtain ⟨i, hi, hzz⟩ := Option.map_eq_some_iff.1 Tryz.info_plc
  simp only [Prod.mk.injEq] at hzz
  obtain ⟨hz, hsz, hby⟩ := hzz
  refine wpList_append_lies w hgd s x 55 ho base 25 i _ 2 16 Tryz.underlying55 hi hz hsz hby rfl (by omega) v L.length (plv L) hs hown ⟨g, 0, none⟩ 1 1 (plv [y]) hx rfl (fun j u hu => ?_) (fun u hu => by simp [plv, plc] at hu; rcases hu with rfl | rfl <;> rfl) (by omega) (by unfold maxLen; omega) (by omega) hbase _ rfl fun g' cap w' h2 h3 h4 h5 => ?_
  · rw [add_off, Nat.zero_add, hnew.cell j]; exact hu
  · refine h g' cap w' (Lib.hid ?_) ((Chg.refl _ w).grown h3 (fun k hk => .inl (by simp [rowOf, hk])))
    show w'.ownsRow base 25 2 _ (L ++ [y]).length (plv (L ++ [y]))
    rw [List.length_append, plv_append]
    exact h2
/-- an act out of a slice that came in -/
theorem ac_range {w : World} {B : Nat} {a : Option Addr} {L : List AcT} (h : Ro w B a (L.flatMap AcT.cs)) {k : Nat} (hk : k < L.length) : ∃ b off, a = some ⟨b, off, none⟩ ∧ b < B ∧ w.rangeAt b (off + k * 26) L[k].cs := by
  have hl : (L.flatMap AcT.cs).length = L.length * 26 := flat_len (cells := AcT.cs) (fun _ => rfl) L
  rcases h with h | ⟨b, off, h1, h2, h3⟩
  · rw [h] at hl; simp at hl; omega
  · refine ⟨b, off, h1, h2, fun j v hv => ?_⟩
    have hj : j < 26 := by have := (List.getElem?_eq_some_iff.1 hv).1; exact this
    have g := flat_at (cells := AcT.cs) (c := 26) (fun _ => rfl) hk hj
    have := h3 (k * 26 + j) (by rw [hl]; omega)
    rw [Nat.add_assoc, this, List.getD_eq_getElem?_getD, g, hv]
    rfl
def zac : AcT := ⟨0, 0, zmT, (0, 0)⟩
theorem infoAc : (Tryz.prog.info? 59).map (·.size) = some 26 := by kernel_rfl
theorem AcT.one (A : AcT) : ∀ v ∈ A.cs, v.oneCell' = true := by
  intro v hv
  unfold AcT.cs at hv
  simp only [List.mem_cons, List.mem_append, List.not_mem_nil, or_false] at hv
  rcases hv with rfl | rfl | hv | rfl | rfl
  · rfl
  · rfl
  · exact A.m.one v hv
  · rfl
  · rfl
theorem wpList_loadAc {ops : Array Oper} {rest : List Oper} {o : Oper} {a : Act} {w : World} {Q : Exit → Act → World → Prop} (hgd : o.guard = none) (x : Operand) (ho : o.op = .load 59 x) (b off : Nat) (hx : a.eval x = .pointer (some ⟨b, off, none⟩)) (A : AcT) (hr : w.rangeAt b off A.cs)
    (h : wpList Tryz.prog ops Q rest (a.put o.dst (.agg A.cs.toArray)) w) : wpList Tryz.prog ops Q (o :: rest) a w :=
  wpList_load_mid hgd _ x ho b off hx A.cs _ hr Tryz.underlying59 rfl infoAc h
set_option maxRecDepth 100000 in
theorem wpList_storeAc {ops : Array Oper} {rest : List Oper} {o : Oper} {a : Act} {w : World} {Q : Exit → Act → World → Prop} (hgd : o.guard = none) (x y : Operand) (ho : o.op = .store 59 x y) (b : Nat) (hx : a.eval x = .pointer (some ⟨b, 0, none⟩)) (A : AcT) (hy : a.eval y = .agg A.cs.toArray) (old : List Value) (hr : Own w b 59 old) (hl : old.length = 26)
    (h : ∀ w', Own w' b 59 A.cs → Chg [b] w w' → wpList Tryz.prog ops Q rest (a.put o.dst undef) w') : wpList Tryz.prog ops Q (o :: rest) a w := by
  refine wpList_store_mid hgd _ x y ho b 0 A.cs.toArray hx hy (fun j hj => ?_) infoAc (all_oneCell_toArray A.one) (h _ ?_ ?_)
  · have hj' : j < 26 := hj
    rw [Nat.zero_add, hr.cell j]
    exact ⟨by simp [hl, hj'], hr.frozen j⟩
  · exact own_setCells A.cs [] old w hr (by rw [hl]; rfl)
  · exact (Chg.refl [b] w).setCells (.inl (by simp)) 0 _
theorem eqw_placeX (a b a' b' : Int) (w : World) : (Op.equalIn 10000 25 (.agg #[.int .i64 a, .int .i64 b]) (.agg #[.int .i64 a', .int .i64 b'])).run Tryz.prog w = .ok (decide (a = a' ∧ b = b')) w := by
  have g0 : ∀ (x y : Value), (part 23 #[x, y] 0).run Tryz.prog w = .ok x w := fun x y => run_part_cell Tryz.underlying23 rfl w
  have g1 : ∀ (x y : Value), (part 3 #[x, y] 1).run Tryz.prog w = .ok y w := fun x y => run_part_cell Tryz.underlying3 rfl w
  have gg : ∀ (x y : Value), (part 23 #[x, y] 1).run Tryz.prog w = .ok y w := fun x y => run_part_cell Tryz.underlying23 rfl w
  have ge : ∀ (x y : Int), (Op.equalIn 9999 3 (.int .i64 x) (.int .i64 y)).run Tryz.prog w = .ok (x == y) w := fun x y => run_equalIn_int w 9998 3 .i64 .i64 _ _ Tryz.underlying3
  have gr : ∀ (x y : Int), (Op.equalIn 9999 23 (.int .i64 x) (.int .i64 y)).run Tryz.prog w = .ok (x == y) w := fun x y => run_equalIn_int w 9998 23 .i64 .i64 _ _ Tryz.underlying23
  refine (run_equalIn_struct w 9999 25 _ _ (by kernel_rfl) (by kernel_rfl)).trans ?_
  simp [Program.fieldsOf, Tryz.underlying25, Op.eqFields, g0, g1, gg, ge, gr]
  by_cases h1 : a = a'
  · by_cases h2 : b = b' <;> simp [h1, h2]
  · simp [h1]
theorem neq_placeX (p q : Pl2) {r : Bool} (h : decide (p ≠ q) = r) (w : World) : (binOp .neq 25 (.agg #[.int .i64 p.1, .int .i64 p.2]) (.agg #[.int .i64 q.1, .int .i64 q.2])).run Tryz.prog w = .ok (.bool r) w := by
  have e : (binOp .neq 25 (.agg #[.int .i64 p.1, .int .i64 p.2]) (.agg #[.int .i64 q.1, .int .i64 q.2])).run Tryz.prog w = .ok (.bool (!decide (p.1 = q.1 ∧ p.2 = q.2))) w := by
    first
      | (rw [run_neq_struct, eqw_placeX]; rfl)
      | (simp [binOp, eqw_placeX])
  have e2 : (!decide (p.1 = q.1 ∧ p.2 = q.2)) = r := by
    rw [← h]
    by_cases hpq : p = q
    · subst hpq; simp
    · have : ¬ (p.1 = q.1 ∧ p.2 = q.2) := fun ⟨a, b⟩ => hpq (Prod.ext a b)
      simp [hpq, this]
  rw [e, e2]
end Go.Proofs.YteenlkmnadjnpaaGreat
namespace Go.Proofs.YteenlkmnadjnpaaGreat
open Go.RowKit Go.Deep Go.Shelf
set_option linter.unusedVariables false
set_option linter.unusedSimpArgs false

/-- the list has just those that are down -/
def DInv (F : Pl2 → Bool) (D : List Pl2) : Prop := (∀ q, q ∈ D ↔ F q = true) ∧ ∀ q ∈ D, plOk q = true
theorem DInv.zero : DInv (fun _ => false) [] := ⟨fun q => by simp, fun q h => by cases h⟩
def dfil (D : List Pl2) (P : Pl2) : List Pl2 := D.filter (fun q => decide (q ≠ P))
theorem dfil_len (D : List Pl2) (P : Pl2) : (dfil D P).length ≤ D.length := List.length_filter_le _ _
theorem dfil_succ {D : List Pl2} {P : Pl2} {k : Nat} (h : k < D.length) : dfil (D.take (k + 1)) P = dfil (D.take k) P ++ if D[k] ≠ P then [D[k]] else [] := by
  unfold dfil
  rw [List.take_succ_eq_append_getElem h, List.filter_append]
  congr 1
  by_cases e : D[k] = P <;> simp [e]
theorem notin_snoc (l : List Pl2) (q t : Pl2) : decide (t ∉ l ++ [q]) = (decide (t ∉ l) && decide (q ≠ t)) := by
  have h : (t ∉ l ++ [q]) ↔ (t ∉ l ∧ q ≠ t) := by
    rw [List.mem_append, List.mem_singleton]
    constructor
    · intro h; exact ⟨fun h1 => h (.inl h1), fun h1 => h (.inr h1.symm)⟩
    · rintro ⟨h1, h2⟩ (h3 | h3)
      · exact h1 h3
      · exact h2 h3.symm
  rw [← Bool.decide_and, decide_eq_decide]
  exact h
def dnext (D : List Pl2) (P : Pl2) (x : Bool) : List Pl2 := dfil D P ++ if x then [P] else []
theorem DInv.next {F : Pl2 → Bool} {D : List Pl2} (h : DInv F D) {P : Pl2} (hP : plOk P = true) (x : Bool) : DInv (updF F P x) (dnext D P x) := by
  unfold dnext updF dfil
  refine ⟨fun q => ?_, fun q hq => ?_⟩
  · rw [List.mem_append, List.mem_filter]
    by_cases e : q = P
    · subst e
      cases x <;> simp
    · cases x <;> simp [e, h.1 q]
  · rcases List.mem_append.1 hq with hq | hq
    · exact h.2 q (List.mem_filter.1 hq).1
    · cases x
      · simp at hq
      · simp at hq; rw [hq]; exact hP
theorem dnext_len (D : List Pl2) (P : Pl2) (x : Bool) : (dnext D P x).length ≤ D.length + 1 := by
  unfold dnext
  have := dfil_len D P
  rw [List.length_append]
  cases x
  · show _ + 0 ≤ _; omega
  · show _ + 1 ≤ _; omega
theorem keyAt_one (k : Ky) : keyAt [k] 0 = some k := by
  have : dd [k] = [k] := strict_ext (dd_strict (by simp [Srt])) (by simp) (fun x => by rw [dd_mem])
  unfold keyAt
  rw [this]
  rfl
set_option maxHeartbeats 16000000 in
set_option maxRecDepth 100000 in
theorem soupDowns_any (w : World) {a0 : Option Addr} {L : List AcT} {cc : Nat} (hL : AcsOk w a0 L) {A : MgT} (hA : MgOk w A) :
    Calls Tryz.prog 9 #[.slice a0 L.length cc, .agg A.cs.toArray] w fun e w' => e = .returned (.bool true) ∧ Below w.heap.size w w' := by
  obtain ⟨W, HWW⟩ : ∃ W, Hid (w.alloc (.cells A.cs.toArray 40) = W) := ⟨_, Lib.hid rfl⟩
  have hWb : Below w.heap.size w W := by rw [← HWW.out]; exact (Below.refl _ _).alloc (Nat.le_refl _) _
  have HO := Lib.hid (show Own W w.heap.size 40 A.cs by rw [← HWW.out]; exact Own.new w _ _)
  have HB := Lib.hid hWb
  have HAL := Lib.hid alive11_any
  have HNW := Lib.hid (New_any W)
  have HF := Lib.hid (fun (W' : World) (hb : Below w.heap.size w W') => fits10_any A w.heap.size W' (hA.inn.below hb (Nat.le_refl _)) hb.size hA.fit)
  have HIN := Lib.hid (fun (W' : World) (hb : Below w.heap.size w W') => And.intro (hA.inn.below hb (Nat.le_refl _)) hb.size)
  have HFT := Lib.hid hA.fit
  have HRO := Lib.hid (fun (W' : World) (hb : Below w.heap.size w W') => hL.row.below hb (Nat.le_refl _))
  have HOK := Lib.hid hL.ok
  obtain ⟨n, hn⟩ : ∃ n, L.length = n := ⟨_, rfl⟩
  have HN := Lib.hid hn
  have HNB : Hid (n ≤ 9223372036854775807) := Lib.hid (by rw [← hn]; exact hL.len)
  rw [hn]
  clear hWb hA hL hn
  go_enter Tryz.func9, Tryz.ntmps9
  go_upto_region 1 with fail
  rw [HWW.out]
  go_wp2_with fail
  refine HNW.out.mono ?_
  rintro e w1 ⟨p, rfl, b, d, hs, hb, hge⟩
  have HS1 := Lib.hid hs
  have HGE : Hid (∀ x ∈ [p, b, d], w.heap.size < x) := Lib.hid (fun x hx => Nat.lt_of_lt_of_le HO.out.lt (hge x hx))
  have HB1 := Lib.hid (HB.out.trans (hb.mono HB.out.size))
  have HO1 := Lib.hid (HO.out.below hb HO.out.lt)
  clear hs hb hge
  go_wp2_with (refine wpList_loadMg rfl (.tmp 3) rfl w.heap.size rfl A HO1.out ?_)
  refine (HF.out w1 HB1.out).mono ?_
  rintro e w2 ⟨⟨t1, rfl⟩, hb⟩
  have HB2 := Lib.hid (HB1.out.trans (hb.mono HB1.out.size))
  have HO2 := Lib.hid (HO1.out.below hb HO1.out.lt)
  have HS2 := Lib.hid (HS1.out.kept ((Chg.refl [] w1).of_below hb))
  have HLT := Lib.hid HS2.out.lt
  clear hb
  cases t1 with
  | false =>
    go_wp2_with fail
    go_ret
    exact ⟨rfl, HB2.out⟩
  | true =>
  go_wp2_with fail
  go_loopw [7, 8] (fun v7 v8 wr => ∃ (i : Nat) (F : Pl2 → Bool) (D : List Pl2), v8 = .int .i64 (i : Int) ∧ i ≤ n ∧ i ≤ 60 ∧ Hid (Lp wr w2.heap.size v7 D) ∧ Hid (Sp wr p b d ⟨[], F, 0⟩) ∧ Hid (DInv F D ∧ D.length ≤ i) ∧ Hid (Chg [p, b, d] w2 wr)) (fun _ v8 _ => n - (intOf v8).toNat)
  case atStart => exact ⟨0, fun _ => false, [], rfl, Nat.zero_le _, Nat.zero_le _, Lib.hid (Lp.nil _ _), HS2, Lib.hid ⟨DInv.zero, Nat.le_refl _⟩, Lib.hid (Chg.refl _ _)⟩
  case round =>
    obtain ⟨i, F, D, rfl, hi1, hi2, HLp, HSp, HIV, HC⟩ := hrel
    rename World => w3
    have HB3 := Lib.hid (below_chg HB2.out HC.out HB2.out.size (fun x hx => Nat.le_of_lt (HGE.out x hx)))
    have HO3 := Lib.hid (HO2.out.chg HC.out (fun hm => absurd (HGE.out _ hm) (Nat.lt_irrefl _)))
    have HBS := Lib.hid HC.out.size
    obtain ⟨nd, hnd⟩ : ∃ nd, D.length = nd := ⟨_, rfl⟩
    have HND := Lib.hid hnd
    by_cases hlt : i < n ∧ i < 60
    · have hiL : i < L.length := by rw [HN.out]; exact hlt.1
      obtain ⟨bb, off, rfl, hbb, hra⟩ := ac_range (HRO.out w3 HB3.out) hiL
      have HRA := Lib.hid hra
      have HOA := Lib.hid (HOK.out L[i] (List.getElem_mem hiL))
      have HI := Lib.hid hlt
      have e1 : decide ((i : Int) < (n : Int)) = true := by simp; omega
      have e2 : decide ((i : Int) < 60) = true := by simp; omega
      have e3 : decide (i < n) = true := by simp; omega
      have e4 : decide (i < 60) = true := by simp; omega
      have k0 : (0 : Int) ≤ (i : Int) := by omega
      have k1 : (i : Int) < (n : Int) := by omega
      have k2 : (i : Int) ≤ 60 := by omega
      have HZ := Lib.hid (Own.new w3 59 zac.cs)
      generalize L[i] = C at *
      clear hra hlt hiL hbb hi1 hi2 hnd
      go_wp2_with (first | refine wpList_loadAc rfl (.tmp 42) rfl bb (off + i * 26) (by rfl) C HRA.out ?_ | refine wpList_storeAc rfl (.tmp 9) (.tmp 43) rfl w3.heap.size rfl C rfl zac.cs HZ.out rfl ?_)
      intro w4 ho hc
      have hc4 : Chg [] w3 w4 := ((Chg.refl [] w3).alloc _).then hc (fun x hx => by simp only [List.mem_singleton] at hx; subst hx; exact .inr (Nat.le_refl _))
      have HSZ := Lib.hid hc4.size
      have HS4 := Lib.hid (HSp.out.kept hc4)
      have HL4 := Lib.hid (HLp.out.kept hc4)
      have HC4 := Lib.hid (HC.out.trans (hc4.mono (by simp)))
      have HAB : Hid (∀ x ∈ [p, b, d], x < w3.heap.size) := Lib.hid (fun x hx => Nat.lt_of_lt_of_le (HLT.out x hx) HBS.out)
      have HBA : Hid (w2.heap.size ≤ w3.heap.size) := HBS
      obtain ⟨ab, hab⟩ : ∃ ab, w3.heap.size = ab := ⟨_, rfl⟩
      rw [hab] at ho HAB HBA HSZ ⊢
      have HA4 := Lib.hid ho
      clear ho hc hc4 HZ hab
      obtain ⟨c0, c1, c2, c3, cz⟩ := HA4.out.actC
      obtain ⟨x, hx⟩ : ∃ x, (C.kd == 5) = x := ⟨_, rfl⟩
      have HX := Lib.hid hx
      by_cases hok : plOk C.p = true
      case neg =>
        have hok' : plOk C.p = false := by simpa using hok
        have HDN := Lib.hid (Down_bad HS4.out C.p x hok')
        have HFP : Hid (F C.p = false) := Lib.hid (by
          cases hf : F C.p with
          | false => rfl
          | true => exact absurd (HIV.out.1.2 _ ((HIV.out.1.1 _).2 hf)) hok)
        clear hok hok'
        go_wp2_with fail
        refine HDN.out.mono ?_
        rintro e w5 ⟨rfl, hc⟩
        have HS5 := Lib.hid (HS4.out.kept hc)
        have HL5 := Lib.hid (HL4.out.kept hc)
        have HA5 := Lib.hid (HA4.out.chg hc (by simp))
        have HC5 := Lib.hid (HC4.out.trans (hc.mono (by simp)))
        have HID := Lib.hid (IsDown_any HS5.out C.p HOA.out.p)
        clear c0 c1 c2 c3 cz hc
        obtain ⟨c0, c1, c2, c3, cz⟩ := HA5.out.actC
        go_wp2_with fail
        refine HID.out.mono ?_
        rintro e w6 ⟨rfl, hc⟩
        rw [HFP.out]
        have HS6 := Lib.hid (HS5.out.kept hc)
        have HL6 := Lib.hid (HL5.out.kept hc)
        have HC6 := Lib.hid (HC5.out.trans (hc.mono (by simp)))
        clear c0 c1 c2 c3 cz hc
        go_wp2_with fail
        go_roundw
        case rel => have := HI.out; exact ⟨i + 1, F, D, by go_num, by omega, by omega, HL6, HS6, Lib.hid ⟨HIV.out.1, Nat.le_succ_of_le HIV.out.2⟩, HC6⟩
        case measure => have := HI.out; simp [intOf]; omega
      have HOKP := Lib.hid hok
      have HDN := Lib.hid (Down_any HS4.out C.p x hok)
      clear hok
      go_wp2_with fail
      refine HDN.out.mono ?_
      rintro e w5 ⟨rfl, hs, hc⟩
      have HS5 : Hid (Sp w5 p b d ⟨[], updF F C.p x, 0⟩) := Lib.hid hs
      have HL5 := Lib.hid (HL4.out.low hc (fun y hy => by simp at hy; subst hy; exact HLT.out _ (by simp)))
      have HA5 := Lib.hid (HA4.out.chg hc (fun hm => by simp at hm; have := HAB.out d (by simp); omega))
      have HC5 := Lib.hid (HC4.out.trans (hc.mono (fun y hy => by simp at hy; subst hy; exact .inl (by simp))))
      have HSZ5 := Lib.hid (Nat.le_trans HSZ.out hc.size)
      obtain ⟨ad, cd, rfl, hro⟩ := HL5.out.form
      have HRD := Lib.hid hro
      rw [HND.out]
      rw [HND.out] at HL5
      clear c0 c1 c2 c3 cz hs hc hro
      have hnd60 : (nd : Int) ≤ 60 := by have := HIV.out.2; have := HND.out; have := HI.out; omega
      have HND60 := Lib.hid hnd60
      go_wp2_with fail
      go_loopw [11, 12] (fun v11 v12 wq => ∃ k : Nat, v12 = .int .i64 (k : Int) ∧ k ≤ nd ∧ Hid (Lp wq w5.heap.size v11 (dfil (D.take k) C.p)) ∧ Hid (Chg [] w5 wq)) (fun _ v12 _ => nd - (intOf v12).toNat)
      case atStart => exact ⟨0, rfl, Nat.zero_le _, Lib.hid (Lp.nil _ _), Lib.hid (Chg.refl _ _)⟩
      case round =>
        obtain ⟨k, rfl, hk, HT, HQ⟩ := hrel
        rename World => w6
        by_cases hkn : k < nd
        · have hkD : k < D.length := by rw [HND.out]; exact hkn
          have HA6 := Lib.hid (HA5.out.chg HQ.out (by simp))
          obtain ⟨b2, off2, rfl, hb2, g1, g2⟩ := pl_cells (HRD.out.below HQ.out.low (Nat.le_refl _)) hkD
          have HTK : Hid (dfil (D.take (k + 1)) C.p = dfil (D.take k) C.p ++ if D[k] ≠ C.p then [D[k]] else []) := Lib.hid (dfil_succ hkD)
          have HTL : Hid ((dfil (D.take k) C.p).length ≤ 1000000) := Lib.hid (by
            have h1 := dfil_len (D.take k) C.p
            rw [List.length_take] at h1
            have := HND60.out
            omega)
          have HKN := Lib.hid hkn
          have j0 : (0 : Int) ≤ (k : Int) := by omega
          have j1 : (k : Int) < (nd : Int) := by omega
          have jd : decide (k < nd) = true := by simpa using hkn
          have jb : (k : Int) ≤ 60 := by have := HND60.out; omega
          obtain ⟨c0, c1, c2, c3, cz⟩ := HA6.out.actC
          generalize D[k] = q at *
          clear hkD hb2 hkn hk
          by_cases e : q = C.p
          · have hN := neq_placeX q C.p (r := false) (by simp [e])
            have HE : Hid (dfil (D.take (k + 1)) C.p = dfil (D.take k) C.p) := Lib.hid (by rw [HTK.out]; simp [e])
            clear e
            go_wp2_with fail
            go_region
            go_wp2_with fail
            go_roundw
            case rel => have := HKN.out; exact ⟨k + 1, by go_num, by omega, Lib.hid (by rw [HE.out]; exact HT.out.kept (Chg.refl [] w6).drew), Lib.hid HQ.out.drew⟩
            case measure => have := HKN.out; simp [intOf]; omega
          · have hN := neq_placeX q C.p (r := true) (by simp [e])
            have HE : Hid (dfil (D.take (k + 1)) C.p = dfil (D.take k) C.p ++ [q]) := Lib.hid (by rw [HTK.out]; simp [e])
            have HCA : Hid (Chg [] w6 (w6.drew.alloc (.cells #[.int .i64 q.1, .int .i64 q.2] 25))) := Lib.hid ((Chg.refl [] w6).drew.alloc _)
            have HT2 := Lib.hid (HT.out.kept HCA.out)
            have HNE := Lib.hid (Own.new w6.drew 25 (plv [q]))
            have HBS2 : Hid (w5.heap.size ≤ (w6.drew.alloc (.cells #[.int .i64 q.1, .int .i64 q.2] 25)).heap.size) := Lib.hid (Nat.le_trans HQ.out.size HCA.out.size)
            have HLR := Lib.hid (fun y hy => (HT.out.lt y hy).1)
            clear e
            go_wp2_with fail
            go_region
            go_wp2_with (refine wpList_appPl rfl (.tmp 74) (.tmp 79) rfl w5.heap.size u11 _ rfl HT2.out w6.heap.size q 25 HNE.out rfl HTL.out HBS2.out ?_; intro g cap w7 hm hc7)
            have HQ7 := Lib.hid ((HQ.out.trans HCA.out).then hc7 (fun y hy => .inr (HLR.out y hy)))
            have HM : Hid (Lp w7 w5.heap.size (.slice (some ⟨g, 0, none⟩) ((dfil (D.take k) C.p).length + 1) cap) (dfil (D.take (k + 1)) C.p)) := Lib.hid (by rw [HE.out]; exact hm.out)
            clear hc7
            go_wp2_with fail
            go_roundw
            case rel => have := HKN.out; exact ⟨k + 1, by go_num, by omega, HM, HQ7⟩
            case measure => have := HKN.out; simp [intOf]; omega
        · obtain rfl : k = nd := by omega
          have HT2 : Hid (Lp w6 w5.heap.size u11 (dfil D C.p)) := Lib.hid (by
            have := HT.out
            rwa [List.take_of_length_le (by rw [HND.out]; exact Nat.le_refl _)] at this)
          have HS6 := Lib.hid (HS5.out.kept HQ.out)
          have HA6 := Lib.hid (HA5.out.chg HQ.out (by simp))
          have HC6 := Lib.hid (HC5.out.trans (HQ.out.mono (by simp)))
          have HSZ6 := Lib.hid (Nat.le_trans HSZ5.out HQ.out.size)
          have jd : decide (k < k) = false := by simp
          have HBS5 : Hid (w2.heap.size ≤ w5.heap.size) := Lib.hid HC5.out.size
          have HFL : Hid ((dfil D C.p).length ≤ 1000000) := Lib.hid (by
            have h1 := dfil_len D C.p
            have := HND60.out
            have := HND.out
            omega)
          obtain ⟨c0, c1, c2, c3, cz⟩ := HA6.out.actC
          have HIV2 : Hid (DInv (updF F C.p x) (dnext D C.p x) ∧ (dnext D C.p x).length ≤ i + 1) := Lib.hid ⟨HIV.out.1.next HOKP.out x, Nat.le_trans (dnext_len D C.p x) (Nat.succ_le_succ HIV.out.2)⟩
          have HSZQ : Hid (w5.heap.size ≤ w6.heap.size) := Lib.hid HQ.out.size
          clear HT hkn hk HQ hnd60
          cases x with
          | false =>
            have HLp6 : Hid (Lp w6 w2.heap.size u11 (dnext D C.p false)) := Lib.hid (by
              have := HT2.out.base HBS5.out
              unfold dnext
              rw [if_neg (by simp), List.append_nil]
              exact this)
            have HAX := HA6
            have HCX := HC6
            have HSX := HS6
            go_wp2_with fail
            obtain ⟨n2, hn2⟩ : ∃ n2, (dnext D C.p false).length = n2 := ⟨_, rfl⟩
            have HN2 := Lib.hid hn2
            have HN26 : Hid (n2 ≤ 61) := Lib.hid (by have := HIV2.out.2; have := HI.out; omega)
            obtain ⟨ae, ce, hve, hroe⟩ := HLp6.out.form
            have HRE := Lib.hid hroe
            subst hve
            rw [HN2.out]
            clear hn2 hroe
            go_wp2_with fail
            go_loopw [13] (fun v13 wq => ∃ k : Nat, v13 = .int .i64 (k : Int) ∧ k ≤ n2 ∧ Hid (Chg [] w6 wq)) (fun v13 _ => n2 - (intOf v13).toNat)
            case atStart => exact ⟨0, rfl, Nat.zero_le _, Lib.hid (Chg.refl _ _)⟩
            case round =>
              obtain ⟨k, rfl, hk, HQ⟩ := hrel
              rename World => w8
              have HS8 := Lib.hid (HSX.out.kept HQ.out)
              by_cases hkn : k < n2
              · have hkD : k < (dnext D C.p false).length := by rw [HN2.out]; exact hkn
                obtain ⟨b2, off2, rfl, hb2, g1, g2⟩ := pl_cells (HRE.out.below HQ.out.low (Nat.le_refl _)) hkD
                have HQM := Lib.hid (List.getElem_mem hkD)
                generalize (dnext D C.p false)[k] = q at *
                have HID := Lib.hid (IsDown_any HS8.out q (plOk_pw (HIV2.out.1.2 q HQM.out)))
                rw [show (⟨[], updF F C.p false, 0⟩ : SpS).F q = true from (HIV2.out.1.1 q).1 HQM.out] at HID
                have HKN := Lib.hid hkn
                have j0 : (0 : Int) ≤ (k : Int) := by omega
                have j1 : (k : Int) < (n2 : Int) := by omega
                have jd : decide (k < n2) = true := by simpa using hkn
                have jb : (k : Int) ≤ 61 := by have := HN26.out; omega
                clear hkD hb2 hkn hk
                go_wp2_with fail
                refine HID.out.mono ?_
                rintro e w9 ⟨rfl, hc⟩
                have HQ9 := Lib.hid (HQ.out.trans hc)
                clear hc g1 g2
                go_wp2_with fail
                go_roundw
                case rel => have := HKN.out; exact ⟨k + 1, by go_num, by omega, HQ9⟩
                case measure => have := HKN.out; simp [intOf]; omega
              · obtain rfl : k = n2 := by omega
                have jd : decide (k < k) = false := by simp
                have HA8 := Lib.hid (HAX.out.chg HQ.out (by simp))
                have HACT : Hid (∀ V, Chg [] w8 V → V.cell? ⟨ab, 0, none⟩ = some (.int .i64 C.kd) ∧ V.cell? ⟨ab, 24, none⟩ = some (.int .i64 C.p.1) ∧ V.cell? ⟨ab, 25, none⟩ = some (.int .i64 C.p.2) ∧ ab < V.heap.size) := Lib.hid fun V hV => by
                  obtain ⟨q0, q1, q2, q3, q4⟩ := (HA8.out.chg hV (by simp)).actC
                  exact ⟨q0, q2, q3, q4⟩
                have HID : Hid (∀ V, Chg [] w8 V → Calls Tryz.prog 30 #[.pointer (some ⟨p, 0, none⟩), .agg #[.int .i64 C.p.1, .int .i64 C.p.2]] V fun e w' => e = .returned (.bool false) ∧ Chg [] V w') := Lib.hid fun V hV => by
                  have := IsDown_any (HS8.out.kept hV) C.p HOA.out.p
                  rwa [show (⟨[], updF F C.p false, 0⟩ : SpS).F C.p = false by simp [updF]] at this
                have hx8 := HX.out
                clear hkn hk
                go_upto_region 28 with fail
                refine wp_region_held_drew (S := (fun V => Chg [] w8 V ∧ V.cell? ⟨ab, 0, none⟩ = some (.int .i64 C.kd) ∧ V.cell? ⟨ab, 24, none⟩ = some (.int .i64 C.p.1) ∧ V.cell? ⟨ab, 25, none⟩ = some (.int .i64 C.p.2) ∧ ab < V.heap.size)) (by kernel_rfl) ⟨(Chg.refl _ _).drew, HACT.out _ (Chg.refl _ _).drew⟩ fun hHeld => ?_
                refine wpAnyH_take (i := 0) (v := ?_) rfl (by kernel_rfl) (by kernel_rfl) (by kernel_rfl) (fun _ _ _ h => h) (Or.inl ⟨by kernel_rfl, ?_⟩) hHeld ?_
                rotate_left
                · (intro w hSw; first | (go_simp; done) | (go_simp; with_reducible rfl))
                (try simp only [Act.put, List.getElem_toArray, List.getElem_cons_succ, List.getElem_cons_zero, List.setIfInBounds_toArray, List.set_cons_zero, List.set_cons_succ])
                refine wpAnyH_take (i := 1) (v := ?_) rfl (by kernel_rfl) (by kernel_rfl) (by kernel_rfl) (fun _ _ _ h => h) (Or.inl ⟨by kernel_rfl, ?_⟩) hHeld ?_
                rotate_left
                · (intro w hSw; first | (go_simp; done) | (go_simp; with_reducible rfl))
                (try simp only [Act.put, List.getElem_toArray, List.getElem_cons_succ, List.getElem_cons_zero, List.setIfInBounds_toArray, List.set_cons_zero, List.set_cons_succ])
                refine wpAnyH_take (i := 2) (v := ?_) rfl (by kernel_rfl) (by kernel_rfl) (by kernel_rfl) (fun _ _ _ h => h) (Or.inl ⟨by kernel_rfl, ?_⟩) hHeld ?_
                rotate_left
                · (intro w hSw; first | (go_simp; done) | (go_simp; with_reducible rfl))
                (try simp only [Act.put, List.getElem_toArray, List.getElem_cons_succ, List.getElem_cons_zero, List.setIfInBounds_toArray, List.set_cons_zero, List.set_cons_succ])
                refine wpAnyH_take (i := 4) (v := ?_) rfl (by kernel_rfl) (by kernel_rfl) (by kernel_rfl) (fun _ _ _ h => h) (Or.inl ⟨by kernel_rfl, ?_⟩) hHeld ?_
                rotate_left
                · (intro w hSw; first | (go_simp; done) | (go_simp; with_reducible rfl))
                (try simp only [Act.put, List.getElem_toArray, List.getElem_cons_succ, List.getElem_cons_zero, List.setIfInBounds_toArray, List.set_cons_zero, List.set_cons_succ])
                refine wpAnyH_take (i := 5) (v := ?_) rfl (by kernel_rfl) (by kernel_rfl) (by kernel_rfl) (fun _ _ _ h => h) (Or.inl ⟨by kernel_rfl, ?_⟩) hHeld ?_
                rotate_left
                · (intro w hSw; first | (go_simp; done) | (go_simp; with_reducible rfl))
                (try simp only [Act.put, List.getElem_toArray, List.getElem_cons_succ, List.getElem_cons_zero, List.setIfInBounds_toArray, List.set_cons_zero, List.set_cons_succ])
                refine wpAnyH_take (i := 6) (v := ?_) rfl (by kernel_rfl) (by kernel_rfl) (by kernel_rfl) (fun _ _ _ h => h) (Or.inl ⟨by kernel_rfl, ?_⟩) hHeld ?_
                rotate_left
                · (intro w hSw; first | (go_simp; done) | (go_simp; with_reducible rfl))
                (try simp only [Act.put, List.getElem_toArray, List.getElem_cons_succ, List.getElem_cons_zero, List.setIfInBounds_toArray, List.set_cons_zero, List.set_cons_succ])
                refine wpAnyH_ready (rs := [3]) (by kernel_rfl) (by simp) (AllReadyH.cons rfl (fun K hK => ?_) AllReadyH.nil)
                have hH := hHeld
                (go_simp; go_at_call 30; refine (HID.out _ hH.1).mono ?_; rintro e w9 ⟨rfl, hb9⟩)
                refine hK.out _ _ (by have hb9' := hH.1.trans hb9; exact ⟨hb9', HACT.out _ hb9'⟩) (fun hHq1 => ?_)
                clear hK K hH 
                (try simp only [Act.put, List.getElem_toArray, List.getElem_cons_succ, List.getElem_cons_zero, List.setIfInBounds_toArray, List.set_cons_zero, List.set_cons_succ])
                refine wpAnyH_take (i := 7) (v := ?_) rfl (by kernel_rfl) (by kernel_rfl) (by kernel_rfl) (fun _ _ _ h => h) (Or.inl ⟨by kernel_rfl, ?_⟩) hHq1 ?_
                rotate_left
                · (intro w hSw; first | (go_simp; done) | (go_simp; with_reducible rfl))
                (try simp only [Act.put, List.getElem_toArray, List.getElem_cons_succ, List.getElem_cons_zero, List.setIfInBounds_toArray, List.set_cons_zero, List.set_cons_succ])
                refine wpAnyH_done (by kernel_rfl) ?_ _
                have hEnd := hHq1
                have HE := Lib.hid hEnd.1
                clear hHeld hEnd
                have HF9 : Hid (Chg [p, b, d] w2 _) := Lib.hid (HCX.out.trans ((HQ.out.trans HE.out).mono (by simp)))
                have HL9 := Lib.hid ((HLp6.out.kept HQ.out).kept HE.out)
                have HS9 := Lib.hid (HS8.out.kept HE.out)
                go_wp2_with fail
                go_roundw
                case rel => have := HI.out; exact ⟨i + 1, updF F C.p false, dnext D C.p false, by go_num, by omega, by omega, Lib.hid (by have := HL9.out; rw [HN2.out] at this; exact this), HS9, HIV2, HF9⟩
                case measure => have := HI.out; simp [intOf]; omega
          | true =>
            have HCA : Hid (Chg [] w6 (w6.alloc (.cells #[.int .i64 C.p.1, .int .i64 C.p.2] 25))) := Lib.hid ((Chg.refl [] w6).alloc _)
            have HT3 := Lib.hid (HT2.out.kept HCA.out)
            have HNE := Lib.hid (Own.new w6 25 (plv [C.p]))
            have HBS2 : Hid (w5.heap.size ≤ (w6.alloc (.cells #[.int .i64 C.p.1, .int .i64 C.p.2] 25)).heap.size) := Lib.hid (by have h1 := HCA.out.size; have h3 := HSZQ.out; omega)
            have HLR := Lib.hid (fun y hy => (HT2.out.lt y hy).1)
            go_wp2_with (refine wpList_appPl rfl (.tmp 85) (.tmp 88) rfl w5.heap.size u11 _ rfl HT3.out w6.heap.size C.p 25 HNE.out rfl HFL.out HBS2.out ?_; intro g cap w7 hm hc7)
            have HLp6 : Hid (Lp w7 w2.heap.size (.slice (some ⟨g, 0, none⟩) ((dfil D C.p).length + 1) cap) (dnext D C.p true)) := Lib.hid (by
              have := hm.out.base HBS5.out
              unfold dnext
              rw [if_pos rfl]
              exact this)
            have hcx : Chg (rowOf u11) w6 w7 := (HCA.out.mono (by simp)).trans hc7
            have HAX := Lib.hid (HA6.out.chg hcx (fun hm => by have := HLR.out _ hm; have := HA5.out.lt; omega))
            have HSX := Lib.hid (HS6.out.chg hcx (fun hm => by have := HLR.out _ hm; have := HS5.out.lt p (by simp); omega) (fun hm => by have := HLR.out _ hm; have := HS5.out.lt b (by simp); omega) (fun hm => by have := HLR.out _ hm; have := HS5.out.lt d (by simp); omega))
            have HCX := Lib.hid (HC6.out.then hcx (fun y hy => .inr (by have := HLR.out y hy; have := HBS5.out; omega)))
            clear hcx hc7 c0 c1 c2 c3 cz
            go_wp2_with fail
            obtain ⟨n2, hn2⟩ : ∃ n2, (dnext D C.p true).length = n2 := ⟨_, rfl⟩
            have HN2 := Lib.hid hn2
            have HN26 : Hid (n2 ≤ 61) := Lib.hid (by have := HIV2.out.2; have := HI.out; omega)
            obtain ⟨ae, ce, hve, hroe⟩ := HLp6.out.form
            have HRE := Lib.hid hroe
            injection hve with hv1 hv2 hv3
            subst hv1 hv3
            rw [hn2] at hv2
            have HV2 := Lib.hid hv2
            rw [hv2]
            clear hv2
            clear hn2 hroe
            go_wp2_with fail
            go_loopw [13] (fun v13 wq => ∃ k : Nat, v13 = .int .i64 (k : Int) ∧ k ≤ n2 ∧ Hid (Chg [] w7 wq)) (fun v13 _ => n2 - (intOf v13).toNat)
            case atStart => exact ⟨0, rfl, Nat.zero_le _, Lib.hid (Chg.refl _ _)⟩
            case round =>
              obtain ⟨k, rfl, hk, HQ⟩ := hrel
              rename World => w8
              have HS8 := Lib.hid (HSX.out.kept HQ.out)
              by_cases hkn : k < n2
              · have hkD : k < (dnext D C.p true).length := by rw [HN2.out]; exact hkn
                obtain ⟨b2, off2, hae, hb2, g1, g2⟩ := pl_cells (HRE.out.below HQ.out.low (Nat.le_refl _)) hkD
                injection hae with hae
                injection hae with hae1 hae2 _
                subst hae1 hae2
                rw [Nat.zero_add] at g1 g2
                have HQM := Lib.hid (List.getElem_mem hkD)
                generalize (dnext D C.p true)[k] = q at *
                have HID := Lib.hid (IsDown_any HS8.out q (plOk_pw (HIV2.out.1.2 q HQM.out)))
                rw [show (⟨[], updF F C.p true, 0⟩ : SpS).F q = true from (HIV2.out.1.1 q).1 HQM.out] at HID
                have HKN := Lib.hid hkn
                have j0 : (0 : Int) ≤ (k : Int) := by omega
                have j1 : (k : Int) < (n2 : Int) := by omega
                have jd : decide (k < n2) = true := by simpa using hkn
                have jb : (k : Int) ≤ 61 := by have := HN26.out; omega
                clear hkD hb2 hkn hk
                go_wp2_with fail
                refine HID.out.mono ?_
                rintro e w9 ⟨rfl, hc⟩
                have HQ9 := Lib.hid (HQ.out.trans hc)
                clear hc g1 g2
                go_wp2_with fail
                go_roundw
                case rel => have := HKN.out; exact ⟨k + 1, by go_num, by omega, HQ9⟩
                case measure => have := HKN.out; simp [intOf]; omega
              · obtain rfl : k = n2 := by omega
                have jd : decide (k < k) = false := by simp
                have HA8 := Lib.hid (HAX.out.chg HQ.out (by simp))
                have HACT : Hid (∀ V, Chg [] w8 V → V.cell? ⟨ab, 0, none⟩ = some (.int .i64 C.kd) ∧ V.cell? ⟨ab, 24, none⟩ = some (.int .i64 C.p.1) ∧ V.cell? ⟨ab, 25, none⟩ = some (.int .i64 C.p.2) ∧ ab < V.heap.size) := Lib.hid fun V hV => by
                  obtain ⟨q0, q1, q2, q3, q4⟩ := (HA8.out.chg hV (by simp)).actC
                  exact ⟨q0, q2, q3, q4⟩
                have HID : Hid (∀ V, Chg [] w8 V → Calls Tryz.prog 30 #[.pointer (some ⟨p, 0, none⟩), .agg #[.int .i64 C.p.1, .int .i64 C.p.2]] V fun e w' => e = .returned (.bool true) ∧ Chg [] V w') := Lib.hid fun V hV => by
                  have := IsDown_any (HS8.out.kept hV) C.p HOA.out.p
                  rwa [show (⟨[], updF F C.p true, 0⟩ : SpS).F C.p = true by simp [updF]] at this
                have hx8 := HX.out
                clear hkn hk
                go_upto_region 28 with fail
                refine wp_region_held_drew (S := (fun V => Chg [] w8 V ∧ V.cell? ⟨ab, 0, none⟩ = some (.int .i64 C.kd) ∧ V.cell? ⟨ab, 24, none⟩ = some (.int .i64 C.p.1) ∧ V.cell? ⟨ab, 25, none⟩ = some (.int .i64 C.p.2) ∧ ab < V.heap.size)) (by kernel_rfl) ⟨(Chg.refl _ _).drew, HACT.out _ (Chg.refl _ _).drew⟩ fun hHeld => ?_
                refine wpAnyH_take (i := 0) (v := ?_) rfl (by kernel_rfl) (by kernel_rfl) (by kernel_rfl) (fun _ _ _ h => h) (Or.inl ⟨by kernel_rfl, ?_⟩) hHeld ?_
                rotate_left
                · (intro w hSw; first | (go_simp; done) | (go_simp; with_reducible rfl))
                (try simp only [Act.put, List.getElem_toArray, List.getElem_cons_succ, List.getElem_cons_zero, List.setIfInBounds_toArray, List.set_cons_zero, List.set_cons_succ])
                refine wpAnyH_take (i := 1) (v := ?_) rfl (by kernel_rfl) (by kernel_rfl) (by kernel_rfl) (fun _ _ _ h => h) (Or.inl ⟨by kernel_rfl, ?_⟩) hHeld ?_
                rotate_left
                · (intro w hSw; first | (go_simp; done) | (go_simp; with_reducible rfl))
                (try simp only [Act.put, List.getElem_toArray, List.getElem_cons_succ, List.getElem_cons_zero, List.setIfInBounds_toArray, List.set_cons_zero, List.set_cons_succ])
                refine wpAnyH_take (i := 2) (v := ?_) rfl (by kernel_rfl) (by kernel_rfl) (by kernel_rfl) (fun _ _ _ h => h) (Or.inl ⟨by kernel_rfl, ?_⟩) hHeld ?_
                rotate_left
                · (intro w hSw; first | (go_simp; done) | (go_simp; with_reducible rfl))
                (try simp only [Act.put, List.getElem_toArray, List.getElem_cons_succ, List.getElem_cons_zero, List.setIfInBounds_toArray, List.set_cons_zero, List.set_cons_succ])
                refine wpAnyH_take (i := 4) (v := ?_) rfl (by kernel_rfl) (by kernel_rfl) (by kernel_rfl) (fun _ _ _ h => h) (Or.inl ⟨by kernel_rfl, ?_⟩) hHeld ?_
                rotate_left
                · (intro w hSw; first | (go_simp; done) | (go_simp; with_reducible rfl))
                (try simp only [Act.put, List.getElem_toArray, List.getElem_cons_succ, List.getElem_cons_zero, List.setIfInBounds_toArray, List.set_cons_zero, List.set_cons_succ])
                refine wpAnyH_take (i := 5) (v := ?_) rfl (by kernel_rfl) (by kernel_rfl) (by kernel_rfl) (fun _ _ _ h => h) (Or.inl ⟨by kernel_rfl, ?_⟩) hHeld ?_
                rotate_left
                · (intro w hSw; first | (go_simp; done) | (go_simp; with_reducible rfl))
                (try simp only [Act.put, List.getElem_toArray, List.getElem_cons_succ, List.getElem_cons_zero, List.setIfInBounds_toArray, List.set_cons_zero, List.set_cons_succ])
                refine wpAnyH_take (i := 6) (v := ?_) rfl (by kernel_rfl) (by kernel_rfl) (by kernel_rfl) (fun _ _ _ h => h) (Or.inl ⟨by kernel_rfl, ?_⟩) hHeld ?_
                rotate_left
                · (intro w hSw; first | (go_simp; done) | (go_simp; with_reducible rfl))
                (try simp only [Act.put, List.getElem_toArray, List.getElem_cons_succ, List.getElem_cons_zero, List.setIfInBounds_toArray, List.set_cons_zero, List.set_cons_succ])
                refine wpAnyH_ready (rs := [3]) (by kernel_rfl) (by simp) (AllReadyH.cons rfl (fun K hK => ?_) AllReadyH.nil)
                have hH := hHeld
                (go_simp; go_at_call 30; refine (HID.out _ hH.1).mono ?_; rintro e w9 ⟨rfl, hb9⟩)
                refine hK.out _ _ (by have hb9' := hH.1.trans hb9; exact ⟨hb9', HACT.out _ hb9'⟩) (fun hHq1 => ?_)
                clear hK K hH 
                (try simp only [Act.put, List.getElem_toArray, List.getElem_cons_succ, List.getElem_cons_zero, List.setIfInBounds_toArray, List.set_cons_zero, List.set_cons_succ])
                refine wpAnyH_take (i := 7) (v := ?_) rfl (by kernel_rfl) (by kernel_rfl) (by kernel_rfl) (fun _ _ _ h => h) (Or.inl ⟨by kernel_rfl, ?_⟩) hHq1 ?_
                rotate_left
                · (intro w hSw; first | (go_simp; done) | (go_simp; with_reducible rfl))
                (try simp only [Act.put, List.getElem_toArray, List.getElem_cons_succ, List.getElem_cons_zero, List.setIfInBounds_toArray, List.set_cons_zero, List.set_cons_succ])
                refine wpAnyH_done (by kernel_rfl) ?_ _
                have hEnd := hHq1
                have HE := Lib.hid hEnd.1
                clear hHeld hEnd
                have HF9 : Hid (Chg [p, b, d] w2 _) := Lib.hid (HCX.out.trans ((HQ.out.trans HE.out).mono (by simp)))
                have HL9 := Lib.hid ((HLp6.out.kept HQ.out).kept HE.out)
                have HS9 := Lib.hid (HS8.out.kept HE.out)
                go_wp2_with fail
                go_roundw
                case rel => have := HI.out; exact ⟨i + 1, updF F C.p true, dnext D C.p true, by go_num, by omega, by omega, Lib.hid (by have := HL9.out; rw [HV2.out] at this; exact this), HS9, HIV2, HF9⟩
                case measure => have := HI.out; simp [intOf]; omega
    · have HEX : Hid (DInv F D) := Lib.hid HIV.out.1
      obtain ⟨ad, cd, rfl, hro⟩ := HLp.out.form
      have HRD := Lib.hid hro
      rw [HND.out]
      obtain ⟨i3, z3⟩ := HIN.out w3 HB3.out
      have HPU := Lib.hid (Put_any HSp.out (Nat.zero_le _) A w.heap.size i3 z3 HFT.out)
      have hnd60 : (nd : Int) ≤ 60 := by have := HIV.out.2; have := HND.out; omega
      have HND60 := Lib.hid hnd60
      have hcase : decide ((i : Int) < (n : Int)) = false ∨ (decide ((i : Int) < (n : Int)) = true ∧ decide ((i : Int) < 60) = false) := by
        by_cases h1 : i < n
        · refine .inr ⟨by simp; omega, by simp; omega⟩
        · exact .inl (by simp; omega)
      have hcase' : decide (i < n) = decide ((i : Int) < (n : Int)) ∧ decide (i < 60) = decide ((i : Int) < 60) := by
        constructor <;> rw [decide_eq_decide] <;> omega
      have HCS := Lib.hid (And.intro hcase hcase')
      clear hlt hi1 hi2 hro i3 z3 hnd hcase hcase'
      obtain ⟨hcase, f1, f2⟩ := HCS.out
      rcases hcase with e1 | ⟨e1, e2⟩
      all_goals
        rw [e1] at f1
        first | rw [e2] at f2 | clear f2
        go_wp2_with (refine wpList_loadMg rfl (.tmp 3) rfl w.heap.size rfl A HO3.out ?_)
        refine HPU.out.mono ?_
        rintro e w4 ⟨g, rfl, S1, hr, hs, hc⟩
        have hpb : ∀ x ∈ [p, b], w.heap.size < x := fun x hx => HGE.out x (by simp at hx ⊢; omega)
        have HB4 := Lib.hid (below_chg HB3.out hc HB3.out.size (fun x hx => Nat.le_of_lt (hpb x hx)))
        have HO4 := Lib.hid (HO3.out.chg hc (fun hm => absurd (hpb _ hm) (Nat.lt_irrefl _)))
        clear hpb
        cases hrr : mright A.x with
        | false =>
          obtain ⟨rfl, rfl⟩ := hr.no hrr
          clear hr hs hc hrr
          go_wp2_with fail
          refine (HAL.out w4).mono ?_
          rintro e w5 ⟨rfl, hb⟩
          have HB5 := Lib.hid (HB4.out.trans (hb.mono HB4.out.size))
          clear hb
          go_wp2_with fail
          go_ret
          exact ⟨rfl, HB5.out⟩
        | true =>
          obtain ⟨kk, hk, he, rfl, rfl⟩ := hr.yes hrr
          have HK : Hid ((pMg kk).to = A.to) := Lib.hid (by rw [pMg_enc' hrr he]; rfl)
          have e9 : (⟨[], F, 0⟩ : SpS).addE = 0 := rfl
          rw [e9]
          have HS4 : Hid (Sp w4 p b d ⟨[kk], F, 0⟩) := Lib.hid hs
          have HRD4 := Lib.hid (HLp.out.low hc (fun y hy => HLT.out y (by simp at hy ⊢; omega)))
          obtain ⟨ad', cd', hv, hro⟩ := HRD4.out.form
          injection hv with hv1 hv2 hv3
          subst hv1 hv3
          have HRQ := Lib.hid hro
          clear hr hs hc hrr hk he e9 hv2 hro
          go_wp2_with fail
          go_loopw [14, 15] (fun v14 v15 wq => ∃ k : Nat, v15 = .int .i64 (k : Int) ∧ k ≤ nd ∧ v14 = .bool (decide (A.to ∉ D.take k)) ∧ Hid (Chg [] w4 wq)) (fun _ v15 _ => nd - (intOf v15).toNat)
          case atStart => exact ⟨0, rfl, Nat.zero_le _, by simp, Lib.hid (Chg.refl _ _)⟩
          case round =>
            obtain ⟨k, rfl, hk, rfl, HQ⟩ := hrel
            rename World => w5
            have HO5 := Lib.hid (HO4.out.chg HQ.out (by simp))
            have HB5 := Lib.hid (below_chg HB4.out HQ.out HB4.out.size (by simp))
            by_cases hkn : k < nd
            · have hkD : k < D.length := by rw [HND.out]; exact hkn
              obtain ⟨b2, off2, rfl, hb2, g1, g2⟩ := pl_cells (HRQ.out.below HQ.out.low (Nat.le_refl _)) hkD
              have HTK : Hid (decide (A.to ∉ D.take (k + 1)) = (decide (A.to ∉ D.take k) && decide (D[k] ≠ A.to))) := Lib.hid (by rw [List.take_succ_eq_append_getElem hkD, notin_snoc])
              have HKN := Lib.hid hkn
              have j0 : (0 : Int) ≤ (k : Int) := by omega
              have j1 : (k : Int) < (nd : Int) := by omega
              have jd : decide (k < nd) = true := by simpa using hkn
              have jb : (k : Int) ≤ 60 := by have := HND60.out; omega
              have m3 : w5.cell? ⟨w.heap.size, 3, none⟩ = some (.int .i64 A.to.1) := (HO5.out.cell 3).trans rfl
              have m4 : w5.cell? ⟨w.heap.size, 4, none⟩ = some (.int .i64 A.to.2) := (HO5.out.cell 4).trans rfl
              have mz := HO5.out.lt
              generalize D[k] = q at *
              obtain ⟨r, hr⟩ : ∃ r, decide (q ≠ A.to) = r := ⟨_, rfl⟩
              have hN := neq_placeX q A.to hr
              rw [hr] at HTK
              obtain ⟨t, ht⟩ : ∃ t, decide (A.to ∉ D.take k) = t := ⟨_, rfl⟩
              rw [ht] at HTK ⊢
              clear hkD hb2 hkn hk hr ht
              cases t with
              | false =>
                go_wp2_with fail
                go_region
                go_wp2_with fail
                go_roundw
                case rel => have := HKN.out; exact ⟨k + 1, by go_num, by omega, by rw [HTK.out]; rfl, Lib.hid HQ.out.drew⟩
                case measure => have := HKN.out; simp [intOf]; omega
              | true =>
                go_wp2_with fail
                go_region
                go_wp2_with fail
                go_roundw
                case rel => have := HKN.out; exact ⟨k + 1, by go_num, by omega, by rw [HTK.out]; simp, Lib.hid HQ.out.drew⟩
                case measure => have := HKN.out; simp [intOf]; omega
            · obtain rfl : k = nd := by omega
              have jd : decide (k < k) = false := by simp
              have HS5 := Lib.hid (HS4.out.kept HQ.out)
              have HTK := Lib.hid (Take_x [] HS5.out 0 (by simp))
              have HWT : Hid (decide (A.to ∉ D.take k) = !F A.to) := Lib.hid (by
                rw [List.take_of_length_le (by rw [HND.out]; exact Nat.le_refl _)]
                cases hf : F A.to with
                | false => simp [(HEX.out.1 A.to), hf]
                | true => simp [(HEX.out.1 A.to), hf])
              rw [HWT.out]
              obtain ⟨fu, hfu⟩ : ∃ fu, F A.to = fu := ⟨_, rfl⟩
              rw [hfu]
              have HFU := Lib.hid hfu
              clear hkn hk hfu
              go_wp2_with fail
              refine HTK.out.mono ?_
              rintro e w6 ⟨T, u, g, rfl, ht, hf, hin, hx, hs, hc⟩
              obtain ⟨y1, y2, rfl⟩ := ht.yes kk (keyAt_one kk)
              obtain rfl : u = !fu := by rw [y2, HK.out]; exact congrArg _ HFU.out
              have HB6 := Lib.hid (below_chg HB5.out hc HB5.out.size (fun x hx => Nat.le_of_lt (HGE.out x (by simp at hx ⊢; omega))))
              have HZ := Lib.hid (Own.new w6 40 zmT.cs)
              clear ht hf hin hx hs hc y1 y2
              go_wp2_with (refine wpList_storeMg rfl (.tmp 16) (.tmp 135) rfl w6.heap.size rfl T rfl zmT.cs HZ.out rfl ?_)
              intro w7 ho hc
              have hc7 : Chg [] w6 w7 := ((Chg.refl [] w6).alloc _).then hc (fun x hx => by simp only [List.mem_singleton] at hx; subst hx; exact .inr (Nat.le_refl _))
              have HB7 := Lib.hid (below_chg HB6.out hc7 HB6.out.size (by simp))
              clear ho hc hc7 HZ
              go_wp2_with fail
              refine (HAL.out w7).mono ?_
              rintro e w8 ⟨rfl, hb⟩
              have HB8 := Lib.hid (HB7.out.trans (hb.mono HB7.out.size))
              clear hb
              cases fu <;>
              · go_wp2_with fail
                go_ret
                exact ⟨rfl, HB8.out⟩
end Go.Proofs.YteenlkmnadjnpaaGreat
