/-
  Rows of records (six cells each), of the call's own; append of one. Plain lemmas, no claim of their own.
-/
import Derived.Test.YtmpajlpemabniaaGreatZq35
import Derived.Test.YtmpajlpemabniaaGreatZq24
namespace Go.Proofs.YtmpajlpemabniaaGreat
open Go.RowKit Go.Maps Go.Shelf Go.Deep
set_option linter.unusedVariables false
set_option linter.unusedSimpArgs false
structure RT where
  r : Rc
  A : CeT
def RT.cells (x : RT) : List Value := [.int .u64 (x.r.k : Int), .int .u64 (x.r.n : Int), .int .u64 (x.r.t : Int), .int .i64 x.A.x.k, .slice x.A.a x.A.x.d.length x.A.c, .slice x.A.a2 x.A.x.b.length x.A.c2]
def rts : List RT → List Value
  | [] => []
  | x :: L => x.cells ++ rts L
@[simp] theorem rts_length (L : List RT) : (rts L).length = L.length * 6 := by
  induction L with
  | nil => rfl
  | cons r L ih => simp [rts, RT.cells, ih]; omega
theorem rts_append (A B : List RT) : rts (A ++ B) = rts A ++ rts B := by
  induction A with
  | nil => rfl
  | cons r A ih => simp [rts, ih]
theorem rts_one (L : List RT) : ∀ v ∈ rts L, v.oneCell' = true := by
  induction L with
  | nil => intro v hv; cases hv
  | cons r L ih =>
    intro v hv
    simp only [rts, RT.cells, List.cons_append, List.nil_append, List.mem_cons] at hv
    rcases hv with rfl | rfl | rfl | rfl | rfl | rfl | hv
    · rfl
    · rfl
    · rfl
    · rfl
    · rfl
    · rfl
    · exact ih v hv
theorem rts_get : ∀ (L : List RT) (i j : Nat), j < 6 → (rts L)[i * 6 + j]? = L[i]?.bind fun x => x.cells[j]?
  | [], i, j, _ => by simp [rts]
  | r :: L, 0, j, hj => by
    rw [rts, List.getElem?_append_left (by simp [RT.cells]; omega)]
    simp
  | r :: L, i + 1, j, hj => by
    rw [rts, List.getElem?_append_right (by simp [RT.cells]; omega)]
    have := rts_get L i j hj
    rw [show (i + 1) * 6 + j - r.cells.length = i * 6 + j from by simp [RT.cells]; omega]
    simpa using this
def Rl (w : World) (base : Nat) (v : Value) (L : List RT) : Prop := w.ownsRow base 101 6 v L.length (rts L)
theorem Rl.nil (w : World) (base : Nat) : Rl w base (.slice none 0 0) [] := World.ownsRow_nil w base _ 6
theorem Rl.alloc {w : World} {base : Nat} {v : Value} {L : List RT} (h : Rl w base v L) (o : Obj) : Rl (w.alloc o) base v L := World.ownsRow.alloc h o
theorem Rl.lt {w : World} {base : Nat} {v : Value} {L : List RT} (h : Rl w base v L) : ∀ k, v.ownBlock = some k → base ≤ k ∧ k < w.heap.size := World.ownsRow.lt h
theorem Rl.chg {l : List Nat} {w w' : World} {base : Nat} {v : Value} {L : List RT} (h : Rl w base v L) (hc : Chg l w w') (hl : ∀ k, v.ownBlock = some k → k ∉ l) : Rl w' base v L := by
  refine ⟨h.1, ?_⟩
  rcases h.2 with h1 | ⟨g, cap, cur, h2, hb, hh, h4⟩
  · exact .inl h1
  · subst h2
    refine .inr ⟨g, cap, cur, rfl, hb, ?_, h4⟩
    rw [hc.block g (World.ownsRow.lt h g rfl).2 (hl g rfl)]
    exact hh
theorem Rl.kept {w w' : World} {base : Nat} {v : Value} {L : List RT} (h : Rl w base v L) (hc : Chg [] w w') : Rl w' base v L := h.chg hc (by simp)
theorem Rl.base {w : World} {base base' : Nat} {v : Value} {L : List RT} (h : Rl w base v L) (hb : base' ≤ base) : Rl w base' v L := by
  unfold Rl at h ⊢
  obtain ⟨h0, h1⟩ := h
  refine ⟨h0, ?_⟩
  rcases h1 with h1 | ⟨g, cap, cur, h2, h3, h4⟩
  · exact .inl h1
  · exact .inr ⟨g, cap, cur, h2, by omega, h4⟩
theorem Rl.form {w : World} {base : Nat} {v : Value} {L : List RT} (h : Rl w base v L) : ∃ a c, v = .slice a L.length c ∧ Ro w w.heap.size a (rts L) ∧ L.length ≤ c := by
  unfold Rl at h
  rcases h.2 with ⟨rfl, h0⟩ | ⟨g, cap, cur, rfl, hb, hh, hle, hm, hrest⟩
  · have : L = [] := by simpa using h0
    subst this
    exact ⟨none, 0, rfl, .inl rfl, by simp⟩
  · refine ⟨some ⟨g, 0, none⟩, cap, rfl, .inr ⟨g, 0, rfl, ?_, fun i hi => ?_⟩, hle⟩
    · exact (World.ownsRow.lt h g rfl).2
    · have := World.ownsRow.cellAt h i (by rw [rts_length] at hi; exact hi)
      rw [Nat.zero_add, this]
      simp only [List.getD, List.getElem?_eq_getElem hi, Option.getD_some]
theorem Rl.lit (w : World) (base : Nat) (x : RT) (hb : base ≤ w.heap.size) : Rl (w.alloc (.cells x.cells.toArray 101)) base (.slice (some ⟨w.heap.size, 0, none⟩) 1 1) [x] := by
  have := World.ownsRow_lit (base := base) (e := 101) (size := 6) w x.cells.toArray 1 hb (by decide) (by simp [RT.cells])
  unfold Rl
  simpa [rts] using this
theorem Ro.rt {w : World} {B : Nat} {a : Option Addr} {L : List RT} (h : Ro w B a (rts L)) {i : Nat} (hi : i < L.length) :
    ∃ b off, a = some ⟨b, off, none⟩ ∧ b < B ∧ ∀ i (hi : i < L.length) j (hj : j < 6), w.cell? ⟨b, off + (i * 6 + j), none⟩ = some (L[i].cells[j]'(by simpa [RT.cells] using hj)) := by
  obtain ⟨b, off, h1, h2, h3⟩ := h.at_ (by intro e; have e2 := congrArg List.length e; simp at e2; omega)
  refine ⟨b, off, h1, h2, fun i hi j hj => ?_⟩
  rw [h3 (i * 6 + j) (by simp; omega)]
  have := rts_get L i j hj
  rw [List.getElem?_eq_getElem hi] at this
  rw [List.getD_eq_getElem?_getD, this]
  simp only [Option.bind_some]
  rw [List.getElem?_eq_getElem (by simpa [RT.cells] using hj)]
  rfl
theorem Tryz.info_rec : (Tryz.prog.info? 101).map (fun i => (i.zero, i.size, i.bytes)) = some (some (.agg #[.int .u64 0, .int .u64 0, .int .u64 0, .int .i64 0, .slice none 0 0, .slice none 0 0]), 6, 80) := by kernel_rfl
theorem wp_app6 {o : Oper} {a : Act} {w : World} {K : Act → World → Prop} {Q : Exit → Act → World → Prop} (s x : Operand)
    (ho : o.op = .call { callee := .builtin .append, args := #[s, x], argTypes := #[247, 247] })
    (base : Nat) (v : Value) (L : List RT) (hs : a.eval s = v) (hown : Rl w base v L) (g : Nat) (y : RT) (t : TypeId) (hnew : Own w g t y.cells)
    (hx : a.eval x = .slice (some ⟨g, 0, none⟩) 1 1) (hlen : L.length ≤ 2000000) (hbase : base ≤ w.heap.size)
    (h : ∀ v' w', Hid (Rl w' base v' (L ++ [y])) → w.grownBy w' v.ownBlock → K (a.put o.dst v') w') : o.wp Tryz.prog a w K Q := by
  obtain ⟨i, hi, hzz⟩ := Option.map_eq_some_iff.1 Tryz.info_rec
  simp only [Prod.mk.injEq] at hzz
  obtain ⟨hz, hsz, hby⟩ := hzz
  refine wp_append_own w s x 247 ho base 101 i _ 6 80 Tryz.underlying247 hi hz hsz hby rfl (by omega) v L.length (rts L) hs hown ⟨g, 0, none⟩ 1 1 (rts [y]) hx (by simp) (fun j u hu => ?_) (rts_one _) (by unfold maxLen; omega) (by omega) hbase fun v' w' h2 h3 _ => h v' w' ?_ h3
  · rw [add_off, Nat.zero_add, hnew.cell j]
    simpa [rts] using hu
  · show w'.ownsRow base 101 6 v' (L ++ [y]).length (rts (L ++ [y]))
    rw [List.length_append, rts_append]
    exact h2
theorem wpList_app6 {ops : Array Oper} {rest : List Oper} {o : Oper} {a : Act} {w : World} {Q : Exit → Act → World → Prop} (hgd : o.guard = none) (s x : Operand)
    (ho : o.op = .call { callee := .builtin .append, args := #[s, x], argTypes := #[247, 247] })
    (base : Nat) (v : Value) (L : List RT) (hs : a.eval s = v) (hown : Rl w base v L) (g : Nat) (y : RT) (t : TypeId) (hnew : Own w g t y.cells)
    (hx : a.eval x = .slice (some ⟨g, 0, none⟩) 1 1) (hlen : L.length ≤ 2000000) (hbase : base ≤ w.heap.size)
    (h : ∀ v' w', Hid (Rl w' base v' (L ++ [y])) → w.grownBy w' v.ownBlock → wpList Tryz.prog ops Q rest (a.put o.dst v') w') : wpList Tryz.prog ops Q (o :: rest) a w :=
  wpList_plain hgd fun _ hK => wp_app6 s x ho base v L hs hown g y t hnew hx hlen hbase fun v' w' h2 h3 => hK _ _ (h v' w' h2 h3)
def RtsOk (w : World) (C : List Nat) (L : List RT) : Prop := ∀ x ∈ L, okN x.r ∧ (x.r.k = 2 → x.A.x = x.r.c ∧ CellV w C x.A)
theorem RtsOk.kept {w w' : World} {C : List Nat} {L : List RT} (h : RtsOk w C L) (hc : Chg [] w w') : RtsOk w' C L := fun x hx => ⟨(h x hx).1, fun e => ⟨((h x hx).2 e).1, ((h x hx).2 e).2.chg hc (by simp)⟩⟩
theorem RtsOk.append {w : World} {C : List Nat} {A B : List RT} (h : RtsOk w C A) (k : RtsOk w C B) : RtsOk w C (A ++ B) := fun x hx => by
  rcases List.mem_append.1 hx with hx | hx
  · exact h x hx
  · exact k x hx
theorem RtsOk.nil (w : World) (C : List Nat) : RtsOk w C [] := fun x hx => by cases hx
def RecP (w0 w : World) (C : List Nat) (rs : List Rc) (e : Ending) (w' : World) : Prop :=
  ∃ v xs, e = .returned v ∧ xs.map (·.r) = rs ∧ Hid (Rl w' w0.heap.size v xs) ∧ Hid (∀ x ∈ xs, x.r.k = 2 → x.A.x = x.r.c ∧ CellV w' C x.A) ∧ Chg [] w w'
theorem unlessZero_any (w : World) (k n : Nat) (C : List Nat) (hk : k ≠ 2) :
    Calls Tryz.prog 227 #[.int .u64 (k : Int), .int .u64 (n : Int)] w (RecP w w C (one0 k n)) := by
  unfold one0
  by_cases h : n = 0
  · subst h
    go_enter Tryz.func227, Tryz.ntmps227
    go_wp2_with fail
    go_ret
    exact ⟨_, [], rfl, rfl, Lib.hid (Rl.nil _ _), Lib.hid (fun x hx => by cases hx), Chg.refl _ _⟩
  · rw [if_neg h]
    have h1 : ((n : Int) == 0) = false := by simp; omega
    have h2 : decide ((n : Int) = 0) = false := by simp; omega
    have h3 : ((n : Int) = 0) = False := by simp; omega
    have h4 : (n = 0) = False := by simp [h]
    go_enter Tryz.func227, Tryz.ntmps227
    go_wp2_with fail
    go_ret
    exact ⟨_, [⟨⟨k, n, 0, zCe⟩, zA⟩], rfl, rfl, Lib.hid (Rl.lit w w.heap.size ⟨⟨k, n, 0, zCe⟩, zA⟩ (Nat.le_refl _)), Lib.hid (fun x hx e => by simp at hx; subst hx; exact absurd e hk), (Chg.refl [] w).alloc _⟩
theorem epochRecords_any (w : World) {q p : Nat} {v : Value} {b : Nat} {C : List Nat} {S : PS} (h : Sta w q p v b C S) :
    Calls Tryz.prog 185 #[.pointer (some ⟨q, 0, none⟩)] w (RecP w w C (one0 1 S.ep)) := by
  obtain ⟨h0, h1, h2, h3, h4⟩ := h.cells
  have HU : Hid (Calls Tryz.prog 227 #[.int .u64 1, .int .u64 (S.ep : Int)] w (RecP w w C (one0 1 S.ep))) := Lib.hid (unlessZero_any w 1 S.ep C (by omega))
  clear h
  go_enter Tryz.func185, Tryz.ntmps185
  go_wp2_with (first
    | (go_at_call 227; refine HU.out.mono ?_; rintro e w2 ⟨v2, xs, rfl, r1, r2, r3, r4⟩)
    | fail)
  go_ret
  exact ⟨v2, xs, rfl, r1, r2, r3, r4⟩
theorem openedRecords_any (w : World) {q p : Nat} {v : Value} {b : Nat} {C : List Nat} {S : PS} (h : Sta w q p v b C S) :
    Calls Tryz.prog 186 #[.pointer (some ⟨q, 0, none⟩)] w (RecP w w C (one0 5 S.op)) := by
  obtain ⟨h0, h1, h2, h3, h4⟩ := h.cells
  have HU : Hid (Calls Tryz.prog 227 #[.int .u64 5, .int .u64 (S.op : Int)] w (RecP w w C (one0 5 S.op))) := Lib.hid (unlessZero_any w 5 S.op C (by omega))
  clear h
  go_enter Tryz.func186, Tryz.ntmps186
  go_wp2_with (first
    | (go_at_call 227; refine HU.out.mono ?_; rintro e w2 ⟨v2, xs, rfl, r1, r2, r3, r4⟩)
    | fail)
  go_ret
  exact ⟨v2, xs, rfl, r1, r2, r3, r4⟩
theorem markRecords_any (w : World) {q p : Nat} {v : Value} {b : Nat} {C : List Nat} {S : PS} (h : Sta w q p v b C S) :
    Calls Tryz.prog 187 #[.pointer (some ⟨q, 0, none⟩)] w (RecP w w C (one0 3 S.mr)) := by
  obtain ⟨h0, h1, h2, h3, h4⟩ := h.cells
  have HU : Hid (Calls Tryz.prog 227 #[.int .u64 3, .int .u64 (S.mr : Int)] w (RecP w w C (one0 3 S.mr))) := Lib.hid (unlessZero_any w 3 S.mr C (by omega))
  clear h
  go_enter Tryz.func187, Tryz.ntmps187
  go_wp2_with (first
    | (go_at_call 227; refine HU.out.mono ?_; rintro e w2 ⟨v2, xs, rfl, r1, r2, r3, r4⟩)
    | fail)
  go_ret
  exact ⟨v2, xs, rfl, r1, r2, r3, r4⟩
def tRT (r : Rn) : RT := ⟨tRc r, zA⟩
set_option maxHeartbeats 1000000 in
set_option maxRecDepth 100000 in
theorem trimmedRecords_any (w : World) {q p : Nat} {v : Value} {b : Nat} {C : List Nat} {S : PS} (h : Sta w q p v b C S) :
    Calls Tryz.prog 188 #[.pointer (some ⟨q, 0, none⟩)] w (RecP w w C (S.T.map tRc)) := by
  obtain ⟨h0, h1, h2, h3, h4⟩ := h.cells
  have HR := Lib.hid (Runs_some w p v S.T h.set)
  obtain ⟨N, hN⟩ : ∃ x, Hid (S.T.length = x) := ⟨_, Lib.hid rfl⟩
  have hNl : N ≤ 1000000 := by rw [← hN.out]; exact h.set.len
  clear h h0 h1 h2 h4
  go_enter Tryz.func188, Tryz.ntmps188
  go_wp2_with (first
    | (go_at_call 75; refine HR.out.mono ?_; rintro e w1 ⟨vr, rfl, hl1, hb1⟩
       have HL1 := Lib.hid hl1; have HC1 := Lib.hid (low_chg hb1); clear hl1 hb1
       obtain ⟨a, c, e9, hro, _⟩ := HL1.out.form
       rw [hN.out] at e9
       subst e9
       have HRO := Lib.hid hro
       clear hro)
    | fail)
  go_loopw [3, 12] (fun v3 i wr => ∃ k : Nat, i = .int .i64 k ∧ k ≤ N ∧ Hid (Rl wr w1.heap.size v3 ((S.T.take k).map tRT)) ∧ Hid (Chg [] w1 wr)) (fun _ i _ => N - (intOf i).toNat)
  case atStart => exact ⟨0, rfl, Nat.zero_le _, Lib.hid (Rl.nil _ _), Lib.hid (Chg.refl [] w1)⟩
  case round =>
    obtain ⟨k, rfl, hk, HL, HC⟩ := hrel
    by_cases hlt : k < N
    · have hkL : k < S.T.length := by rw [hN.out]; exact hlt
      obtain ⟨g, off, rfl, hg, hcl⟩ := HRO.out.rn (by omega)
      obtain ⟨x1, x2⟩ := hcl k hkL
      have y1 := HC.out.cell x1 (by simp)
      have y2 := HC.out.cell x2 (by simp)
      have HT2 := Lib.hid (show (S.T.take (k + 1)).map tRT = (S.T.take k).map tRT ++ [tRT (el S.T k)] from by rw [take_el hkL, List.map_append]; rfl)
      have HLK := Lib.hid (show ((S.T.take k).map tRT).length = k from by rw [List.length_map, List.length_take]; omega)
      generalize el S.T k = x at *
      have hd1 : decide (k < N) = true := by simpa using hlt
      have hk0 : (0 : Int) ≤ (k : Int) := by omega
      have hk1 : (k : Int) < (N : Int) := by omega
      have hkb : (k : Int) ≤ 4000000 := by omega
      have HKM := Lib.hid (show N - (k + 1) < N - k by omega)
      have HSZ := Lib.hid HC.out.size
      clear hcl x1 x2 h3
      go_wp2_with (first
        | (at_builtin; refine wpList_app6 rfl (.tmp 16) (.tmp 22) (by rfl) w1.heap.size _ ((S.T.take k).map tRT) (by rfl) ((HL.out.alloc _).alloc _) _ (tRT x) 101 (Own.new _ _ _) (by first | rfl | (rw [World.size_alloc]; rfl)) (by rw [HLK.out]; omega) (by have := HSZ.out; simp; omega) ?_; intro v4 w4 H4 hg4
           have HC4 := Lib.hid (((HC.out.alloc _).alloc _).grown hg4 (fun k e => Or.inr (HL.out.lt k e).1)))
        | fail)
      go_roundw
      case rel => exact ⟨k + 1, by go_num, by omega, by rw [HT2.out]; exact H4, HC4⟩
      case measure => have := HKM.out; simp [intOf]; omega
    · obtain rfl : k = N := by omega
      have hd1 : decide (k < k) = false := by simp
      have HX := Lib.hid (show (S.T.take k).map tRT = S.T.map tRT from by rw [List.take_of_length_le (by rw [hN.out]; exact Nat.le_refl _)])
      go_wp2_with fail
      go_ret
      refine ⟨_, S.T.map tRT, rfl, by rw [List.map_map]; rfl, Lib.hid ?_, Lib.hid (fun x hx e => ?_), HC1.out.trans HC.out⟩
      · have := HL.out
        rw [HX.out] at this
        exact this.base HC1.out.size
      · rw [List.mem_map] at hx
        obtain ⟨y, _, rfl⟩ := hx
        exact absurd e (by simp [tRT, tRc])
set_option maxHeartbeats 1000000 in
set_option maxRecDepth 100000 in
theorem cellRecords_any (w : World) {q p : Nat} {v : Value} {b : Nat} {C : List Nat} {S : PS} (h : Sta w q p v b C S) :
    Calls Tryz.prog 189 #[.pointer (some ⟨q, 0, none⟩)] w (RecP w w C ((addrs S.m).map (cRc S.m))) := by
  obtain ⟨h0, h1, h2, h3, h4⟩ := h.cells
  obtain ⟨V, hV, hV2⟩ := h.map
  have HWR := Lib.hid (written_any w h)
  have HV := Lib.hid (And.intro hV hV2)
  have HG := Lib.hid h.gd
  obtain ⟨N, hN⟩ : ∃ x, Hid ((addrs S.m).length = x) := ⟨_, Lib.hid rfl⟩
  have hNl : N ≤ 1048576 := by rw [← hN.out]; exact nodup_le (addrs_nodup S.m) (fun x hx => (mem_addrs.1 hx).1)
  have H4 := Lib.hid h4
  clear h h0 h1 h2 h3 h4 hV hV2
  go_enter Tryz.func189, Tryz.ntmps189
  go_wp2_with (first
    | (go_at_call 74; refine HWR.out.mono ?_; rintro e w1 ⟨vr, rfl, hl1, hb1⟩
       have HL1 := Lib.hid hl1; have HC1 := Lib.hid hb1; clear hl1 hb1
       obtain ⟨a, c, e9, hro, _⟩ := HL1.out.form
       rw [u64s_length, hN.out] at e9
       subst e9
       have HRO := Lib.hid hro
       clear hro)
    | fail)
  go_loopw [3, 9] (fun v3 i wr => ∃ (k : Nat) (xs : List RT), i = .int .i64 k ∧ k ≤ N ∧ Hid (xs.map (·.r) = ((addrs S.m).take k).map (cRc S.m)) ∧ Hid (Rl wr w1.heap.size v3 xs) ∧ Hid (∀ x ∈ xs, x.A.x = x.r.c ∧ CellV w C x.A) ∧ Hid (Chg [] w1 wr)) (fun _ i _ => N - (intOf i).toNat)
  case atStart => exact ⟨0, [], rfl, Nat.zero_le _, Lib.hid rfl, Lib.hid (Rl.nil _ _), Lib.hid (fun x hx => by cases hx), Lib.hid (Chg.refl [] w1)⟩
  case round =>
    obtain ⟨k, xs, rfl, hk, HM, HL, HX, HC⟩ := hrel
    by_cases hlt : k < N
    · have hkL : k < (addrs S.m).length := by rw [hN.out]; exact hlt
      obtain ⟨g, off, rfl, hg, hcl⟩ := HRO.out.at_ (by intro e; have e2 := congrArg List.length e; rw [u64s_length] at e2; simp at e2; rw [e2] at hkL; simp at hkL)
      have x1 := hcl k (by rw [u64s_length]; exact hkL)
      have eT : (addrs S.m).take (k + 1) = (addrs S.m).take k ++ [(addrs S.m)[k]] := by rw [List.take_succ_eq_append_getElem hkL]
      have ea : (addrs S.m)[k] ∈ addrs S.m := List.getElem_mem hkL
      have eg : (u64s (addrs S.m)).getD k undef = .int .u64 (((addrs S.m)[k] : Nat) : Int) := by simp [u64s, List.getD, hkL]
      rw [eg] at x1
      have y1 := HC.out.cell x1 (by simp)
      generalize (addrs S.m)[k] = y at *
      obtain ⟨hy, hys⟩ := mem_addrs.1 ea
      obtain ⟨A, hA1, hA2, hA3⟩ : ∃ A : CeT, S.m y = some A.x ∧ V y = some A.val ∧ CellV w C A := by
        rcases HV.out.2 y with ⟨e1, _⟩ | e1
        · rw [e1] at hys; cases hys
        · exact e1
      have HCW := Lib.hid (HC1.out.trans HC.out)
      have q4 := HCW.out.cell H4.out (by simp)
      have hlk : (Instr.lookup 136 (.map (some b)) (.int .u64 (y : Int)) false).run Tryz.prog wr = .ok A.val wr :=
        (HV.out.1.kept HCW.out).look1 (t := 136) (e := 42) Tryz.underlying136 (z := .agg #[.int .i64 0, .slice none 0 0, .slice none 0 0]) (by kernel_rfl) (by omega) hA2
      have HT2 : Hid ((xs ++ [(⟨cRc S.m y, A⟩ : RT)]).map (·.r) = ((addrs S.m).take (k + 1)).map (cRc S.m)) := Lib.hid (by rw [List.map_append, HM.out, eT, List.map_append]; rfl)
      have HLK : Hid (xs.length = k) := Lib.hid (by have := congrArg List.length HM.out; simp only [List.length_map, List.length_take] at this; omega)
      have HX2 : Hid (∀ x ∈ xs ++ [(⟨cRc S.m y, A⟩ : RT)], x.A.x = x.r.c ∧ CellV w C x.A) := Lib.hid (fun x hx => by
        rcases List.mem_append.1 hx with hx | hx
        · exact HX.out x hx
        · simp at hx
          subst hx
          refine ⟨?_, hA3⟩
          show A.x = (S.m y).getD zCe
          rw [hA1]
          rfl)
      have hd1 : decide (k < N) = true := by simpa using hlt
      have hk0 : (0 : Int) ≤ (k : Int) := by omega
      have hk1 : (k : Int) < (N : Int) := by omega
      have hkb : (k : Int) ≤ 4000000 := by omega
      have HKM := Lib.hid (show N - (k + 1) < N - k by omega)
      have HSZ := Lib.hid HC.out.size
      have HY : Hid (cRc S.m y = ⟨2, y, 0, (S.m y).getD zCe⟩) := Lib.hid rfl
      clear hcl x1 eT ea eg hA1 hA2 hA3 hys hy hkL
      obtain ⟨⟨ck, cd, cb⟩, a1, c1, a2, c2⟩ := A
      unfold CeT.val cev at hlk
      simp only at hlk
      go_wp2_with (first
        | (at_builtin; refine wpList_app6 rfl (.tmp 13) (.tmp 22) (by rfl) w1.heap.size _ xs (by rfl) (HL.out.alloc _) _ ⟨cRc S.m y, ⟨⟨ck, cd, cb⟩, a1, c1, a2, c2⟩⟩ 101 (Own.new _ _ _) (by first | rfl | (rw [World.size_alloc]; rfl)) (by rw [HLK.out]; omega) (by have := HSZ.out; simp; omega) ?_; intro v4 w4 H4' hg4
           have HC4 := Lib.hid ((HC.out.alloc _).grown hg4 (fun k e => Or.inr (HL.out.lt k e).1)))
        | fail)
      go_roundw
      case rel => exact ⟨k + 1, _, by go_num, by omega, HT2, H4', HX2, HC4⟩
      case measure => have := HKM.out; simp [intOf]; omega
    · obtain rfl : k = N := by omega
      have hd1 : decide (k < k) = false := by simp
      have HY := Lib.hid (show (addrs S.m).take k = addrs S.m from List.take_of_length_le (by rw [hN.out]; exact Nat.le_refl _))
      go_wp2_with fail
      go_ret
      have hch := HC1.out.trans HC.out
      exact ⟨_, xs, rfl, by rw [HM.out, HY.out], Lib.hid (HL.out.base HC1.out.size), Lib.hid (fun x hx _ => ⟨(HX.out x hx).1, (HX.out x hx).2.chg hch (by simp)⟩), hch⟩
end Go.Proofs.YtmpajlpemabniaaGreat
namespace Go.Proofs.YtmpajlpemabniaaGreat
open Go.RowKit
set_option linter.unusedVariables false
set_option linter.unusedSimpArgs false
theorem cmF_opens {n h h' : Nat} {F : Nat → Sec} {L L' : List Rec} (hF : ∀ i, (F i).length = 64) (o : Opens n F h L) (hp : h = h' → ∃ W, L' = L ++ W) (hh : h' ≤ 1) (ok : okL L') (hr : (frs L').length ≤ hsec n * 64) :
    (∀ i, (cmF n F h h' L L' i).length = 64) ∧ Opens n (cmF n F h h' L L') h' L' := by
  have hR1 : ∀ i, (now F (wfM n h h' L L' fun _ => none) i).length = 64 := fun i => by
    rw [now_wf]
    split
    · exact fillS_len _
    · exact hF i
  have mid := mid_opens hF hR1 o hp hh hr fun x => .inr rfl
  have hhs := mid_has hF o hp
  have e0 : cmF n F h h' L L' 0 = supS h' L'.length (frs L').length := by simp [cmF, now, upd]
  have e1 : ∀ x, x ≠ 0 → cmF n F h h' L L' x = now F (wfM n h h' L L' fun _ => none) x := fun x hx => by
    unfold cmF
    show (upd (fun _ => none) 0 _ x).getD _ = _
    simp [upd, hx]
  have hF' : ∀ i, (cmF n F h h' L L' i).length = 64 := fun i => by
    by_cases hi : i = 0
    · subst hi; rw [e0]; exact supS_len _ _ _
    · rw [e1 i hi]; exact hR1 i
  exact ⟨hF', sup_opens hF' mid hhs hh ok hr e0 e1⟩
structure Iv (n : Nat) (P : PT) : Prop where
  len : ∀ i, (P.F i).length = 64
  op : Opens n P.F P.h P.L
  de : Desc P.L P.S
theorem Iv.start (n : Nat) : Iv n ⟨fun _ => zsec, 0, [], PS.zero⟩ := ⟨fun _ => zsec_len, opens_zero n, Desc.nil⟩
theorem chg_iv {n : Nat} {P : PT} {r : Rc} (v : Iv n P) (ho : okN r) (ha : allow P.S r = true) : Iv n (chg n P r).2 := by
  have hd := chg_desc (n := n) v.de ho ha
  unfold chg at hd ⊢
  split at hd
  · rename_i h1
    rw [if_pos h1]
    split at hd
    · rename_i h2
      rw [if_pos h2]
      exact v
    · rename_i h2
      rw [if_neg h2]
      have h0 := v.op.half
      have := cmF_opens (h' := 1 - P.h) (L' := all (exec P.S r)) v.len v.op (fun e => by omega) (by omega) hd.okL (by omega)
      exact ⟨this.1, this.2, hd⟩
  · rename_i h1
    rw [if_neg h1]
    have := cmF_opens (h' := P.h) (L' := P.L ++ [encR r]) v.len v.op (fun _ => ⟨_, rfl⟩) v.op.half hd.okL (by rw [frs_snoc_len]; omega)
    exact ⟨this.1, this.2, hd⟩
theorem all_len {L : List Rec} {S : PS} (d : Desc L S) : (all S).length ≤ 3 + 2 * L.length := by
  have h1 := d.size
  have h2 : ∀ k n, (one0 k n).length ≤ 1 := fun k n => by unfold one0; split <;> simp
  have h3 := h2 1 S.ep
  have h4 := h2 5 S.op
  have h5 := h2 3 S.mr
  unfold all allR'
  simp only [List.length_append, List.length_map]
  omega
theorem Iv.few {n : Nat} {P : PT} (v : Iv n P) (hn : n ≤ 1024) : P.L.length ≤ 20000 := by
  have h1 := frs_ge v.de.okL
  have h2 := v.op.room
  unfold hsec at h2
  omega
theorem Iv.runs {n : Nat} {P : PT} (v : Iv n P) (hn : n ≤ 1024) : P.S.T.length ≤ 999999 := by
  have h1 := v.few hn
  have h2 := v.de.size.1
  omega
theorem Iv.recs {n : Nat} {P : PT} {r : Rc} (v : Iv n P) (hn : n ≤ 1024) (ho : okN r) (ha : allow P.S r = true) : (all (exec P.S r)).length ≤ 100000 := by
  have h1 := v.few hn
  have h2 := all_len (v.de.snoc ho ha)
  rw [List.length_append, List.length_singleton] at h2
  omega
/-! the calls -/
theorem ok_cell {a : Nat} {c : Ce} (ha : a < 1048576) (hr : right c = true) : okN ⟨2, a, 0, c⟩ := ⟨by simp, by simp, by simpa using ha, by simp, by simp, fun _ => hr, by simp⟩
theorem ok_one {a : Nat} (ha : a < 1048576) : okN ⟨4, a, a + 1, zCe⟩ := ⟨by simp, by simp, by simp; omega, by simp; omega, by simp, by simp, by simp⟩
theorem al_cell {S : PS} {a : Nat} {c : Ce} (ht : S.tr a = false) (hm : S.m a = none) : allow S ⟨2, a, 0, c⟩ = true := by simp [allow, ht, hm]
theorem al_one {S : PS} {a : Nat} (ha : a < 1048576) : allow S ⟨4, a, a + 1, zCe⟩ = true := by simp [allow]; omega
theorem al_mark {S : PS} {a : Nat} (ha : a ≤ 1048576) (h : S.mr < a) : allow S ⟨3, a, 0, zCe⟩ = true := by simp [allow]; omega
theorem al_ep {S : PS} {a : Nat} (ha : a ≤ 1048576) (h : S.ep < a) : allow S ⟨1, a, 0, zCe⟩ = true := by simp [allow]; omega
theorem al_op {S : PS} {a : Nat} (ha : a ≤ 1048576) (h : S.op < a) : allow S ⟨5, a, 0, zCe⟩ = true := by simp [allow]; omega
noncomputable def pWr (n : Nat) (P : PT) (a : Nat) (c : Ce) : Nat × PT :=
  if 1048576 ≤ a ∨ right c = false then (1, P) else if P.S.tr a = true then (83, P) else if (P.S.m a).isSome = true then (81, P) else chg n P ⟨2, a, 0, c⟩
noncomputable def pTm (n : Nat) (P : PT) (a : Nat) : Nat × PT := if 1048576 < a then (1, P) else if a ≤ P.S.mr then (0, P) else chg n P ⟨3, a, 0, zCe⟩
noncomputable def pTo (n : Nat) (P : PT) (a : Nat) : Nat × PT := if 1048576 ≤ a then (1, P) else if P.S.tr a = true then (0, P) else chg n P ⟨4, a, a + 1, zCe⟩
noncomputable def pSl (n : Nat) (P : PT) (a : Nat) : Nat × PT := if 1048576 < a then (1, P) else if a ≤ P.S.ep then (84, P) else chg n P ⟨1, a, 0, zCe⟩
noncomputable def pOp (n : Nat) (P : PT) (a : Nat) : Nat × PT := if 1048576 < a then (1, P) else if a ≤ P.S.op then (0, P) else chg n P ⟨5, a, 0, zCe⟩
def Stp (n : Nat) (P P' : PT) : Prop := P' = P ∨ ∃ r, okN r ∧ allow P.S r = true ∧ P' = (chg n P r).2
theorem pWr_stp (n : Nat) (P : PT) (a : Nat) (c : Ce) : Stp n P (pWr n P a c).2 := by
  unfold pWr
  by_cases h1 : 1048576 ≤ a ∨ right c = false
  · rw [if_pos h1]; exact .inl rfl
  · rw [if_neg h1]
    by_cases h2 : P.S.tr a = true
    · rw [if_pos h2]; exact .inl rfl
    · rw [if_neg h2]
      by_cases h3 : (P.S.m a).isSome = true
      · rw [if_pos h3]; exact .inl rfl
      · rw [if_neg h3]
        have h4 : right c = true := by cases hc : right c <;> simp_all
        exact .inr ⟨_, ok_cell (by omega) h4, al_cell (by simpa using h2) (by simpa using h3), rfl⟩
theorem pTm_stp (n : Nat) (P : PT) (a : Nat) : Stp n P (pTm n P a).2 := by
  unfold pTm
  by_cases h1 : 1048576 < a
  · rw [if_pos h1]; exact .inl rfl
  · rw [if_neg h1]
    by_cases h2 : a ≤ P.S.mr
    · rw [if_pos h2]; exact .inl rfl
    · rw [if_neg h2]; exact .inr ⟨_, okN_num (by omega) (by omega), al_mark (by omega) (by omega), rfl⟩
theorem pTo_stp (n : Nat) (P : PT) (a : Nat) : Stp n P (pTo n P a).2 := by
  unfold pTo
  by_cases h1 : 1048576 ≤ a
  · rw [if_pos h1]; exact .inl rfl
  · rw [if_neg h1]
    by_cases h2 : P.S.tr a = true
    · rw [if_pos h2]; exact .inl rfl
    · rw [if_neg h2]; exact .inr ⟨_, ok_one (by omega), al_one (by omega), rfl⟩
theorem pSl_stp (n : Nat) (P : PT) (a : Nat) : Stp n P (pSl n P a).2 := by
  unfold pSl
  by_cases h1 : 1048576 < a
  · rw [if_pos h1]; exact .inl rfl
  · rw [if_neg h1]
    by_cases h2 : a ≤ P.S.ep
    · rw [if_pos h2]; exact .inl rfl
    · rw [if_neg h2]; exact .inr ⟨_, okN_num (by omega) (by omega), al_ep (by omega) (by omega), rfl⟩
theorem pOp_stp (n : Nat) (P : PT) (a : Nat) : Stp n P (pOp n P a).2 := by
  unfold pOp
  by_cases h1 : 1048576 < a
  · rw [if_pos h1]; exact .inl rfl
  · rw [if_neg h1]
    by_cases h2 : a ≤ P.S.op
    · rw [if_pos h2]; exact .inl rfl
    · rw [if_neg h2]; exact .inr ⟨_, okN_num (by omega) (by omega), al_op (by omega) (by omega), rfl⟩
theorem Stp.iv {n : Nat} {P P' : PT} (h : Stp n P P') (v : Iv n P) : Iv n P' := by
  rcases h with rfl | ⟨r, h1, h2, rfl⟩
  · exact v
  · exact chg_iv v h1 h2
theorem chg_S (n : Nat) (P : PT) (r : Rc) : (chg n P r).2.S = P.S ∨ (chg n P r).2.S = exec P.S r := by
  unfold chg
  split
  · split
    · exact .inl rfl
    · exact .inr rfl
  · exact .inr rfl
theorem Stp.S {n : Nat} {P P' : PT} (h : Stp n P P') : P'.S = P.S ∨ ∃ r, okN r ∧ allow P.S r = true ∧ P'.S = exec P.S r := by
  rcases h with rfl | ⟨r, h1, h2, rfl⟩
  · exact .inl rfl
  · exact (chg_S n P r).imp id fun h => ⟨r, h1, h2, h⟩
structure Up (S U : PS) : Prop where
  ep : S.ep ≤ U.ep
  op : S.op ≤ U.op
  mr : S.mr ≤ U.mr
  tr : ∀ a, S.tr a = true → U.tr a = true
  m : ∀ a c, S.m a = some c → U.m a = some c ∨ U.tr a = true
theorem Up.refl (S : PS) : Up S S := ⟨Nat.le_refl _, Nat.le_refl _, Nat.le_refl _, fun _ h => h, fun _ _ h => .inl h⟩
theorem exec_up {S : PS} {r : Rc} (g : Gd S) (ho : okN r) (ha : allow S r = true) : Up S (exec S r) := by
  have hk1 := ho.k1
  have hk5 := ho.k5
  unfold allow at ha
  unfold exec
  by_cases k1 : r.k = 1
  · rw [if_pos k1] at ha ⊢
    have := of_decide_eq_true ha
    exact ⟨this.1, Nat.le_refl _, Nat.le_refl _, fun _ h => h, fun _ _ h => .inl h⟩
  · rw [if_neg k1] at ha ⊢
    by_cases k2 : r.k = 2
    · rw [if_pos k2] at ha ⊢
      rw [Bool.and_eq_true] at ha
      refine ⟨Nat.le_refl _, Nat.le_refl _, Nat.le_refl _, fun _ h => h, fun a c h => .inl ?_⟩
      show updC S.m r.n r.c a = _
      unfold updC
      split
      · rename_i e; subst e; rw [h] at ha; simp at ha
      · exact h
    · rw [if_neg k2] at ha ⊢
      by_cases k3 : r.k = 3
      · rw [if_pos k3] at ha ⊢
        have hd := of_decide_eq_true ha
        have htr : ∀ a, S.tr a = true → a < r.n ∨ mem (cutL S.T (0, r.n)) a = true := fun a h => by
          rcases Nat.lt_or_ge a r.n with h1 | h1
          · exact .inl h1
          · right
            rcases tr_true.1 h with h2 | h2
            · omega
            · rw [(cutL_ok g.nf _).2, h2]
              have : inR (0, r.n) a = false := inR_false.2 (by simp only; omega)
              rw [this]; rfl
        refine ⟨Nat.le_refl _, Nat.le_refl _, hd.1, fun a h => tr_true.2 (htr a h), fun a c h => ?_⟩
        show rmC S.m 0 r.n a = _ ∨ _
        unfold rmC
        split
        · rename_i h9; right; exact tr_true.2 (.inl h9.2)
        · exact .inl h
      · rw [if_neg k3] at ha ⊢
        by_cases k4 : r.k = 4
        · rw [if_pos k4] at ha ⊢
          refine ⟨Nat.le_refl _, Nat.le_refl _, Nat.le_refl _, fun a h => ?_, fun a c h => ?_⟩
          · rcases tr_true.1 h with h2 | h2
            · exact tr_true.2 (.inl h2)
            · refine tr_true.2 (.inr ?_)
              show mem (putL S.T (max r.n S.mr, r.t)) a = true
              rw [(putL_ok g.nf _).2, h2]
              rfl
          · show rmC S.m r.n r.t a = _ ∨ _
            unfold rmC
            split
            · rename_i h9
              right
              have hm := (tr_false.1 (g.cell a c h).2.2)
              refine tr_true.2 (.inr ?_)
              show mem (putL S.T (max r.n S.mr, r.t)) a = true
              rw [(putL_ok g.nf _).2]
              have : inR (max r.n S.mr, r.t) a = true := inR_iff.2 ⟨by simp only; omega, h9.2⟩
              rw [this]; simp
            · exact .inl h
        · rw [if_neg k4] at ha ⊢
          have k5 : r.k = 5 := by omega
          rw [if_pos k5] at ha ⊢
          have := of_decide_eq_true ha
          exact ⟨Nat.le_refl _, this.1, Nat.le_refl _, fun _ h => h, fun _ _ h => .inl h⟩
theorem Stp.up {n : Nat} {P P' : PT} (h : Stp n P P') (v : Iv n P) : Up P.S P'.S := by
  rcases h.S with e | ⟨r, h1, h2, e⟩
  · rw [e]; exact Up.refl _
  · rw [e]; exact exec_up v.de.good h1 h2
theorem tail_iff {S : PS} (g : Gd S) {t : Nat} (h : IsTail S t) : (∀ a, (S.tr a = true ∨ (S.m a).isSome = true) → a < t) ∧ (t = 0 ∨ S.tr (t - 1) = true ∨ (S.m (t - 1)).isSome = true) := by
  have hm : ∀ a, (S.m a).isSome = true → a ∈ addrs S.m := fun a ha => by
    obtain ⟨c, hc⟩ := Option.isSome_iff_exists.1 ha
    exact mem_addrs.2 ⟨(g.cell a c hc).1, ha⟩
  refine ⟨fun a ha => ?_, ?_⟩
  · rcases ha with ha | ha
    · rcases tr_true.1 ha with h1 | h1
      · have := h.ge; omega
      · obtain ⟨r, hr, h2, h3⟩ := mem_iff.1 h1
        have := h.run r hr; omega
    · have := h.adr a (hm a ha); omega
  · rcases h.is with h1 | ⟨r, hr, h1⟩ | ⟨a, ha, h1⟩
    · by_cases h0 : t = 0
      · exact .inl h0
      · right; left; exact tr_true.2 (.inl (by omega))
    · have hne := g.nf.nonempty r hr
      right; left
      exact tr_true.2 (.inr (mem_iff.2 ⟨r, hr, by omega, by omega⟩))
    · right; right
      rw [show t - 1 = a by omega]
      exact (mem_addrs.1 ha).2
theorem Up.tail {S U : PS} (h : Up S U) (g : Gd S) (k : Gd U) {t t' : Nat} (ht : IsTail S t) (ht' : IsTail U t') : t ≤ t' := by
  obtain ⟨_, h1⟩ := tail_iff g ht
  obtain ⟨h2, _⟩ := tail_iff k ht'
  rcases h1 with h1 | h1 | h1
  · omega
  · have := h2 (t - 1) (.inl (h.tr _ h1)); omega
  · obtain ⟨c, hc⟩ := Option.isSome_iff_exists.1 h1
    rcases h.m _ c hc with h3 | h3
    · have := h2 (t - 1) (.inr (by rw [h3]; rfl)); omega
    · have := h2 (t - 1) (.inl h3); omega
end Go.Proofs.YtmpajlpemabniaaGreat
