/-
  The document's own disk in memory, and the contracts of its functions Made, Is, Write. No claim of their own.
-/
import Derived.Test.YtfgniggppafelaaLawK
namespace Go.Proofs.Ytfgniggppafelaa
open Go.RowKit Go.Maps Go.Shelf
set_option linter.unusedVariables false
set_option linter.unusedSimpArgs false

theorem RwAt.put {w : World} {f n k : Nat} {F : Nat → Sec} {S : Sec} (h : RwAt w f n F) (hF : ∀ i, (F i).length = 64) (hS : S.length = 64) (hk : k < n) : RwAt (w.setCells f (k * 64) (u8s S)) f n (updF F k S) := by
  have hth : w.there f (k * 64) (u8s S).length := fun j hj => by
    rw [u8s_length, hS] at hj
    have := h.the (k * 64 + j) (by omega)
    simpa using this
  refine ⟨fun i hi => ?_, World.there_setCells h.the _ _ _⟩
  by_cases e : i = k
  · subst e
    rw [show updF F i S i = S from if_pos rfl]
    exact World.rangeAt_setCells_same _ _ _ _ hth
  · rw [show updF F k S i = F i from if_neg e]
    refine World.rangeAt_setCells_apart (h.rng i hi) _ _ _ (.inr ?_)
    rw [u8s_length, u8s_length, hF, hS]
    omega
theorem updF_len {F : Nat → Sec} {k : Nat} {S : Sec} (hF : ∀ i, (F i).length = 64) (hS : S.length = 64) (i : Nat) : (updF F k S i).length = 64 := by
  unfold updF
  split
  · exact hS
  · exact hF i
def updB (D : Nat → Bool) (k : Nat) (x : Bool) : Nat → Bool := fun j => if j = k then x else D j
/-- the document's disk: its struct in block q, its rows in blocks gn, go and gd -/
structure Rdk (w : World) (q gn go gd n : Nat) (N O : Nat → Sec) (D : Nat → Bool) : Prop where
  c0 : w.cell? ⟨q, 0, none⟩ = some (.slice (some ⟨gn, 0, none⟩) n n)
  c1 : w.cell? ⟨q, 1, none⟩ = some (.slice (some ⟨go, 0, none⟩) n n)
  c2 : w.cell? ⟨q, 2, none⟩ = some (.slice (some ⟨gd, 0, none⟩) n n)
  one : 1 ≤ n
  top : n ≤ 1024
  lenN : ∀ i, (N i).length = 64
  lenO : ∀ i, (O i).length = 64
  rn : RwAt w gn n N
  ro : RwAt w go n O
  bd : BlAt w gd n D
  ne : q ≠ gn ∧ q ≠ go ∧ q ≠ gd ∧ gn ≠ go ∧ gn ≠ gd ∧ go ≠ gd
section
variable {w w' : World} {q gn go gd n : Nat} {N O : Nat → Sec} {D : Nat → Bool}
theorem Rdk.keep (h : Rdk w q gn go gd n N O D) {l : List Nat} (hc : Chg l w w') (hq : q ∉ l) (h1 : gn ∉ l) (h2 : go ∉ l) (h3 : gd ∉ l) : Rdk w' q gn go gd n N O D :=
  ⟨hc.cell h.c0 hq, hc.cell h.c1 hq, hc.cell h.c2 hq, h.one, h.top, h.lenN, h.lenO, h.rn.keep hc h1, h.ro.keep hc h2, h.bd.keep h.one hc h3, h.ne⟩
theorem Rdk.kept (h : Rdk w q gn go gd n N O D) (hc : Chg [] w w') : Rdk w' q gn go gd n N O D := h.keep hc (by simp) (by simp) (by simp) (by simp)
theorem Rdk.ltq (h : Rdk w q gn go gd n N O D) : q < w.heap.size := World.block_lt_of_cell? w _ h.c0
theorem Rdk.ltn (h : Rdk w q gn go gd n N O D) : gn < w.heap.size := h.rn.ltf h.one
theorem Rdk.lto (h : Rdk w q gn go gd n N O D) : go < w.heap.size := h.ro.ltf h.one
theorem Rdk.ltd (h : Rdk w q gn go gd n N O D) : gd < w.heap.size := World.block_lt_of_cell? w _ (h.bd.cell 0 h.one)
theorem Rdk.setN (h : Rdk w q gn go gd n N O D) (k : Nat) (hk : k < n) (S : Sec) (hS : S.length = 64) : Rdk (w.setCells gn (k * 64) (u8s S)) q gn go gd n (updF N k S) O D := by
  have hc : Chg [gn] w (w.setCells gn (k * 64) (u8s S)) := (Chg.refl [gn] w).setCells (by simp) _ _
  obtain ⟨n1, n2, n3, n4, n5, n6⟩ := h.ne
  refine ⟨hc.cell h.c0 (by simpa using n1), hc.cell h.c1 (by simpa using n1), hc.cell h.c2 (by simpa using n1), h.one, h.top, updF_len h.lenN hS, h.lenO, h.rn.put h.lenN hS hk, h.ro.keep hc (by simp; omega), h.bd.keep h.one hc (by simp; omega), h.ne⟩
theorem Rdk.setO (h : Rdk w q gn go gd n N O D) (k : Nat) (hk : k < n) (S : Sec) (hS : S.length = 64) : Rdk (w.setCells go (k * 64) (u8s S)) q gn go gd n N (updF O k S) D := by
  have hc : Chg [go] w (w.setCells go (k * 64) (u8s S)) := (Chg.refl [go] w).setCells (by simp) _ _
  obtain ⟨n1, n2, n3, n4, n5, n6⟩ := h.ne
  refine ⟨hc.cell h.c0 (by simpa using n2), hc.cell h.c1 (by simpa using n2), hc.cell h.c2 (by simpa using n2), h.one, h.top, h.lenN, updF_len h.lenO hS, h.rn.keep hc (by simp; omega), h.ro.put h.lenO hS hk, h.bd.keep h.one hc (by simp; omega), h.ne⟩
theorem Rdk.setD (h : Rdk w q gn go gd n N O D) (k : Nat) (hk : k < n) (x : Bool) : Rdk (w.setCell ⟨gd, k, none⟩ (.bool x)) q gn go gd n N O (updB D k x) := by
  have hc : Chg [gd] w (w.setCell ⟨gd, k, none⟩ (.bool x)) := (Chg.refl [gd] w).setCell (by simp) _
  obtain ⟨n1, n2, n3, n4, n5, n6⟩ := h.ne
  exact ⟨hc.cell h.c0 (by simpa using n3), hc.cell h.c1 (by simpa using n3), hc.cell h.c2 (by simpa using n3), h.one, h.top, h.lenN, h.lenO, h.rn.keep hc (by simp; omega), h.ro.keep hc (by simp; omega), h.bd.set k hk x, h.ne⟩
end
/-- the three rows, made in any order, and the struct on top -/
theorem rdk_made {w1 : World} {gn go gd n : Nat} {t : TypeId} (h1 : 1 ≤ n) (h2 : n ≤ 1024) (hn : RwAt w1 gn n (fun _ => zsec)) (ho : RwAt w1 go n (fun _ => zsec)) (hb : BlAt w1 gd n (fun _ => false)) (e : gn ≠ go ∧ gn ≠ gd ∧ go ≠ gd) :
    Rdk (w1.alloc (.cells #[.slice (some ⟨gn, 0, none⟩) n n, .slice (some ⟨go, 0, none⟩) n n, .slice (some ⟨gd, 0, none⟩) n n] t)) w1.heap.size gn go gd n (fun _ => zsec) (fun _ => zsec) (fun _ => false) := by
  have hc : Chg [] w1 (w1.alloc (.cells #[.slice (some ⟨gn, 0, none⟩) n n, .slice (some ⟨go, 0, none⟩) n n, .slice (some ⟨gd, 0, none⟩) n n] t)) := (Chg.refl [] w1).alloc _
  have hnew := heap_alloc_new w1 (.cells #[.slice (some ⟨gn, 0, none⟩) n n, .slice (some ⟨go, 0, none⟩) n n, .slice (some ⟨gd, 0, none⟩) n n] t)
  have hl1 := hn.ltf h1
  have hl2 := ho.ltf h1
  have hl3 := World.block_lt_of_cell? w1 _ (hb.cell 0 h1)
  refine ⟨?_, ?_, ?_, h1, h2, fun _ => zsec_len, fun _ => zsec_len, hn.keep hc (by simp), ho.keep hc (by simp), hb.keep h1 hc (by simp), by omega, by omega, ?_, e.1, e.2.1, e.2.2⟩
  · rw [cell_of_row _ w1.heap.size 0 _ _ (0, 0) hnew]; rfl
  · rw [cell_of_row _ w1.heap.size 1 _ _ (0, 0) hnew]; rfl
  · rw [cell_of_row _ w1.heap.size 2 _ _ (0, 0) hnew]; rfl
  · have : gd < w1.heap.size := hl3
    omega
theorem rdk_madeQ {w1 : World} {gn go gd n : Nat} {t : TypeId} (q : Nat) (h1 : 1 ≤ n) (h2 : n ≤ 1024) (hn : RwAt w1 gn n (fun _ => zsec)) (ho : RwAt w1 go n (fun _ => zsec)) (hb : BlAt w1 gd n (fun _ => false)) (e : gn ≠ go ∧ gn ≠ gd ∧ go ≠ gd) (hq : w1.heap.size = q) :
    Rdk (w1.alloc (.cells #[.slice (some ⟨gn, 0, none⟩) n n, .slice (some ⟨go, 0, none⟩) n n, .slice (some ⟨gd, 0, none⟩) n n] t)) q gn go gd n (fun _ => zsec) (fun _ => zsec) (fun _ => false) := by
  subst hq
  exact rdk_made h1 h2 hn ho hb e
theorem rw3a (w : World) (n : Nat) (t : TypeId) (c2 c3 : Obj) : RwAt (((w.alloc (.cells (zrow n) t)).alloc c2).alloc c3) w.heap.size n (fun _ => zsec) := (RwAt.made w n t).keep (((Chg.refl [] _).alloc c2).alloc c3) (by simp)
theorem rw3b (w : World) (n : Nat) (t : TypeId) (c1 c3 : Obj) : RwAt (((w.alloc c1).alloc (.cells (zrow n) t)).alloc c3) (w.heap.size + 1) n (fun _ => zsec) := by
  have h := (RwAt.made (w.alloc c1) n t).keep ((Chg.refl [] _).alloc c3) (by simp)
  rwa [show (w.alloc c1).heap.size = w.heap.size + 1 from by simp] at h
theorem rw3c (w : World) (n : Nat) (t : TypeId) (c1 c2 : Obj) : RwAt (((w.alloc c1).alloc c2).alloc (.cells (zrow n) t)) (w.heap.size + 1 + 1) n (fun _ => zsec) := by
  have h := RwAt.made ((w.alloc c1).alloc c2) n t
  rwa [show ((w.alloc c1).alloc c2).heap.size = w.heap.size + 1 + 1 from by simp] at h
theorem bl3a (w : World) (n : Nat) (t : TypeId) (c2 c3 : Obj) : BlAt (((w.alloc (.cells (madeCells #[.bool false] n) t)).alloc c2).alloc c3) w.heap.size n (fun _ => false) := by
  rcases Nat.eq_zero_or_pos n with h | h
  · subst h
    have hb := blAt_made w 0 t
    refine ⟨fun j hj => by omega, fun j => ?_⟩
    have hc : Chg [] (w.alloc (.cells (madeCells #[.bool false] 0) t)) (((w.alloc (.cells (madeCells #[.bool false] 0) t)).alloc c2).alloc c3) := ((Chg.refl [] _).alloc c2).alloc c3
    exact (World.frozen?_of_block (a := ⟨w.heap.size, j, none⟩) (hc.block w.heap.size (by simp) (by simp))).trans (hb.free j)
  · exact (blAt_made w n t).keep h (((Chg.refl [] _).alloc c2).alloc c3) (by simp)
theorem bl3b (w : World) (n : Nat) (t : TypeId) (c1 c3 : Obj) : BlAt (((w.alloc c1).alloc (.cells (madeCells #[.bool false] n) t)).alloc c3) (w.heap.size + 1) n (fun _ => false) := by
  have hb := blAt_made (w.alloc c1) n t
  rw [show (w.alloc c1).heap.size = w.heap.size + 1 from by simp] at hb
  have hc : Chg [] ((w.alloc c1).alloc (.cells (madeCells #[.bool false] n) t)) (((w.alloc c1).alloc (.cells (madeCells #[.bool false] n) t)).alloc c3) := (Chg.refl [] _).alloc c3
  refine ⟨fun j hj => hc.cell (hb.cell j hj) (by simp), fun j => ?_⟩
  exact (World.frozen?_of_block (a := ⟨w.heap.size + 1, j, none⟩) (hc.block (w.heap.size + 1) (by simp) (by simp))).trans (hb.free j)
theorem bl3c (w : World) (n : Nat) (t : TypeId) (c1 c2 : Obj) : BlAt (((w.alloc c1).alloc c2).alloc (.cells (madeCells #[.bool false] n) t)) (w.heap.size + 1 + 1) n (fun _ => false) := by
  have hb := blAt_made ((w.alloc c1).alloc c2) n t
  rwa [show ((w.alloc c1).alloc c2).heap.size = w.heap.size + 1 + 1 from by simp] at hb
section
variable {w : World} {ops : Array Oper} {rest : List Oper} {o : Oper} {a : Act} {Q : Exit → Act → World → Prop}
theorem wpList_box40 (hgd : o.guard = none) (x : Operand) (ho : o.op = .box 40 x) (S : Sec) (hx : a.eval x = sv S)
    (h : wpList Try.prog ops Q rest (a.put o.dst (.pointer (some ⟨w.heap.size, 0, none⟩))) (w.alloc (.cells (u8s S).toArray 40))) : wpList Try.prog ops Q (o :: rest) a w :=
  wpList_plain hgd fun _ hK => by
    unfold Oper.wp execOp
    simp only [ho, Sem.run_bind]
    simp [hx, Instr.box, newVar, newRow, sv, Value.cells]
    exact hK _ _ h
end
theorem made_no (w : World) (i : Int) (h : i < 1 ∨ 1024 < i) :
    Calls Try.prog 9 #[.int .i64 i] w fun e w' => e = .returned (.tuple #[.pointer none, .int .i64 1]) ∧ w = w' := by
  have hcase : decide (i < 1) = true ∨ (decide (i < 1) = false ∧ decide (1024 < i) = true) := by
    by_cases h1 : i < 1
    · exact .inl (by simpa using h1)
    · exact .inr ⟨by simpa using h1, by simp; omega⟩
  rcases hcase with h1 | ⟨h1, h2⟩
  all_goals
    go_enter Try.func9, Try.ntmps9
    go_wp2
    go_ret2
    exact ⟨rfl, rfl⟩
theorem is_ok (w : World) {q gn go gd n : Nat} {N O : Nat → Sec} {D : Nat → Bool} (hd : Rdk w q gn go gd n N O D) (i : Int) (B : Bool) (hB : decide (0 ≤ i ∧ i < n) = B) :
    Calls Try.prog 21 #[.pointer (some ⟨q, 0, none⟩), .int .i64 i] w fun e w' => e = .returned (.bool B) ∧ w = w' := by
  have hc0 := hd.c0
  subst hB
  by_cases h0 : 0 ≤ i
  · have h1 : decide (0 ≤ i) = true := by simpa using h0
    by_cases h2 : i < n
    · have h3 : decide (i < (n : Int)) = true := by simpa using h2
      have h4 : decide (0 ≤ i ∧ i < n) = true := by simp; omega
      rw [h4]
      clear hd
      go_enter Try.func21, Try.ntmps21
      go_wp2
      go_ret
      exact ⟨rfl, rfl⟩
    · have h3 : decide (i < (n : Int)) = false := by simpa using h2
      have h4 : decide (0 ≤ i ∧ i < n) = false := by simp; omega
      rw [h4]
      clear hd
      go_enter Try.func21, Try.ntmps21
      go_wp2
      go_ret
      exact ⟨rfl, rfl⟩
  · have h1 : decide (0 ≤ i) = false := by simpa using h0
    have h4 : decide (0 ≤ i ∧ i < n) = false := by simp; omega
    rw [h4]
    clear hd
    go_enter Try.func21, Try.ntmps21
    go_wp2
    go_ret
    exact ⟨rfl, rfl⟩
theorem rwrite_no (w : World) {q gn go gd n : Nat} {N O : Nat → Sec} {D : Nat → Bool} (hd : Rdk w q gn go gd n N O D) (i : Int) (h : ¬ (0 ≤ i ∧ i < n)) (S : Sec) :
    Calls Try.prog 13 #[.pointer (some ⟨q, 0, none⟩), .int .i64 i, sv S] w fun e w' => e = .returned (.int .i64 41) ∧ Chg [] w w' := by
  have hd2 := hd.kept ((Chg.refl [] w).alloc (.cells (u8s S).toArray 40))
  have HC := Lib.hid (is_ok _ hd2 i false (by simpa using h))
  clear hd hd2 h
  go_enter Try.func13, Try.ntmps13
  go_wp2_with (first
    | (refine wpList_box40 rfl _ rfl S rfl ?_)
    | (go_at_call 21; refine HC.out.mono ?_; rintro e w' ⟨rfl, rfl⟩)
    | fail)
  go_ret
  exact ⟨rfl, (Chg.refl [] w).alloc _⟩
set_option maxRecDepth 100000 in
theorem rwrite_ok (w : World) {q gn go gd n : Nat} {N O : Nat → Sec} {D : Nat → Bool} (hd : Rdk w q gn go gd n N O D) (i : Nat) (hi : i < n) (S : Sec) (hS : S.length = 64) :
    Calls Try.prog 13 #[.pointer (some ⟨q, 0, none⟩), .int .i64 i, sv S] w fun e w' => e = .returned (.int .i64 0) ∧ Rdk w' q gn go gd n (updF N i S) O (updB D i true) ∧ Chg [gn, gd] w w' := by
  have hC1 : Chg [] w (w.alloc (.cells (u8s S).toArray 40)) := (Chg.refl [] w).alloc _
  have hd2 := hd.kept hC1
  have HC := Lib.hid (is_ok _ hd2 i true (by simp; omega))
  have hd3 := hd2.kept ((Chg.refl [] (w.alloc (.cells (u8s S).toArray 40))).drew)
  have hd4 := hd3.setN i hi S hS
  have hd5 := hd4.setD i hi true
  have hc0 := hd3.c0
  have hc0' := hd4.c0
  have hc2' := hd4.c2
  have hcd := hd4.bd.cell i hi
  have hfz := hd4.bd.free i
  have hgn : gn ≠ w.heap.size := by have := hd.ltn; omega
  have hrg : (w.alloc (.cells (u8s S).toArray 40)).drew.rangeAt w.heap.size 0 (u8s S) := (World.rangeAt_drew _ _ _ _).2 (range_box w S _)
  have hu := Try.underlying40
  have hinf : (Try.prog.info? 40).map (·.size) = some (u8s S).length := by rw [u8s_length, hS]; exact info40
  have hCw : Chg [gn] (w.alloc (.cells (u8s S).toArray 40)).drew ((w.alloc (.cells (u8s S).toArray 40)).drew.setCells gn (i * 64) (u8s S)) := (Chg.refl [gn] _).setCells (by simp) _ _
  have hrg2 := hCw.range hrg (by simp; exact fun e => hgn e.symm)
  have hT : (w.alloc (.cells (u8s S).toArray 40)).drew.there gn (i * 64) (u8s S).length := by rw [u8s_length, hS]; exact hd3.rn.at_ i hi
  have hT2 : ((w.alloc (.cells (u8s S).toArray 40)).drew.setCells gn (i * 64) (u8s S)).there gn (i * 64) (u8s S).length := by rw [u8s_length, hS]; exact hd4.rn.at_ i hi
  have hone := u8s_one S
  have hi0 : (0 : Int) ≤ (i : Int) := by omega
  have hi1 : (i : Int) < (n : Int) := by omega
  have HD := Lib.hid hd5
  have HX := Lib.hid (((hC1.drew.mono (l' := [gn, gd]) (by simp)).then hCw (by simp)).setCell (p := ⟨gd, i, none⟩) (by simp) (.bool true))
  clear hd hd2 hd3 hd4 hd5 hC1 hCw
  go_enter Try.func13, Try.ntmps13
  go_wp2_with (first
    | (refine wpList_box40 rfl _ rfl S rfl ?_)
    | (go_at_call 21; refine HC.out.mono ?_; rintro e w' ⟨rfl, rfl⟩)
    | fail)
  go_region_held3 (fun w' => w'.cell? ⟨q, 0, none⟩ = some (.slice (some ⟨gn, 0, none⟩) n n) ∧ w'.rangeAt w.heap.size 0 (u8s S) ∧ w'.there gn (i * 64) (u8s S).length) (first | assumption | (exact ⟨hc0, hrg, hT⟩) | (exact ⟨hc0', hrg2, hT2⟩)) (fail)
  go_wp2
  go_ret
  exact ⟨rfl, HD.out, HX.out⟩
set_option maxRecDepth 100000 in
theorem made_ok (w : World) (n : Nat) (h1 : 1 ≤ n) (h2 : n ≤ 1024) :
    Calls Try.prog 9 #[.int .i64 n] w fun e w' => ∃ q gn go gd, e = .returned (.tuple #[.pointer (some ⟨q, 0, none⟩), .int .i64 0]) ∧ w.heap.size ≤ q ∧ w.heap.size ≤ gn ∧ w.heap.size ≤ go ∧ w.heap.size ≤ gd ∧
      Rdk w' q gn go gd n (fun _ => zsec) (fun _ => zsec) (fun _ => false) ∧ Chg [] w w' := by
  have hmk := fun w => make40 w n h2
  have hmb := fun w => make_bl w n h2
  have e1 : decide ((n : Int) < 1) = false := by simp; omega
  have e2 : decide ((1024 : Int) < n) = false := by simp; omega
  have e5 : decide (n < 1) = false := by simp; omega
  have e6 : decide (1024 < n) = false := by simp; omega
  go_enter Try.func9, Try.ntmps9
  go_wp2_with fail
  go_region
  all_goals
    go_wp2_with fail
    go_ret2
    refine ⟨_, _, _, _, rfl, by omega, by omega, by omega, by omega, (rdk_madeQ _ h1 h2 (by first | with_reducible exact rw3a _ _ _ _ _ | with_reducible exact rw3b _ _ _ _ _ | with_reducible exact rw3c _ _ _ _ _) (by first | with_reducible exact rw3a _ _ _ _ _ | with_reducible exact rw3b _ _ _ _ _ | with_reducible exact rw3c _ _ _ _ _) (by first | with_reducible exact bl3a _ _ _ _ _ | with_reducible exact bl3b _ _ _ _ _ | with_reducible exact bl3c _ _ _ _ _) (by omega) (by simp)).kept ((Chg.refl [] _).drew), (((((Chg.refl [] w).alloc _).alloc _).alloc _).alloc _).drew⟩
end Go.Proofs.Ytfgniggppafelaa
