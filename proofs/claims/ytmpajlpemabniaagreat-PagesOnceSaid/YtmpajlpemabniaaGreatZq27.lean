/-
  Sorting of uint64: the choice of a pivot. No claim of their own.
-/
import Derived.Test.YtmpajlpemabniaaGreatZq26
namespace Go.Proofs.YtmpajlpemabniaaGreat
open Go.RowKit Go.Sort
set_option linter.unusedVariables false
set_option linter.unusedSimpArgs false
theorem Own.ne {w : World} {g b : Nat} {t u : TypeId} {cs ds : List Value} (h1 : Own w g t cs) (h2 : Own w b u ds) (ht : t ≠ u) : g ≠ b := by
  rintro rfl
  unfold Own at h1 h2
  rw [h1] at h2
  simp at h2
  exact ht h2.2
def Pv (w : World) (g : Nat) (d : Array Int) (z : List Value) (sb s : Nat) (w' : World) : Prop := Uw w' g d z ∧ Own w' sb 3 [.int .i64 (s : Int)] ∧ Chg [sb] w w'
theorem order2_lt2 (d : Array Int) {a b n : Nat} (s : Nat) (ha : a < n) (hb : b < n) {r : Nat × Nat × Nat} (h : order2 ltInt d a b s = r) : r.1 < n ∧ r.2.1 < n ∧ r.2.2 ≤ s + 1 := by
  subst h
  unfold order2
  split
  · exact ⟨hb, ha, Nat.le_refl _⟩
  · exact ⟨ha, hb, Nat.le_succ _⟩
theorem Less_t {x y : Int} (hl : ltInt x y = true) (w : World) : Calls Tryz.prog 257 #[.int .u64 x, .int .u64 y] w fun e w' => e = .returned (.bool true) ∧ w' = w := by
  have := Less_any x y w
  rwa [hl] at this
theorem Less_f {x y : Int} (hl : ltInt x y = false) (w : World) : Calls Tryz.prog 257 #[.int .u64 x, .int .u64 y] w fun e w' => e = .returned (.bool false) ∧ w' = w := by
  have := Less_any x y w
  rwa [hl] at this
set_option maxHeartbeats 1000000 in
theorem order2_any (w : World) (g N c sb s a b : Nat) (d : Array Int) (z : List Value) (h : Uw w g d z) (hs : Own w sb 3 [.int .i64 (s : Int)]) (hN : d.size = N) (ha : a < N) (hb : b < N) (hsz : N < 1000000000) (hss : s ≤ 100) :
    Calls Tryz.prog 275 #[.slice (some ⟨g, 0, none⟩) N c, .int .i64 (a : Int), .int .i64 (b : Int), .pointer (some ⟨sb, 0, none⟩)] w fun e w' => e = .returned (.tuple #[.int .i64 ((order2 ltInt d a b s).1 : Nat), .int .i64 ((order2 ltInt d a b s).2.1 : Nat)]) ∧ Hid (Pv w g d z sb (order2 ltInt d a b s).2.2 w') := by
  have hne : g ≠ sb := Own.ne h hs (by decide)
  have hne' : sb ≠ g := fun e => hne e.symm
  have q0 := h.cell b (by omega)
  have q1 := h.cell a (by omega)
  have q2 : w.cell? ⟨sb, 0, none⟩ = some (.int .i64 (s : Int)) := by rw [hs.cell]; rfl
  have f2 := hs.frozen 0
  have n0 : (0 : Int) ≤ (b : Int) := by omega
  have n1 : (0 : Int) ≤ (a : Int) := by omega
  have b0 : (b : Int) < (N : Int) := by omega
  have b1 : (a : Int) < (N : Int) := by omega
  have hs0 : (0 : Int) ≤ (s : Int) := by omega
  have hs1 : (s : Int) ≤ 100 := by omega
  have hlt := hs.lt
  obtain ⟨x, hx⟩ : ∃ x, Hid (d[b]! = x) := ⟨_, Lib.hid rfl⟩
  obtain ⟨y, hy⟩ : ∃ x, Hid (d[a]! = x) := ⟨_, Lib.hid rfl⟩
  have HO := Lib.hid (show order2 ltInt d a b s = if ltInt x y then (b, a, s + 1) else (a, b, s) by unfold order2; rw [hx.out, hy.out])
  rw [hx.out] at q0
  rw [hy.out] at q1
  have HH := Lib.hid (And.intro h hs)
  clear h hs
  rw [HO.out]
  cases hl : ltInt x y with
  | true =>
    simp only [if_true]
    go_enter Tryz.func275, Tryz.ntmps275
    go_wp2_with fail
    go_quiet ((go_at_call 257; exact Calls.quiet_of_same (Less_t hl _)))
    go_wp2_with fail
    go_ret2
    refine ⟨rfl, Lib.hid ⟨?_, ?_, ?_⟩⟩
    · exact (HH.out.1.qt ⟨_, rfl⟩).far (p := ⟨sb, 0, none⟩) hne _
    · have h1 := (HH.out.2.qt (w' := w.drewN nq) ⟨_, rfl⟩).set 0 (.int .i64 ((s + 1 : Nat) : Int))
      simp at h1
      exact h1
    · exact ((Chg.refl [sb] w).drewN _).setCell (.inl (by simp)) _
  | false =>
    simp only [Bool.false_eq_true, if_false]
    go_enter Tryz.func275, Tryz.ntmps275
    go_wp2_with fail
    go_quiet ((go_at_call 257; exact Calls.quiet_of_same (Less_f hl _)))
    go_wp2_with fail
    go_ret2
    exact ⟨rfl, Lib.hid ⟨HH.out.1.qt ⟨_, rfl⟩, HH.out.2.qt ⟨_, rfl⟩, (Chg.refl [sb] w).drewN _⟩⟩
theorem Pv.then {w w' w'' : World} {g : Nat} {d : Array Int} {z : List Value} {sb s s' : Nat} (h : Pv w g d z sb s w') (k : Pv w' g d z sb s' w'') : Pv w g d z sb s' w'' := ⟨k.1, k.2.1, h.2.2.trans k.2.2⟩
theorem median_facts (d : Array Int) {a b k n s : Nat} (ha : a < n) (hb : b < n) (hk : k < n) : (median ltInt d a b k s).1 < n ∧ (median ltInt d a b k s).2 ≤ s + 3 := by
  unfold median
  simp only
  obtain ⟨h1, h2, h3⟩ := order2_lt2 d s ha hb (r := order2 ltInt d a b s) rfl
  generalize order2 ltInt d a b s = r1 at *
  obtain ⟨h4, h5, h6⟩ := order2_lt2 d r1.2.2 h2 hk (r := order2 ltInt d r1.2.1 k r1.2.2) rfl
  generalize order2 ltInt d r1.2.1 k r1.2.2 = r2 at *
  obtain ⟨h7, h8, h9⟩ := order2_lt2 d r2.2.2 h1 h4 (r := order2 ltInt d r1.1 r2.1 r2.2.2) rfl
  generalize order2 ltInt d r1.1 r2.1 r2.2.2 = r3 at *
  exact ⟨h8, by omega⟩
set_option maxHeartbeats 1000000 in
theorem median_any (w : World) (g N c sb s a b k : Nat) (d : Array Int) (z : List Value) (h : Uw w g d z) (hs : Own w sb 3 [.int .i64 (s : Int)]) (hN : d.size = N) (ha : a < N) (hb : b < N) (hk : k < N) (hsz : N < 1000000000) (hss : s ≤ 90) :
    Calls Tryz.prog 270 #[.slice (some ⟨g, 0, none⟩) N c, .int .i64 (a : Int), .int .i64 (b : Int), .int .i64 (k : Int), .pointer (some ⟨sb, 0, none⟩)] w fun e w' => e = .returned (.int .i64 ((median ltInt d a b k s).1 : Nat)) ∧ Hid (Pv w g d z sb (median ltInt d a b k s).2 w') := by
  have C1 := Lib.hid (order2_any w g N c sb s a b d z h hs hN ha hb hsz (by omega))
  unfold median
  simp only
  obtain ⟨h1, h2, h3⟩ := order2_lt2 d s ha hb (r := order2 ltInt d a b s) rfl
  generalize order2 ltInt d a b s = r1 at *
  obtain ⟨x1, y1, s1⟩ := r1
  simp only at h1 h2 h3 C1 ⊢
  have C2 := Lib.hid (fun w1 (p : Pv w g d z sb s1 w1) => order2_any w1 g N c sb s1 y1 k d z p.1 p.2.1 hN h2 hk hsz (by omega))
  obtain ⟨h4, h5, h6⟩ := order2_lt2 d s1 h2 hk (r := order2 ltInt d y1 k s1) rfl
  generalize order2 ltInt d y1 k s1 = r2 at *
  obtain ⟨x2, y2, s2⟩ := r2
  simp only at h4 h5 h6 C2 ⊢
  have C3 := Lib.hid (fun w1 w2 (p : Pv w1 g d z sb s2 w2) => order2_any w2 g N c sb s2 x1 x2 d z p.1 p.2.1 hN h1 h4 hsz (by omega))
  generalize order2 ltInt d x1 x2 s2 = r3 at *
  obtain ⟨x3, y3, s3⟩ := r3
  simp only at C3 ⊢
  clear h1 h2 h3 h4 h5 h6 h hs
  go_enter Tryz.func270, Tryz.ntmps270
  go_wp2_with fail
  refine C1.out.mono ?_
  rintro e w1 ⟨rfl, P1⟩
  go_wp2_with fail
  refine (C2.out w1 P1.out).mono ?_
  rintro e w2 ⟨rfl, P2⟩
  go_wp2_with fail
  refine (C3.out w1 w2 P2.out).mono ?_
  rintro e w3 ⟨rfl, P3⟩
  go_wp2_with fail
  go_ret
  exact ⟨rfl, Lib.hid ((P1.out.then P2.out).then P3.out)⟩
set_option maxHeartbeats 1000000 in
theorem medianAdj_any (w : World) (g N c sb s a : Nat) (d : Array Int) (z : List Value) (h : Uw w g d z) (hs : Own w sb 3 [.int .i64 (s : Int)]) (hN : d.size = N) (ha : 1 ≤ a) (hb : a + 1 < N) (hsz : N < 1000000000) (hss : s ≤ 90) :
    Calls Tryz.prog 269 #[.slice (some ⟨g, 0, none⟩) N c, .int .i64 (a : Int), .pointer (some ⟨sb, 0, none⟩)] w fun e w' => e = .returned (.int .i64 ((medianAdjacent ltInt d a s).1 : Nat)) ∧ Hid (Pv w g d z sb (medianAdjacent ltInt d a s).2 w') := by
  have C1 := Lib.hid (median_any w g N c sb s (a - 1) a (a + 1) d z h hs hN (by omega) (by omega) hb hsz hss)
  unfold medianAdjacent
  obtain ⟨m, hm⟩ : ∃ m, a = m + 1 := ⟨a - 1, by omega⟩
  obtain ⟨q, hq⟩ : ∃ q, q = a + 1 := ⟨_, rfl⟩
  rw [show a - 1 = m by omega, ← hq] at C1 ⊢
  have e1 : IntKind.i64.wrap ((a : Int) - 1) = (m : Int) := wrapN (by omega) (by omega)
  have e2 : IntKind.i64.wrap ((a : Int) + 1) = (q : Int) := wrapN (by omega) (by omega)
  clear hm hq h hs
  go_enter Tryz.func269, Tryz.ntmps269
  go_wp2_with fail
  refine C1.out.mono ?_
  rintro e w1 ⟨rfl, P1⟩
  go_wp2_with fail
  go_ret
  exact ⟨rfl, P1⟩
def hc : Hint → Int
  | .unknown => 0
  | .increasing => 1
  | .decreasing => 2
theorem Pv.qt {w w' w'' : World} {g : Nat} {d : Array Int} {z : List Value} {sb s : Nat} (h : Pv w g d z sb s w') (k : Qt w' w'') : Pv w g d z sb s w'' := ⟨h.1.qt k, h.2.1.qt k, h.2.2.qt k⟩
theorem Pv.sd {w0 w w' : World} {g : Nat} {d : Array Int} {z : List Value} {sb s : Nat} (h : Pv w g d z sb s w') (h0 : Chg [] w0 w) (hs : w0.heap.size ≤ sb) : Sd w0 g d z w' :=
  ⟨h.1, (h0.mono (by simp)).then h.2.2 (by simp; exact .inr hs)⟩
set_option maxHeartbeats 4000000 in
set_option maxRecDepth 100000 in
theorem choosePivot_any (w : World) (g N c a b : Nat) (d : Array Int) (z : List Value) (h : Uw w g d z) (hN : d.size = N) (hab : a + 8 ≤ b) (hb : b ≤ N) (hsz : N < 1000000000) :
    Calls Tryz.prog 254 #[.slice (some ⟨g, 0, none⟩) N c, .int .i64 (a : Int), .int .i64 (b : Int)] w fun e w' => e = .returned (.tuple #[.int .i64 ((choosePivot ltInt d a b).1 : Nat), .int .i64 (hc (choosePivot ltInt d a b).2)]) ∧ Hid (Sd w g d z w') := by
  obtain ⟨l, hl⟩ : ∃ l, l = b - a := ⟨_, rfl⟩
  obtain ⟨q, hq⟩ : ∃ q, q = l / 4 := ⟨_, rfl⟩
  obtain ⟨q2, hq2⟩ : ∃ x, x = q * 2 := ⟨_, rfl⟩
  obtain ⟨q3, hq3⟩ : ∃ x, x = q * 3 := ⟨_, rfl⟩
  obtain ⟨i, hi⟩ : ∃ i, i = a + q := ⟨_, rfl⟩
  obtain ⟨j, hj⟩ : ∃ i, i = a + q2 := ⟨_, rfl⟩
  obtain ⟨k, hk⟩ : ∃ i, i = a + q3 := ⟨_, rfl⟩
  have e1 : IntKind.i64.wrap ((b : Int) - (a : Int)) = (l : Int) := wrapN (by omega) (by omega)
  have e2 : (l : Int) / 4 = (q : Int) := by omega
  have e3 : Int.tdiv (l : Int) 4 = (q : Int) := by rw [Int.tdiv_eq_ediv_of_nonneg (by omega)]; omega
  have e4 : IntKind.i64.wrap (q : Int) = (q : Int) := wrapN rfl (by omega)
  have e5 : IntKind.i64.wrap ((q : Int) * 2) = (q2 : Int) := wrapN (by omega) (by omega)
  have e6 : IntKind.i64.wrap ((q : Int) * 3) = (q3 : Int) := wrapN (by omega) (by omega)
  have e7 : IntKind.i64.wrap ((a : Int) + (q : Int)) = (i : Int) := wrapN (by omega) (by omega)
  have e8 : IntKind.i64.wrap ((a : Int) + (q2 : Int)) = (j : Int) := wrapN (by omega) (by omega)
  have e9 : IntKind.i64.wrap ((a : Int) + (q3 : Int)) = (k : Int) := wrapN (by omega) (by omega)
  have d8 : decide (8 ≤ (l : Int)) = true := decide_eq_true (by omega)
  have HX := Lib.hid (show choosePivot ltInt d a b = (fun r : Nat × Nat => (r.1, if r.2 = 0 then Hint.increasing else if r.2 = 12 then Hint.decreasing else Hint.unknown)) (if l ≥ 50 then (median ltInt d (medianAdjacent ltInt d i 0).1 (medianAdjacent ltInt d j (medianAdjacent ltInt d i 0).2).1 (medianAdjacent ltInt d k (medianAdjacent ltInt d j (medianAdjacent ltInt d i 0).2).2).1 (medianAdjacent ltInt d k (medianAdjacent ltInt d j (medianAdjacent ltInt d i 0).2).2).2) else median ltInt d i j k 0) by
    unfold choosePivot
    simp only [← hl, ← hq, Nat.mul_one, ← hq2, ← hq3, ← hi, ← hj, ← hk]
    rw [if_pos (show l ≥ 8 by omega)])
  have hsb : g < w.heap.size := Own.lt h
  have hu : Uw (w.alloc (.cells #[.int .i64 0] 3)) g d z := Own.alloc h _
  have ho : Own (w.alloc (.cells #[.int .i64 0] 3)) w.heap.size 3 [.int .i64 ((0 : Nat) : Int)] := Own.new w _ _
  have hc0 : Chg [] w (w.alloc (.cells #[.int .i64 0] 3)) := (Chg.refl [] w).alloc _
  obtain ⟨sb, hsbE⟩ : ∃ sb, Hid (w.heap.size = sb) := ⟨_, Lib.hid rfl⟩
  obtain ⟨w0, HW0⟩ : ∃ w0, Hid (w.alloc (.cells #[.int .i64 0] 3) = w0) := ⟨_, Lib.hid rfl⟩
  rw [HW0.out] at hu ho hc0
  rw [hsbE.out] at ho
  have HC := Lib.hid hc0
  have HU := Lib.hid (And.intro hu ho)
  have hb1 : 1 ≤ i ∧ i < N ∧ j < N ∧ k < N ∧ (50 ≤ l → 1 ≤ i ∧ i + 1 < N ∧ 1 ≤ j ∧ j + 1 < N ∧ 1 ≤ k ∧ k + 1 < N) := by omega
  have HB := Lib.hid hb1
  clear hu ho hc0 h hl hq hq2 hq3 hi hj hk hb1 hsb
  by_cases h50 : 50 ≤ l
  · have d50 : decide (50 ≤ (l : Int)) = true := decide_eq_true (by omega)
    rw [if_pos h50] at HX
    have hbb := HB.out.2.2.2.2 h50
    have C1 := Lib.hid (medianAdj_any w0 g N c sb 0 i d z HU.out.1 HU.out.2 hN hbb.1 hbb.2.1 hsz (by omega))
    have mm : (medianAdjacent ltInt d i 0).1 < N ∧ (medianAdjacent ltInt d i 0).2 ≤ 0 + 3 := median_facts d (a := i - 1) (b := i) (k := i + 1) (n := N) (s := 0) (by omega) (by omega) (by omega)
    obtain ⟨m1, m2⟩ := mm
    generalize medianAdjacent ltInt d i 0 = r1 at *
    obtain ⟨x1, s1⟩ := r1
    simp only at m1 m2 C1 HX
    have C2 := Lib.hid (fun w1 (p : Pv w0 g d z sb s1 w1) => medianAdj_any w1 g N c sb s1 j d z p.1 p.2.1 hN hbb.2.2.1 hbb.2.2.2.1 hsz (by omega))
    have mm : (medianAdjacent ltInt d j s1).1 < N ∧ (medianAdjacent ltInt d j s1).2 ≤ s1 + 3 := median_facts d (a := j - 1) (b := j) (k := j + 1) (n := N) (s := s1) (by omega) (by omega) (by omega)
    obtain ⟨m3, m4⟩ := mm
    generalize medianAdjacent ltInt d j s1 = r2 at *
    obtain ⟨x2, s2⟩ := r2
    simp only at m3 m4 C2 HX
    have C3 := Lib.hid (fun w1 w2 (p : Pv w1 g d z sb s2 w2) => medianAdj_any w2 g N c sb s2 k d z p.1 p.2.1 hN hbb.2.2.2.2.1 hbb.2.2.2.2.2 hsz (by omega))
    have mm : (medianAdjacent ltInt d k s2).1 < N ∧ (medianAdjacent ltInt d k s2).2 ≤ s2 + 3 := median_facts d (a := k - 1) (b := k) (k := k + 1) (n := N) (s := s2) (by omega) (by omega) (by omega)
    obtain ⟨m5, m6⟩ := mm
    generalize medianAdjacent ltInt d k s2 = r3 at *
    obtain ⟨x3, s3⟩ := r3
    simp only at m5 m6 C3 HX
    have C4 := Lib.hid (fun w1 w2 (p : Pv w1 g d z sb s3 w2) => median_any w2 g N c sb s3 x1 x2 x3 d z p.1 p.2.1 hN m1 m3 m5 hsz (by omega))
    obtain ⟨m7, m8⟩ := median_facts d (s := s3) m1 m3 m5
    generalize median ltInt d x1 x2 x3 s3 = r4 at *
    obtain ⟨x4, s4⟩ := r4
    simp only at m7 m8 C4 HX
    have hs4 : s4 ≤ 100 := by omega
    clear m1 m2 m3 m4 m5 m6 m7 m8 hbb h50
    rw [HX.out]
    simp only
    by_cases c0 : s4 = 0
    · have z0 : ((s4 : Int) == 0) = true := by simp; omega
      rw [if_pos c0]
      clear c0
      go_enter Tryz.func254, Tryz.ntmps254
      go_wp2_with fail
      rw [HW0.out, hsbE.out]
      refine (C1.out).mono ?_
      rintro e v1 ⟨rfl, P1⟩
      go_wp2_with fail
      refine (C2.out v1 P1.out).mono ?_
      rintro e v2 ⟨rfl, P2⟩
      go_wp2_with fail
      refine (C3.out v1 v2 P2.out).mono ?_
      rintro e v3 ⟨rfl, P3⟩
      go_wp2_with fail
      refine (C4.out v2 v3 P3.out).mono ?_
      rintro e v4 ⟨rfl, P4⟩
      have k0 : v4.cell? ⟨sb, 0, none⟩ = some (.int .i64 (s4 : Int)) := by rw [P4.out.2.1.cell]; rfl
      go_wp2_with fail
      go_ret2
      exact ⟨rfl, Lib.hid ((((P1.out.then P2.out).then P3.out).then P4.out).sd HC.out (by rw [hsbE.out]; exact Nat.le_refl _))⟩
    · have z0 : ((s4 : Int) == 0) = false := beq_eq_false_iff_ne.2 (by omega)
      rw [if_neg c0]
      clear c0
      by_cases c1 : s4 = 12
      · have z1 : ((s4 : Int) == 12) = true := by simp; omega
        rw [if_pos c1]
        clear c1
        go_enter Tryz.func254, Tryz.ntmps254
        go_wp2_with fail
        rw [HW0.out, hsbE.out]
        refine (C1.out).mono ?_
        rintro e v1 ⟨rfl, P1⟩
        go_wp2_with fail
        refine (C2.out v1 P1.out).mono ?_
        rintro e v2 ⟨rfl, P2⟩
        go_wp2_with fail
        refine (C3.out v1 v2 P2.out).mono ?_
        rintro e v3 ⟨rfl, P3⟩
        go_wp2_with fail
        refine (C4.out v2 v3 P3.out).mono ?_
        rintro e v4 ⟨rfl, P4⟩
        have k0 : v4.cell? ⟨sb, 0, none⟩ = some (.int .i64 (s4 : Int)) := by rw [P4.out.2.1.cell]; rfl
        go_wp2_with fail
        go_ret2
        exact ⟨rfl, Lib.hid ((((P1.out.then P2.out).then P3.out).then P4.out).sd HC.out (by rw [hsbE.out]; exact Nat.le_refl _))⟩
      · have z1 : ((s4 : Int) == 12) = false := beq_eq_false_iff_ne.2 (by omega)
        rw [if_neg c1]
        clear c1
        go_enter Tryz.func254, Tryz.ntmps254
        go_wp2_with fail
        rw [HW0.out, hsbE.out]
        refine (C1.out).mono ?_
        rintro e v1 ⟨rfl, P1⟩
        go_wp2_with fail
        refine (C2.out v1 P1.out).mono ?_
        rintro e v2 ⟨rfl, P2⟩
        go_wp2_with fail
        refine (C3.out v1 v2 P2.out).mono ?_
        rintro e v3 ⟨rfl, P3⟩
        go_wp2_with fail
        refine (C4.out v2 v3 P3.out).mono ?_
        rintro e v4 ⟨rfl, P4⟩
        have k0 : v4.cell? ⟨sb, 0, none⟩ = some (.int .i64 (s4 : Int)) := by rw [P4.out.2.1.cell]; rfl
        go_wp2_with fail
        go_ret2
        exact ⟨rfl, Lib.hid ((((P1.out.then P2.out).then P3.out).then P4.out).sd HC.out (by rw [hsbE.out]; exact Nat.le_refl _))⟩
  · have d50 : decide (50 ≤ (l : Int)) = false := decide_eq_false (by omega)
    rw [if_neg h50] at HX
    have hbb := HB.out
    have C1 := Lib.hid (median_any w0 g N c sb 0 i j k d z HU.out.1 HU.out.2 hN hbb.2.1 hbb.2.2.1 hbb.2.2.2.1 hsz (by omega))
    obtain ⟨m7, m8⟩ := median_facts d (s := 0) hbb.2.1 hbb.2.2.1 hbb.2.2.2.1
    generalize median ltInt d i j k 0 = r4 at *
    obtain ⟨x4, s4⟩ := r4
    simp only at m7 m8 C1 HX
    have hs4 : s4 ≤ 100 := by omega
    clear m7 m8 hbb h50
    rw [HX.out]
    simp only
    by_cases c0 : s4 = 0
    · have z0 : ((s4 : Int) == 0) = true := by simp; omega
      rw [if_pos c0]
      clear c0
      go_enter Tryz.func254, Tryz.ntmps254
      go_wp2_with fail
      rw [HW0.out, hsbE.out]
      refine (C1.out).mono ?_
      rintro e v1 ⟨rfl, P1⟩
      have k0 : v1.cell? ⟨sb, 0, none⟩ = some (.int .i64 (s4 : Int)) := by rw [P1.out.2.1.cell]; rfl
      go_wp2_with fail
      go_ret2
      exact ⟨rfl, Lib.hid (P1.out.sd HC.out (by rw [hsbE.out]; exact Nat.le_refl _))⟩
    · have z0 : ((s4 : Int) == 0) = false := beq_eq_false_iff_ne.2 (by omega)
      rw [if_neg c0]
      clear c0
      by_cases c1 : s4 = 12
      · have z1 : ((s4 : Int) == 12) = true := by simp; omega
        rw [if_pos c1]
        clear c1
        go_enter Tryz.func254, Tryz.ntmps254
        go_wp2_with fail
        rw [HW0.out, hsbE.out]
        refine (C1.out).mono ?_
        rintro e v1 ⟨rfl, P1⟩
        have k0 : v1.cell? ⟨sb, 0, none⟩ = some (.int .i64 (s4 : Int)) := by rw [P1.out.2.1.cell]; rfl
        go_wp2_with fail
        go_ret2
        exact ⟨rfl, Lib.hid (P1.out.sd HC.out (by rw [hsbE.out]; exact Nat.le_refl _))⟩
      · have z1 : ((s4 : Int) == 12) = false := beq_eq_false_iff_ne.2 (by omega)
        rw [if_neg c1]
        clear c1
        go_enter Tryz.func254, Tryz.ntmps254
        go_wp2_with fail
        rw [HW0.out, hsbE.out]
        refine (C1.out).mono ?_
        rintro e v1 ⟨rfl, P1⟩
        have k0 : v1.cell? ⟨sb, 0, none⟩ = some (.int .i64 (s4 : Int)) := by rw [P1.out.2.1.cell]; rfl
        go_wp2_with fail
        go_ret2
        exact ⟨rfl, Lib.hid (P1.out.sd HC.out (by rw [hsbE.out]; exact Nat.le_refl _))⟩
end Go.Proofs.YtmpajlpemabniaaGreat
