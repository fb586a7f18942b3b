/-
  Both disks side by side; both tapes opened on them; the statement's both for any act. No claim of their own.
-/
import Derived.Test.YtdiemejdbakffaaGreatRt16
import Derived.Test.YtdiemejdbakffaaGreatRt17
namespace Go.Proofs.YtdiemejdbakffaaGreat
open Go.RowKit Go.Deep Go.Shelf Go.Maps
set_option linter.unusedVariables false
set_option linter.unusedSimpArgs false

theorem rwrite_any (w : World) {q gn go gd n : Nat} {F : Nat → Sec} {m : Nat → Option Sec} (hd : Rdk w q gn go gd n (now F m) F (fun i => (m i).isSome)) (i : Int) (S : Sec) (hS : S.length = 64) :
    Calls Tryz.prog 15 #[.pointer (some ⟨q, 0, none⟩), .int .i64 i, sv S] w fun e w' => e = .returned (.int .i64 (werr n i)) ∧ Hid (Rdk w' q gn go gd n (now F (updI n m i S)) F (fun j => (updI n m i S j).isSome)) ∧ Chg [gn, gd] w w' := by
  by_cases h : 0 ≤ i ∧ i < n
  · obtain ⟨j, rfl⟩ := Int.eq_ofNat_of_zero_le h.1
    rw [werr_in h, updI_nat (by omega)]
    refine (rwrite_ok w hd j (by omega) S hS).mono fun e w' ⟨he, hr, hc⟩ => ⟨he, Lib.hid ?_, hc⟩
    rw [now_upd, some_upd m j S] at hr
    exact hr
  · rw [werr_out h, show updI n m i S = m from if_neg h]
    exact (rwrite_no w hd i h S).mono fun e w' ⟨he, hc⟩ => ⟨he, Lib.hid (hd.kept hc), hc.mono (by simp)⟩
/-- both disks, apart from one another and from all that came in -/
structure Dd (w0 w : World) (p g b q gn go gd n : Nat) (F : Nat → Sec) (m : Nat → Option Sec) : Prop where
  d : Dsk w p g b n F m
  r : Rdk w q gn go gd n (now F m) F (fun i => (m i).isSome)
  low : w0.heap.size ≤ g ∧ w0.heap.size ≤ b ∧ w0.heap.size ≤ gn ∧ w0.heap.size ≤ go ∧ w0.heap.size ≤ gd
  sep : (p ≠ gn ∧ p ≠ go ∧ p ≠ gd) ∧ (g ≠ q ∧ g ≠ gn ∧ g ≠ go ∧ g ≠ gd) ∧ (b ≠ q ∧ b ≠ gn ∧ b ≠ go ∧ b ≠ gd)
  chg : Chg [] w0 w
section
variable {w0 wr wr' w2 w3 w4 : World} {p g b q gn go gd n p2 g2 b2 q2 gn2 go2 gd2 : Nat} {F : Nat → Sec} {m m2 : Nat → Option Sec}
theorem Dd.kept (h : Dd w0 wr p g b q gn go gd n F m) (hc : Chg [] wr wr') : Dd w0 wr' p g b q gn go gd n F m := ⟨h.d.kept hc, h.r.kept hc, h.low, h.sep, h.chg.trans hc⟩
theorem Dd.write (h : Dd w0 wr p g b q gn go gd n F m) (h1 : Dsk w2 p g b n F m2) (h2 : Chg [b] wr w2) (h23 : Chg [] w2 w3) (h4 : Rdk w4 q gn go gd n (now F m2) F (fun i => (m2 i).isSome)) (h5 : Chg [gn, gd] w3 w4) : Dd w0 w4 p g b q gn go gd n F m2 := by
  have hl := h.low
  have hs := h.sep
  exact ⟨(h1.kept h23).keep h5 (by simp; omega) (by simp; omega) (by simp; omega), h4, h.low, h.sep, ((h.chg.then h2 (by simp; omega)).trans h23).then h5 (by simp; omega)⟩
theorem Dd.crash {ks : List Bool} (h : Dd w0 wr p g b q gn go gd n F m) (hp : wr.heap.size ≤ p2) (hg : wr.heap.size ≤ g2) (hb : wr.heap.size ≤ b2) (h1 : Dsk w2 p2 g2 b2 n (crashF F m ks) (fun _ => none)) (h2 : Chg [] wr w2) (h3 : Chg [] w2 w3)
    (hq : w3.heap.size ≤ q2) (hn : w3.heap.size ≤ gn2) (ho : w3.heap.size ≤ go2) (hd : w3.heap.size ≤ gd2) (h4 : Rdk w4 q2 gn2 go2 gd2 n (crashF F m ks) (crashF F m ks) (fun _ => false)) (h5 : Chg [] w3 w4) : Dd w0 w4 p2 g2 b2 q2 gn2 go2 gd2 n (crashF F m ks) (fun _ => none) := by
  have h6 := h.chg.size
  have h7 := h2.size
  have h8 := h3.size
  have l1 := h1.ltp
  have l2 := h1.ltg
  have l3 := h1.ltb
  exact ⟨(h1.kept h3).kept h5, h4, by omega, by omega, ((h.chg.trans h2).trans h3).trans h5⟩
theorem Dd.clen {ks : List Bool} (h : Dd w0 wr p g b q gn go gd n F m) (i : Nat) : (crashF F m ks i).length = 64 := by
  unfold crashF
  split
  · exact h.d.lenN i
  · exact h.d.lenF i
end
section
variable {w0 w w1 w2 : World} {N : List Nat} {t p g b u q gn go gd n : Nat} {S S2 : TS} {F : Nat → Sec} {m : Nat → Option Sec} {h : Nat} {L : List Rec}
theorem Tz.dsk (t1 : Tz w0 w N t p g b n S) : Dsk w p g b n S.F S.m := t1.elim fun l h => h.td.dsk
theorem Tz.three (t1 : Tz w0 w N t p g b n S) : 3 ≤ n := t1.elim fun l h => h.td.three
theorem Rt.dk (r : Rt w N u q gn go gd n S) : Rdk w q gn go gd n (now S.F S.m) S.F (fun i => (S.m i).isSome) := by
  obtain ⟨_, _, _, _, _, _, tc, _⟩ := r
  exact tc.dk
theorem Pw.ins (h : Pw w0 w N t p g b u q gn go gd n S S2) : g ∈ N ∧ b ∈ N := by
  obtain ⟨l, hl⟩ := h.tz
  constructor
  · rcases hl.sub g (by simp) with h1 | h1
    · exact h1
    · have := hl.td.dsk.ltg; omega
  · rcases hl.sub b (by simp) with h1 | h1
    · exact h1
    · have := hl.td.dsk.ltb; omega
theorem Pw.dd (h : Pw w0 w N t p g b u q gn go gd n S S) : Dd w0 w p g b q gn go gd n S.F S.m := by
  obtain ⟨hg, hb⟩ := h.ins
  have ho := h.rt.out
  have hq : q ∉ N := by
    obtain ⟨_, _, _, _, _, _, tc, _⟩ := h.rt
    exact tc.uN.2.1
  have hu := h.lowu
  have o1 := ho gn (by simp)
  have o2 := ho go (by simp)
  have o3 := ho gd (by simp)
  have u1 := hu gn (by simp)
  have u2 := hu go (by simp)
  have u3 := hu gd (by simp)
  have ne : ∀ {x y : Nat}, x ∈ N → y ∉ N → x ≠ y := fun h1 h2 e => h2 (e ▸ h1)
  exact ⟨h.tz.dsk, h.rt.dk, ⟨(h.low g hg).1, (h.low b hb).1, u1.1, u2.1, u3.1⟩, ⟨⟨Ne.symm u1.2, Ne.symm u2.2, Ne.symm u3.2⟩, ⟨ne hg hq, ne hg o1, ne hg o2, ne hg o3⟩, ⟨ne hb hq, ne hb o1, ne hb o2, ne hb o3⟩⟩, h.chg⟩
/-- the act's own cells, or others' that lie apart -/
theorem Pw.notin (h : Pw w0 w N t p g b u q gn go gd n S S2) {x : Nat} (hx : w.heap.size ≤ x) : x ∉ N ++ [u, gn, go, gd] := by
  obtain ⟨_, _, _, _, _, _, tc, _⟩ := h.rt
  have h1 := tc.own.lt
  have h2 := tc.dk.ltn
  have h3 := tc.dk.lto
  have h4 := tc.dk.ltd
  intro hm
  rcases List.mem_append.1 hm with hm | hm
  · have := (h.low x hm).2; omega
  · simp only [List.mem_cons, List.mem_nil_iff, or_false] at hm; omega
theorem opens_lens {R : Nat → Sec} (hn : n ≤ 1024) (o : Opens n R h L) : L.length ≤ 100000 := by
  have h1 := frs_ge o.ok
  have h2 := o.room
  have h6 : hsec n * 64 ≤ 512 * 64 := Nat.mul_le_mul_right _ (by unfold hsec; omega)
  omega
theorem Pw.make {xs : List SB} {aL : Option Addr} {cL : Nat} {l : List Nat} (D : Dd w0 w p g b q gn go gd n F m) (o : Opens n (now F m) h L) (h1 : TD w1 l t p g b n (calm F m h L)) (hl : ∀ x ∈ l, w.heap.size ≤ x) (hc1 : Chg [] w w1) (hu : w1.heap.size ≤ u)
    (hO : Own w2 u 81 [.pointer (some ⟨q, 0, none⟩), .int .i64 (h : Int), .slice aL xs.length cL, .slice none 0 0, .bool false, .int .i64 0]) (hR : RL w2 (u + 1) (.slice aL xs.length cL) xs) (hx : recs xs = L) (hc2 : Chg [] w1 w2) :
    ∃ N, Pw w0 w2 N t p g b u q gn go gd n (calm F m h L) (calm F m h L) := by
  have hsz := hc1.size
  have hsz2 := hc2.size
  have hsz0 := D.chg.size
  obtain ⟨lg, lb, ln, lo, ld⟩ := D.low
  obtain ⟨⟨p1, p2, p3⟩, ⟨g1, g2, g3, g4⟩, ⟨b1, b2, b3, b4⟩⟩ := D.sep
  have t1 := D.d.ltp
  have t2 := D.d.ltg
  have t3 := D.d.ltb
  have t4 := D.r.ltq
  have t5 := D.r.ltn
  have t6 := D.r.lto
  have t7 := D.r.ltd
  have hN : ∀ x ∈ l ++ [g, b], x < w1.heap.size ∧ (w.heap.size ≤ x ∨ x = g ∨ x = b) := fun x hx => by
    rcases List.mem_append.1 hx with hx | hx
    · exact ⟨h1.lt x hx, .inl (hl x hx)⟩
    · simp only [List.mem_cons, List.mem_nil_iff, or_false] at hx
      rcases hx with rfl | rfl
      · exact ⟨by omega, .inr (.inl rfl)⟩
      · exact ⟨by omega, .inr (.inr rfl)⟩
  have hlen : xs.length ≤ 100000 := by rw [← recs_len, hx]; exact opens_lens D.d.top o
  have hel : ∀ x ∈ xs, x.bs.length ≤ 9223372036854775807 := fun x hm => by
    have h2 : x.bs ∈ L := by rw [← hx]; exact List.mem_map_of_mem hm
    have := (o.ok _ h2).2
    omega
  have hns : ∀ x ∈ (l ++ [g, b]) ++ [u, gn, go, gd], x < u + 1 := fun x hx => by
    rcases List.mem_append.1 hx with hx | hx
    · have := (hN x hx).1; omega
    · simp only [List.mem_cons, List.mem_nil_iff, or_false] at hx; omega
  have hw : waitL (calm F m h L) = [] := by
    unfold waitL calm
    simp
  refine ⟨l ++ [g, b], ⟨l, h1.kept hc2, fun x hx => .inl hx, Chg.refl _ _⟩, ⟨aL, cL, xs, none, 0, [], ⟨by simpa [calm] using hO, D.r.kept (hc1.trans hc2), RS.own hR hns (by omega) hel, ⟨RoM.nil _ _, ⟨fun e => absurd rfl e, fun _ hy => by cases hy⟩⟩, ⟨?_, ?_, ?_, ?_, ?_⟩, ⟨by omega, by omega, by omega, by omega⟩⟩, hx, by rw [hw]; rfl⟩, fun x hx => ?_, fun x hx => ?_, (D.chg.trans hc1).trans hc2⟩
  · intro hm; have := hN _ hm; omega
  · intro hm; have := hN _ hm; omega
  · intro hm; have := hN _ hm; omega
  · intro hm; have := hN _ hm; omega
  · intro hm; have := hN _ hm; omega
  · have := hN x hx; omega
  · simp only [List.mem_cons, List.mem_nil_iff, or_false] at hx; omega
/-- the tape's Open where there is a tape, and where there is none -/
theorem topen_no (D : Dd w0 w p g b q gn go gd n F m) (hn : 3 ≤ n) (ho : ∀ h L, ¬ Opens n (now F m) h L) :
    Calls Tryz.prog 7 #[.pointer (some ⟨p, 0, none⟩)] w fun e w' => e = .returned (.tuple #[.pointer none, .int .i64 63]) ∧ Chg [] w w' := by
  refine (open_ok w D.d hn).mono fun e w' h => ?_
  rcases h with ⟨h2, L2, q, l, o2, _⟩ | ⟨_, he, hc⟩
  · exact absurd o2 (ho _ _)
  · exact ⟨he, hc⟩
theorem ropen_no (D : Dd w0 w p g b q gn go gd n F m) (hn : 3 ≤ n) (ho : ∀ h L, ¬ Opens n (now F m) h L) :
    Calls Tryz.prog 8 #[.pointer (some ⟨q, 0, none⟩)] w fun e w' => e = .returned (.tuple #[.pointer none, .int .i64 63]) ∧ Chg [] w w' := by
  refine (ropen_any w D.r hn).mono fun e w' h => ?_
  rcases h with ⟨h2, L2, _, _, _, _, o2, _⟩ | ⟨_, he, hc⟩
  · exact absurd o2 (ho _ _)
  · exact ⟨he, hc⟩
theorem ropen_pw {l : List Nat} (D : Dd w0 w p g b q gn go gd n F m) (hn : 3 ≤ n) (o : Opens n (now F m) h L) (h1 : TD w1 l t p g b n (calm F m h L)) (hl : ∀ x ∈ l, w.heap.size ≤ x) (hc1 : Chg [] w w1) :
    Calls Tryz.prog 8 #[.pointer (some ⟨q, 0, none⟩)] w1 fun e w' => ∃ u N, e = .returned (.tuple #[.pointer (some ⟨u, 0, none⟩), .int .i64 0]) ∧ Hid (Pw w0 w' N t p g b u q gn go gd n (calm F m h L) (calm F m h L)) ∧ Chg [] w1 w' := by
  refine (ropen_any w1 (D.r.kept hc1) hn).mono fun e w' hx => ?_
  rcases hx with ⟨h2, L2, u, aL, cL, xs, o2, he, hu, hO, hR, hc⟩ | ⟨hno, _, _⟩
  · obtain ⟨rfl, rfl⟩ := o2.uniq D.d.top o
    obtain ⟨N, hP⟩ := Pw.make D o h1 hl hc1 hu hO.out hR.out.1 hR.out.2 hc
    exact ⟨u, N, he, Lib.hid hP, hc⟩
  · exact absurd o (hno _ _)
theorem readno_Z (t1 : Tz w0 w N t p g b n S) (i : Int) (hi : i < 0 ∨ ((S.L.length : Nat) : Int) ≤ i) : Calls Tryz.prog 19 #[.pointer (some ⟨t, 0, none⟩), .int .i64 i] w fun e w' => e = .returned (.tuple #[.slice none 0 0, .int .i64 62]) ∧ Chg [] w w' := by
  obtain ⟨l, h⟩ := t1
  exact readno_TD h.td i hi
theorem RoM.keep {w w' : World} {a : Option Addr} {xs : List SB} (h : RoM w a xs) (hc : Chg [] w w') : RoM w' a xs := ⟨(h.row.chgs hc (by simp)).mono hc.size, fun x hm => ((h.el x hm).chgs hc (by simp)).mono hc.size, h.len, h.lens⟩
theorem ActOk.keep {w w' : World} {A : ActT} (h : ActOk w A) (hc : Chg [] w w') : ActOk w' A :=
  ⟨h.kd, h.i, (h.ab.chgs hc (by simp)).mono hc.size, h.bs, h.al.keep hc, (h.ak.chgs hc (by simp)).mono hc.size, h.ks⟩
theorem fits_act (w : World) {B : ActT} (h : ActOk w B) : Calls Tryz.prog 9 #[.agg B.cells.toArray] w fun e w' => e = .returned (.bool (decide (fitsL B.xs ∧ B.bs.length ≤ 400))) ∧ Chg [] w w' :=
  fits_any w B.kd B.i B.ab B.bs.length B.cb B.al B.xs B.cl B.ak B.ks.length B.ck h.al
theorem both_any (hP : Pw w0 w N t p g b u q gn go gd n S S) {B : ActT} (hB : ActOk w0 B) (hf : fitsL B.xs ∧ B.bs.length ≤ 400) :
    Calls Tryz.prog 10 #[.agg B.cells.toArray, .pointer (some ⟨t, 0, none⟩), .pointer (some ⟨u, 0, none⟩)] w (BothT w0 w N t p g b u q gn go gd n) := by
  obtain ⟨kd, i, ab, bs, cb, al, xs, cl, ak, ks, ck⟩ := B
  by_cases e1 : kd = 1
  · subst e1; exact both_app hP i ab bs cb al xs.length cl ak ks.length ck hB.ab hf.2
  by_cases e2 : kd = 2
  · subst e2; exact both_repl hP i ab bs.length cb al xs cl ak ks.length ck hB.al hf.1
  by_cases e3 : kd = 3
  · subst e3; exact both_step hP i ab bs.length cb al xs cl ak ks.length ck
  by_cases e4 : kd = 4
  · subst e4; exact both_commit hP i ab bs.length cb al xs cl ak ks.length ck
  exact both_else hP kd i ab bs.length cb al xs cl ak ks.length ck ⟨e1, e2, e3, e4⟩
theorem act_cells {w : World} {x : Nat} {B : ActT} (h : w.rangeAt x 0 B.cells) : w.cell? ⟨x, 0, none⟩ = some (.int .i64 B.kd) ∧ w.cell? ⟨x, 1, none⟩ = some (.int .i64 B.i) ∧ w.cell? ⟨x, 2, none⟩ = some (.slice B.ab B.bs.length B.cb) ∧ w.cell? ⟨x, 4, none⟩ = some (.slice B.ak B.ks.length B.ck) :=
  ⟨h 0 _ rfl, h 1 _ rfl, h 2 _ rfl, h 4 _ rfl⟩
end
end Go.Proofs.YtdiemejdbakffaaGreat
