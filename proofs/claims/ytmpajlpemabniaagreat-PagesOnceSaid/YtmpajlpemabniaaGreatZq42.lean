/-
  The statement PagesOnce, walked: a written cell stays till it is trimmed, nothing goes back. No condition but the ranges of the arguments.
-/
import Derived.Test.YtmpajlpemabniaaGreatZq41
namespace Go.Proofs.YtmpajlpemabniaaGreat
open Go.RowKit Go.Maps Go.Shelf Go.Deep
set_option linter.unusedVariables false
set_option linter.unusedSimpArgs false
structure On (w wr : World) (gw : Nat) (x : Nat) (u p n : Nat) (T : PT) (A : CeT) : Prop where
  ex : ∃ N, Pgy w wr N u p n T ∧ gw ∈ N ∧ CellV wr N A ∧ w.heap.size ≤ gw ∧ ∀ x ∈ N, w.heap.size ≤ x
  own : Own wr gw 42 [.int .i64 A.x.k, .slice A.a A.x.d.length A.c, .slice A.a2 A.x.b.length A.c2]
  eq : A.x = rdC T.S x
theorem On.kept {w wr w' : World} {gw x u p n : Nat} {T : PT} {A : CeT} (h : On w wr gw x u p n T A) (hc : Chg [] wr w') : On w w' gw x u p n T A := by
  obtain ⟨N, h1, h2, h3, h4, h5⟩ := h.ex
  exact ⟨⟨N, h1.kept hc, h2, h3.chg hc (by simp), h4, h5⟩, h.own.chg hc (by simp), h.eq⟩
theorem On.z {w wr : World} {gw x u p n : Nat} {T : PT} {A : CeT} (h : On w wr gw x u p n T A) : Pgz w wr u p n T := h.ex.elim fun N h => h.1.z
structure Oo (w wr : World) (gw : Nat) (x : Nat) (u p n : Nat) (S0 : PS) (T : PT) (A : CeT) : Prop where
  ex : ∃ N, Pgy w wr N u p n T ∧ gw ∈ N ∧ CellV wr N A ∧ w.heap.size ≤ gw ∧ ∀ x ∈ N, w.heap.size ≤ x
  own : Own wr gw 42 [.int .i64 A.x.k, .slice A.a A.x.d.length A.c, .slice A.a2 A.x.b.length A.c2]
  eq : A.x = rdC S0 x
  gd : Gd S0
  up : Up S0 T.S
theorem On.o {w wr : World} {gw x u p n : Nat} {T : PT} {A : CeT} (h : On w wr gw x u p n T A) : Oo w wr gw x u p n T.S T A := ⟨h.ex, h.own, h.eq, h.z.v.gd, Up.refl _⟩
theorem Oo.z {w wr : World} {gw x u p n : Nat} {S0 : PS} {T : PT} {A : CeT} (h : Oo w wr gw x u p n S0 T A) : Pgz w wr u p n T := h.ex.elim fun N h => h.1.z
theorem Oo.kept {w wr w' : World} {gw x u p n : Nat} {S0 : PS} {T : PT} {A : CeT} (h : Oo w wr gw x u p n S0 T A) (hc : Chg [] wr w') : Oo w w' gw x u p n S0 T A := by
  obtain ⟨N, h1, h2, h3, h4, h5⟩ := h.ex
  exact ⟨⟨N, h1.kept hc, h2, h3.chg hc (by simp), h4, h5⟩, h.own.chg hc (by simp), h.eq, h.gd, h.up⟩
theorem rdC_len {S : PS} (g : Gd S) (a : Nat) : (rdC S a).b.length ≤ 4 := by
  unfold rdC
  cases hm : S.m a with
  | none => simp [zCe]
  | some c => exact (right_lens (g.cell a c hm).2.1).2
theorem On.step {w wr : World} {gw x u p n : Nat} {T : PT} {A : CeT} (h : On w wr gw x u p n T A) : ∃ B : Nat → Prop, Pgv wr B u p n T ∧ ∀ T' w', Stp n T T' → Pgvc wr B u p n T' w' → Oo w w' gw x u p n T.S T' A := by
  obtain ⟨N, h1, h2, h3, h4, h5⟩ := h.ex
  refine ⟨_, h1.v, fun T' w' hs hp => ?_⟩
  obtain ⟨g1, m, g2, g3⟩ := h1.step2 hp
  exact ⟨⟨N, g1, h2, h3.chg g2 g3, h4, h5⟩, h.own.chg g2 (g3 gw h2), h.eq, h1.v.gd, hs.up h1.v.iv⟩
theorem On.again {w wr w' : World} {gw x u p n u' p' : Nat} {T : PT} {A : CeT} (h : On w wr gw x u p n T A) (hp : Pgv w' (fun x => wr.heap.size ≤ x) u' p' n T) (hc : Chg [] wr w') : Oo w w' gw x u' p' n T.S T A := by
  obtain ⟨N, h1, h2, h3, h4, h5⟩ := h.ex
  exact ⟨⟨N, h1.again hp hc, h2, h3.chg hc (by simp), h4, h5⟩, h.own.chg hc (by simp), h.eq, h1.v.gd, Up.refl _⟩
theorem Oo.next {w wr w1 w2 : World} {gw x u p n : Nat} {S0 : PS} {T : PT} {A A' : CeT} (h : Oo w wr gw x u p n S0 T A) (hc : Chg [] wr w1) (hA : NewC wr w1 A') (he : A'.x = rdC T.S x) (hg : Chg [gw] w1 w2) (ho : Own w2 gw 42 [.int .i64 A'.x.k, .slice A'.a A'.x.d.length A'.c, .slice A'.a2 A'.x.b.length A'.c2]) : On w w2 gw x u p n T A' := by
  obtain ⟨N, h1, h2, h3, h4, h5⟩ := h.ex
  have hgl := h1.lt gw h2
  have hs := h1.c.size
  have hN : ∀ y ∈ gw :: A'.blocks, y ∈ N ∨ (wr.heap.size ≤ y ∧ y < w1.heap.size) := fun y hy => by
    rcases List.mem_cons.1 hy with rfl | hy
    · exact .inl h2
    · exact .inr (hA.new y hy)
  have hN2 : ∀ y ∈ gw :: A'.blocks, w.heap.size ≤ y := fun y hy => by
    rcases List.mem_cons.1 hy with rfl | hy
    · exact h4
    · have := (hA.new y hy).1; omega
  have g1 := h1.more hc (gw :: A'.blocks) hN
  have g2 := g1.turn (hg.mono (fun y hy => by simp at hy; subst hy; exact .inl (by simp))) hN2
  refine ⟨⟨gw :: A'.blocks, g2, by simp, (hA.cellV.chg hg (fun y hy h9 => by simp at h9; have := (hA.new y hy).1; omega)).mono (fun y hy => List.mem_cons_of_mem _ hy), h4, hN2⟩, ho, he⟩
set_option maxHeartbeats 8000000 in
set_option maxRecDepth 100000 in
theorem pagesOnce_walk (w : World) (z : Int) (a : Option Addr) (len c : Nat) (Z : Nat → ActT8) (x : Nat) (hz : -9223372036854775808 ≤ z ∧ z ≤ 9223372036854775807) (hZ : IsActs8 w a len Z) (hx : x < 18446744073709551616) :
    Calls Tryz.prog 5 #[.int .i64 z, .slice a len c, .int .u64 (x : Int)] w fun e w' => e = .returned (.bool true) ∧ Chg [] w w' := by
  by_cases z3 : z < 3
  · have d1 : decide (z < 3) = true := by simpa using z3
    clear hz hZ z3
    go_enter Tryz.func5, Tryz.ntmps5
    go_wp2_with (first | (go_at_call 9; refine (alive8_any _).mono ?_; rintro e w2 ⟨rfl, hc2⟩) | fail)
    go_ret
    exact ⟨rfl, hc2⟩
  have d1 : decide (z < 3) = false := by simpa using z3
  by_cases z200 : 200 < z
  · have d2 : decide (200 < z) = true := by simpa using z200
    clear hz hZ z3 z200
    go_enter Tryz.func5, Tryz.ntmps5
    go_wp2_with (first | (go_at_call 9; refine (alive8_any _).mono ?_; rintro e w2 ⟨rfl, hc2⟩) | fail)
    go_ret
    exact ⟨rfl, hc2⟩
  have d2 : decide (200 < z) = false := by simpa using z200
  by_cases x20 : 1048576 ≤ x
  · have d3 : decide ((1048576 : Int) ≤ (x : Int)) = true := decide_eq_true (by omega)
    have d3' : decide (1048576 ≤ x) = true := decide_eq_true (by omega)
    clear hz hZ z3 z200 x20
    go_enter Tryz.func5, Tryz.ntmps5
    go_wp2_with (first | (go_at_call 9; refine (alive8_any _).mono ?_; rintro e w2 ⟨rfl, hc2⟩) | fail)
    go_ret
    exact ⟨rfl, hc2⟩
  have d3 : decide ((1048576 : Int) ≤ (x : Int)) = false := decide_eq_false (by omega)
  have d3' : decide (1048576 ≤ x) = false := decide_eq_false (by omega)
  obtain ⟨n, rfl⟩ : ∃ n : Nat, z = (n : Int) := ⟨z.toNat, by omega⟩
  have d1' : decide (n < 3) = false := by simp; omega
  have d2' : decide (200 < n) = false := by simp; omega
  have HX : Hid (x < 1048576) := Lib.hid (by omega)
  have H0 := Lib.hid (pnew_ex w n (by omega) (by omega))
  have HZ := Lib.hid hZ
  have hlen := hZ.1
  have HN : Hid (3 ≤ n ∧ n ≤ 200) := Lib.hid (by omega)
  clear hz hZ z3 z200 x20 hx
  go_enter Tryz.func5, Tryz.ntmps5
  go_wp2_with fail
  refine H0.out.mono ?_
  rintro e w1 ⟨p, g, b, rfl, hp, hg, hb, hd1, hc1⟩
  have HO := Lib.hid (POpen_fresh w1 hd1 HN.out.1 (opens_zero n))
  have HC1 := Lib.hid hc1
  have HB := Lib.hid (And.intro hp (And.intro hg hb))
  clear hd1 hc1 hp hg hb H0
  go_wp2_with fail
  refine HO.out.mono ?_
  rintro e w2 ⟨u, l, q, sq, sp, sb, v, rfl, hP2, hl2, hc2⟩
  have HP2 := Lib.hid (Pgz.start HC1.out HB.out.1 HB.out.2.1 HB.out.2.2 hP2.out hl2.out hc2)
  clear HO hP2 hl2 hc2 HC1 HB
  go_upto_region 8 with fail
  have hc23 : Chg [] w2 (w2.alloc (.cells #[.int .i64 0, .slice none 0 0, .slice none 0 0] 42)) := (Chg.refl [] w2).alloc _
  have hob3 := Own.new w2 42 [.int .i64 0, .slice none 0 0, .slice none 0 0]
  have hOn : On w (w2.alloc (.cells #[.int .i64 0, .slice none 0 0, .slice none 0 0] 42)) w2.heap.size x u p n ⟨fun _ => zsec, 0, [], PS.zero⟩ zA :=
    ⟨⟨[w2.heap.size], HP2.out.fence hc23 _ (fun y hy => by simp at hy; simp; omega), by simp, ⟨Ro.nil _ _ _, Ro.nil _ _ _, (fun _ _ h => nomatch h), (fun _ _ h => nomatch h)⟩, HP2.out.c.size, fun y hy => by simp at hy; rw [hy]; exact HP2.out.c.size⟩, hob3, rfl⟩
  obtain ⟨gw, hgw⟩ : ∃ y, Hid (w2.heap.size = y) := ⟨_, Lib.hid rfl⟩
  rw [hgw.out] at hOn ⊢
  generalize w2.alloc (.cells #[.int .i64 0, .slice none 0 0, .slice none 0 0] 42) = w3 at hOn ⊢
  have HOn := Lib.hid hOn
  have HE0 : Hid ((.int .i64 82 : Value) = .int .i64 ((rdE PS.zero x : Nat) : Int)) := Lib.hid (by
    have : rdE PS.zero x = 82 := by
      unfold rdE
      rw [if_neg (by simp [PS.tr, PS.zero, mem]), if_neg (by simp [PS.zero])]
    rw [this]
    rfl)
  clear hOn hc23 hob3 HP2
  go_wp2_with fail
  go_loopw [7, 9, 10, 12, 13] (fun vd vp ve vl vi wr => ∃ (k p u : Nat) (T : PT) (A : CeT), vd = .pointer (some ⟨p, 0, none⟩) ∧ vp = .pointer (some ⟨u, 0, none⟩) ∧ ve = .int .i64 0 ∧ vl = .int .i64 ((rdE T.S x : Nat) : Int) ∧ vi = .int .i64 k ∧ k ≤ len ∧ k ≤ 50 ∧ Hid (On w wr gw x u p n T A)) (fun _ _ _ _ vi _ => 50 - (intOf vi).toNat)
  case atStart => exact ⟨0, p, u, _, zA, rfl, rfl, rfl, HE0.out, rfl, Nat.zero_le _, Nat.zero_le _, HOn⟩
  case round =>
    clear HOn HE0
    obtain ⟨k, p, u, T, A, rfl, rfl, rfl, rfl, rfl, hk, hk50, HOn⟩ := hrel
    rename World => wr
    have hk0 : (0 : Int) ≤ (k : Int) := by omega
    have hkb : (k : Int) ≤ 50 := by omega
    obtain ⟨E1, hE1⟩ : ∃ y, Hid (rdE T.S x = y) := ⟨_, Lib.hid rfl⟩
    rw [hE1.out]
    by_cases hlt : k < len
    · have e1 : decide ((k : Int) < (len : Int)) = true := by simp; omega
      have e1' : decide (k < len) = true := by simpa using hlt
      by_cases hl5 : k < 50
      · have e2 : decide ((k : Int) < 50) = true := by simp; omega
        have e2' : decide (k < 50) = true := by simpa using hl5
        obtain ⟨bz, off, rfl, hbz, hok, hra⟩ := HZ.out.at_ HOn.out.z.c.low hlt
        obtain ⟨x0, x1, x2, x3, x4, x5, x6⟩ := act_range hra
        have hk1 : (k : Int) < (len : Int) := by omega
        generalize Z k = zz at *
        have HF := Lib.hid (fun W => afits_any W zz.k zz.n zz.A zz.b zz.bs.length zz.bc zz.e zz.ks.length zz.ec)
        have HOK := Lib.hid hok
        have HKM : Hid (50 - (k + 1) < 50 - k) := Lib.hid (by omega)
        have HLT : Hid (k + 1 ≤ len ∧ k + 1 ≤ 50) := Lib.hid (by omega)
        have HON := Lib.hid (Own.new wr 45 zz.cells)
        clear hra hok
        obtain ⟨kd, y, A8, zb, zbs, zbc, ze, zks, zec⟩ := zz
        unfold acv at HF
        unfold ActT8.cells at HON
        obtain ⟨⟨ck, cd, cb⟩, a1, c1, a2, c2⟩ := A8
        simp only at HF HON x0 x1 x2 x3 x4 x5 x6
        obtain ⟨dn, hdn⟩ : ∃ x, Hid (cd.length = x) := ⟨_, Lib.hid rfl⟩
        obtain ⟨bn, hbn⟩ : ∃ x, Hid (cb.length = x) := ⟨_, Lib.hid rfl⟩
        obtain ⟨kn, hkn⟩ : ∃ x, Hid (zks.length = x) := ⟨_, Lib.hid rfl⟩
        simp only [hdn.out, hbn.out, hkn.out] at HF HON x0 x1 x2 x3 x4 x5 x6
        go_wp2_with fail
        refine (HF.out _).mono ?_
        rintro e w3 ⟨B, rfl, hc3⟩
        have HOn3 := Lib.hid (HOn.out.kept (((Chg.refl [] wr).alloc _).trans hc3))
        have HO3 := Lib.hid (HON.out.chg hc3 (by simp))
        have HC3 := Lib.hid (((Chg.refl [] wr).alloc _).trans hc3)
        clear hc3 x0 x1 x2 x3 x4 x5 x6 HF HOn
        cases B
        · go_wp2_with fail
          go_roundw
          case rel => exact ⟨k + 1, p, u, T, A, rfl, rfl, rfl, by rw [hE1.out], by go_num, HLT.out.1, HLT.out.2, HOn3⟩
          case measure => have := HKM.out; simp [intOf]; omega
        · have HEP := Lib.hid (Epoch_v HOn3.out.z.v)
          have HMR := Lib.hid (Mark_v HOn3.out.z.v)
          have HTA := Lib.hid (Tail_v HOn3.out.z.v)
          go_wp2_with fail
          refine HEP.out.mono ?_
          rintro e w3' ⟨rfl, rfl⟩
          rename World => w3
          go_wp2_with fail
          refine HMR.out.mono ?_
          rintro e w3' ⟨rfl, rfl⟩
          rename World => w3
          go_wp2_with fail
          refine HTA.out.mono ?_
          rintro e w4 ⟨t0, rfl, htl, hc4⟩
          have HTL := Lib.hid htl
          have HOn4 := Lib.hid (HOn3.out.kept hc4)
          have HO4 := Lib.hid (HO3.out.chg hc4 (by simp))
          have HC4 := Lib.hid (HC3.out.trans hc4)
          have HOP0 := Lib.hid (Opened_v HOn4.out.z.v)
          clear htl hc4 HEP HMR HTA HOn3 HO3 HC3
          go_wp2_with fail
          refine HOP0.out.mono ?_
          rintro e w4' ⟨rfl, rfl⟩
          rename World => w4
          have q0 := HO4.out.cell 0
          have q1 := HO4.out.cell 1
          have q2 := HO4.out.cell 2
          have q3 := HO4.out.cell 3
          have q4 := HO4.out.cell 4
          have q6 := HO4.out.cell 6
          simp only [List.getElem?_cons_zero, List.getElem?_cons_succ] at q0 q1 q2 q3 q4 q6
          obtain ⟨Bp, hv, hst⟩ := HOn4.out.step
          have HV := Lib.hid hv
          have HST := Lib.hid hst
          have HOK3 := HOK.out.keep HC4.out.low
          have hW : Calls Tryz.prog 23 #[.pointer (some ⟨u, 0, none⟩), .int .u64 (y : Int), .agg #[.int .i64 ck, .slice a1 dn c1, .slice a2 bn c2]] w4 fun e w' => e = .returned (.int .i64 ((pWr n T y ⟨ck, cd, cb⟩).1 : Int)) ∧ Hid (Pgvc w4 Bp u p n (pWr n T y ⟨ck, cd, cb⟩).2 w') := by
            have h9 := Write_v hv y ⟨⟨ck, cd, cb⟩, a1, c1, a2, c2⟩ HOK3.n HOK3.A.d HOK3.A.b HOK3.A.dl HOK3.A.bl
            unfold CeT.val cev at h9
            simp only [hdn.out, hbn.out] at h9
            exact h9
          have HWR := Lib.hid hW
          have HTM := Lib.hid (Trim_v hv y HOK3.n)
          have HTO := Lib.hid (TrimOne_v hv y HOK3.n)
          have HSL := Lib.hid (Seal_v hv y HOK3.n)
          have HOP := Lib.hid (OpenE_v hv y HOK3.n)
          clear hW
          have hCR := hv.crash ze zks zec HOK3.e HOK3.el
          rw [hkn.out] at hCR
          have HCR := Lib.hid hCR
          clear HOK3 hv hst hCR HOP0 HC4
          go_upto_block 2 with fail
          go_cut [7, 9, 10] from 77 to 125 (fun vd vp ve wx => ∃ (p2 u2 : Nat) (T2 : PT), vd = .pointer (some ⟨p2, 0, none⟩) ∧ vp = .pointer (some ⟨u2, 0, none⟩) ∧ ve = .int .i64 0 ∧ Hid (Oo w wx gw x u2 p2 n T.S T2 A))
          case first =>
            by_cases e11 : kd = 1
            · subst e11
              go_wp2_with (first | (go_at_call 23; refine HWR.out.mono ?_; rintro e w6 ⟨rfl, hp6⟩; have HOo := Lib.hid (HST.out _ _ (pWr_stp n T y _) hp6.out); clear hp6) | fail)
              go_meet
              case rel => exact ⟨p, u, _, rfl, rfl, rfl, HOo⟩
            have f1 : (kd == 1) = false := by simpa using e11
            have g1 : decide (kd = 1) = false := by simpa using e11
            by_cases e13 : kd = 3
            · subst e13
              go_wp2_with (first | (go_at_call 24; refine HTM.out.mono ?_; rintro e w6 ⟨rfl, hp6⟩; have HOo := Lib.hid (HST.out _ _ (pTm_stp n T y) hp6.out); clear hp6) | fail)
              go_meet
              case rel => exact ⟨p, u, _, rfl, rfl, rfl, HOo⟩
            have f3 : (kd == 3) = false := by simpa using e13
            have g3 : decide (kd = 3) = false := by simpa using e13
            by_cases e14 : kd = 4
            · subst e14
              go_wp2_with (first | (go_at_call 25; refine HTO.out.mono ?_; rintro e w6 ⟨rfl, hp6⟩; have HOo := Lib.hid (HST.out _ _ (pTo_stp n T y) hp6.out); clear hp6) | fail)
              go_meet
              case rel => exact ⟨p, u, _, rfl, rfl, rfl, HOo⟩
            have f4 : (kd == 4) = false := by simpa using e14
            have g4 : decide (kd = 4) = false := by simpa using e14
            by_cases e15 : kd = 5
            · subst e15
              go_wp2_with (first | (go_at_call 26; refine HSL.out.mono ?_; rintro e w6 ⟨rfl, hp6⟩; have HOo := Lib.hid (HST.out _ _ (pSl_stp n T y) hp6.out); clear hp6) | fail)
              go_meet
              case rel => exact ⟨p, u, _, rfl, rfl, rfl, HOo⟩
            have f5 : (kd == 5) = false := by simpa using e15
            have g5 : decide (kd = 5) = false := by simpa using e15
            by_cases e18 : kd = 8
            · subst e18
              go_wp2_with (first | (go_at_call 27; refine HOP.out.mono ?_; rintro e w6 ⟨rfl, hp6⟩; have HOo := Lib.hid (HST.out _ _ (pOp_stp n T y) hp6.out); clear hp6) | fail)
              go_meet
              case rel => exact ⟨p, u, _, rfl, rfl, rfl, HOo⟩
            have f8 : (kd == 8) = false := by simpa using e18
            have g8 : decide (kd = 8) = false := by simpa using e18
            by_cases e16 : kd = 6
            · subst e16
              go_wp2_with fail
              refine HCR.out.mono ?_
              rintro e w6 ⟨p', rfl, hD, hc6⟩
              have HOPN := Lib.hid (hD.out.open_ hc6 HV.out.top.1 HV.out.iv)
              have HC6 := Lib.hid hc6
              clear hD hc6
              go_wp2_with fail
              refine HOPN.out.mono ?_
              rintro e w7 ⟨u', rfl, hp7, hc7⟩
              have HOo := Lib.hid (HOn4.out.again hp7.out (HC6.out.trans hc7))
              clear hp7 hc7
              go_wp2_with fail
              go_meet
              case rel => exact ⟨p', u', T, rfl, rfl, rfl, HOo⟩
            have f6 : (kd == 6) = false := by simpa using e16
            have g6 : decide (kd = 6) = false := by simpa using e16
            go_wp2_with fail
            go_meet
            case rel => exact ⟨p, u, T, rfl, rfl, rfl, Lib.hid HOn4.out.o⟩
          case rest =>
            obtain ⟨p2, u2, T2, rfl, rfl, rfl, HOo⟩ := hcut
            rename World => wx
            clear HWR HTM HTO HSL HOP HCR HST HOn4 HO4 q0 q1 q2 q3 q4 q6 HV
            have hrd := rd_up HOo.out.gd HOo.out.z.v.gd HOo.out.up x
            have hrv := Read_v HOo.out.z.v x HX.out
            obtain ⟨E2, hE2⟩ : ∃ y, Hid (rdE T2.S x = y) := ⟨_, Lib.hid rfl⟩
            rw [hE2.out] at hrv hrd
            rw [hE1.out] at hrd
            have HRV := Lib.hid hrv
            have hup := HOo.out.up
            have b1 : decide ((T2.S.ep : Int) < (T.S.ep : Int)) = false := decide_eq_false (by have := hup.ep; omega)
            have b2 : decide ((T2.S.op : Int) < (T.S.op : Int)) = false := decide_eq_false (by have := hup.op; omega)
            have b3 : decide ((T2.S.mr : Int) < (T.S.mr : Int)) = false := decide_eq_false (by have := hup.mr; omega)
            have b1' : decide (T2.S.ep < T.S.ep) = false := decide_eq_false (by have := hup.ep; omega)
            have b2' : decide (T2.S.op < T.S.op) = false := decide_eq_false (by have := hup.op; omega)
            have b3' : decide (T2.S.mr < T.S.mr) = false := decide_eq_false (by have := hup.mr; omega)
            have HRDD := Lib.hid hrd
            clear hrv hup hrd
            go_wp2_with fail
            refine HRV.out.mono ?_
            rintro e w6 ⟨A2, rfl, hx2, hN2, hc6⟩
            have HX2 := Lib.hid hx2
            have HOo6 := Lib.hid (HOo.out.kept hc6)
            have HC6 := Lib.hid hc6
            obtain ⟨⟨ck2, cd2, cb2⟩, a5, c5, a6, c6⟩ := A2
            unfold CeT.val cev
            simp only
            obtain ⟨dn2, hdn2⟩ : ∃ y, Hid (cd2.length = y) := ⟨_, Lib.hid rfl⟩
            obtain ⟨bn2, hbn2⟩ : ∃ y, Hid (cb2.length = y) := ⟨_, Lib.hid rfl⟩
            rw [hdn2.out, hbn2.out]
            clear hx2 hc6 HRV
            go_upto_region 36 with fail
            have hc67 : Chg [] w6 (w6.alloc (.cells #[.int .i64 ck2, .slice a5 dn2 c5, .slice a6 bn2 c6] 42)) := (Chg.refl [] w6).alloc _
            have hob7 := Own.new w6 42 [.int .i64 ck2, .slice a5 dn2 c5, .slice a6 bn2 c6]
            generalize w6.heap.size = gc at hob7 ⊢
            generalize w6.alloc (.cells #[.int .i64 ck2, .slice a5 dn2 c5, .slice a6 bn2 c6] 42) = w7 at hc67 hob7 ⊢
            have HBX := Lib.hid hob7
            have HOox := HOo
            have HOo7 := Lib.hid (HOo6.out.kept hc67)
            have HC67 := Lib.hid (HC6.out.trans hc67)
            have HNC : Hid (∀ W, Chg [] w7 W → NewC wx W ⟨⟨ck2, cd2, cb2⟩, a5, c5, a6, c6⟩) := Lib.hid (fun W hW => ⟨hN2.out.d.chg2 (hc67.trans hW) (fun _ _ => by simp), hN2.out.b.chg2 (hc67.trans hW) (fun _ _ => by simp), hN2.out.da, hN2.out.ba⟩)
            obtain ⟨⟨ck0, cd0, cb0⟩, a7, c7, a8, c8⟩ := A
            obtain ⟨dn0, hdn0⟩ : ∃ y, Hid (cd0.length = y) := ⟨_, Lib.hid rfl⟩
            obtain ⟨bn0, hbn0⟩ : ∃ y, Hid (cb0.length = y) := ⟨_, Lib.hid rfl⟩
            have HG7 : Hid (Own w7 gw 42 [.int .i64 ck0, .slice a7 dn0 c7, .slice a8 bn0 c8]) := Lib.hid (by rw [← hdn0.out, ← hbn0.out]; exact HOo7.out.own)
            have HSM : Hid (rdC T2.S x = rdC T.S x → ∀ W, Chg [] w7 W → Calls Tryz.prog 33 #[.agg #[.int .i64 ck2, .slice a5 dn2 c5, .slice a6 bn2 c6], .agg #[.int .i64 ck0, .slice a7 dn0 c7, .slice a8 bn0 c8]] W fun e w' => e = .returned (.bool true) ∧ Chg [] W w') := Lib.hid (fun hcc W hW => by
              obtain ⟨N, g1, _, g3, _⟩ := HOo7.out.ex
              have g4 := g3.chg hW (by simp)
              have g5 := HNC.out W hW
              have hl2 := rdC_len HOo7.out.z.v.gd x
              have hl0 := rdC_len HOo7.out.gd x
              rw [← HX2.out] at hl2
              rw [← HOo7.out.eq] at hl0
              have h9 := same_any ⟨ck2, cd2, cb2⟩ ⟨ck0, cd0, cb0⟩ a5 c5 a6 c6 a7 c7 a8 c8 W.heap.size W g5.d g5.b g4.d g4.b (Nat.le_refl _) (Nat.le_trans hl2 (by omega)) (Nat.le_trans hl0 (by omega))
              have heq : (⟨ck2, cd2, cb2⟩ : Ce) = ⟨ck0, cd0, cb0⟩ := (HX2.out.trans hcc).trans HOo7.out.eq.symm
              rw [alike_iff.2 heq] at h9
              unfold cev at h9
              simp only [hdn2.out, hbn2.out, hdn0.out, hbn0.out] at h9
              refine h9.mono ?_
              rintro e w' ⟨h1, h2⟩
              exact ⟨h1, low_chg h2⟩)
            clear hc67 hob7 hN2 HOo6 HC6 HOo
            have hrd := HRDD.out
            clear HRDD
            rcases hrd with ⟨rfl, ⟨rfl, hcc⟩ | rfl⟩ | ⟨rfl, rfl | rfl | rfl⟩ | ⟨rfl, rfl⟩
            · have HSMX := Lib.hid (HSM.out hcc)
              clear hcc HSM
              have HEPx := Lib.hid (Epoch_v HOo7.out.z.v)
              have HOPx := Lib.hid (Opened_v HOo7.out.z.v)
              have HMRx := Lib.hid (Mark_v HOo7.out.z.v)
              have HTAx := Lib.hid (Tail_v HOo7.out.z.v)
              go_wp2_with fail
              refine HEPx.out.mono ?_
              rintro e w7' ⟨rfl, rfl⟩
              rename World => w7
              go_wp2_with fail
              refine HOPx.out.mono ?_
              rintro e w7' ⟨rfl, rfl⟩
              rename World => w7
              go_wp2_with fail
              refine HMRx.out.mono ?_
              rintro e w7' ⟨rfl, rfl⟩
              rename World => w7
              go_wp2_with fail
              refine HTAx.out.mono ?_
              rintro e w8 ⟨t2, rfl, htl2, hc8⟩
              have h4 := HOo7.out.up.tail HOo7.out.gd HOo7.out.z.v.gd HTL.out htl2
              have b4 : decide ((t2 : Int) < (t0 : Int)) = false := decide_eq_false (by omega)
              have b4' : decide (t2 < t0) = false := decide_eq_false (by omega)
              have HC8 := Lib.hid hc8
              have hG8 := HG7.out.chg hc8 (by simp)
              have hB8 := HBX.out.chg hc8 (by simp)
              have HG8 := Lib.hid hG8
              have k0 := hB8.cell 0
              have k1 := hB8.cell 1
              have k2 := hB8.cell 2
              have m0 := hG8.cell 0
              have m1 := hG8.cell 1
              have m2 := hG8.cell 2
              have v0 := hG8.frozen 0
              have v1 := hG8.frozen 1
              have v2 := hG8.frozen 2
              simp only [List.getElem?_cons_zero, List.getElem?_cons_succ] at k0 k1 k2 m0 m1 m2
              clear htl2 hc8 h4 hG8 hB8 HEPx HOPx HMRx HTAx
              go_wp2_with fail
              refine (HSMX.out _ HC8.out).mono ?_
              rintro e w9 ⟨rfl, hc9⟩
              have HC9 := Lib.hid (HC8.out.trans hc9)
              have hG9 := HG8.out.chg hc9 (by simp)
              have hB9 := HBX.out.chg (HC8.out.trans hc9) (by simp)
              clear k0 k1 k2 m0 m1 m2 v0 v1 v2 HG8 HC8 hc9
              have HC8 := HC9
              clear HC9
              rename World => w8
              have HG8 := Lib.hid hG9
              have k0 := hB9.cell 0
              have k1 := hB9.cell 1
              have k2 := hB9.cell 2
              have m0 := hG9.cell 0
              have m1 := hG9.cell 1
              have m2 := hG9.cell 2
              have v0 := hG9.frozen 0
              have v1 := hG9.frozen 1
              have v2 := hG9.frozen 2
              simp only [List.getElem?_cons_zero, List.getElem?_cons_succ] at k0 k1 k2 m0 m1 m2
              clear hG9 hB9
              go_wp2_with fail
              go_roundw
              case rel =>
                have hs := ((HG8.out.set 0 (.int .i64 ck2)).set 1 (.slice a5 dn2 c5)).set 2 (.slice a6 bn2 c6)
                simp only [List.set_cons_zero, List.set_cons_succ] at hs
                refine ⟨k + 1, p2, u2, T2, ⟨⟨ck2, cd2, cb2⟩, a5, c5, a6, c6⟩, rfl, rfl, rfl, (by rw [hE2.out]; try rfl), by go_num, HLT.out.1, HLT.out.2, Lib.hid (HOox.out.next (HC67.out.trans HC8.out) (HNC.out w8 HC8.out) HX2.out ((((Chg.refl [gw] w8).setCell (.inl (by simp)) _).setCell (.inl (by simp)) _).setCell (.inl (by simp)) _) (by simp only [hdn2.out, hbn2.out]; exact hs))⟩
              case measure => have := HKM.out; simp [intOf]; omega
            · clear HSM
              have HEPx := Lib.hid (Epoch_v HOo7.out.z.v)
              have HOPx := Lib.hid (Opened_v HOo7.out.z.v)
              have HMRx := Lib.hid (Mark_v HOo7.out.z.v)
              have HTAx := Lib.hid (Tail_v HOo7.out.z.v)
              go_wp2_with fail
              refine HEPx.out.mono ?_
              rintro e w7' ⟨rfl, rfl⟩
              rename World => w7
              go_wp2_with fail
              refine HOPx.out.mono ?_
              rintro e w7' ⟨rfl, rfl⟩
              rename World => w7
              go_wp2_with fail
              refine HMRx.out.mono ?_
              rintro e w7' ⟨rfl, rfl⟩
              rename World => w7
              go_wp2_with fail
              refine HTAx.out.mono ?_
              rintro e w8 ⟨t2, rfl, htl2, hc8⟩
              have h4 := HOo7.out.up.tail HOo7.out.gd HOo7.out.z.v.gd HTL.out htl2
              have b4 : decide ((t2 : Int) < (t0 : Int)) = false := decide_eq_false (by omega)
              have b4' : decide (t2 < t0) = false := decide_eq_false (by omega)
              have HC8 := Lib.hid hc8
              have hG8 := HG7.out.chg hc8 (by simp)
              have hB8 := HBX.out.chg hc8 (by simp)
              have HG8 := Lib.hid hG8
              have k0 := hB8.cell 0
              have k1 := hB8.cell 1
              have k2 := hB8.cell 2
              have m0 := hG8.cell 0
              have m1 := hG8.cell 1
              have m2 := hG8.cell 2
              have v0 := hG8.frozen 0
              have v1 := hG8.frozen 1
              have v2 := hG8.frozen 2
              simp only [List.getElem?_cons_zero, List.getElem?_cons_succ] at k0 k1 k2 m0 m1 m2
              clear htl2 hc8 h4 hG8 hB8 HEPx HOPx HMRx HTAx
              go_wp2_with fail
              go_roundw
              case rel =>
                have hs := ((HG8.out.set 0 (.int .i64 ck2)).set 1 (.slice a5 dn2 c5)).set 2 (.slice a6 bn2 c6)
                simp only [List.set_cons_zero, List.set_cons_succ] at hs
                refine ⟨k + 1, p2, u2, T2, ⟨⟨ck2, cd2, cb2⟩, a5, c5, a6, c6⟩, rfl, rfl, rfl, (by rw [hE2.out]; try rfl), by go_num, HLT.out.1, HLT.out.2, Lib.hid (HOox.out.next (HC67.out.trans HC8.out) (HNC.out w8 HC8.out) HX2.out ((((Chg.refl [gw] w8).setCell (.inl (by simp)) _).setCell (.inl (by simp)) _).setCell (.inl (by simp)) _) (by simp only [hdn2.out, hbn2.out]; exact hs))⟩
              case measure => have := HKM.out; simp [intOf]; omega
            · clear HSM
              have HEPx := Lib.hid (Epoch_v HOo7.out.z.v)
              have HOPx := Lib.hid (Opened_v HOo7.out.z.v)
              have HMRx := Lib.hid (Mark_v HOo7.out.z.v)
              have HTAx := Lib.hid (Tail_v HOo7.out.z.v)
              go_wp2_with fail
              refine HEPx.out.mono ?_
              rintro e w7' ⟨rfl, rfl⟩
              rename World => w7
              go_wp2_with fail
              refine HOPx.out.mono ?_
              rintro e w7' ⟨rfl, rfl⟩
              rename World => w7
              go_wp2_with fail
              refine HMRx.out.mono ?_
              rintro e w7' ⟨rfl, rfl⟩
              rename World => w7
              go_wp2_with fail
              refine HTAx.out.mono ?_
              rintro e w8 ⟨t2, rfl, htl2, hc8⟩
              have h4 := HOo7.out.up.tail HOo7.out.gd HOo7.out.z.v.gd HTL.out htl2
              have b4 : decide ((t2 : Int) < (t0 : Int)) = false := decide_eq_false (by omega)
              have b4' : decide (t2 < t0) = false := decide_eq_false (by omega)
              have HC8 := Lib.hid hc8
              have hG8 := HG7.out.chg hc8 (by simp)
              have hB8 := HBX.out.chg hc8 (by simp)
              have HG8 := Lib.hid hG8
              have k0 := hB8.cell 0
              have k1 := hB8.cell 1
              have k2 := hB8.cell 2
              have m0 := hG8.cell 0
              have m1 := hG8.cell 1
              have m2 := hG8.cell 2
              have v0 := hG8.frozen 0
              have v1 := hG8.frozen 1
              have v2 := hG8.frozen 2
              simp only [List.getElem?_cons_zero, List.getElem?_cons_succ] at k0 k1 k2 m0 m1 m2
              clear htl2 hc8 h4 hG8 hB8 HEPx HOPx HMRx HTAx
              go_wp2_with fail
              go_roundw
              case rel =>
                have hs := ((HG8.out.set 0 (.int .i64 ck2)).set 1 (.slice a5 dn2 c5)).set 2 (.slice a6 bn2 c6)
                simp only [List.set_cons_zero, List.set_cons_succ] at hs
                refine ⟨k + 1, p2, u2, T2, ⟨⟨ck2, cd2, cb2⟩, a5, c5, a6, c6⟩, rfl, rfl, rfl, (by rw [hE2.out]; try rfl), by go_num, HLT.out.1, HLT.out.2, Lib.hid (HOox.out.next (HC67.out.trans HC8.out) (HNC.out w8 HC8.out) HX2.out ((((Chg.refl [gw] w8).setCell (.inl (by simp)) _).setCell (.inl (by simp)) _).setCell (.inl (by simp)) _) (by simp only [hdn2.out, hbn2.out]; exact hs))⟩
              case measure => have := HKM.out; simp [intOf]; omega
            · clear HSM
              have HEPx := Lib.hid (Epoch_v HOo7.out.z.v)
              have HOPx := Lib.hid (Opened_v HOo7.out.z.v)
              have HMRx := Lib.hid (Mark_v HOo7.out.z.v)
              have HTAx := Lib.hid (Tail_v HOo7.out.z.v)
              go_wp2_with fail
              refine HEPx.out.mono ?_
              rintro e w7' ⟨rfl, rfl⟩
              rename World => w7
              go_wp2_with fail
              refine HOPx.out.mono ?_
              rintro e w7' ⟨rfl, rfl⟩
              rename World => w7
              go_wp2_with fail
              refine HMRx.out.mono ?_
              rintro e w7' ⟨rfl, rfl⟩
              rename World => w7
              go_wp2_with fail
              refine HTAx.out.mono ?_
              rintro e w8 ⟨t2, rfl, htl2, hc8⟩
              have h4 := HOo7.out.up.tail HOo7.out.gd HOo7.out.z.v.gd HTL.out htl2
              have b4 : decide ((t2 : Int) < (t0 : Int)) = false := decide_eq_false (by omega)
              have b4' : decide (t2 < t0) = false := decide_eq_false (by omega)
              have HC8 := Lib.hid hc8
              have hG8 := HG7.out.chg hc8 (by simp)
              have hB8 := HBX.out.chg hc8 (by simp)
              have HG8 := Lib.hid hG8
              have k0 := hB8.cell 0
              have k1 := hB8.cell 1
              have k2 := hB8.cell 2
              have m0 := hG8.cell 0
              have m1 := hG8.cell 1
              have m2 := hG8.cell 2
              have v0 := hG8.frozen 0
              have v1 := hG8.frozen 1
              have v2 := hG8.frozen 2
              simp only [List.getElem?_cons_zero, List.getElem?_cons_succ] at k0 k1 k2 m0 m1 m2
              clear htl2 hc8 h4 hG8 hB8 HEPx HOPx HMRx HTAx
              go_wp2_with fail
              go_roundw
              case rel =>
                have hs := ((HG8.out.set 0 (.int .i64 ck2)).set 1 (.slice a5 dn2 c5)).set 2 (.slice a6 bn2 c6)
                simp only [List.set_cons_zero, List.set_cons_succ] at hs
                refine ⟨k + 1, p2, u2, T2, ⟨⟨ck2, cd2, cb2⟩, a5, c5, a6, c6⟩, rfl, rfl, rfl, (by rw [hE2.out]; try rfl), by go_num, HLT.out.1, HLT.out.2, Lib.hid (HOox.out.next (HC67.out.trans HC8.out) (HNC.out w8 HC8.out) HX2.out ((((Chg.refl [gw] w8).setCell (.inl (by simp)) _).setCell (.inl (by simp)) _).setCell (.inl (by simp)) _) (by simp only [hdn2.out, hbn2.out]; exact hs))⟩
              case measure => have := HKM.out; simp [intOf]; omega
            · clear HSM
              have HEPx := Lib.hid (Epoch_v HOo7.out.z.v)
              have HOPx := Lib.hid (Opened_v HOo7.out.z.v)
              have HMRx := Lib.hid (Mark_v HOo7.out.z.v)
              have HTAx := Lib.hid (Tail_v HOo7.out.z.v)
              go_wp2_with fail
              refine HEPx.out.mono ?_
              rintro e w7' ⟨rfl, rfl⟩
              rename World => w7
              go_wp2_with fail
              refine HOPx.out.mono ?_
              rintro e w7' ⟨rfl, rfl⟩
              rename World => w7
              go_wp2_with fail
              refine HMRx.out.mono ?_
              rintro e w7' ⟨rfl, rfl⟩
              rename World => w7
              go_wp2_with fail
              refine HTAx.out.mono ?_
              rintro e w8 ⟨t2, rfl, htl2, hc8⟩
              have h4 := HOo7.out.up.tail HOo7.out.gd HOo7.out.z.v.gd HTL.out htl2
              have b4 : decide ((t2 : Int) < (t0 : Int)) = false := decide_eq_false (by omega)
              have b4' : decide (t2 < t0) = false := decide_eq_false (by omega)
              have HC8 := Lib.hid hc8
              have hG8 := HG7.out.chg hc8 (by simp)
              have hB8 := HBX.out.chg hc8 (by simp)
              have HG8 := Lib.hid hG8
              have k0 := hB8.cell 0
              have k1 := hB8.cell 1
              have k2 := hB8.cell 2
              have m0 := hG8.cell 0
              have m1 := hG8.cell 1
              have m2 := hG8.cell 2
              have v0 := hG8.frozen 0
              have v1 := hG8.frozen 1
              have v2 := hG8.frozen 2
              simp only [List.getElem?_cons_zero, List.getElem?_cons_succ] at k0 k1 k2 m0 m1 m2
              clear htl2 hc8 h4 hG8 hB8 HEPx HOPx HMRx HTAx
              go_wp2_with fail
              go_roundw
              case rel =>
                have hs := ((HG8.out.set 0 (.int .i64 ck2)).set 1 (.slice a5 dn2 c5)).set 2 (.slice a6 bn2 c6)
                simp only [List.set_cons_zero, List.set_cons_succ] at hs
                refine ⟨k + 1, p2, u2, T2, ⟨⟨ck2, cd2, cb2⟩, a5, c5, a6, c6⟩, rfl, rfl, rfl, (by rw [hE2.out]; try rfl), by go_num, HLT.out.1, HLT.out.2, Lib.hid (HOox.out.next (HC67.out.trans HC8.out) (HNC.out w8 HC8.out) HX2.out ((((Chg.refl [gw] w8).setCell (.inl (by simp)) _).setCell (.inl (by simp)) _).setCell (.inl (by simp)) _) (by simp only [hdn2.out, hbn2.out]; exact hs))⟩
              case measure => have := HKM.out; simp [intOf]; omega
            · clear HSM
              have HEPx := Lib.hid (Epoch_v HOo7.out.z.v)
              have HOPx := Lib.hid (Opened_v HOo7.out.z.v)
              have HMRx := Lib.hid (Mark_v HOo7.out.z.v)
              have HTAx := Lib.hid (Tail_v HOo7.out.z.v)
              go_wp2_with fail
              refine HEPx.out.mono ?_
              rintro e w7' ⟨rfl, rfl⟩
              rename World => w7
              go_wp2_with fail
              refine HOPx.out.mono ?_
              rintro e w7' ⟨rfl, rfl⟩
              rename World => w7
              go_wp2_with fail
              refine HMRx.out.mono ?_
              rintro e w7' ⟨rfl, rfl⟩
              rename World => w7
              go_wp2_with fail
              refine HTAx.out.mono ?_
              rintro e w8 ⟨t2, rfl, htl2, hc8⟩
              have h4 := HOo7.out.up.tail HOo7.out.gd HOo7.out.z.v.gd HTL.out htl2
              have b4 : decide ((t2 : Int) < (t0 : Int)) = false := decide_eq_false (by omega)
              have b4' : decide (t2 < t0) = false := decide_eq_false (by omega)
              have HC8 := Lib.hid hc8
              have hG8 := HG7.out.chg hc8 (by simp)
              have hB8 := HBX.out.chg hc8 (by simp)
              have HG8 := Lib.hid hG8
              have k0 := hB8.cell 0
              have k1 := hB8.cell 1
              have k2 := hB8.cell 2
              have m0 := hG8.cell 0
              have m1 := hG8.cell 1
              have m2 := hG8.cell 2
              have v0 := hG8.frozen 0
              have v1 := hG8.frozen 1
              have v2 := hG8.frozen 2
              simp only [List.getElem?_cons_zero, List.getElem?_cons_succ] at k0 k1 k2 m0 m1 m2
              clear htl2 hc8 h4 hG8 hB8 HEPx HOPx HMRx HTAx
              go_wp2_with fail
              go_roundw
              case rel =>
                have hs := ((HG8.out.set 0 (.int .i64 ck2)).set 1 (.slice a5 dn2 c5)).set 2 (.slice a6 bn2 c6)
                simp only [List.set_cons_zero, List.set_cons_succ] at hs
                refine ⟨k + 1, p2, u2, T2, ⟨⟨ck2, cd2, cb2⟩, a5, c5, a6, c6⟩, rfl, rfl, rfl, (by rw [hE2.out]; try rfl), by go_num, HLT.out.1, HLT.out.2, Lib.hid (HOox.out.next (HC67.out.trans HC8.out) (HNC.out w8 HC8.out) HX2.out ((((Chg.refl [gw] w8).setCell (.inl (by simp)) _).setCell (.inl (by simp)) _).setCell (.inl (by simp)) _) (by simp only [hdn2.out, hbn2.out]; exact hs))⟩
              case measure => have := HKM.out; simp [intOf]; omega
      · obtain rfl : k = 50 := by omega
        have HAV := Lib.hid (alive8_any wr)
        go_wp2_with fail
        refine HAV.out.mono ?_
        rintro e w9 ⟨rfl, hc9⟩
        have HF := Lib.hid ((HOn.out.z.c).trans hc9)
        clear hc9
        go_wp2_with fail
        go_ret
        exact ⟨rfl, HF.out⟩
    · obtain rfl : k = len := by omega
      have e1 : decide ((k : Int) < (k : Int)) = false := by simp
      have HAV := Lib.hid (alive8_any wr)
      go_wp2_with fail
      refine HAV.out.mono ?_
      rintro e w9 ⟨rfl, hc9⟩
      have HF := Lib.hid ((HOn.out.z.c).trans hc9)
      clear hc9
      go_wp2_with fail
      go_ret
      exact ⟨rfl, HF.out⟩
theorem pagesOnce_row (w : World) {z : Int} (hz : (Lit.int .i64 z).wf = true) {a : Option Addr} {len c : Nat} {Z : Nat → ActT8} (hZ : IsActs8 w a len Z) {x : Int} (hx : (Lit.int .u64 x).wf = true) :
    Calls Tryz.prog 5 #[.int .i64 z, .slice a len c, .int .u64 x] w fun e w' => e = .returned (.bool true) ∧ Below w.heap.size w w' := by
  have hb := bounds_u64 hx
  obtain ⟨y, rfl⟩ : ∃ y : Nat, x = (y : Int) := ⟨x.toNat, by omega⟩
  exact (pagesOnce_walk w z a len c Z y (bounds_i64 hz) hZ (by omega)).mono fun e w' h => ⟨h.1, h.2.low⟩
end Go.Proofs.YtmpajlpemabniaaGreat
