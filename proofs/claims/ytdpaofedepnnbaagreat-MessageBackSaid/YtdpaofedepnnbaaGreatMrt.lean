/-
  Right of package message, by its contracts. No claim of its own.
-/
import Derived.Test.YtdpaofedepnnbaaGreatMr
import Derived.Test.YtdpaofedepnnbaaGreatMt
namespace Go.Proofs.YtdpaofedepnnbaaGreat
open Go.RowKit Go.Deep Go.Shelf
set_option linter.unusedVariables false
set_option linter.unusedSimpArgs false

theorem rcell_any (x : Ce) (a : Option Addr) (c : Nat) (a2 : Option Addr) (c2 B : Nat) (w : World) (hro : Ro w B a (u8s x.d)) (hro2 : Ro w B a2 (bcs x.b)) (hB : B ≤ w.heap.size) (hl : x.b.length ≤ 9223372036854775807) (hl2 : x.d.length ≤ 9223372036854775807) :
    Calls Tryz.prog 49 #[cev x.k a x.d.length c a2 x.b.length c2] w fun e w' => e = .returned (.bool (mcOk x)) ∧ Below w.heap.size w w' := by
  obtain ⟨W, HWW⟩ : ∃ W, Hid (w.alloc (.cells #[.int .i64 x.k, .slice a x.d.length c, .slice a2 x.b.length c2] 32) = W) := ⟨_, Lib.hid rfl⟩
  have hWb : Below w.heap.size w W := by rw [← HWW.out]; exact (Below.refl _ _).alloc (Nat.le_refl _) _
  have HO : Hid (Own W w.heap.size 32 [.int .i64 x.k, .slice a x.d.length c, .slice a2 x.b.length c2]) := Lib.hid (by rw [← HWW.out]; exact Own.new w _ _)
  have HR := Lib.hid (right_any x a c a2 c2 B W (hro2.below hWb hB) (Nat.le_trans hB hWb.size) hl hl2)
  have HS := Lib.hid (fun (W' : World) (hb : Below W.heap.size W W') => same_any x noC a c a2 c2 none 0 none 0 B W' (hro.below (hWb.trans (hb.mono hWb.size)) hB) (hro2.below (hWb.trans (hb.mono hWb.size)) hB) (Ro.nil _ _ _) (Ro.nil _ _ _) (Nat.le_trans hB (Nat.le_trans hWb.size hb.size)) hl (by simp [noC]))
  have HB := Lib.hid hWb
  unfold mcOk
  generalize right x = t at *
  generalize alike x noC = u at *
  simp only [noC, List.length_nil] at HS
  have c0 := HO.out.cell 0
  have c1 := HO.out.cell 1
  have c2' := HO.out.cell 2
  have hz := HO.out.lt
  simp at c0 c1 c2'
  clear hWb hro hro2
  generalize x.d.length = n at *
  generalize x.b.length = m at *
  generalize x.k = k at *
  cases t with
  | true =>
    go_enter Tryz.func49, Tryz.ntmps49
    go_upto_region 1 with fail
    rw [HWW.out]
    go_wp2_with fail
    refine HR.out.mono ?_
    rintro e w1 ⟨rfl, hb⟩
    have HB1 := Lib.hid (HB.out.trans (hb.mono HB.out.size))
    clear hb
    go_wp2_with fail
    go_ret
    exact ⟨rfl, HB1.out⟩
  | false =>
    go_enter Tryz.func49, Tryz.ntmps49
    go_upto_region 1 with fail
    rw [HWW.out]
    go_wp2_with fail
    refine HR.out.mono ?_
    rintro e w1 ⟨rfl, hb⟩
    have HB1 := Lib.hid (HB.out.trans (hb.mono HB.out.size))
    have HBW := Lib.hid hb
    have HO1 := Lib.hid (HO.out.below hb HO.out.lt)
    clear hb c0 c1 c2'
    have c0 := HO1.out.cell 0
    have c1 := HO1.out.cell 1
    have c2' := HO1.out.cell 2
    simp at c0 c1 c2'
    go_wp2_with fail
    refine (HS.out w1 HBW.out).mono ?_
    rintro e w2 ⟨rfl, hb⟩
    have HB2 := Lib.hid (HB1.out.trans (hb.mono HB1.out.size))
    clear hb
    go_wp2_with fail
    go_ret
    exact ⟨rfl, HB2.out⟩
theorem rlayout_any (A : LyT) (B : Nat) (w : World) (h : LyIn w B A) (hB : B ≤ w.heap.size) (hf : SgFit A.sg) :
    Calls Tryz.prog 50 #[A.val] w fun e w' => e = .returned (.bool (mlOk A.x)) ∧ Below w.heap.size w w' := by
  obtain ⟨W, HWW⟩ : ∃ W, Hid (w.alloc (.cells #[.int .u64 (A.e : Int), .slice A.a A.sg.length A.c, .int .i64 A.q] 38) = W) := ⟨_, Lib.hid rfl⟩
  have hWb : Below w.heap.size w W := by rw [← HWW.out]; exact (Below.refl _ _).alloc (Nat.le_refl _) _
  have HO : Hid (Own W w.heap.size 38 [.int .u64 (A.e : Int), .slice A.a A.sg.length A.c, .int .i64 A.q]) := Lib.hid (by rw [← HWW.out]; exact Own.new w _ _)
  have HR := Lib.hid (lright_any A B W (h.below hWb hB) (Nat.le_trans hB hWb.size) hf)
  have HS := Lib.hid (fun (W' : World) (hb : Below W.heap.size W W') => lsame_any A ⟨0, none, 0, [], 0⟩ B W' (h.below (hWb.trans (hb.mono hWb.size)) hB) ⟨Ro.nil _ _ _, fun s hs => by cases hs⟩ hf ⟨by simp, fun s hs => by cases hs⟩ (Nat.le_trans hB (Nat.le_trans hWb.size hb.size)))
  have HB := Lib.hid hWb
  unfold mlOk
  rw [show noL = LyT.x ⟨0, none, 0, [], 0⟩ from rfl]
  generalize lright A.x = t at *
  generalize lalike A.x (LyT.x ⟨0, none, 0, [], 0⟩) = u at *
  obtain ⟨ep, a, c, L, q⟩ := A
  simp only [LyT.val, List.length_nil] at *
  generalize L.length = n at *
  have c0 := HO.out.cell 0
  have c1 := HO.out.cell 1
  have c2' := HO.out.cell 2
  have hz := HO.out.lt
  simp at c0 c1 c2'
  clear hWb h hf
  cases t with
  | true =>
    go_enter Tryz.func50, Tryz.ntmps50
    go_upto_region 1 with fail
    rw [HWW.out]
    go_wp2_with fail
    refine HR.out.mono ?_
    rintro e w1 ⟨rfl, hb⟩
    have HB1 := Lib.hid (HB.out.trans (hb.mono HB.out.size))
    clear hb
    go_wp2_with fail
    go_ret
    exact ⟨rfl, HB1.out⟩
  | false =>
    go_enter Tryz.func50, Tryz.ntmps50
    go_upto_region 1 with fail
    rw [HWW.out]
    go_wp2_with fail
    refine HR.out.mono ?_
    rintro e w1 ⟨rfl, hb⟩
    have HB1 := Lib.hid (HB.out.trans (hb.mono HB.out.size))
    have HBW := Lib.hid hb
    have HO1 := Lib.hid (HO.out.below hb HO.out.lt)
    clear hb c0 c1 c2'
    have c0 := HO1.out.cell 0
    have c1 := HO1.out.cell 1
    have c2' := HO1.out.cell 2
    simp at c0 c1 c2'
    go_wp2_with fail
    refine (HS.out w1 HBW.out).mono ?_
    rintro e w2 ⟨rfl, hb⟩
    have HB2 := Lib.hid (HB1.out.trans (hb.mono HB1.out.size))
    clear hb
    go_wp2_with fail
    go_ret
    exact ⟨rfl, HB2.out⟩

set_option maxHeartbeats 8000000 in
set_option maxRecDepth 100000 in
theorem mright_any (A : MgT) (B : Nat) (w : World) (h : MgIn w B A) (hB : B ≤ w.heap.size) (hf : MgFit A) :
    Calls Tryz.prog 14 #[A.val] w fun e w' => e = .returned (.bool (mright A.x)) ∧ Below w.heap.size w w' := by
  obtain ⟨W, HWW⟩ : ∃ W, Hid (w.alloc (.cells A.cs.toArray 40) = W) := ⟨_, Lib.hid rfl⟩
  have hWb : Below w.heap.size w W := by rw [← HWW.out]; exact (Below.refl _ _).alloc (Nat.le_refl _) _
  have HO0 : Hid (Own W w.heap.size 40 A.cs) := Lib.hid (by rw [← HWW.out]; exact Own.new w _ _)
  have HB := Lib.hid hWb
  have hin := fun (W' : World) (hb : Below w.heap.size w W') => h.below hb hB
  have HSZ := Lib.hid hB
  have H1 := Lib.hid (rkinds_any A.k A.f W)
  have H2 := Lib.hid (fun (W' : World) => rplace_any A.fr W')
  have H3 := Lib.hid (fun (W' : World) => rplace_any A.to W')
  have H4 := Lib.hid (fun (W' : World) => below_any A.id 1048576 W')
  have H7 := Lib.hid (fun (W' : World) => below_any A.er 256 W')
  have H8 := Lib.hid (fun (W' : World) => rballot_any A.ba W')
  have H9 := Lib.hid (fun (W' : World) => rballot_any A.pr W')
  have H10 := Lib.hid (fun (W' : World) (hb : Below w.heap.size w W') => rstreams_any A.st A.sa A.sc B W' (hin W' hb).st (Nat.le_trans hB hb.size) hf.st)
  have H11 := Lib.hid (fun (W' : World) (hb : Below w.heap.size w W') => rbacks_any A.bk A.ka A.kc B W' (hin W' hb).bk (Nat.le_trans hB hb.size) hf.bk)
  have H12 := Lib.hid (fun (W' : World) (hb : Below w.heap.size w W') => rcell_any A.c A.ca A.cc A.ca2 A.cc2 B W' (hin W' hb).d (hin W' hb).b (Nat.le_trans hB hb.size) hf.b hf.d)
  have H13 := Lib.hid (fun (W' : World) (hb : Below w.heap.size w W') => rlayout_any A.ly B W' (hin W' hb).ly (Nat.le_trans hB hb.size) hf.ly)
  obtain ⟨k, ⟨fr1, fr2⟩, ⟨to1, to2⟩, id, f, ep, ad, er, ⟨ck, cd, cb⟩, ca, cc, ca2, cc2, st, sa, sc, bk, ka, kc, ⟨ba1, ba2⟩, ⟨pr1, pr2⟩, ly⟩ := A
  have hM : mright (MgT.x ⟨k, (fr1, fr2), (to1, to2), id, f, ep, ad, er, ⟨ck, cd, cb⟩, ca, cc, ca2, cc2, st, sa, sc, bk, ka, kc, (ba1, ba2), (pr1, pr2), ly⟩) = (kindsOk k f && (plOk (fr1, fr2) && (plOk (to1, to2) && (blw id 1048576 && (decide (ep ≤ 1048576) && (decide (ad ≤ 1048576) && (blw er 256 && (baOk (ba1, ba2) && (baOk (pr1, pr2) && (stOk st && (mbOk bk && (mcOk ⟨ck, cd, cb⟩ && mlOk ly.x)))))))))))) := rfl
  rw [hM]
  clear hM
  simp only [MgT.x, MgT.val, MgT.cs] at *
  generalize kindsOk k f = r1 at *
  generalize plOk (fr1, fr2) = r2 at *
  generalize plOk (to1, to2) = r3 at *
  generalize blw id 1048576 = r4 at *
  generalize blw er 256 = r7 at *
  generalize baOk (ba1, ba2) = r8 at *
  generalize baOk (pr1, pr2) = r9 at *
  generalize stOk st = r10 at *
  generalize mbOk bk = r11 at *
  generalize mcOk ⟨ck, cd, cb⟩ = r12 at *
  generalize mlOk ly.x = r13 at *
  have e5' : decide ((ep : Int) ≤ 1048576) = decide (ep ≤ 1048576) := by rw [decide_eq_decide]; omega
  have e6' : decide ((ad : Int) ≤ 1048576) = decide (ad ≤ 1048576) := by rw [decide_eq_decide]; omega
  generalize decide (ep ≤ 1048576) = r5 at *
  generalize decide (ad ≤ 1048576) = r6 at *
  obtain ⟨le, la, lc, LL, lq⟩ := ly
  simp only [LyT.val] at *
  generalize cd.length = cn at *
  generalize cb.length = cn2 at *
  generalize st.length = sn at *
  generalize bk.length = kn at *
  generalize LL.length = ln at *
  clear hWb hin h hf hB
  go_enter Tryz.func14, Tryz.ntmps14
  go_wp2_with fail
  rw [HWW.out]
  refine H1.out.mono ?_
  rintro e w1 ⟨rfl, rfl⟩
  rename World => w1
  have HO1 := HO0
  have HB1 := HB
  cases r1 with
  | false =>
    go_wp2_with fail
    go_ret
    exact ⟨rfl, HB1.out⟩
  | true =>
  have c1 := HO1.out.cell 1
  have c2 := HO1.out.cell 2
  simp at c1 c2
  have hz := HO1.out.lt
  go_wp2_with fail
  refine (H2.out w1).mono ?_
  rintro e w2 ⟨rfl, hb⟩
  have HB2 := Lib.hid (HB1.out.trans (hb.mono HB1.out.size))
  have HO2 := Lib.hid (HO1.out.below hb HO1.out.lt)
  clear hb
  clear hz c1 c2
  cases r2 with
  | false =>
    go_wp2_with fail
    go_ret
    exact ⟨rfl, HB2.out⟩
  | true =>
  have c3 := HO2.out.cell 3
  have c4 := HO2.out.cell 4
  simp at c3 c4
  have hz := HO2.out.lt
  go_wp2_with fail
  refine (H3.out w2).mono ?_
  rintro e w3 ⟨rfl, hb⟩
  have HB3 := Lib.hid (HB2.out.trans (hb.mono HB2.out.size))
  have HO3 := Lib.hid (HO2.out.below hb HO2.out.lt)
  clear hb
  clear hz c3 c4
  cases r3 with
  | false =>
    go_wp2_with fail
    go_ret
    exact ⟨rfl, HB3.out⟩
  | true =>
  have c5 := HO3.out.cell 5
  simp at c5
  have hz := HO3.out.lt
  go_wp2_with fail
  refine (H4.out w3).mono ?_
  rintro e w4 ⟨rfl, rfl⟩
  have HB4 := HB3
  have HO4 := HO3
  rename World => w4
  clear hz c5
  cases r4 with
  | false =>
    go_wp2_with fail
    go_ret
    exact ⟨rfl, HB4.out⟩
  | true =>
  have c7 := HO4.out.cell 7
  have c8 := HO4.out.cell 8
  simp at c7 c8
  have hz := HO4.out.lt
  cases r5 with
  | false =>
    go_wp2_with fail
    go_ret
    exact ⟨rfl, HB4.out⟩
  | true =>
  cases r6 with
  | false =>
    go_wp2_with fail
    go_ret
    exact ⟨rfl, HB4.out⟩
  | true =>
  have c9 := HO4.out.cell 9
  simp at c9
  go_wp2_with fail
  refine (H7.out w4).mono ?_
  rintro e w5 ⟨rfl, rfl⟩
  have HB5 := HB4
  have HO5 := HO4
  rename World => w5
  clear hz c7 c8 c9 e5' e6'
  cases r7 with
  | false =>
    go_wp2_with fail
    go_ret
    exact ⟨rfl, HB5.out⟩
  | true =>
  have c15 := HO5.out.cell 15
  have c16 := HO5.out.cell 16
  simp at c15 c16
  have hz := HO5.out.lt
  go_wp2_with fail
  refine (H8.out w5).mono ?_
  rintro e w6 ⟨rfl, hb⟩
  have HB6 := Lib.hid (HB5.out.trans (hb.mono HB5.out.size))
  have HO6 := Lib.hid (HO5.out.below hb HO5.out.lt)
  clear hb
  clear hz c15 c16
  cases r8 with
  | false =>
    go_wp2_with fail
    go_ret
    exact ⟨rfl, HB6.out⟩
  | true =>
  have c17 := HO6.out.cell 17
  have c18 := HO6.out.cell 18
  simp at c17 c18
  have hz := HO6.out.lt
  go_wp2_with fail
  refine (H9.out w6).mono ?_
  rintro e w7 ⟨rfl, hb⟩
  have HB7 := Lib.hid (HB6.out.trans (hb.mono HB6.out.size))
  have HO7 := Lib.hid (HO6.out.below hb HO6.out.lt)
  clear hb
  clear hz c17 c18
  cases r9 with
  | false =>
    go_wp2_with fail
    go_ret
    exact ⟨rfl, HB7.out⟩
  | true =>
  have c13 := HO7.out.cell 13
  simp at c13
  have hz := HO7.out.lt
  go_wp2_with fail
  refine (H10.out w7 HB7.out).mono ?_
  rintro e w8 ⟨rfl, hb⟩
  have HB8 := Lib.hid (HB7.out.trans (hb.mono HB7.out.size))
  have HO8 := Lib.hid (HO7.out.below hb HO7.out.lt)
  clear hb
  clear hz c13
  cases r10 with
  | false =>
    go_wp2_with fail
    go_ret
    exact ⟨rfl, HB8.out⟩
  | true =>
  have c14 := HO8.out.cell 14
  simp at c14
  have hz := HO8.out.lt
  go_wp2_with fail
  refine (H11.out w8 HB8.out).mono ?_
  rintro e w9 ⟨rfl, hb⟩
  have HB9 := Lib.hid (HB8.out.trans (hb.mono HB8.out.size))
  have HO9 := Lib.hid (HO8.out.below hb HO8.out.lt)
  clear hb
  clear hz c14
  cases r11 with
  | false =>
    go_wp2_with fail
    go_ret
    exact ⟨rfl, HB9.out⟩
  | true =>
  have c10 := HO9.out.cell 10
  have c11 := HO9.out.cell 11
  have c12 := HO9.out.cell 12
  simp at c10 c11 c12
  have hz := HO9.out.lt
  go_wp2_with fail
  refine (H12.out w9 HB9.out).mono ?_
  rintro e w10 ⟨rfl, hb⟩
  have HB10 := Lib.hid (HB9.out.trans (hb.mono HB9.out.size))
  have HO10 := Lib.hid (HO9.out.below hb HO9.out.lt)
  clear hb
  clear hz c10 c11 c12
  cases r12 with
  | false =>
    go_wp2_with fail
    go_ret
    exact ⟨rfl, HB10.out⟩
  | true =>
  have c19 := HO10.out.cell 19
  have c20 := HO10.out.cell 20
  have c21 := HO10.out.cell 21
  simp at c19 c20 c21
  have hz := HO10.out.lt
  go_wp2_with fail
  refine (H13.out w10 HB10.out).mono ?_
  rintro e w11 ⟨rfl, hb⟩
  have HB11 := Lib.hid (HB10.out.trans (hb.mono HB10.out.size))
  have HO11 := Lib.hid (HO10.out.below hb HO10.out.lt)
  clear hb
  clear hz c19 c20 c21
  go_wp2_with fail
  go_ret
  exact ⟨rfl, HB11.out⟩
end Go.Proofs.YtdpaofedepnnbaaGreat
