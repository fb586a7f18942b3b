/-
  Right of package message, by its contracts. No claim of its own.
-/
import Derived.Test.YteenlkmnadjnpaaGreatH8
import Derived.Test.YteenlkmnadjnpaaGreatH6
import Derived.Test.YteenlkmnadjnpaaGreatH5
import Derived.Test.YteenlkmnadjnpaaGreatH4
import Derived.Deep.Cut
import Derived.Deep.RegionHeld3
import Derived.Test.YteenlkmnadjnpaaGreatH2
namespace Go.Proofs.YteenlkmnadjnpaaGreat
open Go.RowKit Go.Deep Go.Shelf
set_option linter.unusedVariables false
set_option linter.unusedSimpArgs false

theorem rcell_any (x : Ce) (a : Option Addr) (c : Nat) (a2 : Option Addr) (c2 B : Nat) (w : World) (hro : Ro w B a (u8s x.d)) (hro2 : Ro w B a2 (bcs x.b)) (hB : B ≤ w.heap.size) (hl : x.b.length ≤ 9223372036854775807) (hl2 : x.d.length ≤ 9223372036854775807) :
    Calls Tryz.prog 70 #[cev x.k a x.d.length c a2 x.b.length c2] w fun e w' => e = .returned (.bool (mcOk x)) ∧ Below w.heap.size w w' := by
  obtain ⟨W, HWW⟩ : ∃ W, Hid (w.alloc (.cells #[.int .i64 x.k, .slice a x.d.length c, .slice a2 x.b.length c2] 32) = W) := ⟨_, Lib.hid rfl⟩
  have hWb : Below w.heap.size w W := by rw [← HWW.out]; exact (Below.refl _ _).alloc (Nat.le_refl _) _
  have HO : Hid (Own W w.heap.size 32 [.int .i64 x.k, .slice a x.d.length c, .slice a2 x.b.length c2]) := Lib.hid (by rw [← HWW.out]; exact Own.new w _ _)
  have HR := Lib.hid (right_any x a c a2 c2 B W (hro2.below hWb hB) (Nat.le_trans hB hWb.size) hl hl2)
  have HS := Lib.hid (fun (W' : World) (hb : Below W.heap.size W W') => same_any x noC a c a2 c2 none 0 none 0 B W' (hro.below (hWb.trans (hb.mono hWb.size)) hB) (hro2.below (hWb.trans (hb.mono hWb.size)) hB) (Ro.nil _ _ _) (Ro.nil _ _ _) (Nat.le_trans hB (Nat.le_trans hWb.size hb.size)) hl (by simp [noC]))
  have HB := Lib.hid hWb
  unfold mcOk
  generalize right x = t at *
  generalize alike x noC = u at *
  simp only [noC, List.length_nil] at HS
  have c0 := HO.out.cell 0
  have c1 := HO.out.cell 1
  have c2' := HO.out.cell 2
  have hz := HO.out.lt
  simp at c0 c1 c2'
  clear hWb hro hro2
  generalize x.d.length = n at *
  generalize x.b.length = m at *
  generalize x.k = k at *
  cases t with
  | true =>
    go_enter Tryz.func70, Tryz.ntmps70
    go_upto_region 1 with fail
    rw [HWW.out]
    go_wp2_with fail
    refine HR.out.mono ?_
    rintro e w1 ⟨rfl, hb⟩
    have HB1 := Lib.hid (HB.out.trans (hb.mono HB.out.size))
    clear hb
    go_wp2_with fail
    go_ret
    exact ⟨rfl, HB1.out⟩
  | false =>
    go_enter Tryz.func70, Tryz.ntmps70
    go_upto_region 1 with fail
    rw [HWW.out]
    go_wp2_with fail
    refine HR.out.mono ?_
    rintro e w1 ⟨rfl, hb⟩
    have HB1 := Lib.hid (HB.out.trans (hb.mono HB.out.size))
    have HBW := Lib.hid hb
    have HO1 := Lib.hid (HO.out.below hb HO.out.lt)
    clear hb c0 c1 c2'
    have c0 := HO1.out.cell 0
    have c1 := HO1.out.cell 1
    have c2' := HO1.out.cell 2
    simp at c0 c1 c2'
    go_wp2_with fail
    refine (HS.out w1 HBW.out).mono ?_
    rintro e w2 ⟨rfl, hb⟩
    have HB2 := Lib.hid (HB1.out.trans (hb.mono HB1.out.size))
    clear hb
    go_wp2_with fail
    go_ret
    exact ⟨rfl, HB2.out⟩
theorem rlayout_any (A : LyT) (B : Nat) (w : World) (h : LyIn w B A) (hB : B ≤ w.heap.size) (hf : SgFit A.sg) :
    Calls Tryz.prog 71 #[A.val] w fun e w' => e = .returned (.bool (mlOk A.x)) ∧ Below w.heap.size w w' := by
  obtain ⟨W, HWW⟩ : ∃ W, Hid (w.alloc (.cells #[.int .u64 (A.e : Int), .slice A.a A.sg.length A.c, .int .i64 A.q] 38) = W) := ⟨_, Lib.hid rfl⟩
  have hWb : Below w.heap.size w W := by rw [← HWW.out]; exact (Below.refl _ _).alloc (Nat.le_refl _) _
  have HO : Hid (Own W w.heap.size 38 [.int .u64 (A.e : Int), .slice A.a A.sg.length A.c, .int .i64 A.q]) := Lib.hid (by rw [← HWW.out]; exact Own.new w _ _)
  have HR := Lib.hid (lright_any A B W (h.below hWb hB) (Nat.le_trans hB hWb.size) hf)
  have HS := Lib.hid (fun (W' : World) (hb : Below W.heap.size W W') => lsame_any A ⟨0, none, 0, [], 0⟩ B W' (h.below (hWb.trans (hb.mono hWb.size)) hB) ⟨Ro.nil _ _ _, fun s hs => by cases hs⟩ hf ⟨by simp, fun s hs => by cases hs⟩ (Nat.le_trans hB (Nat.le_trans hWb.size hb.size)))
  have HB := Lib.hid hWb
  unfold mlOk
  rw [show noL = LyT.x ⟨0, none, 0, [], 0⟩ from rfl]
  generalize lright A.x = t at *
  generalize lalike A.x (LyT.x ⟨0, none, 0, [], 0⟩) = u at *
  obtain ⟨ep, a, c, L, q⟩ := A
  simp only [LyT.val, List.length_nil] at *
  generalize L.length = n at *
  have c0 := HO.out.cell 0
  have c1 := HO.out.cell 1
  have c2' := HO.out.cell 2
  have hz := HO.out.lt
  simp at c0 c1 c2'
  clear hWb h hf
  cases t with
  | true =>
    go_enter Tryz.func71, Tryz.ntmps71
    go_upto_region 1 with fail
    rw [HWW.out]
    go_wp2_with fail
    refine HR.out.mono ?_
    rintro e w1 ⟨rfl, hb⟩
    have HB1 := Lib.hid (HB.out.trans (hb.mono HB.out.size))
    clear hb
    go_wp2_with fail
    go_ret
    exact ⟨rfl, HB1.out⟩
  | false =>
    go_enter Tryz.func71, Tryz.ntmps71
    go_upto_region 1 with fail
    rw [HWW.out]
    go_wp2_with fail
    refine HR.out.mono ?_
    rintro e w1 ⟨rfl, hb⟩
    have HB1 := Lib.hid (HB.out.trans (hb.mono HB.out.size))
    have HBW := Lib.hid hb
    have HO1 := Lib.hid (HO.out.below hb HO.out.lt)
    clear hb c0 c1 c2'
    have c0 := HO1.out.cell 0
    have c1 := HO1.out.cell 1
    have c2' := HO1.out.cell 2
    simp at c0 c1 c2'
    go_wp2_with fail
    refine (HS.out w1 HBW.out).mono ?_
    rintro e w2 ⟨rfl, hb⟩
    have HB2 := Lib.hid (HB1.out.trans (hb.mono HB1.out.size))
    clear hb
    go_wp2_with fail
    go_ret
    exact ⟨rfl, HB2.out⟩

set_option maxHeartbeats 8000000 in
set_option maxRecDepth 100000 in
theorem mright_any (A : MgT) (B : Nat) (w : World) (h : MgIn w B A) (hB : B ≤ w.heap.size) (hf : MgFit A) :
    Calls Tryz.prog 19 #[A.val] w fun e w' => e = .returned (.bool (mright A.x)) ∧ Below w.heap.size w w' := by
  obtain ⟨W, HWW⟩ : ∃ W, Hid (w.alloc (.cells A.cs.toArray 40) = W) := ⟨_, Lib.hid rfl⟩
  have hWb : Below w.heap.size w W := by rw [← HWW.out]; exact (Below.refl _ _).alloc (Nat.le_refl _) _
  have HO0 : Hid (Own W w.heap.size 40 A.cs) := Lib.hid (by rw [← HWW.out]; exact Own.new w _ _)
  have HB := Lib.hid hWb
  have hin := fun (W' : World) (hb : Below w.heap.size w W') => h.below hb hB
  have HSZ := Lib.hid hB
  have H1 := Lib.hid (rkinds_any A.k A.f W)
  have H2 := Lib.hid (fun (W' : World) => rplace_any A.fr W')
  have H3 := Lib.hid (fun (W' : World) => rplace_any A.to W')
  have H4 := Lib.hid (fun (W' : World) => below_any A.id 1048576 W')
  have H7 := Lib.hid (fun (W' : World) => below_any A.er 256 W')
  have H8 := Lib.hid (fun (W' : World) => rballot_any A.ba W')
  have H9 := Lib.hid (fun (W' : World) => rballot_any A.pr W')
  have H10 := Lib.hid (fun (W' : World) (hb : Below w.heap.size w W') => rstreams_any A.st A.sa A.sc B W' (hin W' hb).st (Nat.le_trans hB hb.size) hf.st)
  have H11 := Lib.hid (fun (W' : World) (hb : Below w.heap.size w W') => rbacks_any A.bk A.ka A.kc B W' (hin W' hb).bk (Nat.le_trans hB hb.size) hf.bk)
  have H12 := Lib.hid (fun (W' : World) (hb : Below w.heap.size w W') => rcell_any A.c A.ca A.cc A.ca2 A.cc2 B W' (hin W' hb).d (hin W' hb).b (Nat.le_trans hB hb.size) hf.b hf.d)
  have H13 := Lib.hid (fun (W' : World) (hb : Below w.heap.size w W') => rlayout_any A.ly B W' (hin W' hb).ly (Nat.le_trans hB hb.size) hf.ly)
  obtain ⟨k, ⟨fr1, fr2⟩, ⟨to1, to2⟩, id, f, ep, ad, er, ⟨ck, cd, cb⟩, ca, cc, ca2, cc2, st, sa, sc, bk, ka, kc, ⟨ba1, ba2⟩, ⟨pr1, pr2⟩, ly⟩ := A
  have hM : mright (MgT.x ⟨k, (fr1, fr2), (to1, to2), id, f, ep, ad, er, ⟨ck, cd, cb⟩, ca, cc, ca2, cc2, st, sa, sc, bk, ka, kc, (ba1, ba2), (pr1, pr2), ly⟩) = (kindsOk k f && (plOk (fr1, fr2) && (plOk (to1, to2) && (blw id 1048576 && (decide (ep ≤ 1048576) && (decide (ad ≤ 1048576) && (blw er 256 && (baOk (ba1, ba2) && (baOk (pr1, pr2) && (stOk st && (mbOk bk && (mcOk ⟨ck, cd, cb⟩ && mlOk ly.x)))))))))))) := rfl
  rw [hM]
  clear hM
  simp only [MgT.x, MgT.val, MgT.cs] at *
  generalize kindsOk k f = r1 at *
  generalize plOk (fr1, fr2) = r2 at *
  generalize plOk (to1, to2) = r3 at *
  generalize blw id 1048576 = r4 at *
  generalize blw er 256 = r7 at *
  generalize baOk (ba1, ba2) = r8 at *
  generalize baOk (pr1, pr2) = r9 at *
  generalize stOk st = r10 at *
  generalize mbOk bk = r11 at *
  generalize mcOk ⟨ck, cd, cb⟩ = r12 at *
  generalize mlOk ly.x = r13 at *
  have e5' : decide ((ep : Int) ≤ 1048576) = decide (ep ≤ 1048576) := by rw [decide_eq_decide]; omega
  have e6' : decide ((ad : Int) ≤ 1048576) = decide (ad ≤ 1048576) := by rw [decide_eq_decide]; omega
  generalize decide (ep ≤ 1048576) = r5 at *
  generalize decide (ad ≤ 1048576) = r6 at *
  obtain ⟨le, la, lc, LL, lq⟩ := ly
  simp only [LyT.val] at *
  generalize cd.length = cn at *
  generalize cb.length = cn2 at *
  generalize st.length = sn at *
  generalize bk.length = kn at *
  generalize LL.length = ln at *
  clear hWb hin h hf hB
  go_enter Tryz.func19, Tryz.ntmps19
  go_wp2_with fail
  rw [HWW.out]
  refine H1.out.mono ?_
  rintro e w1 ⟨rfl, rfl⟩
  rename World => w1
  have HO1 := HO0
  have HB1 := HB
  cases r1 with
  | false =>
    go_wp2_with fail
    go_ret
    exact ⟨rfl, HB1.out⟩
  | true =>
  have c1 := HO1.out.cell 1
  have c2 := HO1.out.cell 2
  simp at c1 c2
  have hz := HO1.out.lt
  go_wp2_with fail
  refine (H2.out w1).mono ?_
  rintro e w2 ⟨rfl, hb⟩
  have HB2 := Lib.hid (HB1.out.trans (hb.mono HB1.out.size))
  have HO2 := Lib.hid (HO1.out.below hb HO1.out.lt)
  clear hb
  clear hz c1 c2
  cases r2 with
  | false =>
    go_wp2_with fail
    go_ret
    exact ⟨rfl, HB2.out⟩
  | true =>
  have c3 := HO2.out.cell 3
  have c4 := HO2.out.cell 4
  simp at c3 c4
  have hz := HO2.out.lt
  go_wp2_with fail
  refine (H3.out w2).mono ?_
  rintro e w3 ⟨rfl, hb⟩
  have HB3 := Lib.hid (HB2.out.trans (hb.mono HB2.out.size))
  have HO3 := Lib.hid (HO2.out.below hb HO2.out.lt)
  clear hb
  clear hz c3 c4
  cases r3 with
  | false =>
    go_wp2_with fail
    go_ret
    exact ⟨rfl, HB3.out⟩
  | true =>
  have c5 := HO3.out.cell 5
  simp at c5
  have hz := HO3.out.lt
  go_wp2_with fail
  refine (H4.out w3).mono ?_
  rintro e w4 ⟨rfl, rfl⟩
  have HB4 := HB3
  have HO4 := HO3
  rename World => w4
  clear hz c5
  cases r4 with
  | false =>
    go_wp2_with fail
    go_ret
    exact ⟨rfl, HB4.out⟩
  | true =>
  have c7 := HO4.out.cell 7
  have c8 := HO4.out.cell 8
  simp at c7 c8
  have hz := HO4.out.lt
  cases r5 with
  | false =>
    go_wp2_with fail
    go_ret
    exact ⟨rfl, HB4.out⟩
  | true =>
  cases r6 with
  | false =>
    go_wp2_with fail
    go_ret
    exact ⟨rfl, HB4.out⟩
  | true =>
  have c9 := HO4.out.cell 9
  simp at c9
  go_wp2_with fail
  refine (H7.out w4).mono ?_
  rintro e w5 ⟨rfl, rfl⟩
  have HB5 := HB4
  have HO5 := HO4
  rename World => w5
  clear hz c7 c8 c9 e5' e6'
  cases r7 with
  | false =>
    go_wp2_with fail
    go_ret
    exact ⟨rfl, HB5.out⟩
  | true =>
  have c15 := HO5.out.cell 15
  have c16 := HO5.out.cell 16
  simp at c15 c16
  have hz := HO5.out.lt
  go_wp2_with fail
  refine (H8.out w5).mono ?_
  rintro e w6 ⟨rfl, hb⟩
  have HB6 := Lib.hid (HB5.out.trans (hb.mono HB5.out.size))
  have HO6 := Lib.hid (HO5.out.below hb HO5.out.lt)
  clear hb
  clear hz c15 c16
  cases r8 with
  | false =>
    go_wp2_with fail
    go_ret
    exact ⟨rfl, HB6.out⟩
  | true =>
  have c17 := HO6.out.cell 17
  have c18 := HO6.out.cell 18
  simp at c17 c18
  have hz := HO6.out.lt
  go_wp2_with fail
  refine (H9.out w6).mono ?_
  rintro e w7 ⟨rfl, hb⟩
  have HB7 := Lib.hid (HB6.out.trans (hb.mono HB6.out.size))
  have HO7 := Lib.hid (HO6.out.below hb HO6.out.lt)
  clear hb
  clear hz c17 c18
  cases r9 with
  | false =>
    go_wp2_with fail
    go_ret
    exact ⟨rfl, HB7.out⟩
  | true =>
  have c13 := HO7.out.cell 13
  simp at c13
  have hz := HO7.out.lt
  go_wp2_with fail
  refine (H10.out w7 HB7.out).mono ?_
  rintro e w8 ⟨rfl, hb⟩
  have HB8 := Lib.hid (HB7.out.trans (hb.mono HB7.out.size))
  have HO8 := Lib.hid (HO7.out.below hb HO7.out.lt)
  clear hb
  clear hz c13
  cases r10 with
  | false =>
    go_wp2_with fail
    go_ret
    exact ⟨rfl, HB8.out⟩
  | true =>
  have c14 := HO8.out.cell 14
  simp at c14
  have hz := HO8.out.lt
  go_wp2_with fail
  refine (H11.out w8 HB8.out).mono ?_
  rintro e w9 ⟨rfl, hb⟩
  have HB9 := Lib.hid (HB8.out.trans (hb.mono HB8.out.size))
  have HO9 := Lib.hid (HO8.out.below hb HO8.out.lt)
  clear hb
  clear hz c14
  cases r11 with
  | false =>
    go_wp2_with fail
    go_ret
    exact ⟨rfl, HB9.out⟩
  | true =>
  have c10 := HO9.out.cell 10
  have c11 := HO9.out.cell 11
  have c12 := HO9.out.cell 12
  simp at c10 c11 c12
  have hz := HO9.out.lt
  go_wp2_with fail
  refine (H12.out w9 HB9.out).mono ?_
  rintro e w10 ⟨rfl, hb⟩
  have HB10 := Lib.hid (HB9.out.trans (hb.mono HB9.out.size))
  have HO10 := Lib.hid (HO9.out.below hb HO9.out.lt)
  clear hb
  clear hz c10 c11 c12
  cases r12 with
  | false =>
    go_wp2_with fail
    go_ret
    exact ⟨rfl, HB10.out⟩
  | true =>
  have c19 := HO10.out.cell 19
  have c20 := HO10.out.cell 20
  have c21 := HO10.out.cell 21
  simp at c19 c20 c21
  have hz := HO10.out.lt
  go_wp2_with fail
  refine (H13.out w10 HB10.out).mono ?_
  rintro e w11 ⟨rfl, hb⟩
  have HB11 := Lib.hid (HB10.out.trans (hb.mono HB10.out.size))
  have HO11 := Lib.hid (HO10.out.below hb HO10.out.lt)
  clear hb
  clear hz c19 c20 c21
  go_wp2_with fail
  go_ret
  exact ⟨rfl, HB11.out⟩
end Go.Proofs.YteenlkmnadjnpaaGreat
namespace Go.Proofs.YteenlkmnadjnpaaGreat
open Go.RowKit Go.Maps Go.Sort Go.Shelf Go.Deep
set_option linter.unusedVariables false
set_option linter.unusedSimpArgs false

/-- a message from a place to itself, all else nothing -/
def plM (p : Pl2) : MgT := ⟨1, p, p, 0, 0, 0, 0, 0, noC, none, 0, none, 0, [], none, 0, [], none, 0, (0, 0), (0, 0), ⟨0, none, 0, [], 0⟩⟩
theorem plM_in (w : World) (B : Nat) (p : Pl2) : MgIn w B (plM p) := ⟨Ro.nil _ _ _, Ro.nil _ _ _, Ro.nil _ _ _, Ro.nil _ _ _, Ro.nil _ _ _, fun s hs => by cases hs⟩
theorem plM_fit (p : Pl2) : MgFit (plM p) := ⟨by simp [plM, noC], by simp [plM, noC], by simp [plM], by simp [plM], ⟨by simp [plM], (fun s hs => by cases hs)⟩, (fun s hs => by cases hs), (fun s hs => by cases hs)⟩
theorem plM_right (p : Pl2) : mright (plM p).x = plOk p := by
  have h1 : kindsOk 1 0 = true := by kernel_rfl
  have h2 : blw 0 1048576 = true := by kernel_rfl
  have h3 : blw 0 256 = true := by kernel_rfl
  have h4 : baOk (0, 0) = true := by kernel_rfl
  have h5 : stOk [] = true := by kernel_rfl
  have h6 : mbOk [] = true := by kernel_rfl
  have h7 : mcOk noC = true := by kernel_rfl
  have h8 : mlOk (LyT.x ⟨0, none, 0, [], 0⟩) = true := by kernel_rfl
  simp [mright, plM, MgT.x, h1, h2, h3, h4, h5, h6, h7, h8]
set_option maxHeartbeats 2000000 in
theorem rightPlace_any (p : Pl2) (w : World) :
    Calls Tryz.prog 90 #[plV p] w fun e w' => e = .returned (.bool (plOk p)) ∧ Chg [] w w' := by
  have HR : Hid (∀ W : World, Calls Tryz.prog 19 #[.agg #[.int .i64 1, .int .i64 p.1, .int .i64 p.2, .int .i64 p.1, .int .i64 p.2, .int .i64 0, .int .i64 0, .int .u64 0, .int .u64 0, .int .i64 0, .int .i64 0, .slice none 0 0, .slice none 0 0, .slice none 0 0, .slice none 0 0, .int .i64 0, .int .i64 0, .int .i64 0, .int .i64 0, .int .u64 0, .slice none 0 0, .int .i64 0]] W fun e w' => e = .returned (.bool (plOk p)) ∧ Below W.heap.size W w') := Lib.hid fun W => by
    have := mright_any (plM p) 0 W (plM_in W 0 p) (Nat.zero_le _) (plM_fit p)
    rw [plM_right] at this
    exact this
  obtain ⟨r, n⟩ := p
  generalize plOk (r, n) = x at *
  dsimp only at HR ⊢
  go_enter Tryz.func90, Tryz.ntmps90
  go_wp2_with fail
  refine (HR.out _).mono ?_
  rintro e w1 ⟨rfl, hb⟩
  have HB := Lib.hid (((Chg.refl [] w).alloc (.cells #[.int .i64 r, .int .i64 n] 25)).of_below hb)
  clear hb
  go_wp2_with fail
  go_ret
  exact ⟨rfl, HB.out⟩
theorem SpIsDown_nil (p : Pl2) (w : World) : Calls Tryz.prog 30 #[.pointer none, plV p] w fun e w' => e = .returned (.bool false) ∧ Chg [] w w' := by
  obtain ⟨r, n⟩ := p
  go_enter Tryz.func30, Tryz.ntmps30
  go_wp2
  go_ret
  exact ⟨rfl, (Chg.refl [] w).alloc _⟩
set_option maxHeartbeats 2000000 in
theorem IsDown_any {w : World} {p b d : Nat} {S : SpS} (h : Sp w p b d S) (q : Pl2) (hq : Pw q) :
    Calls Tryz.prog 30 #[.pointer (some ⟨p, 0, none⟩), plV q] w fun e w' => e = .returned (.bool (S.F q)) ∧ Chg [] w w' := by
  have hS := h.kept ((Chg.refl [] w).alloc (.cells #[.int .i64 q.1, .int .i64 q.2] 25)).drew
  have c1 := h.own.cell 1
  have hz := h.own.lt
  simp at c1
  have hl := hS.dn.look (t := 121) (e := 126) Tryz.underlying121 (by kernel_rfl) hq
  have hS2 := h.kept (((Chg.refl [] w).alloc (.cells #[.int .i64 q.1, .int .i64 q.2] 25)).alloc (.cells #[] 126)).drew
  have hl2 := hS2.dn.look (t := 121) (e := 126) Tryz.underlying121 (by kernel_rfl) hq
  have HC : Hid (Chg [] w (w.alloc (.cells #[.int .i64 q.1, .int .i64 q.2] 25))) := Lib.hid ((Chg.refl [] w).alloc _)
  obtain ⟨r, n⟩ := q
  dsimp only at hl hl2 HC ⊢
  generalize S.F (r, n) = x at *
  clear h hS hS2 hq
  go_enter Tryz.func30, Tryz.ntmps30
  go_wp2_with fail
  go_region
  all_goals (go_wp2_with fail; go_ret; exact ⟨rfl, by first | exact (HC.out.alloc _).drew | exact HC.out.drew.alloc _⟩)
/-- a place is down, or up -/
def SpS.down (S : SpS) (q : Pl2) (x : Bool) : SpS := { S with F := updF S.F q x }
set_option maxHeartbeats 4000000 in
theorem Down_bad {w : World} {p b d : Nat} {S : SpS} (h : Sp w p b d S) (q : Pl2) (x : Bool) (hq : plOk q = false) :
    Calls Tryz.prog 37 #[.pointer (some ⟨p, 0, none⟩), plV q, .bool x] w fun e w' => e = .returned (.int .i64 1) ∧ Chg [] w w' := by
  have HR := Lib.hid (rightPlace_any q)
  rw [hq] at HR
  clear h hq
  obtain ⟨r, n⟩ := q
  go_enter Tryz.func37, Tryz.ntmps37
  go_wp2_with fail
  refine (HR.out _).mono ?_
  rintro e w1 ⟨rfl, hc⟩
  have HC := Lib.hid (((Chg.refl [] w).alloc (.cells #[.int .i64 r, .int .i64 n] 25)).trans hc)
  clear hc
  go_wp2_with fail
  go_ret
  exact ⟨rfl, HC.out⟩
theorem Down_nil (q : Pl2) (x : Bool) (w : World) :
    Calls Tryz.prog 37 #[.pointer none, plV q, .bool x] w fun e w' => e = .returned (.int .i64 1) ∧ Chg [] w w' := by
  obtain ⟨r, n⟩ := q
  go_enter Tryz.func37, Tryz.ntmps37
  go_wp2_with fail
  go_ret
  exact ⟨rfl, (Chg.refl [] w).alloc _⟩
set_option maxHeartbeats 4000000 in
theorem Down_any {w : World} {p b d : Nat} {S : SpS} (h : Sp w p b d S) (q : Pl2) (x : Bool) (hq : plOk q = true) :
    Calls Tryz.prog 37 #[.pointer (some ⟨p, 0, none⟩), plV q, .bool x] w fun e w' => e = .returned (.int .i64 0) ∧ Sp w' p b d (S.down q x) ∧ Chg [d] w w' := by
  have HR := Lib.hid (rightPlace_any q)
  rw [hq] at HR
  have HM := Lib.hid (And.intro (vpl_mem hq) (plOk_pw hq))
  have HS := Lib.hid h
  have hz0 := h.own.lt
  obtain ⟨W, HW⟩ : ∃ W, Hid (w.alloc (.cells #[.int .i64 q.1, .int .i64 q.2] 25) = W) := ⟨_, Lib.hid rfl⟩
  have hcW : Chg [] w W := by rw [← HW.out]; exact (Chg.refl [] w).alloc _
  have hoW : Own W w.heap.size 25 [.int .i64 q.1, .int .i64 q.2] := by rw [← HW.out]; exact Own.new w _ _
  have HCW := Lib.hid hcW
  have HOW := Lib.hid hoW
  have HUP : Hid (∀ w' : World, MapP w' d vpl (updF S.F q x) → Chg [d] w w' → Sp w' p b d (S.down q x)) := Lib.hid fun w' hm hc =>
    ⟨h.own.chg hc (by have := h.ne; simp; omega), h.tm.chg hc (by have := h.ne; simp; omega), hm, h.srt, h.len, h.enc, h.ne⟩
  clear h hq hcW hoW
  obtain ⟨r, n⟩ := q
  dsimp only at HW HR HM HOW
  go_enter Tryz.func37, Tryz.ntmps37
  go_upto_region 1 with fail
  rw [HW.out]
  have c0 := HOW.out.cell 0
  have c1 := HOW.out.cell 1
  have z0 := HOW.out.lt
  simp at c0 c1
  go_wp2_with fail
  refine (HR.out _).mono ?_
  rintro e w1 ⟨rfl, hc⟩
  have hS1 := (HS.out.kept (HCW.out.trans hc)).kept (Chg.refl [] w1).drew
  have hc1 := (HCW.out.trans hc).drew
  have HC1 := Lib.hid hc1
  have o1 : Own w1.drew w.heap.size 25 [.int .i64 r, .int .i64 n] := HOW.out.chg hc.drew (by simp)
  clear c0 c1 z0 hc hc1
  have c0 := o1.cell 0
  have c1 := o1.cell 1
  have z0 := o1.lt
  have m1 := hS1.own.cell 1
  have m2 := hS1.own.lt
  simp at c0 c1 m1 m2 z0
  have hmd := hS1.dn
  clear o1 hS1
  cases x with
  | true =>
    obtain ⟨w2, hput, hm2, hc2⟩ := hmd.put (t := 121) (e := 126) Tryz.underlying121 HM.out.1 vpl_len
    have HM2 := Lib.hid hm2
    have HC2 := Lib.hid ((HC1.out.mono (l' := [d]) (by simp)).trans hc2)
    clear hmd hm2 hc2
    go_wp2_with fail
    go_region
    go_wp2_with fail
    go_ret
    exact ⟨rfl, HUP.out _ HM2.out HC2.out, HC2.out⟩
  | false =>
    obtain ⟨w2, hput, hm2, hc2⟩ := hmd.del (t := 121) (e := 126) Tryz.underlying121 HM.out.2 0
    have HM2 := Lib.hid hm2
    have HC2 := Lib.hid ((HC1.out.mono (l' := [d]) (by simp)).trans hc2)
    clear hmd hm2 hc2
    go_wp2_with fail
    go_region
    go_wp2_with fail
    go_ret
    exact ⟨rfl, HUP.out _ HM2.out HC2.out, HC2.out⟩
theorem Lost_any {w : World} {p b d : Nat} {S : SpS} (h : Sp w p b d S) :
    Calls Tryz.prog 27 #[.pointer (some ⟨p, 0, none⟩)] w fun e w' => e = .returned (.int .i64 (S.lost : Int)) ∧ w = w' := by
  have c2 := h.own.cell 2
  have hz := h.own.lt
  simp at c2
  clear h
  go_enter Tryz.func27, Tryz.ntmps27
  go_wp2
  go_ret
  exact ⟨rfl, rfl⟩
theorem Lost_nil (w : World) : Calls Tryz.prog 27 #[.pointer none] w fun e w' => e = .returned (.int .i64 0) ∧ w = w' := by
  go_enter Tryz.func27, Tryz.ntmps27
  go_wp2
  go_ret
  exact ⟨rfl, rfl⟩
theorem Len_nil (w : World) : Calls Tryz.prog 26 #[.pointer none] w fun e w' => e = .returned (.int .i64 0) ∧ w = w' := by
  go_enter Tryz.func26, Tryz.ntmps26
  go_wp2
  go_ret
  exact ⟨rfl, rfl⟩
/-- nothing is there -/
def SpS.zero : SpS := ⟨[], fun _ => false, 0⟩
theorem New_any (w : World) :
    Calls Tryz.prog 21 #[] w fun e w' => ∃ p, e = .returned (.pointer (some ⟨p, 0, none⟩)) ∧ ∃ b d, Sp w' p b d SpS.zero ∧ Below w.heap.size w w' ∧ ∀ x ∈ [p, b, d], w.heap.size ≤ x := by
  go_enter Tryz.func21, Tryz.ntmps21
  have hmm := @run_makeMap Tryz.prog
  go_wp2
  go_ret
  refine ⟨_, rfl, w.heap.size, w.heap.size + 1, ⟨?_, ?_, ?_, List.Pairwise.nil, by simp [SpS.zero], (fun k hk => by cases hk), ⟨by omega, by omega, by omega⟩⟩, ?_, by intro x hx; simp only [List.mem_cons, List.not_mem_nil, or_false] at hx; omega⟩
  · have := Own.new ((w.alloc (.map #[] 0)).alloc (.map #[] 0)) 123 [.map (some w.heap.size), .map (some (w.heap.size + 1)), .int .i64 0]
    rw [World.size_alloc, World.size_alloc] at this
    exact this
  · have h1 := (MapS.made w []).congr (V' := cntV []) (fun a => by simp [cntV])
    have hc : Chg [] (w.alloc (.map #[] 0)) (((w.alloc (.map #[] 0)).alloc (.map #[] 0)).alloc (.cells #[.map (some w.heap.size), .map (some (w.heap.size + 1)), .int .i64 0] 123)) := ((Chg.refl [] _).alloc _).alloc _
    exact h1.chg hc (by simp)
  · have h1 := MapP.made (w.alloc (.map #[] 0)) vpl vpl_wf
    have hc : Chg [] ((w.alloc (.map #[] 0)).alloc (.map #[] 0)) (((w.alloc (.map #[] 0)).alloc (.map #[] 0)).alloc (.cells #[.map (some w.heap.size), .map (some (w.heap.size + 1)), .int .i64 0] 123)) := (Chg.refl [] _).alloc _
    have := h1.chg hc (by simp)
    rw [World.size_alloc] at this
    exact this
  · exact (((Below.refl w.heap.size w).alloc (Nat.le_refl _) _).alloc (by simp) _).alloc (by rw [World.size_alloc, World.size_alloc]; omega) _
end Go.Proofs.YteenlkmnadjnpaaGreat
namespace Go.Proofs.YteenlkmnadjnpaaGreat
open Go.RowKit Go.Deep
set_option linter.unusedVariables false
set_option linter.unusedSimpArgs false

/-- no row of int, or of uint64 -/
def Qui (w : World) (k : Nat) : Prop := ∀ cur, w.heap[k]? ≠ some (.cells cur 3 (0, 0)) ∧ w.heap[k]? ≠ some (.cells cur 26 (0, 0))
/-- all blocks stay, but for g, and rows of int and uint64 from base on -/
structure Fc (base g : Nat) (a w : World) : Prop where
  os : w.os = a.os
  tape : w.tape = a.tape
  output : w.output = a.output
  size : a.heap.size ≤ w.heap.size
  block : ∀ k, k < a.heap.size → k ≠ g → (k < base ∨ Qui a k) → w.heap[k]? = a.heap[k]?
theorem Fc.refl (base g : Nat) (w : World) : Fc base g w w := ⟨rfl, rfl, rfl, Nat.le_refl _, fun _ _ _ _ => rfl⟩
theorem Fc.trans {base g : Nat} {a b c : World} (h : Fc base g a b) (k : Fc base g b c) : Fc base g a c :=
  ⟨k.os.trans h.os, k.tape.trans h.tape, k.output.trans h.output, Nat.le_trans h.size k.size, fun i h1 h2 h3 => by
    have e := h.block i h1 h2 h3
    refine (k.block i (Nat.lt_of_lt_of_le h1 h.size) h2 ?_).trans e
    rcases h3 with h3 | h3
    · exact .inl h3
    · exact .inr (fun cur => by rw [e]; exact h3 cur)⟩
theorem Fc.of_chg {base g : Nat} {a b : World} {l : List Nat} (h : Chg l a b) (hl : ∀ x ∈ l, x = g ∨ (base ≤ x ∧ ¬ Qui a x)) : Fc base g a b :=
  ⟨h.os, h.tape, h.output, h.size, fun k h1 h2 h3 => h.block k h1 (fun hm => by
    rcases hl k hm with h4 | ⟨h4, h5⟩
    · exact h2 h4
    · rcases h3 with h3 | h3
      · omega
      · exact h5 h3)⟩
theorem Fc.below {base g B : Nat} {a b : World} (h : Fc base g a b) (hB : B ≤ a.heap.size) (hg : B ≤ g) (hb : B ≤ base) : Below B a b :=
  ⟨h.os, h.tape, h.output, h.size, fun k hk => h.block k (by omega) (by omega) (.inl (by omega))⟩
theorem Fc.of_below {base g : Nat} {a b : World} (h : Below a.heap.size a b) : Fc base g a b := ⟨h.os, h.tape, h.output, h.size, fun k hk _ _ => h.block k hk⟩
theorem Fc.alloc {base g : Nat} {a b : World} (h : Fc base g a b) (o : Obj) : Fc base g a (b.alloc o) := h.trans (.of_below ((Below.refl _ _).alloc (Nat.le_refl _) _))
theorem Own.quiT {w : World} {g : Nat} {t : TypeId} {cs : List Value} (h : Own w g t cs) (h1 : t ≠ 3) (h2 : t ≠ 26) : Qui w g := fun cur => by
  unfold Own at h
  rw [h]
  refine ⟨fun e => ?_, fun e => ?_⟩
  · injection e with e
    injection e with _ e _
    exact h1 e
  · injection e with e
    injection e with _ e _
    exact h2 e
theorem Own.fc {base g k : Nat} {a b : World} {t : TypeId} {cs : List Value} (h : Own a k t cs) (hc : Fc base g a b) (hk : k ≠ g) (h1 : t ≠ 3) (h2 : t ≠ 26) : Own b k t cs :=
  (hc.block k h.lt hk (.inr (h.quiT h1 h2))).trans h
theorem Own.fcl {base g k : Nat} {a b : World} {t : TypeId} {cs : List Value} (h : Own a k t cs) (hc : Fc base g a b) (hk : k ≠ g) (h1 : k < base) : Own b k t cs :=
  (hc.block k h.lt hk (.inl h1)).trans h
/-- a row whose block is no row of int or uint64, and not g -/
def RoQ (w : World) (g : Nat) (a : Option Addr) (vs : List Value) : Prop := vs = [] ∨ ∃ b off, a = some ⟨b, off, none⟩ ∧ b < w.heap.size ∧ b ≠ g ∧ Qui w b ∧ ∀ i, i < vs.length → w.cell? ⟨b, off + i, none⟩ = some (vs.getD i undef)
theorem RoQ.ro {w : World} {g : Nat} {a : Option Addr} {vs : List Value} (h : RoQ w g a vs) : Ro w w.heap.size a vs := by
  rcases h with h | ⟨b, off, h1, h2, _, _, h3⟩
  · exact .inl h
  · exact .inr ⟨b, off, h1, h2, h3⟩
theorem RoQ.fc {base g : Nat} {w w' : World} {a : Option Addr} {vs : List Value} (h : RoQ w g a vs) (hc : Fc base g w w') : RoQ w' g a vs := by
  rcases h with h | ⟨b, off, h1, h2, h3, h4, h5⟩
  · exact .inl h
  · have e := hc.block b h2 h3 (.inr h4)
    refine .inr ⟨b, off, h1, Nat.lt_of_lt_of_le h2 hc.size, h3, fun cur => by rw [e]; exact h4 cur, fun i hi => ?_⟩
    exact (World.cell?_of_block (w := w) (w' := w') (a := ⟨b, off + i, none⟩) e).trans (h5 i hi)
/-- a struct of two slices in block g, of type T: the widths and the numbers of F; the rows lie from base on -/
def Fst (w : World) (T : TypeId) (base g : Nat) (F : List (Nat × Nat)) : Prop :=
  ∃ v1 v2, Own w g T [v1, v2] ∧ Lst w base 3 v1 (i64s (fw F)) ∧ Lst w base 26 v2 (u64s (fv F))
theorem Fst.lt {w : World} {T : TypeId} {base g : Nat} {F : List (Nat × Nat)} (h : Fst w T base g F) : g < w.heap.size := by
  obtain ⟨v1, v2, h1, _⟩ := h
  exact h1.lt
theorem Fst.alloc {w : World} {T : TypeId} {base g : Nat} {F : List (Nat × Nat)} (h : Fst w T base g F) (o : Obj) : Fst (w.alloc o) T base g F := by
  obtain ⟨v1, v2, h1, h2, h3⟩ := h
  exact ⟨v1, v2, h1.alloc o, h2.alloc o, h3.alloc o⟩
theorem Fst.below {w w' : World} {T : TypeId} {base g : Nat} {F : List (Nat × Nat)} (h : Fst w T base g F) (hb : Below w.heap.size w w') : Fst w' T base g F := by
  obtain ⟨v1, v2, h1, h2, h3⟩ := h
  exact ⟨v1, v2, h1.below hb h1.lt, h2.below hb (Nat.le_refl _), h3.below hb (Nat.le_refl _)⟩
theorem Fst.new (w : World) (T : TypeId) (base : Nat) : Fst (w.alloc (.cells #[.slice none 0 0, .slice none 0 0] T)) T base w.heap.size [] :=
  ⟨_, _, Own.new w T _, Lst.nil _ _ _, Lst.nil _ _ _⟩
/-- rows of other element types are other blocks -/
theorem Lst.otherT {w : World} {base base' : Nat} {e e' : TypeId} {v v' : Value} {xs xs' : List Value} (h : Lst w base e v xs) (h' : Lst w base' e' v' xs') (hne : e ≠ e') : ∀ x ∈ rowOf v', ∀ cur, w.heap[x]? ≠ some (.cells cur e (0, 0)) := by
  intro x hx cur he
  obtain ⟨_, cur', h2⟩ := h'.row x hx
  rw [he] at h2
  injection h2 with h2
  injection h2 with _ h2 _
  exact hne h2
theorem Lst.ownT {w : World} {base : Nat} {e T : TypeId} {v : Value} {xs cs : List Value} {g : Nat} (h : Lst w base e v xs) (h' : Own w g T cs) (hne : e ≠ T) : g ∉ rowOf v := by
  intro hx
  obtain ⟨_, cur, h2⟩ := h.row g hx
  unfold Own at h'
  rw [h'] at h2
  injection h2 with h2
  injection h2 with _ h2 _
  exact hne h2.symm
theorem Own.notT' {w : World} {g : Nat} {t t' : TypeId} {cs : List Value} (h : Own w g t cs) (ht : t' ≠ t) : ∀ x ∈ [g], ∀ cur, w.heap[x]? ≠ some (.cells cur t' (0, 0)) := by
  intro x hx cur he
  simp only [List.mem_singleton] at hx
  subst hx
  unfold Own at h
  rw [he] at h
  injection h with h
  injection h with _ h _
  exact ht h
/-- an append to a row of int, or of uint64, from base on -/
theorem Fc.row {base g : Nat} {w w' : World} {e : TypeId} {v : Value} {xs : List Value} (h : Lst w base e v xs) (hc : Chg (rowOf v) w w') (he : e = 3 ∨ e = 26) : Fc base g w w' :=
  .of_chg hc fun x hx => .inr (by
    obtain ⟨h1, cur, h2⟩ := h.row x hx
    refine ⟨h1, fun hq => ?_⟩
    rcases he with rfl | rfl
    · exact (hq cur).1 h2
    · exact (hq cur).2 h2)
theorem Fc.set {base g : Nat} (w : World) (i : Nat) (v : Value) : Fc base g w (w.setCell ⟨g, i, none⟩ v) :=
  .of_chg ((Chg.refl [g] w).setCell (by simp) v) fun x hx => .inl (by simpa using hx)
/-- behind an append to the widths, and their store -/
theorem Fst.step1 {w w1 : World} {T : TypeId} {base g : Nat} {v1 v2 v1' : Value} {A A' B : List Value} (h1 : Own w g T [v1, v2]) (h2 : Lst w base 3 v1 A) (h3 : Lst w base 26 v2 B) (hT : T ≠ 3) (hT2 : T ≠ 26) (hl : Lst w1 base 3 v1' A') (hc : Chg (rowOf v1) w w1) :
    Own w1 g T [v1, v2] ∧ Own (w1.setCell ⟨g, 0, none⟩ v1') g T [v1', v2] ∧ Lst (w1.setCell ⟨g, 0, none⟩ v1') base 3 v1' A' ∧ Lst (w1.setCell ⟨g, 0, none⟩ v1') base 26 v2 B ∧ Fc base g w (w1.setCell ⟨g, 0, none⟩ v1') := by
  have g1 := h1.chg hc (h2.ownT h1 hT.symm)
  have g3 := h3.chg hc (h3.otherT h2 (by decide))
  have s1 : Chg [g] w1 (w1.setCell ⟨g, 0, none⟩ v1') := (Chg.refl [g] w1).setCell (by simp) _
  exact ⟨g1, g1.set 0 v1', hl.chg s1 (g1.notT' hT.symm), g3.chg s1 (g1.notT' hT2.symm), (Fc.row h2 hc (.inl rfl)).trans (Fc.set w1 0 v1')⟩
theorem Fst.step2 {w w1 : World} {T : TypeId} {base g : Nat} {v1 v2 v2' : Value} {A B' B : List Value} (h1 : Own w g T [v1, v2]) (h2 : Lst w base 3 v1 A) (h3 : Lst w base 26 v2 B) (hT : T ≠ 3) (hT2 : T ≠ 26) (hl : Lst w1 base 26 v2' B') (hc : Chg (rowOf v2) w w1) :
    Own w1 g T [v1, v2] ∧ Own (w1.setCell ⟨g, 1, none⟩ v2') g T [v1, v2'] ∧ Lst (w1.setCell ⟨g, 1, none⟩ v2') base 3 v1 A ∧ Lst (w1.setCell ⟨g, 1, none⟩ v2') base 26 v2' B' ∧ Fc base g w (w1.setCell ⟨g, 1, none⟩ v2') := by
  have g1 := h1.chg hc (h3.ownT h1 hT2.symm)
  have g3 := h2.chg hc (h2.otherT h3 (by decide))
  have s1 : Chg [g] w1 (w1.setCell ⟨g, 1, none⟩ v2') := (Chg.refl [g] w1).setCell (by simp) _
  exact ⟨g1, g1.set 1 v2', g3.chg s1 (g1.notT' hT.symm), hl.chg s1 (g1.notT' hT2.symm), (Fc.row h3 hc (.inr rfl)).trans (Fc.set w1 1 v2')⟩
end Go.Proofs.YteenlkmnadjnpaaGreat
namespace Go.Proofs.YteenlkmnadjnpaaGreat
open Go.RowKit Go.Deep
set_option linter.unusedVariables false
set_option linter.unusedSimpArgs false

theorem getN_any (bs : List UInt8) (n : Nat) (a : Option Addr) (c B k m : Nat) (w : World) (hn : bs.length = n) (h : Ro w B a (u8s bs)) (hB : B ≤ w.heap.size) (hl : n ≤ 1000000) (hk : k ≤ 100000000) (hm : m ≤ 64) :
    Calls Tryz.prog 116 #[.slice a n c, .int .i64 (k : Int), .int .i64 (m : Int)] w fun e w' => ∃ ok, e = .returned (.tuple #[.int .u64 (tkN bs k m : Nat), .bool ok]) ∧ Below w.heap.size w w' := by
  subst hn
  by_cases hle : k + m ≤ 8 * bs.length
  · refine (get_yes bs a c B k m w h hB hl (by omega) (by omega) (by omega) (by omega)).mono ?_
    rintro e w' ⟨rfl, hb⟩
    exact ⟨true, by simp [tkN, hle], hb⟩
  · refine (get_no a bs.length c k m w hl (by omega) (by omega) (by omega)).mono ?_
    rintro e w' ⟨rfl, hb⟩
    exact ⟨false, by simp [tkN, hle], hb⟩

/-- bytes that are read from the k-th bit on: a struct in block s, of type T -/
def Src (w : World) (T : TypeId) (B s : Nat) (bs : List UInt8) (k : Nat) : Prop :=
  (∃ a c, Own w s T [.slice a bs.length c, .int .i64 (k : Int)] ∧ Ro w B a (u8s bs)) ∧ B ≤ s ∧ bs.length ≤ 1000000
theorem Src.lt {w : World} {T : TypeId} {B s : Nat} {bs : List UInt8} {k : Nat} (h : Src w T B s bs k) : s < w.heap.size := by
  obtain ⟨⟨a, c, h1, _⟩, _⟩ := h
  exact h1.lt
theorem Src.chg {w w' : World} {T : TypeId} {B s : Nat} {bs : List UInt8} {k : Nat} {l : List Nat} (h : Src w T B s bs k) (hc : Chg l w w') (hs : s ∉ l) (hl : ∀ x ∈ l, B ≤ x) : Src w' T B s bs k := by
  obtain ⟨⟨a, c, h1, h2⟩, h3, h4⟩ := h
  exact ⟨⟨a, c, h1.chg hc hs, h2.below (hc.below (Nat.le_trans h3 (Nat.le_of_lt h1.lt)) hl) (Nat.le_refl _)⟩, h3, h4⟩
theorem Src.new0 {w w' : World} {T : TypeId} {B s : Nat} {bs : List UInt8} {k : Nat} (h : Src w T B s bs k) (hc : Chg [] w w') : Src w' T B s bs k := h.chg hc (by simp) (by simp)
theorem Src.notT {w : World} {T t : TypeId} {B s : Nat} {bs : List UInt8} {k : Nat} (h : Src w T B s bs k) (ht : t ≠ T) : ∀ x ∈ [s], ∀ cur, w.heap[x]? ≠ some (.cells cur t (0, 0)) := by
  obtain ⟨⟨a, c, h1, h2⟩, h3, h4⟩ := h
  exact h1.notT' ht

set_option maxHeartbeats 1000000 in
theorem ltake_any (bs : List UInt8) (B s k m : Nat) (w : World) (h : Src w 184 B s bs k) (hk : k ≤ 1000000) (hm : m ≤ 64) :
    Calls Tryz.prog 170 #[.pointer (some ⟨s, 0, none⟩), .int .i64 (m : Int)] w fun e w' => e = .returned (.int .u64 (tkN bs k m : Nat)) ∧ Src w' 184 B s bs (k + m) ∧ Chg [s] w w' := by
  obtain ⟨⟨a, c, h1, h2⟩, h3, h4⟩ := h
  have HG : Hid (∀ W, Below w.heap.size w W → Calls Tryz.prog 116 #[.slice a bs.length c, .int .i64 (k : Int), .int .i64 (m : Int)] W fun e w' => ∃ ok, e = .returned (.tuple #[.int .u64 (tkN bs k m : Nat), .bool ok]) ∧ Below W.heap.size W w') := Lib.hid fun W hW =>
    getN_any bs bs.length a c B k m W rfl (h2.below hW (by have := h1.lt; omega)) (by have := h1.lt; have := hW.size; omega) h4 (by omega) hm
  obtain ⟨v, hv⟩ : ∃ v, tkN bs k m = v := ⟨_, rfl⟩
  rw [hv] at HG ⊢
  have c0 := h1.cell 0
  have c1 := h1.cell 1
  have hz := h1.lt
  simp at c0 c1
  have HO := Lib.hid h1
  have HR := Lib.hid (And.intro h2 (And.intro h3 h4))
  obtain ⟨n, hn⟩ : ∃ n, bs.length = n := ⟨_, rfl⟩
  rw [hn] at HO HG c0
  have HN := Lib.hid hn
  have e1 : wrap64 ((k : Int) + (m : Int)) = ((k + m : Nat) : Int) := by unfold wrap64; omega
  have HSS : Hid (Below w.heap.size w w.drew ∧ w.drew.cell? ⟨s, 0, none⟩ = some (.slice a n c) ∧ w.drew.cell? ⟨s, 1, none⟩ = some (.int .i64 (k : Int))) := Lib.hid ⟨(Below.refl _ _).drew, c0, c1⟩
  have HZ := Lib.hid hz
  clear h1 h2 h3 h4 hn hv
  go_enter Tryz.func170, Tryz.ntmps170
  go_wp2_with fail
  clear c0 c1 hz
  refine wp_region_held_drew (S := (fun W => Below w.heap.size w W ∧ W.cell? ⟨s, 0, none⟩ = some (.slice a n c) ∧ W.cell? ⟨s, 1, none⟩ = some (.int .i64 (k : Int)))) (by kernel_rfl) HSS.out (fun hHeld => ?_)
  refine wpAnyH_take (i := 0) (v := ?_) rfl (by kernel_rfl) (by kernel_rfl) (by kernel_rfl) (fun _ _ _ h => h) (Or.inl ⟨by kernel_rfl, ?_⟩) hHeld ?_
  rotate_left
  · (intro w hSw; first | (go_simp; done) | (go_simp; with_reducible rfl))
  (try simp only [Act.put, List.getElem_toArray, List.getElem_cons_succ, List.getElem_cons_zero, List.setIfInBounds_toArray, List.set_cons_zero, List.set_cons_succ])
  refine wpAnyH_take (i := 1) (v := ?_) rfl (by kernel_rfl) (by kernel_rfl) (by kernel_rfl) (fun _ _ _ h => h) (Or.inl ⟨by kernel_rfl, ?_⟩) hHeld ?_
  rotate_left
  · (intro w hSw; first | (go_simp; done) | (go_simp; with_reducible rfl))
  (try simp only [Act.put, List.getElem_toArray, List.getElem_cons_succ, List.getElem_cons_zero, List.setIfInBounds_toArray, List.set_cons_zero, List.set_cons_succ])
  refine wpAnyH_take (i := 2) (v := ?_) rfl (by kernel_rfl) (by kernel_rfl) (by kernel_rfl) (fun _ _ _ h => h) (Or.inl ⟨by kernel_rfl, ?_⟩) hHeld ?_
  rotate_left
  · (intro w hSw; first | (go_simp; done) | (go_simp; with_reducible rfl))
  (try simp only [Act.put, List.getElem_toArray, List.getElem_cons_succ, List.getElem_cons_zero, List.setIfInBounds_toArray, List.set_cons_zero, List.set_cons_succ])
  refine wpAnyH_take (i := 3) (v := ?_) rfl (by kernel_rfl) (by kernel_rfl) (by kernel_rfl) (fun _ _ _ h => h) (Or.inl ⟨by kernel_rfl, ?_⟩) hHeld ?_
  rotate_left
  · (intro w hSw; first | (go_simp; done) | (go_simp; with_reducible rfl))
  (try simp only [Act.put, List.getElem_toArray, List.getElem_cons_succ, List.getElem_cons_zero, List.setIfInBounds_toArray, List.set_cons_zero, List.set_cons_succ])
  refine wpAnyH_take (i := 4) (v := ?_) rfl (by kernel_rfl) (by kernel_rfl) (by kernel_rfl) (fun _ _ _ h => h) (Or.inl ⟨by kernel_rfl, ?_⟩) hHeld ?_
  rotate_left
  · (intro w hSw; first | (go_simp; done) | (go_simp; with_reducible rfl))
  (try simp only [Act.put, List.getElem_toArray, List.getElem_cons_succ, List.getElem_cons_zero, List.setIfInBounds_toArray, List.set_cons_zero, List.set_cons_succ])
  refine wpAnyH_take (i := 5) (v := ?_) rfl (by kernel_rfl) (by kernel_rfl) (by kernel_rfl) (fun _ _ _ h => h) (Or.inl ⟨by kernel_rfl, ?_⟩) hHeld ?_
  rotate_left
  · (intro w hSw; first | (go_simp; done) | (go_simp; with_reducible rfl))
  (try simp only [Act.put, List.getElem_toArray, List.getElem_cons_succ, List.getElem_cons_zero, List.setIfInBounds_toArray, List.set_cons_zero, List.set_cons_succ])
  refine wpAnyH_take (i := 6) (v := ?_) rfl (by kernel_rfl) (by kernel_rfl) (by kernel_rfl) (fun _ _ _ h => h) (Or.inl ⟨by kernel_rfl, ?_⟩) hHeld ?_
  rotate_left
  · (intro w hSw; first | (go_simp; done) | (go_simp; with_reducible rfl))
  (try simp only [Act.put, List.getElem_toArray, List.getElem_cons_succ, List.getElem_cons_zero, List.setIfInBounds_toArray, List.set_cons_zero, List.set_cons_succ])
  refine wpAnyH_take (i := 7) (v := ?_) rfl (by kernel_rfl) (by kernel_rfl) (by kernel_rfl) (fun _ _ _ h => h) (Or.inl ⟨by kernel_rfl, ?_⟩) hHeld ?_
  rotate_left
  · (intro w hSw; first | (go_simp; done) | (go_simp; with_reducible rfl))
  (try simp only [Act.put, List.getElem_toArray, List.getElem_cons_succ, List.getElem_cons_zero, List.setIfInBounds_toArray, List.set_cons_zero, List.set_cons_succ])
  refine wpAnyH_take (i := 8) (v := ?_) rfl (by kernel_rfl) (by kernel_rfl) (by kernel_rfl) (fun _ _ _ h => h) (Or.inl ⟨by kernel_rfl, ?_⟩) hHeld ?_
  rotate_left
  · (intro w hSw; first | (go_simp; done) | (go_simp; with_reducible rfl))
  (try simp only [Act.put, List.getElem_toArray, List.getElem_cons_succ, List.getElem_cons_zero, List.setIfInBounds_toArray, List.set_cons_zero, List.set_cons_succ])
  refine wpAnyH_ready (rs := [9]) (by kernel_rfl) (by simp) (AllReadyH.cons rfl (fun K hK => ?_) AllReadyH.nil)
  have hH := hHeld
  (go_simp; go_at_call 116; refine (HG.out _ hH.1).mono ?_; rintro e w6 ⟨ok, rfl, hb6⟩)
  refine hK.out _ _ (by exact ⟨hH.1.trans (hb6.mono hH.1.size), cell_keep hb6 hH.2.1 (World.block_lt_of_cell? _ _ hH.2.1), cell_keep hb6 hH.2.2 (World.block_lt_of_cell? _ _ hH.2.2)⟩) (fun hHq1 => ?_)
  clear hK K hH 
  (try simp only [Act.put, List.getElem_toArray, List.getElem_cons_succ, List.getElem_cons_zero, List.setIfInBounds_toArray, List.set_cons_zero, List.set_cons_succ])
  refine wpAnyH_take (i := 10) (v := ?_) rfl (by kernel_rfl) (by kernel_rfl) (by kernel_rfl) (fun _ _ _ h => h) (Or.inl ⟨by kernel_rfl, ?_⟩) hHq1 ?_
  rotate_left
  · (intro w hSw; first | (go_simp; done) | (go_simp; with_reducible rfl))
  (try simp only [Act.put, List.getElem_toArray, List.getElem_cons_succ, List.getElem_cons_zero, List.setIfInBounds_toArray, List.set_cons_zero, List.set_cons_succ])
  refine wpAnyH_take (i := 11) (v := ?_) rfl (by kernel_rfl) (by kernel_rfl) (by kernel_rfl) (fun _ _ _ h => h) (Or.inl ⟨by kernel_rfl, ?_⟩) hHq1 ?_
  rotate_left
  · (intro w hSw; first | (go_simp; done) | (go_simp; with_reducible rfl))
  (try simp only [Act.put, List.getElem_toArray, List.getElem_cons_succ, List.getElem_cons_zero, List.setIfInBounds_toArray, List.set_cons_zero, List.set_cons_succ])
  refine wpAnyH_take (i := 12) (v := ?_) rfl (by kernel_rfl) (by kernel_rfl) (by kernel_rfl) (fun _ _ _ h => h) (Or.inl ⟨by kernel_rfl, ?_⟩) hHq1 ?_
  rotate_left
  · (intro w hSw; first | (go_simp; done) | (go_simp; with_reducible rfl))
  (try simp only [Act.put, List.getElem_toArray, List.getElem_cons_succ, List.getElem_cons_zero, List.setIfInBounds_toArray, List.set_cons_zero, List.set_cons_succ])
  refine wpAnyH_take (i := 13) (v := ?_) rfl (by kernel_rfl) (by kernel_rfl) (by kernel_rfl) (fun _ _ _ h => h) (Or.inl ⟨by kernel_rfl, ?_⟩) hHq1 ?_
  rotate_left
  · (intro w hSw; first | (go_simp; done) | (go_simp; with_reducible rfl))
  (try simp only [Act.put, List.getElem_toArray, List.getElem_cons_succ, List.getElem_cons_zero, List.setIfInBounds_toArray, List.set_cons_zero, List.set_cons_succ])
  refine wpAnyH_take (i := 14) (v := ?_) rfl (by kernel_rfl) (by kernel_rfl) (by kernel_rfl) (fun _ _ _ h => h) (Or.inl ⟨by kernel_rfl, ?_⟩) hHq1 ?_
  rotate_left
  · (intro w hSw; first | (go_simp; done) | (go_simp; with_reducible rfl))
  (try simp only [Act.put, List.getElem_toArray, List.getElem_cons_succ, List.getElem_cons_zero, List.setIfInBounds_toArray, List.set_cons_zero, List.set_cons_succ])
  refine wpAnyH_done (by kernel_rfl) ?_ _
  have hEnd := hHq1
  have hb := hEnd.1
  have HB := Lib.hid hb
  have HO2 := Lib.hid (HO.out.below hb HZ.out)
  have q1 := HO2.out.cell 1
  have f1 := HO2.out.frozen 1
  have hz2 := HO2.out.lt
  simp at q1
  clear hHeld hEnd hb hb6
  go_wp2_with fail
  go_ret
  refine ⟨rfl, ⟨⟨a, c, ?_, (HR.out.1.below HB.out (by have := HZ.out; have := HR.out.2.1; omega)).below ((Below.refl B _).setCell (by exact HR.out.2.1) _) (Nat.le_refl _)⟩, HR.out.2.1, HR.out.2.2⟩, ?_⟩
  · rw [HN.out]
    exact HO2.out.set 1 _
  · exact ((Chg.refl [s] w).of_below HB.out).setCell (by simp) _

theorem tkN_64 (bs : List UInt8) (k m : Nat) (hm : m ≤ 64) : tkN bs k m < 18446744073709551616 := by
  have h1 := tkN_lt bs k m
  have h2 := pow_le_64 hm
  omega
set_option maxHeartbeats 1000000 in
theorem ltakeC_any (bs : List UInt8) (B s k : Nat) (w : World) (h : Src w 184 B s bs k) (hk : k ≤ 1000000) :
    Calls Tryz.prog 171 #[.pointer (some ⟨s, 0, none⟩)] w fun e w' => e = .returned (.int .u64 (tkN bs k 2 + 1 : Nat)) ∧ Src w' 184 B s bs (k + 2) ∧ Chg [s] w w' := by
  have HT := Lib.hid (ltake_any bs B s k 2 w h hk (by omega))
  have h4 := tkN_lt bs k 2
  generalize tkN bs k 2 = v at *
  have e1 : IntKind.u64.wrap ((v : Int) + 1) = ((v + 1 : Nat) : Int) := wrap_u64_nat (v + 1) (by omega)
  clear h
  go_enter Tryz.func171, Tryz.ntmps171
  go_wp2_with fail
  refine HT.out.mono ?_
  rintro e w1 ⟨rfl, h1, h2⟩
  have H1 := Lib.hid h1
  have H2 := Lib.hid h2
  clear h1 h2
  go_wp2_with fail
  go_ret
  exact ⟨ret_int (by omega), H1.out, H2.out⟩
theorem rep_at {α : Type} {p : Nat → α × Nat} {d : Nat} (h : ∀ k, (p k).2 ≤ k + d) : ∀ n k, (rep p n k).2 ≤ k + n * d
  | 0, k => by simp [rep]
  | n + 1, k => by
    have ih := rep_at h n k
    have := h (rep p n k).2
    rw [rep, Nat.succ_mul]
    simp only
    omega
theorem pCh_at (bs : List UInt8) (k : Nat) : (pCh bs k).2 ≤ k + 22 ∧ (pCh bs k).1.length ≤ 4 := by
  have h1 := rep_at (p := pU bs) (d := 5) (fun k => Nat.le_refl _) (tkN bs k 2 + 1) (k + 2)
  have h2 := tkN_lt bs k 2
  unfold pCh
  rw [rep_length]
  omega
theorem pU_at (bs : List UInt8) (n k : Nat) : (rep (pU bs) n k).2 = k + 5 * n := by
  induction n with
  | zero => rfl
  | succ n ih => simp only [rep, ih, pU]; omega
set_option maxHeartbeats 1000000 in
theorem lpch_any (bs : List UInt8) (B s k : Nat) (w : World) (h : Src w 184 B s bs k) (hk : k ≤ 900000) :
    Calls Tryz.prog 190 #[.pointer (some ⟨s, 0, none⟩)] w fun e w' => ∃ a c, e = .returned (.slice a (pCh bs k).1.length c) ∧ Lst w' w.heap.size 3 (.slice a (pCh bs k).1.length c) (i64s (pCh bs k).1) ∧ Src w' 184 B s bs (pCh bs k).2 ∧ Chg [s] w w' := by
  have HT := Lib.hid (ltakeC_any bs B s k w h (by omega))
  have HZ := Lib.hid h.lt
  obtain ⟨n, hn⟩ : ∃ n, tkN bs k 2 + 1 = n := ⟨_, rfl⟩
  have hn4 : n ≤ 4 := by have := tkN_lt bs k 2; omega
  have HP : Hid (pCh bs k = rep (pU bs) n (k + 2)) := Lib.hid (by unfold pCh; rw [hn])
  rw [hn] at HT
  have hn4' : (n : Int) ≤ 4 := by omega
  have HK := Lib.hid hk
  clear h hn hk
  go_enter Tryz.func190, Tryz.ntmps190
  go_wp2_with fail
  refine HT.out.mono ?_
  rintro e w1 ⟨rfl, h1, h2⟩
  have H1 : Hid (Src w1 184 B s bs (rep (pU bs) 0 (k + 2)).2) := Lib.hid h1
  have H2 := Lib.hid h2
  clear h1 h2
  go_wp2_with fail
  go_loopw [3, 6] (fun v i wr => ∃ (j : Nat) (al : Option Addr) (cl : Nat), j ≤ n ∧ i = .int .u64 (j : Int) ∧ v = .slice al j cl ∧ Hid (Lst wr w.heap.size 3 (.slice al j cl) (i64s (rep (pU bs) j (k + 2)).1)) ∧ Hid (Src wr 184 B s bs (rep (pU bs) j (k + 2)).2) ∧ Hid (Chg [s] w wr)) (fun _ i _ => n - (intOf i).toNat)
  case atStart => exact ⟨0, none, 0, Nat.zero_le _, rfl, rfl, Lib.hid (Lst.nil _ _ _), H1, H2⟩
  case round =>
    obtain ⟨j, al, cl, hj, rfl, rfl, HL, HX, HC⟩ := hrel
    rename World => w6
    by_cases hlt : j < n
    · have hj0 : (0 : Int) ≤ (j : Int) := by omega
      have hj1 : (j : Int) < (n : Int) := by omega
      have HR : Hid (rep (pU bs) (j + 1) (k + 2) = ((rep (pU bs) j (k + 2)).1 ++ [(pU bs (rep (pU bs) j (k + 2)).2).1], (pU bs (rep (pU bs) j (k + 2)).2).2)) := Lib.hid rfl
      have HLn : Hid ((i64s (rep (pU bs) j (k + 2)).1).length ≤ 4) := Lib.hid (by simp [i64s, rep_length]; omega)
      have HQ := pU_at bs j (k + 2)
      generalize rep (pU bs) j (k + 2) = r at *
      obtain ⟨xs, q⟩ := r
      simp only [pU] at HR HL HX HLn HQ
      have HTK := Lib.hid (ltake_any bs B s q 5 w6 HX.out (by have := HK.out; omega) (by omega))
      have hv := tkN_lt bs q 5
      generalize tkN bs q 5 = v at *
      have e2 : IntKind.i64.wrap (v : Int) = (v : Int) := by rw [IntKind.wrap_i64]; omega
      clear HQ
      go_wp2_with fail
      refine HTK.out.mono ?_
      rintro e w7 ⟨rfl, h1, h2⟩
      have H1 := Lib.hid h1
      have HC7 := Lib.hid (HC.out.trans h2)
      have HL7 := Lib.hid (HL.out.chg h2 (HX.out.notT (by decide)))
      clear h1 h2
      go_wp2_with (at_builtin; refine wpList_app1g rfl (.tmp 8) (.tmp 12) 33 rfl w.heap.size 3 (.int .i64 0) 8 Tryz.underlying33 Tryz.info_i64 rfl (.int .i64 (v : Int)) rfl (.slice al j cl) (i64s xs) rfl HL7.out rfl (by have := HLn.out; omega) (by have := HLn.out; omega) HC7.out.size ?_)
      intro v' w8 hl8 hc8
      have hrow := fun x (hx : x ∈ rowOf (.slice al j cl)) => (HL7.out.row x hx).1
      have hns : s ∉ rowOf (.slice al j cl) := fun hx => by have := hrow s hx; have := HZ.out; omega
      have HX8 := Lib.hid (H1.out.chg hc8 hns (fun x hx => by have := hrow x hx; have := H1.out.2.1; have := HZ.out; omega))
      have HC8 : Hid (Chg [s] w w8) := Lib.hid (HC7.out.then hc8 (fun x hx => .inr (hrow x hx)))
      have HL8 : Hid (Lst w8 w.heap.size 3 v' (i64s (xs ++ [(v : Int)]))) := Lib.hid (by have := hl8.out; simpa [i64s] using this)
      have HLen : Hid ((i64s (xs ++ [(v : Int)])).length = j + 1) := Lib.hid (by
        obtain ⟨a', c', he, _⟩ := HL7.out.form
        injection he with _ h2 _
        simp [i64s] at h2 ⊢
        omega)
      clear hrow hns hl8 hc8
      obtain ⟨a8, c8, hv8, _, _, _⟩ := HL8.out.form
      rw [HLen.out] at hv8
      subst hv8
      go_wp2_with fail
      go_roundw
      case rel => exact ⟨j + 1, a8, c8, by omega, by go_num, rfl, by rw [HR.out]; exact HL8, by rw [HR.out]; exact HX8, HC8⟩
      case measure => simp [intOf]; omega
    · obtain rfl : j = n := by omega
      go_wp2_with fail
      go_ret
      rw [HP.out]
      have e : (rep (pU bs) j (k + 2)).1.length = j := rep_length _ _ _
      rw [e]
      exact ⟨al, cl, rfl, HL.out, HX.out, HC.out⟩
end Go.Proofs.YteenlkmnadjnpaaGreat
namespace Go.Proofs.YteenlkmnadjnpaaGreat
open Go.RowKit Go.Deep Go.Shelf
set_option linter.unusedVariables false
set_option linter.unusedSimpArgs false

/-- the last one below n whose From is at most a, or 0 -/
def lastLe (L : List Sg) (a : Nat) : Nat → Nat
  | 0 => 0
  | n + 1 => if (sx L n).1 ≤ a then n else lastLe L a n
def segN (x : Ly) (a : Nat) : Nat := lastLe x.s a x.s.length
def segI (x : Ly) (a : Nat) : Int := if lright x = true ∧ a < 1048576 then (segN x a : Int) else -1
theorem lastLe_lt (L : List Sg) (a n : Nat) (h : 0 < n) : lastLe L a n < n := by
  induction n with
  | zero => omega
  | succ n ih =>
    simp only [lastLe]
    split
    · omega
    · rcases Nat.eq_zero_or_pos n with rfl | h0
      · simp [lastLe]
      · have := ih h0; omega
theorem lastLe_is (L : List Sg) (a n : Nat) (hn : 0 < n) (h0 : (sx L 0).1 ≤ a) : (sx L (lastLe L a n)).1 ≤ a ∧ ∀ j, lastLe L a n < j → j < n → a < (sx L j).1 := by
  induction n with
  | zero => omega
  | succ n ih =>
    simp only [lastLe]
    split
    · exact ⟨by assumption, by omega⟩
    · rename_i hc
      rcases Nat.eq_zero_or_pos n with rfl | hp
      · exact absurd h0 hc
      · obtain ⟨g1, g2⟩ := ih hp
        refine ⟨g1, fun j h1 h2 => ?_⟩
        by_cases e : j = n
        · subst e; omega
        · exact g2 j h1 (by omega)
theorem sg_mono {L : List Sg} (h : sgOk L = true) {i j : Nat} (hij : i < j) (hj : j < L.length) : (sx L i).1 < (sx L j).1 := by
  have hs := (sgOk_iff.1 h).2.2.2
  induction j with
  | zero => omega
  | succ j ih =>
    have := hs j hj
    by_cases e : i = j
    · subst e; exact this
    · have := ih (by omega) (by omega); omega
/-- the index is the only one of its kind -/
theorem segN_eq {x : Ly} (h : lright x = true) {a i : Nat} (hi : i < x.s.length) (h1 : (sx x.s i).1 ≤ a) (h2 : ∀ j, i < j → j < x.s.length → a < (sx x.s j).1) : segN x a = i := by
  have hs := (lright_iff.1 h).2.2
  have h0 := (sgOk_iff.1 hs).2.1
  obtain ⟨g1, g2⟩ := lastLe_is x.s a x.s.length (by omega) (by omega)
  have hlt := lastLe_lt x.s a x.s.length (by omega)
  unfold segN
  rcases Nat.lt_trichotomy (lastLe x.s a x.s.length) i with hc | hc | hc
  · have := g2 i hc hi; omega
  · exact hc
  · have := h2 _ hc hlt; omega
theorem segN_is {x : Ly} (h : lright x = true) (a : Nat) : segN x a < x.s.length ∧ (sx x.s (segN x a)).1 ≤ a ∧ ∀ j, segN x a < j → j < x.s.length → a < (sx x.s j).1 := by
  have hs := (lright_iff.1 h).2.2
  have h0 := sgOk_iff.1 hs
  obtain ⟨g1, g2⟩ := lastLe_is x.s a x.s.length (by omega) (by omega)
  exact ⟨lastLe_lt _ _ _ (by omega), g1, g2⟩

end Go.Proofs.YteenlkmnadjnpaaGreat
namespace Go.Proofs.YteenlkmnadjnpaaGreat
open Go.RowKit Go.Deep
set_option linter.unusedVariables false
set_option linter.unusedSimpArgs false

/-- a slice of segments of the call's own -/
def Sl (w : World) (base : Nat) (v : Value) (L : List SgT) : Prop := w.ownsRow base 135 2 v L.length (sgv L)
theorem Sl.nil (w : World) (base : Nat) : Sl w base (.slice none 0 0) [] := World.ownsRow_nil w base _ 2
theorem Sl.alloc {w : World} {base : Nat} {v : Value} {L : List SgT} (h : Sl w base v L) (o : Obj) : Sl (w.alloc o) base v L := World.ownsRow.alloc h o
theorem Sl.lt {w : World} {base : Nat} {v : Value} {L : List SgT} (h : Sl w base v L) : ∀ k, v.ownBlock = some k → base ≤ k ∧ k < w.heap.size := World.ownsRow.lt h
theorem Sl.chg {w w' : World} {base : Nat} {v : Value} {L : List SgT} {l : List Nat} (h : Sl w base v L) (hc : Chg l w w') (hl : ∀ x ∈ l, ∀ cur, w.heap[x]? ≠ some (.cells cur 135 (0, 0))) : Sl w' base v L := by
  refine ⟨h.1, ?_⟩
  rcases h.2 with h1 | ⟨g, cap, cur, h1, h2, h3, h4⟩
  · exact .inl h1
  · exact .inr ⟨g, cap, cur, h1, h2, (hc.block g (Array.getElem?_eq_some_iff.1 h3).1 (fun hm => hl g hm cur h3)).trans h3, h4⟩
theorem Sl.below {w w' : World} {base : Nat} {v : Value} {L : List SgT} (h : Sl w base v L) (hb : Below w.heap.size w w') : Sl w' base v L := h.chg ((Chg.refl [] w).of_below hb) (by simp)
theorem Sl.base {w : World} {base base' : Nat} {v : Value} {L : List SgT} (h : Sl w base v L) (hb : base' ≤ base) : Sl w base' v L := by
  refine ⟨h.1, ?_⟩
  rcases h.2 with h1 | ⟨g, cap, cur, h1, h2, h3⟩
  · exact .inl h1
  · exact .inr ⟨g, cap, cur, h1, by omega, h3⟩
theorem Sl.form {w : World} {base : Nat} {v : Value} {L : List SgT} (h : Sl w base v L) : ∃ a c, v = .slice a L.length c ∧ Ro w w.heap.size a (sgv L) ∧ L.length ≤ c := by
  rcases h.2 with ⟨rfl, h0⟩ | ⟨g, cap, cur, rfl, hb, hh, hle, hm, hrest⟩
  · have : L = [] := by simpa using h0
    subst this
    exact ⟨none, 0, rfl, .inl rfl, by simp⟩
  · refine ⟨some ⟨g, 0, none⟩, cap, rfl, .inr ⟨g, 0, rfl, ?_, fun i hi => ?_⟩, hle⟩
    · exact (World.ownsRow.lt h g rfl).2
    · have := World.ownsRow.cellAt h i (by rw [sgv_length] at hi; exact hi)
      rw [Nat.zero_add, this]
      simp only [List.getD, List.getElem?_eq_getElem hi, Option.getD_some]
theorem Tryz.info_seg : (Tryz.prog.info? 135).map (fun i => (i.zero, i.size, i.bytes)) = some (some (.agg #[.int .u64 0, .slice none 0 0]), 2, 32) := by kernel_rfl
theorem Tryz.info_ch : (Tryz.prog.info? 33).map (fun i => (i.zero, i.size, i.bytes)) = some (some (.slice none 0 0), 1, 24) := by kernel_rfl
theorem Sl.grown_below {B base : Nat} {a w w' : World} {v : Value} {L : List SgT} (h : Below B a w) (hl : Sl w base v L) (hg : w.grownBy w' v.ownBlock) (hB : B ≤ base) (hB2 : B ≤ w.heap.size) : Below B a w' :=
  ⟨hg.os.trans h.os, hg.tape.trans h.tape, hg.output.trans h.output, Nat.le_trans h.size hg.size, fun b hb => (hg.block b (by omega) (fun e => by have := (hl.lt b e.symm).1; omega)).trans (h.block b hb)⟩
/-- append of one segment -/
theorem wpList_appSg {ops : Array Oper} {rest : List Oper} {o : Oper} {a : Act} {w : World} {Q : Exit → Act → World → Prop} (hgd : o.guard = none) (s x : Operand)
    (ho : o.op = .call { callee := .builtin .append, args := #[s, x], argTypes := #[36, 36] })
    (base : Nat) (v : Value) (L : List SgT) (hs : a.eval s = v) (hown : Sl w base v L) (g : Nat) (y : SgT) (t : TypeId) (hnew : Own w g t (sgv [y]))
    (hx : a.eval x = .slice (some ⟨g, 0, none⟩) 1 1) (hlen : L.length ≤ 1000000) (hbase : base ≤ w.heap.size)
    (h : ∀ v' w', Hid (Sl w' base v' (L ++ [y])) → w.grownBy w' v.ownBlock → wpList Tryz.prog ops Q rest (a.put o.dst v') w') : wpList Tryz.prog ops Q (o :: rest) a w := by
  obtain ⟨i, hi, hzz⟩ := Option.map_eq_some_iff.1 Tryz.info_seg
  simp only [Prod.mk.injEq] at hzz
  obtain ⟨hz, hsz, hby⟩ := hzz
  refine wpList_append_own w hgd s x 36 ho base 135 i _ 2 32 Tryz.underlying36 hi hz hsz hby rfl (by omega) v L.length (sgv L) hs hown ⟨g, 0, none⟩ 1 1 (sgv [y]) hx (by simp) (fun j u hu => ?_) (sgv_one _) (by unfold maxLen; omega) (by omega) hbase fun v' w' h2 h3 _ => h v' w' ?_ h3
  · rw [add_off, Nat.zero_add, hnew.cell j]; exact hu
  · show w'.ownsRow base 135 2 v' (L ++ [y]).length (sgv (L ++ [y]))
    rw [List.length_append, sgv_append]
    exact h2
theorem Sl.row {w : World} {base : Nat} {v : Value} {L : List SgT} (h : Sl w base v L) : ∀ x ∈ rowOf v, base ≤ x ∧ ∃ cur, w.heap[x]? = some (.cells cur 135 (0, 0)) := by
  intro x hx
  rcases h.2 with ⟨rfl, _⟩ | ⟨g, cap, cur, rfl, h2, h3, _⟩
  · simp [rowOf, Value.ownBlock] at hx
  · simp [rowOf, Value.ownBlock] at hx
    subst hx
    exact ⟨h2, cur, h3⟩
theorem Sl.notT {w : World} {base : Nat} {v : Value} {L : List SgT} {t' : TypeId} (h : Sl w base v L) (ht : 135 ≠ t') : ∀ x ∈ rowOf v, ∀ cur, w.heap[x]? ≠ some (.cells cur t' (0, 0)) := by
  intro x hx cur he
  obtain ⟨_, cur', h2⟩ := h.row x hx
  rw [he] at h2
  injection h2 with h2
  injection h2 with _ h2 _
  exact ht h2.symm
theorem Own.out_row {w : World} {base g : Nat} {t : TypeId} {cs : List Value} {v : Value} {L : List SgT} (h : Own w g t cs) (hv : Sl w base v L) (ht : t ≠ 135) : g ∉ rowOf v := by
  intro hm
  obtain ⟨_, cur, h2⟩ := hv.row g hm
  unfold Own at h
  rw [h] at h2
  injection h2 with h2
  injection h2 with _ h2 _
  exact ht h2
end Go.Proofs.YteenlkmnadjnpaaGreat
