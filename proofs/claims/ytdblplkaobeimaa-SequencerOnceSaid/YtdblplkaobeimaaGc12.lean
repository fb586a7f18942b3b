/-
  Right of package message, by its contracts. No claim of its own.
-/
import Derived.Test.YtdblplkaobeimaaGc10
import Derived.Test.YtdblplkaobeimaaGc11
import Derived.Test.YtdblplkaobeimaaGc4
import Derived.Test.YtdblplkaobeimaaGc5
import Derived.Test.YtdblplkaobeimaaGc2
import Derived.Deep.Cut
import Derived.Deep.RegionLaw
import Derived.Test.YtdblplkaobeimaaGc9
namespace Go.Proofs.Ytdblplkaobeimaa
open Go.RowKit Go.Deep Go.Shelf
set_option linter.unusedVariables false
set_option linter.unusedSimpArgs false

theorem rcell_any (x : Ce) (a : Option Addr) (c : Nat) (a2 : Option Addr) (c2 B : Nat) (w : World) (hro : Ro w B a (u8s x.d)) (hro2 : Ro w B a2 (bcs x.b)) (hB : B ≤ w.heap.size) (hl : x.b.length ≤ 9223372036854775807) (hl2 : x.d.length ≤ 9223372036854775807) :
    Calls Try.prog 21 #[cev x.k a x.d.length c a2 x.b.length c2] w fun e w' => e = .returned (.bool (mcOk x)) ∧ Below w.heap.size w w' := by
  obtain ⟨W, HWW⟩ : ∃ W, Hid (w.alloc (.cells #[.int .i64 x.k, .slice a x.d.length c, .slice a2 x.b.length c2] 32) = W) := ⟨_, Lib.hid rfl⟩
  have hWb : Below w.heap.size w W := by rw [← HWW.out]; exact (Below.refl _ _).alloc (Nat.le_refl _) _
  have HO : Hid (Own W w.heap.size 32 [.int .i64 x.k, .slice a x.d.length c, .slice a2 x.b.length c2]) := Lib.hid (by rw [← HWW.out]; exact Own.new w _ _)
  have HR := Lib.hid (right_any x a c a2 c2 B W (hro2.below hWb hB) (Nat.le_trans hB hWb.size) hl hl2)
  have HS := Lib.hid (fun (W' : World) (hb : Below W.heap.size W W') => same_any x noC a c a2 c2 none 0 none 0 B W' (hro.below (hWb.trans (hb.mono hWb.size)) hB) (hro2.below (hWb.trans (hb.mono hWb.size)) hB) (Ro.nil _ _ _) (Ro.nil _ _ _) (Nat.le_trans hB (Nat.le_trans hWb.size hb.size)) hl (by simp [noC]))
  have HB := Lib.hid hWb
  unfold mcOk
  generalize right x = t at *
  generalize alike x noC = u at *
  simp only [noC, List.length_nil] at HS
  have c0 := HO.out.cell 0
  have c1 := HO.out.cell 1
  have c2' := HO.out.cell 2
  have hz := HO.out.lt
  simp at c0 c1 c2'
  clear hWb hro hro2
  generalize x.d.length = n at *
  generalize x.b.length = m at *
  generalize x.k = k at *
  cases t with
  | true =>
    go_enter Try.func21, Try.ntmps21
    go_upto_region 1 with fail
    rw [HWW.out]
    go_wp2_with fail
    refine HR.out.mono ?_
    rintro e w1 ⟨rfl, hb⟩
    have HB1 := Lib.hid (HB.out.trans (hb.mono HB.out.size))
    clear hb
    go_wp2_with fail
    go_ret
    exact ⟨rfl, HB1.out⟩
  | false =>
    go_enter Try.func21, Try.ntmps21
    go_upto_region 1 with fail
    rw [HWW.out]
    go_wp2_with fail
    refine HR.out.mono ?_
    rintro e w1 ⟨rfl, hb⟩
    have HB1 := Lib.hid (HB.out.trans (hb.mono HB.out.size))
    have HBW := Lib.hid hb
    have HO1 := Lib.hid (HO.out.below hb HO.out.lt)
    clear hb c0 c1 c2'
    have c0 := HO1.out.cell 0
    have c1 := HO1.out.cell 1
    have c2' := HO1.out.cell 2
    simp at c0 c1 c2'
    go_wp2_with fail
    refine (HS.out w1 HBW.out).mono ?_
    rintro e w2 ⟨rfl, hb⟩
    have HB2 := Lib.hid (HB1.out.trans (hb.mono HB1.out.size))
    clear hb
    go_wp2_with fail
    go_ret
    exact ⟨rfl, HB2.out⟩
theorem rlayout_any (A : LyT) (B : Nat) (w : World) (h : LyIn w B A) (hB : B ≤ w.heap.size) (hf : SgFit A.sg) :
    Calls Try.prog 22 #[A.val] w fun e w' => e = .returned (.bool (mlOk A.x)) ∧ Below w.heap.size w w' := by
  obtain ⟨W, HWW⟩ : ∃ W, Hid (w.alloc (.cells #[.int .u64 (A.e : Int), .slice A.a A.sg.length A.c, .int .i64 A.q] 38) = W) := ⟨_, Lib.hid rfl⟩
  have hWb : Below w.heap.size w W := by rw [← HWW.out]; exact (Below.refl _ _).alloc (Nat.le_refl _) _
  have HO : Hid (Own W w.heap.size 38 [.int .u64 (A.e : Int), .slice A.a A.sg.length A.c, .int .i64 A.q]) := Lib.hid (by rw [← HWW.out]; exact Own.new w _ _)
  have HR := Lib.hid (lright_any A B W (h.below hWb hB) (Nat.le_trans hB hWb.size) hf)
  have HS := Lib.hid (fun (W' : World) (hb : Below W.heap.size W W') => lsame_any A ⟨0, none, 0, [], 0⟩ B W' (h.below (hWb.trans (hb.mono hWb.size)) hB) ⟨Ro.nil _ _ _, fun s hs => by cases hs⟩ hf ⟨by simp, fun s hs => by cases hs⟩ (Nat.le_trans hB (Nat.le_trans hWb.size hb.size)))
  have HB := Lib.hid hWb
  unfold mlOk
  rw [show noL = LyT.x ⟨0, none, 0, [], 0⟩ from rfl]
  generalize lright A.x = t at *
  generalize lalike A.x (LyT.x ⟨0, none, 0, [], 0⟩) = u at *
  obtain ⟨ep, a, c, L, q⟩ := A
  simp only [LyT.val, List.length_nil] at *
  generalize L.length = n at *
  have c0 := HO.out.cell 0
  have c1 := HO.out.cell 1
  have c2' := HO.out.cell 2
  have hz := HO.out.lt
  simp at c0 c1 c2'
  clear hWb h hf
  cases t with
  | true =>
    go_enter Try.func22, Try.ntmps22
    go_upto_region 1 with fail
    rw [HWW.out]
    go_wp2_with fail
    refine HR.out.mono ?_
    rintro e w1 ⟨rfl, hb⟩
    have HB1 := Lib.hid (HB.out.trans (hb.mono HB.out.size))
    clear hb
    go_wp2_with fail
    go_ret
    exact ⟨rfl, HB1.out⟩
  | false =>
    go_enter Try.func22, Try.ntmps22
    go_upto_region 1 with fail
    rw [HWW.out]
    go_wp2_with fail
    refine HR.out.mono ?_
    rintro e w1 ⟨rfl, hb⟩
    have HB1 := Lib.hid (HB.out.trans (hb.mono HB.out.size))
    have HBW := Lib.hid hb
    have HO1 := Lib.hid (HO.out.below hb HO.out.lt)
    clear hb c0 c1 c2'
    have c0 := HO1.out.cell 0
    have c1 := HO1.out.cell 1
    have c2' := HO1.out.cell 2
    simp at c0 c1 c2'
    go_wp2_with fail
    refine (HS.out w1 HBW.out).mono ?_
    rintro e w2 ⟨rfl, hb⟩
    have HB2 := Lib.hid (HB1.out.trans (hb.mono HB1.out.size))
    clear hb
    go_wp2_with fail
    go_ret
    exact ⟨rfl, HB2.out⟩

set_option maxHeartbeats 8000000 in
set_option maxRecDepth 100000 in
theorem mright_any (A : MgT) (B : Nat) (w : World) (h : MgIn w B A) (hB : B ≤ w.heap.size) (hf : MgFit A) :
    Calls Try.prog 7 #[A.val] w fun e w' => e = .returned (.bool (mright A.x)) ∧ Below w.heap.size w w' := by
  obtain ⟨W, HWW⟩ : ∃ W, Hid (w.alloc (.cells A.cs.toArray 40) = W) := ⟨_, Lib.hid rfl⟩
  have hWb : Below w.heap.size w W := by rw [← HWW.out]; exact (Below.refl _ _).alloc (Nat.le_refl _) _
  have HO0 : Hid (Own W w.heap.size 40 A.cs) := Lib.hid (by rw [← HWW.out]; exact Own.new w _ _)
  have HB := Lib.hid hWb
  have hin := fun (W' : World) (hb : Below w.heap.size w W') => h.below hb hB
  have HSZ := Lib.hid hB
  have H1 := Lib.hid (rkinds_any A.k A.f W)
  have H2 := Lib.hid (fun (W' : World) => rplace_any A.fr W')
  have H3 := Lib.hid (fun (W' : World) => rplace_any A.to W')
  have H4 := Lib.hid (fun (W' : World) => below_any A.id 1048576 W')
  have H7 := Lib.hid (fun (W' : World) => below_any A.er 256 W')
  have H8 := Lib.hid (fun (W' : World) => rballot_any A.ba W')
  have H9 := Lib.hid (fun (W' : World) => rballot_any A.pr W')
  have H10 := Lib.hid (fun (W' : World) (hb : Below w.heap.size w W') => rstreams_any A.st A.sa A.sc B W' (hin W' hb).st (Nat.le_trans hB hb.size) hf.st)
  have H11 := Lib.hid (fun (W' : World) (hb : Below w.heap.size w W') => rbacks_any A.bk A.ka A.kc B W' (hin W' hb).bk (Nat.le_trans hB hb.size) hf.bk)
  have H12 := Lib.hid (fun (W' : World) (hb : Below w.heap.size w W') => rcell_any A.c A.ca A.cc A.ca2 A.cc2 B W' (hin W' hb).d (hin W' hb).b (Nat.le_trans hB hb.size) hf.b hf.d)
  have H13 := Lib.hid (fun (W' : World) (hb : Below w.heap.size w W') => rlayout_any A.ly B W' (hin W' hb).ly (Nat.le_trans hB hb.size) hf.ly)
  obtain ⟨k, ⟨fr1, fr2⟩, ⟨to1, to2⟩, id, f, ep, ad, er, ⟨ck, cd, cb⟩, ca, cc, ca2, cc2, st, sa, sc, bk, ka, kc, ⟨ba1, ba2⟩, ⟨pr1, pr2⟩, ly⟩ := A
  have hM : mright (MgT.x ⟨k, (fr1, fr2), (to1, to2), id, f, ep, ad, er, ⟨ck, cd, cb⟩, ca, cc, ca2, cc2, st, sa, sc, bk, ka, kc, (ba1, ba2), (pr1, pr2), ly⟩) = (kindsOk k f && (plOk (fr1, fr2) && (plOk (to1, to2) && (blw id 1048576 && (decide (ep ≤ 1048576) && (decide (ad ≤ 1048576) && (blw er 256 && (baOk (ba1, ba2) && (baOk (pr1, pr2) && (stOk st && (mbOk bk && (mcOk ⟨ck, cd, cb⟩ && mlOk ly.x)))))))))))) := rfl
  rw [hM]
  clear hM
  simp only [MgT.x, MgT.val, MgT.cs] at *
  generalize kindsOk k f = r1 at *
  generalize plOk (fr1, fr2) = r2 at *
  generalize plOk (to1, to2) = r3 at *
  generalize blw id 1048576 = r4 at *
  generalize blw er 256 = r7 at *
  generalize baOk (ba1, ba2) = r8 at *
  generalize baOk (pr1, pr2) = r9 at *
  generalize stOk st = r10 at *
  generalize mbOk bk = r11 at *
  generalize mcOk ⟨ck, cd, cb⟩ = r12 at *
  generalize mlOk ly.x = r13 at *
  have e5' : decide ((ep : Int) ≤ 1048576) = decide (ep ≤ 1048576) := by rw [decide_eq_decide]; omega
  have e6' : decide ((ad : Int) ≤ 1048576) = decide (ad ≤ 1048576) := by rw [decide_eq_decide]; omega
  generalize decide (ep ≤ 1048576) = r5 at *
  generalize decide (ad ≤ 1048576) = r6 at *
  obtain ⟨le, la, lc, LL, lq⟩ := ly
  simp only [LyT.val] at *
  generalize cd.length = cn at *
  generalize cb.length = cn2 at *
  generalize st.length = sn at *
  generalize bk.length = kn at *
  generalize LL.length = ln at *
  clear hWb hin h hf hB
  go_enter Try.func7, Try.ntmps7
  go_wp2_with fail
  rw [HWW.out]
  refine H1.out.mono ?_
  rintro e w1 ⟨rfl, rfl⟩
  rename World => w1
  have HO1 := HO0
  have HB1 := HB
  cases r1 with
  | false =>
    go_wp2_with fail
    go_ret
    exact ⟨rfl, HB1.out⟩
  | true =>
  have c1 := HO1.out.cell 1
  have c2 := HO1.out.cell 2
  simp at c1 c2
  have hz := HO1.out.lt
  go_wp2_with fail
  refine (H2.out w1).mono ?_
  rintro e w2 ⟨rfl, hb⟩
  have HB2 := Lib.hid (HB1.out.trans (hb.mono HB1.out.size))
  have HO2 := Lib.hid (HO1.out.below hb HO1.out.lt)
  clear hb
  clear hz c1 c2
  cases r2 with
  | false =>
    go_wp2_with fail
    go_ret
    exact ⟨rfl, HB2.out⟩
  | true =>
  have c3 := HO2.out.cell 3
  have c4 := HO2.out.cell 4
  simp at c3 c4
  have hz := HO2.out.lt
  go_wp2_with fail
  refine (H3.out w2).mono ?_
  rintro e w3 ⟨rfl, hb⟩
  have HB3 := Lib.hid (HB2.out.trans (hb.mono HB2.out.size))
  have HO3 := Lib.hid (HO2.out.below hb HO2.out.lt)
  clear hb
  clear hz c3 c4
  cases r3 with
  | false =>
    go_wp2_with fail
    go_ret
    exact ⟨rfl, HB3.out⟩
  | true =>
  have c5 := HO3.out.cell 5
  simp at c5
  have hz := HO3.out.lt
  go_wp2_with fail
  refine (H4.out w3).mono ?_
  rintro e w4 ⟨rfl, rfl⟩
  have HB4 := HB3
  have HO4 := HO3
  rename World => w4
  clear hz c5
  cases r4 with
  | false =>
    go_wp2_with fail
    go_ret
    exact ⟨rfl, HB4.out⟩
  | true =>
  have c7 := HO4.out.cell 7
  have c8 := HO4.out.cell 8
  simp at c7 c8
  have hz := HO4.out.lt
  cases r5 with
  | false =>
    go_wp2_with fail
    go_ret
    exact ⟨rfl, HB4.out⟩
  | true =>
  cases r6 with
  | false =>
    go_wp2_with fail
    go_ret
    exact ⟨rfl, HB4.out⟩
  | true =>
  have c9 := HO4.out.cell 9
  simp at c9
  go_wp2_with fail
  refine (H7.out w4).mono ?_
  rintro e w5 ⟨rfl, rfl⟩
  have HB5 := HB4
  have HO5 := HO4
  rename World => w5
  clear hz c7 c8 c9 e5' e6'
  cases r7 with
  | false =>
    go_wp2_with fail
    go_ret
    exact ⟨rfl, HB5.out⟩
  | true =>
  have c15 := HO5.out.cell 15
  have c16 := HO5.out.cell 16
  simp at c15 c16
  have hz := HO5.out.lt
  go_wp2_with fail
  refine (H8.out w5).mono ?_
  rintro e w6 ⟨rfl, hb⟩
  have HB6 := Lib.hid (HB5.out.trans (hb.mono HB5.out.size))
  have HO6 := Lib.hid (HO5.out.below hb HO5.out.lt)
  clear hb
  clear hz c15 c16
  cases r8 with
  | false =>
    go_wp2_with fail
    go_ret
    exact ⟨rfl, HB6.out⟩
  | true =>
  have c17 := HO6.out.cell 17
  have c18 := HO6.out.cell 18
  simp at c17 c18
  have hz := HO6.out.lt
  go_wp2_with fail
  refine (H9.out w6).mono ?_
  rintro e w7 ⟨rfl, hb⟩
  have HB7 := Lib.hid (HB6.out.trans (hb.mono HB6.out.size))
  have HO7 := Lib.hid (HO6.out.below hb HO6.out.lt)
  clear hb
  clear hz c17 c18
  cases r9 with
  | false =>
    go_wp2_with fail
    go_ret
    exact ⟨rfl, HB7.out⟩
  | true =>
  have c13 := HO7.out.cell 13
  simp at c13
  have hz := HO7.out.lt
  go_wp2_with fail
  refine (H10.out w7 HB7.out).mono ?_
  rintro e w8 ⟨rfl, hb⟩
  have HB8 := Lib.hid (HB7.out.trans (hb.mono HB7.out.size))
  have HO8 := Lib.hid (HO7.out.below hb HO7.out.lt)
  clear hb
  clear hz c13
  cases r10 with
  | false =>
    go_wp2_with fail
    go_ret
    exact ⟨rfl, HB8.out⟩
  | true =>
  have c14 := HO8.out.cell 14
  simp at c14
  have hz := HO8.out.lt
  go_wp2_with fail
  refine (H11.out w8 HB8.out).mono ?_
  rintro e w9 ⟨rfl, hb⟩
  have HB9 := Lib.hid (HB8.out.trans (hb.mono HB8.out.size))
  have HO9 := Lib.hid (HO8.out.below hb HO8.out.lt)
  clear hb
  clear hz c14
  cases r11 with
  | false =>
    go_wp2_with fail
    go_ret
    exact ⟨rfl, HB9.out⟩
  | true =>
  have c10 := HO9.out.cell 10
  have c11 := HO9.out.cell 11
  have c12 := HO9.out.cell 12
  simp at c10 c11 c12
  have hz := HO9.out.lt
  go_wp2_with fail
  refine (H12.out w9 HB9.out).mono ?_
  rintro e w10 ⟨rfl, hb⟩
  have HB10 := Lib.hid (HB9.out.trans (hb.mono HB9.out.size))
  have HO10 := Lib.hid (HO9.out.below hb HO9.out.lt)
  clear hb
  clear hz c10 c11 c12
  cases r12 with
  | false =>
    go_wp2_with fail
    go_ret
    exact ⟨rfl, HB10.out⟩
  | true =>
  have c19 := HO10.out.cell 19
  have c20 := HO10.out.cell 20
  have c21 := HO10.out.cell 21
  simp at c19 c20 c21
  have hz := HO10.out.lt
  go_wp2_with fail
  refine (H13.out w10 HB10.out).mono ?_
  rintro e w11 ⟨rfl, hb⟩
  have HB11 := Lib.hid (HB10.out.trans (hb.mono HB10.out.size))
  have HO11 := Lib.hid (HO10.out.below hb HO10.out.lt)
  clear hb
  clear hz c19 c20 c21
  go_wp2_with fail
  go_ret
  exact ⟨rfl, HB11.out⟩
end Go.Proofs.Ytdblplkaobeimaa
namespace Go.Proofs.Ytdblplkaobeimaa
open Go.RowKit Go.Deep
set_option linter.unusedVariables false
set_option linter.unusedSimpArgs false

/-- no row of int, or of uint64 -/
def Qui (w : World) (k : Nat) : Prop := ∀ cur, w.heap[k]? ≠ some (.cells cur 3 (0, 0)) ∧ w.heap[k]? ≠ some (.cells cur 26 (0, 0))
/-- all blocks stay, but for g, and rows of int and uint64 from base on -/
structure Fc (base g : Nat) (a w : World) : Prop where
  os : w.os = a.os
  tape : w.tape = a.tape
  output : w.output = a.output
  size : a.heap.size ≤ w.heap.size
  block : ∀ k, k < a.heap.size → k ≠ g → (k < base ∨ Qui a k) → w.heap[k]? = a.heap[k]?
theorem Fc.refl (base g : Nat) (w : World) : Fc base g w w := ⟨rfl, rfl, rfl, Nat.le_refl _, fun _ _ _ _ => rfl⟩
theorem Fc.trans {base g : Nat} {a b c : World} (h : Fc base g a b) (k : Fc base g b c) : Fc base g a c :=
  ⟨k.os.trans h.os, k.tape.trans h.tape, k.output.trans h.output, Nat.le_trans h.size k.size, fun i h1 h2 h3 => by
    have e := h.block i h1 h2 h3
    refine (k.block i (Nat.lt_of_lt_of_le h1 h.size) h2 ?_).trans e
    rcases h3 with h3 | h3
    · exact .inl h3
    · exact .inr (fun cur => by rw [e]; exact h3 cur)⟩
theorem Fc.of_chg {base g : Nat} {a b : World} {l : List Nat} (h : Chg l a b) (hl : ∀ x ∈ l, x = g ∨ (base ≤ x ∧ ¬ Qui a x)) : Fc base g a b :=
  ⟨h.os, h.tape, h.output, h.size, fun k h1 h2 h3 => h.block k h1 (fun hm => by
    rcases hl k hm with h4 | ⟨h4, h5⟩
    · exact h2 h4
    · rcases h3 with h3 | h3
      · omega
      · exact h5 h3)⟩
theorem Fc.below {base g B : Nat} {a b : World} (h : Fc base g a b) (hB : B ≤ a.heap.size) (hg : B ≤ g) (hb : B ≤ base) : Below B a b :=
  ⟨h.os, h.tape, h.output, h.size, fun k hk => h.block k (by omega) (by omega) (.inl (by omega))⟩
theorem Fc.of_below {base g : Nat} {a b : World} (h : Below a.heap.size a b) : Fc base g a b := ⟨h.os, h.tape, h.output, h.size, fun k hk _ _ => h.block k hk⟩
theorem Fc.alloc {base g : Nat} {a b : World} (h : Fc base g a b) (o : Obj) : Fc base g a (b.alloc o) := h.trans (.of_below ((Below.refl _ _).alloc (Nat.le_refl _) _))
theorem Own.quiT {w : World} {g : Nat} {t : TypeId} {cs : List Value} (h : Own w g t cs) (h1 : t ≠ 3) (h2 : t ≠ 26) : Qui w g := fun cur => by
  unfold Own at h
  rw [h]
  refine ⟨fun e => ?_, fun e => ?_⟩
  · injection e with e
    injection e with _ e _
    exact h1 e
  · injection e with e
    injection e with _ e _
    exact h2 e
theorem Own.fc {base g k : Nat} {a b : World} {t : TypeId} {cs : List Value} (h : Own a k t cs) (hc : Fc base g a b) (hk : k ≠ g) (h1 : t ≠ 3) (h2 : t ≠ 26) : Own b k t cs :=
  (hc.block k h.lt hk (.inr (h.quiT h1 h2))).trans h
theorem Own.fcl {base g k : Nat} {a b : World} {t : TypeId} {cs : List Value} (h : Own a k t cs) (hc : Fc base g a b) (hk : k ≠ g) (h1 : k < base) : Own b k t cs :=
  (hc.block k h.lt hk (.inl h1)).trans h
/-- a row whose block is no row of int or uint64, and not g -/
def RoQ (w : World) (g : Nat) (a : Option Addr) (vs : List Value) : Prop := vs = [] ∨ ∃ b off, a = some ⟨b, off, none⟩ ∧ b < w.heap.size ∧ b ≠ g ∧ Qui w b ∧ ∀ i, i < vs.length → w.cell? ⟨b, off + i, none⟩ = some (vs.getD i undef)
theorem RoQ.ro {w : World} {g : Nat} {a : Option Addr} {vs : List Value} (h : RoQ w g a vs) : Ro w w.heap.size a vs := by
  rcases h with h | ⟨b, off, h1, h2, _, _, h3⟩
  · exact .inl h
  · exact .inr ⟨b, off, h1, h2, h3⟩
theorem RoQ.fc {base g : Nat} {w w' : World} {a : Option Addr} {vs : List Value} (h : RoQ w g a vs) (hc : Fc base g w w') : RoQ w' g a vs := by
  rcases h with h | ⟨b, off, h1, h2, h3, h4, h5⟩
  · exact .inl h
  · have e := hc.block b h2 h3 (.inr h4)
    refine .inr ⟨b, off, h1, Nat.lt_of_lt_of_le h2 hc.size, h3, fun cur => by rw [e]; exact h4 cur, fun i hi => ?_⟩
    exact (World.cell?_of_block (w := w) (w' := w') (a := ⟨b, off + i, none⟩) e).trans (h5 i hi)
/-- a struct of two slices in block g, of type T: the widths and the numbers of F; the rows lie from base on -/
def Fst (w : World) (T : TypeId) (base g : Nat) (F : List (Nat × Nat)) : Prop :=
  ∃ v1 v2, Own w g T [v1, v2] ∧ Lst w base 3 v1 (i64s (fw F)) ∧ Lst w base 26 v2 (u64s (fv F))
theorem Fst.lt {w : World} {T : TypeId} {base g : Nat} {F : List (Nat × Nat)} (h : Fst w T base g F) : g < w.heap.size := by
  obtain ⟨v1, v2, h1, _⟩ := h
  exact h1.lt
theorem Fst.alloc {w : World} {T : TypeId} {base g : Nat} {F : List (Nat × Nat)} (h : Fst w T base g F) (o : Obj) : Fst (w.alloc o) T base g F := by
  obtain ⟨v1, v2, h1, h2, h3⟩ := h
  exact ⟨v1, v2, h1.alloc o, h2.alloc o, h3.alloc o⟩
theorem Fst.below {w w' : World} {T : TypeId} {base g : Nat} {F : List (Nat × Nat)} (h : Fst w T base g F) (hb : Below w.heap.size w w') : Fst w' T base g F := by
  obtain ⟨v1, v2, h1, h2, h3⟩ := h
  exact ⟨v1, v2, h1.below hb h1.lt, h2.below hb (Nat.le_refl _), h3.below hb (Nat.le_refl _)⟩
theorem Fst.new (w : World) (T : TypeId) (base : Nat) : Fst (w.alloc (.cells #[.slice none 0 0, .slice none 0 0] T)) T base w.heap.size [] :=
  ⟨_, _, Own.new w T _, Lst.nil _ _ _, Lst.nil _ _ _⟩
/-- rows of other element types are other blocks -/
theorem Lst.otherT {w : World} {base base' : Nat} {e e' : TypeId} {v v' : Value} {xs xs' : List Value} (h : Lst w base e v xs) (h' : Lst w base' e' v' xs') (hne : e ≠ e') : ∀ x ∈ rowOf v', ∀ cur, w.heap[x]? ≠ some (.cells cur e (0, 0)) := by
  intro x hx cur he
  obtain ⟨_, cur', h2⟩ := h'.row x hx
  rw [he] at h2
  injection h2 with h2
  injection h2 with _ h2 _
  exact hne h2
theorem Lst.ownT {w : World} {base : Nat} {e T : TypeId} {v : Value} {xs cs : List Value} {g : Nat} (h : Lst w base e v xs) (h' : Own w g T cs) (hne : e ≠ T) : g ∉ rowOf v := by
  intro hx
  obtain ⟨_, cur, h2⟩ := h.row g hx
  unfold Own at h'
  rw [h'] at h2
  injection h2 with h2
  injection h2 with _ h2 _
  exact hne h2.symm
theorem Own.notT' {w : World} {g : Nat} {t t' : TypeId} {cs : List Value} (h : Own w g t cs) (ht : t' ≠ t) : ∀ x ∈ [g], ∀ cur, w.heap[x]? ≠ some (.cells cur t' (0, 0)) := by
  intro x hx cur he
  simp only [List.mem_singleton] at hx
  subst hx
  unfold Own at h
  rw [he] at h
  injection h with h
  injection h with _ h _
  exact ht h
/-- an append to a row of int, or of uint64, from base on -/
theorem Fc.row {base g : Nat} {w w' : World} {e : TypeId} {v : Value} {xs : List Value} (h : Lst w base e v xs) (hc : Chg (rowOf v) w w') (he : e = 3 ∨ e = 26) : Fc base g w w' :=
  .of_chg hc fun x hx => .inr (by
    obtain ⟨h1, cur, h2⟩ := h.row x hx
    refine ⟨h1, fun hq => ?_⟩
    rcases he with rfl | rfl
    · exact (hq cur).1 h2
    · exact (hq cur).2 h2)
theorem Fc.set {base g : Nat} (w : World) (i : Nat) (v : Value) : Fc base g w (w.setCell ⟨g, i, none⟩ v) :=
  .of_chg ((Chg.refl [g] w).setCell (by simp) v) fun x hx => .inl (by simpa using hx)
/-- behind an append to the widths, and their store -/
theorem Fst.step1 {w w1 : World} {T : TypeId} {base g : Nat} {v1 v2 v1' : Value} {A A' B : List Value} (h1 : Own w g T [v1, v2]) (h2 : Lst w base 3 v1 A) (h3 : Lst w base 26 v2 B) (hT : T ≠ 3) (hT2 : T ≠ 26) (hl : Lst w1 base 3 v1' A') (hc : Chg (rowOf v1) w w1) :
    Own w1 g T [v1, v2] ∧ Own (w1.setCell ⟨g, 0, none⟩ v1') g T [v1', v2] ∧ Lst (w1.setCell ⟨g, 0, none⟩ v1') base 3 v1' A' ∧ Lst (w1.setCell ⟨g, 0, none⟩ v1') base 26 v2 B ∧ Fc base g w (w1.setCell ⟨g, 0, none⟩ v1') := by
  have g1 := h1.chg hc (h2.ownT h1 hT.symm)
  have g3 := h3.chg hc (h3.otherT h2 (by decide))
  have s1 : Chg [g] w1 (w1.setCell ⟨g, 0, none⟩ v1') := (Chg.refl [g] w1).setCell (by simp) _
  exact ⟨g1, g1.set 0 v1', hl.chg s1 (g1.notT' hT.symm), g3.chg s1 (g1.notT' hT2.symm), (Fc.row h2 hc (.inl rfl)).trans (Fc.set w1 0 v1')⟩
theorem Fst.step2 {w w1 : World} {T : TypeId} {base g : Nat} {v1 v2 v2' : Value} {A B' B : List Value} (h1 : Own w g T [v1, v2]) (h2 : Lst w base 3 v1 A) (h3 : Lst w base 26 v2 B) (hT : T ≠ 3) (hT2 : T ≠ 26) (hl : Lst w1 base 26 v2' B') (hc : Chg (rowOf v2) w w1) :
    Own w1 g T [v1, v2] ∧ Own (w1.setCell ⟨g, 1, none⟩ v2') g T [v1, v2'] ∧ Lst (w1.setCell ⟨g, 1, none⟩ v2') base 3 v1 A ∧ Lst (w1.setCell ⟨g, 1, none⟩ v2') base 26 v2' B' ∧ Fc base g w (w1.setCell ⟨g, 1, none⟩ v2') := by
  have g1 := h1.chg hc (h3.ownT h1 hT2.symm)
  have g3 := h2.chg hc (h2.otherT h3 (by decide))
  have s1 : Chg [g] w1 (w1.setCell ⟨g, 1, none⟩ v2') := (Chg.refl [g] w1).setCell (by simp) _
  exact ⟨g1, g1.set 1 v2', g3.chg s1 (g1.notT' hT.symm), hl.chg s1 (g1.notT' hT2.symm), (Fc.row h3 hc (.inr rfl)).trans (Fc.set w1 1 v2')⟩
end Go.Proofs.Ytdblplkaobeimaa
namespace Go.Proofs.Ytdblplkaobeimaa
open Go.RowKit Go.Deep
set_option linter.unusedVariables false
set_option linter.unusedSimpArgs false

def fU (u : Int) : List (Nat × Nat) := [(5, u.toNat)]
theorem i64_take {L : List Int} {k : Nat} (h : k < L.length) : L.take (k + 1) = L.take k ++ [L.getD k 0] := by
  have e : L.getD k 0 = L[k] := by simp [List.getD, h]
  rw [List.take_succ_eq_append_getElem h, e]
end Go.Proofs.Ytdblplkaobeimaa
namespace Go.Proofs.Ytdblplkaobeimaa
open Go.RowKit Go.Deep
set_option linter.unusedVariables false
set_option linter.unusedSimpArgs false

theorem u8_take {L : List UInt8} {k : Nat} (h : k < L.length) : L.take (k + 1) = L.take k ++ [L.getD k 0] := by
  have e : L.getD k 0 = L[k] := by simp [List.getD, h]
  rw [List.take_succ_eq_append_getElem h, e]
def fS (s : Int) : List (Nat × Nat) := [(4, s.toNat)]
def fY (b : UInt8) : List (Nat × Nat) := [(8, b.toNat)]
end Go.Proofs.Ytdblplkaobeimaa
namespace Go.Proofs.Ytdblplkaobeimaa
open Go.RowKit Go.Deep
set_option linter.unusedVariables false
set_option linter.unusedSimpArgs false

end Go.Proofs.Ytdblplkaobeimaa
namespace Go.Proofs.Ytdblplkaobeimaa
open Go.RowKit Go.Deep Go.Shelf
set_option linter.unusedVariables false
set_option linter.unusedSimpArgs false

theorem st_take {L : List SgT} {k : Nat} (h : k < L.length) : L.take (k + 1) = L.take k ++ [st L k] := by
  have e : st L k = L[k] := by simp [st, List.getD, h]
  rw [List.take_succ_eq_append_getElem h, e]
theorem ct_take {L : List ChT} {k : Nat} (h : k < L.length) : L.take (k + 1) = L.take k ++ [ct L k] := by
  have e : ct L k = L[k] := by simp [ct, List.getD, h]
  rw [List.take_succ_eq_append_getElem h, e]
def fSgT (L : List SgT) : List (Nat × Nat) := L.flatMap fun s => fSg s.x
def fChT (L : List ChT) : List (Nat × Nat) := L.flatMap fun c => fCh c.u
theorem fSgT_x (L : List SgT) : fSgT L = (sgx L).flatMap fSg := by simp [fSgT, sgx, List.flatMap_map]
theorem fChT_x (L : List ChT) : fChT L = (chx L).flatMap fCh := by simp [fChT, chx, List.flatMap_map]
theorem fSgT_take {L : List SgT} {k : Nat} (h : k < L.length) : fSgT (L.take (k + 1)) = fSgT (L.take k) ++ ((20, (st L k).f) :: (2, (st L k).ch.length - 1) :: fChT (st L k).ch) := by
  rw [st_take h]
  simp only [fSgT, List.flatMap_append, List.flatMap_cons, List.flatMap_nil, List.append_nil]
  congr 1
  simp only [fSg, SgT.x, fChT_x, chx_length]
theorem fChT_take {L : List ChT} {k : Nat} (h : k < L.length) : fChT (L.take (k + 1)) = fChT (L.take k) ++ fCh (ct L k).u := by
  rw [ct_take h]
  simp [fChT, List.flatMap_append]
/-- segments of a valid layout -/
structure SgV (L : List SgT) : Prop where
  n : 1 ≤ L.length ∧ L.length ≤ 4
  sg : ∀ k, k < L.length → (st L k).f < 1048576 ∧ (1 ≤ (st L k).ch.length ∧ (st L k).ch.length ≤ 4) ∧ ∀ j, j < (st L k).ch.length → (1 ≤ (ct (st L k).ch j).u.length ∧ (ct (st L k).ch j).u.length ≤ 4) ∧ ∀ u ∈ (ct (st L k).ch j).u, 0 ≤ u ∧ u < 32
theorem SgV.of {A : LyT} (h : lright A.x = true) : SgV A.sg := by
  obtain ⟨_, _, h3⟩ := lright_iff.1 h
  obtain ⟨h4, _, h5, _⟩ := sgOk_iff.1 h3
  have hx : A.x.s = sgx A.sg := rfl
  rw [hx, sgx_length] at h4 h5
  refine ⟨h4, fun k hk => ?_⟩
  obtain ⟨h6, h7⟩ := h5 k hk
  rw [sx_sgx] at h6 h7
  obtain ⟨g1, g2, g3, _⟩ := chOk_iff.1 h7
  have hy : (st A.sg k).x.2 = chx (st A.sg k).ch := rfl
  rw [hy] at g1 g2 g3
  rw [chx_length] at g1
  refine ⟨h6, g1, fun j hj => ?_⟩
  have hm : (ct (st A.sg k).ch j).u ∈ chx (st A.sg k).ch := List.mem_map_of_mem (ct_mem hj)
  exact ⟨g2 _ hm, fun u hu => g3 u (List.mem_flatten.2 ⟨_, hm, hu⟩)⟩
theorem fChT_len {L : List ChT} (h : ∀ j, j < L.length → (ct L j).u.length ≤ 4) : (fChT L).length ≤ L.length * 5 := by
  refine fflat_le fun c hc => ?_
  obtain ⟨j, hj, rfl⟩ := List.getElem_of_mem hc
  have := h j hj
  have e : ct L j = L[j] := by simp [ct, List.getD, hj]
  rw [e] at this
  rw [fCh_len]
  omega
theorem ct_take_lt {L : List ChT} {j k : Nat} (h : j < k) : ct (L.take k) j = ct L j := by
  simp [ct, List.getD, List.getElem?_take, h]
theorem fChT_tlen {L : List ChT} (h : ∀ j, j < L.length → (ct L j).u.length ≤ 4) (k : Nat) : (fChT (L.take k)).length ≤ L.length * 5 := by
  have := fChT_len (L := L.take k) (fun j hj => by
    rw [List.length_take] at hj
    rw [ct_take_lt (by omega)]
    exact h j (by omega))
  rw [List.length_take] at this
  omega
theorem SgV.tlen {L : List SgT} (h : SgV L) : ∀ k, k ≤ L.length → (fSgT (L.take k)).length ≤ k * 22
  | 0, _ => by simp [fSgT]
  | k + 1, hk => by
    have ih := h.tlen k (by omega)
    obtain ⟨_, h2, h3⟩ := h.sg k (by omega)
    have := fChT_len (L := (st L k).ch) (fun j hj => by have := (h3 j hj).1; omega)
    rw [fSgT_take (by omega), List.length_append]
    simp only [List.length_cons]
    omega

end Go.Proofs.Ytdblplkaobeimaa
