/-
  The statement RunsMeets, walked. No condition but the ranges of the arguments.
-/
import Derived.Test.YtoadbkiklabceaaLawRunsCount
import Derived.Test.YtoadbkiklabceaaSam
import Derived.Test.YtoadbkiklabceaaRArgs
import Derived.Deep.CutBlock
import Derived.Deep.CutRange
namespace Go.Proofs.Ytoadbkiklabceaa
open Go.RowKit Go.Shelf Go.Deep
set_option linter.unusedVariables false
set_option linter.unusedSimpArgs false

def lessL (L D : List Rn) : List Rn := D.foldl cutL L
theorem lessL_snoc (L D : List Rn) (r : Rn) : lessL L (D ++ [r]) = cutL (lessL L D) r := by simp [lessL]
theorem lessL_ok {L : List Rn} (hL : NF L) (D : List Rn) : NF (lessL L D) ∧ (∀ n, mem (lessL L D) n = (mem L n && !mem D n)) ∧ (lessL L D).length ≤ L.length + D.length := by
  unfold lessL
  induction D generalizing L with
  | nil => exact ⟨hL, fun n => by simp, by simp⟩
  | cons r D ih =>
    obtain ⟨h1, h2⟩ := cutL_ok hL r
    obtain ⟨h3, h4, h5⟩ := ih h1
    refine ⟨h3, fun n => ?_, ?_⟩
    · rw [List.foldl_cons, h4, h2, mem_cons]
      cases mem L n <;> cases inR r n <;> cases mem D n <;> rfl
    · have := cutL_len hL r
      simp only [List.foldl_cons, List.length_cons]; omega
theorem meet_comm {X Y : List Rn} (hX : NF X) (hY : NF Y) : meetL Y X = meetL X Y := by
  obtain ⟨h1, h2⟩ := meetL_ok hX hY
  obtain ⟨h3, h4⟩ := meetL_ok hY hX
  exact h3.ext h1 fun n => by rw [h4, h2, Bool.and_comm]
theorem meet_self {X : List Rn} (hX : NF X) : meetL X X = X := by
  obtain ⟨h1, h2⟩ := meetL_ok hX hX
  exact h1.ext hX fun n => by rw [h2, Bool.and_self]
theorem meet_less {X Y : List Rn} (hX : NF X) (hY : NF Y) : meetL (lessL X Y) Y = [] := by
  obtain ⟨h1, h2, _⟩ := lessL_ok hX Y
  obtain ⟨h3, h4⟩ := meetL_ok h1 hY
  refine h3.ext trivial fun n => ?_
  rw [h4, h2]
  cases mem X n <;> cases mem Y n <;> rfl
/-- the blocks from lo on, below hi, lie as they lay -/
def Mid (lo hi : Nat) (a w : World) : Prop := a.heap.size ≤ w.heap.size ∧ ∀ k, lo ≤ k → k < hi → w.heap[k]? = a.heap[k]?
theorem Mid.refl (lo hi : Nat) (a : World) : Mid lo hi a a := ⟨Nat.le_refl _, fun _ _ _ => rfl⟩
theorem Mid.chg {lo hi : Nat} {a b c : World} {l : List Nat} (h : Mid lo hi a b) (hc : Chg l b c) (hs : hi ≤ b.heap.size) (hl : ∀ k, lo ≤ k → k < hi → k ∉ l) : Mid lo hi a c :=
  ⟨Nat.le_trans h.1 hc.size, fun k h1 h2 => (hc.block k (by omega) (hl k h1 h2)).trans (h.2 k h1 h2)⟩
theorem Mid.same {lo hi : Nat} {a b : World} (h : Mid lo hi a b) {FS : List Nat} (hF : ∀ k ∈ FS, lo ≤ k ∧ k < hi) : Same FS a b := ⟨h.1, fun k hk => h.2 k (hF k hk).1 (hF k hk).2⟩
theorem New.midSame {lo hi B p : Nat} {a b : World} {v : Value} {L : List Rn} (h : New a B p v L) (hm : Mid lo hi a b) (hB : lo ≤ B) (hh : a.heap.size ≤ hi) : New b B p v L := by
  have hl := h.st.ltF
  have hg := h.blocks
  refine ⟨h.st.same (hm.same (FS := p :: rowOf v) fun k hk => ⟨Nat.le_trans hB (hg k hk), Nat.lt_of_lt_of_le (hl k hk) hh⟩) (by simp) (fun g h => by simp [mem_rowOf, h]), h.lowp, h.lowg⟩
theorem New.drp {w w' : World} {B p : Nat} {v v' : Value} {L M : List Rn} (h : New w B p v L) (hst : St w' p v' M) (hnb : Nb w v v') : New w' B p v' M :=
  ⟨hst, h.lowp, fun g hg => by
    rcases hnb with hn | hn
    · exact h.lowg g (hn ▸ hg)
    · exact Nat.le_trans h.ltB (hn g hg)⟩
set_option maxHeartbeats 4000000 in
set_option maxRecDepth 100000 in
theorem runsMeets_walk (w : World) (a b : Option Addr) (A B : List Rn) (c d z : Nat) (ha : Ro w w.heap.size a (rcs A)) (hfa : ∀ r ∈ A, Fit r) (hla : A.length ≤ 9223372036854775807)
    (hb : Ro w w.heap.size b (rcs B)) (hfb : ∀ r ∈ B, Fit r) (hlb : B.length ≤ 9223372036854775807) (hz : z < 18446744073709551616) :
    Calls Try.prog 9 #[.slice a A.length c, .slice b B.length d, .int .u64 z] w fun e w' => e = .returned (.bool true) ∧ Below w.heap.size w w' := by
  have HBA := Lib.hid (built_any w a A c w.heap.size ha (Nat.le_refl _) hfa hla)
  have HBB := Lib.hid (fun W (hW : Below w.heap.size w W) => built_any W b B d w.heap.size (hb.below hW (Nat.le_refl _)) hW.size hfb hlb)
  obtain ⟨hXn, -, hXl⟩ := builtL_NF (A.take 60)
  obtain ⟨hYn, -, hYl⟩ := builtL_NF (B.take 60)
  rw [List.length_take] at hXl hYl
  obtain ⟨X, HXX⟩ : ∃ X, Hid (builtL (A.take 60) = X) := ⟨_, Lib.hid rfl⟩
  obtain ⟨Y, HYY⟩ : ∃ Y, Hid (builtL (B.take 60) = Y) := ⟨_, Lib.hid rfl⟩
  rw [HXX.out] at HBA hXn hXl
  simp only [HYY.out] at HBB
  rw [HYY.out] at hYn hYl
  obtain ⟨n, HAn⟩ : ∃ n, Hid (A.length = n) := ⟨_, Lib.hid rfl⟩
  obtain ⟨m, HBm⟩ : ∃ m, Hid (B.length = m) := ⟨_, Lib.hid rfl⟩
  rw [HAn.out] at HBA ⊢
  rw [HBm.out] at HBB ⊢
  have hX60 : X.length ≤ 60 := by omega
  have hY60 : Y.length ≤ 60 := by omega
  obtain ⟨p1, HP1⟩ : ∃ p1, Hid (w.heap.size = p1) := ⟨_, Lib.hid rfl⟩
  clear ha hb hfa hfb hla hlb hXl hYl hXn hYn
  rw [HP1.out] at HBA HBB ⊢
  go_enter Try.func9, Try.ntmps9
  go_wp2_with fail
  refine HBA.out.mono ?_
  rintro e w1 ⟨v1, rfl, hn1, hb1⟩
  have HN1 := Lib.hid hn1
  have HB1 := Lib.hid hb1
  clear hn1 hb1 HBA
  go_wp2_with fail
  refine (HBB.out w1 HB1.out).mono ?_
  rintro e w2 ⟨v2, rfl, hn2, hb2⟩
  obtain ⟨p2, HP2⟩ : ∃ p2, Hid (w1.heap.size = p2) := ⟨_, Lib.hid rfl⟩
  rw [HP2.out] at hn2 ⊢
  have hs12 : p1 < p2 := by have := HN1.out.st.own.lt; have := HP2.out; omega
  have hv1 : ∀ g, v1.ownBlock = some g → g < p2 := fun g hg => by rw [← HP2.out]; exact (HN1.out.st.row.lt g hg).2
  have HV1 := Lib.hid hv1
  have HX2 := Lib.hid (HN1.out.keep hb2)
  have HY2 := Lib.hid hn2
  have HB2 := Lib.hid (show Below p1 w w2 from HB1.out.trans (hb2.mono (by have := HP2.out; omega)))
  clear hn2 hb2 HBB HN1 HB1 hv1
  have hfx := fit_el HX2.out.st.fit HX2.out.st.nf
  have hfy := fit_el HY2.out.st.fit HY2.out.st.nf
  have HFXY := Lib.hid (And.intro hfx hfy)
  clear hfx hfy
  have HME := Lib.hid (Meet_any w2 (some ⟨p1, 0, none⟩) (some ⟨p2, 0, none⟩) (p1 :: rowOf v1) (p2 :: rowOf v2) X Y HX2.out.st.setV HY2.out.st.setV HX2.out.st.ltF HY2.out.st.ltF HX2.out.st.nf HY2.out.st.nf HX2.out.st.fit HY2.out.st.fit (by omega) (by omega))
  have HJO := Lib.hid (fun W (hW : Below w2.heap.size w2 W) => Join_any W (some ⟨p1, 0, none⟩) (some ⟨p2, 0, none⟩) (p1 :: rowOf v1) (p2 :: rowOf v2) X Y (HX2.out.keep hW).st.setV (HY2.out.keep hW).st.setV HFXY.out.1 HFXY.out.2 (by omega) (by omega))
  obtain ⟨M, HML⟩ : ∃ M, Hid (meetL X Y = M) := ⟨_, Lib.hid rfl⟩
  rw [HML.out] at HME
  go_wp2_with fail
  refine HME.out.mono ?_
  rintro e w3 ⟨p3, v3, rfl, hn3, hb3⟩
  have HM3 := Lib.hid hn3
  have HB3 := Lib.hid hb3
  clear hn3 hb3 HME
  go_wp2_with fail
  refine (HJO.out w3 HB3.out).mono ?_
  rintro e w4 ⟨p4, v4, J, rfl, hn4, ⟨hJm, hJl⟩, hb4⟩
  have HX4 := Lib.hid ((HX2.out.keep HB3.out).keep hb4)
  have HY4 := Lib.hid ((HY2.out.keep HB3.out).keep hb4)
  have HM4 := Lib.hid (HM3.out.keep hb4)
  have HJ4 := Lib.hid hn4
  have HB4 := Lib.hid (show Below p1 w w4 from HB2.out.trans ((HB3.out.trans (hb4.mono HB3.out.size)).mono (by have := HB2.out.size; have := HP1.out; omega)))
  have hs24 : p2 ≤ w2.heap.size ∧ w2.heap.size ≤ w3.heap.size ∧ w3.heap.size ≤ w4.heap.size := ⟨HY2.out.ltB, HB3.out.size, hb4.size⟩
  have HS24 := Lib.hid hs24
  have hJ120 : J.length ≤ 120 := by omega
  have hM3600 : M.length ≤ 3600 := by
    rw [← HML.out]
    have h1 := meetL_len X Y
    have h2 : X.length * Y.length ≤ 60 * 60 := Nat.mul_le_mul hX60 hY60
    omega
  have HJM := Lib.hid hJm
  have hmm : mem M z = (mem X z && mem Y z) := by rw [← HML.out]; exact (meetL_ok HX4.out.st.nf HY4.out.st.nf).2 z
  have hjm := HJM.out z
  clear hn4 hb4 HJO hJm hJl HB3 HM3 HX2 HY2 HB2 hs24
  obtain ⟨bX, HbX⟩ : ∃ x, Hid (mem X z = x) := ⟨_, Lib.hid rfl⟩
  obtain ⟨bY, HbY⟩ : ∃ x, Hid (mem Y z = x) := ⟨_, Lib.hid rfl⟩
  obtain ⟨bM, HbM⟩ : ∃ x, Hid (mem M z = x) := ⟨_, Lib.hid rfl⟩
  obtain ⟨bJ, HbJ⟩ : ∃ x, Hid (mem J z = x) := ⟨_, Lib.hid rfl⟩
  rw [HbX.out, HbY.out, HbM.out] at hmm
  rw [HbX.out, HbY.out, HbJ.out] at hjm
  
  have HHX := Lib.hid (show ∀ W, Below w4.heap.size w4 W → Calls Try.prog 25 #[.pointer (some ⟨p1, 0, none⟩), .int .u64 z] W fun e w' => e = .returned (.bool bX) ∧ Below W.heap.size W w' from fun W hW => by
    have hs := (HX4.out.keep hW).st
    have := Has_any (some ⟨p1, 0, none⟩) X z W _ hs.setV hs.ltF hz hs.nf hs.fit
    rw [HbX.out] at this
    exact this)
  
  have HHY := Lib.hid (show ∀ W, Below w4.heap.size w4 W → Calls Try.prog 25 #[.pointer (some ⟨p2, 0, none⟩), .int .u64 z] W fun e w' => e = .returned (.bool bY) ∧ Below W.heap.size W w' from fun W hW => by
    have hs := (HY4.out.keep hW).st
    have := Has_any (some ⟨p2, 0, none⟩) Y z W _ hs.setV hs.ltF hz hs.nf hs.fit
    rw [HbY.out] at this
    exact this)
  
  have HHM := Lib.hid (show ∀ W, Below w4.heap.size w4 W → Calls Try.prog 25 #[.pointer (some ⟨p3, 0, none⟩), .int .u64 z] W fun e w' => e = .returned (.bool bM) ∧ Below W.heap.size W w' from fun W hW => by
    have hs := (HM4.out.keep hW).st
    have := Has_any (some ⟨p3, 0, none⟩) M z W _ hs.setV hs.ltF hz hs.nf hs.fit
    rw [HbM.out] at this
    exact this)
  
  have HHJ := Lib.hid (show ∀ W, Below w4.heap.size w4 W → Calls Try.prog 25 #[.pointer (some ⟨p4, 0, none⟩), .int .u64 z] W fun e w' => e = .returned (.bool bJ) ∧ Below W.heap.size W w' from fun W hW => by
    have hs := (HJ4.out.keep hW).st
    have := Has_any (some ⟨p4, 0, none⟩) J z W _ hs.setV hs.ltF hz hs.nf hs.fit
    rw [HbJ.out] at this
    exact this)
  
  have HH2 := Lib.hid (And.intro hmm hjm)
  clear hmm hjm
  go_upto_region 5 with fail
  go_cut [59] from 26 to 59 (fun s59 wx => s59 = .bool false ∧ Below w4.heap.size w4 wx)
  case first =>
    obtain ⟨hmm, hjm⟩ := HH2.out
    cases bX with
    | true =>
      simp only [Bool.true_and, Bool.true_or] at hmm hjm
      subst hmm hjm
      go_wp2_with fail
      refine (HHM.out w4 (Below.refl _ _)).mono ?_
      rintro e w5 ⟨rfl, hb5⟩
      have HB5 := Lib.hid hb5
      clear hb5
      go_wp2_with fail
      refine (HHX.out w5 HB5.out).mono ?_
      rintro e w6 ⟨rfl, hb6⟩
      have HB6 := Lib.hid (HB5.out.trans (hb6.mono HB5.out.size))
      clear hb6
      go_wp2_with fail
      refine (HHY.out w6 HB6.out).mono ?_
      rintro e w7 ⟨rfl, hb7⟩
      have HB7 := Lib.hid (HB6.out.trans (hb7.mono HB6.out.size))
      clear hb7
      go_wp2_with fail
      refine (HHJ.out w7 HB7.out).mono ?_
      rintro e w8 ⟨rfl, hb8⟩
      have HB8 := Lib.hid (HB7.out.trans (hb8.mono HB7.out.size))
      clear hb8
      go_wp2_with fail
      refine (HHX.out w8 HB8.out).mono ?_
      rintro e w9 ⟨rfl, hb9⟩
      have HB9 := Lib.hid (HB8.out.trans (hb9.mono HB8.out.size))
      clear hb9
      go_wp2_with fail
      go_meet
      exact ⟨rfl, HB9.out⟩
    | false =>
      simp only [Bool.false_and, Bool.false_or] at hmm hjm
      subst hmm hjm
      go_wp2_with fail
      refine (HHM.out w4 (Below.refl _ _)).mono ?_
      rintro e w5 ⟨rfl, hb5⟩
      have HB5 := Lib.hid hb5
      clear hb5
      go_wp2_with fail
      refine (HHX.out w5 HB5.out).mono ?_
      rintro e w6 ⟨rfl, hb6⟩
      have HB6 := Lib.hid (HB5.out.trans (hb6.mono HB5.out.size))
      clear hb6
      go_wp2_with fail
      refine (HHJ.out w6 HB6.out).mono ?_
      rintro e w7 ⟨rfl, hb7⟩
      have HB7 := Lib.hid (HB6.out.trans (hb7.mono HB6.out.size))
      clear hb7
      go_wp2_with fail
      refine (HHX.out w7 HB7.out).mono ?_
      rintro e w8 ⟨rfl, hb8⟩
      have HB8 := Lib.hid (HB7.out.trans (hb8.mono HB7.out.size))
      clear hb8
      go_wp2_with fail
      refine (HHY.out w8 HB8.out).mono ?_
      rintro e w9 ⟨rfl, hb9⟩
      have HB9 := Lib.hid (HB8.out.trans (hb9.mono HB8.out.size))
      clear hb9
      go_wp2_with fail
      go_meet
      exact ⟨rfl, HB9.out⟩
  case rest =>
    obtain ⟨rfl, hbc⟩ := hcut
    have HX5 := Lib.hid (HX4.out.keep hbc)
    have HY5 := Lib.hid (HY4.out.keep hbc)
    have HM5 := Lib.hid (HM4.out.keep hbc)
    have HJ5 := Lib.hid (HJ4.out.keep hbc)
    have HL5 := Lib.hid (show Below p1 w wc from HB4.out.trans (hbc.mono HX4.out.ltB))
    have HS5 := Lib.hid (show w4.heap.size ≤ wc.heap.size from hbc.size)
    clear hbc HX4 HY4 HM4 HJ4 HB4 HHX HHY HHM HHJ HH2 HbX HbY HbM HbJ
    have HZ := Lib.hid (Below.refl wc.heap.size wc)
    have HXs := Lib.hid (fun W (hW : Below wc.heap.size wc W) => HX5.out.keep hW)
    have HYs := Lib.hid (fun W (hW : Below wc.heap.size wc W) => HY5.out.keep hW)
    have HMs := Lib.hid (fun W (hW : Below wc.heap.size wc W) => HM5.out.keep hW)
    have HJs := Lib.hid (fun W (hW : Below wc.heap.size wc W) => HJ5.out.keep hW)
    have HME2 := Lib.hid (Meet_any wc (some ⟨p2, 0, none⟩) (some ⟨p1, 0, none⟩) (p2 :: rowOf v2) (p1 :: rowOf v1) Y X HY5.out.st.setV HX5.out.st.setV HY5.out.st.ltF HX5.out.st.ltF HY5.out.st.nf HX5.out.st.nf HY5.out.st.fit HX5.out.st.fit (by omega) (by omega))
    rw [meet_comm HX5.out.st.nf HY5.out.st.nf, HML.out] at HME2
    go_wp2_with fail
    refine HME2.out.mono ?_
    rintro e w10 ⟨p5, v5, rfl, hn5, hb10⟩
    have HN10 := Lib.hid hn5
    have HB10 := Lib.hid hb10
    clear hn5 hb10 HME2
    go_wp2_with fail
    refine (Runs_some w10 p5 _ M HN10.out.st).mono ?_
    rintro e u11 ⟨x11, rfl, hr, hb⟩
    obtain ⟨a11r, c11r, rfl, hro, -, -, -, -⟩ := hr.form
    have HTO := Lib.hid (told_any u11 a11r M c11r _ hro (Nat.le_refl _) (by omega))
    have HBR := Lib.hid (HB10.out.trans (hb.mono HB10.out.size))
    have HBC := Lib.hid hb
    clear hr hro hb
    go_wp2_with fail
    refine HTO.out.mono ?_
    rintro e w11 ⟨x11t, rfl, hr, hb⟩
    obtain ⟨a11, c11, rfl, hro, -, -, -, -⟩ := hr.form
    have HR11 := Lib.hid hro
    have HB11 := Lib.hid (HBR.out.trans (hb.mono HBR.out.size))
    have HB11x := Lib.hid (show Below w10.heap.size w10 w11 from HBC.out.trans (hb.mono HBC.out.size))
    clear hr hro hb HTO HBR HBC
    go_wp2_with fail
    refine (Runs_some w11 p3 _ M (HMs.out _ HB11.out).st).mono ?_
    rintro e u12 ⟨x12, rfl, hr, hb⟩
    obtain ⟨a12r, c12r, rfl, hro, -, -, -, -⟩ := hr.form
    have HTO := Lib.hid (told_any u12 a12r M c12r _ hro (Nat.le_refl _) (by omega))
    have HBR := Lib.hid (HB11.out.trans (hb.mono HB11.out.size))
    have HBC := Lib.hid hb
    clear hr hro hb
    go_wp2_with fail
    refine HTO.out.mono ?_
    rintro e w12 ⟨x12t, rfl, hr, hb⟩
    obtain ⟨a12, c12, rfl, hro, -, -, -, -⟩ := hr.form
    have HR12 := Lib.hid hro
    have HB12 := Lib.hid (HBR.out.trans (hb.mono HBR.out.size))
    have HB12x := Lib.hid (show Below w11.heap.size w11 w12 from HBC.out.trans (hb.mono HBC.out.size))
    clear hr hro hb HTO HBR HBC
    have hsa := Same_any w12 a11 a12 M M c11 c12 ((HR11.out.below HB12x.out (Nat.le_refl _)).mono HB12x.out.size) HR12.out (by omega) (by omega)
    rw [show decide (M = M) = true by simp] at hsa
    have HSA := Lib.hid hsa
    clear hsa HR11 HR12 HB12x HB11x
    go_wp2_with fail
    refine HSA.out.mono ?_
    rintro e w13 ⟨rfl, hb⟩
    have HB13 := Lib.hid (HB12.out.trans (hb.mono HB12.out.size))
    clear hb HSA
    have HJO2 := Lib.hid (Join_any w13 (some ⟨p2, 0, none⟩) (some ⟨p1, 0, none⟩) (p2 :: rowOf v2) (p1 :: rowOf v1) Y X (HYs.out _ HB13.out).st.setV (HXs.out _ HB13.out).st.setV HFXY.out.2 HFXY.out.1 (by omega) (by omega))
    go_wp2_with fail
    refine HJO2.out.mono ?_
    rintro e w20 ⟨p6, v6, J2, rfl, hn6, ⟨hJm, -⟩, hb20⟩
    have eJ : J2 = J := hn6.st.nf.ext HJ5.out.st.nf (fun q => by rw [hJm q, HJM.out q, Bool.or_comm])
    subst eJ
    have HN20 := Lib.hid hn6
    have HB20 := Lib.hid (HB13.out.trans (hb20.mono HB13.out.size))
    clear hn6 hJm hb20 HJO2
    go_wp2_with fail
    refine (Runs_some w20 p6 _ J2 HN20.out.st).mono ?_
    rintro e u21 ⟨x21, rfl, hr, hb⟩
    obtain ⟨a21r, c21r, rfl, hro, -, -, -, -⟩ := hr.form
    have HTO := Lib.hid (told_any u21 a21r J2 c21r _ hro (Nat.le_refl _) (by omega))
    have HBR := Lib.hid (HB20.out.trans (hb.mono HB20.out.size))
    have HBC := Lib.hid hb
    clear hr hro hb
    go_wp2_with fail
    refine HTO.out.mono ?_
    rintro e w21 ⟨x21t, rfl, hr, hb⟩
    obtain ⟨a21, c21, rfl, hro, -, -, -, -⟩ := hr.form
    have HR21 := Lib.hid hro
    have HB21 := Lib.hid (HBR.out.trans (hb.mono HBR.out.size))
    have HB21x := Lib.hid (show Below w20.heap.size w20 w21 from HBC.out.trans (hb.mono HBC.out.size))
    clear hr hro hb HTO HBR HBC
    go_wp2_with fail
    refine (Runs_some w21 p4 _ J2 (HJs.out _ HB21.out).st).mono ?_
    rintro e u22 ⟨x22, rfl, hr, hb⟩
    obtain ⟨a22r, c22r, rfl, hro, -, -, -, -⟩ := hr.form
    have HTO := Lib.hid (told_any u22 a22r J2 c22r _ hro (Nat.le_refl _) (by omega))
    have HBR := Lib.hid (HB21.out.trans (hb.mono HB21.out.size))
    have HBC := Lib.hid hb
    clear hr hro hb
    go_wp2_with fail
    refine HTO.out.mono ?_
    rintro e w22 ⟨x22t, rfl, hr, hb⟩
    obtain ⟨a22, c22, rfl, hro, -, -, -, -⟩ := hr.form
    have HR22 := Lib.hid hro
    have HB22 := Lib.hid (HBR.out.trans (hb.mono HBR.out.size))
    have HB22x := Lib.hid (show Below w21.heap.size w21 w22 from HBC.out.trans (hb.mono HBC.out.size))
    clear hr hro hb HTO HBR HBC
    have hsa := Same_any w22 a21 a22 J2 J2 c21 c22 ((HR21.out.below HB22x.out (Nat.le_refl _)).mono HB22x.out.size) HR22.out (by omega) (by omega)
    rw [show decide (J2 = J2) = true by simp] at hsa
    have HSA := Lib.hid hsa
    clear hsa HR21 HR22 HB22x HB21x
    go_wp2_with fail
    refine HSA.out.mono ?_
    rintro e w23 ⟨rfl, hb⟩
    have HB23 := Lib.hid (HB22.out.trans (hb.mono HB22.out.size))
    clear hb HSA
    have HME3 := Lib.hid (Meet_any w23 (some ⟨p1, 0, none⟩) (some ⟨p1, 0, none⟩) (p1 :: rowOf v1) (p1 :: rowOf v1) X X (HXs.out _ HB23.out).st.setV (HXs.out _ HB23.out).st.setV (HXs.out _ HB23.out).st.ltF (HXs.out _ HB23.out).st.ltF HX5.out.st.nf HX5.out.st.nf HX5.out.st.fit HX5.out.st.fit (by omega) (by omega))
    rw [meet_self HX5.out.st.nf] at HME3
    go_wp2_with fail
    refine HME3.out.mono ?_
    rintro e w30 ⟨p7, v7, rfl, hn7, hb30⟩
    have HN30 := Lib.hid hn7
    have HB30 := Lib.hid (HB23.out.trans (hb30.mono HB23.out.size))
    clear hn7 hb30 HME3
    go_wp2_with fail
    refine (Runs_some w30 p7 _ X HN30.out.st).mono ?_
    rintro e u31 ⟨x31, rfl, hr, hb⟩
    obtain ⟨a31r, c31r, rfl, hro, -, -, -, -⟩ := hr.form
    have HTO := Lib.hid (told_any u31 a31r X c31r _ hro (Nat.le_refl _) (by omega))
    have HBR := Lib.hid (HB30.out.trans (hb.mono HB30.out.size))
    have HBC := Lib.hid hb
    clear hr hro hb
    go_wp2_with fail
    refine HTO.out.mono ?_
    rintro e w31 ⟨x31t, rfl, hr, hb⟩
    obtain ⟨a31, c31, rfl, hro, -, -, -, -⟩ := hr.form
    have HR31 := Lib.hid hro
    have HB31 := Lib.hid (HBR.out.trans (hb.mono HBR.out.size))
    have HB31x := Lib.hid (show Below w30.heap.size w30 w31 from HBC.out.trans (hb.mono HBC.out.size))
    clear hr hro hb HTO HBR HBC
    go_wp2_with fail
    refine (Runs_some w31 p1 _ X (HXs.out _ HB31.out).st).mono ?_
    rintro e u32 ⟨x32, rfl, hr, hb⟩
    obtain ⟨a32r, c32r, rfl, hro, -, -, -, -⟩ := hr.form
    have HTO := Lib.hid (told_any u32 a32r X c32r _ hro (Nat.le_refl _) (by omega))
    have HBR := Lib.hid (HB31.out.trans (hb.mono HB31.out.size))
    have HBC := Lib.hid hb
    clear hr hro hb
    go_wp2_with fail
    refine HTO.out.mono ?_
    rintro e w32 ⟨x32t, rfl, hr, hb⟩
    obtain ⟨a32, c32, rfl, hro, -, -, -, -⟩ := hr.form
    have HR32 := Lib.hid hro
    have HB32 := Lib.hid (HBR.out.trans (hb.mono HBR.out.size))
    have HB32x := Lib.hid (show Below w31.heap.size w31 w32 from HBC.out.trans (hb.mono HBC.out.size))
    clear hr hro hb HTO HBR HBC
    have hsa := Same_any w32 a31 a32 X X c31 c32 ((HR31.out.below HB32x.out (Nat.le_refl _)).mono HB32x.out.size) HR32.out (by omega) (by omega)
    rw [show decide (X = X) = true by simp] at hsa
    have HSA := Lib.hid hsa
    clear hsa HR31 HR32 HB32x HB31x
    go_wp2_with fail
    refine HSA.out.mono ?_
    rintro e w33 ⟨rfl, hb⟩
    have HB33 := Lib.hid (HB32.out.trans (hb.mono HB32.out.size))
    clear hb HSA
    go_wp2_with fail
    refine (Runs_some w33 p2 _ Y (HYs.out _ HB33.out).st).mono ?_
    rintro e w34 ⟨x34, rfl, hr, hb⟩
    obtain ⟨a34, c34, rfl, hro, -, -, -, hbk⟩ := hr.form
    have HB34 := Lib.hid (HB33.out.trans (hb.mono HB33.out.size))
    have HRO := Lib.hid hro
    have HBK := Lib.hid hbk
    have HS33 := Lib.hid (show p2 ≤ w33.heap.size by have h1 := HS24.out; have h2 := HS5.out; have h3 := HB33.out.size; omega)
    clear hr hro hb hbk
    obtain ⟨nY, HNY⟩ : ∃ q, Hid (Y.length = q) := ⟨_, Lib.hid rfl⟩
    rw [HNY.out] at HBK ⊢
    have HX34 := Lib.hid (HXs.out _ HB34.out)
    have HY34 := Lib.hid (HYs.out _ HB34.out)
    have HJ34 := Lib.hid (HJs.out _ HB34.out)
    have HL34 := Lib.hid (show Below p1 w w34 from HL5.out.trans (HB34.out.mono HX5.out.ltB))
    have hnY : nY ≤ 60 := by have := HNY.out; omega
    clear HXs HYs HMs HJs HX5 HY5 HM5 HJ5 HB34 HB33 HN30 HN20 HN10
    obtain ⟨Z0, HZ0⟩ : ∃ q, Hid (w34.heap.size = q) := ⟨_, Lib.hid rfl⟩
    go_wp2_with fail
    go_loopw [15] (fun i wr => ∃ (k : Nat) (v : Value), i = .int .i64 k ∧ k ≤ nY ∧ New wr p1 p1 v (lessL X (Y.take k)) ∧ Mid p2 Z0 w34 wr ∧ Below p1 w wr ∧ (∀ g, v.ownBlock = some g → g < p2 ∨ Z0 ≤ g) ∧ Z0 ≤ wr.heap.size) (fun i _ => nY - (intOf i).toNat)
    case atStart => exact ⟨0, v1, rfl, Nat.zero_le _, HX34.out, Mid.refl _ _ _, HL34.out, fun g hg => .inl (HV1.out g hg), by rw [HZ0.out]; exact Nat.le_refl _⟩
    case round =>
      obtain ⟨k, v, rfl, hk, hn, hmid, hlo, hvb, hzs⟩ := hrel
      by_cases hlt : k < nY
      · have hkL : k < Y.length := by rw [HNY.out]; exact hlt
        obtain ⟨g, off, rfl, hg, hcl⟩ := HRO.out.rn (by omega)
        obtain ⟨rfl, _, hg2, hg3, _⟩ := HBK.out _ _ _ rfl
        have hgp : p2 ≤ g := by have := HS33.out; omega
        have hgz : g < Z0 := by rw [← HZ0.out]; exact hg
        have hcc := hcl k hkL
        have hx1 : wr.cell? ⟨g, k * 2, none⟩ = some (.int .u64 ((el Y k).1 : Int)) := by
          rw [World.cell?_of_block (w := w34) (hmid.2 g hgp hgz), show k * 2 = 0 + k * 2 by omega]; exact hcc.1
        have hx2 : wr.cell? ⟨g, k * 2 + 1, none⟩ = some (.int .u64 ((el Y k).2 : Int)) := by
          rw [World.cell?_of_block (w := w34) (hmid.2 g hgp hgz), show k * 2 + 1 = 0 + k * 2 + 1 by omega]; exact hcc.2
        have hll := (lessL_ok HX34.out.st.nf (Y.take k)).2.2
        rw [List.length_take] at hll
        have HDR := Lib.hid (drop_any wr p1 v (lessL X (Y.take k)) hn.st (el Y k) (HFXY.out.2 _ (el_mem hkL)) (by omega))
        have HT := Lib.hid (show lessL X (Y.take (k + 1)) = cutL (lessL X (Y.take k)) (el Y k) by rw [take_snoc_el hkL, lessL_snoc])
        have hd1 : decide (k < nY) = true := by simpa using hlt
        have hk0 : (0 : Int) ≤ (k : Int) := by omega
        have hk1 : (k : Int) < (nY : Int) := by omega
        have hkb : (k : Int) ≤ 4000000 := by omega
        have hkn : k + 1 ≤ nY := hlt
        have HKM := Lib.hid (show nY - (k + 1) < nY - k by omega)
        have HNW := Lib.hid hn
        have HMD := Lib.hid hmid
        have HLO := Lib.hid hlo
        have HVB := Lib.hid hvb
        clear hcl hcc hll hn hmid hlo hvb hlt
        generalize el Y k = x at *
        go_wp2_with (go_at_call 13; refine HDR.out.mono ?_; rintro e w35 hp; obtain ⟨v35, rfl, hst, hch, hnb⟩ := hp)
        have hn2 := HNW.out.drp hst hnb
        have hm2 := HMD.out.chg hch hzs (fun q h1 h2 hq => by
          rcases List.mem_cons.1 hq with rfl | hq
          · omega
          · have := HVB.out q (mem_rowOf.1 hq); omega)
        have hl2 := below_chg HLO.out hch HNW.out.ltB HNW.out.blocks
        have hv2 : ∀ g, v35.ownBlock = some g → g < p2 ∨ Z0 ≤ g := fun g hg => by
          rcases hnb with hn | hn
          · exact HVB.out g (by rw [← hn]; exact hg)
          · exact .inr (Nat.le_trans hzs (hn g hg))
        have hz2 := Nat.le_trans hzs hch.size
        clear hst hch hnb
        go_roundw
        case rel => exact ⟨k + 1, v35, by go_num, hkn, by rw [HT.out]; exact hn2, hm2, hl2, hv2, hz2⟩
        case measure => have := HKM.out; simp [intOf]; omega
      · have ht : Y.take k = Y := List.take_of_length_le (by rw [HNY.out]; omega)
        rw [ht] at hn
        have hd1 : decide (k < nY) = false := by simpa using hlt
        obtain ⟨X3, HX3⟩ : ∃ q, Hid (lessL X Y = q) := ⟨_, Lib.hid rfl⟩
        obtain ⟨h3n, h3m, h3l⟩ := lessL_ok HX34.out.st.nf Y
        have h3e := meet_less HX34.out.st.nf HY34.out.st.nf
        rw [HX3.out] at hn h3n h3l h3e
        simp only [HX3.out] at h3m
        have HY40 := Lib.hid (HY34.out.midSame hmid (Nat.le_refl _) (by rw [HZ0.out]; exact Nat.le_refl _))
        have HJ40 := Lib.hid (HJ34.out.midSame hmid (by have := HS24.out; omega) (by rw [HZ0.out]; exact Nat.le_refl _))
        have HX40 := Lib.hid hn
        have HL40 := Lib.hid hlo
        have hx3l : X3.length ≤ 120 := by omega
        have H3M := Lib.hid h3m
        have H3E := Lib.hid h3e
        clear hn hmid hlo hvb hlt ht h3n h3m h3l h3e HY34 HJ34 HX34 HL34 HRO HBK
        go_wp2_with fail
        refine (alive_any _).mono ?_
        rintro e w41 ⟨rfl, hb41⟩
        have HX41 := Lib.hid (HX40.out.keep hb41)
        have HY41 := Lib.hid (HY40.out.keep hb41)
        have HJ41 := Lib.hid (HJ40.out.keep hb41)
        have HL41 := Lib.hid (HL40.out.trans (hb41.mono HX40.out.ltB))
        clear hb41 HX40 HY40 HJ40 HL40
        have HME4 := Lib.hid (Meet_any w41 (some ⟨p1, 0, none⟩) (some ⟨p2, 0, none⟩) (p1 :: rowOf v) (p2 :: rowOf v2) X3 Y HX41.out.st.setV HY41.out.st.setV HX41.out.st.ltF HY41.out.st.ltF HX41.out.st.nf HY41.out.st.nf HX41.out.st.fit HY41.out.st.fit (by omega) (by omega))
        rw [H3E.out] at HME4
        go_wp2_with fail
        refine HME4.out.mono ?_
        rintro e w42 ⟨p8, v8, rfl, hn8, hb42⟩
        have HN42 := Lib.hid hn8
        have HB42 := Lib.hid hb42
        clear hn8 hb42 HME4
        go_wp2_with fail
        refine (Runs_some w42 p8 _ [] HN42.out.st).mono ?_
        rintro e w43 ⟨x43, rfl, hr, hb⟩
        obtain ⟨a43, c43, rfl, -, -, -, -, -⟩ := hr.form
        have HB43 := Lib.hid (HB42.out.trans (hb.mono HB42.out.size))
        rw [List.length_nil]
        clear hr hb HN42
        have hf3 := fit_el HX41.out.st.fit HX41.out.st.nf
        have HJO4 := Lib.hid (Join_any w43 (some ⟨p1, 0, none⟩) (some ⟨p2, 0, none⟩) (p1 :: rowOf v) (p2 :: rowOf v2) X3 Y (HX41.out.keep HB43.out).st.setV (HY41.out.keep HB43.out).st.setV hf3 HFXY.out.2 (by omega) (by omega))
        clear hf3
        go_wp2_with fail
        refine HJO4.out.mono ?_
        rintro e w44 ⟨p9, v9, J3, rfl, hn9, ⟨hJm, -⟩, hb44⟩
        have eJ : J3 = J2 := hn9.st.nf.ext HJ41.out.st.nf (fun q => by
          rw [hJm q, H3M.out q, HJM.out q]
          cases mem X q <;> cases mem Y q <;> rfl)
        subst eJ
        have HB44 := Lib.hid (HB43.out.trans (hb44.mono HB43.out.size))
        have hc1 := Count_any (some ⟨p9, 0, none⟩) J3 w44 _ hn9.st.setV hn9.st.ltF hn9.st.nf hn9.st.fit
        have hj44 := HJ41.out.keep HB44.out
        have hc2 := fun W (hW : Below w44.heap.size w44 W) => Count_any (some ⟨p4, 0, none⟩) J3 W _ (hj44.keep hW).st.setV (hj44.keep hW).st.ltF hj44.st.nf hj44.st.fit
        generalize cnt J3 = cj at hc1 hc2
        have HC1 := Lib.hid hc1
        have HC2 := Lib.hid hc2
        clear hn9 hJm hb44 HJO4 hc1 hc2 hj44
        go_wp2_with fail
        refine HC1.out.mono ?_
        rintro e w45 ⟨rfl, hb45⟩
        go_wp2_with fail
        refine (HC2.out w45 hb45).mono ?_
        rintro e w46 ⟨rfl, hb46⟩
        go_wp2_with fail
        go_ret
        have hbb := HB44.out.trans ((hb45.trans (hb46.mono hb45.size)).mono HB44.out.size)
        exact ⟨rfl, HL41.out.trans (hbb.mono HX41.out.ltB)⟩
theorem runsMeets_walkI (w : World) (a b : Option Addr) (A B : List Rn) (c d : Nat) (z : Int) (ha : Ro w w.heap.size a (rcs A)) (hfa : ∀ r ∈ A, Fit r) (hla : A.length ≤ 9223372036854775807)
    (hb : Ro w w.heap.size b (rcs B)) (hfb : ∀ r ∈ B, Fit r) (hlb : B.length ≤ 9223372036854775807) (hz : (Lit.int .u64 z).wf = true) :
    Calls Try.prog 9 #[.slice a A.length c, .slice b B.length d, .int .u64 z] w fun e w' => e = .returned (.bool true) ∧ Below w.heap.size w w' := by
  have h := bounds_u64 hz
  obtain ⟨k, rfl⟩ := Int.eq_ofNat_of_zero_le h.1
  exact runsMeets_walk w a b A B c d k ha hfa hla hb hfb hlb (by omega)
end Go.Proofs.Ytoadbkiklabceaa
