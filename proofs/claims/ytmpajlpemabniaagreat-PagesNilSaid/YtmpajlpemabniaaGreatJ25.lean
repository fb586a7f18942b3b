/-
  Sorting of uint64: the breaking of patterns. No claim of their own.
-/
import Derived.Test.YtmpajlpemabniaaGreatJ24
import Derived.Test.YtmpajlpemabniaaGreatSoG
import Derived.Test.YtmpajlpemabniaaGreatShelf
import Derived.Sort.AssemblyPlain
import Derived.Test.YtmpajlpemabniaaGreatJ35
namespace Go.Proofs.YtmpajlpemabniaaGreat
open Go.RowKit Go.Sort Go.Shelf
set_option linter.unusedVariables false
set_option linter.unusedSimpArgs false

/-- the row is d, the random number r, seen from w1 -/
def Bp (w1 : World) (g : Nat) (d : Array Int) (z : List Value) (sb : Nat) (r : UInt64) (w' : World) : Prop := Uw w' g d z ∧ Own w' sb 306 [.int .u64 (r.toNat : Int)] ∧ Chg [g, sb] w1 w'
theorem Bp.swap {w1 w' : World} {g : Nat} {d : Array Int} {z : List Value} {sb : Nat} {r : UInt64} (h : Bp w1 g d z sb r w') (hgs : g ≠ sb) (i j : Nat) (hi : i < d.size) (hj : j < d.size) {x y : Int} (hx : d[i]! = x) (hy : d[j]! = y) :
    Bp w1 g (swp d i j) z sb r ((w'.setCell ⟨g, i, none⟩ (.int .u64 y)).setCell ⟨g, j, none⟩ (.int .u64 x)).drew := by
  subst hx hy
  exact ⟨h.1.swap i j hi hj, (h.2.1.far (p := ⟨g, i, none⟩) (fun e => hgs e.symm) _).far (p := ⟨g, j, none⟩) (fun e => hgs e.symm) _, ((h.2.2.setCell (.inl (by simp)) _).setCell (.inl (by simp)) _).drew⟩
set_option maxHeartbeats 4000000 in
set_option maxRecDepth 100000 in
theorem breakPatterns_any (w : World) (g N c a b : Nat) (d : Array Int) (z : List Value) (h : Uw w g d z) (hN : d.size = N) (hab : a + 8 ≤ b) (hb : b ≤ N) (hsz : N < 1000000000) :
    Calls Tryz.prog 253 #[.slice (some ⟨g, 0, none⟩) N c, .int .i64 (a : Int), .int .i64 (b : Int)] w fun e w' => e = .returned (.tuple #[]) ∧ Hid (Sd w g (breakPatterns d a b) z w') := by
  obtain ⟨L, hL⟩ : ∃ L, b = a + L := ⟨b - a, by omega⟩
  obtain ⟨q, hq⟩ : ∃ q, q = L / 4 := ⟨_, rfl⟩
  obtain ⟨q2, hq2⟩ : ∃ q, q = L / 4 * 2 := ⟨_, rfl⟩
  obtain ⟨s, hs⟩ : ∃ q, q = a + q2 := ⟨_, rfl⟩
  obtain ⟨i0, hi0⟩ : ∃ q, q = a + L / 4 * 2 - 1 := ⟨_, rfl⟩
  obtain ⟨top, htop⟩ : ∃ q, q = i0 + 2 := ⟨_, rfl⟩
  have e1 : IntKind.i64.wrap ((b : Int) - (a : Int)) = (L : Int) := wrapN (by omega) (by omega)
  have e2 : (L : Int) / 4 = (q : Int) := by omega
  have e3 : Int.tdiv (L : Int) 4 = (q : Int) := by rw [Int.tdiv_eq_ediv_of_nonneg (by omega)]; omega
  have e4 : IntKind.i64.wrap (q : Int) = (q : Int) := wrapN rfl (by omega)
  have e5 : IntKind.i64.wrap ((q : Int) * 2) = (q2 : Int) := wrapN (by omega) (by omega)
  have e6 : IntKind.i64.wrap ((a : Int) + (q2 : Int)) = (s : Int) := wrapN (by omega) (by omega)
  have e7 : IntKind.i64.wrap ((s : Int) - 1) = (i0 : Int) := wrapN (by omega) (by omega)
  have e8 : IntKind.i64.wrap ((s : Int) + 1) = (top : Int) := wrapN (by omega) (by omega)
  have e9 : IntKind.u64.wrap (L : Int) = (L : Int) := by rw [IntKind.wrap_u64]; omega
  have d8 : decide (8 ≤ (L : Int)) = true := decide_eq_true (by omega)
  obtain ⟨M, hM⟩ : ∃ M : Nat, M = 1 <<< bitsLen L := ⟨_, rfl⟩
  have hM1 : 1 ≤ M := by rw [hM, Nat.one_shiftLeft]; exact Nat.two_pow_pos _
  have hM2 : M ≤ 2 * L := by rw [hM, Nat.one_shiftLeft]; exact two_pow_bitsLen_le (by omega)
  have hNP : ∀ w, Calls Tryz.prog 263 #[.int .i64 (L : Int)] w fun e w' => e = .returned (.int .u64 (M : Int)) ∧ w' = w := by rw [hM]; exact fun w => AnyF.nextPowerOfTwo nextA L (by omega) w
  have HT0 := Lib.hid (show breakPatterns d a b = bpRest a L M i0 3 0 (UInt64.ofNat L, d) by rw [hL, breakPatterns_eq d a L (by omega), hM, hi0])
  rw [HT0.out]
  have HNP := Lib.hid hNP
  clear hNP hM HT0
  obtain ⟨m1, hm1⟩ : ∃ m, M = m + 1 := ⟨M - 1, by omega⟩
  have em : IntKind.u64.wrap ((M : Int) - 1) = (m1 : Int) := by rw [IntKind.wrap_u64]; omega
  have HU := Lib.hid h
  obtain ⟨sb, hsb⟩ : ∃ x, Hid (w.heap.size = x) := ⟨_, Lib.hid rfl⟩
  obtain ⟨w1, HW1⟩ : ∃ W, Hid (w.alloc (.cells #[.int .u64 (L : Int)] 306) = W) := ⟨_, Lib.hid rfl⟩
  have HI0 := Lib.hid (show Bp w1 g d z sb (UInt64.ofNat L) w1 from ⟨by rw [← HW1.out]; exact Own.alloc h _, by rw [← HW1.out, ← hsb.out, show (UInt64.ofNat L).toNat = L from by simp; omega]; exact Own.new w _ _, Chg.refl _ _⟩)
  have HC := Lib.hid (show Chg [] w w1 from by rw [← HW1.out]; exact (Chg.refl [] w).alloc _)
  have hgs : g ≠ sb := by have := Own.lt h; have := hsb.out; omega
  have HH := Lib.hid (show b = a + L ∧ i0 + 2 < a + L ∧ M ≤ 2 * L ∧ M = m1 + 1 ∧ top = i0 + 2 ∧ 8 ≤ L from ⟨hL, by omega, hM2, hm1, htop, by omega⟩)
  have hbN : a + L ≤ N := by omega
  have haL : L < 1000000000 := by omega
  clear h hL hq hq2 hs hi0 htop hM1 hM2 hm1 hab hb
  go_enter Tryz.func253, Tryz.ntmps253
  go_wp2_with fail
  rw [HW1.out, hsb.out]
  refine (HNP.out _).mono ?_
  rintro e w' ⟨rfl, rfl⟩
  go_wp2_with fail
  go_loopw [9, 10] (fun v _ wr => ∃ (t p : Nat) (r : UInt64) (dk : Array Int), v = .int .i64 (p : Int) ∧ p = i0 + t ∧ t ≤ 3 ∧ dk.size = N ∧ Hid (Bp w' g dk z sb r wr) ∧ Hid (bpRest a L M i0 (3 - t) t (r, dk) = bpRest a L M i0 3 0 (UInt64.ofNat L, d))) (fun v _ _ => i0 + 3 - (intOf v).toNat)
  case atStart => exact ⟨0, i0, UInt64.ofNat L, d, rfl, rfl, by omega, hN, HI0, Lib.hid rfl⟩
  case round =>
    obtain ⟨t, p, r, dk, rfl, hp, ht, hsk, HI, HR⟩ := hrel
    have HP := Lib.hid hp
    clear hp
    by_cases ht3 : t < 3
    · have dt : decide (p ≤ top) = true := decide_eq_true (by have := HP.out; have := HH.out; omega)
      obtain ⟨R', hR'⟩ : ∃ R' : Nat, R' = xorNextN r.toNat := ⟨_, rfl⟩
      have lR' : R' < 18446744073709551616 := by rw [hR']; exact xorNextN_lt _ r.toNat_lt
      obtain ⟨O, hO⟩ : ∃ O : Nat, O = R' &&& m1 := ⟨_, rfl⟩
      have lO : O ≤ m1 := by rw [hO]; exact Nat.and_le_right
      have eAnd : bits .and .u64 (R' : Int) (m1 : Int) = (O : Int) := by
        rw [bits_and_u64_nat _ _ lR' (by have := HH.out; omega), hO]
      have eO : IntKind.i64.wrap (O : Int) = (O : Int) := wrapN rfl (by have := HH.out; omega)
      have hRe : R' = (xorNext r).toNat := by rw [hR', xorNext_toNat]
      have cR : wr.cell? ⟨sb, 0, none⟩ = some (.int .u64 (r.toNat : Int)) := by rw [HI.out.2.1.cell]; rfl
      have HX := Lib.hid (show Calls Tryz.prog 264 #[.pointer (some ⟨sb, 0, none⟩)] wr fun e w' => e = .returned (.int .u64 (R' : Int)) ∧ w' = (wr.setCell ⟨sb, 0, none⟩ (.int .u64 (R' : Int))).drewN 3 from by rw [hR']; exact AnyF.xorshift_Next xorA sb 0 r.toNat r.toNat_lt wr cR (HI.out.2.1.frozen 0))
      obtain ⟨W4, HW4⟩ : ∃ W, Hid ((wr.setCell ⟨sb, 0, none⟩ (.int .u64 (R' : Int))).drewN 3 = W) := ⟨_, Lib.hid rfl⟩
      have HI4 := Lib.hid (show Bp w' g dk z sb (xorNext r) W4 from by
        rw [← HW4.out]
        refine ⟨(HI.out.1.far (p := ⟨sb, 0, none⟩) hgs _), ?_, (HI.out.2.2.setCell (.inl (by simp)) _).drewN 3⟩
        have := HI.out.2.1.set 0 (.int .u64 (R' : Int))
        rw [hRe] at this ⊢
        exact this)
      rw [HW4.out] at HX
      have STEP := Lib.hid (fun o => bp_step (α := Int) a L M i0 t r dk o ht3)
      rw [← hRe, show M - 1 = m1 by have := HH.out; omega, ← hO] at STEP
      have HT := Lib.hid (And.intro HP.out (And.intro ht3 lR'))
      have hpN : p < N := by have := HP.out; have := HH.out; omega
      have hps : (p : Int) < 1000000000 := by omega
      have lO2 : O < 2000000000 := by have := HH.out; omega
      clear HI hR' hO hRe cR ht3
      rename World => wOld
      by_cases hLO : L ≤ O
      · have dLO : decide ((L : Int) ≤ (O : Int)) = true := decide_eq_true (by omega)
        have dLO' : decide (L ≤ O) = true := decide_eq_true hLO
        obtain ⟨O2, hO2⟩ : ∃ x, x = O - L := ⟨_, rfl⟩
        obtain ⟨e, he⟩ : ∃ x, x = a + O2 := ⟨_, rfl⟩
        have eS : IntKind.i64.wrap ((O : Int) - (L : Int)) = (O2 : Int) := wrapN (by omega) (by omega)
        have eE : IntKind.i64.wrap ((a : Int) + (O2 : Int)) = (e : Int) := wrapN (by omega) (by have := HH.out; omega)
        have HRR := Lib.hid ((STEP.out O2 (by rw [if_pos (show O ≥ L from hLO), hO2])).symm.trans HR.out)
        rw [← HP.out, ← he] at HRR
        have heN : e < N := by have := HH.out; omega
        have HI := HI4
        clear hLO hO2 he STEP HR HI4
        go_wp2_with fail
        refine HX.out.mono ?_
        rintro e4 w4 ⟨rfl, rfl⟩
        have q0 := HI.out.1.cell p (by omega)
        have q1 := HI.out.1.cell e (by omega)
        have f0 := Own.frozen HI.out.1 p
        have f1 := Own.frozen HI.out.1 e
        have hgl := Own.lt HI.out.1
        obtain ⟨xi, hxi⟩ : ∃ x, Hid (dk[p]! = x) := ⟨_, Lib.hid rfl⟩
        obtain ⟨xe, hxe⟩ : ∃ x, Hid (dk[e]! = x) := ⟨_, Lib.hid rfl⟩
        rw [hxi.out] at q0
        rw [hxe.out] at q1
        have n0 : (0 : Int) ≤ (p : Int) := by omega
        have n1 : (0 : Int) ≤ (e : Int) := by omega
        have b0 : (p : Int) < (N : Int) := by omega
        have b1 : (e : Int) < (N : Int) := by omega
        obtain ⟨v3, hy3⟩ := cell?_setCell_some (w := w4) (p := ⟨g, p, none⟩) (x := .int .u64 xe) (q := ⟨g, e, none⟩) q1
        go_wp2_with fail
        go_region
        go_wp2_with fail
        go_roundw
        case rel => exact ⟨t + 1, p + 1, xorNext r, swp dk p e, by go_num, by have := HT.out; omega, by have := HT.out; omega, by rw [size_swp2]; exact hsk, Lib.hid (HI.out.swap hgs p e (by omega) (by omega) hxi.out hxe.out), HRR⟩
        case measure => simp [intOf]; have := HT.out; omega
      · have dLO : decide ((L : Int) ≤ (O : Int)) = false := decide_eq_false (by omega)
        have dLO' : decide (L ≤ O) = false := decide_eq_false hLO
        obtain ⟨e, he⟩ : ∃ x, x = a + O := ⟨_, rfl⟩
        have eE : IntKind.i64.wrap ((a : Int) + (O : Int)) = (e : Int) := wrapN (by omega) (by have := HH.out; omega)
        have HRR := Lib.hid ((STEP.out O (by rw [if_neg (show ¬ O ≥ L from hLO)])).symm.trans HR.out)
        rw [← HP.out, ← he] at HRR
        have heN : e < N := by have := HH.out; omega
        have HI := HI4
        clear hLO he STEP HR HI4
        go_wp2_with fail
        refine HX.out.mono ?_
        rintro e4 w4 ⟨rfl, rfl⟩
        have q0 := HI.out.1.cell p (by omega)
        have q1 := HI.out.1.cell e (by omega)
        have f0 := Own.frozen HI.out.1 p
        have f1 := Own.frozen HI.out.1 e
        have hgl := Own.lt HI.out.1
        obtain ⟨xi, hxi⟩ : ∃ x, Hid (dk[p]! = x) := ⟨_, Lib.hid rfl⟩
        obtain ⟨xe, hxe⟩ : ∃ x, Hid (dk[e]! = x) := ⟨_, Lib.hid rfl⟩
        rw [hxi.out] at q0
        rw [hxe.out] at q1
        have n0 : (0 : Int) ≤ (p : Int) := by omega
        have n1 : (0 : Int) ≤ (e : Int) := by omega
        have b0 : (p : Int) < (N : Int) := by omega
        have b1 : (e : Int) < (N : Int) := by omega
        obtain ⟨v3, hy3⟩ := cell?_setCell_some (w := w4) (p := ⟨g, p, none⟩) (x := .int .u64 xe) (q := ⟨g, e, none⟩) q1
        go_wp2_with fail
        go_region
        go_wp2_with fail
        go_roundw
        case rel => exact ⟨t + 1, p + 1, xorNext r, swp dk p e, by go_num, by have := HT.out; omega, by have := HT.out; omega, by rw [size_swp2]; exact hsk, Lib.hid (HI.out.swap hgs p e (by omega) (by omega) hxi.out hxe.out), HRR⟩
        case measure => simp [intOf]; have := HT.out; omega
    · have dt : decide (p ≤ top) = false := decide_eq_false (by have := HP.out; have := HH.out; omega)
      have HRR := Lib.hid (show dk = bpRest a L M i0 3 0 (UInt64.ofNat L, d) by rw [← HR.out, show t = 3 by omega]; rfl)
      clear ht3
      go_wp2_with fail
      go_end0
      refine ⟨rfl, Lib.hid ?_⟩
      rw [← HRR.out]
      exact ⟨HI.out.1, (HC.out.mono (by simp)).then HI.out.2.2 (by simp; exact .inr (by rw [hsb.out]; exact Nat.le_refl _))⟩
end Go.Proofs.YtmpajlpemabniaaGreat
namespace Go.Proofs.YtmpajlpemabniaaGreat
open Go.RowKit Go.Sort Go.Shelf
set_option linter.unusedVariables false
set_option linter.unusedSimpArgs false

/-- what is sorted from a' to b' is, with the rest of dk, d in order -/
def Fin_ (a b : Nat) (d : Array Int) (a' b' : Nat) (dk : Array Int) : Prop := ∀ R, PermIn a' b' dk R → SortedIn ltInt a' b' R → PermIn a b d R ∧ SortedIn ltInt a b R
/-- d in order from a to b, in block g -/
def Ordered (w : World) (g : Nat) (a b : Nat) (d : Array Int) (z : List Value) (w' : World) : Prop := ∃ R, PermIn a b d R ∧ SortedIn ltInt a b R ∧ Sd w g R z w'
theorem ptrans {a b : Nat} {d d1 d2 : Array Int} (h : PermIn a b d d1) (k : PermIn a b d1 d2) : PermIn a b d d2 := permIn_trans _ _ _ a b h k
set_option maxHeartbeats 8000000 in
set_option maxRecDepth 1000000 in
theorem pdq_any : ∀ (n : Nat) (w : World) (g N c a b lim : Nat) (d : Array Int) (z : List Value), b - a < n → Uw w g d z → d.size = N → a ≤ b → b ≤ N → N < 1000000000 → lim ≤ 1000 → Below ltInt a b d →
    Calls Tryz.prog 229 #[.slice (some ⟨g, 0, none⟩) N c, .int .i64 (a : Int), .int .i64 (b : Int), .int .i64 (lim : Int)] w fun e w' => e = .returned (.tuple #[]) ∧ Hid (Ordered w g a b d z w') := by
  intro n
  induction n with
  | zero => intro _ _ _ _ _ _ _ _ _ h; exact absurd h (Nat.not_lt_zero _)
  | succ n ih =>
    intro w g N c a b lim d z hn h hN hab hb hsz hlim hBel
    have HS0 := Lib.hid (Sd.refl h)
    have IH := Lib.hid ih
    have HB0 := Lib.hid hBel
    obtain ⟨K, hK⟩ : ∃ K, Hid (K = b - a) := ⟨_, Lib.hid rfl⟩
    have HKn := Lib.hid hn
    clear h ih hBel hn
    go_enter Tryz.func229, Tryz.ntmps229
    go_wp2_with fail
    go_loopw [1, 2, 3, 8, 9] (fun v1 v2 v3 v8 v9 wr => ∃ (a' b' l' : Nat) (wb wp : Bool) (dk : Array Int), v1 = .int .i64 (a' : Int) ∧ v2 = .int .i64 (b' : Int) ∧ v3 = .int .i64 (l' : Int) ∧ v8 = .bool wb ∧ v9 = .bool wp ∧ a' ≤ b' ∧ b' ≤ N ∧ b' - a' ≤ K ∧ l' ≤ 1000 ∧ dk.size = N ∧ Hid (Below ltInt a' b' dk) ∧ Hid (Sd w g dk z wr) ∧ Hid (Fin_ a b d a' b' dk)) (fun v1 v2 _ _ _ _ => (intOf v2).toNat - (intOf v1).toNat)
    case atStart => exact ⟨a, b, lim, true, true, d, rfl, rfl, rfl, rfl, rfl, hab, hb, by rw [hK.out]; exact Nat.le_refl _, hlim, hN, HB0, HS0, Lib.hid fun R p s => ⟨p, s⟩⟩
    case round =>
      clear hab hb hlim
      obtain ⟨a', b', l', wb, wp, dk, rfl, rfl, rfl, rfl, rfl, hab, hb, hbK, hlim, hsk, HBel, HS, HF⟩ := hrel
      obtain ⟨L, hL⟩ : ∃ L, Hid (L = b' - a') := ⟨_, Lib.hid rfl⟩
      have eL : IntKind.i64.wrap ((b' : Int) - (a' : Int)) = (L : Int) := wrapN (by have := hL.out; omega) (by have := hL.out; omega)
      by_cases h12 : L ≤ 12
      · have d12 : decide ((L : Int) ≤ 12) = true := decide_eq_true (by omega)
        have CI := Lib.hid (insertion_any _ g N c a' b' dk z HS.out.1 hsk hab hb hsz)
        have HI := Lib.hid (insertionSort_holds (lt := ltInt) swo_ltInt dk a' b' hab (by omega))
        clear h12
        go_wp2_with fail
        refine CI.out.mono ?_
        rintro e w2 ⟨rfl, HS2⟩
        go_wp2_with fail
        (try simp only [Exit.inBlock, Exit.then])
        refine bodyPost_ret (results_none rfl _ _ _) rfl ?_
        obtain ⟨p, s⟩ := HF.out _ HI.out.1 HI.out.2
        exact ⟨rfl, Lib.hid ⟨_, p, s, HS.out.then HS2.out⟩⟩
      · have d12 : decide ((L : Int) ≤ 12) = false := decide_eq_false (by omega)
        by_cases hl0 : l' = 0
        · have z0 : ((l' : Int) == 0) = true := by simp; omega
          have CI := Lib.hid (heapSort_any _ g N c a' b' dk z HS.out.1 hsk (by have := hL.out; omega) hb hsz)
          have HI := Lib.hid (heapSort_holds (lt := ltInt) swo_ltInt dk a' b' hab (by omega))
          clear h12 hl0
          go_wp2_with fail
          refine CI.out.mono ?_
          rintro e w2 ⟨rfl, HS2⟩
          go_wp2_with fail
          (try simp only [Exit.inBlock, Exit.then])
          refine bodyPost_ret (results_none rfl _ _ _) rfl ?_
          obtain ⟨p, s⟩ := HF.out _ HI.out.1 HI.out.2
          exact ⟨rfl, Lib.hid ⟨_, p, s, HS.out.then HS2.out⟩⟩
        · have z0 : ((l' : Int) == 0) = false := beq_eq_false_iff_ne.2 (by omega)
          have h8 : a' + 8 ≤ b' := by have := hL.out; omega
          have hlt : a' < b' := by omega
          clear h12
          go_upto_if 35 with fail
          go_cut [3] from 19 (fun v3 wx => ∃ (l1 : Nat) (d1 : Array Int), v3 = .int .i64 (l1 : Int) ∧ l1 ≤ 1000 ∧ Hid (PermIn a' b' dk d1) ∧ Hid (Sd w g d1 z wx))
          case first =>
            cases wb with
            | true =>
              go_wp2_with fail
              go_meet
              case rel => exact ⟨l', dk, rfl, hlim, Lib.hid (permIn_refl _ _ _), HS⟩
            | false =>
              have CI := Lib.hid (breakPatterns_any _ g N c a' b' dk z HS.out.1 hsk h8 hb hsz)
              obtain ⟨l1, hl1⟩ : ∃ l1, l' = l1 + 1 := ⟨l' - 1, by omega⟩
              have el : IntKind.i64.wrap ((l' : Int) - 1) = (l1 : Int) := wrapN (by omega) (by omega)
              have hl2 : l1 ≤ 1000 := by omega
              clear hl1 hl0
              go_wp2_with fail
              refine CI.out.mono ?_
              rintro e w2 ⟨rfl, HS2⟩
              go_wp2_with fail
              go_meet
              case rel => exact ⟨l1, _, rfl, hl2, Lib.hid (breakPatterns_holds (α := Int) dk a' b' hab (by omega)), Lib.hid (HS.out.then HS2.out)⟩
          case rest =>
            obtain ⟨l1, d1, rfl, hl1, HP1, HS1⟩ := hcut
            have hs1 : d1.size = N := by rw [HP1.out.1]; exact hsk
            have CI := Lib.hid (choosePivot_any _ g N c a' b' d1 z HS1.out.1 hs1 h8 hb hsz)
            have HCR := Lib.hid (choosePivot_holds ltInt d1 a' b' hlt)
            generalize choosePivot ltInt d1 a' b' = cp at *
            obtain ⟨pv, hn⟩ := cp
            simp only at CI HCR
            clear HS
            go_upto_if 50 with (go_at_call 254; refine CI.out.mono ?_; rintro e w2 ⟨rfl, HS2⟩)
            go_cut [11, 12] from 19 (fun v11 v12 wx => ∃ (piv : Nat) (ht : Hint) (d2 : Array Int), v11 = .int .i64 (piv : Int) ∧ v12 = .int .i64 (hc ht) ∧ a' ≤ piv ∧ piv < b' ∧ Hid (PermIn a' b' dk d2) ∧ Hid (Sd w g d2 z wx))
            case first =>
              cases hn with
              | decreasing =>
                have CR := Lib.hid (reverse_any _ g N c a' b' d1 z HS2.out.1 hs1 hlt hb hsz)
                have hcr := HCR.out
                obtain ⟨x1, hx1⟩ : ∃ x, x = b' - 1 := ⟨_, rfl⟩
                obtain ⟨x2, hx2⟩ : ∃ x, x = pv - a' := ⟨_, rfl⟩
                obtain ⟨x3, hx3⟩ : ∃ x, x = x1 - x2 := ⟨_, rfl⟩
                have g1 : IntKind.i64.wrap ((b' : Int) - 1) = (x1 : Int) := wrapN (by omega) (by omega)
                have g2 : IntKind.i64.wrap ((pv : Int) - (a' : Int)) = (x2 : Int) := wrapN (by omega) (by omega)
                have g3 : IntKind.i64.wrap ((x1 : Int) - (x2 : Int)) = (x3 : Int) := wrapN (by omega) (by omega)
                have hx4 : a' ≤ x3 ∧ x3 < b' := by omega
                clear hx1 hx2 hx3 hcr
                simp only [hc] at *
                go_wp2_with fail
                refine CR.out.mono ?_
                rintro e w3 ⟨rfl, HS3⟩
                go_wp2_with fail
                go_meet
                case rel => exact ⟨x3, .increasing, _, rfl, rfl, hx4.1, hx4.2, Lib.hid (ptrans HP1.out (reverseRange_holds d1 a' b' hab (by omega))), Lib.hid ((HS1.out.then HS2.out).then HS3.out)⟩
              | increasing =>
                simp only [hc] at *
                go_wp2_with fail
                go_meet
                case rel => exact ⟨pv, .increasing, d1, rfl, rfl, HCR.out.1, HCR.out.2, HP1, Lib.hid (HS1.out.then HS2.out)⟩
              | unknown =>
                simp only [hc] at *
                go_wp2_with fail
                go_meet
                case rel => exact ⟨pv, .unknown, d1, rfl, rfl, HCR.out.1, HCR.out.2, HP1, Lib.hid (HS1.out.then HS2.out)⟩
            case rest =>
              obtain ⟨piv, ht, d2, rfl, rfl, hp1, hp2, HP2, HS3⟩ := hcut
              have hs2 : d2.size = N := by rw [HP2.out.1]; exact hsk
              clear HS1 HS2 HP1 CI HCR
              go_upto_region 15 with fail
              go_cut [68] from 19 (fun v68 wx => ∃ B : Bool, v68 = .bool B ∧ Hid (Sd w g d2 z wx))
              case first =>
                cases wb <;> cases wp <;> cases ht <;>
                  (simp only [hc]
                   go_wp2_with fail
                   go_meet
                   exact ⟨_, rfl, HS3⟩)
              case rest =>
                clear HS3
                obtain ⟨B, rfl, HS3⟩ := hcut
                go_upto_if 68 with fail
                go_cut [] from 19 (fun wx => ∃ d3 : Array Int, Hid (PermIn a' b' dk d3) ∧ Hid (Sd w g d3 z wx))
                case first =>
                  cases B with
                  | false =>
                    go_wp2_with fail
                    go_meet
                    case rel => exact ⟨d2, HP2, HS3⟩
                  | true =>
                    have CI := Lib.hid (partialIns_any _ g N c a' b' d2 z HS3.out.1 hs2 hlt hb hsz)
                    have HPI := Lib.hid (partialInsertionSort_holds (lt := ltInt) swo_ltInt d2 a' b' hlt (by omega) (HBel.out.perm (by omega) HP2.out))
                    generalize partialInsertionSort ltInt d2 a' b' = pr at *
                    obtain ⟨d3, ok⟩ := pr
                    simp only at CI HPI
                    cases ok with
                    | true =>
                      go_wp2_with fail
                      refine CI.out.mono ?_
                      rintro e w5 ⟨rfl, HS4⟩
                      go_wp2_with fail
                      (try simp only [Exit.inBlock, Exit.then])
                      refine bodyPost_ret (results_none rfl _ _ _) rfl ?_
                      obtain ⟨p, s⟩ := HF.out _ (ptrans HP2.out HPI.out.1) (HPI.out.2 trivial)
                      exact ⟨rfl, Lib.hid ⟨_, p, s, HS3.out.then HS4.out⟩⟩
                    | false =>
                      go_wp2_with fail
                      refine CI.out.mono ?_
                      rintro e w5 ⟨rfl, HS4⟩
                      go_wp2_with fail
                      go_meet
                      case rel => exact ⟨d3, Lib.hid (ptrans HP2.out HPI.out.1), Lib.hid (HS3.out.then HS4.out)⟩
                case rest =>
                  clear HS3
                  obtain ⟨d3, HP3, HS3⟩ := hcut
                  have hs3 : d3.size = N := by rw [HP3.out.1]; exact hsk
                  clear HP2 hs2
                  have HB3 := Lib.hid (HBel.out.perm (by omega) HP3.out)
                  obtain ⟨y, hy⟩ : ∃ y, Hid (d3[piv]! = y) := ⟨_, Lib.hid rfl⟩
                  obtain ⟨x, hx⟩ : ∃ y, Hid (d3[a' - 1]! = y) := ⟨_, Lib.hid rfl⟩
                  go_upto_region 17 with fail
                  go_cut [87] from 19 (fun v87 wx => ∃ B : Bool, v87 = .bool B ∧ Hid (B = true → 0 < a' ∧ ltInt x y = false) ∧ Hid (Sd w g d3 z wx))
                  case first =>
                    by_cases ha0 : a' = 0
                    · have da : decide ((0 : Int) < (a' : Int)) = false := decide_eq_false (by omega)
                      have da' : decide (0 < a') = false := decide_eq_false (by omega)
                      clear ha0
                      go_wp2_with fail
                      go_quiet ((go_at_call 257; exact Calls.quiet_of_same (Less_any _ _ _)))
                      go_wp2_with fail
                      go_meet
                      case rel => exact ⟨false, rfl, Lib.hid (fun h => nomatch h), Lib.hid (HS3.out.drewN _)⟩
                    · obtain ⟨m, hm⟩ : ∃ m, a' = m + 1 := ⟨a' - 1, by omega⟩
                      have em : IntKind.i64.wrap ((a' : Int) - 1) = (m : Int) := wrapN (by omega) (by omega)
                      have da : decide ((0 : Int) < (a' : Int)) = true := decide_eq_true (by omega)
                      have da' : decide (0 < a') = true := decide_eq_true (by omega)
                      rw [show a' - 1 = m by omega] at hx
                      have q0 := HS3.out.1.cell m (by omega)
                      have q1 := HS3.out.1.cell piv (by omega)
                      rw [hx.out] at q0
                      rw [hy.out] at q1
                      have n0 : (0 : Int) ≤ (m : Int) := by omega
                      have n1 : (0 : Int) ≤ (piv : Int) := by omega
                      have b0 : (m : Int) < (N : Int) := by omega
                      have b1 : (piv : Int) < (N : Int) := by omega
                      have hap : Hid (0 < a') := Lib.hid (by omega)
                      clear hm ha0
                      cases hl : ltInt x y with
                      | true =>
                        go_wp2_with fail
                        go_quiet ((go_at_call 257; exact Calls.quiet_of_same (Less_t hl _)))
                        go_wp2_with fail
                        go_meet
                        case rel => exact ⟨false, rfl, Lib.hid (fun h => nomatch h), Lib.hid (HS3.out.drewN _)⟩
                      | false =>
                        go_wp2_with fail
                        go_quiet ((go_at_call 257; exact Calls.quiet_of_same (Less_f hl _)))
                        go_wp2_with fail
                        go_meet
                        case rel => exact ⟨true, rfl, Lib.hid (fun _ => ⟨hap.out, hl⟩), Lib.hid (HS3.out.drewN _)⟩
                  case rest =>
                    clear HS3
                    obtain ⟨B2, rfl, HB2, HS3⟩ := hcut
                    cases B2 with
                    | true =>
                      have CI := Lib.hid (partEq_any _ g N c a' b' piv d3 z HS3.out.1 hs3 hp1 hp2 hb hsz)
                      have HR := Lib.hid (fun mid d4 => @round_eq Int _ ltInt swo_ltInt (partitionEqual_holds _) d3 d4 a' b' piv mid (HB2.out rfl).1 hp1 hp2 (by omega) HB3.out (by rw [hx.out, hy.out]; exact (HB2.out rfl).2))
                      generalize partitionEqual ltInt d3 a' b' piv = pr at *
                      obtain ⟨mid, d4⟩ := pr
                      simp only at CI
                      have HQ := Lib.hid (HR.out mid d4 rfl)
                      go_wp2_with fail
                      refine CI.out.mono ?_
                      rintro e w5 ⟨rfl, HS4⟩
                      go_wp2_with fail
                      go_roundw
                      case rel => exact ⟨mid, b', l1, wb, wp, d4, rfl, rfl, rfl, rfl, rfl, HQ.out.2.1, hb, by have := HQ.out.1; omega, hl1, by rw [HQ.out.2.2.1]; exact hs3, Lib.hid HQ.out.2.2.2.1, Lib.hid (HS3.out.then HS4.out), Lib.hid fun R p s => by
                        obtain ⟨p1, s1⟩ := HQ.out.2.2.2.2 R p s
                        exact HF.out R (ptrans HP3.out p1) s1⟩
                      case measure => have := HQ.out.1; have := HQ.out.2.1; simp [intOf]; omega
                    | false =>
                      have CI := Lib.hid (part_any _ g N c a' b' piv d3 z HS3.out.1 hs3 hp1 hp2 hb hsz)
                      have HR := Lib.hid (fun mid ap d4 => @round_part Int _ ltInt swo_ltInt (partition_holds _) d3 d4 a' b' piv mid ap hp1 hp2 (by omega) HB3.out)
                      generalize partition ltInt d3 a' b' piv = pr at *
                      obtain ⟨mid, ap, d4⟩ := pr
                      simp only at CI
                      have HQ := Lib.hid (HR.out mid ap d4 rfl)
                      have hq := HQ.out
                      obtain ⟨t1, ht1⟩ : ∃ x, x = mid - a' := ⟨_, rfl⟩
                      obtain ⟨t2, ht2⟩ : ∃ x, x = b' - mid := ⟨_, rfl⟩
                      obtain ⟨m1, hm1⟩ : ∃ x, x = mid + 1 := ⟨_, rfl⟩
                      obtain ⟨q8, hq8⟩ : ∃ x, x = L / 8 := ⟨_, rfl⟩
                      have g1 : IntKind.i64.wrap ((mid : Int) - (a' : Int)) = (t1 : Int) := wrapN (by omega) (by omega)
                      have g2 : IntKind.i64.wrap ((b' : Int) - (mid : Int)) = (t2 : Int) := wrapN (by omega) (by omega)
                      have g3 : IntKind.i64.wrap ((mid : Int) + 1) = (m1 : Int) := wrapN (by omega) (by omega)
                      have g4 : (L : Int) / 8 = (q8 : Int) := by omega
                      have g5 : Int.tdiv (L : Int) 8 = (q8 : Int) := by rw [Int.tdiv_eq_ediv_of_nonneg (by omega)]; omega
                      have g6 : IntKind.i64.wrap (q8 : Int) = (q8 : Int) := wrapN rfl (by have := hL.out; omega)
                      have hs4 : d4.size = N := by rw [hq.2.2.1]; exact hs3
                      have HM := Lib.hid (show a' ≤ mid ∧ mid < b' ∧ m1 = mid + 1 ∧ b' - a' < n + 1 from ⟨hq.1, hq.2.1, hm1, by have := hK.out; have := HKn.out; omega⟩)
                      rw [← hm1] at HQ
                      by_cases hlr : t1 < t2
                      · have dl : decide (t1 < t2) = true := decide_eq_true hlr
                        have CP := Lib.hid (fun W (u : Uw W g d4 z) => IH.out W g N c a' mid l1 d4 z (by have := HM.out; omega) u hs4 hq.1 (by omega) hsz hl1 hq.2.2.2.1)
                        clear hq ht1 ht2 hm1 hq8 hlr
                        go_wp2_with fail
                        refine CI.out.mono ?_
                        rintro e w5 ⟨rfl, HS4⟩
                        go_wp2_with fail
                        refine (CP.out w5 HS4.out.1).mono ?_
                        rintro e w6 ⟨rfl, HO⟩
                        obtain ⟨R1, p1, s1, HS5⟩ := HO.out
                        have HS6 := Lib.hid HS5
                        have HQ2 := Lib.hid (HQ.out.2.2.2.2.2.1 R1 p1 s1)
                        have hr1 : R1.size = N := by rw [p1.1]; exact hs4
                        clear HS5 p1 s1 HO
                        go_wp2_with fail
                        go_roundw
                        case rel => exact ⟨m1, b', l1, _, _, R1, rfl, rfl, rfl, rfl, rfl, by have := HM.out; omega, hb, by have := HM.out; omega, hl1, hr1, Lib.hid HQ2.out.1, Lib.hid ((HS3.out.then HS4.out).then HS6.out), Lib.hid fun R p s => by
                          obtain ⟨p2, s2⟩ := HQ2.out.2 R p s
                          exact HF.out R (ptrans HP3.out p2) s2⟩
                        case measure => have := HM.out; simp [intOf]; omega
                      · have dl : decide (t1 < t2) = false := decide_eq_false hlr
                        have CP := Lib.hid (fun W (u : Uw W g d4 z) => IH.out W g N c m1 b' l1 d4 z (by have := HM.out; omega) u hs4 (by have := HM.out; omega) hb hsz hl1 (by rw [hm1]; exact hq.2.2.2.2.1))
                        have hmN : mid ≤ N := by omega
                        clear hq ht1 ht2 hm1 hq8 hlr
                        go_wp2_with fail
                        refine CI.out.mono ?_
                        rintro e w5 ⟨rfl, HS4⟩
                        go_wp2_with fail
                        refine (CP.out w5 HS4.out.1).mono ?_
                        rintro e w6 ⟨rfl, HO⟩
                        obtain ⟨R1, p1, s1, HS5⟩ := HO.out
                        have HS6 := Lib.hid HS5
                        have HQ2 := Lib.hid (HQ.out.2.2.2.2.2.2 R1 p1 s1)
                        have hr1 : R1.size = N := by rw [p1.1]; exact hs4
                        clear HS5 p1 s1 HO
                        go_wp2_with fail
                        go_roundw
                        case rel => exact ⟨a', mid, l1, _, _, R1, rfl, rfl, rfl, rfl, rfl, by have := HM.out; omega, hmN, by have := HM.out; omega, hl1, hr1, Lib.hid HQ2.out.1, Lib.hid ((HS3.out.then HS4.out).then HS6.out), Lib.hid fun R p s => by
                          obtain ⟨p2, s2⟩ := HQ2.out.2 R p s
                          exact HF.out R (ptrans HP3.out p2) s2⟩
                        case measure => have := HM.out; simp [intOf]; omega
end Go.Proofs.YtmpajlpemabniaaGreat
namespace Go.Proofs.YtmpajlpemabniaaGreat
open Go.RowKit Go.Maps Go.Sort Go.Shelf Go.Deep
set_option linter.unusedVariables false
set_option linter.unusedSimpArgs false
attribute [local go_sem] Oper.semAt_some

def encU (x : Nat) : Array Value := #[.int .u64 (x : Int)]
/-- what has come is all: each key once -/
def AllK (V : Nat → Option Value) (xs : List Nat) : Prop := xs.Nodup ∧ ∀ x, x ∈ xs ↔ (V x).isSome = true
set_option maxRecDepth 100000 in
set_option maxHeartbeats 2000000 in
theorem keys_stops (n Bm b : Nat) (V : Nat → Option Value) (w : World) (hm : Own w Bm 136 [.map (some b)]) (hv : MapV w b V) (Kp : World → World → Prop) (hK : ∀ W W', Kp W W' → KeepsWalks W W') :
    SeqStopsK Fence.wide n Tryz.prog 192 #[.pointer (some ⟨Bm, 0, none⟩)] encU Kp (AllK V) (fun _ => True) 1048576 w := by
  intro l J Jx W hW hJ hJx hY h0
  have hmW := (hm.below hW hm.lt).cell 0
  simp at hmW
  have hvW : MapV W b V := by
    obtain ⟨D, h1, h2⟩ := hv.own
    exact ⟨⟨D, owns_block h1 (hW.block b h1.lt), h2⟩, hv.dom⟩
  obtain ⟨D, hown, hD⟩ := hvW.own
  have hdom := Lib.hid hv.dom
  have HD := Lib.hid hD
  clear hm hv hvW hD
  refine callsIn_of_wp Tryz.func192 rfl trivial ?_ rfl
  simp only [Tryz.ntmps192, List.size_toArray, List.length_cons, List.length_nil, Nat.reduceAdd, Nat.reduceSub, Array.replicate_succ, Array.replicate_zero, List.push_toArray, List.append_toArray, List.nil_append, List.cons_append]
  gi_wp2_with (first
    | (gi_at_range; refine wpListIn_range_own _ rfl _ 136 rfl 37 42 ukeyed Tryz.underlying136 _ b 1048576 _ rfl hown ?_; intro w0 hrg0 hg0 hs0)
    | fail)
  go_frame
  gi_loopw [3] (fun _ wr => ∃ (left : Lit → Bool) (cnt : Nat) (ss : List Nat), wr.ranges Tryz.prog 37 idR b W.heap.size 1048576 D left cnt ∧ Hid (ColU V left ss) ∧ J ss wr)
    (fun _ wr => wr.rangeLeft b W.heap.size)
  case atStart =>
    exact ⟨_, _, [], hrg0, Lib.hid (ColU.start HD.out), hJ [] W w0 none h0 hg0 (fun r e => by cases e)⟩
  case round =>
    obtain ⟨left, cnt, ss, hrg, hC, hJs⟩ := hrel
    gi_wp2_with (first
      | (gi_at_next; refine wpListIn_next_ranges _ rfl _ rfl 37 ukeyed idR (fun x : Nat => Value.int .u64 (x : Int)) id (fun key kl hk => by obtain ⟨x, _, hx, _⟩ := keyOf_u64 hk; exact ⟨x, hx⟩) (fun v _ _ => ⟨v, rfl⟩) b W.heap.size 1048576 _ _ _ rfl hrg ?_ ?_)
      | fail)
    · intro hc0 hl0
      gi_wp2
      go_end0
      refine ⟨⟨_, rfl⟩, .inl ⟨ss, ⟨hC.out.1, fun x => ?_⟩, hJs⟩⟩
      rw [hC.out.2 x, hl0]
      simp
    · intro x c kl yd yp w2 cnt2 hkey hlk hv hat hrg2 hlt hg2 hs2 hen
      obtain ⟨x', hx', ex, rfl⟩ := keyOf_u64 hkey
      obtain rfl : x = x' := by simp at ex; omega
      have hJ2 : J ss w2 := hJ ss wr w2 (some W.heap.size) hJs hg2 (fun r e => by cases e; exact ⟨Nat.le_refl _, hrg.iter_walk⟩)
      have hsome : (V x).isSome = true := by
        rw [← HD.out.has]
        exact has_true_of_atKey hat
      have hC2 := Lib.hid (hC.out.step hlk hsome)
      have hlen : ss.length < 1048576 := by
        have h1 := nodup_le hC2.out.1 (N := 1048576) fun y hy => by
          obtain ⟨h2, _⟩ := (hC2.out.2 y).1 hy
          obtain ⟨v, hv⟩ := Option.isSome_iff_exists.1 h2
          exact hdom.out y v hv
        simp at h1
        omega
      obtain ⟨fn, tmps, assign, body, hy, hR⟩ := hY ss x w2 hJ2 hlen
      clear hs2 hY
      dsimp only [encU] at hy
      gi_wp2_with fail
      refine ⟨(fun h => by cases h), (roundIn_any hR).mono ?_⟩
      rintro e W5 (⟨rfl, hj5, hk5⟩ | ⟨rfl, hjx5⟩)
      · gi_wp2_with fail
        have hrg3 := hrg2.of_walks (hK _ _ hk5)
        go_roundw
        case rel => exact ⟨_, cnt2, ss ++ [x], hrg3, hC2, hj5⟩
        case measure => rw [hrg3.left_eq, hrg.left_eq]; exact hlt
      · gi_wp2_with fail
        refine bodyPost_ret (results_none rfl _ _ _) rfl ?_
        exact ⟨⟨_, rfl⟩, .inr ⟨ss ++ [x], trivial, hjx5⟩⟩
end Go.Proofs.YtmpajlpemabniaaGreat
