/-
  Contract of the document's disk: Crash. No claim of its own.
-/
import Derived.Test.YtdiemejdbakffaaGreatRkF
import Derived.BigQuiet
import Derived.Test.YtdiemejdbakffaaGreatRt2
import Derived.Test.YtdiemejdbakffaaGreatJ5
namespace Go.Proofs.YtdiemejdbakffaaGreat
open Go.RowKit Go.Maps Go.Shelf
set_option linter.unusedVariables false
set_option linter.unusedSimpArgs false

theorem crash_of_no {F : Nat → Sec} {m : Nat → Option Sec} {ks : List Bool} {i : Nat} (h : (m i).isSome = false) : crashF F m ks i = F i := by
  have hm : m i = none := by simpa using h
  unfold crashF now
  rw [hm]
  split <;> rfl
theorem crash_of_keep {F : Nat → Sec} {m : Nat → Option Sec} {ks : List Bool} {i : Nat} (h : ks.getD (dirtyL i m).length false = true) : crashF F m ks i = now F m i := if_pos h
theorem crash_of_drop {F : Nat → Sec} {m : Nat → Option Sec} {ks : List Bool} {i : Nat} (h : ks.getD (dirtyL i m).length false = false) : crashF F m ks i = F i := if_neg (by rw [h]; simp)
theorem len_yes {k : Nat} {m : Nat → Option Sec} (h : (m k).isSome = true) : (dirtyL (k + 1) m).length = (dirtyL k m).length + 1 := by
  rw [dirtyL_succ, if_pos h]; simp
theorem len_no {k : Nat} {m : Nat → Option Sec} (h : (m k).isSome = false) : (dirtyL (k + 1) m).length = (dirtyL k m).length := by
  rw [dirtyL_succ, if_neg (by rw [h]; simp)]; simp
/-- a sector laid into both rows of the disk that is being made -/
theorem rdk_both {w w' w2 : World} {q gn go gd n k : Nat} {C : Nat → Sec} {S : Sec} (h : Rdk w q gn go gd n (mixR (fun _ => zsec) C k) (mixR (fun _ => zsec) C k) (fun _ => false)) (hk : k < n) (hS : C k = S) (hl : S.length = 64) (h1 : Chg [] (w.setCells gn (k * 64) (u8s S)) w') (h2 : Chg [] (w'.setCells go (k * 64) (u8s S)) w2) :
    Rdk w2 q gn go gd n (mixR (fun _ => zsec) C (k + 1)) (mixR (fun _ => zsec) C (k + 1)) (fun _ => false) := by
  have a1 := ((h.setN k hk S hl).kept h1).setO k hk S hl
  rw [← hS, mixR_next, hS] at a1
  exact a1.kept h2
section
variable {w : World} {ops : Array Oper} {rest : List Oper} {o : Oper} {a : Act} {Q : Exit → Act → World → Prop}
/-- a sector laid into a variable; of the new world only what is asked -/
theorem wpList_lay40 (hgd : o.guard = none) (x y : Operand) (ho : o.op = .store 50 x y) (b : Nat) (S : Sec) (hx : a.eval x = .pointer (some ⟨b, 0, none⟩)) (hy : a.eval y = sv S) (ht : w.there b 0 64) (hS : S.length = 64)
    (h : ∀ w', w'.rangeAt b 0 (u8s S) → w'.there b 0 64 → Chg [b] w w' → wpList Tryz.prog ops Q rest (a.put o.dst undef) w') : wpList Tryz.prog ops Q (o :: rest) a w :=
  wpList_store40 hgd x y ho b 0 S hx hy ht hS (h _ (World.rangeAt_setCells_same _ _ _ _ (by rw [u8s_length, hS]; exact ht)) (World.there_setCells ht _ _ _) ((Chg.refl [b] w).setCells (by simp) _ _))
theorem wpList_laid40 {W : World} (hgd : o.guard = none) (x y : Operand) (ho : o.op = .store 50 x y) (S : Sec) (hW : W = w.alloc (.cells (u8s zsec).toArray 50)) (hx : a.eval x = .pointer (some ⟨w.heap.size, 0, none⟩)) (hy : a.eval y = sv S) (hS : S.length = 64)
    (h : ∀ w', w'.rangeAt w.heap.size 0 (u8s S) → w'.there w.heap.size 0 64 → Chg [] w w' → wpList Tryz.prog ops Q rest (a.put o.dst undef) w') : wpList Tryz.prog ops Q (o :: rest) a W := by
  subst hW
  exact wpList_lay40 hgd x y ho w.heap.size S hx hy (there_box w zsec _ zsec_len) hS fun w' h1 h2 h3 => h w' h1 h2 (((Chg.refl [] w).alloc _).then h3 (by simp))
end
theorem there_eq {w : World} {b o n k : Nat} (h : w.there b o n) (e : k = n) : w.there b o k := by rw [e]; exact h
set_option maxHeartbeats 1000000 in
set_option maxRecDepth 100000 in
theorem rcrash_ok (w : World) {q gn go gd n : Nat} {F : Nat → Sec} {m : Nat → Option Sec} (hd : Rdk w q gn go gd n (now F m) F (fun i => (m i).isSome)) (a : Option Addr) (ks : List Bool) (c B : Nat) (hro : Ro w B a (bls ks)) (hB : B ≤ w.heap.size) (hks : ks.length ≤ 9223372036854775807) (hC : ∀ i, (crashF F m ks i).length = 64) :
    Calls Tryz.prog 12 #[.pointer (some ⟨q, 0, none⟩), .slice a ks.length c] w fun e w' => ∃ q' gn' go' gd', e = .returned (.pointer (some ⟨q', 0, none⟩)) ∧ w.heap.size ≤ q' ∧ w.heap.size ≤ gn' ∧ w.heap.size ≤ go' ∧ w.heap.size ≤ gd' ∧ Rdk w' q' gn' go' gd' n (crashF F m ks) (crashF F m ks) (fun _ => false) ∧ Chg [] w w' := by
  have hone := hd.one
  have htop := hd.top
  have hc0 := hd.c0
  have HM := Lib.hid (made_ok w n hone htop)
  have HD := Lib.hid hd
  have HR := Lib.hid (hro.mono hB)
  have HCL := Lib.hid hC
  have hltq := hd.ltq
  have hltn := hd.ltn
  have hlto := hd.lto
  have hltd := hd.ltd
  obtain ⟨n1, n2, n3, n4, n5, n6⟩ := hd.ne
  clear hd hro hC
  go_enter Tryz.func12, Tryz.ntmps12
  go_wp2_with (first
    | (go_at_call 6; refine HM.out.mono ?_; rintro e w1 ⟨p, pn, po, pd, rfl, hp, hpn, hpo, hpd, hx1, hc1⟩)
    | fail)
  have HX1 := Lib.hid (show Rdk w1 p pn po pd n (mixR (fun _ => zsec) (crashF F m ks) 0) (mixR (fun _ => zsec) (crashF F m ks) 0) (fun _ => false) by rw [mixR_zero]; exact hx1)
  have hne2 := hx1.ne
  clear hx1 HM
  go_loopw [7, 8] (fun kk i wr => ∃ k : Nat, k ≤ n ∧ i = .int .i64 k ∧ kk = .int .i64 ((dirtyL k m).length : Nat) ∧ Rdk wr p pn po pd n (mixR (fun _ => zsec) (crashF F m ks) k) (mixR (fun _ => zsec) (crashF F m ks) k) (fun _ => false) ∧ Chg [] w wr) (fun _ i _ => n - (intOf i).toNat)
  case atStart => exact ⟨0, Nat.zero_le _, rfl, rfl, HX1.out, hc1⟩
  case round =>
    obtain ⟨k, hk, rfl, rfl, hX, hc⟩ := hrel
    have hR := HD.out.kept hc
    have hcq0 := hR.c0
    by_cases hlt : k < n
    · have hdt : decide (k < n) = true := by simpa using hlt
      have hk0 : (0 : Int) ≤ (k : Int) := by omega
      have hk1 : (k : Int) < (n : Int) := by omega
      have hcq1 := hR.c1
      have hcq2 := hR.c2
      have hcd := hR.bd.cell k hlt
      have hro1 := hR.ro.rng k hlt
      have hrn1 := hR.rn.rng k hlt
      have hL1 := HD.out.lenO k
      have hL2 := HD.out.lenN k
      have hle := dirtyL_le k m
      have HXk := Lib.hid hX
      have hCl := HCL.out k
      have hltpn := hX.ltn
      have hltpo := hX.lto
      obtain ⟨n21, n22, n23, n24, n25, n26⟩ := hne2
      obtain ⟨S, HS⟩ : ∃ S, Hid (crashF F m ks k = S) := ⟨_, Lib.hid rfl⟩
      rw [HS.out] at hCl
      have hmeas : n - (k + 1) < n - k := by omega
      have hu := Tryz.underlying50
      have hinf : (Tryz.prog.info? 50).map (·.size) = some (u8s S).length := by rw [u8s_length, hCl]; exact info40
      have hone' := u8s_one S
      obtain ⟨L, HL⟩ : ∃ L, Hid ((dirtyL k m).length = L) := ⟨_, Lib.hid rfl⟩
      have hL0 : (0 : Int) ≤ (L : Int) := by omega
      have hcase : ((m k).isSome = false ∧ F k = S) ∨ ((m k).isSome = true ∧ F k = S ∧ ¬ L < ks.length) ∨ ((m k).isSome = true ∧ F k = S ∧ L < ks.length ∧ ks.getD L false = false) ∨ ((m k).isSome = true ∧ now F m k = S ∧ L < ks.length ∧ ks.getD L false = true) := by
        rw [← HS.out, ← HL.out]
        cases hs : (m k).isSome with
        | false => exact .inl ⟨rfl, (crash_of_no hs).symm⟩
        | true =>
          refine .inr ?_
          by_cases h : (dirtyL k m).length < ks.length
          · cases hg : ks.getD (dirtyL k m).length false with
            | false => exact .inr (.inl ⟨rfl, (crash_of_drop hg).symm, h, rfl⟩)
            | true => exact .inr (.inr ⟨rfl, (crash_of_keep hg).symm, h, rfl⟩)
          · refine .inl ⟨rfl, (crash_of_drop ?_).symm, h⟩
            rw [List.getD_eq_getElem?_getD, List.getElem?_eq_none (by omega)]
            rfl
      have HK1 := Lib.hid (show (m k).isSome = true → (dirtyL (k + 1) m).length = L + 1 from fun h => by rw [len_yes h, HL.out])
      have HK0 := Lib.hid (show (m k).isSome = false → (dirtyL (k + 1) m).length = L from fun h => by rw [len_no h, HL.out])
      rw [HL.out] at hle
      simp only [HL.out]
      clear hX hR
      have hkt : (k : Int) ≤ 1024 := by omega
      have hLt : (L : Int) ≤ 1024 := by omega
      have e : updF (mixR (fun _ => zsec) (crashF F m ks) k) k S = mixR (fun _ => zsec) (crashF F m ks) (k + 1) := by rw [← HS.out]; exact mixR_next _ _ _
      have HE := Lib.hid e
      clear e
      rcases hcase with ⟨hs, hS1⟩ | ⟨hs, hS1, hge⟩ | ⟨hs, hS1, hlk, hv⟩ | ⟨hs, hS1, hlk, hv⟩
      case' inl =>
        have hcd' : wr.cell? ⟨gd, k, none⟩ = some (.bool false) := by rw [← hs]; exact hcd
        have HKK := Lib.hid (HK0.out hs)
        rw [hS1] at hro1 hL1
        clear hcd hs HK0 HK1 hrn1 hL2
        go_wp2_with (first
          | (refine wpList_load40 rfl _ rfl go (k * 64) rfl S hro1 hCl ?_)
          | (refine wpList_alloc40 rfl rfl ?_)
          | (refine wpList_laid40 rfl _ _ rfl S rfl rfl rfl hCl ?_; intro w6 hrW ht6 hcW; have hcq26 := hcW.cell hcq2 (by simp); have hcd6 := hcW.cell hcd' (by simp))
          | fail)
      case' inr.inl =>
        have hcd' : wr.cell? ⟨gd, k, none⟩ = some (.bool true) := by rw [← hs]; exact hcd
        have HKK := Lib.hid (HK1.out hs)
        have hge' : decide (L < ks.length) = false := by simpa using hge
        rw [hS1] at hro1 hL1
        clear hcd hs HK0 HK1 hrn1 hL2 hge
        go_wp2_with (first
          | (refine wpList_load40 rfl _ rfl go (k * 64) rfl S hro1 hCl ?_)
          | (refine wpList_alloc40 rfl rfl ?_)
          | (refine wpList_laid40 rfl _ _ rfl S rfl rfl rfl hCl ?_; intro w6 hrW ht6 hcW; have hcq26 := hcW.cell hcq2 (by simp); have hcd6 := hcW.cell hcd' (by simp))
          | fail)
      case' inr.inr.inl =>
        obtain ⟨bk, off, rfl, hbk, hkc⟩ := HR.out.bl (by omega)
        have hkc2 := hc.cell (hkc L hlk) (by simp)
        rw [hv] at hkc2
        have hcd' : wr.cell? ⟨gd, k, none⟩ = some (.bool true) := by rw [← hs]; exact hcd
        have HKK := Lib.hid (HK1.out hs)
        have hlk' : decide (L < ks.length) = true := by simpa using hlk
        have hlk1 : (L : Int) < (ks.length : Int) := by omega
        rw [hS1] at hro1 hL1
        clear hcd hs HK0 HK1 hrn1 hL2 hkc hv
        go_wp2_with (first
          | (refine wpList_load40 rfl _ rfl go (k * 64) rfl S hro1 hCl ?_)
          | (refine wpList_alloc40 rfl rfl ?_)
          | (refine wpList_laid40 rfl _ _ rfl S rfl rfl rfl hCl ?_; intro w6 hrW ht6 hcW; have hcq26 := hcW.cell hcq2 (by simp); have hcd6 := hcW.cell hcd' (by simp); have hkc6 := hcW.cell hkc2 (by simp))
          | fail)
      case' inr.inr.inr =>
        obtain ⟨bk, off, rfl, hbk, hkc⟩ := HR.out.bl (by omega)
        have hkc2 := hc.cell (hkc L hlk) (by simp)
        rw [hv] at hkc2
        have hcd' : wr.cell? ⟨gd, k, none⟩ = some (.bool true) := by rw [← hs]; exact hcd
        have HKK := Lib.hid (HK1.out hs)
        have hlk' : decide (L < ks.length) = true := by simpa using hlk
        have hlk1 : (L : Int) < (ks.length : Int) := by omega
        rw [hS1] at hrn1 hL2
        obtain ⟨T, HT⟩ : ∃ T, Hid (F k = T) := ⟨_, Lib.hid rfl⟩
        rw [HT.out] at hro1 hL1
        clear hcd hs HK0 HK1 hL2 hkc hv
        go_wp2_with (first
          | (refine wpList_load40 rfl _ rfl go (k * 64) rfl T hro1 hL1 ?_)
          | (refine wpList_alloc40 rfl rfl ?_)
          | (refine wpList_laid40 rfl _ _ rfl T rfl rfl rfl hL1 ?_; intro w6 hr6 ht6 hc6; have hcq06 := hc6.cell hcq0 (by simp); have hcq26 := hc6.cell hcq2 (by simp); have hcd6 := hc6.cell hcd' (by simp); have hkc6 := hc6.cell hkc2 (by simp); have hrn6 := hc6.range hrn1 (by simp))
          | (refine wpList_load40 rfl _ rfl gn (k * 64) rfl S hrn6 hCl ?_)
          | (refine wpList_lay40 rfl _ _ rfl wr.heap.size S rfl rfl ht6 hCl ?_; intro w7 hrW ht7 hc7)
          | fail)
        have hcW : Chg [] wr w7 := hc6.then hc7 (by simp)
      all_goals
        have hX6 := HXk.out.kept hcW
        have hXd := hX6.kept ((Chg.refl [] _).drew)
        have hrd := (World.rangeAt_drew _ _ _ _).2 hrW
        have hpc0 := hXd.c0
        have hT1 := hXd.rn.at_ k hlt
        have hX7 := hXd.setN k hlt S hCl
        have hr7 := ((Chg.refl [pn] _).setCells (b := pn) (by simp) (k * 64) (u8s S)).range hrd (by simp; omega)
        have hpc0' := hX7.c0
        have hT1' := hX7.rn.at_ k hlt
        have hX7d := hX7.kept ((Chg.refl [] _).drew)
        have hr7d := (World.rangeAt_drew _ _ _ _).2 hr7
        have hpc1 := hX7d.c1
        have hT2 := hX7d.ro.at_ k hlt
        have hX8 := hX7d.setO k hlt S hCl
        have hr8 := ((Chg.refl [po] _).setCells (b := po) (by simp) (k * 64) (u8s S)).range hr7d (by simp; omega)
        have hpc1' := hX8.c1
        have hT2' := hX8.ro.at_ k hlt
        rw [HE.out] at hX8
        have HN := Lib.hid hX8
        have HC := Lib.hid ((((hc.trans hcW).drew.setCells (b := pn) (.inr hpn) (k * 64) (u8s S)).drew).setCells (b := po) (.inr hpo) (k * 64) (u8s S))
        have e64 : (u8s S).length = 64 := by rw [u8s_length, hCl]
        have hS1 := there_eq hT1 e64
        have hS1' := there_eq hT1' e64
        have hS2 := there_eq hT2 e64
        have hS2' := there_eq hT2' e64
        clear hT1 hT1' hT2 hT2' e64
        clear hX6 hXd hX7 hX7d hX8 hcW
        go_wp2_with fail
        go_region_held3 (fun w' => w'.cell? ⟨p, 0, none⟩ = some (.slice (some ⟨pn, 0, none⟩) n n) ∧ w'.rangeAt wr.heap.size 0 (u8s S) ∧ w'.there pn (k * 64) (u8s S).length) (first | assumption | (exact ⟨hpc0, hrd, hS1⟩) | (exact ⟨hpc0', hr7, hS1'⟩)) (fail)
        go_wp2_with fail
        go_region_held3 (fun w' => w'.cell? ⟨p, 1, none⟩ = some (.slice (some ⟨po, 0, none⟩) n n) ∧ w'.rangeAt wr.heap.size 0 (u8s S) ∧ w'.there po (k * 64) (u8s S).length) (first | assumption | (exact ⟨hpc1, hr7d, hS2⟩) | (exact ⟨hpc1', hr8, hS2'⟩)) (fail)
        go_wp2_with fail
        go_roundw
        case rel => exact ⟨k + 1, by omega, by go_num, by (try rw [HKK.out]); (try go_num), HN.out, HC.out⟩
        case measure => simp [intOf]; omega
    · have hdt : decide (k < n) = false := by simpa using hlt
      have hkn : k = n := by omega
      subst hkn
      have HE := Lib.hid (show Rdk wr p pn po pd k (crashF F m ks) (crashF F m ks) (fun _ => false) from ⟨hX.c0, hX.c1, hX.c2, hX.one, hX.top, HCL.out, HCL.out, hX.rn.full, hX.ro.full, hX.bd, hX.ne⟩)
      clear hX hR
      go_wp2
      go_ret
      exact ⟨p, rfl, hp, pn, hpn, po, hpo, pd, hpd, HE.out, hc⟩
end Go.Proofs.YtdiemejdbakffaaGreat
namespace Go.Proofs.YtdiemejdbakffaaGreat
open Go.RowKit Go.Maps Go.Shelf
set_option linter.unusedVariables false
set_option linter.unusedSimpArgs false

/-- two sectors of two types that are one -/
theorem same40 (S : Sec) (hS : S.length = 64) (w : World) : (Op.equalIn 10000 50 (.agg (u8s S).toArray) (.agg (u8s S).toArray)).run Tryz.prog w = .ok true w := by
  have h := run_equal_sec w 9998 50 5 Tryz.underlying50 Tryz.underlying5 (Tryz.sizeOf5 w) S S hS hS
  simpa using h
/-- the list of a disk's dirty sectors, opened -/
def IsDl (w : World) (a : Option Addr) (n : Nat) (m : Nat → Option Sec) : Prop := 0 < (dirtyL n m).length → ∃ g, a = some ⟨g, 0, none⟩ ∧ g < w.heap.size ∧ ∀ j, j < (dirtyL n m).length → w.cell? ⟨g, j, none⟩ = some (.int .i64 (((dirtyL n m).getD j 0 : Nat) : Int))
theorem IsDl.keep {w w' : World} {a : Option Addr} {n : Nat} {m : Nat → Option Sec} (h : IsDl w a n m) (hc : Chg [] w w') : IsDl w' a n m := fun hp => by
  obtain ⟨g, h1, h2, h3⟩ := h hp
  exact ⟨g, h1, Nat.lt_of_lt_of_le h2 hc.size, fun j hj => hc.cell (h3 j hj) (by simp)⟩
theorem dirty_dl (w : World) {p g b n : Nat} {F : Nat → Sec} {m : Nat → Option Sec} (hd : Dsk w p g b n F m) :
    Calls Tryz.prog 44 #[.pointer (some ⟨p, 0, none⟩)] w fun e w' => ∃ a c, e = .returned (.slice a (dirtyL n m).length c) ∧ Hid (IsDl w' a n m) ∧ Chg [] w w' := by
  refine (dirty_ok w hd).mono fun e w' ⟨v, he, hrow, hb⟩ => ?_
  obtain ⟨a, c, rfl, ha⟩ := open_row1 hrow
  refine ⟨a, c, he, Lib.hid fun hL => ?_, (Chg.refl [] w).of_below hb⟩
  obtain ⟨gd, rfl, h1, h2, h3⟩ := ha hL
  exact ⟨gd, rfl, h2, fun j hj => by rw [h3 j hj, i64s_dirty n m j hj]⟩
theorem rdirty_dl (w : World) {q gn go gd n : Nat} {N O : Nat → Sec} {m : Nat → Option Sec} (hd : Rdk w q gn go gd n N O (fun i => (m i).isSome)) :
    Calls Tryz.prog 47 #[.pointer (some ⟨q, 0, none⟩)] w fun e w' => ∃ a c, e = .returned (.slice a (dirtyL n m).length c) ∧ Hid (IsDl w' a n m) ∧ Chg [] w w' := by
  refine (rdirty_ok w hd).mono fun e w' ⟨v, he, hrow, hb⟩ => ?_
  have hl : (i64s (dirtyZ n m)).length = (dirtyL n m).length := by simp [dirtyZ]
  have hrow' : w'.ownsRow w.heap.size 3 1 v (dirtyL n m).length (i64s (dirtyZ n m)) := by rw [← hl]; exact hrow.out
  obtain ⟨a, c, rfl, ha⟩ := open_row1 hrow'
  refine ⟨a, c, he, Lib.hid fun hL => ?_, hb⟩
  obtain ⟨gd, rfl, h1, h2, h3⟩ := ha hL
  exact ⟨gd, rfl, h2, fun j hj => by rw [h3 j hj, i64s_dirty n m j hj]⟩
end Go.Proofs.YtdiemejdbakffaaGreat
namespace Go.Proofs.YtdiemejdbakffaaGreat
open Go.RowKit Go.Deep Go.Shelf Go.Maps
set_option linter.unusedVariables false
set_option linter.unusedSimpArgs false

theorem bl_some (g n c : Nat) : ∀ x ∈ bl (.slice (some ⟨g, 0, none⟩) n c), x = g := fun x hx => by
  rw [mem_bl] at hx
  simp only [Value.ownBlock, Option.some.injEq] at hx
  exact hx.symm
set_option maxRecDepth 100000 in
theorem rsuper_any (w : World) (h r b : Nat) (hh : h < 256) (hr : r < 4294967296) (hb : b < 4294967296) :
    Calls Tryz.prog 33 #[.int .i64 (h : Int), .int .i64 (r : Int), .int .i64 (b : Int)] w fun e w' => e = .returned (sv (supS h r b)) ∧ Chg [] w w' := by
  have u0 : IntKind.u8.wrap (h : Int) = (h : Int) := by rw [IntKind.wrap_u8]; omega
  obtain ⟨S, HS⟩ : ∃ S, Hid (supS h r b = S) := ⟨_, Lib.hid rfl⟩
  have hS64 : S.length = 64 := by rw [← HS.out]; exact supS_len h r b
  rw [HS.out]
  have hx : u8s [UInt8.ofNat h] = [.int .u8 (h : Int)] := by
    simp [u8s]
    omega
  obtain ⟨W1, HW1⟩ : ∃ W, Hid ((w.alloc (.cells (u8s zsec).toArray 50)).alloc (.cells #[.int .u8 (h : Int)] 5) = W) := ⟨_, Lib.hid rfl⟩
  have hS : W1.heap.size = w.heap.size + 1 + 1 := by rw [← HW1.out]; simp
  have hC : Chg [] w W1 := by rw [← HW1.out]; exact ((Chg.refl [] w).alloc _).alloc _
  have hT : W1.there w.heap.size 0 64 := by rw [← HW1.out]; exact ((Chg.refl [] _).alloc _).there (there_box w zsec 50 zsec_len) (by simp)
  have hL : Lst W1 0 5 (.slice (some ⟨w.heap.size + 1, 0, none⟩) 1 1) (u8s [UInt8.ofNat h]) := by
    rw [hx, ← HW1.out]
    have h1 := Lst.lit (w.alloc (.cells (u8s zsec).toArray 50)) 0 5 #[.int .u8 (h : Int)] (Nat.zero_le _) (show 1 ≤ maxLen by decide)
    rw [World.size_alloc] at h1
    exact h1
  have HF := Lib.hid (four_any W1 r hr)
  have H0 := Lib.hid (And.intro hS (And.intro hC (And.intro hT hL)))
  clear hS hC hT hL hx
  go_enter Tryz.func33, Tryz.ntmps33
  go_wp2_with (first
    | (refine wpList_alloc40 rfl rfl ?_)
    | fail)
  simp only [HW1.out]
  refine HF.out.mono ?_
  rintro e w2 ⟨rfl, hw2⟩
  have hRo : Ro w2 (W1.heap.size + 1) (some ⟨W1.heap.size, 0, none⟩) (u8s (be 4 r)) := by rw [hw2]; exact ro_marked W1 (be 4 r) _ _
  have hC2 : Chg [] W1 w2 := by rw [hw2]; exact (Chg.refl [] W1).alloc _
  have H2 := Lib.hid (And.intro hRo (And.intro hC2 (H0.out.2.2.2.kept0 hC2)))
  clear hw2 hRo hC2 HF
  go_wp2_with (first
    | (at_builtin; refine wpList_appK rfl _ _ 37 rfl 5 (.int .u8 0) 1 Tryz.underlying37 infoU8 rfl (.slice (some ⟨w.heap.size + 1, 0, none⟩) 1 1) (u8s [UInt8.ofNat h]) (by rfl) H2.out.2.2 (some ⟨W1.heap.size, 0, none⟩) (W1.heap.size + 1) 4 4 (u8s (be 4 r)) (by rfl) (by rw [u8s_length, be_len]) H2.out.1 (u8s_one _) (by rw [u8s_length]; simp) (by rw [u8s_length]; simp) ?_; intro v3 w3 K3; have HF3 := Lib.hid (four_any w3 b hb))
    | fail)
  refine HF3.out.mono ?_
  rintro e w4 ⟨rfl, hw4⟩
  have hRo : Ro w4 (w3.heap.size + 1) (some ⟨w3.heap.size, 0, none⟩) (u8s (be 4 b)) := by rw [hw4]; exact ro_marked w3 (be 4 b) _ _
  have hC4 : Chg [] w3 w4 := by rw [hw4]; exact (Chg.refl [] w3).alloc _
  have hb3 : ∀ x ∈ bl v3, w.heap.size + 1 ≤ x := fun x hx => by
    rcases K3.out.bl x hx with h1 | h1
    · have := bl_some _ _ _ x h1; omega
    · have := H2.out.2.1.size; have := H0.out.1; omega
  have hC3 : Chg [] w w3 := (H0.out.2.1.trans H2.out.2.1).then K3.out.chg (fun x hx => .inr (by have := bl_some _ _ _ x hx; omega))
  have hT4 : w4.there w.heap.size 0 64 := hC4.there (K3.out.chg.there (H2.out.2.1.there H0.out.2.2.1 (by simp)) (fun hm => by have := bl_some _ _ _ _ hm; omega)) (by simp)
  have H4 := Lib.hid (And.intro hRo (And.intro (hC3.trans hC4) (And.intro (K3.out.lst.kept0 hC4) (And.intro hb3 hT4))))
  clear hw4 hRo hC4 HF3 K3 hb3 hC3 hT4 H2
  go_wp2_with (first
    | (at_builtin; refine wpList_appK rfl _ _ 37 rfl 5 (.int .u8 0) 1 Tryz.underlying37 infoU8 rfl v3 (u8s [UInt8.ofNat h] ++ u8s (be 4 r)) (by rfl) H4.out.2.2.1 (some ⟨w3.heap.size, 0, none⟩) (w3.heap.size + 1) 4 4 (u8s (be 4 b)) (by rfl) (by rw [u8s_length, be_len]) H4.out.1 (u8s_one _) (by simp [u8s]) (by simp [u8s]) ?_; intro v5 w5 K5)
    | fail)
  have hT5 : w5.there w.heap.size 0 64 := K5.out.chg.there H4.out.2.2.2.2 (fun hm => by have := H4.out.2.2.2.1 _ hm; omega)
  have hC5 : Chg [] w w5 := H4.out.2.1.then K5.out.chg (fun x hx => .inr (by have := H4.out.2.2.2.1 _ hx; omega))
  have hl5 : Lst w5 0 5 v5 (u8s (UInt8.ofNat h :: (be 4 r ++ be 4 b))) := by
    have := K5.out.lst
    simpa [u8s] using this
  obtain ⟨a5, c5, rfl⟩ := hl5.sl8
  obtain ⟨a6, c6, e6, hro6, _⟩ := hl5.form
  injection e6 with e7
  subst e7
  have HF5 := Lib.hid (rfill_any w5 a5 (UInt8.ofNat h :: (be 4 r ++ be 4 b)) c5 _ hro6 (Nat.le_refl _))
  have H5 := Lib.hid (And.intro hT5 hC5)
  clear hT5 hC5 hl5 hro6 K5 H4
  rw [show fillS (UInt8.ofNat h :: (be 4 r ++ be 4 b)) = S from HS.out] at HF5
  generalize (UInt8.ofNat h :: (be 4 r ++ be 4 b)) = bs at *
  go_wp2_with fail
  refine HF5.out.mono ?_
  rintro e w6 ⟨rfl, hc6⟩
  have hT6 := hc6.there H5.out.1 (by simp)
  dsimp only
  go_wp2_with (first
    | (refine wpList_store40 rfl _ _ rfl w.heap.size 0 S rfl rfl hT6 hS64 ?_)
    | fail)
  refine bodyPost_ret (results_cell (j := 6) (t := 50) (p := ⟨w.heap.size, 0, none⟩) Tryz.results33 rfl (load40 (S := S) (World.rangeAt_setCells_same _ _ _ _ (by rw [u8s_length, hS64]; exact hT6)) hS64)) rfl ⟨rfl, ?_⟩
  exact (H5.out.2.trans hc6).setCells (Or.inr (Nat.le_refl _)) _ _
theorem ro_range {w : World} {b B : Nat} {vs : List Value} (h : w.rangeAt b 0 vs) (hb : b < B) : Ro w B (some ⟨b, 0, none⟩) vs :=
  .inr ⟨b, 0, rfl, hb, fun i hi => by
    rw [h i (vs[i]) (List.getElem?_eq_getElem hi)]
    simp [List.getD, hi]⟩
theorem rsectors_any (w : World) {u q gn go gd n : Nat} {N O : Nat → Sec} {D : Nat → Bool} (hu : w.cell? ⟨u, 0, none⟩ = some (.pointer (some ⟨q, 0, none⟩))) (hd : Rdk w q gn go gd n N O D) :
    Calls Tryz.prog 34 #[.pointer (some ⟨u, 0, none⟩)] w fun e w' => e = .returned (.int .i64 ((hsec n : Nat) : Int)) ∧ w = w' := by
  have h1 := hd.one
  have h2 := hd.top
  have hq := hd.c0
  have e1 : ((n : Int) - 1) / 2 = ((hsec n : Nat) : Int) := by unfold hsec; omega
  obtain ⟨s, HS⟩ : ∃ s, Hid (hsec n = s) := ⟨_, Lib.hid rfl⟩
  rw [HS.out] at e1 ⊢
  have hn1 : (1 : Int) ≤ (n : Int) := by omega
  have E1 := Lib.hid e1
  clear hd e1
  go_enter Tryz.func34, Tryz.ntmps34
  go_wp2
  go_ret
  exact ⟨ret_int E1.out, rfl⟩
set_option maxHeartbeats 2000000 in
set_option maxRecDepth 100000 in
theorem rhalf_any (w : World) {u q gn go gd n : Nat} {R O : Nat → Sec} {D : Nat → Bool} (h : Nat) (hu : w.cell? ⟨u, 0, none⟩ = some (.pointer (some ⟨q, 0, none⟩))) (hd : Rdk w q gn go gd n R O D) (hh : h ≤ 1) :
    Calls Tryz.prog 36 #[.pointer (some ⟨u, 0, none⟩), .int .i64 (h : Int)] w fun e w' => ∃ v, e = .returned v ∧ New8 w w' v (halfB n R h) := by
  have h1 := hd.one
  have h2 := hd.top
  have HSE := Lib.hid (rsectors_any w hu hd)
  obtain ⟨s, HS⟩ : ∃ s, Hid (hsec n = s) := ⟨_, Lib.hid rfl⟩
  have hs : s ≤ 1024 := by rw [← HS.out]; unfold hsec; omega
  have hsn : h * s + s < n := by
    have hx : h * s ≤ 1 * s := Nat.mul_le_mul_right _ hh
    have hy : hsec n = s := HS.out
    unfold hsec at hy
    omega
  unfold halfB
  rw [HS.out] at HSE ⊢
  obtain ⟨f, HF⟩ : ∃ f, Hid (1 + h * s = f) := ⟨_, Lib.hid rfl⟩
  have hf : f + s ≤ n := by rw [← HF.out]; omega
  obtain ⟨f0, hf0⟩ : ∃ f0, h * s = f0 := ⟨_, rfl⟩
  have hff : f = 1 + f0 := by rw [← HF.out, hf0]
  have m1 : IntKind.i64.wrap ((h : Int) * (s : Int)) = (f0 : Int) := by
    rw [← Int.natCast_mul, hf0, IntKind.wrap_i64]
    omega
  have m2 : IntKind.i64.wrap (1 + (f0 : Int)) = (f : Int) := by rw [IntKind.wrap_i64]; omega
  rw [HF.out]
  have HD := Lib.hid hd
  have HU := Lib.hid hu
  clear hd hu hf0 hff hsn
  go_enter Tryz.func36, Tryz.ntmps36
  go_wp2_with (first | (go_at_call 34; refine HSE.out.mono ?_; rintro e w' ⟨rfl, rfl⟩) | fail)
  go_loopw [5, 7] (fun v i wr => ∃ k : Nat, k ≤ s ∧ i = .int .i64 k ∧ Hid (New8 w wr v (cat R f k))) (fun _ i _ => s - (intOf i).toNat)
  case atStart => exact ⟨0, Nat.zero_le _, rfl, Lib.hid ⟨Lst.nil _ _ _, by simp [bl, Value.ownBlock], Chg.refl _ _⟩⟩
  case round =>
    obtain ⟨k, hk, rfl, HV⟩ := hrel
    by_cases hlt : k < s
    · have hd1 : decide (k < s) = true := by simpa using hlt
      have hk1 : (k : Int) < (s : Int) := by omega
      obtain ⟨x, hx⟩ : ∃ x, x = f + k := ⟨_, rfl⟩
      have hxn : x < n := by omega
      have m3 : IntKind.i64.wrap ((f : Int) + (k : Int)) = (x : Int) := by rw [IntKind.wrap_i64]; omega
      have hxi : (x : Int) < (n : Int) := by omega
      have HT := Lib.hid (show cat R f (k + 1) = cat R f k ++ R x by rw [hx]; rfl)
      have hdk := HD.out.kept HV.out.chg
      have c0 := HV.out.chg.cell HU.out (by simp)
      have c1 := hdk.c0
      have hro := hdk.rn.rng x hxn
      have hCl := hdk.lenN x
      have HLE := Lib.hid (show (u8s (cat R f k)).length ≤ 1024 * 64 by rw [u8s_length, cat_len HD.out.lenN]; exact Nat.mul_le_mul_right _ (by omega))
      obtain ⟨S, HSS⟩ : ∃ S, Hid (R x = S) := ⟨_, Lib.hid rfl⟩
      rw [HSS.out] at hro hCl HT
      generalize cat R f k = bs at *
      clear hx hdk
      go_wp2_with (first
        | (refine wpList_load40 rfl _ rfl gn (x * 64) rfl S hro hCl ?_)
        | (refine wpList_alloc40 rfl rfl ?_)
        | (refine wpList_laid40 rfl _ _ rfl S rfl rfl rfl hCl ?_; intro w6 hrW ht6 hcW; have HV6 := Lib.hid (HV.out.kept hcW); have HR6 := Lib.hid (ro_range hrW (Nat.lt_succ_self _)); clear hrW ht6 hcW)
        | (at_builtin; refine wpList_appK rfl _ _ 37 rfl 5 (.int .u8 0) 1 Tryz.underlying37 infoU8 rfl u5 (u8s bs) (by rfl) HV6.out.lst (some ⟨wr.heap.size, 0, none⟩) (wr.heap.size + 1) 64 64 (u8s S) (by rfl) (by rw [u8s_length, hCl]) HR6.out (u8s_one S) (by have := HLE.out; omega) (by have := HLE.out; omega) ?_; intro v7 w7 K7)
        | fail)
      have HV7 := Lib.hid (HV6.out.more K7.out)
      go_roundw
      case rel => exact ⟨k + 1, by omega, by go_num, by rw [HT.out]; exact HV7⟩
      case measure => simp [intOf]; omega
    · have hd1 : decide (k < s) = false := by simpa using hlt
      have hks : k = s := by omega
      rw [hks] at HV
      have hk1 : ¬ ((k : Int) < (s : Int)) := by omega
      clear hks
      go_wp2
      go_ret
      exact ⟨_, rfl, HV.out⟩
end Go.Proofs.YtdiemejdbakffaaGreat
namespace Go.Proofs.YtdiemejdbakffaaGreat
open Go.RowKit Go.Deep Go.Shelf
set_option linter.unusedVariables false
set_option linter.unusedSimpArgs false

/-- seen from w0: only blocks in N, and new ones, have turned, and the tape's and the disk's are among these -/
structure Ts (w0 w : World) (N l : List Nat) (q p g b n : Nat) (S : TS) : Prop where
  td : TD w l q p g b n S
  sub : ∀ x ∈ l ++ [g, b], x ∈ N ∨ w0.heap.size ≤ x
  chg : Chg N w0 w
def Tz (w0 w : World) (N : List Nat) (q p g b n : Nat) (S : TS) : Prop := ∃ l, Ts w0 w N l q p g b n S
theorem Ts.kept {w0 w w' : World} {N l : List Nat} {q p g b n : Nat} {S : TS} (t : Ts w0 w N l q p g b n S) (hc : Chg [] w w') : Ts w0 w' N l q p g b n S := ⟨t.td.kept hc, t.sub, t.chg.then hc (by simp)⟩
theorem Tz.kept {w0 w w' : World} {N : List Nat} {q p g b n : Nat} {S : TS} (t : Tz w0 w N q p g b n S) (hc : Chg [] w w') : Tz w0 w' N q p g b n S := t.elim fun l h => ⟨l, h.kept hc⟩
theorem Tz.chg {w0 w : World} {N : List Nat} {q p g b n : Nat} {S : TS} (t : Tz w0 w N q p g b n S) : Chg N w0 w := t.elim fun l h => h.chg
theorem Tz.inv {w0 w : World} {N : List Nat} {q p g b n : Nat} {S : TS} (t : Tz w0 w N q p g b n S) : SInv n S := t.elim fun l h => h.td.inv
theorem Ts.tdt {w0 w w' : World} {N l : List Nat} {q p g b n : Nat} {S S' : TS} (t : Ts w0 w N l q p g b n S) (u : TDT w l q p g b n S' w') : Tz w0 w' N q p g b n S' := by
  obtain ⟨l', h1, h2, h3⟩ := u
  refine ⟨l', h1, fun x hx => ?_, t.chg.then h3 (fun x hx => t.sub x (List.mem_append.2 (.inl hx)))⟩
  rcases List.mem_append.1 hx with hx | hx
  · rcases h2 x hx with h4 | h4
    · exact t.sub x (List.mem_append.2 (.inl h4))
    · exact .inr (Nat.le_trans t.chg.size h4)
  · exact t.sub x (List.mem_append.2 (.inr hx))
theorem Ts.run {w0 w w' : World} {N l : List Nat} {q p g b n : Nat} {S S' : TS} (t : Ts w0 w N l q p g b n S) (u : TD w' l q p g b n S') (hc : Chg (l ++ [g, b]) w w') : Tz w0 w' N q p g b n S' :=
  ⟨l, u, t.sub, t.chg.then hc t.sub⟩
/-- seen from now on -/
theorem Tz.now {w0 w : World} {N : List Nat} {q p g b n : Nat} {S : TS} (t : Tz w0 w N q p g b n S) : ∃ N', Tz w w N' q p g b n S ∧ ∀ x ∈ N', x ∈ N ∨ w0.heap.size ≤ x := by
  obtain ⟨l, h⟩ := t
  exact ⟨l ++ [g, b], ⟨l, h.td, fun x hx => .inl hx, Chg.refl _ _⟩, h.sub⟩
/-- a new disk with a new tape -/
theorem Tz.start {w0 w1 w2 : World} {l : List Nat} {q p g b n : Nat} {S : TS} (hp : w0.heap.size ≤ p) (hg : w0.heap.size ≤ g) (hb : w0.heap.size ≤ b) (h1 : Chg [] w0 w1) (t : TD w2 l q p g b n S) (hl : ∀ x ∈ l, w1.heap.size ≤ x) (h2 : Chg [] w1 w2) : Tz w0 w2 [] q p g b n S := by
  refine ⟨l, t, fun x hx => .inr ?_, h1.trans h2⟩
  rcases List.mem_append.1 hx with hx | hx
  · exact Nat.le_trans h1.size (hl x hx)
  · simp only [List.mem_cons, List.mem_nil_iff, or_false] at hx
    rcases hx with rfl | rfl
    · exact hg
    · exact hb
section
variable {w0 w : World} {N : List Nat} {q p g b n : Nat} {S : TS}
theorem ro_off {w : World} {B : Nat} {a : Option Addr} {vs : List Value} (h : Ro w B a vs) (hn : vs ≠ []) : ∀ x, a = some x → x.block < B := by
  rcases h with h | ⟨b, off, rfl, hb, _⟩
  · exact absurd h hn
  · intro x hx
    injection hx with hx
    subst hx
    exact hb
theorem append_Z (t : Tz w0 w N q p g b n S) (a : Option Addr) (r : Rec) (c : Nat) (hro : Ro w0 w0.heap.size a (u8s r)) (hN : r ≠ [] → ∀ x, a = some x → x.block ∉ N) :
    Calls Tryz.prog 21 #[.pointer (some ⟨q, 0, none⟩), .slice a r.length c] w fun e w' => e = .returned (.int .i64 ((appE n S.k S.h S.h' S.L S.L' r : Nat) : Int)) ∧ Hid (Tz w0 w' N q p g b n (appS n S r)) := by
  obtain ⟨l, t⟩ := t
  have hne : ∀ {r : Rec}, okR r → r ≠ [] := fun h e => by subst e; exact absurd h.1 (by simp)
  have hu : ∀ {r : Rec}, r ≠ [] → u8s r ≠ [] := fun h e => h (by have := congrArg List.length e; rw [u8s_length] at this; exact List.eq_nil_of_length_eq_zero this)
  refine (append_TD t.td a r c w0.heap.size (Ro.chgs2 hro t.chg (fun h => hN (fun e => h (by rw [e]; rfl)))) t.chg.size (fun hr x hx hm => ?_)).mono fun e w' h => ⟨h.1, Lib.hid (t.tdt h.2.out)⟩
  rcases t.sub _ (List.mem_append.2 (.inl hm)) with h1 | h1
  · exact hN (hne hr) x hx h1
  · have := ro_off hro (hu (hne hr)) x hx
    omega
/-- a row of the law's own -/
theorem append_Zown (t : Tz w0 w N q p g b n S) (i : Nat) (r : Rec) (c : Nat) (hro : Ro w (i + 1) (some ⟨i, 0, none⟩) (u8s r)) (hi : i < w.heap.size) (hl : ∀ l, TD w l q p g b n S → (∀ x ∈ l ++ [g, b], x ∈ N ∨ w0.heap.size ≤ x) → i ∉ l) :
    Calls Tryz.prog 21 #[.pointer (some ⟨q, 0, none⟩), .slice (some ⟨i, 0, none⟩) r.length c] w fun e w' => e = .returned (.int .i64 ((appE n S.k S.h S.h' S.L S.L' r : Nat) : Int)) ∧ Hid (Tz w0 w' N q p g b n (appS n S r)) := by
  obtain ⟨l, t⟩ := t
  refine (append_TD t.td _ r c (i + 1) hro (by omega) (fun hr x hx hm => ?_)).mono fun e w' h => ⟨h.1, Lib.hid (t.tdt h.2.out)⟩
  injection hx with hx
  subst hx
  exact hl l t.td t.sub hm
/-- a literal -/
theorem append_Zlit (t : Tz w0 w N q p g b n S) (r : Rec) (c : Nat) (fr : Nat × Nat) :
    Calls Tryz.prog 21 #[.pointer (some ⟨q, 0, none⟩), .slice (some ⟨w.heap.size, 0, none⟩) r.length c] (w.alloc (.cells (u8s r).toArray 5 fr)) fun e w' => e = .returned (.int .i64 ((appE n S.k S.h S.h' S.L S.L' r : Nat) : Int)) ∧ Hid (Tz w0 w' N q p g b n (appS n S r)) := by
  obtain ⟨l, t⟩ := t
  have hC : Chg [] w (w.alloc (.cells (u8s r).toArray 5 fr)) := (Chg.refl [] w).alloc _
  have t2 := t.kept hC
  refine (append_TD t2.td _ r c (w.heap.size + 1) (ro_marked w r _ fr) (by simp) (fun hr x hx hm => ?_)).mono fun e w' h => ⟨h.1, Lib.hid (t2.tdt h.2.out)⟩
  injection hx with hx
  subst hx
  have := t.td.lt _ hm
  simp at this
theorem replace_Z (t : Tz w0 w N q p g b n S) (a : Option Addr) (xs : List SB) (c : Nat) (hr : RoL w0 w0.heap.size a xs) (hN : Sep N a xs) (hl : xs.length ≤ 1000000) :
    Calls Tryz.prog 38 #[.pointer (some ⟨q, 0, none⟩), .slice a xs.length c] w fun e w' => e = .returned (.int .i64 ((replE n S.k xs : Nat) : Int)) ∧ Hid (Tz w0 w' N q p g b n (replS n S xs)) := by
  obtain ⟨l, t⟩ := t
  refine (replace_TD t.td a xs c w0.heap.size (hr.chgs t.chg hN) t.chg.size ⟨fun h x hx hm => ?_, fun y hy h x hx hm => ?_⟩ hl).mono fun e w' h => ⟨h.1, Lib.hid (t.tdt h.2.out)⟩
  · rcases t.sub _ (List.mem_append.2 (.inl hm)) with h1 | h1
    · exact hN.1 h x hx h1
    · have := ro_off hr.row (fun e => h (List.map_eq_nil_iff.1 e)) x hx
      omega
  · rcases t.sub _ (List.mem_append.2 (.inl hm)) with h1 | h1
    · exact hN.2 y hy h x hx h1
    · have := ro_off (hr.el y hy).1 (fun e => h (by have := congrArg List.length e; rw [u8s_length] at this; exact List.eq_nil_of_length_eq_zero this)) x hx
      omega
theorem commit_Z (t : Tz w0 w N q p g b n S) : Calls Tryz.prog 22 #[.pointer (some ⟨q, 0, none⟩)] w fun e w' => e = .returned (.int .i64 0) ∧ Hid (Tz w0 w' N q p g b n (commitS n S)) := by
  obtain ⟨l, t⟩ := t
  exact (commit_TD t.td).mono fun e w' h => ⟨h.1, Lib.hid (t.run h.2.1.out h.2.2)⟩
theorem step_Z (t : Tz w0 w N q p g b n S) : Calls Tryz.prog 40 #[.pointer (some ⟨q, 0, none⟩)] w fun e w' => e = .returned (.tuple #[.bool (doneS S), .int .i64 0]) ∧ Hid (Tz w0 w' N q p g b n (stepS n S)) := by
  obtain ⟨l, t⟩ := t
  exact (step_TD t.td).mono fun e w' h => ⟨h.1, Lib.hid (t.run h.2.1.out h.2.2)⟩
theorem len_Z (t : Tz w0 w N q p g b n S) : Calls Tryz.prog 20 #[.pointer (some ⟨q, 0, none⟩)] w fun e w' => e = .returned (.int .i64 ((S.L.length : Nat) : Int)) ∧ Chg [] w w' := by
  obtain ⟨l, t⟩ := t
  exact len_TD t.td
theorem waiting_Z (t : Tz w0 w N q p g b n S) : Calls Tryz.prog 48 #[.pointer (some ⟨q, 0, none⟩)] w fun e w' => e = .returned (.int .i64 ((waitN S.h S.h' S.L S.L' : Nat) : Int)) ∧ Chg [] w w' := by
  obtain ⟨l, t⟩ := t
  exact waiting_TD t.td
theorem room_Z (t : Tz w0 w N q p g b n S) : Calls Tryz.prog 24 #[.pointer (some ⟨q, 0, none⟩)] w fun e w' => e = .returned (.int .i64 ((roomN n S.h S.h' S.L S.L' : Nat) : Int)) ∧ Qt w w' := by
  obtain ⟨l, t⟩ := t
  obtain ⟨_, _, _, _, tv⟩ := t.td.tp
  exact room_tape tv t.td.dsk
theorem read_Z (t : Tz w0 w N q p g b n S) (i : Nat) (hi : i < S.L.length) : Calls Tryz.prog 19 #[.pointer (some ⟨q, 0, none⟩), .int .i64 (i : Int)] w fun e w' => ∃ v, e = .returned (.tuple #[v, .int .i64 0]) ∧ Hid (Lst w' w.heap.size 5 v (u8s S.L[i])) ∧ Chg [] w w' := by
  obtain ⟨l, t⟩ := t
  exact read_TD t.td i hi
end
end Go.Proofs.YtdiemejdbakffaaGreat
namespace Go.Proofs.YtdiemejdbakffaaGreat
open Go.RowKit Go.Deep Go.Shelf Go.Maps
set_option linter.unusedVariables false
set_option linter.unusedSimpArgs false

theorem infoSl : (Tryz.prog.info? 37).map (fun i => (i.zero, i.size, i.bytes)) = some (some (.slice none 0 0), 1, 24) := by kernel_rfl
theorem ne_sl_u8 : 37 ≠ 5 := by decide
/-- a slice of slices of bytes of the law's own -/
structure RL (w : World) (base : Nat) (v : Value) (xs : List SB) : Prop where
  lst : Lst w 0 37 v (xs.map SB.val)
  low : ∀ x ∈ bl v, base ≤ x
  el : ∀ x ∈ xs, Lst w base 5 x.val (u8s x.bs)
theorem RL.nil (w : World) (base : Nat) : RL w base (.slice none 0 0) [] := ⟨Lst.nil _ _ _, by simp [bl, Value.ownBlock], by simp⟩
theorem RL.kept {w w' : World} {base : Nat} {v : Value} {xs : List SB} (h : RL w base v xs) (hc : Chg [] w w') : RL w' base v xs := ⟨h.lst.kept0 hc, h.low, fun x hx => (h.el x hx).kept0 hc⟩
theorem RL.chg {w w' : World} {base : Nat} {v : Value} {xs : List SB} {l : List Nat} (h : RL w base v xs) (hc : Chg l w w') (hl : ∀ x ∈ l, x < base) : RL w' base v xs :=
  ⟨h.lst.chg hc (fun g hg hm => by have := h.low g (mem_bl.2 hg); have := hl g hm; omega), h.low, fun x hx => (h.el x hx).chg hc (fun g hg hm => by have := ((h.el x hx).lt g hg).1; have := hl g hm; omega)⟩
theorem RL.base {w : World} {base B : Nat} {v : Value} {xs : List SB} (h : RL w base v xs) (hb : B ≤ base) : RL w B v xs := ⟨h.lst, fun x hx => Nat.le_trans hb (h.low x hx), fun x hx => (h.el x hx).base hb⟩
theorem RL.form {w : World} {base : Nat} {v : Value} {xs : List SB} (h : RL w base v xs) : ∃ a c, v = .slice a xs.length c := by
  obtain ⟨a, c, h1, _⟩ := h.lst.form
  rw [List.length_map] at h1
  exact ⟨a, c, h1⟩
theorem RL.rom {w : World} {base : Nat} {a : Option Addr} {n c : Nat} {xs : List SB} (h : RL w base (.slice a n c) xs) (hl : xs.length ≤ 9223372036854775807) (hx : ∀ x ∈ xs, x.bs.length ≤ 9223372036854775807) : RoM w a xs := by
  obtain ⟨a1, c1, h1, h2, _⟩ := h.lst.form
  injection h1 with h3 h4 h5
  subst h3
  refine ⟨h2, fun x hx => ?_, hl, hx⟩
  obtain ⟨a2, c2, h6, h7, _⟩ := (h.el x hx).form
  unfold SB.val at h6
  injection h6 with h8
  subst h8
  exact h7
theorem RL.more {w w' : World} {base : Nat} {v v' : Value} {xs : List SB} {x : SB} (h : RL w base v xs) (hx : Lst w base 5 x.val (u8s x.bs)) (hb : base ≤ w.heap.size) (k : AppK w w' 37 v v' (xs.map SB.val) [x.val]) : RL w' base v' (xs ++ [x]) ∧ Chg (bl v) w w' := by
  have hy : ∀ y : SB, Lst w base 5 y.val (u8s y.bs) → Lst w' base 5 y.val (u8s y.bs) := fun y hy => hy.chg k.chg (fun g hg hm => (hy.base (Nat.zero_le _)).off h.lst (Ne.symm ne_sl_u8) g hg hm)
  refine ⟨⟨by rw [List.map_append]; exact k.lst, fun g hg => ?_, fun y hm => ?_⟩, k.chg⟩
  · rcases k.bl g hg with h1 | h1
    · exact h.low g h1
    · omega
  · rcases List.mem_append.1 hm with hm | hm
    · exact hy y (h.el y hm)
    · simp only [List.mem_cons, List.mem_nil_iff, or_false] at hm
      subst hm
      exact hy y hx
section
variable {w0 w : World} {N : List Nat} {q p g b n : Nat} {S : TS}
theorem Tz.few (t : Tz w0 w N q p g b n S) : S.L.length ≤ 1000000 := by
  obtain ⟨l, t⟩ := t
  obtain ⟨_, _, _, _, tv⟩ := t.td.tp
  have := tv.len_le t.td.dsk.top
  omega
theorem Tz.okR (t : Tz w0 w N q p g b n S) : okL S.L := by
  obtain ⟨l, t⟩ := t
  obtain ⟨_, _, _, _, tv⟩ := t.td.tp
  exact tv.ok
end
end Go.Proofs.YtdiemejdbakffaaGreat
