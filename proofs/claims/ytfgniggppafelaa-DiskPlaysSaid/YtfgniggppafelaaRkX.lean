/-
  Contract of the document's disk: Crash. No claim of its own.
-/
import Derived.Test.YtfgniggppafelaaRkF
namespace Go.Proofs.Ytfgniggppafelaa
open Go.RowKit Go.Maps Go.Shelf
set_option linter.unusedVariables false
set_option linter.unusedSimpArgs false

theorem crash_of_no {F : Nat → Sec} {m : Nat → Option Sec} {ks : List Bool} {i : Nat} (h : (m i).isSome = false) : crashF F m ks i = F i := by
  have hm : m i = none := by simpa using h
  unfold crashF now
  rw [hm]
  split <;> rfl
theorem crash_of_keep {F : Nat → Sec} {m : Nat → Option Sec} {ks : List Bool} {i : Nat} (h : ks.getD (dirtyL i m).length false = true) : crashF F m ks i = now F m i := if_pos h
theorem crash_of_drop {F : Nat → Sec} {m : Nat → Option Sec} {ks : List Bool} {i : Nat} (h : ks.getD (dirtyL i m).length false = false) : crashF F m ks i = F i := if_neg (by rw [h]; simp)
theorem len_yes {k : Nat} {m : Nat → Option Sec} (h : (m k).isSome = true) : (dirtyL (k + 1) m).length = (dirtyL k m).length + 1 := by
  rw [dirtyL_succ, if_pos h]; simp
theorem len_no {k : Nat} {m : Nat → Option Sec} (h : (m k).isSome = false) : (dirtyL (k + 1) m).length = (dirtyL k m).length := by
  rw [dirtyL_succ, if_neg (by rw [h]; simp)]; simp
/-- a sector laid into both rows of the disk that is being made -/
theorem rdk_both {w w' w2 : World} {q gn go gd n k : Nat} {C : Nat → Sec} {S : Sec} (h : Rdk w q gn go gd n (mixR (fun _ => zsec) C k) (mixR (fun _ => zsec) C k) (fun _ => false)) (hk : k < n) (hS : C k = S) (hl : S.length = 64) (h1 : Chg [] (w.setCells gn (k * 64) (u8s S)) w') (h2 : Chg [] (w'.setCells go (k * 64) (u8s S)) w2) :
    Rdk w2 q gn go gd n (mixR (fun _ => zsec) C (k + 1)) (mixR (fun _ => zsec) C (k + 1)) (fun _ => false) := by
  have a1 := ((h.setN k hk S hl).kept h1).setO k hk S hl
  rw [← hS, mixR_next, hS] at a1
  exact a1.kept h2
section
variable {w : World} {ops : Array Oper} {rest : List Oper} {o : Oper} {a : Act} {Q : Exit → Act → World → Prop}
/-- a sector laid into a variable; of the new world only what is asked -/
theorem wpList_lay40 (hgd : o.guard = none) (x y : Operand) (ho : o.op = .store 40 x y) (b : Nat) (S : Sec) (hx : a.eval x = .pointer (some ⟨b, 0, none⟩)) (hy : a.eval y = sv S) (ht : w.there b 0 64) (hS : S.length = 64)
    (h : ∀ w', w'.rangeAt b 0 (u8s S) → w'.there b 0 64 → Chg [b] w w' → wpList Try.prog ops Q rest (a.put o.dst undef) w') : wpList Try.prog ops Q (o :: rest) a w :=
  wpList_store40 hgd x y ho b 0 S hx hy ht hS (h _ (World.rangeAt_setCells_same _ _ _ _ (by rw [u8s_length, hS]; exact ht)) (World.there_setCells ht _ _ _) ((Chg.refl [b] w).setCells (by simp) _ _))
theorem wpList_laid40 {W : World} (hgd : o.guard = none) (x y : Operand) (ho : o.op = .store 40 x y) (S : Sec) (hW : W = w.alloc (.cells (u8s zsec).toArray 40)) (hx : a.eval x = .pointer (some ⟨w.heap.size, 0, none⟩)) (hy : a.eval y = sv S) (hS : S.length = 64)
    (h : ∀ w', w'.rangeAt w.heap.size 0 (u8s S) → w'.there w.heap.size 0 64 → Chg [] w w' → wpList Try.prog ops Q rest (a.put o.dst undef) w') : wpList Try.prog ops Q (o :: rest) a W := by
  subst hW
  exact wpList_lay40 hgd x y ho w.heap.size S hx hy (there_box w zsec _ zsec_len) hS fun w' h1 h2 h3 => h w' h1 h2 (((Chg.refl [] w).alloc _).then h3 (by simp))
end
theorem there_eq {w : World} {b o n k : Nat} (h : w.there b o n) (e : k = n) : w.there b o k := by rw [e]; exact h
set_option maxHeartbeats 1000000 in
set_option maxRecDepth 100000 in
theorem rcrash_ok (w : World) {q gn go gd n : Nat} {F : Nat → Sec} {m : Nat → Option Sec} (hd : Rdk w q gn go gd n (now F m) F (fun i => (m i).isSome)) (a : Option Addr) (ks : List Bool) (c B : Nat) (hro : Ro w B a (bls ks)) (hB : B ≤ w.heap.size) (hks : ks.length ≤ 9223372036854775807) (hC : ∀ i, (crashF F m ks i).length = 64) :
    Calls Try.prog 19 #[.pointer (some ⟨q, 0, none⟩), .slice a ks.length c] w fun e w' => ∃ q' gn' go' gd', e = .returned (.pointer (some ⟨q', 0, none⟩)) ∧ w.heap.size ≤ q' ∧ w.heap.size ≤ gn' ∧ w.heap.size ≤ go' ∧ w.heap.size ≤ gd' ∧ Rdk w' q' gn' go' gd' n (crashF F m ks) (crashF F m ks) (fun _ => false) ∧ Chg [] w w' := by
  have hone := hd.one
  have htop := hd.top
  have hc0 := hd.c0
  have HM := Lib.hid (made_ok w n hone htop)
  have HD := Lib.hid hd
  have HR := Lib.hid (hro.mono hB)
  have HCL := Lib.hid hC
  have hltq := hd.ltq
  have hltn := hd.ltn
  have hlto := hd.lto
  have hltd := hd.ltd
  obtain ⟨n1, n2, n3, n4, n5, n6⟩ := hd.ne
  clear hd hro hC
  go_enter Try.func19, Try.ntmps19
  go_wp2_with (first
    | (go_at_call 9; refine HM.out.mono ?_; rintro e w1 ⟨p, pn, po, pd, rfl, hp, hpn, hpo, hpd, hx1, hc1⟩)
    | fail)
  have HX1 := Lib.hid (show Rdk w1 p pn po pd n (mixR (fun _ => zsec) (crashF F m ks) 0) (mixR (fun _ => zsec) (crashF F m ks) 0) (fun _ => false) by rw [mixR_zero]; exact hx1)
  have hne2 := hx1.ne
  clear hx1 HM
  go_loopw [7, 8] (fun kk i wr => ∃ k : Nat, k ≤ n ∧ i = .int .i64 k ∧ kk = .int .i64 ((dirtyL k m).length : Nat) ∧ Rdk wr p pn po pd n (mixR (fun _ => zsec) (crashF F m ks) k) (mixR (fun _ => zsec) (crashF F m ks) k) (fun _ => false) ∧ Chg [] w wr) (fun _ i _ => n - (intOf i).toNat)
  case atStart => exact ⟨0, Nat.zero_le _, rfl, rfl, HX1.out, hc1⟩
  case round =>
    obtain ⟨k, hk, rfl, rfl, hX, hc⟩ := hrel
    have hR := HD.out.kept hc
    have hcq0 := hR.c0
    by_cases hlt : k < n
    · have hdt : decide (k < n) = true := by simpa using hlt
      have hk0 : (0 : Int) ≤ (k : Int) := by omega
      have hk1 : (k : Int) < (n : Int) := by omega
      have hcq1 := hR.c1
      have hcq2 := hR.c2
      have hcd := hR.bd.cell k hlt
      have hro1 := hR.ro.rng k hlt
      have hrn1 := hR.rn.rng k hlt
      have hL1 := HD.out.lenO k
      have hL2 := HD.out.lenN k
      have hle := dirtyL_le k m
      have HXk := Lib.hid hX
      have hCl := HCL.out k
      have hltpn := hX.ltn
      have hltpo := hX.lto
      obtain ⟨n21, n22, n23, n24, n25, n26⟩ := hne2
      obtain ⟨S, HS⟩ : ∃ S, Hid (crashF F m ks k = S) := ⟨_, Lib.hid rfl⟩
      rw [HS.out] at hCl
      have hmeas : n - (k + 1) < n - k := by omega
      have hu := Try.underlying40
      have hinf : (Try.prog.info? 40).map (·.size) = some (u8s S).length := by rw [u8s_length, hCl]; exact info40
      have hone' := u8s_one S
      obtain ⟨L, HL⟩ : ∃ L, Hid ((dirtyL k m).length = L) := ⟨_, Lib.hid rfl⟩
      have hL0 : (0 : Int) ≤ (L : Int) := by omega
      have hcase : ((m k).isSome = false ∧ F k = S) ∨ ((m k).isSome = true ∧ F k = S ∧ ¬ L < ks.length) ∨ ((m k).isSome = true ∧ F k = S ∧ L < ks.length ∧ ks.getD L false = false) ∨ ((m k).isSome = true ∧ now F m k = S ∧ L < ks.length ∧ ks.getD L false = true) := by
        rw [← HS.out, ← HL.out]
        cases hs : (m k).isSome with
        | false => exact .inl ⟨rfl, (crash_of_no hs).symm⟩
        | true =>
          refine .inr ?_
          by_cases h : (dirtyL k m).length < ks.length
          · cases hg : ks.getD (dirtyL k m).length false with
            | false => exact .inr (.inl ⟨rfl, (crash_of_drop hg).symm, h, rfl⟩)
            | true => exact .inr (.inr ⟨rfl, (crash_of_keep hg).symm, h, rfl⟩)
          · refine .inl ⟨rfl, (crash_of_drop ?_).symm, h⟩
            rw [List.getD_eq_getElem?_getD, List.getElem?_eq_none (by omega)]
            rfl
      have HK1 := Lib.hid (show (m k).isSome = true → (dirtyL (k + 1) m).length = L + 1 from fun h => by rw [len_yes h, HL.out])
      have HK0 := Lib.hid (show (m k).isSome = false → (dirtyL (k + 1) m).length = L from fun h => by rw [len_no h, HL.out])
      rw [HL.out] at hle
      simp only [HL.out]
      clear hX hR
      have hkt : (k : Int) ≤ 1024 := by omega
      have hLt : (L : Int) ≤ 1024 := by omega
      have e : updF (mixR (fun _ => zsec) (crashF F m ks) k) k S = mixR (fun _ => zsec) (crashF F m ks) (k + 1) := by rw [← HS.out]; exact mixR_next _ _ _
      have HE := Lib.hid e
      clear e
      rcases hcase with ⟨hs, hS1⟩ | ⟨hs, hS1, hge⟩ | ⟨hs, hS1, hlk, hv⟩ | ⟨hs, hS1, hlk, hv⟩
      case' inl =>
        have hcd' : wr.cell? ⟨gd, k, none⟩ = some (.bool false) := by rw [← hs]; exact hcd
        have HKK := Lib.hid (HK0.out hs)
        rw [hS1] at hro1 hL1
        clear hcd hs HK0 HK1 hrn1 hL2
        go_wp2_with (first
          | (refine wpList_load40 rfl _ rfl go (k * 64) rfl S hro1 hCl ?_)
          | (refine wpList_alloc40 rfl rfl ?_)
          | (refine wpList_laid40 rfl _ _ rfl S rfl rfl rfl hCl ?_; intro w6 hrW ht6 hcW; have hcq26 := hcW.cell hcq2 (by simp); have hcd6 := hcW.cell hcd' (by simp))
          | fail)
      case' inr.inl =>
        have hcd' : wr.cell? ⟨gd, k, none⟩ = some (.bool true) := by rw [← hs]; exact hcd
        have HKK := Lib.hid (HK1.out hs)
        have hge' : decide (L < ks.length) = false := by simpa using hge
        rw [hS1] at hro1 hL1
        clear hcd hs HK0 HK1 hrn1 hL2 hge
        go_wp2_with (first
          | (refine wpList_load40 rfl _ rfl go (k * 64) rfl S hro1 hCl ?_)
          | (refine wpList_alloc40 rfl rfl ?_)
          | (refine wpList_laid40 rfl _ _ rfl S rfl rfl rfl hCl ?_; intro w6 hrW ht6 hcW; have hcq26 := hcW.cell hcq2 (by simp); have hcd6 := hcW.cell hcd' (by simp))
          | fail)
      case' inr.inr.inl =>
        obtain ⟨bk, off, rfl, hbk, hkc⟩ := HR.out.bl (by omega)
        have hkc2 := hc.cell (hkc L hlk) (by simp)
        rw [hv] at hkc2
        have hcd' : wr.cell? ⟨gd, k, none⟩ = some (.bool true) := by rw [← hs]; exact hcd
        have HKK := Lib.hid (HK1.out hs)
        have hlk' : decide (L < ks.length) = true := by simpa using hlk
        have hlk1 : (L : Int) < (ks.length : Int) := by omega
        rw [hS1] at hro1 hL1
        clear hcd hs HK0 HK1 hrn1 hL2 hkc hv
        go_wp2_with (first
          | (refine wpList_load40 rfl _ rfl go (k * 64) rfl S hro1 hCl ?_)
          | (refine wpList_alloc40 rfl rfl ?_)
          | (refine wpList_laid40 rfl _ _ rfl S rfl rfl rfl hCl ?_; intro w6 hrW ht6 hcW; have hcq26 := hcW.cell hcq2 (by simp); have hcd6 := hcW.cell hcd' (by simp); have hkc6 := hcW.cell hkc2 (by simp))
          | fail)
      case' inr.inr.inr =>
        obtain ⟨bk, off, rfl, hbk, hkc⟩ := HR.out.bl (by omega)
        have hkc2 := hc.cell (hkc L hlk) (by simp)
        rw [hv] at hkc2
        have hcd' : wr.cell? ⟨gd, k, none⟩ = some (.bool true) := by rw [← hs]; exact hcd
        have HKK := Lib.hid (HK1.out hs)
        have hlk' : decide (L < ks.length) = true := by simpa using hlk
        have hlk1 : (L : Int) < (ks.length : Int) := by omega
        rw [hS1] at hrn1 hL2
        obtain ⟨T, HT⟩ : ∃ T, Hid (F k = T) := ⟨_, Lib.hid rfl⟩
        rw [HT.out] at hro1 hL1
        clear hcd hs HK0 HK1 hL2 hkc hv
        go_wp2_with (first
          | (refine wpList_load40 rfl _ rfl go (k * 64) rfl T hro1 hL1 ?_)
          | (refine wpList_alloc40 rfl rfl ?_)
          | (refine wpList_laid40 rfl _ _ rfl T rfl rfl rfl hL1 ?_; intro w6 hr6 ht6 hc6; have hcq06 := hc6.cell hcq0 (by simp); have hcq26 := hc6.cell hcq2 (by simp); have hcd6 := hc6.cell hcd' (by simp); have hkc6 := hc6.cell hkc2 (by simp); have hrn6 := hc6.range hrn1 (by simp))
          | (refine wpList_load40 rfl _ rfl gn (k * 64) rfl S hrn6 hCl ?_)
          | (refine wpList_lay40 rfl _ _ rfl wr.heap.size S rfl rfl ht6 hCl ?_; intro w7 hrW ht7 hc7)
          | fail)
        have hcW : Chg [] wr w7 := hc6.then hc7 (by simp)
      all_goals
        have hX6 := HXk.out.kept hcW
        have hXd := hX6.kept ((Chg.refl [] _).drew)
        have hrd := (World.rangeAt_drew _ _ _ _).2 hrW
        have hpc0 := hXd.c0
        have hT1 := hXd.rn.at_ k hlt
        have hX7 := hXd.setN k hlt S hCl
        have hr7 := ((Chg.refl [pn] _).setCells (b := pn) (by simp) (k * 64) (u8s S)).range hrd (by simp; omega)
        have hpc0' := hX7.c0
        have hT1' := hX7.rn.at_ k hlt
        have hX7d := hX7.kept ((Chg.refl [] _).drew)
        have hr7d := (World.rangeAt_drew _ _ _ _).2 hr7
        have hpc1 := hX7d.c1
        have hT2 := hX7d.ro.at_ k hlt
        have hX8 := hX7d.setO k hlt S hCl
        have hr8 := ((Chg.refl [po] _).setCells (b := po) (by simp) (k * 64) (u8s S)).range hr7d (by simp; omega)
        have hpc1' := hX8.c1
        have hT2' := hX8.ro.at_ k hlt
        rw [HE.out] at hX8
        have HN := Lib.hid hX8
        have HC := Lib.hid ((((hc.trans hcW).drew.setCells (b := pn) (.inr hpn) (k * 64) (u8s S)).drew).setCells (b := po) (.inr hpo) (k * 64) (u8s S))
        have e64 : (u8s S).length = 64 := by rw [u8s_length, hCl]
        have hS1 := there_eq hT1 e64
        have hS1' := there_eq hT1' e64
        have hS2 := there_eq hT2 e64
        have hS2' := there_eq hT2' e64
        clear hT1 hT1' hT2 hT2' e64
        clear hX6 hXd hX7 hX7d hX8 hcW
        go_wp2_with fail
        go_region_held3 (fun w' => w'.cell? ⟨p, 0, none⟩ = some (.slice (some ⟨pn, 0, none⟩) n n) ∧ w'.rangeAt wr.heap.size 0 (u8s S) ∧ w'.there pn (k * 64) (u8s S).length) (first | assumption | (exact ⟨hpc0, hrd, hS1⟩) | (exact ⟨hpc0', hr7, hS1'⟩)) (fail)
        go_wp2_with fail
        go_region_held3 (fun w' => w'.cell? ⟨p, 1, none⟩ = some (.slice (some ⟨po, 0, none⟩) n n) ∧ w'.rangeAt wr.heap.size 0 (u8s S) ∧ w'.there po (k * 64) (u8s S).length) (first | assumption | (exact ⟨hpc1, hr7d, hS2⟩) | (exact ⟨hpc1', hr8, hS2'⟩)) (fail)
        go_wp2_with fail
        go_roundw
        case rel => exact ⟨k + 1, by omega, by go_num, by (try rw [HKK.out]); (try go_num), HN.out, HC.out⟩
        case measure => simp [intOf]; omega
    · have hdt : decide (k < n) = false := by simpa using hlt
      have hkn : k = n := by omega
      subst hkn
      have HE := Lib.hid (show Rdk wr p pn po pd k (crashF F m ks) (crashF F m ks) (fun _ => false) from ⟨hX.c0, hX.c1, hX.c2, hX.one, hX.top, HCL.out, HCL.out, hX.rn.full, hX.ro.full, hX.bd, hX.ne⟩)
      clear hX hR
      go_wp2
      go_ret
      exact ⟨p, rfl, hp, pn, hpn, po, hpo, pd, hpd, HE.out, hc⟩
end Go.Proofs.Ytfgniggppafelaa
