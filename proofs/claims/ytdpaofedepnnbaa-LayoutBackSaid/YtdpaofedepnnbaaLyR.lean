/-
  Extend of package layout, by its contract. No claim of its own.
-/
import Derived.Test.YtdpaofedepnnbaaLyQ
namespace Go.Proofs.Ytdpaofedepnnbaa
open Go.RowKit Go.Deep Go.Shelf
set_option linter.unusedVariables false
set_option linter.unusedSimpArgs false

/-- no layout, by value -/
abbrev zeroL : Value := .agg #[.int .u64 0, .slice none 0 0, .int .i64 0]
/-- what a call leaves that answers a layout, or an error -/
def R4 (w : World) (r : Int × Ly) (e : Ending) (w' : World) : Prop :=
  Below w.heap.size w w' ∧ ((r.1 = 0 ∧ lright r.2 = true ∧ ∃ T : LyT, e = .returned (.tuple #[T.val, .int .i64 0]) ∧ T.x = r.2 ∧ LyIn w' w'.heap.size T) ∨ (r.1 ≠ 0 ∧ e = .returned (.tuple #[zeroL, .int .i64 r.1])))
/-- the layout that Extend makes, before it is looked at -/
def extRaw (x : Ly) (f : Nat) (ch : List (List Int)) : Ly := ⟨x.e + 1, (x.s.filter fun s => decide (s.1 < f)) ++ [(f, ch)], x.q⟩
def extOf (x : Ly) (f : Nat) (ch : List (List Int)) : Int × Ly := if lright x = true then (if lright (extRaw x f ch) = true then (0, extRaw x f ch) else (91, ⟨0, [], 0⟩)) else (91, ⟨0, [], 0⟩)
/-- a call that answers what checked answers, its result in a block of its own -/
theorem R3.store {w0 w w' : World} {base R : Nat} {v : Value} {A : LyT} {cs : List Value} {n c : Nat} {a : Option Addr} (hv : v = .slice a n c) (h1 : Own w R 25 cs) (hs : Sl w base v A.sg) (hR : w0.heap.size ≤ R) (hb : base ≥ w0.heap.size) (hw : Below w0.heap.size w0 w) (T : LyT) (hT : ∀ l', (∀ x ∈ l', x < w.heap.size ∧ x ∉ rowOf v) → RoX w' l' T.a (sgv T.sg) ∧ SgX w' l' T.sg) (hc : Chg (rowOf v) w w') :
    Own w' R 25 cs ∧ Below w0.heap.size w0 w' ∧ RoX w' [R] T.a (sgv T.sg) ∧ SgX w' [R] T.sg := by
  have hn := h1.out_row hs (by decide)
  have := hT [R] (fun x hx => by simp only [List.mem_singleton] at hx; subst hx; exact ⟨h1.lt, hn⟩)
  refine ⟨h1.chg hc hn, hw.trans (hc.below hw.size (fun x hx => Nat.le_trans hb (hs.row x hx).1)), this.1, this.2⟩
theorem lyIn_of {w : World} {l : List Nat} {T : LyT} (h1 : RoX w l T.a (sgv T.sg)) (h2 : SgX w l T.sg) : LyIn w w.heap.size T := ⟨h1.ro, h2.inn⟩
def keepF (f : Nat) (L : List SgT) : List SgT := L.filter fun s => decide (s.f < f)
theorem keepF_x (f : Nat) (L : List SgT) : sgx (keepF f L) = (sgx L).filter fun s => decide (s.1 < f) := by
  unfold sgx keepF
  rw [List.filter_map]
  rfl
theorem keepF_take {f : Nat} {L : List SgT} {k : Nat} (h : k < L.length) : keepF f (L.take (k + 1)) = keepF f (L.take k) ++ (if (st L k).f < f then [st L k] else []) := by
  have e : L.take (k + 1) = L.take k ++ [st L k] := by
    rw [List.take_succ_eq_append_getElem h]
    simp [st, List.getD, h]
  rw [e]
  unfold keepF
  rw [List.filter_append]
  by_cases hf : (st L k).f < f <;> simp [hf]
theorem keepF_len (f : Nat) (L : List SgT) : (keepF f L).length ≤ L.length := List.length_filter_le _ _
set_option maxHeartbeats 4000000 in
set_option maxRecDepth 10000 in
theorem extend_any (A : LyT) (B : Nat) (f : Nat) (M : List ChT) (a2 : Option Addr) (c2 : Nat) (w : World) (h : LyIn w B A) (hB : B ≤ w.heap.size) (hf : SgFit A.sg) (hm : Ro w B a2 (chv M)) (hmi : ChIn w B M) (hmf : ChFit M) (hfb : f ≤ 18446744073709551615) :
    Calls Try.prog 28 #[A.val, .int .u64 (f : Int), .slice a2 M.length c2] w (R4 w (extOf A.x f (chx M))) := by
  obtain ⟨W, HWW⟩ : ∃ W, Hid ((w.alloc (.cells #[.int .u64 (A.e : Int), .slice A.a A.sg.length A.c, .int .i64 A.q] 25)).alloc (.cells #[.int .u64 0, .slice none 0 0, .int .i64 0] 25) = W) := ⟨_, Lib.hid rfl⟩
  have hWc : Chg [] w W := by rw [← HWW.out]; exact ((Chg.refl [] w).alloc _).alloc _
  have hWb : Below w.heap.size w W := hWc.low
  have hws : W.heap.size = w.heap.size + 2 := by rw [← HWW.out]; simp
  have hR := lright_any A B W (h.below hWb hB) (by omega) hf
  have o1 : Own W w.heap.size 25 [.int .u64 (A.e : Int), .slice A.a A.sg.length A.c, .int .i64 A.q] := by rw [← HWW.out]; exact (Own.new w _ _).alloc _
  have o2 : Own W (w.heap.size + 1) 25 [.int .u64 0, .slice none 0 0, .int .i64 0] := by
    rw [← HWW.out]
    have := Own.new (w.alloc (.cells #[.int .u64 (A.e : Int), .slice A.a A.sg.length A.c, .int .i64 A.q] 25)) 25 [.int .u64 0, .slice none 0 0, .int .i64 0]
    simpa using this
  have HR := Lib.hid hR
  have HIN := Lib.hid h
  have HFIT := Lib.hid hf
  have HM := Lib.hid (And.intro hm (And.intro hmi hmf))
  have HWB := Lib.hid hWb
  have HO1 := Lib.hid o1
  have HO2 := Lib.hid o2
  have HZ := Lib.hid hws
  have HS := Lib.hid hB
  have HFB := Lib.hid hfb
  have c0 := o1.cell 0
  have c1 := o1.cell 1
  have c2' := o1.cell 2
  have hz := o1.lt
  simp at c0 c1 c2'
  obtain ⟨r, HRR⟩ : ∃ r, Hid (extOf A.x f (chx M) = r) := ⟨_, Lib.hid rfl⟩
  rw [HRR.out]
  clear h hf hm hmi hmf hWc hWb hws hR o1 o2 hB hfb
  generalize hMn : M.length = mn at *
  have HMN := Lib.hid hMn
  clear hMn
  cases hr : lright A.x with
  | false =>
    rw [hr] at HR
    have HRE := Lib.hid (HRR.out.symm.trans (if_neg (by rw [hr]; simp)))
    clear hr
    obtain ⟨ep, a, c, L, q⟩ := A
    simp only [LyT.val] at *
    generalize L.length = n at *
    go_enter Try.func28, Try.ntmps28
    go_upto_region 1 with fail
    rw [HWW.out]
    go_wp2_with fail
    refine HR.out.mono ?_
    rintro e w1 ⟨rfl, hb⟩
    have HB := Lib.hid (HWB.out.trans (hb.mono HWB.out.size))
    have oR := HO2.out.below hb HO2.out.lt
    have d0 := oR.cell 0
    have d1 := oR.cell 1
    have d2 := oR.cell 2
    have f0 := oR.frozen 0
    have f1 := oR.frozen 1
    have f2 := oR.frozen 2
    have hz1 := oR.lt
    simp at d0 d1 d2
    clear hb oR
    go_wp2_with fail
    refine bodyPost_ret (v := .tuple #[zeroL, .int .i64 91]) (by simp [results, Try.results28, go_sem, d0, d1, d2, hz1]) rfl ?_
    rw [HRE.out]
    exact ⟨((HB.out.setCell (Nat.le_succ _) _).setCell (Nat.le_succ _) _).setCell (Nat.le_succ _) _, .inr ⟨by simp, rfl⟩⟩
  | true =>
    rw [hr] at HR
    have HRE := Lib.hid (HRR.out.symm.trans (if_pos hr))
    have hn4 := (sgOk_iff.1 (lright_iff.1 hr).2.2).1
    have hx : A.x.s = sgx A.sg := rfl
    have he4 := (lright_iff.1 hr).1
    have hxe : A.x.e = A.e := rfl
    rw [hx, sgx_length] at hn4
    rw [hxe] at he4
    have hn5 : (A.sg.length : Int) ≤ 4 := by omega
    have HEP : Hid (A.e ≤ 1048576) := Lib.hid he4.2
    have HN4 : Hid (A.sg.length ≤ 4) := Lib.hid hn4.2
    obtain ⟨e1, he1⟩ : ∃ e1, A.e + 1 = e1 := ⟨_, rfl⟩
    have ew : IntKind.u64.wrap (e1 : Int) = (e1 : Int) := wrap_u64_nat _ (by omega)
    have HE1 := Lib.hid he1
    have ew2 : (A.e : Int) + 1 = (e1 : Int) := by omega
    clear hr hx hn4 he4 hxe he1
    obtain ⟨ep, a, c, L, q⟩ := A
    simp only [LyT.val] at *
    generalize hN : L.length = n at *
    have HN := Lib.hid hN
    clear hN
    go_enter Try.func28, Try.ntmps28
    go_upto_region 1 with fail
    rw [HWW.out]
    go_wp2_with fail
    refine HR.out.mono ?_
    rintro e w1 ⟨rfl, hb⟩
    have HB1 := Lib.hid (HWB.out.trans (hb.mono HWB.out.size))
    have HA1 := Lib.hid (HO1.out.below hb HO1.out.lt)
    have HA2 := Lib.hid (HO2.out.below hb HO2.out.lt)
    have d0 := HA1.out.cell 0
    have d1 := HA1.out.cell 1
    have d2 := HA1.out.cell 2
    have hz1 := HA1.out.lt
    simp at d0 d1 d2
    clear hb c0 c1 c2'
    go_wp2_with fail
    obtain ⟨nb, hnb⟩ : ∃ nb, w1.heap.size = nb := ⟨_, rfl⟩
    obtain ⟨W2, hW2⟩ : ∃ W2, w1.alloc (.cells #[.int .u64 (e1 : Int), .slice none 0 0, .int .i64 q] 25) = W2 := ⟨_, rfl⟩
    have HNB : Hid (w.heap.size + 1 < nb) := Lib.hid (by rw [← hnb]; exact HA2.out.lt)
    have HB2 : Hid (Below w.heap.size w W2) := Lib.hid (by rw [← hW2]; exact HB1.out.alloc HB1.out.size _)
    have HK1 : Hid (Own W2 w.heap.size 25 [.int .u64 (ep : Int), .slice a n c, .int .i64 q]) := Lib.hid (by rw [← hW2]; exact HA1.out.alloc _)
    have HK2 : Hid (Own W2 (w.heap.size + 1) 25 [.int .u64 0, .slice none 0 0, .int .i64 0]) := Lib.hid (by rw [← hW2]; exact HA2.out.alloc _)
    have HK3 : Hid (Own W2 nb 25 [.int .u64 (e1 : Int), .slice none 0 0, .int .i64 q]) := Lib.hid (by rw [← hW2, ← hnb]; exact Own.new w1 _ _)
    rw [hW2, hnb]
    clear hW2 hnb d0 d1 d2 hz1 hz ew ew2
    go_loopw [24] (fun i wr => ∃ (k : Nat) (v : Value), k ≤ n ∧ i = .int .i64 (k : Int) ∧ Hid (Sl wr w.heap.size v (keepF f (L.take k))) ∧ Hid (Below w.heap.size w wr) ∧ Hid (Own wr (w.heap.size + 1) 25 [.int .u64 0, .slice none 0 0, .int .i64 0]) ∧ Hid (Own wr nb 25 [.int .u64 (e1 : Int), v, .int .i64 q])) (fun i _ => n - (intOf i).toNat)
    case atStart => exact ⟨0, _, Nat.zero_le _, rfl, Lib.hid (Sl.nil _ _), HB2, HK2, HK3⟩
    case round =>
      obtain ⟨k, v, hk, rfl, HLk, HBk, HRk, HNk⟩ := hrel
      by_cases hlt : k < n
      · have hkL : k < L.length := by rw [HN.out]; exact hlt
        obtain ⟨b, off, rfl, hb, hc⟩ := (HIN.out.1.below HBk.out HS.out).sg (show 0 < L.length by omega)
        obtain ⟨e1', e2'⟩ := hc k hkL
        clear hc
        have hk0 : (0 : Int) ≤ (k : Int) := by omega
        have hk1 : (k : Int) < (n : Int) := by omega
        have HKT : Hid (keepF f (L.take (k + 1)) = keepF f (L.take k) ++ (if (st L k).f < f then [st L k] else [])) := Lib.hid (keepF_take hkL)
        have HKL : Hid ((keepF f (L.take k)).length ≤ 4) := Lib.hid (by have := keepF_len f (L.take k); have := HN4.out; rw [List.length_take] at *; omega)
        generalize st L k = sg at *
        obtain ⟨fk, ca, cc, M5⟩ := sg
        simp only at e1' e2' HKT
        generalize keepF f (L.take k) = Gs at *
        obtain ⟨m5, hm5⟩ : ∃ m5, M5.length = m5 := ⟨_, rfl⟩
        rw [hm5] at e2'
        have HM5 := Lib.hid hm5
        clear hm5
        by_cases hfk : fk < f
        · have hfk' : (fk : Int) < (f : Int) := by omega
          have HK9 := Lib.hid (HKT.out.trans (by rw [if_pos hfk]))
          have q1 := HNk.out.cell 1
          have hzn := HNk.out.lt
          simp at q1
          have HL4 : Hid (Sl ((wr.alloc (.cells #[.int .u64 (fk : Int), .slice ca m5 cc] 68)).alloc (.cells #[.int .u64 (fk : Int), .slice ca m5 cc] 68)) w.heap.size v Gs) := Lib.hid ((HLk.out.alloc _).alloc _)
          have HO4 : Hid (Own ((wr.alloc (.cells #[.int .u64 (fk : Int), .slice ca m5 cc] 68)).alloc (.cells #[.int .u64 (fk : Int), .slice ca m5 cc] 68)) (wr.heap.size + 1) 68 (sgv [⟨fk, ca, cc, M5⟩])) := Lib.hid (by
            have := Own.new (wr.alloc (.cells #[.int .u64 (fk : Int), .slice ca m5 cc] 68)) 68 [.int .u64 (fk : Int), .slice ca m5 cc]
            simp only [sgv, HM5.out]
            simpa using this)
          clear hfk
          go_wp2_with (at_builtin; refine wpList_appSg rfl (.tmp 33) (.tmp 35) rfl w.heap.size v Gs rfl HL4.out (wr.heap.size + 1) ⟨fk, ca, cc, M5⟩ 68 HO4.out (by first | rfl | simp) (by have := HKL.out; omega) (by have := HBk.out.size; simp; omega) ?_)
          intro v' w5 hl5 hg5
          have hc5 := grown_chg hg5
          have hnr := (HNk.out.alloc _ |>.alloc _).out_row HL4.out (by decide)
          have hrr := (HRk.out.alloc _ |>.alloc _).out_row HL4.out (by decide)
          have HN5 := Lib.hid ((HNk.out.alloc _ |>.alloc _).chg hc5 hnr)
          have HR5 := Lib.hid ((HRk.out.alloc _ |>.alloc _).chg hc5 hrr)
          have HB5 : Hid (Below w.heap.size w w5) := Lib.hid (Sl.grown_below ((HBk.out.alloc HBk.out.size _).alloc (by have := HBk.out.size; simp; omega) _) HL4.out hg5 (Nat.le_refl _) (by have := HBk.out.size; simp; omega))
          have q5 := HN5.out.cell 1
          have f5 := HN5.out.frozen 1
          have hz5 := HN5.out.lt
          simp at q5
          obtain ⟨av, cv, hv', _, _⟩ := hl5.out.form
          generalize (Gs ++ [(⟨fk, ca, cc, M5⟩ : SgT)]).length = ln at hv'
          have HV' := Lib.hid hv'
          have HL5 : Hid (Sl w5 w.heap.size (.slice av ln cv) (Gs ++ [⟨fk, ca, cc, M5⟩])) := Lib.hid (by rw [← HV'.out]; exact hl5.out)
          clear hc5 hnr hrr hg5 hl5 q1
          subst hv'
          clear HV'
          go_wp2_with fail
          go_roundw
          case rel =>
            refine ⟨k + 1, _, by omega, by go_num, Lib.hid ?_, Lib.hid (HB5.out.setCell (by have := HNB.out; show w.heap.size ≤ nb; omega) _), Lib.hid (HR5.out.far (by have := HNB.out; show w.heap.size + 1 ≠ nb; omega) _), Lib.hid (HN5.out.set 1 _)⟩
            rw [HK9.out]
            refine HL5.out.chg ((Chg.refl [nb] w5).setCell (by simp) _) (fun x hx cur he => ?_)
            simp only [List.mem_singleton] at hx
            subst hx
            have h2 := HN5.out
            unfold Own at h2
            rw [he] at h2
            injection h2 with h2
            injection h2 with _ h2 _
            exact absurd h2 (by decide)
          case measure => simp [intOf]; omega
        · have hfk' : ¬ (fk : Int) < (f : Int) := by omega
          have HK9 := Lib.hid (HKT.out.trans (by rw [if_neg hfk, List.append_nil]))
          clear hfk
          go_wp2_with fail
          go_roundw
          case rel => exact ⟨k + 1, v, by omega, by go_num, by rw [HK9.out]; exact Lib.hid (HLk.out.alloc _), Lib.hid (HBk.out.alloc HBk.out.size _), Lib.hid (HRk.out.alloc _), Lib.hid (HNk.out.alloc _)⟩
          case measure => simp [intOf]; omega
      · obtain rfl : k = n := by omega
        have hLk := HLk.out
        rw [List.take_of_length_le (by rw [HN.out]; exact Nat.le_refl _)] at hLk
        have HLk2 := Lib.hid hLk
        have HKL : Hid ((keepF f L).length ≤ 4) := Lib.hid (by have := keepF_len f L; have := HN4.out; have := HN.out; omega)
        clear hLk
        have q1 := HNk.out.cell 1
        simp at q1
        have hzn := HNk.out.lt
        have HL4 : Hid (Sl (wr.alloc (.cells #[.int .u64 (f : Int), .slice a2 mn c2] 68)) w.heap.size v (keepF f L)) := Lib.hid (HLk2.out.alloc _)
        have HO4 : Hid (Own (wr.alloc (.cells #[.int .u64 (f : Int), .slice a2 mn c2] 68)) wr.heap.size 68 (sgv [⟨f, a2, c2, M⟩])) := Lib.hid (by
          have := Own.new wr 68 [.int .u64 (f : Int), .slice a2 mn c2]
          simp only [sgv, HMN.out]
          exact this)
        go_wp2_with (at_builtin; refine wpList_appSg rfl (.tmp 40) (.tmp 44) rfl w.heap.size v (keepF f L) rfl HL4.out wr.heap.size ⟨f, a2, c2, M⟩ 68 HO4.out (by first | rfl | simp) (by have := HKL.out; omega) (by have := HBk.out.size; simp; omega) ?_)
        intro v' w5 hl5 hg5
        have hc5 := grown_chg hg5
        have hnr := (HNk.out.alloc _).out_row HL4.out (by decide)
        have hrr := (HRk.out.alloc _).out_row HL4.out (by decide)
        have HN5 := Lib.hid ((HNk.out.alloc _).chg hc5 hnr)
        have HR5 := Lib.hid ((HRk.out.alloc _).chg hc5 hrr)
        have HB5 : Hid (Below w.heap.size w w5) := Lib.hid (Sl.grown_below (HBk.out.alloc HBk.out.size _) HL4.out hg5 (Nat.le_refl _) (by have := HBk.out.size; simp; omega))
        obtain ⟨av, cv, hv', _, _⟩ := hl5.out.form
        subst hv'
        obtain ⟨ln, hln⟩ : ∃ ln, (keepF f L ++ [(⟨f, a2, c2, M⟩ : SgT)]).length = ln := ⟨_, rfl⟩
        rw [hln] at hl5 ⊢
        have HLN := Lib.hid hln
        have hc6 : Chg [nb] w5 (w5.setCell ⟨nb, 1, none⟩ (.slice av ln cv)) := (Chg.refl [nb] w5).setCell (by simp) _
        have HL6 : Hid (Sl (w5.setCell ⟨nb, 1, none⟩ (.slice av ln cv)) w.heap.size (.slice av ln cv) (keepF f L ++ [⟨f, a2, c2, M⟩])) := Lib.hid (hl5.out.chg hc6 (fun x hx cur he => by
            simp only [List.mem_singleton] at hx
            subst hx
            have h2 := HN5.out
            unfold Own at h2
            rw [he] at h2
            injection h2 with h2
            injection h2 with _ h2 _
            exact absurd h2 (by decide)))
        have HB6 : Hid (Below w.heap.size w (w5.setCell ⟨nb, 1, none⟩ (.slice av ln cv))) := Lib.hid (HB5.out.setCell (by have := HNB.out; show w.heap.size ≤ nb; omega) _)
        have HR6 : Hid (Own (w5.setCell ⟨nb, 1, none⟩ (.slice av ln cv)) (w.heap.size + 1) 25 [.int .u64 0, .slice none 0 0, .int .i64 0]) := Lib.hid (HR5.out.far (by have := HNB.out; show w.heap.size + 1 ≠ nb; omega) _)
        have HN6 : Hid (Own (w5.setCell ⟨nb, 1, none⟩ (.slice av ln cv)) nb 25 [.int .u64 (e1 : Int), .slice av ln cv, .int .i64 q]) := Lib.hid (HN5.out.set 1 _)
        have q5 := HN5.out.cell 1
        have q50 := HN5.out.cell 0
        have q52 := HN5.out.cell 2
        have f5 := HN5.out.frozen 1
        have hz5 := HN5.out.lt
        simp at q5 q50 q52
        clear hc5 hnr hrr hg5 hl5 q1 hln hc6
        go_wp2_with fail
        have hfitN : SgFit (keepF f L ++ [(⟨f, a2, c2, M⟩ : SgT)]) := by
          refine ⟨by rw [List.length_append]; have := HKL.out; simp; omega, fun s hs => ?_⟩
          rcases List.mem_append.1 hs with hs | hs
          · exact HFIT.out.2 s (List.mem_filter.1 hs).1
          · simp only [List.mem_singleton] at hs
            subst hs
            exact HM.out.2.2
        have hinN : SgIn (w5.setCell ⟨nb, 1, none⟩ (.slice av ln cv)) B (keepF f L ++ [(⟨f, a2, c2, M⟩ : SgT)]) := by
          intro s hs
          rcases List.mem_append.1 hs with hs | hs
          · have := HIN.out.2 s (List.mem_filter.1 hs).1
            exact ⟨this.1.below HB6.out HS.out, this.2.below HB6.out HS.out⟩
          · simp only [List.mem_singleton] at hs
            subst hs
            exact ⟨HM.out.1.below HB6.out HS.out, HM.out.2.1.below HB6.out HS.out⟩
        have hlen : (keepF f L ++ [(⟨f, a2, c2, M⟩ : SgT)]).length = ln := HLN.out
        have HCK := checked_any ⟨e1, av, cv, keepF f L ++ [⟨f, a2, c2, M⟩], q⟩ w.heap.size _ (by simp only [hlen]; exact HL6.out) (hinN.apart (Nat.le_trans HS.out HB6.out.size) (fun x hx => by simp only [hlen] at hx; exact Nat.le_trans HS.out (HL6.out.row x hx).1)) HB6.out.size hfitN
        simp only [LyT.val, hlen] at HCK
        have HXE : Hid (LyT.x ⟨e1, av, cv, keepF f L ++ [⟨f, a2, c2, M⟩], q⟩ = extRaw (LyT.x ⟨ep, a, c, L, q⟩) f (chx M)) := Lib.hid (by
          unfold extRaw LyT.x
          simp only [Ly.mk.injEq]
          refine ⟨HE1.out.symm, ?_, trivial⟩
          rw [← keepF_x]
          simp [sgx, SgT.x])
        refine HCK.mono ?_
        rintro e w7 (⟨hrt, T, rfl, hTx, hTr, hc7⟩ | ⟨hrf, rfl, hc7⟩)
        · obtain ⟨k1, k2, k3, k4⟩ := R3.store (w0 := w) (A := ⟨e1, av, cv, keepF f L ++ [⟨f, a2, c2, M⟩], q⟩) rfl HR6.out HL6.out (Nat.le_succ _) (Nat.le_refl _) HB6.out T hTr hc7
          rw [HXE.out] at hrt hTx
          have HT := Lib.hid (And.intro hrt (And.intro hTx (And.intro k1 (And.intro k2 (And.intro k3 k4)))))
          have g0 := k1.cell 0
          have g1 := k1.cell 1
          have g2 := k1.cell 2
          have f0 := k1.frozen 0
          have f1 := k1.frozen 1
          have f2 := k1.frozen 2
          have hz7 := k1.lt
          simp at g0 g1 g2
          clear k1 k2 k3 k4 hrt hTx hTr hc7 HCK q5 q50 q52 f5 hz5 hzn hfitN hinN hlen
          have hTv : T.val = .agg #[.int .u64 (T.e : Int), .slice T.a T.sg.length T.c, .int .i64 T.q] := rfl
          rw [hTv]
          generalize hT1 : T.sg.length = tn at *
          have HT1 := Lib.hid hT1
          clear hT1 hTv
          go_wp2_with fail
          refine bodyPost_ret (v := .tuple #[.agg #[.int .u64 (T.e : Int), .slice T.a tn T.c, .int .i64 T.q], .int .i64 0]) (by simp [results, Try.results28, go_sem, g0, g1, g2, hz7]) rfl ?_
          obtain ⟨hrt, hTx, k1, k2, k3, k4⟩ := HT.out
          have hcE : Chg [w.heap.size + 1] w7 (((w7.setCell ⟨w.heap.size + 1, 0, none⟩ (.int .u64 (T.e : Int))).setCell ⟨w.heap.size + 1, 1, none⟩ (.slice T.a tn T.c)).setCell ⟨w.heap.size + 1, 2, none⟩ (.int .i64 T.q)) := (((Chg.refl _ w7).setCell (by simp) _).setCell (by simp) _).setCell (by simp) _
          have hr0 : r = (0, extRaw (LyT.x ⟨ep, a, c, L, q⟩) f (chx M)) := HRE.out.trans (if_pos hrt)
          rw [hr0]
          refine ⟨((k2.setCell (Nat.le_succ _) _).setCell (Nat.le_succ _) _).setCell (Nat.le_succ _) _, .inl ⟨rfl, hrt, T, by rw [LyT.val, HT1.out], hTx, lyIn_of (k3.chg hcE) (k4.chg hcE)⟩⟩
        · have hb7 : Below w.heap.size w w7 := HB6.out.trans (hc7.below HB6.out.size (fun x hx => (HL6.out.row x hx).1))
          have k1 := HR6.out.chg hc7 (HR6.out.out_row HL6.out (by decide))
          rw [HXE.out] at hrf
          have HT := Lib.hid (And.intro hrf hb7)
          have g0 := k1.cell 0
          have g1 := k1.cell 1
          have g2 := k1.cell 2
          have f0 := k1.frozen 0
          have f1 := k1.frozen 1
          have f2 := k1.frozen 2
          have hz7 := k1.lt
          simp at g0 g1 g2
          clear k1 hrf hc7 hb7 HCK q5 q50 q52 f5 hz5 hzn hfitN hinN hlen
          go_wp2_with fail
          refine bodyPost_ret (v := .tuple #[zeroL, .int .i64 91]) (by simp [results, Try.results28, go_sem, g0, g1, g2, hz7]) rfl ?_
          have hr0 : r = (91, ⟨0, [], 0⟩) := HRE.out.trans (if_neg (by rw [HT.out.1]; simp))
          rw [hr0]
          exact ⟨((HT.out.2.setCell (Nat.le_succ _) _).setCell (Nat.le_succ _) _).setCell (Nat.le_succ _) _, .inr ⟨by simp, rfl⟩⟩
end Go.Proofs.Ytdpaofedepnnbaa
