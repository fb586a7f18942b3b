/-
  Next of package layout, by its contract. No claim of its own.
-/
import Derived.Test.YtkdgoopldaoihaaGb19
import Derived.Carry
import Derived.Test.YtkdgoopldaoihaaGb15
import Derived.Test.YtkdgoopldaoihaaGb16
import Derived.Test.YtkdgoopldaoihaaGb17
import Derived.Test.YtkdgoopldaoihaaGb2
namespace Go.Proofs.Ytkdgoopldaoihaa
open Go.RowKit Go.Deep Go.Shelf
set_option linter.unusedVariables false
set_option linter.unusedSimpArgs false

/-- segments, filled up one after the other -/
def fillS (dr : List Int) : FS → List Sg → Int × FS × List Sg
  | S, [] => (0, S, [])
  | S, s :: L => if (fillC dr S s.2).1 = 0 then pre [(s.1, (fillC dr S s.2).2.2)] (fillS dr (fillC dr S s.2).2.1 L) else ((fillC dr S s.2).1, (fillC dr S s.2).2.1, [])
theorem fillS_step (dr : List Int) (S : FS) (L : List Sg) (k : Nat) (hk : k < L.length) : fillS dr S (L.drop k) = if (fillC dr S (sx L k).2).1 = 0 then pre [((sx L k).1, (fillC dr S (sx L k).2).2.2)] (fillS dr (fillC dr S (sx L k).2).2.1 (L.drop (k + 1))) else ((fillC dr S (sx L k).2).1, (fillC dr S (sx L k).2).2.1, []) := by
  have e : L.drop k = sx L k :: L.drop (k + 1) := by
    rw [List.drop_eq_getElem_cons hk]
    congr 1
    simp [sx, List.getD, hk]
  rw [e]
  simp only [fillS]
theorem fillS_at {dr : List Int} {S : FS} {L : List Sg} {k : Nat} (hk : k < L.length) {s : Sg} (hs : sx L k = s) {fc : Int} {fs : FS} {fx : List (List Int)} (h : fillC dr S s.2 = (fc, fs, fx)) : fillS dr S (L.drop k) = if fc = 0 then pre [(s.1, fx)] (fillS dr fs (L.drop (k + 1))) else (fc, fs, []) := by
  subst hs
  have := fillS_step dr S L k hk
  rw [h] at this
  exact this
/-- the layout that Next makes, before it is looked at -/
def nextRaw (x : Ly) (dr fr : List Int) (sq : Int) : Ly := ⟨x.e + 1, (fillS dr ([], fr) x.s).2.2, sq⟩
def nextOf (x : Ly) (dr fr : List Int) (sq : Int) : Int × Ly :=
  if lright x = true then (if (fillS dr ([], fr) x.s).1 = 0 then (if lright (nextRaw x dr fr sq) = true then (0, nextRaw x dr fr sq) else (91, ⟨0, [], 0⟩)) else ((fillS dr ([], fr) x.s).1, ⟨0, [], 0⟩)) else (91, ⟨0, [], 0⟩)
theorem Own.notT {w : World} {g : Nat} {t t' : TypeId} {cs : List Value} (h : Own w g t cs) (ht : t ≠ t') : ∀ x ∈ [g], ∀ cur, w.heap[x]? ≠ some (.cells cur t' (0, 0)) := by
  intro x hx cur he
  simp only [List.mem_singleton] at hx
  subst hx
  unfold Own at h
  rw [he] at h
  injection h with h
  injection h with _ h _
  exact ht h.symm
theorem Lst.len_le {w : World} {base : Nat} {e : TypeId} {v : Value} {xs : List Value} (h : Lst w base e v xs) : xs.length ≤ maxLen := by
  rcases h.2 with ⟨_, h0⟩ | ⟨g, cap, cur, _, _, _, h4, h5, _⟩
  · omega
  · omega
/-- segments whose rows are of the call's own, by their types -/
def Gown (w : World) (B base : Nat) (Gs : List SgT) : Prop := ∀ s ∈ Gs, Lst w base 36 (.slice s.a s.ch.length s.c) (chv s.ch) ∧ ∀ T ∈ s.ch, Lst w B 3 T.val (i64s T.u)
theorem Gown.chg {w w' : World} {B base : Nat} {Gs : List SgT} {l : List Nat} (h : Gown w B base Gs) (hc : Chg l w w') (h1 : ∀ x ∈ l, ∀ cur, w.heap[x]? ≠ some (.cells cur 36 (0, 0))) (h2 : ∀ x ∈ l, ∀ cur, w.heap[x]? ≠ some (.cells cur 3 (0, 0))) : Gown w' B base Gs :=
  fun s hs => ⟨(h s hs).1.chg hc h1, fun T hT => ((h s hs).2 T hT).chg hc h2⟩
theorem Gown.apart {w : World} {B base : Nat} {Gs : List SgT} {l : List Nat} (h : Gown w B base Gs) (h1 : ∀ x ∈ l, ∀ cur, w.heap[x]? ≠ some (.cells cur 36 (0, 0))) (h2 : ∀ x ∈ l, ∀ cur, w.heap[x]? ≠ some (.cells cur 3 (0, 0))) : SgX w l Gs :=
  fun s hs => ⟨(h s hs).1.apart h1, fun T hT => (show Lst w B 3 (.slice T.a T.u.length T.c) (i64s T.u) from (h s hs).2 T hT).apart h2⟩
theorem RepS.alloc {w : World} {B q b : Nat} {a1 : Option Addr} {c1 : Nat} {dr : List Int} {S : FS} (h : RepS w B q b a1 c1 dr S) (o : Obj) : RepS (w.alloc o) B q b a1 c1 dr S := h.kept ((Below.refl _ _).alloc (Nat.le_refl _) _)
theorem fillC_len (dr : List Int) : ∀ (S : FS) (L : List (List Int)), (fillC dr S L).2.2.length ≤ L.length
  | S, [] => by simp [fillC]
  | S, c :: L => by
    unfold fillC
    split
    · have := fillC_len dr (fill1 dr S c).2.1 L
      simp; omega
    · simp
theorem fillS_fit (dr : List Int) : ∀ (S : FS) (L : List Sg), (fillS dr S L).2.2.length ≤ L.length
  | S, [] => by simp [fillS]
  | S, c :: L => by
    unfold fillS
    split
    · have := fillS_fit dr (fillC dr S c.2).2.1 L
      simp [pre]; omega
    · simp
/-- no chain grows past its length -/
theorem fill1_len {dr : List Int} {S : FS} {c : List Int} (hS : ∀ p ∈ S.1, p.2.length = p.1.length) (h0 : (fill1 dr S c).1 = 0) : (fill1 dr S c).2.2.length = c.length ∧ ∀ p ∈ (fill1 dr S c).2.1.1, p.2.length = p.1.length := by
  have hll : (leftOf dr c).length ≤ c.length := List.length_filter_le _ _
  unfold fill1 at h0 ⊢
  cases hl : lookF S.1 c with
  | some now =>
    rw [hl] at h0
    simp only
    refine ⟨?_, hS⟩
    unfold lookF at hl
    obtain ⟨p, hp, rfl⟩ := Option.map_eq_some_iff.1 hl
    have h1 := List.mem_of_find?_eq_some hp
    have h2 := List.find?_some hp
    rw [hS p h1]
    simp only [decide_eq_true_eq] at h2
    rw [h2]
  | none =>
    rw [hl] at h0
    simp only at h0 ⊢
    split at h0
    · simp at h0
    · rename_i g1
      rw [if_neg g1]
      split at h0
      · simp at h0
      · rename_i g2
        rw [if_neg g2]
        have e : (leftOf dr c ++ S.2.take (c.length - (leftOf dr c).length)).length = c.length := by
          rw [List.length_append, List.length_take]; omega
        refine ⟨e, fun p hp => ?_⟩
        rcases List.mem_append.1 hp with hp | hp
        · exact hS p hp
        · simp only [List.mem_singleton] at hp
          subst hp
          exact e
set_option maxHeartbeats 4000000 in
set_option maxRecDepth 10000 in
theorem next_any (A : LyT) (B : Nat) (dr fr : List Int) (a1 a2 : Option Addr) (c1 c2 : Nat) (sq : Int) (w : World) (h : LyIn w B A) (hB : B ≤ w.heap.size) (hf : SgFit A.sg) (hd : Ro w B a1 (i64s dr)) (hdl : dr.length ≤ 1000000) (hr : Ro w B a2 (i64s fr)) (hrl : fr.length ≤ c2) (hrc : c2 ≤ 9223372036854775807) (hrn : a2 = none → c2 = 0) :
    Calls Try.prog 22 #[A.val, .slice a1 dr.length c1, .slice a2 fr.length c2, .int .i64 sq] w (R4 w (nextOf A.x dr fr sq)) := by
  obtain ⟨W, HWW⟩ : ∃ W, Hid ((w.alloc (.cells #[.int .u64 (A.e : Int), .slice A.a A.sg.length A.c, .int .i64 A.q] 25)).alloc (.cells #[.int .u64 0, .slice none 0 0, .int .i64 0] 25) = W) := ⟨_, Lib.hid rfl⟩
  have hWc : Chg [] w W := by rw [← HWW.out]; exact ((Chg.refl [] w).alloc _).alloc _
  have hWb : Below w.heap.size w W := hWc.low
  have hws : W.heap.size = w.heap.size + 2 := by rw [← HWW.out]; simp
  have hR := lright_any A B W (h.below hWb hB) (by omega) hf
  have o1 : Own W w.heap.size 25 [.int .u64 (A.e : Int), .slice A.a A.sg.length A.c, .int .i64 A.q] := by rw [← HWW.out]; exact (Own.new w _ _).alloc _
  have o2 : Own W (w.heap.size + 1) 25 [.int .u64 0, .slice none 0 0, .int .i64 0] := by
    rw [← HWW.out]
    have := Own.new (w.alloc (.cells #[.int .u64 (A.e : Int), .slice A.a A.sg.length A.c, .int .i64 A.q] 25)) 25 [.int .u64 0, .slice none 0 0, .int .i64 0]
    simpa using this
  have HR := Lib.hid hR
  have HIN := Lib.hid h
  have HFIT := Lib.hid hf
  have HD := Lib.hid (And.intro hd hdl)
  have HFR := Lib.hid (And.intro hr (And.intro hrl (And.intro hrc hrn)))
  have HWB := Lib.hid hWb
  have HO1 := Lib.hid o1
  have HO2 := Lib.hid o2
  have HZ := Lib.hid hws
  have HS := Lib.hid hB
  have c0 := o1.cell 0
  have c1' := o1.cell 1
  have c2' := o1.cell 2
  have hz := o1.lt
  simp at c0 c1' c2'
  obtain ⟨r, HRR⟩ : ∃ r, Hid (nextOf A.x dr fr sq = r) := ⟨_, Lib.hid rfl⟩
  rw [HRR.out]
  clear h hf hd hdl hr hrl hrc hrn hWc hWb hws hR o1 o2 hB
  generalize hdn : dr.length = dn at *
  have HDN := Lib.hid hdn
  clear hdn
  generalize hfn : fr.length = fn at *
  have HFN := Lib.hid hfn
  clear hfn
  cases hr : lright A.x with
  | false =>
    rw [hr] at HR
    have HRE := Lib.hid (HRR.out.symm.trans (if_neg (by rw [hr]; simp)))
    clear hr
    obtain ⟨ep, a, c, L, q0⟩ := A
    simp only [LyT.val] at *
    generalize L.length = n at *
    go_enter Try.func22, Try.ntmps22
    go_upto_region 1 with fail
    rw [HWW.out]
    go_wp2_with fail
    refine HR.out.mono ?_
    rintro e w1 ⟨rfl, hb⟩
    have HB := Lib.hid (HWB.out.trans (hb.mono HWB.out.size))
    have oR := HO2.out.below hb HO2.out.lt
    have d0 := oR.cell 0
    have d1 := oR.cell 1
    have d2 := oR.cell 2
    have f0 := oR.frozen 0
    have f1 := oR.frozen 1
    have f2 := oR.frozen 2
    have hz1 := oR.lt
    simp at d0 d1 d2
    clear hb oR
    go_wp2_with fail
    refine bodyPost_ret (v := .tuple #[zeroL, .int .i64 91]) (by simp [results, Try.results22, go_sem, d0, d1, d2, hz1]) rfl ?_
    rw [HRE.out]
    exact ⟨((HB.out.setCell (Nat.le_succ _) _).setCell (Nat.le_succ _) _).setCell (Nat.le_succ _) _, .inr ⟨by simp, rfl⟩⟩
  | true =>
    rw [hr] at HR
    have HRE := Lib.hid (HRR.out.symm.trans (if_pos hr))
    have hn4 := (sgOk_iff.1 (lright_iff.1 hr).2.2).1
    have hx : A.x.s = sgx A.sg := rfl
    have he4 := (lright_iff.1 hr).1
    have hxe : A.x.e = A.e := rfl
    rw [hx, sgx_length] at hn4
    rw [hxe] at he4
    have hn5 : (A.sg.length : Int) ≤ 4 := by omega
    have HN4 : Hid (A.sg.length ≤ 4) := Lib.hid hn4.2
    have HCHP : Hid (∀ k, k < A.sg.length → (st A.sg k).ch.length ≤ 4 ∧ ∀ T ∈ (st A.sg k).ch, ChP T.u) := Lib.hid (fun k hk => by
      have g := right_ch hr (i := k) (by rw [hx]; simpa using hk)
      rw [hx, sx_sgx] at g
      have g2 := chOk_iff.1 g
      simp only [SgT.x, chx_length] at g2
      refine ⟨g2.1.2, fun T hT => ?_⟩
      have hm : T.u ∈ chx (st A.sg k).ch := List.mem_map.2 ⟨T, hT, rfl⟩
      exact ⟨g2.2.1 T.u hm, fun u hu => g2.2.2.1 u (List.mem_flatten.2 ⟨_, hm, hu⟩)⟩)
    obtain ⟨e1, he1⟩ : ∃ e1, A.e + 1 = e1 := ⟨_, rfl⟩
    have ew : IntKind.u64.wrap (e1 : Int) = (e1 : Int) := wrap_u64_nat _ (by omega)
    have HE1 := Lib.hid he1
    have ew2 : (A.e : Int) + 1 = (e1 : Int) := by omega
    clear hr hx hn4 he4 hxe he1
    obtain ⟨ep, a, c, L, q0⟩ := A
    simp only [LyT.val] at *
    have HRE2 : Hid (r = if (fillS dr ([], fr) (sgx L)).1 = 0 then (if lright (nextRaw (LyT.x ⟨ep, a, c, L, q0⟩) dr fr sq) = true then (0, nextRaw (LyT.x ⟨ep, a, c, L, q0⟩) dr fr sq) else (91, ⟨0, [], 0⟩)) else ((fillS dr ([], fr) (sgx L)).1, ⟨0, [], 0⟩)) := Lib.hid HRE.out
    clear HRE
    generalize hN : L.length = n at *
    have HN := Lib.hid hN
    clear hN
    go_enter Try.func22, Try.ntmps22
    go_upto_region 1 with fail
    rw [HWW.out]
    go_wp2_with fail
    refine HR.out.mono ?_
    rintro e w1 ⟨rfl, hb⟩
    have HB1 := Lib.hid (HWB.out.trans (hb.mono HWB.out.size))
    have HA1 := Lib.hid (HO1.out.below hb HO1.out.lt)
    have HA2 := Lib.hid (HO2.out.below hb HO2.out.lt)
    have d0 := HA1.out.cell 0
    have d1 := HA1.out.cell 1
    have d2 := HA1.out.cell 2
    have hz1 := HA1.out.lt
    simp at d0 d1 d2
    clear hb c0 c1' c2'
    have hmm := @run_makeMap Try.prog
    go_upto_region 5 with fail
    clear hmm
    obtain ⟨W3, hW3⟩ : ∃ W3, ((w1.alloc (.map #[] 0)).alloc (.cells #[.slice a1 dn c1, .slice a2 fn c2, .map (some w1.heap.size)] 74)).alloc (.cells #[.int .u64 (e1 : Int), .slice none 0 0, .int .i64 sq] 25) = W3 := ⟨_, rfl⟩
    obtain ⟨b, hb0⟩ : ∃ b, w1.heap.size = b := ⟨_, rfl⟩
    have hc3 : Chg [] w1 W3 := by rw [← hW3]; exact (((Chg.refl [] w1).alloc _).alloc _).alloc _
    have oq : Own W3 (b + 1) 74 [.slice a1 dn c1, .slice a2 fn c2, .map (some b)] := by
      rw [← hW3, ← hb0]
      have := Own.new (w1.alloc (.map #[] 0)) 74 [.slice a1 dn c1, .slice a2 fn c2, .map (some w1.heap.size)]
      exact Own.alloc (by simpa using this) _
    have on : Own W3 (b + 2) 25 [.int .u64 (e1 : Int), .slice none 0 0, .int .i64 sq] := by
      rw [← hW3, ← hb0]
      have := Own.new ((w1.alloc (.map #[] 0)).alloc (.cells #[.slice a1 dn c1, .slice a2 fn c2, .map (some w1.heap.size)] 74)) 25 [.int .u64 (e1 : Int), .slice none 0 0, .int .i64 sq]
      simpa using this
    have om : MapK W3 b [] := by
      rw [← hW3, ← hb0]
      exact ((MapK.made w1).chg (((Chg.refl [] _).alloc _).alloc _) (by simp))
    have hbw : w.heap.size + 1 < b := by rw [← hb0]; exact HA2.out.lt
    have hB3 : Below w.heap.size w W3 := HB1.out.trans (hc3.low.mono HB1.out.size)
    have HREP : Hid (RepS W3 B (b + 1) b a1 c1 dr ([], fr)) := Lib.hid ⟨⟨a2, c2, [], by simpa only [HDN.out, HFN.out] using oq, HFR.out.1.below hB3 HS.out, by rw [HFN.out]; exact HFR.out.2.1, HFR.out.2.2.1, HFR.out.2.2.2, om, rfl, by simp⟩, HD.out.1.below hB3 HS.out, by have := HS.out; omega, by have := HS.out; omega, by rw [HDN.out]; exact HD.out.2⟩
    have HNB : Hid (w.heap.size + 1 < b) := Lib.hid hbw
    have HB3 := Lib.hid hB3
    have HK2 := Lib.hid (HA2.out.chg hc3 (by simp))
    have HK3 := Lib.hid on
    rw [hW3]
    rw [hb0]
    have HK1 := Lib.hid (HA1.out.chg hc3 (by simp))
    have g0 := HK1.out.cell 0
    have g1 := HK1.out.cell 1
    have g2 := HK1.out.cell 2
    have hz3 := HK1.out.lt
    simp at g0 g1 g2
    clear hW3 hb0 hc3 oq on om hbw hB3 d0 d1 d2 hz1 hz ew ew2
    go_wp2_with fail
    clear g0 g1 g2 hz3
    go_loopw [32] (fun i wr => ∃ (k : Nat) (v : Value) (Gs : List SgT) (Sk : FS), k ≤ n ∧ i = .int .i64 (k : Int) ∧ Hid (Gs.length = k) ∧ Hid (Sl wr w.heap.size v Gs) ∧ Hid (Gown wr B w.heap.size Gs) ∧ Hid (RepS wr B (b + 1) b a1 c1 dr Sk) ∧ Hid (Below w.heap.size w wr) ∧ Hid (Own wr (w.heap.size + 1) 25 [.int .u64 0, .slice none 0 0, .int .i64 0]) ∧ Hid (Own wr (b + 2) 25 [.int .u64 (e1 : Int), v, .int .i64 sq]) ∧ Hid (fillS dr ([], fr) (sgx L) = pre (sgx Gs) (fillS dr Sk ((sgx L).drop k)))) (fun i _ => n - (intOf i).toNat)
    case atStart => exact ⟨0, _, [], ([], fr), Nat.zero_le _, rfl, Lib.hid rfl, Lib.hid (Sl.nil _ _), Lib.hid (by intro s hs; simp at hs), HREP, HB3, HK2, HK3, Lib.hid (by simp [pre, sgx])⟩
    case round =>
      obtain ⟨k, v, Gs, Sk, hk, rfl, HG, HLk, HGk, HRPk, HBk, HRk, HNk, HEk⟩ := hrel
      by_cases hlt : k < n
      · have hkL : k < L.length := by rw [HN.out]; exact hlt
        obtain ⟨bb, off, rfl, hb, hc⟩ := (HIN.out.1.below HBk.out HS.out).sg (show 0 < L.length by omega)
        obtain ⟨e1', e2'⟩ := hc k hkL
        clear hc
        have hk0 : (0 : Int) ≤ (k : Int) := by omega
        have hk1 : (k : Int) < (n : Int) := by omega
        have hst := fun fc fs fx => fillS_at (dr := dr) (S := Sk) (L := sgx L) (k := k) (by simpa using hkL) (sx_sgx L k) (fc := fc) (fs := fs) (fx := fx)
        have HIN2 := Lib.hid (HIN.out.2 _ (st_mem hkL))
        have HCH := Lib.hid (HCHP.out k hlt)
        generalize st L k = sg at *
        obtain ⟨fk, ca, cc, M5⟩ := sg
        simp only [SgT.x] at e1' e2' hst HIN2 HCH
        have HST := Lib.hid hst
        clear hst
        obtain ⟨W4, hW4⟩ : ∃ W4, wr.alloc (.cells #[.int .u64 (fk : Int), .slice ca M5.length cc] 49) = W4 := ⟨_, rfl⟩
        have hc4 : Chg [] wr W4 := by rw [← hW4]; exact (Chg.refl [] wr).alloc _
        have hb4 : Below w.heap.size w W4 := HBk.out.trans (hc4.low.mono HBk.out.size)
        have HC := Lib.hid (chainsR_any M5 ca cc B (b + 1) b a1 c1 dr Sk W4 (HRPk.out.kept hc4.low) (HIN2.out.1.below hb4 HS.out) (HIN2.out.2.below hb4 HS.out) (fun T hT => HCH.out.2 T hT) (Nat.le_trans HCH.out.1 (by decide)))
        have HSG : Hid (Own W4 wr.heap.size 49 [.int .u64 (fk : Int), .slice ca M5.length cc]) := Lib.hid (by rw [← hW4]; exact Own.new wr _ _)
        have HL4 : Hid (Sl W4 w.heap.size v Gs) := Lib.hid (HLk.out.below hc4.low)
        have HG4 : Hid (Gown W4 B w.heap.size Gs) := Lib.hid (HGk.out.chg hc4 (by simp) (by simp))
        have HR4 := Lib.hid (HRk.out.chg hc4 (by simp))
        have HN4' := Lib.hid (HNk.out.chg hc4 (by simp))
        have HRP4 : Hid (RepS W4 B (b + 1) b a1 c1 dr Sk) := Lib.hid (HRPk.out.kept hc4.low)
        have HB4 := Lib.hid hb4
        have HW4 := Lib.hid hW4
        obtain ⟨⟨fc, fs, fx⟩, hfr⟩ : ∃ x, fillC dr Sk (chx M5) = x := ⟨_, rfl⟩
        have hst2 := HST.out fc fs fx hfr
        have hC2 := HC.out
        rw [hfr] at hC2
        clear HST HC
        have HST := Lib.hid hst2
        have HC := Lib.hid hC2
        clear hst2 hC2 hfr
        generalize M5.length = m5 at *
        clear hW4 hc4 hb4
        go_wp2_with fail
        rw [HW4.out]
        refine HC.out.mono ?_
        rintro e w5 ⟨a5, n5, c5, rfl, hr5, hc5, hok⟩
        have HR5 := Lib.hid hr5
        have HL5 : Hid (Sl w5 w.heap.size v Gs) := Lib.hid (HL4.out.chg hc5 (HRP4.out.notT _ (by decide)))
        have HG5 : Hid (Gown w5 B w.heap.size Gs) := Lib.hid (HG4.out.chg hc5 (HRP4.out.notT _ (by decide)) (HRP4.out.notT _ (by decide)))
        have hnm : ∀ g, g < W4.heap.size → ∀ cs, Own W4 g 25 cs → g ∉ [b + 1, b] := fun g hg cs ho hm => HRP4.out.notT 25 (by decide) g hm cs.toArray ho
        have hnm2 : ∀ cs, Own W4 wr.heap.size 49 cs → wr.heap.size ∉ [b + 1, b] := fun cs ho hm => HRP4.out.notT 49 (by decide) _ hm cs.toArray ho
        have HK5 := Lib.hid (HR4.out.chg hc5 (hnm _ HR4.out.lt _ HR4.out))
        have HN5 := Lib.hid (HN4'.out.chg hc5 (hnm _ HN4'.out.lt _ HN4'.out))
        have HS5 := Lib.hid (HSG.out.chg hc5 (hnm2 _ HSG.out))
        have HB5 : Hid (Below w.heap.size w w5) := Lib.hid (HB4.out.trans (hc5.below HB4.out.size (fun x hx => by
          simp only [List.mem_cons, List.not_mem_nil, or_false] at hx
          have := HNB.out
          rcases hx with rfl | rfl <;> omega)))
        clear e1' e2' hnm hnm2
        by_cases hf : fc = 0
        · subst hf
          obtain ⟨Ts, hTn, hTx, hTl, hTo⟩ := hok rfl
          have HEQ := Lib.hid (HEk.out.trans (by rw [HST.out, if_pos rfl, pre_pre]))
          have HTT := Lib.hid (And.intro hTn (And.intro hTx (And.intro hTl hTo)))
          have HWS : Hid (w.heap.size ≤ W4.heap.size) := Lib.hid HB4.out.size
          clear hr5 hc5 hok hTn hTx hTl hTo
          have q1 := HN5.out.cell 1
          have q2 := HS5.out.cell 0
          have hzn := HN5.out.lt
          simp at q1 q2
          have HL6 : Hid (Sl (w5.alloc (.cells #[.int .u64 (fk : Int), .slice a5 n5 c5] 49)) w.heap.size v Gs) := Lib.hid (HL5.out.alloc _)
          have HO6 : Hid (Own (w5.alloc (.cells #[.int .u64 (fk : Int), .slice a5 n5 c5] 49)) w5.heap.size 49 (sgv [⟨fk, a5, c5, Ts⟩])) := Lib.hid (by
            have := Own.new w5 49 [.int .u64 (fk : Int), .slice a5 n5 c5]
            simp only [sgv, ← HTT.out.1]
            exact this)
          go_wp2_with (at_builtin; refine wpList_appSg rfl (.tmp 47) (.tmp 52) rfl w.heap.size v Gs rfl HL6.out w5.heap.size ⟨fk, a5, c5, Ts⟩ 49 HO6.out (by first | rfl | simp) (by have := HG.out; have := HN.out; have := HN4.out; omega) (by have := HB5.out.size; simp; omega) ?_)
          intro v' w7 hl7 hg7
          have hc7 := grown_chg hg7
          have hrw := HL6.out.row
          have HN7 := Lib.hid ((HN5.out.alloc _).chg hc7 ((HN5.out.alloc _).out_row HL6.out (by decide)))
          have HK7 := Lib.hid ((HK5.out.alloc _).chg hc7 ((HK5.out.alloc _).out_row HL6.out (by decide)))
          have HB7 : Hid (Below w.heap.size w w7) := Lib.hid (Sl.grown_below (HB5.out.alloc HB5.out.size _) HL6.out hg7 (Nat.le_refl _) (by have := HB5.out.size; simp; omega))
          have HG7 : Hid (Gown w7 B w.heap.size (Gs ++ [⟨fk, a5, c5, Ts⟩])) := Lib.hid (by
            have h1 : Gown (w5.alloc (.cells #[.int .u64 (fk : Int), .slice a5 n5 c5] 49)) B w.heap.size (Gs ++ [⟨fk, a5, c5, Ts⟩]) := by
              have hca : Chg [] w5 (w5.alloc (.cells #[.int .u64 (fk : Int), .slice a5 n5 c5] 49)) := (Chg.refl [] w5).alloc _
              intro s hs
              rcases List.mem_append.1 hs with hs | hs
              · exact (HG5.out.chg hca (by simp) (by simp)) s hs
              · simp only [List.mem_singleton] at hs
                subst hs
                obtain ⟨t1, t2, t3, t4⟩ := HTT.out
                refine ⟨?_, fun T hT => (t4 T hT).chg hca (by simp)⟩
                simp only
                rw [← t1]
                exact (t3.base HWS.out).chg hca (by simp)
            exact h1.chg hc7 (HL6.out.notT (by decide)) (HL6.out.notT (by decide)))
          have HR7 : Hid (RepS w7 B (b + 1) b a1 c1 dr fs) := Lib.hid ((HR5.out.alloc _).chgT hc7 (fun x hx => by
            obtain ⟨h1, cur, h2⟩ := hrw x hx
            exact ⟨Nat.le_trans HS.out h1, cur, _, h2, by decide, by decide⟩))
          obtain ⟨av, cv, hv', _, _⟩ := hl7.out.form
          generalize (Gs ++ [(⟨fk, a5, c5, Ts⟩ : SgT)]).length = ln at hv'
          have HV' := Lib.hid hv'
          have HL7 : Hid (Sl w7 w.heap.size (.slice av ln cv) (Gs ++ [⟨fk, a5, c5, Ts⟩])) := Lib.hid (by rw [← HV'.out]; exact hl7.out)
          have q5 := HN7.out.cell 1
          have f5 := HN7.out.frozen 1
          have hz7 := HN7.out.lt
          simp at q5
          clear hc7 hg7 hl7 q1 q2 hrw
          subst hv'
          clear HV'
          go_wp2_with fail
          go_roundw
          case rel =>
            have hcs : Chg [b + 2] w7 (w7.setCell ⟨b + 2, 1, none⟩ (.slice av ln cv)) := (Chg.refl _ w7).setCell (by simp) _
            refine ⟨k + 1, _, Gs ++ [⟨fk, a5, c5, Ts⟩], fs, by omega, by go_num, Lib.hid (by rw [List.length_append, HG.out]; rfl), Lib.hid (HL7.out.chg hcs (HN7.out.notT (by decide))), Lib.hid (HG7.out.chg hcs (HN7.out.notT (by decide)) (HN7.out.notT (by decide))), Lib.hid (HR7.out.chgT hcs (fun x hx => ?_)), Lib.hid (HB7.out.setCell (by have := HNB.out; show w.heap.size ≤ b + 2; omega) _), Lib.hid (HK7.out.far (by have := HNB.out; show w.heap.size + 1 ≠ b + 2; omega) _), Lib.hid (HN7.out.set 1 _), Lib.hid ?_⟩
            · simp only [List.mem_singleton] at hx
              subst hx
              exact ⟨by have := HNB.out; have := HS.out; omega, _, _, HN7.out, by decide, by decide⟩
            · rw [HEQ.out]
              congr 1
              rw [← HTT.out.2.1]
              simp [sgx, SgT.x]
          case measure => simp [intOf]; omega
        · have HEQ := Lib.hid (HEk.out.trans (by rw [HST.out, if_neg hf]))
          have hf' : (fc != 0) = true := by rw [bne_iff_ne]; exact hf
          have HF := Lib.hid hf
          have d0 := HK5.out.cell 0
          have d1 := HK5.out.cell 1
          have d2 := HK5.out.cell 2
          have f0 := HK5.out.frozen 0
          have f1 := HK5.out.frozen 1
          have f2 := HK5.out.frozen 2
          have hz1 := HK5.out.lt
          simp at d0 d1 d2
          clear hr5 hc5 hok hf
          go_wp2_with fail
          refine bodyPost_ret (v := .tuple #[zeroL, .int .i64 fc]) (by simp [results, Try.results22, go_sem, d0, d1, d2, hz1]) rfl ?_
          have hr0 : r = (fc, ⟨0, [], 0⟩) := HRE2.out.trans ((if_neg (by rw [HEQ.out]; exact HF.out)).trans (by rw [HEQ.out]; rfl))
          rw [hr0]
          exact ⟨((HB5.out.setCell (Nat.le_succ _) _).setCell (Nat.le_succ _) _).setCell (Nat.le_succ _) _, .inr ⟨HF.out, rfl⟩⟩
      · obtain rfl : k = n := by omega
        have HEQ : Hid (fillS dr ([], fr) (sgx L) = (0, Sk, sgx Gs)) := Lib.hid (by
          rw [HEk.out, List.drop_of_length_le (by rw [sgx_length, HN.out]; exact Nat.le_refl _)]
          simp [pre, fillS])
        have z0 := HNk.out.cell 0
        have z1 := HNk.out.cell 1
        have z2 := HNk.out.cell 2
        have hzn := HNk.out.lt
        simp at z0 z1 z2
        obtain ⟨av, cv, hv', _, _⟩ := HLk.out.form
        obtain ⟨ln, hln⟩ : ∃ ln, Gs.length = ln := ⟨_, rfl⟩
        rw [hln] at hv'
        have HLN := Lib.hid hln
        clear hln
        subst hv'
        go_wp2_with fail
        have hlen : Gs.length = ln := HLN.out
        have hfitN : SgFit Gs := by
          refine ⟨by have := HG.out; have := HN.out; have := HN4.out; omega, fun s hs => ⟨?_, fun T hT => ?_⟩⟩
          · have := (HGk.out s hs).1.len_le
            rw [chv_length] at this
            unfold maxLen at this; omega
          · have := ((HGk.out s hs).2 T hT).len_le
            rw [i64s_length] at this
            unfold maxLen at this; omega
        have HCK := checked_any ⟨e1, av, cv, Gs, sq⟩ w.heap.size wr (by simp only [hlen]; exact HLk.out) (by simp only [hlen]; exact HGk.out.apart (HLk.out.notT (by decide)) (HLk.out.notT (by decide))) HBk.out.size hfitN
        simp only [LyT.val, hlen] at HCK
        have HXE : Hid (LyT.x ⟨e1, av, cv, Gs, sq⟩ = nextRaw (LyT.x ⟨ep, a, c, L, q0⟩) dr fr sq) := Lib.hid (by
          unfold nextRaw
          have : (LyT.x ⟨ep, a, c, L, q0⟩).s = sgx L := rfl
          rw [this, HEQ.out, ← HE1.out]
          rfl)
        have HR0 : Hid (r = if lright (nextRaw (LyT.x ⟨ep, a, c, L, q0⟩) dr fr sq) = true then (0, nextRaw (LyT.x ⟨ep, a, c, L, q0⟩) dr fr sq) else (91, ⟨0, [], 0⟩)) := Lib.hid (HRE2.out.trans (if_pos (by rw [HEQ.out])))
        refine HCK.mono ?_
        rintro e w7 (⟨hrt, T, rfl, hTx, hTr, hc7⟩ | ⟨hrf, rfl, hc7⟩)
        · obtain ⟨k1, k2, k3, k4⟩ := R3.store (w0 := w) (A := ⟨e1, av, cv, Gs, sq⟩) rfl HRk.out HLk.out (Nat.le_succ _) (Nat.le_refl _) HBk.out T hTr hc7
          rw [HXE.out] at hrt hTx
          have HT := Lib.hid (And.intro hrt (And.intro hTx (And.intro k1 (And.intro k2 (And.intro k3 k4)))))
          have g0 := k1.cell 0
          have g1 := k1.cell 1
          have g2 := k1.cell 2
          have f0 := k1.frozen 0
          have f1 := k1.frozen 1
          have f2 := k1.frozen 2
          have hz7 := k1.lt
          simp at g0 g1 g2
          clear k1 k2 k3 k4 hrt hTx hTr hc7 HCK z0 z1 z2 hzn hfitN hlen
          have hTv : T.val = .agg #[.int .u64 (T.e : Int), .slice T.a T.sg.length T.c, .int .i64 T.q] := rfl
          rw [hTv]
          generalize hT1 : T.sg.length = tn at *
          have HT1 := Lib.hid hT1
          clear hT1 hTv
          go_wp2_with fail
          refine bodyPost_ret (v := .tuple #[.agg #[.int .u64 (T.e : Int), .slice T.a tn T.c, .int .i64 T.q], .int .i64 0]) (by simp [results, Try.results22, go_sem, g0, g1, g2, hz7]) rfl ?_
          obtain ⟨hrt, hTx, k1, k2, k3, k4⟩ := HT.out
          have hcE : Chg [w.heap.size + 1] w7 (((w7.setCell ⟨w.heap.size + 1, 0, none⟩ (.int .u64 (T.e : Int))).setCell ⟨w.heap.size + 1, 1, none⟩ (.slice T.a tn T.c)).setCell ⟨w.heap.size + 1, 2, none⟩ (.int .i64 T.q)) := (((Chg.refl _ w7).setCell (by simp) _).setCell (by simp) _).setCell (by simp) _
          rw [HR0.out.trans (if_pos hrt)]
          refine ⟨((k2.setCell (Nat.le_succ _) _).setCell (Nat.le_succ _) _).setCell (Nat.le_succ _) _, .inl ⟨rfl, hrt, T, by rw [LyT.val, HT1.out], hTx, lyIn_of (k3.chg hcE) (k4.chg hcE)⟩⟩
        · have hb7 : Below w.heap.size w w7 := HBk.out.trans (hc7.below HBk.out.size (fun x hx => (HLk.out.row x hx).1))
          have k1 := HRk.out.chg hc7 (HRk.out.out_row HLk.out (by decide))
          rw [HXE.out] at hrf
          have HT := Lib.hid (And.intro hrf hb7)
          have g0 := k1.cell 0
          have g1 := k1.cell 1
          have g2 := k1.cell 2
          have f0 := k1.frozen 0
          have f1 := k1.frozen 1
          have f2 := k1.frozen 2
          have hz7 := k1.lt
          simp at g0 g1 g2
          clear k1 hrf hc7 hb7 HCK z0 z1 z2 hzn hfitN hlen
          go_wp2_with fail
          refine bodyPost_ret (v := .tuple #[zeroL, .int .i64 91]) (by simp [results, Try.results22, go_sem, g0, g1, g2, hz7]) rfl ?_
          rw [HR0.out.trans (if_neg (by rw [HT.out.1]; simp))]
          exact ⟨((HT.out.2.setCell (Nat.le_succ _) _).setCell (Nat.le_succ _) _).setCell (Nat.le_succ _) _, .inr ⟨by simp, rfl⟩⟩
end Go.Proofs.Ytkdgoopldaoihaa
namespace Go.Proofs.Ytkdgoopldaoihaa
open Go.RowKit Go.Deep Go.Shelf
set_option linter.unusedVariables false
set_option linter.unusedSimpArgs false

theorem chainOf_len (x : Ly) (a : Nat) : (chainOf x a).length ≤ 4 := by
  unfold chainOf
  by_cases h : lright x = true ∧ a < 1048576
  · rw [if_pos h]
    have hk := right_ch h.1 (segN_is h.1 a).1
    exact (ch_small hk (Nat.mod_lt _ (by have := (chOk_iff.1 hk).1; omega))).2
  · rw [if_neg h]; simp
theorem R4.cases {w w' : World} {r : Int × Ly} {e : Ending} (h : R4 w r e w') : Hid (Below w.heap.size w w') ∧ ((r.1 = 0 ∧ ∃ T : LyT, e = .returned (.tuple #[T.val, .int .i64 0]) ∧ Hid (T.x = r.2) ∧ Hid (lright r.2 = true) ∧ Hid (LyIn w' w'.heap.size T)) ∨ (r.1 ≠ 0 ∧ e = .returned (.tuple #[zeroL, .int .i64 r.1]))) := by
  obtain ⟨h1, ⟨h0, h2, T, h3, h4, h5⟩ | h2⟩ := h
  · exact ⟨Lib.hid h1, .inl ⟨h0, T, h3, Lib.hid h4, Lib.hid h2, Lib.hid h5⟩⟩
  · exact ⟨Lib.hid h1, .inr h2⟩
theorem cell_at {w w' : World} {B b o : Nat} {v : Value} (hb : Below B w w') (h : w.cell? ⟨b, o, none⟩ = some v) (hB : B = w.heap.size) : w'.cell? ⟨b, o, none⟩ = some v := cell_keep hb h (by rw [hB]; exact World.block_lt_of_cell? _ _ h)

end Go.Proofs.Ytkdgoopldaoihaa
namespace Go.Proofs.Ytkdgoopldaoihaa
open Go.RowKit Go.Deep Go.Shelf
set_option linter.unusedVariables false
set_option linter.unusedSimpArgs false

/-- the error beside a layout: none if it is right -/
def lcode (x : Ly) : Int := if lright x then 0 else 91
theorem lenc_w (A : LyT) (B : Nat) (w : World) (h : LyIn w B A) (hB : B ≤ w.heap.size) (hf : SgFit A.sg) :
    Calls Try.prog 7 #[A.val] w fun e w' => ∃ a c cs, e = .returned (.tuple #[.slice a cs.length c, .int .i64 (lcode A.x)]) ∧ LB A.x cs ∧ Ro w' w'.heap.size a (u8s cs) ∧ Below w.heap.size w w' := by
  unfold lcode
  cases hr : lright A.x with
  | false =>
    refine (lenc_no A B w h hB hf hr).mono ?_
    rintro e w' ⟨rfl, hb⟩
    exact ⟨none, 0, [], rfl, .inr ⟨hr, rfl⟩, Ro.nil _ _ _, hb⟩
  | true =>
    refine (lenc_yes A B w h hB hf hr).mono ?_
    rintro e w' ⟨g, cs, rfl, _, he, ho, hb⟩
    exact ⟨_, _, cs, rfl, .inl ⟨hr, he⟩, ho.ro _ ho.lt, hb⟩
theorem dlenc_w (A : LyT) (B : Nat) (w : World) (h : LyIn w B A) (hB : B ≤ w.heap.size) (hf : SgFit A.sg) :
    Calls Try.prog 8 #[A.val] w fun e w' => ∃ a c cs, e = .returned (.tuple #[.slice a cs.length c, .int .i64 (lcode A.x)]) ∧ LB A.x cs ∧ Ro w' w'.heap.size a (u8s cs) ∧ Below w.heap.size w w' := by
  unfold lcode
  refine (dlenc_u A B w h hB hf).mono ?_
  rintro e w' ⟨x, cs, rfl, h1, h2, h3⟩
  obtain ⟨a, c, rfl, hr, _, _⟩ := h2.form
  rw [u8s_length]
  exact ⟨a, c, cs, rfl, h1, hr, h3⟩
theorem lright_noL : lright noL = false := by decide
/-- what Decode of a layout tells, in one form -/
structure DW (w : World) (bs : List UInt8) (w' : World) (T : LyT) : Prop where
  below : Below w.heap.size w w'
  x : T.x = decL bs
  inn : LyIn w' w'.heap.size T
  fit : SgFit T.sg
theorem DL.w {w w' : World} {bs : List UInt8} {e : Ending} (h : DL w bs e w') : ∃ T, e = .returned (.tuple #[T.val, .int .i64 (lcode (decL bs))]) ∧ DW w bs w' T := by
  obtain ⟨hb, ⟨T, he, h1, h2, h3, h4, h5⟩ | ⟨he, h1⟩⟩ := h
  · refine ⟨T, ?_, hb, ?_, h4, h5⟩
    · rw [he, decL_yes h1 h2]
      unfold lcode
      rw [h1]
      rfl
    · rw [h3, decL_yes h1 h2]
  · refine ⟨⟨0, none, 0, [], 0⟩, ?_, hb, ?_, ⟨Ro.nil _ _ _, fun s hs => by cases hs⟩, ⟨by simp, fun s hs => by cases hs⟩⟩
    · rw [he, decL_no h1]
      unfold lcode
      rw [lright_noL]
      rfl
    · rw [decL_no h1]; rfl
theorem ldec_w (bs : List UInt8) (n : Nat) (a : Option Addr) (c B : Nat) (w : World) (hn : bs.length = n) (hro : Ro w B a (u8s bs)) (hB : B ≤ w.heap.size) (hl : n ≤ 1000000) :
    Calls Try.prog 9 #[.slice a n c] w fun e w' => ∃ T, e = .returned (.tuple #[T.val, .int .i64 (lcode (decL bs))]) ∧ DW w bs w' T :=
  (ldec_any bs n a c B w hn hro hB hl).mono fun e w' h => DL.w h
theorem DLG.dl {w w' : World} {bs : List UInt8} {e : Ending} (h : DLG w bs e w') : DL w bs e w' := by
  obtain ⟨hb, ⟨T, h1, h2, h3, h4, h5, h6, h7⟩ | h⟩ := h
  · exact ⟨hb, .inl ⟨T, h1, h2, h3, h4, h5, h6⟩⟩
  · exact ⟨hb, .inr h⟩
theorem dldec_w (bs : List UInt8) (n : Nat) (a : Option Addr) (c B : Nat) (w : World) (hn : bs.length = n) (hro : Ro w B a (u8s bs)) (hB : B ≤ w.heap.size) (hl : n ≤ 1000000) :
    Calls Try.prog 10 #[.slice a n c] w fun e w' => ∃ T, e = .returned (.tuple #[T.val, .int .i64 (lcode (decL bs))]) ∧ DW w bs w' T :=
  (dldec_any bs n a c B w hn hro hB hl).mono fun e w' h => DL.w (DLG.dl h)
theorem unitsOf_len (x : Ly) : (unitsOf x).length ≤ 32 := by
  cases h : lright x with
  | true => rw [← dU_all h]; exact dU_len _ _
  | false => unfold unitsOf; rw [if_neg (by rw [h]; simp)]; simp
end Go.Proofs.Ytkdgoopldaoihaa
namespace Go.Proofs.Ytkdgoopldaoihaa
open Go.RowKit Go.Deep Go.Shelf
set_option linter.unusedVariables false
set_option linter.unusedSimpArgs false

/-- pairs of chains in memory: what a chain was, and what it became -/
def dnv : List (ChT × ChT) → List Value
  | [] => []
  | p :: L => p.1.val :: p.2.val :: dnv L
@[simp] theorem dnv_length (L : List (ChT × ChT)) : (dnv L).length = L.length * 2 := by
  induction L with
  | nil => rfl
  | cons r L ih => simp [dnv, ih]; omega
theorem dnv_append (A B : List (ChT × ChT)) : dnv (A ++ B) = dnv A ++ dnv B := by
  induction A with
  | nil => rfl
  | cons r A ih => simp [dnv, ih]
theorem dnv_one (L : List (ChT × ChT)) : ∀ v ∈ dnv L, v.oneCell' = true := by
  induction L with
  | nil => intro v hv; cases hv
  | cons r L ih =>
    intro v hv
    simp only [dnv, List.mem_cons] at hv
    rcases hv with rfl | rfl | hv
    · rfl
    · rfl
    · exact ih v hv
theorem dnv_get (L : List (ChT × ChT)) (i : Nat) : (dnv L)[i * 2]? = L[i]?.map (fun r => r.1.val) ∧ (dnv L)[i * 2 + 1]? = L[i]?.map (fun r => r.2.val) := by
  induction L generalizing i with
  | nil => simp [dnv]
  | cons r L ih =>
    cases i with
    | zero => simp [dnv]
    | succ i => rw [show (i + 1) * 2 = i * 2 + 1 + 1 by omega]; simpa [dnv] using ih i
def dnt (L : List (ChT × ChT)) (i : Nat) : ChT × ChT := L.getD i (⟨none, 0, []⟩, ⟨none, 0, []⟩)
theorem Ro.dn {w : World} {B : Nat} {a : Option Addr} {L : List (ChT × ChT)} (h : Ro w B a (dnv L)) (hn : 0 < L.length) :
    ∃ b off, a = some ⟨b, off, none⟩ ∧ b < B ∧ ∀ i, i < L.length → w.cell? ⟨b, off + i * 2, none⟩ = some (dnt L i).1.val ∧ w.cell? ⟨b, off + i * 2 + 1, none⟩ = some (dnt L i).2.val := by
  obtain ⟨b, off, h1, h2, h3⟩ := h.at_ (by intro e; have e2 := congrArg List.length e; simp at e2; omega)
  refine ⟨b, off, h1, h2, fun i hi => ?_⟩
  obtain ⟨e1, e2⟩ := dnv_get L i
  have es : L[i]? = some (dnt L i) := by simp [dnt, List.getD, hi]
  rw [es] at e1 e2
  have g1 := h3 (i * 2) (by simp; omega)
  have g2 := h3 (i * 2 + 1) (by simp; omega)
  simp only [List.getD, e1, e2, Option.map_some, Option.getD_some] at g1 g2
  exact ⟨g1, by rw [Nat.add_assoc]; exact g2⟩
theorem dnt_mem {L : List (ChT × ChT)} {i : Nat} (h : i < L.length) : dnt L i ∈ L := by
  have : dnt L i = L[i] := by simp [dnt, List.getD, h]
  rw [this]; exact List.getElem_mem h
/-- the first pair whose chain was this one -/
def dnF (D : List (ChT × ChT)) (c : List Int) : Option (ChT × ChT) := D.find? fun p => decide (p.1.u = c)
theorem dnF_none {D : List (ChT × ChT)} {c : List Int} (h : ∀ j, j < D.length → (dnt D j).1.u ≠ c) : dnF D c = none := by
  unfold dnF
  rw [List.find?_eq_none]
  intro p hp
  obtain ⟨j, hj, rfl⟩ := List.getElem_of_mem hp
  have := h j hj
  have e : dnt D j = D[j] := by simp [dnt, List.getD, hj]
  rw [e] at this
  simpa using this
theorem dnF_some {D : List (ChT × ChT)} {c : List Int} {k : Nat} (hk : k < D.length) (h : ∀ j, j < k → (dnt D j).1.u ≠ c) (he : (dnt D k).1.u = c) : dnF D c = some (dnt D k) := by
  unfold dnF
  have e : dnt D k = D[k] := by simp [dnt, List.getD, hk]
  rw [e, List.find?_eq_some_iff_getElem]
  refine ⟨by rw [← e, he]; simp, k, hk, rfl, fun j hj => ?_⟩
  have := h j hj
  have e2 : dnt D j = D[j] := by simp [dnt, List.getD, Nat.lt_trans hj hk]
  rw [e2] at this
  simpa using this
set_option maxHeartbeats 4000000 in
set_option maxRecDepth 100000 in
theorem dbecame_any (D : List (ChT × ChT)) (cu : List Int) (a ca : Option Addr) (c cc B : Nat) (w : World) (hro : Ro w B a (dnv D)) (hD : ∀ p ∈ D, Ro w B p.1.a (i64s p.1.u) ∧ p.1.u.length ≤ 1000000) (hcu : Ro w B ca (i64s cu)) (hB : B ≤ w.heap.size) (hl : D.length ≤ 1000000) (hlc : cu.length ≤ 1000000) :
    Calls Try.prog 45 #[.slice a D.length c, .slice ca cu.length cc] w fun e w' => ((∃ p, dnF D cu = some p ∧ e = .returned (.tuple #[p.2.val, .bool true])) ∨ (dnF D cu = none ∧ e = .returned (.tuple #[.slice none 0 0, .bool false]))) ∧ Below w.heap.size w w' := by
  obtain ⟨n, hn⟩ : ∃ n, D.length = n := ⟨_, rfl⟩
  have HN := Lib.hid hn
  have HRO := Lib.hid (And.intro hro hB)
  have HDD := Lib.hid hD
  obtain ⟨m, hm⟩ : ∃ n, cu.length = n := ⟨_, rfl⟩
  have HM := Lib.hid hm
  have HCU := Lib.hid (And.intro hcu hlc)
  obtain ⟨st, hst⟩ : ∃ st, dnF D cu = st := ⟨_, rfl⟩
  have HST := Lib.hid hst
  rw [hst, hn, hm]
  rw [hn] at hl
  clear hst hn hm hro hB hD hcu hlc
  go_enter Try.func45, Try.ntmps45
  go_wp2_with fail
  go_loopw [6] (fun i wr => ∃ k : Nat, k ≤ n ∧ i = .int .i64 (k : Int) ∧ Hid (∀ j, j < k → (dnt D j).1.u ≠ cu) ∧ Hid (Below w.heap.size w wr)) (fun i _ => n - (intOf i).toNat)
  case atStart => exact ⟨0, Nat.zero_le _, rfl, Lib.hid (fun j hj => by omega), Lib.hid (Below.refl _ _)⟩
  case round =>
    obtain ⟨k, hk, rfl, HU, HB6⟩ := hrel
    rename World => w6
    by_cases hlt : k < n
    · have hkL : k < D.length := by rw [HN.out]; exact hlt
      obtain ⟨b, off, rfl, hb, hc⟩ := (HRO.out.1.below HB6.out HRO.out.2).dn (show 0 < D.length by omega)
      obtain ⟨e1, e2⟩ := hc k hkL
      have HBL : Hid (b < w.heap.size) := Lib.hid (Nat.lt_of_lt_of_le hb HRO.out.2)
      have HP := Lib.hid (HDD.out _ (dnt_mem hkL))
      have HSO := Lib.hid (fun he => dnF_some hkL HU.out (c := cu) he)
      have HNX : Hid ((dnt D k).1.u ≠ cu → ∀ j, j < k + 1 → (dnt D j).1.u ≠ cu) := Lib.hid (fun h j hj => by
        rcases Nat.lt_or_ge j k with h1 | h1
        · exact HU.out j h1
        · obtain rfl : j = k := by omega
          exact h)
      generalize dnt D k = p at *
      obtain ⟨⟨pa, pc, pu⟩, ⟨qa, qc, qu⟩⟩ := p
      simp only [ChT.val] at e1 e2 HP HSO HNX
      have HSM := Lib.hid (sameChain_any pu cu pa ca pc cc B w6 (HP.out.1.below HB6.out HRO.out.2) (HCU.out.1.below HB6.out HRO.out.2) (Nat.le_trans HRO.out.2 HB6.out.size) HP.out.2 HCU.out.2)
      obtain ⟨np, hnp⟩ : ∃ n, pu.length = n := ⟨_, rfl⟩
      rw [hnp] at e1 HSM
      rw [HM.out] at HSM
      obtain ⟨nq, hnq⟩ : ∃ n, qu.length = n := ⟨_, rfl⟩
      rw [hnq] at e2
      have HNQ := Lib.hid hnq
      obtain ⟨t, ht⟩ : ∃ t, decide (pu = cu) = t := ⟨_, rfl⟩
      rw [ht] at HSM
      have HTT := Lib.hid ht
      have j0 : (0 : Int) ≤ (k : Int) := Int.natCast_nonneg k
      have j1 : (k : Int) < (n : Int) := Int.ofNat_lt.2 hlt
      have HE2 := Lib.hid e2
      clear hc hkL hnp hnq ht e2 hb
      go_wp2_with fail
      refine HSM.out.mono ?_
      rintro e w7 ⟨rfl, hb7⟩
      have e3 := cell_keep hb7 HE2.out (World.block_lt_of_cell? _ _ HE2.out)
      have HB7 := Lib.hid (HB6.out.trans (hb7.mono HB6.out.size))
      clear hb7
      cases t with
      | true =>
        go_wp2_with fail
        go_ret2
        refine ⟨.inl ⟨_, HST.out.symm.trans (HSO.out (by simpa using HTT.out)), ?_⟩, HB7.out⟩
        simp only [ChT.val, HNQ.out]
        rfl
      | false =>
        clear e3
        go_wp2_with fail
        go_roundw
        case rel => exact ⟨k + 1, hlt, by go_num, Lib.hid (HNX.out (by simpa using HTT.out)), HB7⟩
        case measure => simp [intOf]; omega
    · obtain rfl : k = n := Nat.le_antisymm hk (Nat.not_lt.1 hlt)
      have HNO := Lib.hid (HST.out.symm.trans (dnF_none (D := D) (c := cu) (fun j hj => HU.out j (by rw [← HN.out]; exact hj))))
      go_wp2_with fail
      go_ret2
      exact ⟨.inr ⟨HNO.out, rfl⟩, HB6.out⟩
/-- a slice of pairs of chains of the call's own -/
def Dn (w : World) (base : Nat) (v : Value) (L : List (ChT × ChT)) : Prop := w.ownsRow base 82 2 v L.length (dnv L)
theorem Dn.nil (w : World) (base : Nat) : Dn w base (.slice none 0 0) [] := World.ownsRow_nil w base _ 2
theorem Dn.alloc {w : World} {base : Nat} {v : Value} {L : List (ChT × ChT)} (h : Dn w base v L) (o : Obj) : Dn (w.alloc o) base v L := World.ownsRow.alloc h o
theorem Dn.lt {w : World} {base : Nat} {v : Value} {L : List (ChT × ChT)} (h : Dn w base v L) : ∀ k, v.ownBlock = some k → base ≤ k ∧ k < w.heap.size := World.ownsRow.lt h
theorem Dn.chg {w w' : World} {base : Nat} {v : Value} {L : List (ChT × ChT)} {l : List Nat} (h : Dn w base v L) (hc : Chg l w w') (hl : ∀ x ∈ l, ∀ cur, w.heap[x]? ≠ some (.cells cur 82 (0, 0))) : Dn w' base v L := by
  refine ⟨h.1, ?_⟩
  rcases h.2 with h1 | ⟨g, cap, cur, h1, h2, h3, h4⟩
  · exact .inl h1
  · exact .inr ⟨g, cap, cur, h1, h2, (hc.block g (Array.getElem?_eq_some_iff.1 h3).1 (fun hm => hl g hm cur h3)).trans h3, h4⟩
theorem Dn.below {w w' : World} {base : Nat} {v : Value} {L : List (ChT × ChT)} (h : Dn w base v L) (hb : Below w.heap.size w w') : Dn w' base v L := h.chg ((Chg.refl [] w).of_below hb) (by simp)
theorem Dn.base {w : World} {base base' : Nat} {v : Value} {L : List (ChT × ChT)} (h : Dn w base v L) (hb : base' ≤ base) : Dn w base' v L := by
  refine ⟨h.1, ?_⟩
  rcases h.2 with h1 | ⟨g, cap, cur, h1, h2, h3⟩
  · exact .inl h1
  · exact .inr ⟨g, cap, cur, h1, by omega, h3⟩
theorem Dn.form {w : World} {base : Nat} {v : Value} {L : List (ChT × ChT)} (h : Dn w base v L) : ∃ a c, v = .slice a L.length c ∧ Ro w w.heap.size a (dnv L) ∧ L.length ≤ c := by
  rcases h.2 with ⟨rfl, h0⟩ | ⟨g, cap, cur, rfl, hb, hh, hle, hm, hrest⟩
  · have : L = [] := by simpa using h0
    subst this
    exact ⟨none, 0, rfl, .inl rfl, by simp⟩
  · refine ⟨some ⟨g, 0, none⟩, cap, rfl, .inr ⟨g, 0, rfl, ?_, fun i hi => ?_⟩, hle⟩
    · exact (World.ownsRow.lt h g rfl).2
    · have := World.ownsRow.cellAt h i (by rw [dnv_length] at hi; exact hi)
      rw [Nat.zero_add, this]
      simp only [List.getD, List.getElem?_eq_getElem hi, Option.getD_some]
theorem Try.info_done : (Try.prog.info? 82).map (fun i => (i.zero, i.size, i.bytes)) = some (some (.agg #[.slice none 0 0, .slice none 0 0]), 2, 48) := by kernel_rfl
theorem Dn.grown_below {B base : Nat} {a w w' : World} {v : Value} {L : List (ChT × ChT)} (h : Below B a w) (hl : Dn w base v L) (hg : w.grownBy w' v.ownBlock) (hB : B ≤ base) (hB2 : B ≤ w.heap.size) : Below B a w' :=
  ⟨hg.os.trans h.os, hg.tape.trans h.tape, hg.output.trans h.output, Nat.le_trans h.size hg.size, fun b hb => (hg.block b (by omega) (fun e => by have := (hl.lt b e.symm).1; omega)).trans (h.block b hb)⟩
/-- append of one pair -/
theorem wpList_appDn {ops : Array Oper} {rest : List Oper} {o : Oper} {a : Act} {w : World} {Q : Exit → Act → World → Prop} (hgd : o.guard = none) (s x : Operand)
    (ho : o.op = .call { callee := .builtin .append, args := #[s, x], argTypes := #[78, 78] })
    (base : Nat) (v : Value) (L : List (ChT × ChT)) (hs : a.eval s = v) (hown : Dn w base v L) (g : Nat) (y : (ChT × ChT)) (t : TypeId) (hnew : Own w g t (dnv [y]))
    (hx : a.eval x = .slice (some ⟨g, 0, none⟩) 1 1) (hlen : L.length ≤ 1000000) (hbase : base ≤ w.heap.size)
    (h : ∀ v' w', Hid (Dn w' base v' (L ++ [y])) → w.grownBy w' v.ownBlock → wpList Try.prog ops Q rest (a.put o.dst v') w') : wpList Try.prog ops Q (o :: rest) a w := by
  obtain ⟨i, hi, hzz⟩ := Option.map_eq_some_iff.1 Try.info_done
  simp only [Prod.mk.injEq] at hzz
  obtain ⟨hz, hsz, hby⟩ := hzz
  refine wpList_append_own w hgd s x 78 ho base 82 i _ 2 48 Try.underlying78 hi hz hsz hby rfl (by omega) v L.length (dnv L) hs hown ⟨g, 0, none⟩ 1 1 (dnv [y]) hx (by simp) (fun j u hu => ?_) (dnv_one _) (by unfold maxLen; omega) (by omega) hbase fun v' w' h2 h3 _ => h v' w' ?_ h3
  · rw [add_off, Nat.zero_add, hnew.cell j]; exact hu
  · show w'.ownsRow base 82 2 v' (L ++ [y]).length (dnv (L ++ [y]))
    rw [List.length_append, dnv_append]
    exact h2
theorem Dn.row {w : World} {base : Nat} {v : Value} {L : List (ChT × ChT)} (h : Dn w base v L) : ∀ x ∈ rowOf v, base ≤ x ∧ ∃ cur, w.heap[x]? = some (.cells cur 82 (0, 0)) := by
  intro x hx
  rcases h.2 with ⟨rfl, _⟩ | ⟨g, cap, cur, rfl, h2, h3, _⟩
  · simp [rowOf, Value.ownBlock] at hx
  · simp [rowOf, Value.ownBlock] at hx
    subst hx
    exact ⟨h2, cur, h3⟩
theorem Dn.notT {w : World} {base : Nat} {v : Value} {L : List (ChT × ChT)} {t' : TypeId} (h : Dn w base v L) (ht : 82 ≠ t') : ∀ x ∈ rowOf v, ∀ cur, w.heap[x]? ≠ some (.cells cur t' (0, 0)) := by
  intro x hx cur he
  obtain ⟨_, cur', h2⟩ := h.row x hx
  rw [he] at h2
  injection h2 with h2
  injection h2 with _ h2 _
  exact ht h2.symm
theorem Own.out_rowD {w : World} {base g : Nat} {t : TypeId} {cs : List Value} {v : Value} {L : List (ChT × ChT)} (h : Own w g t cs) (hv : Dn w base v L) (ht : t ≠ 82) : g ∉ rowOf v := by
  intro hm
  obtain ⟨_, cur, h2⟩ := hv.row g hm
  unfold Own at h
  rw [h] at h2
  injection h2 with h2
  injection h2 with _ h2 _
  exact ht h2
end Go.Proofs.Ytkdgoopldaoihaa
