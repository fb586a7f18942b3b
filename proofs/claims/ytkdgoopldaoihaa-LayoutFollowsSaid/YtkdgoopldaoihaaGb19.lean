/-
  checked of package layout, by its contract. No claim of its own.
-/
import Derived.Test.YtkdgoopldaoihaaGb18
import Derived.Test.YtkdgoopldaoihaaGb17
import Derived.Deep.RegionHeld3
namespace Go.Proofs.Ytkdgoopldaoihaa
open Go.RowKit Go.Deep Go.Shelf
set_option linter.unusedVariables false
set_option linter.unusedSimpArgs false

/-- segments, whose rows lie apart from the blocks of l -/
def SgX (w : World) (l : List Nat) (L : List SgT) : Prop := ∀ s ∈ L, RoX w l s.a (chv s.ch) ∧ ∀ c ∈ s.ch, RoX w l c.a (i64s c.u)
theorem SgX.chg {w w' : World} {l : List Nat} {L : List SgT} (h : SgX w l L) (hc : Chg l w w') : SgX w' l L := fun s hs => ⟨(h s hs).1.chg hc, fun c hcm => ((h s hs).2 c hcm).chg hc⟩
theorem SgX.inn {w : World} {l : List Nat} {L : List SgT} (h : SgX w l L) : SgIn w w.heap.size L := fun s hs => ⟨(h s hs).1.ro, fun c hc => ((h s hs).2 c hc).ro⟩
theorem SgIn.apart {w : World} {B : Nat} {l : List Nat} {L : List SgT} (h : SgIn w B L) (hB : B ≤ w.heap.size) (hl : ∀ x ∈ l, B ≤ x) : SgX w l L := fun s hs => ⟨(h s hs).1.apart hB hl, fun c hc => ((h s hs).2 c hc).apart hB hl⟩
theorem RoX.less {w : World} {l l' : List Nat} {a : Option Addr} {vs : List Value} (h : RoX w l a vs) (hl : ∀ x ∈ l', x ∈ l) : RoX w l' a vs := by
  rcases h with h | ⟨b, off, h1, h2, h3, h4⟩
  · exact .inl h
  · exact .inr ⟨b, off, h1, h2, fun hm => h3 (hl b hm), h4⟩
theorem SgX.less {w : World} {l l' : List Nat} {L : List SgT} (h : SgX w l L) (hl : ∀ x ∈ l', x ∈ l) : SgX w l' L := fun s hs => ⟨(h s hs).1.less hl, fun c hc => ((h s hs).2 c hc).less hl⟩
theorem Sl.apart {w : World} {base : Nat} {g n c : Nat} {L : List SgT} {l : List Nat} (h : Sl w base (.slice (some ⟨g, 0, none⟩) n c) L) (hl : ∀ x ∈ l, x ≠ g) : RoX w l (some ⟨g, 0, none⟩) (sgv L) := by
  obtain ⟨a', c', h1, h2, _⟩ := h.form
  injection h1 with h1 _ _
  subst h1
  rcases h2 with h2 | ⟨b, off, g1, g2, g3⟩
  · exact .inl h2
  · refine .inr ⟨b, off, g1, g2, fun hm => ?_, g3⟩
    injection g1 with g1
    injection g1 with g1 _ _
    exact hl b hm g1.symm
theorem sgv_set (L : List SgT) (i : Nat) (s : SgT) (h : i < L.length) (hf : s.f = (st L i).f) : sgv (L.set i s) = (sgv L).set (i * 2 + 1) (.slice s.a s.ch.length s.c) := by
  induction L generalizing i with
  | nil => simp at h
  | cons r L ih =>
    cases i with
    | zero =>
      simp only [List.set_cons_zero, sgv, Nat.zero_mul, Nat.zero_add, List.set_cons_succ]
      rw [show s.f = r.f by simpa [st] using hf]
    | succ i =>
      have := ih i (by simpa using h) (by simpa [st] using hf)
      have e : (i + 1) * 2 + 1 = i * 2 + 1 + 1 + 1 := by omega
      rw [e]
      simp only [List.set_cons_succ, sgv, this]
theorem Sl.setCh {w : World} {base g n c : Nat} {L : List SgT} (h : Sl w base (.slice (some ⟨g, 0, none⟩) n c) L) (i : Nat) (hi : i < L.length) (s : SgT) (hf : s.f = (st L i).f) : Sl (w.setCell ⟨g, i * 2 + 1, none⟩ (.slice s.a s.ch.length s.c)) base (.slice (some ⟨g, 0, none⟩) n c) (L.set i s) := by
  refine ⟨by simp, ?_⟩
  rcases h.2 with ⟨hv, _⟩ | ⟨g', cap, cur, hv, h2, h3, h4, h5, h6, h7⟩
  · cases hv
  · injection hv with hv hn hc
    injection hv with hv
    injection hv with hv _ _
    subst hv hc
    refine .inr ⟨g, c, cur.set! (i * 2 + 1) (.slice s.a s.ch.length s.c), by rw [hn]; simp, h2, ?_, by simpa using h4, h5, by simpa using h6, ?_⟩
    · have : Own w g 49 cur.toList := by unfold Own; simpa using h3
      have := this.set (i * 2 + 1) (.slice s.a s.ch.length s.c)
      unfold Own at this
      rw [this]
      congr 2
      apply Array.ext'
      simp
    · rw [sgv_set L i s hi hf, List.length_set, Array.set!_eq_setIfInBounds, Array.toList_setIfInBounds, List.take_set, h7]
theorem Sl.frozen {w : World} {base g n c : Nat} {L : List SgT} (h : Sl w base (.slice (some ⟨g, 0, none⟩) n c) L) (i : Nat) : w.frozen? ⟨g, i, none⟩ = false := by
  rcases h.2 with ⟨hv, _⟩ | ⟨g', cap, cur, hv, h2, h3, _⟩
  · cases hv
  · injection hv with hv hn hc
    injection hv with hv
    injection hv with hv _ _
    subst hv
    simp [World.frozen?, h3]
theorem Sl.cells {w : World} {base g n c : Nat} {L : List SgT} (h : Sl w base (.slice (some ⟨g, 0, none⟩) n c) L) (i : Nat) (hi : i < L.length) : w.cell? ⟨g, i * 2, none⟩ = some (.int .u64 ((st L i).f : Int)) ∧ w.cell? ⟨g, i * 2 + 1, none⟩ = some (.slice (st L i).a (st L i).ch.length (st L i).c) := by
  obtain ⟨a', c', h1, h2, _⟩ := h.form
  injection h1 with h1 _ _
  obtain ⟨b, off, e, _, hc⟩ := h2.sg (by omega)
  rw [← h1] at e
  injection e with e
  injection e with e1 e2 _
  subst e1 e2
  simpa using hc i hi
/-- lright segments fit -/
theorem right_fit {A : LyT} (h : lright A.x = true) : SgFit A.sg := by
  have hs := sgOk_iff.1 (lright_iff.1 h).2.2
  have hx : A.x.s = sgx A.sg := rfl
  rw [hx] at hs
  simp only [sgx_length] at hs
  refine ⟨by omega, fun s hsm => ?_⟩
  obtain ⟨i, hi, rfl⟩ := List.getElem_of_mem hsm
  have e : st A.sg i = A.sg[i] := by simp [st, List.getD, hi]
  have := hs.2.2.1 i hi
  rw [sx_sgx, e] at this
  have hc := chOk_iff.1 this.2
  have hf := this.1
  simp only [SgT.x, chx_length] at hc hf
  refine ⟨by omega, fun c hcm => ?_⟩
  have := hc.2.1 c.u (List.mem_map.2 ⟨c, hcm, rfl⟩)
  omega
/-- what a call of checked leaves -/
def R3 (w : World) (l : List Nat) (A : LyT) (e : Ending) (w' : World) : Prop :=
  (lright A.x = true ∧ ∃ T : LyT, e = .returned (.tuple #[T.val, .int .i64 0]) ∧ T.x = A.x ∧ (∀ l', (∀ x ∈ l', x < w.heap.size ∧ x ∉ l) → RoX w' l' T.a (sgv T.sg) ∧ SgX w' l' T.sg) ∧ Chg l w w') ∨ (lright A.x = false ∧ e = .returned (.tuple #[.agg #[.int .u64 0, .slice none 0 0, .int .i64 0], .int .i64 91]) ∧ Chg l w w')
set_option maxHeartbeats 4000000 in
theorem checked_any (A : LyT) (base : Nat) (w : World) (hs : Sl w base (.slice A.a A.sg.length A.c) A.sg) (hx : SgX w (rowOf (.slice A.a A.sg.length A.c)) A.sg) (hbase : base ≤ w.heap.size) (hf : SgFit A.sg) :
    Calls Try.prog 44 #[A.val] w (R3 w (rowOf (.slice A.a A.sg.length A.c)) A) := by
  obtain ⟨W, HWW⟩ : ∃ W, Hid ((w.alloc (.cells #[.int .u64 (A.e : Int), .slice A.a A.sg.length A.c, .int .i64 A.q] 25)).alloc (.cells #[.int .u64 0, .slice none 0 0, .int .i64 0] 25) = W) := ⟨_, Lib.hid rfl⟩
  have hWc : Chg [] w W := by rw [← HWW.out]; exact ((Chg.refl [] w).alloc _).alloc _
  have hWb : Below w.heap.size w W := hWc.low
  have hws : W.heap.size = w.heap.size + 2 := by rw [← HWW.out]; simp
  have hsW : Sl W base (.slice A.a A.sg.length A.c) A.sg := hs.below hWb
  have hxW : SgX W (rowOf (.slice A.a A.sg.length A.c)) A.sg := hx.chg (hWc.mono (by simp))
  have hR := lright_any A W.heap.size W ⟨by
    obtain ⟨a', c', h1, h2, _⟩ := hsW.form
    injection h1 with h1 _ _
    rw [h1]; exact h2, hxW.inn⟩ (Nat.le_refl _) hf
  have o1 : Own W w.heap.size 25 [.int .u64 (A.e : Int), .slice A.a A.sg.length A.c, .int .i64 A.q] := by rw [← HWW.out]; exact (Own.new w _ _).alloc _
  have o2 : Own W (w.heap.size + 1) 25 [.int .u64 0, .slice none 0 0, .int .i64 0] := by
    rw [← HWW.out]
    have := Own.new (w.alloc (.cells #[.int .u64 (A.e : Int), .slice A.a A.sg.length A.c, .int .i64 A.q] 25)) 25 [.int .u64 0, .slice none 0 0, .int .i64 0]
    simpa using this
  have HR := Lib.hid hR
  have HWC := Lib.hid hWc
  have HSW := Lib.hid hsW
  have HXW := Lib.hid hxW
  have HO1 := Lib.hid o1
  have HO2 := Lib.hid o2
  have HZ := Lib.hid hws
  have HBS := Lib.hid hbase
  have c0 := o1.cell 0
  have c1 := o1.cell 1
  have c2 := o1.cell 2
  have hz := o1.lt
  simp at c0 c1 c2
  clear hs hx hbase hf hWc hWb hws hsW hxW hR o1 o2
  cases hr : lright A.x with
  | false =>
    rw [hr] at HR
    have HRR := Lib.hid hr
    clear hr
    obtain ⟨ep, a, c, L, q⟩ := A
    simp only [LyT.val] at *
    generalize L.length = n at *
    go_enter Try.func44, Try.ntmps44
    go_upto_region 1 with fail
    rw [HWW.out]
    go_wp2_with fail
    refine HR.out.mono ?_
    rintro e w1 ⟨rfl, hb⟩
    have HB := Lib.hid hb
    have oR := HO2.out.below hb HO2.out.lt
    have d0 := oR.cell 0
    have d1 := oR.cell 1
    have d2 := oR.cell 2
    have f0 := oR.frozen 0
    have f1 := oR.frozen 1
    have f2 := oR.frozen 2
    have hz1 := oR.lt
    simp at d0 d1 d2
    clear hb oR
    go_wp2_with fail
    refine bodyPost_ret (v := .tuple #[.agg #[.int .u64 0, .slice none 0 0, .int .i64 0], .int .i64 91]) (by simp [results, Try.results44, go_sem, d0, d1, d2, hz1]) rfl ?_
    refine .inr ⟨HRR.out, rfl, ?_⟩
    have hc1 : Chg [] w w1 := HWC.out.of_below HB.out
    exact ((((hc1.mono (l' := rowOf (.slice a n c)) (by simp)).setCell (.inr (Nat.le_succ _)) _).setCell (.inr (Nat.le_succ _)) _).setCell (.inr (Nat.le_succ _)) _)
  | true =>
    rw [hr] at HR
    have HRR := Lib.hid hr
    have hn4 := (sgOk_iff.1 (lright_iff.1 hr).2.2).1
    have HCK : Hid (∀ k, k < A.sg.length → 0 < (st A.sg k).ch.length ∧ (st A.sg k).ch.length ≤ 1000000 ∧ ∀ c ∈ (st A.sg k).ch, 0 < c.u.length ∧ c.u.length ≤ 1000000) := Lib.hid (fun k hk => by
      have hx : A.x.s = sgx A.sg := rfl
      have g := right_ch hr (i := k) (by rw [hx]; simpa using hk)
      rw [hx, sx_sgx] at g
      have g2 := chOk_iff.1 g
      simp only [SgT.x, chx_length] at g2
      refine ⟨by omega, by omega, fun c hcm => ?_⟩
      have := g2.2.1 c.u (List.mem_map.2 ⟨c, hcm, rfl⟩)
      omega)
    have hx : A.x.s = sgx A.sg := rfl
    rw [hx, sgx_length] at hn4
    have hn5 : (A.sg.length : Int) ≤ 4 := by omega
    have HN0 : Hid (0 < A.sg.length) := Lib.hid (by omega)
    have HNX : Hid (A.x = ⟨A.e, sgx A.sg, A.q⟩) := Lib.hid rfl
    clear hr hx hn4
    obtain ⟨ep, a, c, L, q⟩ := A
    simp only [LyT.val] at *
    obtain ⟨g, hag⟩ : ∃ g, a = some ⟨g, 0, none⟩ := by
      rcases HSW.out.2 with ⟨hv, h0⟩ | ⟨g, cap, cur, hv, _⟩
      · exact absurd h0 (by have := HN0.out; omega)
      · injection hv with hv _ _
        exact ⟨g, hv⟩
    subst hag
    have hrow : ∀ n c, rowOf (.slice (some ⟨g, 0, none⟩) n c) = [g] := fun _ _ => rfl
    rw [hrow] at *
    clear hrow
    generalize hN : L.length = n at *
    have HN := Lib.hid hN
    clear hN
    go_enter Try.func44, Try.ntmps44
    go_upto_region 1 with fail
    rw [HWW.out]
    go_wp2_with fail
    refine HR.out.mono ?_
    rintro e w1 ⟨rfl, hb⟩
    have HC1 : Hid (Chg [g] w w1) := Lib.hid ((HWC.out.mono (by simp)).of_below hb)
    have HSl1 : Hid (Sl w1 base (.slice (some ⟨g, 0, none⟩) n c) L) := Lib.hid (HSW.out.below hb)
    have HX1 : Hid (SgX w1 [g] L) := Lib.hid (HXW.out.chg ((Chg.refl [g] W).of_below hb))
    have HA1 := Lib.hid (HO1.out.below hb HO1.out.lt)
    have HA2 := Lib.hid (HO2.out.below hb HO2.out.lt)
    have d0 := HA1.out.cell 0
    have d1 := HA1.out.cell 1
    have d2 := HA1.out.cell 2
    simp at d0 d1 d2
    clear hb c0 c1 c2
    go_wp2_with fail
    have HGB : Hid (g ≠ w.heap.size ∧ g ≠ w.heap.size + 1) := Lib.hid (by
      obtain ⟨_, cur, h⟩ := HSW.out.row g (by simp [rowOf, Value.ownBlock])
      constructor
      · intro e
        have := HO1.out
        unfold Own at this
        rw [e, this] at h
        injection h with h
        injection h with _ h _
        exact absurd h (by decide)
      · intro e
        have := HO2.out
        unfold Own at this
        rw [e, this] at h
        injection h with h
        injection h with _ h _
        exact absurd h (by decide))
    clear d0 d1 d2
    go_loopw [13] (fun i wr => ∃ (k : Nat) (Gs : List SgT), k ≤ n ∧ i = .int .i64 (k : Int) ∧ Hid (Gs.length = k) ∧ Hid (sgx Gs = (sgx L).take k) ∧ Hid (Sl wr base (.slice (some ⟨g, 0, none⟩) n c) (Gs ++ L.drop k)) ∧ Hid (∀ l', (∀ x ∈ l', x < w.heap.size) → SgX wr ([g, w.heap.size + 1] ++ l') Gs) ∧ Hid (SgX wr [g] L) ∧ Hid (Chg [g] w wr) ∧ Hid (Own wr w.heap.size 25 [.int .u64 (ep : Int), .slice (some ⟨g, 0, none⟩) n c, .int .i64 q]) ∧ Hid (Own wr (w.heap.size + 1) 25 [.int .u64 0, .slice none 0 0, .int .i64 0])) (fun i _ => n - (intOf i).toNat)
    case atStart => exact ⟨0, [], Nat.zero_le _, rfl, Lib.hid rfl, Lib.hid (by simp [sgx]), Lib.hid (by simpa using HSl1.out), Lib.hid (by intro l' hl' s hs; simp at hs), HX1, HC1, HA1, HA2⟩
    case round =>
      obtain ⟨k, Gs, hk, rfl, HK, HX, HLk, HGk, HXk, HCk, HB1k, HB2k⟩ := hrel
      by_cases hlt : k < n
      · have hkL : k < L.length := by rw [HN.out]; exact hlt
        have hk0 : (0 : Int) ≤ (k : Int) := by omega
        have hk1 : (k : Int) < (n : Int) := by omega
        have hlen : (Gs ++ L.drop k).length = n := by rw [List.length_append, List.length_drop, HK.out, HN.out]; omega
        have hstk : st (Gs ++ L.drop k) k = st L k := by
          simp [st, List.getD, List.getElem?_append_right, HK.out]
        obtain ⟨e1, e2⟩ := HLk.out.cells k (by rw [hlen]; exact hlt)
        rw [hstk] at e1 e2
        have HXL := Lib.hid (HXk.out _ (st_mem hkL))
        have HCKk := Lib.hid (HCK.out k hlt)
        have HSTK := Lib.hid hstk
        have HLEN := Lib.hid hlen
        have HSX : Hid ((sgx L).take (k + 1) = (sgx L).take k ++ [(st L k).x]) := Lib.hid (by
          rw [List.take_succ_eq_append_getElem (by simpa using hkL)]
          congr 2
          rw [← sx_sgx]
          simp [sx, List.getD, hkL])
        have HSETL : Hid (∀ s, (Gs ++ L.drop k).set k s = (Gs ++ [s]) ++ L.drop (k + 1)) := Lib.hid (fun s => by
          have hdk : L.drop k = st L k :: L.drop (k + 1) := by
            rw [List.drop_eq_getElem_cons hkL]
            congr 1
            simp [st, List.getD, hkL]
          rw [hdk, List.set_append, if_neg (by simp [HK.out])]
          simp [HK.out])
        clear hlen hstk
        generalize st L k = sg at *
        obtain ⟨f, ca, cc, M⟩ := sg
        simp only at e1 e2 HXL HCKk
        have d1 := HB1k.out.cell 1
        simp at d1
        have HM := Lib.hid (fun (W : World) (h : Chg [g] wr W) => copyOf_any M ca cc W.heap.size W ((HXL.out.1.chg h).ro) (fun T hT => (((HXL.out.2 T hT).chg h).ro)) (Nat.le_refl _) HCKk.out.1 HCKk.out.2.1 HCKk.out.2.2)
        generalize hm : M.length = m at *
        have HMM := Lib.hid hm
        clear hm
        have hsz := HCk.out.size
        have hz1 : w.heap.size < wr.heap.size := HB1k.out.lt
        obtain ⟨W3, hW3⟩ : ∃ W3, wr.alloc (.cells #[.int .u64 (f : Int), .slice ca m cc] 49) = W3 := ⟨_, rfl⟩
        have hC3 : Chg [g] wr W3.drew := by rw [← hW3]; exact ((Chg.refl [g] wr).alloc _).drew
        have hC30 : Chg [] wr W3.drew := by rw [← hW3]; exact ((Chg.refl [] wr).alloc _).drew
        have HSL3 : Hid (Sl W3.drew base (.slice (some ⟨g, 0, none⟩) n c) (Gs ++ L.drop k)) := Lib.hid (HLk.out.below hC30.low)
        have HM2 := Lib.hid (HM.out _ hC3)
        have o3 : Own W3.drew wr.heap.size 49 [.int .u64 (f : Int), .slice ca m cc] := by rw [← hW3]; exact Own.new wr _ _
        have HSS : Hid (Chg [g] wr W3.drew ∧ W3.drew.cell? ⟨w.heap.size, 1, none⟩ = some (.slice (some ⟨g, 0, none⟩) n c) ∧ W3.drew.cell? ⟨wr.heap.size, 1, none⟩ = some (.slice ca m cc)) := Lib.hid ⟨hC3, hC30.cell d1 (by simp), by simpa using o3.cell 1⟩
        have hg3 : g < wr.heap.size := by
          obtain ⟨_, cur, h⟩ := HLk.out.row g (by simp [rowOf, Value.ownBlock])
          exact (Array.getElem?_eq_some_iff.1 h).1
        have HG3 := Lib.hid hg3
        have HW3 := Lib.hid hW3
        have HC30 := Lib.hid hC30
        clear hW3 hC3 hC30 o3 hsz hg3 HM
        go_wp2_with fail
        rw [HW3.out]
        clear HW3 d1 e1 e2
        refine wp_region_held_drew (S := (fun W => Chg [g] wr W ∧ W.cell? ⟨w.heap.size, 1, none⟩ = some (.slice (some ⟨g, 0, none⟩) n c) ∧ W.cell? ⟨wr.heap.size, 1, none⟩ = some (.slice ca m cc))) (by kernel_rfl) HSS.out (fun hHeld => ?_)
        refine wpAnyH_take (i := 0) (v := ?_) rfl (by kernel_rfl) (by kernel_rfl) (by kernel_rfl) (fun _ _ _ h => h) (Or.inl ⟨by kernel_rfl, ?_⟩) hHeld ?_
        rotate_left
        · (intro w hSw; first | (go_simp; done) | (go_simp; with_reducible rfl))
        (try simp only [Act.put, List.getElem_toArray, List.getElem_cons_succ, List.getElem_cons_zero, List.setIfInBounds_toArray, List.set_cons_zero, List.set_cons_succ])
        refine wpAnyH_take (i := 1) (v := ?_) rfl (by kernel_rfl) (by kernel_rfl) (by kernel_rfl) (fun _ _ _ h => h) (Or.inl ⟨by kernel_rfl, ?_⟩) hHeld ?_
        rotate_left
        · (intro w hSw; first | (go_simp; done) | (go_simp; with_reducible rfl))
        (try simp only [Act.put, List.getElem_toArray, List.getElem_cons_succ, List.getElem_cons_zero, List.setIfInBounds_toArray, List.set_cons_zero, List.set_cons_succ])
        refine wpAnyH_take (i := 2) (v := ?_) rfl (by kernel_rfl) (by kernel_rfl) (by kernel_rfl) (fun _ _ _ h => h) (Or.inl ⟨by kernel_rfl, ?_⟩) hHeld ?_
        rotate_left
        · (intro w hSw; first | (go_simp; done) | (go_simp; with_reducible rfl))
        (try simp only [Act.put, List.getElem_toArray, List.getElem_cons_succ, List.getElem_cons_zero, List.setIfInBounds_toArray, List.set_cons_zero, List.set_cons_succ])
        refine wpAnyH_take (i := 3) (v := ?_) rfl (by kernel_rfl) (by kernel_rfl) (by kernel_rfl) (fun _ _ _ h => h) (Or.inl ⟨by kernel_rfl, ?_⟩) hHeld ?_
        rotate_left
        · (intro w hSw; first | (go_simp; done) | (go_simp; with_reducible rfl))
        (try simp only [Act.put, List.getElem_toArray, List.getElem_cons_succ, List.getElem_cons_zero, List.setIfInBounds_toArray, List.set_cons_zero, List.set_cons_succ])
        refine wpAnyH_take (i := 4) (v := ?_) rfl (by kernel_rfl) (by kernel_rfl) (by kernel_rfl) (fun _ _ _ h => h) (Or.inl ⟨by kernel_rfl, ?_⟩) hHeld ?_
        rotate_left
        · (intro w hSw; first | (go_simp; done) | (go_simp; with_reducible rfl))
        (try simp only [Act.put, List.getElem_toArray, List.getElem_cons_succ, List.getElem_cons_zero, List.setIfInBounds_toArray, List.set_cons_zero, List.set_cons_succ])
        refine wpAnyH_ready (rs := [5]) (by kernel_rfl) (by simp) (AllReadyH.cons rfl (fun K hK => ?_) AllReadyH.nil)
        have hH := hHeld
        (go_simp; go_at_call 65; refine HM2.out.mono ?_; rintro e w6 ⟨g6, c6, Ts, rfl, hx6, hl6, ht6, hb6⟩)
        refine hK.out _ _ (by exact ⟨hH.1.of_below hb6, cell_keep hb6 hH.2.1 (World.block_lt_of_cell? _ _ hH.2.1), cell_keep hb6 hH.2.2 (World.block_lt_of_cell? _ _ hH.2.2)⟩) (fun hHq1 => ?_)
        clear hK K hH 
        have HS6 := Lib.hid (HSL3.out.below hb6); have q2 := (HS6.out.cells k (by rw [HLEN.out]; exact hlt)).2; have f2 := HS6.out.frozen (k * 2 + 1); have hz6 : g < w6.heap.size := World.block_lt_of_cell? _ _ q2; have HX6 := Lib.hid (And.intro hx6 (And.intro hl6 (And.intro ht6 hb6))); rw [HSTK.out] at q2; simp only at q2; clear hx6 hl6 ht6 hb6
        (try simp only [Act.put, List.getElem_toArray, List.getElem_cons_succ, List.getElem_cons_zero, List.setIfInBounds_toArray, List.set_cons_zero, List.set_cons_succ])
        refine wpAnyH_take (i := 6) (v := ?_) rfl (by kernel_rfl) (by kernel_rfl) (by kernel_rfl) (fun _ _ _ h => h) (Or.inl ⟨by kernel_rfl, ?_⟩) hHq1 ?_
        rotate_left
        · (intro w hSw; first | (go_simp; done) | (go_simp; with_reducible rfl))
        (try simp only [Act.put, List.getElem_toArray, List.getElem_cons_succ, List.getElem_cons_zero, List.setIfInBounds_toArray, List.set_cons_zero, List.set_cons_succ])
        refine wpAnyH_take (i := 7) (v := ?_) rfl (by kernel_rfl) (by kernel_rfl) (by kernel_rfl) (fun _ _ _ h => h) (Or.inl ⟨by kernel_rfl, ?_⟩) hHq1 ?_
        rotate_left
        · (intro w hSw; first | (go_simp; done) | (go_simp; with_reducible rfl))
        (try simp only [Act.put, List.getElem_toArray, List.getElem_cons_succ, List.getElem_cons_zero, List.setIfInBounds_toArray, List.set_cons_zero, List.set_cons_succ])
        refine wpAnyH_ready (rs := [8]) (by kernel_rfl) (by simp) (AllReadyH.cons rfl (fun K hK => ?_) AllReadyH.nil)
        have hH := hHq1
        (go_simp; skip)
        refine hK.out _ _ (by exact ⟨hH.1.setCell (by simp) _, (Chg.cell (l := [g]) ((Chg.refl [g] _).setCell (by simp) _) hH.2.1 (by simpa using HGB.out.1.symm)), (Chg.cell (l := [g]) ((Chg.refl [g] _).setCell (by simp) _) hH.2.2 (by simp; have := HG3.out; omega))⟩) (fun hHq2 => ?_)
        clear hK K hH hHq1
        (try simp only [Act.put, List.getElem_toArray, List.getElem_cons_succ, List.getElem_cons_zero, List.setIfInBounds_toArray, List.set_cons_zero, List.set_cons_succ])
        refine wpAnyH_done (by kernel_rfl) ?_ _
        have hEnd := hHq2
        have HE := Lib.hid hEnd.1
        clear hHeld hEnd q2 f2
        go_wp2_with fail
        go_roundw
        case rel =>
          obtain ⟨hx6, hl6, ht6, hb6⟩ := HX6.out
          have hTl : Ts.length = m := by
            have := congrArg List.length hx6
            simpa [HMM.out] using this
          have hc0 : Chg [] wr w6 := HC30.out.of_below hb6
          have hnot : ∀ t, t ≠ 49 → t ≠ 25 → ∀ x ∈ [g, w.heap.size + 1], ∀ cur, w6.heap[x]? ≠ some (.cells cur t (0, 0)) := by
            intro t ht ht2 x hx cur he
            simp only [List.mem_cons, List.not_mem_nil, or_false] at hx
            rcases hx with rfl | rfl
            · obtain ⟨_, cur', h2⟩ := HS6.out.row x (by simp [rowOf, Value.ownBlock])
              rw [he] at h2
              injection h2 with h2
              injection h2 with _ h2 _
              exact ht h2
            · have h2 := HB2k.out.chg hc0 (by simp)
              unfold Own at h2
              rw [he] at h2
              injection h2 with h2
              injection h2 with _ h2 _
              exact ht2 h2
          have hset := HS6.out.setCh k (by rw [HLEN.out]; exact hlt) ⟨f, some ⟨g6, 0, none⟩, c6, Ts⟩ (by rw [HSTK.out])
          simp only [hTl] at hset
          have hc7 : Chg [g] w6 (w6.setCell ⟨g, k * 2 + 1, none⟩ (.slice (some ⟨g6, 0, none⟩) m c6)) := (Chg.refl [g] w6).setCell (by simp) _
          refine ⟨k + 1, Gs ++ [⟨f, some ⟨g6, 0, none⟩, c6, Ts⟩], by omega, by go_num, Lib.hid (by rw [List.length_append, HK.out]; rfl), Lib.hid ?_, Lib.hid ?_, Lib.hid ?_, Lib.hid (HXk.out.chg HE.out), Lib.hid (HCk.out.trans HE.out), Lib.hid ?_, Lib.hid ?_⟩
          · rw [HSX.out, ← HX.out]
            simp [sgx, SgT.x, hx6]
          · rw [← HSETL.out]
            exact hset
          · intro l' hl' s hs
            have hmono : ∀ x ∈ [g], x ∈ [g, w.heap.size + 1] ++ l' ∨ wr.heap.size ≤ x := fun x hx => .inl (by simp only [List.mem_singleton] at hx; simp [hx])
            have hmono6 : ∀ x ∈ [g], x ∈ [g, w.heap.size + 1] ++ l' ∨ w6.heap.size ≤ x := fun x hx => .inl (by simp only [List.mem_singleton] at hx; simp [hx])
            have hnot2 : ∀ t, t ≠ 49 → t ≠ 25 → ∀ x ∈ [g, w.heap.size + 1] ++ l', x < W3.drew.heap.size ∨ ∀ cur, w6.heap[x]? ≠ some (.cells cur t (0, 0)) := by
              intro t ht ht2 x hx
              rcases List.mem_append.1 hx with hx | hx
              · exact .inr (hnot t ht ht2 x hx)
              · have := hl' x hx
                have := HCk.out.size
                have := HC30.out.size
                exact .inl (by omega)
            rcases List.mem_append.1 hs with hs | hs
            · exact ⟨(HGk.out l' hl' s hs).1.chg (HE.out.mono hmono), fun c hcm => ((HGk.out l' hl' s hs).2 c hcm).chg (HE.out.mono hmono)⟩
            · simp only [List.mem_singleton] at hs
              subst hs
              exact ⟨(hl6.apart2 (hnot2 _ (by decide) (by decide))).chg (hc7.mono hmono6), fun T hT => ((show Lst w6 _ 3 (.slice T.a T.u.length T.c) (i64s T.u) from ht6 T hT).apart2 (hnot2 _ (by decide) (by decide))).chg (hc7.mono hmono6)⟩
          · exact (HB1k.out.chg hc0 (by simp)).chg hc7 (by simpa using HGB.out.1.symm)
          · exact (HB2k.out.chg hc0 (by simp)).chg hc7 (by simpa using HGB.out.2.symm)
        case measure => simp [intOf]; omega
      · obtain rfl : k = n := by omega
        have hLk := HLk.out
        rw [List.drop_of_length_le (by rw [HN.out]; exact Nat.le_refl _), List.append_nil] at hLk
        have HLk2 := Lib.hid hLk
        have HX2 : Hid (sgx Gs = sgx L) := Lib.hid (by rw [HX.out, List.take_of_length_le (by rw [sgx_length, HN.out]; exact Nat.le_refl _)])
        clear hLk
        have d0 := HB1k.out.cell 0
        have d1 := HB1k.out.cell 1
        have d2 := HB1k.out.cell 2
        have e0 := HB2k.out.cell 0
        have e1 := HB2k.out.cell 1
        have e2 := HB2k.out.cell 2
        have f0 := HB2k.out.frozen 0
        have f1 := HB2k.out.frozen 1
        have f2 := HB2k.out.frozen 2
        have hz1 := HB2k.out.lt
        simp at d0 d1 d2 e0 e1 e2
        go_wp2_with fail
        refine bodyPost_ret (v := .tuple #[.agg #[.int .u64 (ep : Int), .slice (some ⟨g, 0, none⟩) k c, .int .i64 q], .int .i64 0]) (by simp [results, Try.results44, go_sem, d0, d1, d2, e0, e1, e2, hz1]) rfl ?_
        have hcE : Chg [w.heap.size + 1] wr (((wr.setCell ⟨w.heap.size + 1, 0, none⟩ (.int .u64 (ep : Int))).setCell ⟨w.heap.size + 1, 1, none⟩ (.slice (some ⟨g, 0, none⟩) k c)).setCell ⟨w.heap.size + 1, 2, none⟩ (.int .i64 q)) := (((Chg.refl _ wr).setCell (by simp) _).setCell (by simp) _).setCell (by simp) _
        have hcF : Chg [g] w (((wr.setCell ⟨w.heap.size + 1, 0, none⟩ (.int .u64 (ep : Int))).setCell ⟨w.heap.size + 1, 1, none⟩ (.slice (some ⟨g, 0, none⟩) k c)).setCell ⟨w.heap.size + 1, 2, none⟩ (.int .i64 q)) := ((HCk.out.setCell (.inr (Nat.le_succ _)) _).setCell (.inr (Nat.le_succ _)) _).setCell (.inr (Nat.le_succ _)) _
        generalize (((wr.setCell ⟨w.heap.size + 1, 0, none⟩ (.int .u64 (ep : Int))).setCell ⟨w.heap.size + 1, 1, none⟩ (.slice (some ⟨g, 0, none⟩) k c)).setCell ⟨w.heap.size + 1, 2, none⟩ (.int .i64 q)) = wF at *
        have hnS : ∀ x ∈ [w.heap.size + 1], ∀ cur, wr.heap[x]? ≠ some (.cells cur 49 (0, 0)) := by
          intro x hx cur he
          simp only [List.mem_singleton] at hx
          subst hx
          have h2 := HB2k.out
          unfold Own at h2
          rw [he] at h2
          injection h2 with h2
          injection h2 with _ h2 _
          exact absurd h2 (by decide)
        have hSF := HLk2.out.chg hcE hnS
        have hGl : Gs.length = k := HK.out
        refine .inl ⟨HRR.out, ⟨ep, some ⟨g, 0, none⟩, c, Gs, q⟩, ?_, ?_, fun l' hl' => ⟨?_, ?_⟩, hcF⟩
        · simp only [LyT.val, hGl]
        · show (⟨ep, sgx Gs, q⟩ : Ly) = _
          rw [HX2.out]
          rfl
        · refine hSF.apart (fun x hx => ?_)
          have := (hl' x hx).2
          simpa using this
        · have := HGk.out l' (fun x hx => (hl' x hx).1)
          have h2 : SgX wF ([g, w.heap.size + 1] ++ l') Gs := this.chg (hcE.mono (by intro x hx; left; simp only [List.mem_singleton] at hx; simp [hx]))
          exact h2.less (fun x hx => by simp [hx])
end Go.Proofs.Ytkdgoopldaoihaa
namespace Go.Proofs.Ytkdgoopldaoihaa
open Go.RowKit Go.Deep Go.Shelf
set_option linter.unusedVariables false
set_option linter.unusedSimpArgs false

/-- no layout, by value -/
abbrev zeroL : Value := .agg #[.int .u64 0, .slice none 0 0, .int .i64 0]
/-- what a call leaves that answers a layout, or an error -/
def R4 (w : World) (r : Int × Ly) (e : Ending) (w' : World) : Prop :=
  Below w.heap.size w w' ∧ ((r.1 = 0 ∧ lright r.2 = true ∧ ∃ T : LyT, e = .returned (.tuple #[T.val, .int .i64 0]) ∧ T.x = r.2 ∧ LyIn w' w'.heap.size T) ∨ (r.1 ≠ 0 ∧ e = .returned (.tuple #[zeroL, .int .i64 r.1])))
/-- the layout that Extend makes, before it is looked at -/
def extRaw (x : Ly) (f : Nat) (ch : List (List Int)) : Ly := ⟨x.e + 1, (x.s.filter fun s => decide (s.1 < f)) ++ [(f, ch)], x.q⟩
def extOf (x : Ly) (f : Nat) (ch : List (List Int)) : Int × Ly := if lright x = true then (if lright (extRaw x f ch) = true then (0, extRaw x f ch) else (91, ⟨0, [], 0⟩)) else (91, ⟨0, [], 0⟩)
/-- a call that answers what checked answers, its result in a block of its own -/
theorem R3.store {w0 w w' : World} {base R : Nat} {v : Value} {A : LyT} {cs : List Value} {n c : Nat} {a : Option Addr} (hv : v = .slice a n c) (h1 : Own w R 25 cs) (hs : Sl w base v A.sg) (hR : w0.heap.size ≤ R) (hb : base ≥ w0.heap.size) (hw : Below w0.heap.size w0 w) (T : LyT) (hT : ∀ l', (∀ x ∈ l', x < w.heap.size ∧ x ∉ rowOf v) → RoX w' l' T.a (sgv T.sg) ∧ SgX w' l' T.sg) (hc : Chg (rowOf v) w w') :
    Own w' R 25 cs ∧ Below w0.heap.size w0 w' ∧ RoX w' [R] T.a (sgv T.sg) ∧ SgX w' [R] T.sg := by
  have hn := h1.out_row hs (by decide)
  have := hT [R] (fun x hx => by simp only [List.mem_singleton] at hx; subst hx; exact ⟨h1.lt, hn⟩)
  refine ⟨h1.chg hc hn, hw.trans (hc.below hw.size (fun x hx => Nat.le_trans hb (hs.row x hx).1)), this.1, this.2⟩
theorem lyIn_of {w : World} {l : List Nat} {T : LyT} (h1 : RoX w l T.a (sgv T.sg)) (h2 : SgX w l T.sg) : LyIn w w.heap.size T := ⟨h1.ro, h2.inn⟩
def keepF (f : Nat) (L : List SgT) : List SgT := L.filter fun s => decide (s.f < f)
theorem keepF_x (f : Nat) (L : List SgT) : sgx (keepF f L) = (sgx L).filter fun s => decide (s.1 < f) := by
  unfold sgx keepF
  rw [List.filter_map]
  rfl
theorem keepF_take {f : Nat} {L : List SgT} {k : Nat} (h : k < L.length) : keepF f (L.take (k + 1)) = keepF f (L.take k) ++ (if (st L k).f < f then [st L k] else []) := by
  have e : L.take (k + 1) = L.take k ++ [st L k] := by
    rw [List.take_succ_eq_append_getElem h]
    simp [st, List.getD, h]
  rw [e]
  unfold keepF
  rw [List.filter_append]
  by_cases hf : (st L k).f < f <;> simp [hf]
theorem keepF_len (f : Nat) (L : List SgT) : (keepF f L).length ≤ L.length := List.length_filter_le _ _
set_option maxHeartbeats 4000000 in
set_option maxRecDepth 10000 in
theorem extend_any (A : LyT) (B : Nat) (f : Nat) (M : List ChT) (a2 : Option Addr) (c2 : Nat) (w : World) (h : LyIn w B A) (hB : B ≤ w.heap.size) (hf : SgFit A.sg) (hm : Ro w B a2 (chv M)) (hmi : ChIn w B M) (hmf : ChFit M) (hfb : f ≤ 18446744073709551615) :
    Calls Try.prog 24 #[A.val, .int .u64 (f : Int), .slice a2 M.length c2] w (R4 w (extOf A.x f (chx M))) := by
  obtain ⟨W, HWW⟩ : ∃ W, Hid ((w.alloc (.cells #[.int .u64 (A.e : Int), .slice A.a A.sg.length A.c, .int .i64 A.q] 25)).alloc (.cells #[.int .u64 0, .slice none 0 0, .int .i64 0] 25) = W) := ⟨_, Lib.hid rfl⟩
  have hWc : Chg [] w W := by rw [← HWW.out]; exact ((Chg.refl [] w).alloc _).alloc _
  have hWb : Below w.heap.size w W := hWc.low
  have hws : W.heap.size = w.heap.size + 2 := by rw [← HWW.out]; simp
  have hR := lright_any A B W (h.below hWb hB) (by omega) hf
  have o1 : Own W w.heap.size 25 [.int .u64 (A.e : Int), .slice A.a A.sg.length A.c, .int .i64 A.q] := by rw [← HWW.out]; exact (Own.new w _ _).alloc _
  have o2 : Own W (w.heap.size + 1) 25 [.int .u64 0, .slice none 0 0, .int .i64 0] := by
    rw [← HWW.out]
    have := Own.new (w.alloc (.cells #[.int .u64 (A.e : Int), .slice A.a A.sg.length A.c, .int .i64 A.q] 25)) 25 [.int .u64 0, .slice none 0 0, .int .i64 0]
    simpa using this
  have HR := Lib.hid hR
  have HIN := Lib.hid h
  have HFIT := Lib.hid hf
  have HM := Lib.hid (And.intro hm (And.intro hmi hmf))
  have HWB := Lib.hid hWb
  have HO1 := Lib.hid o1
  have HO2 := Lib.hid o2
  have HZ := Lib.hid hws
  have HS := Lib.hid hB
  have HFB := Lib.hid hfb
  have c0 := o1.cell 0
  have c1 := o1.cell 1
  have c2' := o1.cell 2
  have hz := o1.lt
  simp at c0 c1 c2'
  obtain ⟨r, HRR⟩ : ∃ r, Hid (extOf A.x f (chx M) = r) := ⟨_, Lib.hid rfl⟩
  rw [HRR.out]
  clear h hf hm hmi hmf hWc hWb hws hR o1 o2 hB hfb
  generalize hMn : M.length = mn at *
  have HMN := Lib.hid hMn
  clear hMn
  cases hr : lright A.x with
  | false =>
    rw [hr] at HR
    have HRE := Lib.hid (HRR.out.symm.trans (if_neg (by rw [hr]; simp)))
    clear hr
    obtain ⟨ep, a, c, L, q⟩ := A
    simp only [LyT.val] at *
    generalize L.length = n at *
    go_enter Try.func24, Try.ntmps24
    go_upto_region 1 with fail
    rw [HWW.out]
    go_wp2_with fail
    refine HR.out.mono ?_
    rintro e w1 ⟨rfl, hb⟩
    have HB := Lib.hid (HWB.out.trans (hb.mono HWB.out.size))
    have oR := HO2.out.below hb HO2.out.lt
    have d0 := oR.cell 0
    have d1 := oR.cell 1
    have d2 := oR.cell 2
    have f0 := oR.frozen 0
    have f1 := oR.frozen 1
    have f2 := oR.frozen 2
    have hz1 := oR.lt
    simp at d0 d1 d2
    clear hb oR
    go_wp2_with fail
    refine bodyPost_ret (v := .tuple #[zeroL, .int .i64 91]) (by simp [results, Try.results24, go_sem, d0, d1, d2, hz1]) rfl ?_
    rw [HRE.out]
    exact ⟨((HB.out.setCell (Nat.le_succ _) _).setCell (Nat.le_succ _) _).setCell (Nat.le_succ _) _, .inr ⟨by simp, rfl⟩⟩
  | true =>
    rw [hr] at HR
    have HRE := Lib.hid (HRR.out.symm.trans (if_pos hr))
    have hn4 := (sgOk_iff.1 (lright_iff.1 hr).2.2).1
    have hx : A.x.s = sgx A.sg := rfl
    have he4 := (lright_iff.1 hr).1
    have hxe : A.x.e = A.e := rfl
    rw [hx, sgx_length] at hn4
    rw [hxe] at he4
    have hn5 : (A.sg.length : Int) ≤ 4 := by omega
    have HEP : Hid (A.e ≤ 1048576) := Lib.hid he4.2
    have HN4 : Hid (A.sg.length ≤ 4) := Lib.hid hn4.2
    obtain ⟨e1, he1⟩ : ∃ e1, A.e + 1 = e1 := ⟨_, rfl⟩
    have ew : IntKind.u64.wrap (e1 : Int) = (e1 : Int) := wrap_u64_nat _ (by omega)
    have HE1 := Lib.hid he1
    have ew2 : (A.e : Int) + 1 = (e1 : Int) := by omega
    clear hr hx hn4 he4 hxe he1
    obtain ⟨ep, a, c, L, q⟩ := A
    simp only [LyT.val] at *
    generalize hN : L.length = n at *
    have HN := Lib.hid hN
    clear hN
    go_enter Try.func24, Try.ntmps24
    go_upto_region 1 with fail
    rw [HWW.out]
    go_wp2_with fail
    refine HR.out.mono ?_
    rintro e w1 ⟨rfl, hb⟩
    have HB1 := Lib.hid (HWB.out.trans (hb.mono HWB.out.size))
    have HA1 := Lib.hid (HO1.out.below hb HO1.out.lt)
    have HA2 := Lib.hid (HO2.out.below hb HO2.out.lt)
    have d0 := HA1.out.cell 0
    have d1 := HA1.out.cell 1
    have d2 := HA1.out.cell 2
    have hz1 := HA1.out.lt
    simp at d0 d1 d2
    clear hb c0 c1 c2'
    go_wp2_with fail
    obtain ⟨nb, hnb⟩ : ∃ nb, w1.heap.size = nb := ⟨_, rfl⟩
    obtain ⟨W2, hW2⟩ : ∃ W2, w1.alloc (.cells #[.int .u64 (e1 : Int), .slice none 0 0, .int .i64 q] 25) = W2 := ⟨_, rfl⟩
    have HNB : Hid (w.heap.size + 1 < nb) := Lib.hid (by rw [← hnb]; exact HA2.out.lt)
    have HB2 : Hid (Below w.heap.size w W2) := Lib.hid (by rw [← hW2]; exact HB1.out.alloc HB1.out.size _)
    have HK1 : Hid (Own W2 w.heap.size 25 [.int .u64 (ep : Int), .slice a n c, .int .i64 q]) := Lib.hid (by rw [← hW2]; exact HA1.out.alloc _)
    have HK2 : Hid (Own W2 (w.heap.size + 1) 25 [.int .u64 0, .slice none 0 0, .int .i64 0]) := Lib.hid (by rw [← hW2]; exact HA2.out.alloc _)
    have HK3 : Hid (Own W2 nb 25 [.int .u64 (e1 : Int), .slice none 0 0, .int .i64 q]) := Lib.hid (by rw [← hW2, ← hnb]; exact Own.new w1 _ _)
    rw [hW2, hnb]
    clear hW2 hnb d0 d1 d2 hz1 hz ew ew2
    go_loopw [24] (fun i wr => ∃ (k : Nat) (v : Value), k ≤ n ∧ i = .int .i64 (k : Int) ∧ Hid (Sl wr w.heap.size v (keepF f (L.take k))) ∧ Hid (Below w.heap.size w wr) ∧ Hid (Own wr (w.heap.size + 1) 25 [.int .u64 0, .slice none 0 0, .int .i64 0]) ∧ Hid (Own wr nb 25 [.int .u64 (e1 : Int), v, .int .i64 q])) (fun i _ => n - (intOf i).toNat)
    case atStart => exact ⟨0, _, Nat.zero_le _, rfl, Lib.hid (Sl.nil _ _), HB2, HK2, HK3⟩
    case round =>
      obtain ⟨k, v, hk, rfl, HLk, HBk, HRk, HNk⟩ := hrel
      by_cases hlt : k < n
      · have hkL : k < L.length := by rw [HN.out]; exact hlt
        obtain ⟨b, off, rfl, hb, hc⟩ := (HIN.out.1.below HBk.out HS.out).sg (show 0 < L.length by omega)
        obtain ⟨e1', e2'⟩ := hc k hkL
        clear hc
        have hk0 : (0 : Int) ≤ (k : Int) := by omega
        have hk1 : (k : Int) < (n : Int) := by omega
        have HKT : Hid (keepF f (L.take (k + 1)) = keepF f (L.take k) ++ (if (st L k).f < f then [st L k] else [])) := Lib.hid (keepF_take hkL)
        have HKL : Hid ((keepF f (L.take k)).length ≤ 4) := Lib.hid (by have := keepF_len f (L.take k); have := HN4.out; rw [List.length_take] at *; omega)
        generalize st L k = sg at *
        obtain ⟨fk, ca, cc, M5⟩ := sg
        simp only at e1' e2' HKT
        generalize keepF f (L.take k) = Gs at *
        obtain ⟨m5, hm5⟩ : ∃ m5, M5.length = m5 := ⟨_, rfl⟩
        rw [hm5] at e2'
        have HM5 := Lib.hid hm5
        clear hm5
        by_cases hfk : fk < f
        · have hfk' : (fk : Int) < (f : Int) := by omega
          have HK9 := Lib.hid (HKT.out.trans (by rw [if_pos hfk]))
          have q1 := HNk.out.cell 1
          have hzn := HNk.out.lt
          simp at q1
          have HL4 : Hid (Sl ((wr.alloc (.cells #[.int .u64 (fk : Int), .slice ca m5 cc] 49)).alloc (.cells #[.int .u64 (fk : Int), .slice ca m5 cc] 49)) w.heap.size v Gs) := Lib.hid ((HLk.out.alloc _).alloc _)
          have HO4 : Hid (Own ((wr.alloc (.cells #[.int .u64 (fk : Int), .slice ca m5 cc] 49)).alloc (.cells #[.int .u64 (fk : Int), .slice ca m5 cc] 49)) (wr.heap.size + 1) 49 (sgv [⟨fk, ca, cc, M5⟩])) := Lib.hid (by
            have := Own.new (wr.alloc (.cells #[.int .u64 (fk : Int), .slice ca m5 cc] 49)) 49 [.int .u64 (fk : Int), .slice ca m5 cc]
            simp only [sgv, HM5.out]
            simpa using this)
          clear hfk
          go_wp2_with (at_builtin; refine wpList_appSg rfl (.tmp 33) (.tmp 35) rfl w.heap.size v Gs rfl HL4.out (wr.heap.size + 1) ⟨fk, ca, cc, M5⟩ 49 HO4.out (by first | rfl | simp) (by have := HKL.out; omega) (by have := HBk.out.size; simp; omega) ?_)
          intro v' w5 hl5 hg5
          have hc5 := grown_chg hg5
          have hnr := (HNk.out.alloc _ |>.alloc _).out_row HL4.out (by decide)
          have hrr := (HRk.out.alloc _ |>.alloc _).out_row HL4.out (by decide)
          have HN5 := Lib.hid ((HNk.out.alloc _ |>.alloc _).chg hc5 hnr)
          have HR5 := Lib.hid ((HRk.out.alloc _ |>.alloc _).chg hc5 hrr)
          have HB5 : Hid (Below w.heap.size w w5) := Lib.hid (Sl.grown_below ((HBk.out.alloc HBk.out.size _).alloc (by have := HBk.out.size; simp; omega) _) HL4.out hg5 (Nat.le_refl _) (by have := HBk.out.size; simp; omega))
          have q5 := HN5.out.cell 1
          have f5 := HN5.out.frozen 1
          have hz5 := HN5.out.lt
          simp at q5
          obtain ⟨av, cv, hv', _, _⟩ := hl5.out.form
          generalize (Gs ++ [(⟨fk, ca, cc, M5⟩ : SgT)]).length = ln at hv'
          have HV' := Lib.hid hv'
          have HL5 : Hid (Sl w5 w.heap.size (.slice av ln cv) (Gs ++ [⟨fk, ca, cc, M5⟩])) := Lib.hid (by rw [← HV'.out]; exact hl5.out)
          clear hc5 hnr hrr hg5 hl5 q1
          subst hv'
          clear HV'
          go_wp2_with fail
          go_roundw
          case rel =>
            refine ⟨k + 1, _, by omega, by go_num, Lib.hid ?_, Lib.hid (HB5.out.setCell (by have := HNB.out; show w.heap.size ≤ nb; omega) _), Lib.hid (HR5.out.far (by have := HNB.out; show w.heap.size + 1 ≠ nb; omega) _), Lib.hid (HN5.out.set 1 _)⟩
            rw [HK9.out]
            refine HL5.out.chg ((Chg.refl [nb] w5).setCell (by simp) _) (fun x hx cur he => ?_)
            simp only [List.mem_singleton] at hx
            subst hx
            have h2 := HN5.out
            unfold Own at h2
            rw [he] at h2
            injection h2 with h2
            injection h2 with _ h2 _
            exact absurd h2 (by decide)
          case measure => simp [intOf]; omega
        · have hfk' : ¬ (fk : Int) < (f : Int) := by omega
          have HK9 := Lib.hid (HKT.out.trans (by rw [if_neg hfk, List.append_nil]))
          clear hfk
          go_wp2_with fail
          go_roundw
          case rel => exact ⟨k + 1, v, by omega, by go_num, by rw [HK9.out]; exact Lib.hid (HLk.out.alloc _), Lib.hid (HBk.out.alloc HBk.out.size _), Lib.hid (HRk.out.alloc _), Lib.hid (HNk.out.alloc _)⟩
          case measure => simp [intOf]; omega
      · obtain rfl : k = n := by omega
        have hLk := HLk.out
        rw [List.take_of_length_le (by rw [HN.out]; exact Nat.le_refl _)] at hLk
        have HLk2 := Lib.hid hLk
        have HKL : Hid ((keepF f L).length ≤ 4) := Lib.hid (by have := keepF_len f L; have := HN4.out; have := HN.out; omega)
        clear hLk
        have q1 := HNk.out.cell 1
        simp at q1
        have hzn := HNk.out.lt
        have HL4 : Hid (Sl (wr.alloc (.cells #[.int .u64 (f : Int), .slice a2 mn c2] 49)) w.heap.size v (keepF f L)) := Lib.hid (HLk2.out.alloc _)
        have HO4 : Hid (Own (wr.alloc (.cells #[.int .u64 (f : Int), .slice a2 mn c2] 49)) wr.heap.size 49 (sgv [⟨f, a2, c2, M⟩])) := Lib.hid (by
          have := Own.new wr 49 [.int .u64 (f : Int), .slice a2 mn c2]
          simp only [sgv, HMN.out]
          exact this)
        go_wp2_with (at_builtin; refine wpList_appSg rfl (.tmp 40) (.tmp 44) rfl w.heap.size v (keepF f L) rfl HL4.out wr.heap.size ⟨f, a2, c2, M⟩ 49 HO4.out (by first | rfl | simp) (by have := HKL.out; omega) (by have := HBk.out.size; simp; omega) ?_)
        intro v' w5 hl5 hg5
        have hc5 := grown_chg hg5
        have hnr := (HNk.out.alloc _).out_row HL4.out (by decide)
        have hrr := (HRk.out.alloc _).out_row HL4.out (by decide)
        have HN5 := Lib.hid ((HNk.out.alloc _).chg hc5 hnr)
        have HR5 := Lib.hid ((HRk.out.alloc _).chg hc5 hrr)
        have HB5 : Hid (Below w.heap.size w w5) := Lib.hid (Sl.grown_below (HBk.out.alloc HBk.out.size _) HL4.out hg5 (Nat.le_refl _) (by have := HBk.out.size; simp; omega))
        obtain ⟨av, cv, hv', _, _⟩ := hl5.out.form
        subst hv'
        obtain ⟨ln, hln⟩ : ∃ ln, (keepF f L ++ [(⟨f, a2, c2, M⟩ : SgT)]).length = ln := ⟨_, rfl⟩
        rw [hln] at hl5 ⊢
        have HLN := Lib.hid hln
        have hc6 : Chg [nb] w5 (w5.setCell ⟨nb, 1, none⟩ (.slice av ln cv)) := (Chg.refl [nb] w5).setCell (by simp) _
        have HL6 : Hid (Sl (w5.setCell ⟨nb, 1, none⟩ (.slice av ln cv)) w.heap.size (.slice av ln cv) (keepF f L ++ [⟨f, a2, c2, M⟩])) := Lib.hid (hl5.out.chg hc6 (fun x hx cur he => by
            simp only [List.mem_singleton] at hx
            subst hx
            have h2 := HN5.out
            unfold Own at h2
            rw [he] at h2
            injection h2 with h2
            injection h2 with _ h2 _
            exact absurd h2 (by decide)))
        have HB6 : Hid (Below w.heap.size w (w5.setCell ⟨nb, 1, none⟩ (.slice av ln cv))) := Lib.hid (HB5.out.setCell (by have := HNB.out; show w.heap.size ≤ nb; omega) _)
        have HR6 : Hid (Own (w5.setCell ⟨nb, 1, none⟩ (.slice av ln cv)) (w.heap.size + 1) 25 [.int .u64 0, .slice none 0 0, .int .i64 0]) := Lib.hid (HR5.out.far (by have := HNB.out; show w.heap.size + 1 ≠ nb; omega) _)
        have HN6 : Hid (Own (w5.setCell ⟨nb, 1, none⟩ (.slice av ln cv)) nb 25 [.int .u64 (e1 : Int), .slice av ln cv, .int .i64 q]) := Lib.hid (HN5.out.set 1 _)
        have q5 := HN5.out.cell 1
        have q50 := HN5.out.cell 0
        have q52 := HN5.out.cell 2
        have f5 := HN5.out.frozen 1
        have hz5 := HN5.out.lt
        simp at q5 q50 q52
        clear hc5 hnr hrr hg5 hl5 q1 hln hc6
        go_wp2_with fail
        have hfitN : SgFit (keepF f L ++ [(⟨f, a2, c2, M⟩ : SgT)]) := by
          refine ⟨by rw [List.length_append]; have := HKL.out; simp; omega, fun s hs => ?_⟩
          rcases List.mem_append.1 hs with hs | hs
          · exact HFIT.out.2 s (List.mem_filter.1 hs).1
          · simp only [List.mem_singleton] at hs
            subst hs
            exact HM.out.2.2
        have hinN : SgIn (w5.setCell ⟨nb, 1, none⟩ (.slice av ln cv)) B (keepF f L ++ [(⟨f, a2, c2, M⟩ : SgT)]) := by
          intro s hs
          rcases List.mem_append.1 hs with hs | hs
          · have := HIN.out.2 s (List.mem_filter.1 hs).1
            exact ⟨this.1.below HB6.out HS.out, this.2.below HB6.out HS.out⟩
          · simp only [List.mem_singleton] at hs
            subst hs
            exact ⟨HM.out.1.below HB6.out HS.out, HM.out.2.1.below HB6.out HS.out⟩
        have hlen : (keepF f L ++ [(⟨f, a2, c2, M⟩ : SgT)]).length = ln := HLN.out
        have HCK := checked_any ⟨e1, av, cv, keepF f L ++ [⟨f, a2, c2, M⟩], q⟩ w.heap.size _ (by simp only [hlen]; exact HL6.out) (hinN.apart (Nat.le_trans HS.out HB6.out.size) (fun x hx => by simp only [hlen] at hx; exact Nat.le_trans HS.out (HL6.out.row x hx).1)) HB6.out.size hfitN
        simp only [LyT.val, hlen] at HCK
        have HXE : Hid (LyT.x ⟨e1, av, cv, keepF f L ++ [⟨f, a2, c2, M⟩], q⟩ = extRaw (LyT.x ⟨ep, a, c, L, q⟩) f (chx M)) := Lib.hid (by
          unfold extRaw LyT.x
          simp only [Ly.mk.injEq]
          refine ⟨HE1.out.symm, ?_, trivial⟩
          rw [← keepF_x]
          simp [sgx, SgT.x])
        refine HCK.mono ?_
        rintro e w7 (⟨hrt, T, rfl, hTx, hTr, hc7⟩ | ⟨hrf, rfl, hc7⟩)
        · obtain ⟨k1, k2, k3, k4⟩ := R3.store (w0 := w) (A := ⟨e1, av, cv, keepF f L ++ [⟨f, a2, c2, M⟩], q⟩) rfl HR6.out HL6.out (Nat.le_succ _) (Nat.le_refl _) HB6.out T hTr hc7
          rw [HXE.out] at hrt hTx
          have HT := Lib.hid (And.intro hrt (And.intro hTx (And.intro k1 (And.intro k2 (And.intro k3 k4)))))
          have g0 := k1.cell 0
          have g1 := k1.cell 1
          have g2 := k1.cell 2
          have f0 := k1.frozen 0
          have f1 := k1.frozen 1
          have f2 := k1.frozen 2
          have hz7 := k1.lt
          simp at g0 g1 g2
          clear k1 k2 k3 k4 hrt hTx hTr hc7 HCK q5 q50 q52 f5 hz5 hzn hfitN hinN hlen
          have hTv : T.val = .agg #[.int .u64 (T.e : Int), .slice T.a T.sg.length T.c, .int .i64 T.q] := rfl
          rw [hTv]
          generalize hT1 : T.sg.length = tn at *
          have HT1 := Lib.hid hT1
          clear hT1 hTv
          go_wp2_with fail
          refine bodyPost_ret (v := .tuple #[.agg #[.int .u64 (T.e : Int), .slice T.a tn T.c, .int .i64 T.q], .int .i64 0]) (by simp [results, Try.results24, go_sem, g0, g1, g2, hz7]) rfl ?_
          obtain ⟨hrt, hTx, k1, k2, k3, k4⟩ := HT.out
          have hcE : Chg [w.heap.size + 1] w7 (((w7.setCell ⟨w.heap.size + 1, 0, none⟩ (.int .u64 (T.e : Int))).setCell ⟨w.heap.size + 1, 1, none⟩ (.slice T.a tn T.c)).setCell ⟨w.heap.size + 1, 2, none⟩ (.int .i64 T.q)) := (((Chg.refl _ w7).setCell (by simp) _).setCell (by simp) _).setCell (by simp) _
          have hr0 : r = (0, extRaw (LyT.x ⟨ep, a, c, L, q⟩) f (chx M)) := HRE.out.trans (if_pos hrt)
          rw [hr0]
          refine ⟨((k2.setCell (Nat.le_succ _) _).setCell (Nat.le_succ _) _).setCell (Nat.le_succ _) _, .inl ⟨rfl, hrt, T, by rw [LyT.val, HT1.out], hTx, lyIn_of (k3.chg hcE) (k4.chg hcE)⟩⟩
        · have hb7 : Below w.heap.size w w7 := HB6.out.trans (hc7.below HB6.out.size (fun x hx => (HL6.out.row x hx).1))
          have k1 := HR6.out.chg hc7 (HR6.out.out_row HL6.out (by decide))
          rw [HXE.out] at hrf
          have HT := Lib.hid (And.intro hrf hb7)
          have g0 := k1.cell 0
          have g1 := k1.cell 1
          have g2 := k1.cell 2
          have f0 := k1.frozen 0
          have f1 := k1.frozen 1
          have f2 := k1.frozen 2
          have hz7 := k1.lt
          simp at g0 g1 g2
          clear k1 hrf hc7 hb7 HCK q5 q50 q52 f5 hz5 hzn hfitN hinN hlen
          go_wp2_with fail
          refine bodyPost_ret (v := .tuple #[zeroL, .int .i64 91]) (by simp [results, Try.results24, go_sem, g0, g1, g2, hz7]) rfl ?_
          have hr0 : r = (91, ⟨0, [], 0⟩) := HRE.out.trans (if_neg (by rw [HT.out.1]; simp))
          rw [hr0]
          exact ⟨((HT.out.2.setCell (Nat.le_succ _) _).setCell (Nat.le_succ _) _).setCell (Nat.le_succ _) _, .inr ⟨by simp, rfl⟩⟩
end Go.Proofs.Ytkdgoopldaoihaa
