/-
  The document's Extend of a layout, by its contract. Lemmas, no claim of their own.
-/
import Derived.Test.YtkdgoopldaoihaaGb21
import Derived.Test.YtkdgoopldaoihaaGb19
namespace Go.Proofs.Ytkdgoopldaoihaa
open Go.RowKit Go.Deep Go.Shelf
set_option linter.unusedVariables false
set_option linter.unusedSimpArgs false

theorem extOf_no {x : Ly} {f : Nat} {ch : List (List Int)} (h : lright x = false) : extOf x f ch = (91, ⟨0, [], 0⟩) := by
  unfold extOf
  rw [if_neg (by rw [h]; simp)]
theorem extOf_end {x y : Ly} {f : Nat} {ch : List (List Int)} (h : lright x = true) (h2 : extRaw x f ch = y) : extOf x f ch = if lright y then (0, y) else (91, ⟨0, [], 0⟩) := by
  unfold extOf
  rw [if_pos h, h2]
theorem keep_take {L : List SgT} {f i : Nat} (hi : i < L.length) : (sgx (L.take (i + 1))).filter (fun s => decide (s.1 < f)) = (sgx (L.take i)).filter (fun s => decide (s.1 < f)) ++ (if (st L i).f < f then [(st L i).x] else []) := by
  rw [st_take hi]
  simp only [sgx, List.map_append, List.map_cons, List.map_nil, List.filter_append]
  congr 1
  by_cases h : (st L i).f < f
  · simp [h, SgT.x]
  · simp [h, SgT.x]
set_option maxHeartbeats 16000000 in
set_option maxRecDepth 100000 in
theorem dextend_any (A : LyT) (B : Nat) (f : Nat) (M : List ChT) (a2 : Option Addr) (c2_ : Nat) (w : World) (h : LyIn w B A) (hB : B ≤ w.heap.size) (hf : SgFit A.sg) (hm : Ro w B a2 (chv M)) (hmi : ChIn w B M) (hmf : ChFit M) (hfb : f ≤ 18446744073709551615) :
    Calls Try.prog 25 #[A.val, .int .u64 (f : Int), .slice a2 M.length c2_] w (R4 w (extOf A.x f (chx M))) := by
  obtain ⟨W, HWW⟩ : ∃ W, Hid ((w.alloc (.cells #[.int .u64 (A.e : Int), .slice A.a A.sg.length A.c, .int .i64 A.q] 25)).alloc (.cells #[.int .u64 0, .slice none 0 0, .int .i64 0] 25) = W) := ⟨_, Lib.hid rfl⟩
  have hWc : Chg [] w W := by rw [← HWW.out]; exact ((Chg.refl [] w).alloc _).alloc _
  have HR := Lib.hid (dlright_any A B W (h.below (hWc.below hB (by simp)) (Nat.le_refl _)) (Nat.le_trans hB hWc.size) hf)
  have HO : Hid (Own W w.heap.size 25 [.int .u64 (A.e : Int), .slice A.a A.sg.length A.c, .int .i64 A.q]) := Lib.hid (by rw [← HWW.out]; exact (Own.new w _ _).alloc _)
  obtain ⟨R, hR⟩ : ∃ R, w.heap.size + 1 = R := ⟨_, rfl⟩
  have HRE := Lib.hid hR
  have HOR : Hid (Own W R 25 [.int .u64 0, .slice none 0 0, .int .i64 0]) := Lib.hid (by
    rw [← HWW.out, ← hR]
    have := Own.new (w.alloc (.cells #[.int .u64 (A.e : Int), .slice A.a A.sg.length A.c, .int .i64 A.q] 25)) 25 [.int .u64 0, .slice none 0 0, .int .i64 0]
    simpa using this)
  have HC := Lib.hid hWc
  have HIN := Lib.hid (And.intro h (And.intro hm hmi))
  have HFIT := Lib.hid (And.intro hf hmf)
  have HBW := Lib.hid hB
  have HSV : Hid (lright A.x = true → SgV A.sg) := Lib.hid (fun h => SgV.of h)
  have HEP : Hid (lright A.x = true → A.e ≤ 1048576) := Lib.hid (fun h => (lright_iff.1 h).1.2)
  have HXS : Hid (A.x.s = sgx A.sg) := Lib.hid rfl
  have HXE : Hid (A.x.e = A.e) := Lib.hid rfl
  have HXQ : Hid (A.x.q = A.q) := Lib.hid rfl
  obtain ⟨x, hx⟩ : ∃ x, A.x = x := ⟨_, rfl⟩
  rw [hx] at HR HXS HXE HXQ HSV HEP ⊢
  obtain ⟨ep, sa, c, L, q⟩ := A
  simp only [LyT.val] at *
  obtain ⟨n, hn⟩ : ∃ n, L.length = n := ⟨_, rfl⟩
  have HN := Lib.hid hn
  rw [hn] at HO HWW HR ⊢
  obtain ⟨mn, hmn⟩ : ∃ n, M.length = n := ⟨_, rfl⟩
  have HMN := Lib.hid hmn
  rw [hmn]
  obtain ⟨r, hr9⟩ : ∃ r, lright x = r := ⟨_, rfl⟩
  have HRR := Lib.hid hr9
  rw [hr9] at HR HSV HEP
  obtain ⟨res, hres⟩ : ∃ res, extOf x f (chx M) = res := ⟨_, rfl⟩
  have HRES := Lib.hid hres
  rw [hres]
  have c0 := HO.out.cell 0
  have c1' := HO.out.cell 1
  have c2' := HO.out.cell 2
  have hz := HO.out.lt
  simp at c0 c1' c2'
  clear h hB hf hm hmi hmf hWc hx hn hmn hr9 hres hR
  go_enter Try.func25, Try.ntmps25
  go_upto_region 1 with fail
  rw [HWW.out, HRE.out]
  go_wp2_with fail
  refine HR.out.mono ?_
  rintro e w1 ⟨rfl, hb⟩
  have HC1 := Lib.hid (HC.out.trans hb)
  have HO1 := Lib.hid (HO.out.chg hb (by simp))
  have HOR1 := Lib.hid (HOR.out.chg hb (by simp))
  clear hb c0 c1' c2' hz
  have HFAIL : Hid (∀ (fc : Int) (w' : World), fc ≠ 0 → extOf x f (chx M) = (fc, ⟨0, [], 0⟩) → Chg [] w w' → R4 w res (.returned (.tuple #[zeroL, .int .i64 fc])) (((w'.setCell ⟨R, 0, none⟩ (.int .u64 0)).setCell ⟨R, 1, none⟩ (.slice none 0 0)).setCell ⟨R, 2, none⟩ (.int .i64 0))) := Lib.hid (fun fc w' h0 h1 h2 => by
    rw [← HRES.out, h1]
    refine ⟨?_, .inr ⟨h0, rfl⟩⟩
    have hRR : w.heap.size ≤ R := by have := HRE.out; omega
    exact ((h2.low.setCell hRR _).setCell hRR _).setCell hRR _)
  cases r with
  | false =>
    have r0 := HOR1.out.cell 0
    have r1 := HOR1.out.cell 1
    have r2 := HOR1.out.cell 2
    have f0 := HOR1.out.frozen 0
    have f1 := HOR1.out.frozen 1
    have f2 := HOR1.out.frozen 2
    have hz7 := HOR1.out.lt
    simp at r0 r1 r2
    go_wp2_with fail
    refine bodyPost_ret (v := .tuple #[zeroL, .int .i64 91]) (by simp [results, Try.results25, go_sem, r0, r1, r2, hz7]) rfl ?_
    exact HFAIL.out 91 _ (by decide) (extOf_no HRR.out) HC1.out
  | true =>
  have hep := HEP.out (by trivial)
  have HV := Lib.hid (HSV.out (by trivial))
  have HN4 := Lib.hid HV.out.n
  have hn4 : (n : Int) ≤ 4 := by have := HN4.out; rw [HN.out] at this; omega
  obtain ⟨e1, he1⟩ : ∃ e1, ep + 1 = e1 := ⟨_, rfl⟩
  have HE1 := Lib.hid he1
  have HK1 : Hid (IntKind.u64.wrap ((ep : Int) + 1) = (e1 : Int)) := Lib.hid (by have := wrap_u64_nat e1 (by omega); rw [← he1] at this ⊢; simpa using this)
  clear hep he1
  have d0 := HO1.out.cell 0
  have d1 := HO1.out.cell 1
  have d2 := HO1.out.cell 2
  have hz1 := HO1.out.lt
  simp at d0 d1 d2
  have k1 := HK1.out
  go_upto_region 5 with fail
  obtain ⟨p, hp⟩ : ∃ p, w1.heap.size = p := ⟨_, rfl⟩
  obtain ⟨W3, hW3⟩ : ∃ W3, w1.alloc (.cells #[.int .u64 (e1 : Int), .slice none 0 0, .int .i64 q] 25) = W3 := ⟨_, rfl⟩
  have HC3 : Hid (Chg [] w W3) := Lib.hid (by rw [← hW3]; exact HC1.out.alloc _)
  have HO3 : Hid (Own W3 w.heap.size 25 [.int .u64 (ep : Int), .slice sa n c, .int .i64 q]) := Lib.hid (by rw [← hW3]; exact HO1.out.alloc _)
  have HOR3 : Hid (Own W3 R 25 [.int .u64 0, .slice none 0 0, .int .i64 0]) := Lib.hid (by rw [← hW3]; exact HOR1.out.alloc _)
  have HP3 : Hid (Own W3 p 25 [.int .u64 (e1 : Int), .slice none 0 0, .int .i64 q]) := Lib.hid (by rw [← hW3, ← hp]; exact Own.new w1 _ _)
  have HPW : Hid (R < p) := Lib.hid (by rw [← hp]; exact HOR1.out.lt)
  rw [hW3, hp]
  clear hW3 hp d0 d1 d2 hz1 k1
  go_wp2_with fail
  go_loopw [10] (fun i wr => ∃ (k t : Nat) (al : Option Addr) (cl : Nat) (Ts : List SgT), k ≤ n ∧ i = .int .i64 (k : Int) ∧ Hid (Ts.length = t ∧ t ≤ k) ∧ Hid (∀ T ∈ Ts, T ∈ L) ∧ Hid (sgx Ts = (sgx (L.take k)).filter (fun s => decide (s.1 < f))) ∧ Hid (Own wr w.heap.size 25 [.int .u64 (ep : Int), .slice sa n c, .int .i64 q]) ∧ Hid (Own wr R 25 [.int .u64 0, .slice none 0 0, .int .i64 0]) ∧ Hid (Own wr p 25 [.int .u64 (e1 : Int), .slice al t cl, .int .i64 q]) ∧ Hid (Sl wr w.heap.size (.slice al t cl) Ts) ∧ Hid (Chg [] w wr)) (fun i _ => n - (intOf i).toNat)
  case atStart => exact ⟨0, 0, none, 0, [], Nat.zero_le _, rfl, Lib.hid ⟨rfl, Nat.le_refl _⟩, Lib.hid (fun p hp => by cases hp), Lib.hid (by simp [sgx]), HO3, HOR3, HP3, Lib.hid (Sl.nil _ _), HC3⟩
  case round =>
    obtain ⟨k, t, al, cl, Ts, hk, rfl, HTL, HTI, HTX, HOB, HORr, HPr, HSL, HCr⟩ := hrel
    rename World => w6
    have d1 := HOB.out.cell 1
    have hzb := HOB.out.lt
    simp at d1
    by_cases hlt : k < n
    · have hkL : k < L.length := by rw [HN.out]; exact hlt
      have HB6 : Hid (Below w.heap.size w w6) := Lib.hid HCr.out.low
      obtain ⟨b, off, rfl, hb, hc⟩ := (HIN.out.1.1.below HB6.out HBW.out).sg (show 0 < L.length by omega)
      obtain ⟨s1, s2⟩ := hc k hkL
      have hk0 : (0 : Int) ≤ (k : Int) := Int.natCast_nonneg k
      have hk1 : (k : Int) < (n : Int) := Int.ofNat_lt.2 hlt
      have HMEM := Lib.hid (st_mem hkL)
      have HKT := Lib.hid (keep_take (f := f) hkL)
      obtain ⟨sgi, hsgi⟩ : ∃ s, st L k = s := ⟨_, rfl⟩
      rw [hsgi] at s1 s2 HMEM HKT
      obtain ⟨fk, ca, cc, Mk⟩ := sgi
      simp only at s1 s2 HMEM HKT
      obtain ⟨m, hm⟩ : ∃ m, Mk.length = m := ⟨_, rfl⟩
      have HM := Lib.hid hm
      rw [hm] at s2
      have HBL : Hid (b < w.heap.size) := Lib.hid (Nat.lt_of_lt_of_le hb HBW.out)
      clear hc hm hsgi hb
      by_cases hle : fk < f
      · have q1 : decide ((fk : Int) < (f : Int)) = true := decide_eq_true (by omega)
        have q2 : decide (fk < f) = true := decide_eq_true hle
        rw [if_pos hle] at HKT
        clear hle
        go_upto_region 9 with fail
        have c2 : w6.cell? ⟨p, 1, none⟩ = some (.slice al t cl) := by simpa using HPr.out.cell 1
        have HC2 := Lib.hid c2
        have HS12 := Lib.hid (And.intro d1 (And.intro s1 s2))
        have HSS : Hid (Chg [] w w6.drew ∧ w6.drew.cell? ⟨w.heap.size, 1, none⟩ = some (.slice (some ⟨b, off, none⟩) n c) ∧ w6.drew.cell? ⟨b, off + k * 2, none⟩ = some (.int .u64 (fk : Int)) ∧ w6.drew.cell? ⟨b, off + k * 2 + 1, none⟩ = some (.slice ca m cc)) := Lib.hid ⟨HCr.out.drew, d1, s1, s2⟩
        have HNX : Hid (∀ w5, Chg (rowOf (.slice al t cl)) (w6.drew.alloc (.cells #[.int .u64 (fk : Int), .slice ca m cc] 49)) w5 → Own w5 p 25 [.int .u64 (e1 : Int), .slice al t cl, .int .i64 q] ∧ Own w5 R 25 [.int .u64 0, .slice none 0 0, .int .i64 0] ∧ Own w5 w.heap.size 25 [.int .u64 (ep : Int), .slice (some ⟨b, off, none⟩) n c, .int .i64 q] ∧ Chg [] w w5 ∧ w5.cell? ⟨w.heap.size, 1, none⟩ = some (.slice (some ⟨b, off, none⟩) n c) ∧ w5.cell? ⟨b, off + k * 2, none⟩ = some (.int .u64 (fk : Int)) ∧ w5.cell? ⟨b, off + k * 2 + 1, none⟩ = some (.slice ca m cc)) := by
          apply Lib.hid
          intro w5 g4
          have ka : Chg [] w6 (w6.drew.alloc (.cells #[.int .u64 (fk : Int), .slice ca m cc] 49)) := ((Chg.refl [] w6).drew).alloc _
          have g5 : Chg (rowOf (.slice al t cl)) w6 w5 := (ka.nil1 _).trans g4
          have k0 := HPr.out.chg g5 (HPr.out.out_row HSL.out (by decide))
          have k1 := HORr.out.chg g5 (HORr.out.out_row HSL.out (by decide))
          have k2 := HOB.out.chg g5 (HOB.out.out_row HSL.out (by decide))
          have kc : Chg [] w w5 := HCr.out.then g5 (fun x hx => .inr (HSL.out.row x hx).1)
          have hbr : b ∉ rowOf (.slice al t cl) := fun hx => by have := (HSL.out.row b hx).1; have := HBL.out; omega
          exact ⟨k0, k1, k2, kc, by simpa using k2.cell 1, g5.cell HS12.out.2.1 hbr, g5.cell HS12.out.2.2 hbr⟩
        refine wp_region_held_drew (S := (fun V => Chg [] w V ∧ V.cell? ⟨w.heap.size, 1, none⟩ = some (.slice (some ⟨b, off, none⟩) n c) ∧ V.cell? ⟨b, off + k * 2, none⟩ = some (.int .u64 (fk : Int)) ∧ V.cell? ⟨b, off + k * 2 + 1, none⟩ = some (.slice ca m cc))) (by kernel_rfl) HSS.out (fun hHeld => ?_)
        refine wpAnyH_take (i := 0) (v := ?_) rfl (by kernel_rfl) (by kernel_rfl) (by kernel_rfl) (fun _ _ _ h => h) (Or.inl ⟨by kernel_rfl, ?_⟩) hHeld ?_
        rotate_left
        · (intro w hSw; first | (go_simp; done) | (go_simp; with_reducible rfl))
        (try simp only [Act.put, List.getElem_toArray, List.getElem_cons_succ, List.getElem_cons_zero, List.setIfInBounds_toArray, List.set_cons_zero, List.set_cons_succ])
        refine wpAnyH_take (i := 2) (v := ?_) rfl (by kernel_rfl) (by kernel_rfl) (by kernel_rfl) (fun _ _ _ h => h) (Or.inl ⟨by kernel_rfl, ?_⟩) hHeld ?_
        rotate_left
        · (intro w hSw; first | (go_simp; done) | (go_simp; with_reducible rfl))
        (try simp only [Act.put, List.getElem_toArray, List.getElem_cons_succ, List.getElem_cons_zero, List.setIfInBounds_toArray, List.set_cons_zero, List.set_cons_succ])
        refine wpAnyH_take (i := 3) (v := ?_) rfl (by kernel_rfl) (by kernel_rfl) (by kernel_rfl) (fun _ _ _ h => h) (Or.inl ⟨by kernel_rfl, ?_⟩) hHeld ?_
        rotate_left
        · (intro w hSw; first | (go_simp; done) | (go_simp; with_reducible rfl))
        (try simp only [Act.put, List.getElem_toArray, List.getElem_cons_succ, List.getElem_cons_zero, List.setIfInBounds_toArray, List.set_cons_zero, List.set_cons_succ])
        refine wpAnyH_take (i := 4) (v := ?_) rfl (by kernel_rfl) (by kernel_rfl) (by kernel_rfl) (fun _ _ _ h => h) (Or.inl ⟨by kernel_rfl, ?_⟩) hHeld ?_
        rotate_left
        · (intro w hSw; first | (go_simp; done) | (go_simp; with_reducible rfl))
        (try simp only [Act.put, List.getElem_toArray, List.getElem_cons_succ, List.getElem_cons_zero, List.setIfInBounds_toArray, List.set_cons_zero, List.set_cons_succ])
        refine wpAnyH_take (i := 5) (v := ?_) rfl (by kernel_rfl) (by kernel_rfl) (by kernel_rfl) (fun _ _ _ h => h) (Or.inl ⟨by kernel_rfl, ?_⟩) hHeld ?_
        rotate_left
        · (intro w hSw; first | (go_simp; done) | (go_simp; with_reducible rfl))
        (try simp only [Act.put, List.getElem_toArray, List.getElem_cons_succ, List.getElem_cons_zero, List.setIfInBounds_toArray, List.set_cons_zero, List.set_cons_succ])
        refine wpAnyH_take (i := 6) (v := ?_) rfl (by kernel_rfl) (by kernel_rfl) (by kernel_rfl) (fun _ _ _ h => h) (Or.inl ⟨by kernel_rfl, ?_⟩) hHeld ?_
        rotate_left
        · (intro w hSw; first | (go_simp; done) | (go_simp; with_reducible rfl))
        (try simp only [Act.put, List.getElem_toArray, List.getElem_cons_succ, List.getElem_cons_zero, List.setIfInBounds_toArray, List.set_cons_zero, List.set_cons_succ])
        refine wpAnyH_ready (rs := [1,7]) (by kernel_rfl) (by simp) (AllReadyH.cons rfl (fun K hK => ?_) (AllReadyH.cons rfl (fun K hK => ?_) AllReadyH.nil))
        · have hH := hHeld
          (have g1 : World.cell? w6.drew ⟨p, 1, none⟩ = some (.slice al t cl) := HC2.out; go_simp)
          refine hK.out _ _ (by exact hH) (fun hHq1 => ?_)
          clear hK K hH 
          clear g1
          (try simp only [Act.put, List.getElem_toArray, List.getElem_cons_succ, List.getElem_cons_zero, List.setIfInBounds_toArray, List.set_cons_zero, List.set_cons_succ])
          refine wpAnyH_ready (rs := [7]) (by kernel_rfl) (by simp) (AllReadyH.cons rfl (fun K hK => ?_) AllReadyH.nil)
          have hH := hHq1
          (go_simp; skip)
          refine hK.out _ _ (by exact ⟨hH.1.alloc _, cell_keep ((Below.refl _ _).alloc (Nat.le_refl _) _) hH.2.1 (World.block_lt_of_cell? _ _ hH.2.1), cell_keep ((Below.refl _ _).alloc (Nat.le_refl _) _) hH.2.2.1 (World.block_lt_of_cell? _ _ hH.2.2.1), cell_keep ((Below.refl _ _).alloc (Nat.le_refl _) _) hH.2.2.2 (World.block_lt_of_cell? _ _ hH.2.2.2)⟩) (fun hHq2 => ?_)
          clear hK K hH hHq1
          (try simp only [Act.put, List.getElem_toArray, List.getElem_cons_succ, List.getElem_cons_zero, List.setIfInBounds_toArray, List.set_cons_zero, List.set_cons_succ])
          refine wpAnyH_ready (rs := [8]) (by kernel_rfl) (by simp) (AllReadyH.cons rfl (fun K hK => ?_) AllReadyH.nil)
          have hH := hHq2
          (refine step_appSg (by rfl) (.tmp 39) (.tmp 45) (by rfl) w.heap.size (.slice al t cl) Ts (by rfl) ((HSL.out.chg ((Chg.refl [] w6).drew) (by simp)).alloc _) w6.heap.size ⟨fk, ca, cc, Mk⟩ 49 (by simp only [sgv]; rw [HM.out]; exact Own.new w6.drew _ _) (by rfl) (by have := HTL.out; have := HN4.out; have := HN.out; omega) (by have := HCr.out.size; simp; omega) ?_; intro v5 w5 K5 G5)
          refine hK.out _ _ (by exact (HNX.out w5 G5).2.2.2) (fun hHq3 => ?_)
          clear hK K hH hHq2
          have N5 := Lib.hid (HNX.out w5 G5); have g5 := N5.out.1.cell 1; have f5 := N5.out.1.frozen 1; have z5 := N5.out.1.lt; simp at g5; obtain ⟨a5, c5, hv5, _, _⟩ := K5.out.form; rw [List.length_append, HTL.out.1] at hv5; subst hv5; clear G5
          (try simp only [Act.put, List.getElem_toArray, List.getElem_cons_succ, List.getElem_cons_zero, List.setIfInBounds_toArray, List.set_cons_zero, List.set_cons_succ])
          refine wpAnyH_take (i := 9) (v := ?_) rfl (by kernel_rfl) (by kernel_rfl) (by kernel_rfl) (fun _ _ _ h => h) (Or.inl ⟨by kernel_rfl, ?_⟩) hHq3 ?_
          rotate_left
          · (intro w hSw; first | (go_simp; done) | (go_simp; with_reducible rfl))
          (try simp only [Act.put, List.getElem_toArray, List.getElem_cons_succ, List.getElem_cons_zero, List.setIfInBounds_toArray, List.set_cons_zero, List.set_cons_succ])
          refine wpAnyH_ready (rs := [10]) (by kernel_rfl) (by simp) (AllReadyH.cons rfl (fun K hK => ?_) AllReadyH.nil)
          have hH := hHq3
          (go_simp; skip)
          refine hK.out _ _ (by exact ⟨hH.1.setCell (.inr (by have := HPW.out; have := HRE.out; show w.heap.size ≤ p; omega)) _, ((N5.out.2.2.1.far (p := ⟨p, 1, none⟩) (by have := HPW.out; have := HRE.out; show w.heap.size ≠ p; omega) _).cell 1), by have hne : b ≠ p := (by have := HPW.out; have := HRE.out; have := HBL.out; omega); exact (((Chg.refl [p] _).setCell (p := ⟨p, 1, none⟩) (by simp) _).cell hH.2.2.1 (by simpa using hne)), by have hne : b ≠ p := (by have := HPW.out; have := HRE.out; have := HBL.out; omega); exact (((Chg.refl [p] _).setCell (p := ⟨p, 1, none⟩) (by simp) _).cell hH.2.2.2 (by simpa using hne))⟩) (fun hHq4 => ?_)
          clear hK K hH hHq3
          (try simp only [Act.put, List.getElem_toArray, List.getElem_cons_succ, List.getElem_cons_zero, List.setIfInBounds_toArray, List.set_cons_zero, List.set_cons_succ])
          refine wpAnyH_done (by kernel_rfl) ?_ _
          have hEnd := hHq4
          (have hE : Hid (Chg [] w _) := Lib.hid hEnd.1; clear hEnd hHeld g5 f5 z5 c2; go_wp2_with fail; go_roundw; (case rel => exact ⟨k + 1, t + 1, a5, c5, Ts ++ [⟨fk, ca, cc, Mk⟩], hlt, by go_num, Lib.hid (by have := HTL.out; constructor; simp; omega; omega), Lib.hid (fun T hT => by rcases List.mem_append.1 hT with h | h; exact HTI.out T h; simp only [List.mem_singleton] at h; subst h; exact HMEM.out), Lib.hid (by rw [HKT.out, ← HTX.out]; simp [sgx]), Lib.hid (N5.out.2.2.1.far (by have := HPW.out; have := HRE.out; show w.heap.size ≠ p; omega) _), Lib.hid (N5.out.2.1.far (by have := HPW.out; show R ≠ p; omega) _), Lib.hid (by have := N5.out.1.set 1 (.slice a5 (t + 1) c5); simpa using this), Lib.hid (K5.out.chg ((Chg.refl [p] w5).setCell (p := ⟨p, 1, none⟩) (by simp) (.slice a5 (t + 1) c5)) (N5.out.1.notT' (by decide))), hE⟩); (case measure => simp [intOf]; omega))
        · have hH := hHeld
          (go_simp; skip)
          refine hK.out _ _ (by exact ⟨hH.1.alloc _, cell_keep ((Below.refl _ _).alloc (Nat.le_refl _) _) hH.2.1 (World.block_lt_of_cell? _ _ hH.2.1), cell_keep ((Below.refl _ _).alloc (Nat.le_refl _) _) hH.2.2.1 (World.block_lt_of_cell? _ _ hH.2.2.1), cell_keep ((Below.refl _ _).alloc (Nat.le_refl _) _) hH.2.2.2 (World.block_lt_of_cell? _ _ hH.2.2.2)⟩) (fun hHq5 => ?_)
          clear hK K hH 
          (try simp only [Act.put, List.getElem_toArray, List.getElem_cons_succ, List.getElem_cons_zero, List.setIfInBounds_toArray, List.set_cons_zero, List.set_cons_succ])
          refine wpAnyH_ready (rs := [1]) (by kernel_rfl) (by simp) (AllReadyH.cons rfl (fun K hK => ?_) AllReadyH.nil)
          have hH := hHq5
          (have g1 : World.cell? ((w6.alloc (.cells #[.int .u64 (fk : Int), .slice ca m cc] 49)).drew) ⟨p, 1, none⟩ = some (.slice al t cl) := (by have h := ((HPr.out).alloc (.cells #[.int .u64 (fk : Int), .slice ca m cc] 49)).cell 1; simpa using h); go_simp)
          refine hK.out _ _ (by exact hH) (fun hHq6 => ?_)
          clear hK K hH hHq5
          clear g1
          (try simp only [Act.put, List.getElem_toArray, List.getElem_cons_succ, List.getElem_cons_zero, List.setIfInBounds_toArray, List.set_cons_zero, List.set_cons_succ])
          refine wpAnyH_ready (rs := [8]) (by kernel_rfl) (by simp) (AllReadyH.cons rfl (fun K hK => ?_) AllReadyH.nil)
          have hH := hHq6
          (refine step_appSg (by rfl) (.tmp 39) (.tmp 45) (by rfl) w.heap.size (.slice al t cl) Ts (by rfl) ((HSL.out.chg ((Chg.refl [] w6).drew) (by simp)).alloc _) w6.heap.size ⟨fk, ca, cc, Mk⟩ 49 (by simp only [sgv]; rw [HM.out]; exact Own.new w6.drew _ _) (by rfl) (by have := HTL.out; have := HN4.out; have := HN.out; omega) (by have := HCr.out.size; simp; omega) ?_; intro v5 w5 K5 G5)
          refine hK.out _ _ (by exact (HNX.out w5 G5).2.2.2) (fun hHq7 => ?_)
          clear hK K hH hHq6
          have N5 := Lib.hid (HNX.out w5 G5); have g5 := N5.out.1.cell 1; have f5 := N5.out.1.frozen 1; have z5 := N5.out.1.lt; simp at g5; obtain ⟨a5, c5, hv5, _, _⟩ := K5.out.form; rw [List.length_append, HTL.out.1] at hv5; subst hv5; clear G5
          (try simp only [Act.put, List.getElem_toArray, List.getElem_cons_succ, List.getElem_cons_zero, List.setIfInBounds_toArray, List.set_cons_zero, List.set_cons_succ])
          refine wpAnyH_take (i := 9) (v := ?_) rfl (by kernel_rfl) (by kernel_rfl) (by kernel_rfl) (fun _ _ _ h => h) (Or.inl ⟨by kernel_rfl, ?_⟩) hHq7 ?_
          rotate_left
          · (intro w hSw; first | (go_simp; done) | (go_simp; with_reducible rfl))
          (try simp only [Act.put, List.getElem_toArray, List.getElem_cons_succ, List.getElem_cons_zero, List.setIfInBounds_toArray, List.set_cons_zero, List.set_cons_succ])
          refine wpAnyH_ready (rs := [10]) (by kernel_rfl) (by simp) (AllReadyH.cons rfl (fun K hK => ?_) AllReadyH.nil)
          have hH := hHq7
          (go_simp; skip)
          refine hK.out _ _ (by exact ⟨hH.1.setCell (.inr (by have := HPW.out; have := HRE.out; show w.heap.size ≤ p; omega)) _, ((N5.out.2.2.1.far (p := ⟨p, 1, none⟩) (by have := HPW.out; have := HRE.out; show w.heap.size ≠ p; omega) _).cell 1), by have hne : b ≠ p := (by have := HPW.out; have := HRE.out; have := HBL.out; omega); exact (((Chg.refl [p] _).setCell (p := ⟨p, 1, none⟩) (by simp) _).cell hH.2.2.1 (by simpa using hne)), by have hne : b ≠ p := (by have := HPW.out; have := HRE.out; have := HBL.out; omega); exact (((Chg.refl [p] _).setCell (p := ⟨p, 1, none⟩) (by simp) _).cell hH.2.2.2 (by simpa using hne))⟩) (fun hHq8 => ?_)
          clear hK K hH hHq7
          (try simp only [Act.put, List.getElem_toArray, List.getElem_cons_succ, List.getElem_cons_zero, List.setIfInBounds_toArray, List.set_cons_zero, List.set_cons_succ])
          refine wpAnyH_done (by kernel_rfl) ?_ _
          have hEnd := hHq8
          (have hE : Hid (Chg [] w _) := Lib.hid hEnd.1; clear hEnd hHeld g5 f5 z5 c2; go_wp2_with fail; go_roundw; (case rel => exact ⟨k + 1, t + 1, a5, c5, Ts ++ [⟨fk, ca, cc, Mk⟩], hlt, by go_num, Lib.hid (by have := HTL.out; constructor; simp; omega; omega), Lib.hid (fun T hT => by rcases List.mem_append.1 hT with h | h; exact HTI.out T h; simp only [List.mem_singleton] at h; subst h; exact HMEM.out), Lib.hid (by rw [HKT.out, ← HTX.out]; simp [sgx]), Lib.hid (N5.out.2.2.1.far (by have := HPW.out; have := HRE.out; show w.heap.size ≠ p; omega) _), Lib.hid (N5.out.2.1.far (by have := HPW.out; show R ≠ p; omega) _), Lib.hid (by have := N5.out.1.set 1 (.slice a5 (t + 1) c5); simpa using this), Lib.hid (K5.out.chg ((Chg.refl [p] w5).setCell (p := ⟨p, 1, none⟩) (by simp) (.slice a5 (t + 1) c5)) (N5.out.1.notT' (by decide))), hE⟩); (case measure => simp [intOf]; omega))
      · have q1 : decide ((fk : Int) < (f : Int)) = false := decide_eq_false (by omega)
        have q2 : decide (fk < f) = false := decide_eq_false hle
        rw [if_neg hle] at HKT
        clear hle
        go_wp2_with fail
        go_roundw
        case rel => exact ⟨k + 1, t, al, cl, Ts, hlt, by go_num, Lib.hid (by have := HTL.out; omega), HTI, Lib.hid (by rw [HKT.out, ← HTX.out]; simp), HOB, HORr, HPr, HSL, HCr⟩
        case measure => simp [intOf]; omega
    · obtain rfl : k = n := Nat.le_antisymm hk (Nat.not_lt.1 hlt)
      have c2 : w6.cell? ⟨p, 1, none⟩ = some (.slice al t cl) := by simpa using HPr.out.cell 1
      have hzp := HPr.out.lt
      go_upto_region 10 with fail
      clear d1 hzb
      go_wp2_with (at_builtin; refine wpList_appSg rfl (.tmp 49) (.tmp 53) rfl w.heap.size (.slice al t cl) Ts rfl (HSL.out.alloc _) w6.heap.size ⟨f, a2, c2_, M⟩ 49 (by simp only [sgv]; rw [HMN.out]; exact Own.new w6 _ _) rfl (by have := HTL.out; have := HN4.out; have := HN.out; omega) (by have := HCr.out.size; simp; omega) ?_)
      intro v' w14 hl8 hg8
      obtain ⟨W11, hW11⟩ : ∃ W11, w6.alloc (.cells #[.int .u64 (f : Int), .slice a2 mn c2_] 49) = W11 := ⟨_, rfl⟩
      have ka : Chg [] w6 W11 := by rw [← hW11]; exact (Chg.refl [] w6).alloc _
      rw [hW11] at hg8
      have hc8 : Chg (rowOf (.slice al t cl)) w6 w14 := (ka.nil1 _).trans (grown_chg hg8)
      have HKL := Lib.hid HSL.out.row
      have K1 := Lib.hid (HPr.out.chg hc8 (HPr.out.out_row HSL.out (by decide)))
      have K2 := Lib.hid (HORr.out.chg hc8 (HORr.out.out_row HSL.out (by decide)))
      have KC : Hid (Chg [] w w14) := Lib.hid (HCr.out.then hc8 (fun x hx => .inr (HKL.out x hx).1))
      obtain ⟨a9, c9, hv9, _, _⟩ := hl8.out.form
      have HLen : Hid ((Ts ++ [(⟨f, a2, c2_, M⟩ : SgT)]).length = t + 1) := Lib.hid (by have := HTL.out; simp; omega)
      rw [HLen.out] at hv9
      subst hv9
      have KL := hl8
      have c1' := K1.out.cell 1
      have f1' := K1.out.frozen 1
      have hz1'' := K1.out.lt
      simp at c1'
      clear ka hg8 hW11 hc8 hl8 c2 hzp
      go_upto_region 11 with fail
      obtain ⟨W15, hW15⟩ : ∃ W15, w14.setCell ⟨p, 1, none⟩ (.slice a9 (t + 1) c9) = W15 := ⟨_, rfl⟩
      have sc : Chg [p] w14 W15 := by rw [← hW15]; exact (Chg.refl _ w14).setCell (by simp) _
      have hpw : R < p := HPW.out
      have hpw2 : w.heap.size < R := by have := HRE.out; omega
      have HPr' : Hid (Own W15 p 25 [.int .u64 (e1 : Int), .slice a9 (t + 1) c9, .int .i64 q]) := Lib.hid (by rw [← hW15]; have := K1.out.set 1 (.slice a9 (t + 1) c9); simpa using this)
      have HOR' := Lib.hid (K2.out.chg sc (by simp; omega))
      have HSL' := Lib.hid (KL.out.chg sc (K1.out.notT' (by decide)))
      have HC' : Hid (Chg [] w W15) := Lib.hid (KC.out.then sc (fun x hx => by simp only [List.mem_singleton] at hx; subst hx; exact .inr (by omega)))
      rw [hW15]
      clear hW15 sc hpw hpw2 c1' f1' hz1''
      have HSI : Hid (∀ V, Below w.heap.size w V → SgIn V V.heap.size (Ts ++ [⟨f, a2, c2_, M⟩])) := Lib.hid (fun V hV T hT => by
        have hBV : B ≤ V.heap.size := Nat.le_trans HBW.out hV.size
        rcases List.mem_append.1 hT with h | h
        · have := (HIN.out.1.below hV HBW.out).2 T (HTI.out T h)
          exact ⟨this.1.mono hBV, this.2.mono hBV⟩
        · simp only [List.mem_singleton] at h
          subst h
          exact ⟨(HIN.out.2.1.below hV HBW.out).mono hBV, (HIN.out.2.2.below hV HBW.out).mono hBV⟩)
      have HSF : Hid (SgFit (Ts ++ [⟨f, a2, c2_, M⟩])) := Lib.hid ⟨by have h1 := HLen.out; have h2 := HTL.out; have h3 := HN4.out; have h4 := HN.out; omega, fun T hT => by
        rcases List.mem_append.1 hT with h | h
        · exact HFIT.out.1.2 T (HTI.out T h)
        · simp only [List.mem_singleton] at h
          subst h
          exact HFIT.out.2⟩
      have HRAW : Hid (extRaw x f (chx M) = (⟨e1, a9, c9, Ts ++ [⟨f, a2, c2_, M⟩], q⟩ : LyT).x) := Lib.hid (by
        have e : L.take k = L := List.take_of_length_le (by rw [HN.out]; exact Nat.le_refl _)
        have e2 := HTX.out
        rw [e, ← HXS.out] at e2
        unfold extRaw
        rw [HXE.out, HXQ.out, HE1.out, ← e2]
        simp [LyT.x, sgx, SgT.x])
      have HRS2 := Lib.hid (extOf_end HRR.out HRAW.out)
      have HDR := Lib.hid (dlright_any ⟨e1, a9, c9, Ts ++ [⟨f, a2, c2_, M⟩], q⟩ W15.heap.size W15 ⟨HSL'.out.ro (n := t + 1), HSI.out W15 HC'.out.low⟩ (Nat.le_refl _) HSF.out)
      simp only [LyT.val, HLen.out] at HDR
      obtain ⟨y, hy⟩ : ∃ y, (⟨e1, a9, c9, Ts ++ [⟨f, a2, c2_, M⟩], q⟩ : LyT).x = y := ⟨_, rfl⟩
      rw [hy] at HDR HRS2
      have HY := Lib.hid hy
      obtain ⟨ry, hry⟩ : ∃ ry, lright y = ry := ⟨_, rfl⟩
      rw [hry] at HDR HRS2
      have HRY := Lib.hid hry
      clear hy hry
      have d0 := HPr'.out.cell 0
      have d1 := HPr'.out.cell 1
      have d2 := HPr'.out.cell 2
      have hzp := HPr'.out.lt
      simp at d0 d1 d2
      go_wp2_with fail
      refine HDR.out.mono ?_
      rintro e w7 ⟨rfl, hc7⟩
      have HC7 := Lib.hid (HC'.out.trans hc7)
      have HP7 := Lib.hid (HPr'.out.chg hc7 (by simp))
      have HR7 := Lib.hid (HOR'.out.chg hc7 (by simp))
      have HSL7 := Lib.hid (HSL'.out.chg hc7 (by simp))
      have r0 := HR7.out.cell 0
      have r1 := HR7.out.cell 1
      have r2 := HR7.out.cell 2
      have f0 := HR7.out.frozen 0
      have f1 := HR7.out.frozen 1
      have f2 := HR7.out.frozen 2
      have z0 := HP7.out.cell 0
      have z1 := HP7.out.cell 1
      have z2 := HP7.out.cell 2
      have hz7 := HR7.out.lt
      have hz8 := HP7.out.lt
      simp at r0 r1 r2 z0 z1 z2
      clear hc7 d0 d1 d2 hzp
      cases ry with
      | false =>
        go_wp2_with fail
        refine bodyPost_ret (v := .tuple #[zeroL, .int .i64 91]) (by simp [results, Try.results25, go_sem, r0, r1, r2, hz7]) rfl ?_
        exact HFAIL.out 91 _ (by decide) (by rw [HRS2.out]; rfl) HC7.out
      | true =>
        go_wp2_with fail
        refine bodyPost_ret (v := .tuple #[.agg #[.int .u64 (e1 : Int), .slice a9 (t + 1) c9, .int .i64 q], .int .i64 0]) (by simp [results, Try.results25, go_sem, r0, r1, r2, z0, z1, z2, hz7]) rfl ?_
        have hres : res = (0, y) := by rw [← HRES.out, HRS2.out]; rfl
        have sc : Chg [R] w7 (((w7.setCell ⟨R, 0, none⟩ (.int .u64 (e1 : Int))).setCell ⟨R, 1, none⟩ (.slice a9 (t + 1) c9)).setCell ⟨R, 2, none⟩ (.int .i64 q)) := (((Chg.refl _ w7).setCell (by simp) _).setCell (by simp) _).setCell (by simp) _
        have g1 := HSL7.out.chg sc (HR7.out.notT' (by decide))
        have kb := (HC7.out.then sc (fun x hx => by simp only [List.mem_singleton] at hx; subst hx; exact .inr (by have := HRE.out; omega))).low
        rw [hres]
        exact ⟨kb, .inl ⟨rfl, HRY.out, ⟨e1, a9, c9, Ts ++ [⟨f, a2, c2_, M⟩], q⟩, by simp only [LyT.val, HLen.out], HY.out, ⟨g1.ro, HSI.out _ kb⟩⟩⟩
end Go.Proofs.Ytkdgoopldaoihaa
