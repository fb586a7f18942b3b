/-
  The law LayoutStripes, walked. No claim of its own.
-/
import Derived.Test.YtjpahookioenpaaOp9
import Derived.Test.YtjpahookioenpaaAlv9
import Derived.Test.YtjpahookioenpaaLyW
namespace Go.Proofs.Ytjpahookioenpaa
open Go.RowKit Go.Deep Go.Shelf
set_option linter.unusedVariables false
set_option linter.unusedSimpArgs false

/-- no unit is in two chains of a segment -/
theorem ch_disj {L : List (List Int)} (h : chOk L = true) {j k : Nat} (hj : j < L.length) (hk : k < L.length) (hne : j ≠ k) : ∀ u ∈ cx L j, u ∉ cx L k := by
  have hn := (chOk_iff.1 h).2.2.2
  have hp := List.pairwise_iff_getElem.1 (List.pairwise_flatten.1 hn).2
  have ej : cx L j = L[j] := by simp [cx, List.getD, hj]
  have ek : cx L k = L[k] := by simp [cx, List.getD, hk]
  intro u hu hu2
  rw [ej] at hu
  rw [ek] at hu2
  rcases Nat.lt_or_gt_of_ne hne with hlt | hlt
  · exact hp j k hj hk hlt u hu u hu2 rfl
  · exact hp k j hk hj hlt u hu2 u hu rfl
theorem chainOf_in {x : Ly} (h : right x = true) {a : Nat} (ha : a < 1048576) : chainOf x a = cx (sx x.s (segN x a)).2 ((a - (sx x.s (segN x a)).1) % (sx x.s (segN x a)).2.length) := by
  unfold chainOf
  rw [if_pos ⟨h, ha⟩]
theorem chain_units {x : Ly} (h : right x = true) {a : Nat} (ha : a < 1048576) {u : Int} (hu : u ∈ chainOf x a) : u ∈ unitsOf x := by
  rw [(unitsOf_is h).2]
  rw [chainOf_in h ha] at hu
  obtain ⟨g1, _, _⟩ := segN_is h a
  have hk := (chOk_iff.1 (right_ch h g1)).1
  unfold allOf
  rw [List.mem_flatten]
  exact ⟨_, List.mem_map.2 ⟨_, sx_mem g1, rfl⟩, List.mem_flatten.2 ⟨_, cx_mem (Nat.mod_lt _ (by omega)), hu⟩⟩
/-- round and round: the chain i addresses on, in the same segment -/
theorem stripe {x : Ly} (h : right x = true) {a i m : Nat} (ha : a + i < 1048576) (hs : segN x (a + i) = segN x a) (hm : (sx x.s (segN x a)).2.length = m) (hi1 : 1 ≤ i) (hi2 : i ≤ m) :
    0 < (chainOf x (a + i)).length ∧ (i = m → chainOf x (a + i) = chainOf x a) ∧ (i < m → chainOf x a ≠ chainOf x (a + i) ∧ ∀ u ∈ chainOf x (a + i), u ∉ chainOf x a) := by
  obtain ⟨g1, g2, _⟩ := segN_is h a
  have hck := right_ch h g1
  rw [chainOf_in h ha, chainOf_in h (a := a) (by omega), hs, hm]
  generalize (sx x.s (segN x a)).1 = f at *
  have e : a + i - f = (a - f) + i := by omega
  rw [e]
  generalize a - f = d at *
  have hm0 : 0 < m := by omega
  have l1 : d % m < m := Nat.mod_lt _ hm0
  have l2 : (d + i) % m < m := Nat.mod_lt _ hm0
  refine ⟨(ch_small hck (by rw [hm]; exact l2)).1, fun hi => ?_, fun hi => ?_⟩
  · subst hi
    rw [Nat.add_mod_right]
  · have hne : (d + i) % m ≠ d % m := by
      intro he
      have h1 : (d + i) % m = (d % m + i) % m := by rw [Nat.add_mod, Nat.mod_eq_of_lt hi]
      rw [h1] at he
      by_cases hc : d % m + i < m
      · rw [Nat.mod_eq_of_lt hc] at he; omega
      · have h2 : (d % m + i) % m = d % m + i - m := by
          rw [Nat.mod_eq_sub_mod (by omega), Nat.mod_eq_of_lt (by omega)]
        omega
    have hd := ch_disj hck (by rw [hm]; exact l2) (by rw [hm]; exact l1) hne
    refine ⟨fun he => ?_, hd⟩
    have hl := (ch_small hck (i := d % m) (by rw [hm]; exact l1)).1
    cases hcx : cx (sx x.s (segN x a)).2 (d % m) with
    | nil => rw [hcx] at hl; simp at hl
    | cons u r =>
      exact hd u (by rw [← he, hcx]; simp) (by rw [hcx]; simp)
theorem segI_eq {x : Ly} (h : right x = true) {a b : Nat} (hb : b < 1048576) (he : segI x b = ((segN x a : Nat) : Int)) : segN x b = segN x a := by
  unfold segI at he
  rw [if_pos ⟨h, hb⟩] at he
  omega

set_option maxHeartbeats 8000000 in
set_option maxRecDepth 100000 in
theorem layoutStripes_any (w : World) {A : LyT} (hA : LyOk w A) {a : Int} (ha : (Lit.int .u64 a).wf = true) :
    Calls Try.prog 7 #[A.val, .int .u64 a] w fun e w' => e = .returned (.bool true) ∧ Below w.heap.size w w' := by
  have hab := bounds_u64 ha
  obtain ⟨a, rfl⟩ := Int.eq_ofNat_of_zero_le hab.1
  clear ha
  obtain ⟨W, HWW⟩ : ∃ W, Hid (w.alloc (.cells #[.int .u64 (A.e : Int), .slice A.a A.sg.length A.c, .int .i64 A.q] 25) = W) := ⟨_, Lib.hid rfl⟩
  have hWb : Below w.heap.size w W := by rw [← HWW.out]; exact (Below.refl _ _).alloc (Nat.le_refl _) _
  have o1 : Own W w.heap.size 25 [.int .u64 (A.e : Int), .slice A.a A.sg.length A.c, .int .i64 A.q] := by rw [← HWW.out]; exact Own.new w _ _
  have HWB := Lib.hid hWb
  have HAO := Lib.hid hA
  have HO1 := Lib.hid o1
  have HAL := Lib.hid alive_any
  have hin : ∀ (W' : World), Below W.heap.size W W' → LyIn W' w.heap.size A := fun W' hb => hA.inn.below (hWb.trans (hb.mono hWb.size)) (Nat.le_refl _)
  have HF1 := Lib.hid (fun (W' : World) (hb : Below W.heap.size W W') => fitsL_any A w.heap.size W' (hin W' hb) (Nat.le_trans hWb.size hb.size) hA.fit)
  have HRI := Lib.hid (fun (W' : World) (hb : Below W.heap.size W W') => right_any A w.heap.size W' (hin W' hb) (Nat.le_trans hWb.size hb.size) hA.fit)
  have HSE := Lib.hid (fun (b : Nat) (W' : World) (hb : Below W.heap.size W W') => segment_any A w.heap.size b W' (hin W' hb) (Nat.le_trans hWb.size hb.size) hA.fit)
  have HCH := Lib.hid (fun (b : Nat) (W' : World) (hb : Below W.heap.size W W') => chain_any A w.heap.size b W' (hin W' hb) (Nat.le_trans hWb.size hb.size) hA.fit)
  have HUN := Lib.hid (fun (W' : World) (hb : Below W.heap.size W W') => units_any A w.heap.size W' (hin W' hb) (Nat.le_trans hWb.size hb.size) hA.fit)
  have HXS : Hid (A.x.s = sgx A.sg) := Lib.hid rfl
  clear hWb o1 hA hin
  obtain ⟨X, HX⟩ : ∃ X, Hid (A.x = X) := ⟨_, Lib.hid rfl⟩
  rw [HX.out] at HRI HSE HCH HUN HXS
  obtain ⟨ep, sa, c, L, q⟩ := A
  simp only [LyT.val] at *
  obtain ⟨n, hn⟩ : ∃ n, L.length = n := ⟨_, rfl⟩
  have HN := Lib.hid hn
  rw [hn] at HWW HO1 HF1 HRI HSE HCH HUN ⊢
  clear hn
  go_enter Try.func7, Try.ntmps7
  go_upto_region 1 with fail
  rw [HWW.out]
  have hz0 := HO1.out.lt
  have k0 := HO1.out.cell 0
  have k1 := HO1.out.cell 1
  have k2 := HO1.out.cell 2
  simp at k0 k1 k2
  have HK := Lib.hid (And.intro k0 (And.intro k1 k2))
  have HEND : Hid (∀ W', Below W.heap.size W W' → Below w.heap.size w W') := Lib.hid (fun W' h => HWB.out.trans (h.mono HWB.out.size))
  go_wp2_with fail
  refine (HF1.out W (Below.refl _ _)).mono ?_
  rintro e w1 ⟨⟨t1, rfl⟩, hb1⟩
  have HB1 := Lib.hid hb1
  clear hb1 k0 k1 k2
  have k0 := cell_at HB1.out HK.out.1 rfl
  have k1 := cell_at HB1.out HK.out.2.1 rfl
  have k2 := cell_at HB1.out HK.out.2.2 rfl
  have hz1 : w.heap.size < w1.heap.size := World.block_lt_of_cell? _ _ k0
  cases t1 with
  | false =>
    go_wp2_with fail
    refine (HAL.out _).mono ?_
    rintro e w3 ⟨rfl, hb3⟩
    have HB3 := Lib.hid (HB1.out.trans (hb3.mono HB1.out.size))
    clear hb3
    go_wp2_with fail
    go_ret
    exact ⟨rfl, HEND.out _ HB3.out⟩
  | true =>
  obtain ⟨rr, HRR⟩ : ∃ rr, Hid (right X = rr) := ⟨_, Lib.hid rfl⟩
  rw [HRR.out] at HRI
  go_wp2_with fail
  refine (HRI.out w1 HB1.out).mono ?_
  rintro e w2 ⟨rfl, hb2⟩
  have HB2 := Lib.hid (HB1.out.trans (hb2.mono HB1.out.size))
  clear hb2 k0 k1 k2 hz1
  cases rr with
  | false =>
    go_wp2_with fail
    refine (HAL.out _).mono ?_
    rintro e w3 ⟨rfl, hb3⟩
    have HB3 := Lib.hid (HB2.out.trans (hb3.mono HB2.out.size))
    clear hb3
    go_wp2_with fail
    go_ret
    exact ⟨rfl, HEND.out _ HB3.out⟩
  | true =>
  by_cases hlt : a < 1048576
  rotate_left
  · have hlt' : decide ((1048576 : Int) ≤ (a : Int)) = true := by simp; omega
    clear hlt hab
    go_wp2_with fail
    refine (HAL.out _).mono ?_
    rintro e w3 ⟨rfl, hb3⟩
    have HB3 := Lib.hid (HB2.out.trans (hb3.mono HB2.out.size))
    clear hb3
    go_wp2_with fail
    go_ret
    exact ⟨rfl, HEND.out _ HB3.out⟩
  have hlt' : decide ((1048576 : Int) ≤ (a : Int)) = false := by simp; omega
  have HLT := Lib.hid hlt
  clear hlt hab
  obtain ⟨hs1, hs2, hs3⟩ := segN_is HRR.out a
  have hsI : segI X a = ((segN X a : Nat) : Int) := by unfold segI; rw [if_pos ⟨HRR.out, HLT.out⟩]
  have hXl : X.s.length = n := by rw [HXS.out, sgx_length, HN.out]
  rw [hXl] at hs1 hs3
  have hst := HXS.out
  have HSA := Lib.hid (HSE.out a)
  rw [hsI] at HSA
  have HCA := Lib.hid (HCH.out a)
  have hcu := fun u hu => chain_units HRR.out HLT.out (u := u) hu
  have hcl4 := chainOf_len X a
  have hsx : sx X.s (segN X a) = (st L (segN X a)).x := by rw [hst, sx_sgx]
  have hmm := (chOk_iff.1 (right_ch HRR.out (i := segN X a) (by rw [hXl]; exact hs1))).1
  have hsx2 : segN X a + 1 < n → sx X.s (segN X a + 1) = (st L (segN X a + 1)).x := fun _ => by rw [hst, sx_sgx]
  have hul : (unitsOf X).length ≤ 1000000 := by
    unfold unitsOf
    rw [if_pos HRR.out]
    refine Nat.le_trans (m := (allOf X.s).length) ?_ ?_
    · unfold Go.Lib.compactUpTo
      rw [List.length_map]
      refine Nat.le_trans (List.length_filter_le _ _) ?_
      rw [List.length_range, List.length_mergeSort]
      exact Nat.le_refl _
    · have := allOf_le HRR.out X.s.length (Nat.le_refl _)
      rw [List.take_of_length_le (Nat.le_refl _)] at this
      have h4 := (sgOk_iff.1 (right_iff.1 HRR.out).2.2).1.2
      omega
  obtain ⟨m, hm⟩ : ∃ m, (sx X.s (segN X a)).2.length = m := ⟨_, rfl⟩
  have hmm2 := hmm
  rw [hm] at hmm2
  have HSTR : Hid (∀ i, 1 ≤ i → i ≤ m → a + i < 1048576 → segI X (a + i) = ((segN X a : Nat) : Int) → 0 < (chainOf X (a + i)).length ∧ (i = m → chainOf X (a + i) = chainOf X a) ∧ (i < m → chainOf X a ≠ chainOf X (a + i) ∧ ∀ u ∈ chainOf X (a + i), u ∉ chainOf X a)) := Lib.hid (fun i h1 h2 h3 h4 => stripe HRR.out h3 (segI_eq HRR.out h3 h4) hm h1 h2)
  have hm2 : (st L (segN X a)).ch.length = m := by rw [← hm, hsx]; simp [SgT.x]
  rw [hsx] at hs2
  have hs4 : segN X a + 1 < n → a < (st L (segN X a + 1)).f := fun h => by have := hs3 (segN X a + 1) (by omega) h; rw [hsx2 h] at this; exact this
  clear hsx hsx2 hs3 hst hmm hm hXl hsI
  generalize segN X a = s at *
  have hs2' : (st L s).f ≤ a := hs2
  obtain ⟨cl, hcl⟩ : ∃ cl, chainOf X a = cl := ⟨_, rfl⟩
  rw [hcl] at HCA hcu hcl4 HSTR
  clear hcl hs2
  obtain ⟨us, hus⟩ : ∃ us, unitsOf X = us := ⟨_, rfl⟩
  rw [hus] at HUN hul hcu
  clear hus
  have HCU := Lib.hid hcu
  obtain ⟨cn, hcn⟩ : ∃ cn, cl.length = cn := ⟨_, rfl⟩
  have HCN := Lib.hid hcn
  rw [hcn] at hcl4
  have hcn4 : (cn : Int) ≤ 4 := by omega
  have HUL := Lib.hid hul
  have HCL4 := Lib.hid hcl4
  obtain ⟨un, hun⟩ : ∃ un, us.length = un := ⟨_, rfl⟩
  have HUNL := Lib.hid hun
  obtain ⟨b, off, esa, hb0, hc⟩ := HAO.out.inn.1.sg (show 0 < L.length by rw [HN.out]; omega)
  simp only at esa
  subst esa
  have hsL : s < L.length := by rw [HN.out]; exact hs1
  obtain ⟨s1, s2⟩ := hc s hsL
  have hnx : s + 1 < n → W.cell? ⟨b, off + (s + 1) * 2, none⟩ = some (.int .u64 ((st L (s + 1)).f : Int)) := fun h => cell_keep HWB.out (hc (s + 1) (by rw [HN.out]; exact h)).1 hb0
  have s1W := cell_keep HWB.out s1 hb0
  have s2W := cell_keep HWB.out s2 hb0
  rw [hm2] at s2W
  obtain ⟨s', hs'⟩ : ∃ s', s + 1 = s' := ⟨_, rfl⟩
  rw [hs'] at hnx hs4
  have hss1 : (s : Int) + 1 = (s' : Int) := by omega
  have hn44 : n ≤ 4 := by have := (sgOk_iff.1 (right_iff.1 HRR.out).2.2).1.2; rw [HXS.out, sgx_length, HN.out] at this; exact this
  have hs'4 : (s' : Int) ≤ 5 := by omega
  have HCASE : Hid ((s' < n ∧ ∃ f' : Nat, W.cell? ⟨b, off + s' * 2, none⟩ = some (.int .u64 (f' : Int)) ∧ a < f') ∨ ¬ s' < n) := Lib.hid (by
    rcases Nat.lt_or_ge s' n with h | h
    · left
      exact ⟨h, _, hnx h, hs4 h⟩
    · right
      omega)
  have HCELL := Lib.hid (And.intro s1W s2W)
  have HMM := Lib.hid hmm2
  generalize (st L s).f = f at *
  generalize (st L s).a = x2 at *
  generalize (st L s).c = x4 at *
  have hn4 : n ≤ 9223372036854775807 := by rw [← HN.out]; exact HAO.out.fit.1
  have HS1 := Lib.hid (And.intro hs1 hn4)
  have hf1 : decide ((a : Int) < (f : Int)) = false := by simp; omega
  have hf1' : decide (a < f) = false := by simp; omega
  have hsn1 : decide ((s : Int) < 0) = false := by simp
  have hsn2 : decide (n ≤ s) = false := by simp; omega
  have hsn3 : decide ((n : Int) ≤ (s : Int)) = false := by simp; omega
  have hsn4 : (0 : Int) ≤ (s : Int) := by omega
  have hsn5 : (s : Int) < (n : Int) := by omega
  clear hcu hcl4 hul hcn hun hc s1 s2 hnx s1W s2W hm2 hmm2 hs4 hs2' hsL hb0 hn4 hs' hn44
  have k0 := cell_at HB2.out HK.out.1 rfl
  have k1 := cell_at HB2.out HK.out.2.1 rfl
  have k2 := cell_at HB2.out HK.out.2.2 rfl
  have hz2 : w.heap.size < w2.heap.size := World.block_lt_of_cell? _ _ k0
  go_wp2_with fail
  refine (HSA.out w2 HB2.out).mono ?_
  rintro e w3 ⟨rfl, hb3⟩
  have HB3 := Lib.hid (HB2.out.trans (hb3.mono HB2.out.size))
  clear hb3 k0 k1 k2 hz2
  have k0 := cell_at HB3.out HK.out.1 rfl
  have k1 := cell_at HB3.out HK.out.2.1 rfl
  have k2 := cell_at HB3.out HK.out.2.2 rfl
  have hz3 : w.heap.size < w3.heap.size := World.block_lt_of_cell? _ _ k0
  have s1 := cell_at HB3.out HCELL.out.1 rfl
  have s2 := cell_at HB3.out HCELL.out.2 rfl
  have hwm : IntKind.u64.wrap (m : Int) = (m : Int) := wrap_u64_nat _ (by have := HMM.out; omega)
  have hm4 : (m : Int) ≤ 4 := by have := HMM.out; omega
  have hcase := HCASE.out
  have hall : (s' < n ∧ ∃ f' : Nat, w3.cell? ⟨b, off + s' * 2, none⟩ = some (.int .u64 (f' : Int)) ∧ a < f') ∨ ¬ s' < n := by
    rcases hcase with ⟨h, f', h2, h3⟩ | h
    · exact .inl ⟨h, f', cell_at HB3.out h2 rfl, h3⟩
    · exact .inr h
  clear hcase
  go_upto_region 5 with fail
  have hmid : ∀ (K : Exit → Act → World → Prop), K = K := fun _ => rfl
  clear hmid
  rcases hall with ⟨hd1, f', s3, hf2⟩ | hd1
  rotate_left
  · have hd2 : decide (s' < n) = false := by simp; omega
    clear hd1
    go_wp2_with fail
    refine (HCA.out w3 HB3.out).mono ?_
    rintro e w4 ⟨v4, rfl, hl4, hb4⟩
    have HB4 := Lib.hid (HB3.out.trans (hb4.mono HB3.out.size))
    obtain ⟨a4, c4, rfl, hr4, _, _⟩ := hl4.form
    have HR4 := Lib.hid hr4
    rw [i64s_length, HCN.out]
    clear hl4 hb4 hr4 k0 k1 k2 hz3 s1 s2
    have k0 := cell_at HB4.out HK.out.1 rfl
    have k1 := cell_at HB4.out HK.out.2.1 rfl
    have k2 := cell_at HB4.out HK.out.2.2 rfl
    have hz4 : w.heap.size < w4.heap.size := World.block_lt_of_cell? _ _ k0
    go_wp2_with fail
    refine (HUN.out w4 HB4.out).mono ?_
    rintro e w5 ⟨v5, rfl, hl5, hb5⟩
    have HB5 := Lib.hid (HB4.out.trans (hb5.mono HB4.out.size))
    have HR4' := Lib.hid ((HR4.out.below hb5 (Nat.le_refl _)).mono hb5.size)
    obtain ⟨a5, c5, rfl, hr5, _, _⟩ := hl5.form
    have HR5 := Lib.hid hr5
    rw [i64s_length, HUNL.out]
    clear hl5 hb5 hr5 k0 k1 k2 hz4
    have HHU := Lib.hid (fun (x : Int) (W' : World) (hb : Below w5.heap.size w5 W') => has_any us x a5 c5 w5.heap.size W' (HR5.out.below hb (Nat.le_refl _)) hb.size (by have := HUL.out; omega))
    rw [HUNL.out] at HHU
    have HHC := Lib.hid (fun (x : Int) (W' : World) (hb : Below w5.heap.size w5 W') => has_any cl x a4 c4 w5.heap.size W' (HR4'.out.below hb (Nat.le_refl _)) hb.size (by have := HCN.out; have := HCL4.out; omega))
    rw [HCN.out] at HHC
    go_wp2_with fail
    go_loopw [10] (fun i wr => ∃ k : Nat, k ≤ cn ∧ i = .int .i64 (k : Int) ∧ Hid (Below w5.heap.size w5 wr)) (fun i _ => cn - (intOf i).toNat)
    case atStart => exact ⟨0, Nat.zero_le _, rfl, Lib.hid (Below.refl _ _)⟩
    case round =>
      obtain ⟨k, hk, rfl, HBk⟩ := hrel
      by_cases hlt : k < cn
      · have hkL : k < cl.length := by rw [HCN.out]; exact hlt
        obtain ⟨b6, off6, rfl, hb6, hc6⟩ := (HR4'.out.below HBk.out (Nat.le_refl _)).i64 (show 0 < cl.length by omega)
        have q1 := hc6 k hkL
        clear hc6
        have hk0 : (0 : Int) ≤ (k : Int) := by omega
        have hk1 : (k : Int) < (cn : Int) := by omega
        have hmem := HCU.out (cl.getD k 0) (by rw [List.getD_eq_getElem?_getD, List.getElem?_eq_getElem hkL]; exact List.getElem_mem hkL)
        generalize cl.getD k 0 = x at *
        have HHX := Lib.hid (HHU.out x)
        have hd : decide (x ∈ us) = true := by simpa using hmem
        rw [hd] at HHX
        clear hmem hd
        go_wp2_with fail
        refine (HHX.out _ HBk.out).mono ?_
        rintro e w6 ⟨rfl, hb6'⟩
        have HB6 := Lib.hid (HBk.out.trans (hb6'.mono HBk.out.size))
        clear hb6' q1
        go_wp2_with fail
        go_roundw
        case rel => exact ⟨k + 1, by omega, by go_num, HB6⟩
        case measure => simp [intOf]; omega
      · obtain rfl : k = cn := by omega
        have hkk : (k : Int) < (k : Int) ↔ False := by simp
        go_wp2_with fail
        go_loopw [11] (fun i wr => ∃ j : Nat, 1 ≤ j ∧ j ≤ m + 1 ∧ i = .int .u64 (j : Int) ∧ Hid (Below w5.heap.size w5 wr)) (fun i _ => m + 1 - (intOf i).toNat)
        case atStart => exact ⟨1, Nat.le_refl _, by omega, rfl, HBk⟩
        case round =>
          obtain ⟨j, hj1, hj2, rfl, HBj⟩ := hrel
          by_cases hlt2 : j ≤ m
          rotate_left
          · have hjm : decide ((j : Int) ≤ (m : Int)) = false := by simp; omega
            go_wp2_with fail
            refine (HAL.out _).mono ?_
            rintro e w6 ⟨rfl, hb6⟩
            have HB6 := Lib.hid (HB5.out.trans ((HBj.out.trans (hb6.mono HBj.out.size)).mono HB5.out.size))
            clear hb6
            go_wp2_with fail
            go_ret
            exact ⟨rfl, HEND.out _ HB6.out⟩
          have hjm : decide ((j : Int) ≤ (m : Int)) = true := by simp; omega
          have hjm' : decide (j ≤ m) = true := by simp; omega
          obtain ⟨bb, hbb⟩ : ∃ bb, a + j = bb := ⟨_, rfl⟩
          have hbb2 : (a : Int) + (j : Int) = (bb : Int) := by omega
          have hbb3 : IntKind.u64.wrap (bb : Int) = (bb : Int) := wrap_u64_nat _ (by have := HLT.out; have := HMM.out; omega)
          have HSTJ := Lib.hid (HSTR.out j hj1 hlt2)
          rw [hbb] at HSTJ
          have HHJ := Lib.hid (And.intro hj1 hlt2)
          clear hbb
          have HBJ := Lib.hid (HB5.out.trans (HBj.out.mono HB5.out.size))
          have k0 := cell_at HBJ.out HK.out.1 rfl
          have k1 := cell_at HBJ.out HK.out.2.1 rfl
          have k2 := cell_at HBJ.out HK.out.2.2 rfl
          have hzj : w.heap.size < wr.heap.size := World.block_lt_of_cell? _ _ k0
          by_cases hbl : bb < 1048576
          rotate_left
          · have hbl' : decide ((1048576 : Int) ≤ (bb : Int)) = true := by simp; omega
            clear hbl
            go_wp2_with fail
            refine (HAL.out _).mono ?_
            rintro e w6 ⟨rfl, hb6⟩
            have HB6 := Lib.hid (HBJ.out.trans (hb6.mono HBJ.out.size))
            clear hb6
            go_wp2_with fail
            go_ret
            exact ⟨rfl, HEND.out _ HB6.out⟩
          have hbl' : decide ((1048576 : Int) ≤ (bb : Int)) = false := by simp; omega
          have HBL := Lib.hid hbl
          clear hbl
          go_wp2_with fail
          refine (HSE.out bb wr HBJ.out).mono ?_
          rintro e w6 ⟨rfl, hb6⟩
          have HB6 := Lib.hid (HBj.out.trans (hb6.mono HBj.out.size))
          have HBW6 := Lib.hid (HBJ.out.trans (hb6.mono HBJ.out.size))
          clear hb6 k0 k1 k2 hzj
          obtain ⟨sb, hsb⟩ : ∃ sb, segI X bb = sb := ⟨_, rfl⟩
          rw [hsb] at HSTJ ⊢
          clear hsb
          by_cases hss : sb = (s : Int)
          rotate_left
          · have hss' : (sb != (s : Int)) = true := by simpa using hss
            have hss2 : (sb == (s : Int)) = false := by simpa using hss
            clear hss
            go_wp2_with fail
            refine (HAL.out _).mono ?_
            rintro e w7 ⟨rfl, hb7⟩
            have HB7 := Lib.hid (HBW6.out.trans (hb7.mono HBW6.out.size))
            clear hb7
            go_wp2_with fail
            go_ret
            exact ⟨rfl, HEND.out _ HB7.out⟩
          subst hss
          have k0 := cell_at HBW6.out HK.out.1 rfl
          have k1 := cell_at HBW6.out HK.out.2.1 rfl
          have k2 := cell_at HBW6.out HK.out.2.2 rfl
          have hz6 : w.heap.size < w6.heap.size := World.block_lt_of_cell? _ _ k0
          go_wp2_with fail
          refine (HCH.out bb w6 HBW6.out).mono ?_
          rintro e w7 ⟨v7, rfl, hl7, hb7⟩
          have HB7 := Lib.hid (HB6.out.trans (hb7.mono HB6.out.size))
          obtain ⟨a7, c7, rfl, hr7, _, _⟩ := hl7.form
          have HR7 := Lib.hid hr7
          rw [i64s_length]
          have hdl4 := chainOf_len X bb
          have hst := HSTJ.out HBL.out (by first | rfl | trivial)
          clear hl7 hb7 hr7 k0 k1 k2 hz6
          generalize chainOf X bb = dl at *
          obtain ⟨dn, hdn⟩ : ∃ dn, dl.length = dn := ⟨_, rfl⟩
          have HDN := Lib.hid hdn
          have HSC := Lib.hid (sameChain_any cl dl a4 a7 c4 c7 w7.heap.size w7 ((HR4'.out.below HB7.out (Nat.le_refl _)).mono HB7.out.size) HR7.out (Nat.le_refl _) (by have := HCN.out; have := HCL4.out; omega) (by omega))
          rw [HCN.out, hdn] at HSC
          rw [hdn] at hdl4 ⊢
          obtain ⟨t, ht⟩ : ∃ t, decide (cl = dl) = t := ⟨_, rfl⟩
          rw [ht] at HSC
          have ht2 : ((j : Int) == (m : Int)) = t := by
            rw [← ht]
            by_cases hjm2 : j = m
            · rw [hst.2.1 hjm2, hjm2]; simp
            · have h1 : cl ≠ dl := (hst.2.2 (by omega)).1
              have h2 : ¬ (j : Int) = (m : Int) := by omega
              rw [decide_eq_false h1]
              simpa using h2
          have HOFF : Hid (j < m → ∀ u ∈ dl, u ∉ cl) := Lib.hid (fun h => (hst.2.2 h).2)
          have HDL4 := Lib.hid hdl4
          clear hst ht hdn hdl4
          have hdn4 : (dn : Int) ≤ 4 := by have := HDL4.out; omega
          go_wp2_with fail
          refine HSC.out.mono ?_
          rintro e w8 ⟨rfl, hb8⟩
          have HB8 := Lib.hid (HB7.out.trans (hb8.mono HB7.out.size))
          have HR8 := Lib.hid (HR7.out.below hb8 (Nat.le_refl _))
          have HS8 := Lib.hid hb8.size
          clear hb8
          go_wp2_with fail
          obtain ⟨j1, hj1'⟩ : ∃ j1, j + 1 = j1 := ⟨_, rfl⟩
          have hj3 : (j : Int) + 1 = (j1 : Int) := by omega
          have hj4 : IntKind.u64.wrap (j1 : Int) = (j1 : Int) := wrap_u64_nat _ (by have := HMM.out; omega)
          have HJ1 := Lib.hid hj1'
          clear hj1' hjm hjm' hbb2 hbb3 hbl'
          go_loopw [15] (fun i wr => ∃ k : Nat, k ≤ dn ∧ i = .int .i64 (k : Int) ∧ Hid (Below w8.heap.size w8 wr)) (fun i _ => dn - (intOf i).toNat)
          case atStart => exact ⟨0, Nat.zero_le _, rfl, Lib.hid (Below.refl _ _)⟩
          case round =>
            obtain ⟨k2, hk2, rfl, HBk2⟩ := hrel
            have HBT := Lib.hid (HB8.out.trans (HBk2.out.mono HB8.out.size))
            rcases Nat.lt_or_ge k2 dn with hl1 | hl1
            rotate_left
            · obtain rfl : k2 = dn := by omega
              clear hl1
              go_wp2_with fail
              go_roundw
              case rel => exact ⟨j1, by have := HJ1.out; omega, by have := HJ1.out; have := HHJ.out; omega, rfl, HBT⟩
              case measure => have := HJ1.out; have := HHJ.out; simp [intOf]; omega
            have hl2 : decide ((k2 : Int) < (dn : Int)) = true := by simp; omega
            have hl3 : decide (k2 < dn) = true := by simp; omega
            rcases Nat.lt_or_ge j m with hl4 | hl4
            rotate_left
            · have hl5 : decide ((j : Int) < (m : Int)) = false := by simp; omega
              have hl6 : decide (j < m) = false := by simp; omega
              clear hl4
              go_wp2_with fail
              go_roundw
              case rel => exact ⟨j1, by have := HJ1.out; omega, by have := HJ1.out; have := HHJ.out; omega, rfl, HBT⟩
              case measure => have := HJ1.out; have := HHJ.out; simp [intOf]; omega
            have hl5 : decide ((j : Int) < (m : Int)) = true := by simp; omega
            have hl6 : decide (j < m) = true := by simp; omega
            have hkL : k2 < dl.length := by rw [HDN.out]; exact hl1
            obtain ⟨b9, off9, rfl, hb9, hc9⟩ := (HR8.out.below HBk2.out HS8.out).i64 (show 0 < dl.length by omega)
            have q1 := hc9 k2 hkL
            clear hc9
            have hk0 : (0 : Int) ≤ (k2 : Int) := by omega
            have hk1 : (k2 : Int) < (dn : Int) := by omega
            have hmem := HOFF.out hl4 (dl.getD k2 0) (by rw [List.getD_eq_getElem?_getD, List.getElem?_eq_getElem hkL]; exact List.getElem_mem hkL)
            generalize dl.getD k2 0 = x at *
            have HHX := Lib.hid (HHC.out x)
            have hd : decide (x ∈ cl) = false := by simpa using hmem
            rw [hd] at HHX
            clear hmem hd hl4 hl1
            go_wp2_with fail
            refine (HHX.out _ HBT.out).mono ?_
            rintro e w9 ⟨rfl, hb9'⟩
            have HB9 := Lib.hid (HBk2.out.trans (hb9'.mono HBk2.out.size))
            clear hb9' q1
            go_wp2_with fail
            go_roundw
            case rel => exact ⟨k2 + 1, by omega, by go_num, HB9⟩
            case measure => simp [intOf]; omega

  · have hd2 : decide (s' < n) = true := by simp; omega
    have hf3 : decide (f' ≤ a) = false := by simp; omega
    have hd3 : (s' : Int) < (n : Int) := by omega
    have hd4 : (0 : Int) ≤ (s' : Int) := by omega
    go_wp2_with fail
    refine (HCA.out w3 HB3.out).mono ?_
    rintro e w4 ⟨v4, rfl, hl4, hb4⟩
    have HB4 := Lib.hid (HB3.out.trans (hb4.mono HB3.out.size))
    obtain ⟨a4, c4, rfl, hr4, _, _⟩ := hl4.form
    have HR4 := Lib.hid hr4
    rw [i64s_length, HCN.out]
    clear hl4 hb4 hr4 k0 k1 k2 hz3 s1 s2
    have k0 := cell_at HB4.out HK.out.1 rfl
    have k1 := cell_at HB4.out HK.out.2.1 rfl
    have k2 := cell_at HB4.out HK.out.2.2 rfl
    have hz4 : w.heap.size < w4.heap.size := World.block_lt_of_cell? _ _ k0
    go_wp2_with fail
    refine (HUN.out w4 HB4.out).mono ?_
    rintro e w5 ⟨v5, rfl, hl5, hb5⟩
    have HB5 := Lib.hid (HB4.out.trans (hb5.mono HB4.out.size))
    have HR4' := Lib.hid ((HR4.out.below hb5 (Nat.le_refl _)).mono hb5.size)
    obtain ⟨a5, c5, rfl, hr5, _, _⟩ := hl5.form
    have HR5 := Lib.hid hr5
    rw [i64s_length, HUNL.out]
    clear hl5 hb5 hr5 k0 k1 k2 hz4
    have HHU := Lib.hid (fun (x : Int) (W' : World) (hb : Below w5.heap.size w5 W') => has_any us x a5 c5 w5.heap.size W' (HR5.out.below hb (Nat.le_refl _)) hb.size (by have := HUL.out; omega))
    rw [HUNL.out] at HHU
    have HHC := Lib.hid (fun (x : Int) (W' : World) (hb : Below w5.heap.size w5 W') => has_any cl x a4 c4 w5.heap.size W' (HR4'.out.below hb (Nat.le_refl _)) hb.size (by have := HCN.out; have := HCL4.out; omega))
    rw [HCN.out] at HHC
    go_wp2_with fail
    go_loopw [10] (fun i wr => ∃ k : Nat, k ≤ cn ∧ i = .int .i64 (k : Int) ∧ Hid (Below w5.heap.size w5 wr)) (fun i _ => cn - (intOf i).toNat)
    case atStart => exact ⟨0, Nat.zero_le _, rfl, Lib.hid (Below.refl _ _)⟩
    case round =>
      obtain ⟨k, hk, rfl, HBk⟩ := hrel
      by_cases hlt : k < cn
      · have hkL : k < cl.length := by rw [HCN.out]; exact hlt
        obtain ⟨b6, off6, rfl, hb6, hc6⟩ := (HR4'.out.below HBk.out (Nat.le_refl _)).i64 (show 0 < cl.length by omega)
        have q1 := hc6 k hkL
        clear hc6
        have hk0 : (0 : Int) ≤ (k : Int) := by omega
        have hk1 : (k : Int) < (cn : Int) := by omega
        have hmem := HCU.out (cl.getD k 0) (by rw [List.getD_eq_getElem?_getD, List.getElem?_eq_getElem hkL]; exact List.getElem_mem hkL)
        generalize cl.getD k 0 = x at *
        have HHX := Lib.hid (HHU.out x)
        have hd : decide (x ∈ us) = true := by simpa using hmem
        rw [hd] at HHX
        clear hmem hd
        go_wp2_with fail
        refine (HHX.out _ HBk.out).mono ?_
        rintro e w6 ⟨rfl, hb6'⟩
        have HB6 := Lib.hid (HBk.out.trans (hb6'.mono HBk.out.size))
        clear hb6' q1
        go_wp2_with fail
        go_roundw
        case rel => exact ⟨k + 1, by omega, by go_num, HB6⟩
        case measure => simp [intOf]; omega
      · obtain rfl : k = cn := by omega
        have hkk : (k : Int) < (k : Int) ↔ False := by simp
        go_wp2_with fail
        go_loopw [11] (fun i wr => ∃ j : Nat, 1 ≤ j ∧ j ≤ m + 1 ∧ i = .int .u64 (j : Int) ∧ Hid (Below w5.heap.size w5 wr)) (fun i _ => m + 1 - (intOf i).toNat)
        case atStart => exact ⟨1, Nat.le_refl _, by omega, rfl, HBk⟩
        case round =>
          obtain ⟨j, hj1, hj2, rfl, HBj⟩ := hrel
          by_cases hlt2 : j ≤ m
          rotate_left
          · have hjm : decide ((j : Int) ≤ (m : Int)) = false := by simp; omega
            go_wp2_with fail
            refine (HAL.out _).mono ?_
            rintro e w6 ⟨rfl, hb6⟩
            have HB6 := Lib.hid (HB5.out.trans ((HBj.out.trans (hb6.mono HBj.out.size)).mono HB5.out.size))
            clear hb6
            go_wp2_with fail
            go_ret
            exact ⟨rfl, HEND.out _ HB6.out⟩
          have hjm : decide ((j : Int) ≤ (m : Int)) = true := by simp; omega
          have hjm' : decide (j ≤ m) = true := by simp; omega
          obtain ⟨bb, hbb⟩ : ∃ bb, a + j = bb := ⟨_, rfl⟩
          have hbb2 : (a : Int) + (j : Int) = (bb : Int) := by omega
          have hbb3 : IntKind.u64.wrap (bb : Int) = (bb : Int) := wrap_u64_nat _ (by have := HLT.out; have := HMM.out; omega)
          have HSTJ := Lib.hid (HSTR.out j hj1 hlt2)
          rw [hbb] at HSTJ
          have HHJ := Lib.hid (And.intro hj1 hlt2)
          clear hbb
          have HBJ := Lib.hid (HB5.out.trans (HBj.out.mono HB5.out.size))
          have k0 := cell_at HBJ.out HK.out.1 rfl
          have k1 := cell_at HBJ.out HK.out.2.1 rfl
          have k2 := cell_at HBJ.out HK.out.2.2 rfl
          have hzj : w.heap.size < wr.heap.size := World.block_lt_of_cell? _ _ k0
          by_cases hbl : bb < 1048576
          rotate_left
          · have hbl' : decide ((1048576 : Int) ≤ (bb : Int)) = true := by simp; omega
            clear hbl
            go_wp2_with fail
            refine (HAL.out _).mono ?_
            rintro e w6 ⟨rfl, hb6⟩
            have HB6 := Lib.hid (HBJ.out.trans (hb6.mono HBJ.out.size))
            clear hb6
            go_wp2_with fail
            go_ret
            exact ⟨rfl, HEND.out _ HB6.out⟩
          have hbl' : decide ((1048576 : Int) ≤ (bb : Int)) = false := by simp; omega
          have HBL := Lib.hid hbl
          clear hbl
          go_wp2_with fail
          refine (HSE.out bb wr HBJ.out).mono ?_
          rintro e w6 ⟨rfl, hb6⟩
          have HB6 := Lib.hid (HBj.out.trans (hb6.mono HBj.out.size))
          have HBW6 := Lib.hid (HBJ.out.trans (hb6.mono HBJ.out.size))
          clear hb6 k0 k1 k2 hzj
          obtain ⟨sb, hsb⟩ : ∃ sb, segI X bb = sb := ⟨_, rfl⟩
          rw [hsb] at HSTJ ⊢
          clear hsb
          by_cases hss : sb = (s : Int)
          rotate_left
          · have hss' : (sb != (s : Int)) = true := by simpa using hss
            have hss2 : (sb == (s : Int)) = false := by simpa using hss
            clear hss
            go_wp2_with fail
            refine (HAL.out _).mono ?_
            rintro e w7 ⟨rfl, hb7⟩
            have HB7 := Lib.hid (HBW6.out.trans (hb7.mono HBW6.out.size))
            clear hb7
            go_wp2_with fail
            go_ret
            exact ⟨rfl, HEND.out _ HB7.out⟩
          subst hss
          have k0 := cell_at HBW6.out HK.out.1 rfl
          have k1 := cell_at HBW6.out HK.out.2.1 rfl
          have k2 := cell_at HBW6.out HK.out.2.2 rfl
          have hz6 : w.heap.size < w6.heap.size := World.block_lt_of_cell? _ _ k0
          go_wp2_with fail
          refine (HCH.out bb w6 HBW6.out).mono ?_
          rintro e w7 ⟨v7, rfl, hl7, hb7⟩
          have HB7 := Lib.hid (HB6.out.trans (hb7.mono HB6.out.size))
          obtain ⟨a7, c7, rfl, hr7, _, _⟩ := hl7.form
          have HR7 := Lib.hid hr7
          rw [i64s_length]
          have hdl4 := chainOf_len X bb
          have hst := HSTJ.out HBL.out (by first | rfl | trivial)
          clear hl7 hb7 hr7 k0 k1 k2 hz6
          generalize chainOf X bb = dl at *
          obtain ⟨dn, hdn⟩ : ∃ dn, dl.length = dn := ⟨_, rfl⟩
          have HDN := Lib.hid hdn
          have HSC := Lib.hid (sameChain_any cl dl a4 a7 c4 c7 w7.heap.size w7 ((HR4'.out.below HB7.out (Nat.le_refl _)).mono HB7.out.size) HR7.out (Nat.le_refl _) (by have := HCN.out; have := HCL4.out; omega) (by omega))
          rw [HCN.out, hdn] at HSC
          rw [hdn] at hdl4 ⊢
          obtain ⟨t, ht⟩ : ∃ t, decide (cl = dl) = t := ⟨_, rfl⟩
          rw [ht] at HSC
          have ht2 : ((j : Int) == (m : Int)) = t := by
            rw [← ht]
            by_cases hjm2 : j = m
            · rw [hst.2.1 hjm2, hjm2]; simp
            · have h1 : cl ≠ dl := (hst.2.2 (by omega)).1
              have h2 : ¬ (j : Int) = (m : Int) := by omega
              rw [decide_eq_false h1]
              simpa using h2
          have HOFF : Hid (j < m → ∀ u ∈ dl, u ∉ cl) := Lib.hid (fun h => (hst.2.2 h).2)
          have HDL4 := Lib.hid hdl4
          clear hst ht hdn hdl4
          have hdn4 : (dn : Int) ≤ 4 := by have := HDL4.out; omega
          go_wp2_with fail
          refine HSC.out.mono ?_
          rintro e w8 ⟨rfl, hb8⟩
          have HB8 := Lib.hid (HB7.out.trans (hb8.mono HB7.out.size))
          have HR8 := Lib.hid (HR7.out.below hb8 (Nat.le_refl _))
          have HS8 := Lib.hid hb8.size
          clear hb8
          go_wp2_with fail
          obtain ⟨j1, hj1'⟩ : ∃ j1, j + 1 = j1 := ⟨_, rfl⟩
          have hj3 : (j : Int) + 1 = (j1 : Int) := by omega
          have hj4 : IntKind.u64.wrap (j1 : Int) = (j1 : Int) := wrap_u64_nat _ (by have := HMM.out; omega)
          have HJ1 := Lib.hid hj1'
          clear hj1' hjm hjm' hbb2 hbb3 hbl'
          go_loopw [15] (fun i wr => ∃ k : Nat, k ≤ dn ∧ i = .int .i64 (k : Int) ∧ Hid (Below w8.heap.size w8 wr)) (fun i _ => dn - (intOf i).toNat)
          case atStart => exact ⟨0, Nat.zero_le _, rfl, Lib.hid (Below.refl _ _)⟩
          case round =>
            obtain ⟨k2, hk2, rfl, HBk2⟩ := hrel
            have HBT := Lib.hid (HB8.out.trans (HBk2.out.mono HB8.out.size))
            rcases Nat.lt_or_ge k2 dn with hl1 | hl1
            rotate_left
            · obtain rfl : k2 = dn := by omega
              clear hl1
              go_wp2_with fail
              go_roundw
              case rel => exact ⟨j1, by have := HJ1.out; omega, by have := HJ1.out; have := HHJ.out; omega, rfl, HBT⟩
              case measure => have := HJ1.out; have := HHJ.out; simp [intOf]; omega
            have hl2 : decide ((k2 : Int) < (dn : Int)) = true := by simp; omega
            have hl3 : decide (k2 < dn) = true := by simp; omega
            rcases Nat.lt_or_ge j m with hl4 | hl4
            rotate_left
            · have hl5 : decide ((j : Int) < (m : Int)) = false := by simp; omega
              have hl6 : decide (j < m) = false := by simp; omega
              clear hl4
              go_wp2_with fail
              go_roundw
              case rel => exact ⟨j1, by have := HJ1.out; omega, by have := HJ1.out; have := HHJ.out; omega, rfl, HBT⟩
              case measure => have := HJ1.out; have := HHJ.out; simp [intOf]; omega
            have hl5 : decide ((j : Int) < (m : Int)) = true := by simp; omega
            have hl6 : decide (j < m) = true := by simp; omega
            have hkL : k2 < dl.length := by rw [HDN.out]; exact hl1
            obtain ⟨b9, off9, rfl, hb9, hc9⟩ := (HR8.out.below HBk2.out HS8.out).i64 (show 0 < dl.length by omega)
            have q1 := hc9 k2 hkL
            clear hc9
            have hk0 : (0 : Int) ≤ (k2 : Int) := by omega
            have hk1 : (k2 : Int) < (dn : Int) := by omega
            have hmem := HOFF.out hl4 (dl.getD k2 0) (by rw [List.getD_eq_getElem?_getD, List.getElem?_eq_getElem hkL]; exact List.getElem_mem hkL)
            generalize dl.getD k2 0 = x at *
            have HHX := Lib.hid (HHC.out x)
            have hd : decide (x ∈ cl) = false := by simpa using hmem
            rw [hd] at HHX
            clear hmem hd hl4 hl1
            go_wp2_with fail
            refine (HHX.out _ HBT.out).mono ?_
            rintro e w9 ⟨rfl, hb9'⟩
            have HB9 := Lib.hid (HBk2.out.trans (hb9'.mono HBk2.out.size))
            clear hb9' q1
            go_wp2_with fail
            go_roundw
            case rel => exact ⟨k2 + 1, by omega, by go_num, HB9⟩
            case measure => simp [intOf]; omega

end Go.Proofs.Ytjpahookioenpaa
