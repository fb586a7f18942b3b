/-
  repair of package layout: a chain filled up, by its contract. No claim of its own.
-/
import Derived.Test.YtkdgoopldaoihaaGb17
import Derived.BigQuiet
import Derived.Test.YtkdgoopldaoihaaGb6
namespace Go.Proofs.Ytkdgoopldaoihaa
open Go.RowKit Go.Deep Go.Shelf
set_option linter.unusedVariables false
set_option linter.unusedSimpArgs false

/-- what is filled up already, and what is left of the fresh ones -/
abbrev FS := List (List Int × List Int) × List Int
def lookF (D : List (List Int × List Int)) (c : List Int) : Option (List Int) := (D.find? fun p => decide (p.1 = c)).map (·.2)
def leftOf (dr c : List Int) : List Int := c.filter fun u => !decide (u ∈ dr)
/-- a chain, filled up -/
def fill1 (dr : List Int) (S : FS) (c : List Int) : Int × FS × List Int :=
  match lookF S.1 c with
  | some now => (0, S, now)
  | none => if (leftOf dr c).length = 0 then (191, S, []) else if S.2.length < c.length - (leftOf dr c).length then (1, S, []) else (0, (S.1 ++ [(c, leftOf dr c ++ S.2.take (c.length - (leftOf dr c).length))], S.2.drop (c.length - (leftOf dr c).length)), leftOf dr c ++ S.2.take (c.length - (leftOf dr c).length))


/-- a repair in memory -/
structure RepS (w : World) (B q b : Nat) (a1 : Option Addr) (c1 : Nat) (dr : List Int) (S : FS) : Prop where
  ex : ∃ (a2 : Option Addr) (c2 : Nat) (D : List (List Int × ChT)), Own w q 74 [.slice a1 dr.length c1, .slice a2 S.2.length c2, .map (some b)] ∧ Ro w B a2 (i64s S.2) ∧ S.2.length ≤ c2 ∧ c2 ≤ 9223372036854775807 ∧ (a2 = none → c2 = 0) ∧ MapK w b (D.map fun p => (p.1, ChT.val p.2)) ∧ S.1 = D.map (fun p => (p.1, p.2.u)) ∧ ∀ p ∈ D, ChP p.1 ∧ Lst w B 3 p.2.val (i64s p.2.u)
  row : Ro w B a1 (i64s dr)
  hq : B ≤ q
  hb : B ≤ b
  hd : dr.length ≤ 1000000
theorem RepS.notInt {w : World} {B q b : Nat} {a1 : Option Addr} {c1 : Nat} {dr : List Int} {S : FS} (h : RepS w B q b a1 c1 dr S) : ∀ x ∈ [q, b], ∀ cur, w.heap[x]? ≠ some (.cells cur 3 (0, 0)) := by
  obtain ⟨a2, c2, D, h1, h2, h3, h4, h4b, h5, h6, h7⟩ := h.ex
  intro x hx cur he
  simp only [List.mem_cons, List.not_mem_nil, or_false] at hx
  rcases hx with rfl | rfl
  · unfold Own at h1
    rw [h1] at he
    injection he with he
    injection he with _ he _
    exact absurd he (by decide)
  · obtain ⟨es, clock, g1, g2⟩ := h5
    rw [g1] at he
    injection he with he
    cases he
theorem RepS.kept {w w' : World} {B q b : Nat} {a1 : Option Addr} {c1 : Nat} {dr : List Int} {S : FS} (h : RepS w B q b a1 c1 dr S) (hc : Below w.heap.size w w') : RepS w' B q b a1 c1 dr S := by
  obtain ⟨a2, c2, D, h1, h2, h3, h4, h4b, h5, h6, h7⟩ := h.ex
  have hB : B ≤ w.heap.size := Nat.le_trans h.hq (Nat.le_of_lt h1.lt)
  have hcc : Chg [] w w' := (Chg.refl [] w).of_below hc
  exact ⟨⟨a2, c2, D, h1.below hc h1.lt, h2.below hc hB, h3, h4, h4b, h5.chg hcc (by simp), h6, fun p hp => ⟨(h7 p hp).1, (h7 p hp).2.below hc (Nat.le_refl _)⟩⟩, h.row.below hc hB, h.hq, h.hb, h.hd⟩
theorem lookD_lookF (D : List (List Int × ChT)) (c : List Int) : lookD (D.map fun p => (p.1, ChT.val p.2)) c = (D.find? fun p => decide (p.1 = c)).map (fun p => p.2.val) ∧ lookF (D.map fun p => (p.1, p.2.u)) c = (D.find? fun p => decide (p.1 = c)).map (fun p => p.2.u) := by
  unfold lookD lookF
  rw [List.find?_map, List.find?_map]
  constructor <;> · simp only [Function.comp_def, Option.map_map]

set_option maxHeartbeats 400000 in
theorem rp1_any (u : Int) (bx q n c1 B : Nat) (a1 : Option Addr) (dr : List Int) (w : World) (h : w.cell? ⟨bx, 0, none⟩ = some (.pointer (some ⟨q, 0, none⟩))) (h1 : w.cell? ⟨q, 0, none⟩ = some (.slice a1 dr.length c1)) (hro : Ro w B a1 (i64s dr)) (hl : dr.length ≤ 1000000) :
    Calls Try.prog 90 #[.int .i64 u, .pointer (some ⟨bx, 0, none⟩)] w fun e w' => e = .returned (.bool (decide (u ∈ dr))) ∧ w' = w := by
  have HC := Lib.hid (contains_any a1 c1 B dr u w hro hl)
  generalize decide (u ∈ dr) = t at *
  clear hl hro
  generalize dr.length = m at *
  go_enter Try.func90, Try.ntmps90
  go_wp2_with fail
  refine HC.out.mono ?_
  rintro e w' ⟨rfl, rfl⟩
  go_wp2_with fail
  go_ret
  exact ⟨rfl, rfl⟩

/-- what a call of chain leaves -/
def R1 (w : World) (B q b : Nat) (a1 : Option Addr) (c1 : Nat) (dr : List Int) (r : Int × FS × List Int) (e : Ending) (w' : World) : Prop :=
  ∃ v, e = .returned (.tuple #[v, .int .i64 r.1]) ∧ RepS w' B q b a1 c1 dr r.2.1 ∧ Chg [q, b] w w' ∧ (r.1 = 0 → ∃ T : ChT, v = T.val ∧ T.u = r.2.2 ∧ Lst w' B 3 v (i64s T.u)) ∧ (r.1 ≠ 0 → v = .slice none 0 0)
set_option maxHeartbeats 4000000 in
set_option maxRecDepth 100000 in
theorem chainR_any (A : ChT) (B q b : Nat) (a1 : Option Addr) (c1 : Nat) (dr : List Int) (S : FS) (w : World) (h : RepS w B q b a1 c1 dr S) (hA : ChP A.u) (hro : Ro w B A.a (i64s A.u)) :
    Calls Try.prog 64 #[.pointer (some ⟨q, 0, none⟩), A.val] w (R1 w B q b a1 c1 dr (fill1 dr S A.u)) := by
  obtain ⟨W, HWW⟩ : ∃ W, Hid (w.alloc (.cells #[.pointer (some ⟨q, 0, none⟩)] 103) = W) := ⟨_, Lib.hid rfl⟩
  have hWb : Below w.heap.size w W := by rw [← HWW.out]; exact (Below.refl _ _).alloc (Nat.le_refl _) _
  have o1 : Own W w.heap.size 103 [.pointer (some ⟨q, 0, none⟩)] := by rw [← HWW.out]; exact Own.new w _ _
  have hBw : B ≤ w.heap.size := by
    obtain ⟨a2, c2, D, h1, _⟩ := h.ex
    exact Nat.le_trans h.hq (Nat.le_of_lt h1.lt)
  obtain ⟨ua, uc, us⟩ := A
  simp only [ChT.val] at *
  have HK := Lib.hid (keyOf_any us hA ua uc B W (hro.below hWb hBw) (Nat.le_trans hBw hWb.size))
  have HRO := Lib.hid hro
  have HA := Lib.hid hA
  have HB := Lib.hid hWb
  have HO := Lib.hid o1
  have HREP := Lib.hid h
  have HS := Lib.hid hBw
  clear hWb o1 hBw h hA hro
  obtain ⟨n, HN⟩ : ∃ n, Hid (us.length = n) := ⟨_, Lib.hid rfl⟩
  rw [HN.out] at HK ⊢
  unfold keyV at HK
  obtain ⟨k0, hk0⟩ : ∃ x, kk us us.length 0 = x := ⟨_, rfl⟩
  obtain ⟨k1, hk1⟩ : ∃ x, kk us us.length 1 = x := ⟨_, rfl⟩
  obtain ⟨k2, hk2⟩ : ∃ x, kk us us.length 2 = x := ⟨_, rfl⟩
  obtain ⟨k3, hk3⟩ : ∃ x, kk us us.length 3 = x := ⟨_, rfl⟩
  rw [hk0, hk1, hk2, hk3] at HK
  have HKV : Hid (keyV us = .agg #[.int .i64 k0, .int .i64 k1, .int .i64 k2, .int .i64 k3]) := Lib.hid (by unfold keyV; rw [hk0, hk1, hk2, hk3])
  clear hk0 hk1 hk2 hk3
  obtain ⟨r, HRR⟩ : ∃ r, Hid (fill1 dr S us = r) := ⟨_, Lib.hid rfl⟩
  rw [HRR.out]
  go_enter Try.func64, Try.ntmps64
  go_upto_region 1 with fail
  rw [HWW.out]
  go_wp2_with fail
  refine HK.out.mono ?_
  rintro e w1 ⟨rfl, hb⟩
  have HB1 : Hid (Below w.heap.size w w1) := Lib.hid (HB.out.trans (hb.mono HB.out.size))
  have HO1 := Lib.hid (HO.out.below hb HO.out.lt)
  obtain ⟨W2, HW2⟩ : ∃ W2, Hid (w1.alloc (.cells #[.int .i64 k0, .int .i64 k1, .int .i64 k2, .int .i64 k3] 128) = W2) := ⟨_, Lib.hid rfl⟩
  have hB2 : Below w.heap.size w W2 := by rw [← HW2.out]; exact HB1.out.alloc HB1.out.size _
  have oK : Own W2 w1.heap.size 128 [.int .i64 k0, .int .i64 k1, .int .i64 k2, .int .i64 k3] := by rw [← HW2.out]; exact Own.new w1 _ _
  have oB : Own W2 w.heap.size 103 [.pointer (some ⟨q, 0, none⟩)] := by rw [← HW2.out]; exact HO1.out.alloc _
  have hR2 := HREP.out.kept hB2.drew
  clear hb
  obtain ⟨a2, c2, D, h1, h2, h3, h4, h4b, h5, h6, h7⟩ := hR2.ex
  have hD : ∀ p ∈ D.map (fun p => (p.1, ChT.val p.2)), ChP p.1 := by
    intro p hp
    obtain ⟨x, hx, rfl⟩ := List.mem_map.1 hp
    exact (h7 x hx).1
  have HLK := h5.look hD HA.out
  obtain ⟨g1, g2⟩ := lookD_lookF D us
  rw [← h6] at g2
  rw [HKV.out, g1] at HLK
  have d0 := h1.cell 0
  have d1 := h1.cell 1
  have d2 := h1.cell 2
  have e0 := oK.cell 0
  have e1 := oK.cell 1
  have e2 := oK.cell 2
  have e3 := oK.cell 3
  have b0 := oB.cell 0
  simp at d0 d1 d2 e0 e1 e2 e3 b0
  go_wp2_with fail
  rw [HW2.out]
  cases hfd : D.find? (fun p => decide (p.1 = us)) with
  | some p =>
    rw [hfd] at HLK g2
    have hpD := List.mem_of_find?_eq_some hfd
    have hfill : fill1 dr S us = (0, S, p.2.u) := by unfold fill1; rw [g2]; rfl
    have HFI := Lib.hid (HRR.out.symm.trans hfill)
    have HLT := Lib.hid (h7 p hpD).2
    obtain ⟨pc, ⟨ta, tc, tu⟩⟩ := p
    simp only [ChT.val, Option.map_some, Option.getD_some, Option.isSome_some] at HLK HLT
    have HR2 := Lib.hid hR2
    have HB2 := Lib.hid hB2
    clear hR2 hB2 h1 h2 h3 h4 h4b h5 h6 h7 hD g1 g2 hfd hpD hfill
    obtain ⟨tn, HTN⟩ : ∃ tn, Hid (tu.length = tn) := ⟨_, Lib.hid rfl⟩
    rw [HTN.out] at HLK HLT
    go_region
    go_wp2_with fail
    go_ret2
    rw [HFI.out]
    exact ⟨.slice ta tn tc, rfl, HR2.out, ((Chg.refl [q, b] w).of_below HB2.out).drew, fun _ => ⟨⟨ta, tc, tu⟩, by show Value.slice ta tn tc = .slice ta tu.length tc; rw [HTN.out], rfl, HLT.out⟩, fun h => absurd rfl h⟩
  | none =>
    rw [hfd] at HLK g2
    simp only [Option.map_none, Option.getD_none, Option.isSome_none] at HLK
    have hfill : fill1 dr S us = if (leftOf dr us).length = 0 then (191, S, []) else if S.2.length < us.length - (leftOf dr us).length then (1, S, []) else (0, (S.1 ++ [(us, leftOf dr us ++ S.2.take (us.length - (leftOf dr us).length))], S.2.drop (us.length - (leftOf dr us).length)), leftOf dr us ++ S.2.take (us.length - (leftOf dr us).length)) := by unfold fill1; rw [g2]; rfl
    have HLN : Hid (lookD (D.map fun p => (p.1, ChT.val p.2)) us = none) := Lib.hid (by rw [g1, hfd]; rfl)
    rw [HN.out] at hfill
    have HFI := Lib.hid (HRR.out.symm.trans hfill)
    have HBd : Hid (Below w.heap.size w W2.drew) := Lib.hid hB2.drew
    have HOK : Hid (Own W2.drew w1.heap.size 128 [.int .i64 k0, .int .i64 k1, .int .i64 k2, .int .i64 k3]) := Lib.hid oK
    have HOB : Hid (Own W2.drew w.heap.size 103 [.pointer (some ⟨q, 0, none⟩)]) := Lib.hid oB
    have HOQ := Lib.hid h1
    have HRF := Lib.hid h2
    have HMK := Lib.hid h5
    have HD6 := Lib.hid h6
    have HD7 := Lib.hid h7
    have HDD := Lib.hid hD
    have HC3 := Lib.hid (And.intro h3 (And.intro h4 h4b))
    have HRow := Lib.hid hR2.row
    have HLe := Lib.hid (And.intro hR2.hq (And.intro hR2.hb hR2.hd))
    have HNI := Lib.hid hR2.notInt
    have HCL := Lib.hid (clone_int ua uc B us W2.drew (HRO.out.below hB2.drew HS.out) (by have := HA.out.1; omega) (by have := HA.out.1; omega))
    rw [HN.out] at HCL
    clear hR2 hB2 h1 h2 h3 h4 h4b h5 h6 h7 hD g1 g2 hfd hfill oK oB
    go_region
    clear HLK
    have HW1 : Hid (w1.heap.size < W2.drew.heap.size) := Lib.hid HOK.out.lt
    generalize W2.drew = Wd at *
    clear d0 d1 d2 e0 e1 e2 e3 b0 HW2
    go_wp2_with fail
    refine HCL.out.mono ?_
    rintro e w3 ⟨v1, rfl, hl1, hb3⟩
    have HB3 := Lib.hid hb3
    have HDE := Lib.hid (delete_int v1 Wd.heap.size us (fun u => decide (u ∈ dr)) 90 #[.pointer (some ⟨w.heap.size, 0, none⟩)] (enters_of Try.func90 (by kernel_rfl) rfl) w3 hl1 (by have := HA.out.1; omega) (by have := HA.out.1; omega) hb3.size (fun W x hW => by
      have hWW := HB3.out.trans hW
      have t1 := (HOB.out.below hWW HOB.out.lt).cell 0
      have t2 := (HOQ.out.below hWW HOQ.out.lt).cell 0
      exact rp1_any x w.heap.size q 0 c1 B a1 dr W (by simpa using t1) (by simpa using t2) (HRow.out.below hWW (Nat.le_trans HS.out HBd.out.size)) HLe.out.2.2))
    clear hl1 hb3
    obtain ⟨ln, hln⟩ : ∃ ln, (leftOf dr us).length = ln := ⟨_, rfl⟩
    have HLN2 := Lib.hid hln
    have hle : ln ≤ n := by rw [← hln, ← HN.out]; exact List.length_filter_le _ _
    change Hid (Calls _ _ _ _ fun e w' => ∃ v', e = .returned v' ∧ Lst w' Wd.heap.size 3 v' (i64s (leftOf dr us)) ∧ Below Wd.heap.size w3 w' ∧ (∃ a c, v' = .slice a (leftOf dr us).length c ∧ us.length ≤ c)) at HDE
    rw [hln] at HDE
    obtain ⟨lo, hlo⟩ : ∃ lo, n - ln = lo := ⟨_, rfl⟩
    have hsub : (n : Int) - (ln : Int) = (lo : Int) := by omega
    have HLO := Lib.hid hlo
    obtain ⟨fn, hfn⟩ : ∃ fn, S.2.length = fn := ⟨_, rfl⟩
    rw [hfn] at HOQ HC3
    have HFN := Lib.hid hfn
    have HLE := Lib.hid hle
    have hn0 : (0 : Int) ≤ (lo : Int) := by omega
    have hn4 : (lo : Int) ≤ 4 := by have := HA.out.1; have := HN.out; omega
    clear hln hlo hfn hle
    go_wp2_with fail
    refine HDE.out.mono ?_
    rintro e w4 ⟨v2, rfl, hl2, hb4, a4, c4, rfl, hc4⟩
    have HB4 : Hid (Below Wd.heap.size Wd w4) := Lib.hid (HB3.out.trans hb4)
    have HL2 := Lib.hid hl2
    have HC4 := Lib.hid hc4
    have HOB4 := Lib.hid (HOB.out.below HB4.out HOB.out.lt)
    have HOQ4 := Lib.hid (HOQ.out.below HB4.out HOQ.out.lt)
    have b0 := HOB4.out.cell 0
    have d0 := HOQ4.out.cell 0
    have d1 := HOQ4.out.cell 1
    have d2 := HOQ4.out.cell 2
    simp at b0 d0 d1 d2
    have HCH : Hid (Chg [q, b] w Wd) := Lib.hid ((Chg.refl [q, b] w).of_below HBd.out)
    have HRP : Hid (RepS w4 B q b a1 c1 dr S) := Lib.hid (HREP.out.kept (HBd.out.trans (HB4.out.mono HBd.out.size)))
    clear hl2 hb4 hc4
    by_cases h0 : ln = 0
    · subst h0
      have hr := HFI.out.trans (if_pos HLN2.out)
      have HR9 := Lib.hid hr
      clear hr
      go_wp2_with fail
      go_ret2
      rw [HR9.out]
      exact ⟨_, rfl, HRP.out, HCH.out.of_below HB4.out, fun h => by simp at h, fun _ => rfl⟩
    · have hr := HFI.out.trans (if_neg (by rw [HLN2.out]; exact h0))
      have HR8 := Lib.hid hr
      clear hr
      have h0' : ((ln : Int) == 0) = false := by rw [beq_eq_false_iff_ne]; omega
      clear h0
      by_cases hg : fn < lo
      · have hr := HR8.out.trans (if_pos (by rw [HFN.out, HLN2.out, HLO.out]; exact hg))
        have HR9 := Lib.hid hr
        clear hr
        have hg' : (fn : Int) < (lo : Int) := by omega
        clear hg
        go_wp2_with fail
        go_ret2
        rw [HR9.out]
        exact ⟨_, rfl, HRP.out, HCH.out.of_below HB4.out, fun h => by simp at h, fun _ => rfl⟩
      · have hr := HR8.out.trans (if_neg (by rw [HFN.out, HLN2.out, HLO.out]; exact hg))
        have HR9 := Lib.hid hr
        clear hr
        have hg' : decide ((fn : Int) < (lo : Int)) = false := by simp; omega
        have HGG := Lib.hid hg
        clear hg
        have hlc : (lo : Int) ≤ (c2 : Int) := by have := HC3.out.1; have := HGG.out; omega
        have HBB4 : Hid (Below w.heap.size w w4) := Lib.hid (HBd.out.trans (HB4.out.mono HBd.out.size))
        have HTK : Hid ((S.2.take lo).length = lo) := Lib.hid (by rw [List.length_take]; have := HGG.out; have := HFN.out; omega)
        have HRT : Hid (Ro w4 B a2 (i64s (S.2.take lo))) := Lib.hid (by
          have := (HRF.out.below HB4.out (Nat.le_trans HS.out HBd.out.size)).take lo
          rwa [show (i64s S.2).take lo = i64s (S.2.take lo) by simp [i64s]] at this)
        have HRD : Hid (Ro Wd B (if c2 = lo then a2 else a2.map fun x => x.add lo) (i64s (S.2.drop lo))) := Lib.hid (by
          have := HRF.out.drop lo c2 (by rw [i64s_length, HFN.out]; exact HC3.out.1)
          rwa [show (i64s S.2).drop lo = i64s (S.2.drop lo) by simp [i64s]] at this)
        go_wp2_with (at_builtin; refine wpList_appB rfl (.tmp 46) (.tmp 52) 36 rfl Wd.heap.size 3 (.int .i64 0) 8 Try.underlying36 Try.info_i64 rfl _ (i64s (leftOf dr us)) rfl HL2.out a2 B lo c2 (i64s (S.2.take lo)) rfl (by rw [i64s_length]; exact HTK.out) HRT.out (i64s_one _) (by have := HLN2.out; have := HLE.out; have := HA.out.1; have := HN.out; have := HLO.out; rw [i64s_length]; omega) (by have := HLN2.out; have := HLE.out; have := HA.out.1; have := HN.out; have := HLO.out; rw [i64s_length]; omega) Wd.heap.size Wd HB4.out (Nat.le_refl _) HB4.out.size ?_)
        intro v3 w5 hl5 hb5 hs5
        have HB5 := Lib.hid hb5
        obtain ⟨a3, n3, c3, HV3⟩ : ∃ (a3 : Option Addr) (n3 c3 : Nat), Hid (v3 = .slice a3 n3 c3 ∧ n3 = ((leftOf dr us) ++ S.2.take lo).length) := by
          obtain ⟨a3, c3, h1, _⟩ := hl5.out.form
          exact ⟨a3, _, c3, Lib.hid ⟨h1, by simp [i64s]⟩⟩
        have HL5 : Hid (Lst w5 Wd.heap.size 3 v3 (i64s (leftOf dr us ++ S.2.take lo))) := Lib.hid (by have e : i64s (leftOf dr us ++ S.2.take lo) = i64s (leftOf dr us) ++ i64s (S.2.take lo) := (by simp [i64s]); rw [e]; exact hl5.out)
        clear hl5 hb5 hs5 b0 d0 d1 d2
        obtain ⟨rfl, -⟩ := HV3.out
        have HOB5 := Lib.hid (HOB.out.below HB5.out HOB.out.lt)
        have HOQ5 := Lib.hid (HOQ.out.below HB5.out HOQ.out.lt)
        have b0 := HOB5.out.cell 0
        have d0 := HOQ5.out.cell 0
        have d1 := HOQ5.out.cell 1
        have d2 := HOQ5.out.cell 2
        have f1 := HOQ5.out.frozen 1
        have hz5 := HOQ5.out.lt
        simp at b0 d0 d1 d2
        go_wp2_with fail
        go_region
        obtain ⟨A6, hA6⟩ : ∃ A6, (if c2 = lo then a2 else a2.map fun x => x.add lo) = A6 := ⟨_, rfl⟩
        rw [hA6] at HRD ⊢
        have HA6 := Lib.hid hA6
        clear hA6
        have hqb : b ≠ q := by
          intro e
          obtain ⟨es, clock, g1, _⟩ := HMK.out
          have := HOQ.out
          unfold Own at this
          rw [e, this] at g1
          cases g1
        have hqw : q < w.heap.size := by
          obtain ⟨_, _, _, g1, _⟩ := HREP.out.ex
          exact g1.lt
        have hC6 : Chg [q, b] Wd (w5.setCell ⟨q, 1, none⟩ (.slice A6 (fn - lo) (c2 - lo))) := ((Chg.refl [q, b] Wd).of_below HB5.out).setCell (by simp) _
        have hC5 : Chg [q, b] w5 (w5.setCell ⟨q, 1, none⟩ (.slice A6 (fn - lo) (c2 - lo))) := (Chg.refl [q, b] w5).setCell (by simp) _
        have hC5q : Chg [q] w5 (w5.setCell ⟨q, 1, none⟩ (.slice A6 (fn - lo) (c2 - lo))) := (Chg.refl [q] w5).setCell (by simp) _
        have oq6 : Own (w5.setCell ⟨q, 1, none⟩ (.slice A6 (fn - lo) (c2 - lo))) q 74 [.slice a1 dr.length c1, .slice A6 (fn - lo) (c2 - lo), .map (some b)] := HOQ5.out.set 1 _
        have ob6 : Own (w5.setCell ⟨q, 1, none⟩ (.slice A6 (fn - lo) (c2 - lo))) w.heap.size 103 [.pointer (some ⟨q, 0, none⟩)] := HOB5.out.far (by show w.heap.size ≠ q; omega) _
        have ok6 : Own (w5.setCell ⟨q, 1, none⟩ (.slice A6 (fn - lo) (c2 - lo))) w1.heap.size 128 [.int .i64 k0, .int .i64 k1, .int .i64 k2, .int .i64 k3] := (HOK.out.below HB5.out HOK.out.lt).far (by show w1.heap.size ≠ q; have := HB1.out.size; omega) _
        have hm6 : MapK (w5.setCell ⟨q, 1, none⟩ (.slice A6 (fn - lo) (c2 - lo))) b (D.map fun p => (p.1, ChT.val p.2)) := (HMK.out.chg ((Chg.refl [] Wd).of_below HB5.out) (by simp)).chg hC5q (by simpa using hqb)
        generalize (w5.setCell ⟨q, 1, none⟩ (.slice A6 (fn - lo) (c2 - lo))) = W6 at *
        obtain ⟨w8, hrun, hm8, hc8⟩ := (hm6.chg ((Chg.refl [] W6).drew.drew) (by simp)).put HDD.out HA.out HLN.out (.slice a3 n3 c3)
        rw [HKV.out] at hrun
        clear b0 d0 d1 d2 f1
        have b0 := ob6.cell 0
        have d2 := oq6.cell 2
        have e0 := ok6.cell 0
        have e1 := ok6.cell 1
        have e2 := ok6.cell 2
        have e3 := ok6.cell 3
        simp at b0 d2 e0 e1 e2 e3
        have HX := Lib.hid (And.intro hqb (And.intro hqw (And.intro hC6 (And.intro hC5 (And.intro oq6 (And.intro hm8 hc8))))))
        clear hqb hqw hC6 hC5 hC5q oq6 ob6 ok6 hm6 hm8 hc8
        have HRUN := Lib.hid hrun
        clear hrun
        go_wp2_with fail
        have hrun := HRUN.out
        go_region
        go_wp2_with fail
        go_ret2
        obtain ⟨hqb, hqw, hC6, hC5, oq6, hm8, hc8⟩ := HX.out
        have hc8' : Chg [q, b] W6 w8 := Chg.then (l := [q, b]) (l' := [b]) (Chg.refl [q, b] W6).drew.drew hc8 (fun x hx => Or.inl (List.mem_cons_of_mem q hx))
        have hCW : Chg [q, b] Wd w8 := hC6.trans hc8'
        have hCB : Below B Wd w8 := hCW.below (Nat.le_trans HS.out HBd.out.size) (fun x hx => by
          simp only [List.mem_cons, List.not_mem_nil, or_false] at hx
          rcases hx with rfl | rfl
          · exact HLe.out.1
          · exact HLe.out.2.1)
        have hq8 : Own w8 q 74 [.slice a1 dr.length c1, .slice A6 (fn - lo) (c2 - lo), .map (some b)] := (hc8.block q (by simpa using oq6.lt) (by intro hm; simp only [List.mem_singleton] at hm; exact hqb hm.symm)).trans oq6
        have hBd := Nat.le_trans HS.out HBd.out.size
        have hl8 : Lst w8 B 3 (.slice a3 n3 c3) (i64s (leftOf dr us ++ S.2.take lo)) := by
          refine (HL5.out.base hBd).chg (hC5.trans hc8') (fun x hx cur he => ?_)
          have hxd : x < Wd.heap.size := by
            simp only [List.mem_cons, List.not_mem_nil, or_false] at hx
            rcases hx with rfl | rfl
            · exact HOQ.out.lt
            · exact HMK.out.lt
          exact HNI.out x hx cur ((HB5.out.block x hxd).symm.trans he)
        have hn3 := HV3.out.2
        rw [HR9.out]
        rw [HLN2.out, HLO.out]
        refine ⟨.slice a3 n3 c3, rfl, ⟨⟨_, c2 - lo, D ++ [(us, ⟨a3, c3, leftOf dr us ++ S.2.take lo⟩)], ?_, HRD.out.below hCB (Nat.le_refl _), ?_, ?_, ?_, ?_, ?_, fun p hp => ?_⟩, HRow.out.below hCB (Nat.le_refl _), HLe.out.1, HLe.out.2.1, HLe.out.2.2⟩, HCH.out.trans hCW, fun _ => ⟨⟨a3, c3, leftOf dr us ++ S.2.take lo⟩, ?_, rfl, hl8⟩, fun h => (h rfl).elim⟩
        · rw [List.length_drop, HFN.out]
          exact hq8
        · rw [List.length_drop, HFN.out]; have := HC3.out.1; omega
        · have := HC3.out.2.1; omega
        · intro h
          have h := HA6.out.trans h
          by_cases hcl : c2 = lo
          · omega
          · rw [if_neg hcl] at h
            have : a2 = none := by simpa using h
            have := HC3.out.2.2 this
            omega
        · have e : (D ++ [(us, (⟨a3, c3, leftOf dr us ++ S.2.take lo⟩ : ChT))]).map (fun p => (p.1, ChT.val p.2)) = D.map (fun p => (p.1, ChT.val p.2)) ++ [(us, .slice a3 n3 c3)] := by
            rw [List.map_append, hn3]; rfl
          rw [e]
          exact hm8
        · rw [List.map_append, ← HD6.out]; rfl
        · rcases List.mem_append.1 hp with hp | hp
          · exact ⟨(HD7.out p hp).1, (HD7.out p hp).2.chg hCW HNI.out⟩
          · simp only [List.mem_singleton] at hp
            subst hp
            refine ⟨HA.out, ?_⟩
            have : ChT.val ⟨a3, c3, leftOf dr us ++ S.2.take lo⟩ = .slice a3 n3 c3 := by rw [hn3]; rfl
            rw [this]
            exact hl8
        · rw [hn3]; rfl
end Go.Proofs.Ytkdgoopldaoihaa
namespace Go.Proofs.Ytkdgoopldaoihaa
open Go.RowKit Go.Deep Go.Shelf
set_option linter.unusedVariables false
set_option linter.unusedSimpArgs false


/-- chains, filled up one after the other -/
def fillC (dr : List Int) : FS → List (List Int) → Int × FS × List (List Int)
  | S, [] => (0, S, [])
  | S, c :: L => if (fill1 dr S c).1 = 0 then ((fillC dr (fill1 dr S c).2.1 L).1, (fillC dr (fill1 dr S c).2.1 L).2.1, (fill1 dr S c).2.2 :: (fillC dr (fill1 dr S c).2.1 L).2.2) else ((fill1 dr S c).1, (fill1 dr S c).2.1, [])
def pre {α : Type} (ns : List α) (r : Int × FS × List α) : Int × FS × List α := (r.1, r.2.1, ns ++ r.2.2)
theorem fillC_step (dr : List Int) (S : FS) (L : List (List Int)) (k : Nat) (hk : k < L.length) : fillC dr S (L.drop k) = if (fill1 dr S (cx L k)).1 = 0 then pre [(fill1 dr S (cx L k)).2.2] (fillC dr (fill1 dr S (cx L k)).2.1 (L.drop (k + 1))) else ((fill1 dr S (cx L k)).1, (fill1 dr S (cx L k)).2.1, []) := by
  have e : L.drop k = cx L k :: L.drop (k + 1) := by
    rw [List.drop_eq_getElem_cons hk]
    congr 1
    simp [cx, List.getD, hk]
  rw [e]
  simp only [fillC, pre, List.cons_append, List.nil_append]
theorem pre_pre {α : Type} (a b : List α) (r : Int × FS × List α) : pre a (pre b r) = pre (a ++ b) r := by simp [pre]
theorem RepS.notT {w : World} {B q b : Nat} {a1 : Option Addr} {c1 : Nat} {dr : List Int} {S : FS} (h : RepS w B q b a1 c1 dr S) (t : TypeId) (ht : t ≠ 74) : ∀ x ∈ [q, b], ∀ cur, w.heap[x]? ≠ some (.cells cur t (0, 0)) := by
  obtain ⟨a2, c2, D, h1, h2, h3, h4, h4b, h5, h6, h7⟩ := h.ex
  intro x hx cur he
  simp only [List.mem_cons, List.not_mem_nil, or_false] at hx
  rcases hx with rfl | rfl
  · unfold Own at h1
    rw [h1] at he
    injection he with he
    injection he with _ he _
    exact ht he.symm
  · obtain ⟨es, clock, g1, g2⟩ := h5
    rw [g1] at he
    injection he with he
    cases he

theorem RepS.chgT {w w' : World} {B q b : Nat} {a1 : Option Addr} {c1 : Nat} {dr : List Int} {S : FS} {l : List Nat} (h : RepS w B q b a1 c1 dr S) (hc : Chg l w w') (hl : ∀ x ∈ l, B ≤ x ∧ ∃ cur t, w.heap[x]? = some (.cells cur t (0, 0)) ∧ t ≠ 74 ∧ t ≠ 3) : RepS w' B q b a1 c1 dr S := by
  obtain ⟨a2, c2, D, h1, h2, h3, h4, h4b, h5, h6, h7⟩ := h.ex
  have hB : B ≤ w.heap.size := Nat.le_trans h.hq (Nat.le_of_lt h1.lt)
  have hcb : Below B w w' := hc.below hB (fun x hx => (hl x hx).1)
  have hqn : q ∉ l := fun hq => by
    obtain ⟨_, cur, t, g1, g2, g3⟩ := hl q hq
    unfold Own at h1
    rw [h1] at g1
    injection g1 with g1
    injection g1 with _ g1 _
    exact g2 g1.symm
  have hbn : b ∉ l := fun hb => by
    obtain ⟨_, cur, t, g1, g2, g3⟩ := hl b hb
    obtain ⟨es, clock, k1, _⟩ := h5
    rw [k1] at g1
    injection g1 with g1
    cases g1
  refine ⟨⟨a2, c2, D, h1.chg hc hqn, h2.below hcb (Nat.le_refl _), h3, h4, h4b, h5.chg hc hbn, h6, fun p hp => ⟨(h7 p hp).1, (h7 p hp).2.chg hc (fun x hx cur he => ?_)⟩⟩, h.row.below hcb (Nat.le_refl _), h.hq, h.hb, h.hd⟩
  obtain ⟨_, cur', t, g1, g2, g3⟩ := hl x hx
  rw [he] at g1
  injection g1 with g1
  injection g1 with _ g1 _
  exact g3 g1.symm

/-- what a call of chains leaves -/
def R2 (w : World) (B q b : Nat) (a1 : Option Addr) (c1 : Nat) (dr : List Int) (r : Int × FS × List (List Int)) (e : Ending) (w' : World) : Prop :=
  ∃ a n c, e = .returned (.tuple #[.slice a n c, .int .i64 r.1]) ∧ RepS w' B q b a1 c1 dr r.2.1 ∧ Chg [q, b] w w' ∧ (r.1 = 0 → ∃ Ts : List ChT, n = Ts.length ∧ chx Ts = r.2.2 ∧ Lst w' w.heap.size 36 (.slice a n c) (chv Ts) ∧ ∀ T ∈ Ts, Lst w' B 3 T.val (i64s T.u))
set_option maxHeartbeats 4000000 in
set_option maxRecDepth 100000 in
theorem chainsR_any (L : List ChT) (a : Option Addr) (c B q b : Nat) (a1 : Option Addr) (c1 : Nat) (dr : List Int) (S : FS) (w : World) (h : RepS w B q b a1 c1 dr S) (hro : Ro w B a (chv L)) (hin : ChIn w B L) (hL : ∀ T ∈ L, ChP T.u) (hl : L.length ≤ 1000000) :
    Calls Try.prog 43 #[.pointer (some ⟨q, 0, none⟩), .slice a L.length c] w (R2 w B q b a1 c1 dr (fillC dr S (chx L))) := by
  have hBw : B ≤ w.heap.size := by
    obtain ⟨a2, c2, D, h1, _⟩ := h.ex
    exact Nat.le_trans h.hq (Nat.le_of_lt h1.lt)
  have HBQ := Lib.hid (And.intro h.hq h.hb)
  have HREP := Lib.hid h
  have HRO := Lib.hid hro
  have HIN := Lib.hid hin
  have HP := Lib.hid hL
  have HS := Lib.hid hBw
  obtain ⟨r, HRR⟩ : ∃ r, Hid (fillC dr S (chx L) = r) := ⟨_, Lib.hid rfl⟩
  rw [HRR.out]
  have HCR := Lib.hid (fun (A : ChT) (S : FS) (W : World) h hA hro => chainR_any A B q b a1 c1 dr S W h hA hro)
  generalize hN : L.length = n at *
  have HN := Lib.hid hN
  have hn1 : (n : Int) ≤ 1000000 := by omega
  clear hro hin hL h hBw hN
  go_enter Try.func43, Try.ntmps43
  go_wp2_with fail
  go_loopw [6, 13] (fun x i wr => ∃ (k : Nat) (Sk : FS) (Ts : List ChT) (v : Value), k ≤ n ∧ i = .int .i64 (k : Int) ∧ v = x ∧ Hid (RepS wr B q b a1 c1 dr Sk) ∧ Hid (Lst wr w.heap.size 36 v (chv Ts)) ∧ Hid (∀ T ∈ Ts, Lst wr B 3 T.val (i64s T.u)) ∧ Hid (Chg [q, b] w wr) ∧ Hid (r = pre (chx Ts) (fillC dr Sk ((chx L).drop k))) ∧ Hid (Ts.length = k)) (fun _ i _ => n - (intOf i).toNat)
  case atStart => exact ⟨0, S, [], _, Nat.zero_le _, rfl, rfl, HREP, Lib.hid (Lst.nil _ _ _), Lib.hid (by simp), Lib.hid (Chg.refl _ _), Lib.hid (by rw [List.drop_zero, HRR.out]; simp [pre, chx]), Lib.hid rfl⟩
  case round =>
    obtain ⟨k, Sk, Ts, v, hk, rfl, rfl, HRk, HLk, HTk, HCk, HEk, HKk⟩ := hrel
    by_cases hlt : k < n
    · have hkL : k < L.length := by rw [HN.out]; exact hlt
      have HCB : Hid (Below B w wr) := Lib.hid (HCk.out.below HS.out (fun x hx => by
        simp only [List.mem_cons, List.not_mem_nil, or_false] at hx
        rcases hx with rfl | rfl
        · exact HBQ.out.1
        · exact HBQ.out.2))
      obtain ⟨b2, off, rfl, hb, hcc⟩ := (HRO.out.below HCB.out (Nat.le_refl _)).ch (show 0 < L.length by omega)
      have e1 := hcc k hkL
      clear hcc
      have hk0 : (0 : Int) ≤ (k : Int) := by omega
      have hk1 : (k : Int) < (n : Int) := by omega
      have HC := Lib.hid (HCR.out (ct L k) Sk wr HRk.out (HP.out _ (ct_mem hkL)) ((HIN.out _ (ct_mem hkL)).below HCB.out (Nat.le_refl _)))
      have hst := fillC_step dr Sk (chx L) k (by simpa using hkL)
      rw [cx_chx] at hst
      have HST := Lib.hid hst
      clear hst
      generalize hT : ct L k = T at *
      clear hT
      obtain ⟨ta, tc, tu⟩ := T
      simp only [ChT.val] at HC HST
      generalize fill1 dr Sk tu = f at *
      obtain ⟨fc, fs, fx⟩ := f
      simp only at HST
      simp only at e1
      generalize tu.length = tn at *
      go_wp2_with fail
      refine HC.out.mono ?_
      rintro e w1 ⟨v1, rfl, hr1, hc1, hok, hno⟩
      have HR1 := Lib.hid hr1
      have HC1 : Hid (Chg [q, b] w w1) := Lib.hid (HCk.out.trans hc1)
      have HL1 : Hid (Lst w1 w.heap.size 36 v (chv Ts)) := Lib.hid (HLk.out.chg hc1 (HRk.out.notT _ (by decide)))
      have HT1 : Hid (∀ T ∈ Ts, Lst w1 B 3 T.val (i64s T.u)) := Lib.hid (fun T hT => (HTk.out T hT).chg hc1 (HRk.out.notT _ (by decide)))
      by_cases hf : fc = 0
      · subst hf
        obtain ⟨T, rfl, hTu, hTl⟩ := hok rfl
        have HTL := Lib.hid hTl
        have HTU := Lib.hid hTu
        have HEQ := Lib.hid (HEk.out.trans (by rw [HST.out, if_pos rfl, pre_pre]))
        clear hr1 hc1 hok hno hTl hTu
        have hTv : T.val = .slice T.a T.u.length T.c := rfl
        rw [hTv]
        generalize hTn : T.u.length = m at *
        have HTN := Lib.hid hTn
        clear hTn hTv
        go_wp2_with (at_builtin; refine wpList_app1g rfl (.tmp 26) (.tmp 28) 41 rfl w.heap.size 36 (.slice none 0 0) 24 Try.underlying41 Try.info_ch rfl (.slice T.a m T.c) rfl v (chv Ts) rfl HL1.out rfl (by rw [chv_length]; have := HKk.out; omega) (by rw [chv_length]; have := HKk.out; omega) HC1.out.size ?_)
        intro v' w2 hl2 hc2
        have hrow := HL1.out.row
        have HR2 : Hid (RepS w2 B q b a1 c1 dr fs) := Lib.hid (HR1.out.chgT hc2 (fun x hx => by
          obtain ⟨h1, cur, h2⟩ := hrow x hx
          exact ⟨Nat.le_trans HS.out h1, cur, _, h2, by decide, by decide⟩))
        have HT2 : Hid (∀ T' ∈ Ts ++ [T], Lst w2 B 3 T'.val (i64s T'.u)) := Lib.hid (fun T' hT' => by
          have h1 : Lst w1 B 3 T'.val (i64s T'.u) := by
            rcases List.mem_append.1 hT' with h | h
            · exact HT1.out T' h
            · simp only [List.mem_singleton] at h
              subst h
              exact HTL.out
          exact h1.chg hc2 (fun x hx cur he => by
            obtain ⟨_, cur', h2⟩ := hrow x hx
            rw [he] at h2
            injection h2 with h2
            injection h2 with _ h2 _
            exact absurd h2 (by decide)))
        have HC2 : Hid (Chg [q, b] w w2) := Lib.hid (HC1.out.then hc2 (fun x hx => .inr (hrow x hx).1))
        have HL2 : Hid (Lst w2 w.heap.size 36 v' (chv (Ts ++ [T]))) := Lib.hid (by
          have e : chv (Ts ++ [T]) = chv Ts ++ [.slice T.a m T.c] := by
            unfold chv
            rw [List.map_append, ← HTN.out]
            rfl
          rw [e]
          exact hl2.out)
        clear hl2 hc2 hrow
        go_wp2_with fail
        go_roundw
        case rel =>
          refine ⟨k + 1, fs, Ts ++ [T], _, by omega, by go_num, rfl, HR2, HL2, HT2, HC2, Lib.hid ?_, Lib.hid (by rw [List.length_append]; have := HKk.out; simp; omega)⟩
          rw [HEQ.out]
          congr 1
          unfold chx
          rw [List.map_append, ← HTU.out]
          rfl
        case measure => simp [intOf]; omega
      · have hv1 := hno hf
        subst hv1
        have HEQ := Lib.hid (HEk.out.trans (by rw [HST.out, if_neg hf]))
        have hf' : (fc != 0) = true := by rw [bne_iff_ne]; exact hf
        have HF := Lib.hid hf
        clear hr1 hc1 hok hno hf
        go_wp2_with fail
        go_ret2
        rw [HEQ.out]
        exact ⟨none, 0, 0, rfl, HR1.out, HC1.out, fun h => absurd h HF.out⟩
    · obtain rfl : k = n := by omega
      have HEQ := Lib.hid (HEk.out.trans (by rw [List.drop_of_length_le (by rw [chx_length, HN.out]; exact Nat.le_refl _)]))
      obtain ⟨av, cv, hv, _, _⟩ := HLk.out.form
      rw [chv_length] at hv
      subst hv
      generalize hTn : Ts.length = m at *
      have HTN := Lib.hid hTn
      clear hTn
      go_wp2_with fail
      go_ret2
      rw [HEQ.out]
      exact ⟨av, m, cv, rfl, HRk.out, HCk.out, fun _ => ⟨Ts, HTN.out.symm, by simp [pre, fillC], HLk.out, HTk.out⟩⟩
end Go.Proofs.Ytkdgoopldaoihaa
namespace Go.Proofs.Ytkdgoopldaoihaa
open Go.RowKit Go.Deep Go.Shelf
set_option linter.unusedVariables false
set_option linter.unusedSimpArgs false

/-- one element of a row of the call's own is set -/
theorem Lst.set {w : World} {base : Nat} {e : TypeId} {g n c : Nat} {xs : List Value} (h : Lst w base e (.slice (some ⟨g, 0, none⟩) n c) xs) (i : Nat) (hi : i < xs.length) (u : Value) : Lst (w.setCell ⟨g, i, none⟩ u) base e (.slice (some ⟨g, 0, none⟩) n c) (xs.set i u) := by
  refine ⟨by simp, ?_⟩
  rcases h.2 with ⟨hv, _⟩ | ⟨g', cap, cur, hv, h2, h3, h4, h5, h6, h7⟩
  · cases hv
  · injection hv with hv hn hc
    injection hv with hv
    injection hv with hv _ _
    subst hv hc
    refine .inr ⟨g, c, cur.set! i u, by rw [hn]; simp, h2, ?_, by simpa using h4, h5, by simpa using h6, ?_⟩
    · have : Own w g e cur.toList := by unfold Own; simpa using h3
      have := this.set i u
      unfold Own at this
      rw [this]
      congr 2
      apply Array.ext'
      simp
    · rw [List.length_set, Array.set!_eq_setIfInBounds, Array.toList_setIfInBounds, List.take_set, h7]
theorem Lst.frozen {w : World} {base : Nat} {e : TypeId} {g n c : Nat} {xs : List Value} (h : Lst w base e (.slice (some ⟨g, 0, none⟩) n c) xs) (i : Nat) : w.frozen? ⟨g, i, none⟩ = false := by
  rcases h.2 with ⟨hv, _⟩ | ⟨g', cap, cur, hv, h2, h3, _⟩
  · cases hv
  · injection hv with hv hn hc
    injection hv with hv
    injection hv with hv _ _
    subst hv
    simp [World.frozen?, h3]

theorem Try.zeroCh : True := trivial
set_option maxHeartbeats 400000 in
theorem cloneC_any (a : Option Addr) (c B : Nat) (L : List ChT) (w : World) (hro : Ro w B a (chv L)) (h0 : 0 < L.length) (hl : L.length ≤ 1000000) :
    Calls Try.prog 92 #[.slice a L.length c] w fun e w' => ∃ g n' c', e = .returned (.slice (some ⟨g, 0, none⟩) L.length c') ∧ Lst w' w.heap.size 36 (.slice (some ⟨g, 0, none⟩) L.length c') (chv L) ∧ Below w.heap.size w w' ∧ n' = g := by
  obtain ⟨i, hi, hz⟩ := Option.map_eq_some_iff.1 Try.info_ch
  simp only [Prod.mk.injEq] at hz
  obtain ⟨b, off, rfl, hb, hc⟩ := hro.ch h0
  refine (AnyE.slices_Clone cloneC i (.slice none 0 0) 1 24 hi hz.1 hz.2.1 hz.2.2 rfl (by omega) (fun w => Try.sizeOf36 w) b off L.length c (chv L) w (by simp) (by unfold maxLen; omega) (by omega) (fun j u hj => ?_) (chv_one L)).mono ?_
  · have hj' : j < L.length := by simpa using (List.getElem?_eq_some_iff.1 hj).1
    rw [hc j hj', ← hj]
    simp [chv, ct, List.getD, hj', ChT.val]
  · rintro e w' ⟨v, rfl, h1, _, h2⟩
    have hl : Lst w' w.heap.size 36 v (chv L) := by unfold Lst; rw [chv_length]; exact h1
    rcases hl.2 with ⟨_, hn⟩ | ⟨g, cap, cur, hv, hrest⟩
    · rw [chv_length] at hn; omega
    · rw [chv_length] at hv
      rw [hv] at hl
      exact ⟨g, g, cap, by rw [hv], hl, h2, rfl⟩

set_option maxHeartbeats 2000000 in
theorem copyOf_any (L : List ChT) (a : Option Addr) (c B : Nat) (w : World) (hro : Ro w B a (chv L)) (hin : ChIn w B L) (hB : B ≤ w.heap.size) (h0 : 0 < L.length) (hl : L.length ≤ 1000000) (hf : ∀ T ∈ L, 0 < T.u.length ∧ T.u.length ≤ 1000000) :
    Calls Try.prog 65 #[.slice a L.length c] w fun e w' => ∃ g c' Ts, e = .returned (.slice (some ⟨g, 0, none⟩) L.length c') ∧ chx Ts = chx L ∧ Lst w' w.heap.size 36 (.slice (some ⟨g, 0, none⟩) L.length c') (chv Ts) ∧ (∀ T ∈ Ts, Lst w' w.heap.size 3 T.val (i64s T.u)) ∧ Below w.heap.size w w' := by
  have HCC := Lib.hid (cloneC_any a c B L w hro h0 hl)
  have HCI := Lib.hid (fun (T : ChT) (hT : T ∈ L) (W : World) (hb : Below w.heap.size w W) => clone_int T.a T.c B T.u W ((hin T hT).below hb hB) (hf T hT).1 (hf T hT).2)
  generalize hN : L.length = n at *
  have HN := Lib.hid hN
  have hn1 : (n : Int) ≤ 1000000 := by omega
  have H0 := Lib.hid h0
  clear hro hin hf hN hB h0
  go_enter Try.func65, Try.ntmps65
  go_wp2_with fail
  refine HCC.out.mono ?_
  rintro e w1 ⟨g, _, c', rfl, hl1, hb1, -⟩
  have HL1 := Lib.hid hl1
  have HB1 := Lib.hid hb1
  clear hl1 hb1
  go_wp2_with fail
  go_loopw [10] (fun i wr => ∃ (k : Nat) (Ts : List ChT), k ≤ n ∧ i = .int .i64 (k : Int) ∧ Hid (Ts.length = k) ∧ Hid (chx Ts = (chx L).take k) ∧ Hid (Lst wr w.heap.size 36 (.slice (some ⟨g, 0, none⟩) n c') (chv (Ts ++ L.drop k))) ∧ Hid (∀ T ∈ Ts, Lst wr w.heap.size 3 T.val (i64s T.u)) ∧ Hid (Below w.heap.size w wr)) (fun i _ => n - (intOf i).toNat)
  case atStart => exact ⟨0, [], Nat.zero_le _, rfl, Lib.hid rfl, Lib.hid (by simp [chx]), Lib.hid (by simpa using HL1.out), Lib.hid (by simp), HB1⟩
  case round =>
    obtain ⟨k, Ts, hk, rfl, HK, HX, HLk, HTk, HBk⟩ := hrel
    by_cases hlt : k < n
    · have hkL : k < L.length := by rw [HN.out]; exact hlt
      have hk0 : (0 : Int) ≤ (k : Int) := by omega
      have hk1 : (k : Int) < (n : Int) := by omega
      have hlen : (chv (Ts ++ L.drop k)).length = n := by rw [chv_length, List.length_append, List.length_drop, HK.out, HN.out]; omega
      have hdk : L.drop k = ct L k :: L.drop (k + 1) := by
        rw [List.drop_eq_getElem_cons hkL]
        congr 1
        simp [ct, List.getD, hkL]
      obtain ⟨_, _, he, hr, _⟩ := HLk.out.form
      injection he with he hx1 hx2
      clear hx1 hx2
      rcases hr with hr | ⟨b2, off2, g1, g2, g3⟩
      · rw [hr] at hlen; simp at hlen; omega
      · rw [← he] at g1
        injection g1 with g1
        injection g1 with g1 go _
        subst g1 go
        have e1 := g3 k (by omega)
        have ek : (chv (Ts ++ L.drop k)).getD k undef = (ct L k).val := by
          unfold chv
          rw [hdk, List.map_append, List.map_cons]
          simp [List.getD, List.getElem?_append_right, HK.out]
        rw [ek, Nat.zero_add] at e1
        have HC := Lib.hid (HCI.out (ct L k) (ct_mem hkL) wr HBk.out)
        have HXK : Hid ((chx L).take (k + 1) = (chx L).take k ++ [(ct L k).u]) := Lib.hid (by rw [cx_take (by simpa using hkL), cx_chx])
        have HSET : Hid (∀ T : ChT, (chv (Ts ++ L.drop k)).set k T.val = chv ((Ts ++ [T]) ++ L.drop (k + 1))) := Lib.hid (fun T => by
          unfold chv
          rw [hdk, List.map_append, List.map_cons, List.set_append, if_neg (by simp [HK.out])]
          simp [HK.out])
        have HLEN := Lib.hid hlen
        clear g3 he hlen hdk ek
        generalize ct L k = T0 at *
        obtain ⟨ta, tc, tu⟩ := T0
        simp only [ChT.val] at e1 HC
        generalize tu.length = tn at *
        go_wp2_with fail
        refine HC.out.mono ?_
        rintro e w2 ⟨v2, rfl, hl2, hb2⟩
        obtain ⟨a2, c2, hv2, _, _⟩ := hl2.form
        rw [i64s_length] at hv2
        have HV2 : Hid (v2 = ChT.val ⟨a2, c2, tu⟩) := Lib.hid hv2
        have HL2 : Hid (Lst w2 w.heap.size 3 (ChT.val ⟨a2, c2, tu⟩) (i64s tu)) := Lib.hid (by rw [← HV2.out]; exact hl2.base HBk.out.size)
        have HB2 : Hid (Below w.heap.size w w2) := Lib.hid (HBk.out.trans (hb2.mono HBk.out.size))
        have HLk2 : Hid (Lst w2 w.heap.size 36 (.slice (some ⟨g, 0, none⟩) n c') (chv (Ts ++ L.drop k))) := Lib.hid (HLk.out.below hb2 (Nat.le_refl _))
        have HTk2 : Hid (∀ T ∈ Ts, Lst w2 w.heap.size 3 T.val (i64s T.u)) := Lib.hid (fun T hT => (HTk.out T hT).below hb2 (Nat.le_refl _))
        have f1 := HLk2.out.frozen k
        have hy := cell_keep hb2 e1 (World.block_lt_of_cell? _ _ e1)
        have hz2 := World.block_lt_of_cell? _ _ hy
        simp only at hz2
        clear hl2 hb2
        subst hv2
        go_wp2_with fail
        go_roundw
        case rel =>
          refine ⟨k + 1, Ts ++ [⟨a2, c2, tu⟩], by omega, by go_num, Lib.hid (by rw [List.length_append, HK.out]; rfl), Lib.hid ?_, Lib.hid ?_, Lib.hid ?_, Lib.hid (HB2.out.setCell ?_ _)⟩
          · rw [HXK.out, ← HX.out]; simp [chx]
          · rw [← HSET.out]
            exact HLk2.out.set k (by rw [HLEN.out]; exact hlt) _
          · intro T hT
            have h1 : Lst w2 w.heap.size 3 T.val (i64s T.u) := by
              rcases List.mem_append.1 hT with h | h
              · exact HTk2.out T h
              · simp only [List.mem_singleton] at h
                subst h
                exact HL2.out
            refine h1.chg ((Chg.refl [g] w2).setCell (by simp) _) (fun x hx cur he => ?_)
            simp only [List.mem_singleton] at hx
            subst hx
            have := HLk2.out.row x (by simp [rowOf, Value.ownBlock])
            obtain ⟨_, cur', h2⟩ := this
            rw [he] at h2
            injection h2 with h2
            injection h2 with _ h2 _
            exact absurd h2 (by decide)
          · exact (HLk2.out.row g (by simp [rowOf, Value.ownBlock])).1
        case measure => simp [intOf]; omega
    · obtain rfl : k = n := by omega
      have hLk := HLk.out
      rw [List.drop_of_length_le (by rw [HN.out]; exact Nat.le_refl _), List.append_nil] at hLk
      have HLk2 := Lib.hid hLk
      have HX2 : Hid (chx Ts = chx L) := Lib.hid (by rw [HX.out, List.take_of_length_le (by rw [chx_length, HN.out]; exact Nat.le_refl _)])
      clear hLk
      go_wp2_with fail
      go_ret
      exact ⟨g, c', Ts, rfl, HX2.out, HLk2.out, HTk.out, HBk.out⟩
end Go.Proofs.Ytkdgoopldaoihaa
