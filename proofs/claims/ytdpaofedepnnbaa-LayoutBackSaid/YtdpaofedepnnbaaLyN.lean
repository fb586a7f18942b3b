/-
  repair of package layout: a chain filled up, by its contract. No claim of its own.
-/
import Derived.Test.YtdpaofedepnnbaaLyM
import Derived.BigQuiet
import Derived.Test.YtdpaofedepnnbaaRw
namespace Go.Proofs.Ytdpaofedepnnbaa
open Go.RowKit Go.Deep Go.Shelf
set_option linter.unusedVariables false
set_option linter.unusedSimpArgs false

/-- what is filled up already, and what is left of the fresh ones -/
abbrev FS := List (List Int × List Int) × List Int
def lookF (D : List (List Int × List Int)) (c : List Int) : Option (List Int) := (D.find? fun p => decide (p.1 = c)).map (·.2)
def leftOf (dr c : List Int) : List Int := c.filter fun u => !decide (u ∈ dr)
/-- a chain, filled up -/
def fill1 (dr : List Int) (S : FS) (c : List Int) : Int × FS × List Int :=
  match lookF S.1 c with
  | some now => (0, S, now)
  | none => if (leftOf dr c).length = 0 then (191, S, []) else if S.2.length < c.length - (leftOf dr c).length then (1, S, []) else (0, (S.1 ++ [(c, leftOf dr c ++ S.2.take (c.length - (leftOf dr c).length))], S.2.drop (c.length - (leftOf dr c).length)), leftOf dr c ++ S.2.take (c.length - (leftOf dr c).length))


/-- a repair in memory -/
structure RepS (w : World) (B q b : Nat) (a1 : Option Addr) (c1 : Nat) (dr : List Int) (S : FS) : Prop where
  ex : ∃ (a2 : Option Addr) (c2 : Nat) (D : List (List Int × ChT)), Own w q 93 [.slice a1 dr.length c1, .slice a2 S.2.length c2, .map (some b)] ∧ Ro w B a2 (i64s S.2) ∧ S.2.length ≤ c2 ∧ c2 ≤ 9223372036854775807 ∧ (a2 = none → c2 = 0) ∧ MapK w b (D.map fun p => (p.1, ChT.val p.2)) ∧ S.1 = D.map (fun p => (p.1, p.2.u)) ∧ ∀ p ∈ D, ChP p.1 ∧ Lst w B 3 p.2.val (i64s p.2.u)
  row : Ro w B a1 (i64s dr)
  hq : B ≤ q
  hb : B ≤ b
  hd : dr.length ≤ 1000000
theorem RepS.notInt {w : World} {B q b : Nat} {a1 : Option Addr} {c1 : Nat} {dr : List Int} {S : FS} (h : RepS w B q b a1 c1 dr S) : ∀ x ∈ [q, b], ∀ cur, w.heap[x]? ≠ some (.cells cur 3 (0, 0)) := by
  obtain ⟨a2, c2, D, h1, h2, h3, h4, h4b, h5, h6, h7⟩ := h.ex
  intro x hx cur he
  simp only [List.mem_cons, List.not_mem_nil, or_false] at hx
  rcases hx with rfl | rfl
  · unfold Own at h1
    rw [h1] at he
    injection he with he
    injection he with _ he _
    exact absurd he (by decide)
  · obtain ⟨es, clock, g1, g2⟩ := h5
    rw [g1] at he
    injection he with he
    cases he
theorem RepS.kept {w w' : World} {B q b : Nat} {a1 : Option Addr} {c1 : Nat} {dr : List Int} {S : FS} (h : RepS w B q b a1 c1 dr S) (hc : Below w.heap.size w w') : RepS w' B q b a1 c1 dr S := by
  obtain ⟨a2, c2, D, h1, h2, h3, h4, h4b, h5, h6, h7⟩ := h.ex
  have hB : B ≤ w.heap.size := Nat.le_trans h.hq (Nat.le_of_lt h1.lt)
  have hcc : Chg [] w w' := (Chg.refl [] w).of_below hc
  exact ⟨⟨a2, c2, D, h1.below hc h1.lt, h2.below hc hB, h3, h4, h4b, h5.chg hcc (by simp), h6, fun p hp => ⟨(h7 p hp).1, (h7 p hp).2.below hc (Nat.le_refl _)⟩⟩, h.row.below hc hB, h.hq, h.hb, h.hd⟩
theorem lookD_lookF (D : List (List Int × ChT)) (c : List Int) : lookD (D.map fun p => (p.1, ChT.val p.2)) c = (D.find? fun p => decide (p.1 = c)).map (fun p => p.2.val) ∧ lookF (D.map fun p => (p.1, p.2.u)) c = (D.find? fun p => decide (p.1 = c)).map (fun p => p.2.u) := by
  unfold lookD lookF
  rw [List.find?_map, List.find?_map]
  constructor <;> · simp only [Function.comp_def, Option.map_map]

set_option maxHeartbeats 400000 in
theorem rp1_any (u : Int) (bx q n c1 B : Nat) (a1 : Option Addr) (dr : List Int) (w : World) (h : w.cell? ⟨bx, 0, none⟩ = some (.pointer (some ⟨q, 0, none⟩))) (h1 : w.cell? ⟨q, 0, none⟩ = some (.slice a1 dr.length c1)) (hro : Ro w B a1 (i64s dr)) (hl : dr.length ≤ 1000000) :
    Calls Try.prog 139 #[.int .i64 u, .pointer (some ⟨bx, 0, none⟩)] w fun e w' => e = .returned (.bool (decide (u ∈ dr))) ∧ w' = w := by
  have HC := Lib.hid (contains_any a1 c1 B dr u w hro hl)
  generalize decide (u ∈ dr) = t at *
  clear hl hro
  generalize dr.length = m at *
  go_enter Try.func139, Try.ntmps139
  go_wp2_with fail
  refine HC.out.mono ?_
  rintro e w' ⟨rfl, rfl⟩
  go_wp2_with fail
  go_ret
  exact ⟨rfl, rfl⟩

/-- what a call of chain leaves -/
def R1 (w : World) (B q b : Nat) (a1 : Option Addr) (c1 : Nat) (dr : List Int) (r : Int × FS × List Int) (e : Ending) (w' : World) : Prop :=
  ∃ v, e = .returned (.tuple #[v, .int .i64 r.1]) ∧ RepS w' B q b a1 c1 dr r.2.1 ∧ Chg [q, b] w w' ∧ (r.1 = 0 → ∃ T : ChT, v = T.val ∧ T.u = r.2.2 ∧ Lst w' B 3 v (i64s T.u)) ∧ (r.1 ≠ 0 → v = .slice none 0 0)
set_option maxHeartbeats 4000000 in
set_option maxRecDepth 100000 in
theorem chainR_any (A : ChT) (B q b : Nat) (a1 : Option Addr) (c1 : Nat) (dr : List Int) (S : FS) (w : World) (h : RepS w B q b a1 c1 dr S) (hA : ChP A.u) (hro : Ro w B A.a (i64s A.u)) :
    Calls Try.prog 102 #[.pointer (some ⟨q, 0, none⟩), A.val] w (R1 w B q b a1 c1 dr (fill1 dr S A.u)) := by
  obtain ⟨W, HWW⟩ : ∃ W, Hid (w.alloc (.cells #[.pointer (some ⟨q, 0, none⟩)] 147) = W) := ⟨_, Lib.hid rfl⟩
  have hWb : Below w.heap.size w W := by rw [← HWW.out]; exact (Below.refl _ _).alloc (Nat.le_refl _) _
  have o1 : Own W w.heap.size 147 [.pointer (some ⟨q, 0, none⟩)] := by rw [← HWW.out]; exact Own.new w _ _
  have hBw : B ≤ w.heap.size := by
    obtain ⟨a2, c2, D, h1, _⟩ := h.ex
    exact Nat.le_trans h.hq (Nat.le_of_lt h1.lt)
  obtain ⟨ua, uc, us⟩ := A
  simp only [ChT.val] at *
  have HK := Lib.hid (keyOf_any us hA ua uc B W (hro.below hWb hBw) (Nat.le_trans hBw hWb.size))
  have HRO := Lib.hid hro
  have HA := Lib.hid hA
  have HB := Lib.hid hWb
  have HO := Lib.hid o1
  have HREP := Lib.hid h
  have HS := Lib.hid hBw
  clear hWb o1 hBw h hA hro
  obtain ⟨n, HN⟩ : ∃ n, Hid (us.length = n) := ⟨_, Lib.hid rfl⟩
  rw [HN.out] at HK ⊢
  unfold keyV at HK
  obtain ⟨k0, hk0⟩ : ∃ x, kk us us.length 0 = x := ⟨_, rfl⟩
  obtain ⟨k1, hk1⟩ : ∃ x, kk us us.length 1 = x := ⟨_, rfl⟩
  obtain ⟨k2, hk2⟩ : ∃ x, kk us us.length 2 = x := ⟨_, rfl⟩
  obtain ⟨k3, hk3⟩ : ∃ x, kk us us.length 3 = x := ⟨_, rfl⟩
  rw [hk0, hk1, hk2, hk3] at HK
  have HKV : Hid (keyV us = .agg #[.int .i64 k0, .int .i64 k1, .int .i64 k2, .int .i64 k3]) := Lib.hid (by unfold keyV; rw [hk0, hk1, hk2, hk3])
  clear hk0 hk1 hk2 hk3
  obtain ⟨r, HRR⟩ : ∃ r, Hid (fill1 dr S us = r) := ⟨_, Lib.hid rfl⟩
  rw [HRR.out]
  go_enter Try.func102, Try.ntmps102
  go_upto_region 1 with fail
  rw [HWW.out]
  go_wp2_with fail
  refine HK.out.mono ?_
  rintro e w1 ⟨rfl, hb⟩
  have HB1 : Hid (Below w.heap.size w w1) := Lib.hid (HB.out.trans (hb.mono HB.out.size))
  have HO1 := Lib.hid (HO.out.below hb HO.out.lt)
  obtain ⟨W2, HW2⟩ : ∃ W2, Hid (w1.alloc (.cells #[.int .i64 k0, .int .i64 k1, .int .i64 k2, .int .i64 k3] 179) = W2) := ⟨_, Lib.hid rfl⟩
  have hB2 : Below w.heap.size w W2 := by rw [← HW2.out]; exact HB1.out.alloc HB1.out.size _
  have oK : Own W2 w1.heap.size 179 [.int .i64 k0, .int .i64 k1, .int .i64 k2, .int .i64 k3] := by rw [← HW2.out]; exact Own.new w1 _ _
  have oB : Own W2 w.heap.size 147 [.pointer (some ⟨q, 0, none⟩)] := by rw [← HW2.out]; exact HO1.out.alloc _
  have hR2 := HREP.out.kept hB2.drew
  clear hb
  obtain ⟨a2, c2, D, h1, h2, h3, h4, h4b, h5, h6, h7⟩ := hR2.ex
  have hD : ∀ p ∈ D.map (fun p => (p.1, ChT.val p.2)), ChP p.1 := by
    intro p hp
    obtain ⟨x, hx, rfl⟩ := List.mem_map.1 hp
    exact (h7 x hx).1
  have HLK := h5.look hD HA.out
  obtain ⟨g1, g2⟩ := lookD_lookF D us
  rw [← h6] at g2
  rw [HKV.out, g1] at HLK
  have d0 := h1.cell 0
  have d1 := h1.cell 1
  have d2 := h1.cell 2
  have e0 := oK.cell 0
  have e1 := oK.cell 1
  have e2 := oK.cell 2
  have e3 := oK.cell 3
  have b0 := oB.cell 0
  simp at d0 d1 d2 e0 e1 e2 e3 b0
  go_wp2_with fail
  rw [HW2.out]
  cases hfd : D.find? (fun p => decide (p.1 = us)) with
  | some p =>
    rw [hfd] at HLK g2
    have hpD := List.mem_of_find?_eq_some hfd
    have hfill : fill1 dr S us = (0, S, p.2.u) := by unfold fill1; rw [g2]; rfl
    have HFI := Lib.hid (HRR.out.symm.trans hfill)
    have HLT := Lib.hid (h7 p hpD).2
    obtain ⟨pc, ⟨ta, tc, tu⟩⟩ := p
    simp only [ChT.val, Option.map_some, Option.getD_some, Option.isSome_some] at HLK HLT
    have HR2 := Lib.hid hR2
    have HB2 := Lib.hid hB2
    clear hR2 hB2 h1 h2 h3 h4 h4b h5 h6 h7 hD g1 g2 hfd hpD hfill
    obtain ⟨tn, HTN⟩ : ∃ tn, Hid (tu.length = tn) := ⟨_, Lib.hid rfl⟩
    rw [HTN.out] at HLK HLT
    go_region
    go_wp2_with fail
    go_ret2
    rw [HFI.out]
    exact ⟨.slice ta tn tc, rfl, HR2.out, ((Chg.refl [q, b] w).of_below HB2.out).drew, fun _ => ⟨⟨ta, tc, tu⟩, by show Value.slice ta tn tc = .slice ta tu.length tc; rw [HTN.out], rfl, HLT.out⟩, fun h => absurd rfl h⟩
  | none =>
    rw [hfd] at HLK g2
    simp only [Option.map_none, Option.getD_none, Option.isSome_none] at HLK
    have hfill : fill1 dr S us = if (leftOf dr us).length = 0 then (191, S, []) else if S.2.length < us.length - (leftOf dr us).length then (1, S, []) else (0, (S.1 ++ [(us, leftOf dr us ++ S.2.take (us.length - (leftOf dr us).length))], S.2.drop (us.length - (leftOf dr us).length)), leftOf dr us ++ S.2.take (us.length - (leftOf dr us).length)) := by unfold fill1; rw [g2]; rfl
    have HLN : Hid (lookD (D.map fun p => (p.1, ChT.val p.2)) us = none) := Lib.hid (by rw [g1, hfd]; rfl)
    rw [HN.out] at hfill
    have HFI := Lib.hid (HRR.out.symm.trans hfill)
    have HBd : Hid (Below w.heap.size w W2.drew) := Lib.hid hB2.drew
    have HOK : Hid (Own W2.drew w1.heap.size 179 [.int .i64 k0, .int .i64 k1, .int .i64 k2, .int .i64 k3]) := Lib.hid oK
    have HOB : Hid (Own W2.drew w.heap.size 147 [.pointer (some ⟨q, 0, none⟩)]) := Lib.hid oB
    have HOQ := Lib.hid h1
    have HRF := Lib.hid h2
    have HMK := Lib.hid h5
    have HD6 := Lib.hid h6
    have HD7 := Lib.hid h7
    have HDD := Lib.hid hD
    have HC3 := Lib.hid (And.intro h3 (And.intro h4 h4b))
    have HRow := Lib.hid hR2.row
    have HLe := Lib.hid (And.intro hR2.hq (And.intro hR2.hb hR2.hd))
    have HNI := Lib.hid hR2.notInt
    have HCL := Lib.hid (clone_int ua uc B us W2.drew (HRO.out.below hB2.drew HS.out) (by have := HA.out.1; omega) (by have := HA.out.1; omega))
    rw [HN.out] at HCL
    clear hR2 hB2 h1 h2 h3 h4 h4b h5 h6 h7 hD g1 g2 hfd hfill oK oB
    go_region
    clear HLK
    have HW1 : Hid (w1.heap.size < W2.drew.heap.size) := Lib.hid HOK.out.lt
    generalize W2.drew = Wd at *
    clear d0 d1 d2 e0 e1 e2 e3 b0 HW2
    go_wp2_with fail
    refine HCL.out.mono ?_
    rintro e w3 ⟨v1, rfl, hl1, hb3⟩
    have HB3 := Lib.hid hb3
    have HDE := Lib.hid (delete_int v1 Wd.heap.size us (fun u => decide (u ∈ dr)) 139 #[.pointer (some ⟨w.heap.size, 0, none⟩)] (enters_of Try.func139 (by kernel_rfl) rfl) w3 hl1 (by have := HA.out.1; omega) (by have := HA.out.1; omega) hb3.size (fun W x hW => by
      have hWW := HB3.out.trans hW
      have t1 := (HOB.out.below hWW HOB.out.lt).cell 0
      have t2 := (HOQ.out.below hWW HOQ.out.lt).cell 0
      exact rp1_any x w.heap.size q 0 c1 B a1 dr W (by simpa using t1) (by simpa using t2) (HRow.out.below hWW (Nat.le_trans HS.out HBd.out.size)) HLe.out.2.2))
    clear hl1 hb3
    obtain ⟨ln, hln⟩ : ∃ ln, (leftOf dr us).length = ln := ⟨_, rfl⟩
    have HLN2 := Lib.hid hln
    have hle : ln ≤ n := by rw [← hln, ← HN.out]; exact List.length_filter_le _ _
    change Hid (Calls _ _ _ _ fun e w' => ∃ v', e = .returned v' ∧ Lst w' Wd.heap.size 3 v' (i64s (leftOf dr us)) ∧ Below Wd.heap.size w3 w' ∧ (∃ a c, v' = .slice a (leftOf dr us).length c ∧ us.length ≤ c)) at HDE
    rw [hln] at HDE
    obtain ⟨lo, hlo⟩ : ∃ lo, n - ln = lo := ⟨_, rfl⟩
    have hsub : (n : Int) - (ln : Int) = (lo : Int) := by omega
    have HLO := Lib.hid hlo
    obtain ⟨fn, hfn⟩ : ∃ fn, S.2.length = fn := ⟨_, rfl⟩
    rw [hfn] at HOQ HC3
    have HFN := Lib.hid hfn
    have HLE := Lib.hid hle
    have hn0 : (0 : Int) ≤ (lo : Int) := by omega
    have hn4 : (lo : Int) ≤ 4 := by have := HA.out.1; have := HN.out; omega
    clear hln hlo hfn hle
    go_wp2_with fail
    refine HDE.out.mono ?_
    rintro e w4 ⟨v2, rfl, hl2, hb4, a4, c4, rfl, hc4⟩
    have HB4 : Hid (Below Wd.heap.size Wd w4) := Lib.hid (HB3.out.trans hb4)
    have HL2 := Lib.hid hl2
    have HC4 := Lib.hid hc4
    have HOB4 := Lib.hid (HOB.out.below HB4.out HOB.out.lt)
    have HOQ4 := Lib.hid (HOQ.out.below HB4.out HOQ.out.lt)
    have b0 := HOB4.out.cell 0
    have d0 := HOQ4.out.cell 0
    have d1 := HOQ4.out.cell 1
    have d2 := HOQ4.out.cell 2
    simp at b0 d0 d1 d2
    have HCH : Hid (Chg [q, b] w Wd) := Lib.hid ((Chg.refl [q, b] w).of_below HBd.out)
    have HRP : Hid (RepS w4 B q b a1 c1 dr S) := Lib.hid (HREP.out.kept (HBd.out.trans (HB4.out.mono HBd.out.size)))
    clear hl2 hb4 hc4
    by_cases h0 : ln = 0
    · subst h0
      have hr := HFI.out.trans (if_pos HLN2.out)
      have HR9 := Lib.hid hr
      clear hr
      go_wp2_with fail
      go_ret2
      rw [HR9.out]
      exact ⟨_, rfl, HRP.out, HCH.out.of_below HB4.out, fun h => by simp at h, fun _ => rfl⟩
    · have hr := HFI.out.trans (if_neg (by rw [HLN2.out]; exact h0))
      have HR8 := Lib.hid hr
      clear hr
      have h0' : ((ln : Int) == 0) = false := by rw [beq_eq_false_iff_ne]; omega
      clear h0
      by_cases hg : fn < lo
      · have hr := HR8.out.trans (if_pos (by rw [HFN.out, HLN2.out, HLO.out]; exact hg))
        have HR9 := Lib.hid hr
        clear hr
        have hg' : (fn : Int) < (lo : Int) := by omega
        clear hg
        go_wp2_with fail
        go_ret2
        rw [HR9.out]
        exact ⟨_, rfl, HRP.out, HCH.out.of_below HB4.out, fun h => by simp at h, fun _ => rfl⟩
      · have hr := HR8.out.trans (if_neg (by rw [HFN.out, HLN2.out, HLO.out]; exact hg))
        have HR9 := Lib.hid hr
        clear hr
        have hg' : decide ((fn : Int) < (lo : Int)) = false := by simp; omega
        have HGG := Lib.hid hg
        clear hg
        have hlc : (lo : Int) ≤ (c2 : Int) := by have := HC3.out.1; have := HGG.out; omega
        have HBB4 : Hid (Below w.heap.size w w4) := Lib.hid (HBd.out.trans (HB4.out.mono HBd.out.size))
        have HTK : Hid ((S.2.take lo).length = lo) := Lib.hid (by rw [List.length_take]; have := HGG.out; have := HFN.out; omega)
        have HRT : Hid (Ro w4 B a2 (i64s (S.2.take lo))) := Lib.hid (by
          have := (HRF.out.below HB4.out (Nat.le_trans HS.out HBd.out.size)).take lo
          rwa [show (i64s S.2).take lo = i64s (S.2.take lo) by simp [i64s]] at this)
        have HRD : Hid (Ro Wd B (if c2 = lo then a2 else a2.map fun x => x.add lo) (i64s (S.2.drop lo))) := Lib.hid (by
          have := HRF.out.drop lo c2 (by rw [i64s_length, HFN.out]; exact HC3.out.1)
          rwa [show (i64s S.2).drop lo = i64s (S.2.drop lo) by simp [i64s]] at this)
        go_wp2_with (at_builtin; refine wpList_appB rfl (.tmp 46) (.tmp 52) 36 rfl Wd.heap.size 3 (.int .i64 0) 8 Try.underlying36 Try.info_i64 rfl _ (i64s (leftOf dr us)) rfl HL2.out a2 B lo c2 (i64s (S.2.take lo)) rfl (by rw [i64s_length]; exact HTK.out) HRT.out (i64s_one _) (by have := HLN2.out; have := HLE.out; have := HA.out.1; have := HN.out; have := HLO.out; rw [i64s_length]; omega) (by have := HLN2.out; have := HLE.out; have := HA.out.1; have := HN.out; have := HLO.out; rw [i64s_length]; omega) Wd.heap.size Wd HB4.out (Nat.le_refl _) HB4.out.size ?_)
        intro v3 w5 hl5 hb5 hs5
        have HB5 := Lib.hid hb5
        obtain ⟨a3, n3, c3, HV3⟩ : ∃ (a3 : Option Addr) (n3 c3 : Nat), Hid (v3 = .slice a3 n3 c3 ∧ n3 = ((leftOf dr us) ++ S.2.take lo).length) := by
          obtain ⟨a3, c3, h1, _⟩ := hl5.out.form
          exact ⟨a3, _, c3, Lib.hid ⟨h1, by simp [i64s]⟩⟩
        have HL5 : Hid (Lst w5 Wd.heap.size 3 v3 (i64s (leftOf dr us ++ S.2.take lo))) := Lib.hid (by have e : i64s (leftOf dr us ++ S.2.take lo) = i64s (leftOf dr us) ++ i64s (S.2.take lo) := (by simp [i64s]); rw [e]; exact hl5.out)
        clear hl5 hb5 hs5 b0 d0 d1 d2
        obtain ⟨rfl, -⟩ := HV3.out
        have HOB5 := Lib.hid (HOB.out.below HB5.out HOB.out.lt)
        have HOQ5 := Lib.hid (HOQ.out.below HB5.out HOQ.out.lt)
        have b0 := HOB5.out.cell 0
        have d0 := HOQ5.out.cell 0
        have d1 := HOQ5.out.cell 1
        have d2 := HOQ5.out.cell 2
        have f1 := HOQ5.out.frozen 1
        have hz5 := HOQ5.out.lt
        simp at b0 d0 d1 d2
        go_wp2_with fail
        go_region
        obtain ⟨A6, hA6⟩ : ∃ A6, (if c2 = lo then a2 else a2.map fun x => x.add lo) = A6 := ⟨_, rfl⟩
        rw [hA6] at HRD ⊢
        have HA6 := Lib.hid hA6
        clear hA6
        have hqb : b ≠ q := by
          intro e
          obtain ⟨es, clock, g1, _⟩ := HMK.out
          have := HOQ.out
          unfold Own at this
          rw [e, this] at g1
          cases g1
        have hqw : q < w.heap.size := by
          obtain ⟨_, _, _, g1, _⟩ := HREP.out.ex
          exact g1.lt
        have hC6 : Chg [q, b] Wd (w5.setCell ⟨q, 1, none⟩ (.slice A6 (fn - lo) (c2 - lo))) := ((Chg.refl [q, b] Wd).of_below HB5.out).setCell (by simp) _
        have hC5 : Chg [q, b] w5 (w5.setCell ⟨q, 1, none⟩ (.slice A6 (fn - lo) (c2 - lo))) := (Chg.refl [q, b] w5).setCell (by simp) _
        have hC5q : Chg [q] w5 (w5.setCell ⟨q, 1, none⟩ (.slice A6 (fn - lo) (c2 - lo))) := (Chg.refl [q] w5).setCell (by simp) _
        have oq6 : Own (w5.setCell ⟨q, 1, none⟩ (.slice A6 (fn - lo) (c2 - lo))) q 93 [.slice a1 dr.length c1, .slice A6 (fn - lo) (c2 - lo), .map (some b)] := HOQ5.out.set 1 _
        have ob6 : Own (w5.setCell ⟨q, 1, none⟩ (.slice A6 (fn - lo) (c2 - lo))) w.heap.size 147 [.pointer (some ⟨q, 0, none⟩)] := HOB5.out.far (by show w.heap.size ≠ q; omega) _
        have ok6 : Own (w5.setCell ⟨q, 1, none⟩ (.slice A6 (fn - lo) (c2 - lo))) w1.heap.size 179 [.int .i64 k0, .int .i64 k1, .int .i64 k2, .int .i64 k3] := (HOK.out.below HB5.out HOK.out.lt).far (by show w1.heap.size ≠ q; have := HB1.out.size; omega) _
        have hm6 : MapK (w5.setCell ⟨q, 1, none⟩ (.slice A6 (fn - lo) (c2 - lo))) b (D.map fun p => (p.1, ChT.val p.2)) := (HMK.out.chg ((Chg.refl [] Wd).of_below HB5.out) (by simp)).chg hC5q (by simpa using hqb)
        generalize (w5.setCell ⟨q, 1, none⟩ (.slice A6 (fn - lo) (c2 - lo))) = W6 at *
        obtain ⟨w8, hrun, hm8, hc8⟩ := (hm6.chg ((Chg.refl [] W6).drew.drew) (by simp)).put HDD.out HA.out HLN.out (.slice a3 n3 c3)
        rw [HKV.out] at hrun
        clear b0 d0 d1 d2 f1
        have b0 := ob6.cell 0
        have d2 := oq6.cell 2
        have e0 := ok6.cell 0
        have e1 := ok6.cell 1
        have e2 := ok6.cell 2
        have e3 := ok6.cell 3
        simp at b0 d2 e0 e1 e2 e3
        have HX := Lib.hid (And.intro hqb (And.intro hqw (And.intro hC6 (And.intro hC5 (And.intro oq6 (And.intro hm8 hc8))))))
        clear hqb hqw hC6 hC5 hC5q oq6 ob6 ok6 hm6 hm8 hc8
        have HRUN := Lib.hid hrun
        clear hrun
        go_wp2_with fail
        have hrun := HRUN.out
        go_region
        go_wp2_with fail
        go_ret2
        obtain ⟨hqb, hqw, hC6, hC5, oq6, hm8, hc8⟩ := HX.out
        have hc8' : Chg [q, b] W6 w8 := Chg.then (l := [q, b]) (l' := [b]) (Chg.refl [q, b] W6).drew.drew hc8 (fun x hx => Or.inl (List.mem_cons_of_mem q hx))
        have hCW : Chg [q, b] Wd w8 := hC6.trans hc8'
        have hCB : Below B Wd w8 := hCW.below (Nat.le_trans HS.out HBd.out.size) (fun x hx => by
          simp only [List.mem_cons, List.not_mem_nil, or_false] at hx
          rcases hx with rfl | rfl
          · exact HLe.out.1
          · exact HLe.out.2.1)
        have hq8 : Own w8 q 93 [.slice a1 dr.length c1, .slice A6 (fn - lo) (c2 - lo), .map (some b)] := (hc8.block q (by simpa using oq6.lt) (by intro hm; simp only [List.mem_singleton] at hm; exact hqb hm.symm)).trans oq6
        have hBd := Nat.le_trans HS.out HBd.out.size
        have hl8 : Lst w8 B 3 (.slice a3 n3 c3) (i64s (leftOf dr us ++ S.2.take lo)) := by
          refine (HL5.out.base hBd).chg (hC5.trans hc8') (fun x hx cur he => ?_)
          have hxd : x < Wd.heap.size := by
            simp only [List.mem_cons, List.not_mem_nil, or_false] at hx
            rcases hx with rfl | rfl
            · exact HOQ.out.lt
            · exact HMK.out.lt
          exact HNI.out x hx cur ((HB5.out.block x hxd).symm.trans he)
        have hn3 := HV3.out.2
        rw [HR9.out]
        rw [HLN2.out, HLO.out]
        refine ⟨.slice a3 n3 c3, rfl, ⟨⟨_, c2 - lo, D ++ [(us, ⟨a3, c3, leftOf dr us ++ S.2.take lo⟩)], ?_, HRD.out.below hCB (Nat.le_refl _), ?_, ?_, ?_, ?_, ?_, fun p hp => ?_⟩, HRow.out.below hCB (Nat.le_refl _), HLe.out.1, HLe.out.2.1, HLe.out.2.2⟩, HCH.out.trans hCW, fun _ => ⟨⟨a3, c3, leftOf dr us ++ S.2.take lo⟩, ?_, rfl, hl8⟩, fun h => (h rfl).elim⟩
        · rw [List.length_drop, HFN.out]
          exact hq8
        · rw [List.length_drop, HFN.out]; have := HC3.out.1; omega
        · have := HC3.out.2.1; omega
        · intro h
          have h := HA6.out.trans h
          by_cases hcl : c2 = lo
          · omega
          · rw [if_neg hcl] at h
            have : a2 = none := by simpa using h
            have := HC3.out.2.2 this
            omega
        · have e : (D ++ [(us, (⟨a3, c3, leftOf dr us ++ S.2.take lo⟩ : ChT))]).map (fun p => (p.1, ChT.val p.2)) = D.map (fun p => (p.1, ChT.val p.2)) ++ [(us, .slice a3 n3 c3)] := by
            rw [List.map_append, hn3]; rfl
          rw [e]
          exact hm8
        · rw [List.map_append, ← HD6.out]; rfl
        · rcases List.mem_append.1 hp with hp | hp
          · exact ⟨(HD7.out p hp).1, (HD7.out p hp).2.chg hCW HNI.out⟩
          · simp only [List.mem_singleton] at hp
            subst hp
            refine ⟨HA.out, ?_⟩
            have : ChT.val ⟨a3, c3, leftOf dr us ++ S.2.take lo⟩ = .slice a3 n3 c3 := by rw [hn3]; rfl
            rw [this]
            exact hl8
        · rw [hn3]; rfl
end Go.Proofs.Ytdpaofedepnnbaa
