/-
  The statement SoupFull: the walk of its Go text, by the contracts of what it calls.
-/
import Derived.Test.YteenlkmnadjnpaaGreatG18
namespace Go.Proofs.YteenlkmnadjnpaaGreat
open Go.RowKit Go.Deep Go.Shelf
set_option linter.unusedVariables false
set_option linter.unusedSimpArgs false

theorem srt_rep (n : Nat) (k : Ky) : Srt (List.replicate n k) := by
  unfold Srt
  rw [List.pairwise_replicate]
  exact .inr (List.le_refl k)
theorem dd_rep (n : Nat) (k : Ky) : dd (List.replicate (n + 1) k) = [k] :=
  strict_ext (dd_strict (srt_rep _ _)) (by simp) (fun x => by rw [dd_mem]; simp [List.mem_replicate])
theorem keyAt_rep (n : Nat) (k : Ky) : keyAt (List.replicate (n + 1) k) 0 = some k := by
  unfold keyAt
  rw [dd_rep]
  rfl
theorem ins_rep (n : Nat) (k : Ky) : ins k (List.replicate n k) = List.replicate (n + 1) k := by
  cases n with
  | zero => rfl
  | succ n =>
    rw [List.replicate_succ]
    unfold ins
    rw [if_neg (List.lt_irrefl k)]
    rfl
def repS (n lo : Nat) (k : Ky) : SpS := ⟨List.replicate n k, fun _ => false, lo⟩
theorem repS_add (n lo : Nat) (k : Ky) (h : n < 400) : (repS n lo k).add k = repS (n + 1) lo k ∧ (repS n lo k).addE = 0 := by
  unfold SpS.add SpS.addE repS
  simp only [List.length_replicate]
  rw [if_neg (by omega), if_neg (by omega), ins_rep]
  exact ⟨rfl, rfl⟩
theorem repS_full (lo : Nat) (k : Ky) : (repS 400 lo k).add k = repS 400 (lo + 1) k ∧ (repS 400 lo k).addE = 111 := by
  unfold SpS.add SpS.addE repS
  simp only [List.length_replicate]
  rw [if_pos (by omega), if_pos (by omega)]
  exact ⟨rfl, rfl⟩
theorem repS_twice (n lo : Nat) (k : Ky) : (repS (n + 1) lo k).twice 0 = (repS (n + 1) lo k).add k ∧ (repS (n + 1) lo k).twiceE 0 = (repS (n + 1) lo k).addE := by
  unfold SpS.twice SpS.twiceE
  rw [show keyAt (repS (n + 1) lo k).L 0 = some k from keyAt_rep n k]
  exact ⟨rfl, rfl⟩
theorem repS_take (n lo : Nat) (k : Ky) : (repS (n + 1) lo k).take 0 = repS n lo k := by
  unfold SpS.take
  rw [show keyAt (repS (n + 1) lo k).L 0 = some k from keyAt_rep n k]
  simp only [SpS.rem, repS]
  rw [List.replicate_succ, List.erase_cons_head]
set_option maxHeartbeats 8000000 in
set_option maxRecDepth 100000 in
theorem soupFull_any (w : World) {A : MgT} (hA : MgOk w A) {more : Int} (hmw : (Lit.int .i64 more).wf = true) :
    Calls Tryz.prog 7 #[.agg A.cs.toArray, .int .i64 more] w fun e w' => e = .returned (.bool true) ∧ Below w.heap.size w w' := by
  obtain ⟨W, HWW⟩ : ∃ W, Hid (w.alloc (.cells A.cs.toArray 40) = W) := ⟨_, Lib.hid rfl⟩
  have hWb : Below w.heap.size w W := by rw [← HWW.out]; exact (Below.refl _ _).alloc (Nat.le_refl _) _
  have HO := Lib.hid (show Own W w.heap.size 40 A.cs by rw [← HWW.out]; exact Own.new w _ _)
  have HB := Lib.hid hWb
  have HAL := Lib.hid alive11_any
  have HNW := Lib.hid (New_any W)
  have HF := Lib.hid (fun (W' : World) (hb : Below w.heap.size w W') => fits10_any A w.heap.size W' (hA.inn.below hb (Nat.le_refl _)) hb.size hA.fit)
  have HIN := Lib.hid (fun (W' : World) (hb : Below w.heap.size w W') => And.intro (hA.inn.below hb (Nat.le_refl _)) hb.size)
  have HFT := Lib.hid hA.fit
  clear hWb hA hmw
  go_enter Tryz.func7, Tryz.ntmps7
  go_upto_region 1 with fail
  rw [HWW.out]
  go_wp2_with fail
  refine HNW.out.mono ?_
  rintro e w1 ⟨p, rfl, b, d, hs, hb, hge⟩
  have HS1 := Lib.hid hs
  have HGE : Hid (∀ x ∈ [p, b, d], w.heap.size < x) := Lib.hid (fun x hx => Nat.lt_of_lt_of_le HO.out.lt (hge x hx))
  have HB1 := Lib.hid (HB.out.trans (hb.mono HB.out.size))
  have HO1 := Lib.hid (HO.out.below hb HO.out.lt)
  clear hs hb hge
  go_wp2_with (refine wpList_loadMg rfl (.tmp 2) rfl w.heap.size rfl A HO1.out ?_)
  refine (HF.out w1 HB1.out).mono ?_
  rintro e w2 ⟨⟨t1, rfl⟩, hb⟩
  have HB2 := Lib.hid (HB1.out.trans (hb.mono HB1.out.size))
  have HO2 := Lib.hid (HO1.out.below hb HO1.out.lt)
  have HS2 := Lib.hid (HS1.out.kept ((Chg.refl [] w1).of_below hb))
  clear hb
  cases t1 with
  | false =>
    go_wp2_with fail
    go_ret
    exact ⟨rfl, HB2.out⟩
  | true =>
  by_cases hm0 : more < 0
  · have e0 : decide (more < 0) = true := by simpa using hm0
    clear hm0
    go_wp2_with fail
    go_ret
    exact ⟨rfl, HB2.out⟩
  have e0 : decide (more < 0) = false := by simpa using hm0
  by_cases hm1 : 20 < more
  · have e1 : decide (20 < more) = true := by simpa using hm1
    clear hm0 hm1
    go_wp2_with fail
    go_ret
    exact ⟨rfl, HB2.out⟩
  have e1 : decide (20 < more) = false := by simpa using hm1
  obtain ⟨mo, rfl⟩ : ∃ mo : Nat, more = (mo : Int) := ⟨more.toNat, by omega⟩
  have HMO : Hid (mo ≤ 20) := Lib.hid (by omega)
  have e1' : decide (20 < mo) = false := by have := HMO.out; simp; omega
  obtain ⟨i2, z2⟩ := HIN.out w2 HB2.out
  have HPU := Lib.hid (Put_any HS2.out (Nat.zero_le _) A w.heap.size i2 z2 HFT.out)
  clear hm0 hm1 i2 z2
  go_wp2_with (refine wpList_loadMg rfl (.tmp 2) rfl w.heap.size rfl A HO2.out ?_)
  refine HPU.out.mono ?_
  rintro e w3 ⟨g, rfl, S1, hr, hs, hc⟩
  have HB3 := Lib.hid (below_chg HB2.out hc HB2.out.size (fun x hx => Nat.le_of_lt (HGE.out x (by simp at hx ⊢; omega))))
  have HO3 := Lib.hid (HO2.out.chg hc (by have h1 := HGE.out p (by simp); have h2 := HGE.out b (by simp); simp; omega))
  cases hrr : mright A.x with
  | false =>
    obtain ⟨rfl, rfl⟩ := hr.no hrr
    have HS3 := Lib.hid hs
    clear hr hs hc hrr
    go_wp2_with fail
    refine (HAL.out w3).mono ?_
    rintro e w4 ⟨rfl, hb⟩
    have HLE := Lib.hid (Len_any (HS3.out.kept ((Chg.refl [] w3).of_below hb)))
    have HB4 := Lib.hid (HB3.out.trans (hb.mono HB3.out.size))
    clear hb
    go_wp2_with fail
    refine HLE.out.mono ?_
    rintro e w5 ⟨rfl, hc⟩
    have HB5 := Lib.hid (below_chg HB4.out hc HB4.out.size (by simp))
    have e5 : (SpS.zero.L.length : Int) = 0 := rfl
    rw [e5]
    clear hc e5
    go_wp2_with fail
    go_ret
    exact ⟨rfl, HB5.out⟩
  | true =>
    obtain ⟨k, hk, he, rfl, rfl⟩ := hr.yes hrr
    have HK := Lib.hid (And.intro hk (And.intro he hrr))
    have hz1 := repS_add 0 0 k (by omega)
    change SpS.zero.add k = _ ∧ SpS.zero.addE = 0 at hz1
    rw [hz1.2]
    rw [hz1.1] at hs
    have HS3 := Lib.hid hs
    clear hr hs hc hrr hk he hz1
    go_wp2_with fail
    go_loopw [7] (fun v7 wr => ∃ i : Nat, v7 = .int .i64 (i : Int) ∧ 1 ≤ i ∧ i ≤ 400 ∧ Hid (Sp wr p b d (repS i 0 k)) ∧ Hid (Chg [p, b, d] w3 wr)) (fun v7 _ => 400 - (intOf v7).toNat)
    case atStart => exact ⟨1, rfl, by omega, by omega, HS3, Lib.hid (Chg.refl _ _)⟩
    case round =>
      obtain ⟨i, rfl, hi1, hi2, HSr, HCr⟩ := hrel
      rename World => wa
      by_cases hlt : i < 400
      · obtain ⟨j, rfl⟩ : ∃ j, i = j + 1 := ⟨i - 1, by omega⟩
        have hT := Twice_any HSr.out (Nat.zero_le _) 0
        obtain ⟨q1, q2⟩ := repS_twice j 0 k
        obtain ⟨q3, q4⟩ := repS_add (j + 1) 0 k hlt
        rw [q1, q2, q3, q4] at hT
        have HT := Lib.hid hT
        have HLT := Lib.hid hlt
        obtain ⟨i, hi⟩ : ∃ i, j + 1 = i := ⟨_, rfl⟩
        rw [hi] at HT HLT ⊢
        have hd : decide ((i : Int) < 400) = true := by have := HLT.out; simp; omega
        have hib : (i : Int) ≤ 400 := by have := HLT.out; omega
        have hd2 : decide (i < 400) = true := by have := HLT.out; simp; omega
        clear hT q1 q2 q3 q4 hlt hi hi1 hi2
        go_wp2_with fail
        refine HT.out.mono ?_
        rintro e wb ⟨rfl, hs, hc⟩
        have HSb := Lib.hid hs
        have HCb := Lib.hid (HCr.out.trans (hc.mono (by simp)))
        clear hs hc
        go_wp2_with fail
        go_roundw
        case rel => have := HLT.out; exact ⟨i + 1, by go_num, by omega, by omega, HSb, HCb⟩
        case measure => have := HLT.out; simp [intOf]; omega
      · obtain rfl : i = 400 := by omega
        have HBa := Lib.hid (below_chg HB3.out HCr.out HB3.out.size (fun x hx => Nat.le_of_lt (HGE.out x hx)))
        have HOa := Lib.hid (HO3.out.chg HCr.out (fun hm => absurd (HGE.out _ hm) (Nat.lt_irrefl _)))
        clear hlt hi1 hi2
        go_wp2_with fail
        go_loopw [8] (fun v8 wr => ∃ i : Nat, v8 = .int .i64 (i : Int) ∧ i ≤ mo ∧ Hid (Sp wr p b d (repS 400 (2 * i) k)) ∧ Hid (Chg [p, b, d] wa wr)) (fun v8 _ => mo - (intOf v8).toNat)
        case atStart => exact ⟨0, rfl, Nat.zero_le _, HSr, Lib.hid (Chg.refl _ _)⟩
        case round =>
          obtain ⟨i, rfl, hi2, HSq, HCq⟩ := hrel
          rename World => wc
          have HBc := Lib.hid (below_chg HBa.out HCq.out HBa.out.size (fun x hx => Nat.le_of_lt (HGE.out x hx)))
          have HOc := Lib.hid (HOa.out.chg HCq.out (fun hm => absurd (HGE.out _ hm) (Nat.lt_irrefl _)))
          obtain ⟨ic, zc⟩ := HIN.out wc HBc.out
          by_cases hlt : i < mo
          · have hm20 := HMO.out
            have HPc := Lib.hid (Put_any HSq.out (by show 2 * i ≤ _; omega) A w.heap.size ic zc HFT.out)
            have hd : decide ((i : Int) < (mo : Int)) = true := by simp; omega
            have hd2 : decide (i < mo) = true := by simp; omega
            have hib : (i : Int) ≤ 20 := by omega
            have HLT := Lib.hid hlt
            clear ic zc hlt hi2 hm20
            go_wp2_with (refine wpList_loadMg rfl (.tmp 2) rfl w.heap.size rfl A HOc.out ?_)
            refine HPc.out.mono ?_
            rintro e wd ⟨g, rfl, S1, hr, hs, hc⟩
            obtain ⟨k2, hk2, he2, rfl, rfl⟩ := hr.yes HK.out.2.2
            obtain rfl : k2 = k := he2.unique HK.out.2.1
            obtain ⟨q3, q4⟩ := repS_full (2 * i) k2
            rw [q4]
            rw [q3] at hs
            have hT := Twice_any hs (by show 2 * i + 1 ≤ _; have := HLT.out; have := HMO.out; omega) 0
            obtain ⟨q1, q2⟩ := repS_twice 399 (2 * i + 1) k2
            obtain ⟨q5, q6⟩ := repS_full (2 * i + 1) k2
            rw [q1, q2, q5, q6] at hT
            have HT := Lib.hid hT
            have HCd := Lib.hid (HCq.out.trans (hc.mono (by simp)))
            clear hr hk2 he2 q1 q2 q3 q4 q5 q6 hs hc hT
            go_wp2_with fail
            refine HT.out.mono ?_
            rintro e we ⟨rfl, hs, hc⟩
            have HSe := Lib.hid hs
            have HCe := Lib.hid (HCd.out.trans (hc.mono (by simp)))
            clear hs hc
            go_wp2_with fail
            go_roundw
            case rel => refine ⟨_, _, _, _, _, _, _, _, _, _, _, _, _, _, _, _, ?_, rfl⟩; have := HLT.out; exact ⟨i + 1, by go_num, by omega, Lib.hid (by have h := HSe.out; rwa [show 2 * i + 1 + 1 = 2 * (i + 1) by omega] at h), HCe⟩
            case measure => have := HLT.out; simp [intOf]; omega
          · obtain rfl : i = mo := by omega
            have hd : decide ((i : Int) < (i : Int)) = false := by simp
            have hd2 : decide (i < i) = false := by simp
            have HTK := Lib.hid (Take_x [] HSq.out 0 (by simp))
            have hib : (i : Int) ≤ 20 := by have := HMO.out; omega
            have HIB := Lib.hid hib
            clear hlt hi2 ic zc hib
            go_wp2_with fail
            refine HTK.out.mono ?_
            rintro e wd ⟨T, u, g, rfl, ht, hf, hin, hx, hs, hc⟩
            obtain ⟨y1, y2, rfl⟩ := ht.yes k (keyAt_rep 399 k)
            obtain rfl : u = true := by rw [y2]; rfl
            rw [show (repS 400 (2 * i) k).take 0 = repS 399 (2 * i) k from repS_take 399 (2 * i) k] at hs
            have hpb : ∀ x ∈ [p, b], w.heap.size < x := fun x hx => HGE.out x (by simp at hx ⊢; omega)
            have HPB := Lib.hid hpb
            have HSd := Lib.hid hs
            have HBd := Lib.hid (below_chg HBc.out hc HBc.out.size (fun x hx => Nat.le_of_lt (HPB.out x hx)))
            have HOd := Lib.hid (HOc.out.chg hc (fun hm => absurd (HPB.out _ hm) (Nat.lt_irrefl _)))
            have HZ := Lib.hid (Own.new wd 40 zmT.cs)
            clear ht hf hin hx hs hc y1 y2 hpb
            go_wp2_with (refine wpList_storeMg rfl (.tmp 9) (.tmp 65) rfl wd.heap.size rfl T rfl zmT.cs HZ.out rfl ?_)
            intro we ho hc
            have hce : Chg [] wd we := ((Chg.refl [] wd).alloc _).then hc (fun x hx => by simp only [List.mem_singleton] at hx; subst hx; exact .inr (Nat.le_refl _))
            have HSe := Lib.hid (HSd.out.kept hce)
            have HBe := Lib.hid (below_chg HBd.out hce HBd.out.size (by simp))
            have HOe := Lib.hid (HOd.out.chg hce (by simp))
            clear ho hc hce HZ
            go_wp2_with fail
            refine (HAL.out we).mono ?_
            rintro e wf ⟨rfl, hb⟩
            have HSf := Lib.hid (HSe.out.kept ((Chg.refl [] we).of_below hb))
            have HBf := Lib.hid (HBe.out.trans (hb.mono HBe.out.size))
            have HOf := Lib.hid (HOe.out.below hb HOe.out.lt)
            have HLO := Lib.hid (Lost_any HSf.out)
            clear hb
            go_wp2_with fail
            refine HLO.out.mono ?_
            rintro e wg ⟨rfl, rfl⟩
            have e9 : ((repS 399 (2 * i) k).lost : Int) = ((2 * i : Nat) : Int) := rfl
            rw [e9]
            obtain ⟨tw, htw⟩ : ∃ tw : Int, ((2 * i : Nat) : Int) = tw := ⟨_, rfl⟩
            have hmul : IntKind.i64.wrap (2 * (i : Int)) = tw := by have := HIB.out; rw [IntWalk.i64_in _ (by omega)]; omega
            rw [htw]
            obtain ⟨iF, zF⟩ := HIN.out wf HBf.out
            have HTI := Lib.hid (Times_any HSf.out A w.heap.size iF zF HFT.out)
            clear e9 htw iF zF
            dsimp only
            go_step
            try simp only [List.append]
            go_wp2_with (refine wpList_loadMm (.tmp 2) (by rfl) w.heap.size 0 (by rfl) A (HOf.out.range) (by first | rfl | kernel_rfl | simp [Region.wanted, yielded]) ?_)
            refine HTI.out.mono ?_
            rintro e wg ⟨n, rfl, ht, hc⟩
            obtain ⟨k2, hk2, he2, rfl⟩ := ht.yes HK.out.2.2
            obtain rfl : k2 = k := he2.unique HK.out.2.1
            rw [show (repS 399 (2 * i) k2).L.count k2 = 399 by simp [repS]]
            have HSg := Lib.hid (HSf.out.kept hc)
            have HBg := Lib.hid (below_chg HBf.out hc HBf.out.size (by simp))
            have HOg := Lib.hid (HOf.out.chg hc (by simp))
            obtain ⟨iG, zG⟩ := HIN.out wg HBg.out
            have HPg := Lib.hid (Put_any HSg.out (by show 2 * i ≤ _; have := HIB.out; omega) A w.heap.size iG zG HFT.out)
            clear ht hk2 he2 hc iG zG
            dsimp only
            go_step
            try simp only [List.append]
            go_wp2_with (refine wpList_loadMm (.tmp 2) (by rfl) w.heap.size 0 (by rfl) A (HOg.out.range) (by first | rfl | kernel_rfl | simp [Region.wanted, yielded]) ?_)
            refine HPg.out.mono ?_
            rintro e wh ⟨g, rfl, S1, hr, hs, hc⟩
            obtain ⟨k3, hk3, he3, rfl, rfl⟩ := hr.yes HK.out.2.2
            obtain rfl : k3 = k2 := he3.unique HK.out.2.1
            obtain ⟨q3, q4⟩ := repS_add 399 (2 * i) k3 (by omega)
            rw [q4]
            rw [q3] at hs
            have HLE := Lib.hid (Len_any hs)
            have HBh := Lib.hid (below_chg HBg.out hc HBg.out.size (fun x hx => Nat.le_of_lt (HPB.out x hx)))
            clear hr hk3 he3 q3 q4 hs hc
            go_wp2_with fail
            refine HLE.out.mono ?_
            rintro e wi ⟨rfl, hc⟩
            have HBi := Lib.hid (below_chg HBh.out hc HBh.out.size (by simp))
            rw [show (((repS (399 + 1) (2 * i) k3).L.length : Nat) : Int) = 400 by simp [repS]]
            clear hc
            go_wp2_with fail
            go_ret
            exact ⟨rfl, HBi.out⟩
end Go.Proofs.YteenlkmnadjnpaaGreat
