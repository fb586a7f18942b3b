/-
  The statement SoupWhole: the walk of its Go text, by the contracts of what it calls.
-/
import Derived.Test.YteenlkmnadjnpaaGreatH20
namespace Go.Proofs.YteenlkmnadjnpaaGreat
open Go.RowKit Go.Deep Go.Shelf
set_option linter.unusedVariables false
set_option linter.unusedSimpArgs false

/-- a list of messages of the call's own, of messages that lie below B -/
structure MLb (w : World) (base B : Nat) (v : Value) (P : List MgT) : Prop where
  row : w.ownsRow base 40 22 v P.length (mgv P)
  inn : ∀ T ∈ P, MgIn w B T
  fit : ∀ T ∈ P, MgFit T
theorem MLb.nil (w : World) (base B : Nat) : MLb w base B (.slice none 0 0) [] := ⟨World.ownsRow_nil w base _ 22, (fun T hT => by cases hT), (fun T hT => by cases hT)⟩
theorem MLb.lt {w : World} {base B : Nat} {v : Value} {P : List MgT} (h : MLb w base B v P) : ∀ x ∈ rowOf v, base ≤ x ∧ x < w.heap.size := by
  intro x hx
  rcases h.row.2 with ⟨rfl, _⟩ | ⟨g, cap, cur', rfl, hb, hh, _⟩
  · simp [rowOf, Value.ownBlock] at hx
  · simp [rowOf, Value.ownBlock] at hx
    subst hx
    exact ⟨hb, (Array.getElem?_eq_some_iff.1 hh).1⟩
theorem MLb.chg {w w' : World} {base B : Nat} {v : Value} {P : List MgT} {l : List Nat} (h : MLb w base B v P) (hc : Chg l w w') (hl : ∀ x ∈ l, B ≤ x ∧ x < base) (hB : B ≤ w.heap.size) : MLb w' base B v P := by
  refine ⟨⟨h.row.1, ?_⟩, fun T hT => (h.inn T hT).below (hc.below hB (fun x hx => (hl x hx).1)) (Nat.le_refl _), h.fit⟩
  rcases h.row.2 with h1 | ⟨g, cap, cur, h1, h2, h3, h4⟩
  · exact .inl h1
  · exact .inr ⟨g, cap, cur, h1, h2, (hc.block g (Array.getElem?_eq_some_iff.1 h3).1 (fun hm => by have := (hl g hm).2; omega)).trans h3, h4⟩
theorem MLb.form {w : World} {base B : Nat} {v : Value} {P : List MgT} (h : MLb w base B v P) (hB : B ≤ w.heap.size) : ∃ a c, v = .slice a P.length c ∧ MLR w w.heap.size a P := by
  rcases h.row.2 with ⟨rfl, h0⟩ | ⟨g, cap, cur, rfl, hb, hh, hle, hm, hrest⟩
  · have : P = [] := by simpa using h0
    subst this
    exact ⟨none, 0, rfl, MLR.nil _ _ _⟩
  · refine ⟨some ⟨g, 0, none⟩, cap, rfl, .inr ⟨g, 0, rfl, ?_, fun i hi => ?_⟩, fun T hT => (h.inn T hT).mono hB, h.fit⟩
    · exact (World.ownsRow.lt h.row g rfl).2
    · have := World.ownsRow.cellAt h.row i (by rw [mgv_length] at hi; exact hi)
      rw [Nat.zero_add, this]
      simp only [List.getD, List.getElem?_eq_getElem hi, Option.getD_some]
theorem wpList_appMb {ops : Array Oper} {rest : List Oper} {o : Oper} {a : Act} {w : World} {Q : Exit → Act → World → Prop} (hgd : o.guard = none) (s x : Operand)
    (ho : o.op = .call { callee := .builtin .append, args := #[s, x], argTypes := #[62, 62] })
    (base B : Nat) (v : Value) (P : List MgT) (hs : a.eval s = v) (hown : MLb w base B v P) (hBb : B ≤ base) (g : Nat) (T : MgT) (hT : MgIn w B T) (hf : MgFit T) (t : TypeId) (hnew : Own w g t T.cs)
    (hx : a.eval x = .slice (some ⟨g, 0, none⟩) 1 1) (hlen : P.length ≤ 1000000) (hbase : base ≤ w.heap.size)
    (h : ∀ g' cap w', Hid (MLb w' base B (.slice (some ⟨g', 0, none⟩) (P.length + 1) cap) (P ++ [T])) → Chg (rowOf v) w w' → wpList Tryz.prog ops Q rest (a.put o.dst (.slice (some ⟨g', 0, none⟩) (P.length + 1) cap)) w') : wpList Tryz.prog ops Q (o :: rest) a w := by
  obtain ⟨i, hi, hzz⟩ := Option.map_eq_some_iff.1 Tryz.info_msg
  simp only [Prod.mk.injEq] at hzz
  obtain ⟨hz, hsz, hby⟩ := hzz
  refine wpList_append_lies w hgd s x 62 ho base 40 i _ 22 256 Tryz.underlying62 hi hz hsz hby rfl (by omega) v P.length (mgv P) hs hown.row ⟨g, 0, none⟩ 1 1 T.cs hx rfl (fun j u hu => ?_) T.one (by omega) (by unfold maxLen; omega) (by omega) hbase _ rfl fun g' cap w' h2 h3 h4 h5 => ?_
  · rw [add_off, Nat.zero_add, hnew.cell j]; exact hu
  · have hc : Chg (rowOf v) w w' := (Chg.refl _ w).grown h3 (fun k hk => .inl (by simp [rowOf, hk]))
    have hb : Below B w w' := hc.below (Nat.le_trans hBb hbase) (fun x hx => Nat.le_trans hBb (hown.lt x hx).1)
    refine h g' cap w' (Lib.hid ⟨?_, fun U hU => ?_, fun U hU => ?_⟩) hc
    · rw [mgv_append, mgv_one, List.length_append]
      exact h2
    · rcases List.mem_append.1 hU with hU | hU
      · exact (hown.inn U hU).below hb (Nat.le_refl _)
      · rw [List.mem_singleton.1 hU]; exact hT.below hb (Nat.le_refl _)
    · rcases List.mem_append.1 hU with hU | hU
      · exact hown.fit U hU
      · rw [List.mem_singleton.1 hU]; exact hf
/-- what is there was put; all that was put is taken, lost or there -/
structure WInv (S : SpS) (P : List MgT) (c t i : Nat) : Prop where
  put : ∀ k ∈ S.L, ∃ M ∈ P, M.x = pMg k
  sum : c = t + S.lost + S.L.length
  bc : c ≤ i
  bp : P.length ≤ i
theorem WInv.zero : WInv SpS.zero [] 0 0 0 := ⟨(fun k hk => by cases hk), rfl, Nat.le_refl _, Nat.le_refl _⟩
theorem WInv.up {S : SpS} {P : List MgT} {c t i : Nat} (h : WInv S P c t i) : WInv S P c t (i + 1) := ⟨h.put, h.sum, Nat.le_succ_of_le h.bc, Nat.le_succ_of_le h.bp⟩
theorem add_sum (S : SpS) (k : Ky) : (S.add k).lost + (S.add k).L.length = S.lost + S.L.length + 1 := by
  unfold SpS.add
  split
  · simp only; omega
  · simp only [ins_len]; omega
theorem add_mem {S : SpS} {k x : Ky} (h : x ∈ (S.add k).L) : x = k ∨ x ∈ S.L := by
  unfold SpS.add at h
  split at h
  · exact .inr h
  · exact ins_mem.1 h
theorem WInv.putM {S : SpS} {P : List MgT} {c t i : Nat} (h : WInv S P c t i) {M : MgT} {k : Ky} (hr : mright M.x = true) (he : IsME M.x k) : WInv (S.add k) (P ++ [M]) (c + 1) t (i + 1) := by
  refine ⟨fun x hx => ?_, ?_, Nat.succ_le_succ h.bc, ?_⟩
  · rcases add_mem hx with rfl | hx
    · exact ⟨M, by simp, (pMg_enc' hr he).symm⟩
    · obtain ⟨U, hU, e⟩ := h.put x hx
      exact ⟨U, by simp [hU], e⟩
  · have := add_sum S k; have := h.sum; omega
  · rw [List.length_append]; have := h.bp; simp only [List.length_cons, List.length_nil]; omega
theorem WInv.twice {S : SpS} {P : List MgT} {c t i : Nat} (h : WInv S P c t i) {j : Int} {k : Ky} (hk : keyAt S.L j = some k) : WInv (S.twice j) P (c + 1) t (i + 1) ∧ S.twiceE j ≠ 1 := by
  have e1 : S.twice j = S.add k := by unfold SpS.twice; rw [hk]
  have e2 : S.twiceE j = S.addE := by unfold SpS.twiceE; rw [hk]
  rw [e1, e2]
  refine ⟨⟨fun x hx => ?_, ?_, Nat.succ_le_succ h.bc, Nat.le_succ_of_le h.bp⟩, ?_⟩
  · rcases add_mem hx with rfl | hx
    · exact h.put _ (keyAt_mem hk)
    · exact h.put x hx
  · have := add_sum S k; have := h.sum; omega
  · unfold SpS.addE; split <;> decide
theorem WInv.lose {S : SpS} {P : List MgT} {c t i : Nat} (h : WInv S P c t i) (j : Int) : WInv (S.lose j) P c t (i + 1) := by
  cases hk : keyAt S.L j with
  | none =>
    have e1 : S.lose j = S := by unfold SpS.lose; rw [hk]
    rw [e1]; exact h.up
  | some k =>
    have e1 : S.lose j = { S.rem k with lost := S.lost + 1 } := by unfold SpS.lose; rw [hk]
    rw [e1]
    refine ⟨fun x hx => h.put x (List.mem_of_mem_erase hx), ?_, Nat.le_succ_of_le h.bc, Nat.le_succ_of_le h.bp⟩
    show c = t + (S.lost + 1) + (S.L.erase k).length
    rw [List.length_erase_of_mem (keyAt_mem hk)]
    have := List.length_pos_of_mem (keyAt_mem hk)
    have := h.sum
    omega
theorem WInv.take {S : SpS} {P : List MgT} {c t i : Nat} (h : WInv S P c t i) {j : Int} {k : Ky} (hk : keyAt S.L j = some k) : WInv (S.take j) P c (t + 1) (i + 1) := by
  have e1 : S.take j = S.rem k := by unfold SpS.take; rw [hk]
  rw [e1]
  refine ⟨fun x hx => h.put x (List.mem_of_mem_erase hx), ?_, Nat.le_succ_of_le h.bc, Nat.le_succ_of_le h.bp⟩
  show c = t + 1 + S.lost + (S.L.erase k).length
  rw [List.length_erase_of_mem (keyAt_mem hk)]
  have := List.length_pos_of_mem (keyAt_mem hk)
  have := h.sum
  omega
theorem WInv.lo {S : SpS} {P : List MgT} {c t i : Nat} (h : WInv S P c t i) : S.lost ≤ i := by have := h.sum; have := h.bc; omega
open Classical in
/-- is one of the first k the message x? -/
noncomputable def knw (P : List MgT) (k : Nat) (x : Mg) : Bool := decide (∃ M ∈ P.take k, M.x = x)
theorem knw_succ {P : List MgT} {k : Nat} (h : k < P.length) (x : Mg) (t : Bool) (ht : t = true ↔ x = P[k].x) : knw P (k + 1) x = (knw P k x || t) := by
  have e : (∃ M ∈ P.take (k + 1), M.x = x) ↔ ((∃ M ∈ P.take k, M.x = x) ∨ t = true) := by
    rw [List.take_succ_eq_append_getElem h]
    constructor
    · rintro ⟨M, hM, e⟩
      rcases List.mem_append.1 hM with hM | hM
      · exact .inl ⟨M, hM, e⟩
      · rw [List.mem_singleton.1 hM] at e
        exact .inr (ht.2 e.symm)
    · rintro (⟨M, hM, e⟩ | e)
      · exact ⟨M, List.mem_append.2 (.inl hM), e⟩
      · exact ⟨P[k], List.mem_append.2 (.inr (List.mem_singleton.2 rfl)), (ht.1 e).symm⟩
  unfold knw
  by_cases h1 : ∃ M ∈ P.take k, M.x = x
  · rw [decide_eq_true (e.2 (.inl h1)), decide_eq_true h1]; rfl
  · rw [decide_eq_false h1, Bool.false_or]
    cases t with
    | true => exact decide_eq_true (e.2 (.inr rfl))
    | false => exact decide_eq_false (fun hh => (e.1 hh).elim h1 (fun h2 => by cases h2))
theorem knw_zero (P : List MgT) (x : Mg) : knw P 0 x = false := by unfold knw; simp
set_option maxHeartbeats 32000000 in
set_option maxRecDepth 100000 in
theorem soupWhole_any (w : World) {a0 : Option Addr} {L : List AcT} {cc : Nat} (hL : AcsOk w a0 L) :
    Calls Tryz.prog 5 #[.slice a0 L.length cc] w fun e w' => e = .returned (.bool true) ∧ Below w.heap.size w w' := by
  have HAL := Lib.hid alive11_any
  have HNW := Lib.hid (New_any w)
  have HRO := Lib.hid (fun (W' : World) (hb : Below w.heap.size w W') => hL.row.below hb (Nat.le_refl _))
  have HOK := Lib.hid (fun (W' : World) (hb : Below w.heap.size w W') (C : AcT) (hC : C ∈ L) => And.intro ((hL.ok C hC).m.inn.below hb (Nat.le_refl _)) (And.intro (hL.ok C hC).m.fit hb.size))
  obtain ⟨n, hn⟩ : ∃ n, L.length = n := ⟨_, rfl⟩
  have HN := Lib.hid hn
  have HNB : Hid (n ≤ 9223372036854775807) := Lib.hid (by rw [← hn]; exact hL.len)
  rw [hn]
  clear hL hn
  go_enter Tryz.func5, Tryz.ntmps5
  go_wp2_with fail
  refine HNW.out.mono ?_
  rintro e w2 ⟨p, rfl, b, d, hs, hb, hge⟩
  have HS2 := Lib.hid hs
  have HGE : Hid (∀ x ∈ [p, b, d], w.heap.size ≤ x ∧ x < w2.heap.size) := Lib.hid (fun x hx => ⟨hge x hx, hs.lt x hx⟩)
  have HB2 := Lib.hid hb
  clear hs hb hge
  go_wp2_with fail
  go_loopw [4, 5, 6, 7] (fun v4 v5 v6 v7 wr => ∃ (i c t : Nat) (S : SpS) (P : List MgT), v7 = .int .i64 (i : Int) ∧ v5 = .int .i64 (c : Int) ∧ v6 = .int .i64 (t : Int) ∧ i ≤ n ∧ i ≤ 60 ∧ Hid (MLb wr w2.heap.size w.heap.size v4 P) ∧ Hid (Sp wr p b d S) ∧ Hid (WInv S P c t i) ∧ Hid (Chg [p, b, d] w2 wr)) (fun _ _ _ v7 _ => n - (intOf v7).toNat)
  case atStart => exact ⟨0, 0, 0, SpS.zero, [], rfl, rfl, rfl, Nat.zero_le _, Nat.zero_le _, Lib.hid (MLb.nil _ _ _), HS2, Lib.hid WInv.zero, Lib.hid (Chg.refl _ _)⟩
  case round =>
    obtain ⟨i, c, t, S, P, rfl, rfl, rfl, hi1, hi2, HP, HS, HV, HC⟩ := hrel
    rename World => w3
    have HB3 := Lib.hid (below_chg HB2.out HC.out HB2.out.size (fun x hx => (HGE.out x hx).1))
    have HBS := Lib.hid HC.out.size
    have HI := Lib.hid (And.intro hi1 hi2)
    by_cases hlt : i < n ∧ i < 60
    · have hiL : i < L.length := by rw [HN.out]; exact hlt.1
      obtain ⟨bb, off, rfl, hbb, hra⟩ := ac_range (HRO.out w3 HB3.out) hiL
      have HRA := Lib.hid hra
      have HOA := Lib.hid (fun (V : World) (hV : Below w.heap.size w V) => HOK.out V hV L[i] (List.getElem_mem hiL))
      have HLT := Lib.hid hlt
      have e1 : decide ((i : Int) < (n : Int)) = true := by simp; omega
      have e2 : decide ((i : Int) < 60) = true := by simp; omega
      have e3 : decide (i < n) = true := by simp; omega
      have e4 : decide (i < 60) = true := by simp; omega
      have k0 : (0 : Int) ≤ (i : Int) := by omega
      have k1 : (i : Int) < (n : Int) := by omega
      have k2 : (i : Int) ≤ 60 := by omega
      have HZ := Lib.hid (Own.new w3 59 zac.cs)
      generalize L[i] = C at *
      clear hra hlt hiL hbb hi1 hi2
      go_wp2_with (first | refine wpList_loadAc rfl (.tmp 34) rfl bb (off + i * 26) (by rfl) C HRA.out ?_ | refine wpList_storeAc rfl (.tmp 8) (.tmp 35) rfl w3.heap.size rfl C rfl zac.cs HZ.out rfl ?_)
      intro w4 ho hc
      have hc4 : Chg [] w3 w4 := ((Chg.refl [] w3).alloc _).then hc (fun x hx => by simp only [List.mem_singleton] at hx; subst hx; exact .inr (Nat.le_refl _))
      have HS4 := Lib.hid (HS.out.kept hc4)
      have HP4 := Lib.hid (HP.out.chg hc4 (by simp) HB3.out.size)
      have HC4 := Lib.hid (HC.out.trans (hc4.mono (by simp)))
      have HB4 := Lib.hid (below_chg HB3.out hc4 HB3.out.size (by simp))
      have HAB0 : Hid (∀ x ∈ [p, b, d], x < w3.heap.size) := Lib.hid (fun x hx => Nat.lt_of_lt_of_le (HGE.out x hx).2 HBS.out)
      have HPB0 : Hid (∀ x ∈ rowOf u4, x < w3.heap.size) := Lib.hid (fun x hx => (HP.out.lt x hx).2)
      obtain ⟨ab, hab⟩ : ∃ ab, w3.heap.size = ab := ⟨_, rfl⟩
      rw [hab] at ho HAB0 HPB0 ⊢
      have HA4 := Lib.hid ho
      clear ho hc hc4 HZ hab
      obtain ⟨m1, m2, m3⟩ := HOA.out w4 HB4.out
      have HF := Lib.hid (fits10_x C.m w.heap.size w4 m1 m3 m2)
      clear m1 m2 m3
      go_wp2_with (refine wpList_loadMm (.tmp 36) rfl ab 2 rfl C.m HA4.out.actM rfl ?_)
      refine HF.out.mono ?_
      rintro e w5 ⟨rfl, hb⟩
      have hc5 := (Chg.refl [] w4).of_below hb
      have HS5 := Lib.hid (HS4.out.kept hc5)
      have HP5 := Lib.hid (HP4.out.chg hc5 (by simp) HB4.out.size)
      have HC5 := Lib.hid (HC4.out.trans (hc5.mono (by simp)))
      have HB5 := Lib.hid (HB4.out.trans (hb.mono HB4.out.size))
      have HA5 := Lib.hid (HA4.out.chg hc5 (by simp))
      clear hb hc5
      cases mfits C.m with
      | false =>
        go_wp2_with fail
        go_roundw
        case rel => have := HLT.out; exact ⟨i + 1, c, t, S, P, by go_num, rfl, rfl, by omega, by omega, HP5, HS5, Lib.hid HV.out.up, HC5⟩
        case measure => have := HLT.out; simp [intOf]; omega
      | true =>
      obtain ⟨c0, c1, c2, c3, cz⟩ := HA5.out.actC
      have HBC : Hid (c ≤ 60 ∧ t ≤ 60 ∧ P.length ≤ 60 ∧ S.lost ≤ 60) := Lib.hid (by have h1 := HV.out.bc; have h2 := HV.out.sum; have h3 := HV.out.bp; have h4 := HI.out; omega)
      have hcb : (c : Int) ≤ 60 := by have := HBC.out; omega
      have htb : (t : Int) ≤ 60 := by have := HBC.out; omega
      have HP60 : Hid (P.length ≤ 1000000) := Lib.hid (by have := HBC.out; omega)
      have HLO : Hid (S.lost ≤ 1000000) := Lib.hid (by have := HBC.out; omega)
      by_cases hk1 : C.kd = 1
      · rw [hk1] at c0
        obtain ⟨m1, m2, m3⟩ := HOA.out w5 HB5.out
        have HPU := Lib.hid (Put_any HS5.out HLO.out C.m w.heap.size m1 m3 m2)
        clear hk1 m1 m2 m3
        go_wp2_with (refine wpList_loadMm (.tmp 46) rfl ab 2 rfl C.m HA5.out.actM rfl ?_)
        refine HPU.out.mono ?_
        rintro e w6 ⟨g, rfl, S', hr, hs, hc⟩
        have HS6 := Lib.hid hs
        have HP6 := Lib.hid (HP5.out.chg hc (fun x hx => HGE.out x (by simp at hx ⊢; omega)) HB5.out.size)
        have HC6 := Lib.hid (HC5.out.trans (hc.mono (by simp)))
        have HB6 := Lib.hid (below_chg HB5.out hc HB5.out.size (fun x hx => (HGE.out x (by simp at hx ⊢; omega)).1))
        have HA6 := Lib.hid (HA5.out.chg hc (fun hm => by have := HAB0.out ab (by simp at hm ⊢; omega); omega))
        clear c0 c1 c2 c3 cz hs hc
        cases hrr : mright C.m.x with
        | false =>
          obtain ⟨rfl, rfl⟩ := hr.no hrr
          have HV6 := Lib.hid HV.out.up
          clear hr hrr
          go_wp2_with fail
          have HXS : Hid (Sp w6 p b d S') := HS6
          have HXP : Hid (MLb w6 w2.heap.size w.heap.size u4 P) := HP6
          have HXC := HC6
          have HXV : Hid (WInv S' P c t (i + 1)) := HV6
          obtain ⟨S1, hS1⟩ : ∃ S1 : SpS, S' = S1 := ⟨_, rfl⟩
          obtain ⟨P1, hP1⟩ : ∃ P1 : List MgT, P = P1 := ⟨_, rfl⟩
          rw [hS1] at HXS HXV
          rw [hP1] at HXP HXV
          have HKI := Lib.hid (Kinds_any HXS.out)
          have HOKK : Hid (∀ k ∈ dd S1.L, MOk k) := Lib.hid fun k hk => HXS.out.enc k (dd_mem.1 hk)
          have HL4 := Lib.hid HXS.out.len
          have HSRT := Lib.hid HXS.out.srt
          clear hS1 hP1
          go_wp2_with fail
          refine HKI.out.mono ?_
          rintro e wa ⟨va, rfl, Ts, hm, hmap, hc⟩
          have HYS := Lib.hid (HXS.out.kept hc)
          have HYP := Lib.hid (HXP.out.chg hc (by simp) (by have h1 := HB2.out.size; have h2 := HXC.out.size; omega))
          have HYC := Lib.hid (HXC.out.trans (hc.mono (by simp)))
          obtain ⟨la, lc, rfl, hml⟩ := hm.form
          have HML := Lib.hid hml
          have HMP := Lib.hid hmap
          obtain ⟨nk, hnk⟩ : ∃ nk, Ts.length = nk := ⟨_, rfl⟩
          have HNK := Lib.hid hnk
          have HND : Hid ((dd S1.L).length = nk) := Lib.hid (by
            have := congrArg List.length hmap
            rw [List.length_map, List.length_map] at this
            omega)
          have HNK4 : Hid (nk ≤ 400) := Lib.hid (by
            have h2 := nodup_sub_le (dd_nodup HSRT.out) (fun x hx => dd_mem.1 hx)
            have := HND.out
            have := HL4.out
            omega)
          rw [hnk]
          clear hm hmap hc hml hnk
          go_wp2_with fail
          go_loopw [17, 18] (fun v17 v18 wr => ∃ k : Nat, v18 = .int .i64 (k : Int) ∧ k ≤ nk ∧ v17 = .int .i64 (sumK S1.L ((dd S1.L).take k) : Int) ∧ Hid (Chg [] wa wr)) (fun _ v18 _ => nk - (intOf v18).toNat)
          case atStart => exact ⟨0, rfl, Nat.zero_le _, rfl, Lib.hid (Chg.refl _ _)⟩
          case round =>
            obtain ⟨k, rfl, hk, rfl, HQ⟩ := hrel
            rename World => wb
            by_cases hkl : k < nk
            · have hkT : k < Ts.length := by rw [HNK.out]; exact hkl
              have hkD : k < (dd S1.L).length := by rw [HND.out]; exact hkl
              have hmb := HML.out.below HQ.out.low (Nat.le_refl _)
              obtain ⟨b1, o1, rfl, hr1⟩ := hmb.at_ hkT
              have HR1 := Lib.hid hr1
              have hTk : Ts[k].x = pMg (dd S1.L)[k] := by
                have := congrArg (fun l => l[k]?) HMP.out
                simpa [hkT, hkD] using this
              have hmo := HOKK.out _ (List.getElem_mem hkD)
              have HTI := Lib.hid (Times_any (HYS.out.kept HQ.out) Ts[k] wa.heap.size (hmb.inn _ (List.getElem_mem hkT)) HQ.out.size (hmb.fit _ (List.getElem_mem hkT)))
              have HTD : Hid (∀ m, TimR S1.L Ts[k].x m → m = S1.L.count (dd S1.L)[k]) := Lib.hid (fun m hm => by
                obtain ⟨k2, _, he2, rfl⟩ := hm.yes (by rw [hTk]; exact hmo.1)
                rw [hTk] at he2
                rw [he2.unique hmo.2])
              have HSU : Hid (sumK S1.L ((dd S1.L).take (k + 1)) = sumK S1.L ((dd S1.L).take k) + S1.L.count (dd S1.L)[k]) := Lib.hid (by rw [List.take_succ_eq_append_getElem hkD, sumK_snoc])
              have HSB : Hid (sumK S1.L ((dd S1.L).take (k + 1)) ≤ 400) := Lib.hid (Nat.le_trans (sumK_le ((dd_nodup HSRT.out).sublist (List.take_sublist _ _)) S1.L) HL4.out)
              generalize Ts[k] = U at *
              generalize S1.L.count (dd S1.L)[k] = ct at *
              obtain ⟨sm1, hsm1⟩ : ∃ sm1, sumK S1.L ((dd S1.L).take (k + 1)) = sm1 := ⟨_, rfl⟩
              have HS1 := Lib.hid hsm1
              rw [hsm1] at HSU HSB
              clear hsm1
              generalize sumK S1.L ((dd S1.L).take k) = sm at *
              have j0 : (0 : Int) ≤ (k : Int) := by omega
              have j1 : (k : Int) < (nk : Int) := by omega
              have jb : (k : Int) ≤ 400 := by have := HNK4.out; omega
              have jd : decide (k < nk) = true := by simpa using hkl
              have HKL := Lib.hid hkl
              clear hr1 hkl hkT hkD hk hmb hTk hmo
              go_wp2_with (refine wpList_loadMm (.tmp 118) rfl b1 (o1 + k * 22) rfl U HR1.out rfl ?_)
              refine HTI.out.mono ?_
              rintro e wc ⟨m, rfl, ht, hc⟩
              obtain rfl := HTD.out m ht
              have HQ2 := Lib.hid (HQ.out.trans hc)
              obtain ⟨sI, hsI⟩ : ∃ sI : Int, ((sm1 : Nat) : Int) = sI := ⟨_, rfl⟩
              have hws : IntKind.i64.wrap ((sm : Int) + (m : Int)) = sI := by have h1 := HSU.out; have h2 := HSB.out; rw [IntWalk.i64_in _ (by omega)]; omega
              have hqs : (sm : Int) + (m : Int) = sI := by have h1 := HSU.out; omega
              have HSI := Lib.hid hsI
              clear ht hc hsI
              go_wp2_with fail
              go_roundw
              case rel => have := HKL.out; exact ⟨k + 1, by go_num, by omega, congrArg (Value.int .i64) (by have h1 := HSI.out; have h2 := HSB.out; have h3 := HS1.out; unfold wrap64; omega), HQ2⟩
              case measure => have := HKL.out; simp [intOf]; omega
            · obtain rfl : k = nk := by omega
              have jd : decide (k < k) = false := by simp
              have HSU : Hid (sumK S1.L ((dd S1.L).take k) = S1.L.length) := Lib.hid (by rw [List.take_of_length_le (by rw [HND.out]; exact Nat.le_refl _)]; exact sum_dd HSRT.out)
              rw [HSU.out]
              obtain ⟨nl, hnl⟩ : ∃ nl, S1.L.length = nl := ⟨_, rfl⟩
              have HNL := Lib.hid hnl
              rw [hnl]
              have HZS := Lib.hid (HYS.out.kept HQ.out)
              have HZP := Lib.hid (HYP.out.chg HQ.out (by simp) (by have h1 := HB2.out.size; have h2 := HYC.out.size; omega))
              have HZC := Lib.hid (HYC.out.trans (HQ.out.mono (by simp)))
              have HLT2 := Lib.hid (Lost_any HZS.out)
              have HLE := Lib.hid (Len_any HZS.out)
              rw [hnl] at HLE
              obtain ⟨lo, hlo⟩ : ∃ lo, S1.lost = lo := ⟨_, rfl⟩
              rw [hlo] at HLT2
              have HSM : Hid (c = t + lo + nl ∧ c ≤ 61) := Lib.hid ⟨by rw [← hlo, ← hnl]; exact HXV.out.sum, by have h1 := HXV.out.bc; have h2 := HLT.out; omega⟩
              have hw1 : IntKind.i64.wrap (((t : Nat) : Int) + (lo : Int)) = ((t + lo : Nat) : Int) := by have h1 := HSM.out; rw [IntWalk.i64_in _ (by omega)]; omega
              clear hkl hk hnl hlo
              obtain ⟨cI, hcI⟩ : ∃ cI : Int, ((c : Nat) : Int) = cI := ⟨_, rfl⟩
              obtain ⟨tI, htI⟩ : ∃ tI : Int, ((t : Nat) : Int) = tI := ⟨_, rfl⟩
              have HCI := Lib.hid hcI
              have HTI2 := Lib.hid htI
              have htb2 : 0 ≤ tI ∧ tI ≤ 61 := by have h1 := HSM.out; omega
              have hlb : (lo : Int) ≤ 61 := by have h1 := HSM.out; omega
              have hnb : (nl : Int) ≤ 61 := by have h1 := HSM.out; omega
              have hsum : cI = tI + (lo : Int) + (nl : Int) := by have h1 := HSM.out; omega
              have HSUM := Lib.hid hsum
              try rw [hcI]
              try rw [htI]
              clear hw1 hcI htI hsum
              go_wp2_with fail
              refine HLT2.out.mono ?_
              rintro e wc ⟨rfl, rfl⟩
              go_wp2_with fail
              refine HLE.out.mono ?_
              rintro e wc ⟨rfl, hc⟩
              have HZS2 := Lib.hid (HZS.out.kept hc)
              have HZP2 := Lib.hid (HZP.out.chg hc (by simp) (by have h1 := HB2.out.size; have h2 := HZC.out.size; omega))
              have HZC2 := Lib.hid (HZC.out.trans (hc.mono (by simp)))
              have HLE2 := Lib.hid (Len_any HZS2.out)
              rw [HNL.out] at HLE2
              have hne : (cI != tI + (lo : Int) + (nl : Int)) = false := by rw [← HSUM.out]; simp
              have hnn : ((nl : Int) != (nl : Int)) = false := by simp
              clear hc
              go_wp2_with fail
              refine HLE2.out.mono ?_
              rintro e wd ⟨rfl, hc⟩
              have HZS3 := Lib.hid (HZS2.out.kept hc)
              have HZP3 := Lib.hid (HZP2.out.chg hc (by simp) (by have h1 := HB2.out.size; have h2 := HZC2.out.size; omega))
              have HZC3 := Lib.hid (HZC2.out.trans (hc.mono (by simp)))
              clear hc hne
              go_wp2_with fail
              go_roundw
              case rel => have := HLT.out; exact ⟨i + 1, c, t, S1, P1, by go_num, congrArg (Value.int .i64) (by have := HCI.out; omega), congrArg (Value.int .i64) (by have := HTI2.out; omega), by omega, by omega, HZP3, HZS3, HXV, HZC3⟩
              case measure => have := HLT.out; simp [intOf]; omega
        | true =>
          obtain ⟨kk, hk, he, rfl, rfl⟩ := hr.yes hrr
          have HV6 := Lib.hid (HV.out.putM hrr he)
          have hne : (S.addE != 101) = true := by unfold SpS.addE; split <;> decide
          have hne2 : (S.addE == 101) = false := by unfold SpS.addE; split <;> decide
          obtain ⟨m1, m2, m3⟩ := HOA.out w6 HB6.out
          have hca : Chg [] w6 (w6.alloc (.cells C.m.cs.toArray 40)) := (Chg.refl [] w6).alloc _
          have HCA := Lib.hid hca
          have HP7 := Lib.hid (HP6.out.chg hca (by simp) HB6.out.size)
          have HI7 := Lib.hid (m1.below hca.low m3)
          have HF7 := Lib.hid m2
          have HO7 := Lib.hid (Own.new w6 40 C.m.cs)
          have HBB : Hid (w.heap.size ≤ w2.heap.size) := Lib.hid HB2.out.size
          have HBA : Hid (w2.heap.size ≤ (w6.alloc (.cells C.m.cs.toArray 40)).heap.size) := Lib.hid (Nat.le_trans HC6.out.size hca.size)
          have HLR := Lib.hid (fun x hx => (HP6.out.lt x hx).1)
          clear hr hrr hk he m1 m2 m3 hca
          go_wp2_with (first | refine wpList_loadMm (.tmp 51) rfl ab 2 rfl C.m HA6.out.actM rfl ?_ | refine wpList_sliceMg rfl (.tmp 52) rfl C.m rfl ?_ | (refine wpList_appMb rfl (.tmp 50) (.tmp 53) rfl w2.heap.size w.heap.size u4 P rfl HP7.out HBB.out w6.heap.size C.m HI7.out HF7.out 40 HO7.out rfl HP60.out HBA.out ?_; intro g9 cap9 w7 hm hc7))
          have hc67 : Chg (rowOf u4) w6 w7 := (HCA.out.mono (by simp)).trans hc7
          have HS7 := Lib.hid (HS6.out.chg hc67 (fun hm => by have h1 := HLR.out _ hm; have h2 := HGE.out p (by simp); omega) (fun hm => by have h1 := HLR.out _ hm; have h2 := HGE.out b (by simp); omega) (fun hm => by have h1 := HLR.out _ hm; have h2 := HGE.out d (by simp); omega))
          have HC7 := Lib.hid (HC6.out.then hc67 (fun x hx => .inr (HLR.out x hx)))
          have HV7 := HV6
          clear hc7 hc67
          go_wp2_with fail
          have HXS : Hid (Sp w7 p b d (S.add kk)) := HS7
          have HXP : Hid (MLb w7 w2.heap.size w.heap.size (.slice (some ⟨g9, 0, none⟩) (P.length + 1) cap9) (P ++ [C.m])) := hm
          have HXC := HC7
          have HXV : Hid (WInv (S.add kk) (P ++ [C.m]) (c + 1) t (i + 1)) := HV7
          obtain ⟨S1, hS1⟩ : ∃ S1 : SpS, (S.add kk) = S1 := ⟨_, rfl⟩
          obtain ⟨P1, hP1⟩ : ∃ P1 : List MgT, (P ++ [C.m]) = P1 := ⟨_, rfl⟩
          rw [hS1] at HXS HXV
          rw [hP1] at HXP HXV
          have HKI := Lib.hid (Kinds_any HXS.out)
          have HOKK : Hid (∀ k ∈ dd S1.L, MOk k) := Lib.hid fun k hk => HXS.out.enc k (dd_mem.1 hk)
          have HL4 := Lib.hid HXS.out.len
          have HSRT := Lib.hid HXS.out.srt
          clear hS1 hP1
          go_wp2_with fail
          refine HKI.out.mono ?_
          rintro e wa ⟨va, rfl, Ts, hm, hmap, hc⟩
          have HYS := Lib.hid (HXS.out.kept hc)
          have HYP := Lib.hid (HXP.out.chg hc (by simp) (by have h1 := HB2.out.size; have h2 := HXC.out.size; omega))
          have HYC := Lib.hid (HXC.out.trans (hc.mono (by simp)))
          obtain ⟨la, lc, rfl, hml⟩ := hm.form
          have HML := Lib.hid hml
          have HMP := Lib.hid hmap
          obtain ⟨nk, hnk⟩ : ∃ nk, Ts.length = nk := ⟨_, rfl⟩
          have HNK := Lib.hid hnk
          have HND : Hid ((dd S1.L).length = nk) := Lib.hid (by
            have := congrArg List.length hmap
            rw [List.length_map, List.length_map] at this
            omega)
          have HNK4 : Hid (nk ≤ 400) := Lib.hid (by
            have h2 := nodup_sub_le (dd_nodup HSRT.out) (fun x hx => dd_mem.1 hx)
            have := HND.out
            have := HL4.out
            omega)
          rw [hnk]
          clear hm hmap hc hml hnk
          go_wp2_with fail
          go_loopw [17, 18] (fun v17 v18 wr => ∃ k : Nat, v18 = .int .i64 (k : Int) ∧ k ≤ nk ∧ v17 = .int .i64 (sumK S1.L ((dd S1.L).take k) : Int) ∧ Hid (Chg [] wa wr)) (fun _ v18 _ => nk - (intOf v18).toNat)
          case atStart => exact ⟨0, rfl, Nat.zero_le _, rfl, Lib.hid (Chg.refl _ _)⟩
          case round =>
            obtain ⟨k, rfl, hk, rfl, HQ⟩ := hrel
            rename World => wb
            by_cases hkl : k < nk
            · have hkT : k < Ts.length := by rw [HNK.out]; exact hkl
              have hkD : k < (dd S1.L).length := by rw [HND.out]; exact hkl
              have hmb := HML.out.below HQ.out.low (Nat.le_refl _)
              obtain ⟨b1, o1, rfl, hr1⟩ := hmb.at_ hkT
              have HR1 := Lib.hid hr1
              have hTk : Ts[k].x = pMg (dd S1.L)[k] := by
                have := congrArg (fun l => l[k]?) HMP.out
                simpa [hkT, hkD] using this
              have hmo := HOKK.out _ (List.getElem_mem hkD)
              have HTI := Lib.hid (Times_any (HYS.out.kept HQ.out) Ts[k] wa.heap.size (hmb.inn _ (List.getElem_mem hkT)) HQ.out.size (hmb.fit _ (List.getElem_mem hkT)))
              have HTD : Hid (∀ m, TimR S1.L Ts[k].x m → m = S1.L.count (dd S1.L)[k]) := Lib.hid (fun m hm => by
                obtain ⟨k2, _, he2, rfl⟩ := hm.yes (by rw [hTk]; exact hmo.1)
                rw [hTk] at he2
                rw [he2.unique hmo.2])
              have HSU : Hid (sumK S1.L ((dd S1.L).take (k + 1)) = sumK S1.L ((dd S1.L).take k) + S1.L.count (dd S1.L)[k]) := Lib.hid (by rw [List.take_succ_eq_append_getElem hkD, sumK_snoc])
              have HSB : Hid (sumK S1.L ((dd S1.L).take (k + 1)) ≤ 400) := Lib.hid (Nat.le_trans (sumK_le ((dd_nodup HSRT.out).sublist (List.take_sublist _ _)) S1.L) HL4.out)
              generalize Ts[k] = U at *
              generalize S1.L.count (dd S1.L)[k] = ct at *
              obtain ⟨sm1, hsm1⟩ : ∃ sm1, sumK S1.L ((dd S1.L).take (k + 1)) = sm1 := ⟨_, rfl⟩
              have HS1 := Lib.hid hsm1
              rw [hsm1] at HSU HSB
              clear hsm1
              generalize sumK S1.L ((dd S1.L).take k) = sm at *
              have j0 : (0 : Int) ≤ (k : Int) := by omega
              have j1 : (k : Int) < (nk : Int) := by omega
              have jb : (k : Int) ≤ 400 := by have := HNK4.out; omega
              have jd : decide (k < nk) = true := by simpa using hkl
              have HKL := Lib.hid hkl
              clear hr1 hkl hkT hkD hk hmb hTk hmo
              go_wp2_with (refine wpList_loadMm (.tmp 118) rfl b1 (o1 + k * 22) rfl U HR1.out rfl ?_)
              refine HTI.out.mono ?_
              rintro e wc ⟨m, rfl, ht, hc⟩
              obtain rfl := HTD.out m ht
              have HQ2 := Lib.hid (HQ.out.trans hc)
              obtain ⟨sI, hsI⟩ : ∃ sI : Int, ((sm1 : Nat) : Int) = sI := ⟨_, rfl⟩
              have hws : IntKind.i64.wrap ((sm : Int) + (m : Int)) = sI := by have h1 := HSU.out; have h2 := HSB.out; rw [IntWalk.i64_in _ (by omega)]; omega
              have hqs : (sm : Int) + (m : Int) = sI := by have h1 := HSU.out; omega
              have HSI := Lib.hid hsI
              clear ht hc hsI
              go_wp2_with fail
              go_roundw
              case rel => have := HKL.out; exact ⟨k + 1, by go_num, by omega, congrArg (Value.int .i64) (by have h1 := HSI.out; have h2 := HSB.out; have h3 := HS1.out; unfold wrap64; omega), HQ2⟩
              case measure => have := HKL.out; simp [intOf]; omega
            · obtain rfl : k = nk := by omega
              have jd : decide (k < k) = false := by simp
              have HSU : Hid (sumK S1.L ((dd S1.L).take k) = S1.L.length) := Lib.hid (by rw [List.take_of_length_le (by rw [HND.out]; exact Nat.le_refl _)]; exact sum_dd HSRT.out)
              rw [HSU.out]
              obtain ⟨nl, hnl⟩ : ∃ nl, S1.L.length = nl := ⟨_, rfl⟩
              have HNL := Lib.hid hnl
              rw [hnl]
              have HZS := Lib.hid (HYS.out.kept HQ.out)
              have HZP := Lib.hid (HYP.out.chg HQ.out (by simp) (by have h1 := HB2.out.size; have h2 := HYC.out.size; omega))
              have HZC := Lib.hid (HYC.out.trans (HQ.out.mono (by simp)))
              have HLT2 := Lib.hid (Lost_any HZS.out)
              have HLE := Lib.hid (Len_any HZS.out)
              rw [hnl] at HLE
              obtain ⟨lo, hlo⟩ : ∃ lo, S1.lost = lo := ⟨_, rfl⟩
              rw [hlo] at HLT2
              have HSM : Hid ((c + 1) = t + lo + nl ∧ (c + 1) ≤ 61) := Lib.hid ⟨by rw [← hlo, ← hnl]; exact HXV.out.sum, by have h1 := HXV.out.bc; have h2 := HLT.out; omega⟩
              have hw1 : IntKind.i64.wrap (((t : Nat) : Int) + (lo : Int)) = ((t + lo : Nat) : Int) := by have h1 := HSM.out; rw [IntWalk.i64_in _ (by omega)]; omega
              clear hkl hk hnl hlo
              obtain ⟨cI, hcI⟩ : ∃ cI : Int, ((c : Nat) : Int) + 1 = cI := ⟨_, rfl⟩
              obtain ⟨tI, htI⟩ : ∃ tI : Int, ((t : Nat) : Int) = tI := ⟨_, rfl⟩
              have HCI := Lib.hid hcI
              have HTI2 := Lib.hid htI
              have htb2 : 0 ≤ tI ∧ tI ≤ 61 := by have h1 := HSM.out; omega
              have hlb : (lo : Int) ≤ 61 := by have h1 := HSM.out; omega
              have hnb : (nl : Int) ≤ 61 := by have h1 := HSM.out; omega
              have hsum : cI = tI + (lo : Int) + (nl : Int) := by have h1 := HSM.out; omega
              have HSUM := Lib.hid hsum
              try rw [hcI]
              try rw [htI]
              clear hw1 hcI htI hsum
              go_wp2_with fail
              refine HLT2.out.mono ?_
              rintro e wc ⟨rfl, rfl⟩
              go_wp2_with fail
              refine HLE.out.mono ?_
              rintro e wc ⟨rfl, hc⟩
              have HZS2 := Lib.hid (HZS.out.kept hc)
              have HZP2 := Lib.hid (HZP.out.chg hc (by simp) (by have h1 := HB2.out.size; have h2 := HZC.out.size; omega))
              have HZC2 := Lib.hid (HZC.out.trans (hc.mono (by simp)))
              have HLE2 := Lib.hid (Len_any HZS2.out)
              rw [HNL.out] at HLE2
              have hne : (cI != tI + (lo : Int) + (nl : Int)) = false := by rw [← HSUM.out]; simp
              have hnn : ((nl : Int) != (nl : Int)) = false := by simp
              clear hc
              go_wp2_with fail
              refine HLE2.out.mono ?_
              rintro e wd ⟨rfl, hc⟩
              have HZS3 := Lib.hid (HZS2.out.kept hc)
              have HZP3 := Lib.hid (HZP2.out.chg hc (by simp) (by have h1 := HB2.out.size; have h2 := HZC2.out.size; omega))
              have HZC3 := Lib.hid (HZC2.out.trans (hc.mono (by simp)))
              clear hc hne
              go_wp2_with fail
              go_roundw
              case rel => have := HLT.out; exact ⟨i + 1, (c + 1), t, S1, P1, by go_num, congrArg (Value.int .i64) (by have := HCI.out; omega), congrArg (Value.int .i64) (by have := HTI2.out; omega), by omega, by omega, HZP3, HZS3, HXV, HZC3⟩
              case measure => have := HLT.out; simp [intOf]; omega
      by_cases hk2 : C.kd = 2
      · rw [hk2] at c0
        have HTK := Lib.hid (Take_x [] HS5.out C.i (by simp))
        clear hk1 hk2
        go_wp2_with fail
        refine HTK.out.mono ?_
        rintro e w6 ⟨T, u, g, rfl, ht, hf, hin, hx, hs, hc⟩
        have HTR := Lib.hid ht
        have HF6 := Lib.hid hf
        have HI6 := Lib.hid hin
        have HS6 := Lib.hid hs
        have HP6 := Lib.hid (HP5.out.chg hc (fun x hx => HGE.out x (by simp at hx ⊢; omega)) HB5.out.size)
        have HC6 := Lib.hid (HC5.out.trans (hc.mono (by simp)))
        have HB6 := Lib.hid (below_chg HB5.out hc HB5.out.size (fun x hx => (HGE.out x (by simp at hx ⊢; omega)).1))
        have HZ := Lib.hid (Own.new w6 40 zmT.cs)
        clear c0 c1 c2 c3 cz ht hf hin hx hs hc
        go_wp2_with (refine wpList_storeMg rfl (.tmp 10) (.tmp 64) rfl w6.heap.size rfl T rfl zmT.cs HZ.out rfl ?_)
        intro w7 ho hc
        have hc7 : Chg [] w6 w7 := ((Chg.refl [] w6).alloc _).then hc (fun x hx => by simp only [List.mem_singleton] at hx; subst hx; exact .inr (Nat.le_refl _))
        have HI7 := Lib.hid ((HI6.out.below hc7.low (Nat.le_refl _)).mono hc7.size)
        have HS7 := Lib.hid (HS6.out.kept hc7)
        have HP7 := Lib.hid (HP6.out.chg hc7 (by simp) HB6.out.size)
        have HC7 := Lib.hid (HC6.out.trans (hc7.mono (by simp)))
        have HB7 := Lib.hid (below_chg HB6.out hc7 HB6.out.size (by simp))
        obtain ⟨m1, hm1⟩ : ∃ m1, w6.heap.size = m1 := ⟨_, rfl⟩
        rw [hm1] at ho ⊢
        have HM7 := Lib.hid ho
        clear ho hc hc7 hm1 HZ
        obtain ⟨pa, pc, rfl, hmlr⟩ := HP7.out.form HB7.out.size
        obtain ⟨np, hnp⟩ : ∃ np, P.length = np := ⟨_, rfl⟩
        have HNP := Lib.hid hnp
        have HNP60 : Hid (np ≤ 60) := Lib.hid (by have := HBC.out; omega)
        have HMR := Lib.hid hmlr
        rw [hnp] at HP7 ⊢
        obtain ⟨kn, hkn⟩ : ∃ kn, (g != 0) = kn := ⟨_, rfl⟩
        have HKN := Lib.hid hkn
        clear hmlr hnp
        go_wp2_with fail
        clear hkn
        go_loopw [13, 14] (fun v13 v14 wr => ∃ k : Nat, v14 = .int .i64 (k : Int) ∧ k ≤ np ∧ v13 = .bool (kn || knw P k T.x) ∧ Hid (Below w7.heap.size w7 wr)) (fun _ v14 _ => np - (intOf v14).toNat)
        case atStart => exact ⟨0, rfl, Nat.zero_le _, by rw [knw_zero, Bool.or_false], Lib.hid (Below.refl _ _)⟩
        case round =>
          obtain ⟨k, rfl, hk, rfl, HQ⟩ := hrel
          rename World => w8
          by_cases hkl : k < np
          · have hkP : k < P.length := by rw [HNP.out]; exact hkl
            obtain ⟨b1, o1, rfl, hr1⟩ := (HMR.out.below HQ.out (Nat.le_refl _)).at_ hkP
            have HRG : Hid (∀ V, Below w8.heap.size w8 V → V.rangeAt m1 0 T.cs ∧ V.rangeAt b1 (o1 + k * 22) P[k].cs) := Lib.hid fun V hV => by
              have hq := HQ.out.trans (hV.mono HQ.out.size)
              obtain ⟨b1', o1', h1, g1⟩ := (HMR.out.below hq (Nat.le_refl _)).at_ hkP
              injection h1 with h1; injection h1 with h1 h1' _
              subst h1 h1'
              exact ⟨(HM7.out.below hq HM7.out.lt).range, g1⟩
            have HSM : Hid (∀ V, Below w8.heap.size w8 V → Calls Tryz.prog 16 #[.agg T.cs.toArray, .agg P[k].cs.toArray] V fun e w' => e = .returned (.bool (msEq T P[k])) ∧ Below V.heap.size V w') := Lib.hid fun V hV => by
              have hq := HQ.out.trans (hV.mono HQ.out.size)
              have hm := HMR.out.below hq (Nat.le_refl _)
              exact rmsame_any T P[k] w7.heap.size V (HI7.out.below hq (Nat.le_refl _)) (hm.inn _ (List.getElem_mem hkP)) hq.size HF6.out (hm.fit _ (List.getElem_mem hkP))
            have HKS : Hid (knw P (k + 1) T.x = (knw P k T.x || msEq T P[k])) := Lib.hid (knw_succ hkP T.x _ (msEq_iff T P[k]))
            generalize msEq T P[k] = tt at *
            generalize P[k] = U at *
            have j0 : (0 : Int) ≤ (k : Int) := by omega
            have j1 : (k : Int) < (np : Int) := by omega
            have jb : (k : Int) ≤ 60 := by have := HNP60.out; omega
            have jd : decide (k < np) = true := by simpa using hkl
            have HKL := Lib.hid hkl
            obtain ⟨kt, hkt⟩ : ∃ kt, (kn || knw P k T.x) = kt := ⟨_, rfl⟩
            have HKT : Hid ((kn || knw P (k + 1) T.x) = (kt || tt)) := Lib.hid (by rw [HKS.out, ← hkt, Bool.or_assoc])
            rw [hkt]
            clear hr1 hkl hkP hk hkt
            go_upto_region 24 with fail
            refine wp_region_held_drew (S := (fun V => Below w8.heap.size w8 V)) (by kernel_rfl) ((Below.refl _ _).drew) fun hHeld => ?_
            refine wpAnyH_take (i := 0) (v := .agg T.cs.toArray) rfl (by kernel_rfl) (by kernel_rfl) (by kernel_rfl) (fun _ _ _ h => h) (Or.inl ⟨by kernel_rfl, ?_⟩) hHeld ?_
            · (intro w hSw; exact run_loadMgM (.tmp 10) rfl m1 0 rfl T (HRG.out w hSw).1)
            (try simp only [Act.put, List.getElem_toArray, List.getElem_cons_succ, List.getElem_cons_zero, List.setIfInBounds_toArray, List.set_cons_zero, List.set_cons_succ])
            refine wpAnyH_take (i := 1) (v := ?_) rfl (by kernel_rfl) (by kernel_rfl) (by kernel_rfl) (fun _ _ _ h => h) (Or.inl ⟨by kernel_rfl, ?_⟩) hHeld ?_
            rotate_left
            · (intro w hSw; first | (go_simp; done) | (go_simp; with_reducible rfl))
            (try simp only [Act.put, List.getElem_toArray, List.getElem_cons_succ, List.getElem_cons_zero, List.setIfInBounds_toArray, List.set_cons_zero, List.set_cons_succ])
            refine wpAnyH_take (i := 2) (v := ?_) rfl (by kernel_rfl) (by kernel_rfl) (by kernel_rfl) (fun _ _ _ h => h) (Or.inl ⟨by kernel_rfl, ?_⟩) hHeld ?_
            rotate_left
            · (intro w hSw; first | (go_simp; done) | (go_simp; with_reducible rfl))
            (try simp only [Act.put, List.getElem_toArray, List.getElem_cons_succ, List.getElem_cons_zero, List.setIfInBounds_toArray, List.set_cons_zero, List.set_cons_succ])
            refine wpAnyH_take (i := 3) (v := ?_) rfl (by kernel_rfl) (by kernel_rfl) (by kernel_rfl) (fun _ _ _ h => h) (Or.inl ⟨by kernel_rfl, ?_⟩) hHeld ?_
            rotate_left
            · (intro w hSw; first | (go_simp; done) | (go_simp; with_reducible rfl))
            (try simp only [Act.put, List.getElem_toArray, List.getElem_cons_succ, List.getElem_cons_zero, List.setIfInBounds_toArray, List.set_cons_zero, List.set_cons_succ])
            refine wpAnyH_take (i := 4) (v := .agg U.cs.toArray) rfl (by kernel_rfl) (by kernel_rfl) (by kernel_rfl) (fun _ _ _ h => h) (Or.inl ⟨by kernel_rfl, ?_⟩) hHeld ?_
            · (intro w hSw; exact run_loadMgM (.tmp 78) rfl b1 (o1 + k * 22) rfl U (HRG.out w hSw).2)
            (try simp only [Act.put, List.getElem_toArray, List.getElem_cons_succ, List.getElem_cons_zero, List.setIfInBounds_toArray, List.set_cons_zero, List.set_cons_succ])
            refine wpAnyH_ready (rs := [5]) (by kernel_rfl) (by simp) (AllReadyH.cons rfl (fun K hK => ?_) AllReadyH.nil)
            have hH := hHeld
            (go_simp; go_at_call 16; refine (HSM.out _ hH).mono ?_; rintro e w9 ⟨rfl, hb9⟩)
            refine hK.out _ _ (by exact hH.trans (hb9.mono hH.size)) (fun hHq1 => ?_)
            clear hK K hH 
            (try simp only [Act.put, List.getElem_toArray, List.getElem_cons_succ, List.getElem_cons_zero, List.setIfInBounds_toArray, List.set_cons_zero, List.set_cons_succ])
            refine wpAnyH_take (i := 6) (v := ?_) rfl (by kernel_rfl) (by kernel_rfl) (by kernel_rfl) (fun _ _ _ h => h) (Or.inl ⟨by kernel_rfl, ?_⟩) hHq1 ?_
            rotate_left
            · (intro w hSw; first | (go_simp; done) | (go_simp; with_reducible rfl))
            (try simp only [Act.put, List.getElem_toArray, List.getElem_cons_succ, List.getElem_cons_zero, List.setIfInBounds_toArray, List.set_cons_zero, List.set_cons_succ])
            refine wpAnyH_done (by kernel_rfl) ?_ _
            have hEnd := hHq1
            have HE := Lib.hid (HQ.out.trans (hEnd.mono HQ.out.size))
            clear hHeld hEnd
            cases kt with
            | true =>
              go_wp2_with fail
              go_roundw
              case rel => have := HKL.out; exact ⟨k + 1, by go_num, by omega, by rw [HKT.out]; rfl, HE⟩
              case measure => have := HKL.out; simp [intOf]; omega
            | false =>
              go_wp2_with fail
              go_roundw
              case rel => have := HKL.out; exact ⟨k + 1, by go_num, by omega, by rw [HKT.out]; simp, HE⟩
              case measure => have := HKL.out; simp [intOf]; omega
          · obtain rfl : k = np := by omega
            have jd : decide (k < k) = false := by simp
            have hc8 := (Chg.refl [] w7).of_below HQ.out
            have HS8 := Lib.hid (HS7.out.kept hc8)
            have HP8 := Lib.hid (HP7.out.chg hc8 (by simp) HB7.out.size)
            have HC8 := Lib.hid (HC7.out.trans (hc8.mono (by simp)))
            clear hkl hk hc8
            cases hka : keyAt S.L C.i with
            | none =>
              obtain ⟨-, -, rfl⟩ := HTR.out.no hka
              obtain rfl : kn = true := by rw [← HKN.out]; rfl
              have e9 : S.take C.i = S := by unfold SpS.take; rw [hka]
              rw [e9] at HS8
              have HV8 := Lib.hid HV.out.up
              clear hka e9
              rw [Bool.true_or]
              go_wp2_with fail
              have HXS : Hid (Sp w8 p b d S) := HS8
              have HXP : Hid (MLb w8 w2.heap.size w.heap.size (.slice pa k pc) P) := HP8
              have HXC := HC8
              have HXV : Hid (WInv S P c t (i + 1)) := HV8
              obtain ⟨S1, hS1⟩ : ∃ S1 : SpS, S = S1 := ⟨_, rfl⟩
              obtain ⟨P1, hP1⟩ : ∃ P1 : List MgT, P = P1 := ⟨_, rfl⟩
              rw [hS1] at HXS HXV
              rw [hP1] at HXP HXV
              have HKI := Lib.hid (Kinds_any HXS.out)
              have HOKK : Hid (∀ k ∈ dd S1.L, MOk k) := Lib.hid fun k hk => HXS.out.enc k (dd_mem.1 hk)
              have HL4 := Lib.hid HXS.out.len
              have HSRT := Lib.hid HXS.out.srt
              clear hS1 hP1
              go_wp2_with fail
              refine HKI.out.mono ?_
              rintro e wa ⟨va, rfl, Ts, hm, hmap, hc⟩
              have HYS := Lib.hid (HXS.out.kept hc)
              have HYP := Lib.hid (HXP.out.chg hc (by simp) (by have h1 := HB2.out.size; have h2 := HXC.out.size; omega))
              have HYC := Lib.hid (HXC.out.trans (hc.mono (by simp)))
              obtain ⟨la, lc, rfl, hml⟩ := hm.form
              have HML := Lib.hid hml
              have HMP := Lib.hid hmap
              obtain ⟨nk, hnk⟩ : ∃ nk, Ts.length = nk := ⟨_, rfl⟩
              have HNK := Lib.hid hnk
              have HND : Hid ((dd S1.L).length = nk) := Lib.hid (by
                have := congrArg List.length hmap
                rw [List.length_map, List.length_map] at this
                omega)
              have HNK4 : Hid (nk ≤ 400) := Lib.hid (by
                have h2 := nodup_sub_le (dd_nodup HSRT.out) (fun x hx => dd_mem.1 hx)
                have := HND.out
                have := HL4.out
                omega)
              rw [hnk]
              clear hm hmap hc hml hnk
              go_wp2_with fail
              go_loopw [17, 18] (fun v17 v18 wr => ∃ k : Nat, v18 = .int .i64 (k : Int) ∧ k ≤ nk ∧ v17 = .int .i64 (sumK S1.L ((dd S1.L).take k) : Int) ∧ Hid (Chg [] wa wr)) (fun _ v18 _ => nk - (intOf v18).toNat)
              case atStart => exact ⟨0, rfl, Nat.zero_le _, rfl, Lib.hid (Chg.refl _ _)⟩
              case round =>
                obtain ⟨k, rfl, hk, rfl, HQ⟩ := hrel
                rename World => wb
                by_cases hkl : k < nk
                · have hkT : k < Ts.length := by rw [HNK.out]; exact hkl
                  have hkD : k < (dd S1.L).length := by rw [HND.out]; exact hkl
                  have hmb := HML.out.below HQ.out.low (Nat.le_refl _)
                  obtain ⟨b1, o1, rfl, hr1⟩ := hmb.at_ hkT
                  have HR1 := Lib.hid hr1
                  have hTk : Ts[k].x = pMg (dd S1.L)[k] := by
                    have := congrArg (fun l => l[k]?) HMP.out
                    simpa [hkT, hkD] using this
                  have hmo := HOKK.out _ (List.getElem_mem hkD)
                  have HTI := Lib.hid (Times_any (HYS.out.kept HQ.out) Ts[k] wa.heap.size (hmb.inn _ (List.getElem_mem hkT)) HQ.out.size (hmb.fit _ (List.getElem_mem hkT)))
                  have HTD : Hid (∀ m, TimR S1.L Ts[k].x m → m = S1.L.count (dd S1.L)[k]) := Lib.hid (fun m hm => by
                    obtain ⟨k2, _, he2, rfl⟩ := hm.yes (by rw [hTk]; exact hmo.1)
                    rw [hTk] at he2
                    rw [he2.unique hmo.2])
                  have HSU : Hid (sumK S1.L ((dd S1.L).take (k + 1)) = sumK S1.L ((dd S1.L).take k) + S1.L.count (dd S1.L)[k]) := Lib.hid (by rw [List.take_succ_eq_append_getElem hkD, sumK_snoc])
                  have HSB : Hid (sumK S1.L ((dd S1.L).take (k + 1)) ≤ 400) := Lib.hid (Nat.le_trans (sumK_le ((dd_nodup HSRT.out).sublist (List.take_sublist _ _)) S1.L) HL4.out)
                  generalize Ts[k] = U at *
                  generalize S1.L.count (dd S1.L)[k] = ct at *
                  obtain ⟨sm1, hsm1⟩ : ∃ sm1, sumK S1.L ((dd S1.L).take (k + 1)) = sm1 := ⟨_, rfl⟩
                  have HS1 := Lib.hid hsm1
                  rw [hsm1] at HSU HSB
                  clear hsm1
                  generalize sumK S1.L ((dd S1.L).take k) = sm at *
                  have j0 : (0 : Int) ≤ (k : Int) := by omega
                  have j1 : (k : Int) < (nk : Int) := by omega
                  have jb : (k : Int) ≤ 400 := by have := HNK4.out; omega
                  have jd : decide (k < nk) = true := by simpa using hkl
                  have HKL := Lib.hid hkl
                  clear hr1 hkl hkT hkD hk hmb hTk hmo
                  go_wp2_with (refine wpList_loadMm (.tmp 118) rfl b1 (o1 + k * 22) rfl U HR1.out rfl ?_)
                  refine HTI.out.mono ?_
                  rintro e wc ⟨m, rfl, ht, hc⟩
                  obtain rfl := HTD.out m ht
                  have HQ2 := Lib.hid (HQ.out.trans hc)
                  obtain ⟨sI, hsI⟩ : ∃ sI : Int, ((sm1 : Nat) : Int) = sI := ⟨_, rfl⟩
                  have hws : IntKind.i64.wrap ((sm : Int) + (m : Int)) = sI := by have h1 := HSU.out; have h2 := HSB.out; rw [IntWalk.i64_in _ (by omega)]; omega
                  have hqs : (sm : Int) + (m : Int) = sI := by have h1 := HSU.out; omega
                  have HSI := Lib.hid hsI
                  clear ht hc hsI
                  go_wp2_with fail
                  go_roundw
                  case rel => have := HKL.out; exact ⟨k + 1, by go_num, by omega, congrArg (Value.int .i64) (by have h1 := HSI.out; have h2 := HSB.out; have h3 := HS1.out; unfold wrap64; omega), HQ2⟩
                  case measure => have := HKL.out; simp [intOf]; omega
                · obtain rfl : k = nk := by omega
                  have jd : decide (k < k) = false := by simp
                  have HSU : Hid (sumK S1.L ((dd S1.L).take k) = S1.L.length) := Lib.hid (by rw [List.take_of_length_le (by rw [HND.out]; exact Nat.le_refl _)]; exact sum_dd HSRT.out)
                  rw [HSU.out]
                  obtain ⟨nl, hnl⟩ : ∃ nl, S1.L.length = nl := ⟨_, rfl⟩
                  have HNL := Lib.hid hnl
                  rw [hnl]
                  have HZS := Lib.hid (HYS.out.kept HQ.out)
                  have HZP := Lib.hid (HYP.out.chg HQ.out (by simp) (by have h1 := HB2.out.size; have h2 := HYC.out.size; omega))
                  have HZC := Lib.hid (HYC.out.trans (HQ.out.mono (by simp)))
                  have HLT2 := Lib.hid (Lost_any HZS.out)
                  have HLE := Lib.hid (Len_any HZS.out)
                  rw [hnl] at HLE
                  obtain ⟨lo, hlo⟩ : ∃ lo, S1.lost = lo := ⟨_, rfl⟩
                  rw [hlo] at HLT2
                  have HSM : Hid (c = t + lo + nl ∧ c ≤ 61) := Lib.hid ⟨by rw [← hlo, ← hnl]; exact HXV.out.sum, by have h1 := HXV.out.bc; have h2 := HLT.out; omega⟩
                  have hw1 : IntKind.i64.wrap (((t : Nat) : Int) + (lo : Int)) = ((t + lo : Nat) : Int) := by have h1 := HSM.out; rw [IntWalk.i64_in _ (by omega)]; omega
                  clear hkl hk hnl hlo
                  obtain ⟨cI, hcI⟩ : ∃ cI : Int, ((c : Nat) : Int) = cI := ⟨_, rfl⟩
                  obtain ⟨tI, htI⟩ : ∃ tI : Int, ((t : Nat) : Int) = tI := ⟨_, rfl⟩
                  have HCI := Lib.hid hcI
                  have HTI2 := Lib.hid htI
                  have htb2 : 0 ≤ tI ∧ tI ≤ 61 := by have h1 := HSM.out; omega
                  have hlb : (lo : Int) ≤ 61 := by have h1 := HSM.out; omega
                  have hnb : (nl : Int) ≤ 61 := by have h1 := HSM.out; omega
                  have hsum : cI = tI + (lo : Int) + (nl : Int) := by have h1 := HSM.out; omega
                  have HSUM := Lib.hid hsum
                  try rw [hcI]
                  try rw [htI]
                  clear hw1 hcI htI hsum
                  go_wp2_with fail
                  refine HLT2.out.mono ?_
                  rintro e wc ⟨rfl, rfl⟩
                  go_wp2_with fail
                  refine HLE.out.mono ?_
                  rintro e wc ⟨rfl, hc⟩
                  have HZS2 := Lib.hid (HZS.out.kept hc)
                  have HZP2 := Lib.hid (HZP.out.chg hc (by simp) (by have h1 := HB2.out.size; have h2 := HZC.out.size; omega))
                  have HZC2 := Lib.hid (HZC.out.trans (hc.mono (by simp)))
                  have HLE2 := Lib.hid (Len_any HZS2.out)
                  rw [HNL.out] at HLE2
                  have hne : (cI != tI + (lo : Int) + (nl : Int)) = false := by rw [← HSUM.out]; simp
                  have hnn : ((nl : Int) != (nl : Int)) = false := by simp
                  clear hc
                  go_wp2_with fail
                  refine HLE2.out.mono ?_
                  rintro e wd ⟨rfl, hc⟩
                  have HZS3 := Lib.hid (HZS2.out.kept hc)
                  have HZP3 := Lib.hid (HZP2.out.chg hc (by simp) (by have h1 := HB2.out.size; have h2 := HZC2.out.size; omega))
                  have HZC3 := Lib.hid (HZC2.out.trans (hc.mono (by simp)))
                  clear hc hne
                  go_wp2_with fail
                  go_roundw
                  case rel => have := HLT.out; exact ⟨i + 1, c, t, S1, P1, by go_num, congrArg (Value.int .i64) (by have := HCI.out; omega), congrArg (Value.int .i64) (by have := HTI2.out; omega), by omega, by omega, HZP3, HZS3, HXV, HZC3⟩
                  case measure => have := HLT.out; simp [intOf]; omega
            | some kk =>
              obtain ⟨y1, -, rfl⟩ := HTR.out.yes kk hka
              obtain rfl : kn = false := by rw [← HKN.out]; rfl
              have hkn : knw P k T.x = true := by
                obtain ⟨M, hM, e⟩ := HV.out.put kk (keyAt_mem hka)
                unfold knw
                refine decide_eq_true ⟨M, ?_, e.trans y1.symm⟩
                rw [List.take_of_length_le (by rw [HNP.out]; exact Nat.le_refl _)]
                exact hM
              have HV8 := Lib.hid (HV.out.take hka)
              rw [hkn, Bool.or_true]
              clear hka y1 hkn
              go_wp2_with fail
              have HXS : Hid (Sp w8 p b d (S.take C.i)) := HS8
              have HXP : Hid (MLb w8 w2.heap.size w.heap.size (.slice pa k pc) P) := HP8
              have HXC := HC8
              have HXV : Hid (WInv (S.take C.i) P c (t + 1) (i + 1)) := HV8
              obtain ⟨S1, hS1⟩ : ∃ S1 : SpS, (S.take C.i) = S1 := ⟨_, rfl⟩
              obtain ⟨P1, hP1⟩ : ∃ P1 : List MgT, P = P1 := ⟨_, rfl⟩
              rw [hS1] at HXS HXV
              rw [hP1] at HXP HXV
              have HKI := Lib.hid (Kinds_any HXS.out)
              have HOKK : Hid (∀ k ∈ dd S1.L, MOk k) := Lib.hid fun k hk => HXS.out.enc k (dd_mem.1 hk)
              have HL4 := Lib.hid HXS.out.len
              have HSRT := Lib.hid HXS.out.srt
              clear hS1 hP1
              go_wp2_with fail
              refine HKI.out.mono ?_
              rintro e wa ⟨va, rfl, Ts, hm, hmap, hc⟩
              have HYS := Lib.hid (HXS.out.kept hc)
              have HYP := Lib.hid (HXP.out.chg hc (by simp) (by have h1 := HB2.out.size; have h2 := HXC.out.size; omega))
              have HYC := Lib.hid (HXC.out.trans (hc.mono (by simp)))
              obtain ⟨la, lc, rfl, hml⟩ := hm.form
              have HML := Lib.hid hml
              have HMP := Lib.hid hmap
              obtain ⟨nk, hnk⟩ : ∃ nk, Ts.length = nk := ⟨_, rfl⟩
              have HNK := Lib.hid hnk
              have HND : Hid ((dd S1.L).length = nk) := Lib.hid (by
                have := congrArg List.length hmap
                rw [List.length_map, List.length_map] at this
                omega)
              have HNK4 : Hid (nk ≤ 400) := Lib.hid (by
                have h2 := nodup_sub_le (dd_nodup HSRT.out) (fun x hx => dd_mem.1 hx)
                have := HND.out
                have := HL4.out
                omega)
              rw [hnk]
              clear hm hmap hc hml hnk
              go_wp2_with fail
              go_loopw [17, 18] (fun v17 v18 wr => ∃ k : Nat, v18 = .int .i64 (k : Int) ∧ k ≤ nk ∧ v17 = .int .i64 (sumK S1.L ((dd S1.L).take k) : Int) ∧ Hid (Chg [] wa wr)) (fun _ v18 _ => nk - (intOf v18).toNat)
              case atStart => exact ⟨0, rfl, Nat.zero_le _, rfl, Lib.hid (Chg.refl _ _)⟩
              case round =>
                obtain ⟨k, rfl, hk, rfl, HQ⟩ := hrel
                rename World => wb
                by_cases hkl : k < nk
                · have hkT : k < Ts.length := by rw [HNK.out]; exact hkl
                  have hkD : k < (dd S1.L).length := by rw [HND.out]; exact hkl
                  have hmb := HML.out.below HQ.out.low (Nat.le_refl _)
                  obtain ⟨b1, o1, rfl, hr1⟩ := hmb.at_ hkT
                  have HR1 := Lib.hid hr1
                  have hTk : Ts[k].x = pMg (dd S1.L)[k] := by
                    have := congrArg (fun l => l[k]?) HMP.out
                    simpa [hkT, hkD] using this
                  have hmo := HOKK.out _ (List.getElem_mem hkD)
                  have HTI := Lib.hid (Times_any (HYS.out.kept HQ.out) Ts[k] wa.heap.size (hmb.inn _ (List.getElem_mem hkT)) HQ.out.size (hmb.fit _ (List.getElem_mem hkT)))
                  have HTD : Hid (∀ m, TimR S1.L Ts[k].x m → m = S1.L.count (dd S1.L)[k]) := Lib.hid (fun m hm => by
                    obtain ⟨k2, _, he2, rfl⟩ := hm.yes (by rw [hTk]; exact hmo.1)
                    rw [hTk] at he2
                    rw [he2.unique hmo.2])
                  have HSU : Hid (sumK S1.L ((dd S1.L).take (k + 1)) = sumK S1.L ((dd S1.L).take k) + S1.L.count (dd S1.L)[k]) := Lib.hid (by rw [List.take_succ_eq_append_getElem hkD, sumK_snoc])
                  have HSB : Hid (sumK S1.L ((dd S1.L).take (k + 1)) ≤ 400) := Lib.hid (Nat.le_trans (sumK_le ((dd_nodup HSRT.out).sublist (List.take_sublist _ _)) S1.L) HL4.out)
                  generalize Ts[k] = U at *
                  generalize S1.L.count (dd S1.L)[k] = ct at *
                  obtain ⟨sm1, hsm1⟩ : ∃ sm1, sumK S1.L ((dd S1.L).take (k + 1)) = sm1 := ⟨_, rfl⟩
                  have HS1 := Lib.hid hsm1
                  rw [hsm1] at HSU HSB
                  clear hsm1
                  generalize sumK S1.L ((dd S1.L).take k) = sm at *
                  have j0 : (0 : Int) ≤ (k : Int) := by omega
                  have j1 : (k : Int) < (nk : Int) := by omega
                  have jb : (k : Int) ≤ 400 := by have := HNK4.out; omega
                  have jd : decide (k < nk) = true := by simpa using hkl
                  have HKL := Lib.hid hkl
                  clear hr1 hkl hkT hkD hk hmb hTk hmo
                  go_wp2_with (refine wpList_loadMm (.tmp 118) rfl b1 (o1 + k * 22) rfl U HR1.out rfl ?_)
                  refine HTI.out.mono ?_
                  rintro e wc ⟨m, rfl, ht, hc⟩
                  obtain rfl := HTD.out m ht
                  have HQ2 := Lib.hid (HQ.out.trans hc)
                  obtain ⟨sI, hsI⟩ : ∃ sI : Int, ((sm1 : Nat) : Int) = sI := ⟨_, rfl⟩
                  have hws : IntKind.i64.wrap ((sm : Int) + (m : Int)) = sI := by have h1 := HSU.out; have h2 := HSB.out; rw [IntWalk.i64_in _ (by omega)]; omega
                  have hqs : (sm : Int) + (m : Int) = sI := by have h1 := HSU.out; omega
                  have HSI := Lib.hid hsI
                  clear ht hc hsI
                  go_wp2_with fail
                  go_roundw
                  case rel => have := HKL.out; exact ⟨k + 1, by go_num, by omega, congrArg (Value.int .i64) (by have h1 := HSI.out; have h2 := HSB.out; have h3 := HS1.out; unfold wrap64; omega), HQ2⟩
                  case measure => have := HKL.out; simp [intOf]; omega
                · obtain rfl : k = nk := by omega
                  have jd : decide (k < k) = false := by simp
                  have HSU : Hid (sumK S1.L ((dd S1.L).take k) = S1.L.length) := Lib.hid (by rw [List.take_of_length_le (by rw [HND.out]; exact Nat.le_refl _)]; exact sum_dd HSRT.out)
                  rw [HSU.out]
                  obtain ⟨nl, hnl⟩ : ∃ nl, S1.L.length = nl := ⟨_, rfl⟩
                  have HNL := Lib.hid hnl
                  rw [hnl]
                  have HZS := Lib.hid (HYS.out.kept HQ.out)
                  have HZP := Lib.hid (HYP.out.chg HQ.out (by simp) (by have h1 := HB2.out.size; have h2 := HYC.out.size; omega))
                  have HZC := Lib.hid (HYC.out.trans (HQ.out.mono (by simp)))
                  have HLT2 := Lib.hid (Lost_any HZS.out)
                  have HLE := Lib.hid (Len_any HZS.out)
                  rw [hnl] at HLE
                  obtain ⟨lo, hlo⟩ : ∃ lo, S1.lost = lo := ⟨_, rfl⟩
                  rw [hlo] at HLT2
                  have HSM : Hid (c = (t + 1) + lo + nl ∧ c ≤ 61) := Lib.hid ⟨by rw [← hlo, ← hnl]; exact HXV.out.sum, by have h1 := HXV.out.bc; have h2 := HLT.out; omega⟩
                  have hw1 : IntKind.i64.wrap ((((t + 1) : Nat) : Int) + (lo : Int)) = (((t + 1) + lo : Nat) : Int) := by have h1 := HSM.out; rw [IntWalk.i64_in _ (by omega)]; omega
                  clear hkl hk hnl hlo
                  obtain ⟨cI, hcI⟩ : ∃ cI : Int, ((c : Nat) : Int) = cI := ⟨_, rfl⟩
                  obtain ⟨tI, htI⟩ : ∃ tI : Int, ((t : Nat) : Int) + 1 = tI := ⟨_, rfl⟩
                  have HCI := Lib.hid hcI
                  have HTI2 := Lib.hid htI
                  have htb2 : 0 ≤ tI ∧ tI ≤ 61 := by have h1 := HSM.out; omega
                  have hlb : (lo : Int) ≤ 61 := by have h1 := HSM.out; omega
                  have hnb : (nl : Int) ≤ 61 := by have h1 := HSM.out; omega
                  have hsum : cI = tI + (lo : Int) + (nl : Int) := by have h1 := HSM.out; omega
                  have HSUM := Lib.hid hsum
                  try rw [hcI]
                  try rw [htI]
                  clear hw1 hcI htI hsum
                  go_wp2_with fail
                  refine HLT2.out.mono ?_
                  rintro e wc ⟨rfl, rfl⟩
                  go_wp2_with fail
                  refine HLE.out.mono ?_
                  rintro e wc ⟨rfl, hc⟩
                  have HZS2 := Lib.hid (HZS.out.kept hc)
                  have HZP2 := Lib.hid (HZP.out.chg hc (by simp) (by have h1 := HB2.out.size; have h2 := HZC.out.size; omega))
                  have HZC2 := Lib.hid (HZC.out.trans (hc.mono (by simp)))
                  have HLE2 := Lib.hid (Len_any HZS2.out)
                  rw [HNL.out] at HLE2
                  have hne : (cI != tI + (lo : Int) + (nl : Int)) = false := by rw [← HSUM.out]; simp
                  have hnn : ((nl : Int) != (nl : Int)) = false := by simp
                  clear hc
                  go_wp2_with fail
                  refine HLE2.out.mono ?_
                  rintro e wd ⟨rfl, hc⟩
                  have HZS3 := Lib.hid (HZS2.out.kept hc)
                  have HZP3 := Lib.hid (HZP2.out.chg hc (by simp) (by have h1 := HB2.out.size; have h2 := HZC2.out.size; omega))
                  have HZC3 := Lib.hid (HZC2.out.trans (hc.mono (by simp)))
                  clear hc hne
                  go_wp2_with fail
                  go_roundw
                  case rel => have := HLT.out; exact ⟨i + 1, c, (t + 1), S1, P1, by go_num, congrArg (Value.int .i64) (by have := HCI.out; omega), congrArg (Value.int .i64) (by have := HTI2.out; omega), by omega, by omega, HZP3, HZS3, HXV, HZC3⟩
                  case measure => have := HLT.out; simp [intOf]; omega
      by_cases hk3 : C.kd = 3
      · rw [hk3] at c0
        have HTW := Lib.hid (Twice_any HS5.out HLO.out C.i)
        clear hk1 hk2 hk3
        go_wp2_with fail
        refine HTW.out.mono ?_
        rintro e w6 ⟨rfl, hs, hc⟩
        have HS6 := Lib.hid hs
        have HP6 := Lib.hid (HP5.out.chg hc (fun x hx => HGE.out x (by simp at hx ⊢; omega)) HB5.out.size)
        have HC6 := Lib.hid (HC5.out.trans (hc.mono (by simp)))
        clear c0 c1 c2 c3 cz hs hc
        cases hka : keyAt S.L C.i with
        | none =>
          have e9 : S.twice C.i = S := by unfold SpS.twice; rw [hka]
          have e8 : S.twiceE C.i = 1 := by unfold SpS.twiceE; rw [hka]
          rw [e9] at HS6
          rw [e8]
          have HV6 := Lib.hid HV.out.up
          clear hka e8 e9
          go_wp2_with fail
          have HXS : Hid (Sp w6 p b d S) := HS6
          have HXP : Hid (MLb w6 w2.heap.size w.heap.size u4 P) := HP6
          have HXC := HC6
          have HXV : Hid (WInv S P c t (i + 1)) := HV6
          obtain ⟨S1, hS1⟩ : ∃ S1 : SpS, S = S1 := ⟨_, rfl⟩
          obtain ⟨P1, hP1⟩ : ∃ P1 : List MgT, P = P1 := ⟨_, rfl⟩
          rw [hS1] at HXS HXV
          rw [hP1] at HXP HXV
          have HKI := Lib.hid (Kinds_any HXS.out)
          have HOKK : Hid (∀ k ∈ dd S1.L, MOk k) := Lib.hid fun k hk => HXS.out.enc k (dd_mem.1 hk)
          have HL4 := Lib.hid HXS.out.len
          have HSRT := Lib.hid HXS.out.srt
          clear hS1 hP1
          go_wp2_with fail
          refine HKI.out.mono ?_
          rintro e wa ⟨va, rfl, Ts, hm, hmap, hc⟩
          have HYS := Lib.hid (HXS.out.kept hc)
          have HYP := Lib.hid (HXP.out.chg hc (by simp) (by have h1 := HB2.out.size; have h2 := HXC.out.size; omega))
          have HYC := Lib.hid (HXC.out.trans (hc.mono (by simp)))
          obtain ⟨la, lc, rfl, hml⟩ := hm.form
          have HML := Lib.hid hml
          have HMP := Lib.hid hmap
          obtain ⟨nk, hnk⟩ : ∃ nk, Ts.length = nk := ⟨_, rfl⟩
          have HNK := Lib.hid hnk
          have HND : Hid ((dd S1.L).length = nk) := Lib.hid (by
            have := congrArg List.length hmap
            rw [List.length_map, List.length_map] at this
            omega)
          have HNK4 : Hid (nk ≤ 400) := Lib.hid (by
            have h2 := nodup_sub_le (dd_nodup HSRT.out) (fun x hx => dd_mem.1 hx)
            have := HND.out
            have := HL4.out
            omega)
          rw [hnk]
          clear hm hmap hc hml hnk
          go_wp2_with fail
          go_loopw [17, 18] (fun v17 v18 wr => ∃ k : Nat, v18 = .int .i64 (k : Int) ∧ k ≤ nk ∧ v17 = .int .i64 (sumK S1.L ((dd S1.L).take k) : Int) ∧ Hid (Chg [] wa wr)) (fun _ v18 _ => nk - (intOf v18).toNat)
          case atStart => exact ⟨0, rfl, Nat.zero_le _, rfl, Lib.hid (Chg.refl _ _)⟩
          case round =>
            obtain ⟨k, rfl, hk, rfl, HQ⟩ := hrel
            rename World => wb
            by_cases hkl : k < nk
            · have hkT : k < Ts.length := by rw [HNK.out]; exact hkl
              have hkD : k < (dd S1.L).length := by rw [HND.out]; exact hkl
              have hmb := HML.out.below HQ.out.low (Nat.le_refl _)
              obtain ⟨b1, o1, rfl, hr1⟩ := hmb.at_ hkT
              have HR1 := Lib.hid hr1
              have hTk : Ts[k].x = pMg (dd S1.L)[k] := by
                have := congrArg (fun l => l[k]?) HMP.out
                simpa [hkT, hkD] using this
              have hmo := HOKK.out _ (List.getElem_mem hkD)
              have HTI := Lib.hid (Times_any (HYS.out.kept HQ.out) Ts[k] wa.heap.size (hmb.inn _ (List.getElem_mem hkT)) HQ.out.size (hmb.fit _ (List.getElem_mem hkT)))
              have HTD : Hid (∀ m, TimR S1.L Ts[k].x m → m = S1.L.count (dd S1.L)[k]) := Lib.hid (fun m hm => by
                obtain ⟨k2, _, he2, rfl⟩ := hm.yes (by rw [hTk]; exact hmo.1)
                rw [hTk] at he2
                rw [he2.unique hmo.2])
              have HSU : Hid (sumK S1.L ((dd S1.L).take (k + 1)) = sumK S1.L ((dd S1.L).take k) + S1.L.count (dd S1.L)[k]) := Lib.hid (by rw [List.take_succ_eq_append_getElem hkD, sumK_snoc])
              have HSB : Hid (sumK S1.L ((dd S1.L).take (k + 1)) ≤ 400) := Lib.hid (Nat.le_trans (sumK_le ((dd_nodup HSRT.out).sublist (List.take_sublist _ _)) S1.L) HL4.out)
              generalize Ts[k] = U at *
              generalize S1.L.count (dd S1.L)[k] = ct at *
              obtain ⟨sm1, hsm1⟩ : ∃ sm1, sumK S1.L ((dd S1.L).take (k + 1)) = sm1 := ⟨_, rfl⟩
              have HS1 := Lib.hid hsm1
              rw [hsm1] at HSU HSB
              clear hsm1
              generalize sumK S1.L ((dd S1.L).take k) = sm at *
              have j0 : (0 : Int) ≤ (k : Int) := by omega
              have j1 : (k : Int) < (nk : Int) := by omega
              have jb : (k : Int) ≤ 400 := by have := HNK4.out; omega
              have jd : decide (k < nk) = true := by simpa using hkl
              have HKL := Lib.hid hkl
              clear hr1 hkl hkT hkD hk hmb hTk hmo
              go_wp2_with (refine wpList_loadMm (.tmp 118) rfl b1 (o1 + k * 22) rfl U HR1.out rfl ?_)
              refine HTI.out.mono ?_
              rintro e wc ⟨m, rfl, ht, hc⟩
              obtain rfl := HTD.out m ht
              have HQ2 := Lib.hid (HQ.out.trans hc)
              obtain ⟨sI, hsI⟩ : ∃ sI : Int, ((sm1 : Nat) : Int) = sI := ⟨_, rfl⟩
              have hws : IntKind.i64.wrap ((sm : Int) + (m : Int)) = sI := by have h1 := HSU.out; have h2 := HSB.out; rw [IntWalk.i64_in _ (by omega)]; omega
              have hqs : (sm : Int) + (m : Int) = sI := by have h1 := HSU.out; omega
              have HSI := Lib.hid hsI
              clear ht hc hsI
              go_wp2_with fail
              go_roundw
              case rel => have := HKL.out; exact ⟨k + 1, by go_num, by omega, congrArg (Value.int .i64) (by have h1 := HSI.out; have h2 := HSB.out; have h3 := HS1.out; unfold wrap64; omega), HQ2⟩
              case measure => have := HKL.out; simp [intOf]; omega
            · obtain rfl : k = nk := by omega
              have jd : decide (k < k) = false := by simp
              have HSU : Hid (sumK S1.L ((dd S1.L).take k) = S1.L.length) := Lib.hid (by rw [List.take_of_length_le (by rw [HND.out]; exact Nat.le_refl _)]; exact sum_dd HSRT.out)
              rw [HSU.out]
              obtain ⟨nl, hnl⟩ : ∃ nl, S1.L.length = nl := ⟨_, rfl⟩
              have HNL := Lib.hid hnl
              rw [hnl]
              have HZS := Lib.hid (HYS.out.kept HQ.out)
              have HZP := Lib.hid (HYP.out.chg HQ.out (by simp) (by have h1 := HB2.out.size; have h2 := HYC.out.size; omega))
              have HZC := Lib.hid (HYC.out.trans (HQ.out.mono (by simp)))
              have HLT2 := Lib.hid (Lost_any HZS.out)
              have HLE := Lib.hid (Len_any HZS.out)
              rw [hnl] at HLE
              obtain ⟨lo, hlo⟩ : ∃ lo, S1.lost = lo := ⟨_, rfl⟩
              rw [hlo] at HLT2
              have HSM : Hid (c = t + lo + nl ∧ c ≤ 61) := Lib.hid ⟨by rw [← hlo, ← hnl]; exact HXV.out.sum, by have h1 := HXV.out.bc; have h2 := HLT.out; omega⟩
              have hw1 : IntKind.i64.wrap (((t : Nat) : Int) + (lo : Int)) = ((t + lo : Nat) : Int) := by have h1 := HSM.out; rw [IntWalk.i64_in _ (by omega)]; omega
              clear hkl hk hnl hlo
              obtain ⟨cI, hcI⟩ : ∃ cI : Int, ((c : Nat) : Int) = cI := ⟨_, rfl⟩
              obtain ⟨tI, htI⟩ : ∃ tI : Int, ((t : Nat) : Int) = tI := ⟨_, rfl⟩
              have HCI := Lib.hid hcI
              have HTI2 := Lib.hid htI
              have htb2 : 0 ≤ tI ∧ tI ≤ 61 := by have h1 := HSM.out; omega
              have hlb : (lo : Int) ≤ 61 := by have h1 := HSM.out; omega
              have hnb : (nl : Int) ≤ 61 := by have h1 := HSM.out; omega
              have hsum : cI = tI + (lo : Int) + (nl : Int) := by have h1 := HSM.out; omega
              have HSUM := Lib.hid hsum
              try rw [hcI]
              try rw [htI]
              clear hw1 hcI htI hsum
              go_wp2_with fail
              refine HLT2.out.mono ?_
              rintro e wc ⟨rfl, rfl⟩
              go_wp2_with fail
              refine HLE.out.mono ?_
              rintro e wc ⟨rfl, hc⟩
              have HZS2 := Lib.hid (HZS.out.kept hc)
              have HZP2 := Lib.hid (HZP.out.chg hc (by simp) (by have h1 := HB2.out.size; have h2 := HZC.out.size; omega))
              have HZC2 := Lib.hid (HZC.out.trans (hc.mono (by simp)))
              have HLE2 := Lib.hid (Len_any HZS2.out)
              rw [HNL.out] at HLE2
              have hne : (cI != tI + (lo : Int) + (nl : Int)) = false := by rw [← HSUM.out]; simp
              have hnn : ((nl : Int) != (nl : Int)) = false := by simp
              clear hc
              go_wp2_with fail
              refine HLE2.out.mono ?_
              rintro e wd ⟨rfl, hc⟩
              have HZS3 := Lib.hid (HZS2.out.kept hc)
              have HZP3 := Lib.hid (HZP2.out.chg hc (by simp) (by have h1 := HB2.out.size; have h2 := HZC2.out.size; omega))
              have HZC3 := Lib.hid (HZC2.out.trans (hc.mono (by simp)))
              clear hc hne
              go_wp2_with fail
              go_roundw
              case rel => have := HLT.out; exact ⟨i + 1, c, t, S1, P1, by go_num, congrArg (Value.int .i64) (by have := HCI.out; omega), congrArg (Value.int .i64) (by have := HTI2.out; omega), by omega, by omega, HZP3, HZS3, HXV, HZC3⟩
              case measure => have := HLT.out; simp [intOf]; omega
        | some kk =>
          obtain ⟨hv, hne⟩ := HV.out.twice hka
          have HV6 := Lib.hid hv
          have hne2 : (S.twiceE C.i != 1) = true := by rw [bne_iff_ne]; exact hne
          have hne3 : (S.twiceE C.i == 1) = false := by rw [beq_eq_false_iff_ne]; exact hne
          generalize S.twiceE C.i = tE at *
          clear hka hv hne
          go_wp2_with fail
          have HXS : Hid (Sp w6 p b d (S.twice C.i)) := HS6
          have HXP : Hid (MLb w6 w2.heap.size w.heap.size u4 P) := HP6
          have HXC := HC6
          have HXV : Hid (WInv (S.twice C.i) P (c + 1) t (i + 1)) := HV6
          obtain ⟨S1, hS1⟩ : ∃ S1 : SpS, (S.twice C.i) = S1 := ⟨_, rfl⟩
          obtain ⟨P1, hP1⟩ : ∃ P1 : List MgT, P = P1 := ⟨_, rfl⟩
          rw [hS1] at HXS HXV
          rw [hP1] at HXP HXV
          have HKI := Lib.hid (Kinds_any HXS.out)
          have HOKK : Hid (∀ k ∈ dd S1.L, MOk k) := Lib.hid fun k hk => HXS.out.enc k (dd_mem.1 hk)
          have HL4 := Lib.hid HXS.out.len
          have HSRT := Lib.hid HXS.out.srt
          clear hS1 hP1
          go_wp2_with fail
          refine HKI.out.mono ?_
          rintro e wa ⟨va, rfl, Ts, hm, hmap, hc⟩
          have HYS := Lib.hid (HXS.out.kept hc)
          have HYP := Lib.hid (HXP.out.chg hc (by simp) (by have h1 := HB2.out.size; have h2 := HXC.out.size; omega))
          have HYC := Lib.hid (HXC.out.trans (hc.mono (by simp)))
          obtain ⟨la, lc, rfl, hml⟩ := hm.form
          have HML := Lib.hid hml
          have HMP := Lib.hid hmap
          obtain ⟨nk, hnk⟩ : ∃ nk, Ts.length = nk := ⟨_, rfl⟩
          have HNK := Lib.hid hnk
          have HND : Hid ((dd S1.L).length = nk) := Lib.hid (by
            have := congrArg List.length hmap
            rw [List.length_map, List.length_map] at this
            omega)
          have HNK4 : Hid (nk ≤ 400) := Lib.hid (by
            have h2 := nodup_sub_le (dd_nodup HSRT.out) (fun x hx => dd_mem.1 hx)
            have := HND.out
            have := HL4.out
            omega)
          rw [hnk]
          clear hm hmap hc hml hnk
          go_wp2_with fail
          go_loopw [17, 18] (fun v17 v18 wr => ∃ k : Nat, v18 = .int .i64 (k : Int) ∧ k ≤ nk ∧ v17 = .int .i64 (sumK S1.L ((dd S1.L).take k) : Int) ∧ Hid (Chg [] wa wr)) (fun _ v18 _ => nk - (intOf v18).toNat)
          case atStart => exact ⟨0, rfl, Nat.zero_le _, rfl, Lib.hid (Chg.refl _ _)⟩
          case round =>
            obtain ⟨k, rfl, hk, rfl, HQ⟩ := hrel
            rename World => wb
            by_cases hkl : k < nk
            · have hkT : k < Ts.length := by rw [HNK.out]; exact hkl
              have hkD : k < (dd S1.L).length := by rw [HND.out]; exact hkl
              have hmb := HML.out.below HQ.out.low (Nat.le_refl _)
              obtain ⟨b1, o1, rfl, hr1⟩ := hmb.at_ hkT
              have HR1 := Lib.hid hr1
              have hTk : Ts[k].x = pMg (dd S1.L)[k] := by
                have := congrArg (fun l => l[k]?) HMP.out
                simpa [hkT, hkD] using this
              have hmo := HOKK.out _ (List.getElem_mem hkD)
              have HTI := Lib.hid (Times_any (HYS.out.kept HQ.out) Ts[k] wa.heap.size (hmb.inn _ (List.getElem_mem hkT)) HQ.out.size (hmb.fit _ (List.getElem_mem hkT)))
              have HTD : Hid (∀ m, TimR S1.L Ts[k].x m → m = S1.L.count (dd S1.L)[k]) := Lib.hid (fun m hm => by
                obtain ⟨k2, _, he2, rfl⟩ := hm.yes (by rw [hTk]; exact hmo.1)
                rw [hTk] at he2
                rw [he2.unique hmo.2])
              have HSU : Hid (sumK S1.L ((dd S1.L).take (k + 1)) = sumK S1.L ((dd S1.L).take k) + S1.L.count (dd S1.L)[k]) := Lib.hid (by rw [List.take_succ_eq_append_getElem hkD, sumK_snoc])
              have HSB : Hid (sumK S1.L ((dd S1.L).take (k + 1)) ≤ 400) := Lib.hid (Nat.le_trans (sumK_le ((dd_nodup HSRT.out).sublist (List.take_sublist _ _)) S1.L) HL4.out)
              generalize Ts[k] = U at *
              generalize S1.L.count (dd S1.L)[k] = ct at *
              obtain ⟨sm1, hsm1⟩ : ∃ sm1, sumK S1.L ((dd S1.L).take (k + 1)) = sm1 := ⟨_, rfl⟩
              have HS1 := Lib.hid hsm1
              rw [hsm1] at HSU HSB
              clear hsm1
              generalize sumK S1.L ((dd S1.L).take k) = sm at *
              have j0 : (0 : Int) ≤ (k : Int) := by omega
              have j1 : (k : Int) < (nk : Int) := by omega
              have jb : (k : Int) ≤ 400 := by have := HNK4.out; omega
              have jd : decide (k < nk) = true := by simpa using hkl
              have HKL := Lib.hid hkl
              clear hr1 hkl hkT hkD hk hmb hTk hmo
              go_wp2_with (refine wpList_loadMm (.tmp 118) rfl b1 (o1 + k * 22) rfl U HR1.out rfl ?_)
              refine HTI.out.mono ?_
              rintro e wc ⟨m, rfl, ht, hc⟩
              obtain rfl := HTD.out m ht
              have HQ2 := Lib.hid (HQ.out.trans hc)
              obtain ⟨sI, hsI⟩ : ∃ sI : Int, ((sm1 : Nat) : Int) = sI := ⟨_, rfl⟩
              have hws : IntKind.i64.wrap ((sm : Int) + (m : Int)) = sI := by have h1 := HSU.out; have h2 := HSB.out; rw [IntWalk.i64_in _ (by omega)]; omega
              have hqs : (sm : Int) + (m : Int) = sI := by have h1 := HSU.out; omega
              have HSI := Lib.hid hsI
              clear ht hc hsI
              go_wp2_with fail
              go_roundw
              case rel => have := HKL.out; exact ⟨k + 1, by go_num, by omega, congrArg (Value.int .i64) (by have h1 := HSI.out; have h2 := HSB.out; have h3 := HS1.out; unfold wrap64; omega), HQ2⟩
              case measure => have := HKL.out; simp [intOf]; omega
            · obtain rfl : k = nk := by omega
              have jd : decide (k < k) = false := by simp
              have HSU : Hid (sumK S1.L ((dd S1.L).take k) = S1.L.length) := Lib.hid (by rw [List.take_of_length_le (by rw [HND.out]; exact Nat.le_refl _)]; exact sum_dd HSRT.out)
              rw [HSU.out]
              obtain ⟨nl, hnl⟩ : ∃ nl, S1.L.length = nl := ⟨_, rfl⟩
              have HNL := Lib.hid hnl
              rw [hnl]
              have HZS := Lib.hid (HYS.out.kept HQ.out)
              have HZP := Lib.hid (HYP.out.chg HQ.out (by simp) (by have h1 := HB2.out.size; have h2 := HYC.out.size; omega))
              have HZC := Lib.hid (HYC.out.trans (HQ.out.mono (by simp)))
              have HLT2 := Lib.hid (Lost_any HZS.out)
              have HLE := Lib.hid (Len_any HZS.out)
              rw [hnl] at HLE
              obtain ⟨lo, hlo⟩ : ∃ lo, S1.lost = lo := ⟨_, rfl⟩
              rw [hlo] at HLT2
              have HSM : Hid ((c + 1) = t + lo + nl ∧ (c + 1) ≤ 61) := Lib.hid ⟨by rw [← hlo, ← hnl]; exact HXV.out.sum, by have h1 := HXV.out.bc; have h2 := HLT.out; omega⟩
              have hw1 : IntKind.i64.wrap (((t : Nat) : Int) + (lo : Int)) = ((t + lo : Nat) : Int) := by have h1 := HSM.out; rw [IntWalk.i64_in _ (by omega)]; omega
              clear hkl hk hnl hlo
              obtain ⟨cI, hcI⟩ : ∃ cI : Int, ((c : Nat) : Int) + 1 = cI := ⟨_, rfl⟩
              obtain ⟨tI, htI⟩ : ∃ tI : Int, ((t : Nat) : Int) = tI := ⟨_, rfl⟩
              have HCI := Lib.hid hcI
              have HTI2 := Lib.hid htI
              have htb2 : 0 ≤ tI ∧ tI ≤ 61 := by have h1 := HSM.out; omega
              have hlb : (lo : Int) ≤ 61 := by have h1 := HSM.out; omega
              have hnb : (nl : Int) ≤ 61 := by have h1 := HSM.out; omega
              have hsum : cI = tI + (lo : Int) + (nl : Int) := by have h1 := HSM.out; omega
              have HSUM := Lib.hid hsum
              try rw [hcI]
              try rw [htI]
              clear hw1 hcI htI hsum
              go_wp2_with fail
              refine HLT2.out.mono ?_
              rintro e wc ⟨rfl, rfl⟩
              go_wp2_with fail
              refine HLE.out.mono ?_
              rintro e wc ⟨rfl, hc⟩
              have HZS2 := Lib.hid (HZS.out.kept hc)
              have HZP2 := Lib.hid (HZP.out.chg hc (by simp) (by have h1 := HB2.out.size; have h2 := HZC.out.size; omega))
              have HZC2 := Lib.hid (HZC.out.trans (hc.mono (by simp)))
              have HLE2 := Lib.hid (Len_any HZS2.out)
              rw [HNL.out] at HLE2
              have hne : (cI != tI + (lo : Int) + (nl : Int)) = false := by rw [← HSUM.out]; simp
              have hnn : ((nl : Int) != (nl : Int)) = false := by simp
              clear hc
              go_wp2_with fail
              refine HLE2.out.mono ?_
              rintro e wd ⟨rfl, hc⟩
              have HZS3 := Lib.hid (HZS2.out.kept hc)
              have HZP3 := Lib.hid (HZP2.out.chg hc (by simp) (by have h1 := HB2.out.size; have h2 := HZC2.out.size; omega))
              have HZC3 := Lib.hid (HZC2.out.trans (hc.mono (by simp)))
              clear hc hne
              go_wp2_with fail
              go_roundw
              case rel => have := HLT.out; exact ⟨i + 1, (c + 1), t, S1, P1, by go_num, congrArg (Value.int .i64) (by have := HCI.out; omega), congrArg (Value.int .i64) (by have := HTI2.out; omega), by omega, by omega, HZP3, HZS3, HXV, HZC3⟩
              case measure => have := HLT.out; simp [intOf]; omega
      by_cases hk4 : C.kd = 4
      · rw [hk4] at c0
        have HLS := Lib.hid (Lose_any HS5.out HLO.out C.i)
        clear hk1 hk2 hk3 hk4
        go_wp2_with fail
        refine HLS.out.mono ?_
        rintro e w6 ⟨rfl, hs, hc⟩
        have HS6 := Lib.hid hs
        have HP6 := Lib.hid (HP5.out.chg hc (fun x hx => HGE.out x (by simp at hx ⊢; omega)) HB5.out.size)
        have HC6 := Lib.hid (HC5.out.trans (hc.mono (by simp)))
        have HV6 := Lib.hid (HV.out.lose C.i)
        clear c0 c1 c2 c3 cz hs hc
        go_wp2_with fail
        have HXS : Hid (Sp w6 p b d (S.lose C.i)) := HS6
        have HXP : Hid (MLb w6 w2.heap.size w.heap.size u4 P) := HP6
        have HXC := HC6
        have HXV : Hid (WInv (S.lose C.i) P c t (i + 1)) := HV6
        obtain ⟨S1, hS1⟩ : ∃ S1 : SpS, (S.lose C.i) = S1 := ⟨_, rfl⟩
        obtain ⟨P1, hP1⟩ : ∃ P1 : List MgT, P = P1 := ⟨_, rfl⟩
        rw [hS1] at HXS HXV
        rw [hP1] at HXP HXV
        have HKI := Lib.hid (Kinds_any HXS.out)
        have HOKK : Hid (∀ k ∈ dd S1.L, MOk k) := Lib.hid fun k hk => HXS.out.enc k (dd_mem.1 hk)
        have HL4 := Lib.hid HXS.out.len
        have HSRT := Lib.hid HXS.out.srt
        clear hS1 hP1
        go_wp2_with fail
        refine HKI.out.mono ?_
        rintro e wa ⟨va, rfl, Ts, hm, hmap, hc⟩
        have HYS := Lib.hid (HXS.out.kept hc)
        have HYP := Lib.hid (HXP.out.chg hc (by simp) (by have h1 := HB2.out.size; have h2 := HXC.out.size; omega))
        have HYC := Lib.hid (HXC.out.trans (hc.mono (by simp)))
        obtain ⟨la, lc, rfl, hml⟩ := hm.form
        have HML := Lib.hid hml
        have HMP := Lib.hid hmap
        obtain ⟨nk, hnk⟩ : ∃ nk, Ts.length = nk := ⟨_, rfl⟩
        have HNK := Lib.hid hnk
        have HND : Hid ((dd S1.L).length = nk) := Lib.hid (by
          have := congrArg List.length hmap
          rw [List.length_map, List.length_map] at this
          omega)
        have HNK4 : Hid (nk ≤ 400) := Lib.hid (by
          have h2 := nodup_sub_le (dd_nodup HSRT.out) (fun x hx => dd_mem.1 hx)
          have := HND.out
          have := HL4.out
          omega)
        rw [hnk]
        clear hm hmap hc hml hnk
        go_wp2_with fail
        go_loopw [17, 18] (fun v17 v18 wr => ∃ k : Nat, v18 = .int .i64 (k : Int) ∧ k ≤ nk ∧ v17 = .int .i64 (sumK S1.L ((dd S1.L).take k) : Int) ∧ Hid (Chg [] wa wr)) (fun _ v18 _ => nk - (intOf v18).toNat)
        case atStart => exact ⟨0, rfl, Nat.zero_le _, rfl, Lib.hid (Chg.refl _ _)⟩
        case round =>
          obtain ⟨k, rfl, hk, rfl, HQ⟩ := hrel
          rename World => wb
          by_cases hkl : k < nk
          · have hkT : k < Ts.length := by rw [HNK.out]; exact hkl
            have hkD : k < (dd S1.L).length := by rw [HND.out]; exact hkl
            have hmb := HML.out.below HQ.out.low (Nat.le_refl _)
            obtain ⟨b1, o1, rfl, hr1⟩ := hmb.at_ hkT
            have HR1 := Lib.hid hr1
            have hTk : Ts[k].x = pMg (dd S1.L)[k] := by
              have := congrArg (fun l => l[k]?) HMP.out
              simpa [hkT, hkD] using this
            have hmo := HOKK.out _ (List.getElem_mem hkD)
            have HTI := Lib.hid (Times_any (HYS.out.kept HQ.out) Ts[k] wa.heap.size (hmb.inn _ (List.getElem_mem hkT)) HQ.out.size (hmb.fit _ (List.getElem_mem hkT)))
            have HTD : Hid (∀ m, TimR S1.L Ts[k].x m → m = S1.L.count (dd S1.L)[k]) := Lib.hid (fun m hm => by
              obtain ⟨k2, _, he2, rfl⟩ := hm.yes (by rw [hTk]; exact hmo.1)
              rw [hTk] at he2
              rw [he2.unique hmo.2])
            have HSU : Hid (sumK S1.L ((dd S1.L).take (k + 1)) = sumK S1.L ((dd S1.L).take k) + S1.L.count (dd S1.L)[k]) := Lib.hid (by rw [List.take_succ_eq_append_getElem hkD, sumK_snoc])
            have HSB : Hid (sumK S1.L ((dd S1.L).take (k + 1)) ≤ 400) := Lib.hid (Nat.le_trans (sumK_le ((dd_nodup HSRT.out).sublist (List.take_sublist _ _)) S1.L) HL4.out)
            generalize Ts[k] = U at *
            generalize S1.L.count (dd S1.L)[k] = ct at *
            obtain ⟨sm1, hsm1⟩ : ∃ sm1, sumK S1.L ((dd S1.L).take (k + 1)) = sm1 := ⟨_, rfl⟩
            have HS1 := Lib.hid hsm1
            rw [hsm1] at HSU HSB
            clear hsm1
            generalize sumK S1.L ((dd S1.L).take k) = sm at *
            have j0 : (0 : Int) ≤ (k : Int) := by omega
            have j1 : (k : Int) < (nk : Int) := by omega
            have jb : (k : Int) ≤ 400 := by have := HNK4.out; omega
            have jd : decide (k < nk) = true := by simpa using hkl
            have HKL := Lib.hid hkl
            clear hr1 hkl hkT hkD hk hmb hTk hmo
            go_wp2_with (refine wpList_loadMm (.tmp 118) rfl b1 (o1 + k * 22) rfl U HR1.out rfl ?_)
            refine HTI.out.mono ?_
            rintro e wc ⟨m, rfl, ht, hc⟩
            obtain rfl := HTD.out m ht
            have HQ2 := Lib.hid (HQ.out.trans hc)
            obtain ⟨sI, hsI⟩ : ∃ sI : Int, ((sm1 : Nat) : Int) = sI := ⟨_, rfl⟩
            have hws : IntKind.i64.wrap ((sm : Int) + (m : Int)) = sI := by have h1 := HSU.out; have h2 := HSB.out; rw [IntWalk.i64_in _ (by omega)]; omega
            have hqs : (sm : Int) + (m : Int) = sI := by have h1 := HSU.out; omega
            have HSI := Lib.hid hsI
            clear ht hc hsI
            go_wp2_with fail
            go_roundw
            case rel => have := HKL.out; exact ⟨k + 1, by go_num, by omega, congrArg (Value.int .i64) (by have h1 := HSI.out; have h2 := HSB.out; have h3 := HS1.out; unfold wrap64; omega), HQ2⟩
            case measure => have := HKL.out; simp [intOf]; omega
          · obtain rfl : k = nk := by omega
            have jd : decide (k < k) = false := by simp
            have HSU : Hid (sumK S1.L ((dd S1.L).take k) = S1.L.length) := Lib.hid (by rw [List.take_of_length_le (by rw [HND.out]; exact Nat.le_refl _)]; exact sum_dd HSRT.out)
            rw [HSU.out]
            obtain ⟨nl, hnl⟩ : ∃ nl, S1.L.length = nl := ⟨_, rfl⟩
            have HNL := Lib.hid hnl
            rw [hnl]
            have HZS := Lib.hid (HYS.out.kept HQ.out)
            have HZP := Lib.hid (HYP.out.chg HQ.out (by simp) (by have h1 := HB2.out.size; have h2 := HYC.out.size; omega))
            have HZC := Lib.hid (HYC.out.trans (HQ.out.mono (by simp)))
            have HLT2 := Lib.hid (Lost_any HZS.out)
            have HLE := Lib.hid (Len_any HZS.out)
            rw [hnl] at HLE
            obtain ⟨lo, hlo⟩ : ∃ lo, S1.lost = lo := ⟨_, rfl⟩
            rw [hlo] at HLT2
            have HSM : Hid (c = t + lo + nl ∧ c ≤ 61) := Lib.hid ⟨by rw [← hlo, ← hnl]; exact HXV.out.sum, by have h1 := HXV.out.bc; have h2 := HLT.out; omega⟩
            have hw1 : IntKind.i64.wrap (((t : Nat) : Int) + (lo : Int)) = ((t + lo : Nat) : Int) := by have h1 := HSM.out; rw [IntWalk.i64_in _ (by omega)]; omega
            clear hkl hk hnl hlo
            obtain ⟨cI, hcI⟩ : ∃ cI : Int, ((c : Nat) : Int) = cI := ⟨_, rfl⟩
            obtain ⟨tI, htI⟩ : ∃ tI : Int, ((t : Nat) : Int) = tI := ⟨_, rfl⟩
            have HCI := Lib.hid hcI
            have HTI2 := Lib.hid htI
            have htb2 : 0 ≤ tI ∧ tI ≤ 61 := by have h1 := HSM.out; omega
            have hlb : (lo : Int) ≤ 61 := by have h1 := HSM.out; omega
            have hnb : (nl : Int) ≤ 61 := by have h1 := HSM.out; omega
            have hsum : cI = tI + (lo : Int) + (nl : Int) := by have h1 := HSM.out; omega
            have HSUM := Lib.hid hsum
            try rw [hcI]
            try rw [htI]
            clear hw1 hcI htI hsum
            go_wp2_with fail
            refine HLT2.out.mono ?_
            rintro e wc ⟨rfl, rfl⟩
            go_wp2_with fail
            refine HLE.out.mono ?_
            rintro e wc ⟨rfl, hc⟩
            have HZS2 := Lib.hid (HZS.out.kept hc)
            have HZP2 := Lib.hid (HZP.out.chg hc (by simp) (by have h1 := HB2.out.size; have h2 := HZC.out.size; omega))
            have HZC2 := Lib.hid (HZC.out.trans (hc.mono (by simp)))
            have HLE2 := Lib.hid (Len_any HZS2.out)
            rw [HNL.out] at HLE2
            have hne : (cI != tI + (lo : Int) + (nl : Int)) = false := by rw [← HSUM.out]; simp
            have hnn : ((nl : Int) != (nl : Int)) = false := by simp
            clear hc
            go_wp2_with fail
            refine HLE2.out.mono ?_
            rintro e wd ⟨rfl, hc⟩
            have HZS3 := Lib.hid (HZS2.out.kept hc)
            have HZP3 := Lib.hid (HZP2.out.chg hc (by simp) (by have h1 := HB2.out.size; have h2 := HZC2.out.size; omega))
            have HZC3 := Lib.hid (HZC2.out.trans (hc.mono (by simp)))
            clear hc hne
            go_wp2_with fail
            go_roundw
            case rel => have := HLT.out; exact ⟨i + 1, c, t, S1, P1, by go_num, congrArg (Value.int .i64) (by have := HCI.out; omega), congrArg (Value.int .i64) (by have := HTI2.out; omega), by omega, by omega, HZP3, HZS3, HXV, HZC3⟩
            case measure => have := HLT.out; simp [intOf]; omega
      · have f1 : (C.kd == 1) = false := by rw [beq_eq_false_iff_ne]; exact hk1
        have f2 : (C.kd == 2) = false := by rw [beq_eq_false_iff_ne]; exact hk2
        have f3 : (C.kd == 3) = false := by rw [beq_eq_false_iff_ne]; exact hk3
        have f4 : (C.kd == 4) = false := by rw [beq_eq_false_iff_ne]; exact hk4
        have HV5 := Lib.hid HV.out.up
        clear hk1 hk2 hk3 hk4
        go_wp2_with fail
        have HXS : Hid (Sp w5 p b d S) := HS5
        have HXP : Hid (MLb w5 w2.heap.size w.heap.size u4 P) := HP5
        have HXC := HC5
        have HXV : Hid (WInv S P c t (i + 1)) := HV5
        obtain ⟨S1, hS1⟩ : ∃ S1 : SpS, S = S1 := ⟨_, rfl⟩
        obtain ⟨P1, hP1⟩ : ∃ P1 : List MgT, P = P1 := ⟨_, rfl⟩
        rw [hS1] at HXS HXV
        rw [hP1] at HXP HXV
        have HKI := Lib.hid (Kinds_any HXS.out)
        have HOKK : Hid (∀ k ∈ dd S1.L, MOk k) := Lib.hid fun k hk => HXS.out.enc k (dd_mem.1 hk)
        have HL4 := Lib.hid HXS.out.len
        have HSRT := Lib.hid HXS.out.srt
        clear hS1 hP1
        go_wp2_with fail
        refine HKI.out.mono ?_
        rintro e wa ⟨va, rfl, Ts, hm, hmap, hc⟩
        have HYS := Lib.hid (HXS.out.kept hc)
        have HYP := Lib.hid (HXP.out.chg hc (by simp) (by have h1 := HB2.out.size; have h2 := HXC.out.size; omega))
        have HYC := Lib.hid (HXC.out.trans (hc.mono (by simp)))
        obtain ⟨la, lc, rfl, hml⟩ := hm.form
        have HML := Lib.hid hml
        have HMP := Lib.hid hmap
        obtain ⟨nk, hnk⟩ : ∃ nk, Ts.length = nk := ⟨_, rfl⟩
        have HNK := Lib.hid hnk
        have HND : Hid ((dd S1.L).length = nk) := Lib.hid (by
          have := congrArg List.length hmap
          rw [List.length_map, List.length_map] at this
          omega)
        have HNK4 : Hid (nk ≤ 400) := Lib.hid (by
          have h2 := nodup_sub_le (dd_nodup HSRT.out) (fun x hx => dd_mem.1 hx)
          have := HND.out
          have := HL4.out
          omega)
        rw [hnk]
        clear hm hmap hc hml hnk
        go_wp2_with fail
        go_loopw [17, 18] (fun v17 v18 wr => ∃ k : Nat, v18 = .int .i64 (k : Int) ∧ k ≤ nk ∧ v17 = .int .i64 (sumK S1.L ((dd S1.L).take k) : Int) ∧ Hid (Chg [] wa wr)) (fun _ v18 _ => nk - (intOf v18).toNat)
        case atStart => exact ⟨0, rfl, Nat.zero_le _, rfl, Lib.hid (Chg.refl _ _)⟩
        case round =>
          obtain ⟨k, rfl, hk, rfl, HQ⟩ := hrel
          rename World => wb
          by_cases hkl : k < nk
          · have hkT : k < Ts.length := by rw [HNK.out]; exact hkl
            have hkD : k < (dd S1.L).length := by rw [HND.out]; exact hkl
            have hmb := HML.out.below HQ.out.low (Nat.le_refl _)
            obtain ⟨b1, o1, rfl, hr1⟩ := hmb.at_ hkT
            have HR1 := Lib.hid hr1
            have hTk : Ts[k].x = pMg (dd S1.L)[k] := by
              have := congrArg (fun l => l[k]?) HMP.out
              simpa [hkT, hkD] using this
            have hmo := HOKK.out _ (List.getElem_mem hkD)
            have HTI := Lib.hid (Times_any (HYS.out.kept HQ.out) Ts[k] wa.heap.size (hmb.inn _ (List.getElem_mem hkT)) HQ.out.size (hmb.fit _ (List.getElem_mem hkT)))
            have HTD : Hid (∀ m, TimR S1.L Ts[k].x m → m = S1.L.count (dd S1.L)[k]) := Lib.hid (fun m hm => by
              obtain ⟨k2, _, he2, rfl⟩ := hm.yes (by rw [hTk]; exact hmo.1)
              rw [hTk] at he2
              rw [he2.unique hmo.2])
            have HSU : Hid (sumK S1.L ((dd S1.L).take (k + 1)) = sumK S1.L ((dd S1.L).take k) + S1.L.count (dd S1.L)[k]) := Lib.hid (by rw [List.take_succ_eq_append_getElem hkD, sumK_snoc])
            have HSB : Hid (sumK S1.L ((dd S1.L).take (k + 1)) ≤ 400) := Lib.hid (Nat.le_trans (sumK_le ((dd_nodup HSRT.out).sublist (List.take_sublist _ _)) S1.L) HL4.out)
            generalize Ts[k] = U at *
            generalize S1.L.count (dd S1.L)[k] = ct at *
            obtain ⟨sm1, hsm1⟩ : ∃ sm1, sumK S1.L ((dd S1.L).take (k + 1)) = sm1 := ⟨_, rfl⟩
            have HS1 := Lib.hid hsm1
            rw [hsm1] at HSU HSB
            clear hsm1
            generalize sumK S1.L ((dd S1.L).take k) = sm at *
            have j0 : (0 : Int) ≤ (k : Int) := by omega
            have j1 : (k : Int) < (nk : Int) := by omega
            have jb : (k : Int) ≤ 400 := by have := HNK4.out; omega
            have jd : decide (k < nk) = true := by simpa using hkl
            have HKL := Lib.hid hkl
            clear hr1 hkl hkT hkD hk hmb hTk hmo
            go_wp2_with (refine wpList_loadMm (.tmp 118) rfl b1 (o1 + k * 22) rfl U HR1.out rfl ?_)
            refine HTI.out.mono ?_
            rintro e wc ⟨m, rfl, ht, hc⟩
            obtain rfl := HTD.out m ht
            have HQ2 := Lib.hid (HQ.out.trans hc)
            obtain ⟨sI, hsI⟩ : ∃ sI : Int, ((sm1 : Nat) : Int) = sI := ⟨_, rfl⟩
            have hws : IntKind.i64.wrap ((sm : Int) + (m : Int)) = sI := by have h1 := HSU.out; have h2 := HSB.out; rw [IntWalk.i64_in _ (by omega)]; omega
            have hqs : (sm : Int) + (m : Int) = sI := by have h1 := HSU.out; omega
            have HSI := Lib.hid hsI
            clear ht hc hsI
            go_wp2_with fail
            go_roundw
            case rel => have := HKL.out; exact ⟨k + 1, by go_num, by omega, congrArg (Value.int .i64) (by have h1 := HSI.out; have h2 := HSB.out; have h3 := HS1.out; unfold wrap64; omega), HQ2⟩
            case measure => have := HKL.out; simp [intOf]; omega
          · obtain rfl : k = nk := by omega
            have jd : decide (k < k) = false := by simp
            have HSU : Hid (sumK S1.L ((dd S1.L).take k) = S1.L.length) := Lib.hid (by rw [List.take_of_length_le (by rw [HND.out]; exact Nat.le_refl _)]; exact sum_dd HSRT.out)
            rw [HSU.out]
            obtain ⟨nl, hnl⟩ : ∃ nl, S1.L.length = nl := ⟨_, rfl⟩
            have HNL := Lib.hid hnl
            rw [hnl]
            have HZS := Lib.hid (HYS.out.kept HQ.out)
            have HZP := Lib.hid (HYP.out.chg HQ.out (by simp) (by have h1 := HB2.out.size; have h2 := HYC.out.size; omega))
            have HZC := Lib.hid (HYC.out.trans (HQ.out.mono (by simp)))
            have HLT2 := Lib.hid (Lost_any HZS.out)
            have HLE := Lib.hid (Len_any HZS.out)
            rw [hnl] at HLE
            obtain ⟨lo, hlo⟩ : ∃ lo, S1.lost = lo := ⟨_, rfl⟩
            rw [hlo] at HLT2
            have HSM : Hid (c = t + lo + nl ∧ c ≤ 61) := Lib.hid ⟨by rw [← hlo, ← hnl]; exact HXV.out.sum, by have h1 := HXV.out.bc; have h2 := HLT.out; omega⟩
            have hw1 : IntKind.i64.wrap (((t : Nat) : Int) + (lo : Int)) = ((t + lo : Nat) : Int) := by have h1 := HSM.out; rw [IntWalk.i64_in _ (by omega)]; omega
            clear hkl hk hnl hlo
            obtain ⟨cI, hcI⟩ : ∃ cI : Int, ((c : Nat) : Int) = cI := ⟨_, rfl⟩
            obtain ⟨tI, htI⟩ : ∃ tI : Int, ((t : Nat) : Int) = tI := ⟨_, rfl⟩
            have HCI := Lib.hid hcI
            have HTI2 := Lib.hid htI
            have htb2 : 0 ≤ tI ∧ tI ≤ 61 := by have h1 := HSM.out; omega
            have hlb : (lo : Int) ≤ 61 := by have h1 := HSM.out; omega
            have hnb : (nl : Int) ≤ 61 := by have h1 := HSM.out; omega
            have hsum : cI = tI + (lo : Int) + (nl : Int) := by have h1 := HSM.out; omega
            have HSUM := Lib.hid hsum
            try rw [hcI]
            try rw [htI]
            clear hw1 hcI htI hsum
            go_wp2_with fail
            refine HLT2.out.mono ?_
            rintro e wc ⟨rfl, rfl⟩
            go_wp2_with fail
            refine HLE.out.mono ?_
            rintro e wc ⟨rfl, hc⟩
            have HZS2 := Lib.hid (HZS.out.kept hc)
            have HZP2 := Lib.hid (HZP.out.chg hc (by simp) (by have h1 := HB2.out.size; have h2 := HZC.out.size; omega))
            have HZC2 := Lib.hid (HZC.out.trans (hc.mono (by simp)))
            have HLE2 := Lib.hid (Len_any HZS2.out)
            rw [HNL.out] at HLE2
            have hne : (cI != tI + (lo : Int) + (nl : Int)) = false := by rw [← HSUM.out]; simp
            have hnn : ((nl : Int) != (nl : Int)) = false := by simp
            clear hc
            go_wp2_with fail
            refine HLE2.out.mono ?_
            rintro e wd ⟨rfl, hc⟩
            have HZS3 := Lib.hid (HZS2.out.kept hc)
            have HZP3 := Lib.hid (HZP2.out.chg hc (by simp) (by have h1 := HB2.out.size; have h2 := HZC2.out.size; omega))
            have HZC3 := Lib.hid (HZC2.out.trans (hc.mono (by simp)))
            clear hc hne
            go_wp2_with fail
            go_roundw
            case rel => have := HLT.out; exact ⟨i + 1, c, t, S1, P1, by go_num, congrArg (Value.int .i64) (by have := HCI.out; omega), congrArg (Value.int .i64) (by have := HTI2.out; omega), by omega, by omega, HZP3, HZS3, HXV, HZC3⟩
            case measure => have := HLT.out; simp [intOf]; omega
    · have hcase : decide ((i : Int) < (n : Int)) = false ∨ (decide ((i : Int) < (n : Int)) = true ∧ decide ((i : Int) < 60) = false) := by
        by_cases h1 : i < n
        · refine .inr ⟨by simp; omega, by simp; omega⟩
        · exact .inl (by simp; omega)
      have hcase' : decide (i < n) = decide ((i : Int) < (n : Int)) ∧ decide (i < 60) = decide ((i : Int) < 60) := by
        constructor <;> rw [decide_eq_decide] <;> omega
      have HCS := Lib.hid (And.intro hcase hcase')
      clear hlt hi1 hi2 hcase hcase'
      obtain ⟨hcase, f1, f2⟩ := HCS.out
      rcases hcase with e1 | ⟨e1, e2⟩
      all_goals
        rw [e1] at f1
        first | rw [e2] at f2 | clear f2
        go_wp2_with fail
        refine (HAL.out w3).mono ?_
        rintro e w4 ⟨rfl, hb⟩
        have HB4 := Lib.hid (HB3.out.trans (hb.mono HB3.out.size))
        clear hb
        go_wp2_with fail
        go_ret
        exact ⟨rfl, HB4.out⟩
end Go.Proofs.YteenlkmnadjnpaaGreat
