/-
  Contracts of package disk: Write and Read. No claim of their own.
-/
import Derived.Test.YtdiemejdbakffaaGreatDkB
namespace Go.Proofs.YtdiemejdbakffaaGreat
open Go.RowKit Go.Maps Go.WideAt Go.ChangeMaps Go.MapKept Go.WideElems
set_option linter.unusedVariables false
set_option linter.unusedSimpArgs false

theorem intkey : Keyed Tryz.prog 3 := int_keyed Tryz.underlying3
theorem keyOf_ik (i : Nat) (hi : i < 1024) : keyOf Tryz.prog 3 (.int .i64 (i : Int)) = some (ik i) := keyOf_int_mk Tryz.underlying3 (WalkArith.wf_i64 (by omega))
theorem tightN {w : World} {b n : Nat} {m : Nat → Option Sec} {D : DataW Unit} {k : Nat} (h : w.ownsMap Tryz.prog 3 secR b k D) (hm : MapOf m D) (hs : ∀ i S, m i = some S → i < n) : w.ownsMap Tryz.prog 3 secR b n D := by
  have hp := keys_perm (n := n) hm hs (h.entries intkey)
  have hsz : size D ≤ n := by
    have e := hp.length_eq
    rw [size_intKeys] at e
    rw [← e]
    simpa [dirtyZ] using dirtyL_le n m
  obtain ⟨es, clock, hb, F, _, hD⟩ := h
  refine ⟨es, clock, hb, F, ?_, hD⟩
  have e2 : size D = es.size := by rw [hD]; simp [size, length_sorted]
  omega
/-- a sector is written into the map -/
theorem put_run {w : World} {p g b n : Nat} {F : Nat → Sec} {m : Nat → Option Sec} (hd : Dsk w p g b n F m) (i : Nat) (hi : i < n) (S : Sec) (hS : S.length = 64) :
    ∃ w', (Instr.mapUpdate 91 (.map (some b)) (.int .i64 (i : Int)) (sv S)).run Tryz.prog w = .ok () w' ∧ Dsk w' p g b n F (upd m i S) ∧ Chg [b] w w' := by
  obtain ⟨D, ho, hm⟩ := hd.own
  have ht := hd.top
  obtain ⟨w', hrun, ho', htn⟩ := ho.store intkey Tryz.underlying91 (by unfold maxLen; omega) (keyOf_ik i (by omega)) (secR_sv hS)
  have hc : Chg [b] w w' := (Chg.refl [b] w).grown htn.grown (by simp)
  have hk : ∀ j T, upd m i S j = some T → T.length = 64 ∧ j < n := by
    intro j T hj
    by_cases e : j = i
    · subst e; simp only [upd, if_true, Option.some.injEq] at hj; subst hj; exact ⟨hS, hi⟩
    · simp only [upd, if_neg e] at hj; exact hd.lenM j T hj
  have hm' := hm.put ho.isMap i S
  obtain ⟨c, hf⟩ := hd.flu
  refine ⟨w', hrun, ⟨⟨c, hc.cell hf (by simpa using hd.pb)⟩, hc.cell hd.dir (by simpa using hd.pb), hd.one, hd.top, hd.lenF, hk, fun j hj => hc.range (hd.rng j hj) (by simpa using hd.gb), hc.there hd.the (by simpa using hd.gb),
    ⟨_, tightN ho' hm' (fun j T hj => (hk j T hj).2), hm'⟩, hd.pg, hd.pb, hd.gb⟩, hc⟩
theorem write_nil (w : World) (i : Int) (S : Sec) :
    Calls Tryz.prog 13 #[.pointer none, .int .i64 i, sv S] w fun e w' => e = .returned (.int .i64 1) ∧ Chg [] w w' := by
  go_enter Tryz.func13, Tryz.ntmps13
  go_wp2_with (first
    | (refine wpList_box37 rfl _ rfl S rfl ?_)
    | (go_at_call 45; refine (check_nil _ _).mono ?_; rintro e w' ⟨rfl, rfl⟩)
    | fail)
  go_ret
  exact ⟨rfl, (Chg.refl [] w).alloc _⟩
theorem write_no (w : World) {p g b n : Nat} {F : Nat → Sec} {m : Nat → Option Sec} (hd : Dsk w p g b n F m) (i : Int) (h : i < 0 ∨ (n : Int) ≤ i) (S : Sec) :
    Calls Tryz.prog 13 #[.pointer (some ⟨p, 0, none⟩), .int .i64 i, sv S] w fun e w' => e = .returned (.int .i64 41) ∧ Chg [] w w' := by
  have hd2 := hd.kept ((Chg.refl [] w).alloc (.cells (u8s S).toArray 47))
  have HC := Lib.hid (check_no _ hd2 i h)
  clear hd hd2 h
  go_enter Tryz.func13, Tryz.ntmps13
  go_wp2_with (first
    | (refine wpList_box37 rfl _ rfl S rfl ?_)
    | (go_at_call 45; refine HC.out.mono ?_; rintro e w' ⟨rfl, rfl⟩)
    | fail)
  go_ret
  exact ⟨rfl, (Chg.refl [] w).alloc _⟩
set_option maxRecDepth 100000 in
theorem write_ok (w : World) {p g b n : Nat} {F : Nat → Sec} {m : Nat → Option Sec} (hd : Dsk w p g b n F m) (i : Nat) (hi : i < n) (S : Sec) (hS : S.length = 64) :
    Calls Tryz.prog 13 #[.pointer (some ⟨p, 0, none⟩), .int .i64 i, sv S] w fun e w' => e = .returned (.int .i64 0) ∧ Dsk w' p g b n F (upd m i S) ∧ Chg [b] w w' := by
  have hC1 : Chg [] w (w.alloc (.cells (u8s S).toArray 47)) := (Chg.refl [] w).alloc _
  have hd2 := hd.kept hC1
  have HC := Lib.hid (check_ok _ hd2 i (by omega) (by omega))
  have hd3 : Dsk (w.alloc (.cells (u8s S).toArray 47)).drew p g b n F m := hd2.kept ((Chg.refl [] _).drew)
  obtain ⟨w2, hrun, hd4, hc4⟩ := put_run hd3 i hi S hS
  have hdir := hd3.dir
  have hrg : (w.alloc (.cells (u8s S).toArray 47)).drew.rangeAt w.heap.size 0 (u8s S) := (World.rangeAt_drew _ _ _ _).2 (range_box w S _)
  have hu := Tryz.underlying47
  have hinf : (Tryz.prog.info? 47).map (·.size) = some (u8s S).length := by rw [u8s_length, hS]; exact info37
  have hdir2 := hd4.dir
  have hrg2 : w2.rangeAt w.heap.size 0 (u8s S) := hc4.range hrg (by have := hd.ltb; simp; omega)
  have HD := Lib.hid hd4
  have HX := Lib.hid ((hC1.drew.mono (l' := [b]) (by simp)).trans hc4)
  clear hd hd2 hd3 hd4 hc4 hC1
  go_enter Tryz.func13, Tryz.ntmps13
  go_wp2_with (first
    | (refine wpList_box37 rfl _ rfl S rfl ?_)
    | (go_at_call 45; refine HC.out.mono ?_; rintro e w' ⟨rfl, rfl⟩)
    | fail)
  go_region_held3 (fun w' => w'.cell? ⟨p, 1, none⟩ = some (.map (some b)) ∧ w'.rangeAt w.heap.size 0 (u8s S)) (first | assumption | (exact ⟨hdir, hrg⟩) | (exact ⟨hdir2, hrg2⟩)) (fail)
  go_wp2
  go_ret
  exact ⟨rfl, HD.out, HX.out⟩

/-- what a look-up gives -/
theorem look_run {w : World} {p g b n : Nat} {F : Nat → Sec} {m : Nat → Option Sec} (hd : Dsk w p g b n F m) (i : Nat) (hi : i < n) :
    (Instr.lookup 91 (.map (some b)) (.int .i64 (i : Int)) true).run Tryz.prog w = .ok (.tuple #[sv ((m i).getD zsec), .bool (m i).isSome]) w ∧
    (Instr.lookup 91 (.map (some b)) (.int .i64 (i : Int)) false).run Tryz.prog w = .ok (sv ((m i).getD zsec)) w := by
  obtain ⟨D, ho, hm⟩ := hd.own
  have ht := hd.top
  obtain ⟨v, ps, hrun, hv⟩ := ho.look_ok intkey Tryz.underlying91 (zero37 w) (secR_sv zsec_len) (keyOf_ik i (by omega))
  obtain ⟨v2, ps2, hrun2, hv2⟩ := ho.lookup intkey Tryz.underlying91 (zero37 w) (secR_sv zsec_len) (keyOf_ik i (by omega))
  obtain ⟨S, hS, rfl, hz⟩ := secR_inv hv
  obtain ⟨S2, hS2, rfl, hz2⟩ := secR_inv hv2
  simp only [Prod.mk.injEq] at hz hz2
  rw [hrun, hrun2]
  cases hmi : m i with
  | none =>
    have h0 := hm.none_ i hmi
    rw [atKey_of_not_has h0] at hz hz2
    rw [h0, ← secD_inj hz.1, ← secD_inj hz2.1]
    simp
  | some T =>
    obtain ⟨h1, h2⟩ := hm.some_ i T hmi
    rw [h2] at hz hz2
    rw [h1, ← secD_inj hz.1, ← secD_inj hz2.1]
    simp
section
variable {w : World} {ops : Array Oper} {rest : List Oper} {o : Oper} {a : Act} {Q : Exit → Act → World → Prop}
/-- 'Sector{}' -/
theorem wpList_build37 (hgd : o.guard = none) (ho : o.op = .build 47 #[])
    (h : wpList Tryz.prog ops Q rest (a.put o.dst (sv zsec)) w) : wpList Tryz.prog ops Q (o :: rest) a w :=
  wpList_plain hgd fun _ hK => by
    have hb : ∀ w, (Instr.build 47 #[]).run Tryz.prog w = .ok (sv zsec) w := fun w => by kernel_rfl
    unfold Oper.wp execOp
    simp only [ho, Sem.run_bind]
    simp [hb]
    exact hK _ _ h
end
theorem read_nil (w : World) (i : Int) :
    Calls Tryz.prog 23 #[.pointer none, .int .i64 i] w fun e w' => e = .returned (.tuple #[sv zsec, .int .i64 1]) ∧ Chg [] w w' := by
  have hT := there_box w zsec 47 zsec_len
  go_enter Tryz.func23, Tryz.ntmps23
  go_wp2_with (first
    | (refine wpList_alloc37 rfl rfl ?_)
    | (refine wpList_build37 rfl rfl ?_)
    | (refine wpList_store37 rfl _ _ rfl w.heap.size 0 zsec rfl rfl hT zsec_len ?_)
    | (go_at_call 45; refine (check_nil _ _).mono ?_; rintro e w' ⟨rfl, rfl⟩)
    | fail)
  refine bodyPost_ret (results_cell2 (j := 4) (t := 47) (p := ⟨w.heap.size, 0, none⟩) Tryz.results23 rfl (load37 (S := zsec) (World.rangeAt_setCells_same _ _ _ _ (by rw [u8s_length, zsec_len]; exact hT)) zsec_len)) rfl ⟨rfl, ?_⟩
  exact ((Chg.refl [] w).alloc _).setCells (Or.inr (Nat.le_refl _)) _ _
theorem read_no (w : World) {p g b n : Nat} {F : Nat → Sec} {m : Nat → Option Sec} (hd : Dsk w p g b n F m) (i : Int) (h : i < 0 ∨ (n : Int) ≤ i) :
    Calls Tryz.prog 23 #[.pointer (some ⟨p, 0, none⟩), .int .i64 i] w fun e w' => e = .returned (.tuple #[sv zsec, .int .i64 41]) ∧ Chg [] w w' := by
  have hT := there_box w zsec 47 zsec_len
  have hd2 := hd.kept ((Chg.refl [] w).alloc (.cells (u8s zsec).toArray 47))
  have HC := Lib.hid (check_no _ hd2 i h)
  clear hd hd2 h
  go_enter Tryz.func23, Tryz.ntmps23
  go_wp2_with (first
    | (refine wpList_alloc37 rfl rfl ?_)
    | (refine wpList_build37 rfl rfl ?_)
    | (refine wpList_store37 rfl _ _ rfl w.heap.size 0 zsec rfl rfl hT zsec_len ?_)
    | (go_at_call 45; refine HC.out.mono ?_; rintro e w' ⟨rfl, rfl⟩)
    | fail)
  refine bodyPost_ret (results_cell2 (j := 4) (t := 47) (p := ⟨w.heap.size, 0, none⟩) Tryz.results23 rfl (load37 (S := zsec) (World.rangeAt_setCells_same _ _ _ _ (by rw [u8s_length, zsec_len]; exact hT)) zsec_len)) rfl ⟨rfl, ?_⟩
  exact ((Chg.refl [] w).alloc _).setCells (Or.inr (Nat.le_refl _)) _ _
set_option maxRecDepth 100000 in
theorem read_ok (w : World) {p g b n : Nat} {F : Nat → Sec} {m : Nat → Option Sec} (hd : Dsk w p g b n F m) (i : Nat) (hi : i < n) :
    Calls Tryz.prog 23 #[.pointer (some ⟨p, 0, none⟩), .int .i64 i] w fun e w' => e = .returned (.tuple #[sv (now F m i), .int .i64 0]) ∧ Chg [] w w' := by
  have hT := there_box w zsec 47 zsec_len
  have hd2 := hd.kept ((Chg.refl [] w).alloc (.cells (u8s zsec).toArray 47))
  have HC := Lib.hid (check_ok _ hd2 i (by omega) (by omega))
  have hdir := hd2.dir
  obtain ⟨c, hflu⟩ := hd2.flu
  have hlook := (look_run hd2 i hi).1
  have hlen := hd.lenM i
  have ht := hd.top
  have hi0 : (0 : Int) ≤ (i : Int) := by omega
  have hi1 : (i : Int) < (n : Int) := by omega
  have hS : ((m i).getD zsec).length = 64 := by
    cases hm : m i with
    | none => exact zsec_len
    | some S => exact (hlen S hm).1
  have hF := hd.lenF i
  have hltw : w.heap.size < (w.alloc (.cells (u8s zsec).toArray 47)).heap.size := by simp
  have hC1 : Chg [] w (w.alloc (.cells (u8s zsec).toArray 47)) := (Chg.refl [] w).alloc _
  obtain ⟨w1, hw⟩ : ∃ w1, w1 = w.alloc (.cells (u8s zsec).toArray 47) := ⟨_, rfl⟩
  rw [← hw] at hT hd2 HC hdir hflu hlook hltw hC1
  have hTn := there_box w1 zsec 47 zsec_len
  obtain ⟨S, HS⟩ : ∃ S, Hid ((m i).getD zsec = S) := ⟨_, Lib.hid rfl⟩
  rw [HS.out] at hS hlook
  obtain ⟨w3, hw3⟩ : ∃ w3, w3 = (w1.alloc (.cells (u8s zsec).toArray 47)).setCells w1.heap.size 0 (u8s S) := ⟨_, rfl⟩
  have hC3 : Chg [] w1 w3 := by rw [hw3]; exact ((Chg.refl [] w1).alloc _).setCells (Or.inr (Nat.le_refl _)) _ _
  have hr3 : w3.rangeAt w1.heap.size 0 (u8s S) := by rw [hw3]; exact World.rangeAt_setCells_same _ _ _ _ (by rw [u8s_length, hS]; exact hTn)
  have hT3 := hC3.there hT (by simp)
  have hd3 := hd2.kept hC3
  obtain ⟨c3, hflu3⟩ := hd3.flu
  have hrg3 := hd3.rng i hi
  have HW := Lib.hid hw.symm
  have HW3 := Lib.hid hw3.symm
  have HC3 := Lib.hid (hC1.trans hC3)
  clear hw hw3 hd hd2 hd3 hlen hC1 hC3
  cases hm : m i with
  | none =>
    rw [hm] at hlook
    simp only [Option.isSome_none] at hlook
    have HN := Lib.hid (show now F m i = F i by simp [now, hm])
    clear hm
    go_enter Tryz.func23, Tryz.ntmps23
    go_wp2_with (first
      | (refine wpList_alloc37 rfl rfl ?_; try rw [HW.out])
      | (refine wpList_store37 rfl _ _ rfl w1.heap.size 0 S rfl rfl hTn hS ?_; rw [HW3.out])
      | (refine wpList_load37 rfl _ rfl g (i * 64) rfl (F i) hrg3 hF ?_)
      | (refine wpList_store37 rfl _ _ rfl w.heap.size 0 (F i) rfl rfl hT3 hF ?_)
      | (go_at_call 45; refine HC.out.mono ?_; rintro e w' ⟨rfl, rfl⟩)
      | fail)
    rw [HN.out]
    refine bodyPost_ret (results_cell2 (j := 4) (t := 47) (p := ⟨w.heap.size, 0, none⟩) Tryz.results23 rfl (load37 (S := F i) (World.rangeAt_setCells_same _ _ _ _ (by rw [u8s_length, hF]; exact hT3)) hF)) rfl ⟨rfl, ?_⟩
    exact HC3.out.setCells (Or.inr (Nat.le_refl _)) _ _
  | some T =>
    rw [hm] at hlook
    simp only [Option.isSome_some] at hlook
    have HN := Lib.hid (show now F m i = S by rw [← HS.out, hm]; simp [now, hm])
    clear hm
    go_enter Tryz.func23, Tryz.ntmps23
    go_wp2_with (first
      | (refine wpList_alloc37 rfl rfl ?_; try rw [HW.out])
      | (refine wpList_store37 rfl _ _ rfl w1.heap.size 0 S rfl rfl hTn hS ?_; rw [HW3.out])
      | (refine wpList_load37 rfl _ rfl w1.heap.size 0 rfl S hr3 hS ?_)
      | (refine wpList_store37 rfl _ _ rfl w.heap.size 0 S rfl rfl hT3 hS ?_)
      | (go_at_call 45; refine HC.out.mono ?_; rintro e w' ⟨rfl, rfl⟩)
      | fail)
    rw [HN.out]
    refine bodyPost_ret (results_cell2 (j := 4) (t := 47) (p := ⟨w.heap.size, 0, none⟩) Tryz.results23 rfl (load37 (S := S) (World.rangeAt_setCells_same _ _ _ _ (by rw [u8s_length, hS]; exact hT3)) hS)) rfl ⟨rfl, ?_⟩
    exact HC3.out.setCells (Or.inr (Nat.le_refl _)) _ _
end Go.Proofs.YtdiemejdbakffaaGreat
