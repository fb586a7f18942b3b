/-
  Contracts of package disk: Write and Read. No claim of their own.
-/
import Derived.Test.YtmpajlpemabniaaGreatZq2
import Derived.Shelf.SlGeneric
import Derived.Shelf.SlIterI.Nil
import Derived.Shelf.SlIterI.Sorted
import Derived.Shelf.SortM.Plain
import Derived.Shelf.SortM.SortNone
import Derived.Shelf.SlicesE.Clone
import Derived.Shelf.SlSorted.Search
import Derived.Shelf.SlMaps.Clone
import Derived.Shelf.SlSortCmp.Xorshift
import Derived.Test.YtmpajlpemabniaaGreatRows
import Derived.Shelf.AbstractIn
import Derived.Deep.Grids
import Derived.Deep.Fields
import Derived.Lib.SmallJoins
namespace Go.Proofs.YtmpajlpemabniaaGreat
open Go.RowKit Go.Maps Go.WideAt Go.ChangeMaps Go.MapKept Go.WideElems
set_option linter.unusedVariables false
set_option linter.unusedSimpArgs false
theorem intkey : Keyed Tryz.prog 3 := int_keyed Tryz.underlying3
theorem keyOf_ik (i : Nat) (hi : i < 1024) : keyOf Tryz.prog 3 (.int .i64 (i : Int)) = some (ik i) := keyOf_int_mk Tryz.underlying3 (WalkArith.wf_i64 (by omega))
theorem tightN {w : World} {b n : Nat} {m : Nat → Option Sec} {D : DataW Unit} {k : Nat} (h : w.ownsMap Tryz.prog 3 secR b k D) (hm : MapOf m D) (hs : ∀ i S, m i = some S → i < n) : w.ownsMap Tryz.prog 3 secR b n D := by
  have hp := keys_perm (n := n) hm hs (h.entries intkey)
  have hsz : size D ≤ n := by
    have e := hp.length_eq
    rw [size_intKeys] at e
    rw [← e]
    simpa [dirtyZ] using dirtyL_le n m
  obtain ⟨es, clock, hb, F, _, hD⟩ := h
  refine ⟨es, clock, hb, F, ?_, hD⟩
  have e2 : size D = es.size := by rw [hD]; simp [size, length_sorted]
  omega
theorem put_run {w : World} {p g b n : Nat} {F : Nat → Sec} {m : Nat → Option Sec} (hd : Dsk w p g b n F m) (i : Nat) (hi : i < n) (S : Sec) (hS : S.length = 64) :
    ∃ w', (Instr.mapUpdate 119 (.map (some b)) (.int .i64 (i : Int)) (sv S)).run Tryz.prog w = .ok () w' ∧ Dsk w' p g b n F (upd m i S) ∧ Chg [b] w w' := by
  obtain ⟨D, ho, hm⟩ := hd.own
  have ht := hd.top
  obtain ⟨w', hrun, ho', htn⟩ := ho.store intkey Tryz.underlying119 (by unfold maxLen; omega) (keyOf_ik i (by omega)) (secR_sv hS)
  have hc : Chg [b] w w' := (Chg.refl [b] w).grown htn.grown (by simp)
  have hk : ∀ j T, upd m i S j = some T → T.length = 64 ∧ j < n := by
    intro j T hj
    by_cases e : j = i
    · subst e; simp only [upd, if_true, Option.some.injEq] at hj; subst hj; exact ⟨hS, hi⟩
    · simp only [upd, if_neg e] at hj; exact hd.lenM j T hj
  have hm' := hm.put ho.isMap i S
  obtain ⟨c, hf⟩ := hd.flu
  refine ⟨w', hrun, ⟨⟨c, hc.cell hf (by simpa using hd.pb)⟩, hc.cell hd.dir (by simpa using hd.pb), hd.one, hd.top, hd.lenF, hk, fun j hj => hc.range (hd.rng j hj) (by simpa using hd.gb), hc.there hd.the (by simpa using hd.gb),
    ⟨_, tightN ho' hm' (fun j T hj => (hk j T hj).2), hm'⟩, hd.pg, hd.pb, hd.gb⟩, hc⟩
set_option maxRecDepth 100000 in
theorem write_ok (w : World) {p g b n : Nat} {F : Nat → Sec} {m : Nat → Option Sec} (hd : Dsk w p g b n F m) (i : Nat) (hi : i < n) (S : Sec) (hS : S.length = 64) :
    Calls Tryz.prog 247 #[.pointer (some ⟨p, 0, none⟩), .int .i64 i, sv S] w fun e w' => e = .returned (.int .i64 0) ∧ Dsk w' p g b n F (upd m i S) ∧ Chg [b] w w' := by
  have hC1 : Chg [] w (w.alloc (.cells (u8s S).toArray 59)) := (Chg.refl [] w).alloc _
  have hd2 := hd.kept hC1
  have HC := Lib.hid (check_ok _ hd2 i (by omega) (by omega))
  have hd3 : Dsk (w.alloc (.cells (u8s S).toArray 59)).drew p g b n F m := hd2.kept ((Chg.refl [] _).drew)
  obtain ⟨w2, hrun, hd4, hc4⟩ := put_run hd3 i hi S hS
  have hdir := hd3.dir
  have hrg : (w.alloc (.cells (u8s S).toArray 59)).drew.rangeAt w.heap.size 0 (u8s S) := (World.rangeAt_drew _ _ _ _).2 (range_box w S _)
  have hu := Tryz.underlying59
  have hinf : (Tryz.prog.info? 59).map (·.size) = some (u8s S).length := by rw [u8s_length, hS]; exact info37
  have hdir2 := hd4.dir
  have hrg2 : w2.rangeAt w.heap.size 0 (u8s S) := hc4.range hrg (by have := hd.ltb; simp; omega)
  have HD := Lib.hid hd4
  have HX := Lib.hid ((hC1.drew.mono (l' := [b]) (by simp)).trans hc4)
  clear hd hd2 hd3 hd4 hc4 hC1
  go_enter Tryz.func247, Tryz.ntmps247
  go_wp2_with (first
    | (refine wpList_box37 rfl _ rfl S rfl ?_)
    | (go_at_call 65; refine HC.out.mono ?_; rintro e w' ⟨rfl, rfl⟩)
    | fail)
  go_region_held3 (fun w' => w'.cell? ⟨p, 1, none⟩ = some (.map (some b)) ∧ w'.rangeAt w.heap.size 0 (u8s S)) (first | assumption | (exact ⟨hdir, hrg⟩) | (exact ⟨hdir2, hrg2⟩)) (fail)
  go_wp2
  go_ret
  exact ⟨rfl, HD.out, HX.out⟩
theorem look_run {w : World} {p g b n : Nat} {F : Nat → Sec} {m : Nat → Option Sec} (hd : Dsk w p g b n F m) (i : Nat) (hi : i < n) :
    (Instr.lookup 119 (.map (some b)) (.int .i64 (i : Int)) true).run Tryz.prog w = .ok (.tuple #[sv ((m i).getD zsec), .bool (m i).isSome]) w ∧
    (Instr.lookup 119 (.map (some b)) (.int .i64 (i : Int)) false).run Tryz.prog w = .ok (sv ((m i).getD zsec)) w := by
  obtain ⟨D, ho, hm⟩ := hd.own
  have ht := hd.top
  obtain ⟨v, ps, hrun, hv⟩ := ho.look_ok intkey Tryz.underlying119 (zero37 w) (secR_sv zsec_len) (keyOf_ik i (by omega))
  obtain ⟨v2, ps2, hrun2, hv2⟩ := ho.lookup intkey Tryz.underlying119 (zero37 w) (secR_sv zsec_len) (keyOf_ik i (by omega))
  obtain ⟨S, hS, rfl, hz⟩ := secR_inv hv
  obtain ⟨S2, hS2, rfl, hz2⟩ := secR_inv hv2
  simp only [Prod.mk.injEq] at hz hz2
  rw [hrun, hrun2]
  cases hmi : m i with
  | none =>
    have h0 := hm.none_ i hmi
    rw [atKey_of_not_has h0] at hz hz2
    rw [h0, ← secD_inj hz.1, ← secD_inj hz2.1]
    simp
  | some T =>
    obtain ⟨h1, h2⟩ := hm.some_ i T hmi
    rw [h2] at hz hz2
    rw [h1, ← secD_inj hz.1, ← secD_inj hz2.1]
    simp
section
variable {w : World} {ops : Array Oper} {rest : List Oper} {o : Oper} {a : Act} {Q : Exit → Act → World → Prop}
end
set_option maxRecDepth 100000 in
theorem read_ok (w : World) {p g b n : Nat} {F : Nat → Sec} {m : Nat → Option Sec} (hd : Dsk w p g b n F m) (i : Nat) (hi : i < n) :
    Calls Tryz.prog 20 #[.pointer (some ⟨p, 0, none⟩), .int .i64 i] w fun e w' => e = .returned (.tuple #[sv (now F m i), .int .i64 0]) ∧ Chg [] w w' := by
  have hT := there_box w zsec 59 zsec_len
  have hd2 := hd.kept ((Chg.refl [] w).alloc (.cells (u8s zsec).toArray 59))
  have HC := Lib.hid (check_ok _ hd2 i (by omega) (by omega))
  have hdir := hd2.dir
  obtain ⟨c, hflu⟩ := hd2.flu
  have hlook := (look_run hd2 i hi).1
  have hlen := hd.lenM i
  have ht := hd.top
  have hi0 : (0 : Int) ≤ (i : Int) := by omega
  have hi1 : (i : Int) < (n : Int) := by omega
  have hS : ((m i).getD zsec).length = 64 := by
    cases hm : m i with
    | none => exact zsec_len
    | some S => exact (hlen S hm).1
  have hF := hd.lenF i
  have hltw : w.heap.size < (w.alloc (.cells (u8s zsec).toArray 59)).heap.size := by simp
  have hC1 : Chg [] w (w.alloc (.cells (u8s zsec).toArray 59)) := (Chg.refl [] w).alloc _
  obtain ⟨w1, hw⟩ : ∃ w1, w1 = w.alloc (.cells (u8s zsec).toArray 59) := ⟨_, rfl⟩
  rw [← hw] at hT hd2 HC hdir hflu hlook hltw hC1
  have hTn := there_box w1 zsec 59 zsec_len
  obtain ⟨S, HS⟩ : ∃ S, Hid ((m i).getD zsec = S) := ⟨_, Lib.hid rfl⟩
  rw [HS.out] at hS hlook
  obtain ⟨w3, hw3⟩ : ∃ w3, w3 = (w1.alloc (.cells (u8s zsec).toArray 59)).setCells w1.heap.size 0 (u8s S) := ⟨_, rfl⟩
  have hC3 : Chg [] w1 w3 := by rw [hw3]; exact ((Chg.refl [] w1).alloc _).setCells (Or.inr (Nat.le_refl _)) _ _
  have hr3 : w3.rangeAt w1.heap.size 0 (u8s S) := by rw [hw3]; exact World.rangeAt_setCells_same _ _ _ _ (by rw [u8s_length, hS]; exact hTn)
  have hT3 := hC3.there hT (by simp)
  have hd3 := hd2.kept hC3
  obtain ⟨c3, hflu3⟩ := hd3.flu
  have hrg3 := hd3.rng i hi
  have HW := Lib.hid hw.symm
  have HW3 := Lib.hid hw3.symm
  have HC3 := Lib.hid (hC1.trans hC3)
  clear hw hw3 hd hd2 hd3 hlen hC1 hC3
  cases hm : m i with
  | none =>
    rw [hm] at hlook
    simp only [Option.isSome_none] at hlook
    have HN := Lib.hid (show now F m i = F i by simp [now, hm])
    clear hm
    go_enter Tryz.func20, Tryz.ntmps20
    go_wp2_with (first
      | (refine wpList_alloc37 rfl rfl ?_; try rw [HW.out])
      | (refine wpList_store37 rfl _ _ rfl w1.heap.size 0 S rfl rfl hTn hS ?_; rw [HW3.out])
      | (refine wpList_load37 rfl _ rfl g (i * 64) rfl (F i) hrg3 hF ?_)
      | (refine wpList_store37 rfl _ _ rfl w.heap.size 0 (F i) rfl rfl hT3 hF ?_)
      | (go_at_call 65; refine HC.out.mono ?_; rintro e w' ⟨rfl, rfl⟩)
      | fail)
    rw [HN.out]
    refine bodyPost_ret (results_cell2 (j := 4) (t := 59) (p := ⟨w.heap.size, 0, none⟩) Tryz.results20 rfl (load37 (S := F i) (World.rangeAt_setCells_same _ _ _ _ (by rw [u8s_length, hF]; exact hT3)) hF)) rfl ⟨rfl, ?_⟩
    exact HC3.out.setCells (Or.inr (Nat.le_refl _)) _ _
  | some T =>
    rw [hm] at hlook
    simp only [Option.isSome_some] at hlook
    have HN := Lib.hid (show now F m i = S by rw [← HS.out, hm]; simp [now, hm])
    clear hm
    go_enter Tryz.func20, Tryz.ntmps20
    go_wp2_with (first
      | (refine wpList_alloc37 rfl rfl ?_; try rw [HW.out])
      | (refine wpList_store37 rfl _ _ rfl w1.heap.size 0 S rfl rfl hTn hS ?_; rw [HW3.out])
      | (refine wpList_load37 rfl _ rfl w1.heap.size 0 rfl S hr3 hS ?_)
      | (refine wpList_store37 rfl _ _ rfl w.heap.size 0 S rfl rfl hT3 hS ?_)
      | (go_at_call 65; refine HC.out.mono ?_; rintro e w' ⟨rfl, rfl⟩)
      | fail)
    rw [HN.out]
    refine bodyPost_ret (results_cell2 (j := 4) (t := 59) (p := ⟨w.heap.size, 0, none⟩) Tryz.results20 rfl (load37 (S := S) (World.rangeAt_setCells_same _ _ _ _ (by rw [u8s_length, hS]; exact hT3)) hS)) rfl ⟨rfl, ?_⟩
    exact HC3.out.setCells (Or.inr (Nat.le_refl _)) _ _
end Go.Proofs.YtmpajlpemabniaaGreat
namespace Go.Proofs.YtmpajlpemabniaaGreat
open Go.Shelf
def keysA_ren : Go.Shelf.Ren := ⟨fun | 7 => 109 | 10 => 167 | n => n, fun | 23 => 119 | 26 => 3 | 3 => 59 | 28 => 180 | 0 => 0 | 27 => 179 | 33 => 228 | 4 => 4 | n => n, fun | n => n⟩
theorem keysA : Go.Proofs.SlLaysZI.n7 Tryz.prog keysA_ren := {
  mixed := by kernel_rfl
  f7 := ⟨Tryz.f109.name, by decide, Tryz.func109.trans (congrArg some (by kernel_rfl))⟩
  f10 := ⟨Tryz.f167.name, by decide, Tryz.func167.trans (congrArg some (by kernel_rfl))⟩
  t0 := Tryz.underlying0
  a0 := Tryz.isAgg0
  z0 := Tryz.sizeOf0
  v0 := Tryz.zeroValue0
  t4 := Tryz.underlying4
  a4 := Tryz.isAgg4
  z4 := Tryz.sizeOf4
  v4 := Tryz.zeroValue4
  t23 := Tryz.underlying119
  a23 := Tryz.isAgg119
  z23 := Tryz.sizeOf119
  v23 := Tryz.zeroValue119
  t26 := Tryz.underlying3
  a26 := Tryz.isAgg3
  z26 := Tryz.sizeOf3
  v26 := Tryz.zeroValue3
  t27 := Tryz.underlying179
  a27 := Tryz.isAgg179
  z27 := Tryz.sizeOf179
  v27 := Tryz.zeroValue179
  t28 := Tryz.underlying180
  a28 := Tryz.isAgg180
  z28 := Tryz.sizeOf180
  v28 := Tryz.zeroValue180
  t33 := Tryz.underlying228
  a33 := Tryz.isAgg228
  z33 := Tryz.sizeOf228
  v33 := Tryz.zeroValue228 }
def sortedA_ren : Go.Shelf.Ren := ⟨fun | 6 => 108 | 8 => 165 | 9 => 166 | 11 => 210 | 13 => 212 | 12 => 211 | 23 => 245 | 24 => 246 | 14 => 236 | 15 => 237 | 16 => 238 | 17 => 239 | 18 => 240 | 19 => 241 | 20 => 242 | 21 => 243 | 22 => 244 | 25 => 262 | 26 => 263 | 27 => 264 | 28 => 265 | 29 => 266 | 30 => 267 | 31 => 274 | n => n, fun | 26 => 3 | 28 => 180 | 24 => 122 | 0 => 0 | 3 => 3 | 37 => 249 | 48 => 148 | 50 => 37 | 4 => 4 | 40 => 287 | 39 => 286 | 45 => 209 | 5 => 5 | 9 => 9 | 51 => 306 | 55 => 309 | 57 => 316 | 58 => 317 | 33 => 228 | n => n, fun | n => n⟩
theorem sortedA : Go.Proofs.SlLaysZI.n6 Tryz.prog sortedA_ren := {
  mixed := by kernel_rfl
  f6 := ⟨Tryz.f108.name, by decide, Tryz.func108.trans (congrArg some (by kernel_rfl))⟩
  f8 := ⟨Tryz.f165.name, by decide, Tryz.func165.trans (congrArg some (by kernel_rfl))⟩
  f11 := ⟨Tryz.f210.name, by decide, Tryz.func210.trans (congrArg some (by kernel_rfl))⟩
  t0 := Tryz.underlying0
  a0 := Tryz.isAgg0
  z0 := Tryz.sizeOf0
  v0 := Tryz.zeroValue0
  t24 := Tryz.underlying122
  a24 := Tryz.isAgg122
  z24 := Tryz.sizeOf122
  v24 := Tryz.zeroValue122
  t26 := Tryz.underlying3
  a26 := Tryz.isAgg3
  z26 := Tryz.sizeOf3
  v26 := Tryz.zeroValue3
  t28 := Tryz.underlying180
  a28 := Tryz.isAgg180
  z28 := Tryz.sizeOf180
  v28 := Tryz.zeroValue180
  i26 := by kernel_rfl }
def sortA_ren : Go.Shelf.Ren := ⟨fun | 5 => 166 | 8 => 212 | 7 => 211 | 19 => 245 | 20 => 246 | 10 => 236 | 11 => 237 | 12 => 238 | 13 => 239 | 14 => 240 | 15 => 241 | 16 => 242 | 17 => 243 | 18 => 244 | 30 => 262 | 31 => 263 | 32 => 264 | 33 => 265 | 34 => 266 | 35 => 267 | 40 => 274 | n => n, fun | 23 => 122 | 25 => 3 | 3 => 3 | 32 => 249 | 22 => 122 | 0 => 0 | 44 => 148 | 46 => 37 | 4 => 4 | 36 => 287 | 35 => 286 | 41 => 209 | 5 => 5 | 9 => 9 | 53 => 306 | 57 => 309 | 63 => 316 | 64 => 317 | n => n, fun | n => n⟩
theorem sortA : Go.Proofs.SlLaysM.n5 Tryz.prog sortA_ren := {
  mixed := by kernel_rfl
  f5 := ⟨Tryz.f166.name, by decide, Tryz.func166.trans (congrArg some (by kernel_rfl))⟩
  f7 := ⟨Tryz.f211.name, by decide, Tryz.func211.trans (congrArg some (by kernel_rfl))⟩
  f8 := Tryz.func212.trans (congrArg some (by kernel_rfl))
  f10 := ⟨Tryz.f236.name, by decide, Tryz.func236.trans (congrArg some (by kernel_rfl))⟩
  f11 := ⟨Tryz.f237.name, by decide, Tryz.func237.trans (congrArg some (by kernel_rfl))⟩
  f12 := ⟨Tryz.f238.name, by decide, Tryz.func238.trans (congrArg some (by kernel_rfl))⟩
  f13 := ⟨Tryz.f239.name, by decide, Tryz.func239.trans (congrArg some (by kernel_rfl))⟩
  f14 := ⟨Tryz.f240.name, by decide, Tryz.func240.trans (congrArg some (by kernel_rfl))⟩
  f15 := ⟨Tryz.f241.name, by decide, Tryz.func241.trans (congrArg some (by kernel_rfl))⟩
  f16 := ⟨Tryz.f242.name, by decide, Tryz.func242.trans (congrArg some (by kernel_rfl))⟩
  f17 := ⟨Tryz.f243.name, by decide, Tryz.func243.trans (congrArg some (by kernel_rfl))⟩
  f18 := ⟨Tryz.f244.name, by decide, Tryz.func244.trans (congrArg some (by kernel_rfl))⟩
  f19 := Tryz.func245.trans (congrArg some (by kernel_rfl))
  f20 := Tryz.func246.trans (congrArg some (by kernel_rfl))
  f30 := ⟨Tryz.f262.name, by decide, Tryz.func262.trans (congrArg some (by kernel_rfl))⟩
  f31 := Tryz.func263.trans (congrArg some (by kernel_rfl))
  f32 := Tryz.func264.trans (congrArg some (by kernel_rfl))
  f33 := ⟨Tryz.f265.name, by decide, Tryz.func265.trans (congrArg some (by kernel_rfl))⟩
  f34 := ⟨Tryz.f266.name, by decide, Tryz.func266.trans (congrArg some (by kernel_rfl))⟩
  f35 := ⟨Tryz.f267.name, by decide, Tryz.func267.trans (congrArg some (by kernel_rfl))⟩
  f40 := ⟨Tryz.f274.name, by decide, Tryz.func274.trans (congrArg some (by kernel_rfl))⟩
  t0 := Tryz.underlying0
  a0 := Tryz.isAgg0
  z0 := Tryz.sizeOf0
  v0 := Tryz.zeroValue0
  t3 := Tryz.underlying3
  a3 := Tryz.isAgg3
  z3 := Tryz.sizeOf3
  v3 := Tryz.zeroValue3
  t4 := Tryz.underlying4
  a4 := Tryz.isAgg4
  z4 := Tryz.sizeOf4
  v4 := Tryz.zeroValue4
  t5 := Tryz.underlying5
  a5 := Tryz.isAgg5
  z5 := Tryz.sizeOf5
  v5 := Tryz.zeroValue5
  t9 := Tryz.underlying9
  a9 := Tryz.isAgg9
  z9 := Tryz.sizeOf9
  v9 := Tryz.zeroValue9
  t22 := Tryz.underlying122
  a22 := Tryz.isAgg122
  z22 := Tryz.sizeOf122
  v22 := Tryz.zeroValue122
  t23 := Tryz.underlying122
  a23 := Tryz.isAgg122
  z23 := Tryz.sizeOf122
  v23 := Tryz.zeroValue122
  t25 := Tryz.underlying3
  a25 := Tryz.isAgg3
  z25 := Tryz.sizeOf3
  v25 := Tryz.zeroValue3
  t32 := Tryz.underlying249
  a32 := Tryz.isAgg249
  z32 := Tryz.sizeOf249
  v32 := Tryz.zeroValue249
  t35 := Tryz.underlying286
  a35 := Tryz.isAgg286
  z35 := Tryz.sizeOf286
  v35 := Tryz.zeroValue286
  t36 := Tryz.underlying287
  a36 := Tryz.isAgg287
  z36 := Tryz.sizeOf287
  v36 := Tryz.zeroValue287
  t41 := Tryz.underlying209
  a41 := Tryz.isAgg209
  z41 := Tryz.sizeOf209
  v41 := Tryz.zeroValue209
  t44 := Tryz.underlying148
  a44 := Tryz.isAgg148
  z44 := Tryz.sizeOf148
  v44 := Tryz.zeroValue148
  t46 := Tryz.underlying37
  a46 := Tryz.isAgg37
  z46 := Tryz.sizeOf37
  v46 := Tryz.zeroValue37
  t53 := Tryz.underlying306
  a53 := Tryz.isAgg306
  z53 := Tryz.sizeOf306
  v53 := Tryz.zeroValue306
  t57 := Tryz.underlying309
  a57 := Tryz.isAgg309
  z57 := Tryz.sizeOf309
  v57 := Tryz.zeroValue309
  t63 := Tryz.underlying316
  a63 := Tryz.isAgg316
  z63 := Tryz.sizeOf316
  v63 := Tryz.zeroValue316
  t64 := Tryz.underlying317
  a64 := Tryz.isAgg317
  z64 := Tryz.sizeOf317
  v64 := Tryz.zeroValue317 }
def cloneA_ren : Go.Shelf.Ren := ⟨fun | 41 => 56 | n => n, fun | 22 => 88 | 23 => 59 | 4 => 4 | n => n, fun | n => n⟩
theorem cloneA : Go.Proofs.SlLaysE0.n41 Tryz.prog cloneA_ren := {
  mixed := by kernel_rfl
  f41 := ⟨Tryz.f56.name, by decide, Tryz.func56.trans (congrArg some (by kernel_rfl))⟩
  t4 := Tryz.underlying4
  a4 := Tryz.isAgg4
  z4 := Tryz.sizeOf4
  v4 := Tryz.zeroValue4
  t22 := Tryz.underlying88
  a22 := Tryz.isAgg88
  z22 := Tryz.sizeOf88
  v22 := Tryz.zeroValue88 }
def cloneR_ren : Go.Shelf.Ren := ⟨fun | 41 => 130 | n => n, fun | 22 => 82 | 23 => 86 | 4 => 4 | n => n, fun | n => n⟩
theorem cloneR : Go.Proofs.SlLaysE0.n41 Tryz.prog cloneR_ren := {
  mixed := by kernel_rfl
  f41 := ⟨Tryz.f130.name, by decide, Tryz.func130.trans (congrArg some (by kernel_rfl))⟩
  t4 := Tryz.underlying4
  a4 := Tryz.isAgg4
  z4 := Tryz.sizeOf4
  v4 := Tryz.zeroValue4
  t22 := Tryz.underlying82
  a22 := Tryz.isAgg82
  z22 := Tryz.sizeOf82
  v22 := Tryz.zeroValue82 }
def cloneK_ren : Go.Shelf.Ren := ⟨fun | 41 => 127 | n => n, fun | 22 => 40 | 23 => 143 | 4 => 4 | n => n, fun | n => n⟩
theorem cloneK : Go.Proofs.SlLaysE0.n41 Tryz.prog cloneK_ren := {
  mixed := by kernel_rfl
  f41 := ⟨Tryz.f127.name, by decide, Tryz.func127.trans (congrArg some (by kernel_rfl))⟩
  t4 := Tryz.underlying4
  a4 := Tryz.isAgg4
  z4 := Tryz.sizeOf4
  v4 := Tryz.zeroValue4
  t22 := Tryz.underlying40
  a22 := Tryz.isAgg40
  z22 := Tryz.sizeOf40
  v22 := Tryz.zeroValue40 }
def cloneB_ren : Go.Shelf.Ren := ⟨fun | 41 => 84 | n => n, fun | 22 => 39 | 23 => 5 | 4 => 4 | n => n, fun | n => n⟩
theorem cloneB : Go.Proofs.SlLaysE0.n41 Tryz.prog cloneB_ren := {
  mixed := by kernel_rfl
  f41 := ⟨Tryz.f84.name, by decide, Tryz.func84.trans (congrArg some (by kernel_rfl))⟩
  t4 := Tryz.underlying4
  a4 := Tryz.isAgg4
  z4 := Tryz.sizeOf4
  v4 := Tryz.zeroValue4
  t22 := Tryz.underlying39
  a22 := Tryz.isAgg39
  z22 := Tryz.sizeOf39
  v22 := Tryz.zeroValue39 }
def searchA_ren : Go.Shelf.Ren := ⟨fun | 16 => 200 | n => n, fun | 3 => 3 | 35 => 228 | 4 => 4 | 38 => 249 | n => n, fun | n => n⟩
theorem searchA : Go.Proofs.SlLaysO.n16 Tryz.prog searchA_ren := {
  mixed := by kernel_rfl
  f16 := Tryz.func200.trans (congrArg some (by kernel_rfl))
  t3 := Tryz.underlying3
  a3 := Tryz.isAgg3
  z3 := Tryz.sizeOf3
  v3 := Tryz.zeroValue3
  t4 := Tryz.underlying4
  a4 := Tryz.isAgg4
  z4 := Tryz.sizeOf4
  v4 := Tryz.zeroValue4
  t35 := Tryz.underlying228
  a35 := Tryz.isAgg228
  z35 := Tryz.sizeOf228
  v35 := Tryz.zeroValue228
  t38 := Tryz.underlying249
  a38 := Tryz.isAgg249
  z38 := Tryz.sizeOf249
  v38 := Tryz.zeroValue249 }
def cloneM_ren : Go.Shelf.Ren := ⟨fun | 5 => 184 | 7 => 226 | n => n, fun | 23 => 136 | 25 => 37 | 3 => 42 | 4 => 4 | 20 => 20 | n => n, fun | n => n⟩
theorem cloneM : Go.Proofs.SlLaysW.n5 Tryz.prog cloneM_ren := {
  mixed := by kernel_rfl
  f5 := ⟨Tryz.f184.name, by decide, Tryz.func184.trans (congrArg some (by kernel_rfl))⟩
  f7 := Tryz.func226.trans (congrArg some (by kernel_rfl))
  t4 := Tryz.underlying4
  a4 := Tryz.isAgg4
  z4 := Tryz.sizeOf4
  v4 := Tryz.zeroValue4
  t20 := Tryz.underlying20
  a20 := Tryz.isAgg20
  z20 := Tryz.sizeOf20
  v20 := Tryz.zeroValue20
  t23 := Tryz.underlying136
  a23 := Tryz.isAgg136
  z23 := Tryz.sizeOf136
  v23 := Tryz.zeroValue136 }
def xorA_ren : Go.Shelf.Ren := ⟨fun | 48 => 264 | n => n, fun | 76 => 316 | 55 => 37 | 0 => 0 | 66 => 306 | 39 => 249 | n => n, fun | n => n⟩
theorem xorA : Go.Proofs.SlLaysF0.n48 Tryz.prog xorA_ren := {
  mixed := by kernel_rfl
  f48 := Tryz.func264.trans (congrArg some (by kernel_rfl))
  t0 := Tryz.underlying0
  a0 := Tryz.isAgg0
  z0 := Tryz.sizeOf0
  v0 := Tryz.zeroValue0
  t39 := Tryz.underlying249
  a39 := Tryz.isAgg249
  z39 := Tryz.sizeOf249
  v39 := Tryz.zeroValue249
  t55 := Tryz.underlying37
  a55 := Tryz.isAgg37
  z55 := Tryz.sizeOf37
  v55 := Tryz.zeroValue37
  t66 := Tryz.underlying306
  a66 := Tryz.isAgg306
  z66 := Tryz.sizeOf306
  v66 := Tryz.zeroValue306
  t76 := Tryz.underlying316
  a76 := Tryz.isAgg316
  z76 := Tryz.sizeOf316
  v76 := Tryz.zeroValue316 }
def nextA_ren : Go.Shelf.Ren := ⟨fun | 47 => 263 | 15 => 212 | 28 => 245 | 29 => 246 | n => n, fun | 3 => 3 | 39 => 249 | 53 => 148 | 55 => 37 | 4 => 4 | 5 => 5 | 9 => 9 | n => n, fun | n => n⟩
theorem nextA : Go.Proofs.SlLaysF0.n47 Tryz.prog nextA_ren := {
  mixed := by kernel_rfl
  f15 := Tryz.func212.trans (congrArg some (by kernel_rfl))
  f28 := Tryz.func245.trans (congrArg some (by kernel_rfl))
  f29 := Tryz.func246.trans (congrArg some (by kernel_rfl))
  f47 := Tryz.func263.trans (congrArg some (by kernel_rfl))
  t3 := Tryz.underlying3
  a3 := Tryz.isAgg3
  z3 := Tryz.sizeOf3
  v3 := Tryz.zeroValue3
  t4 := Tryz.underlying4
  a4 := Tryz.isAgg4
  z4 := Tryz.sizeOf4
  v4 := Tryz.zeroValue4
  t5 := Tryz.underlying5
  a5 := Tryz.isAgg5
  z5 := Tryz.sizeOf5
  v5 := Tryz.zeroValue5
  t9 := Tryz.underlying9
  a9 := Tryz.isAgg9
  z9 := Tryz.sizeOf9
  v9 := Tryz.zeroValue9
  t39 := Tryz.underlying249
  a39 := Tryz.isAgg249
  z39 := Tryz.sizeOf249
  v39 := Tryz.zeroValue249
  t53 := Tryz.underlying148
  a53 := Tryz.isAgg148
  z53 := Tryz.sizeOf148
  v53 := Tryz.zeroValue148
  t55 := Tryz.underlying37
  a55 := Tryz.isAgg37
  z55 := Tryz.sizeOf37
  v55 := Tryz.zeroValue37 }
end Go.Proofs.YtmpajlpemabniaaGreat
namespace Go.Proofs.YtmpajlpemabniaaGreat
open Go.RowKit Go.Maps Go.Sort Go.Shelf
set_option linter.unusedVariables false
set_option linter.unusedSimpArgs false
theorem sortsA (m : Nat) : AnyZI.SortsIn Tryz.prog sortedA_ren Fence.wide m :=
  ⟨fun blk off cap ss W hH hblk hsz => callsIn_wide.2 (AnyM.slices_Sort_int sortA blk off cap ss W hH hblk hsz),
   fun p cap W => callsIn_wide.2 (AnyM.slices_Sort_int_none sortA p cap W)⟩
theorem encZ_i64s (l : List Int) : l.map encZ = i64s l := rfl
set_option maxHeartbeats 1000000 in
theorem dirty_ok (w : World) {p g b n : Nat} {F : Nat → Sec} {m : Nat → Option Sec} (hd : Dsk w p g b n F m) :
    Calls Tryz.prog 57 #[.pointer (some ⟨p, 0, none⟩)] w fun e w' => ∃ v : Value, e = .returned v ∧ w'.ownsRow w.heap.size 3 1 v (dirtyL n m).length (i64s (dirtyZ n m)) ∧ Below w.heap.size w w' := by
  obtain ⟨D, hown, hm⟩ := hd.own
  have hp := keys_perm (n := n) hm (fun i S h => (hd.lenM i S h).2) (hown.entries intkey)
  have ht := hd.top
  have hsize : size D ≤ n := hown.size_le
  have hdir := hd.dir
  have HP := Lib.hid hp
  have hmax : size D ≤ maxLen := by unfold maxLen; omega
  have hbytes : size D * 8 ≤ 140737488355328 := by omega
  refine (callsIn_wide (n := 6)).1 ?_
  have hbl := hown.lt
  have hseq : SeqGives Fence.wide 2 Tryz.prog 167 #[.pointer (some ⟨w.heap.size, 0, none⟩)] encZ (fun ss => ss.Perm (intKeys D)) (size D) (w.alloc (.cells #[.map (some b)] 119)) :=
    AnyZI.keys_gives (ρ := keysA_ren) { keysA with } Fence.wide _ trivial rfl (by omega) w.heap.size b n D _ (by simp) (by simp) (by
      obtain ⟨es, clock, hb, Ft, hs, hD⟩ := hown
      exact ⟨es, clock, (Below.heap_alloc _ _ b hbl).trans hb, Ft, hs, hD⟩)
  have cK : ∀ mb W, CallsIn Fence.wide 5 Tryz.prog 109 #[.map mb] W fun e w' => e = .returned (.func (.func 167) #[] #[.pointer (some ⟨W.heap.size, 0, none⟩)]) ∧ w' = W.alloc (.cells #[.map mb] 119) := fun mb W => AnyZI.keys_in keysA Fence.wide 5 trivial rfl mb W
  have cS := AnyZI.sorted_in sortedA Fence.wide 5 trivial trivial trivial trivial rfl (by omega) (sortsA _) (enters_of Tryz.func166 (by kernel_rfl) rfl) 167 #[.pointer (some ⟨w.heap.size, 0, none⟩)] trivial (enters_of Tryz.func167 (by kernel_rfl) rfl) _ _ hmax hbytes _ hseq
  change CallsIn _ _ Tryz.prog 108 _ _ _ at cS
  have hfK : Fence.wide.fn 109 := trivial
  have hfS : Fence.wide.fn 108 := trivial
  clear hp hm hd hsize hown
  refine callsIn_of_wp Tryz.func57 rfl trivial ?_ rfl
  simp only [Tryz.ntmps57, List.size_toArray, List.length_cons, List.length_nil, Nat.reduceAdd, Nat.reduceSub, Array.replicate_succ, Array.replicate_zero, List.push_toArray, List.append_toArray, List.nil_append, List.cons_append]
  gi_wp2_with (first
    | (gi_at_call 109; refine (cK _ _).mono ?_; rintro e w' ⟨rfl, rfl⟩)
    | (gi_at_call 108; refine cS.mono ?_; rintro e w' ⟨v, ss, rfl, hS, hrow, hnil, hb⟩))
  go_ret
  have e1 := keys_sorted HP.out hS
  have e2 : ss.length = (dirtyL n m).length := by have := (hS.trans HP.out.symm).length_eq; simpa [dirtyZ] using this
  rw [e1, encZ_i64s, e2] at hrow
  exact ⟨v, rfl, ownsRow_base_a hrow (by simp), ((Below.refl _ w).alloc (Nat.le_refl _) _).trans (hb.mono (by simp))⟩
end Go.Proofs.YtmpajlpemabniaaGreat
namespace Go.Proofs.YtmpajlpemabniaaGreat
open Go.RowKit Go.Maps Go.Shelf
set_option linter.unusedVariables false
set_option linter.unusedSimpArgs false
def bls (l : List Bool) : List Value := l.map Value.bool
@[simp] theorem bls_length (l : List Bool) : (bls l).length = l.length := by simp [bls]
theorem Ro.bl {w : World} {B : Nat} {a : Option Addr} {l : List Bool} (h : Ro w B a (bls l)) (hn : 0 < l.length) :
    ∃ b off, a = some ⟨b, off, none⟩ ∧ b < B ∧ ∀ i, i < l.length → w.cell? ⟨b, off + i, none⟩ = some (.bool (l.getD i false)) := by
  obtain ⟨b, off, h1, h2, h3⟩ := h.at_ (by intro e; have e2 := congrArg List.length e; simp only [bls_length, List.length_nil] at e2; omega)
  refine ⟨b, off, h1, h2, fun i hi => ?_⟩
  rw [h3 i (by simpa using hi)]
  simp [bls, List.getD, hi]
def rows (F : Nat → Sec) : Nat → List Value
  | 0 => []
  | n + 1 => rows F n ++ u8s (F n)
theorem rows_len {F : Nat → Sec} (hF : ∀ i, (F i).length = 64) : ∀ n, (rows F n).length = n * 64
  | 0 => by simp [rows]
  | n + 1 => by simp [rows, rows_len hF n, hF n]; omega
theorem rows_get {F : Nat → Sec} (hF : ∀ i, (F i).length = 64) : ∀ n i j, i < n → j < 64 → (rows F n)[i * 64 + j]? = (u8s (F i))[j]?
  | 0, i, j, hi, _ => by omega
  | n + 1, i, j, hi, hj => by
    rw [rows]
    rcases Nat.lt_or_ge i n with h | h
    · rw [List.getElem?_append_left (by rw [rows_len hF]; omega)]
      exact rows_get hF n i j h hj
    · obtain rfl : i = n := by omega
      rw [List.getElem?_append_right (by rw [rows_len hF]; omega), rows_len hF]
      congr 1
      omega
theorem rows_one {F : Nat → Sec} : ∀ n, ∀ v ∈ rows F n, v.oneCell' = true
  | 0, v, h => by simp [rows] at h
  | n + 1, v, h => by
    rw [rows, List.mem_append] at h
    rcases h with h | h
    · exact rows_one n v h
    · exact u8s_one _ v h
theorem rows_cells {w : World} {g n : Nat} {F : Nat → Sec} (hF : ∀ i, (F i).length = 64) (h : ∀ i, i < n → w.rangeAt g (i * 64) (u8s (F i))) : ∀ j u, (rows F n)[j]? = some u → w.cell? ⟨g, 0 + j, none⟩ = some u := fun j u hu => by
  have hj : j < n * 64 := by have := (List.getElem?_eq_some_iff.1 hu).1; rwa [rows_len hF] at this
  have e : j = j / 64 * 64 + j % 64 := by omega
  have hr := rows_get hF n (j / 64) (j % 64) (by omega) (by omega)
  rw [← e, hu] at hr
  have := h (j / 64) (by omega) (j % 64) u hr.symm
  rw [Nat.zero_add]
  rwa [← e] at this
theorem open_rows {w : World} {base n : Nat} {t : TypeId} {v : Value} {F : Nat → Sec} (hF : ∀ i, (F i).length = 64) (h : w.ownsRow base t 64 v n (rows F n)) (hn : v ≠ .slice none 0 0) :
    ∃ g c, v = .slice (some ⟨g, 0, none⟩) n c ∧ base ≤ g ∧ g < w.heap.size ∧ (∀ i, i < n → w.rangeAt g (i * 64) (u8s (F i))) ∧ w.there g 0 (n * 64) := by
  obtain ⟨_, h⟩ := h
  rcases h with ⟨rfl, _⟩ | ⟨g, cap, cur, rfl, h1, h2, h3, h4, h5, h6⟩
  · exact absurd rfl hn
  · have hcell : ∀ j, w.cell? ⟨g, j, none⟩ = cur[j]? := fun j => cell_of_row w g j cur t (0, 0) h2
    have hle : n * 64 ≤ cur.size := by rw [h5]; exact Nat.mul_le_mul_right 64 h3
    have hlt : g < w.heap.size := (Array.getElem?_eq_some_iff.1 h2).1
    refine ⟨g, cap, rfl, h1, hlt, fun i hi j u hu => ?_, fun j hj => ⟨?_, ?_⟩⟩
    · have hj : j < 64 := by have := (List.getElem?_eq_some_iff.1 hu).1; rw [u8s_length, hF] at this; exact this
      rw [hcell, ← hu, ← rows_get hF n i j hi hj, ← h6, List.getElem?_take, if_pos (by omega)]
      simp
    · rw [hcell, Nat.zero_add, Array.getElem?_eq_getElem (by omega)]; rfl
    · simp [World.frozen?, h2]
theorem open_row1 {w : World} {base k : Nat} {t : TypeId} {v : Value} {xs : List Value} (h : w.ownsRow base t 1 v k xs) :
    ∃ a c, v = .slice a k c ∧ (0 < k → ∃ g, a = some ⟨g, 0, none⟩ ∧ base ≤ g ∧ g < w.heap.size ∧ ∀ j, j < k → w.cell? ⟨g, j, none⟩ = xs[j]?) := by
  obtain ⟨hl, h⟩ := h
  rcases h with ⟨rfl, rfl⟩ | ⟨g, cap, cur, rfl, h1, h2, h3, h4, h5, h6⟩
  · exact ⟨none, 0, rfl, fun h => by omega⟩
  · refine ⟨some ⟨g, 0, none⟩, cap, rfl, fun _ => ⟨g, rfl, h1, (Array.getElem?_eq_some_iff.1 h2).1, fun j hj => ?_⟩⟩
    rw [cell_of_row w g j cur t (0, 0) h2, ← h6, List.getElem?_take, if_pos (by omega)]
    simp
theorem nodup_inj {l : List Nat} (h : l.Nodup) {i j : Nat} (hi : i < l.length) (hj : j < l.length) (e : l[i] = l[j]) : i = j := by
  have hp := List.pairwise_iff_getElem.1 h
  rcases Nat.lt_trichotomy i j with h1 | h1 | h1
  · exact absurd e (hp i j hi hj h1)
  · exact h1
  · exact absurd e.symm (hp j i hj hi h1)
theorem dirtyL_split {n i : Nat} {m : Nat → Option Sec} (hi : i < n) (hm : (m i).isSome = true) : ∃ r, dirtyL n m = dirtyL i m ++ i :: r := by
  obtain ⟨k, rfl⟩ : ∃ k, n = i + (1 + k) := ⟨n - i - 1, by omega⟩
  refine ⟨((List.range k).map (fun j => i + (1 + j))).filter fun i => (m i).isSome, ?_⟩
  unfold dirtyL
  rw [List.range_add, List.filter_append, List.range_add]
  congr 1
  simp [hm]
  rfl
theorem dirtyL_rank {n k : Nat} {m : Nat → Option Sec} (hk : k < (dirtyL n m).length) : (dirtyL ((dirtyL n m)[k]) m).length = k := by
  obtain ⟨i, hi⟩ : ∃ i, i = (dirtyL n m)[k] := ⟨_, rfl⟩
  have hmem := mem_dirtyL.1 (List.getElem_mem hk)
  rw [← hi] at hmem ⊢
  obtain ⟨r, hr⟩ := dirtyL_split hmem.1 hmem.2
  have hlt : (dirtyL i m).length < (dirtyL n m).length := by rw [hr]; simp
  have hget : (dirtyL n m)[(dirtyL i m).length]? = some i := by rw [hr]; simp
  rw [List.getElem?_eq_getElem hlt] at hget
  exact nodup_inj (dirtyL_nodup n m) hlt hk ((Option.some.inj hget).trans hi)
def crashF (F : Nat → Sec) (m : Nat → Option Sec) (ks : List Bool) (i : Nat) : Sec := if ks.getD (dirtyL i m).length false = true then now F m i else F i
def crashK (n : Nat) (F : Nat → Sec) (m : Nat → Option Sec) (ks : List Bool) (k : Nat) (i : Nat) : Sec := if i ∈ (dirtyL n m).take k then crashF F m ks i else F i
theorem crashK_zero (n : Nat) (F : Nat → Sec) (m : Nat → Option Sec) (ks : List Bool) (i : Nat) : crashK n F m ks 0 i = F i := by simp [crashK]
theorem crashK_end (n : Nat) (F : Nat → Sec) (m : Nat → Option Sec) (ks : List Bool) (i : Nat) (hi : i < n) : crashK n F m ks (dirtyL n m).length i = crashF F m ks i := by
  unfold crashK
  rw [List.take_length]
  split
  · rfl
  · rename_i h
    have : (m i) = none := by
      cases hm : m i with
      | none => rfl
      | some S => exact absurd (mem_dirtyL.2 ⟨hi, by rw [hm]; rfl⟩) h
    simp [crashF, now, this]
theorem crashK_succ {n k : Nat} (F : Nat → Sec) (m : Nat → Option Sec) (ks : List Bool) (hk : k < (dirtyL n m).length) (i : Nat) :
    crashK n F m ks (k + 1) i = if i = (dirtyL n m)[k] then (if ks.getD k false = true then now F m i else F i) else crashK n F m ks k i := by
  have hiff : i ∈ (dirtyL n m).take (k + 1) ↔ i ∈ (dirtyL n m).take k ∨ i = (dirtyL n m)[k] := by
    rw [List.take_succ_eq_append_getElem hk, List.mem_append]
    simp
  unfold crashK
  by_cases e : i = (dirtyL n m)[k]
  · rw [if_pos (hiff.2 (.inr e)), if_pos e]
    unfold crashF
    rw [e, dirtyL_rank hk]
  · rw [if_neg e]
    by_cases h : i ∈ (dirtyL n m).take k
    · rw [if_pos (hiff.2 (.inl h)), if_pos h]
    · rw [if_neg (fun h2 => by rcases hiff.1 h2 with h3 | h3; exact h h3; exact e h3), if_neg h]
theorem crashK_at {n k : Nat} (F : Nat → Sec) (m : Nat → Option Sec) (ks : List Bool) (hk : k < (dirtyL n m).length) : crashK n F m ks k ((dirtyL n m)[k]) = F ((dirtyL n m)[k]) := by
  unfold crashK
  rw [if_neg]
  intro h
  obtain ⟨j, hj, e⟩ := List.getElem_of_mem h
  rw [List.length_take] at hj
  rw [List.getElem_take] at e
  have := nodup_inj (dirtyL_nodup n m) (by omega) hk e
  omega
theorem clone_rows (w : World) (g n c : Nat) (F : Nat → Sec) (hF : ∀ i, (F i).length = 64) (hn : n ≤ 1024) (hr : ∀ i, i < n → w.rangeAt g (i * 64) (u8s (F i))) :
    Calls Tryz.prog 56 #[.slice (some ⟨g, 0, none⟩) n c] w fun e w' => ∃ g' c', e = .returned (.slice (some ⟨g', 0, none⟩) n c') ∧ w.heap.size ≤ g' ∧ g' < w'.heap.size ∧ (∀ i, i < n → w'.rangeAt g' (i * 64) (u8s (F i))) ∧ w'.there g' 0 (n * 64) ∧ Below w.heap.size w w' := by
  obtain ⟨i, hi, hz⟩ := Option.map_eq_some_iff.1 (show (Tryz.prog.info? 59).map (fun i => (i.zero, i.size, i.bytes)) = some (some (sv zsec), 64, 64) by kernel_rfl)
  simp only [Prod.mk.injEq] at hz
  have h := AnyE.slices_Clone cloneA i (sv zsec) 64 64 hi hz.1 hz.2.1 hz.2.2 (by simp [sv, Value.cells, zsec]) (by omega) (fun w => Tryz.sizeOf59 w) g 0 n c (rows F n) w (rows_len hF n) (by unfold maxLen; omega) (by omega) (rows_cells hF hr) (rows_one n)
  refine Calls.mono h fun e w' ⟨v', he, hown, hnil, hb⟩ => ?_
  obtain ⟨g', c', rfl, h1, h2, h3, h4⟩ := open_rows hF hown hnil
  exact ⟨g', c', he, h1, h2, h3, h4, hb⟩
end Go.Proofs.YtmpajlpemabniaaGreat
namespace Go.Proofs.YtmpajlpemabniaaGreat
open Go.RowKit Go.ChangeShapes Go.WideShapes Go.Deep
set_option linter.unusedVariables false
set_option linter.unusedSimpArgs false
structure ActT8 where
  k : Int
  n : Nat
  A : CeT
  b : Option Addr
  bs : List UInt8
  bc : Nat
  e : Option Addr
  ks : List Bool
  ec : Nat
def ActT8.cells (Z : ActT8) : List Value := [.int .i64 Z.k, .int .u64 (Z.n : Int), .int .i64 Z.A.x.k, .slice Z.A.a Z.A.x.d.length Z.A.c, .slice Z.A.a2 Z.A.x.b.length Z.A.c2, .slice Z.b Z.bs.length Z.bc, .slice Z.e Z.ks.length Z.ec]
structure ActOk8 (w : World) (Z : ActT8) : Prop where
  k : -9223372036854775808 ≤ Z.k ∧ Z.k ≤ 9223372036854775807
  n : Z.n < 18446744073709551616
  A : CeOk w Z.A
  b : Ro w w.heap.size Z.b (u8s Z.bs)
  e : Ro w w.heap.size Z.e (bls Z.ks)
  el : Z.ks.length ≤ 9223372036854775807
section
variable {H : Type} {enc : TypeId × Value → H} {w : World} {base : Nat} {held : Bool}
theorem row_bl8 {n : Nat} {v : Value} {y : DataW H × List MemPlace} (h : DataW.trod enc Tryz.prog w base (fun _ => true) held n 43 [v] = some y) :
    ∃ (a : Option Addr) (ks : List Bool) (c : Nat), v = .slice a ks.length c ∧ Ro w w.heap.size a (bls ks) ∧ ks.length ≤ 9223372036854775807 := by
  rcases open_bools Tryz.underlying43 Tryz.underlying4 (by kernel_rfl) h with ⟨hc, _⟩ | ⟨a, l, c, B, hc, _, hl, hm, _, hcell⟩
  · exact ⟨none, [], 0, by simpa using hc, Ro.nil _ _ _, by simp⟩
  · refine ⟨some a, (List.range l).map B, c, by simpa using hc, ?_, by simp; unfold maxLen at hm; omega⟩
    rcases Nat.eq_zero_or_pos l with h0 | h0
    · subst h0; exact .inl (by simp [bls])
    · obtain ⟨b, off, spot⟩ := a
      have hc0 := hcell 0 (by omega)
      have hspot : spot = none := by simpa [Addr.add] using World.cell?_spot hc0
      subst hspot
      have hb := World.block_lt_of_cell? w _ hc0
      refine .inr ⟨b, off, rfl, by simpa [add_off] using hb, fun i hi => ?_⟩
      have hil : i < l := by simpa using hi
      have := hcell i (by omega)
      rw [add_off] at this
      rw [this]
      simp [bls, List.getD, hil]
set_option maxRecDepth 100000 in
theorem trod_act8 {n : Nat} {cs : List Value} {y : DataW H × List MemPlace} (h : DataW.trod enc Tryz.prog w base (fun _ => true) held n 45 cs = some y) :
    ∃ Z : ActT8, cs = Z.cells ∧ ActOk8 w Z := by
  obtain ⟨xs, m, _, _, hlen, hxl, hf⟩ := DataW.trod_struct Tryz.underlying45 h
  have hc7 : cs.length = 7 := hlen.trans (by kernel_rfl)
  match cs, hc7, xs, hxl with
  | [c0, c1, c2, c3, c4, c5, c6], _, [x0, x1, x2, x3, x4], _ =>
    have g0 : DataW.trod enc Tryz.prog w base (fun _ => true) held m 3 (([c0, c1, c2, c3, c4, c5, c6].drop 0).take (Tryz.prog.cellsOf 3)) = some x0 := hf 0 _ rfl
    have g1 : DataW.trod enc Tryz.prog w base (fun _ => true) held m 37 (([c0, c1, c2, c3, c4, c5, c6].drop 1).take (Tryz.prog.cellsOf 37)) = some x1 := hf 1 _ rfl
    have g2 : DataW.trod enc Tryz.prog w base (fun _ => true) held m 42 (([c0, c1, c2, c3, c4, c5, c6].drop 2).take (Tryz.prog.cellsOf 42)) = some x2 := hf 2 _ rfl
    have g3 : DataW.trod enc Tryz.prog w base (fun _ => true) held m 39 (([c0, c1, c2, c3, c4, c5, c6].drop 5).take (Tryz.prog.cellsOf 39)) = some x3 := hf 3 _ rfl
    have g4 : DataW.trod enc Tryz.prog w base (fun _ => true) held m 43 (([c0, c1, c2, c3, c4, c5, c6].drop 6).take (Tryz.prog.cellsOf 43)) = some x4 := hf 4 _ rfl
    rw [show Tryz.prog.cellsOf 3 = 1 by kernel_rfl] at g0
    rw [show Tryz.prog.cellsOf 37 = 1 by kernel_rfl] at g1
    rw [show Tryz.prog.cellsOf 42 = 3 by kernel_rfl] at g2
    rw [show Tryz.prog.cellsOf 39 = 1 by kernel_rfl] at g3
    rw [show Tryz.prog.cellsOf 43 = 1 by kernel_rfl] at g4
    simp only [List.drop_zero, List.drop_succ_cons, List.take_succ_cons, List.take_zero] at g0 g1 g2 g3 g4
    obtain ⟨kd, e0, _, hw0⟩ := DataW.trod_int Tryz.underlying3 g0
    obtain ⟨i, e1, _, hw1⟩ := DataW.trod_int Tryz.underlying37 g1
    obtain ⟨A, e2, hA⟩ := trod_cell g2
    obtain ⟨ab, bs, cb, e3, h3, _⟩ := row_u8 g3
    obtain ⟨ak, ks, ck, e4, h4, h4l⟩ := row_bl8 g4
    have hi := bounds_u64 hw1
    obtain ⟨j, rfl⟩ : ∃ j : Nat, i = (j : Int) := ⟨i.toNat, by omega⟩
    simp only [List.cons.injEq, and_true] at e0 e1 e2
    obtain ⟨rfl, rfl, rfl⟩ := e2
    subst e0 e1 e3 e4
    exact ⟨⟨kd, j, A, ab, bs, cb, ak, ks, ck⟩, rfl, ⟨bounds_i64 hw0, by show j < _; omega, hA, h3, h4, h4l⟩⟩
end
def IsActs8 (w : World) (a : Option Addr) (len : Nat) (A : Nat → ActT8) : Prop :=
  len ≤ 9223372036854775807 ∧ (0 < len → ∃ b off, a = some ⟨b, off, none⟩ ∧ b < w.heap.size ∧ ∀ i, i < len → ActOk8 w (A i) ∧ w.rangeAt b (off + i * 7) (A i).cells)
section
variable {H : Type} {enc : TypeId × Value → H} {w : World} {base : Nat} {held : Bool}
set_option maxRecDepth 100000 in
theorem open_acts8 {n : Nat} {v : Value} {y : DataW H × List MemPlace} (h : DataW.trod enc Tryz.prog w base (fun _ => true) held n 22 [v] = some y) :
    ∃ (a : Option Addr) (len cap : Nat) (A : Nat → ActT8), v = .slice a len cap ∧ IsActs8 w a len A := by
  have dA : ActT8 := ⟨0, 0, ⟨⟨0, [], []⟩, none, 0, none, 0⟩, none, [], 0, none, [], 0⟩
  rcases open_slice Tryz.underlying22 h with ⟨hc, _⟩ | ⟨a, len, cap, m, k, D, Pl, hc, _, hl, hm, hmm, _, hi⟩
  · exact ⟨none, 0, 0, fun _ => dA, by simpa using hc, by omega, fun h => by omega⟩
  · have hc4 : Tryz.prog.cellsOf 45 = 7 := by kernel_rfl
    simp only [if_true] at hmm
    subst hmm
    have hall : ∀ i, i < m → ∃ A : ActT8, ActOk8 w A ∧ ∀ j v, A.cells[j]? = some v → w.cell? ((a.add (i * 7)).add j) = some v := by
      intro i him
      obtain ⟨cs, h1, h2⟩ := hi i him
      rw [hc4] at h1
      obtain ⟨_, h30, h3⟩ := World.cells?_some h1
      obtain ⟨A, rfl, hA⟩ := trod_act8 h2
      refine ⟨A, hA, fun j v hv => ?_⟩
      have hj : j < A.cells.length := (List.getElem?_eq_some_iff.1 hv).1
      have hj7 : j < 7 := hj
      have := h3 j hj7
      rw [this]
      simp only [List.getD_eq_getElem?_getD, hv]
      try rfl
    refine ⟨some a, len, m, fun i => if hi : i < m then Classical.choose (hall i hi) else dA, by simpa using hc, by unfold maxLen at hm; omega, fun hpos => ?_⟩
    obtain ⟨b, off, spot⟩ := a
    obtain ⟨A0, _, hc0⟩ := hall 0 (by omega)
    have hc00 := hc0 0 (.int .i64 A0.k) rfl
    have hspot : spot = none := by simpa [Addr.add] using World.cell?_spot hc00
    subst hspot
    have hb := World.block_lt_of_cell? w _ hc00
    refine ⟨b, off, rfl, by simpa [add_off] using hb, fun i hil => ?_⟩
    have hsp := Classical.choose_spec (hall i (by omega))
    dsimp only
    rw [dif_pos (show i < m by omega)]
    generalize Classical.choose (hall i (by omega)) = A at hsp ⊢
    refine ⟨hsp.1, fun j v hv => ?_⟩
    have h9 := hsp.2 j v hv
    rw [add_off, add_off] at h9
    exact h9
set_option maxRecDepth 100000 in
theorem open_acts8V {r : Reach} {b0 : Nat} {v : Value} {d : DataW H} {p : List MemPlace} (hv : Value.okWide Tryz.prog w r b0 22 v) (h : DataW.Trod enc Tryz.prog w base (fun _ => true) held 22 v d p) :
    ∃ (a : Option Addr) (len cap : Nat) (A : Nat → ActT8), v = .slice a len cap ∧ IsActs8 w a len A := by
  obtain ⟨a, l, c, rfl⟩ := okWide_slice Tryz.underlying22 hv
  obtain ⟨fuel, hf⟩ := h
  exact open_acts8 hf
end
theorem ActOk8.keep {w w' : World} {A : ActT8} (h : ActOk8 w A) (hb : Below w.heap.size w w') : ActOk8 w' A :=
  ⟨h.k, h.n, ⟨h.A.k, (h.A.d.below hb (Nat.le_refl _)).mono hb.size, h.A.dl, (h.A.b.below hb (Nat.le_refl _)).mono hb.size, h.A.bl, h.A.fit⟩, (h.b.below hb (Nat.le_refl _)).mono hb.size, (h.e.below hb (Nat.le_refl _)).mono hb.size, h.el⟩
theorem IsActs8.at_ {w w' : World} {a : Option Addr} {len : Nat} {A : Nat → ActT8} (h : IsActs8 w a len A) (hb : Below w.heap.size w w') {i : Nat} (hi : i < len) :
    ∃ b off, a = some ⟨b, off, none⟩ ∧ b < w.heap.size ∧ ActOk8 w' (A i) ∧ w'.rangeAt b (off + i * 7) (A i).cells := by
  obtain ⟨b, off, h1, h2, h3⟩ := h.2 (by omega)
  refine ⟨b, off, h1, h2, (h3 i hi).1.keep hb, fun j v hv => ?_⟩
  exact (hb.cell (p := ⟨b, _, none⟩) h2).trans ((h3 i hi).2 j v hv)
end Go.Proofs.YtmpajlpemabniaaGreat
