/-
  Contracts of package disk: New, Fill, Write. No claim of their own.
-/
import Derived.Test.YtcadnlilijkneaaGreatGb5
import Derived.Deep.RegionHeld3
import Derived.Deep.DrawnRows
import Derived.StillTailTactics
import Derived.Laws.CopyOwn
import Derived.Shelf.SlGeneric
import Derived.Shelf.SlicesE.Clone
import Derived.Test.YtcadnlilijkneaaGreatRows
namespace Go.Proofs.YtcadnlilijkneaaGreat
open Go.RowKit Go.Maps Go.WideAt Go.ChangeMaps Go.MapKept Go.WideElems
set_option linter.unusedVariables false
set_option linter.unusedSimpArgs false

def zrow (n : Nat) : Array Value := madeCells (u8s zsec).toArray (n * 64)
theorem u8s_rep (k j : Nat) (h : j < k) : (u8s (List.replicate k (0 : UInt8)))[j]? = some (.int .u8 0) := by
  unfold u8s
  rw [List.map_replicate, List.getElem?_replicate, if_pos h]
  rfl
theorem zsec_get (j : Nat) (hj : j < 64) : (u8s zsec)[j]? = some (.int .u8 0) := u8s_rep 64 j hj
theorem zrow_get (n j : Nat) (hj : j < n * 64) : (zrow n)[j]? = some (.int .u8 0) := by
  have h : ∀ k, k < 64 → (u8s zsec).toArray[k]! = .int .u8 0 := by
    intro k hk
    have e : (u8s zsec)[k]? = some (.int .u8 0) := zsec_get k hk
    simp only [List.getElem!_toArray]
    rw [List.getElem!_eq_getElem?_getD, e]; rfl
  unfold zrow madeCells
  rw [Array.getElem?_map, Array.getElem?_range, if_pos hj]
  have e2 : (u8s zsec).toArray.size = 64 := by simp [zsec]
  simp only [Option.map_some]
  rw [e2, h _ (Nat.mod_lt _ (by omega))]
theorem range_zrow {w : World} {g n : Nat} {t : TypeId} (h : w.heap[g]? = some (.cells (zrow n) t (0, 0))) (i : Nat) (hi : i < n) : w.rangeAt g (i * 64) (u8s zsec) := fun j v hv => by
  have hj : j < 64 := by have := (List.getElem?_eq_some_iff.1 hv).1; simpa [zsec] using this
  rw [cell_of_row w g (i * 64 + j) _ t (0, 0) h, zrow_get n _ (by omega), ← hv, zsec_get j hj]
theorem there_zrow {w : World} {g n : Nat} {t : TypeId} (h : w.heap[g]? = some (.cells (zrow n) t (0, 0))) : w.there g 0 (n * 64) := fun j hj => by
  refine ⟨by rw [Nat.zero_add, cell_of_row w g j _ t (0, 0) h, zrow_get n _ hj]; rfl, ?_⟩
  simp [World.frozen?, h]
theorem make37 (w : World) (n : Nat) (hn : n ≤ 1024) : (Instr.makeSlice 148 (.int .i64 n) (.int .i64 n)).run Tryz.prog w = .ok (.slice (some ⟨w.heap.size, 0, none⟩) n n) (w.alloc (.cells (zrow n) 107)) := by
  obtain ⟨i, hi, hz⟩ := Option.map_eq_some_iff.1 (show (Tryz.prog.info? 107).map (fun i => (i.zero, i.size, i.bytes)) = some (some (sv zsec), 64, 64) by kernel_rfl)
  simp only [Prod.mk.injEq] at hz
  have h := run_make (P := Tryz.prog) w 148 107 i (sv zsec) Tryz.underlying148 hi hz.1 .i64 .i64 n n (by omega) (by omega) (by rw [hz.2.2]; omega) (by omega)
  rw [h, hz.2.1]
  simp [zrow, sv, Value.cells]
theorem clean_dsk {w : World} {g n c : Nat} {F : Nat → Sec} (h1 : 1 ≤ n) (h2 : n ≤ 1024) (hF : ∀ i, (F i).length = 64) (hr : ∀ i, i < n → w.rangeAt g (i * 64) (u8s (F i))) (ht : w.there g 0 (n * 64)) :
    Dsk (cleanW w (.slice (some ⟨g, 0, none⟩) n c)) (w.heap.size + 1) g w.heap.size n F (fun _ => none) ∧ Chg [] w (cleanW w (.slice (some ⟨g, 0, none⟩) n c)) := by
  have hg : g < w.heap.size := by
    obtain ⟨u, hu⟩ := Option.isSome_iff_exists.1 (ht 0 (by omega)).1
    exact World.block_lt_of_cell? w _ hu
  unfold cleanW
  have hs : (w.alloc (.map #[] 0)).heap.size = w.heap.size + 1 := by simp
  have hnew := heap_alloc_new (w.alloc (.map #[] 0)) (.cells #[.slice (some ⟨g, 0, none⟩) n c, .map (some w.heap.size)] 187)
  rw [hs] at hnew
  have hC : Chg [] w ((w.alloc (.map #[] 0)).alloc (.cells #[.slice (some ⟨g, 0, none⟩) n c, .map (some w.heap.size)] 187)) := ((Chg.refl [] w).alloc _).alloc _
  refine ⟨⟨⟨c, ?_⟩, ?_, h1, h2, hF, (fun i S h => by cases h), fun i hi => hC.range (hr i hi) (by simp), hC.there ht (by simp), ⟨.map [], ?_, MapOf.empty⟩, by omega, by omega, by omega⟩, hC⟩
  · rw [cell_of_row _ (w.heap.size + 1) 0 _ _ (0, 0) hnew]; rfl
  · rw [cell_of_row _ (w.heap.size + 1) 1 _ _ (0, 0) hnew]; rfl
  · exact ((World.ownsMap_made w Tryz.prog 3 secR).alloc _).mono (by omega)
theorem new_ok (w : World) (n : Nat) (h1 : 1 ≤ n) (h2 : n ≤ 1024) :
    Calls Tryz.prog 36 #[.int .i64 n] w fun e w' => e = .returned (.tuple #[.pointer (some ⟨w.heap.size + 2, 0, none⟩), .int .i64 0]) ∧
      Dsk w' (w.heap.size + 2) w.heap.size (w.heap.size + 1) n (fun _ => zsec) (fun _ => none) ∧ Chg [] w w' := by
  have hmk := fun w => make37 w n h2
  have e1 : decide ((n : Int) < 1) = false := by simp; omega
  have e2 : decide ((1024 : Int) < n) = false := by simp; omega
  have e3 : ((n : Int) < 1) = False := by simp; omega
  have e4 : ((1024 : Int) < n) = False := by simp; omega
  have e5 : decide (n < 1) = false := by simp; omega
  have e6 : decide (1024 < n) = false := by simp; omega
  have hrow := heap_alloc_new w (.cells (zrow n) 107)
  have hD := clean_dsk (c := n) h1 h2 (fun _ => zsec_len) (fun i hi => range_zrow hrow i hi) (there_zrow hrow)
  rw [show (w.alloc (.cells (zrow n) 107)).heap.size = w.heap.size + 1 from by simp] at hD
  have HD := Lib.hid hD
  clear hD hrow
  go_enter Tryz.func36, Tryz.ntmps36
  go_wp2_with (go_at_call 73; refine (clean_any _ _ _ _).mono ?_; rintro e w' ⟨rfl, rfl⟩)
  go_ret2
  refine ⟨by simp, HD.out.1, ((Chg.refl [] w).alloc _).then HD.out.2 (by simp)⟩

def fillS (bs : List UInt8) : Sec := splice zsec 0 (bs.take 64)
theorem fillS_len (bs : List UInt8) : (fillS bs).length = 64 := by
  have h : zsec.length = 64 := zsec_len
  unfold fillS
  rw [length_splice _ _ _ (by rw [List.length_take, h]; omega), h]
theorem fillS_get (bs : List UInt8) (i : Nat) (hi : i < 64) : (fillS bs)[i]? = some (bs.getD i 0) := by
  unfold fillS splice
  rw [List.take_zero, List.nil_append, Nat.zero_add]
  rcases Nat.lt_or_ge i bs.length with h | h
  · rw [List.getElem?_append_left (by rw [List.length_take]; omega), List.getElem?_take, if_pos hi]
    simp [List.getD, h]
  · rw [List.getElem?_append_right (by rw [List.length_take]; omega), List.getElem?_drop, List.length_take]
    have e : bs[i]? = none := List.getElem?_eq_none h
    have e2 : (zsec)[min 64 bs.length + (i - min 64 bs.length)]? = some 0 := by
      unfold zsec
      rw [List.getElem?_replicate, if_pos (by omega)]
    simp only [List.getD, e, Option.getD_none]
    exact e2

theorem results_cell {P : Program} {fn : Func} {tmps : Array Value} {w : World} {j : Nat} {t : TypeId} {p : Addr} {v : Value} (h : fn.results = #[.cell j t]) (hx : tmps.getD j undef = .pointer (some p)) (hl : (loadVar t p).run P w = .ok v w) : (results fn tmps).run P w = .ok v w := by
  have hx' : tmps[j]?.getD undef = .pointer (some p) := by simpa using hx
  simp [results, h, hx', asAddr, hl]
theorem results_cell2 {P : Program} {fn : Func} {tmps : Array Value} {w : World} {j k : Nat} {t : TypeId} {p : Addr} {v : Value} (h : fn.results = #[.cell j t, .tmp k]) (hx : tmps.getD j undef = .pointer (some p)) (hl : (loadVar t p).run P w = .ok v w) : (results fn tmps).run P w = .ok (.tuple #[v, tmps.getD k undef]) w := by
  have hx' : tmps[j]?.getD undef = .pointer (some p) := by simpa using hx
  simp [results, h, hx', asAddr, hl]
theorem load37 {w : World} {b off : Nat} {S : Sec} (hr : w.rangeAt b off (u8s S)) (hS : S.length = 64) : (loadVar 107 ⟨b, off, none⟩).run Tryz.prog w = .ok (sv S) w :=
  run_loadVar_mid w b off _ (u8s S) _ hr Tryz.underlying107 rfl (by rw [u8s_length, hS]; exact info37)
theorem splice_fill (bs : List UInt8) : splice (u8s zsec) 0 ((u8s bs).take 64) = u8s (fillS bs) := by
  unfold splice fillS u8s
  simp [List.map_take, List.map_drop, splice]
def two (w : World) (S T : Sec) (t : TypeId) : World := (w.alloc (.cells (u8s S).toArray t)).alloc (.cells (u8s T).toArray t)
theorem two_new (w : World) (S T : Sec) (t : TypeId) : (two w S T t).heap[w.heap.size + 1]? = some (.cells (u8s T).toArray t (0, 0)) := by
  have h := heap_alloc_new (w.alloc (.cells (u8s S).toArray t)) (.cells (u8s T).toArray t)
  simpa [two] using h
theorem two_first (w : World) (S T : Sec) (t : TypeId) : (two w S T t).heap[w.heap.size]? = some (.cells (u8s S).toArray t (0, 0)) := by
  unfold two
  rw [Below.heap_alloc _ _ _ (by simp)]
  exact heap_alloc_new w _
theorem two_size (w : World) (S T : Sec) (t : TypeId) : (two w S T t).heap.size = w.heap.size + 2 := by simp [two]
theorem two_chg (w : World) (S T : Sec) (t : TypeId) : Chg [] w (two w S T t) := ((Chg.refl [] w).alloc _).alloc _
theorem range_block {w : World} {g : Nat} {S : Sec} {t : TypeId} (h : w.heap[g]? = some (.cells (u8s S).toArray t (0, 0))) : w.rangeAt g 0 (u8s S) := fun j v hv => by
  rw [Nat.zero_add, cell_of_row w g j _ t (0, 0) h]
  simpa using hv
theorem there_block {w : World} {g : Nat} {S : Sec} {t : TypeId} (h : w.heap[g]? = some (.cells (u8s S).toArray t (0, 0))) (hS : S.length = 64) : w.there g 0 64 := fun j hj => by
  refine ⟨?_, ?_⟩
  · rw [range_block h j _ (List.getElem?_eq_getElem (by simp [hS]; exact hj))]; rfl
  · rw [Nat.zero_add]
    exact Own.frozen (t := t) (cs := u8s S) h j
theorem copy_src (w : World) (a : Option Addr) (bs : List UInt8) (S T : Sec) (t : TypeId) (hr : Ro w w.heap.size a (u8s bs)) (g : Nat) :
    0 < ((u8s bs).take 64).length → (some (⟨g, 0, none⟩ : Addr) = some ⟨g, 0, none⟩) ∧ ∃ ad, a = some ad ∧ ∀ j v, ((u8s bs).take 64)[j]? = some v → (two w S T t).cell? (ad.add j) = some v := by
  intro hpos
  have hb : 0 < bs.length := by simp only [List.length_take, u8s_length] at hpos; omega
  obtain ⟨b, off, rfl, hlt, hcell⟩ := hr.u8 hb
  refine ⟨rfl, ⟨b, off, none⟩, rfl, fun j v hv => ?_⟩
  have hj : j < bs.length := by have := (List.getElem?_eq_some_iff.1 hv).1; simp only [List.length_take, u8s_length] at this; omega
  have hj64 : j < 64 := by have := (List.getElem?_eq_some_iff.1 hv).1; simp only [List.length_take, u8s_length] at this; omega
  rw [add_off, (two_chg w S T t).cell (hcell j hj) (by simp)]
  rw [List.getElem?_take, if_pos hj64] at hv
  rw [← hv]
  simp [u8s, List.getD, hj]
theorem fill_any (w : World) (a : Option Addr) (bs : List UInt8) (c B : Nat) (hro : Ro w B a (u8s bs)) (hB : B ≤ w.heap.size) :
    Calls Tryz.prog 228 #[.slice a bs.length c] w fun e w' => e = .returned (sv (fillS bs)) ∧ Chg [] w w' := by
  have QP := Lib.hid (copy_src w a bs zsec zsec 107 (hro.mono hB) (w.heap.size + 1))
  have QN := Lib.hid (show ((u8s bs).take 64).length = Nat.min bs.length 64 by rw [List.length_take, u8s_length, Nat.min_comm])
  have QF := Lib.hid (show 0 + ((u8s bs).take 64).length ≤ (u8s zsec).length by rw [List.length_take, u8s_length, u8s_length, zsec_len]; omega)
  have Q1 := Lib.hid (show ∀ v ∈ (u8s bs).take 64, v.oneCell' = true from fun v hv => u8s_one bs v (List.mem_of_mem_take hv))
  have QG := Lib.hid (two_new w zsec zsec 107)
  have QC := Lib.hid (two_chg w zsec zsec 107)
  have Q0 := Lib.hid (two_first w zsec zsec 107)
  have QS := Lib.hid (two_size w zsec zsec 107)
  clear hro hB
  go_enter Tryz.func228, Tryz.ntmps228
  go_wp2_with (first
    | (refine wpList_alloc37 rfl rfl ?_)
    | (refine wpList_copy_splice rfl _ _ _ _ rfl 5 Tryz.underlying42 (by kernel_rfl) _ _ _ _ _ _ rfl rfl (w.heap.size + 1) 0 (u8s zsec) 107 QG.out ((u8s bs).take 64) QN.out QP.out QF.out Q1.out (w.heap.size + 1) (two w zsec zsec 107) (Below.refl _ _) (Nat.le_refl _) ?_; intro w1 hg1 hb1)
    | (refine wpList_load37 rfl _ rfl (w.heap.size + 1) 0 rfl (fillS bs) (range_block (t := 107) (by rw [← splice_fill bs]; exact hg1.out)) (fillS_len bs) ?_)
    | (refine wpList_store37 rfl _ _ rfl w.heap.size 0 (fillS bs) rfl rfl (there_block (t := 107) ((hb1.block _ (Nat.lt_succ_self _)).trans Q0.out) zsec_len) (fillS_len bs) ?_)
    | fail)
  have hT : w1.there w.heap.size 0 64 := there_block (t := 107) ((hb1.block _ (Nat.lt_succ_self _)).trans Q0.out) zsec_len
  refine bodyPost_ret (results_cell (j := 2) (t := 107) (p := ⟨w.heap.size, 0, none⟩) Tryz.results228 rfl (load37 (S := fillS bs) (World.rangeAt_setCells_same _ _ _ _ (by rw [u8s_length, fillS_len]; exact hT)) (fillS_len bs))) rfl ⟨rfl, ?_⟩
  have hs := QS.out
  have h1 : Chg [w.heap.size + 1] (two w zsec zsec 107) w1 := ⟨hb1.os, hb1.tape, hb1.output, hb1.size, fun k hk hn => by
    simp only [List.mem_singleton] at hn
    exact hb1.block k (by omega)⟩
  exact (QC.out.then h1 (by simp)).setCells (Or.inr (Nat.le_refl _)) _ _
end Go.Proofs.YtcadnlilijkneaaGreat
namespace Go.Proofs.YtcadnlilijkneaaGreat
open Go.RowKit Go.Maps Go.WideAt Go.ChangeMaps Go.MapKept Go.WideElems
set_option linter.unusedVariables false
set_option linter.unusedSimpArgs false

theorem intkey : Keyed Tryz.prog 3 := int_keyed Tryz.underlying3
theorem keyOf_ik (i : Nat) (hi : i < 1024) : keyOf Tryz.prog 3 (.int .i64 (i : Int)) = some (ik i) := keyOf_int_mk Tryz.underlying3 (WalkArith.wf_i64 (by omega))
theorem tightN {w : World} {b n : Nat} {m : Nat → Option Sec} {D : DataW Unit} {k : Nat} (h : w.ownsMap Tryz.prog 3 secR b k D) (hm : MapOf m D) (hs : ∀ i S, m i = some S → i < n) : w.ownsMap Tryz.prog 3 secR b n D := by
  have hp := keys_perm (n := n) hm hs (h.entries intkey)
  have hsz : size D ≤ n := by
    have e := hp.length_eq
    rw [size_intKeys] at e
    rw [← e]
    simpa [dirtyZ] using dirtyL_le n m
  obtain ⟨es, clock, hb, F, _, hD⟩ := h
  refine ⟨es, clock, hb, F, ?_, hD⟩
  have e2 : size D = es.size := by rw [hD]; simp [size, length_sorted]
  omega
theorem put_run {w : World} {p g b n : Nat} {F : Nat → Sec} {m : Nat → Option Sec} (hd : Dsk w p g b n F m) (i : Nat) (hi : i < n) (S : Sec) (hS : S.length = 64) :
    ∃ w', (Instr.mapUpdate 185 (.map (some b)) (.int .i64 (i : Int)) (sv S)).run Tryz.prog w = .ok () w' ∧ Dsk w' p g b n F (upd m i S) ∧ Chg [b] w w' := by
  obtain ⟨D, ho, hm⟩ := hd.own
  have ht := hd.top
  obtain ⟨w', hrun, ho', htn⟩ := ho.store intkey Tryz.underlying185 (by unfold maxLen; omega) (keyOf_ik i (by omega)) (secR_sv hS)
  have hc : Chg [b] w w' := (Chg.refl [b] w).grown htn.grown (by simp)
  have hk : ∀ j T, upd m i S j = some T → T.length = 64 ∧ j < n := by
    intro j T hj
    by_cases e : j = i
    · subst e; simp only [upd, if_true, Option.some.injEq] at hj; subst hj; exact ⟨hS, hi⟩
    · simp only [upd, if_neg e] at hj; exact hd.lenM j T hj
  have hm' := hm.put ho.isMap i S
  obtain ⟨c, hf⟩ := hd.flu
  refine ⟨w', hrun, ⟨⟨c, hc.cell hf (by simpa using hd.pb)⟩, hc.cell hd.dir (by simpa using hd.pb), hd.one, hd.top, hd.lenF, hk, fun j hj => hc.range (hd.rng j hj) (by simpa using hd.gb), hc.there hd.the (by simpa using hd.gb),
    ⟨_, tightN ho' hm' (fun j T hj => (hk j T hj).2), hm'⟩, hd.pg, hd.pb, hd.gb⟩, hc⟩
set_option maxRecDepth 100000 in
theorem write_ok (w : World) {p g b n : Nat} {F : Nat → Sec} {m : Nat → Option Sec} (hd : Dsk w p g b n F m) (i : Nat) (hi : i < n) (S : Sec) (hS : S.length = 64) :
    Calls Tryz.prog 275 #[.pointer (some ⟨p, 0, none⟩), .int .i64 i, sv S] w fun e w' => e = .returned (.int .i64 0) ∧ Dsk w' p g b n F (upd m i S) ∧ Chg [b] w w' := by
  have hC1 : Chg [] w (w.alloc (.cells (u8s S).toArray 107)) := (Chg.refl [] w).alloc _
  have hd2 := hd.kept hC1
  have HC := Lib.hid (check_ok _ hd2 i (by omega) (by omega))
  have hd3 : Dsk (w.alloc (.cells (u8s S).toArray 107)).drew p g b n F m := hd2.kept ((Chg.refl [] _).drew)
  obtain ⟨w2, hrun, hd4, hc4⟩ := put_run hd3 i hi S hS
  have hdir := hd3.dir
  have hrg : (w.alloc (.cells (u8s S).toArray 107)).drew.rangeAt w.heap.size 0 (u8s S) := (World.rangeAt_drew _ _ _ _).2 (range_box w S _)
  have hu := Tryz.underlying107
  have hinf : (Tryz.prog.info? 107).map (·.size) = some (u8s S).length := by rw [u8s_length, hS]; exact info37
  have hdir2 := hd4.dir
  have hrg2 : w2.rangeAt w.heap.size 0 (u8s S) := hc4.range hrg (by have := hd.ltb; simp; omega)
  have HD := Lib.hid hd4
  have HX := Lib.hid ((hC1.drew.mono (l' := [b]) (by simp)).trans hc4)
  clear hd hd2 hd3 hd4 hc4 hC1
  go_enter Tryz.func275, Tryz.ntmps275
  go_wp2_with (first
    | (refine wpList_box37 rfl _ rfl S rfl ?_)
    | (go_at_call 93; refine HC.out.mono ?_; rintro e w' ⟨rfl, rfl⟩)
    | fail)
  go_region_held3 (fun w' => w'.cell? ⟨p, 1, none⟩ = some (.map (some b)) ∧ w'.rangeAt w.heap.size 0 (u8s S)) (first | assumption | (exact ⟨hdir, hrg⟩) | (exact ⟨hdir2, hrg2⟩)) (fail)
  go_wp2
  go_ret
  exact ⟨rfl, HD.out, HX.out⟩

theorem look_run {w : World} {p g b n : Nat} {F : Nat → Sec} {m : Nat → Option Sec} (hd : Dsk w p g b n F m) (i : Nat) (hi : i < n) :
    (Instr.lookup 185 (.map (some b)) (.int .i64 (i : Int)) true).run Tryz.prog w = .ok (.tuple #[sv ((m i).getD zsec), .bool (m i).isSome]) w ∧
    (Instr.lookup 185 (.map (some b)) (.int .i64 (i : Int)) false).run Tryz.prog w = .ok (sv ((m i).getD zsec)) w := by
  obtain ⟨D, ho, hm⟩ := hd.own
  have ht := hd.top
  obtain ⟨v, ps, hrun, hv⟩ := ho.look_ok intkey Tryz.underlying185 (zero37 w) (secR_sv zsec_len) (keyOf_ik i (by omega))
  obtain ⟨v2, ps2, hrun2, hv2⟩ := ho.lookup intkey Tryz.underlying185 (zero37 w) (secR_sv zsec_len) (keyOf_ik i (by omega))
  obtain ⟨S, hS, rfl, hz⟩ := secR_inv hv
  obtain ⟨S2, hS2, rfl, hz2⟩ := secR_inv hv2
  simp only [Prod.mk.injEq] at hz hz2
  rw [hrun, hrun2]
  cases hmi : m i with
  | none =>
    have h0 := hm.none_ i hmi
    rw [atKey_of_not_has h0] at hz hz2
    rw [h0, ← secD_inj hz.1, ← secD_inj hz2.1]
    simp
  | some T =>
    obtain ⟨h1, h2⟩ := hm.some_ i T hmi
    rw [h2] at hz hz2
    rw [h1, ← secD_inj hz.1, ← secD_inj hz2.1]
    simp
section
variable {w : World} {ops : Array Oper} {rest : List Oper} {o : Oper} {a : Act} {Q : Exit → Act → World → Prop}
end
set_option maxRecDepth 100000 in
theorem read_ok (w : World) {p g b n : Nat} {F : Nat → Sec} {m : Nat → Option Sec} (hd : Dsk w p g b n F m) (i : Nat) (hi : i < n) :
    Calls Tryz.prog 48 #[.pointer (some ⟨p, 0, none⟩), .int .i64 i] w fun e w' => e = .returned (.tuple #[sv (now F m i), .int .i64 0]) ∧ Chg [] w w' := by
  have hT := there_box w zsec 107 zsec_len
  have hd2 := hd.kept ((Chg.refl [] w).alloc (.cells (u8s zsec).toArray 107))
  have HC := Lib.hid (check_ok _ hd2 i (by omega) (by omega))
  have hdir := hd2.dir
  obtain ⟨c, hflu⟩ := hd2.flu
  have hlook := (look_run hd2 i hi).1
  have hlen := hd.lenM i
  have ht := hd.top
  have hi0 : (0 : Int) ≤ (i : Int) := by omega
  have hi1 : (i : Int) < (n : Int) := by omega
  have hS : ((m i).getD zsec).length = 64 := by
    cases hm : m i with
    | none => exact zsec_len
    | some S => exact (hlen S hm).1
  have hF := hd.lenF i
  have hltw : w.heap.size < (w.alloc (.cells (u8s zsec).toArray 107)).heap.size := by simp
  have hC1 : Chg [] w (w.alloc (.cells (u8s zsec).toArray 107)) := (Chg.refl [] w).alloc _
  obtain ⟨w1, hw⟩ : ∃ w1, w1 = w.alloc (.cells (u8s zsec).toArray 107) := ⟨_, rfl⟩
  rw [← hw] at hT hd2 HC hdir hflu hlook hltw hC1
  have hTn := there_box w1 zsec 107 zsec_len
  obtain ⟨S, HS⟩ : ∃ S, Hid ((m i).getD zsec = S) := ⟨_, Lib.hid rfl⟩
  rw [HS.out] at hS hlook
  obtain ⟨w3, hw3⟩ : ∃ w3, w3 = (w1.alloc (.cells (u8s zsec).toArray 107)).setCells w1.heap.size 0 (u8s S) := ⟨_, rfl⟩
  have hC3 : Chg [] w1 w3 := by rw [hw3]; exact ((Chg.refl [] w1).alloc _).setCells (Or.inr (Nat.le_refl _)) _ _
  have hr3 : w3.rangeAt w1.heap.size 0 (u8s S) := by rw [hw3]; exact World.rangeAt_setCells_same _ _ _ _ (by rw [u8s_length, hS]; exact hTn)
  have hT3 := hC3.there hT (by simp)
  have hd3 := hd2.kept hC3
  obtain ⟨c3, hflu3⟩ := hd3.flu
  have hrg3 := hd3.rng i hi
  have HW := Lib.hid hw.symm
  have HW3 := Lib.hid hw3.symm
  have HC3 := Lib.hid (hC1.trans hC3)
  clear hw hw3 hd hd2 hd3 hlen hC1 hC3
  cases hm : m i with
  | none =>
    rw [hm] at hlook
    simp only [Option.isSome_none] at hlook
    have HN := Lib.hid (show now F m i = F i by simp [now, hm])
    clear hm
    go_enter Tryz.func48, Tryz.ntmps48
    go_wp2_with (first
      | (refine wpList_alloc37 rfl rfl ?_; try rw [HW.out])
      | (refine wpList_store37 rfl _ _ rfl w1.heap.size 0 S rfl rfl hTn hS ?_; rw [HW3.out])
      | (refine wpList_load37 rfl _ rfl g (i * 64) rfl (F i) hrg3 hF ?_)
      | (refine wpList_store37 rfl _ _ rfl w.heap.size 0 (F i) rfl rfl hT3 hF ?_)
      | (go_at_call 93; refine HC.out.mono ?_; rintro e w' ⟨rfl, rfl⟩)
      | fail)
    rw [HN.out]
    refine bodyPost_ret (results_cell2 (j := 4) (t := 107) (p := ⟨w.heap.size, 0, none⟩) Tryz.results48 rfl (load37 (S := F i) (World.rangeAt_setCells_same _ _ _ _ (by rw [u8s_length, hF]; exact hT3)) hF)) rfl ⟨rfl, ?_⟩
    exact HC3.out.setCells (Or.inr (Nat.le_refl _)) _ _
  | some T =>
    rw [hm] at hlook
    simp only [Option.isSome_some] at hlook
    have HN := Lib.hid (show now F m i = S by rw [← HS.out, hm]; simp [now, hm])
    clear hm
    go_enter Tryz.func48, Tryz.ntmps48
    go_wp2_with (first
      | (refine wpList_alloc37 rfl rfl ?_; try rw [HW.out])
      | (refine wpList_store37 rfl _ _ rfl w1.heap.size 0 S rfl rfl hTn hS ?_; rw [HW3.out])
      | (refine wpList_load37 rfl _ rfl w1.heap.size 0 rfl S hr3 hS ?_)
      | (refine wpList_store37 rfl _ _ rfl w.heap.size 0 S rfl rfl hT3 hS ?_)
      | (go_at_call 93; refine HC.out.mono ?_; rintro e w' ⟨rfl, rfl⟩)
      | fail)
    rw [HN.out]
    refine bodyPost_ret (results_cell2 (j := 4) (t := 107) (p := ⟨w.heap.size, 0, none⟩) Tryz.results48 rfl (load37 (S := S) (World.rangeAt_setCells_same _ _ _ _ (by rw [u8s_length, hS]; exact hT3)) hS)) rfl ⟨rfl, ?_⟩
    exact HC3.out.setCells (Or.inr (Nat.le_refl _)) _ _
end Go.Proofs.YtcadnlilijkneaaGreat
namespace Go.Proofs.YtcadnlilijkneaaGreat
open Go.Shelf
def cloneI_ren : Go.Shelf.Ren := ⟨fun | 41 => 104 | n => n, fun | 22 => 46 | 23 => 3 | 4 => 4 | n => n, fun | n => n⟩
theorem cloneI : Go.Proofs.SlLaysE0.n41 Tryz.prog cloneI_ren := {
  mixed := by kernel_rfl
  f41 := ⟨Tryz.f104.name, by decide, Tryz.func104.trans (congrArg some (by kernel_rfl))⟩
  t4 := Tryz.underlying4
  a4 := Tryz.isAgg4
  z4 := Tryz.sizeOf4
  v4 := Tryz.zeroValue4
  t22 := Tryz.underlying46
  a22 := Tryz.isAgg46
  z22 := Tryz.sizeOf46
  v22 := Tryz.zeroValue46 }
def cloneC_ren : Go.Shelf.Ren := ⟨fun | 41 => 103 | n => n, fun | 22 => 82 | 23 => 46 | 4 => 4 | n => n, fun | n => n⟩
theorem cloneC : Go.Proofs.SlLaysE0.n41 Tryz.prog cloneC_ren := {
  mixed := by kernel_rfl
  f41 := ⟨Tryz.f103.name, by decide, Tryz.func103.trans (congrArg some (by kernel_rfl))⟩
  t4 := Tryz.underlying4
  a4 := Tryz.isAgg4
  z4 := Tryz.sizeOf4
  v4 := Tryz.zeroValue4
  t22 := Tryz.underlying82
  a22 := Tryz.isAgg82
  z22 := Tryz.sizeOf82
  v22 := Tryz.zeroValue82 }
def cloneS_ren : Go.Shelf.Ren := ⟨fun | 41 => 102 | n => n, fun | 22 => 24 | 23 => 84 | 4 => 4 | n => n, fun | n => n⟩
theorem cloneS : Go.Proofs.SlLaysE0.n41 Tryz.prog cloneS_ren := {
  mixed := by kernel_rfl
  f41 := ⟨Tryz.f102.name, by decide, Tryz.func102.trans (congrArg some (by kernel_rfl))⟩
  t4 := Tryz.underlying4
  a4 := Tryz.isAgg4
  z4 := Tryz.sizeOf4
  v4 := Tryz.zeroValue4
  t22 := Tryz.underlying24
  a22 := Tryz.isAgg24
  z22 := Tryz.sizeOf24
  v22 := Tryz.zeroValue24 }
end Go.Proofs.YtcadnlilijkneaaGreat
