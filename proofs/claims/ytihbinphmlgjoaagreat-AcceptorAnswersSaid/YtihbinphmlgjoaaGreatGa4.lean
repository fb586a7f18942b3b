/-
  Contracts of package disk: New, Fill, Write. No claim of their own.
-/
import Derived.Test.YtihbinphmlgjoaaGreatGa3
import Derived.Deep.RegionHeld3
import Derived.Deep.DrawnRows
import Derived.StillTailTactics
import Derived.Laws.CopyOwn
import Derived.Shelf.SlGeneric
import Derived.Shelf.SlicesE.Clone
import Derived.Test.YtihbinphmlgjoaaGreatRows
import Derived.Shelf.SlIterI.Nil
import Derived.Shelf.SlIterI.Sorted
import Derived.Shelf.SortM.Plain
import Derived.Shelf.SortM.SortNone
import Derived.Shelf.SlMaps.Clone
import Derived.Shelf.SlSortCmp.Xorshift
import Derived.Shelf.AbstractIn
namespace Go.Proofs.YtihbinphmlgjoaaGreat
open Go.RowKit Go.Maps Go.WideAt Go.ChangeMaps Go.MapKept Go.WideElems
set_option linter.unusedVariables false
set_option linter.unusedSimpArgs false

/-- a row of n sectors, all 0 -/
def zrow (n : Nat) : Array Value := madeCells (u8s zsec).toArray (n * 64)
theorem zrow_size (n : Nat) : (zrow n).size = n * 64 := size_madeCells _ _
theorem u8s_rep (k j : Nat) (h : j < k) : (u8s (List.replicate k (0 : UInt8)))[j]? = some (.int .u8 0) := by
  unfold u8s
  rw [List.map_replicate, List.getElem?_replicate, if_pos h]
  rfl
theorem zsec_get (j : Nat) (hj : j < 64) : (u8s zsec)[j]? = some (.int .u8 0) := u8s_rep 64 j hj
theorem zrow_get (n j : Nat) (hj : j < n * 64) : (zrow n)[j]? = some (.int .u8 0) := by
  have h : ∀ k, k < 64 → (u8s zsec).toArray[k]! = .int .u8 0 := by
    intro k hk
    have e : (u8s zsec)[k]? = some (.int .u8 0) := zsec_get k hk
    simp only [List.getElem!_toArray]
    rw [List.getElem!_eq_getElem?_getD, e]; rfl
  unfold zrow madeCells
  rw [Array.getElem?_map, Array.getElem?_range, if_pos hj]
  have e2 : (u8s zsec).toArray.size = 64 := by simp [zsec]
  simp only [Option.map_some]
  rw [e2, h _ (Nat.mod_lt _ (by omega))]
theorem range_zrow {w : World} {g n : Nat} {t : TypeId} (h : w.heap[g]? = some (.cells (zrow n) t (0, 0))) (i : Nat) (hi : i < n) : w.rangeAt g (i * 64) (u8s zsec) := fun j v hv => by
  have hj : j < 64 := by have := (List.getElem?_eq_some_iff.1 hv).1; simpa [zsec] using this
  rw [cell_of_row w g (i * 64 + j) _ t (0, 0) h, zrow_get n _ (by omega), ← hv, zsec_get j hj]
theorem there_zrow {w : World} {g n : Nat} {t : TypeId} (h : w.heap[g]? = some (.cells (zrow n) t (0, 0))) : w.there g 0 (n * 64) := fun j hj => by
  refine ⟨by rw [Nat.zero_add, cell_of_row w g j _ t (0, 0) h, zrow_get n _ hj]; rfl, ?_⟩
  simp [World.frozen?, h]
theorem make37 (w : World) (n : Nat) (hn : n ≤ 1024) : (Instr.makeSlice 82 (.int .i64 n) (.int .i64 n)).run Tryz.prog w = .ok (.slice (some ⟨w.heap.size, 0, none⟩) n n) (w.alloc (.cells (zrow n) 53)) := by
  obtain ⟨i, hi, hz⟩ := Option.map_eq_some_iff.1 (show (Tryz.prog.info? 53).map (fun i => (i.zero, i.size, i.bytes)) = some (some (sv zsec), 64, 64) by kernel_rfl)
  simp only [Prod.mk.injEq] at hz
  have h := run_make (P := Tryz.prog) w 82 53 i (sv zsec) Tryz.underlying82 hi hz.1 .i64 .i64 n n (by omega) (by omega) (by rw [hz.2.2]; omega) (by omega)
  rw [h, hz.2.1]
  simp [zrow, sv, Value.cells]
/-- what clean makes of a row of sectors of one's own is a disk -/
theorem clean_dsk {w : World} {g n c : Nat} {F : Nat → Sec} (h1 : 1 ≤ n) (h2 : n ≤ 1024) (hF : ∀ i, (F i).length = 64) (hr : ∀ i, i < n → w.rangeAt g (i * 64) (u8s (F i))) (ht : w.there g 0 (n * 64)) :
    Dsk (cleanW w (.slice (some ⟨g, 0, none⟩) n c)) (w.heap.size + 1) g w.heap.size n F (fun _ => none) ∧ Chg [] w (cleanW w (.slice (some ⟨g, 0, none⟩) n c)) := by
  have hg : g < w.heap.size := by
    obtain ⟨u, hu⟩ := Option.isSome_iff_exists.1 (ht 0 (by omega)).1
    exact World.block_lt_of_cell? w _ hu
  unfold cleanW
  have hs : (w.alloc (.map #[] 0)).heap.size = w.heap.size + 1 := by simp
  have hnew := heap_alloc_new (w.alloc (.map #[] 0)) (.cells #[.slice (some ⟨g, 0, none⟩) n c, .map (some w.heap.size)] 122)
  rw [hs] at hnew
  have hC : Chg [] w ((w.alloc (.map #[] 0)).alloc (.cells #[.slice (some ⟨g, 0, none⟩) n c, .map (some w.heap.size)] 122)) := ((Chg.refl [] w).alloc _).alloc _
  refine ⟨⟨⟨c, ?_⟩, ?_, h1, h2, hF, (fun i S h => by cases h), fun i hi => hC.range (hr i hi) (by simp), hC.there ht (by simp), ⟨.map [], ?_, MapOf.empty⟩, by omega, by omega, by omega⟩, hC⟩
  · rw [cell_of_row _ (w.heap.size + 1) 0 _ _ (0, 0) hnew]; rfl
  · rw [cell_of_row _ (w.heap.size + 1) 1 _ _ (0, 0) hnew]; rfl
  · exact ((World.ownsMap_made w Tryz.prog 3 secR).alloc _).mono (by omega)
theorem new_ok (w : World) (n : Nat) (h1 : 1 ≤ n) (h2 : n ≤ 1024) :
    Calls Tryz.prog 9 #[.int .i64 n] w fun e w' => e = .returned (.tuple #[.pointer (some ⟨w.heap.size + 2, 0, none⟩), .int .i64 0]) ∧
      Dsk w' (w.heap.size + 2) w.heap.size (w.heap.size + 1) n (fun _ => zsec) (fun _ => none) ∧ Chg [] w w' := by
  have hmk := fun w => make37 w n h2
  have e1 : decide ((n : Int) < 1) = false := by simp; omega
  have e2 : decide ((1024 : Int) < n) = false := by simp; omega
  have e3 : ((n : Int) < 1) = False := by simp; omega
  have e4 : ((1024 : Int) < n) = False := by simp; omega
  have e5 : decide (n < 1) = false := by simp; omega
  have e6 : decide (1024 < n) = false := by simp; omega
  have hrow := heap_alloc_new w (.cells (zrow n) 53)
  have hD := clean_dsk (c := n) h1 h2 (fun _ => zsec_len) (fun i hi => range_zrow hrow i hi) (there_zrow hrow)
  rw [show (w.alloc (.cells (zrow n) 53)).heap.size = w.heap.size + 1 from by simp] at hD
  have HD := Lib.hid hD
  clear hD hrow
  go_enter Tryz.func9, Tryz.ntmps9
  go_wp2_with (go_at_call 29; refine (clean_any _ _ _ _).mono ?_; rintro e w' ⟨rfl, rfl⟩)
  go_ret2
  refine ⟨by simp, HD.out.1, ((Chg.refl [] w).alloc _).then HD.out.2 (by simp)⟩

/-- the bytes of a sector that begins with bs -/
def fillS (bs : List UInt8) : Sec := splice zsec 0 (bs.take 64)
theorem fillS_len (bs : List UInt8) : (fillS bs).length = 64 := by
  have h : zsec.length = 64 := zsec_len
  unfold fillS
  rw [length_splice _ _ _ (by rw [List.length_take, h]; omega), h]
theorem fillS_get (bs : List UInt8) (i : Nat) (hi : i < 64) : (fillS bs)[i]? = some (bs.getD i 0) := by
  unfold fillS splice
  rw [List.take_zero, List.nil_append, Nat.zero_add]
  rcases Nat.lt_or_ge i bs.length with h | h
  · rw [List.getElem?_append_left (by rw [List.length_take]; omega), List.getElem?_take, if_pos hi]
    simp [List.getD, h]
  · rw [List.getElem?_append_right (by rw [List.length_take]; omega), List.getElem?_drop, List.length_take]
    have e : bs[i]? = none := List.getElem?_eq_none h
    have e2 : (zsec)[min 64 bs.length + (i - min 64 bs.length)]? = some 0 := by
      unfold zsec
      rw [List.getElem?_replicate, if_pos (by omega)]
    simp only [List.getD, e, Option.getD_none]
    exact e2

theorem results_cell {P : Program} {fn : Func} {tmps : Array Value} {w : World} {j : Nat} {t : TypeId} {p : Addr} {v : Value} (h : fn.results = #[.cell j t]) (hx : tmps.getD j undef = .pointer (some p)) (hl : (loadVar t p).run P w = .ok v w) : (results fn tmps).run P w = .ok v w := by
  have hx' : tmps[j]?.getD undef = .pointer (some p) := by simpa using hx
  simp [results, h, hx', asAddr, hl]
theorem results_cell2 {P : Program} {fn : Func} {tmps : Array Value} {w : World} {j k : Nat} {t : TypeId} {p : Addr} {v : Value} (h : fn.results = #[.cell j t, .tmp k]) (hx : tmps.getD j undef = .pointer (some p)) (hl : (loadVar t p).run P w = .ok v w) : (results fn tmps).run P w = .ok (.tuple #[v, tmps.getD k undef]) w := by
  have hx' : tmps[j]?.getD undef = .pointer (some p) := by simpa using hx
  simp [results, h, hx', asAddr, hl]
theorem load37 {w : World} {b off : Nat} {S : Sec} (hr : w.rangeAt b off (u8s S)) (hS : S.length = 64) : (loadVar 53 ⟨b, off, none⟩).run Tryz.prog w = .ok (sv S) w :=
  run_loadVar_mid w b off _ (u8s S) _ hr Tryz.underlying53 rfl (by rw [u8s_length, hS]; exact info37)
theorem splice_fill (bs : List UInt8) : splice (u8s zsec) 0 ((u8s bs).take 64) = u8s (fillS bs) := by
  unfold splice fillS u8s
  simp [List.map_take, List.map_drop, splice]
/-- two sectors laid anew -/
def two (w : World) (S T : Sec) (t : TypeId) : World := (w.alloc (.cells (u8s S).toArray t)).alloc (.cells (u8s T).toArray t)
theorem two_new (w : World) (S T : Sec) (t : TypeId) : (two w S T t).heap[w.heap.size + 1]? = some (.cells (u8s T).toArray t (0, 0)) := by
  have h := heap_alloc_new (w.alloc (.cells (u8s S).toArray t)) (.cells (u8s T).toArray t)
  simpa [two] using h
theorem two_first (w : World) (S T : Sec) (t : TypeId) : (two w S T t).heap[w.heap.size]? = some (.cells (u8s S).toArray t (0, 0)) := by
  unfold two
  rw [Below.heap_alloc _ _ _ (by simp)]
  exact heap_alloc_new w _
theorem two_size (w : World) (S T : Sec) (t : TypeId) : (two w S T t).heap.size = w.heap.size + 2 := by simp [two]
theorem two_chg (w : World) (S T : Sec) (t : TypeId) : Chg [] w (two w S T t) := ((Chg.refl [] w).alloc _).alloc _
theorem range_block {w : World} {g : Nat} {S : Sec} {t : TypeId} (h : w.heap[g]? = some (.cells (u8s S).toArray t (0, 0))) : w.rangeAt g 0 (u8s S) := fun j v hv => by
  rw [Nat.zero_add, cell_of_row w g j _ t (0, 0) h]
  simpa using hv
theorem there_block {w : World} {g : Nat} {S : Sec} {t : TypeId} (h : w.heap[g]? = some (.cells (u8s S).toArray t (0, 0))) (hS : S.length = 64) : w.there g 0 64 := fun j hj => by
  refine ⟨?_, ?_⟩
  · rw [range_block h j _ (List.getElem?_eq_getElem (by simp [hS]; exact hj))]; rfl
  · rw [Nat.zero_add]
    exact Own.frozen (t := t) (cs := u8s S) h j
theorem copy_src (w : World) (a : Option Addr) (bs : List UInt8) (S T : Sec) (t : TypeId) (hr : Ro w w.heap.size a (u8s bs)) (g : Nat) :
    0 < ((u8s bs).take 64).length → (some (⟨g, 0, none⟩ : Addr) = some ⟨g, 0, none⟩) ∧ ∃ ad, a = some ad ∧ ∀ j v, ((u8s bs).take 64)[j]? = some v → (two w S T t).cell? (ad.add j) = some v := by
  intro hpos
  have hb : 0 < bs.length := by simp only [List.length_take, u8s_length] at hpos; omega
  obtain ⟨b, off, rfl, hlt, hcell⟩ := hr.u8 hb
  refine ⟨rfl, ⟨b, off, none⟩, rfl, fun j v hv => ?_⟩
  have hj : j < bs.length := by have := (List.getElem?_eq_some_iff.1 hv).1; simp only [List.length_take, u8s_length] at this; omega
  have hj64 : j < 64 := by have := (List.getElem?_eq_some_iff.1 hv).1; simp only [List.length_take, u8s_length] at this; omega
  rw [add_off, (two_chg w S T t).cell (hcell j hj) (by simp)]
  rw [List.getElem?_take, if_pos hj64] at hv
  rw [← hv]
  simp [u8s, List.getD, hj]
theorem fill_any (w : World) (a : Option Addr) (bs : List UInt8) (c B : Nat) (hro : Ro w B a (u8s bs)) (hB : B ≤ w.heap.size) :
    Calls Tryz.prog 148 #[.slice a bs.length c] w fun e w' => e = .returned (sv (fillS bs)) ∧ Chg [] w w' := by
  have QP := Lib.hid (copy_src w a bs zsec zsec 53 (hro.mono hB) (w.heap.size + 1))
  have QN := Lib.hid (show ((u8s bs).take 64).length = Nat.min bs.length 64 by rw [List.length_take, u8s_length, Nat.min_comm])
  have QF := Lib.hid (show 0 + ((u8s bs).take 64).length ≤ (u8s zsec).length by rw [List.length_take, u8s_length, u8s_length, zsec_len]; omega)
  have Q1 := Lib.hid (show ∀ v ∈ (u8s bs).take 64, v.oneCell' = true from fun v hv => u8s_one bs v (List.mem_of_mem_take hv))
  have QG := Lib.hid (two_new w zsec zsec 53)
  have QC := Lib.hid (two_chg w zsec zsec 53)
  have Q0 := Lib.hid (two_first w zsec zsec 53)
  have QS := Lib.hid (two_size w zsec zsec 53)
  clear hro hB
  go_enter Tryz.func148, Tryz.ntmps148
  go_wp2_with (first
    | (refine wpList_alloc37 rfl rfl ?_)
    | (refine wpList_copy_splice rfl _ _ _ _ rfl 5 Tryz.underlying44 (by kernel_rfl) _ _ _ _ _ _ rfl rfl (w.heap.size + 1) 0 (u8s zsec) 53 QG.out ((u8s bs).take 64) QN.out QP.out QF.out Q1.out (w.heap.size + 1) (two w zsec zsec 53) (Below.refl _ _) (Nat.le_refl _) ?_; intro w1 hg1 hb1)
    | (refine wpList_load37 rfl _ rfl (w.heap.size + 1) 0 rfl (fillS bs) (range_block (t := 53) (by rw [← splice_fill bs]; exact hg1.out)) (fillS_len bs) ?_)
    | (refine wpList_store37 rfl _ _ rfl w.heap.size 0 (fillS bs) rfl rfl (there_block (t := 53) ((hb1.block _ (Nat.lt_succ_self _)).trans Q0.out) zsec_len) (fillS_len bs) ?_)
    | fail)
  have hT : w1.there w.heap.size 0 64 := there_block (t := 53) ((hb1.block _ (Nat.lt_succ_self _)).trans Q0.out) zsec_len
  refine bodyPost_ret (results_cell (j := 2) (t := 53) (p := ⟨w.heap.size, 0, none⟩) Tryz.results148 rfl (load37 (S := fillS bs) (World.rangeAt_setCells_same _ _ _ _ (by rw [u8s_length, fillS_len]; exact hT)) (fillS_len bs))) rfl ⟨rfl, ?_⟩
  have hs := QS.out
  have h1 : Chg [w.heap.size + 1] (two w zsec zsec 53) w1 := ⟨hb1.os, hb1.tape, hb1.output, hb1.size, fun k hk hn => by
    simp only [List.mem_singleton] at hn
    exact hb1.block k (by omega)⟩
  exact (QC.out.then h1 (by simp)).setCells (Or.inr (Nat.le_refl _)) _ _
end Go.Proofs.YtihbinphmlgjoaaGreat
namespace Go.Proofs.YtihbinphmlgjoaaGreat
open Go.RowKit Go.Maps Go.WideAt Go.ChangeMaps Go.MapKept Go.WideElems
set_option linter.unusedVariables false
set_option linter.unusedSimpArgs false

theorem intkey : Keyed Tryz.prog 3 := int_keyed Tryz.underlying3
theorem keyOf_ik (i : Nat) (hi : i < 1024) : keyOf Tryz.prog 3 (.int .i64 (i : Int)) = some (ik i) := keyOf_int_mk Tryz.underlying3 (WalkArith.wf_i64 (by omega))
theorem tightN {w : World} {b n : Nat} {m : Nat → Option Sec} {D : DataW Unit} {k : Nat} (h : w.ownsMap Tryz.prog 3 secR b k D) (hm : MapOf m D) (hs : ∀ i S, m i = some S → i < n) : w.ownsMap Tryz.prog 3 secR b n D := by
  have hp := keys_perm (n := n) hm hs (h.entries intkey)
  have hsz : size D ≤ n := by
    have e := hp.length_eq
    rw [size_intKeys] at e
    rw [← e]
    simpa [dirtyZ] using dirtyL_le n m
  obtain ⟨es, clock, hb, F, _, hD⟩ := h
  refine ⟨es, clock, hb, F, ?_, hD⟩
  have e2 : size D = es.size := by rw [hD]; simp [size, length_sorted]
  omega
/-- a sector is written into the map -/
theorem put_run {w : World} {p g b n : Nat} {F : Nat → Sec} {m : Nat → Option Sec} (hd : Dsk w p g b n F m) (i : Nat) (hi : i < n) (S : Sec) (hS : S.length = 64) :
    ∃ w', (Instr.mapUpdate 120 (.map (some b)) (.int .i64 (i : Int)) (sv S)).run Tryz.prog w = .ok () w' ∧ Dsk w' p g b n F (upd m i S) ∧ Chg [b] w w' := by
  obtain ⟨D, ho, hm⟩ := hd.own
  have ht := hd.top
  obtain ⟨w', hrun, ho', htn⟩ := ho.store intkey Tryz.underlying120 (by unfold maxLen; omega) (keyOf_ik i (by omega)) (secR_sv hS)
  have hc : Chg [b] w w' := (Chg.refl [b] w).grown htn.grown (by simp)
  have hk : ∀ j T, upd m i S j = some T → T.length = 64 ∧ j < n := by
    intro j T hj
    by_cases e : j = i
    · subst e; simp only [upd, if_true, Option.some.injEq] at hj; subst hj; exact ⟨hS, hi⟩
    · simp only [upd, if_neg e] at hj; exact hd.lenM j T hj
  have hm' := hm.put ho.isMap i S
  obtain ⟨c, hf⟩ := hd.flu
  refine ⟨w', hrun, ⟨⟨c, hc.cell hf (by simpa using hd.pb)⟩, hc.cell hd.dir (by simpa using hd.pb), hd.one, hd.top, hd.lenF, hk, fun j hj => hc.range (hd.rng j hj) (by simpa using hd.gb), hc.there hd.the (by simpa using hd.gb),
    ⟨_, tightN ho' hm' (fun j T hj => (hk j T hj).2), hm'⟩, hd.pg, hd.pb, hd.gb⟩, hc⟩
theorem write_nil (w : World) (i : Int) (S : Sec) :
    Calls Tryz.prog 191 #[.pointer none, .int .i64 i, sv S] w fun e w' => e = .returned (.int .i64 1) ∧ Chg [] w w' := by
  go_enter Tryz.func191, Tryz.ntmps191
  go_wp2_with (first
    | (refine wpList_box37 rfl _ rfl S rfl ?_)
    | (go_at_call 50; refine (check_nil _ _).mono ?_; rintro e w' ⟨rfl, rfl⟩)
    | fail)
  go_ret
  exact ⟨rfl, (Chg.refl [] w).alloc _⟩
theorem write_no (w : World) {p g b n : Nat} {F : Nat → Sec} {m : Nat → Option Sec} (hd : Dsk w p g b n F m) (i : Int) (h : i < 0 ∨ (n : Int) ≤ i) (S : Sec) :
    Calls Tryz.prog 191 #[.pointer (some ⟨p, 0, none⟩), .int .i64 i, sv S] w fun e w' => e = .returned (.int .i64 41) ∧ Chg [] w w' := by
  have hd2 := hd.kept ((Chg.refl [] w).alloc (.cells (u8s S).toArray 53))
  have HC := Lib.hid (check_no _ hd2 i h)
  clear hd hd2 h
  go_enter Tryz.func191, Tryz.ntmps191
  go_wp2_with (first
    | (refine wpList_box37 rfl _ rfl S rfl ?_)
    | (go_at_call 50; refine HC.out.mono ?_; rintro e w' ⟨rfl, rfl⟩)
    | fail)
  go_ret
  exact ⟨rfl, (Chg.refl [] w).alloc _⟩
set_option maxRecDepth 100000 in
theorem write_ok (w : World) {p g b n : Nat} {F : Nat → Sec} {m : Nat → Option Sec} (hd : Dsk w p g b n F m) (i : Nat) (hi : i < n) (S : Sec) (hS : S.length = 64) :
    Calls Tryz.prog 191 #[.pointer (some ⟨p, 0, none⟩), .int .i64 i, sv S] w fun e w' => e = .returned (.int .i64 0) ∧ Dsk w' p g b n F (upd m i S) ∧ Chg [b] w w' := by
  have hC1 : Chg [] w (w.alloc (.cells (u8s S).toArray 53)) := (Chg.refl [] w).alloc _
  have hd2 := hd.kept hC1
  have HC := Lib.hid (check_ok _ hd2 i (by omega) (by omega))
  have hd3 : Dsk (w.alloc (.cells (u8s S).toArray 53)).drew p g b n F m := hd2.kept ((Chg.refl [] _).drew)
  obtain ⟨w2, hrun, hd4, hc4⟩ := put_run hd3 i hi S hS
  have hdir := hd3.dir
  have hrg : (w.alloc (.cells (u8s S).toArray 53)).drew.rangeAt w.heap.size 0 (u8s S) := (World.rangeAt_drew _ _ _ _).2 (range_box w S _)
  have hu := Tryz.underlying53
  have hinf : (Tryz.prog.info? 53).map (·.size) = some (u8s S).length := by rw [u8s_length, hS]; exact info37
  have hdir2 := hd4.dir
  have hrg2 : w2.rangeAt w.heap.size 0 (u8s S) := hc4.range hrg (by have := hd.ltb; simp; omega)
  have HD := Lib.hid hd4
  have HX := Lib.hid ((hC1.drew.mono (l' := [b]) (by simp)).trans hc4)
  clear hd hd2 hd3 hd4 hc4 hC1
  go_enter Tryz.func191, Tryz.ntmps191
  go_wp2_with (first
    | (refine wpList_box37 rfl _ rfl S rfl ?_)
    | (go_at_call 50; refine HC.out.mono ?_; rintro e w' ⟨rfl, rfl⟩)
    | fail)
  go_region_held3 (fun w' => w'.cell? ⟨p, 1, none⟩ = some (.map (some b)) ∧ w'.rangeAt w.heap.size 0 (u8s S)) (first | assumption | (exact ⟨hdir, hrg⟩) | (exact ⟨hdir2, hrg2⟩)) (fail)
  go_wp2
  go_ret
  exact ⟨rfl, HD.out, HX.out⟩

/-- what a look-up gives -/
theorem look_run {w : World} {p g b n : Nat} {F : Nat → Sec} {m : Nat → Option Sec} (hd : Dsk w p g b n F m) (i : Nat) (hi : i < n) :
    (Instr.lookup 120 (.map (some b)) (.int .i64 (i : Int)) true).run Tryz.prog w = .ok (.tuple #[sv ((m i).getD zsec), .bool (m i).isSome]) w ∧
    (Instr.lookup 120 (.map (some b)) (.int .i64 (i : Int)) false).run Tryz.prog w = .ok (sv ((m i).getD zsec)) w := by
  obtain ⟨D, ho, hm⟩ := hd.own
  have ht := hd.top
  obtain ⟨v, ps, hrun, hv⟩ := ho.look_ok intkey Tryz.underlying120 (zero37 w) (secR_sv zsec_len) (keyOf_ik i (by omega))
  obtain ⟨v2, ps2, hrun2, hv2⟩ := ho.lookup intkey Tryz.underlying120 (zero37 w) (secR_sv zsec_len) (keyOf_ik i (by omega))
  obtain ⟨S, hS, rfl, hz⟩ := secR_inv hv
  obtain ⟨S2, hS2, rfl, hz2⟩ := secR_inv hv2
  simp only [Prod.mk.injEq] at hz hz2
  rw [hrun, hrun2]
  cases hmi : m i with
  | none =>
    have h0 := hm.none_ i hmi
    rw [atKey_of_not_has h0] at hz hz2
    rw [h0, ← secD_inj hz.1, ← secD_inj hz2.1]
    simp
  | some T =>
    obtain ⟨h1, h2⟩ := hm.some_ i T hmi
    rw [h2] at hz hz2
    rw [h1, ← secD_inj hz.1, ← secD_inj hz2.1]
    simp
section
variable {w : World} {ops : Array Oper} {rest : List Oper} {o : Oper} {a : Act} {Q : Exit → Act → World → Prop}
/-- 'Sector{}' -/
theorem wpList_build37 (hgd : o.guard = none) (ho : o.op = .build 53 #[])
    (h : wpList Tryz.prog ops Q rest (a.put o.dst (sv zsec)) w) : wpList Tryz.prog ops Q (o :: rest) a w :=
  wpList_plain hgd fun _ hK => by
    have hb : ∀ w, (Instr.build 53 #[]).run Tryz.prog w = .ok (sv zsec) w := fun w => by kernel_rfl
    unfold Oper.wp execOp
    simp only [ho, Sem.run_bind]
    simp [hb]
    exact hK _ _ h
end
theorem read_nil (w : World) (i : Int) :
    Calls Tryz.prog 21 #[.pointer none, .int .i64 i] w fun e w' => e = .returned (.tuple #[sv zsec, .int .i64 1]) ∧ Chg [] w w' := by
  have hT := there_box w zsec 53 zsec_len
  go_enter Tryz.func21, Tryz.ntmps21
  go_wp2_with (first
    | (refine wpList_alloc37 rfl rfl ?_)
    | (refine wpList_build37 rfl rfl ?_)
    | (refine wpList_store37 rfl _ _ rfl w.heap.size 0 zsec rfl rfl hT zsec_len ?_)
    | (go_at_call 50; refine (check_nil _ _).mono ?_; rintro e w' ⟨rfl, rfl⟩)
    | fail)
  refine bodyPost_ret (results_cell2 (j := 4) (t := 53) (p := ⟨w.heap.size, 0, none⟩) Tryz.results21 rfl (load37 (S := zsec) (World.rangeAt_setCells_same _ _ _ _ (by rw [u8s_length, zsec_len]; exact hT)) zsec_len)) rfl ⟨rfl, ?_⟩
  exact ((Chg.refl [] w).alloc _).setCells (Or.inr (Nat.le_refl _)) _ _
theorem read_no (w : World) {p g b n : Nat} {F : Nat → Sec} {m : Nat → Option Sec} (hd : Dsk w p g b n F m) (i : Int) (h : i < 0 ∨ (n : Int) ≤ i) :
    Calls Tryz.prog 21 #[.pointer (some ⟨p, 0, none⟩), .int .i64 i] w fun e w' => e = .returned (.tuple #[sv zsec, .int .i64 41]) ∧ Chg [] w w' := by
  have hT := there_box w zsec 53 zsec_len
  have hd2 := hd.kept ((Chg.refl [] w).alloc (.cells (u8s zsec).toArray 53))
  have HC := Lib.hid (check_no _ hd2 i h)
  clear hd hd2 h
  go_enter Tryz.func21, Tryz.ntmps21
  go_wp2_with (first
    | (refine wpList_alloc37 rfl rfl ?_)
    | (refine wpList_build37 rfl rfl ?_)
    | (refine wpList_store37 rfl _ _ rfl w.heap.size 0 zsec rfl rfl hT zsec_len ?_)
    | (go_at_call 50; refine HC.out.mono ?_; rintro e w' ⟨rfl, rfl⟩)
    | fail)
  refine bodyPost_ret (results_cell2 (j := 4) (t := 53) (p := ⟨w.heap.size, 0, none⟩) Tryz.results21 rfl (load37 (S := zsec) (World.rangeAt_setCells_same _ _ _ _ (by rw [u8s_length, zsec_len]; exact hT)) zsec_len)) rfl ⟨rfl, ?_⟩
  exact ((Chg.refl [] w).alloc _).setCells (Or.inr (Nat.le_refl _)) _ _
set_option maxRecDepth 100000 in
theorem read_ok (w : World) {p g b n : Nat} {F : Nat → Sec} {m : Nat → Option Sec} (hd : Dsk w p g b n F m) (i : Nat) (hi : i < n) :
    Calls Tryz.prog 21 #[.pointer (some ⟨p, 0, none⟩), .int .i64 i] w fun e w' => e = .returned (.tuple #[sv (now F m i), .int .i64 0]) ∧ Chg [] w w' := by
  have hT := there_box w zsec 53 zsec_len
  have hd2 := hd.kept ((Chg.refl [] w).alloc (.cells (u8s zsec).toArray 53))
  have HC := Lib.hid (check_ok _ hd2 i (by omega) (by omega))
  have hdir := hd2.dir
  obtain ⟨c, hflu⟩ := hd2.flu
  have hlook := (look_run hd2 i hi).1
  have hlen := hd.lenM i
  have ht := hd.top
  have hi0 : (0 : Int) ≤ (i : Int) := by omega
  have hi1 : (i : Int) < (n : Int) := by omega
  have hS : ((m i).getD zsec).length = 64 := by
    cases hm : m i with
    | none => exact zsec_len
    | some S => exact (hlen S hm).1
  have hF := hd.lenF i
  have hltw : w.heap.size < (w.alloc (.cells (u8s zsec).toArray 53)).heap.size := by simp
  have hC1 : Chg [] w (w.alloc (.cells (u8s zsec).toArray 53)) := (Chg.refl [] w).alloc _
  obtain ⟨w1, hw⟩ : ∃ w1, w1 = w.alloc (.cells (u8s zsec).toArray 53) := ⟨_, rfl⟩
  rw [← hw] at hT hd2 HC hdir hflu hlook hltw hC1
  have hTn := there_box w1 zsec 53 zsec_len
  obtain ⟨S, HS⟩ : ∃ S, Hid ((m i).getD zsec = S) := ⟨_, Lib.hid rfl⟩
  rw [HS.out] at hS hlook
  obtain ⟨w3, hw3⟩ : ∃ w3, w3 = (w1.alloc (.cells (u8s zsec).toArray 53)).setCells w1.heap.size 0 (u8s S) := ⟨_, rfl⟩
  have hC3 : Chg [] w1 w3 := by rw [hw3]; exact ((Chg.refl [] w1).alloc _).setCells (Or.inr (Nat.le_refl _)) _ _
  have hr3 : w3.rangeAt w1.heap.size 0 (u8s S) := by rw [hw3]; exact World.rangeAt_setCells_same _ _ _ _ (by rw [u8s_length, hS]; exact hTn)
  have hT3 := hC3.there hT (by simp)
  have hd3 := hd2.kept hC3
  obtain ⟨c3, hflu3⟩ := hd3.flu
  have hrg3 := hd3.rng i hi
  have HW := Lib.hid hw.symm
  have HW3 := Lib.hid hw3.symm
  have HC3 := Lib.hid (hC1.trans hC3)
  clear hw hw3 hd hd2 hd3 hlen hC1 hC3
  cases hm : m i with
  | none =>
    rw [hm] at hlook
    simp only [Option.isSome_none] at hlook
    have HN := Lib.hid (show now F m i = F i by simp [now, hm])
    clear hm
    go_enter Tryz.func21, Tryz.ntmps21
    go_wp2_with (first
      | (refine wpList_alloc37 rfl rfl ?_; try rw [HW.out])
      | (refine wpList_store37 rfl _ _ rfl w1.heap.size 0 S rfl rfl hTn hS ?_; rw [HW3.out])
      | (refine wpList_load37 rfl _ rfl g (i * 64) rfl (F i) hrg3 hF ?_)
      | (refine wpList_store37 rfl _ _ rfl w.heap.size 0 (F i) rfl rfl hT3 hF ?_)
      | (go_at_call 50; refine HC.out.mono ?_; rintro e w' ⟨rfl, rfl⟩)
      | fail)
    rw [HN.out]
    refine bodyPost_ret (results_cell2 (j := 4) (t := 53) (p := ⟨w.heap.size, 0, none⟩) Tryz.results21 rfl (load37 (S := F i) (World.rangeAt_setCells_same _ _ _ _ (by rw [u8s_length, hF]; exact hT3)) hF)) rfl ⟨rfl, ?_⟩
    exact HC3.out.setCells (Or.inr (Nat.le_refl _)) _ _
  | some T =>
    rw [hm] at hlook
    simp only [Option.isSome_some] at hlook
    have HN := Lib.hid (show now F m i = S by rw [← HS.out, hm]; simp [now, hm])
    clear hm
    go_enter Tryz.func21, Tryz.ntmps21
    go_wp2_with (first
      | (refine wpList_alloc37 rfl rfl ?_; try rw [HW.out])
      | (refine wpList_store37 rfl _ _ rfl w1.heap.size 0 S rfl rfl hTn hS ?_; rw [HW3.out])
      | (refine wpList_load37 rfl _ rfl w1.heap.size 0 rfl S hr3 hS ?_)
      | (refine wpList_store37 rfl _ _ rfl w.heap.size 0 S rfl rfl hT3 hS ?_)
      | (go_at_call 50; refine HC.out.mono ?_; rintro e w' ⟨rfl, rfl⟩)
      | fail)
    rw [HN.out]
    refine bodyPost_ret (results_cell2 (j := 4) (t := 53) (p := ⟨w.heap.size, 0, none⟩) Tryz.results21 rfl (load37 (S := S) (World.rangeAt_setCells_same _ _ _ _ (by rw [u8s_length, hS]; exact hT3)) hS)) rfl ⟨rfl, ?_⟩
    exact HC3.out.setCells (Or.inr (Nat.le_refl _)) _ _
end Go.Proofs.YtihbinphmlgjoaaGreat
namespace Go.Proofs.YtihbinphmlgjoaaGreat
open Go.Shelf
def cloneA_ren : Go.Shelf.Ren := ⟨fun | 41 => 44 | n => n, fun | 22 => 82 | 23 => 53 | 4 => 4 | n => n, fun | n => n⟩
theorem cloneA : Go.Proofs.SlLaysE0.n41 Tryz.prog cloneA_ren := {
  mixed := by kernel_rfl
  f41 := ⟨Tryz.f44.name, by decide, Tryz.func44.trans (congrArg some (by kernel_rfl))⟩
  t4 := Tryz.underlying4
  a4 := Tryz.isAgg4
  z4 := Tryz.sizeOf4
  v4 := Tryz.zeroValue4
  t22 := Tryz.underlying82
  a22 := Tryz.isAgg82
  z22 := Tryz.sizeOf82
  v22 := Tryz.zeroValue82 }
def cloneB_ren : Go.Shelf.Ren := ⟨fun | 41 => 66 | n => n, fun | 22 => 44 | 23 => 5 | 4 => 4 | n => n, fun | n => n⟩
theorem cloneB : Go.Proofs.SlLaysE0.n41 Tryz.prog cloneB_ren := {
  mixed := by kernel_rfl
  f41 := ⟨Tryz.f66.name, by decide, Tryz.func66.trans (congrArg some (by kernel_rfl))⟩
  t4 := Tryz.underlying4
  a4 := Tryz.isAgg4
  z4 := Tryz.sizeOf4
  v4 := Tryz.zeroValue4
  t22 := Tryz.underlying44
  a22 := Tryz.isAgg44
  z22 := Tryz.sizeOf44
  v22 := Tryz.zeroValue44 }
def cloneI_ren : Go.Shelf.Ren := ⟨fun | 41 => 103 | n => n, fun | 22 => 77 | 23 => 3 | 4 => 4 | n => n, fun | n => n⟩
theorem cloneI : Go.Proofs.SlLaysE0.n41 Tryz.prog cloneI_ren := {
  mixed := by kernel_rfl
  f41 := ⟨Tryz.f103.name, by decide, Tryz.func103.trans (congrArg some (by kernel_rfl))⟩
  t4 := Tryz.underlying4
  a4 := Tryz.isAgg4
  z4 := Tryz.sizeOf4
  v4 := Tryz.zeroValue4
  t22 := Tryz.underlying77
  a22 := Tryz.isAgg77
  z22 := Tryz.sizeOf77
  v22 := Tryz.zeroValue77 }
def cloneC_ren : Go.Shelf.Ren := ⟨fun | 41 => 102 | n => n, fun | 22 => 78 | 23 => 77 | 4 => 4 | n => n, fun | n => n⟩
theorem cloneC : Go.Proofs.SlLaysE0.n41 Tryz.prog cloneC_ren := {
  mixed := by kernel_rfl
  f41 := ⟨Tryz.f102.name, by decide, Tryz.func102.trans (congrArg some (by kernel_rfl))⟩
  t4 := Tryz.underlying4
  a4 := Tryz.isAgg4
  z4 := Tryz.sizeOf4
  v4 := Tryz.zeroValue4
  t22 := Tryz.underlying78
  a22 := Tryz.isAgg78
  z22 := Tryz.sizeOf78
  v22 := Tryz.zeroValue78 }
def cloneS_ren : Go.Shelf.Ren := ⟨fun | 41 => 101 | n => n, fun | 22 => 40 | 23 => 80 | 4 => 4 | n => n, fun | n => n⟩
theorem cloneS : Go.Proofs.SlLaysE0.n41 Tryz.prog cloneS_ren := {
  mixed := by kernel_rfl
  f41 := ⟨Tryz.f101.name, by decide, Tryz.func101.trans (congrArg some (by kernel_rfl))⟩
  t4 := Tryz.underlying4
  a4 := Tryz.isAgg4
  z4 := Tryz.sizeOf4
  v4 := Tryz.zeroValue4
  t22 := Tryz.underlying40
  a22 := Tryz.isAgg40
  z22 := Tryz.sizeOf40
  v22 := Tryz.zeroValue40 }
end Go.Proofs.YtihbinphmlgjoaaGreat
namespace Go.Proofs.YtihbinphmlgjoaaGreat
open Go.Shelf
def keysA_ren : Go.Shelf.Ren := ⟨fun | 7 => 85 | 10 => 131 | n => n, fun | 23 => 120 | 26 => 3 | 3 => 53 | 28 => 166 | 0 => 0 | 27 => 165 | 33 => 209 | 4 => 4 | n => n, fun | n => n⟩
theorem keysA : Go.Proofs.SlLaysZI.n7 Tryz.prog keysA_ren := {
  mixed := by kernel_rfl
  f7 := ⟨Tryz.f85.name, by decide, Tryz.func85.trans (congrArg some (by kernel_rfl))⟩
  f10 := ⟨Tryz.f131.name, by decide, Tryz.func131.trans (congrArg some (by kernel_rfl))⟩
  t0 := Tryz.underlying0
  a0 := Tryz.isAgg0
  z0 := Tryz.sizeOf0
  v0 := Tryz.zeroValue0
  t4 := Tryz.underlying4
  a4 := Tryz.isAgg4
  z4 := Tryz.sizeOf4
  v4 := Tryz.zeroValue4
  t23 := Tryz.underlying120
  a23 := Tryz.isAgg120
  z23 := Tryz.sizeOf120
  v23 := Tryz.zeroValue120
  t26 := Tryz.underlying3
  a26 := Tryz.isAgg3
  z26 := Tryz.sizeOf3
  v26 := Tryz.zeroValue3
  t27 := Tryz.underlying165
  a27 := Tryz.isAgg165
  z27 := Tryz.sizeOf165
  v27 := Tryz.zeroValue165
  t28 := Tryz.underlying166
  a28 := Tryz.isAgg166
  z28 := Tryz.sizeOf166
  v28 := Tryz.zeroValue166
  t33 := Tryz.underlying209
  a33 := Tryz.isAgg209
  z33 := Tryz.sizeOf209
  v33 := Tryz.zeroValue209 }
def sortedA_ren : Go.Shelf.Ren := ⟨fun | 6 => 84 | 8 => 129 | 9 => 130 | 11 => 161 | 13 => 163 | 12 => 162 | 23 => 189 | 24 => 190 | 14 => 180 | 15 => 181 | 16 => 182 | 17 => 183 | 18 => 184 | 19 => 185 | 20 => 186 | 21 => 187 | 22 => 188 | 25 => 210 | 26 => 211 | 27 => 212 | 28 => 213 | 29 => 214 | 30 => 215 | 31 => 222 | n => n, fun | 26 => 3 | 28 => 166 | 24 => 77 | 0 => 0 | 3 => 3 | 37 => 222 | 48 => 140 | 50 => 37 | 4 => 4 | 40 => 250 | 39 => 249 | 45 => 191 | 5 => 5 | 9 => 9 | 51 => 271 | 55 => 274 | 57 => 280 | 58 => 281 | 33 => 209 | n => n, fun | n => n⟩
theorem sortedA : Go.Proofs.SlLaysZI.n6 Tryz.prog sortedA_ren := {
  mixed := by kernel_rfl
  f6 := ⟨Tryz.f84.name, by decide, Tryz.func84.trans (congrArg some (by kernel_rfl))⟩
  f8 := ⟨Tryz.f129.name, by decide, Tryz.func129.trans (congrArg some (by kernel_rfl))⟩
  f11 := ⟨Tryz.f161.name, by decide, Tryz.func161.trans (congrArg some (by kernel_rfl))⟩
  t0 := Tryz.underlying0
  a0 := Tryz.isAgg0
  z0 := Tryz.sizeOf0
  v0 := Tryz.zeroValue0
  t24 := Tryz.underlying77
  a24 := Tryz.isAgg77
  z24 := Tryz.sizeOf77
  v24 := Tryz.zeroValue77
  t26 := Tryz.underlying3
  a26 := Tryz.isAgg3
  z26 := Tryz.sizeOf3
  v26 := Tryz.zeroValue3
  t28 := Tryz.underlying166
  a28 := Tryz.isAgg166
  z28 := Tryz.sizeOf166
  v28 := Tryz.zeroValue166
  i26 := by kernel_rfl }
def sortA_ren : Go.Shelf.Ren := ⟨fun | 5 => 130 | 8 => 163 | 7 => 162 | 19 => 189 | 20 => 190 | 10 => 180 | 11 => 181 | 12 => 182 | 13 => 183 | 14 => 184 | 15 => 185 | 16 => 186 | 17 => 187 | 18 => 188 | 30 => 210 | 31 => 211 | 32 => 212 | 33 => 213 | 34 => 214 | 35 => 215 | 40 => 222 | n => n, fun | 23 => 77 | 25 => 3 | 3 => 3 | 32 => 222 | 22 => 77 | 0 => 0 | 44 => 140 | 46 => 37 | 4 => 4 | 36 => 250 | 35 => 249 | 41 => 191 | 5 => 5 | 9 => 9 | 53 => 271 | 57 => 274 | 63 => 280 | 64 => 281 | n => n, fun | n => n⟩
theorem sortA : Go.Proofs.SlLaysM.n5 Tryz.prog sortA_ren := {
  mixed := by kernel_rfl
  f5 := ⟨Tryz.f130.name, by decide, Tryz.func130.trans (congrArg some (by kernel_rfl))⟩
  f7 := ⟨Tryz.f162.name, by decide, Tryz.func162.trans (congrArg some (by kernel_rfl))⟩
  f8 := Tryz.func163.trans (congrArg some (by kernel_rfl))
  f10 := ⟨Tryz.f180.name, by decide, Tryz.func180.trans (congrArg some (by kernel_rfl))⟩
  f11 := ⟨Tryz.f181.name, by decide, Tryz.func181.trans (congrArg some (by kernel_rfl))⟩
  f12 := ⟨Tryz.f182.name, by decide, Tryz.func182.trans (congrArg some (by kernel_rfl))⟩
  f13 := ⟨Tryz.f183.name, by decide, Tryz.func183.trans (congrArg some (by kernel_rfl))⟩
  f14 := ⟨Tryz.f184.name, by decide, Tryz.func184.trans (congrArg some (by kernel_rfl))⟩
  f15 := ⟨Tryz.f185.name, by decide, Tryz.func185.trans (congrArg some (by kernel_rfl))⟩
  f16 := ⟨Tryz.f186.name, by decide, Tryz.func186.trans (congrArg some (by kernel_rfl))⟩
  f17 := ⟨Tryz.f187.name, by decide, Tryz.func187.trans (congrArg some (by kernel_rfl))⟩
  f18 := ⟨Tryz.f188.name, by decide, Tryz.func188.trans (congrArg some (by kernel_rfl))⟩
  f19 := Tryz.func189.trans (congrArg some (by kernel_rfl))
  f20 := Tryz.func190.trans (congrArg some (by kernel_rfl))
  f30 := ⟨Tryz.f210.name, by decide, Tryz.func210.trans (congrArg some (by kernel_rfl))⟩
  f31 := Tryz.func211.trans (congrArg some (by kernel_rfl))
  f32 := Tryz.func212.trans (congrArg some (by kernel_rfl))
  f33 := ⟨Tryz.f213.name, by decide, Tryz.func213.trans (congrArg some (by kernel_rfl))⟩
  f34 := ⟨Tryz.f214.name, by decide, Tryz.func214.trans (congrArg some (by kernel_rfl))⟩
  f35 := ⟨Tryz.f215.name, by decide, Tryz.func215.trans (congrArg some (by kernel_rfl))⟩
  f40 := ⟨Tryz.f222.name, by decide, Tryz.func222.trans (congrArg some (by kernel_rfl))⟩
  t0 := Tryz.underlying0
  a0 := Tryz.isAgg0
  z0 := Tryz.sizeOf0
  v0 := Tryz.zeroValue0
  t3 := Tryz.underlying3
  a3 := Tryz.isAgg3
  z3 := Tryz.sizeOf3
  v3 := Tryz.zeroValue3
  t4 := Tryz.underlying4
  a4 := Tryz.isAgg4
  z4 := Tryz.sizeOf4
  v4 := Tryz.zeroValue4
  t5 := Tryz.underlying5
  a5 := Tryz.isAgg5
  z5 := Tryz.sizeOf5
  v5 := Tryz.zeroValue5
  t9 := Tryz.underlying9
  a9 := Tryz.isAgg9
  z9 := Tryz.sizeOf9
  v9 := Tryz.zeroValue9
  t22 := Tryz.underlying77
  a22 := Tryz.isAgg77
  z22 := Tryz.sizeOf77
  v22 := Tryz.zeroValue77
  t23 := Tryz.underlying77
  a23 := Tryz.isAgg77
  z23 := Tryz.sizeOf77
  v23 := Tryz.zeroValue77
  t25 := Tryz.underlying3
  a25 := Tryz.isAgg3
  z25 := Tryz.sizeOf3
  v25 := Tryz.zeroValue3
  t32 := Tryz.underlying222
  a32 := Tryz.isAgg222
  z32 := Tryz.sizeOf222
  v32 := Tryz.zeroValue222
  t35 := Tryz.underlying249
  a35 := Tryz.isAgg249
  z35 := Tryz.sizeOf249
  v35 := Tryz.zeroValue249
  t36 := Tryz.underlying250
  a36 := Tryz.isAgg250
  z36 := Tryz.sizeOf250
  v36 := Tryz.zeroValue250
  t41 := Tryz.underlying191
  a41 := Tryz.isAgg191
  z41 := Tryz.sizeOf191
  v41 := Tryz.zeroValue191
  t44 := Tryz.underlying140
  a44 := Tryz.isAgg140
  z44 := Tryz.sizeOf140
  v44 := Tryz.zeroValue140
  t46 := Tryz.underlying37
  a46 := Tryz.isAgg37
  z46 := Tryz.sizeOf37
  v46 := Tryz.zeroValue37
  t53 := Tryz.underlying271
  a53 := Tryz.isAgg271
  z53 := Tryz.sizeOf271
  v53 := Tryz.zeroValue271
  t57 := Tryz.underlying274
  a57 := Tryz.isAgg274
  z57 := Tryz.sizeOf274
  v57 := Tryz.zeroValue274
  t63 := Tryz.underlying280
  a63 := Tryz.isAgg280
  z63 := Tryz.sizeOf280
  v63 := Tryz.zeroValue280
  t64 := Tryz.underlying281
  a64 := Tryz.isAgg281
  z64 := Tryz.sizeOf281
  v64 := Tryz.zeroValue281 }
def cloneM_ren : Go.Shelf.Ren := ⟨fun | 5 => 97 | 7 => 140 | n => n, fun | 23 => 86 | 25 => 37 | 3 => 62 | 4 => 4 | 20 => 20 | n => n, fun | n => n⟩
theorem cloneM : Go.Proofs.SlLaysW.n5 Tryz.prog cloneM_ren := {
  mixed := by kernel_rfl
  f5 := ⟨Tryz.f97.name, by decide, Tryz.func97.trans (congrArg some (by kernel_rfl))⟩
  f7 := Tryz.func140.trans (congrArg some (by kernel_rfl))
  t4 := Tryz.underlying4
  a4 := Tryz.isAgg4
  z4 := Tryz.sizeOf4
  v4 := Tryz.zeroValue4
  t20 := Tryz.underlying20
  a20 := Tryz.isAgg20
  z20 := Tryz.sizeOf20
  v20 := Tryz.zeroValue20
  t23 := Tryz.underlying86
  a23 := Tryz.isAgg86
  z23 := Tryz.sizeOf86
  v23 := Tryz.zeroValue86 }
def xorA_ren : Go.Shelf.Ren := ⟨fun | 48 => 212 | n => n, fun | 76 => 280 | 55 => 37 | 0 => 0 | 66 => 271 | 39 => 222 | n => n, fun | n => n⟩
theorem xorA : Go.Proofs.SlLaysF0.n48 Tryz.prog xorA_ren := {
  mixed := by kernel_rfl
  f48 := Tryz.func212.trans (congrArg some (by kernel_rfl))
  t0 := Tryz.underlying0
  a0 := Tryz.isAgg0
  z0 := Tryz.sizeOf0
  v0 := Tryz.zeroValue0
  t39 := Tryz.underlying222
  a39 := Tryz.isAgg222
  z39 := Tryz.sizeOf222
  v39 := Tryz.zeroValue222
  t55 := Tryz.underlying37
  a55 := Tryz.isAgg37
  z55 := Tryz.sizeOf37
  v55 := Tryz.zeroValue37
  t66 := Tryz.underlying271
  a66 := Tryz.isAgg271
  z66 := Tryz.sizeOf271
  v66 := Tryz.zeroValue271
  t76 := Tryz.underlying280
  a76 := Tryz.isAgg280
  z76 := Tryz.sizeOf280
  v76 := Tryz.zeroValue280 }
def nextA_ren : Go.Shelf.Ren := ⟨fun | 47 => 211 | 15 => 163 | 28 => 189 | 29 => 190 | n => n, fun | 3 => 3 | 39 => 222 | 53 => 140 | 55 => 37 | 4 => 4 | 5 => 5 | 9 => 9 | n => n, fun | n => n⟩
theorem nextA : Go.Proofs.SlLaysF0.n47 Tryz.prog nextA_ren := {
  mixed := by kernel_rfl
  f15 := Tryz.func163.trans (congrArg some (by kernel_rfl))
  f28 := Tryz.func189.trans (congrArg some (by kernel_rfl))
  f29 := Tryz.func190.trans (congrArg some (by kernel_rfl))
  f47 := Tryz.func211.trans (congrArg some (by kernel_rfl))
  t3 := Tryz.underlying3
  a3 := Tryz.isAgg3
  z3 := Tryz.sizeOf3
  v3 := Tryz.zeroValue3
  t4 := Tryz.underlying4
  a4 := Tryz.isAgg4
  z4 := Tryz.sizeOf4
  v4 := Tryz.zeroValue4
  t5 := Tryz.underlying5
  a5 := Tryz.isAgg5
  z5 := Tryz.sizeOf5
  v5 := Tryz.zeroValue5
  t9 := Tryz.underlying9
  a9 := Tryz.isAgg9
  z9 := Tryz.sizeOf9
  v9 := Tryz.zeroValue9
  t39 := Tryz.underlying222
  a39 := Tryz.isAgg222
  z39 := Tryz.sizeOf222
  v39 := Tryz.zeroValue222
  t53 := Tryz.underlying140
  a53 := Tryz.isAgg140
  z53 := Tryz.sizeOf140
  v53 := Tryz.zeroValue140
  t55 := Tryz.underlying37
  a55 := Tryz.isAgg37
  z55 := Tryz.sizeOf37
  v55 := Tryz.zeroValue37 }
end Go.Proofs.YtihbinphmlgjoaaGreat
namespace Go.Proofs.YtihbinphmlgjoaaGreat
open Go.RowKit Go.Maps Go.Sort Go.Shelf
set_option linter.unusedVariables false
set_option linter.unusedSimpArgs false

theorem sortsA (m : Nat) : AnyZI.SortsIn Tryz.prog sortedA_ren Fence.wide m :=
  ⟨fun blk off cap ss W hH hblk hsz => callsIn_wide.2 (AnyM.slices_Sort_int sortA blk off cap ss W hH hblk hsz),
   fun p cap W => callsIn_wide.2 (AnyM.slices_Sort_int_none sortA p cap W)⟩
theorem dirty_nil (w : World) :
    Calls Tryz.prog 45 #[.pointer none] w fun e w' => e = .returned (.slice none 0 0) ∧ w = w' := by
  go_enter Tryz.func45, Tryz.ntmps45
  go_wp2
  go_ret
  exact ⟨rfl, rfl⟩
theorem encZ_i64s (l : List Int) : l.map encZ = i64s l := rfl
set_option maxHeartbeats 1000000 in
theorem dirty_ok (w : World) {p g b n : Nat} {F : Nat → Sec} {m : Nat → Option Sec} (hd : Dsk w p g b n F m) :
    Calls Tryz.prog 45 #[.pointer (some ⟨p, 0, none⟩)] w fun e w' => ∃ v : Value, e = .returned v ∧ w'.ownsRow w.heap.size 3 1 v (dirtyL n m).length (i64s (dirtyZ n m)) ∧ Below w.heap.size w w' := by
  obtain ⟨D, hown, hm⟩ := hd.own
  have hp := keys_perm (n := n) hm (fun i S h => (hd.lenM i S h).2) (hown.entries intkey)
  have ht := hd.top
  have hsize : size D ≤ n := hown.size_le
  have hdir := hd.dir
  have HP := Lib.hid hp
  have hmax : size D ≤ maxLen := by unfold maxLen; omega
  have hbytes : size D * 8 ≤ 140737488355328 := by omega
  refine (callsIn_wide (n := 6)).1 ?_
  have hbl := hown.lt
  have hseq : SeqGives Fence.wide 2 Tryz.prog 131 #[.pointer (some ⟨w.heap.size, 0, none⟩)] encZ (fun ss => ss.Perm (intKeys D)) (size D) (w.alloc (.cells #[.map (some b)] 120)) :=
    AnyZI.keys_gives (ρ := keysA_ren) { keysA with } Fence.wide _ trivial rfl (by omega) w.heap.size b n D _ (by simp) (by simp) (by
      obtain ⟨es, clock, hb, Ft, hs, hD⟩ := hown
      exact ⟨es, clock, (Below.heap_alloc _ _ b hbl).trans hb, Ft, hs, hD⟩)
  have cK : ∀ mb W, CallsIn Fence.wide 5 Tryz.prog 85 #[.map mb] W fun e w' => e = .returned (.func (.func 131) #[] #[.pointer (some ⟨W.heap.size, 0, none⟩)]) ∧ w' = W.alloc (.cells #[.map mb] 120) := fun mb W => AnyZI.keys_in keysA Fence.wide 5 trivial rfl mb W
  have cS := AnyZI.sorted_in sortedA Fence.wide 5 trivial trivial trivial trivial rfl (by omega) (sortsA _) (enters_of Tryz.func130 (by kernel_rfl) rfl) 131 #[.pointer (some ⟨w.heap.size, 0, none⟩)] trivial (enters_of Tryz.func131 (by kernel_rfl) rfl) _ _ hmax hbytes _ hseq
  change CallsIn _ _ Tryz.prog 84 _ _ _ at cS
  have hfK : Fence.wide.fn 85 := trivial
  have hfS : Fence.wide.fn 84 := trivial
  clear hp hm hd hsize hown
  refine callsIn_of_wp Tryz.func45 rfl trivial ?_ rfl
  simp only [Tryz.ntmps45, List.size_toArray, List.length_cons, List.length_nil, Nat.reduceAdd, Nat.reduceSub, Array.replicate_succ, Array.replicate_zero, List.push_toArray, List.append_toArray, List.nil_append, List.cons_append]
  gi_wp2_with (first
    | (gi_at_call 85; refine (cK _ _).mono ?_; rintro e w' ⟨rfl, rfl⟩)
    | (gi_at_call 84; refine cS.mono ?_; rintro e w' ⟨v, ss, rfl, hS, hrow, hnil, hb⟩))
  go_ret
  have e1 := keys_sorted HP.out hS
  have e2 : ss.length = (dirtyL n m).length := by have := (hS.trans HP.out.symm).length_eq; simpa [dirtyZ] using this
  rw [e1, encZ_i64s, e2] at hrow
  exact ⟨v, rfl, ownsRow_base_a hrow (by simp), ((Below.refl _ w).alloc (Nat.le_refl _) _).trans (hb.mono (by simp))⟩
end Go.Proofs.YtihbinphmlgjoaaGreat
namespace Go.Proofs.YtihbinphmlgjoaaGreat
open Go.RowKit Go.Maps Go.Shelf
set_option linter.unusedVariables false
set_option linter.unusedSimpArgs false

def bls (l : List Bool) : List Value := l.map Value.bool
@[simp] theorem bls_length (l : List Bool) : (bls l).length = l.length := by simp [bls]
theorem Ro.bl {w : World} {B : Nat} {a : Option Addr} {l : List Bool} (h : Ro w B a (bls l)) (hn : 0 < l.length) :
    ∃ b off, a = some ⟨b, off, none⟩ ∧ b < B ∧ ∀ i, i < l.length → w.cell? ⟨b, off + i, none⟩ = some (.bool (l.getD i false)) := by
  obtain ⟨b, off, h1, h2, h3⟩ := h.at_ (by intro e; have e2 := congrArg List.length e; simp only [bls_length, List.length_nil] at e2; omega)
  refine ⟨b, off, h1, h2, fun i hi => ?_⟩
  rw [h3 i (by simpa using hi)]
  simp [bls, List.getD, hi]
/-- n sectors, one behind the other -/
def rows (F : Nat → Sec) : Nat → List Value
  | 0 => []
  | n + 1 => rows F n ++ u8s (F n)
theorem rows_len {F : Nat → Sec} (hF : ∀ i, (F i).length = 64) : ∀ n, (rows F n).length = n * 64
  | 0 => by simp [rows]
  | n + 1 => by simp [rows, rows_len hF n, hF n]; omega
theorem rows_get {F : Nat → Sec} (hF : ∀ i, (F i).length = 64) : ∀ n i j, i < n → j < 64 → (rows F n)[i * 64 + j]? = (u8s (F i))[j]?
  | 0, i, j, hi, _ => by omega
  | n + 1, i, j, hi, hj => by
    rw [rows]
    rcases Nat.lt_or_ge i n with h | h
    · rw [List.getElem?_append_left (by rw [rows_len hF]; omega)]
      exact rows_get hF n i j h hj
    · obtain rfl : i = n := by omega
      rw [List.getElem?_append_right (by rw [rows_len hF]; omega), rows_len hF]
      congr 1
      omega
theorem rows_one {F : Nat → Sec} : ∀ n, ∀ v ∈ rows F n, v.oneCell' = true
  | 0, v, h => by simp [rows] at h
  | n + 1, v, h => by
    rw [rows, List.mem_append] at h
    rcases h with h | h
    · exact rows_one n v h
    · exact u8s_one _ v h
theorem rows_cells {w : World} {g n : Nat} {F : Nat → Sec} (hF : ∀ i, (F i).length = 64) (h : ∀ i, i < n → w.rangeAt g (i * 64) (u8s (F i))) : ∀ j u, (rows F n)[j]? = some u → w.cell? ⟨g, 0 + j, none⟩ = some u := fun j u hu => by
  have hj : j < n * 64 := by have := (List.getElem?_eq_some_iff.1 hu).1; rwa [rows_len hF] at this
  have e : j = j / 64 * 64 + j % 64 := by omega
  have hr := rows_get hF n (j / 64) (j % 64) (by omega) (by omega)
  rw [← e, hu] at hr
  have := h (j / 64) (by omega) (j % 64) u hr.symm
  rw [Nat.zero_add]
  rwa [← e] at this
/-- a row that a call has made holds n sectors -/
theorem open_rows {w : World} {base n : Nat} {t : TypeId} {v : Value} {F : Nat → Sec} (hF : ∀ i, (F i).length = 64) (h : w.ownsRow base t 64 v n (rows F n)) (hn : v ≠ .slice none 0 0) :
    ∃ g c, v = .slice (some ⟨g, 0, none⟩) n c ∧ base ≤ g ∧ g < w.heap.size ∧ (∀ i, i < n → w.rangeAt g (i * 64) (u8s (F i))) ∧ w.there g 0 (n * 64) := by
  obtain ⟨_, h⟩ := h
  rcases h with ⟨rfl, _⟩ | ⟨g, cap, cur, rfl, h1, h2, h3, h4, h5, h6⟩
  · exact absurd rfl hn
  · have hcell : ∀ j, w.cell? ⟨g, j, none⟩ = cur[j]? := fun j => cell_of_row w g j cur t (0, 0) h2
    have hle : n * 64 ≤ cur.size := by rw [h5]; exact Nat.mul_le_mul_right 64 h3
    have hlt : g < w.heap.size := (Array.getElem?_eq_some_iff.1 h2).1
    refine ⟨g, cap, rfl, h1, hlt, fun i hi j u hu => ?_, fun j hj => ⟨?_, ?_⟩⟩
    · have hj : j < 64 := by have := (List.getElem?_eq_some_iff.1 hu).1; rw [u8s_length, hF] at this; exact this
      rw [hcell, ← hu, ← rows_get hF n i j hi hj, ← h6, List.getElem?_take, if_pos (by omega)]
      simp
    · rw [hcell, Nat.zero_add, Array.getElem?_eq_getElem (by omega)]; rfl
    · simp [World.frozen?, h2]
/-- a slice of ints that a call has made -/
theorem open_row1 {w : World} {base k : Nat} {t : TypeId} {v : Value} {xs : List Value} (h : w.ownsRow base t 1 v k xs) :
    ∃ a c, v = .slice a k c ∧ (0 < k → ∃ g, a = some ⟨g, 0, none⟩ ∧ base ≤ g ∧ g < w.heap.size ∧ ∀ j, j < k → w.cell? ⟨g, j, none⟩ = xs[j]?) := by
  obtain ⟨hl, h⟩ := h
  rcases h with ⟨rfl, rfl⟩ | ⟨g, cap, cur, rfl, h1, h2, h3, h4, h5, h6⟩
  · exact ⟨none, 0, rfl, fun h => by omega⟩
  · refine ⟨some ⟨g, 0, none⟩, cap, rfl, fun _ => ⟨g, rfl, h1, (Array.getElem?_eq_some_iff.1 h2).1, fun j hj => ?_⟩⟩
    rw [cell_of_row w g j cur t (0, 0) h2, ← h6, List.getElem?_take, if_pos (by omega)]
    simp

theorem nodup_inj {l : List Nat} (h : l.Nodup) {i j : Nat} (hi : i < l.length) (hj : j < l.length) (e : l[i] = l[j]) : i = j := by
  have hp := List.pairwise_iff_getElem.1 h
  rcases Nat.lt_trichotomy i j with h1 | h1 | h1
  · exact absurd e (hp i j hi hj h1)
  · exact h1
  · exact absurd e.symm (hp j i hj hi h1)
theorem dirtyL_split {n i : Nat} {m : Nat → Option Sec} (hi : i < n) (hm : (m i).isSome = true) : ∃ r, dirtyL n m = dirtyL i m ++ i :: r := by
  obtain ⟨k, rfl⟩ : ∃ k, n = i + (1 + k) := ⟨n - i - 1, by omega⟩
  refine ⟨((List.range k).map (fun j => i + (1 + j))).filter fun i => (m i).isSome, ?_⟩
  unfold dirtyL
  rw [List.range_add, List.filter_append, List.range_add]
  congr 1
  simp [hm]
  rfl
theorem dirtyL_rank {n k : Nat} {m : Nat → Option Sec} (hk : k < (dirtyL n m).length) : (dirtyL ((dirtyL n m)[k]) m).length = k := by
  obtain ⟨i, hi⟩ : ∃ i, i = (dirtyL n m)[k] := ⟨_, rfl⟩
  have hmem := mem_dirtyL.1 (List.getElem_mem hk)
  rw [← hi] at hmem ⊢
  obtain ⟨r, hr⟩ := dirtyL_split hmem.1 hmem.2
  have hlt : (dirtyL i m).length < (dirtyL n m).length := by rw [hr]; simp
  have hget : (dirtyL n m)[(dirtyL i m).length]? = some i := by rw [hr]; simp
  rw [List.getElem?_eq_getElem hlt] at hget
  exact nodup_inj (dirtyL_nodup n m) hlt hk ((Option.some.inj hget).trans hi)
/-- what a crash leaves -/
def crashF (F : Nat → Sec) (m : Nat → Option Sec) (ks : List Bool) (i : Nat) : Sec := if ks.getD (dirtyL i m).length false = true then now F m i else F i
/-- .. behind the first k dirty sectors -/
def crashK (n : Nat) (F : Nat → Sec) (m : Nat → Option Sec) (ks : List Bool) (k : Nat) (i : Nat) : Sec := if i ∈ (dirtyL n m).take k then crashF F m ks i else F i
theorem crashK_zero (n : Nat) (F : Nat → Sec) (m : Nat → Option Sec) (ks : List Bool) (i : Nat) : crashK n F m ks 0 i = F i := by simp [crashK]
theorem crashK_end (n : Nat) (F : Nat → Sec) (m : Nat → Option Sec) (ks : List Bool) (i : Nat) (hi : i < n) : crashK n F m ks (dirtyL n m).length i = crashF F m ks i := by
  unfold crashK
  rw [List.take_length]
  split
  · rfl
  · rename_i h
    have : (m i) = none := by
      cases hm : m i with
      | none => rfl
      | some S => exact absurd (mem_dirtyL.2 ⟨hi, by rw [hm]; rfl⟩) h
    simp [crashF, now, this]
theorem crashK_succ {n k : Nat} (F : Nat → Sec) (m : Nat → Option Sec) (ks : List Bool) (hk : k < (dirtyL n m).length) (i : Nat) :
    crashK n F m ks (k + 1) i = if i = (dirtyL n m)[k] then (if ks.getD k false = true then now F m i else F i) else crashK n F m ks k i := by
  have hiff : i ∈ (dirtyL n m).take (k + 1) ↔ i ∈ (dirtyL n m).take k ∨ i = (dirtyL n m)[k] := by
    rw [List.take_succ_eq_append_getElem hk, List.mem_append]
    simp
  unfold crashK
  by_cases e : i = (dirtyL n m)[k]
  · rw [if_pos (hiff.2 (.inr e)), if_pos e]
    unfold crashF
    rw [e, dirtyL_rank hk]
  · rw [if_neg e]
    by_cases h : i ∈ (dirtyL n m).take k
    · rw [if_pos (hiff.2 (.inl h)), if_pos h]
    · rw [if_neg (fun h2 => by rcases hiff.1 h2 with h3 | h3; exact h h3; exact e h3), if_neg h]
theorem crashK_at {n k : Nat} (F : Nat → Sec) (m : Nat → Option Sec) (ks : List Bool) (hk : k < (dirtyL n m).length) : crashK n F m ks k ((dirtyL n m)[k]) = F ((dirtyL n m)[k]) := by
  unfold crashK
  rw [if_neg]
  intro h
  obtain ⟨j, hj, e⟩ := List.getElem_of_mem h
  rw [List.length_take] at hj
  rw [List.getElem_take] at e
  have := nodup_inj (dirtyL_nodup n m) (by omega) hk e
  omega
theorem crash_nil (w : World) (a : Option Addr) (n c : Nat) :
    Calls Tryz.prog 15 #[.pointer none, .slice a n c] w fun e w' => e = .returned (.pointer none) ∧ w = w' := by
  go_enter Tryz.func15, Tryz.ntmps15
  go_wp2
  go_ret
  exact ⟨rfl, rfl⟩
/-- slices.Clone of the row -/
theorem clone_rows (w : World) (g n c : Nat) (F : Nat → Sec) (hF : ∀ i, (F i).length = 64) (hn : n ≤ 1024) (hr : ∀ i, i < n → w.rangeAt g (i * 64) (u8s (F i))) :
    Calls Tryz.prog 44 #[.slice (some ⟨g, 0, none⟩) n c] w fun e w' => ∃ g' c', e = .returned (.slice (some ⟨g', 0, none⟩) n c') ∧ w.heap.size ≤ g' ∧ g' < w'.heap.size ∧ (∀ i, i < n → w'.rangeAt g' (i * 64) (u8s (F i))) ∧ w'.there g' 0 (n * 64) ∧ Below w.heap.size w w' := by
  obtain ⟨i, hi, hz⟩ := Option.map_eq_some_iff.1 (show (Tryz.prog.info? 53).map (fun i => (i.zero, i.size, i.bytes)) = some (some (sv zsec), 64, 64) by kernel_rfl)
  simp only [Prod.mk.injEq] at hz
  have h := AnyE.slices_Clone cloneA i (sv zsec) 64 64 hi hz.1 hz.2.1 hz.2.2 (by simp [sv, Value.cells, zsec]) (by omega) (fun w => Tryz.sizeOf53 w) g 0 n c (rows F n) w (rows_len hF n) (by unfold maxLen; omega) (by omega) (rows_cells hF hr) (rows_one n)
  refine Calls.mono h fun e w' ⟨v', he, hown, hnil, hb⟩ => ?_
  obtain ⟨g', c', rfl, h1, h2, h3, h4⟩ := open_rows hF hown hnil
  exact ⟨g', c', he, h1, h2, h3, h4, hb⟩
end Go.Proofs.YtihbinphmlgjoaaGreat
