/-
  Contract of package disk's Dirty: the map's keys, sorted, by the library's contracts. No claim of its own.
-/
import Derived.Test.YtmpajlpemabniaaGreatJ3
import Derived.Test.YtmpajlpemabniaaGreatShelf
import Derived.Shelf.AbstractIn
import Derived.Test.YtmpajlpemabniaaGreatJ2
import Derived.Deep.Grids
import Derived.Deep.Fields
import Derived.Lib.SmallJoins
namespace Go.Proofs.YtmpajlpemabniaaGreat
open Go.RowKit Go.Maps Go.Sort Go.Shelf
set_option linter.unusedVariables false
set_option linter.unusedSimpArgs false

theorem sortsA (m : Nat) : AnyZI.SortsIn Tryz.prog sortedA_ren Fence.wide m :=
  ⟨fun blk off cap ss W hH hblk hsz => callsIn_wide.2 (AnyM.slices_Sort_int sortA blk off cap ss W hH hblk hsz),
   fun p cap W => callsIn_wide.2 (AnyM.slices_Sort_int_none sortA p cap W)⟩
theorem dirty_nil (w : World) :
    Calls Tryz.prog 57 #[.pointer none] w fun e w' => e = .returned (.slice none 0 0) ∧ w = w' := by
  go_enter Tryz.func57, Tryz.ntmps57
  go_wp2
  go_ret
  exact ⟨rfl, rfl⟩
theorem encZ_i64s (l : List Int) : l.map encZ = i64s l := rfl
set_option maxHeartbeats 1000000 in
theorem dirty_ok (w : World) {p g b n : Nat} {F : Nat → Sec} {m : Nat → Option Sec} (hd : Dsk w p g b n F m) :
    Calls Tryz.prog 57 #[.pointer (some ⟨p, 0, none⟩)] w fun e w' => ∃ v : Value, e = .returned v ∧ w'.ownsRow w.heap.size 3 1 v (dirtyL n m).length (i64s (dirtyZ n m)) ∧ Below w.heap.size w w' := by
  obtain ⟨D, hown, hm⟩ := hd.own
  have hp := keys_perm (n := n) hm (fun i S h => (hd.lenM i S h).2) (hown.entries intkey)
  have ht := hd.top
  have hsize : size D ≤ n := hown.size_le
  have hdir := hd.dir
  have HP := Lib.hid hp
  have hmax : size D ≤ maxLen := by unfold maxLen; omega
  have hbytes : size D * 8 ≤ 140737488355328 := by omega
  refine (callsIn_wide (n := 6)).1 ?_
  have hbl := hown.lt
  have hseq : SeqGives Fence.wide 2 Tryz.prog 167 #[.pointer (some ⟨w.heap.size, 0, none⟩)] encZ (fun ss => ss.Perm (intKeys D)) (size D) (w.alloc (.cells #[.map (some b)] 119)) :=
    AnyZI.keys_gives (ρ := keysA_ren) { keysA with } Fence.wide _ trivial rfl (by omega) w.heap.size b n D _ (by simp) (by simp) (by
      obtain ⟨es, clock, hb, Ft, hs, hD⟩ := hown
      exact ⟨es, clock, (Below.heap_alloc _ _ b hbl).trans hb, Ft, hs, hD⟩)
  have cK : ∀ mb W, CallsIn Fence.wide 5 Tryz.prog 109 #[.map mb] W fun e w' => e = .returned (.func (.func 167) #[] #[.pointer (some ⟨W.heap.size, 0, none⟩)]) ∧ w' = W.alloc (.cells #[.map mb] 119) := fun mb W => AnyZI.keys_in keysA Fence.wide 5 trivial rfl mb W
  have cS := AnyZI.sorted_in sortedA Fence.wide 5 trivial trivial trivial trivial rfl (by omega) (sortsA _) (enters_of Tryz.func166 (by kernel_rfl) rfl) 167 #[.pointer (some ⟨w.heap.size, 0, none⟩)] trivial (enters_of Tryz.func167 (by kernel_rfl) rfl) _ _ hmax hbytes _ hseq
  change CallsIn _ _ Tryz.prog 108 _ _ _ at cS
  have hfK : Fence.wide.fn 109 := trivial
  have hfS : Fence.wide.fn 108 := trivial
  clear hp hm hd hsize hown
  refine callsIn_of_wp Tryz.func57 rfl trivial ?_ rfl
  simp only [Tryz.ntmps57, List.size_toArray, List.length_cons, List.length_nil, Nat.reduceAdd, Nat.reduceSub, Array.replicate_succ, Array.replicate_zero, List.push_toArray, List.append_toArray, List.nil_append, List.cons_append]
  gi_wp2_with (first
    | (gi_at_call 109; refine (cK _ _).mono ?_; rintro e w' ⟨rfl, rfl⟩)
    | (gi_at_call 108; refine cS.mono ?_; rintro e w' ⟨v, ss, rfl, hS, hrow, hnil, hb⟩))
  go_ret
  have e1 := keys_sorted HP.out hS
  have e2 : ss.length = (dirtyL n m).length := by have := (hS.trans HP.out.symm).length_eq; simpa [dirtyZ] using this
  rw [e1, encZ_i64s, e2] at hrow
  exact ⟨v, rfl, ownsRow_base_a hrow (by simp), ((Below.refl _ w).alloc (Nat.le_refl _) _).trans (hb.mono (by simp))⟩
end Go.Proofs.YtmpajlpemabniaaGreat
namespace Go.Proofs.YtmpajlpemabniaaGreat
open Go.RowKit Go.Maps Go.Shelf
set_option linter.unusedVariables false
set_option linter.unusedSimpArgs false

def bls (l : List Bool) : List Value := l.map Value.bool
@[simp] theorem bls_length (l : List Bool) : (bls l).length = l.length := by simp [bls]
theorem Ro.bl {w : World} {B : Nat} {a : Option Addr} {l : List Bool} (h : Ro w B a (bls l)) (hn : 0 < l.length) :
    ∃ b off, a = some ⟨b, off, none⟩ ∧ b < B ∧ ∀ i, i < l.length → w.cell? ⟨b, off + i, none⟩ = some (.bool (l.getD i false)) := by
  obtain ⟨b, off, h1, h2, h3⟩ := h.at_ (by intro e; have e2 := congrArg List.length e; simp only [bls_length, List.length_nil] at e2; omega)
  refine ⟨b, off, h1, h2, fun i hi => ?_⟩
  rw [h3 i (by simpa using hi)]
  simp [bls, List.getD, hi]
/-- n sectors, one behind the other -/
def rows (F : Nat → Sec) : Nat → List Value
  | 0 => []
  | n + 1 => rows F n ++ u8s (F n)
theorem rows_len {F : Nat → Sec} (hF : ∀ i, (F i).length = 64) : ∀ n, (rows F n).length = n * 64
  | 0 => by simp [rows]
  | n + 1 => by simp [rows, rows_len hF n, hF n]; omega
theorem rows_get {F : Nat → Sec} (hF : ∀ i, (F i).length = 64) : ∀ n i j, i < n → j < 64 → (rows F n)[i * 64 + j]? = (u8s (F i))[j]?
  | 0, i, j, hi, _ => by omega
  | n + 1, i, j, hi, hj => by
    rw [rows]
    rcases Nat.lt_or_ge i n with h | h
    · rw [List.getElem?_append_left (by rw [rows_len hF]; omega)]
      exact rows_get hF n i j h hj
    · obtain rfl : i = n := by omega
      rw [List.getElem?_append_right (by rw [rows_len hF]; omega), rows_len hF]
      congr 1
      omega
theorem rows_one {F : Nat → Sec} : ∀ n, ∀ v ∈ rows F n, v.oneCell' = true
  | 0, v, h => by simp [rows] at h
  | n + 1, v, h => by
    rw [rows, List.mem_append] at h
    rcases h with h | h
    · exact rows_one n v h
    · exact u8s_one _ v h
theorem rows_cells {w : World} {g n : Nat} {F : Nat → Sec} (hF : ∀ i, (F i).length = 64) (h : ∀ i, i < n → w.rangeAt g (i * 64) (u8s (F i))) : ∀ j u, (rows F n)[j]? = some u → w.cell? ⟨g, 0 + j, none⟩ = some u := fun j u hu => by
  have hj : j < n * 64 := by have := (List.getElem?_eq_some_iff.1 hu).1; rwa [rows_len hF] at this
  have e : j = j / 64 * 64 + j % 64 := by omega
  have hr := rows_get hF n (j / 64) (j % 64) (by omega) (by omega)
  rw [← e, hu] at hr
  have := h (j / 64) (by omega) (j % 64) u hr.symm
  rw [Nat.zero_add]
  rwa [← e] at this
/-- a row that a call has made holds n sectors -/
theorem open_rows {w : World} {base n : Nat} {t : TypeId} {v : Value} {F : Nat → Sec} (hF : ∀ i, (F i).length = 64) (h : w.ownsRow base t 64 v n (rows F n)) (hn : v ≠ .slice none 0 0) :
    ∃ g c, v = .slice (some ⟨g, 0, none⟩) n c ∧ base ≤ g ∧ g < w.heap.size ∧ (∀ i, i < n → w.rangeAt g (i * 64) (u8s (F i))) ∧ w.there g 0 (n * 64) := by
  obtain ⟨_, h⟩ := h
  rcases h with ⟨rfl, _⟩ | ⟨g, cap, cur, rfl, h1, h2, h3, h4, h5, h6⟩
  · exact absurd rfl hn
  · have hcell : ∀ j, w.cell? ⟨g, j, none⟩ = cur[j]? := fun j => cell_of_row w g j cur t (0, 0) h2
    have hle : n * 64 ≤ cur.size := by rw [h5]; exact Nat.mul_le_mul_right 64 h3
    have hlt : g < w.heap.size := (Array.getElem?_eq_some_iff.1 h2).1
    refine ⟨g, cap, rfl, h1, hlt, fun i hi j u hu => ?_, fun j hj => ⟨?_, ?_⟩⟩
    · have hj : j < 64 := by have := (List.getElem?_eq_some_iff.1 hu).1; rw [u8s_length, hF] at this; exact this
      rw [hcell, ← hu, ← rows_get hF n i j hi hj, ← h6, List.getElem?_take, if_pos (by omega)]
      simp
    · rw [hcell, Nat.zero_add, Array.getElem?_eq_getElem (by omega)]; rfl
    · simp [World.frozen?, h2]
/-- a slice of ints that a call has made -/
theorem open_row1 {w : World} {base k : Nat} {t : TypeId} {v : Value} {xs : List Value} (h : w.ownsRow base t 1 v k xs) :
    ∃ a c, v = .slice a k c ∧ (0 < k → ∃ g, a = some ⟨g, 0, none⟩ ∧ base ≤ g ∧ g < w.heap.size ∧ ∀ j, j < k → w.cell? ⟨g, j, none⟩ = xs[j]?) := by
  obtain ⟨hl, h⟩ := h
  rcases h with ⟨rfl, rfl⟩ | ⟨g, cap, cur, rfl, h1, h2, h3, h4, h5, h6⟩
  · exact ⟨none, 0, rfl, fun h => by omega⟩
  · refine ⟨some ⟨g, 0, none⟩, cap, rfl, fun _ => ⟨g, rfl, h1, (Array.getElem?_eq_some_iff.1 h2).1, fun j hj => ?_⟩⟩
    rw [cell_of_row w g j cur t (0, 0) h2, ← h6, List.getElem?_take, if_pos (by omega)]
    simp

theorem nodup_inj {l : List Nat} (h : l.Nodup) {i j : Nat} (hi : i < l.length) (hj : j < l.length) (e : l[i] = l[j]) : i = j := by
  have hp := List.pairwise_iff_getElem.1 h
  rcases Nat.lt_trichotomy i j with h1 | h1 | h1
  · exact absurd e (hp i j hi hj h1)
  · exact h1
  · exact absurd e.symm (hp j i hj hi h1)
theorem dirtyL_split {n i : Nat} {m : Nat → Option Sec} (hi : i < n) (hm : (m i).isSome = true) : ∃ r, dirtyL n m = dirtyL i m ++ i :: r := by
  obtain ⟨k, rfl⟩ : ∃ k, n = i + (1 + k) := ⟨n - i - 1, by omega⟩
  refine ⟨((List.range k).map (fun j => i + (1 + j))).filter fun i => (m i).isSome, ?_⟩
  unfold dirtyL
  rw [List.range_add, List.filter_append, List.range_add]
  congr 1
  simp [hm]
  rfl
theorem dirtyL_rank {n k : Nat} {m : Nat → Option Sec} (hk : k < (dirtyL n m).length) : (dirtyL ((dirtyL n m)[k]) m).length = k := by
  obtain ⟨i, hi⟩ : ∃ i, i = (dirtyL n m)[k] := ⟨_, rfl⟩
  have hmem := mem_dirtyL.1 (List.getElem_mem hk)
  rw [← hi] at hmem ⊢
  obtain ⟨r, hr⟩ := dirtyL_split hmem.1 hmem.2
  have hlt : (dirtyL i m).length < (dirtyL n m).length := by rw [hr]; simp
  have hget : (dirtyL n m)[(dirtyL i m).length]? = some i := by rw [hr]; simp
  rw [List.getElem?_eq_getElem hlt] at hget
  exact nodup_inj (dirtyL_nodup n m) hlt hk ((Option.some.inj hget).trans hi)
/-- what a crash leaves -/
def crashF (F : Nat → Sec) (m : Nat → Option Sec) (ks : List Bool) (i : Nat) : Sec := if ks.getD (dirtyL i m).length false = true then now F m i else F i
/-- .. behind the first k dirty sectors -/
def crashK (n : Nat) (F : Nat → Sec) (m : Nat → Option Sec) (ks : List Bool) (k : Nat) (i : Nat) : Sec := if i ∈ (dirtyL n m).take k then crashF F m ks i else F i
theorem crashK_zero (n : Nat) (F : Nat → Sec) (m : Nat → Option Sec) (ks : List Bool) (i : Nat) : crashK n F m ks 0 i = F i := by simp [crashK]
theorem crashK_end (n : Nat) (F : Nat → Sec) (m : Nat → Option Sec) (ks : List Bool) (i : Nat) (hi : i < n) : crashK n F m ks (dirtyL n m).length i = crashF F m ks i := by
  unfold crashK
  rw [List.take_length]
  split
  · rfl
  · rename_i h
    have : (m i) = none := by
      cases hm : m i with
      | none => rfl
      | some S => exact absurd (mem_dirtyL.2 ⟨hi, by rw [hm]; rfl⟩) h
    simp [crashF, now, this]
theorem crashK_succ {n k : Nat} (F : Nat → Sec) (m : Nat → Option Sec) (ks : List Bool) (hk : k < (dirtyL n m).length) (i : Nat) :
    crashK n F m ks (k + 1) i = if i = (dirtyL n m)[k] then (if ks.getD k false = true then now F m i else F i) else crashK n F m ks k i := by
  have hiff : i ∈ (dirtyL n m).take (k + 1) ↔ i ∈ (dirtyL n m).take k ∨ i = (dirtyL n m)[k] := by
    rw [List.take_succ_eq_append_getElem hk, List.mem_append]
    simp
  unfold crashK
  by_cases e : i = (dirtyL n m)[k]
  · rw [if_pos (hiff.2 (.inr e)), if_pos e]
    unfold crashF
    rw [e, dirtyL_rank hk]
  · rw [if_neg e]
    by_cases h : i ∈ (dirtyL n m).take k
    · rw [if_pos (hiff.2 (.inl h)), if_pos h]
    · rw [if_neg (fun h2 => by rcases hiff.1 h2 with h3 | h3; exact h h3; exact e h3), if_neg h]
theorem crashK_at {n k : Nat} (F : Nat → Sec) (m : Nat → Option Sec) (ks : List Bool) (hk : k < (dirtyL n m).length) : crashK n F m ks k ((dirtyL n m)[k]) = F ((dirtyL n m)[k]) := by
  unfold crashK
  rw [if_neg]
  intro h
  obtain ⟨j, hj, e⟩ := List.getElem_of_mem h
  rw [List.length_take] at hj
  rw [List.getElem_take] at e
  have := nodup_inj (dirtyL_nodup n m) (by omega) hk e
  omega
theorem crash_nil (w : World) (a : Option Addr) (n c : Nat) :
    Calls Tryz.prog 16 #[.pointer none, .slice a n c] w fun e w' => e = .returned (.pointer none) ∧ w = w' := by
  go_enter Tryz.func16, Tryz.ntmps16
  go_wp2
  go_ret
  exact ⟨rfl, rfl⟩
/-- slices.Clone of the row -/
theorem clone_rows (w : World) (g n c : Nat) (F : Nat → Sec) (hF : ∀ i, (F i).length = 64) (hn : n ≤ 1024) (hr : ∀ i, i < n → w.rangeAt g (i * 64) (u8s (F i))) :
    Calls Tryz.prog 56 #[.slice (some ⟨g, 0, none⟩) n c] w fun e w' => ∃ g' c', e = .returned (.slice (some ⟨g', 0, none⟩) n c') ∧ w.heap.size ≤ g' ∧ g' < w'.heap.size ∧ (∀ i, i < n → w'.rangeAt g' (i * 64) (u8s (F i))) ∧ w'.there g' 0 (n * 64) ∧ Below w.heap.size w w' := by
  obtain ⟨i, hi, hz⟩ := Option.map_eq_some_iff.1 (show (Tryz.prog.info? 59).map (fun i => (i.zero, i.size, i.bytes)) = some (some (sv zsec), 64, 64) by kernel_rfl)
  simp only [Prod.mk.injEq] at hz
  have h := AnyE.slices_Clone cloneA i (sv zsec) 64 64 hi hz.1 hz.2.1 hz.2.2 (by simp [sv, Value.cells, zsec]) (by omega) (fun w => Tryz.sizeOf59 w) g 0 n c (rows F n) w (rows_len hF n) (by unfold maxLen; omega) (by omega) (rows_cells hF hr) (rows_one n)
  refine Calls.mono h fun e w' ⟨v', he, hown, hnil, hb⟩ => ?_
  obtain ⟨g', c', rfl, h1, h2, h3, h4⟩ := open_rows hF hown hnil
  exact ⟨g', c', he, h1, h2, h3, h4, hb⟩
end Go.Proofs.YtmpajlpemabniaaGreat
namespace Go.Proofs.YtmpajlpemabniaaGreat
open Go.RowKit Go.ChangeShapes Go.WideShapes Go.Deep
set_option linter.unusedVariables false
set_option linter.unusedSimpArgs false

/-- an act that came in -/
structure ActT8 where
  k : Int
  n : Nat
  A : CeT
  b : Option Addr
  bs : List UInt8
  bc : Nat
  e : Option Addr
  ks : List Bool
  ec : Nat
def ActT8.cells (Z : ActT8) : List Value := [.int .i64 Z.k, .int .u64 (Z.n : Int), .int .i64 Z.A.x.k, .slice Z.A.a Z.A.x.d.length Z.A.c, .slice Z.A.a2 Z.A.x.b.length Z.A.c2, .slice Z.b Z.bs.length Z.bc, .slice Z.e Z.ks.length Z.ec]
structure ActOk8 (w : World) (Z : ActT8) : Prop where
  k : -9223372036854775808 ≤ Z.k ∧ Z.k ≤ 9223372036854775807
  n : Z.n < 18446744073709551616
  A : CeOk w Z.A
  b : Ro w w.heap.size Z.b (u8s Z.bs)
  e : Ro w w.heap.size Z.e (bls Z.ks)
section
variable {H : Type} {enc : TypeId × Value → H} {w : World} {base : Nat} {held : Bool}
theorem row_bl8 {n : Nat} {v : Value} {y : DataW H × List MemPlace} (h : DataW.trod enc Tryz.prog w base (fun _ => true) held n 43 [v] = some y) :
    ∃ (a : Option Addr) (ks : List Bool) (c : Nat), v = .slice a ks.length c ∧ Ro w w.heap.size a (bls ks) ∧ ks.length ≤ 9223372036854775807 := by
  rcases open_bools Tryz.underlying43 Tryz.underlying4 (by kernel_rfl) h with ⟨hc, _⟩ | ⟨a, l, c, B, hc, _, hl, hm, _, hcell⟩
  · exact ⟨none, [], 0, by simpa using hc, Ro.nil _ _ _, by simp⟩
  · refine ⟨some a, (List.range l).map B, c, by simpa using hc, ?_, by simp; unfold maxLen at hm; omega⟩
    rcases Nat.eq_zero_or_pos l with h0 | h0
    · subst h0; exact .inl (by simp [bls])
    · obtain ⟨b, off, spot⟩ := a
      have hc0 := hcell 0 (by omega)
      have hspot : spot = none := by simpa [Addr.add] using World.cell?_spot hc0
      subst hspot
      have hb := World.block_lt_of_cell? w _ hc0
      refine .inr ⟨b, off, rfl, by simpa [add_off] using hb, fun i hi => ?_⟩
      have hil : i < l := by simpa using hi
      have := hcell i (by omega)
      rw [add_off] at this
      rw [this]
      simp [bls, List.getD, hil]
set_option maxRecDepth 100000 in
theorem trod_act8 {n : Nat} {cs : List Value} {y : DataW H × List MemPlace} (h : DataW.trod enc Tryz.prog w base (fun _ => true) held n 45 cs = some y) :
    ∃ Z : ActT8, cs = Z.cells ∧ ActOk8 w Z := by
  obtain ⟨xs, m, _, _, hlen, hxl, hf⟩ := DataW.trod_struct Tryz.underlying45 h
  have hc7 : cs.length = 7 := hlen.trans (by kernel_rfl)
  match cs, hc7, xs, hxl with
  | [c0, c1, c2, c3, c4, c5, c6], _, [x0, x1, x2, x3, x4], _ =>
    have g0 : DataW.trod enc Tryz.prog w base (fun _ => true) held m 3 (([c0, c1, c2, c3, c4, c5, c6].drop 0).take (Tryz.prog.cellsOf 3)) = some x0 := hf 0 _ rfl
    have g1 : DataW.trod enc Tryz.prog w base (fun _ => true) held m 37 (([c0, c1, c2, c3, c4, c5, c6].drop 1).take (Tryz.prog.cellsOf 37)) = some x1 := hf 1 _ rfl
    have g2 : DataW.trod enc Tryz.prog w base (fun _ => true) held m 42 (([c0, c1, c2, c3, c4, c5, c6].drop 2).take (Tryz.prog.cellsOf 42)) = some x2 := hf 2 _ rfl
    have g3 : DataW.trod enc Tryz.prog w base (fun _ => true) held m 39 (([c0, c1, c2, c3, c4, c5, c6].drop 5).take (Tryz.prog.cellsOf 39)) = some x3 := hf 3 _ rfl
    have g4 : DataW.trod enc Tryz.prog w base (fun _ => true) held m 43 (([c0, c1, c2, c3, c4, c5, c6].drop 6).take (Tryz.prog.cellsOf 43)) = some x4 := hf 4 _ rfl
    rw [show Tryz.prog.cellsOf 3 = 1 by kernel_rfl] at g0
    rw [show Tryz.prog.cellsOf 37 = 1 by kernel_rfl] at g1
    rw [show Tryz.prog.cellsOf 42 = 3 by kernel_rfl] at g2
    rw [show Tryz.prog.cellsOf 39 = 1 by kernel_rfl] at g3
    rw [show Tryz.prog.cellsOf 43 = 1 by kernel_rfl] at g4
    simp only [List.drop_zero, List.drop_succ_cons, List.take_succ_cons, List.take_zero] at g0 g1 g2 g3 g4
    obtain ⟨kd, e0, _, hw0⟩ := DataW.trod_int Tryz.underlying3 g0
    obtain ⟨i, e1, _, hw1⟩ := DataW.trod_int Tryz.underlying37 g1
    obtain ⟨A, e2, hA⟩ := trod_cell g2
    obtain ⟨ab, bs, cb, e3, h3, _⟩ := row_u8 g3
    obtain ⟨ak, ks, ck, e4, h4, _⟩ := row_bl8 g4
    have hi := bounds_u64 hw1
    obtain ⟨j, rfl⟩ : ∃ j : Nat, i = (j : Int) := ⟨i.toNat, by omega⟩
    simp only [List.cons.injEq, and_true] at e0 e1 e2
    obtain ⟨rfl, rfl, rfl⟩ := e2
    subst e0 e1 e3 e4
    exact ⟨⟨kd, j, A, ab, bs, cb, ak, ks, ck⟩, rfl, ⟨bounds_i64 hw0, by show j < _; omega, hA, h3, h4⟩⟩
set_option maxRecDepth 100000 in
theorem open_act8V {r : Reach} {b0 : Nat} {v : Value} {d : DataW H} {p : List MemPlace} (hv : Value.okWide Tryz.prog w r b0 45 v) (h : DataW.Trod enc Tryz.prog w base (fun _ => true) held 45 v d p) :
    ∃ Z : ActT8, v = .agg Z.cells.toArray ∧ ActOk8 w Z := by
  obtain ⟨cs, rfl, hsz⟩ := okWide_struct Tryz.underlying45 hv
  obtain ⟨fuel, hf⟩ := h
  obtain ⟨Z, hZ, hok⟩ := trod_act8 hf
  refine ⟨Z, ?_, hok⟩
  congr 1
  apply Array.ext'
  exact hZ
end
end Go.Proofs.YtmpajlpemabniaaGreat
