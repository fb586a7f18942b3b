/-
  Contract of package disk's Crash. No claim of its own.
-/
import Derived.Test.YtdiemejdbakffaaDkD
namespace Go.Proofs.Ytdiemejdbakffaa
open Go.RowKit Go.Maps Go.Shelf
set_option linter.unusedVariables false
set_option linter.unusedSimpArgs false

def bls (l : List Bool) : List Value := l.map Value.bool
@[simp] theorem bls_length (l : List Bool) : (bls l).length = l.length := by simp [bls]
theorem Ro.bl {w : World} {B : Nat} {a : Option Addr} {l : List Bool} (h : Ro w B a (bls l)) (hn : 0 < l.length) :
    ∃ b off, a = some ⟨b, off, none⟩ ∧ b < B ∧ ∀ i, i < l.length → w.cell? ⟨b, off + i, none⟩ = some (.bool (l.getD i false)) := by
  obtain ⟨b, off, h1, h2, h3⟩ := h.at_ (by intro e; have e2 := congrArg List.length e; simp only [bls_length, List.length_nil] at e2; omega)
  refine ⟨b, off, h1, h2, fun i hi => ?_⟩
  rw [h3 i (by simpa using hi)]
  simp [bls, List.getD, hi]
/-- n sectors, one behind the other -/
def rows (F : Nat → Sec) : Nat → List Value
  | 0 => []
  | n + 1 => rows F n ++ u8s (F n)
theorem rows_len {F : Nat → Sec} (hF : ∀ i, (F i).length = 64) : ∀ n, (rows F n).length = n * 64
  | 0 => by simp [rows]
  | n + 1 => by simp [rows, rows_len hF n, hF n]; omega
theorem rows_get {F : Nat → Sec} (hF : ∀ i, (F i).length = 64) : ∀ n i j, i < n → j < 64 → (rows F n)[i * 64 + j]? = (u8s (F i))[j]?
  | 0, i, j, hi, _ => by omega
  | n + 1, i, j, hi, hj => by
    rw [rows]
    rcases Nat.lt_or_ge i n with h | h
    · rw [List.getElem?_append_left (by rw [rows_len hF]; omega)]
      exact rows_get hF n i j h hj
    · obtain rfl : i = n := by omega
      rw [List.getElem?_append_right (by rw [rows_len hF]; omega), rows_len hF]
      congr 1
      omega
theorem rows_one {F : Nat → Sec} : ∀ n, ∀ v ∈ rows F n, v.oneCell' = true
  | 0, v, h => by simp [rows] at h
  | n + 1, v, h => by
    rw [rows, List.mem_append] at h
    rcases h with h | h
    · exact rows_one n v h
    · exact u8s_one _ v h
theorem rows_cells {w : World} {g n : Nat} {F : Nat → Sec} (hF : ∀ i, (F i).length = 64) (h : ∀ i, i < n → w.rangeAt g (i * 64) (u8s (F i))) : ∀ j u, (rows F n)[j]? = some u → w.cell? ⟨g, 0 + j, none⟩ = some u := fun j u hu => by
  have hj : j < n * 64 := by have := (List.getElem?_eq_some_iff.1 hu).1; rwa [rows_len hF] at this
  have e : j = j / 64 * 64 + j % 64 := by omega
  have hr := rows_get hF n (j / 64) (j % 64) (by omega) (by omega)
  rw [← e, hu] at hr
  have := h (j / 64) (by omega) (j % 64) u hr.symm
  rw [Nat.zero_add]
  rwa [← e] at this
/-- a row that a call has made holds n sectors -/
theorem open_rows {w : World} {base n : Nat} {t : TypeId} {v : Value} {F : Nat → Sec} (hF : ∀ i, (F i).length = 64) (h : w.ownsRow base t 64 v n (rows F n)) (hn : v ≠ .slice none 0 0) :
    ∃ g c, v = .slice (some ⟨g, 0, none⟩) n c ∧ base ≤ g ∧ g < w.heap.size ∧ (∀ i, i < n → w.rangeAt g (i * 64) (u8s (F i))) ∧ w.there g 0 (n * 64) := by
  obtain ⟨_, h⟩ := h
  rcases h with ⟨rfl, _⟩ | ⟨g, cap, cur, rfl, h1, h2, h3, h4, h5, h6⟩
  · exact absurd rfl hn
  · have hcell : ∀ j, w.cell? ⟨g, j, none⟩ = cur[j]? := fun j => cell_of_row w g j cur t (0, 0) h2
    have hle : n * 64 ≤ cur.size := by rw [h5]; exact Nat.mul_le_mul_right 64 h3
    have hlt : g < w.heap.size := (Array.getElem?_eq_some_iff.1 h2).1
    refine ⟨g, cap, rfl, h1, hlt, fun i hi j u hu => ?_, fun j hj => ⟨?_, ?_⟩⟩
    · have hj : j < 64 := by have := (List.getElem?_eq_some_iff.1 hu).1; rw [u8s_length, hF] at this; exact this
      rw [hcell, ← hu, ← rows_get hF n i j hi hj, ← h6, List.getElem?_take, if_pos (by omega)]
      simp
    · rw [hcell, Nat.zero_add, Array.getElem?_eq_getElem (by omega)]; rfl
    · simp [World.frozen?, h2]
/-- a slice of ints that a call has made -/
theorem open_row1 {w : World} {base k : Nat} {t : TypeId} {v : Value} {xs : List Value} (h : w.ownsRow base t 1 v k xs) :
    ∃ a c, v = .slice a k c ∧ (0 < k → ∃ g, a = some ⟨g, 0, none⟩ ∧ base ≤ g ∧ g < w.heap.size ∧ ∀ j, j < k → w.cell? ⟨g, j, none⟩ = xs[j]?) := by
  obtain ⟨hl, h⟩ := h
  rcases h with ⟨rfl, rfl⟩ | ⟨g, cap, cur, rfl, h1, h2, h3, h4, h5, h6⟩
  · exact ⟨none, 0, rfl, fun h => by omega⟩
  · refine ⟨some ⟨g, 0, none⟩, cap, rfl, fun _ => ⟨g, rfl, h1, (Array.getElem?_eq_some_iff.1 h2).1, fun j hj => ?_⟩⟩
    rw [cell_of_row w g j cur t (0, 0) h2, ← h6, List.getElem?_take, if_pos (by omega)]
    simp

theorem nodup_inj {l : List Nat} (h : l.Nodup) {i j : Nat} (hi : i < l.length) (hj : j < l.length) (e : l[i] = l[j]) : i = j := by
  have hp := List.pairwise_iff_getElem.1 h
  rcases Nat.lt_trichotomy i j with h1 | h1 | h1
  · exact absurd e (hp i j hi hj h1)
  · exact h1
  · exact absurd e.symm (hp j i hj hi h1)
theorem dirtyL_split {n i : Nat} {m : Nat → Option Sec} (hi : i < n) (hm : (m i).isSome = true) : ∃ r, dirtyL n m = dirtyL i m ++ i :: r := by
  obtain ⟨k, rfl⟩ : ∃ k, n = i + (1 + k) := ⟨n - i - 1, by omega⟩
  refine ⟨((List.range k).map (fun j => i + (1 + j))).filter fun i => (m i).isSome, ?_⟩
  unfold dirtyL
  rw [List.range_add, List.filter_append, List.range_add]
  congr 1
  simp [hm]
  rfl
theorem dirtyL_rank {n k : Nat} {m : Nat → Option Sec} (hk : k < (dirtyL n m).length) : (dirtyL ((dirtyL n m)[k]) m).length = k := by
  obtain ⟨i, hi⟩ : ∃ i, i = (dirtyL n m)[k] := ⟨_, rfl⟩
  have hmem := mem_dirtyL.1 (List.getElem_mem hk)
  rw [← hi] at hmem ⊢
  obtain ⟨r, hr⟩ := dirtyL_split hmem.1 hmem.2
  have hlt : (dirtyL i m).length < (dirtyL n m).length := by rw [hr]; simp
  have hget : (dirtyL n m)[(dirtyL i m).length]? = some i := by rw [hr]; simp
  rw [List.getElem?_eq_getElem hlt] at hget
  exact nodup_inj (dirtyL_nodup n m) hlt hk ((Option.some.inj hget).trans hi)
/-- what a crash leaves -/
def crashF (F : Nat → Sec) (m : Nat → Option Sec) (ks : List Bool) (i : Nat) : Sec := if ks.getD (dirtyL i m).length false = true then now F m i else F i
/-- .. behind the first k dirty sectors -/
def crashK (n : Nat) (F : Nat → Sec) (m : Nat → Option Sec) (ks : List Bool) (k : Nat) (i : Nat) : Sec := if i ∈ (dirtyL n m).take k then crashF F m ks i else F i
theorem crashK_zero (n : Nat) (F : Nat → Sec) (m : Nat → Option Sec) (ks : List Bool) (i : Nat) : crashK n F m ks 0 i = F i := by simp [crashK]
theorem crashK_end (n : Nat) (F : Nat → Sec) (m : Nat → Option Sec) (ks : List Bool) (i : Nat) (hi : i < n) : crashK n F m ks (dirtyL n m).length i = crashF F m ks i := by
  unfold crashK
  rw [List.take_length]
  split
  · rfl
  · rename_i h
    have : (m i) = none := by
      cases hm : m i with
      | none => rfl
      | some S => exact absurd (mem_dirtyL.2 ⟨hi, by rw [hm]; rfl⟩) h
    simp [crashF, now, this]
theorem crashK_succ {n k : Nat} (F : Nat → Sec) (m : Nat → Option Sec) (ks : List Bool) (hk : k < (dirtyL n m).length) (i : Nat) :
    crashK n F m ks (k + 1) i = if i = (dirtyL n m)[k] then (if ks.getD k false = true then now F m i else F i) else crashK n F m ks k i := by
  have hiff : i ∈ (dirtyL n m).take (k + 1) ↔ i ∈ (dirtyL n m).take k ∨ i = (dirtyL n m)[k] := by
    rw [List.take_succ_eq_append_getElem hk, List.mem_append]
    simp
  unfold crashK
  by_cases e : i = (dirtyL n m)[k]
  · rw [if_pos (hiff.2 (.inr e)), if_pos e]
    unfold crashF
    rw [e, dirtyL_rank hk]
  · rw [if_neg e]
    by_cases h : i ∈ (dirtyL n m).take k
    · rw [if_pos (hiff.2 (.inl h)), if_pos h]
    · rw [if_neg (fun h2 => by rcases hiff.1 h2 with h3 | h3; exact h h3; exact e h3), if_neg h]
theorem crashK_at {n k : Nat} (F : Nat → Sec) (m : Nat → Option Sec) (ks : List Bool) (hk : k < (dirtyL n m).length) : crashK n F m ks k ((dirtyL n m)[k]) = F ((dirtyL n m)[k]) := by
  unfold crashK
  rw [if_neg]
  intro h
  obtain ⟨j, hj, e⟩ := List.getElem_of_mem h
  rw [List.length_take] at hj
  rw [List.getElem_take] at e
  have := nodup_inj (dirtyL_nodup n m) (by omega) hk e
  omega
theorem crash_nil (w : World) (a : Option Addr) (n c : Nat) :
    Calls Try.prog 18 #[.pointer none, .slice a n c] w fun e w' => e = .returned (.pointer none) ∧ w = w' := by
  go_enter Try.func18, Try.ntmps18
  go_wp2
  go_ret
  exact ⟨rfl, rfl⟩
/-- slices.Clone of the row -/
theorem clone_rows (w : World) (g n c : Nat) (F : Nat → Sec) (hF : ∀ i, (F i).length = 64) (hn : n ≤ 1024) (hr : ∀ i, i < n → w.rangeAt g (i * 64) (u8s (F i))) :
    Calls Try.prog 41 #[.slice (some ⟨g, 0, none⟩) n c] w fun e w' => ∃ g' c', e = .returned (.slice (some ⟨g', 0, none⟩) n c') ∧ w.heap.size ≤ g' ∧ g' < w'.heap.size ∧ (∀ i, i < n → w'.rangeAt g' (i * 64) (u8s (F i))) ∧ w'.there g' 0 (n * 64) ∧ Below w.heap.size w w' := by
  obtain ⟨i, hi, hz⟩ := Option.map_eq_some_iff.1 (show (Try.prog.info? 56).map (fun i => (i.zero, i.size, i.bytes)) = some (some (sv zsec), 64, 64) by kernel_rfl)
  simp only [Prod.mk.injEq] at hz
  have h := AnyE.slices_Clone cloneA i (sv zsec) 64 64 hi hz.1 hz.2.1 hz.2.2 (by simp [sv, Value.cells, zsec]) (by omega) (fun w => Try.sizeOf56 w) g 0 n c (rows F n) w (rows_len hF n) (by unfold maxLen; omega) (by omega) (rows_cells hF hr) (rows_one n)
  refine Calls.mono h fun e w' ⟨v', he, hown, hnil, hb⟩ => ?_
  obtain ⟨g', c', rfl, h1, h2, h3, h4⟩ := open_rows hF hown hnil
  exact ⟨g', c', he, h1, h2, h3, h4, hb⟩
end Go.Proofs.Ytdiemejdbakffaa
