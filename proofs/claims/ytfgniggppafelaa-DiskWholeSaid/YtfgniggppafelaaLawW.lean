/-
  Laws for a slice of sectors that grows by append. No claim of their own.
-/
import Derived.Test.YtfgniggppafelaaLawK
import Derived.Great.BuildSlice
import Derived.Laws.AppendOwnNone
namespace Go.Proofs.Ytfgniggppafelaa
open Go.RowKit Go.Maps Go.Shelf
set_option linter.unusedVariables false
set_option linter.unusedSimpArgs false

theorem foldl_set (l : List Value) : ∀ (k : Nat) (C : Array Value), k + l.length ≤ C.size →
    ((l.zipIdx k).foldl (fun cs (c, j) => cs.setIfInBounds (0 + j) c) C).size = C.size ∧
    ∀ j, ((l.zipIdx k).foldl (fun cs (c, j) => cs.setIfInBounds (0 + j) c) C)[j]? = if k ≤ j ∧ j < k + l.length then l[j - k]? else C[j]? := by
  induction l with
  | nil =>
    intro k C h
    refine ⟨rfl, fun j => ?_⟩
    rw [if_neg (by simp only [List.length_nil]; omega)]
    rfl
  | cons x l ih =>
    intro k C h
    simp only [List.length_cons] at h
    rw [List.zipIdx_cons, List.foldl_cons]
    obtain ⟨h1, h2⟩ := ih (k + 1) (C.setIfInBounds (0 + k) x) (by simp; omega)
    refine ⟨by rw [h1]; simp, fun j => ?_⟩
    rw [h2 j]
    simp only [List.length_cons, Nat.zero_add]
    by_cases e : j = k
    · subst e
      rw [if_neg (by omega), if_pos (by omega), Nat.sub_self]
      rw [Nat.zero_add] at *
      rw [Array.getElem?_setIfInBounds_self_of_lt (by omega)]
      rfl
    · by_cases h3 : k + 1 ≤ j ∧ j < k + 1 + l.length
      · rw [if_pos h3, if_pos (by omega)]
        have : j - k = (j - (k + 1)) + 1 := by omega
        rw [this, List.getElem?_cons_succ]
      · rw [if_neg h3, if_neg (by omega), Array.getElem?_setIfInBounds_ne (by omega)]
theorem fill_sec (S : Sec) (hS : S.length = 64) (C : Array Value) (hC : C.size = 1 * 64) :
    Instr.fill (fun i => some (i * 64, 64)) C [(0, sv S)] = some (u8s S).toArray := by
  have hsz : (sv S).cells.size = 64 := by simp [sv, Value.cells, hS]
  unfold Instr.fill
  dsimp only
  rw [if_neg (by rw [hsz, hC]; decide)]
  unfold Instr.fill
  congr 1
  obtain ⟨h1, h2⟩ := foldl_set (u8s S) 0 C (by rw [u8s_length, hS, hC]; decide)
  have e : (sv S).cells.zipIdx = ((u8s S).zipIdx 0).toArray := by simp [sv, Value.cells]
  rw [e, List.foldl_toArray']
  · apply Array.ext_getElem?
    intro j
    have := h2 j
    simp only [Nat.zero_mul] at this ⊢
    rw [this]
    by_cases hj : j < 64
    · rw [if_pos (by rw [u8s_length, hS]; omega)]
      simp
    · rw [if_neg (by rw [u8s_length, hS]; omega), Array.getElem?_eq_none (by omega), Array.getElem?_eq_none (by simp [hS]; omega)]
  · simp
section
variable {w : World} {ops : Array Oper} {rest : List Oper} {o : Oper} {a : Act} {Q : Exit → Act → World → Prop}
/-- '[]Sector{s}' -/
theorem wpList_slice1 (hgd : o.guard = none) (x : Operand) (ho : o.op = .buildSlice 51 1 #[(0, x)]) (S : Sec) (hx : a.eval x = sv S) (hS : S.length = 64)
    (h : wpList Try.prog ops Q rest (a.put o.dst (.slice (some ⟨w.heap.size, 0, none⟩) 1 1)) (w.alloc (.cells (u8s S).toArray 37))) : wpList Try.prog ops Q (o :: rest) a w := by
  obtain ⟨i, hi, hz⟩ := Option.map_eq_some_iff.1 (show (Try.prog.info? 37).map (fun i => (i.zero, i.size, i.bytes)) = some (some (sv zsec), 64, 64) by kernel_rfl)
  simp only [Prod.mk.injEq] at hz
  refine wpList_buildSlice hgd _ _ 1 _ ho _ i (sv zsec) Try.underlying51 hi hz.1 (by rw [hz.2.1]; omega) (by rw [hz.2.1]; omega) ?_ h
  rw [hz.2.1]
  have : (#[(0, x)].map fun (i, x) => (i, a.eval x)).toList = [(0, sv S)] := by simp [hx]
  rw [this]
  exact fill_sec S hS _ (by simp)
/-- append of one sector to a row of one's own -/
theorem wpList_appS {W : World} (hgd : o.guard = none) (s x : Operand) (ho : o.op = .call { callee := .builtin .append, args := #[s, x], argTypes := #[51, 51] })
    (base n : Nat) (F : Nat → Sec) (S : Sec) (v : Value) (hW : W = w.alloc (.cells (u8s S).toArray 37)) (hs : a.eval s = v) (hx : a.eval x = .slice (some ⟨w.heap.size, 0, none⟩) 1 1) (hown : w.ownsRow base 37 64 v n (rows F n)) (hS : S.length = 64) (hF : F n = S) (hn : n ≤ 1024) (hb : base ≤ w.heap.size)
    (h : ∀ v' w', Hid (w'.ownsRow base 37 64 v' (n + 1) (rows F (n + 1))) → (w.alloc (.cells (u8s S).toArray 37)).grownBy w' v.ownBlock → wpList Try.prog ops Q rest (a.put o.dst v') w') : wpList Try.prog ops Q (o :: rest) a W := by
  subst hW
  obtain ⟨i, hi, hz⟩ := Option.map_eq_some_iff.1 (show (Try.prog.info? 37).map (fun i => (i.zero, i.size, i.bytes)) = some (some (sv zsec), 64, 64) by kernel_rfl)
  simp only [Prod.mk.injEq] at hz
  refine wpList_append_own _ hgd s x _ ho base 37 i (sv zsec) 64 64 Try.underlying51 hi hz.1 hz.2.1 hz.2.2 (by simp [sv, Value.cells, zsec]) (by omega) v n (rows F n) hs (hown.alloc _) ⟨w.heap.size, 0, none⟩ 1 1 (u8s S) hx (by simp [hS]) (fun j u hu => ?_) (u8s_one S) (by unfold maxLen; omega) (by omega) (by simp; omega) (fun v' w' h1 h2 h3 => h v' w' ?_ h2)
  · have := range_box w S 37 j u hu
    rwa [add_off]
  · rw [show rows F (n + 1) = rows F n ++ u8s S by rw [rows, hF]]
    exact Lib.hid h1
end
/-- .. opened, where it holds a sector -/
theorem open_old {w : World} {base n : Nat} {v : Value} {F : Nat → Sec} (hF : ∀ i, (F i).length = 64) (h : w.ownsRow base 37 64 v n (rows F n)) (hn : 1 ≤ n) : ∃ g c, v = .slice (some ⟨g, 0, none⟩) n c ∧ base ≤ g ∧ RwAt w g n F := by
  have hne : v ≠ .slice none 0 0 := by
    intro e
    rcases h.2 with ⟨_, h0⟩ | ⟨g, cap, cur, h1, _⟩
    · omega
    · rw [e] at h1; cases h1
  obtain ⟨g, c, h1, h2, _, h3, h4⟩ := open_rows hF h hne
  exact ⟨g, c, h1, h2, h3, h4⟩
end Go.Proofs.Ytfgniggppafelaa
