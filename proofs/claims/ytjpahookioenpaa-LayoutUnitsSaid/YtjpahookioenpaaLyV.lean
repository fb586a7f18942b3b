/-
  What Next leaves of each chain. Plain lemmas, no claim of their own.
-/
import Derived.Test.YtjpahookioenpaaLyS
namespace Go.Proofs.Ytjpahookioenpaa
set_option linter.unusedVariables false
set_option linter.unusedSimpArgs false

/-- a chain that has been filled up: what stayed, in its order, then fresh ones -/
def Fil (dr fr c d : List Int) : Prop := d.length = c.length ∧ (c = [] ∨ 0 < (leftOf dr c).length) ∧ ∃ rest, d = leftOf dr c ++ rest ∧ ∀ u ∈ rest, u ∈ fr
structure Inv (dr fr : List Int) (S : FS) : Prop where
  a : ∀ p ∈ S.1, Fil dr fr p.1 p.2
  b : ∀ u ∈ S.2, u ∈ fr
theorem fill1_ok {dr fr : List Int} {S : FS} {c : List Int} (hS : Inv dr fr S) (h0 : (fill1 dr S c).1 = 0) : Fil dr fr c (fill1 dr S c).2.2 ∧ Inv dr fr (fill1 dr S c).2.1 := by
  have hll : (leftOf dr c).length ≤ c.length := List.length_filter_le _ _
  unfold fill1 at h0 ⊢
  cases hl : lookF S.1 c with
  | some now =>
    simp only
    refine ⟨?_, hS⟩
    unfold lookF at hl
    obtain ⟨p, hp, rfl⟩ := Option.map_eq_some_iff.1 hl
    have h1 := List.mem_of_find?_eq_some hp
    have h2 := List.find?_some hp
    simp only [decide_eq_true_eq] at h2
    rw [← h2]
    exact hS.a p h1
  | none =>
    rw [hl] at h0
    simp only at h0 ⊢
    by_cases g1 : (leftOf dr c).length = 0
    · rw [if_pos g1] at h0; simp at h0
    · rw [if_neg g1] at h0 ⊢
      by_cases g2 : S.2.length < c.length - (leftOf dr c).length
      · rw [if_pos g2] at h0; simp at h0
      · rw [if_neg g2]
        have hf : Fil dr fr c (leftOf dr c ++ S.2.take (c.length - (leftOf dr c).length)) :=
          ⟨by rw [List.length_append, List.length_take]; omega, .inr (by omega), _, rfl, fun u hu => hS.b u (List.mem_of_mem_take hu)⟩
        refine ⟨hf, ⟨fun p hp => ?_, fun u hu => hS.b u (List.mem_of_mem_drop hu)⟩⟩
        rcases List.mem_append.1 hp with hp | hp
        · exact hS.a p hp
        · simp only [List.mem_singleton] at hp
          subst hp
          exact hf
theorem fillC_ok {dr fr : List Int} : ∀ {S : FS} {L : List (List Int)}, Inv dr fr S → (fillC dr S L).1 = 0 → (fillC dr S L).2.2.length = L.length ∧ (∀ j, j < L.length → Fil dr fr (cx L j) (cx (fillC dr S L).2.2 j)) ∧ Inv dr fr (fillC dr S L).2.1
  | S, [], hS, _ => ⟨rfl, by simp, hS⟩
  | S, c :: L, hS, h0 => by
    unfold fillC at h0 ⊢
    by_cases h1 : (fill1 dr S c).1 = 0
    · rw [if_pos h1] at h0 ⊢
      obtain ⟨g1, g2⟩ := fill1_ok hS h1
      obtain ⟨k1, k2, k3⟩ := fillC_ok g2 h0
      refine ⟨by simp [k1], fun j hj => ?_, k3⟩
      cases j with
      | zero => simpa [cx] using g1
      | succ j => simpa [cx] using k2 j (by simpa using hj)
    · rw [if_neg h1] at h0
      exact absurd h0 h1
theorem fillS_ok {dr fr : List Int} : ∀ {S : FS} {L : List Sg}, Inv dr fr S → (fillS dr S L).1 = 0 → (fillS dr S L).2.2.length = L.length ∧ ∀ i, i < L.length → (sx (fillS dr S L).2.2 i).1 = (sx L i).1 ∧ (sx (fillS dr S L).2.2 i).2.length = (sx L i).2.length ∧ ∀ j, j < (sx L i).2.length → Fil dr fr (cx (sx L i).2 j) (cx (sx (fillS dr S L).2.2 i).2 j)
  | S, [], hS, _ => ⟨rfl, by simp⟩
  | S, s :: L, hS, h0 => by
    unfold fillS at h0 ⊢
    by_cases h1 : (fillC dr S s.2).1 = 0
    · rw [if_pos h1] at h0 ⊢
      obtain ⟨g1, g2, g3⟩ := fillC_ok hS h1
      obtain ⟨k1, k2⟩ := fillS_ok g3 h0
      refine ⟨by simp [pre, k1], fun i hi => ?_⟩
      cases i with
      | zero => simpa [sx, pre] using ⟨g1, g2⟩
      | succ i => simpa [sx, pre] using k2 i (by simpa using hi)
    · rw [if_neg h1] at h0
      exact absurd h0 h1
theorem inv_start (dr fr : List Int) : Inv dr fr ([], fr) := ⟨by simp, fun u hu => hu⟩
theorem lastLe_congr {L M : List Sg} {a : Nat} : ∀ {n : Nat}, (∀ i, i < n → (sx L i).1 = (sx M i).1) → lastLe L a n = lastLe M a n
  | 0, _ => rfl
  | n + 1, h => by
    simp only [lastLe]
    rw [h n (by omega), lastLe_congr (n := n) (fun i hi => h i (by omega))]
theorem nextOf_yes {x : Ly} {dr fr : List Int} {sq : Int} (h : (nextOf x dr fr sq).1 = 0) : right x = true ∧ (fillS dr ([], fr) x.s).1 = 0 ∧ right (nextRaw x dr fr sq) = true ∧ (nextOf x dr fr sq).2 = nextRaw x dr fr sq := by
  unfold nextOf at h ⊢
  by_cases h1 : right x = true
  · rw [if_pos h1] at h ⊢
    by_cases h2 : (fillS dr ([], fr) x.s).1 = 0
    · rw [if_pos h2] at h ⊢
      by_cases h3 : right (nextRaw x dr fr sq) = true
      · rw [if_pos h3]
        exact ⟨h1, h2, h3, rfl⟩
      · rw [if_neg h3] at h; simp at h
    · rw [if_neg h2] at h; exact absurd h h2
  · rw [if_neg h1] at h; simp at h
/-- in the layout that follows, each address lies in the same segment, on its chain filled up -/
theorem next_chain {x : Ly} {dr fr : List Int} {sq : Int} (h1 : right x = true) (h2 : (fillS dr ([], fr) x.s).1 = 0) (h3 : right (nextRaw x dr fr sq) = true) (a : Nat) :
    segI (nextRaw x dr fr sq) a = segI x a ∧ Fil dr fr (chainOf x a) (chainOf (nextRaw x dr fr sq) a) := by
  obtain ⟨k1, k2⟩ := fillS_ok (inv_start dr fr) h2
  have hs : (nextRaw x dr fr sq).s = (fillS dr ([], fr) x.s).2.2 := rfl
  have hseg : segN (nextRaw x dr fr sq) a = segN x a := by
    unfold segN
    rw [hs, k1]
    exact lastLe_congr (fun i hi => (k2 i hi).1)
  unfold segI chainOf
  by_cases ha : a < 1048576
  · have c1 : right (nextRaw x dr fr sq) = true ∧ a < 1048576 := ⟨h3, ha⟩
    have c2 : right x = true ∧ a < 1048576 := ⟨h1, ha⟩
    rw [if_pos c1, if_pos c2, if_pos c1, if_pos c2, hseg]
    refine ⟨rfl, ?_⟩
    obtain ⟨g1, _, _⟩ := segN_is h1 a
    obtain ⟨q1, q2, q3⟩ := k2 _ g1
    rw [hs, q1, q2]
    have := (chOk_iff.1 (right_ch h1 g1)).1
    exact q3 _ (Nat.mod_lt _ (by omega))
  · rw [if_neg (fun h => ha h.2), if_neg (fun h => ha h.2), if_neg (fun h => ha h.2), if_neg (fun h => ha h.2)]
    exact ⟨rfl, ⟨rfl, .inl rfl, [], by simp [leftOf], by simp⟩⟩
theorem leftOf_take {dr c : List Int} {i : Nat} (h : i < c.length) : leftOf dr (c.take (i + 1)) = leftOf dr (c.take i) ++ (if c.getD i 0 ∈ dr then [] else [c.getD i 0]) := by
  have e : c.getD i 0 = c[i] := by simp [List.getD, h]
  rw [List.take_succ_eq_append_getElem h, ← e]
  unfold leftOf
  rw [List.filter_append]
  generalize c.getD i 0 = x
  by_cases hm : x ∈ dr <;> simp [hm]
/-- what stayed, at its place -/
theorem fil_at {dr fr c d : List Int} (h : Fil dr fr c d) {i : Nat} (hi : i < c.length) (hm : c.getD i 0 ∉ dr) : (leftOf dr (c.take i)).length < d.length ∧ d.getD (leftOf dr (c.take i)).length 0 = c.getD i 0 := by
  obtain ⟨h1, _, rest, h3, _⟩ := h
  have e : c = c.take (i + 1) ++ c.drop (i + 1) := (List.take_append_drop _ _).symm
  have e2 : leftOf dr c = leftOf dr (c.take i) ++ (c.getD i 0 :: leftOf dr (c.drop (i + 1))) := by
    have : leftOf dr c = leftOf dr (c.take (i + 1)) ++ leftOf dr (c.drop (i + 1)) := by
      unfold leftOf
      rw [← List.filter_append, List.take_append_drop]
    rw [this, leftOf_take hi, if_neg hm]
    simp
  rw [h3, e2]
  constructor
  · simp
  · simp [List.getD, List.getElem?_append_right]
theorem fil_rest {dr fr c d : List Int} (h : Fil dr fr c d) {i : Nat} (hi : (leftOf dr c).length ≤ i) (hd : i < d.length) : d.getD i 0 ∈ fr := by
  obtain ⟨h1, _, rest, h3, h4⟩ := h
  subst h3
  have : i - (leftOf dr c).length < rest.length := by rw [List.length_append] at hd; omega
  have e : (leftOf dr c ++ rest).getD i 0 = rest[i - (leftOf dr c).length] := by
    simp [List.getD, List.getElem?_append_right hi, this]
  rw [e]
  exact h4 _ (List.getElem_mem this)
end Go.Proofs.Ytjpahookioenpaa
