/-
  Plain mathematics of the document's list put in order: insertion, and runs that meet made one. Lemmas only, no claim of their own.
-/
import Derived.Test.YtoadbkiklabceaaSg
namespace Go.Proofs.Ytoadbkiklabceaa

/-- in order of where they begin, none empty -/
def Srt (L : List Rn) : Prop := L.Pairwise (fun a b => a.1 ≤ b.1) ∧ ∀ r ∈ L, r.1 < r.2
theorem Srt.nil : Srt [] := ⟨List.Pairwise.nil, by simp⟩
/-- x put in at place j -/
def insAt (I : List Rn) (x : Rn) (j : Nat) : List Rn := I.take j ++ x :: I.drop j
theorem insAt_len (I : List Rn) (x : Rn) (j : Nat) : (insAt I x j).length = I.length + 1 := by
  simp only [insAt, List.length_append, List.length_take, List.length_cons, List.length_drop]; omega
theorem insAt_end (I : List Rn) (x : Rn) : insAt I x I.length = I ++ [x] := by simp [insAt]
theorem mem_insAt (I : List Rn) (x : Rn) (j n : Nat) : mem (insAt I x j) n = (mem I n || inR x n) := by
  have h := congrArg (fun L => mem L n) (List.take_append_drop j I)
  simp only [mem_append] at h
  rw [insAt, mem_append, mem_cons, ← h]
  cases mem (I.take j) n <;> cases inR x n <;> cases mem (I.drop j) n <;> rfl
theorem el_insAt (I : List Rn) (x : Rn) {j : Nat} (h : j ≤ I.length) : el (insAt I x j) j = x := by
  simp [el, insAt, List.getD, List.getElem?_append, List.length_take, Nat.min_eq_left h]
theorem el_insAt_pre (I : List Rn) (x : Rn) {j i : Nat} (h : j ≤ I.length) (hi : i < j) : el (insAt I x j) i = el I i := by
  simp only [el, insAt, List.getD]
  rw [List.getElem?_append_left (by rw [List.length_take]; omega), List.getElem?_take, if_pos hi]
theorem insAt_swap (I : List Rn) (x : Rn) {j : Nat} (h : j + 1 ≤ I.length) : ((insAt I x (j + 1)).set (j + 1) (el I j)).set j x = insAt I x j := by
  have e1 : I.take (j + 1) = I.take j ++ [el I j] := by
    rw [List.take_succ_eq_append_getElem h]; simp [el, List.getD, show j < I.length from h]
  have e2 : I.drop j = el I j :: I.drop (j + 1) := by
    rw [List.drop_eq_getElem_cons (by omega)]; simp [el, List.getD, show j < I.length from h]
  have hl : (I.take j).length = j := by rw [List.length_take]; omega
  simp only [insAt]
  rw [e1, e2]
  generalize I.take j = A at *
  generalize I.drop (j + 1) = B at *
  rw [List.append_assoc]
  subst hl
  simp [List.set_append]
theorem srt_insAt {I : List Rn} {x : Rn} (h : Srt I) (hx : x.1 < x.2) {j : Nat} (hj : j ≤ I.length) (h1 : ∀ y ∈ I.drop j, x.1 ≤ y.1) (h2 : j = 0 ∨ (el I (j - 1)).1 ≤ x.1) : Srt (insAt I x j) := by
  refine ⟨?_, fun r hr => ?_⟩
  · have hp := h.1
    rw [← List.take_append_drop j I, List.pairwise_append] at hp
    obtain ⟨p1, p2, p3⟩ := hp
    rw [insAt, List.pairwise_append]
    refine ⟨p1, List.Pairwise.cons h1 p2, fun a ha b hb => ?_⟩
    rcases List.mem_cons.1 hb with rfl | hb
    · rcases j with _ | j
      · simp at ha
      · have h3 : (el I j).1 ≤ b.1 := by simpa using h2
        have e1 : I.take (j + 1) = I.take j ++ [el I j] := by
          rw [List.take_succ_eq_append_getElem (by omega)]; simp [el, List.getD, show j < I.length by omega]
        rw [e1] at ha p1
        rw [List.pairwise_append] at p1
        rcases List.mem_append.1 ha with ha | ha
        · have := p1.2.2 a ha (el I j) (by simp)
          omega
        · obtain rfl : a = el I j := by simpa using ha
          exact h3
    · exact p3 a ha b hb
  · rw [insAt] at hr
    rcases List.mem_append.1 hr with hr | hr
    · exact h.2 r (List.mem_of_mem_take hr)
    · rcases List.mem_cons.1 hr with rfl | hr
      · exact hx
      · exact h.2 r (List.mem_of_mem_drop hr)
/-- the next one down is put behind x too -/
theorem below_step {I : List Rn} {x : Rn} {j : Nat} (hj : j + 1 ≤ I.length) (h1 : ∀ y ∈ I.drop (j + 1), x.1 ≤ y.1) (h2 : x.1 < (el I j).1) : ∀ y ∈ I.drop j, x.1 ≤ y.1 := by
  have e2 : I.drop j = el I j :: I.drop (j + 1) := by
    rw [List.drop_eq_getElem_cons (by omega)]; simp [el, List.getD, show j < I.length from hj]
  rw [e2]
  intro y hy
  rcases List.mem_cons.1 hy with rfl | hy
  · omega
  · exact h1 y hy

/-! runs that meet become one -/
/-- what has been joined of S's first k runs -/
structure Mrg (S : List Rn) (k : Nat) (O : List Rn) : Prop where
  nf : NF O
  mem : ∀ n, mem O n = mem (S.take k) n
  low : ∀ o ∈ O, ∀ y ∈ S.drop k, o.1 ≤ y.1
  len : O.length ≤ k
theorem Mrg.start (S : List Rn) : Mrg S 0 [] := ⟨trivial, fun n => by simp, by simp, by simp⟩
theorem el_last {O : List Rn} (h : O ≠ []) : O = O.take (O.length - 1) ++ [el O (O.length - 1)] := by
  have hl : 0 < O.length := List.length_pos_iff.2 h
  have h1 := List.take_succ_eq_append_getElem (l := O) (i := O.length - 1) (by omega)
  have e1 : O.take (O.length - 1 + 1) = O := by rw [show O.length - 1 + 1 = O.length by omega, List.take_length]
  have e2 : el O (O.length - 1) = O[O.length - 1] := by simp [el, List.getD, show O.length - 1 < O.length by omega]
  rw [e2, ← h1, e1]
theorem take_el' {L : List Rn} {k : Nat} (h : k < L.length) : L.take (k + 1) = L.take k ++ [el L k] := by
  rw [List.take_succ_eq_append_getElem h]; simp [el, List.getD, h]
theorem drop_el' {L : List Rn} {k : Nat} (h : k < L.length) : L.drop k = el L k :: L.drop (k + 1) := by
  rw [List.drop_eq_getElem_cons h]; simp [el, List.getD, h]
theorem Mrg.join {S O : List Rn} {k : Nat} (h : Mrg S k O) (hS : Srt S) (hk : k < S.length) (h0 : 0 < O.length) (hx : (el S k).1 ≤ (el O (O.length - 1)).2) :
    Mrg S (k + 1) (O.take (O.length - 1) ++ [((el O (O.length - 1)).1, max (el O (O.length - 1)).2 (el S k).2)]) := by
  have e := el_last (O := O) (by intro e; rw [e] at h0; simp at h0)
  have hlow := h.low (el O (O.length - 1)) (el_mem (by omega)) (el S k) (by rw [drop_el' hk]; simp)
  have hsx := hS.2 _ (el_mem hk)
  have hnf := h.nf
  have hmem := h.mem
  have hl2 := h.low
  have hlen := h.len
  generalize hl : el O (O.length - 1) = l at *
  generalize hP : O.take (O.length - 1) = P at *
  have hPl : P.length = O.length - 1 := by rw [← hP, List.length_take]; omega
  rw [e, NF_append] at hnf
  obtain ⟨n1, n2, n3⟩ := hnf
  have hl1 := n2.1
  refine ⟨?_, fun n => ?_, ?_, by rw [List.length_append]; simp; omega⟩
  · rw [NF_append]
    exact ⟨n1, ⟨by show l.1 < max _ _; omega, by simp, trivial⟩, fun a ha b hb => by
      obtain rfl : b = _ := by simpa using hb
      exact n3 a ha l (by simp)⟩
  · have := hmem n
    rw [e] at this
    rw [take_el' hk, mem_append, mem_append, ← this]
    simp only [mem_append, mem_cons, mem_nil, Bool.or_false]
    have e3 : inR (l.1, max l.2 (el S k).2) n = (inR l n || inR (el S k) n) := by
      rw [Bool.eq_iff_iff, Bool.or_eq_true, inR_iff, inR_iff, inR_iff]
      show (l.1 ≤ n ∧ n < max l.2 (el S k).2) ↔ _
      omega
    rw [e3, Bool.or_assoc]
  · intro o ho y hy
    have hy2 : y ∈ S.drop k := by rw [drop_el' hk]; simp [hy]
    rcases List.mem_append.1 ho with ho | ho
    · exact hl2 o (by rw [e]; simp [ho]) y hy2
    · obtain rfl : o = _ := by simpa using ho
      exact hl2 l (by rw [e]; simp) y hy2
theorem Mrg.next {S O : List Rn} {k : Nat} (h : Mrg S k O) (hS : Srt S) (hk : k < S.length) (hx : O.length = 0 ∨ (el O (O.length - 1)).2 < (el S k).1) :
    Mrg S (k + 1) (O ++ [el S k]) := by
  have hsx := hS.2 _ (el_mem hk)
  have hnf := h.nf
  refine ⟨?_, fun n => ?_, ?_, by rw [List.length_append]; have := h.len; simp; omega⟩
  · rw [NF_append]
    refine ⟨hnf, ⟨hsx, by simp, trivial⟩, fun a ha b hb => ?_⟩
    obtain rfl : b = _ := by simpa using hb
    rcases hx with hx | hx
    · have : O = [] := List.eq_nil_of_length_eq_zero hx
      subst this; simp at ha
    · have e := el_last (O := O) (by intro e; rw [e] at ha; simp at ha)
      rw [e, NF_append] at hnf
      rw [e] at ha
      rcases List.mem_append.1 ha with ha | ha
      · have h1 := hnf.2.2 a ha (el O (O.length - 1)) (by simp)
        have h2 := hnf.2.1.1
        omega
      · obtain rfl : a = _ := by simpa using ha
        exact hx
  · rw [take_el' hk, mem_append, mem_append, h.mem]
  · intro o ho y hy
    have hp := hS.1
    rw [← List.take_append_drop k S, List.pairwise_append, drop_el' hk] at hp
    rcases List.mem_append.1 ho with ho | ho
    · exact h.low o ho y (by rw [drop_el' hk]; simp [hy])
    · obtain rfl : o = _ := by simpa using ho
      exact (List.pairwise_cons.1 hp.2.1).1 y hy

/-! cells -/
theorem rcs_set (L : List Rn) (i : Nat) (x : Rn) : rcs (L.set i x) = ((rcs L).set (i * 2) (.int .u64 (x.1 : Int))).set (i * 2 + 1) (.int .u64 (x.2 : Int)) := by
  induction L generalizing i with
  | nil => simp [rcs]
  | cons r L ih =>
    cases i with
    | zero => simp [rcs]
    | succ i => rw [show (i + 1) * 2 = i * 2 + 1 + 1 by omega]; simp [rcs, ih]
theorem rcs_set2 (L : List Rn) (i t : Nat) : rcs (L.set i ((el L i).1, t)) = (rcs L).set (i * 2 + 1) (.int .u64 (t : Int)) := by
  induction L generalizing i with
  | nil => simp [rcs]
  | cons r L ih =>
    cases i with
    | zero => simp [rcs, el]
    | succ i =>
      rw [show (i + 1) * 2 = i * 2 + 1 + 1 by omega]
      have : el (r :: L) (i + 1) = el L i := by simp [el, List.getD]
      rw [this]
      simp [rcs, ih]
theorem set_last (O : List Rn) (y : Rn) (h : 0 < O.length) : O.set (O.length - 1) y = O.take (O.length - 1) ++ [y] := by
  have e := el_last (O := O) (by intro e; rw [e] at h; simp at h)
  have hl : (O.take (O.length - 1)).length = O.length - 1 := by rw [List.length_take]; omega
  conv => lhs; rw [e]
  rw [List.length_append, List.length_singleton, hl]
  rw [show O.length - 1 + 1 - 1 = (O.take (O.length - 1)).length by omega]
  rw [List.set_append_right _ _ (Nat.le_refl _)]
  simp
end Go.Proofs.Ytoadbkiklabceaa
