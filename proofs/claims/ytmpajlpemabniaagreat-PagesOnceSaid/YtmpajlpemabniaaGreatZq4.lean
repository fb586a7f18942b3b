/-
  Plain mathematics of runs of numbers: no Go in it. Lemmas only, no claim of their own.
-/
namespace Go.Proofs.YtmpajlpemabniaaGreat
set_option linter.unusedVariables false
set_option linter.unusedSimpArgs false
abbrev Rn := Nat × Nat
def inR (r : Rn) (n : Nat) : Bool := decide (r.1 ≤ n) && decide (n < r.2)
def mem (L : List Rn) (n : Nat) : Bool := L.any fun r => inR r n
def NF : List Rn → Prop
  | [] => True
  | r :: L => r.1 < r.2 ∧ (∀ x ∈ L, r.2 < x.1) ∧ NF L
def cnt : List Rn → Nat
  | [] => 0
  | r :: L => (r.2 - r.1) + cnt L
theorem inR_iff {r : Rn} {n : Nat} : inR r n = true ↔ r.1 ≤ n ∧ n < r.2 := by simp [inR]
theorem inR_false {r : Rn} {n : Nat} : inR r n = false ↔ ¬ (r.1 ≤ n ∧ n < r.2) := by rw [← inR_iff]; simp
theorem inR_empty {r : Rn} (h : r.2 ≤ r.1) (n : Nat) : inR r n = false := inR_false.2 (by omega)
@[simp] theorem mem_nil (n : Nat) : mem [] n = false := rfl
@[simp] theorem mem_cons (r : Rn) (L : List Rn) (n : Nat) : mem (r :: L) n = (inR r n || mem L n) := rfl
@[simp] theorem mem_append (A B : List Rn) (n : Nat) : mem (A ++ B) n = (mem A n || mem B n) := by simp [mem, List.any_append]
theorem mem_iff {L : List Rn} {n : Nat} : mem L n = true ↔ ∃ r ∈ L, r.1 ≤ n ∧ n < r.2 := by simp [mem, List.any_eq_true, inR_iff]
theorem mem_false {L : List Rn} {n : Nat} : mem L n = false ↔ ∀ r ∈ L, ¬ (r.1 ≤ n ∧ n < r.2) := by
  rw [← Bool.not_eq_true, mem_iff]
  exact ⟨fun h r hr hn => h ⟨r, hr, hn⟩, fun h ⟨r, hr, hn⟩ => h r hr hn⟩
theorem NF.nonempty {L : List Rn} (h : NF L) : ∀ r ∈ L, r.1 < r.2 := by
  induction L with
  | nil => intro r hr; cases hr
  | cons x L ih =>
    intro r hr
    rcases List.mem_cons.1 hr with rfl | hr
    · exact h.1
    · exact ih h.2.2 r hr
theorem NF_append {A B : List Rn} : NF (A ++ B) ↔ NF A ∧ NF B ∧ ∀ a ∈ A, ∀ b ∈ B, a.2 < b.1 := by
  induction A with
  | nil => simp [NF]
  | cons x A ih =>
    simp only [List.cons_append, NF, ih, List.mem_append, List.mem_cons]
    constructor
    · rintro ⟨h1, h2, h3, h4, h5⟩
      refine ⟨⟨h1, fun y hy => h2 y (.inl hy), h3⟩, h4, ?_⟩
      rintro a (rfl | ha) b hb
      · exact h2 b (.inr hb)
      · exact h5 a ha b hb
    · rintro ⟨⟨h1, h2, h3⟩, h4, h5⟩
      refine ⟨h1, ?_, h3, h4, fun a ha b hb => h5 a (.inr ha) b hb⟩
      rintro y (hy | hy)
      · exact h2 y hy
      · exact h5 x (.inl rfl) y hy
theorem NF.take {L : List Rn} (h : NF L) (k : Nat) : NF (L.take k) := by
  rw [← List.take_append_drop k L, NF_append] at h; exact h.1
theorem NF.drop {L : List Rn} (h : NF L) (k : Nat) : NF (L.drop k) := by
  rw [← List.take_append_drop k L, NF_append] at h; exact h.2.1
theorem NF.pair {L : List Rn} (h : NF L) : L.Pairwise fun a b => a.2 < b.1 := by
  induction L with
  | nil => exact List.Pairwise.nil
  | cons x L ih => exact List.Pairwise.cons h.2.1 (ih h.2.2)
theorem mem_low {L : List Rn} {b n : Nat} (h : ∀ x ∈ L, b < x.1) (hn : n ≤ b) : mem L n = false :=
  mem_false.2 fun r hr => by have := h r hr; omega
theorem NF.ge {r : Rn} {L : List Rn} (h : NF (r :: L)) {n : Nat} (hm : mem (r :: L) n = true) : r.1 ≤ n := by
  rw [mem_cons, Bool.or_eq_true] at hm
  rcases hm with hm | hm
  · exact (inR_iff.1 hm).1
  · obtain ⟨x, hx, h1, _⟩ := mem_iff.1 hm
    have := h.2.1 x hx
    have := h.1
    omega
theorem NF.gap {r : Rn} {L : List Rn} (h : NF (r :: L)) : mem (r :: L) r.2 = false := by
  rw [mem_cons, mem_low h.2.1 (Nat.le_refl _), inR_false.2 (by omega)]; rfl
theorem NF.ext : ∀ {L M : List Rn}, NF L → NF M → (∀ n, mem L n = mem M n) → L = M
  | [], [], _, _, _ => rfl
  | [], s :: M, _, hM, h => by
    have := h s.1
    rw [mem_cons, inR_iff.2 ⟨Nat.le_refl _, hM.1⟩] at this
    simp at this
  | r :: L, [], hL, _, h => by
    have := h r.1
    rw [mem_cons, inR_iff.2 ⟨Nat.le_refl _, hL.1⟩] at this
    simp at this
  | r :: L, s :: M, hL, hM, h => by
    have e1 : r.1 = s.1 := by
      have h1 := hM.ge (n := r.1) (by rw [← h, mem_cons, inR_iff.2 ⟨Nat.le_refl _, hL.1⟩]; rfl)
      have h2 := hL.ge (n := s.1) (by rw [h, mem_cons, inR_iff.2 ⟨Nat.le_refl _, hM.1⟩]; rfl)
      omega
    have hr := hL.1
    have hs := hM.1
    have e2 : r.2 = s.2 := by
      rcases Nat.lt_trichotomy r.2 s.2 with hlt | he | hlt
      · have h1 := hL.gap
        rw [h, mem_cons, inR_iff.2 (by omega)] at h1
        simp at h1
      · exact he
      · have h1 := hM.gap
        rw [← h, mem_cons, inR_iff.2 (by omega)] at h1
        simp at h1
    have e : r = s := Prod.ext e1 e2
    subst e
    rw [NF.ext hL.2.2 hM.2.2 fun n => ?_]
    rcases Nat.lt_or_ge r.2 n with hn | hn
    · have := h n
      rw [mem_cons, mem_cons, inR_false.2 (by omega)] at this
      simpa using this
    · rw [mem_low hL.2.1 hn, mem_low hM.2.1 hn]
/-! counting -/
def cP (N : Nat) (p : Nat → Bool) : Nat := (List.range N).countP p
theorem cP_succ (N : Nat) (p : Nat → Bool) : cP (N + 1) p = cP N p + if p N then 1 else 0 := by
  simp [cP, List.range_succ, List.countP_append, List.countP_cons]
theorem cP_run (r : Rn) (h : r.1 ≤ r.2) (N : Nat) : cP N (inR r) = min r.2 N - min r.1 N := by
  induction N with
  | zero => simp [cP]
  | succ N ih =>
    rw [cP_succ, ih]
    by_cases hn : inR r N = true
    · rw [if_pos hn]; have := inR_iff.1 hn; omega
    · rw [if_neg hn]
      have : ¬ (r.1 ≤ N ∧ N < r.2) := fun k => hn (inR_iff.2 k)
      omega
theorem cP_or (N : Nat) (p q : Nat → Bool) : cP N (fun n => p n || q n) + cP N (fun n => p n && q n) = cP N p + cP N q := by
  induction N with
  | zero => simp [cP]
  | succ N ih =>
    rw [cP_succ, cP_succ, cP_succ, cP_succ]
    cases p N <;> cases q N <;> simp <;> omega
theorem cP_diff (N : Nat) (p q : Nat → Bool) : cP N (fun n => p n && !q n) + cP N (fun n => p n && q n) = cP N p := by
  induction N with
  | zero => simp [cP]
  | succ N ih =>
    rw [cP_succ, cP_succ, cP_succ]
    cases p N <;> cases q N <;> simp <;> omega
theorem cP_congr {N : Nat} {p q : Nat → Bool} (h : ∀ n, p n = q n) : cP N p = cP N q := by rw [funext h]
theorem cP_none (N : Nat) (p : Nat → Bool) (h : ∀ n, p n = false) : cP N p = 0 := by
  induction N with
  | zero => rfl
  | succ N ih => rw [cP_succ, ih, h]; simp
theorem NF.cnt_eq {L : List Rn} (h : NF L) {N : Nat} (hN : ∀ r ∈ L, r.2 ≤ N) : cP N (mem L) = cnt L := by
  induction L with
  | nil => exact cP_none _ _ fun _ => rfl
  | cons r L ih =>
    have h1 := ih h.2.2 fun x hx => hN x (by simp [hx])
    have h2 := cP_or N (inR r) (mem L)
    have h3 := cP_none N (fun n => inR r n && mem L n) fun n => by
      rcases Nat.lt_or_ge r.2 n with hn | hn
      · rw [inR_false.2 (by omega)]; rfl
      · rw [mem_low h.2.1 hn]; simp
    have h4 := cP_run r (Nat.le_of_lt h.1) N
    have h5 := hN r (by simp)
    have h6 := h.1
    have h7 : cP N (mem (r :: L)) = cP N (fun n => inR r n || mem L n) := cP_congr fun n => mem_cons r L n
    simp only [cnt]
    omega
/-! parts of runs that lie in a run -/
def met (x r : Rn) : Rn := (max x.1 r.1, min x.2 r.2)
def parts : List Rn → Rn → List Rn
  | [], _ => []
  | x :: L, r => if (met x r).1 < (met x r).2 then met x r :: parts L r else parts L r
theorem parts_append (A B : List Rn) (r : Rn) : parts (A ++ B) r = parts A r ++ parts B r := by
  induction A with
  | nil => rfl
  | cons x A ih => simp only [List.cons_append, parts, ih]; split <;> rfl
theorem parts_none {A : List Rn} {r : Rn} (h : ∀ x ∈ A, ¬ (met x r).1 < (met x r).2) : parts A r = [] := by
  induction A with
  | nil => rfl
  | cons x A ih => rw [parts, if_neg (h x (by simp)), ih fun y hy => h y (by simp [hy])]
theorem parts_low {A : List Rn} {r : Rn} (h : ∀ x ∈ A, x.2 ≤ r.1) : parts A r = [] :=
  parts_none fun x hx => by have := h x hx; simp only [met]; omega
theorem parts_stop {x : Rn} {B : List Rn} {r : Rn} (h : NF (x :: B)) (he : ¬ (met x r).1 < (met x r).2) (hx : r.1 < x.2) : parts (x :: B) r = [] := by
  have h1 := h.1
  refine parts_none fun y hy => ?_
  rcases List.mem_cons.1 hy with rfl | hy
  · exact he
  · have h2 := h.2.1 y hy
    simp only [met] at he ⊢
    omega
theorem mem_met (x r : Rn) (n : Nat) : inR (met x r) n = (inR x n && inR r n) := by
  rw [Bool.eq_iff_iff, Bool.and_eq_true, inR_iff, inR_iff, inR_iff]
  simp only [met]
  omega
theorem mem_parts (L : List Rn) (r : Rn) (n : Nat) : mem (parts L r) n = (mem L n && inR r n) := by
  induction L with
  | nil => rfl
  | cons x L ih =>
    rw [parts]
    split
    · rw [mem_cons, mem_cons, ih, mem_met]; cases inR x n <;> cases inR r n <;> simp
    · rename_i he
      have h1 : inR (met x r) n = false := inR_empty (by omega) n
      rw [mem_met] at h1
      rw [mem_cons, ih]
      revert h1
      cases inR x n <;> cases inR r n <;> simp
theorem parts_in {L : List Rn} {r y : Rn} (h : y ∈ parts L r) : ∃ x ∈ L, y = met x r ∧ y.1 < y.2 := by
  induction L with
  | nil => cases h
  | cons x L ih =>
    rw [parts] at h
    split at h
    · rename_i hlt
      rcases List.mem_cons.1 h with rfl | h
      · exact ⟨x, by simp, rfl, hlt⟩
      · obtain ⟨z, hz, k⟩ := ih h; exact ⟨z, by simp [hz], k⟩
    · obtain ⟨z, hz, k⟩ := ih h; exact ⟨z, by simp [hz], k⟩
theorem parts_NF {L : List Rn} (h : NF L) (r : Rn) : NF (parts L r) := by
  induction L with
  | nil => trivial
  | cons x L ih =>
    rw [parts]
    split
    · rename_i hlt
      refine ⟨hlt, fun y hy => ?_, ih h.2.2⟩
      obtain ⟨z, hz, rfl, _⟩ := parts_in hy
      have := h.2.1 z hz
      simp only [met]
      omega
    · exact ih h.2.2
theorem parts_bound {L : List Rn} {r : Rn} {E : Nat} (hr : r.2 ≤ E) : ∀ y ∈ parts L r, y.2 ≤ E := fun y hy => by
  obtain ⟨x, _, rfl, _⟩ := parts_in hy
  simp only [met]; omega
theorem cnt_parts {L : List Rn} (h : NF L) {r : Rn} {N : Nat} (hr : r.2 ≤ N) : cnt (parts L r) = cP N fun n => mem L n && inR r n := by
  rw [← (parts_NF h r).cnt_eq (parts_bound hr)]
  exact cP_congr fun n => mem_parts L r n
theorem cnt_parts_le {L : List Rn} (h : NF L) {r : Rn} (hr : r.1 ≤ r.2) : cnt (parts L r) ≤ r.2 - r.1 := by
  have h1 := cnt_parts h (Nat.le_refl r.2)
  have h2 := cP_run r hr r.2
  have h3 := cP_diff r.2 (inR r) (mem L)
  have h4 : cP r.2 (fun n => mem L n && inR r n) = cP r.2 (fun n => inR r n && mem L n) := cP_congr fun n => Bool.and_comm _ _
  omega
/-! a list parted at the first place at which p fails -/
theorem split_at {p : Rn → Bool} {L : List Rn} (h : L.Pairwise fun a b => p b = true → p a = true) :
    (∀ x ∈ L.take (L.countP p), p x = true) ∧ (∀ x ∈ L.drop (L.countP p), p x = false) := by
  induction L with
  | nil => simp
  | cons x L ih =>
    cases h with
    | cons ha hb =>
      obtain ⟨h1, h2⟩ := ih hb
      cases hx : p x with
      | true =>
        rw [List.countP_cons_of_pos hx]
        constructor
        · intro y hy
          rw [List.take_succ_cons] at hy
          rcases List.mem_cons.1 hy with rfl | hy
          · exact hx
          · exact h1 y hy
        · intro y hy
          rw [List.drop_succ_cons] at hy
          exact h2 y hy
      | false =>
        have h0 : L.countP p = 0 := by
          rw [List.countP_eq_zero]
          intro y hy hp
          rw [ha y hy hp] at hx; cases hx
        rw [List.countP_cons_of_neg (by simp [hx]), h0]
        refine ⟨by simp, fun y hy => ?_⟩
        rw [List.drop_zero] at hy
        rcases List.mem_cons.1 hy with rfl | hy
        · exact hx
        · cases hy2 : p y with
          | false => rfl
          | true => rw [ha y hy hy2] at hx; cases hx
def bEF (n : Nat) (x : Rn) : Bool := decide (x.2 < n)
def bEA (n : Nat) (x : Rn) : Bool := decide (x.2 ≤ n)
def bBF (n : Nat) (x : Rn) : Bool := decide (x.1 < n)
def bBA (n : Nat) (x : Rn) : Bool := decide (x.1 ≤ n)
theorem NF.mono {L : List Rn} (h : NF L) (p : Rn → Bool) (hp : ∀ a b : Rn, a.1 < a.2 → a.2 < b.1 → b.1 < b.2 → p b = true → p a = true) : L.Pairwise fun a b => p b = true → p a = true := by
  have h1 := h.nonempty
  refine List.Pairwise.imp_of_mem (fun {a b} ha hb hab => ?_) h.pair
  exact hp a b (h1 a ha) hab (h1 b hb)
theorem NF.mEF {L : List Rn} (h : NF L) (n : Nat) : L.Pairwise fun a b => bEF n b = true → bEF n a = true := h.mono _ fun a b h1 h2 h3 hb => by simp [bEF] at hb ⊢; omega
theorem NF.mEA {L : List Rn} (h : NF L) (n : Nat) : L.Pairwise fun a b => bEA n b = true → bEA n a = true := h.mono _ fun a b h1 h2 h3 hb => by simp [bEA] at hb ⊢; omega
theorem NF.mBF {L : List Rn} (h : NF L) (n : Nat) : L.Pairwise fun a b => bBF n b = true → bBF n a = true := h.mono _ fun a b h1 h2 h3 hb => by simp [bBF] at hb ⊢; omega
theorem NF.mBA {L : List Rn} (h : NF L) (n : Nat) : L.Pairwise fun a b => bBA n b = true → bBA n a = true := h.mono _ fun a b h1 h2 h3 hb => by simp [bBA] at hb ⊢; omega
theorem mid_mem {p q : Rn → Bool} {L : List Rn} (hp : L.Pairwise fun a b => p b = true → p a = true) (hq : L.Pairwise fun a b => q b = true → q a = true) :
    ∀ x ∈ (L.drop (L.countP p)).take (L.countP q - L.countP p), p x = false ∧ q x = true := by
  intro x hx
  refine ⟨(split_at hp).2 x (List.mem_of_mem_take hx), ?_⟩
  have : x ∈ L.take (L.countP q) := by
    rcases Nat.lt_or_ge (L.countP q) (L.countP p) with h | h
    · rw [show L.countP q - L.countP p = 0 by omega] at hx; simp at hx
    · rw [← List.drop_take] at hx
      exact List.mem_of_mem_drop hx
  exact (split_at hq).1 x this
theorem mid_split (L : List Rn) (i j : Nat) (h : i ≤ j) : L = L.take i ++ ((L.drop i).take (j - i) ++ L.drop j) := by
  have e1 : L.drop j = (L.drop i).drop (j - i) := by rw [List.drop_drop]; congr 1; omega
  rw [e1, List.take_append_drop, List.take_append_drop]
/-! a run put in -/
def joinR (r x : Rn) : Rn := (min r.1 x.1, max r.2 x.2)
def addL (L : List Rn) (r : Rn) : List Rn :=
  L.take (L.countP (bEF r.1)) ++ ([((L.drop (L.countP (bEF r.1))).take (L.countP (bBA r.2) - L.countP (bEF r.1))).foldl joinR r] ++ L.drop (L.countP (bBA r.2)))
theorem fold_join {B : List Rn} (hB : ∀ x ∈ B, x.1 < x.2) : ∀ {r : Rn}, r.1 < r.2 → (∀ x ∈ B, r.1 ≤ x.2 ∧ x.1 ≤ r.2) →
    (B.foldl joinR r).1 < (B.foldl joinR r).2 ∧ (∀ n, inR (B.foldl joinR r) n = (inR r n || mem B n)) ∧
    (∀ c, c < r.1 → (∀ x ∈ B, c < x.1) → c < (B.foldl joinR r).1) ∧ (∀ c, r.2 < c → (∀ x ∈ B, x.2 < c) → (B.foldl joinR r).2 < c) := by
  induction B with
  | nil => intro r hr _; exact ⟨hr, fun n => by simp, fun c h _ => h, fun c h _ => h⟩
  | cons x B ih =>
    intro r hr ht
    have hx := hB x (by simp)
    have hxt := ht x (by simp)
    have hj : (joinR r x).1 < (joinR r x).2 := by simp only [joinR]; omega
    obtain ⟨h1, h2, h3, h4⟩ := ih (fun y hy => hB y (by simp [hy])) hj (fun y hy => by have := ht y (by simp [hy]); simp only [joinR]; omega)
    refine ⟨h1, fun n => ?_, fun c hc hb => h3 c (by have := hb x (by simp); simp only [joinR]; omega) fun y hy => hb y (by simp [hy]), fun c hc hb => h4 c (by have := hb x (by simp); simp only [joinR]; omega) fun y hy => hb y (by simp [hy])⟩
    rw [List.foldl_cons, h2, mem_cons]
    have : inR (joinR r x) n = (inR r n || inR x n) := by
      rw [Bool.eq_iff_iff, Bool.or_eq_true, inR_iff, inR_iff, inR_iff]
      simp only [joinR]
      omega
    rw [this, Bool.or_assoc]
theorem le_EF_BA {L : List Rn} (h : NF L) {r : Rn} (hr : r.1 < r.2) : L.countP (bEF r.1) ≤ L.countP (bBA r.2) :=
  List.countP_mono_left fun x hx hp => by have := h.nonempty x hx; simp [bEF, bBA] at hp ⊢; omega
theorem le_EA_BF {L : List Rn} (h : NF L) {r : Rn} (hr : r.1 < r.2) : L.countP (bEA r.1) ≤ L.countP (bBF r.2) :=
  List.countP_mono_left fun x hx hp => by have := h.nonempty x hx; simp [bEA, bBF] at hp ⊢; omega
theorem addL_ok {L : List Rn} (h : NF L) {r : Rn} (hr : r.1 < r.2) : NF (addL L r) ∧ ∀ n, mem (addL L r) n = (mem L n || inR r n) := by
  have hle := le_EF_BA h hr
  have hA := (split_at (h.mEF r.1)).1
  have hC := (split_at (h.mBA r.2)).2
  have hB := mid_mem (h.mEF r.1) (h.mBA r.2)
  unfold addL
  generalize hi : L.countP (bEF r.1) = i at *
  generalize hj : L.countP (bBA r.2) = j at *
  have hs := mid_split L i j hle
  generalize L.take i = A at *
  generalize (L.drop i).take (j - i) = B at *
  generalize L.drop j = C at *
  clear hi hj
  subst hs
  rw [NF_append, NF_append] at h
  obtain ⟨nA, ⟨nB, nC, hBC⟩, hABC⟩ := h
  obtain ⟨h1, h2, h3, h4⟩ := fold_join nB.nonempty hr (fun x hx => by obtain ⟨k1, k2⟩ := hB x hx; simp [bEF, bBA] at k1 k2; exact ⟨k1, k2⟩)
  refine ⟨?_, fun n => ?_⟩
  · rw [NF_append, NF_append]
    refine ⟨nA, ⟨⟨h1, by simp, trivial⟩, nC, fun a ha c hc => ?_⟩, fun a ha b hb => ?_⟩
    · obtain rfl : a = _ := by simpa using ha
      refine h4 _ (by have := hC c hc; simp [bBA] at this; omega) fun x hx => hBC x hx c hc
    · rcases List.mem_append.1 hb with hb | hb
      · obtain rfl : b = _ := by simpa using hb
        refine h3 _ (by have := hA a ha; simp [bEF] at this; omega) fun x hx => hABC a ha x (by simp [hx])
      · exact hABC a ha b (by simp [hb])
  · simp only [mem_append, mem_cons, mem_nil, Bool.or_false, h2]
    cases mem A n <;> cases mem B n <;> cases mem C n <;> cases inR r n <;> rfl
theorem addL_len (L : List Rn) (r : Rn) : (addL L r).length ≤ L.length + 1 + (L.countP (bEF r.1) - L.countP (bBA r.2)) := by
  unfold addL
  have h1 := List.countP_le_length (p := bEF r.1) (l := L)
  have h2 := List.countP_le_length (p := bBA r.2) (l := L)
  simp only [List.length_append, List.length_take, List.length_drop, List.length_cons, List.length_nil]
  omega
theorem addL_len' {L : List Rn} (h : NF L) {r : Rn} (hr : r.1 < r.2) : (addL L r).length ≤ L.length + 1 := by
  have := addL_len L r
  have := le_EF_BA h hr
  omega
theorem addL_bound {L : List Rn} (h : NF L) {r : Rn} (hr : r.1 < r.2) {E : Nat} (hL : ∀ x ∈ L, x.2 ≤ E) (hE : r.2 ≤ E) : ∀ x ∈ addL L r, x.2 ≤ E := by
  intro x hx
  obtain ⟨h1, h2⟩ := addL_ok h hr
  have hn := h1.nonempty x hx
  have hm : mem (addL L r) (x.2 - 1) = true := mem_iff.2 ⟨x, hx, by omega, by omega⟩
  rw [h2, Bool.or_eq_true] at hm
  rcases hm with hm | hm
  · obtain ⟨y, hy, _, h4⟩ := mem_iff.1 hm
    have := hL y hy
    omega
  · have := inR_iff.1 hm; omega
/-! a run taken out -/
def ne (x : Rn) : Bool := decide (x.1 < x.2)
def outs (r x : Rn) : List Rn := [(x.1, r.1), (r.2, x.2)].filter ne
def dropL (L : List Rn) (r : Rn) : List Rn :=
  L.take (L.countP (bEA r.1)) ++ (((L.drop (L.countP (bEA r.1))).take (L.countP (bBF r.2) - L.countP (bEA r.1))).flatMap (outs r) ++ L.drop (L.countP (bBF r.2)))
theorem outs_in {r x y : Rn} (h : y ∈ outs r x) (h1 : r.1 < x.2) (h2 : x.1 < r.2) : x.1 ≤ y.1 ∧ y.2 ≤ x.2 ∧ y.1 < y.2 := by
  simp only [outs, List.mem_filter, List.mem_cons, List.not_mem_nil, or_false, ne, decide_eq_true_eq] at h
  obtain ⟨rfl | rfl, h⟩ := h <;> simp at h ⊢ <;> omega
theorem outs_NF {r x : Rn} (hr : r.1 < r.2) : NF (outs r x) := by
  unfold outs
  by_cases h1 : x.1 < r.1 <;> by_cases h2 : r.2 < x.2 <;> simp [List.filter_cons, ne, h1, h2, NF, hr]
theorem outs_len (r x : Rn) : (outs r x).length ≤ 2 := List.length_filter_le _ _
theorem mem_outs {r x : Rn} (hr : r.1 < r.2) (h1 : r.1 < x.2) (h2 : x.1 < r.2) (n : Nat) : mem (outs r x) n = (inR x n && !inR r n) := by
  have e : mem (outs r x) n = (inR (x.1, r.1) n || inR (r.2, x.2) n) := by
    unfold outs
    by_cases h1 : x.1 < r.1 <;> by_cases h2 : r.2 < x.2
    · simp [List.filter_cons, ne, h1, h2]
    · have := inR_empty (r := (r.2, x.2)) (by simpa using h2) n
      simp [List.filter_cons, ne, h1, h2, this]
    · have := inR_empty (r := (x.1, r.1)) (by simpa using h1) n
      simp [List.filter_cons, ne, h1, h2, this]
    · have h3 := inR_empty (r := (r.2, x.2)) (by simpa using h2) n
      have h4 := inR_empty (r := (x.1, r.1)) (by simpa using h1) n
      simp [List.filter_cons, ne, h1, h2, h3, h4]
  rw [e]
  have e1 : ∀ z : Rn, inR z n = decide (z.1 ≤ n ∧ n < z.2) := fun z => by simp [inR]
  rw [e1, e1, e1, e1]
  by_cases k1 : x.1 ≤ n <;> by_cases k2 : n < x.2 <;> by_cases k3 : r.1 ≤ n <;> by_cases k4 : n < r.2 <;> simp [k1, k2, k3, k4] <;> omega
theorem flat_NF {r : Rn} (hr : r.1 < r.2) {B : List Rn} (h : NF B) (hB : ∀ x ∈ B, r.1 < x.2 ∧ x.1 < r.2) :
    NF (B.flatMap (outs r)) ∧ (∀ y ∈ B.flatMap (outs r), ∃ x ∈ B, x.1 ≤ y.1 ∧ y.2 ≤ x.2) ∧ ∀ n, mem (B.flatMap (outs r)) n = (mem B n && !inR r n) := by
  induction B with
  | nil => exact ⟨trivial, by simp, fun n => by simp⟩
  | cons x B ih =>
    obtain ⟨i1, i2, i3⟩ := ih h.2.2 fun y hy => hB y (by simp [hy])
    obtain ⟨k1, k2⟩ := hB x (by simp)
    rw [List.flatMap_cons]
    refine ⟨NF_append.2 ⟨outs_NF hr, i1, fun a ha b hb => ?_⟩, fun y hy => ?_, fun n => ?_⟩
    · have h1 := outs_in ha k1 k2
      obtain ⟨z, hz, h2, _⟩ := i2 b hb
      have := h.2.1 z hz
      omega
    · rcases List.mem_append.1 hy with hy | hy
      · have h1 := outs_in hy k1 k2
        exact ⟨x, by simp, h1.1, h1.2.1⟩
      · obtain ⟨z, hz, h2⟩ := i2 y hy
        exact ⟨z, by simp [hz], h2⟩
    · rw [mem_append, i3, mem_outs hr k1 k2, mem_cons]
      cases inR x n <;> cases mem B n <;> cases inR r n <;> rfl
theorem dropL_ok {L : List Rn} (h : NF L) {r : Rn} (hr : r.1 < r.2) : NF (dropL L r) ∧ ∀ n, mem (dropL L r) n = (mem L n && !inR r n) := by
  have hle := le_EA_BF h hr
  have hA := (split_at (h.mEA r.1)).1
  have hC := (split_at (h.mBF r.2)).2
  have hB := mid_mem (h.mEA r.1) (h.mBF r.2)
  unfold dropL
  generalize hi : L.countP (bEA r.1) = i at *
  generalize hj : L.countP (bBF r.2) = j at *
  have hs := mid_split L i j hle
  generalize L.take i = A at *
  generalize (L.drop i).take (j - i) = B at *
  generalize L.drop j = C at *
  clear hi hj
  subst hs
  rw [NF_append, NF_append] at h
  obtain ⟨nA, ⟨nB, nC, hBC⟩, hABC⟩ := h
  obtain ⟨h1, h2, h3⟩ := flat_NF hr nB (fun x hx => by obtain ⟨k1, k2⟩ := hB x hx; simp [bEA, bBF] at k1 k2; exact ⟨k1, k2⟩)
  refine ⟨?_, fun n => ?_⟩
  · rw [NF_append, NF_append]
    refine ⟨nA, ⟨h1, nC, fun a ha c hc => ?_⟩, fun a ha b hb => ?_⟩
    · obtain ⟨x, hx, _, hx2⟩ := h2 a ha
      have := hBC x hx c hc
      omega
    · rcases List.mem_append.1 hb with hb | hb
      · obtain ⟨x, hx, hx1, _⟩ := h2 b hb
        have := hABC a ha x (by simp [hx])
        omega
      · exact hABC a ha b (by simp [hb])
  · have eA : mem A n = (mem A n && !inR r n) := by
      cases hm : mem A n with
      | false => rfl
      | true =>
        obtain ⟨x, hx, _, k2⟩ := mem_iff.1 hm
        have := hA x hx
        simp [bEA] at this
        rw [inR_false.2 (by omega)]; rfl
    have eC : mem C n = (mem C n && !inR r n) := by
      cases hm : mem C n with
      | false => rfl
      | true =>
        obtain ⟨x, hx, k1, _⟩ := mem_iff.1 hm
        have := hC x hx
        simp [bBF] at this
        rw [inR_false.2 (by omega)]; rfl
    simp only [mem_append, h3]
    rw [eA, eC]
    cases mem A n <;> cases mem B n <;> cases mem C n <;> cases inR r n <;> rfl
theorem flat_len {r : Rn} (hr : r.1 < r.2) : ∀ {B : List Rn}, NF B → (B.flatMap (outs r)).length ≤ B.length + 1 ∧ ((∀ x ∈ B, r.1 ≤ x.1) → (B.flatMap (outs r)).length ≤ B.length)
  | [], _ => by simp
  | x :: B, h => by
    obtain ⟨i1, i2⟩ := flat_len hr h.2.2
    have h2 := outs_len r x
    have h1 := h.1
    rw [List.flatMap_cons, List.length_append, List.length_cons]
    have low : (∀ y ∈ x :: B, r.1 ≤ y.1) → (outs r x).length ≤ 1 := fun k => by
      have := k x (by simp)
      unfold outs
      rw [List.filter_cons_of_neg (by simp [ne]; omega)]
      exact List.length_filter_le _ _
    refine ⟨?_, fun k => by have := low k; have := i2 fun y hy => k y (by simp [hy]); omega⟩
    by_cases hx : r.2 < x.2
    · have := i2 fun y hy => by have := h.2.1 y hy; omega
      omega
    · have : (outs r x).length ≤ 1 := by
        unfold outs
        by_cases k : x.1 < r.1 <;> simp [List.filter_cons, ne, k, hx]
      omega
theorem dropL_len {L : List Rn} (h : NF L) {r : Rn} (hr : r.1 < r.2) : (dropL L r).length ≤ L.length + 1 := by
  have hle := le_EA_BF h hr
  have h1 := List.countP_le_length (p := bBF r.2) (l := L)
  have h2 := (flat_len hr ((h.drop (L.countP (bEA r.1))).take (L.countP (bBF r.2) - L.countP (bEA r.1)))).1
  unfold dropL
  simp only [List.length_append, List.length_take, List.length_drop] at h2 ⊢
  omega
theorem bound_of_mem {L M : List Rn} (h1 : NF L) (hm : ∀ n, mem L n = true → mem M n = true) {E : Nat} (hM : ∀ x ∈ M, x.2 ≤ E) : ∀ x ∈ L, x.2 ≤ E := by
  intro x hx
  have hn := h1.nonempty x hx
  obtain ⟨y, hy, _, h4⟩ := mem_iff.1 (hm (x.2 - 1) (mem_iff.2 ⟨x, hx, by omega, by omega⟩))
  have := hM y hy
  omega
theorem dropL_bound {L : List Rn} (h : NF L) {r : Rn} (hr : r.1 < r.2) {E : Nat} (hL : ∀ x ∈ L, x.2 ≤ E) : ∀ x ∈ dropL L r, x.2 ≤ E :=
  bound_of_mem (dropL_ok h hr).1 (fun n hn => by rw [(dropL_ok h hr).2, Bool.and_eq_true] at hn; exact hn.1) hL
/-! counts of what is put in and taken out -/
theorem cnt_add {L : List Rn} (h : NF L) {r : Rn} (hr : r.1 < r.2) {E : Nat} (hL : ∀ x ∈ L, x.2 ≤ E) (hE : r.2 ≤ E) : cnt (addL L r) + cnt (parts L r) = cnt L + (r.2 - r.1) := by
  obtain ⟨h1, h2⟩ := addL_ok h hr
  rw [cnt_parts h hE, ← h1.cnt_eq (addL_bound h hr hL hE), ← h.cnt_eq hL, cP_congr h2, cP_or, cP_run r (Nat.le_of_lt hr)]
  omega
theorem cnt_drop {L : List Rn} (h : NF L) {r : Rn} (hr : r.1 < r.2) {E : Nat} (hL : ∀ x ∈ L, x.2 ≤ E) (hE : r.2 ≤ E) : cnt (dropL L r) + cnt (parts L r) = cnt L := by
  obtain ⟨h1, h2⟩ := dropL_ok h hr
  rw [cnt_parts h hE, ← h1.cnt_eq (dropL_bound h hr hL), ← h.cnt_eq hL, cP_congr h2, cP_diff]
/-! what is in both -/
/-! the first part that lies at n or above -/
theorem head_low {L : List Rn} {n E : Nat} {r : Rn} {M : List Rn} (h : parts L (n, E) = r :: M) : n ≤ r.1 ∧ r.1 < r.2 := by
  obtain ⟨x, _, hx, hlt⟩ := parts_in (y := r) (by rw [h]; simp)
  refine ⟨?_, hlt⟩
  rw [hx]; simp only [met]; omega
theorem mem_head {L : List Rn} (h : NF L) {n E : Nat} (hE : ∀ x ∈ L, x.2 ≤ E) : mem L n = match parts L (n, E) with | [] => false | r :: _ => decide (r.1 = n) := by
  have hm : ∀ k, mem (parts L (n, E)) k = (mem L k && inR (n, E) k) := mem_parts L (n, E)
  have hN := parts_NF h (n, E)
  cases hp : parts L (n, E) with
  | nil =>
    have := hm n
    rw [hp] at this
    cases hmn : mem L n with
    | false => rfl
    | true =>
      obtain ⟨x, hx, h1, h2⟩ := mem_iff.1 hmn
      have := hE x hx
      have e := hm n
      rw [hp, hmn, inR_iff.2 ⟨Nat.le_refl _, by show n < E; omega⟩] at e
      simp at e
  | cons r M =>
    have hlow := head_low hp
    rw [hp] at hm hN
    have hrE : r.2 ≤ E := by
      have := parts_bound (L := L) (r := (n, E)) (E := E) (Nat.le_refl _) r (by rw [hp]; simp)
      exact this
    have hn : inR (n, E) n = true := inR_iff.2 ⟨Nat.le_refl _, by show n < E; omega⟩
    have := hm n
    rw [hn, Bool.and_true] at this
    rw [← this]
    by_cases e : r.1 = n
    · rw [mem_cons, inR_iff.2 (by omega)]; simp [e]
    · have h3 : mem (r :: M) n = false := by
        cases hh : mem (r :: M) n with
        | false => rfl
        | true => have := hN.ge hh; omega
      rw [h3]; simp [e]
end Go.Proofs.YtmpajlpemabniaaGreat
