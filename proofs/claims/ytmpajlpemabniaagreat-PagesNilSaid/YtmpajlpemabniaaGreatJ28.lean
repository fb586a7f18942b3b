/-
  Same of package cell, and the document's, by their contracts. No claim of their own.
-/
import Derived.Test.YtmpajlpemabniaaGreatJ27
import Derived.Laws.IdiomStrings
import Derived.Laws.BytesString
import Derived.Test.YtmpajlpemabniaaGreatJ22
import Derived.Test.YtmpajlpemabniaaGreatJ26
import Derived.Test.YtmpajlpemabniaaGreatJ2
namespace Go.Proofs.YtmpajlpemabniaaGreat
open Go.RowKit Go.Deep
set_option linter.unusedVariables false
set_option linter.unusedSimpArgs false

set_option maxHeartbeats 400000 in
theorem bytesEqual_any (xs ys : List UInt8) (n m : Nat) (a a2 : Option Addr) (c c2 B : Nat) (w : World) (hn : xs.length = n) (hm : ys.length = m) (h : Ro w B a (u8s xs)) (h2 : Ro w B a2 (u8s ys)) :
    Calls Tryz.prog 72 #[.slice a n c, .slice a2 m c2] w fun e w' => e = .returned (.bool (decide (xs = ys))) ∧ w' = w := by
  have e1 := conv_ro (c := c) h hn
  have e2 := conv_ro (c := c2) h2 hm
  have HN := Lib.hid hn
  have HM := Lib.hid hm
  clear hn hm
  go_enter Tryz.func72, Tryz.ntmps72
  go_wp2
  go_ret
  refine ⟨ret_bool ?_, rfl⟩
  by_cases e : xs = ys <;> simp [e]

theorem take_succ_eqB {A B : List Bk} {k : Nat} (ha : k < A.length) (hb : k < B.length) (ht : A.take k = B.take k) (he : bk A k = bk B k) : A.take (k + 1) = B.take (k + 1) := by
  rw [bk_take ha, bk_take hb, ht, he]
theorem ne_of_bk {A B : List Bk} {k : Nat} (he : bk A k ≠ bk B k) : decide (A = B) = false := by
  simp only [decide_eq_false_iff_not]
  rintro rfl
  exact he rfl
set_option maxHeartbeats 2000000 in
theorem equalBacks_any (w : World) (a b : Option Addr) (A B : List Bk) (c d n m B0 : Nat) (hn : A.length = n) (hm : B.length = m) (ha : Ro w B0 a (bcs A)) (hb : Ro w B0 b (bcs B)) (hl : n ≤ 9223372036854775807) (hl2 : m ≤ 9223372036854775807) :
    Calls Tryz.prog 73 #[.slice a n c, .slice b m d] w fun e w' => e = .returned (.bool (decide (A = B))) ∧ Qt w w' := by
  have HN := Lib.hid hn
  have HM := Lib.hid hm
  have HA := Lib.hid ha
  have HB := Lib.hid hb
  clear ha hb hn hm
  go_enter Tryz.func73, Tryz.ntmps73
  by_cases hnm : n = m
  · subst hnm
    go_wp2_with fail
    go_loopw [13] (fun i wr => ∃ k : Nat, i = .int .i64 k ∧ k ≤ n ∧ Hid (A.take k = B.take k) ∧ Qt w wr) (fun i _ => n - (Go.RowKit.intOf i).toNat)
    case atStart => exact ⟨0, rfl, Nat.zero_le _, Lib.hid rfl, Qt.refl _⟩
    case round =>
      obtain ⟨k, rfl, hk, HT, hq⟩ := hrel
      by_cases hlt : k < n
      · have hkA : k < A.length := by rw [HN.out]; exact hlt
        have hkB : k < B.length := by rw [HM.out]; exact hlt
        obtain ⟨g, off, rfl, hg, hcl⟩ := (HA.out.qt hq).bk (by omega)
        obtain ⟨g', off', rfl, hg', hcl'⟩ := (HB.out.qt hq).bk (by omega)
        obtain ⟨h1, h2, h3⟩ := hcl k hkA
        obtain ⟨h4, h5, h6⟩ := hcl' k hkB
        have HTS := Lib.hid (take_succ_eqB hkA hkB HT.out)
        have HNE := Lib.hid (@ne_of_bk A B k)
        clear hcl hcl'
        generalize bk A k = x at *
        generalize bk B k = y at *
        have hk0 : (0 : Int) ≤ (k : Int) := by omega
        have hk1 : (k : Int) < (n : Int) := by omega
        have HQ := Lib.hid hq
        clear hq
        by_cases hxy : x = y
        · subst hxy
          have hN : ∀ W, (binOp .neq 143 (bkv x) (bkv x)).run Tryz.prog W = .ok (.bool false) W := fun W => by rw [neq_back]; simp
          go_wp2_with fail
          go_region
          go_wp2_with fail
          go_roundw
          case rel => exact ⟨k + 1, by go_num, by omega, Lib.hid (HTS.out trivial), by first | exact HQ.out | exact HQ.out.trans ⟨1, rfl⟩⟩
          case measure => simp [Go.RowKit.intOf]; omega
        · have hN : ∀ W, (binOp .neq 143 (bkv x) (bkv y)).run Tryz.prog W = .ok (.bool true) W := fun W => by rw [neq_back]; simp [hxy]
          have HF := Lib.hid (HNE.out hxy)
          go_wp2_with fail
          go_region
          go_wp2_with fail
          go_ret
          exact ⟨by rw [HF.out]; rfl, by first | exact HQ.out | exact HQ.out.trans ⟨1, rfl⟩⟩
      · have ht' : decide (A = B) = true := by
          have ht := HT.out
          rw [List.take_of_length_le (by rw [HN.out]; omega), List.take_of_length_le (by rw [HM.out]; omega)] at ht
          simpa using ht
        obtain rfl : k = n := by omega
        have HF := Lib.hid ht'
        clear ht'
        go_wp2_with fail
        go_ret
        exact ⟨by rw [HF.out]; rfl, hq⟩
  · have hd0 : ((n : Int) != (m : Int)) = true := by rw [bne_iff_ne]; omega
    have HF := Lib.hid (show decide (A = B) = false by simp only [decide_eq_false_iff_not]; rintro rfl; exact hnm (HN.out.symm.trans HM.out))
    go_wp2_with fail
    go_ret
    exact ⟨by rw [HF.out]; rfl, Qt.refl _⟩

/-- are two cells alike? -/
def alike (x y : Ce) : Bool := decide (x.k = y.k) && decide (x.d = y.d) && decide (x.b = y.b)
theorem alike_iff {x y : Ce} : alike x y = true ↔ x = y := by
  unfold alike
  simp only [Bool.and_eq_true, decide_eq_true_eq]
  constructor
  · rintro ⟨⟨h1, h2⟩, h3⟩; exact Ce.ext' h1 h2 h3
  · rintro rfl; exact ⟨⟨rfl, rfl⟩, rfl⟩

set_option maxHeartbeats 1000000 in
theorem same_any (x y : Ce) (a : Option Addr) (c : Nat) (a2 : Option Addr) (c2 : Nat) (b : Option Addr) (d : Nat) (b2 : Option Addr) (d2 B : Nat) (w : World) (hx : Ro w B a (u8s x.d)) (hx2 : Ro w B a2 (bcs x.b)) (hy : Ro w B b (u8s y.d)) (hy2 : Ro w B b2 (bcs y.b)) (hB : B ≤ w.heap.size)
    (hl : x.b.length ≤ 9223372036854775807) (hl2 : y.b.length ≤ 9223372036854775807) :
    Calls Tryz.prog 33 #[cev x.k a x.d.length c a2 x.b.length c2, cev y.k b y.d.length d b2 y.b.length d2] w fun e w' => e = .returned (.bool (alike x y)) ∧ Below w.heap.size w w' := by
  obtain ⟨k, l, L⟩ := x
  obtain ⟨k', l', L'⟩ := y
  simp only at hx hx2 hy hy2 hl hl2 ⊢
  have hbA : Below B w ((w.alloc (.cells #[.int .i64 k, .slice a l.length c, .slice a2 L.length c2] 42)).alloc (.cells #[.int .i64 k', .slice b l'.length d, .slice b2 L'.length d2] 42)) := ((Below.refl B w).alloc hB _).alloc (by simp; omega) _
  have H1 := Lib.hid (bytesEqual_any l l' l.length l'.length a b c d B _ rfl rfl (hx.below hbA (Nat.le_refl _)) (hy.below hbA (Nat.le_refl _)))
  have H2 := Lib.hid (equalBacks_any _ a2 b2 L L' c2 d2 L.length L'.length B rfl rfl (hx2.below hbA (Nat.le_refl _)) (hy2.below hbA (Nat.le_refl _)) hl hl2)
  obtain ⟨t, HT⟩ : ∃ t, Hid (alike ⟨k, l, L⟩ ⟨k', l', L'⟩ = t) := ⟨_, Lib.hid rfl⟩
  rw [HT.out]
  obtain ⟨t1, HT1⟩ : ∃ t, Hid (decide (l = l') = t) := ⟨_, Lib.hid rfl⟩
  obtain ⟨t2, HT2⟩ : ∃ t, Hid (decide (L = L') = t) := ⟨_, Lib.hid rfl⟩
  rw [HT1.out] at H1
  rw [HT2.out] at H2
  clear hbA hx hx2 hy hy2
  generalize l.length = n at *
  generalize l'.length = n' at *
  generalize L.length = m at *
  generalize L'.length = m' at *
  by_cases e1 : k = k'
  · subst e1
    cases t1 with
    | true =>
      obtain rfl : t = t2 := by rw [← HT.out]; unfold alike; simp only [HT1.out, HT2.out]; simp
      go_enter Tryz.func33, Tryz.ntmps33
      go_wp2_with fail
      refine H1.out.mono ?_
      rintro e w' ⟨rfl, rfl⟩
      go_wp2_with fail
      refine H2.out.mono ?_
      rintro e w' ⟨rfl, hq⟩
      have HQ := Lib.hid hq
      clear hq
      go_wp2_with fail
      go_ret
      exact ⟨rfl, HQ.out.below (((Below.refl _ _).alloc (Nat.le_refl _) _).alloc (by simp) _)⟩
    | false =>
      obtain rfl : t = false := by rw [← HT.out]; unfold alike; simp only [HT1.out]; simp
      go_enter Tryz.func33, Tryz.ntmps33
      go_wp2_with fail
      refine H1.out.mono ?_
      rintro e w' ⟨rfl, rfl⟩
      go_wp2_with fail
      go_ret
      exact ⟨rfl, ((Below.refl _ _).alloc (Nat.le_refl _) _).alloc (by simp) _⟩
  · obtain rfl : t = false := by rw [← HT.out]; unfold alike; simp [e1]
    have h1 : (k == k') = false := by rw [beq_eq_false_iff_ne]; omega
    clear e1
    go_enter Tryz.func33, Tryz.ntmps33
    go_wp2_with fail
    go_ret
    exact ⟨rfl, ((Below.refl _ _).alloc (Nat.le_refl _) _).alloc (by simp) _⟩
end Go.Proofs.YtmpajlpemabniaaGreat
namespace Go.Proofs.YtmpajlpemabniaaGreat
open Go.RowKit Go.Deep
set_option linter.unusedVariables false
set_option linter.unusedSimpArgs false

set_option maxHeartbeats 1000000 in
theorem decode_j (a : Option Addr) (c B : Nat) (w : World) (h : Ro w B a (u8s [2])) (hB : B ≤ w.heap.size) :
    Calls Tryz.prog 89 #[.slice a 1 c] w fun e w' => e = .returned (.tuple #[cev 2 none 0 0 none 0 0, .int .i64 0]) ∧ Below w.heap.size w w' := by
  obtain ⟨b, off, rfl, hb0, hcl⟩ := h.u8 (by simp)
  have hc0 := hcl 0 (by simp)
  have hblt : b < w.heap.size := by omega
  change w.cell? ⟨b, off, none⟩ = some (.int .u8 2) at hc0
  clear h hcl
  go_enter Tryz.func89, Tryz.ntmps89
  go_wp2_with fail
  refine bodyPost_ret (v := .tuple #[cev 2 none 0 0 none 0 0, .int .i64 0]) (by simp [results, Tryz.results89, go_sem]) rfl ⟨rfl, ?_⟩
  exact (Below.refl w.heap.size w).alloc (Nat.le_refl _) _

/-- bytes of a valid cell -/
theorem dec_yes (bs : List UInt8) (n : Nat) (a : Option Addr) (c B : Nat) (w : World) (hn : bs.length = n) (h : Ro w B a (u8s bs)) (hB : B ≤ w.heap.size) (hnc : n ≤ c) (hc : c ≤ 9223372036854775807) (hl : n ≤ 1000000) (x : Ce) (hx : IsEnc x bs) (hr : right x = true) :
    Calls Tryz.prog 89 #[.slice a n c] w (DcP w x (.int .i64 0)) := by
  rcases right_kind hr with hk | hk
  · exact decode_c bs n a c B w hn h hB hnc hc hl x (dec_of_enc hx hr hk) hr
  · obtain rfl := right_junk hr hk
    rcases hx with ⟨_, rfl⟩ | ⟨h1, _⟩
    · subst hn
      refine (decode_j a c B w h hB).mono ?_
      rintro e w' ⟨rfl, hb⟩
      exact ⟨none, 0, none, 0, rfl, Ro.nil _ _ _, Ro.nil _ _ _, (fun ad e => nomatch e), (fun ad e => nomatch e), hb⟩
    · simp at h1
/-- bytes of none -/
theorem dec_no (bs : List UInt8) (n : Nat) (a : Option Addr) (c B : Nat) (w : World) (hn : bs.length = n) (h : Ro w B a (u8s bs)) (hB : B ≤ w.heap.size) (hnc : n ≤ c) (hc : c ≤ 9223372036854775807) (hl : n ≤ 1000000) (hno : ∀ x, right x = true → ¬ IsEnc x bs) :
    Calls Tryz.prog 89 #[.slice a n c] w fun e w' => e = .returned (.tuple #[cev 0 none 0 0 none 0 0, .int .i64 71]) ∧ Below w.heap.size w w' := by
  have h2 : bs ≠ [2] := fun e => hno ⟨2, [], []⟩ rfl (.inl ⟨rfl, e⟩)
  by_cases hx : ∃ x, IsDec bs x
  · obtain ⟨x, hx⟩ := hx
    cases hr : right x with
    | true => exact absurd (enc_of_dec hx hr) (hno x hr)
    | false => exact decode_b bs n a c B w hn h hB hnc hc hl x hx hr
  · exact decode_a bs n a c B w hn h hB hnc hc hl h2 (fun x hd => hx ⟨x, hd⟩)

/-- is a cell one that is asked about? -/
def fitsC (x : Ce) : Bool := decide (x.d.length ≤ 400) && decide (x.b.length ≤ 30)
set_option maxHeartbeats 400000 in
theorem fits_any (k : Int) (a : Option Addr) (n c : Nat) (a2 : Option Addr) (n2 c2 : Nat) (w : World) :
    Calls Tryz.prog 48 #[cev k a n c a2 n2 c2] w fun e w' => e = .returned (.bool (decide (n ≤ 400) && decide (n2 ≤ 30))) ∧ Below w.heap.size w w' := by
  by_cases h : n ≤ 400
  · have h1 : decide (n ≤ 400) = true := by simpa using h
    rw [h1, Bool.true_and]
    go_enter Tryz.func48, Tryz.ntmps48
    go_wp2_with fail
    go_ret
    exact ⟨ret_bool (by rw [decide_eq_decide]; omega), (Below.refl _ _).alloc (Nat.le_refl _) _⟩
  · have h1 : decide (n ≤ 400) = false := by simpa using h
    rw [h1, Bool.false_and]
    go_enter Tryz.func48, Tryz.ntmps48
    go_wp2_with fail
    go_ret
    exact ⟨rfl, (Below.refl _ _).alloc (Nat.le_refl _) _⟩

def aliveC : Ce := ⟨1, [97, 98], [(3, 7, 18446744073709551615)]⟩
theorem alive_right : right aliveC = true := by decide
theorem alive_enc : IsEnc aliveC [72, 35, 0, 0, 60, 0, 0, 0, 97, 98] := .inr ⟨rfl, [72, 35, 0, 0, 60, 0, 0, 0], ⟨by decide, by decide⟩, rfl⟩
end Go.Proofs.YtmpajlpemabniaaGreat
namespace Go.Proofs.YtmpajlpemabniaaGreat
open Go.RowKit Go.Maps Go.Shelf Go.Deep
set_option linter.unusedVariables false
set_option linter.unusedSimpArgs false

/-- a cell's value in memory: it reads as x; its blocks are among C -/
structure CellV (w : World) (C : List Nat) (A : CeT) : Prop where
  d : Ro w w.heap.size A.a (u8s A.x.d)
  b : Ro w w.heap.size A.a2 (bcs A.x.b)
  da : A.x.d ≠ [] → ∀ ad, A.a = some ad → ad.block ∈ C
  ba : A.x.b ≠ [] → ∀ ad, A.a2 = some ad → ad.block ∈ C
theorem Ro.chg2 {l : List Nat} {w w' : World} {a : Option Addr} {vs : List Value} (h : Ro w w.heap.size a vs) (hc : Chg l w w') (hl : ∀ ad, a = some ad → ad.block ∉ l) : Ro w' w'.heap.size a vs :=
  (h.chgs2 hc (fun _ => hl)).mono hc.size
theorem Ro.chg3 {l : List Nat} {w w' : World} {a : Option Addr} {vs : List Value} (h : Ro w w.heap.size a vs) (hc : Chg l w w') (hl : vs ≠ [] → ∀ ad, a = some ad → ad.block ∉ l) : Ro w' w'.heap.size a vs :=
  (h.chgs2 hc hl).mono hc.size
theorem CellV.chg {l : List Nat} {w w' : World} {C : List Nat} {A : CeT} (h : CellV w C A) (hc : Chg l w w') (hl : ∀ x ∈ C, x ∉ l) : CellV w' C A :=
  ⟨h.d.chg3 hc (fun h0 ad e => hl _ (h.da (fun e0 => h0 (by rw [e0]; rfl)) ad e)), h.b.chg3 hc (fun h0 ad e => hl _ (h.ba (fun e0 => h0 (by rw [e0]; rfl)) ad e)), h.da, h.ba⟩
theorem CellV.mono {w : World} {C C' : List Nat} {A : CeT} (h : CellV w C A) (hC : ∀ x ∈ C, x ∈ C') : CellV w C' A := ⟨h.d, h.b, fun h0 ad e => hC _ (h.da h0 ad e), fun h0 ad e => hC _ (h.ba h0 ad e)⟩
/-- a new cell: its blocks are new -/
structure NewC (w w' : World) (A : CeT) : Prop where
  d : Ro w' w'.heap.size A.a (u8s A.x.d)
  b : Ro w' w'.heap.size A.a2 (bcs A.x.b)
  da : ∀ ad, A.a = some ad → w.heap.size ≤ ad.block
  ba : ∀ ad, A.a2 = some ad → w.heap.size ≤ ad.block
/-- its blocks -/
def CeT.blocks (A : CeT) : List Nat := (if A.x.d.length = 0 then [] else (A.a.map (·.block)).toList) ++ (if A.x.b.length = 0 then [] else (A.a2.map (·.block)).toList)
theorem CeT.mem_a {A : CeT} {ad : Addr} (h0 : A.x.d ≠ []) (h : A.a = some ad) : ad.block ∈ A.blocks := by
  have h1 : ¬ A.x.d.length = 0 := fun e => h0 (List.eq_nil_of_length_eq_zero e)
  simp only [CeT.blocks, if_neg h1, h]; simp
theorem CeT.mem_b {A : CeT} {ad : Addr} (h0 : A.x.b ≠ []) (h : A.a2 = some ad) : ad.block ∈ A.blocks := by
  have h1 : ¬ A.x.b.length = 0 := fun e => h0 (List.eq_nil_of_length_eq_zero e)
  simp only [CeT.blocks, if_neg h1, h]; simp
theorem NewC.cellV {w w' : World} {A : CeT} (h : NewC w w' A) : CellV w' A.blocks A := ⟨h.d, h.b, fun h0 _ e => CeT.mem_a h0 e, fun h0 _ e => CeT.mem_b h0 e⟩
theorem CeT.blocks_of {A : CeT} {x : Nat} (hx : x ∈ A.blocks) : (A.x.d ≠ [] ∧ ∃ ad, A.a = some ad ∧ x = ad.block) ∨ (A.x.b ≠ [] ∧ ∃ ad, A.a2 = some ad ∧ x = ad.block) := by
  unfold CeT.blocks at hx
  rcases List.mem_append.1 hx with hx | hx
  · by_cases h0 : A.x.d.length = 0
    · rw [if_pos h0] at hx; cases hx
    · rw [if_neg h0] at hx
      refine .inl ⟨fun e => h0 (by rw [e]; rfl), ?_⟩
      cases ha : A.a with
      | none => rw [ha] at hx; simp at hx
      | some ad => rw [ha] at hx; simp at hx; exact ⟨ad, rfl, hx⟩
  · by_cases h0 : A.x.b.length = 0
    · rw [if_pos h0] at hx; cases hx
    · rw [if_neg h0] at hx
      refine .inr ⟨fun e => h0 (by rw [e]; rfl), ?_⟩
      cases ha : A.a2 with
      | none => rw [ha] at hx; simp at hx
      | some ad => rw [ha] at hx; simp at hx; exact ⟨ad, rfl, hx⟩
theorem NewC.new {w w' : World} {A : CeT} (h : NewC w w' A) : ∀ x ∈ A.blocks, w.heap.size ≤ x ∧ x < w'.heap.size := by
  intro x hx
  rcases CeT.blocks_of hx with ⟨h0, ad, ha, rfl⟩ | ⟨h0, ad, ha, rfl⟩
  · obtain ⟨g, off, e, hg, _⟩ := h.d.at_ (by intro e; have := congrArg List.length e; simp at this; exact h0 this)
    rw [ha] at e
    injection e with e
    subst e
    exact ⟨h.da _ ha, hg⟩
  · obtain ⟨g, off, e, hg, _⟩ := h.b.at_ (by intro e; have := congrArg List.length e; simp at this; exact h0 (List.eq_nil_of_length_eq_zero (by omega)))
    rw [ha] at e
    injection e with e
    subst e
    exact ⟨h.ba _ ha, hg⟩
theorem bclone_any (bs : List UInt8) (n : Nat) (a : Option Addr) (c B : Nat) (w : World) (hn : bs.length = n) (h : Ro w B a (u8s bs)) (hB : B ≤ w.heap.size) (hl : n ≤ 1000000) :
    Calls Tryz.prog 126 #[.slice a n c] w (ClP w bs n) := by
  cases a with
  | some ad => exact clone_any bs n (some ad) c B w hn h hB (fun e => nomatch e) hl
  | none =>
    have h0 : bs = [] := by
      rcases h with h | ⟨b, off, h, _⟩
      · have := congrArg List.length h; simp at this; exact this
      · cases h
    subst h0
    subst hn
    have hnil := fun W => eql_nil none 0 c W
    simp only [Option.isNone_none] at hnil
    go_enter Tryz.func126, Tryz.ntmps126
    go_wp2
    go_ret
    unfold ClP
    exact ⟨none, 0, rfl, Ro.nil _ _ _, (fun ad h => nomatch h), Below.refl _ _⟩
theorem infoBk : (Tryz.prog.info? 143).map (fun i => (i.zero, i.size, i.bytes)) = some (some (.agg #[.int .i64 0, .int .u64 0, .int .u64 0]), 3, 24) := by kernel_rfl
theorem sizeOfBk (w : World) : (Go.sizeOf 143).run Tryz.prog w = .ok 3 w := by
  obtain ⟨i, hi, hzz⟩ := Option.map_eq_some_iff.1 infoBk
  simp only [Prod.mk.injEq] at hzz
  simp [sizeOf, typeInfo, hi, hzz.2.1]
theorem kclone_empty (w : World) (a : Addr) (c : Nat) :
    Calls Tryz.prog 127 #[.slice (some a) 0 c] w fun e w' => ∃ a' c', e = .returned (.slice a' (0 : Nat) c') ∧ Ro w' w'.heap.size a' (bcs []) ∧ (∀ ad, a' = some ad → w.heap.size ≤ ad.block) ∧ Below w.heap.size w w' := by
  have q22 : ∀ (w : World) (a : Option Addr) (n c n' c' : Nat), (binOp .eql 40 (.slice a n c) (.slice none n' c')).run Tryz.prog w = .ok (.bool a.isNone) w := fun w a n c n' c' => Lib.run_eql_slice_nil w _ _ a n c n' c' Tryz.underlying40
  have hrun : ∀ (ty : TypeId) (W : World), (Builtin.append_ #[40, 40] ty #[.slice (some ⟨W.heap.size, 0, none⟩) 0 0, .slice (some a) 0 c]).run Tryz.prog (W.alloc (.cells #[] 143)) = .ok (.slice (some ⟨W.heap.size, 0, none⟩) 0 0) (W.alloc (.cells #[] 143)) := by
    intro ty W
    obtain ⟨i0, hi0, hzz⟩ := Option.map_eq_some_iff.1 infoBk
    have hl : ∀ (x : Addr) W, (loadCells x 0).run Tryz.prog W = .ok #[] W := fun x W => by simpa using run_loadCells_list (P := Tryz.prog) W x [] (by simp)
    simp [Builtin.append_, run_underlying Tryz.underlying40, sizeOf, typeInfo, hi0, Builtin.lenOf, Builtin.firstCells, storeCells, hl]
  go_enter Tryz.func127, Tryz.ntmps127
  go_wp2_with (at_builtin; refine Lib.wpList_append_run _ rfl _ _ _ _ rfl _ _ rfl rfl _ _ (hrun _ _) ?_)
  go_ret
  exact ⟨some ⟨w.heap.size, 0, none⟩, 0, rfl, Ro.nil _ _ _, (fun ad e => by cases e; exact Nat.le_refl _), (Below.refl _ _).alloc (Nat.le_refl _) _⟩
/-- slices.Clone of Backs -/
theorem kclone_any (w : World) (a : Option Addr) (c B : Nat) (L : List Bk) (hro : Ro w B a (bcs L)) (hl : L.length ≤ 1000000) :
    Calls Tryz.prog 127 #[.slice a L.length c] w fun e w' => ∃ a' c', e = .returned (.slice a' L.length c') ∧ Ro w' w'.heap.size a' (bcs L) ∧ (∀ ad, a' = some ad → w.heap.size ≤ ad.block) ∧ Below w.heap.size w w' := by
  rcases a with _ | ⟨b, off, spot⟩
  · have h0 : L.length = 0 := by
      rcases hro with h | ⟨b, off, h, _⟩
      · have := congrArg List.length h; simp at this; omega
      · cases h
    obtain rfl : L = [] := List.eq_nil_of_length_eq_zero h0
    refine (AnyE.slices_Clone_nil cloneK 0 c w).mono fun e w' ⟨he, hw⟩ => ⟨none, 0, he, Ro.nil _ _ _, (fun ad h => nomatch h), by rw [hw]; exact Below.refl _ _⟩
  · obtain ⟨i0, hi0, hzz⟩ := Option.map_eq_some_iff.1 infoBk
    simp only [Prod.mk.injEq] at hzz
    obtain ⟨hz0, hzs, hzb⟩ := hzz
    rcases Nat.eq_zero_or_pos L.length with h0 | h0
    · obtain rfl : L = [] := List.eq_nil_of_length_eq_zero h0
      exact kclone_empty w _ c
    · obtain ⟨b', off', e, hb, hc⟩ := hro.at_ (by intro e; have e2 := congrArg List.length e; simp at e2; omega)
      cases e
      have := AnyE.slices_Clone cloneK i0 (.agg #[.int .i64 0, .int .u64 0, .int .u64 0]) 3 24 hi0 hz0 hzs hzb rfl (by omega) sizeOfBk b off L.length c (bcs L) w (by simp) (by unfold maxLen; omega) (by omega) (fun j u hu => by
        have hj := (List.getElem?_eq_some_iff.1 hu).1
        rw [hc j hj]
        simp [List.getD, hu]) (bcs_one L)
      refine Calls.mono (R' := _) this fun e w' ⟨v, he, hr, _, hb⟩ => ?_
      rcases hr.2 with ⟨rfl, hz⟩ | ⟨g, cap, cur, rfl, hg1, hg2, hg3, hg4, hg5, hg6⟩
      · omega
      · refine ⟨some ⟨g, 0, none⟩, cap, he, ?_, (fun ad e => by cases e; exact hg1), hb⟩
        refine .inr ⟨g, 0, rfl, (Array.getElem?_eq_some_iff.1 hg2).1, fun i hi => ?_⟩
        rw [Nat.zero_add, cell_of_row w' g i cur _ (0, 0) hg2]
        have h9 : cur.toList[i]? = (bcs L)[i]? := by
          rw [← hg6, List.getElem?_take, if_pos (by rw [bcs_length] at hi; exact hi)]
        have h10 : cur[i]? = (bcs L)[i]? := by rw [← h9]; simp
        rw [h10, List.getD_eq_getElem?_getD, List.getElem?_eq_getElem hi]
        rfl
end Go.Proofs.YtmpajlpemabniaaGreat
