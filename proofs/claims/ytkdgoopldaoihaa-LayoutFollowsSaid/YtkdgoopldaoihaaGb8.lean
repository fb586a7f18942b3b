/-
  Backs and arrays of addresses compared whole. Plain lemmas, no claim of their own.
-/
import Derived.Test.YtkdgoopldaoihaaGb5
import Derived.Laws.StructEq
import Derived.Laws.IdiomStrings
import Derived.Laws.BytesString
import Derived.Test.YtkdgoopldaoihaaGb2
import Derived.Test.YtkdgoopldaoihaaGb6
import Derived.Deep.Cut
namespace Go.Proofs.Ytkdgoopldaoihaa
open Go.RowKit Go.Deep
set_option linter.unusedVariables false
set_option linter.unusedSimpArgs false

theorem run_part_cell {P : Program} {e : TypeId} {k : IntKind} (he : P.underlying e = some (.int k)) {xs : Array Value} {off : Nat} {v : Value} (hx : xs[off]? = some v) (w : World) : (part e xs off).run P w = .ok v w := by
  unfold part
  have ha : (isAgg e).run P w = .ok false w := by
    unfold isAgg; rw [Sem.run_bind, run_underlying he w]; rfl
  rw [Sem.run_bind, ha]
  simp [hx]
end Go.Proofs.Ytkdgoopldaoihaa
namespace Go.Proofs.Ytkdgoopldaoihaa
open Go.RowKit Go.Deep
set_option linter.unusedVariables false
set_option linter.unusedSimpArgs false

theorem conv_ro {w : World} {B len c : Nat} {a : Option Addr} {bs : List UInt8} (h : Ro w B a (u8s bs)) (hl : bs.length = len) :
    (convert 26 9 (.slice a len c)).run Try.prog w = .ok (.string ⟨bs.toArray⟩) w := by
  subst hl
  by_cases h0 : 0 < bs.length
  · obtain ⟨b, off, rfl, hb, hc⟩ := h.u8 h0
    exact run_convert_bytes_back w _ _ _ _ _ bs Try.underlying26 Try.underlying5 Try.underlying9 fun j hj => by
      rw [add_off, hc j hj]
      simp [List.getD, hj]
  · have e : bs = [] := List.eq_nil_of_length_eq_zero (by omega)
    subst e
    rw [run_convert_bytes_string w _ _ _ a _ c Try.underlying26 Try.underlying5 Try.underlying9]
    cases a <;> simp [Conv.bytesToString, loadCells]
    all_goals rfl

set_option maxHeartbeats 400000 in
theorem bytesEqual_any (xs ys : List UInt8) (n m : Nat) (a a2 : Option Addr) (c c2 B : Nat) (w : World) (hn : xs.length = n) (hm : ys.length = m) (h : Ro w B a (u8s xs)) (h2 : Ro w B a2 (u8s ys)) :
    Calls Try.prog 33 #[.slice a n c, .slice a2 m c2] w fun e w' => e = .returned (.bool (decide (xs = ys))) ∧ w' = w := by
  have e1 := conv_ro (c := c) h hn
  have e2 := conv_ro (c := c2) h2 hm
  have HN := Lib.hid hn
  have HM := Lib.hid hm
  clear hn hm
  go_enter Try.func33, Try.ntmps33
  go_wp2
  go_ret
  refine ⟨ret_bool ?_, rfl⟩
  by_cases e : xs = ys <;> simp [e]

theorem take_succ_eqB {A B : List Bk} {k : Nat} (ha : k < A.length) (hb : k < B.length) (ht : A.take k = B.take k) (he : bk A k = bk B k) : A.take (k + 1) = B.take (k + 1) := by
  rw [bk_take ha, bk_take hb, ht, he]
theorem ne_of_bk {A B : List Bk} {k : Nat} (he : bk A k ≠ bk B k) : decide (A = B) = false := by
  simp only [decide_eq_false_iff_not]
  rintro rfl
  exact he rfl
/-- are two cells alike? -/
def alike (x y : Ce) : Bool := decide (x.k = y.k) && decide (x.d = y.d) && decide (x.b = y.b)
theorem alike_iff {x y : Ce} : alike x y = true ↔ x = y := by
  unfold alike
  simp only [Bool.and_eq_true, decide_eq_true_eq]
  constructor
  · rintro ⟨⟨h1, h2⟩, h3⟩; exact Ce.ext' h1 h2 h3
  · rintro rfl; exact ⟨⟨rfl, rfl⟩, rfl⟩

end Go.Proofs.Ytkdgoopldaoihaa
namespace Go.Proofs.Ytkdgoopldaoihaa
open Go.RowKit Go.Deep
set_option linter.unusedVariables false
set_option linter.unusedSimpArgs false

/-- a message -/
structure Mg where
  k : Int
  fr : Int × Int
  to : Int × Int
  id : Int
  f : Int
  ep : Nat
  ad : Nat
  er : Int
  c : Ce
  st : List Int
  bk : List Bk
  ba : Int × Int
  pr : Int × Int
  ly : Ly

/-! ### valid ones -/
def noC : Ce := ⟨0, [], []⟩
def noL : Ly := ⟨0, [], 0⟩
def isReq (k : Int) : Bool := decide (1 ≤ k) && decide (k ≤ 13)
def kindsOk (k f : Int) : Bool := if k = 14 then isReq f else isReq k && decide (f = 0)
def blw (n l : Int) : Bool := decide (0 ≤ n) && decide (n < l)
def plMost (r : Int) : Int := if r = 1 ∨ r = 2 then 32 else if r = 3 then 3 else if r = 4 then 4 else 0
def plOk (p : Int × Int) : Bool := blw p.2 (plMost p.1)
def baOk (b : Int × Int) : Bool := blw b.1 65536 && blw b.2 4
/-- the least stream that may come ahead of the k-th -/
def leastI (L : List Int) (k : Nat) : Int := if k = 0 then 0 else wrap64 (L.getD (k - 1) 0 + 1)
def mis (m s : Int) : Bool := decide (s < m) || decide (16 ≤ s)
def stOk (L : List Int) : Bool := decide (L.length ≤ 4) && !anyN (fun k => mis (leastI L k) (L.getD k 0)) L.length
def mbad (m : Int) (b : Bk) : Bool := mis m b.1 || !right ⟨1, [], [b]⟩
def mbOk (L : List Bk) : Bool := !anyN (fun k => mbad (least L k) (bk L k)) L.length
def mcOk (c : Ce) : Bool := right c || alike c noC
def lalike (x y : Ly) : Bool := decide (x.e = y.e) && (decide (x.q = y.q) && decide (x.s = y.s))
def mlOk (l : Ly) : Bool := lright l || lalike l noL
def mright (x : Mg) : Bool := kindsOk x.k x.f && (plOk x.fr && (plOk x.to && (blw x.id 1048576 && (decide (x.ep ≤ 1048576) && (decide (x.ad ≤ 1048576) && (blw x.er 256 && (baOk x.ba && (baOk x.pr && (stOk x.st && (mbOk x.bk && (mcOk x.c && mlOk x.ly)))))))))))
theorem lalike_iff {x y : Ly} : lalike x y = true ↔ x = y := by
  obtain ⟨a, b, c⟩ := x
  obtain ⟨d, e, f⟩ := y
  unfold lalike
  simp only [Bool.and_eq_true, decide_eq_true_eq, Ly.mk.injEq]
  constructor
  · rintro ⟨rfl, rfl, rfl⟩; exact ⟨rfl, rfl, rfl⟩
  · rintro ⟨rfl, rfl, rfl⟩; exact ⟨rfl, rfl, rfl⟩
theorem blw_iff {n l : Int} : blw n l = true ↔ 0 ≤ n ∧ n < l := by simp [blw]
theorem plOk_iff {p : Int × Int} (h : plOk p = true) : (1 ≤ p.1 ∧ p.1 ≤ 4) ∧ 0 ≤ p.2 ∧ p.2 < 32 := by
  unfold plOk at h
  rw [blw_iff] at h
  unfold plMost at h
  split at h
  · omega
  · split at h
    · omega
    · split at h <;> omega
theorem baOk_iff {b : Int × Int} : baOk b = true ↔ (0 ≤ b.1 ∧ b.1 < 65536) ∧ 0 ≤ b.2 ∧ b.2 < 4 := by
  unfold baOk
  rw [Bool.and_eq_true, blw_iff, blw_iff]
theorem kindsOk_iff {k f : Int} (h : kindsOk k f = true) : (1 ≤ k ∧ k ≤ 14) ∧ 0 ≤ f ∧ f ≤ 13 := by
  unfold kindsOk isReq at h
  split at h <;> simp only [Bool.and_eq_true, decide_eq_true_eq] at h <;> omega
theorem stOk_iff {L : List Int} (h : stOk L = true) : L.length ≤ 4 ∧ ∀ s ∈ L, 0 ≤ s ∧ s < 16 := by
  unfold stOk at h
  rw [Bool.and_eq_true, decide_eq_true_eq, Bool.not_eq_true', anyN_false] at h
  obtain ⟨h1, h2⟩ := h
  have key : ∀ j, j < L.length → 0 ≤ leastI L j ∧ leastI L j ≤ L.getD j 0 ∧ L.getD j 0 < 16 := by
    intro j
    induction j with
    | zero =>
      intro hj
      have := h2 0 hj
      simp only [mis, Bool.or_eq_false_iff, decide_eq_false_iff_not] at this
      exact ⟨by simp [leastI], by omega, by omega⟩
    | succ j ih =>
      intro hj
      have h3 := ih (by omega)
      have := h2 (j + 1) hj
      simp only [mis, Bool.or_eq_false_iff, decide_eq_false_iff_not] at this
      refine ⟨?_, by omega, by omega⟩
      simp only [leastI, Nat.add_sub_cancel, if_neg (Nat.succ_ne_zero j)]
      unfold wrap64
      omega
  refine ⟨h1, fun s hs => ?_⟩
  obtain ⟨j, hj, rfl⟩ := List.getElem_of_mem hs
  have := key j hj
  have e : L.getD j 0 = L[j] := by simp [List.getD, hj]
  rw [e] at this
  omega
theorem mbOk_at {L : List Bk} (h : mbOk L = true) : ∀ j, j < L.length → 0 ≤ least L j ∧ least L j ≤ (bk L j).1 ∧ (bk L j).1 < 16 ∧ lastOk (bk L j) = true := by
  unfold mbOk at h
  rw [Bool.not_eq_true', anyN_false] at h
  have one : ∀ j, j < L.length → least L j ≤ (bk L j).1 ∧ (bk L j).1 < 16 ∧ lastOk (bk L j) = true := by
    intro j hj
    have := h j hj
    simp only [mbad, mis, Bool.or_eq_false_iff, decide_eq_false_iff_not, Bool.not_eq_false'] at this
    obtain ⟨⟨h1, h2⟩, h3⟩ := this
    have h4 := (backsOk_at (right_data h3 rfl).2.2 0 (by simp)).2.2.2
    exact ⟨by omega, by omega, h4⟩
  intro j
  induction j with
  | zero => intro hj; exact ⟨by simp [least], one 0 hj⟩
  | succ j ih =>
    intro hj
    have h3 := ih (by omega)
    refine ⟨?_, one (j + 1) hj⟩
    simp only [least, Nat.add_sub_cancel, if_neg (Nat.succ_ne_zero j)]
    unfold wrap64
    omega
theorem mbOk_mem {L : List Bk} (h : mbOk L = true) : ∀ b ∈ L, 0 ≤ b.1 ∧ b.1 < 16 ∧ lastOk b = true := by
  intro b hb
  obtain ⟨j, hj, rfl⟩ := List.getElem_of_mem hb
  have := mbOk_at h j hj
  have e : bk L j = L[j] := by simp [bk, List.getD, hj]
  rw [e] at this
  exact ⟨by omega, this.2.2.1, this.2.2.2⟩
theorem mbOk_len {L : List Bk} (h : mbOk L = true) : L.length ≤ 16 := by
  have key : ∀ j, j < L.length → (j : Int) ≤ (bk L j).1 := by
    intro j
    induction j with
    | zero => intro hj; have := mbOk_at h 0 hj; omega
    | succ j ih =>
      intro hj
      have h1 := ih (by omega)
      have h2 := mbOk_at h (j + 1) hj
      have h3 := mbOk_at h j (by omega)
      simp only [least, Nat.add_sub_cancel, if_neg (Nat.succ_ne_zero j)] at h2
      unfold wrap64 at h2
      omega
  rcases Nat.lt_or_ge 16 L.length with hlt | hge
  · have h1 := key 16 hlt
    have h2 := mbOk_at h 16 hlt
    omega
  · exact hge
structure MRight (x : Mg) : Prop where
  k : (1 ≤ x.k ∧ x.k ≤ 14) ∧ 0 ≤ x.f ∧ x.f ≤ 13
  fr : (1 ≤ x.fr.1 ∧ x.fr.1 ≤ 4) ∧ 0 ≤ x.fr.2 ∧ x.fr.2 < 32
  to : (1 ≤ x.to.1 ∧ x.to.1 ≤ 4) ∧ 0 ≤ x.to.2 ∧ x.to.2 < 32
  id : 0 ≤ x.id ∧ x.id < 1048576
  ep : x.ep ≤ 1048576
  ad : x.ad ≤ 1048576
  er : 0 ≤ x.er ∧ x.er < 256
  ba : (0 ≤ x.ba.1 ∧ x.ba.1 < 65536) ∧ 0 ≤ x.ba.2 ∧ x.ba.2 < 4
  pr : (0 ≤ x.pr.1 ∧ x.pr.1 < 65536) ∧ 0 ≤ x.pr.2 ∧ x.pr.2 < 4
  st : x.st.length ≤ 4 ∧ ∀ s ∈ x.st, 0 ≤ s ∧ s < 16
  bk : x.bk.length ≤ 16 ∧ ∀ b ∈ x.bk, 0 ≤ b.1 ∧ b.1 < 16 ∧ lastOk b = true
  c : right x.c = true ∨ x.c = noC
  ly : lright x.ly = true ∨ x.ly = noL
theorem mright_all {x : Mg} (h : mright x = true) : MRight x := by
  unfold mright at h
  simp only [Bool.and_eq_true] at h
  obtain ⟨h1, h2, h3, h4, h5, h6, h7, h8, h9, h10, h11, h12, h13⟩ := h
  refine ⟨kindsOk_iff h1, plOk_iff h2, plOk_iff h3, blw_iff.1 h4, by simpa using h5, by simpa using h6, blw_iff.1 h7, baOk_iff.1 h8, baOk_iff.1 h9, stOk_iff h10, ⟨mbOk_len h11, mbOk_mem h11⟩, ?_, ?_⟩
  · unfold mcOk at h12
    rw [Bool.or_eq_true, alike_iff] at h12
    exact h12
  · unfold mlOk at h13
    rw [Bool.or_eq_true, lalike_iff] at h13
    exact h13

/-! ### bytes -/
def fBk (b : Bk) : List (Nat × Nat) := [(4, b.1.toNat), (21, min b.2.1 1048576), (21, min b.2.2 1048576)]
def fBy (l : List UInt8) : List (Nat × Nat) := (8, l.length) :: l.flatMap fun b => [(8, b.toNat)]
def fHd (x : Mg) : List (Nat × Nat) := [(4, x.k.toNat), (4, x.f.toNat), (3, x.fr.1.toNat), (5, x.fr.2.toNat), (3, x.to.1.toNat), (5, x.to.2.toNat), (20, x.id.toNat), (21, x.ep), (21, x.ad), (8, x.er.toNat), (16, x.ba.1.toNat), (2, x.ba.2.toNat), (16, x.pr.1.toNat), (2, x.pr.2.toNat)]
def fSt (L : List Int) : List (Nat × Nat) := (3, L.length) :: L.flatMap fun s => [(4, s.toNat)]
def fBks (L : List Bk) : List (Nat × Nat) := (5, L.length) :: L.flatMap fBk
def fMg (x : Mg) (cb lb : List UInt8) : List (Nat × Nat) := fHd x ++ (fSt x.st ++ (fBks x.bk ++ (fBy cb ++ fBy lb)))
/-- the bytes of a message's cell, and of its layout: none if these are none -/
def CB (c : Ce) (l : List UInt8) : Prop := (right c = true ∧ IsEnc c l) ∨ (right c = false ∧ l = [])
def LB (x : Ly) (l : List UInt8) : Prop := (lright x = true ∧ IsLE x l) ∨ (lright x = false ∧ l = [])
def IsME (x : Mg) (bs : List UInt8) : Prop := ∃ cb lb, CB x.c cb ∧ LB x.ly lb ∧ IsPack (fw (fMg x cb lb)) (fv (fMg x cb lb)) bs
theorem CB.unique {c : Ce} {a b : List UInt8} (h1 : CB c a) (h2 : CB c b) : a = b := by
  rcases h1 with ⟨r1, e1⟩ | ⟨r1, e1⟩ <;> rcases h2 with ⟨r2, e2⟩ | ⟨r2, e2⟩
  · exact e1.unique e2
  · rw [r1] at r2; cases r2
  · rw [r1] at r2; cases r2
  · rw [e1, e2]
theorem LB.unique {c : Ly} {a b : List UInt8} (h1 : LB c a) (h2 : LB c b) : a = b := by
  rcases h1 with ⟨r1, e1⟩ | ⟨r1, e1⟩ <;> rcases h2 with ⟨r2, e2⟩ | ⟨r2, e2⟩
  · exact e1.unique e2
  · rw [r1] at r2; cases r2
  · rw [r1] at r2; cases r2
  · rw [e1, e2]
theorem IsME.unique {x : Mg} {a b : List UInt8} (h1 : IsME x a) (h2 : IsME x b) : a = b := by
  obtain ⟨c1, l1, g1, g2, g3⟩ := h1
  obtain ⟨c2, l2, k1, k2, k3⟩ := h2
  obtain rfl := g1.unique k1
  obtain rfl := g2.unique k2
  exact g3.unique k3
theorem CB.len {c : Ce} {l : List UInt8} (h : CB c l) : l.length ≤ 125 := by
  rcases h with ⟨r, e⟩ | ⟨_, rfl⟩
  · rcases enc_length e r with ⟨_, h⟩ | ⟨hk, h, _⟩
    · omega
    · have := right_data r hk
      omega
  · simp
theorem fsum_flat_le {α : Type} {f : α → List (Nat × Nat)} {n : Nat} : ∀ {xs : List α}, (∀ x ∈ xs, fsum (f x) ≤ n) → fsum (xs.flatMap f) ≤ xs.length * n
  | [], _ => by simp [fsum]
  | x :: xs, h => by
    have h1 := h x (by simp)
    have h2 := fsum_flat_le (xs := xs) (fun y hy => h y (by simp [hy]))
    rw [List.flatMap_cons, fsum_app, List.length_cons, Nat.succ_mul]
    omega
theorem fsum_flat_eq {α : Type} {f : α → List (Nat × Nat)} {n : Nat} : ∀ {xs : List α}, (∀ x ∈ xs, fsum (f x) = n) → fsum (xs.flatMap f) = xs.length * n
  | [], _ => by simp [fsum]
  | x :: xs, h => by
    have h1 := h x (by simp)
    have h2 := fsum_flat_eq (xs := xs) (fun y hy => h y (by simp [hy]))
    rw [List.flatMap_cons, fsum_app, List.length_cons, Nat.succ_mul]
    omega
theorem fLy_sum {x : Ly} (h : lright x = true) : fsum (fLy x) ≤ 468 := by
  have h4 := (sgOk_iff.1 (lright_iff.1 h).2.2).1
  have := fsum_flat_le (f := fSg) (n := 110) (xs := x.s) (fun s hs => by
    obtain ⟨g1, g2, _, _⟩ := chOk_iff.1 (seg_ok h hs).1
    have := fsum_flat_le (f := fCh) (n := 22) (xs := s.2) (fun c hc => by
      have := fsum_flat_eq (f := fun u : Int => [(5, u.toNat)]) (n := 5) (xs := c) (fun u _ => by simp [fsum])
      have := g2 c hc
      unfold fCh
      rw [fsum_cons]
      simp only
      omega)
    unfold fSg
    rw [fsum_cons, fsum_cons]
    simp only
    omega)
  unfold fLy
  rw [fsum_cons, fsum_cons, fsum_cons]
  simp only
  omega
theorem LB.len {x : Ly} {l : List UInt8} (h : LB x l) : l.length ≤ 59 := by
  rcases h with ⟨r, e⟩ | ⟨_, rfl⟩
  · have h1 := e.1
    rw [nat_fw_sum] at h1
    have := fLy_sum r
    omega
  · simp
theorem fBy_ok {l : List UInt8} (h : l.length < 256) : FOk (fBy l) :=
  FOk.cons ⟨by simp, by simpa using h⟩ (FOk.flat fun b _ => FOk.cons ⟨by simp, by simpa using b.toNat_lt⟩ FOk.nil)
theorem fBk_ok {b : Bk} (h : 0 ≤ b.1 ∧ b.1 < 16) : FOk (fBk b) := by
  have h1 : min b.2.1 1048576 ≤ 1048576 := Nat.min_le_right _ _
  have h2 : min b.2.2 1048576 ≤ 1048576 := Nat.min_le_right _ _
  exact FOk.cons ⟨by simp, by simp; omega⟩ (FOk.cons ⟨by simp, by simp; omega⟩ (FOk.cons ⟨by simp, by simp; omega⟩ FOk.nil))
theorem fMg_ok {x : Mg} (h : MRight x) {cb lb : List UInt8} (hc : CB x.c cb) (hl : LB x.ly lb) : FOk (fMg x cb lb) := by
  have h1 := hc.len
  have h2 := hl.len
  refine FOk.app ?_ (FOk.app ?_ (FOk.app ?_ (FOk.app (fBy_ok (by omega)) (fBy_ok (by omega)))))
  · obtain ⟨h1, h2, h3, h4, h5, h6, h7, h8, h9, _, _, _, _⟩ := h
    intro p hp
    simp only [fHd, List.mem_cons, List.not_mem_nil, or_false] at hp
    rcases hp with rfl | rfl | rfl | rfl | rfl | rfl | rfl | rfl | rfl | rfl | rfl | rfl | rfl | rfl <;> exact ⟨by simp, by simp only; omega⟩
  · have := h.st
    exact FOk.cons ⟨by simp, by simp; omega⟩ (FOk.flat fun s hs => FOk.cons ⟨by simp, by have := h.st.2 s hs; simp; omega⟩ FOk.nil)
  · have := h.bk
    exact FOk.cons ⟨by simp, by simp; omega⟩ (FOk.flat fun b hb => fBk_ok ⟨(h.bk.2 b hb).1, (h.bk.2 b hb).2.1⟩)
theorem fMg_sum (x : Mg) (cb lb : List UInt8) : fsum (fMg x cb lb) = 154 + 4 * x.st.length + 46 * x.bk.length + 8 * cb.length + 8 * lb.length := by
  have e1 := fsum_flat_eq (f := fun s : Int => [(4, s.toNat)]) (n := 4) (xs := x.st) (fun u _ => by simp [fsum])
  have e2 := fsum_flat_eq (f := fBk) (n := 46) (xs := x.bk) (fun u _ => by simp [fBk, fsum])
  have e3 := fsum_flat_eq (f := fun b : UInt8 => [(8, b.toNat)]) (n := 8) (xs := cb) (fun u _ => by simp [fsum])
  have e4 := fsum_flat_eq (f := fun b : UInt8 => [(8, b.toNat)]) (n := 8) (xs := lb) (fun u _ => by simp [fsum])
  unfold fMg fSt fBks fBy
  simp only [fsum_app, fsum_cons, e1, e2, e3, e4]
  have : fsum (fHd x) = 130 := by simp [fHd, fsum]
  omega
theorem fMg_len {x : Mg} (h : MRight x) {cb lb : List UInt8} (hc : CB x.c cb) (hl : LB x.ly lb) : (fMg x cb lb).length ≤ 300 := by
  have h1 := hc.len
  have h2 := hl.len
  have h3 := h.st.1
  have h4 := h.bk.1
  have e1 := fflat_le (f := fun s : Int => [(4, s.toNat)]) (n := 1) (xs := x.st) (fun u _ => by simp)
  have e2 := fflat_le (f := fBk) (n := 3) (xs := x.bk) (fun u _ => by simp [fBk])
  have e3 := fflat_le (f := fun b : UInt8 => [(8, b.toNat)]) (n := 1) (xs := cb) (fun u _ => by simp)
  have e4 := fflat_le (f := fun b : UInt8 => [(8, b.toNat)]) (n := 1) (xs := lb) (fun u _ => by simp)
  unfold fMg fSt fBks fBy
  simp only [List.length_append, List.length_cons]
  have : (fHd x).length = 14 := rfl
  omega

/-! ### reading back -/
open Classical in
/-- the cell, and the layout, of bytes: none if these are none's -/
noncomputable def decC (l : List UInt8) : Ce := if h : ∃ x, right x = true ∧ IsEnc x l then h.choose else noC
open Classical in
noncomputable def decL (l : List UInt8) : Ly := if h : ∃ x, lright x = true ∧ IsLE x l then h.choose else noL
theorem decC_no {l : List UInt8} (h : ∀ x, right x = true → ¬ IsEnc x l) : decC l = noC := by
  unfold decC
  rw [dif_neg]
  rintro ⟨x, h1, h2⟩
  exact h x h1 h2
theorem decL_yes {x : Ly} {l : List UInt8} (hr : lright x = true) (he : IsLE x l) : decL l = x := by
  have h : ∃ x, lright x = true ∧ IsLE x l := ⟨x, hr, he⟩
  unfold decL
  rw [dif_pos h]
  exact IsLE.inj h.choose_spec.2 he h.choose_spec.1 hr
theorem decL_no {l : List UInt8} (h : ∀ x, lright x = true → ¬ IsLE x l) : decL l = noL := by
  unfold decL
  rw [dif_neg]
  rintro ⟨x, h1, h2⟩
  exact h x h1 h2
theorem noEnc_nil : ∀ x, right x = true → ¬ IsEnc x [] := fun x hr he => by
  rcases enc_length he hr with ⟨_, h⟩ | ⟨_, h, _⟩ <;> simp only [List.length_nil] at h <;> omega
theorem noLE_nil : ∀ x, lright x = true → ¬ IsLE x [] := fun x hr he => by
  have h1 := he.1
  rw [nat_fw_sum] at h1
  simp only [List.length_nil, fLy, fsum_cons] at h1
  omega
theorem decL_LB {c : Ly} {l : List UInt8} (h : LB c l) (hc : lright c = true ∨ c = noL) : decL l = c := by
  rcases h with ⟨r, e⟩ | ⟨r, rfl⟩
  · exact decL_yes r e
  · rcases hc with h | h
    · rw [r] at h; cases h
    · rw [h]; exact decL_no noLE_nil
def pS (bs : List UInt8) (k : Nat) : Int × Nat := ((tkN bs k 4 : Nat), k + 4)
def pB (bs : List UInt8) (k : Nat) : Bk × Nat := (((tkN bs k 4 : Nat), lst (tkN bs (k + 4) 21), lst (tkN bs (k + 4 + 21) 21)), k + 4 + 21 + 21)
def pY (bs : List UInt8) (k : Nat) : UInt8 × Nat := (UInt8.ofNat (tkN bs k 8), k + 8)
def pSt (bs : List UInt8) (k : Nat) : List Int × Nat := rep (pS bs) (tkN bs k 3) (k + 3)
def pBks (bs : List UInt8) (k : Nat) : List Bk × Nat := rep (pB bs) (tkN bs k 5) (k + 5)
def pBy (bs : List UInt8) (k : Nat) : List UInt8 × Nat := rep (pY bs) (tkN bs k 8) (k + 8)
def pPl (bs : List UInt8) (k : Nat) : Int × Int := ((tkN bs k 3 : Nat), (tkN bs (k + 3) 5 : Nat))
def pBa (bs : List UInt8) (k : Nat) : Int × Int := ((tkN bs k 16 : Nat), (tkN bs (k + 16) 2 : Nat))
def pStreams (bs : List UInt8) : List Int × Nat := pSt bs 130
def pBacks (bs : List UInt8) : List Bk × Nat := pBks bs (pStreams bs).2
def pCell (bs : List UInt8) : List UInt8 × Nat := pBy bs (pBacks bs).2
def pLayout (bs : List UInt8) : List UInt8 × Nat := pBy bs (pCell bs).2
noncomputable def pMg (bs : List UInt8) : Mg :=
  { k := (tkN bs 0 4 : Nat), f := (tkN bs 4 4 : Nat), fr := pPl bs 8, to := pPl bs 16, id := (tkN bs 24 20 : Nat), ep := tkN bs 44 21, ad := tkN bs 65 21, er := (tkN bs 86 8 : Nat), ba := pBa bs 94, pr := pBa bs 112
    st := (pStreams bs).1, bk := (pBacks bs).1, c := decC (pCell bs).1, ly := decL (pLayout bs).1 }
theorem lst_min {p : Nat} (h : p = 18446744073709551615 ∨ p < 1048576) : lst (min p 1048576) = p := by
  unfold lst
  rcases h with rfl | h
  · decide
  · rw [if_neg (by omega)]; omega
theorem pBy_ok {bs l : List UInt8} {k : Nat} (h : Rd bs k (fBy l)) : pBy bs k = (l, k + fsum (fBy l)) := by
  obtain ⟨h1, h2⟩ := h
  simp only at h1 h2
  have := rep_ok (p := pY bs) (f := fun b : UInt8 => [(8, b.toNat)]) (fun u hm k hr => by
    obtain ⟨g1, _⟩ := hr
    simp only at g1
    unfold pY
    rw [g1]
    simp [fsum]) h2
  unfold pBy
  rw [h1, this]
  simp only [fBy, fsum_cons, Nat.add_assoc]
end Go.Proofs.Ytkdgoopldaoihaa
namespace Go.Proofs.Ytkdgoopldaoihaa
open Go.RowKit Go.Deep Go.Shelf
set_option linter.unusedVariables false
set_option linter.unusedSimpArgs false

theorem chx_ext {A B : List ChT} (h : A.length = B.length) (he : ∀ j, j < A.length → (ct A j).u = (ct B j).u) : chx A = chx B := by
  apply List.ext_getElem (by simpa using h)
  intro i h1 h2
  have h1' : i < A.length := by simpa using h1
  have h2' : i < B.length := by simpa using h2
  have := he i h1'
  simpa [chx, ct, List.getD, h1', h2'] using this
theorem sgx_ext {A B : List SgT} (h : A.length = B.length) (he : ∀ j, j < A.length → (st A j).x = (st B j).x) : sgx A = sgx B := by
  apply List.ext_getElem (by simpa using h)
  intro i h1 h2
  have h1' : i < A.length := by simpa using h1
  have h2' : i < B.length := by simpa using h2
  have := he i h1'
  simpa [sgx, st, List.getD, h1', h2'] using this

end Go.Proofs.Ytkdgoopldaoihaa
namespace Go.Proofs.Ytkdgoopldaoihaa
open Go.RowKit Go.Deep Go.Shelf
set_option linter.unusedVariables false
set_option linter.unusedSimpArgs false

end Go.Proofs.Ytkdgoopldaoihaa
namespace Go.Proofs.Ytkdgoopldaoihaa
open Go.RowKit Go.Deep
set_option linter.unusedVariables false
set_option linter.unusedSimpArgs false

/-- a message in memory: its numbers, where its slices lie -/
structure MgT where
  k : Int
  fr : Int × Int
  to : Int × Int
  id : Int
  f : Int
  ep : Nat
  ad : Nat
  er : Int
  c : Ce
  ca : Option Addr
  cc : Nat
  ca2 : Option Addr
  cc2 : Nat
  st : List Int
  sa : Option Addr
  sc : Nat
  bk : List Bk
  ka : Option Addr
  kc : Nat
  ba : Int × Int
  pr : Int × Int
  ly : LyT
def MgT.x (A : MgT) : Mg := ⟨A.k, A.fr, A.to, A.id, A.f, A.ep, A.ad, A.er, A.c, A.st, A.bk, A.ba, A.pr, A.ly.x⟩
/-- the cells of a message by value -/
abbrev mcs (k fr1 fr2 to1 to2 id f : Int) (ep ad : Nat) (er ck : Int) (ca : Option Addr) (cn cc : Nat) (ca2 : Option Addr) (cn2 cc2 : Nat) (sa : Option Addr) (sn sc : Nat) (ka : Option Addr) (kn kc : Nat) (ba1 ba2 pr1 pr2 : Int) (le : Nat) (la : Option Addr) (ln lc : Nat) (lq : Int) : List Value :=
  [.int .i64 k, .int .i64 fr1, .int .i64 fr2, .int .i64 to1, .int .i64 to2, .int .i64 id, .int .i64 f, .int .u64 (ep : Int), .int .u64 (ad : Int), .int .i64 er, .int .i64 ck, .slice ca cn cc, .slice ca2 cn2 cc2, .slice sa sn sc, .slice ka kn kc, .int .i64 ba1, .int .i64 ba2, .int .i64 pr1, .int .i64 pr2, .int .u64 (le : Int), .slice la ln lc, .int .i64 lq]
def MgT.cs (A : MgT) : List Value := mcs A.k A.fr.1 A.fr.2 A.to.1 A.to.2 A.id A.f A.ep A.ad A.er A.c.k A.ca A.c.d.length A.cc A.ca2 A.c.b.length A.cc2 A.sa A.st.length A.sc A.ka A.bk.length A.kc A.ba.1 A.ba.2 A.pr.1 A.pr.2 A.ly.e A.ly.a A.ly.sg.length A.ly.c A.ly.q
def MgT.val (A : MgT) : Value := .agg A.cs.toArray
/-- its slices lie below B -/
structure MgIn (w : World) (B : Nat) (A : MgT) : Prop where
  d : Ro w B A.ca (u8s A.c.d)
  b : Ro w B A.ca2 (bcs A.c.b)
  st : Ro w B A.sa (i64s A.st)
  bk : Ro w B A.ka (bcs A.bk)
  ly : LyIn w B A.ly
theorem MgIn.below {w w' : World} {B B' : Nat} {A : MgT} (h : MgIn w B A) (hb : Below B' w w') (hB : B ≤ B') : MgIn w' B A := ⟨h.d.below hb hB, h.b.below hb hB, h.st.below hb hB, h.bk.below hb hB, h.ly.below hb hB⟩
theorem MgIn.mono {w : World} {B B' : Nat} {A : MgT} (h : MgIn w B A) (hB : B ≤ B') : MgIn w B' A := ⟨h.d.mono hB, h.b.mono hB, h.st.mono hB, h.bk.mono hB, h.ly.mono hB⟩
/-- no length is beyond a machine's -/
structure MgFit (A : MgT) : Prop where
  d : A.c.d.length ≤ 9223372036854775807
  b : A.c.b.length ≤ 9223372036854775807
  st : A.st.length ≤ 9223372036854775807
  bk : A.bk.length ≤ 9223372036854775807
  ly : SgFit A.ly.sg
  fb : ∀ b ∈ A.c.b, FitB b
  fk : ∀ b ∈ A.bk, FitB b
end Go.Proofs.Ytkdgoopldaoihaa
