/-
  Plain lists of numbers with widths, their bits in bytes, and reading them back one after the other. Lemmas only, no claim of their own.
-/
import Derived.Test.YtdblplkaobeimaaGc3
import Derived.Laws.StructEq
import Derived.Laws.IdiomStrings
import Derived.Laws.BytesString
import Derived.Laws.EntriesVeiled
namespace Go.Proofs.Ytdblplkaobeimaa
open Go.RowKit Go.Deep
set_option linter.unusedVariables false
set_option linter.unusedSimpArgs false

/-- numbers and their widths: the widths, the numbers, how many bits -/
def fw (F : List (Nat × Nat)) : List Int := F.map fun p => (p.1 : Int)
def fv (F : List (Nat × Nat)) : List Nat := F.map fun p => p.2
def fsum (F : List (Nat × Nat)) : Nat := (F.map fun p => p.1).sum
@[simp] theorem fw_length (F : List (Nat × Nat)) : (fw F).length = F.length := by simp [fw]
@[simp] theorem fv_length (F : List (Nat × Nat)) : (fv F).length = F.length := by simp [fv]
theorem fw_app (F G : List (Nat × Nat)) : fw (F ++ G) = fw F ++ fw G := by simp [fw]
theorem fv_app (F G : List (Nat × Nat)) : fv (F ++ G) = fv F ++ fv G := by simp [fv]
theorem fsum_app (F G : List (Nat × Nat)) : fsum (F ++ G) = fsum F + fsum G := by simp [fsum]
theorem fsum_cons (p : Nat × Nat) (F : List (Nat × Nat)) : fsum (p :: F) = p.1 + fsum F := by simp [fsum]
theorem nat_fw (F : List (Nat × Nat)) : nat (fw F) = F.map fun p => p.1 := by simp [nat, fw]
theorem nat_fw_sum (F : List (Nat × Nat)) : (nat (fw F)).sum = fsum F := by rw [nat_fw]; rfl
/-- each number fits its width -/
def FOk (F : List (Nat × Nat)) : Prop := ∀ p ∈ F, p.1 ≤ 64 ∧ p.2 < 2 ^ p.1
theorem FOk.nil : FOk [] := fun p h => by cases h
theorem FOk.cons {p : Nat × Nat} {F : List (Nat × Nat)} (h : p.1 ≤ 64 ∧ p.2 < 2 ^ p.1) (hF : FOk F) : FOk (p :: F) := fun q hq => by
  rcases List.mem_cons.1 hq with rfl | hq
  · exact h
  · exact hF q hq
theorem FOk.app {F G : List (Nat × Nat)} (h : FOk F) (g : FOk G) : FOk (F ++ G) := fun q hq => by
  rcases List.mem_append.1 hq with hq | hq
  · exact h q hq
  · exact g q hq
theorem FOk.flat {α : Type} {xs : List α} {f : α → List (Nat × Nat)} (h : ∀ x ∈ xs, FOk (f x)) : FOk (xs.flatMap f) := fun q hq => by
  obtain ⟨x, hx, hq⟩ := List.mem_flatMap.1 hq
  exact h x hx q hq
theorem FOk.pack {F : List (Nat × Nat)} (h : FOk F) : PackOk (fw F) (fv F) := by
  refine ⟨?_, by simp, fun i hi => ?_⟩
  · unfold spanOf
    rw [if_pos]
    · rfl
    · rw [List.all_eq_true]
      intro x hx
      simp only [fw, List.mem_map] at hx
      obtain ⟨p, hp, rfl⟩ := hx
      have := (h p hp).1
      simp only [decide_eq_true_eq]
      omega
  · have hi' : i < F.length := by simpa using hi
    have := (h F[i] (List.getElem_mem hi')).2
    simpa [fw, fv, List.getD, hi'] using this
/-- the number of n bits at a place; 0 where there are not so many -/
def tkN (bs : List UInt8) (k n : Nat) : Nat := if k + n ≤ 8 * bs.length then num bs k n else 0
theorem tkN_lt (bs : List UInt8) (k n : Nat) : tkN bs k n < 2 ^ n := by
  unfold tkN
  split
  · exact num_lt bs k n
  · exact Nat.pow_pos (by omega)
/-- these numbers are read one after the other -/
def Rd (bs : List UInt8) : Nat → List (Nat × Nat) → Prop
  | _, [] => True
  | k, p :: F => tkN bs k p.1 = p.2 ∧ Rd bs (k + p.1) F
theorem Rd.app {bs : List UInt8} {F G : List (Nat × Nat)} : ∀ {k : Nat}, Rd bs k (F ++ G) → Rd bs k F ∧ Rd bs (k + fsum F) G := by
  induction F with
  | nil => intro k h; exact ⟨trivial, by simpa [fsum] using h⟩
  | cons p F ih =>
    intro k h
    obtain ⟨h1, h2⟩ := h
    obtain ⟨h3, h4⟩ := ih h2
    refine ⟨⟨h1, h3⟩, ?_⟩
    rw [fsum_cons, ← Nat.add_assoc]
    exact h4
theorem rd_of {bs : List UInt8} {F : List (Nat × Nat)} : ∀ {k : Nat}, (∀ j (hj : j < F.length), tkN bs (k + fsum (F.take j)) F[j].1 = F[j].2) → Rd bs k F := by
  induction F with
  | nil => intro k h; trivial
  | cons p F ih =>
    intro k h
    refine ⟨by have := h 0 (by simp); simp only [List.take_zero, List.getElem_cons_zero] at this; simpa [fsum] using this, ih fun j hj => ?_⟩
    have := h (j + 1) (by simp; omega)
    rw [List.take_succ_cons, fsum_cons, ← Nat.add_assoc] at this
    simpa using this
/-- the bytes in which numbers are packed begin with them, whatever comes behind -/
theorem rd_of_pack {F : List (Nat × Nat)} {cs : List UInt8} (h : FOk F) (hp : IsPack (fw F) (fv F) cs) (t : List UInt8) : Rd (cs ++ t) 0 F := by
  have hu := isUnp_of_pack h.pack hp
  refine rd_of fun j hj => ?_
  have h1 := hu.2 j (by simpa using hj)
  have hlen := hp.1
  rw [nat_fw_sum] at hlen
  have e1 : (fv F).getD j 0 = F[j].2 := by simp [fv, List.getD, hj]
  have e2 : ((fw F).getD j 0).toNat = F[j].1 := by simp [fw, List.getD, hj]
  have e3 : ((nat (fw F)).take j).sum = fsum (F.take j) := by rw [nat_fw, ← List.map_take]; rfl
  rw [e1, e2, e3] at h1
  have h2 := sum_take_nat (nat (fw F)) j (by simpa using hj)
  have h3 := sum_take_le (nat (fw F)) (j + 1)
  rw [nat_fw_sum] at h3
  rw [e3, nat_getD, e2] at h2
  have hle : fsum (F.take j) + F[j].1 ≤ 8 * cs.length := by omega
  unfold tkN
  rw [Nat.zero_add, if_pos (by rw [List.length_append]; omega), num_left cs t _ _ hle]
  exact h1.symm
/-- read one thing after the other -/
def rep {α : Type} (p : Nat → α × Nat) : Nat → Nat → List α × Nat
  | 0, k => ([], k)
  | n + 1, k => ((rep p n k).1 ++ [(p (rep p n k).2).1], (p (rep p n k).2).2)
theorem rep_first {α : Type} (p : Nat → α × Nat) (n k : Nat) : rep p (n + 1) k = ((p k).1 :: (rep p n (p k).2).1, (rep p n (p k).2).2) := by
  induction n with
  | zero => rfl
  | succ n ih => rw [rep, ih]; rfl
theorem rep_length {α : Type} (p : Nat → α × Nat) (n k : Nat) : (rep p n k).1.length = n := by
  induction n with
  | zero => rfl
  | succ n ih => simp [rep, ih]
theorem rep_ok {α : Type} {p : Nat → α × Nat} {f : α → List (Nat × Nat)} {bs : List UInt8} : ∀ {xs : List α}, (∀ x ∈ xs, ∀ k, Rd bs k (f x) → p k = (x, k + fsum (f x))) → ∀ {k : Nat}, Rd bs k (xs.flatMap f) → rep p xs.length k = (xs, k + fsum (xs.flatMap f)) := by
  intro xs
  induction xs with
  | nil => intro _ k _; simp [rep, fsum]
  | cons x xs ih =>
    intro h k hr
    rw [List.flatMap_cons] at hr
    obtain ⟨h1, h2⟩ := hr.app
    have h3 := h x (by simp) k h1
    have h4 := ih (fun y hy => h y (by simp [hy])) h2
    rw [List.length_cons, rep_first, h3]
    simp only [h4, List.flatMap_cons, fsum_app, Nat.add_assoc]

/-! ### layouts -/
def fCh (c : List Int) : List (Nat × Nat) := (2, c.length - 1) :: c.flatMap fun u => [(5, u.toNat)]
def fSg (s : Sg) : List (Nat × Nat) := (20, s.1) :: (2, s.2.length - 1) :: s.2.flatMap fCh
def fLy (x : Ly) : List (Nat × Nat) := (21, x.e) :: (5, x.q.toNat) :: (2, x.s.length - 1) :: x.s.flatMap fSg
def pU (bs : List UInt8) (k : Nat) : Int × Nat := ((tkN bs k 5 : Nat), k + 5)
def pCh (bs : List UInt8) (k : Nat) : List Int × Nat := rep (pU bs) (tkN bs k 2 + 1) (k + 2)
def pSg (bs : List UInt8) (k : Nat) : Sg × Nat := ((tkN bs k 20, (rep (pCh bs) (tkN bs (k + 20) 2 + 1) (k + 20 + 2)).1), (rep (pCh bs) (tkN bs (k + 20) 2 + 1) (k + 20 + 2)).2)
def pLy (bs : List UInt8) : Ly := ⟨tkN bs 0 21, (rep (pSg bs) (tkN bs 26 2 + 1) 28).1, (tkN bs 21 5 : Nat)⟩
theorem pCh_ok {bs : List UInt8} {c : List Int} {k : Nat} (hl : 1 ≤ c.length ∧ c.length ≤ 4) (hu : ∀ u ∈ c, 0 ≤ u ∧ u < 32) (h : Rd bs k (fCh c)) : pCh bs k = (c, k + fsum (fCh c)) := by
  obtain ⟨h1, h2⟩ := h
  simp only at h1 h2
  have := rep_ok (p := pU bs) (f := fun u : Int => [(5, u.toNat)]) (fun u hm k hr => by
    obtain ⟨g1, _⟩ := hr
    simp only at g1
    unfold pU
    rw [g1]
    have := hu u hm
    simp only [fsum, List.map_cons, List.map_nil, List.sum_cons, List.sum_nil, Nat.add_zero]
    congr 1
    omega) h2
  unfold pCh
  rw [h1, show c.length - 1 + 1 = c.length by omega, this]
  simp only [fCh, fsum_cons, Nat.add_assoc]
theorem pSg_ok {bs : List UInt8} {s : Sg} {k : Nat} (hs : chOk s.2 = true) (h : Rd bs k (fSg s)) : pSg bs k = (s, k + fsum (fSg s)) := by
  obtain ⟨h1, h2, h3⟩ := h
  simp only at h1 h2 h3
  obtain ⟨g1, g2, g3, _⟩ := chOk_iff.1 hs
  have := rep_ok (p := pCh bs) (f := fCh) (fun c hm k hr => pCh_ok (g2 c hm) (fun u hu => g3 u (List.mem_flatten.2 ⟨c, hm, hu⟩)) hr) h3
  unfold pSg
  rw [h1, h2, show s.2.length - 1 + 1 = s.2.length by omega, this]
  simp only [fSg, fsum_cons, Nat.add_assoc]
theorem fCh_ok {c : List Int} (hl : 1 ≤ c.length ∧ c.length ≤ 4) (hu : ∀ u ∈ c, 0 ≤ u ∧ u < 32) : FOk (fCh c) := by
  refine FOk.cons ⟨by simp, by simp; omega⟩ (FOk.flat fun u hm => FOk.cons ⟨by simp, ?_⟩ FOk.nil)
  have := hu u hm
  simp only
  omega
theorem fSg_ok {s : Sg} (hs : chOk s.2 = true) (hf : s.1 < 1048576) : FOk (fSg s) := by
  obtain ⟨g1, g2, g3, _⟩ := chOk_iff.1 hs
  exact FOk.cons ⟨by simp, by simpa using hf⟩ (FOk.cons ⟨by simp, by simp; omega⟩ (FOk.flat fun c hm => fCh_ok (g2 c hm) (fun u hu => g3 u (List.mem_flatten.2 ⟨c, hm, hu⟩))))
theorem seg_ok {x : Ly} (h : lright x = true) {s : Sg} (hs : s ∈ x.s) : chOk s.2 = true ∧ s.1 < 1048576 := by
  obtain ⟨_, _, hs3⟩ := lright_iff.1 h
  obtain ⟨i, hi, rfl⟩ := mem_sx hs
  have := (sgOk_iff.1 hs3).2.2.1 i hi
  exact ⟨this.2, this.1⟩
theorem fLy_ok {x : Ly} (h : lright x = true) : FOk (fLy x) := by
  obtain ⟨h1, h2, h3⟩ := lright_iff.1 h
  have h4 := (sgOk_iff.1 h3).1
  exact FOk.cons ⟨by simp, by simp; omega⟩ (FOk.cons ⟨by simp, by simp; omega⟩ (FOk.cons ⟨by simp, by simp; omega⟩ (FOk.flat fun s hm => fSg_ok (seg_ok h hm).1 (seg_ok h hm).2)))
theorem pLy_rd {bs : List UInt8} {x : Ly} (h : lright x = true) (hr : Rd bs 0 (fLy x)) : pLy bs = x := by
  obtain ⟨h1, h2, h3⟩ := lright_iff.1 h
  have h4 := (sgOk_iff.1 h3).1
  obtain ⟨r1, r2, r3, r4⟩ := hr
  simp only [Nat.zero_add, Nat.reduceAdd] at r1 r2 r3 r4
  have := rep_ok (p := pSg bs) (f := fSg) (fun s hm k hr => pSg_ok (seg_ok h hm).1 hr) r4
  obtain ⟨e, s, q⟩ := x
  unfold pLy
  simp only at *
  rw [r1, r2, r3, show s.length - 1 + 1 = s.length by omega, this]
  simp only [Ly.mk.injEq, true_and]
  omega
/-- these are a layout's bytes -/
def IsLE (x : Ly) (bs : List UInt8) : Prop := IsPack (fw (fLy x)) (fv (fLy x)) bs
theorem IsLE.unique {x : Ly} {a b : List UInt8} (h1 : IsLE x a) (h2 : IsLE x b) : a = b := IsPack.unique h1 h2
theorem pLy_enc {x : Ly} {cs : List UInt8} (h : lright x = true) (he : IsLE x cs) (t : List UInt8) : pLy (cs ++ t) = x := pLy_rd h (rd_of_pack (fLy_ok h) he t)
theorem pLy_enc' {x : Ly} {cs : List UInt8} (h : lright x = true) (he : IsLE x cs) : pLy cs = x := by have := pLy_enc h he []; rwa [List.append_nil] at this
theorem IsLE.inj {x y : Ly} {a : List UInt8} (h1 : IsLE x a) (h2 : IsLE y a) (hx : lright x = true) (hy : lright y = true) : x = y := (pLy_enc' hx h1).symm.trans (pLy_enc' hy h2)
theorem fCh_len (c : List Int) : (fCh c).length = c.length + 1 := by simp [fCh, List.length_flatMap, List.map_const', List.sum_replicate_nat]
theorem fflat_le {α : Type} {f : α → List (Nat × Nat)} {n : Nat} : ∀ {xs : List α}, (∀ x ∈ xs, (f x).length ≤ n) → (xs.flatMap f).length ≤ xs.length * n
  | [], _ => by simp
  | x :: xs, h => by
    have h1 := h x (by simp)
    have h2 := fflat_le (xs := xs) (fun y hy => h y (by simp [hy]))
    rw [List.flatMap_cons, List.length_append, List.length_cons, Nat.succ_mul]
    omega
theorem fSg_len {s : Sg} (hs : chOk s.2 = true) : (fSg s).length ≤ 22 := by
  obtain ⟨g1, g2, g3, _⟩ := chOk_iff.1 hs
  have := fflat_le (f := fCh) (n := 5) (xs := s.2) (fun c hc => by rw [fCh_len]; have := g2 c hc; omega)
  simp only [fSg, List.length_cons]
  omega
theorem fLy_len {x : Ly} (h : lright x = true) : (fLy x).length ≤ 91 := by
  have h4 := (sgOk_iff.1 (lright_iff.1 h).2.2).1
  have := fflat_le (f := fSg) (n := 22) (xs := x.s) (fun s hs => fSg_len (seg_ok h hs).1)
  simp only [fLy, List.length_cons]
  omega
end Go.Proofs.Ytdblplkaobeimaa
namespace Go.Proofs.Ytdblplkaobeimaa
open Go.RowKit Go.Deep
set_option linter.unusedVariables false
set_option linter.unusedSimpArgs false

theorem run_part_cell {P : Program} {e : TypeId} {k : IntKind} (he : P.underlying e = some (.int k)) {xs : Array Value} {off : Nat} {v : Value} (hx : xs[off]? = some v) (w : World) : (part e xs off).run P w = .ok v w := by
  unfold part
  have ha : (isAgg e).run P w = .ok false w := by
    unfold isAgg; rw [Sem.run_bind, run_underlying he w]; rfl
  rw [Sem.run_bind, ha]
  simp [hx]
theorem eq_two (d : Nat) (p q p' q' : Nat) (w : World) : (Op.equalIn (d + 2) 50 (.agg #[.int .u64 (p : Int), .int .u64 (q : Int)]) (.agg #[.int .u64 (p' : Int), .int .u64 (q' : Int)])).run Try.prog w = .ok (decide (p = p' ∧ q = q')) w := by
  have hu : Try.prog.underlying 50 = some (.array 2 26) := by kernel_rfl
  have hz : (Go.sizeOf 26).run Try.prog w = .ok 1 w := Try.sizeOf26 w
  rw [Op.equalIn]
  simp only [Sem.run_bind, run_underlying hu, Result.andThen_ok, hz, Std.Legacy.Range.forIn_eq_forIn_range']
  rw [show (List.range' 0 [:2].size) = [0, 1] from rfl]
  have g0 : ∀ (x y : Value), (part 26 #[x, y] 0).run Try.prog w = .ok x w := fun x y => run_part_cell Try.underlying26 rfl w
  have g1 : ∀ (x y : Value), (part 26 #[x, y] 1).run Try.prog w = .ok y w := fun x y => run_part_cell Try.underlying26 rfl w
  have ge : ∀ (x y : Int), (Op.equalIn (d + 1) 26 (.int .u64 x) (.int .u64 y)).run Try.prog w = .ok (x == y) w := fun x y => run_equalIn_int w d 26 .u64 .u64 _ _ Try.underlying26
  by_cases h1 : p = p'
  · subst h1
    by_cases h2 : q = q'
    · subst h2
      simp [g0, g1, ge]
    · have h3 : ((q : Int) == (q' : Int)) = false := by rw [beq_eq_false_iff_ne]; omega
      simp [g0, g1, ge, h2, h3]
  · have h3 : ((p : Int) == (p' : Int)) = false := by rw [beq_eq_false_iff_ne]; omega
    simp [g0, g1, ge, h1, h3]
theorem eq_back (x y : Bk) (w : World) : (Op.equalIn 10000 54 (bkv x) (bkv y)).run Try.prog w = .ok (decide (x = y)) w := by
  obtain ⟨s, p, q⟩ := x
  obtain ⟨s', p', q'⟩ := y
  have he := eq_two 9997 p q p' q' w
  have ge : ∀ (x y : Int), (Op.equalIn 9999 3 (.int .i64 x) (.int .i64 y)).run Try.prog w = .ok (x == y) w := fun x y => run_equalIn_int w 9998 3 .i64 .i64 _ _ Try.underlying3
  refine (run_equalIn_struct w 9999 54 _ _ (by kernel_rfl) (by kernel_rfl)).trans ?_
  have g0 : ∀ (x y z : Value), (part 3 #[x, y, z] 0).run Try.prog w = .ok x w := fun x y z => run_part_cell Try.underlying3 rfl w
  have gp : ∀ (x y z : Value), (part 50 #[x, y, z] 1).run Try.prog w = .ok (.agg #[y, z]) w := fun x y z => by
    have hz : (Go.sizeOf 50).run Try.prog w = .ok 2 w := Try.sizeOf50 w
    unfold part
    have ha : (isAgg 50).run Try.prog w = .ok true w := by
      unfold isAgg; rw [Sem.run_bind, run_underlying (show Try.prog.underlying 50 = some (.array 2 26) by kernel_rfl) w]; rfl
    rw [Sem.run_bind, ha]
    simp [hz]
  simp [Program.fieldsOf, Try.underlying54, Op.eqFields, g0, ge, gp, he]
  by_cases h1 : s = s'
  · by_cases h2 : p = p' ∧ q = q'
    · simp [h1, h2]
    · have h3 : (decide (p = p') && decide (q = q')) = false := by
        rw [← Bool.decide_and]; exact decide_eq_false h2
      have h4 : p = p' → ¬ q = q' := fun h hq => h2 ⟨h, hq⟩
      rw [if_pos h1, if_pos h4]
      simp [h1, h3]
  · simp [h1]
/-- Backs compared, at the operations -/
theorem neq_back (x y : Bk) (w : World) : (binOp .neq 54 (bkv x) (bkv y)).run Try.prog w = .ok (.bool (!decide (x = y))) w := by
  rw [run_neq_struct, eq_back]; rfl
theorem neq_two (p q p' q' : Nat) (w : World) : (binOp .neq 50 (.agg #[.int .u64 (p : Int), .int .u64 (q : Int)]) (.agg #[.int .u64 (p' : Int), .int .u64 (q' : Int)])).run Try.prog w = .ok (.bool (!decide (p = p' ∧ q = q'))) w := by
  rw [run_neq_struct, eq_two 9998]; rfl
end Go.Proofs.Ytdblplkaobeimaa
namespace Go.Proofs.Ytdblplkaobeimaa
open Go.RowKit Go.Deep
set_option linter.unusedVariables false
set_option linter.unusedSimpArgs false

theorem conv_ro {w : World} {B len c : Nat} {a : Option Addr} {bs : List UInt8} (h : Ro w B a (u8s bs)) (hl : bs.length = len) :
    (convert 29 9 (.slice a len c)).run Try.prog w = .ok (.string ⟨bs.toArray⟩) w := by
  subst hl
  by_cases h0 : 0 < bs.length
  · obtain ⟨b, off, rfl, hb, hc⟩ := h.u8 h0
    exact run_convert_bytes_back w _ _ _ _ _ bs Try.underlying29 Try.underlying5 Try.underlying9 fun j hj => by
      rw [add_off, hc j hj]
      simp [List.getD, hj]
  · have e : bs = [] := List.eq_nil_of_length_eq_zero (by omega)
    subst e
    rw [run_convert_bytes_string w _ _ _ a _ c Try.underlying29 Try.underlying5 Try.underlying9]
    cases a <;> simp [Conv.bytesToString, loadCells]
    all_goals rfl

set_option maxHeartbeats 400000 in
theorem bytesEqual_any (xs ys : List UInt8) (n m : Nat) (a a2 : Option Addr) (c c2 B : Nat) (w : World) (hn : xs.length = n) (hm : ys.length = m) (h : Ro w B a (u8s xs)) (h2 : Ro w B a2 (u8s ys)) :
    Calls Try.prog 54 #[.slice a n c, .slice a2 m c2] w fun e w' => e = .returned (.bool (decide (xs = ys))) ∧ w' = w := by
  have e1 := conv_ro (c := c) h hn
  have e2 := conv_ro (c := c2) h2 hm
  have HN := Lib.hid hn
  have HM := Lib.hid hm
  clear hn hm
  go_enter Try.func54, Try.ntmps54
  go_wp2
  go_ret
  refine ⟨ret_bool ?_, rfl⟩
  by_cases e : xs = ys <;> simp [e]

theorem take_succ_eqB {A B : List Bk} {k : Nat} (ha : k < A.length) (hb : k < B.length) (ht : A.take k = B.take k) (he : bk A k = bk B k) : A.take (k + 1) = B.take (k + 1) := by
  rw [bk_take ha, bk_take hb, ht, he]
theorem ne_of_bk {A B : List Bk} {k : Nat} (he : bk A k ≠ bk B k) : decide (A = B) = false := by
  simp only [decide_eq_false_iff_not]
  rintro rfl
  exact he rfl
set_option maxHeartbeats 2000000 in
theorem equalBacks_any (w : World) (a b : Option Addr) (A B : List Bk) (c d n m B0 : Nat) (hn : A.length = n) (hm : B.length = m) (ha : Ro w B0 a (bcs A)) (hb : Ro w B0 b (bcs B)) (hl : n ≤ 9223372036854775807) (hl2 : m ≤ 9223372036854775807) :
    Calls Try.prog 55 #[.slice a n c, .slice b m d] w fun e w' => e = .returned (.bool (decide (A = B))) ∧ Qt w w' := by
  have HN := Lib.hid hn
  have HM := Lib.hid hm
  have HA := Lib.hid ha
  have HB := Lib.hid hb
  clear ha hb hn hm
  go_enter Try.func55, Try.ntmps55
  by_cases hnm : n = m
  · subst hnm
    go_wp2_with fail
    go_loopw [13] (fun i wr => ∃ k : Nat, i = .int .i64 k ∧ k ≤ n ∧ Hid (A.take k = B.take k) ∧ Qt w wr) (fun i _ => n - (intOf i).toNat)
    case atStart => exact ⟨0, rfl, Nat.zero_le _, Lib.hid rfl, Qt.refl _⟩
    case round =>
      obtain ⟨k, rfl, hk, HT, hq⟩ := hrel
      by_cases hlt : k < n
      · have hkA : k < A.length := by rw [HN.out]; exact hlt
        have hkB : k < B.length := by rw [HM.out]; exact hlt
        obtain ⟨g, off, rfl, hg, hcl⟩ := (HA.out.qt hq).bk (by omega)
        obtain ⟨g', off', rfl, hg', hcl'⟩ := (HB.out.qt hq).bk (by omega)
        obtain ⟨h1, h2, h3⟩ := hcl k hkA
        obtain ⟨h4, h5, h6⟩ := hcl' k hkB
        have HTS := Lib.hid (take_succ_eqB hkA hkB HT.out)
        have HNE := Lib.hid (@ne_of_bk A B k)
        clear hcl hcl'
        generalize bk A k = x at *
        generalize bk B k = y at *
        have hk0 : (0 : Int) ≤ (k : Int) := by omega
        have hk1 : (k : Int) < (n : Int) := by omega
        have HQ := Lib.hid hq
        clear hq
        by_cases hxy : x = y
        · subst hxy
          have hN : ∀ W, (binOp .neq 54 (bkv x) (bkv x)).run Try.prog W = .ok (.bool false) W := fun W => by rw [neq_back]; simp
          go_wp2_with fail
          go_region
          go_wp2_with fail
          go_roundw
          case rel => exact ⟨k + 1, by go_num, by omega, Lib.hid (HTS.out trivial), by first | exact HQ.out | exact HQ.out.trans ⟨1, rfl⟩⟩
          case measure => simp [intOf]; omega
        · have hN : ∀ W, (binOp .neq 54 (bkv x) (bkv y)).run Try.prog W = .ok (.bool true) W := fun W => by rw [neq_back]; simp [hxy]
          have HF := Lib.hid (HNE.out hxy)
          go_wp2_with fail
          go_region
          go_wp2_with fail
          go_ret
          exact ⟨by rw [HF.out]; rfl, by first | exact HQ.out | exact HQ.out.trans ⟨1, rfl⟩⟩
      · have ht' : decide (A = B) = true := by
          have ht := HT.out
          rw [List.take_of_length_le (by rw [HN.out]; omega), List.take_of_length_le (by rw [HM.out]; omega)] at ht
          simpa using ht
        obtain rfl : k = n := by omega
        have HF := Lib.hid ht'
        clear ht'
        go_wp2_with fail
        go_ret
        exact ⟨by rw [HF.out]; rfl, hq⟩
  · have hd0 : ((n : Int) != (m : Int)) = true := by rw [bne_iff_ne]; omega
    have HF := Lib.hid (show decide (A = B) = false by simp only [decide_eq_false_iff_not]; rintro rfl; exact hnm (HN.out.symm.trans HM.out))
    go_wp2_with fail
    go_ret
    exact ⟨by rw [HF.out]; rfl, Qt.refl _⟩

/-- are two cells alike? -/
def alike (x y : Ce) : Bool := decide (x.k = y.k) && decide (x.d = y.d) && decide (x.b = y.b)
theorem alike_iff {x y : Ce} : alike x y = true ↔ x = y := by
  unfold alike
  simp only [Bool.and_eq_true, decide_eq_true_eq]
  constructor
  · rintro ⟨⟨h1, h2⟩, h3⟩; exact Ce.ext' h1 h2 h3
  · rintro rfl; exact ⟨⟨rfl, rfl⟩, rfl⟩

set_option maxHeartbeats 1000000 in
theorem same_any (x y : Ce) (a : Option Addr) (c : Nat) (a2 : Option Addr) (c2 : Nat) (b : Option Addr) (d : Nat) (b2 : Option Addr) (d2 B : Nat) (w : World) (hx : Ro w B a (u8s x.d)) (hx2 : Ro w B a2 (bcs x.b)) (hy : Ro w B b (u8s y.d)) (hy2 : Ro w B b2 (bcs y.b)) (hB : B ≤ w.heap.size)
    (hl : x.b.length ≤ 9223372036854775807) (hl2 : y.b.length ≤ 9223372036854775807) :
    Calls Try.prog 37 #[cev x.k a x.d.length c a2 x.b.length c2, cev y.k b y.d.length d b2 y.b.length d2] w fun e w' => e = .returned (.bool (alike x y)) ∧ Below w.heap.size w w' := by
  obtain ⟨k, l, L⟩ := x
  obtain ⟨k', l', L'⟩ := y
  simp only at hx hx2 hy hy2 hl hl2 ⊢
  have hbA : Below B w ((w.alloc (.cells #[.int .i64 k, .slice a l.length c, .slice a2 L.length c2] 32)).alloc (.cells #[.int .i64 k', .slice b l'.length d, .slice b2 L'.length d2] 32)) := ((Below.refl B w).alloc hB _).alloc (by simp; omega) _
  have H1 := Lib.hid (bytesEqual_any l l' l.length l'.length a b c d B _ rfl rfl (hx.below hbA (Nat.le_refl _)) (hy.below hbA (Nat.le_refl _)))
  have H2 := Lib.hid (equalBacks_any _ a2 b2 L L' c2 d2 L.length L'.length B rfl rfl (hx2.below hbA (Nat.le_refl _)) (hy2.below hbA (Nat.le_refl _)) hl hl2)
  obtain ⟨t, HT⟩ : ∃ t, Hid (alike ⟨k, l, L⟩ ⟨k', l', L'⟩ = t) := ⟨_, Lib.hid rfl⟩
  rw [HT.out]
  obtain ⟨t1, HT1⟩ : ∃ t, Hid (decide (l = l') = t) := ⟨_, Lib.hid rfl⟩
  obtain ⟨t2, HT2⟩ : ∃ t, Hid (decide (L = L') = t) := ⟨_, Lib.hid rfl⟩
  rw [HT1.out] at H1
  rw [HT2.out] at H2
  clear hbA hx hx2 hy hy2
  generalize l.length = n at *
  generalize l'.length = n' at *
  generalize L.length = m at *
  generalize L'.length = m' at *
  by_cases e1 : k = k'
  · subst e1
    cases t1 with
    | true =>
      obtain rfl : t = t2 := by rw [← HT.out]; unfold alike; simp only [HT1.out, HT2.out]; simp
      go_enter Try.func37, Try.ntmps37
      go_wp2_with fail
      refine H1.out.mono ?_
      rintro e w' ⟨rfl, rfl⟩
      go_wp2_with fail
      refine H2.out.mono ?_
      rintro e w' ⟨rfl, hq⟩
      have HQ := Lib.hid hq
      clear hq
      go_wp2_with fail
      go_ret
      exact ⟨rfl, HQ.out.below (((Below.refl _ _).alloc (Nat.le_refl _) _).alloc (by simp) _)⟩
    | false =>
      obtain rfl : t = false := by rw [← HT.out]; unfold alike; simp only [HT1.out]; simp
      go_enter Try.func37, Try.ntmps37
      go_wp2_with fail
      refine H1.out.mono ?_
      rintro e w' ⟨rfl, rfl⟩
      go_wp2_with fail
      go_ret
      exact ⟨rfl, ((Below.refl _ _).alloc (Nat.le_refl _) _).alloc (by simp) _⟩
  · obtain rfl : t = false := by rw [← HT.out]; unfold alike; simp [e1]
    have h1 : (k == k') = false := by rw [beq_eq_false_iff_ne]; omega
    clear e1
    go_enter Try.func37, Try.ntmps37
    go_wp2_with fail
    go_ret
    exact ⟨rfl, ((Below.refl _ _).alloc (Nat.le_refl _) _).alloc (by simp) _⟩
end Go.Proofs.Ytdblplkaobeimaa
namespace Go.Proofs.Ytdblplkaobeimaa
open Go.RowKit Go.Deep
set_option linter.unusedVariables false
set_option linter.unusedSimpArgs false

/-- a message -/
structure Mg where
  k : Int
  fr : Int × Int
  to : Int × Int
  id : Int
  f : Int
  ep : Nat
  ad : Nat
  er : Int
  c : Ce
  st : List Int
  bk : List Bk
  ba : Int × Int
  pr : Int × Int
  ly : Ly

/-! ### valid ones -/
def noC : Ce := ⟨0, [], []⟩
def noL : Ly := ⟨0, [], 0⟩
def isReq (k : Int) : Bool := decide (1 ≤ k) && decide (k ≤ 13)
def kindsOk (k f : Int) : Bool := if k = 14 then isReq f else isReq k && decide (f = 0)
def blw (n l : Int) : Bool := decide (0 ≤ n) && decide (n < l)
def plMost (r : Int) : Int := if r = 1 ∨ r = 2 then 32 else if r = 3 then 3 else if r = 4 then 4 else 0
def plOk (p : Int × Int) : Bool := blw p.2 (plMost p.1)
def baOk (b : Int × Int) : Bool := blw b.1 65536 && blw b.2 4
/-- the least stream that may come ahead of the k-th -/
def leastI (L : List Int) (k : Nat) : Int := if k = 0 then 0 else wrap64 (L.getD (k - 1) 0 + 1)
def mis (m s : Int) : Bool := decide (s < m) || decide (16 ≤ s)
def stOk (L : List Int) : Bool := decide (L.length ≤ 4) && !anyN (fun k => mis (leastI L k) (L.getD k 0)) L.length
def mbad (m : Int) (b : Bk) : Bool := mis m b.1 || !right ⟨1, [], [b]⟩
def mbOk (L : List Bk) : Bool := !anyN (fun k => mbad (least L k) (bk L k)) L.length
def mcOk (c : Ce) : Bool := right c || alike c noC
def lalike (x y : Ly) : Bool := decide (x.e = y.e) && (decide (x.q = y.q) && decide (x.s = y.s))
def mlOk (l : Ly) : Bool := lright l || lalike l noL
def mright (x : Mg) : Bool := kindsOk x.k x.f && (plOk x.fr && (plOk x.to && (blw x.id 1048576 && (decide (x.ep ≤ 1048576) && (decide (x.ad ≤ 1048576) && (blw x.er 256 && (baOk x.ba && (baOk x.pr && (stOk x.st && (mbOk x.bk && (mcOk x.c && mlOk x.ly)))))))))))
theorem lalike_iff {x y : Ly} : lalike x y = true ↔ x = y := by
  obtain ⟨a, b, c⟩ := x
  obtain ⟨d, e, f⟩ := y
  unfold lalike
  simp only [Bool.and_eq_true, decide_eq_true_eq, Ly.mk.injEq]
  constructor
  · rintro ⟨rfl, rfl, rfl⟩; exact ⟨rfl, rfl, rfl⟩
  · rintro ⟨rfl, rfl, rfl⟩; exact ⟨rfl, rfl, rfl⟩
theorem blw_iff {n l : Int} : blw n l = true ↔ 0 ≤ n ∧ n < l := by simp [blw]
theorem plOk_iff {p : Int × Int} (h : plOk p = true) : (1 ≤ p.1 ∧ p.1 ≤ 4) ∧ 0 ≤ p.2 ∧ p.2 < 32 := by
  unfold plOk at h
  rw [blw_iff] at h
  unfold plMost at h
  split at h
  · omega
  · split at h
    · omega
    · split at h <;> omega
theorem baOk_iff {b : Int × Int} : baOk b = true ↔ (0 ≤ b.1 ∧ b.1 < 65536) ∧ 0 ≤ b.2 ∧ b.2 < 4 := by
  unfold baOk
  rw [Bool.and_eq_true, blw_iff, blw_iff]
theorem kindsOk_iff {k f : Int} (h : kindsOk k f = true) : (1 ≤ k ∧ k ≤ 14) ∧ 0 ≤ f ∧ f ≤ 13 := by
  unfold kindsOk isReq at h
  split at h <;> simp only [Bool.and_eq_true, decide_eq_true_eq] at h <;> omega
theorem stOk_iff {L : List Int} (h : stOk L = true) : L.length ≤ 4 ∧ ∀ s ∈ L, 0 ≤ s ∧ s < 16 := by
  unfold stOk at h
  rw [Bool.and_eq_true, decide_eq_true_eq, Bool.not_eq_true', anyN_false] at h
  obtain ⟨h1, h2⟩ := h
  have key : ∀ j, j < L.length → 0 ≤ leastI L j ∧ leastI L j ≤ L.getD j 0 ∧ L.getD j 0 < 16 := by
    intro j
    induction j with
    | zero =>
      intro hj
      have := h2 0 hj
      simp only [mis, Bool.or_eq_false_iff, decide_eq_false_iff_not] at this
      exact ⟨by simp [leastI], by omega, by omega⟩
    | succ j ih =>
      intro hj
      have h3 := ih (by omega)
      have := h2 (j + 1) hj
      simp only [mis, Bool.or_eq_false_iff, decide_eq_false_iff_not] at this
      refine ⟨?_, by omega, by omega⟩
      simp only [leastI, Nat.add_sub_cancel, if_neg (Nat.succ_ne_zero j)]
      unfold wrap64
      omega
  refine ⟨h1, fun s hs => ?_⟩
  obtain ⟨j, hj, rfl⟩ := List.getElem_of_mem hs
  have := key j hj
  have e : L.getD j 0 = L[j] := by simp [List.getD, hj]
  rw [e] at this
  omega
theorem mbOk_at {L : List Bk} (h : mbOk L = true) : ∀ j, j < L.length → 0 ≤ least L j ∧ least L j ≤ (bk L j).1 ∧ (bk L j).1 < 16 ∧ lastOk (bk L j) = true := by
  unfold mbOk at h
  rw [Bool.not_eq_true', anyN_false] at h
  have one : ∀ j, j < L.length → least L j ≤ (bk L j).1 ∧ (bk L j).1 < 16 ∧ lastOk (bk L j) = true := by
    intro j hj
    have := h j hj
    simp only [mbad, mis, Bool.or_eq_false_iff, decide_eq_false_iff_not, Bool.not_eq_false'] at this
    obtain ⟨⟨h1, h2⟩, h3⟩ := this
    have h4 := (backsOk_at (right_data h3 rfl).2.2 0 (by simp)).2.2.2
    exact ⟨by omega, by omega, h4⟩
  intro j
  induction j with
  | zero => intro hj; exact ⟨by simp [least], one 0 hj⟩
  | succ j ih =>
    intro hj
    have h3 := ih (by omega)
    refine ⟨?_, one (j + 1) hj⟩
    simp only [least, Nat.add_sub_cancel, if_neg (Nat.succ_ne_zero j)]
    unfold wrap64
    omega
theorem mbOk_mem {L : List Bk} (h : mbOk L = true) : ∀ b ∈ L, 0 ≤ b.1 ∧ b.1 < 16 ∧ lastOk b = true := by
  intro b hb
  obtain ⟨j, hj, rfl⟩ := List.getElem_of_mem hb
  have := mbOk_at h j hj
  have e : bk L j = L[j] := by simp [bk, List.getD, hj]
  rw [e] at this
  exact ⟨by omega, this.2.2.1, this.2.2.2⟩
theorem mbOk_len {L : List Bk} (h : mbOk L = true) : L.length ≤ 16 := by
  have key : ∀ j, j < L.length → (j : Int) ≤ (bk L j).1 := by
    intro j
    induction j with
    | zero => intro hj; have := mbOk_at h 0 hj; omega
    | succ j ih =>
      intro hj
      have h1 := ih (by omega)
      have h2 := mbOk_at h (j + 1) hj
      have h3 := mbOk_at h j (by omega)
      simp only [least, Nat.add_sub_cancel, if_neg (Nat.succ_ne_zero j)] at h2
      unfold wrap64 at h2
      omega
  rcases Nat.lt_or_ge 16 L.length with hlt | hge
  · have h1 := key 16 hlt
    have h2 := mbOk_at h 16 hlt
    omega
  · exact hge
structure MRight (x : Mg) : Prop where
  k : (1 ≤ x.k ∧ x.k ≤ 14) ∧ 0 ≤ x.f ∧ x.f ≤ 13
  fr : (1 ≤ x.fr.1 ∧ x.fr.1 ≤ 4) ∧ 0 ≤ x.fr.2 ∧ x.fr.2 < 32
  to : (1 ≤ x.to.1 ∧ x.to.1 ≤ 4) ∧ 0 ≤ x.to.2 ∧ x.to.2 < 32
  id : 0 ≤ x.id ∧ x.id < 1048576
  ep : x.ep ≤ 1048576
  ad : x.ad ≤ 1048576
  er : 0 ≤ x.er ∧ x.er < 256
  ba : (0 ≤ x.ba.1 ∧ x.ba.1 < 65536) ∧ 0 ≤ x.ba.2 ∧ x.ba.2 < 4
  pr : (0 ≤ x.pr.1 ∧ x.pr.1 < 65536) ∧ 0 ≤ x.pr.2 ∧ x.pr.2 < 4
  st : x.st.length ≤ 4 ∧ ∀ s ∈ x.st, 0 ≤ s ∧ s < 16
  bk : x.bk.length ≤ 16 ∧ ∀ b ∈ x.bk, 0 ≤ b.1 ∧ b.1 < 16 ∧ lastOk b = true
  c : right x.c = true ∨ x.c = noC
  ly : lright x.ly = true ∨ x.ly = noL
theorem mright_all {x : Mg} (h : mright x = true) : MRight x := by
  unfold mright at h
  simp only [Bool.and_eq_true] at h
  obtain ⟨h1, h2, h3, h4, h5, h6, h7, h8, h9, h10, h11, h12, h13⟩ := h
  refine ⟨kindsOk_iff h1, plOk_iff h2, plOk_iff h3, blw_iff.1 h4, by simpa using h5, by simpa using h6, blw_iff.1 h7, baOk_iff.1 h8, baOk_iff.1 h9, stOk_iff h10, ⟨mbOk_len h11, mbOk_mem h11⟩, ?_, ?_⟩
  · unfold mcOk at h12
    rw [Bool.or_eq_true, alike_iff] at h12
    exact h12
  · unfold mlOk at h13
    rw [Bool.or_eq_true, lalike_iff] at h13
    exact h13

/-! ### bytes -/
def fBk (b : Bk) : List (Nat × Nat) := [(4, b.1.toNat), (21, min b.2.1 1048576), (21, min b.2.2 1048576)]
def fBy (l : List UInt8) : List (Nat × Nat) := (8, l.length) :: l.flatMap fun b => [(8, b.toNat)]
def fHd (x : Mg) : List (Nat × Nat) := [(4, x.k.toNat), (4, x.f.toNat), (3, x.fr.1.toNat), (5, x.fr.2.toNat), (3, x.to.1.toNat), (5, x.to.2.toNat), (20, x.id.toNat), (21, x.ep), (21, x.ad), (8, x.er.toNat), (16, x.ba.1.toNat), (2, x.ba.2.toNat), (16, x.pr.1.toNat), (2, x.pr.2.toNat)]
def fSt (L : List Int) : List (Nat × Nat) := (3, L.length) :: L.flatMap fun s => [(4, s.toNat)]
def fBks (L : List Bk) : List (Nat × Nat) := (5, L.length) :: L.flatMap fBk
def fMg (x : Mg) (cb lb : List UInt8) : List (Nat × Nat) := fHd x ++ (fSt x.st ++ (fBks x.bk ++ (fBy cb ++ fBy lb)))
/-- the bytes of a message's cell, and of its layout: none if these are none -/
def CB (c : Ce) (l : List UInt8) : Prop := (right c = true ∧ IsEnc c l) ∨ (right c = false ∧ l = [])
def LB (x : Ly) (l : List UInt8) : Prop := (lright x = true ∧ IsLE x l) ∨ (lright x = false ∧ l = [])
def IsME (x : Mg) (bs : List UInt8) : Prop := ∃ cb lb, CB x.c cb ∧ LB x.ly lb ∧ IsPack (fw (fMg x cb lb)) (fv (fMg x cb lb)) bs
theorem CB.unique {c : Ce} {a b : List UInt8} (h1 : CB c a) (h2 : CB c b) : a = b := by
  rcases h1 with ⟨r1, e1⟩ | ⟨r1, e1⟩ <;> rcases h2 with ⟨r2, e2⟩ | ⟨r2, e2⟩
  · exact e1.unique e2
  · rw [r1] at r2; cases r2
  · rw [r1] at r2; cases r2
  · rw [e1, e2]
theorem LB.unique {c : Ly} {a b : List UInt8} (h1 : LB c a) (h2 : LB c b) : a = b := by
  rcases h1 with ⟨r1, e1⟩ | ⟨r1, e1⟩ <;> rcases h2 with ⟨r2, e2⟩ | ⟨r2, e2⟩
  · exact e1.unique e2
  · rw [r1] at r2; cases r2
  · rw [r1] at r2; cases r2
  · rw [e1, e2]
theorem IsME.unique {x : Mg} {a b : List UInt8} (h1 : IsME x a) (h2 : IsME x b) : a = b := by
  obtain ⟨c1, l1, g1, g2, g3⟩ := h1
  obtain ⟨c2, l2, k1, k2, k3⟩ := h2
  obtain rfl := g1.unique k1
  obtain rfl := g2.unique k2
  exact g3.unique k3
theorem CB.len {c : Ce} {l : List UInt8} (h : CB c l) : l.length ≤ 125 := by
  rcases h with ⟨r, e⟩ | ⟨_, rfl⟩
  · rcases enc_length e r with ⟨_, h⟩ | ⟨hk, h, _⟩
    · omega
    · have := right_data r hk
      omega
  · simp
theorem fsum_flat_le {α : Type} {f : α → List (Nat × Nat)} {n : Nat} : ∀ {xs : List α}, (∀ x ∈ xs, fsum (f x) ≤ n) → fsum (xs.flatMap f) ≤ xs.length * n
  | [], _ => by simp [fsum]
  | x :: xs, h => by
    have h1 := h x (by simp)
    have h2 := fsum_flat_le (xs := xs) (fun y hy => h y (by simp [hy]))
    rw [List.flatMap_cons, fsum_app, List.length_cons, Nat.succ_mul]
    omega
theorem fsum_flat_eq {α : Type} {f : α → List (Nat × Nat)} {n : Nat} : ∀ {xs : List α}, (∀ x ∈ xs, fsum (f x) = n) → fsum (xs.flatMap f) = xs.length * n
  | [], _ => by simp [fsum]
  | x :: xs, h => by
    have h1 := h x (by simp)
    have h2 := fsum_flat_eq (xs := xs) (fun y hy => h y (by simp [hy]))
    rw [List.flatMap_cons, fsum_app, List.length_cons, Nat.succ_mul]
    omega
theorem fLy_sum {x : Ly} (h : lright x = true) : fsum (fLy x) ≤ 468 := by
  have h4 := (sgOk_iff.1 (lright_iff.1 h).2.2).1
  have := fsum_flat_le (f := fSg) (n := 110) (xs := x.s) (fun s hs => by
    obtain ⟨g1, g2, _, _⟩ := chOk_iff.1 (seg_ok h hs).1
    have := fsum_flat_le (f := fCh) (n := 22) (xs := s.2) (fun c hc => by
      have := fsum_flat_eq (f := fun u : Int => [(5, u.toNat)]) (n := 5) (xs := c) (fun u _ => by simp [fsum])
      have := g2 c hc
      unfold fCh
      rw [fsum_cons]
      simp only
      omega)
    unfold fSg
    rw [fsum_cons, fsum_cons]
    simp only
    omega)
  unfold fLy
  rw [fsum_cons, fsum_cons, fsum_cons]
  simp only
  omega
theorem LB.len {x : Ly} {l : List UInt8} (h : LB x l) : l.length ≤ 59 := by
  rcases h with ⟨r, e⟩ | ⟨_, rfl⟩
  · have h1 := e.1
    rw [nat_fw_sum] at h1
    have := fLy_sum r
    omega
  · simp
theorem fBy_ok {l : List UInt8} (h : l.length < 256) : FOk (fBy l) :=
  FOk.cons ⟨by simp, by simpa using h⟩ (FOk.flat fun b _ => FOk.cons ⟨by simp, by simpa using b.toNat_lt⟩ FOk.nil)
theorem fBk_ok {b : Bk} (h : 0 ≤ b.1 ∧ b.1 < 16) : FOk (fBk b) := by
  have h1 : min b.2.1 1048576 ≤ 1048576 := Nat.min_le_right _ _
  have h2 : min b.2.2 1048576 ≤ 1048576 := Nat.min_le_right _ _
  exact FOk.cons ⟨by simp, by simp; omega⟩ (FOk.cons ⟨by simp, by simp; omega⟩ (FOk.cons ⟨by simp, by simp; omega⟩ FOk.nil))
theorem fMg_ok {x : Mg} (h : MRight x) {cb lb : List UInt8} (hc : CB x.c cb) (hl : LB x.ly lb) : FOk (fMg x cb lb) := by
  have h1 := hc.len
  have h2 := hl.len
  refine FOk.app ?_ (FOk.app ?_ (FOk.app ?_ (FOk.app (fBy_ok (by omega)) (fBy_ok (by omega)))))
  · obtain ⟨h1, h2, h3, h4, h5, h6, h7, h8, h9, _, _, _, _⟩ := h
    intro p hp
    simp only [fHd, List.mem_cons, List.not_mem_nil, or_false] at hp
    rcases hp with rfl | rfl | rfl | rfl | rfl | rfl | rfl | rfl | rfl | rfl | rfl | rfl | rfl | rfl <;> exact ⟨by simp, by simp only; omega⟩
  · have := h.st
    exact FOk.cons ⟨by simp, by simp; omega⟩ (FOk.flat fun s hs => FOk.cons ⟨by simp, by have := h.st.2 s hs; simp; omega⟩ FOk.nil)
  · have := h.bk
    exact FOk.cons ⟨by simp, by simp; omega⟩ (FOk.flat fun b hb => fBk_ok ⟨(h.bk.2 b hb).1, (h.bk.2 b hb).2.1⟩)
theorem fMg_sum (x : Mg) (cb lb : List UInt8) : fsum (fMg x cb lb) = 154 + 4 * x.st.length + 46 * x.bk.length + 8 * cb.length + 8 * lb.length := by
  have e1 := fsum_flat_eq (f := fun s : Int => [(4, s.toNat)]) (n := 4) (xs := x.st) (fun u _ => by simp [fsum])
  have e2 := fsum_flat_eq (f := fBk) (n := 46) (xs := x.bk) (fun u _ => by simp [fBk, fsum])
  have e3 := fsum_flat_eq (f := fun b : UInt8 => [(8, b.toNat)]) (n := 8) (xs := cb) (fun u _ => by simp [fsum])
  have e4 := fsum_flat_eq (f := fun b : UInt8 => [(8, b.toNat)]) (n := 8) (xs := lb) (fun u _ => by simp [fsum])
  unfold fMg fSt fBks fBy
  simp only [fsum_app, fsum_cons, e1, e2, e3, e4]
  have : fsum (fHd x) = 130 := by simp [fHd, fsum]
  omega
theorem fMg_len {x : Mg} (h : MRight x) {cb lb : List UInt8} (hc : CB x.c cb) (hl : LB x.ly lb) : (fMg x cb lb).length ≤ 300 := by
  have h1 := hc.len
  have h2 := hl.len
  have h3 := h.st.1
  have h4 := h.bk.1
  have e1 := fflat_le (f := fun s : Int => [(4, s.toNat)]) (n := 1) (xs := x.st) (fun u _ => by simp)
  have e2 := fflat_le (f := fBk) (n := 3) (xs := x.bk) (fun u _ => by simp [fBk])
  have e3 := fflat_le (f := fun b : UInt8 => [(8, b.toNat)]) (n := 1) (xs := cb) (fun u _ => by simp)
  have e4 := fflat_le (f := fun b : UInt8 => [(8, b.toNat)]) (n := 1) (xs := lb) (fun u _ => by simp)
  unfold fMg fSt fBks fBy
  simp only [List.length_append, List.length_cons]
  have : (fHd x).length = 14 := rfl
  omega

/-! ### reading back -/
open Classical in
/-- the cell, and the layout, of bytes: none if these are none's -/
noncomputable def decC (l : List UInt8) : Ce := if h : ∃ x, right x = true ∧ IsEnc x l then h.choose else noC
open Classical in
noncomputable def decL (l : List UInt8) : Ly := if h : ∃ x, lright x = true ∧ IsLE x l then h.choose else noL
theorem decC_no {l : List UInt8} (h : ∀ x, right x = true → ¬ IsEnc x l) : decC l = noC := by
  unfold decC
  rw [dif_neg]
  rintro ⟨x, h1, h2⟩
  exact h x h1 h2
theorem decL_yes {x : Ly} {l : List UInt8} (hr : lright x = true) (he : IsLE x l) : decL l = x := by
  have h : ∃ x, lright x = true ∧ IsLE x l := ⟨x, hr, he⟩
  unfold decL
  rw [dif_pos h]
  exact IsLE.inj h.choose_spec.2 he h.choose_spec.1 hr
theorem decL_no {l : List UInt8} (h : ∀ x, lright x = true → ¬ IsLE x l) : decL l = noL := by
  unfold decL
  rw [dif_neg]
  rintro ⟨x, h1, h2⟩
  exact h x h1 h2
theorem noEnc_nil : ∀ x, right x = true → ¬ IsEnc x [] := fun x hr he => by
  rcases enc_length he hr with ⟨_, h⟩ | ⟨_, h, _⟩ <;> simp only [List.length_nil] at h <;> omega
theorem noLE_nil : ∀ x, lright x = true → ¬ IsLE x [] := fun x hr he => by
  have h1 := he.1
  rw [nat_fw_sum] at h1
  simp only [List.length_nil, fLy, fsum_cons] at h1
  omega
theorem decL_LB {c : Ly} {l : List UInt8} (h : LB c l) (hc : lright c = true ∨ c = noL) : decL l = c := by
  rcases h with ⟨r, e⟩ | ⟨r, rfl⟩
  · exact decL_yes r e
  · rcases hc with h | h
    · rw [r] at h; cases h
    · rw [h]; exact decL_no noLE_nil
def pS (bs : List UInt8) (k : Nat) : Int × Nat := ((tkN bs k 4 : Nat), k + 4)
def pB (bs : List UInt8) (k : Nat) : Bk × Nat := (((tkN bs k 4 : Nat), lst (tkN bs (k + 4) 21), lst (tkN bs (k + 4 + 21) 21)), k + 4 + 21 + 21)
def pY (bs : List UInt8) (k : Nat) : UInt8 × Nat := (UInt8.ofNat (tkN bs k 8), k + 8)
def pSt (bs : List UInt8) (k : Nat) : List Int × Nat := rep (pS bs) (tkN bs k 3) (k + 3)
def pBks (bs : List UInt8) (k : Nat) : List Bk × Nat := rep (pB bs) (tkN bs k 5) (k + 5)
def pBy (bs : List UInt8) (k : Nat) : List UInt8 × Nat := rep (pY bs) (tkN bs k 8) (k + 8)
def pPl (bs : List UInt8) (k : Nat) : Int × Int := ((tkN bs k 3 : Nat), (tkN bs (k + 3) 5 : Nat))
def pBa (bs : List UInt8) (k : Nat) : Int × Int := ((tkN bs k 16 : Nat), (tkN bs (k + 16) 2 : Nat))
def pStreams (bs : List UInt8) : List Int × Nat := pSt bs 130
def pBacks (bs : List UInt8) : List Bk × Nat := pBks bs (pStreams bs).2
def pCell (bs : List UInt8) : List UInt8 × Nat := pBy bs (pBacks bs).2
def pLayout (bs : List UInt8) : List UInt8 × Nat := pBy bs (pCell bs).2
noncomputable def pMg (bs : List UInt8) : Mg :=
  { k := (tkN bs 0 4 : Nat), f := (tkN bs 4 4 : Nat), fr := pPl bs 8, to := pPl bs 16, id := (tkN bs 24 20 : Nat), ep := tkN bs 44 21, ad := tkN bs 65 21, er := (tkN bs 86 8 : Nat), ba := pBa bs 94, pr := pBa bs 112
    st := (pStreams bs).1, bk := (pBacks bs).1, c := decC (pCell bs).1, ly := decL (pLayout bs).1 }
theorem lst_min {p : Nat} (h : p = 18446744073709551615 ∨ p < 1048576) : lst (min p 1048576) = p := by
  unfold lst
  rcases h with rfl | h
  · decide
  · rw [if_neg (by omega)]; omega
theorem pBy_ok {bs l : List UInt8} {k : Nat} (h : Rd bs k (fBy l)) : pBy bs k = (l, k + fsum (fBy l)) := by
  obtain ⟨h1, h2⟩ := h
  simp only at h1 h2
  have := rep_ok (p := pY bs) (f := fun b : UInt8 => [(8, b.toNat)]) (fun u hm k hr => by
    obtain ⟨g1, _⟩ := hr
    simp only at g1
    unfold pY
    rw [g1]
    simp [fsum]) h2
  unfold pBy
  rw [h1, this]
  simp only [fBy, fsum_cons, Nat.add_assoc]
end Go.Proofs.Ytdblplkaobeimaa
namespace Go.Proofs.Ytdblplkaobeimaa
open Go.RowKit Go.Deep Go.Shelf
set_option linter.unusedVariables false
set_option linter.unusedSimpArgs false

/-- an address that is not ahead of a -/
def late (a x : Nat) : Bool := if x = 18446744073709551615 then false else decide (a ≤ x)
/-- a Back with one -/
def lateB (a : Nat) (b : Bk) : Bool := anyN (fun k => late a ([b.2.1, b.2.2].getD k 0)) 2
/-- is all ahead of a? -/
def before (x : Ce) (a : Nat) : Bool := !anyN (fun k => lateB a (bk x.b k)) x.b.length

set_option maxHeartbeats 400000 in
theorem bf1_any (x a g : Nat) (w : World) (h : w.cell? ⟨g, 0, none⟩ = some (.int .u64 (a : Int))) :
    Calls Try.prog 60 #[.int .u64 (x : Int), .pointer (some ⟨g, 0, none⟩)] w fun e w' => e = .returned (.bool (late a x)) ∧ w = w' := by
  by_cases e : x = 18446744073709551615
  · have e1 : late a x = false := by simp [late, e]
    rw [e1]
    subst e
    clear e1
    go_enter Try.func60, Try.ntmps60
    go_wp2
    go_ret
    exact ⟨rfl, rfl⟩
  · have e1 : late a x = decide (a ≤ x) := by simp [late, e]
    have e3 : ((x : Int) != 18446744073709551615) = true := by rw [bne_iff_ne]; omega
    rw [e1]
    clear e1 e
    go_enter Try.func60, Try.ntmps60
    go_wp2
    go_ret
    exact ⟨by simp, rfl⟩

theorem bf1_in (p q a g gb : Nat) (w : World) (h : w.cell? ⟨g, 0, none⟩ = some (.int .u64 (a : Int))) (h1 : w.cell? ⟨gb, 1, none⟩ = some (.int .u64 (p : Int))) (h2 : w.cell? ⟨gb, 2, none⟩ = some (.int .u64 (q : Int))) (s : Int) :
    Calls Try.prog 62 #[.slice (some ⟨gb, 1, none⟩) 2 2, .func (.func 60) #[] #[.pointer (some ⟨g, 0, none⟩)]] w fun e w' => e = .returned (.bool (lateB a (s, p, q))) ∧ w' = w := by
  have eg : ∀ args w, (callFunc 60 args).run Try.prog w = .ok (.enter 60 args) w := enters_of Try.func60 (by kernel_rfl) rfl
  refine (contains_num (fun k W => W = w) (fun k => late a ([p, q].getD k 0)) 60 #[.pointer (some ⟨g, 0, none⟩)] eg [p, q] (some ⟨gb, 1, none⟩) 2 (gb + 1) w (by simp) (fun k W' hW => ?_) rfl (fun k W' hk hW => ?_)).mono ?_
  · subst hW
    refine .inr ⟨gb, 1, rfl, by omega, fun i hi => ?_⟩
    have hi' : i = 0 ∨ i = 1 := by simp at hi; omega
    rcases hi' with rfl | rfl
    · exact h1
    · exact h2
  · subst hW
    refine (bf1_any ([p, q].getD k 0) a g W' h).mono ?_
    rintro e w' ⟨rfl, rfl⟩
    exact ⟨rfl, rfl⟩
  · rintro e w' ⟨rfl, k, hk⟩
    exact ⟨rfl, hk⟩

set_option maxHeartbeats 1000000 in
theorem bf2_any (b : Bk) (a g gc : Nat) (w : World) (h : w.cell? ⟨g, 0, none⟩ = some (.int .u64 (a : Int))) (h1 : w.cell? ⟨gc, 0, none⟩ = some (.func (.func 60) #[] #[.pointer (some ⟨g, 0, none⟩)])) :
    Calls Try.prog 61 #[bkv b, .pointer (some ⟨gc, 0, none⟩)] w fun e w' => e = .returned (.bool (lateB a b)) ∧ Below w.heap.size w w' := by
  obtain ⟨s, p, q⟩ := b
  have hg := World.block_lt_of_cell? _ _ h
  have hgc := World.block_lt_of_cell? _ _ h1
  have o1 := Own.new w 54 [.int .i64 s, .int .u64 (p : Int), .int .u64 (q : Int)]
  have c1 := o1.cell 1
  have c2 := o1.cell 2
  have HC := Lib.hid (fun n => bf1_in p q a g w.heap.size ((w.alloc (.cells #[.int .i64 s, .int .u64 (p : Int), .int .u64 (q : Int)] 54)).drewN n) ((World.cell?_alloc_lt _ _ _ hg).trans h) (by simp) (by simp) s)
  clear o1 c1 c2
  generalize lateB a (s, p, q) = t at *
  simp only at hg hgc
  go_enter Try.func61, Try.ntmps61
  go_wp2_with fail
  go_quiet ((go_at_call 62; exact Calls.quiet_of_same (HC.out _)))
  go_wp2_with fail
  go_ret
  exact ⟨rfl, (Qt.drewN _ _).below ((Below.refl _ _).alloc (Nat.le_refl _) _)⟩

set_option maxHeartbeats 1000000 in
theorem before_any (x : Ce) (a : Option Addr) (n c : Nat) (a2 : Option Addr) (c2 B : Nat) (y : Nat) (w : World) (hro : Ro w B a2 (bcs x.b)) (hB : B ≤ w.heap.size) (hl : x.b.length ≤ 1000000) :
    Calls Try.prog 41 #[cev x.k a n c a2 x.b.length c2, .int .u64 (y : Int)] w fun e w' => e = .returned (.bool (before x y)) ∧ Below w.heap.size w w' := by
  obtain ⟨k, d, L⟩ := x
  simp only at hro hl ⊢
  obtain ⟨t, ht⟩ : ∃ t, t = anyN (fun k => lateB y (bk L k)) L.length := ⟨_, rfl⟩
  have eg : ∀ args w, (callFunc 61 args).run Try.prog w = .ok (.enter 61 args) w := enters_of Try.func61 (by kernel_rfl) rfl
  obtain ⟨W, hW⟩ : ∃ W, ((w.alloc (.cells #[.int .i64 k, .slice a n c, .slice a2 L.length c2] 32)).alloc (.cells #[.int .u64 (y : Int)] 26)).alloc (.cells #[.func (.func 60) #[] #[.pointer (some ⟨w.heap.size + 1, 0, none⟩)]] 98) = W := ⟨_, rfl⟩
  have hWb : Below w.heap.size w W := by rw [← hW]; exact (((Below.refl _ _).alloc (Nat.le_refl _) _).alloc (by simp) _).alloc (by simp; omega) _
  have o1 : Own W (w.heap.size + 1) 26 [.int .u64 (y : Int)] := by
    rw [← hW]
    have := Own.new (w.alloc (.cells #[.int .i64 k, .slice a n c, .slice a2 L.length c2] 32)) 26 [.int .u64 (y : Int)]
    exact Own.alloc (by simpa using this) _
  have o2 : Own W (w.heap.size + 2) 98 [.func (.func 60) #[] #[.pointer (some ⟨w.heap.size + 1, 0, none⟩)]] := by
    rw [← hW]
    have := Own.new ((w.alloc (.cells #[.int .i64 k, .slice a n c, .slice a2 L.length c2] 32)).alloc (.cells #[.int .u64 (y : Int)] 26)) 98 [.func (.func 60) #[] #[.pointer (some ⟨w.heap.size + 1, 0, none⟩)]]
    simpa using this
  have HC : Hid (Calls Try.prog 34 #[.slice a2 L.length c2, .func (.func 61) #[] #[.pointer (some ⟨w.heap.size + 1 + 1, 0, none⟩)]] W fun e w' => e = .returned (.bool t) ∧ Below w.heap.size w w') := by
    apply Lib.hid
    refine (contains_back (fun k W' => Own W' (w.heap.size + 1) 26 [.int .u64 (y : Int)] ∧ Own W' (w.heap.size + 2) 98 [.func (.func 60) #[] #[.pointer (some ⟨w.heap.size + 1, 0, none⟩)]] ∧ Below w.heap.size w W') (fun k => lateB y (bk L k)) 61 #[.pointer (some ⟨w.heap.size + 1 + 1, 0, none⟩)] eg L a2 c2 B W hl (fun k W' h => hro.below h.2.2 hB) ⟨o1, o2, hWb⟩ (fun k W' hk h => ?_)).mono ?_
    · obtain ⟨o1, o2, o3⟩ := h
      refine (bf2_any (bk L k) y (w.heap.size + 1) (w.heap.size + 2) W' (by simpa using o1.cell 0) (by simpa using o2.cell 0)).mono ?_
      rintro e w' ⟨rfl, h4⟩
      exact ⟨rfl, o1.below h4 o1.lt, o2.below h4 o2.lt, o3.trans (h4.mono o3.size)⟩
    · rintro e w' ⟨rfl, k, hk⟩
      rw [ht]
      exact ⟨rfl, hk.2.2⟩
  unfold before
  show Calls _ _ _ _ fun e w' => e = .returned (.bool (!anyN (fun k => lateB y (bk L k)) L.length)) ∧ _
  rw [← ht]
  have HW := Lib.hid hW
  clear ht o1 o2 hWb hW hro
  generalize L.length = m at *
  go_enter Try.func41, Try.ntmps41
  go_wp2_with fail
  rw [HW.out]
  refine HC.out.mono ?_
  rintro e w' ⟨rfl, hb⟩
  have HB := Lib.hid hb
  clear hb
  go_wp2_with fail
  go_ret
  exact ⟨rfl, HB.out⟩

set_option maxHeartbeats 400000 in
theorem fd1_any (b : Bk) (s : Int) (g : Nat) (w : World) (h : w.cell? ⟨g, 0, none⟩ = some (.int .i64 s)) :
    Calls Try.prog 48 #[bkv b, .pointer (some ⟨g, 0, none⟩)] w fun e w' => e = .returned (.bool (decide (b.1 = s))) ∧ Below w.heap.size w w' := by
  obtain ⟨t, p, q⟩ := b
  have hg := World.block_lt_of_cell? _ _ h
  simp only at hg ⊢
  go_enter Try.func48, Try.ntmps48
  go_wp2_with fail
  go_ret
  exact ⟨ret_bool rfl, (Below.refl _ _).alloc (Nat.le_refl _) _⟩

/-- the index of a stream's Back -/
def fdx (x : Ce) (s : Int) : Int := fx (fun k => decide ((bk x.b k).1 = s)) x.b.length
set_option maxHeartbeats 1000000 in
theorem find_in (L : List Bk) (a2 : Option Addr) (c2 B : Nat) (s : Int) (g : Nat) (w W : World) (hro : Ro w B a2 (bcs L)) (hB : B ≤ w.heap.size) (hW : Below w.heap.size w W) (hg : Own W g 3 [.int .i64 s]) (hl : L.length ≤ 1000000) :
    Calls Try.prog 47 #[.slice a2 L.length c2, .func (.func 48) #[] #[.pointer (some ⟨g, 0, none⟩)]] W fun e w' => e = .returned (.int .i64 (fx (fun k => decide ((bk L k).1 = s)) L.length)) ∧ Below W.heap.size W w' := by
  have eg : ∀ args w, (callFunc 48 args).run Try.prog w = .ok (.enter 48 args) w := enters_of Try.func48 (by kernel_rfl) rfl
  refine (index_back (fun k W' => Own W' g 3 [.int .i64 s] ∧ Below W.heap.size W W') (fun k => decide ((bk L k).1 = s)) 48 #[.pointer (some ⟨g, 0, none⟩)] eg L a2 c2 B W hl (fun k W' h => (hro.below hW hB).below h.2 (Nat.le_trans hB hW.size)) ⟨hg, Below.refl _ _⟩ (fun k W' hk h => ?_)).mono ?_
  · obtain ⟨o1, o3⟩ := h
    refine (fd1_any (bk L k) s g W' (by simpa using o1.cell 0)).mono ?_
    rintro e w' ⟨rfl, h4⟩
    exact ⟨rfl, o1.below h4 o1.lt, o3.trans (h4.mono o3.size)⟩
  · rintro e w' ⟨rfl, k, hk⟩
    exact ⟨rfl, hk.2⟩

set_option maxHeartbeats 1000000 in
theorem find_no (x : Ce) (a : Option Addr) (n c : Nat) (a2 : Option Addr) (c2 B : Nat) (s : Int) (w : World) (hro : Ro w B a2 (bcs x.b)) (hB : B ≤ w.heap.size) (hl : x.b.length ≤ 1000000) (hx : fdx x s = -1) :
    Calls Try.prog 28 #[cev x.k a n c a2 x.b.length c2, .int .i64 s] w fun e w' => e = .returned (.tuple #[.agg #[.int .u64 18446744073709551615, .int .u64 18446744073709551615], .bool false]) ∧ Below w.heap.size w w' := by
  obtain ⟨k, d, L⟩ := x
  simp only [fdx] at hro hl hx ⊢
  obtain ⟨W, hW⟩ : ∃ W, ((w.alloc (.cells #[.int .i64 k, .slice a n c, .slice a2 L.length c2] 32)).alloc (.cells #[.int .i64 s] 3)).alloc (.cells #[.int .u64 0, .int .u64 0] 50) = W := ⟨_, rfl⟩
  have hWb : Below w.heap.size w W := by rw [← hW]; exact (((Below.refl _ _).alloc (Nat.le_refl _) _).alloc (by simp) _).alloc (by simp; omega) _
  have o1 : Own W (w.heap.size + 1) 3 [.int .i64 s] := by
    rw [← hW]
    have := Own.new (w.alloc (.cells #[.int .i64 k, .slice a n c, .slice a2 L.length c2] 32)) 3 [.int .i64 s]
    exact Own.alloc (by simpa using this) _
  have o2 : Own W (w.heap.size + 2) 50 [.int .u64 0, .int .u64 0] := by
    rw [← hW]
    have := Own.new ((w.alloc (.cells #[.int .i64 k, .slice a n c, .slice a2 L.length c2] 32)).alloc (.cells #[.int .i64 s] 3)) 50 [.int .u64 0, .int .u64 0]
    simpa using this
  have HC := Lib.hid (find_in L a2 c2 B s (w.heap.size + 1) w W hro hB hWb o1 hl)
  rw [hx] at HC
  have HW := Lib.hid hW
  have HWb := Lib.hid hWb
  have HO := Lib.hid o2
  clear o1 o2 hWb hW hro hx
  generalize L.length = m at *
  go_enter Try.func28, Try.ntmps28
  go_wp2_with fail
  rw [HW.out]
  refine HC.out.mono ?_
  rintro e w1 ⟨rfl, hb⟩
  have HB := Lib.hid hb
  have HO1 := Lib.hid (HO.out.below hb HO.out.lt)
  clear hb
  go_wp2_with fail
  refine (noLast_any _).mono ?_
  rintro e w2 ⟨rfl, hb⟩
  have HB2 := Lib.hid hb
  have o3 := HO1.out.below hb HO1.out.lt
  have c0 := o3.cell 0
  have c1 := o3.cell 1
  have f0 := o3.frozen 0
  have f1 := o3.frozen 1
  simp at c0 c1
  clear hb o3
  go_wp2_with fail
  refine bodyPost_ret (v := .tuple #[.agg #[.int .u64 18446744073709551615, .int .u64 18446744073709551615], .bool false]) (by simp [results, Try.results28, go_sem, c0, c1, f0, f1]) rfl ⟨rfl, ?_⟩
  exact ((HWb.out.trans (HB.out.mono HWb.out.size)).trans (HB2.out.mono (Nat.le_trans HWb.out.size HB.out.size))).setCell (by show w.heap.size ≤ w.heap.size + 2; omega) _ |>.setCell (by show w.heap.size ≤ w.heap.size + 2; omega) _
set_option maxHeartbeats 1000000 in
theorem find_yes (x : Ce) (a : Option Addr) (n c : Nat) (a2 : Option Addr) (c2 B : Nat) (s : Int) (w : World) (hro : Ro w B a2 (bcs x.b)) (hB : B ≤ w.heap.size) (hl : x.b.length ≤ 1000000) (i : Nat) (hi : i < x.b.length) (hx : fdx x s = (i : Int)) :
    Calls Try.prog 28 #[cev x.k a n c a2 x.b.length c2, .int .i64 s] w fun e w' => e = .returned (.tuple #[.agg #[.int .u64 ((bk x.b i).2.1 : Int), .int .u64 ((bk x.b i).2.2 : Int)], .bool true]) ∧ Below w.heap.size w w' := by
  obtain ⟨k, d, L⟩ := x
  simp only [fdx] at hro hl hx hi ⊢
  obtain ⟨W, hW⟩ : ∃ W, ((w.alloc (.cells #[.int .i64 k, .slice a n c, .slice a2 L.length c2] 32)).alloc (.cells #[.int .i64 s] 3)).alloc (.cells #[.int .u64 0, .int .u64 0] 50) = W := ⟨_, rfl⟩
  have hWb : Below w.heap.size w W := by rw [← hW]; exact (((Below.refl _ _).alloc (Nat.le_refl _) _).alloc (by simp) _).alloc (by simp; omega) _
  have o1 : Own W (w.heap.size + 1) 3 [.int .i64 s] := by
    rw [← hW]
    have := Own.new (w.alloc (.cells #[.int .i64 k, .slice a n c, .slice a2 L.length c2] 32)) 3 [.int .i64 s]
    exact Own.alloc (by simpa using this) _
  have o2 : Own W (w.heap.size + 2) 50 [.int .u64 0, .int .u64 0] := by
    rw [← hW]
    have := Own.new ((w.alloc (.cells #[.int .i64 k, .slice a n c, .slice a2 L.length c2] 32)).alloc (.cells #[.int .i64 s] 3)) 50 [.int .u64 0, .int .u64 0]
    simpa using this
  have o0 : Own W w.heap.size 32 [.int .i64 k, .slice a n c, .slice a2 L.length c2] := by
    rw [← hW]
    exact ((Own.new w _ _).alloc _).alloc _
  have HR := Lib.hid hro
  have HI := Lib.hid hi
  have HO0 := Lib.hid o0
  have HC := Lib.hid (find_in L a2 c2 B s (w.heap.size + 1) w W hro hB hWb o1 hl)
  rw [hx] at HC
  have HW := Lib.hid hW
  have HWb := Lib.hid hWb
  have HO := Lib.hid o2
  clear o0 o1 o2 hWb hW hro hx
  obtain ⟨b0, off, rfl, hb0, hcl⟩ := HR.out.bk (by omega)
  obtain ⟨_, c1, c2'⟩ := hcl i HI.out
  clear hcl
  have HX1 := Lib.hid c1
  have HX2 := Lib.hid c2'
  clear c1 c2'
  generalize bk L i = x at *
  have hi1 : (i : Int) < (L.length : Int) := by omega
  have hi0 : (0 : Int) ≤ (i : Int) := by omega
  generalize L.length = m at *
  go_enter Try.func28, Try.ntmps28
  go_wp2_with fail
  rw [HW.out]
  refine HC.out.mono ?_
  rintro e w1 ⟨rfl, hb⟩
  have HB := Lib.hid hb
  have o3 := HO.out.below hb HO.out.lt
  have o4 := HO0.out.below hb HO0.out.lt
  have x1 := (hb.cell (p := ⟨b0, off + i * 3 + 1, none⟩) (Nat.lt_of_lt_of_le (Nat.lt_of_lt_of_le hb0 hB) HWb.out.size)).trans ((HWb.out.cell (p := ⟨b0, off + i * 3 + 1, none⟩) (Nat.lt_of_lt_of_le hb0 hB)).trans HX1.out)
  have x2 := (hb.cell (p := ⟨b0, off + i * 3 + 2, none⟩) (Nat.lt_of_lt_of_le (Nat.lt_of_lt_of_le hb0 hB) HWb.out.size)).trans ((HWb.out.cell (p := ⟨b0, off + i * 3 + 2, none⟩) (Nat.lt_of_lt_of_le hb0 hB)).trans HX2.out)
  have c0 := o3.cell 0
  have c1 := o3.cell 1
  have f0 := o3.frozen 0
  have f1 := o3.frozen 1
  have d2 := o4.cell 2
  simp at c0 c1 d2
  clear hb o3 o4
  go_wp2_with fail
  refine bodyPost_ret (v := .tuple #[.agg #[.int .u64 (x.2.1 : Int), .int .u64 (x.2.2 : Int)], .bool true]) (by simp [results, Try.results28, go_sem, c0, c1, f0, f1]) rfl ⟨rfl, ?_⟩
  exact (HWb.out.trans (HB.out.mono HWb.out.size)).setCell (by show w.heap.size ≤ w.heap.size + 2; omega) _ |>.setCell (by show w.heap.size ≤ w.heap.size + 2; omega) _
end Go.Proofs.Ytdblplkaobeimaa
