/-
  Small functions of package cell, by their contracts: joined, split, noLast. No claim of their own.
-/
import Derived.Test.YtdblplkaobeimaaGc1
import Derived.Test.YtdblplkaobeimaaGc2
import Derived.Deep.RegionHeld3
import Derived.Shelf.Lay
import Derived.Deep.RegionLaw
import Derived.Lib.SmallJoins
namespace Go.Proofs.Ytdblplkaobeimaa
open Go.RowKit Go.Deep
set_option linter.unusedVariables false
set_option linter.unusedSimpArgs false

theorem join_int (h l n : Nat) (hn : n ≤ 64) (hh : h * 2 ^ n < 18446744073709551616) (hl : l < 2 ^ n) :
    bits BinOp.or IntKind.u64 (IntKind.u64.wrap ((h : Int) * 2 ^ n)) (l : Int) = ((h * 2 ^ n + l : Nat) : Int) := by
  have e : ((h : Int) * 2 ^ n) = ((h * 2 ^ n : Nat) : Int) := by simp
  have h3 := pow_le_64 hn
  rw [e, wrap_u64_nat _ hh, u64_or_nat _ _ hh (by omega), nat_join n _ _ (Nat.mul_mod_left _ _) hl]

set_option maxHeartbeats 400000 in
theorem noLast_any (w : World) :
    Calls Try.prog 49 #[] w fun e w' => e = .returned (.agg #[.int .u64 18446744073709551615, .int .u64 18446744073709551615]) ∧ Below w.heap.size w w' := by
  go_enter Try.func49, Try.ntmps49
  go_wp2
  refine wp_loop_rounds 3 ?_
  rw [rounds_succ]; go_wp2
  rw [rounds_succ]; go_wp2
  rw [rounds_succ]; go_wp2
  exact bodyPost_ret (v := .agg #[.int .u64 18446744073709551615, .int .u64 18446744073709551615]) (by simp [results, Try.results49, go_sem]) rfl ⟨rfl, ((Below.refl _ _).alloc (Nat.le_refl _) _).alloc (by simp) _⟩

/-- what the encoding of data says ahead of the Backs, as one number -/
def headN (nb nd : Nat) : Nat := (1 * 2 ^ 3 + nb) * 2 ^ 7 + nd
/-- a Back as one number -/
def fieldN (b : Bk) : Nat := (b.1.toNat * 2 ^ 21 + min b.2.1 1048576) * 2 ^ 21 + min b.2.2 1048576
/-- an address out of its bits -/
def lst (a : Nat) : Nat := if a = 1048576 then 18446744073709551615 else a
/-- a Back out of its number -/
def backN (f : Nat) : Bk := (((f / 2 ^ 21 / 2 ^ 21 : Nat) : Int), lst (f / 2 ^ 21 % 2 ^ 21), lst (f % 2 ^ 21))

theorem ix0 (x y : Value) (W : World) : Sem.run Try.prog (Instr.index 50 (.agg #[x, y]) (.int .i64 0)) W = .ok x W := by
  simp [Instr.index, go_sem]
theorem ix1 (x y : Value) (W : World) : Sem.run Try.prog (Instr.index 50 (.agg #[x, y]) (.int .i64 1)) W = .ok y W := by
  simp [Instr.index, go_sem]
end Go.Proofs.Ytdblplkaobeimaa
namespace Go.Proofs.Ytdblplkaobeimaa
open Go.RowKit Go.Deep
set_option linter.unusedVariables false
set_option linter.unusedSimpArgs false

set_option maxHeartbeats 1000000 in
theorem index_back (S : Nat → World → Prop) (p : Nat → Bool) (g : Nat) (lb : Array Value) (eg : ∀ args w, (callFunc g args).run Try.prog w = .ok (.enter g args) w)
    (L : List Bk) (a : Option Addr) (c B : Nat) (w : World) (hl : L.length ≤ 1000000)
    (hro : ∀ k W, S k W → Ro W B a (bcs L)) (h0 : S 0 w)
    (hf : ∀ k W, k < L.length → S k W → Calls Try.prog g (#[bkv (bk L k)] ++ lb) W fun e w' => e = .returned (.bool (p k)) ∧ S (k + 1) w') :
    Calls Try.prog 47 #[.slice a L.length c, .func (.func g) #[] lb] w fun e w' => e = .returned (.int .i64 (fx p L.length)) ∧ ∃ k, S k w' := by
  obtain ⟨n, HN⟩ : ∃ n, Hid (L.length = n) := ⟨_, Lib.hid rfl⟩
  have HR := Lib.hid hro
  have HF := Lib.hid hf
  have H0 := Lib.hid h0
  clear hro hf h0
  rw [HN.out] at hl ⊢
  go_enter Try.func47, Try.ntmps47
  go_wp2_with fail
  go_loopw [8] (fun i wr => ∃ k : Nat, k ≤ n ∧ i = .int .i64 (k : Int) ∧ Hid (S k wr) ∧ Hid (∀ j, j < k → p j = false)) (fun i _ => n - (intOf i).toNat)
  case atStart => exact ⟨0, Nat.zero_le _, rfl, H0, Lib.hid (by omega)⟩
  case round =>
    obtain ⟨k, hk, rfl, HS, HP⟩ := hrel
    by_cases hlt : k < n
    · have hkL : k < L.length := by rw [HN.out]; exact hlt
      obtain ⟨b, off, rfl, hb, hc⟩ := (HR.out k wr HS.out).bk (by omega)
      obtain ⟨c1, c2, c3⟩ := hc k hkL
      have HC := Lib.hid (HF.out k wr hkL HS.out)
      clear hc
      have hk0 : (0 : Int) ≤ (k : Int) := by omega
      have hk1 : (k : Int) < (n : Int) := by omega
      generalize bk L k = x at *
      cases hq : p k with
      | true =>
        have HQ := Lib.hid hq
        clear hq
        go_wp2_with fail
        refine HC.out.mono ?_
        rintro e w' ⟨rfl, hs⟩
        rw [HQ.out]
        have HS2 := Lib.hid hs
        clear hs
        go_wp2_with fail
        go_ret
        exact ⟨ret_int (fx_hit p n k hlt HQ.out HP.out).symm, _, HS2.out⟩
      | false =>
        have HQ := Lib.hid hq
        clear hq
        go_wp2_with fail
        refine HC.out.mono ?_
        rintro e w' ⟨rfl, hs⟩
        rw [HQ.out]
        have HS2 := Lib.hid hs
        clear hs
        go_wp2_with fail
        go_roundw
        case rel =>
          refine ⟨k + 1, by omega, by go_num, HS2, Lib.hid fun j hj => ?_⟩
          by_cases e : j = k
          · subst e; exact HQ.out
          · exact HP.out j (by omega)
        case measure => simp [intOf]; omega
    · obtain rfl : k = n := by omega
      go_wp2_with fail
      go_ret
      exact ⟨ret_int (fx_miss p k HP.out).symm, _, HS.out⟩

set_option maxHeartbeats 1000000 in
theorem contains_back (S : Nat → World → Prop) (p : Nat → Bool) (g : Nat) (lb : Array Value) (eg : ∀ args w, (callFunc g args).run Try.prog w = .ok (.enter g args) w)
    (L : List Bk) (a : Option Addr) (c B : Nat) (w : World) (hl : L.length ≤ 1000000)
    (hro : ∀ k W, S k W → Ro W B a (bcs L)) (h0 : S 0 w)
    (hf : ∀ k W, k < L.length → S k W → Calls Try.prog g (#[bkv (bk L k)] ++ lb) W fun e w' => e = .returned (.bool (p k)) ∧ S (k + 1) w') :
    Calls Try.prog 34 #[.slice a L.length c, .func (.func g) #[] lb] w fun e w' => e = .returned (.bool (anyN p L.length)) ∧ ∃ k, S k w' := by
  have HC := Lib.hid (index_back S p g lb eg L a c B w hl hro h0 hf)
  clear hro h0 hf
  obtain ⟨z, hz⟩ : ∃ z, z = fx p L.length := ⟨_, rfl⟩
  unfold anyN
  rw [← hz] at HC ⊢
  clear hz
  go_enter Try.func34, Try.ntmps34
  go_wp2_with fail
  refine HC.out.mono ?_
  rintro e w' ⟨rfl, hs⟩
  have HS := Lib.hid hs
  clear hs
  go_wp2_with fail
  go_ret
  exact ⟨rfl, HS.out⟩

set_option maxHeartbeats 1000000 in
theorem index_num (S : Nat → World → Prop) (p : Nat → Bool) (g : Nat) (lb : Array Value) (eg : ∀ args w, (callFunc g args).run Try.prog w = .ok (.enter g args) w)
    (L : List Nat) (a : Option Addr) (c B : Nat) (w : World) (hl : L.length ≤ 1000000)
    (hro : ∀ k W, S k W → Ro W B a (u64s L)) (h0 : S 0 w)
    (hf : ∀ k W, k < L.length → S k W → Calls Try.prog g (#[.int .u64 (L.getD k 0 : Nat)] ++ lb) W fun e w' => e = .returned (.bool (p k)) ∧ S (k + 1) w') :
    Calls Try.prog 72 #[.slice a L.length c, .func (.func g) #[] lb] w fun e w' => e = .returned (.int .i64 (fx p L.length)) ∧ ∃ k, S k w' := by
  obtain ⟨n, HN⟩ : ∃ n, Hid (L.length = n) := ⟨_, Lib.hid rfl⟩
  have HR := Lib.hid hro
  have HF := Lib.hid hf
  have H0 := Lib.hid h0
  clear hro hf h0
  rw [HN.out] at hl ⊢
  go_enter Try.func72, Try.ntmps72
  go_wp2_with fail
  go_loopw [8] (fun i wr => ∃ k : Nat, k ≤ n ∧ i = .int .i64 (k : Int) ∧ Hid (S k wr) ∧ Hid (∀ j, j < k → p j = false)) (fun i _ => n - (intOf i).toNat)
  case atStart => exact ⟨0, Nat.zero_le _, rfl, H0, Lib.hid (by omega)⟩
  case round =>
    obtain ⟨k, hk, rfl, HS, HP⟩ := hrel
    by_cases hlt : k < n
    · have hkL : k < L.length := by rw [HN.out]; exact hlt
      obtain ⟨b, off, rfl, hb, hc⟩ := (HR.out k wr HS.out).u64 (by omega)
      have c1 := hc k hkL
      have HC := Lib.hid (HF.out k wr hkL HS.out)
      clear hc
      have hk0 : (0 : Int) ≤ (k : Int) := by omega
      have hk1 : (k : Int) < (n : Int) := by omega
      generalize L.getD k 0 = x at *
      cases hq : p k with
      | true =>
        have HQ := Lib.hid hq
        clear hq
        go_wp2_with fail
        refine HC.out.mono ?_
        rintro e w' ⟨rfl, hs⟩
        rw [HQ.out]
        have HS2 := Lib.hid hs
        clear hs
        go_wp2_with fail
        go_ret
        exact ⟨ret_int (fx_hit p n k hlt HQ.out HP.out).symm, _, HS2.out⟩
      | false =>
        have HQ := Lib.hid hq
        clear hq
        go_wp2_with fail
        refine HC.out.mono ?_
        rintro e w' ⟨rfl, hs⟩
        rw [HQ.out]
        have HS2 := Lib.hid hs
        clear hs
        go_wp2_with fail
        go_roundw
        case rel =>
          refine ⟨k + 1, by omega, by go_num, HS2, Lib.hid fun j hj => ?_⟩
          by_cases e : j = k
          · subst e; exact HQ.out
          · exact HP.out j (by omega)
        case measure => simp [intOf]; omega
    · obtain rfl : k = n := by omega
      go_wp2_with fail
      go_ret
      exact ⟨ret_int (fx_miss p k HP.out).symm, _, HS.out⟩

set_option maxHeartbeats 1000000 in
theorem contains_num (S : Nat → World → Prop) (p : Nat → Bool) (g : Nat) (lb : Array Value) (eg : ∀ args w, (callFunc g args).run Try.prog w = .ok (.enter g args) w)
    (L : List Nat) (a : Option Addr) (c B : Nat) (w : World) (hl : L.length ≤ 1000000)
    (hro : ∀ k W, S k W → Ro W B a (u64s L)) (h0 : S 0 w)
    (hf : ∀ k W, k < L.length → S k W → Calls Try.prog g (#[.int .u64 (L.getD k 0 : Nat)] ++ lb) W fun e w' => e = .returned (.bool (p k)) ∧ S (k + 1) w') :
    Calls Try.prog 62 #[.slice a L.length c, .func (.func g) #[] lb] w fun e w' => e = .returned (.bool (anyN p L.length)) ∧ ∃ k, S k w' := by
  have HC := Lib.hid (index_num S p g lb eg L a c B w hl hro h0 hf)
  clear hro h0 hf
  obtain ⟨z, hz⟩ : ∃ z, z = fx p L.length := ⟨_, rfl⟩
  unfold anyN
  rw [← hz] at HC ⊢
  clear hz
  go_enter Try.func62, Try.ntmps62
  go_wp2_with fail
  refine HC.out.mono ?_
  rintro e w' ⟨rfl, hs⟩
  have HS := Lib.hid hs
  clear hs
  go_wp2_with fail
  go_ret
  exact ⟨rfl, HS.out⟩
end Go.Proofs.Ytdblplkaobeimaa
namespace Go.Proofs.Ytdblplkaobeimaa
open Go.RowKit Go.Deep Go.Shelf
set_option linter.unusedVariables false
set_option linter.unusedSimpArgs false

/-- an address that may not come, the ones below m being free -/
def lbad (m x : Nat) : Bool := if x = 18446744073709551615 then false else decide (m ≤ x)
/-- what is free behind it -/
def nlim (x : Nat) : Nat := if x = 18446744073709551615 then 0 else x
/-- what is free ahead of the k-th -/
def lim (l : List Nat) (k : Nat) : Nat := if k = 0 then 1048576 else nlim (l.getD (k - 1) 0)
/-- may these be a Back's? -/
def lastOk (b : Bk) : Bool := !anyN (fun k => lbad (lim [b.2.1, b.2.2] k) ([b.2.1, b.2.2].getD k 0)) 2
theorem lastOk_iff {b : Bk} : lastOk b = true ↔ (b.2.1 = 18446744073709551615 ∨ b.2.1 < 1048576) ∧ (b.2.2 = 18446744073709551615 ∨ b.2.1 ≠ 18446744073709551615 ∧ b.2.2 < b.2.1) := by
  obtain ⟨s, p, q⟩ := b
  unfold lastOk
  rw [Bool.not_eq_true', anyN_false]
  constructor
  · intro h
    have h0 := h 0 (by omega)
    have h1 := h 1 (by omega)
    simp [lbad, lim, nlim] at h0 h1
    show (p = _ ∨ p < _) ∧ (q = _ ∨ p ≠ _ ∧ q < p)
    split at h1 <;> omega
  · intro h j hj
    replace h : (p = 18446744073709551615 ∨ p < 1048576) ∧ (q = 18446744073709551615 ∨ p ≠ 18446744073709551615 ∧ q < p) := h
    have hj' : j = 0 ∨ j = 1 := by omega
    rcases hj' with rfl | rfl
    · simp [lbad, lim]
      omega
    · simp [lbad, lim, nlim]
      split <;> omega
/-- the least stream that may come ahead of the k-th -/
def least (L : List Bk) (k : Nat) : Int := if k = 0 then 0 else wrap64 ((bk L (k - 1)).1 + 1)
/-- a Back that may not come -/
def bbad (m : Int) (b : Bk) : Bool := decide (b.1 < m) || decide (16 ≤ b.1) || !lastOk b
/-- may these be a cell's? -/
def backsOk (L : List Bk) : Bool := !anyN (fun k => bbad (least L k) (bk L k)) L.length
/-- is a cell valid? -/
def right (x : Ce) : Bool := if x.k = 2 then decide (x.d.length = 0 ∧ x.b.length = 0) else if x.k = 1 then decide (x.d.length ≤ 100 ∧ x.b.length ≤ 4) && backsOk x.b else false

set_option maxHeartbeats 400000 in
theorem rl1_any (x m g : Nat) (w : World) (h : Own w g 26 [.int .u64 (m : Int)]) :
    Calls Try.prog 73 #[.int .u64 (x : Int), .pointer (some ⟨g, 0, none⟩)] w fun e w' => e = .returned (.bool (lbad m x)) ∧ w' = w.setCell ⟨g, 0, none⟩ (.int .u64 (nlim x : Nat)) := by
  have hc := h.cell 0
  have hf := h.frozen 0
  simp at hc
  clear h
  by_cases e : x = 18446744073709551615
  · have e1 : lbad m x = false := by simp [lbad, e]
    have e2 : nlim x = 0 := by simp [nlim, e]
    rw [e1, e2]
    subst e
    clear e1 e2
    go_enter Try.func73, Try.ntmps73
    go_wp2
    go_ret
    exact ⟨rfl, rfl⟩
  · have e1 : lbad m x = decide (m ≤ x) := by simp [lbad, e]
    have e2 : nlim x = x := by simp [nlim, e]
    have e3 : ((x : Int) == 18446744073709551615) = false := by rw [beq_eq_false_iff_ne]; omega
    rw [e1, e2]
    clear e1 e2 e
    go_enter Try.func73, Try.ntmps73
    go_wp2
    go_ret
    exact ⟨by simp, rfl⟩

set_option maxHeartbeats 400000 in
theorem rightLast_any (b : Bk) (w : World) :
    Calls Try.prog 65 #[.agg #[.int .u64 (b.2.1 : Int), .int .u64 (b.2.2 : Int)]] w fun e w' => e = .returned (.bool (lastOk b)) ∧ Below w.heap.size w w' := by
  obtain ⟨s, p, q⟩ := b
  obtain ⟨t, ht⟩ : ∃ t, t = anyN (fun k => lbad (lim [p, q] k) ([p, q].getD k 0)) 2 := ⟨_, rfl⟩
  have eg : ∀ args w, (callFunc 73 args).run Try.prog w = .ok (.enter 73 args) w := enters_of Try.func73 (by kernel_rfl) rfl
  have hC : ∀ W : World, W = (w.alloc (.cells #[.int .u64 (p : Int), .int .u64 (q : Int)] 50)).alloc (.cells #[.int .u64 1048576] 26) →
      Calls Try.prog 62 #[.slice (some ⟨w.heap.size, 0, none⟩) 2 2, .func (.func 73) #[] #[.pointer (some ⟨w.heap.size + 1, 0, none⟩)]] W fun e w' => e = .returned (.bool t) ∧ Below w.heap.size w w' := by
    intro W hW
    have h1 : Own W w.heap.size 50 (u64s [p, q]) := by rw [hW]; exact (Own.new w _ _).alloc _
    have h2 : Own W (w.heap.size + 1) 26 [.int .u64 ((1048576 : Nat) : Int)] := by
      rw [hW]
      have := Own.new (w.alloc (.cells #[.int .u64 (p : Int), .int .u64 (q : Int)] 50)) 26 [.int .u64 ((1048576 : Nat) : Int)]
      simpa using this
    have hb : Below w.heap.size w W := by rw [hW]; exact ((Below.refl _ _).alloc (Nat.le_refl _) _).alloc (by simp) _
    refine (contains_num (fun k W => Own W w.heap.size 50 (u64s [p, q]) ∧ Own W (w.heap.size + 1) 26 [.int .u64 (lim [p, q] k : Nat)] ∧ Below w.heap.size w W) (fun k => lbad (lim [p, q] k) ([p, q].getD k 0)) 73 #[.pointer (some ⟨w.heap.size + 1, 0, none⟩)] eg [p, q] (some ⟨w.heap.size, 0, none⟩) 2 (w.heap.size + 1) W (by simp) (fun k W' h => h.1.ro _ (by omega)) ⟨h1, h2, hb⟩ (fun k W' hk h => ?_)).mono ?_
    · obtain ⟨o1, o2, o3⟩ := h
      refine (rl1_any ([p, q].getD k 0) (lim [p, q] k) (w.heap.size + 1) W' o2).mono ?_
      rintro e w' ⟨rfl, rfl⟩
      refine ⟨rfl, o1.far (by show w.heap.size ≠ w.heap.size + 1; omega) _, ?_, o3.setCell (by show w.heap.size ≤ w.heap.size + 1; omega) _⟩
      have := o2.set 0 (.int .u64 (nlim ([p, q].getD k 0) : Nat))
      simpa [lim] using this
    · rintro e w' ⟨rfl, k, hk⟩
      rw [ht]
      exact ⟨rfl, hk.2.2⟩
  have HC := Lib.hid hC
  unfold lastOk
  show Calls _ _ _ _ fun e w' => e = .returned (.bool !anyN (fun k => lbad (lim [p, q] k) ([p, q].getD k 0)) 2) ∧ _
  rw [← ht]
  clear ht hC
  go_enter Try.func65, Try.ntmps65
  go_wp2_with fail
  refine (HC.out _ rfl).mono ?_
  rintro e w' ⟨rfl, hb⟩
  have HB := Lib.hid hb
  clear hb
  go_wp2_with fail
  go_ret
  exact ⟨rfl, HB.out⟩

set_option maxHeartbeats 1000000 in
theorem rb1_any (b : Bk) (m : Int) (g : Nat) (w : World) (h : Own w g 3 [.int .i64 m]) :
    Calls Try.prog 64 #[bkv b, .pointer (some ⟨g, 0, none⟩)] w fun e w' => e = .returned (.bool (bbad m b)) ∧ Own w' g 3 [.int .i64 (wrap64 (b.1 + 1))] ∧ Below g w w' := by
  have hg := h.lt
  have HO := Lib.hid h
  have hc := h.cell 0
  have hf := h.frozen 0
  simp at hc
  clear h
  obtain ⟨t, HT⟩ : ∃ t, Hid (lastOk b = t) := ⟨_, Lib.hid rfl⟩
  obtain ⟨u, HU⟩ : ∃ u, Hid (bbad m b = u) := ⟨_, Lib.hid rfl⟩
  rw [HU.out]
  have HR := Lib.hid (fun W => rightLast_any b W)
  rw [HT.out] at HR
  obtain ⟨s, p, q⟩ := b
  simp only at HR ⊢
  by_cases e1 : s < m
  · obtain rfl : u = true := by rw [← HU.out]; simp [bbad, e1]
    go_enter Try.func64, Try.ntmps64
    go_wp2
    go_ret
    exact ⟨rfl, (HO.out.set 0 _).alloc _, ((Below.refl g w).setCell (Nat.le_refl _) _).alloc (by simp [set_size]; omega) _⟩
  by_cases e2 : 16 ≤ s
  · obtain rfl : u = true := by rw [← HU.out]; simp [bbad, e2]
    go_enter Try.func64, Try.ntmps64
    go_wp2
    go_ret
    exact ⟨rfl, (HO.out.set 0 _).alloc _, ((Below.refl g w).setCell (Nat.le_refl _) _).alloc (by simp [set_size]; omega) _⟩
  obtain rfl : u = !t := by rw [← HU.out]; simp [bbad, e1, e2, HT.out]
  go_enter Try.func64, Try.ntmps64
  go_wp2_with fail
  refine (HR.out _).mono ?_
  rintro e w' ⟨rfl, hb⟩
  have HB := Lib.hid hb
  have o1 : Own w' w.heap.size 54 [.int .i64 s, .int .u64 (p : Int), .int .u64 (q : Int)] := (Own.new w 54 [.int .i64 s, .int .u64 (p : Int), .int .u64 (q : Int)]).below hb (by simp)
  have o2 : Own w' g 3 [.int .i64 m] := (HO.out.alloc _).below hb (by simp; omega)
  have hz := o1.lt
  have c1 := o1.cell 0
  have c2 := o2.cell 0
  have c3 := o2.frozen 0
  simp at c1 c2
  have HO2 := Lib.hid o2
  clear hb o1 o2 hc hf
  go_wp2_with fail
  go_ret
  exact ⟨rfl, HO2.out.set 0 _, (((Below.refl g w).alloc (by omega) _).trans (HB.out.mono (by simp; omega))).setCell (Nat.le_refl _) _⟩

set_option maxHeartbeats 1000000 in
theorem rightBacks_any (L : List Bk) (a : Option Addr) (c B : Nat) (w : World) (hro : Ro w B a (bcs L)) (hB : B ≤ w.heap.size) (hl : L.length ≤ 1000000) :
    Calls Try.prog 53 #[.slice a L.length c] w fun e w' => e = .returned (.bool (backsOk L)) ∧ Below w.heap.size w w' := by
  obtain ⟨t, ht⟩ : ∃ t, t = anyN (fun k => bbad (least L k) (bk L k)) L.length := ⟨_, rfl⟩
  have eg : ∀ args w, (callFunc 64 args).run Try.prog w = .ok (.enter 64 args) w := enters_of Try.func64 (by kernel_rfl) rfl
  have HC : Hid (Calls Try.prog 34 #[.slice a L.length c, .func (.func 64) #[] #[.pointer (some ⟨w.heap.size, 0, none⟩)]] (w.alloc (.cells #[.int .i64 0] 3)) fun e w' => e = .returned (.bool t) ∧ Below w.heap.size w w') := by
    apply Lib.hid
    refine (contains_back (fun k W => Own W w.heap.size 3 [.int .i64 (least L k)] ∧ Below w.heap.size w W) (fun k => bbad (least L k) (bk L k)) 64 #[.pointer (some ⟨w.heap.size, 0, none⟩)] eg L a c B _ hl (fun k W' h => hro.below h.2 hB) ⟨Own.new w _ _, (Below.refl _ _).alloc (Nat.le_refl _) _⟩ (fun k W' hk h => ?_)).mono ?_
    · obtain ⟨o1, o2⟩ := h
      refine (rb1_any (bk L k) (least L k) w.heap.size W' o1).mono ?_
      rintro e w' ⟨rfl, o3, o4⟩
      exact ⟨rfl, by simpa [least] using o3, o2.trans o4⟩
    · rintro e w' ⟨rfl, k, hk⟩
      rw [ht]
      exact ⟨rfl, hk.2⟩
  unfold backsOk
  rw [← ht]
  clear ht
  go_enter Try.func53, Try.ntmps53
  go_wp2_with fail
  refine HC.out.mono ?_
  rintro e w' ⟨rfl, hb⟩
  have HB := Lib.hid hb
  clear hb
  go_wp2_with fail
  go_ret
  exact ⟨rfl, HB.out⟩

set_option maxHeartbeats 1000000 in
theorem right_any (x : Ce) (a : Option Addr) (c : Nat) (a2 : Option Addr) (c2 B : Nat) (w : World) (hro : Ro w B a2 (bcs x.b)) (hB : B ≤ w.heap.size) (hl : x.b.length ≤ 9223372036854775807) (hl2 : x.d.length ≤ 9223372036854775807) :
    Calls Try.prog 36 #[cev x.k a x.d.length c a2 x.b.length c2] w fun e w' => e = .returned (.bool (right x)) ∧ Below w.heap.size w w' := by
  obtain ⟨t, HT⟩ : ∃ t, Hid (backsOk x.b = t) := ⟨_, Lib.hid rfl⟩
  obtain ⟨u, HU⟩ : ∃ u, Hid (right x = u) := ⟨_, Lib.hid rfl⟩
  have HR := Lib.hid (fun (h4 : x.b.length ≤ 4) => rightBacks_any x.b a2 c2 B (w.alloc (.cells #[.int .i64 x.k, .slice a x.d.length c, .slice a2 x.b.length c2] 32)) (hro.below ((Below.refl B w).alloc hB _) (Nat.le_refl _)) (by simp; omega) (by omega))
  rw [HT.out] at HR
  rw [HU.out]
  clear hro
  obtain ⟨k, d, b⟩ := x
  simp only at HR HU HT hl hl2 ⊢
  generalize hd : d.length = n at *
  generalize hb : b.length = m at *
  have HD := Lib.hid hd
  have HBL := Lib.hid hb
  clear hd hb
  by_cases e2 : k = 2
  · subst e2
    by_cases hn : n = 0
    · subst hn
      by_cases hm : m = 0
      · subst hm
        obtain rfl : u = true := by rw [← HU.out]; simp [right, HD.out, HBL.out]
        go_enter Try.func36, Try.ntmps36
        go_wp2_with fail
        go_ret
        exact ⟨rfl, (Below.refl _ _).alloc (Nat.le_refl _) _⟩
      · obtain rfl : u = false := by rw [← HU.out]; simp [right, HD.out, HBL.out, hm]
        have hm' : ((m : Int) == 0) = false := by rw [beq_eq_false_iff_ne]; omega
        clear hm
        go_enter Try.func36, Try.ntmps36
        go_wp2_with fail
        go_ret
        exact ⟨rfl, (Below.refl _ _).alloc (Nat.le_refl _) _⟩
    · obtain rfl : u = false := by rw [← HU.out]; simp [right, HD.out, HBL.out, hn]
      have hn' : ((n : Int) == 0) = false := by rw [beq_eq_false_iff_ne]; omega
      clear hn
      go_enter Try.func36, Try.ntmps36
      go_wp2_with fail
      go_ret
      exact ⟨rfl, (Below.refl _ _).alloc (Nat.le_refl _) _⟩
  · by_cases e1 : k = 1
    · subst e1
      by_cases hn : n ≤ 100
      · by_cases hm : m ≤ 4
        · obtain rfl : u = t := by rw [← HU.out]; simp [right, HD.out, HBL.out, hn, hm, HT.out]
          go_enter Try.func36, Try.ntmps36
          go_wp2_with fail
          refine (HR.out hm).mono ?_
          rintro e w' ⟨rfl, hb⟩
          have HB := Lib.hid hb
          clear hb
          go_wp2_with fail
          go_ret
          exact ⟨rfl, ((Below.refl _ _).alloc (Nat.le_refl _) _).trans (HB.out.mono (by simp))⟩
        · obtain rfl : u = false := by rw [← HU.out]; simp [right, HD.out, HBL.out, hm]
          go_enter Try.func36, Try.ntmps36
          go_wp2_with fail
          go_ret
          exact ⟨rfl, (Below.refl _ _).alloc (Nat.le_refl _) _⟩
      · obtain rfl : u = false := by rw [← HU.out]; simp [right, HD.out, HBL.out, hn]
        go_enter Try.func36, Try.ntmps36
        go_wp2_with fail
        go_ret
        exact ⟨rfl, (Below.refl _ _).alloc (Nat.le_refl _) _⟩
    · obtain rfl : u = false := by rw [← HU.out]; simp [right, e1, e2]
      have h1 : (k == 1) = false := by rw [beq_eq_false_iff_ne]; omega
      have h2 : (k == 2) = false := by rw [beq_eq_false_iff_ne]; omega
      clear e1 e2
      go_enter Try.func36, Try.ntmps36
      go_wp2_with fail
      go_ret
      exact ⟨rfl, (Below.refl _ _).alloc (Nat.le_refl _) _⟩
end Go.Proofs.Ytdblplkaobeimaa
namespace Go.Proofs.Ytdblplkaobeimaa
open Go.RowKit Go.Deep
set_option linter.unusedVariables false
set_option linter.unusedSimpArgs false

theorem Try.info_i64 : (Try.prog.info? 3).map (fun i => (i.zero, i.size, i.bytes)) = some (some (.int .i64 0), 1, 8) := by kernel_rfl
theorem Try.size_i64 : (Try.prog.info? 3).map (·.size) = some 1 := by kernel_rfl
theorem made_i64s (n : Nat) : madeCells #[.int .i64 0] n = (i64s (List.replicate n 0)).toArray := by
  apply Array.ext
  · simp [size_madeCells, i64s]
  · intro i h1 h2
    simp [madeCells, i64s, Nat.mod_one]
theorem own_madei (w : World) (n : Nat) : Own (w.alloc (.cells (madeCells #[.int .i64 0] n) 3)) w.heap.size 3 (i64s (List.replicate n 0)) := by
  rw [made_i64s]
  exact Own.new w 3 _
theorem i64s_oneCell (bs : List Int) : ∀ v ∈ i64s bs, v.oneCell' = true := by
  intro v hv
  simp only [i64s, List.mem_map] at hv
  obtain ⟨x, _, rfl⟩ := hv
  rfl
/-- the row on the way: k of n are laid -/
def rpt (x : Int) (n k : Nat) : List Int := List.replicate k x ++ List.replicate (n - k) 0
theorem rpt_zero (x : Int) (n : Nat) : rpt x n 0 = List.replicate n 0 := by simp [rpt]
theorem rpt_full (x : Int) (n : Nat) : rpt x n n = List.replicate n x := by simp [rpt]
@[simp] theorem rpt_length (x : Int) (n k : Nat) (h : k ≤ n) : (rpt x n k).length = n := by simp [rpt]; omega
theorem rpt_step (x : Int) (n k m : Nat) (h : k + m ≤ n) : splice (i64s (rpt x n k)) k (i64s (List.replicate m x)) = i64s (rpt x n (k + m)) := by
  unfold splice rpt i64s
  simp only [List.map_append, List.map_replicate, List.length_replicate]
  rw [List.take_append_of_le_length (by simp), List.take_of_length_le (by simp), List.drop_append, List.drop_of_length_le (by simp)]
  simp only [List.length_replicate, List.drop_replicate, List.nil_append]
  rw [show n - k - (k + m - k) = n - (k + m) by omega, ← List.append_assoc, List.replicate_append_replicate]
theorem Own.lst {w : World} {g base : Nat} {e : TypeId} {xs : List Value} (h : Own w g e xs) (hb : base ≤ g) (n : Nat) (hn : xs.length = n) (hm : n ≤ maxLen) : Lst w base e (.slice (some ⟨g, 0, none⟩) n n) xs := by
  subst hn
  exact ⟨by simp, .inr ⟨g, xs.length, xs.toArray, rfl, hb, h, Nat.le_refl _, hm, by simp, by simp⟩⟩
/-- the widths of so many Backs, and of what is ahead -/
def wid (n : Nat) : List Int := 12 :: List.replicate n 46
end Go.Proofs.Ytdblplkaobeimaa
namespace Go.Proofs.Ytdblplkaobeimaa
open Go.RowKit Go.Deep
set_option linter.unusedVariables false
set_option linter.unusedSimpArgs false

/-! valid cells -/
theorem bbad_false {m : Int} {b : Bk} (h : bbad m b = false) : m ≤ b.1 ∧ b.1 < 16 ∧ lastOk b = true := by
  unfold bbad at h
  simp only [Bool.or_eq_false_iff, decide_eq_false_iff_not, Bool.not_eq_false'] at h
  exact ⟨by omega, by omega, h.2⟩
theorem backsOk_at {L : List Bk} (h : backsOk L = true) : ∀ i, i < L.length → 0 ≤ least L i ∧ least L i ≤ (bk L i).1 ∧ (bk L i).1 < 16 ∧ lastOk (bk L i) = true := by
  unfold backsOk at h
  rw [Bool.not_eq_true', anyN_false] at h
  intro i
  induction i with
  | zero => intro hi; exact ⟨by simp [least], bbad_false (h 0 hi)⟩
  | succ i ih =>
    intro hi
    have h1 := ih (by omega)
    refine ⟨?_, bbad_false (h (i + 1) hi)⟩
    simp only [least, Nat.add_sub_cancel, if_neg (Nat.succ_ne_zero i)]
    unfold wrap64
    omega
theorem backsOk_lt {L : List Bk} (h : backsOk L = true) (i : Nat) (hi : i + 1 < L.length) : (bk L i).1 < (bk L (i + 1)).1 := by
  have h1 := backsOk_at h i (by omega)
  have h2 := backsOk_at h (i + 1) hi
  simp only [least, Nat.add_sub_cancel, if_neg (Nat.succ_ne_zero i)] at h2
  unfold wrap64 at h2
  omega
theorem backsOk_mono {L : List Bk} (h : backsOk L = true) (i j : Nat) (hij : i < j) (hj : j < L.length) : (bk L i).1 < (bk L j).1 := by
  induction j with
  | zero => omega
  | succ j ih =>
    have h1 := backsOk_lt h j hj
    by_cases e : i = j
    · subst e; exact h1
    · have := ih (by omega) (by omega); omega
theorem right_data {x : Ce} (h : right x = true) (hk : x.k = 1) : x.d.length ≤ 100 ∧ x.b.length ≤ 4 ∧ backsOk x.b = true := by
  unfold right at h
  rw [hk] at h
  simp only [if_neg (show ¬ (1 : Int) = 2 by omega), if_true, Bool.and_eq_true, decide_eq_true_eq] at h
  exact ⟨h.1.1, h.1.2, h.2⟩
theorem right_junk {x : Ce} (h : right x = true) (hk : x.k = 2) : x = ⟨2, [], []⟩ := by
  unfold right at h
  rw [hk] at h
  simp only [if_true, decide_eq_true_eq] at h
  exact Ce.ext' hk (List.eq_nil_of_length_eq_zero h.1) (List.eq_nil_of_length_eq_zero h.2)
theorem right_kind {x : Ce} (h : right x = true) : x.k = 1 ∨ x.k = 2 := by
  unfold right at h
  by_cases h2 : x.k = 2
  · exact .inr h2
  · by_cases h1 : x.k = 1
    · exact .inl h1
    · rw [if_neg h2, if_neg h1] at h; cases h

/-! numbers of Backs -/
theorem fieldN_lt {b : Bk} (h0 : 0 ≤ b.1) (h1 : b.1 < 16) : fieldN b < 2 ^ 46 := by
  have m1 : min b.2.1 1048576 ≤ 1048576 := Nat.min_le_right _ _
  have m2 : min b.2.2 1048576 ≤ 1048576 := Nat.min_le_right _ _
  unfold fieldN
  omega
theorem back_field {b : Bk} (h0 : 0 ≤ b.1) (h1 : b.1 < 16) (hl : lastOk b = true) : backN (fieldN b) = b := by
  obtain ⟨s, p, q⟩ := b
  have hl := lastOk_iff.1 hl
  simp only at h0 h1 hl
  unfold backN fieldN lst
  simp only
  have hp : min p 1048576 = if p = 18446744073709551615 then 1048576 else p := by split <;> omega
  have hq : min q 1048576 = if q = 18446744073709551615 then 1048576 else q := by split <;> omega
  rw [hp, hq]
  refine Prod.ext ?_ (Prod.ext ?_ ?_)
  · simp only
    split <;> split <;> omega
  · simp only
    split <;> split <;> split <;> omega
  · simp only
    split <;> split <;> split <;> omega
theorem field_back {f : Nat} (hf : f < 2 ^ 46) (hl : lastOk (backN f) = true) : fieldN (backN f) = f := by
  have hl := lastOk_iff.1 hl
  unfold backN lst at hl
  unfold fieldN backN lst
  simp only at hl ⊢
  have e : ((f / 2 ^ 21 / 2 ^ 21 : Nat) : Int).toNat = f / 2 ^ 21 / 2 ^ 21 := by omega
  rw [e]
  obtain ⟨h1, h2⟩ := hl
  split at h1 <;> split at h2 <;> simp only [*, if_true, if_false] <;> omega

/-! bytes of a cell -/
/-- the numbers of a cell -/
def vals (x : Ce) : List Nat := headN x.b.length x.d.length :: x.b.map fieldN
/-- these are a cell's bytes -/
def IsEnc (x : Ce) (bs : List UInt8) : Prop := (x.k = 2 ∧ bs = [2]) ∨ (x.k = 1 ∧ ∃ cs, IsPack (wid x.b.length) (vals x) cs ∧ bs = cs ++ x.d)
theorem IsEnc.unique {x : Ce} {a b : List UInt8} (h1 : IsEnc x a) (h2 : IsEnc x b) : a = b := by
  rcases h1 with ⟨k1, rfl⟩ | ⟨k1, cs, hc, rfl⟩ <;> rcases h2 with ⟨k2, rfl⟩ | ⟨k2, ds, hd, rfl⟩
  · rfl
  · omega
  · omega
  · rw [hc.unique hd]
theorem wid_at (n i : Nat) (h : i < n + 1) : (wid n).getD i 0 = if i = 0 then 12 else 46 := by
  cases i with
  | zero => rfl
  | succ i =>
    have : i < n := by omega
    simp [wid, List.getD, this]
theorem wid_span (n : Nat) : (spanOf (wid n)).isSome := by
  unfold spanOf
  rw [if_pos]
  · rfl
  · rw [List.all_eq_true]
    intro x hx
    simp only [wid, List.mem_cons, List.mem_replicate] at hx
    rcases hx with rfl | ⟨_, rfl⟩ <;> decide
theorem nat_wid (n : Nat) : nat (wid n) = 12 :: List.replicate n 46 := by simp [nat, wid]
theorem wid_sum (n : Nat) : (nat (wid n)).sum = 12 + 46 * n := by rw [nat_wid]; simp [List.sum_replicate_nat]; omega
theorem vals_length (x : Ce) : (vals x).length = x.b.length + 1 := by simp [vals]
theorem headN_lt {nb nd : Nat} (h1 : nb < 8) (h2 : nd < 128) : headN nb nd < 2 ^ 12 := by unfold headN; omega
theorem vals_at (x : Ce) (i : Nat) (h : i < x.b.length) : (vals x).getD (i + 1) 0 = fieldN (bk x.b i) := by
  simp [vals, bk, List.getD, h]
/-! a cell of bytes -/
/-- how many Backs the bytes tell -/
def cntOf (bs : List UInt8) : Nat := num bs 0 12 / 128 % 8
/-- where their data begin -/
def begOf (bs : List UInt8) : Nat := bs.length - num bs 0 12 % 128
/-- the bytes tell this cell, valid or not -/
def IsDec (bs : List UInt8) (x : Ce) : Prop := 2 ≤ bs.length ∧ num bs 0 12 / 1024 = 1 ∧ num bs 0 12 % 128 ≤ bs.length ∧ UnpOk (wid (cntOf bs)) (bs.take (begOf bs)) ∧
  x = ⟨1, bs.drop (begOf bs), ((unpL (wid (cntOf bs)) (bs.take (begOf bs)) (cntOf bs + 1)).drop 1).map backN⟩
theorem bit_take (bs : List UInt8) (k i : Nat) (h : i < 8 * k) : bit (bs.take k) i = bit bs i := by
  unfold bit
  have : (bs.take k).getD (i / 8) 0 = bs.getD (i / 8) 0 := by
    simp only [List.getD, List.getElem?_take]
    rw [if_pos (by omega)]
  rw [this]
theorem num_take (bs : List UInt8) (k a n : Nat) (h : a + n ≤ 8 * k) : num (bs.take k) a n = num bs a n := by
  induction n with
  | zero => rfl
  | succ n ih => simp only [num]; rw [ih (by omega), bit_take _ _ _ (by omega)]
theorem num_left (cs ds : List UInt8) (a n : Nat) (h : a + n ≤ 8 * cs.length) : num (cs ++ ds) a n = num cs a n := by
  have := num_take (cs ++ ds) cs.length a n h
  rw [List.take_left] at this
  exact this.symm
theorem unpL_getD (l : List Int) (bs : List UInt8) (n i : Nat) (h : i < n) : (unpL l bs n).getD i 0 = num bs ((nat l).take i).sum (l.getD i 0).toNat := by
  simp [unpL, List.getD, h]
theorem IsDec.unique {bs : List UInt8} {x y : Ce} (h1 : IsDec bs x) (h2 : IsDec bs y) : x = y := h1.2.2.2.2.trans h2.2.2.2.2.symm
theorem enc_length {x : Ce} {bs : List UInt8} (h : IsEnc x bs) (hr : right x = true) : (x.k = 2 ∧ bs.length = 1) ∨ (x.k = 1 ∧ bs.length = (12 + 46 * x.b.length + 7) / 8 + x.d.length ∧ bs.drop ((12 + 46 * x.b.length + 7) / 8) = x.d) := by
  rcases h with ⟨h, rfl⟩ | ⟨hk, cs, hc, rfl⟩
  · exact .inl ⟨h, rfl⟩
  · have hlen := hc.1
    rw [wid_sum] at hlen
    exact .inr ⟨hk, by rw [List.length_append]; omega, by rw [← hlen, List.drop_left]⟩
end Go.Proofs.Ytdblplkaobeimaa
namespace Go.Proofs.Ytdblplkaobeimaa
open Go.RowKit Go.Deep
set_option linter.unusedVariables false
set_option linter.unusedSimpArgs false

/-- a segment: from where on, its chains -/
abbrev Sg := Nat × List (List Int)
/-- a layout: its epoch, its segments, its sequencer -/
structure Ly where
  e : Nat
  s : List Sg
  q : Int
/-- a chain in memory: where, room, its units -/
structure ChT where
  a : Option Addr
  c : Nat
  u : List Int
/-- a segment in memory -/
structure SgT where
  f : Nat
  a : Option Addr
  c : Nat
  ch : List ChT
/-- a layout in memory -/
structure LyT where
  e : Nat
  a : Option Addr
  c : Nat
  sg : List SgT
  q : Int
def chx (L : List ChT) : List (List Int) := L.map ChT.u
def SgT.x (A : SgT) : Sg := (A.f, chx A.ch)
def sgx (L : List SgT) : List Sg := L.map SgT.x
def LyT.x (A : LyT) : Ly := ⟨A.e, sgx A.sg, A.q⟩
@[simp] theorem chx_length (L : List ChT) : (chx L).length = L.length := by simp [chx]
@[simp] theorem sgx_length (L : List SgT) : (sgx L).length = L.length := by simp [sgx]
def ChT.val (A : ChT) : Value := .slice A.a A.u.length A.c
def SgT.val (A : SgT) : Value := .agg #[.int .u64 (A.f : Int), .slice A.a A.ch.length A.c]
def LyT.val (A : LyT) : Value := .agg #[.int .u64 (A.e : Int), .slice A.a A.sg.length A.c, .int .i64 A.q]
instance : Inhabited ChT := ⟨⟨none, 0, []⟩⟩
instance : Inhabited SgT := ⟨⟨0, none, 0, []⟩⟩
def ct (L : List ChT) (i : Nat) : ChT := L.getD i ⟨none, 0, []⟩
def st (L : List SgT) (i : Nat) : SgT := L.getD i ⟨0, none, 0, []⟩
def cx (L : List (List Int)) (i : Nat) : List Int := L.getD i []
def sx (L : List Sg) (i : Nat) : Sg := L.getD i (0, [])
theorem ct_mem {L : List ChT} {i : Nat} (h : i < L.length) : ct L i ∈ L := by
  have : ct L i = L[i] := by simp [ct, List.getD, h]
  rw [this]; exact List.getElem_mem h
theorem st_mem {L : List SgT} {i : Nat} (h : i < L.length) : st L i ∈ L := by
  have : st L i = L[i] := by simp [st, List.getD, h]
  rw [this]; exact List.getElem_mem h
theorem cx_chx (L : List ChT) (i : Nat) : cx (chx L) i = (ct L i).u := by
  simp only [cx, chx, ct, List.getD, List.getElem?_map]; cases L[i]? <;> rfl
theorem sx_sgx (L : List SgT) (i : Nat) : sx (sgx L) i = (st L i).x := by
  simp only [sx, sgx, st, List.getD, List.getElem?_map]; cases L[i]? <;> rfl
theorem cx_mem {L : List (List Int)} {i : Nat} (h : i < L.length) : cx L i ∈ L := by
  have : cx L i = L[i] := by simp [cx, List.getD, h]
  rw [this]; exact List.getElem_mem h
theorem cx_take {L : List (List Int)} {k : Nat} (h : k < L.length) : L.take (k + 1) = L.take k ++ [cx L k] := by
  have : cx L k = L[k] := by simp [cx, List.getD, h]
  rw [List.take_succ_eq_append_getElem h, this]
theorem sx_mem {L : List Sg} {i : Nat} (h : i < L.length) : sx L i ∈ L := by
  have : sx L i = L[i] := by simp [sx, List.getD, h]
  rw [this]; exact List.getElem_mem h
theorem mem_sx {L : List Sg} {s : Sg} (h : s ∈ L) : ∃ i, i < L.length ∧ sx L i = s := by
  obtain ⟨i, hi, rfl⟩ := List.getElem_of_mem h
  exact ⟨i, hi, by simp [sx, List.getD, hi]⟩
theorem mem_cx {L : List (List Int)} {s : List Int} (h : s ∈ L) : ∃ i, i < L.length ∧ cx L i = s := by
  obtain ⟨i, hi, rfl⟩ := List.getElem_of_mem h
  exact ⟨i, hi, by simp [cx, List.getD, hi]⟩

def chv (L : List ChT) : List Value := L.map ChT.val
@[simp] theorem chv_length (L : List ChT) : (chv L).length = L.length := by simp [chv]
def sgv : List SgT → List Value
  | [] => []
  | s :: L => .int .u64 (s.f : Int) :: .slice s.a s.ch.length s.c :: sgv L
@[simp] theorem sgv_length (L : List SgT) : (sgv L).length = L.length * 2 := by
  induction L with
  | nil => rfl
  | cons r L ih => simp [sgv, ih]; omega
theorem sgv_append (A B : List SgT) : sgv (A ++ B) = sgv A ++ sgv B := by
  induction A with
  | nil => rfl
  | cons r A ih => simp [sgv, ih]
theorem sgv_one (L : List SgT) : ∀ v ∈ sgv L, v.oneCell' = true := by
  induction L with
  | nil => intro v hv; cases hv
  | cons r L ih =>
    intro v hv
    simp only [sgv, List.mem_cons] at hv
    rcases hv with rfl | rfl | hv
    · rfl
    · rfl
    · exact ih v hv
theorem chv_one (L : List ChT) : ∀ v ∈ chv L, v.oneCell' = true := by
  intro v hv
  simp only [chv, List.mem_map] at hv
  obtain ⟨x, _, rfl⟩ := hv
  rfl
theorem sgv_get (L : List SgT) (i : Nat) : (sgv L)[i * 2]? = L[i]?.map (fun r => Value.int .u64 (r.f : Int)) ∧ (sgv L)[i * 2 + 1]? = L[i]?.map (fun r => Value.slice r.a r.ch.length r.c) := by
  induction L generalizing i with
  | nil => simp [sgv]
  | cons r L ih =>
    cases i with
    | zero => simp [sgv]
    | succ i => rw [show (i + 1) * 2 = i * 2 + 1 + 1 by omega]; simpa [sgv] using ih i
theorem Ro.sg {w : World} {B : Nat} {a : Option Addr} {L : List SgT} (h : Ro w B a (sgv L)) (hn : 0 < L.length) :
    ∃ b off, a = some ⟨b, off, none⟩ ∧ b < B ∧ ∀ i, i < L.length → w.cell? ⟨b, off + i * 2, none⟩ = some (.int .u64 ((st L i).f : Int)) ∧ w.cell? ⟨b, off + i * 2 + 1, none⟩ = some (.slice (st L i).a (st L i).ch.length (st L i).c) := by
  obtain ⟨b, off, h1, h2, h3⟩ := h.at_ (by intro e; have e2 := congrArg List.length e; simp at e2; omega)
  refine ⟨b, off, h1, h2, fun i hi => ?_⟩
  obtain ⟨e1, e2⟩ := sgv_get L i
  have es : L[i]? = some (st L i) := by simp [st, List.getD, hi]
  rw [es] at e1 e2
  have g1 := h3 (i * 2) (by simp; omega)
  have g2 := h3 (i * 2 + 1) (by simp; omega)
  simp only [List.getD, e1, e2, Option.map_some, Option.getD_some] at g1 g2
  exact ⟨g1, by rw [Nat.add_assoc]; exact g2⟩
theorem Ro.ch {w : World} {B : Nat} {a : Option Addr} {L : List ChT} (h : Ro w B a (chv L)) (hn : 0 < L.length) :
    ∃ b off, a = some ⟨b, off, none⟩ ∧ b < B ∧ ∀ i, i < L.length → w.cell? ⟨b, off + i, none⟩ = some (.slice (ct L i).a (ct L i).u.length (ct L i).c) := by
  obtain ⟨b, off, h1, h2, h3⟩ := h.at_ (by intro e; have e2 := congrArg List.length e; simp only [chv_length, List.length_nil] at e2; omega)
  refine ⟨b, off, h1, h2, fun i hi => ?_⟩
  rw [h3 i (by simpa using hi)]
  simp [chv, ct, List.getD, hi, ChT.val]

/-- chains, whose rows lie below B -/
def ChIn (w : World) (B : Nat) (L : List ChT) : Prop := ∀ c ∈ L, Ro w B c.a (i64s c.u)
/-- segments, likewise -/
def SgIn (w : World) (B : Nat) (L : List SgT) : Prop := ∀ s ∈ L, Ro w B s.a (chv s.ch) ∧ ChIn w B s.ch
/-- a layout, likewise -/
def LyIn (w : World) (B : Nat) (A : LyT) : Prop := Ro w B A.a (sgv A.sg) ∧ SgIn w B A.sg
theorem ChIn.below {w w' : World} {B B' : Nat} {L : List ChT} (h : ChIn w B L) (hb : Below B' w w') (hB : B ≤ B') : ChIn w' B L := fun c hc => (h c hc).below hb hB
theorem SgIn.below {w w' : World} {B B' : Nat} {L : List SgT} (h : SgIn w B L) (hb : Below B' w w') (hB : B ≤ B') : SgIn w' B L := fun s hs => ⟨(h s hs).1.below hb hB, (h s hs).2.below hb hB⟩
theorem LyIn.below {w w' : World} {B B' : Nat} {A : LyT} (h : LyIn w B A) (hb : Below B' w w') (hB : B ≤ B') : LyIn w' B A := ⟨h.1.below hb hB, h.2.below hb hB⟩
theorem ChIn.mono {w : World} {B B' : Nat} {L : List ChT} (h : ChIn w B L) (hB : B ≤ B') : ChIn w B' L := fun c hc => (h c hc).mono hB
theorem SgIn.mono {w : World} {B B' : Nat} {L : List SgT} (h : SgIn w B L) (hB : B ≤ B') : SgIn w B' L := fun s hs => ⟨(h s hs).1.mono hB, (h s hs).2.mono hB⟩
theorem LyIn.mono {w : World} {B B' : Nat} {A : LyT} (h : LyIn w B A) (hB : B ≤ B') : LyIn w B' A := ⟨h.1.mono hB, h.2.mono hB⟩
/-- no length is beyond a machine's -/
def ChFit (L : List ChT) : Prop := L.length ≤ 9223372036854775807 ∧ ∀ c ∈ L, c.u.length ≤ 9223372036854775807
def SgFit (L : List SgT) : Prop := L.length ≤ 9223372036854775807 ∧ ∀ s ∈ L, ChFit s.ch

/-! ### what is lright -/
/-- a unit that may not come behind these -/
def ubad (us : List Int) (u : Int) : Bool := !decide (0 ≤ u ∧ u < 32) || decide (u ∈ us)
/-- some unit of a chain may not -/
def cbadU (us c : List Int) : Bool := anyN (fun k => ubad (us ++ c.take k) (c.getD k 0)) c.length
def isLen (n : Nat) : Bool := decide (1 ≤ n ∧ n ≤ 4)
def cbad (us c : List Int) : Bool := !isLen c.length || cbadU us c
def chOk (L : List (List Int)) : Bool := isLen L.length && !anyN (fun k => cbad (L.take k).flatten (cx L k)) L.length
/-- the least From that may come ahead of the k-th -/
def leastF (L : List Sg) (k : Nat) : Nat := if k = 0 then 0 else ((sx L (k - 1)).1 + 1) % 18446744073709551616
def sbad (m : Nat) (s : Sg) : Bool := decide (s.1 < m) || (decide (1048576 ≤ s.1) || !chOk s.2)
def sgOk (L : List Sg) : Bool := isLen L.length && (decide ((sx L 0).1 = 0) && !anyN (fun k => sbad (leastF L k) (sx L k)) L.length)
def lright (x : Ly) : Bool := decide (1 ≤ x.e ∧ x.e ≤ 1048576) && (decide (0 ≤ x.q ∧ x.q < 32) && sgOk x.s)

theorem cbadU_iff {us c : List Int} (hus : us.Nodup) : cbadU us c = false ↔ (∀ u ∈ c, 0 ≤ u ∧ u < 32) ∧ (us ++ c).Nodup := by
  unfold cbadU
  rw [anyN_false]
  induction c generalizing us with
  | nil => simp [hus]
  | cons u c ih =>
    have e1 : (∀ j, j < (u :: c).length → ubad (us ++ (u :: c).take j) ((u :: c).getD j 0) = false) ↔ ubad us u = false ∧ ∀ j, j < c.length → ubad ((us ++ [u]) ++ c.take j) (c.getD j 0) = false := by
      constructor
      · intro h
        refine ⟨by simpa using h 0 (by simp), fun j hj => ?_⟩
        have := h (j + 1) (by simp; omega)
        simpa using this
      · rintro ⟨h1, h2⟩ j hj
        cases j with
        | zero => simpa using h1
        | succ j => have := h2 j (by simp at hj; omega); simpa using this
    rw [e1]
    unfold ubad
    simp only [Bool.or_eq_false_iff, Bool.not_eq_false', decide_eq_true_eq, decide_eq_false_iff_not]
    constructor
    · rintro ⟨⟨h1, h2⟩, h3⟩
      have hn : (us ++ [u]).Nodup := by rw [List.nodup_append]; exact ⟨hus, by simp, fun a ha b hb => by simp at hb; subst hb; intro e; subst e; exact h2 ha⟩
      have := (ih hn).1 (by simpa [ubad] using h3)
      refine ⟨fun x hx => ?_, by simpa using this.2⟩
      rcases List.mem_cons.1 hx with rfl | hx
      · exact h1
      · exact this.1 x hx
    · rintro ⟨h1, h2⟩
      have hs : us ++ u :: c = (us ++ [u]) ++ c := by simp
      rw [hs] at h2
      have hn : (us ++ [u]).Nodup := (List.nodup_append.1 h2).1
      refine ⟨⟨h1 u (by simp), fun hu => ?_⟩, ?_⟩
      · exact (List.nodup_append.1 hn).2.2 u hu u (by simp) rfl
      · have := (ih hn).2 ⟨fun x hx => h1 x (by simp [hx]), h2⟩
        simpa [ubad] using this
theorem isLen_iff {n : Nat} : isLen n = true ↔ 1 ≤ n ∧ n ≤ 4 := by simp [isLen]
theorem cbads_iff {us : List Int} (hus : us.Nodup) (L : List (List Int)) : (∀ k, k < L.length → cbad (us ++ (L.take k).flatten) (cx L k) = false) ↔ (∀ c ∈ L, 1 ≤ c.length ∧ c.length ≤ 4) ∧ (∀ u ∈ L.flatten, 0 ≤ u ∧ u < 32) ∧ (us ++ L.flatten).Nodup := by
  induction L generalizing us with
  | nil => simp [hus]
  | cons c L ih =>
    have e1 : (∀ k, k < (c :: L).length → cbad (us ++ ((c :: L).take k).flatten) (cx (c :: L) k) = false) ↔ cbad us c = false ∧ ∀ k, k < L.length → cbad ((us ++ c) ++ (L.take k).flatten) (cx L k) = false := by
      constructor
      · intro h
        refine ⟨by simpa [cx] using h 0 (by simp), fun j hj => ?_⟩
        have := h (j + 1) (by simp; omega)
        simpa [cx] using this
      · rintro ⟨h1, h2⟩ j hj
        cases j with
        | zero => simpa [cx] using h1
        | succ j => have := h2 j (by simp at hj; omega); simpa [cx] using this
    rw [e1]
    have e2 : cbad us c = false ↔ (1 ≤ c.length ∧ c.length ≤ 4) ∧ (∀ u ∈ c, 0 ≤ u ∧ u < 32) ∧ (us ++ c).Nodup := by
      unfold cbad
      rw [Bool.or_eq_false_iff, Bool.not_eq_false', isLen_iff, cbadU_iff hus]
    rw [e2]
    simp only [List.flatten_cons, List.mem_append, List.mem_cons]
    constructor
    · rintro ⟨⟨h1, h2, h3⟩, h4⟩
      obtain ⟨g1, g2, g3⟩ := (ih h3).1 h4
      refine ⟨?_, ?_, by simpa using g3⟩
      · rintro x (rfl | hx)
        · exact h1
        · exact g1 x hx
      · rintro u (hu | hu)
        · exact h2 u hu
        · exact g2 u hu
    · rintro ⟨h1, h2, h3⟩
      rw [← List.append_assoc] at h3
      have hn := (List.nodup_append.1 h3).1
      exact ⟨⟨h1 c (.inl rfl), fun u hu => h2 u (.inl hu), hn⟩, (ih hn).2 ⟨fun x hx => h1 x (.inr hx), fun u hu => h2 u (.inr hu), h3⟩⟩
theorem chOk_iff {L : List (List Int)} : chOk L = true ↔ (1 ≤ L.length ∧ L.length ≤ 4) ∧ (∀ c ∈ L, 1 ≤ c.length ∧ c.length ≤ 4) ∧ (∀ u ∈ L.flatten, 0 ≤ u ∧ u < 32) ∧ L.flatten.Nodup := by
  unfold chOk
  rw [Bool.and_eq_true, isLen_iff, Bool.not_eq_true', anyN_false]
  have := cbads_iff (us := []) (by simp) L
  simp only [List.nil_append] at this
  rw [this]
theorem sgOk_iff {L : List Sg} : sgOk L = true ↔ (1 ≤ L.length ∧ L.length ≤ 4) ∧ (sx L 0).1 = 0 ∧ (∀ i, i < L.length → (sx L i).1 < 1048576 ∧ chOk (sx L i).2 = true) ∧ ∀ i, i + 1 < L.length → (sx L i).1 < (sx L (i + 1)).1 := by
  unfold sgOk
  rw [Bool.and_eq_true, Bool.and_eq_true, isLen_iff, Bool.not_eq_true', anyN_false, decide_eq_true_eq]
  refine and_congr_right fun h1 => and_congr_right fun h2 => ?_
  unfold sbad
  simp only [Bool.or_eq_false_iff, decide_eq_false_iff_not, Bool.not_eq_false']
  constructor
  · intro h
    refine ⟨fun i hi => ⟨by have := (h i hi).2.1; omega, (h i hi).2.2⟩, fun i hi => ?_⟩
    have g1 := (h (i + 1) hi).1
    have g2 := (h i (by omega)).2.1
    unfold leastF at g1
    rw [if_neg (by omega), Nat.add_sub_cancel] at g1
    omega
  · rintro ⟨h3, h4⟩ j hj
    refine ⟨?_, by have := (h3 j hj).1; omega, (h3 j hj).2⟩
    unfold leastF
    split
    · omega
    · have := h4 (j - 1) (by omega)
      have g := (h3 (j - 1) (by omega)).1
      rw [show j - 1 + 1 = j by omega] at this
      omega
theorem lright_iff {x : Ly} : lright x = true ↔ (1 ≤ x.e ∧ x.e ≤ 1048576) ∧ (0 ≤ x.q ∧ x.q < 32) ∧ sgOk x.s = true := by
  unfold lright
  rw [Bool.and_eq_true, Bool.and_eq_true, decide_eq_true_eq, decide_eq_true_eq]
end Go.Proofs.Ytdblplkaobeimaa
