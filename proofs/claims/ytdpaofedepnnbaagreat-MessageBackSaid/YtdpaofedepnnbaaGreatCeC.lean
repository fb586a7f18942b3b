/-
  Right of package cell, and what it calls, by their contracts. No claim of their own.
-/
import Derived.Test.YtdpaofedepnnbaaGreatCeB
import Derived.Shelf.Lay
namespace Go.Proofs.YtdpaofedepnnbaaGreat
open Go.RowKit Go.Deep Go.Shelf
set_option linter.unusedVariables false
set_option linter.unusedSimpArgs false

/-- an address that may not come, the ones below m being free -/
def lbad (m x : Nat) : Bool := if x = 18446744073709551615 then false else decide (m ≤ x)
/-- what is free behind it -/
def nlim (x : Nat) : Nat := if x = 18446744073709551615 then 0 else x
/-- what is free ahead of the k-th -/
def lim (l : List Nat) (k : Nat) : Nat := if k = 0 then 1048576 else nlim (l.getD (k - 1) 0)
/-- may these be a Back's? -/
def lastOk (b : Bk) : Bool := !anyN (fun k => lbad (lim [b.2.1, b.2.2] k) ([b.2.1, b.2.2].getD k 0)) 2
theorem lastOk_iff {b : Bk} : lastOk b = true ↔ (b.2.1 = 18446744073709551615 ∨ b.2.1 < 1048576) ∧ (b.2.2 = 18446744073709551615 ∨ b.2.1 ≠ 18446744073709551615 ∧ b.2.2 < b.2.1) := by
  obtain ⟨s, p, q⟩ := b
  unfold lastOk
  rw [Bool.not_eq_true', anyN_false]
  constructor
  · intro h
    have h0 := h 0 (by omega)
    have h1 := h 1 (by omega)
    simp [lbad, lim, nlim] at h0 h1
    show (p = _ ∨ p < _) ∧ (q = _ ∨ p ≠ _ ∧ q < p)
    split at h1 <;> omega
  · intro h j hj
    replace h : (p = 18446744073709551615 ∨ p < 1048576) ∧ (q = 18446744073709551615 ∨ p ≠ 18446744073709551615 ∧ q < p) := h
    have hj' : j = 0 ∨ j = 1 := by omega
    rcases hj' with rfl | rfl
    · simp [lbad, lim]
      omega
    · simp [lbad, lim, nlim]
      split <;> omega
/-- the least stream that may come ahead of the k-th -/
def least (L : List Bk) (k : Nat) : Int := if k = 0 then 0 else wrap64 ((bk L (k - 1)).1 + 1)
/-- a Back that may not come -/
def bbad (m : Int) (b : Bk) : Bool := decide (b.1 < m) || decide (16 ≤ b.1) || !lastOk b
/-- may these be a cell's? -/
def backsOk (L : List Bk) : Bool := !anyN (fun k => bbad (least L k) (bk L k)) L.length
/-- is a cell valid? -/
def right (x : Ce) : Bool := if x.k = 2 then decide (x.d.length = 0 ∧ x.b.length = 0) else if x.k = 1 then decide (x.d.length ≤ 100 ∧ x.b.length ≤ 4) && backsOk x.b else false

set_option maxHeartbeats 400000 in
theorem rl1_any (x m g : Nat) (w : World) (h : Own w g 26 [.int .u64 (m : Int)]) :
    Calls Tryz.prog 138 #[.int .u64 (x : Int), .pointer (some ⟨g, 0, none⟩)] w fun e w' => e = .returned (.bool (lbad m x)) ∧ w' = w.setCell ⟨g, 0, none⟩ (.int .u64 (nlim x : Nat)) := by
  have hc := h.cell 0
  have hf := h.frozen 0
  simp at hc
  clear h
  by_cases e : x = 18446744073709551615
  · have e1 : lbad m x = false := by simp [lbad, e]
    have e2 : nlim x = 0 := by simp [nlim, e]
    rw [e1, e2]
    subst e
    clear e1 e2
    go_enter Tryz.func138, Tryz.ntmps138
    go_wp2
    go_ret
    exact ⟨rfl, rfl⟩
  · have e1 : lbad m x = decide (m ≤ x) := by simp [lbad, e]
    have e2 : nlim x = x := by simp [nlim, e]
    have e3 : ((x : Int) == 18446744073709551615) = false := by rw [beq_eq_false_iff_ne]; omega
    rw [e1, e2]
    clear e1 e2 e
    go_enter Tryz.func138, Tryz.ntmps138
    go_wp2
    go_ret
    exact ⟨by simp, rfl⟩

set_option maxHeartbeats 400000 in
theorem rightLast_any (b : Bk) (w : World) :
    Calls Tryz.prog 123 #[.agg #[.int .u64 (b.2.1 : Int), .int .u64 (b.2.2 : Int)]] w fun e w' => e = .returned (.bool (lastOk b)) ∧ Below w.heap.size w w' := by
  obtain ⟨s, p, q⟩ := b
  obtain ⟨t, ht⟩ : ∃ t, t = anyN (fun k => lbad (lim [p, q] k) ([p, q].getD k 0)) 2 := ⟨_, rfl⟩
  have eg : ∀ args w, (callFunc 138 args).run Tryz.prog w = .ok (.enter 138 args) w := enters_of Tryz.func138 (by kernel_rfl) rfl
  have hC : ∀ W : World, W = (w.alloc (.cells #[.int .u64 (p : Int), .int .u64 (q : Int)] 68)).alloc (.cells #[.int .u64 1048576] 26) →
      Calls Tryz.prog 137 #[.slice (some ⟨w.heap.size, 0, none⟩) 2 2, .func (.func 138) #[] #[.pointer (some ⟨w.heap.size + 1, 0, none⟩)]] W fun e w' => e = .returned (.bool t) ∧ Below w.heap.size w w' := by
    intro W hW
    have h1 : Own W w.heap.size 68 (u64s [p, q]) := by rw [hW]; exact (Own.new w _ _).alloc _
    have h2 : Own W (w.heap.size + 1) 26 [.int .u64 ((1048576 : Nat) : Int)] := by
      rw [hW]
      have := Own.new (w.alloc (.cells #[.int .u64 (p : Int), .int .u64 (q : Int)] 68)) 26 [.int .u64 ((1048576 : Nat) : Int)]
      simpa using this
    have hb : Below w.heap.size w W := by rw [hW]; exact ((Below.refl _ _).alloc (Nat.le_refl _) _).alloc (by simp) _
    refine (contains_num (fun k W => Own W w.heap.size 68 (u64s [p, q]) ∧ Own W (w.heap.size + 1) 26 [.int .u64 (lim [p, q] k : Nat)] ∧ Below w.heap.size w W) (fun k => lbad (lim [p, q] k) ([p, q].getD k 0)) 138 #[.pointer (some ⟨w.heap.size + 1, 0, none⟩)] eg [p, q] (some ⟨w.heap.size, 0, none⟩) 2 (w.heap.size + 1) W (by simp) (fun k W' h => h.1.ro _ (by omega)) ⟨h1, h2, hb⟩ (fun k W' hk h => ?_)).mono ?_
    · obtain ⟨o1, o2, o3⟩ := h
      refine (rl1_any ([p, q].getD k 0) (lim [p, q] k) (w.heap.size + 1) W' o2).mono ?_
      rintro e w' ⟨rfl, rfl⟩
      refine ⟨rfl, o1.far (by show w.heap.size ≠ w.heap.size + 1; omega) _, ?_, o3.setCell (by show w.heap.size ≤ w.heap.size + 1; omega) _⟩
      have := o2.set 0 (.int .u64 (nlim ([p, q].getD k 0) : Nat))
      simpa [lim] using this
    · rintro e w' ⟨rfl, k, hk⟩
      rw [ht]
      exact ⟨rfl, hk.2.2⟩
  have HC := Lib.hid hC
  unfold lastOk
  show Calls _ _ _ _ fun e w' => e = .returned (.bool !anyN (fun k => lbad (lim [p, q] k) ([p, q].getD k 0)) 2) ∧ _
  rw [← ht]
  clear ht hC
  go_enter Tryz.func123, Tryz.ntmps123
  go_wp2_with fail
  refine (HC.out _ rfl).mono ?_
  rintro e w' ⟨rfl, hb⟩
  have HB := Lib.hid hb
  clear hb
  go_wp2_with fail
  go_ret
  exact ⟨rfl, HB.out⟩

set_option maxHeartbeats 1000000 in
theorem rb1_any (b : Bk) (m : Int) (g : Nat) (w : World) (h : Own w g 3 [.int .i64 m]) :
    Calls Tryz.prog 122 #[bkv b, .pointer (some ⟨g, 0, none⟩)] w fun e w' => e = .returned (.bool (bbad m b)) ∧ Own w' g 3 [.int .i64 (wrap64 (b.1 + 1))] ∧ Below g w w' := by
  have hg := h.lt
  have HO := Lib.hid h
  have hc := h.cell 0
  have hf := h.frozen 0
  simp at hc
  clear h
  obtain ⟨t, HT⟩ : ∃ t, Hid (lastOk b = t) := ⟨_, Lib.hid rfl⟩
  obtain ⟨u, HU⟩ : ∃ u, Hid (bbad m b = u) := ⟨_, Lib.hid rfl⟩
  rw [HU.out]
  have HR := Lib.hid (fun W => rightLast_any b W)
  rw [HT.out] at HR
  obtain ⟨s, p, q⟩ := b
  simp only at HR ⊢
  by_cases e1 : s < m
  · obtain rfl : u = true := by rw [← HU.out]; simp [bbad, e1]
    go_enter Tryz.func122, Tryz.ntmps122
    go_wp2
    go_ret
    exact ⟨rfl, (HO.out.set 0 _).alloc _, ((Below.refl g w).setCell (Nat.le_refl _) _).alloc (by simp [set_size]; omega) _⟩
  by_cases e2 : 16 ≤ s
  · obtain rfl : u = true := by rw [← HU.out]; simp [bbad, e2]
    go_enter Tryz.func122, Tryz.ntmps122
    go_wp2
    go_ret
    exact ⟨rfl, (HO.out.set 0 _).alloc _, ((Below.refl g w).setCell (Nat.le_refl _) _).alloc (by simp [set_size]; omega) _⟩
  obtain rfl : u = !t := by rw [← HU.out]; simp [bbad, e1, e2, HT.out]
  go_enter Tryz.func122, Tryz.ntmps122
  go_wp2_with fail
  refine (HR.out _).mono ?_
  rintro e w' ⟨rfl, hb⟩
  have HB := Lib.hid hb
  have o1 : Own w' w.heap.size 70 [.int .i64 s, .int .u64 (p : Int), .int .u64 (q : Int)] := (Own.new w 70 [.int .i64 s, .int .u64 (p : Int), .int .u64 (q : Int)]).below hb (by simp)
  have o2 : Own w' g 3 [.int .i64 m] := (HO.out.alloc _).below hb (by simp; omega)
  have hz := o1.lt
  have c1 := o1.cell 0
  have c2 := o2.cell 0
  have c3 := o2.frozen 0
  simp at c1 c2
  have HO2 := Lib.hid o2
  clear hb o1 o2 hc hf
  go_wp2_with fail
  go_ret
  exact ⟨rfl, HO2.out.set 0 _, (((Below.refl g w).alloc (by omega) _).trans (HB.out.mono (by simp; omega))).setCell (Nat.le_refl _) _⟩

set_option maxHeartbeats 1000000 in
theorem rightBacks_any (L : List Bk) (a : Option Addr) (c B : Nat) (w : World) (hro : Ro w B a (bcs L)) (hB : B ≤ w.heap.size) (hl : L.length ≤ 1000000) :
    Calls Tryz.prog 102 #[.slice a L.length c] w fun e w' => e = .returned (.bool (backsOk L)) ∧ Below w.heap.size w w' := by
  obtain ⟨t, ht⟩ : ∃ t, t = anyN (fun k => bbad (least L k) (bk L k)) L.length := ⟨_, rfl⟩
  have eg : ∀ args w, (callFunc 122 args).run Tryz.prog w = .ok (.enter 122 args) w := enters_of Tryz.func122 (by kernel_rfl) rfl
  have HC : Hid (Calls Tryz.prog 96 #[.slice a L.length c, .func (.func 122) #[] #[.pointer (some ⟨w.heap.size, 0, none⟩)]] (w.alloc (.cells #[.int .i64 0] 3)) fun e w' => e = .returned (.bool t) ∧ Below w.heap.size w w') := by
    apply Lib.hid
    refine (contains_back (fun k W => Own W w.heap.size 3 [.int .i64 (least L k)] ∧ Below w.heap.size w W) (fun k => bbad (least L k) (bk L k)) 122 #[.pointer (some ⟨w.heap.size, 0, none⟩)] eg L a c B _ hl (fun k W' h => hro.below h.2 hB) ⟨Own.new w _ _, (Below.refl _ _).alloc (Nat.le_refl _) _⟩ (fun k W' hk h => ?_)).mono ?_
    · obtain ⟨o1, o2⟩ := h
      refine (rb1_any (bk L k) (least L k) w.heap.size W' o1).mono ?_
      rintro e w' ⟨rfl, o3, o4⟩
      exact ⟨rfl, by simpa [least] using o3, o2.trans o4⟩
    · rintro e w' ⟨rfl, k, hk⟩
      rw [ht]
      exact ⟨rfl, hk.2⟩
  unfold backsOk
  rw [← ht]
  clear ht
  go_enter Tryz.func102, Tryz.ntmps102
  go_wp2_with fail
  refine HC.out.mono ?_
  rintro e w' ⟨rfl, hb⟩
  have HB := Lib.hid hb
  clear hb
  go_wp2_with fail
  go_ret
  exact ⟨rfl, HB.out⟩

set_option maxHeartbeats 1000000 in
theorem right_any (x : Ce) (a : Option Addr) (c : Nat) (a2 : Option Addr) (c2 B : Nat) (w : World) (hro : Ro w B a2 (bcs x.b)) (hB : B ≤ w.heap.size) (hl : x.b.length ≤ 9223372036854775807) (hl2 : x.d.length ≤ 9223372036854775807) :
    Calls Tryz.prog 68 #[cev x.k a x.d.length c a2 x.b.length c2] w fun e w' => e = .returned (.bool (right x)) ∧ Below w.heap.size w w' := by
  obtain ⟨t, HT⟩ : ∃ t, Hid (backsOk x.b = t) := ⟨_, Lib.hid rfl⟩
  obtain ⟨u, HU⟩ : ∃ u, Hid (right x = u) := ⟨_, Lib.hid rfl⟩
  have HR := Lib.hid (fun (h4 : x.b.length ≤ 4) => rightBacks_any x.b a2 c2 B (w.alloc (.cells #[.int .i64 x.k, .slice a x.d.length c, .slice a2 x.b.length c2] 32)) (hro.below ((Below.refl B w).alloc hB _) (Nat.le_refl _)) (by simp; omega) (by omega))
  rw [HT.out] at HR
  rw [HU.out]
  clear hro
  obtain ⟨k, d, b⟩ := x
  simp only at HR HU HT hl hl2 ⊢
  generalize hd : d.length = n at *
  generalize hb : b.length = m at *
  have HD := Lib.hid hd
  have HBL := Lib.hid hb
  clear hd hb
  by_cases e2 : k = 2
  · subst e2
    by_cases hn : n = 0
    · subst hn
      by_cases hm : m = 0
      · subst hm
        obtain rfl : u = true := by rw [← HU.out]; simp [right, HD.out, HBL.out]
        go_enter Tryz.func68, Tryz.ntmps68
        go_wp2_with fail
        go_ret
        exact ⟨rfl, (Below.refl _ _).alloc (Nat.le_refl _) _⟩
      · obtain rfl : u = false := by rw [← HU.out]; simp [right, HD.out, HBL.out, hm]
        have hm' : ((m : Int) == 0) = false := by rw [beq_eq_false_iff_ne]; omega
        clear hm
        go_enter Tryz.func68, Tryz.ntmps68
        go_wp2_with fail
        go_ret
        exact ⟨rfl, (Below.refl _ _).alloc (Nat.le_refl _) _⟩
    · obtain rfl : u = false := by rw [← HU.out]; simp [right, HD.out, HBL.out, hn]
      have hn' : ((n : Int) == 0) = false := by rw [beq_eq_false_iff_ne]; omega
      clear hn
      go_enter Tryz.func68, Tryz.ntmps68
      go_wp2_with fail
      go_ret
      exact ⟨rfl, (Below.refl _ _).alloc (Nat.le_refl _) _⟩
  · by_cases e1 : k = 1
    · subst e1
      by_cases hn : n ≤ 100
      · by_cases hm : m ≤ 4
        · obtain rfl : u = t := by rw [← HU.out]; simp [right, HD.out, HBL.out, hn, hm, HT.out]
          go_enter Tryz.func68, Tryz.ntmps68
          go_wp2_with fail
          refine (HR.out hm).mono ?_
          rintro e w' ⟨rfl, hb⟩
          have HB := Lib.hid hb
          clear hb
          go_wp2_with fail
          go_ret
          exact ⟨rfl, ((Below.refl _ _).alloc (Nat.le_refl _) _).trans (HB.out.mono (by simp))⟩
        · obtain rfl : u = false := by rw [← HU.out]; simp [right, HD.out, HBL.out, hm]
          go_enter Tryz.func68, Tryz.ntmps68
          go_wp2_with fail
          go_ret
          exact ⟨rfl, (Below.refl _ _).alloc (Nat.le_refl _) _⟩
      · obtain rfl : u = false := by rw [← HU.out]; simp [right, HD.out, HBL.out, hn]
        go_enter Tryz.func68, Tryz.ntmps68
        go_wp2_with fail
        go_ret
        exact ⟨rfl, (Below.refl _ _).alloc (Nat.le_refl _) _⟩
    · obtain rfl : u = false := by rw [← HU.out]; simp [right, e1, e2]
      have h1 : (k == 1) = false := by rw [beq_eq_false_iff_ne]; omega
      have h2 : (k == 2) = false := by rw [beq_eq_false_iff_ne]; omega
      clear e1 e2
      go_enter Tryz.func68, Tryz.ntmps68
      go_wp2_with fail
      go_ret
      exact ⟨rfl, (Below.refl _ _).alloc (Nat.le_refl _) _⟩
end Go.Proofs.YtdpaofedepnnbaaGreat
