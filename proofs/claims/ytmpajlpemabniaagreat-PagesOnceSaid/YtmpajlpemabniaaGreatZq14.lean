/-
  Right of package cell, and what it calls, by their contracts. No claim of their own.
-/
import Derived.Shelf.Lay
import Derived.Test.YtmpajlpemabniaaGreatZq13
import Derived.Deep.RegionLaw
namespace Go.Proofs.YtmpajlpemabniaaGreat
open Go.RowKit Go.Deep Go.Shelf
set_option linter.unusedVariables false
set_option linter.unusedSimpArgs false
def lbad (m x : Nat) : Bool := if x = 18446744073709551615 then false else decide (m ≤ x)
def nlim (x : Nat) : Nat := if x = 18446744073709551615 then 0 else x
def lim (l : List Nat) (k : Nat) : Nat := if k = 0 then 1048576 else nlim (l.getD (k - 1) 0)
def lastOk (b : Bk) : Bool := !anyN (fun k => lbad (lim [b.2.1, b.2.2] k) ([b.2.1, b.2.2].getD k 0)) 2
theorem lastOk_iff {b : Bk} : lastOk b = true ↔ (b.2.1 = 18446744073709551615 ∨ b.2.1 < 1048576) ∧ (b.2.2 = 18446744073709551615 ∨ b.2.1 ≠ 18446744073709551615 ∧ b.2.2 < b.2.1) := by
  obtain ⟨s, p, q⟩ := b
  unfold lastOk
  rw [Bool.not_eq_true', anyN_false]
  constructor
  · intro h
    have h0 := h 0 (by omega)
    have h1 := h 1 (by omega)
    simp [lbad, lim, nlim] at h0 h1
    show (p = _ ∨ p < _) ∧ (q = _ ∨ p ≠ _ ∧ q < p)
    split at h1 <;> omega
  · intro h j hj
    replace h : (p = 18446744073709551615 ∨ p < 1048576) ∧ (q = 18446744073709551615 ∨ p ≠ 18446744073709551615 ∧ q < p) := h
    have hj' : j = 0 ∨ j = 1 := by omega
    rcases hj' with rfl | rfl
    · simp [lbad, lim]
      omega
    · simp [lbad, lim, nlim]
      split <;> omega
def least (L : List Bk) (k : Nat) : Int := if k = 0 then 0 else wrap64 ((bk L (k - 1)).1 + 1)
def bbad (m : Int) (b : Bk) : Bool := decide (b.1 < m) || decide (16 ≤ b.1) || !lastOk b
def backsOk (L : List Bk) : Bool := !anyN (fun k => bbad (least L k) (bk L k)) L.length
def right (x : Ce) : Bool := if x.k = 2 then decide (x.d.length = 0 ∧ x.b.length = 0) else if x.k = 1 then decide (x.d.length ≤ 100 ∧ x.b.length ≤ 4) && backsOk x.b else false
set_option maxHeartbeats 400000 in
theorem rl1_any (x m g : Nat) (w : World) (h : Own w g 37 [.int .u64 (m : Int)]) :
    Calls Tryz.prog 220 #[.int .u64 (x : Int), .pointer (some ⟨g, 0, none⟩)] w fun e w' => e = .returned (.bool (lbad m x)) ∧ w' = w.setCell ⟨g, 0, none⟩ (.int .u64 (nlim x : Nat)) := by
  have hc := h.cell 0
  have hf := h.frozen 0
  simp at hc
  clear h
  by_cases e : x = 18446744073709551615
  · have e1 : lbad m x = false := by simp [lbad, e]
    have e2 : nlim x = 0 := by simp [nlim, e]
    rw [e1, e2]
    subst e
    clear e1 e2
    go_enter Tryz.func220, Tryz.ntmps220
    go_wp2
    go_ret
    exact ⟨rfl, rfl⟩
  · have e1 : lbad m x = decide (m ≤ x) := by simp [lbad, e]
    have e2 : nlim x = x := by simp [nlim, e]
    have e3 : ((x : Int) == 18446744073709551615) = false := by rw [beq_eq_false_iff_ne]; omega
    rw [e1, e2]
    clear e1 e2 e
    go_enter Tryz.func220, Tryz.ntmps220
    go_wp2
    go_ret
    exact ⟨by simp, rfl⟩
set_option maxHeartbeats 400000 in
theorem rightLast_any (b : Bk) (w : World) :
    Calls Tryz.prog 177 #[.agg #[.int .u64 (b.2.1 : Int), .int .u64 (b.2.2 : Int)]] w fun e w' => e = .returned (.bool (lastOk b)) ∧ Below w.heap.size w w' := by
  obtain ⟨s, p, q⟩ := b
  obtain ⟨t, ht⟩ : ∃ t, t = anyN (fun k => lbad (lim [p, q] k) ([p, q].getD k 0)) 2 := ⟨_, rfl⟩
  have eg : ∀ args w, (callFunc 220 args).run Tryz.prog w = .ok (.enter 220 args) w := enters_of Tryz.func220 (by kernel_rfl) rfl
  have hC : ∀ W : World, W = (w.alloc (.cells #[.int .u64 (p : Int), .int .u64 (q : Int)] 141)).alloc (.cells #[.int .u64 1048576] 37) →
      Calls Tryz.prog 219 #[.slice (some ⟨w.heap.size, 0, none⟩) 2 2, .func (.func 220) #[] #[.pointer (some ⟨w.heap.size + 1, 0, none⟩)]] W fun e w' => e = .returned (.bool t) ∧ Below w.heap.size w w' := by
    intro W hW
    have h1 : Own W w.heap.size 141 (u64s [p, q]) := by rw [hW]; exact (Own.new w _ _).alloc _
    have h2 : Own W (w.heap.size + 1) 37 [.int .u64 ((1048576 : Nat) : Int)] := by
      rw [hW]
      have := Own.new (w.alloc (.cells #[.int .u64 (p : Int), .int .u64 (q : Int)] 141)) 37 [.int .u64 ((1048576 : Nat) : Int)]
      simpa using this
    have hb : Below w.heap.size w W := by rw [hW]; exact ((Below.refl _ _).alloc (Nat.le_refl _) _).alloc (by simp) _
    refine (contains_num (fun k W => Own W w.heap.size 141 (u64s [p, q]) ∧ Own W (w.heap.size + 1) 37 [.int .u64 (lim [p, q] k : Nat)] ∧ Below w.heap.size w W) (fun k => lbad (lim [p, q] k) ([p, q].getD k 0)) 220 #[.pointer (some ⟨w.heap.size + 1, 0, none⟩)] eg [p, q] (some ⟨w.heap.size, 0, none⟩) 2 (w.heap.size + 1) W (by simp) (fun k W' h => h.1.ro _ (by omega)) ⟨h1, h2, hb⟩ (fun k W' hk h => ?_)).mono ?_
    · obtain ⟨o1, o2, o3⟩ := h
      refine (rl1_any ([p, q].getD k 0) (lim [p, q] k) (w.heap.size + 1) W' o2).mono ?_
      rintro e w' ⟨rfl, rfl⟩
      refine ⟨rfl, o1.far (by show w.heap.size ≠ w.heap.size + 1; omega) _, ?_, o3.setCell (by show w.heap.size ≤ w.heap.size + 1; omega) _⟩
      have := o2.set 0 (.int .u64 (nlim ([p, q].getD k 0) : Nat))
      simpa [lim] using this
    · rintro e w' ⟨rfl, k, hk⟩
      rw [ht]
      exact ⟨rfl, hk.2.2⟩
  have HC := Lib.hid hC
  unfold lastOk
  show Calls _ _ _ _ fun e w' => e = .returned (.bool !anyN (fun k => lbad (lim [p, q] k) ([p, q].getD k 0)) 2) ∧ _
  rw [← ht]
  clear ht hC
  go_enter Tryz.func177, Tryz.ntmps177
  go_wp2_with fail
  refine (HC.out _ rfl).mono ?_
  rintro e w' ⟨rfl, hb⟩
  have HB := Lib.hid hb
  clear hb
  go_wp2_with fail
  go_ret
  exact ⟨rfl, HB.out⟩
set_option maxHeartbeats 1000000 in
theorem rb1_any (b : Bk) (m : Int) (g : Nat) (w : World) (h : Own w g 3 [.int .i64 m]) :
    Calls Tryz.prog 176 #[bkv b, .pointer (some ⟨g, 0, none⟩)] w fun e w' => e = .returned (.bool (bbad m b)) ∧ Own w' g 3 [.int .i64 (wrap64 (b.1 + 1))] ∧ Below g w w' := by
  have hg := h.lt
  have HO := Lib.hid h
  have hc := h.cell 0
  have hf := h.frozen 0
  simp at hc
  clear h
  obtain ⟨t, HT⟩ : ∃ t, Hid (lastOk b = t) := ⟨_, Lib.hid rfl⟩
  obtain ⟨u, HU⟩ : ∃ u, Hid (bbad m b = u) := ⟨_, Lib.hid rfl⟩
  rw [HU.out]
  have HR := Lib.hid (fun W => rightLast_any b W)
  rw [HT.out] at HR
  obtain ⟨s, p, q⟩ := b
  simp only at HR ⊢
  by_cases e1 : s < m
  · obtain rfl : u = true := by rw [← HU.out]; simp [bbad, e1]
    go_enter Tryz.func176, Tryz.ntmps176
    go_wp2
    go_ret
    exact ⟨rfl, (HO.out.set 0 _).alloc _, ((Below.refl g w).setCell (Nat.le_refl _) _).alloc (by simp [set_size]; omega) _⟩
  by_cases e2 : 16 ≤ s
  · obtain rfl : u = true := by rw [← HU.out]; simp [bbad, e2]
    go_enter Tryz.func176, Tryz.ntmps176
    go_wp2
    go_ret
    exact ⟨rfl, (HO.out.set 0 _).alloc _, ((Below.refl g w).setCell (Nat.le_refl _) _).alloc (by simp [set_size]; omega) _⟩
  obtain rfl : u = !t := by rw [← HU.out]; simp [bbad, e1, e2, HT.out]
  go_enter Tryz.func176, Tryz.ntmps176
  go_wp2_with fail
  refine (HR.out _).mono ?_
  rintro e w' ⟨rfl, hb⟩
  have HB := Lib.hid hb
  have o1 : Own w' w.heap.size 143 [.int .i64 s, .int .u64 (p : Int), .int .u64 (q : Int)] := (Own.new w 143 [.int .i64 s, .int .u64 (p : Int), .int .u64 (q : Int)]).below hb (by simp)
  have o2 : Own w' g 3 [.int .i64 m] := (HO.out.alloc _).below hb (by simp; omega)
  have hz := o1.lt
  have c1 := o1.cell 0
  have c2 := o2.cell 0
  have c3 := o2.frozen 0
  simp at c1 c2
  have HO2 := Lib.hid o2
  clear hb o1 o2 hc hf
  go_wp2_with fail
  go_ret
  exact ⟨rfl, HO2.out.set 0 _, (((Below.refl g w).alloc (by omega) _).trans (HB.out.mono (by simp; omega))).setCell (Nat.le_refl _) _⟩
set_option maxHeartbeats 1000000 in
theorem rightBacks_any (L : List Bk) (a : Option Addr) (c B : Nat) (w : World) (hro : Ro w B a (bcs L)) (hB : B ≤ w.heap.size) (hl : L.length ≤ 1000000) :
    Calls Tryz.prog 120 #[.slice a L.length c] w fun e w' => e = .returned (.bool (backsOk L)) ∧ Below w.heap.size w w' := by
  obtain ⟨t, ht⟩ : ∃ t, t = anyN (fun k => bbad (least L k) (bk L k)) L.length := ⟨_, rfl⟩
  have eg : ∀ args w, (callFunc 176 args).run Tryz.prog w = .ok (.enter 176 args) w := enters_of Tryz.func176 (by kernel_rfl) rfl
  have HC : Hid (Calls Tryz.prog 175 #[.slice a L.length c, .func (.func 176) #[] #[.pointer (some ⟨w.heap.size, 0, none⟩)]] (w.alloc (.cells #[.int .i64 0] 3)) fun e w' => e = .returned (.bool t) ∧ Below w.heap.size w w') := by
    apply Lib.hid
    refine (contains_back (fun k W => Own W w.heap.size 3 [.int .i64 (least L k)] ∧ Below w.heap.size w W) (fun k => bbad (least L k) (bk L k)) 176 #[.pointer (some ⟨w.heap.size, 0, none⟩)] eg L a c B _ hl (fun k W' h => hro.below h.2 hB) ⟨Own.new w _ _, (Below.refl _ _).alloc (Nat.le_refl _) _⟩ (fun k W' hk h => ?_)).mono ?_
    · obtain ⟨o1, o2⟩ := h
      refine (rb1_any (bk L k) (least L k) w.heap.size W' o1).mono ?_
      rintro e w' ⟨rfl, o3, o4⟩
      exact ⟨rfl, by simpa [least] using o3, o2.trans o4⟩
    · rintro e w' ⟨rfl, k, hk⟩
      rw [ht]
      exact ⟨rfl, hk.2⟩
  unfold backsOk
  rw [← ht]
  clear ht
  go_enter Tryz.func120, Tryz.ntmps120
  go_wp2_with fail
  refine HC.out.mono ?_
  rintro e w' ⟨rfl, hb⟩
  have HB := Lib.hid hb
  clear hb
  go_wp2_with fail
  go_ret
  exact ⟨rfl, HB.out⟩
set_option maxHeartbeats 1000000 in
theorem right_any (x : Ce) (a : Option Addr) (c : Nat) (a2 : Option Addr) (c2 B : Nat) (w : World) (hro : Ro w B a2 (bcs x.b)) (hB : B ≤ w.heap.size) (hl : x.b.length ≤ 9223372036854775807) (hl2 : x.d.length ≤ 9223372036854775807) :
    Calls Tryz.prog 66 #[cev x.k a x.d.length c a2 x.b.length c2] w fun e w' => e = .returned (.bool (right x)) ∧ Below w.heap.size w w' := by
  obtain ⟨t, HT⟩ : ∃ t, Hid (backsOk x.b = t) := ⟨_, Lib.hid rfl⟩
  obtain ⟨u, HU⟩ : ∃ u, Hid (right x = u) := ⟨_, Lib.hid rfl⟩
  have HR := Lib.hid (fun (h4 : x.b.length ≤ 4) => rightBacks_any x.b a2 c2 B (w.alloc (.cells #[.int .i64 x.k, .slice a x.d.length c, .slice a2 x.b.length c2] 42)) (hro.below ((Below.refl B w).alloc hB _) (Nat.le_refl _)) (by simp; omega) (by omega))
  rw [HT.out] at HR
  rw [HU.out]
  clear hro
  obtain ⟨k, d, b⟩ := x
  simp only at HR HU HT hl hl2 ⊢
  generalize hd : d.length = n at *
  generalize hb : b.length = m at *
  have HD := Lib.hid hd
  have HBL := Lib.hid hb
  clear hd hb
  by_cases e2 : k = 2
  · subst e2
    by_cases hn : n = 0
    · subst hn
      by_cases hm : m = 0
      · subst hm
        obtain rfl : u = true := by rw [← HU.out]; simp [right, HD.out, HBL.out]
        go_enter Tryz.func66, Tryz.ntmps66
        go_wp2_with fail
        go_ret
        exact ⟨rfl, (Below.refl _ _).alloc (Nat.le_refl _) _⟩
      · obtain rfl : u = false := by rw [← HU.out]; simp [right, HD.out, HBL.out, hm]
        have hm' : ((m : Int) == 0) = false := by rw [beq_eq_false_iff_ne]; omega
        clear hm
        go_enter Tryz.func66, Tryz.ntmps66
        go_wp2_with fail
        go_ret
        exact ⟨rfl, (Below.refl _ _).alloc (Nat.le_refl _) _⟩
    · obtain rfl : u = false := by rw [← HU.out]; simp [right, HD.out, HBL.out, hn]
      have hn' : ((n : Int) == 0) = false := by rw [beq_eq_false_iff_ne]; omega
      clear hn
      go_enter Tryz.func66, Tryz.ntmps66
      go_wp2_with fail
      go_ret
      exact ⟨rfl, (Below.refl _ _).alloc (Nat.le_refl _) _⟩
  · by_cases e1 : k = 1
    · subst e1
      by_cases hn : n ≤ 100
      · by_cases hm : m ≤ 4
        · obtain rfl : u = t := by rw [← HU.out]; simp [right, HD.out, HBL.out, hn, hm, HT.out]
          go_enter Tryz.func66, Tryz.ntmps66
          go_wp2_with fail
          refine (HR.out hm).mono ?_
          rintro e w' ⟨rfl, hb⟩
          have HB := Lib.hid hb
          clear hb
          go_wp2_with fail
          go_ret
          exact ⟨rfl, ((Below.refl _ _).alloc (Nat.le_refl _) _).trans (HB.out.mono (by simp))⟩
        · obtain rfl : u = false := by rw [← HU.out]; simp [right, HD.out, HBL.out, hm]
          go_enter Tryz.func66, Tryz.ntmps66
          go_wp2_with fail
          go_ret
          exact ⟨rfl, (Below.refl _ _).alloc (Nat.le_refl _) _⟩
      · obtain rfl : u = false := by rw [← HU.out]; simp [right, HD.out, HBL.out, hn]
        go_enter Tryz.func66, Tryz.ntmps66
        go_wp2_with fail
        go_ret
        exact ⟨rfl, (Below.refl _ _).alloc (Nat.le_refl _) _⟩
    · obtain rfl : u = false := by rw [← HU.out]; simp [right, e1, e2]
      have h1 : (k == 1) = false := by rw [beq_eq_false_iff_ne]; omega
      have h2 : (k == 2) = false := by rw [beq_eq_false_iff_ne]; omega
      clear e1 e2
      go_enter Tryz.func66, Tryz.ntmps66
      go_wp2_with fail
      go_ret
      exact ⟨rfl, (Below.refl _ _).alloc (Nat.le_refl _) _⟩
end Go.Proofs.YtmpajlpemabniaaGreat
namespace Go.Proofs.YtmpajlpemabniaaGreat
open Go.RowKit Go.Deep
set_option linter.unusedVariables false
set_option linter.unusedSimpArgs false
set_option maxHeartbeats 400000 in
theorem mul64_any (n : Nat) (w : World) (h : n ≤ 1000) :
    Calls Tryz.prog 273 #[.int .u64 1, .int .u64 (n : Int)] w fun e w' => e = .returned (.tuple #[.int .u64 0, .int .u64 (n : Int)]) ∧ w = w' := by
  have h1 : bits BinOp.and IntKind.u64 (n : Int) 4294967295 = (n : Int) := by
    have := u64_and_nat n 4294967295 (by omega) (by omega)
    rw [show ((4294967295 : Nat) : Int) = 4294967295 by rfl] at this
    rw [this, show (4294967295 : Nat) = 2 ^ 32 - 1 by rfl, Nat.and_two_pow_sub_one_eq_mod, Nat.mod_eq_of_lt (by omega)]
  have h2 : bits BinOp.and IntKind.u64 1 4294967295 = 1 := by decide
  have h3 : bits BinOp.and IntKind.u64 0 4294967295 = 0 := by decide
  have h4 : (n : Int) / 4294967296 = 0 := by omega
  go_enter Tryz.func273, Tryz.ntmps273
  go_wp2
  go_ret2
  exact ⟨rfl, rfl⟩
set_option maxHeartbeats 400000 in
theorem mul_any (n : Nat) (w : World) (h : n ≤ 1000) :
    Calls Tryz.prog 260 #[.int .u64 1, .int .u64 (n : Int)] w fun e w' => e = .returned (.tuple #[.int .u64 0, .int .u64 (n : Int)]) ∧ w = w' := by
  go_enter Tryz.func260, Tryz.ntmps260
  go_wp2_with fail
  refine (mul64_any n _ h).mono ?_
  rintro e w' ⟨rfl, rfl⟩
  go_wp2_with fail
  go_ret2
  exact ⟨rfl, rfl⟩
theorem Tryz.info_i64 : (Tryz.prog.info? 3).map (fun i => (i.zero, i.size, i.bytes)) = some (some (.int .i64 0), 1, 8) := by kernel_rfl
theorem Tryz.size_i64 : (Tryz.prog.info? 3).map (·.size) = some 1 := by kernel_rfl
theorem made_i64s (n : Nat) : madeCells #[.int .i64 0] n = (i64s (List.replicate n 0)).toArray := by
  apply Array.ext
  · simp [size_madeCells, i64s]
  · intro i h1 h2
    simp [madeCells, i64s, Nat.mod_one]
theorem own_madei (w : World) (n : Nat) : Own (w.alloc (.cells (madeCells #[.int .i64 0] n) 3)) w.heap.size 3 (i64s (List.replicate n 0)) := by
  rw [made_i64s]
  exact Own.new w 3 _
theorem i64s_oneCell (bs : List Int) : ∀ v ∈ i64s bs, v.oneCell' = true := by
  intro v hv
  simp only [i64s, List.mem_map] at hv
  obtain ⟨x, _, rfl⟩ := hv
  rfl
def rpt (x : Int) (n k : Nat) : List Int := List.replicate k x ++ List.replicate (n - k) 0
theorem rpt_zero (x : Int) (n : Nat) : rpt x n 0 = List.replicate n 0 := by simp [rpt]
theorem rpt_full (x : Int) (n : Nat) : rpt x n n = List.replicate n x := by simp [rpt]
@[simp] theorem rpt_length (x : Int) (n k : Nat) (h : k ≤ n) : (rpt x n k).length = n := by simp [rpt]; omega
theorem rpt_step (x : Int) (n k m : Nat) (h : k + m ≤ n) : splice (i64s (rpt x n k)) k (i64s (List.replicate m x)) = i64s (rpt x n (k + m)) := by
  unfold splice rpt i64s
  simp only [List.map_append, List.map_replicate, List.length_replicate]
  rw [List.take_append_of_le_length (by simp), List.take_of_length_le (by simp), List.drop_append, List.drop_of_length_le (by simp)]
  simp only [List.length_replicate, List.drop_replicate, List.nil_append]
  rw [show n - k - (k + m - k) = n - (k + m) by omega, ← List.append_assoc, List.replicate_append_replicate]
set_option maxHeartbeats 1000000 in
theorem repeat_any (x : Int) (n : Nat) (a : Option Addr) (c B : Nat) (w : World) (hro : Ro w B a (i64s [x])) (hB : B ≤ w.heap.size) (hn : n ≤ 1000) :
    Calls Tryz.prog 230 #[.slice a 1 c, .int .i64 (n : Int)] w fun e w' => e = .returned (.slice (some ⟨w.heap.size, 0, none⟩) n n) ∧ Own w' w.heap.size 3 (i64s (List.replicate n x)) ∧ Below w.heap.size w w' := by
  have hmk := fun W => run_make_row' (P := Tryz.prog) 122 3 (.int .i64 0) 8 Tryz.underlying122 Tryz.info_i64 rfl .i64 .i64 n (by omega) (by omega) W
  have e1 : IntKind.u64.wrap (n : Int) = (n : Int) := wrap_u64_nat _ (by omega)
  have HM := Lib.hid (fun W => mul_any n W hn)
  have HRO := Lib.hid hro
  obtain ⟨k0, HK0⟩ : ∃ k0, Hid (k0 = min 1 n) := ⟨_, Lib.hid rfl⟩
  go_enter Tryz.func230, Tryz.ntmps230
  go_wp2_with fail
  refine (HM.out _).mono ?_
  rintro e w' ⟨rfl, rfl⟩
  have hown := own_madei w n
  have HO := Lib.hid hown
  clear hown hro
  go_wp2_with (with_reducible refine wpList_copy_splice rfl (.tmp 31) (.tmp 32) 122 122 rfl 3 Tryz.underlying122 Tryz.size_i64 _ _ _ _ _ _ rfl rfl w.heap.size 0 (i64s (List.replicate n 0)) 3 ?hg (i64s (List.replicate k0 x)) ?hn ?hp ?hf ?h1 w.heap.size w ?hb ?hg2 ?_)
  case hg => exact HO.out
  case hn => rw [i64s_length, List.length_replicate]; exact HK0.out
  case hp =>
    intro h0
    have h0 : 0 < k0 := by simpa using h0
    have e : k0 = 1 := by have := HK0.out; omega
    subst e
    first
      | exact ⟨rfl, ((HRO.out.below ((Below.refl _ _).alloc hB _) (Nat.le_refl _)).src (by simp))⟩
      | exact ((HRO.out.below ((Below.refl _ _).alloc hB _) (Nat.le_refl _)).src (by simp))
  case hf => rw [i64s_length, i64s_length, List.length_replicate, List.length_replicate]; have := HK0.out; omega
  case h1 => exact i64s_oneCell _
  case hb => exact (Below.refl _ _).alloc (Nat.le_refl _) _
  case hg2 => exact Nat.le_refl _
  intro w2 ho2 hb2
  have hs := rpt_step x n 0 k0 (by have := HK0.out; omega)
  rw [rpt_zero, Nat.zero_add] at hs
  rw [hs] at ho2
  have HO2 : Hid (Own w2 w.heap.size 3 (i64s (rpt x n k0))) := ho2
  have HB2 := Lib.hid hb2
  clear hs ho2 hb2
  go_wp2_with fail
  go_loopw [8] (fun i wr => ∃ k : Nat, k ≤ n ∧ i = .int .i64 (k : Int) ∧ Hid (min 1 n ≤ k) ∧ Hid (Own wr w.heap.size 3 (i64s (rpt x n k))) ∧ Hid (Below w.heap.size w wr)) (fun i _ => n - (Go.RowKit.intOf i).toNat)
  case atStart => exact ⟨k0, by have := HK0.out; omega, by simp, Lib.hid (by rw [HK0.out]; exact Nat.le_refl _), HO2, HB2⟩
  case round =>
    obtain ⟨k, hk, rfl, HK, HO3, HB3⟩ := hrel
    by_cases hlt : k < n
    · have hk1 : (k : Int) < (n : Int) := by omega
      have hk2 : (0 : Int) ≤ (k : Int) := by omega
      have hk3 : ¬ n = k := by omega
      obtain ⟨m, hm⟩ : ∃ m, m = Nat.min k (n - k) := ⟨_, rfl⟩
      have hm1 : m ≤ k := by rw [hm]; exact Nat.min_le_left _ _
      have hm2 : m ≤ n - k := by rw [hm]; exact Nat.min_le_right _ _
      have hm3 : 0 < m := by rw [hm]; have := HK.out; exact Nat.lt_min.2 ⟨by omega, by omega⟩
      have ho3 := HO3.out
      obtain ⟨W4, hrun, hown4, hb4⟩ : ∃ W4, (Builtin.copy_ #[122, 122] 3 #[.slice (some ⟨w.heap.size, k, none⟩) (n - k) (n - k), .slice (some ⟨w.heap.size, 0, none⟩) k n]).run Tryz.prog wr.drew = .ok (.int .i64 (m : Int)) W4 ∧ Own W4 w.heap.size 3 (i64s (rpt x n (k + m))) ∧ Below w.heap.size w W4 := by
        have h0 := run_copy_row (P := Tryz.prog) wr.drew 122 122 3 3 w.heap.size k (n - k) (n - k) ⟨w.heap.size, 0, none⟩ k n (i64s (rpt x n k)).toArray 3 (i64s (List.replicate m x)) Tryz.underlying122 Tryz.size_i64 ho3 (by simpa using hm) (fun j v hj => by
          have hj' := hj
          rw [add_off, Nat.zero_add]
          have hlt' : j < m := by
            have := (List.getElem?_eq_some_iff.1 hj).1
            simpa using this
          have e := ho3.cell j
          refine (show wr.drew.cell? _ = wr.cell? _ from rfl).trans (e.trans ?_)
          rw [← hj]
          unfold rpt i64s
          simp only [List.map_append, List.map_replicate]
          rw [List.getElem?_append_left (by simp; omega), List.getElem?_replicate, List.getElem?_replicate, if_pos (by omega), if_pos hlt']) (by simp [rpt_length x n k hk]; omega) (i64s_oneCell _)
        have hs := rpt_step x n k m (by omega)
        unfold splice at hs
        simp only [List.toList_toArray, List.append_assoc] at h0
        rw [hs] at h0
        refine ⟨_, by simpa [goInt] using h0, ?_, below_setRow HB3.out.drew (Nat.le_refl _) _⟩
        exact setRow_heap _ _ _ _ _ _ ho3
      have hsum : (k : Int) + (m : Int) = ((k + m : Nat) : Int) := by omega
      have HO4 := Lib.hid hown4
      have HB4 := Lib.hid hb4
      have HM4 := Lib.hid hm3
      clear hm ho3 hown4 hb4 hsum
      go_wp2_with fail
      go_region
      go_wp2_with fail
      go_roundw
      case rel => exact ⟨k + m, by omega, by go_num, Lib.hid (by have := HK.out; omega), HO4, HB4⟩
      case measure => simp [Go.RowKit.intOf]; omega
    · obtain rfl : k = n := by omega
      go_wp2_with fail
      go_ret
      refine ⟨rfl, ?_, HB3.out⟩
      have := HO3.out
      rwa [rpt_full] at this
theorem Own.lst {w : World} {g base : Nat} {e : TypeId} {xs : List Value} (h : Own w g e xs) (hb : base ≤ g) (n : Nat) (hn : xs.length = n) (hm : n ≤ maxLen) : Lst w base e (.slice (some ⟨g, 0, none⟩) n n) xs := by
  subst hn
  exact ⟨by simp, .inr ⟨g, xs.length, xs.toArray, rfl, hb, h, Nat.le_refl _, hm, by simp, by simp⟩⟩
def wid (n : Nat) : List Int := 12 :: List.replicate n 46
@[simp] theorem wid_length (n : Nat) : (wid n).length = n + 1 := by simp [wid]
set_option maxHeartbeats 1000000 in
theorem widths_any (n : Nat) (w : World) (hn : n ≤ 1000) :
    Calls Tryz.prog 197 #[.int .i64 (n : Int)] w fun e w' => ∃ a c, e = .returned (.slice a (n + 1) c) ∧ Ro w' w'.heap.size a (i64s (wid n)) ∧ Below w.heap.size w w' := by
  obtain ⟨W, hW⟩ : ∃ W, (w.alloc (.cells #[.int .i64 12] 3)).alloc (.cells #[.int .i64 46] 3) = W := ⟨_, rfl⟩
  have hWb : Below w.heap.size w W := by rw [← hW]; exact ((Below.refl _ _).alloc (Nat.le_refl _) _).alloc (by simp) _
  have o1 : Own W w.heap.size 3 (i64s [12]) := by rw [← hW]; exact (Own.new w _ _).alloc _
  have o2 : Own W (w.heap.size + 1) 3 (i64s [46]) := by
    rw [← hW]
    have := Own.new (w.alloc (.cells #[.int .i64 12] 3)) 3 (i64s [46])
    simp only [World.size_alloc] at this
    exact this
  have hz : W.heap.size = w.heap.size + 2 := by rw [← hW]; simp
  have HC := Lib.hid (repeat_any 46 n (some ⟨w.heap.size + 1, 0, none⟩) 1 (w.heap.size + 2) W (o2.ro _ (by omega)) (by omega) hn)
  have HO := Lib.hid o1
  have HW := Lib.hid hW
  have HWb := Lib.hid hWb
  have HZ := Lib.hid hz
  clear o1 o2 hW hWb hz
  go_enter Tryz.func197, Tryz.ntmps197
  go_wp2_with fail
  rw [HW.out]
  refine HC.out.mono ?_
  rintro e w2 ⟨rfl, ho, hb⟩
  have HB := Lib.hid hb
  have HO1 := Lib.hid (HO.out.below hb (by have := HZ.out; omega))
  have HO2 := Lib.hid ho
  clear hb ho
  have hlst := Lib.hid (HO1.out.lst (base := w.heap.size) (Nat.le_refl _) 1 rfl (by decide))
  have hbel := Lib.hid (HWb.out.trans (HB.out.mono HWb.out.size))
  go_wp2_with (at_builtin; refine wpList_appB rfl (.tmp 3) (.tmp 6) 122 rfl w.heap.size 3 (.int .i64 0) 8 Tryz.underlying122 Tryz.info_i64 rfl _ (i64s [12]) rfl hlst.out (some ⟨W.heap.size, 0, none⟩) w2.heap.size n n (i64s (List.replicate n 46)) rfl (by simp) (HO2.out.ro _ HO2.out.lt) (i64s_oneCell _) (by simp; omega) (by simp; omega) w.heap.size w hbel.out (Nat.le_refl _) hbel.out.size ?_)
  intro v' w3 hl hb3 hs3
  have HL := Lib.hid hl.out
  have HB3 := Lib.hid hb3
  clear hl hb3 hs3
  go_wp2_with fail
  go_ret
  obtain ⟨a, c, rfl, hro, _, _⟩ := HL.out.form
  exact ⟨a, c, by simp [i64s], hro, HB3.out⟩
end Go.Proofs.YtmpajlpemabniaaGreat
namespace Go.Proofs.YtmpajlpemabniaaGreat
open Go.RowKit Go.Deep
set_option linter.unusedVariables false
set_option linter.unusedSimpArgs false
/-! valid cells -/
theorem bbad_false {m : Int} {b : Bk} (h : bbad m b = false) : m ≤ b.1 ∧ b.1 < 16 ∧ lastOk b = true := by
  unfold bbad at h
  simp only [Bool.or_eq_false_iff, decide_eq_false_iff_not, Bool.not_eq_false'] at h
  exact ⟨by omega, by omega, h.2⟩
theorem backsOk_at {L : List Bk} (h : backsOk L = true) : ∀ i, i < L.length → 0 ≤ least L i ∧ least L i ≤ (bk L i).1 ∧ (bk L i).1 < 16 ∧ lastOk (bk L i) = true := by
  unfold backsOk at h
  rw [Bool.not_eq_true', anyN_false] at h
  intro i
  induction i with
  | zero => intro hi; exact ⟨by simp [least], bbad_false (h 0 hi)⟩
  | succ i ih =>
    intro hi
    have h1 := ih (by omega)
    refine ⟨?_, bbad_false (h (i + 1) hi)⟩
    simp only [least, Nat.add_sub_cancel, if_neg (Nat.succ_ne_zero i)]
    unfold wrap64
    omega
theorem right_data {x : Ce} (h : right x = true) (hk : x.k = 1) : x.d.length ≤ 100 ∧ x.b.length ≤ 4 ∧ backsOk x.b = true := by
  unfold right at h
  rw [hk] at h
  simp only [if_neg (show ¬ (1 : Int) = 2 by omega), if_true, Bool.and_eq_true, decide_eq_true_eq] at h
  exact ⟨h.1.1, h.1.2, h.2⟩
theorem right_junk {x : Ce} (h : right x = true) (hk : x.k = 2) : x = ⟨2, [], []⟩ := by
  unfold right at h
  rw [hk] at h
  simp only [if_true, decide_eq_true_eq] at h
  exact Ce.ext' hk (List.eq_nil_of_length_eq_zero h.1) (List.eq_nil_of_length_eq_zero h.2)
theorem right_kind {x : Ce} (h : right x = true) : x.k = 1 ∨ x.k = 2 := by
  unfold right at h
  by_cases h2 : x.k = 2
  · exact .inr h2
  · by_cases h1 : x.k = 1
    · exact .inl h1
    · rw [if_neg h2, if_neg h1] at h; cases h
/-! numbers of Backs -/
theorem fieldN_lt {b : Bk} (h0 : 0 ≤ b.1) (h1 : b.1 < 16) : fieldN b < 2 ^ 46 := by
  have m1 : min b.2.1 1048576 ≤ 1048576 := Nat.min_le_right _ _
  have m2 : min b.2.2 1048576 ≤ 1048576 := Nat.min_le_right _ _
  unfold fieldN
  omega
theorem back_field {b : Bk} (h0 : 0 ≤ b.1) (h1 : b.1 < 16) (hl : lastOk b = true) : backN (fieldN b) = b := by
  obtain ⟨s, p, q⟩ := b
  have hl := lastOk_iff.1 hl
  simp only at h0 h1 hl
  unfold backN fieldN lst
  simp only
  have hp : min p 1048576 = if p = 18446744073709551615 then 1048576 else p := by split <;> omega
  have hq : min q 1048576 = if q = 18446744073709551615 then 1048576 else q := by split <;> omega
  rw [hp, hq]
  refine Prod.ext ?_ (Prod.ext ?_ ?_)
  · simp only
    split <;> split <;> omega
  · simp only
    split <;> split <;> split <;> omega
  · simp only
    split <;> split <;> split <;> omega
/-! bytes of a cell -/
def vals (x : Ce) : List Nat := headN x.b.length x.d.length :: x.b.map fieldN
def IsEnc (x : Ce) (bs : List UInt8) : Prop := (x.k = 2 ∧ bs = [2]) ∨ (x.k = 1 ∧ ∃ cs, IsPack (wid x.b.length) (vals x) cs ∧ bs = cs ++ x.d)
theorem IsEnc.unique {x : Ce} {a b : List UInt8} (h1 : IsEnc x a) (h2 : IsEnc x b) : a = b := by
  rcases h1 with ⟨k1, rfl⟩ | ⟨k1, cs, hc, rfl⟩ <;> rcases h2 with ⟨k2, rfl⟩ | ⟨k2, ds, hd, rfl⟩
  · rfl
  · omega
  · omega
  · rw [hc.unique hd]
theorem wid_at (n i : Nat) (h : i < n + 1) : (wid n).getD i 0 = if i = 0 then 12 else 46 := by
  cases i with
  | zero => rfl
  | succ i =>
    have : i < n := by omega
    simp [wid, List.getD, this]
theorem wid_span (n : Nat) : (spanOf (wid n)).isSome := by
  unfold spanOf
  rw [if_pos]
  · rfl
  · rw [List.all_eq_true]
    intro x hx
    simp only [wid, List.mem_cons, List.mem_replicate] at hx
    rcases hx with rfl | ⟨_, rfl⟩ <;> decide
theorem nat_wid (n : Nat) : nat (wid n) = 12 :: List.replicate n 46 := by simp [nat, wid]
theorem wid_sum (n : Nat) : (nat (wid n)).sum = 12 + 46 * n := by rw [nat_wid]; simp [List.sum_replicate_nat]; omega
theorem vals_length (x : Ce) : (vals x).length = x.b.length + 1 := by simp [vals]
theorem headN_lt {nb nd : Nat} (h1 : nb < 8) (h2 : nd < 128) : headN nb nd < 2 ^ 12 := by unfold headN; omega
theorem vals_at (x : Ce) (i : Nat) (h : i < x.b.length) : (vals x).getD (i + 1) 0 = fieldN (bk x.b i) := by
  simp [vals, bk, List.getD, h]
theorem packOk_vals {x : Ce} (h : right x = true) (hk : x.k = 1) : PackOk (wid x.b.length) (vals x) := by
  obtain ⟨h1, h2, h3⟩ := right_data h hk
  refine ⟨wid_span _, by rw [wid_length, vals_length], fun i hi => ?_⟩
  rw [wid_length] at hi
  rw [wid_at _ _ hi]
  cases i with
  | zero => exact headN_lt (by omega) (by omega)
  | succ i =>
    have hb := backsOk_at h3 i (by omega)
    rw [vals_at x i (by omega), if_neg (by omega)]
    exact fieldN_lt (by omega) (by omega)
/-! a cell of bytes -/
def cntOf (bs : List UInt8) : Nat := num bs 0 12 / 128 % 8
def begOf (bs : List UInt8) : Nat := bs.length - num bs 0 12 % 128
def IsDec (bs : List UInt8) (x : Ce) : Prop := 2 ≤ bs.length ∧ num bs 0 12 / 1024 = 1 ∧ num bs 0 12 % 128 ≤ bs.length ∧ UnpOk (wid (cntOf bs)) (bs.take (begOf bs)) ∧
  x = ⟨1, bs.drop (begOf bs), ((unpL (wid (cntOf bs)) (bs.take (begOf bs)) (cntOf bs + 1)).drop 1).map backN⟩
theorem bit_take (bs : List UInt8) (k i : Nat) (h : i < 8 * k) : bit (bs.take k) i = bit bs i := by
  unfold bit
  have : (bs.take k).getD (i / 8) 0 = bs.getD (i / 8) 0 := by
    simp only [List.getD, List.getElem?_take]
    rw [if_pos (by omega)]
  rw [this]
theorem num_take (bs : List UInt8) (k a n : Nat) (h : a + n ≤ 8 * k) : num (bs.take k) a n = num bs a n := by
  induction n with
  | zero => rfl
  | succ n ih => simp only [num]; rw [ih (by omega), bit_take _ _ _ (by omega)]
theorem num_left (cs ds : List UInt8) (a n : Nat) (h : a + n ≤ 8 * cs.length) : num (cs ++ ds) a n = num cs a n := by
  have := num_take (cs ++ ds) cs.length a n h
  rw [List.take_left] at this
  exact this.symm
theorem unpL_getD (l : List Int) (bs : List UInt8) (n i : Nat) (h : i < n) : (unpL l bs n).getD i 0 = num bs ((nat l).take i).sum (l.getD i 0).toNat := by
  simp [unpL, List.getD, h]
theorem dec_of_enc {bs : List UInt8} {x : Ce} (h : IsEnc x bs) (hr : right x = true) (hk : x.k = 1) : IsDec bs x := by
  rcases h with ⟨h, _⟩ | ⟨_, cs, hc, rfl⟩
  · omega
  obtain ⟨r1, r2, r3⟩ := right_data hr hk
  have hlen := hc.1
  rw [wid_sum] at hlen
  have hpo := packOk_vals hr hk
  have hu := isUnp_of_pack hpo hc
  have h0 := hu.2 0 (by rw [wid_length]; omega)
  rw [wid_at _ _ (by omega)] at h0
  have h0 : headN x.b.length x.d.length = num cs 0 12 := h0
  have hnum : num (cs ++ x.d) 0 12 = headN x.b.length x.d.length := by rw [num_left _ _ _ _ (by omega), h0]
  have hcnt : cntOf (cs ++ x.d) = x.b.length := by unfold cntOf; rw [hnum]; unfold headN; omega
  have hsz : num (cs ++ x.d) 0 12 % 128 = x.d.length := by rw [hnum]; unfold headN; omega
  have hbeg : begOf (cs ++ x.d) = cs.length := by unfold begOf; rw [hsz, List.length_append]; omega
  have huo := unpOk_of (wid_span _) (by rw [wid_length, vals_length]) hc
  have hun : unpL (wid x.b.length) cs (x.b.length + 1) = vals x := by
    have := unpL_is (wid x.b.length) cs
    rw [wid_length] at this
    exact this.unique hu
  refine ⟨by rw [List.length_append]; omega, by rw [hnum]; unfold headN; omega, by rw [hsz, List.length_append]; omega, ?_, ?_⟩
  · rw [hcnt, hbeg, List.take_left]; exact huo
  · rw [hcnt, hbeg, List.take_left, List.drop_left, hun]
    refine Ce.ext' hk rfl ?_
    show x.b = ((vals x).drop 1).map backN
    show x.b = (x.b.map fieldN).map backN
    rw [List.map_map]
    apply List.ext_getElem (by simp)
    intro i g1 g2
    have hbk := backsOk_at r3 i g1
    have e : bk x.b i = x.b[i] := by simp [bk, List.getD, g1]
    rw [e] at hbk
    simp only [List.getElem_map, Function.comp]
    exact (back_field (by omega) (by omega) hbk.2.2.2).symm
theorem IsDec.unique {bs : List UInt8} {x y : Ce} (h1 : IsDec bs x) (h2 : IsDec bs y) : x = y := h1.2.2.2.2.trans h2.2.2.2.2.symm
theorem enc_length {x : Ce} {bs : List UInt8} (h : IsEnc x bs) (hr : right x = true) : (x.k = 2 ∧ bs.length = 1) ∨ (x.k = 1 ∧ bs.length = (12 + 46 * x.b.length + 7) / 8 + x.d.length ∧ bs.drop ((12 + 46 * x.b.length + 7) / 8) = x.d) := by
  rcases h with ⟨h, rfl⟩ | ⟨hk, cs, hc, rfl⟩
  · exact .inl ⟨h, rfl⟩
  · have hlen := hc.1
    rw [wid_sum] at hlen
    exact .inr ⟨hk, by rw [List.length_append]; omega, by rw [← hlen, List.drop_left]⟩
end Go.Proofs.YtmpajlpemabniaaGreat
