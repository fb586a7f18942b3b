/-
  Encode of package cell, by its contracts. No claim of its own.
-/
import Derived.Test.YtdblplkaobeimaaGc3
import Derived.Test.YtdblplkaobeimaaGc12
import Derived.Deep.MidRow
import Derived.Test.YtdblplkaobeimaaGc9
import Derived.Test.YtdblplkaobeimaaGc4
import Derived.Laws.Rows
import Derived.Test.YtdblplkaobeimaaGc8
namespace Go.Proofs.Ytdblplkaobeimaa
open Go.RowKit Go.Deep
set_option linter.unusedVariables false
set_option linter.unusedSimpArgs false

theorem Lst.cap_le {w : World} {base : Nat} {e : TypeId} {a : Option Addr} {n c : Nat} {xs : List Value} (h : Lst w base e (.slice a n c) xs) : c ≤ maxLen := by
  unfold Lst at h
  rcases h.2 with ⟨h1, _⟩ | ⟨g, cap, cur, h1, _, _, _, h2, _⟩
  · injection h1 with _ _ h3; subst h3; decide
  · injection h1 with _ _ h3; subst h3; exact h2
theorem vals_take (x : Ce) (k : Nat) (h : k < x.b.length) : (headN x.b.length x.d.length :: (x.b.take (k + 1)).map fieldN) = (headN x.b.length x.d.length :: (x.b.take k).map fieldN) ++ [fieldN (bk x.b k)] := by
  rw [bk_take h]; simp
end Go.Proofs.Ytdblplkaobeimaa
namespace Go.Proofs.Ytdblplkaobeimaa
open Go.RowKit Go.Deep Go.Shelf
set_option linter.unusedVariables false
set_option linter.unusedSimpArgs false

theorem Own.roq {w : World} {g b n : Nat} {T : TypeId} {vs cs : List Value} (h : Own w b 5 vs) (hg : Own w g T cs) (hT : T ≠ 5) : RoQ w g (some ⟨b, 0, none⟩) vs := by
  refine .inr ⟨b, 0, rfl, h.lt, fun e => ?_, h.quiT (by decide) (by decide), fun i hi => ?_⟩
  · subst e
    unfold Own at h hg
    rw [h] at hg
    injection hg with hg
    injection hg with _ hg _
    exact hT hg.symm
  · rw [Nat.zero_add, h.cell i]
    simp [List.getD, hi]
theorem Lst.roq {w : World} {base g n c : Nat} {a : Option Addr} {T : TypeId} {vs cs : List Value} (h : Lst w base 5 (.slice a n c) vs) (hg : Own w g T cs) (hT : T ≠ 5) : RoQ w g a vs := by
  obtain ⟨a', c', he, hr, _⟩ := h.form
  injection he with h1 _ _
  subst h1
  rcases hr with hr | ⟨b, off, h1, h2, h3⟩
  · exact .inl hr
  · rcases h.2 with ⟨hv, _⟩ | ⟨k, cap, cur, hv, _, hh, _⟩
    · injection hv with hv _ _
      rw [hv] at h1; cases h1
    · injection hv with hv _ _
      rw [hv] at h1
      injection h1 with h1
      injection h1 with h1 h1' _
      subst h1
      refine .inr ⟨k, off, by rw [hv, h1'], h2, fun e => ?_, fun cur' => ⟨fun e => ?_, fun e => ?_⟩, h3⟩
      · subst e
        unfold Own at hg
        rw [hh] at hg
        injection hg with hg
        injection hg with _ hg _
        exact hT hg.symm
      · rw [hh] at e
        injection e with e
        injection e with _ e _
        exact absurd e (by decide)
      · rw [hh] at e
        injection e with e
        injection e with _ e _
        exact absurd e (by decide)
theorem infoMg : (Try.prog.info? 40).map (·.size) = some 22 := by kernel_rfl
theorem Own.range {w : World} {b : Nat} {t : TypeId} {cs : List Value} (h : Own w b t cs) : w.rangeAt b 0 cs := fun j v hv => by
  rw [Nat.zero_add, h.cell j]; exact hv
/-- a message is loaded whole -/
theorem wpList_loadMg {ops : Array Oper} {rest : List Oper} {o : Oper} {a : Act} {w : World} {Q : Exit → Act → World → Prop} (hgd : o.guard = none) (x : Operand) (ho : o.op = .load 40 x) (b : Nat) (hx : a.eval x = .pointer (some ⟨b, 0, none⟩)) (A : MgT) (hr : Own w b 40 A.cs)
    (h : wpList Try.prog ops Q rest (a.put o.dst (.agg A.cs.toArray)) w) : wpList Try.prog ops Q (o :: rest) a w :=
  wpList_load_mid hgd _ x ho b 0 hx A.cs _ hr.range Try.underlying40 rfl infoMg h

end Go.Proofs.Ytdblplkaobeimaa
namespace Go.Proofs.Ytdblplkaobeimaa
open Go.RowKit Go.Deep Go.Shelf
set_option linter.unusedVariables false
set_option linter.unusedSimpArgs false

set_option maxHeartbeats 1000000 in
theorem fitsC_any (L : List ChT) (a : Option Addr) (c B : Nat) (w : World) (hro : Ro w B a (chv L)) (hB : B ≤ w.heap.size) (hl : L.length ≤ 9223372036854775807) :
    Calls Try.prog 50 #[.slice a L.length c] w fun e w' => (∃ t, e = .returned (.bool t)) ∧ Below w.heap.size w w' := by
  have HRO := Lib.hid hro
  have HS := Lib.hid hB
  generalize hN : L.length = n at *
  have HN := Lib.hid hN
  have hn1 : (n : Int) ≤ 9223372036854775807 := by omega
  clear hro hB hN
  go_enter Try.func50, Try.ntmps50
  go_wp2_with fail
  go_loopw [3] (fun i wr => ∃ k : Nat, k ≤ n ∧ k ≤ 10 ∧ i = .int .i64 (k : Int) ∧ Hid (Below w.heap.size w wr)) (fun i _ => n - (intOf i).toNat)
  case atStart => exact ⟨0, Nat.zero_le _, Nat.zero_le _, rfl, Lib.hid (Below.refl _ _)⟩
  case round =>
    obtain ⟨k, hk, hk10, rfl, HBk⟩ := hrel
    by_cases hlt : k < n
    · have hkL : k < L.length := by rw [HN.out]; exact hlt
      obtain ⟨b, off, rfl, hb, hc⟩ := (HRO.out.below HBk.out HS.out).ch (show 0 < L.length by omega)
      have e1 := hc k hkL
      clear hc
      have hk0 : (0 : Int) ≤ (k : Int) := by omega
      have hk1 : (k : Int) < (n : Int) := by omega
      have hk2 : (k : Int) ≤ 10 := by omega
      generalize (ct L k).a = x2 at *
      generalize (ct L k).u.length = x3 at *
      generalize (ct L k).c = x4 at *
      by_cases h10 : k = 10
      · subst h10
        go_wp2_with fail
        go_ret
        exact ⟨⟨_, rfl⟩, HBk.out⟩
      · have h10' : ((k : Int) == 10) = false := by rw [beq_eq_false_iff_ne]; omega
        have HK10 := Lib.hid h10
        by_cases h3 : 10 < x3
        · have h3' : decide ((10 : Int) < (x3 : Int)) = true := by simp; omega
          clear h10 h3
          go_wp2_with fail
          go_ret
          exact ⟨⟨_, rfl⟩, HBk.out⟩
        · have h3' : decide ((10 : Int) < (x3 : Int)) = false := by simp; omega
          clear h10 h3
          go_wp2_with fail
          go_roundw
          case rel => exact ⟨k + 1, by omega, by have := HK10.out; omega, by go_num, HBk⟩
          case measure => simp [intOf]; omega
    · obtain rfl : k = n := by omega
      go_wp2_with fail
      go_ret
      exact ⟨⟨_, rfl⟩, HBk.out⟩

set_option maxHeartbeats 1000000 in
theorem fitsL_any (A : LyT) (B : Nat) (w : World) (h : LyIn w B A) (hB : B ≤ w.heap.size) (hf : SgFit A.sg) :
    Calls Try.prog 30 #[A.val] w fun e w' => (∃ t, e = .returned (.bool t)) ∧ Below w.heap.size w w' := by
  obtain ⟨W, HWW⟩ : ∃ W, Hid (w.alloc (.cells #[.int .u64 (A.e : Int), .slice A.a A.sg.length A.c, .int .i64 A.q] 38) = W) := ⟨_, Lib.hid rfl⟩
  have hWb : Below w.heap.size w W := by rw [← HWW.out]; exact (Below.refl _ _).alloc (Nat.le_refl _) _
  have o1 : Own W w.heap.size 38 [.int .u64 (A.e : Int), .slice A.a A.sg.length A.c, .int .i64 A.q] := by rw [← HWW.out]; exact Own.new w _ _
  have HIN := Lib.hid h
  have HB := Lib.hid hWb
  have HO := Lib.hid o1
  have HS := Lib.hid hB
  have HF := Lib.hid hf
  have hfl := hf.1
  clear h hWb o1 hB hf
  obtain ⟨ep, sa, c, L, q⟩ := A
  simp only [LyT.val] at *
  generalize hN : L.length = n at *
  have HN := Lib.hid hN
  have hn1 : (n : Int) ≤ 9223372036854775807 := by omega
  clear hN
  go_enter Try.func30, Try.ntmps30
  go_upto_region 1 with fail
  rw [HWW.out]
  go_wp2_with fail
  go_loopw [3] (fun i wr => ∃ k : Nat, k ≤ n ∧ k ≤ 10 ∧ i = .int .i64 (k : Int) ∧ Hid (Below w.heap.size w wr) ∧ Hid (Own wr w.heap.size 38 [.int .u64 (ep : Int), .slice sa n c, .int .i64 q])) (fun i _ => n - (intOf i).toNat)
  case atStart => exact ⟨0, Nat.zero_le _, Nat.zero_le _, rfl, HB, HO⟩
  case round =>
    obtain ⟨k, hk, hk10, rfl, HBk, HOk⟩ := hrel
    have d1 := HOk.out.cell 1
    have hz := HOk.out.lt
    simp at d1
    by_cases hlt : k < n
    · have hkL : k < L.length := by rw [HN.out]; exact hlt
      obtain ⟨b, off, rfl, hb, hc⟩ := (HIN.out.1.below HBk.out HS.out).sg (show 0 < L.length by omega)
      obtain ⟨e1, e2⟩ := hc k hkL
      clear hc
      have hk0 : (0 : Int) ≤ (k : Int) := by omega
      have hk1 : (k : Int) < (n : Int) := by omega
      have hk2 : (k : Int) ≤ 10 := by omega
      have HC := Lib.hid (fitsC_any (st L k).ch (st L k).a (st L k).c B wr ((HIN.out.2 _ (st_mem hkL)).1.below HBk.out HS.out) (Nat.le_trans HS.out HBk.out.size) (HF.out.2 _ (st_mem hkL)).1)
      generalize (st L k).f = x1 at *
      generalize (st L k).a = x2 at *
      generalize (st L k).ch.length = x3 at *
      generalize (st L k).c = x4 at *
      go_wp2_with fail
      refine HC.out.mono ?_
      rintro e w1 ⟨⟨t, rfl⟩, hb1⟩
      have HB1 := Lib.hid (HBk.out.trans (hb1.mono HBk.out.size))
      have HO1 := Lib.hid (HOk.out.below hb1 HOk.out.lt)
      clear hb1
      cases t with
      | false =>
        go_wp2_with fail
        go_ret
        exact ⟨⟨_, rfl⟩, HB1.out⟩
      | true =>
        by_cases h10 : k = 10
        · subst h10
          go_wp2_with fail
          go_ret
          exact ⟨⟨_, rfl⟩, HB1.out⟩
        · have h10' : ((k : Int) == 10) = false := by rw [beq_eq_false_iff_ne]; omega
          have HK10 := Lib.hid h10
          clear h10
          go_wp2_with fail
          go_roundw
          case rel => exact ⟨k + 1, by omega, by have := HK10.out; omega, by go_num, HB1, HO1⟩
          case measure => simp [intOf]; omega
    · obtain rfl : k = n := by omega
      go_wp2_with fail
      go_ret
      exact ⟨⟨_, rfl⟩, HBk.out⟩

/-- what is asked of a layout, by value -/
abbrev folV (a1 : Option Addr) (n1 c1 : Nat) (a2 : Option Addr) (n2 c2 : Nat) (sq : Int) (f : Nat) (a3 : Option Addr) (n3 c3 : Nat) : Value := .agg #[.slice a1 n1 c1, .slice a2 n2 c2, .int .i64 sq, .int .u64 (f : Int), .slice a3 n3 c3]
end Go.Proofs.Ytdblplkaobeimaa
namespace Go.Proofs.Ytdblplkaobeimaa
open Go.RowKit Go.Deep Go.Shelf
set_option linter.unusedVariables false
set_option linter.unusedSimpArgs false

theorem own_setCells {g : Nat} {t : TypeId} : ∀ (vs pre old : List Value) (w : World), Own w g t (pre ++ old) → old.length = vs.length → Own (w.setCells g pre.length vs) g t (pre ++ vs)
  | [], pre, old, w, h, hl => by
    have : old = [] := List.eq_nil_of_length_eq_zero (by simpa using hl)
    subst this
    exact h
  | v :: vs, pre, [], w, h, hl => by simp at hl
  | v :: vs, pre, o :: old, w, h, hl => by
    rw [World.setCells]
    have h1 := h.set pre.length v
    have e : (pre ++ o :: old).set pre.length v = (pre ++ [v]) ++ old := by simp [List.set_append]
    rw [e] at h1
    have := own_setCells vs (pre ++ [v]) old _ h1 (by simpa using hl)
    simpa using this
theorem MgT.one (A : MgT) : ∀ v ∈ A.cs, v.oneCell' = true := by
  intro v hv
  simp only [MgT.cs, List.mem_cons, List.not_mem_nil, or_false] at hv
  rcases hv with rfl | rfl | rfl | rfl | rfl | rfl | rfl | rfl | rfl | rfl | rfl | rfl | rfl | rfl | rfl | rfl | rfl | rfl | rfl | rfl | rfl | rfl <;> rfl
/-- a message is stored whole -/
theorem wpList_storeMg {ops : Array Oper} {rest : List Oper} {o : Oper} {a : Act} {w : World} {Q : Exit → Act → World → Prop} (hgd : o.guard = none) (x y : Operand) (ho : o.op = .store 40 x y) (b : Nat) (hx : a.eval x = .pointer (some ⟨b, 0, none⟩)) (A : MgT) (hy : a.eval y = .agg A.cs.toArray) (old : List Value) (hr : Own w b 40 old) (hl : old.length = 22)
    (h : ∀ w', Own w' b 40 A.cs → Chg [b] w w' → wpList Try.prog ops Q rest (a.put o.dst undef) w') : wpList Try.prog ops Q (o :: rest) a w := by
  refine wpList_store_mid hgd _ x y ho b 0 A.cs.toArray hx hy (fun j hj => ?_) infoMg (all_oneCell_toArray A.one) (h _ ?_ ?_)
  · have hj' : j < 22 := hj
    rw [Nat.zero_add, hr.cell j]
    exact ⟨by simp [hl, hj'], hr.frozen j⟩
  · exact own_setCells A.cs [] old w hr (by rw [hl]; rfl)
  · exact (Chg.refl [b] w).setCells (.inl (by simp)) 0 _

/-- the answer to a message -/
def ansT (A : MgT) (e : Int) : MgT := ⟨14, A.to, A.fr, A.id, A.k, A.ep, A.ad, e, noC, none, 0, none, 0, [], none, 0, [], none, 0, (0, 0), (0, 0), ⟨0, none, 0, [], 0⟩⟩
def zmT : MgT := ⟨0, (0, 0), (0, 0), 0, 0, 0, 0, 0, noC, none, 0, none, 0, [], none, 0, [], none, 0, (0, 0), (0, 0), ⟨0, none, 0, [], 0⟩⟩
theorem ansT_in (w : World) (B : Nat) (A : MgT) (e : Int) : MgIn w B (ansT A e) := ⟨Ro.nil _ _ _, Ro.nil _ _ _, Ro.nil _ _ _, Ro.nil _ _ _, Ro.nil _ _ _, fun s hs => by cases hs⟩
theorem ansT_fit (A : MgT) (e : Int) : MgFit (ansT A e) := ⟨by simp [ansT, noC], by simp [ansT, noC], by simp [ansT], by simp [ansT], ⟨by simp [ansT], (fun s hs => by cases hs)⟩, (fun s hs => by cases hs), (fun s hs => by cases hs)⟩
set_option maxHeartbeats 4000000 in
set_option maxRecDepth 100000 in
theorem answer_any (A : MgT) (e : Int) (w : World) :
    Calls Try.prog 42 #[.agg A.cs.toArray, .int .i64 e] w fun z w' => z = .returned (.agg (ansT A e).cs.toArray) ∧ Below w.heap.size w w' := by
  obtain ⟨W, HWW⟩ : ∃ W, Hid ((w.alloc (.cells A.cs.toArray 40)).alloc (.cells #[.int .i64 0, .int .i64 0, .int .i64 0, .int .i64 0, .int .i64 0, .int .i64 0, .int .i64 0, .int .u64 0, .int .u64 0, .int .i64 0, .int .i64 0, .slice none 0 0, .slice none 0 0, .slice none 0 0, .slice none 0 0, .int .i64 0, .int .i64 0, .int .i64 0, .int .i64 0, .int .u64 0, .slice none 0 0, .int .i64 0] 40) = W) := ⟨_, Lib.hid rfl⟩
  have hWc : Chg [] w W := by rw [← HWW.out]; exact ((Chg.refl [] w).alloc _).alloc _
  have HO1 : Hid (Own W w.heap.size 40 A.cs) := Lib.hid (by rw [← HWW.out]; exact (Own.new w _ _).alloc _)
  have HO2 : Hid (Own W (w.heap.size + 1) 40 zmT.cs) := Lib.hid (by
    rw [← HWW.out]
    have := Own.new (w.alloc (.cells A.cs.toArray 40)) 40 zmT.cs
    rw [World.size_alloc] at this
    exact this)
  have HB := Lib.hid hWc
  have c0 := HO1.out.cell 0
  have c1 := HO1.out.cell 1
  have c2 := HO1.out.cell 2
  have c3 := HO1.out.cell 3
  have c4 := HO1.out.cell 4
  have c5 := HO1.out.cell 5
  have c7 := HO1.out.cell 7
  have c8 := HO1.out.cell 8
  have hz := HO1.out.lt
  simp [MgT.cs] at c0 c1 c2 c3 c4 c5 c7 c8
  clear hWc
  go_enter Try.func42, Try.ntmps42
  go_upto_region 1 with fail
  rw [HWW.out]
  go_wp2_with (refine wpList_storeMg rfl (.tmp 4) (.tmp 18) rfl (w.heap.size + 1) rfl (ansT A e) rfl zmT.cs HO2.out rfl ?_)
  intro w1 ho hc
  have HO3 := Lib.hid ho
  have HB1 : Hid (Below w.heap.size w w1) := Lib.hid ((HB.out.then hc (fun x hx => by simp only [List.mem_singleton] at hx; subst hx; exact .inr (Nat.le_succ _))).low)
  clear ho hc c0 c1 c2 c3 c4 c5 c7 c8
  go_wp2_with fail
  refine bodyPost_ret (results_cell_row Try.results42 _ _ (w.heap.size + 1) 40 _ (0, 0) _ rfl HO3.out Try.underlying40 rfl (by kernel_rfl)) rfl ?_
  exact ⟨rfl, HB1.out⟩
/-- some Bool is answered -/
def RB (e : Ending) : Prop := ∃ t, e = .returned (.bool t)
theorem fitsC10_any (k : Int) (a : Option Addr) (n c : Nat) (a2 : Option Addr) (n2 c2 : Nat) (w : World) :
    Calls Try.prog 29 #[cev k a n c a2 n2 c2] w fun e w' => RB e ∧ Below w.heap.size w w' := by
  by_cases h : n ≤ 400
  · go_enter Try.func29, Try.ntmps29
    go_wp2_with fail
    go_ret
    exact ⟨⟨_, rfl⟩, (Below.refl _ _).alloc (Nat.le_refl _) _⟩
  · go_enter Try.func29, Try.ntmps29
    go_wp2_with fail
    go_ret
    exact ⟨⟨_, rfl⟩, (Below.refl _ _).alloc (Nat.le_refl _) _⟩
set_option maxHeartbeats 4000000 in
theorem fits10_any (A : MgT) (B : Nat) (w : World) (h : MgIn w B A) (hB : B ≤ w.heap.size) (hf : MgFit A) :
    Calls Try.prog 13 #[.agg A.cs.toArray] w fun e w' => RB e ∧ Below w.heap.size w w' := by
  obtain ⟨W, HWW⟩ : ∃ W, Hid (w.alloc (.cells A.cs.toArray 40) = W) := ⟨_, Lib.hid rfl⟩
  have hWb : Below w.heap.size w W := by rw [← HWW.out]; exact (Below.refl _ _).alloc (Nat.le_refl _) _
  have HO := Lib.hid (show Own W w.heap.size 40 A.cs by rw [← HWW.out]; exact Own.new w _ _)
  have HB := Lib.hid hWb
  have HF := Lib.hid (fun (W' : World) (hb : Below w.heap.size w W') => fitsL_any A.ly B W' ((h.below hb hB).ly) (Nat.le_trans hB hb.size) hf.ly)
  simp only [LyT.val] at HF
  have c0 := HO.out.cell 10
  have c1 := HO.out.cell 11
  have c2 := HO.out.cell 12
  have hz := HO.out.lt
  simp [MgT.cs] at c0 c1 c2
  clear hWb h hB hf
  go_enter Try.func13, Try.ntmps13
  go_upto_region 1 with fail
  rw [HWW.out]
  go_wp2_with fail
  refine (fitsC10_any A.c.k A.ca A.c.d.length A.cc A.ca2 A.c.b.length A.cc2 W).mono ?_
  rintro e w1 ⟨⟨t1, rfl⟩, hb⟩
  have HB1 := Lib.hid (HB.out.trans (hb.mono HB.out.size))
  have HO1 := Lib.hid (HO.out.below hb HO.out.lt)
  clear hb c0 c1 c2 hz
  have c0 := HO1.out.cell 19
  have c1 := HO1.out.cell 20
  have c2 := HO1.out.cell 21
  have hz := HO1.out.lt
  simp [MgT.cs] at c0 c1 c2
  go_wp2_with fail
  refine (HF.out w1 HB1.out).mono ?_
  rintro e w2 ⟨⟨t2, rfl⟩, hb⟩
  have HB2 := Lib.hid (HB1.out.trans (hb.mono HB1.out.size))
  have HO2 := Lib.hid (HO1.out.below hb HO1.out.lt)
  clear hb c0 c1 c2 hz
  have c0 := HO2.out.cell 13
  have c1 := HO2.out.cell 14
  have hz := HO2.out.lt
  simp [MgT.cs] at c0 c1
  generalize A.st.length = sn at *
  generalize A.bk.length = kn at *
  cases t1 with
  | false =>
    go_wp2_with fail
    go_ret
    exact ⟨⟨_, rfl⟩, HB2.out⟩
  | true =>
  cases t2 with
  | false =>
    go_wp2_with fail
    go_ret
    exact ⟨⟨_, rfl⟩, HB2.out⟩
  | true =>
  by_cases hs : sn ≤ 30
  · go_wp2_with fail
    go_ret
    exact ⟨⟨_, rfl⟩, HB2.out⟩
  · go_wp2_with fail
    go_ret
    exact ⟨⟨_, rfl⟩, HB2.out⟩
end Go.Proofs.Ytdblplkaobeimaa
namespace Go.Proofs.Ytdblplkaobeimaa
open Go.RowKit Go.Deep Go.Shelf
set_option linter.unusedVariables false
set_option linter.unusedSimpArgs false

/-- a sequencer lies in block p -/
def Sqn (w : World) (p : Nat) (S : SqS) : Prop := Own w p 61 S.cs
theorem Sqn.own {w : World} {p : Nat} {S : SqS} (h : Sqn w p S) : Own w p 61 ([.int .i64 S.n, .int .u64 (S.e : Int), .int .u64 (S.t : Int)] ++ lcs S.L) := h
theorem Sqn.lt {w : World} {p : Nat} {S : SqS} (h : Sqn w p S) : p < w.heap.size := Own.lt h
theorem Sqn.below {w w' : World} {p B : Nat} {S : SqS} (h : Sqn w p S) (hb : Below B w w') (hg : p < B) : Sqn w' p S := Own.below h hb hg
theorem Sqn.chg {w w' : World} {p : Nat} {S : SqS} {l : List Nat} (h : Sqn w p S) (hc : Chg l w w') (hg : p ∉ l) : Sqn w' p S := Own.chg h hc hg
theorem Sqn.c0 {w : World} {p : Nat} {S : SqS} (h : Sqn w p S) : w.cell? ⟨p, 0, none⟩ = some (.int .i64 S.n) := Own.cell h 0
theorem Sqn.c1 {w : World} {p : Nat} {S : SqS} (h : Sqn w p S) : w.cell? ⟨p, 1, none⟩ = some (.int .u64 (S.e : Int)) := Own.cell h 1
theorem Sqn.c2 {w : World} {p : Nat} {S : SqS} (h : Sqn w p S) : w.cell? ⟨p, 2, none⟩ = some (.int .u64 (S.t : Int)) := Own.cell h 2
/-- is a message of its epoch, in which it has begun? -/
def SqS.now (S : SqS) (ep : Nat) : Bool := decide (ep = S.e) && decide (ep ≠ 0)

set_option maxHeartbeats 1000000 in
set_option maxRecDepth 100000 in
theorem isNow_any (S : SqS) (p : Nat) (A : MgT) (w : World) (ho : Sqn w p S) :
    Calls Try.prog 43 #[.pointer (some ⟨p, 0, none⟩), .agg A.cs.toArray] w fun e w' => e = .returned (.bool (S.now A.ep)) ∧ Below w.heap.size w w' := by
  obtain ⟨W, HWW⟩ : ∃ W, Hid (w.alloc (.cells A.cs.toArray 40) = W) := ⟨_, Lib.hid rfl⟩
  have hWb : Below w.heap.size w W := by rw [← HWW.out]; exact (Below.refl _ _).alloc (Nat.le_refl _) _
  have o1 : Own W w.heap.size 40 A.cs := by rw [← HWW.out]; exact Own.new w _ _
  have m7 := o1.cell 7
  have s1 := (ho.below hWb ho.lt).c1
  have hz := o1.lt
  have hp := Nat.lt_of_lt_of_le ho.lt hWb.size
  simp [MgT.cs] at m7
  have HB := Lib.hid hWb
  obtain ⟨t, ht⟩ : ∃ t, S.now A.ep = t := ⟨_, rfl⟩
  rw [ht]
  unfold SqS.now at ht
  generalize A.ep = x at *
  generalize S.e = y at *
  clear hWb o1 ho
  rcases Decidable.em (x = y) with h1 | h1
  · rcases Decidable.em (x = 0) with h2 | h2
    · obtain rfl : false = t := by rw [← ht]; simp [h2]
      clear ht
      have e1 : ((x : Int) == (y : Int)) = true := by rw [beq_iff_eq]; omega
      have e2 : ((x : Int) != 0) = false := by rw [bne_eq_false_iff_eq]; omega
      clear h1 h2
      go_enter Try.func43, Try.ntmps43
      go_upto_region 1 with fail
      rw [HWW.out]
      go_region
      go_wp2_with fail
      go_ret
      exact ⟨rfl, HB.out.drew⟩
    · obtain rfl : true = t := by rw [← ht]; simp [h1]; omega
      clear ht
      have e1 : ((x : Int) == (y : Int)) = true := by rw [beq_iff_eq]; omega
      have e2 : ((x : Int) != 0) = true := by rw [bne_iff_ne]; omega
      clear h1 h2
      go_enter Try.func43, Try.ntmps43
      go_upto_region 1 with fail
      rw [HWW.out]
      go_region
      go_wp2_with fail
      go_ret
      exact ⟨rfl, HB.out.drew⟩
  · obtain rfl : false = t := by rw [← ht]; simp [h1]
    clear ht
    have e1 : ((x : Int) == (y : Int)) = false := by rw [beq_eq_false_iff_ne]; omega
    clear h1
    go_enter Try.func43, Try.ntmps43
    go_upto_region 1 with fail
    rw [HWW.out]
    go_region
    go_wp2_with fail
    go_ret
    exact ⟨rfl, HB.out.drew⟩

theorem zm_new (w : World) : Own (w.alloc (.cells #[.int .i64 0, .int .i64 0, .int .i64 0, .int .i64 0, .int .i64 0, .int .i64 0, .int .i64 0, .int .u64 0, .int .u64 0, .int .i64 0, .int .i64 0, .slice none 0 0, .slice none 0 0, .slice none 0 0, .slice none 0 0, .int .i64 0, .int .i64 0, .int .i64 0, .int .i64 0, .int .u64 0, .slice none 0 0, .int .i64 0] 40)) w.heap.size 40 zmT.cs := Own.new w 40 zmT.cs
/-- the head of a method that has a message and a place for its answer -/
theorem two_new (A : MgT) (w : World) : ∃ W, Hid ((w.alloc (.cells A.cs.toArray 40)).alloc (.cells #[.int .i64 0, .int .i64 0, .int .i64 0, .int .i64 0, .int .i64 0, .int .i64 0, .int .i64 0, .int .u64 0, .int .u64 0, .int .i64 0, .int .i64 0, .slice none 0 0, .slice none 0 0, .slice none 0 0, .slice none 0 0, .int .i64 0, .int .i64 0, .int .i64 0, .int .i64 0, .int .u64 0, .slice none 0 0, .int .i64 0] 40) = W) ∧ Hid (Own W w.heap.size 40 A.cs) ∧ Hid (Own W (w.heap.size + 1) 40 zmT.cs) ∧ Hid (Chg [] w W) := by
  refine ⟨_, Lib.hid rfl, Lib.hid ((Own.new w _ _).alloc _), Lib.hid ?_, Lib.hid (((Chg.refl [] w).alloc _).alloc _)⟩
  have := zm_new (w.alloc (.cells A.cs.toArray 40))
  rw [World.size_alloc] at this
  exact this
/-- the answer to what is of a wrong epoch -/
def refT (S : SqS) (A : MgT) : MgT := { ansT A 84 with ep := S.e }
set_option maxHeartbeats 4000000 in
set_option maxRecDepth 100000 in
theorem refuse_any (S : SqS) (p : Nat) (A : MgT) (w : World) (ho : Sqn w p S) :
    Calls Try.prog 40 #[.pointer (some ⟨p, 0, none⟩), .agg A.cs.toArray] w fun e w' => e = .returned (.agg (refT S A).cs.toArray) ∧ Below w.heap.size w w' := by
  obtain ⟨W, HWW, HO1, HO2, HC⟩ := two_new A w
  have HS := Lib.hid (ho.chg HC.out (by simp))
  have HAN := Lib.hid (fun (V : World) => answer_any A 84 V)
  clear ho
  go_enter Try.func40, Try.ntmps40
  go_upto_region 1 with fail
  rw [HWW.out]
  go_wp2_with (refine wpList_loadMg rfl (.tmp 3) rfl w.heap.size rfl A HO1.out ?_)
  refine (HAN.out W).mono ?_
  rintro e w1 ⟨rfl, hb⟩
  have HC1 := Lib.hid (HC.out.of_below hb)
  have HO21 := Lib.hid (HO2.out.below hb HO2.out.lt)
  have HS1 := Lib.hid (HS.out.below hb HS.out.lt)
  have HZ1 := Lib.hid (zm_new w1)
  clear hb
  go_wp2_with (refine wpList_storeMg rfl (.tmp 5) (.tmp 7) rfl w1.heap.size rfl (ansT A 84) rfl zmT.cs HZ1.out rfl ?_)
  intro w2 ho hc
  have hc2 : Chg [] w1 w2 := ((Chg.refl [] w1).alloc _).then hc (fun x hx => by simp only [List.mem_singleton] at hx; subst hx; exact .inr (Nat.le_refl _))
  have HC2 := Lib.hid (HC1.out.trans hc2)
  have HO22 := Lib.hid (HO21.out.chg hc2 (by simp))
  have s1 := (HS1.out.chg hc2 (by simp)).c1
  have hps := (HS1.out.chg hc2 (by simp)).lt
  obtain ⟨g, hg⟩ : ∃ g, w1.heap.size = g := ⟨_, rfl⟩
  have HGN : Hid (w.heap.size + 1 < g) := Lib.hid (by rw [← hg]; exact HO21.out.lt)
  rw [hg] at ho ⊢
  have HO3 := Lib.hid ho
  have a7 := ho.cell 7
  have f7 := ho.frozen 7
  have hgl := ho.lt
  simp [MgT.cs] at a7
  clear ho hc hc2 hg
  have HO4 := Lib.hid (HO22.out.far (p := ⟨g, 7, none⟩) (by have := HGN.out; show w.heap.size + 1 ≠ g; omega) (.int .u64 (S.e : Int)))
  have HC4 := Lib.hid (HC2.out.setCell (p := ⟨g, 7, none⟩) (.inr (by have := HGN.out; show w.heap.size ≤ g; omega)) (.int .u64 (S.e : Int)))
  go_wp2_with (first | refine wpList_loadMg rfl (.tmp 5) rfl g rfl (refT S A) (HO3.out.set 7 (.int .u64 (S.e : Int))) ?_ | refine wpList_storeMg rfl (.tmp 4) (.tmp 13) rfl (w.heap.size + 1) rfl (refT S A) rfl zmT.cs HO4.out rfl ?_)
  intro w5 ho hc
  go_wp2_with fail
  refine bodyPost_ret (results_cell_row Try.results40 _ _ (w.heap.size + 1) 40 _ (0, 0) _ rfl ho Try.underlying40 rfl (by kernel_rfl)) rfl ?_
  exact ⟨rfl, (HC4.out.then hc (fun x hx => by simp only [List.mem_singleton] at hx; subst hx; exact .inr (Nat.le_succ _))).low⟩
end Go.Proofs.Ytdblplkaobeimaa
namespace Go.Proofs.Ytdblplkaobeimaa
open Go.RowKit Go.Deep Go.Shelf
set_option linter.unusedVariables false
set_option linter.unusedSimpArgs false

/-- the answer to a Tail -/
def endT (S : SqS) (A : MgT) : MgT := if S.now A.ep then { ansT A 0 with ad := S.t } else refT S A
set_option maxHeartbeats 4000000 in
set_option maxRecDepth 100000 in
theorem end_any (S : SqS) (p : Nat) (A : MgT) (w : World) (ho : Sqn w p S) :
    Calls Try.prog 25 #[.pointer (some ⟨p, 0, none⟩), .agg A.cs.toArray] w fun e w' => e = .returned (.agg (endT S A).cs.toArray) ∧ Below w.heap.size w w' := by
  obtain ⟨W, HWW, HO1, HO2, HC⟩ := two_new A w
  have HS := Lib.hid (ho.chg HC.out (by simp))
  have HAN := Lib.hid (fun (V : World) => answer_any A 0 V)
  have HNW := Lib.hid (fun (V : World) (h : Sqn V p S) => isNow_any S p A V h)
  have HRF := Lib.hid (fun (V : World) (h : Sqn V p S) => refuse_any S p A V h)
  unfold endT
  obtain ⟨t, ht⟩ : ∃ t, S.now A.ep = t := ⟨_, rfl⟩
  rw [ht] at HNW ⊢
  clear ho ht
  go_enter Try.func25, Try.ntmps25
  go_upto_region 1 with fail
  rw [HWW.out]
  go_wp2_with (refine wpList_loadMg rfl (.tmp 3) rfl w.heap.size rfl A HO1.out ?_)
  refine (HNW.out W HS.out).mono ?_
  rintro e w1 ⟨rfl, hb⟩
  have HC1 := Lib.hid (HC.out.of_below hb)
  have HO11 := Lib.hid (HO1.out.below hb HO1.out.lt)
  have HO21 := Lib.hid (HO2.out.below hb HO2.out.lt)
  have HS1 := Lib.hid (HS.out.below hb HS.out.lt)
  clear hb
  cases t with
  | false =>
    simp only [Bool.false_eq_true, if_false]
    go_wp2_with (refine wpList_loadMg rfl (.tmp 3) rfl w.heap.size rfl A HO11.out ?_)
    refine (HRF.out w1 HS1.out).mono ?_
    rintro e w2 ⟨rfl, hb⟩
    have HC2 := Lib.hid (HC1.out.of_below hb)
    have HO22 := Lib.hid (HO21.out.below hb HO21.out.lt)
    clear hb
    go_wp2_with (refine wpList_storeMg rfl (.tmp 4) (.tmp 12) rfl (w.heap.size + 1) rfl (refT S A) rfl zmT.cs HO22.out rfl ?_)
    intro w5 ho hc
    go_wp2_with fail
    refine bodyPost_ret (results_cell_row Try.results25 _ _ (w.heap.size + 1) 40 _ (0, 0) _ rfl ho Try.underlying40 rfl (by kernel_rfl)) rfl ?_
    exact ⟨rfl, (HC2.out.then hc (fun x hx => by simp only [List.mem_singleton] at hx; subst hx; exact .inr (Nat.le_succ _))).low⟩
  | true =>
  simp only [if_true]
  go_wp2_with (refine wpList_loadMg rfl (.tmp 3) rfl w.heap.size rfl A HO11.out ?_)
  refine (HAN.out w1).mono ?_
  rintro e w1' ⟨rfl, hb⟩
  have HC1' := Lib.hid (HC1.out.of_below hb)
  have HO21' := Lib.hid (HO21.out.below hb HO21.out.lt)
  have HS1' := Lib.hid (HS1.out.below hb HS1.out.lt)
  have HZ1 := Lib.hid (zm_new w1')
  clear hb
  go_wp2_with (refine wpList_storeMg rfl (.tmp 5) (.tmp 14) rfl w1'.heap.size rfl (ansT A 0) rfl zmT.cs HZ1.out rfl ?_)
  intro w2 ho hc
  have hc2 : Chg [] w1' w2 := ((Chg.refl [] w1').alloc _).then hc (fun x hx => by simp only [List.mem_singleton] at hx; subst hx; exact .inr (Nat.le_refl _))
  have HC2 := Lib.hid (HC1'.out.trans hc2)
  have HO22 := Lib.hid (HO21'.out.chg hc2 (by simp))
  have s2 := (HS1'.out.chg hc2 (by simp)).c2
  have hps := (HS1'.out.chg hc2 (by simp)).lt
  obtain ⟨g, hg⟩ : ∃ g, w1'.heap.size = g := ⟨_, rfl⟩
  have HGN : Hid (w.heap.size + 1 < g) := Lib.hid (by rw [← hg]; exact HO21'.out.lt)
  rw [hg] at ho ⊢
  have HO3 := Lib.hid ho
  have a7 := ho.cell 8
  have f7 := ho.frozen 8
  have hgl := ho.lt
  simp [MgT.cs] at a7
  clear ho hc hc2 hg
  have HO4 := Lib.hid (HO22.out.far (p := ⟨g, 8, none⟩) (by have := HGN.out; show w.heap.size + 1 ≠ g; omega) (.int .u64 (S.t : Int)))
  have HC4 := Lib.hid (HC2.out.setCell (p := ⟨g, 8, none⟩) (.inr (by have := HGN.out; show w.heap.size ≤ g; omega)) (.int .u64 (S.t : Int)))
  go_wp2_with (first | refine wpList_loadMg rfl (.tmp 5) rfl g rfl { ansT A 0 with ad := S.t } (HO3.out.set 8 (.int .u64 (S.t : Int))) ?_ | refine wpList_storeMg rfl (.tmp 4) (.tmp 20) rfl (w.heap.size + 1) rfl { ansT A 0 with ad := S.t } rfl zmT.cs HO4.out rfl ?_)
  intro w5 ho hc
  go_wp2_with fail
  refine bodyPost_ret (results_cell_row Try.results25 _ _ (w.heap.size + 1) 40 _ (0, 0) _ rfl ho Try.underlying40 rfl (by kernel_rfl)) rfl ?_
  exact ⟨rfl, (HC4.out.then hc (fun x hx => by simp only [List.mem_singleton] at hx; subst hx; exact .inr (Nat.le_succ _))).low⟩
end Go.Proofs.Ytdblplkaobeimaa
