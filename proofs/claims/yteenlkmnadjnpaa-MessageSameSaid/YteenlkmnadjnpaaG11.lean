/-
  What the laws of package message use: messages stored, Answer, Fits, the live question. No claim of its own.
-/
import Derived.Test.YteenlkmnadjnpaaG10
import Derived.Test.YteenlkmnadjnpaaG3
import Derived.Test.YteenlkmnadjnpaaG5
import Derived.Laws.Rows
import Derived.Test.YteenlkmnadjnpaaG7
import Derived.Deep.RegionHeld3
import Derived.Test.YteenlkmnadjnpaaG6
import Derived.Laws.StructEq
namespace Go.Proofs.Yteenlkmnadjnpaa
open Go.RowKit Go.Deep Go.Shelf
set_option linter.unusedVariables false
set_option linter.unusedSimpArgs false

theorem own_setCells {g : Nat} {t : TypeId} : ∀ (vs pre old : List Value) (w : World), Own w g t (pre ++ old) → old.length = vs.length → Own (w.setCells g pre.length vs) g t (pre ++ vs)
  | [], pre, old, w, h, hl => by
    have : old = [] := List.eq_nil_of_length_eq_zero (by simpa using hl)
    subst this
    exact h
  | v :: vs, pre, [], w, h, hl => by simp at hl
  | v :: vs, pre, o :: old, w, h, hl => by
    rw [World.setCells]
    have h1 := h.set pre.length v
    have e : (pre ++ o :: old).set pre.length v = (pre ++ [v]) ++ old := by simp [List.set_append]
    rw [e] at h1
    have := own_setCells vs (pre ++ [v]) old _ h1 (by simpa using hl)
    simpa using this
theorem MgT.one (A : MgT) : ∀ v ∈ A.cs, v.oneCell' = true := by
  intro v hv
  simp only [MgT.cs, List.mem_cons, List.not_mem_nil, or_false] at hv
  rcases hv with rfl | rfl | rfl | rfl | rfl | rfl | rfl | rfl | rfl | rfl | rfl | rfl | rfl | rfl | rfl | rfl | rfl | rfl | rfl | rfl | rfl | rfl <;> rfl
/-- a message is stored whole -/
theorem wpList_storeMg {ops : Array Oper} {rest : List Oper} {o : Oper} {a : Act} {w : World} {Q : Exit → Act → World → Prop} (hgd : o.guard = none) (x y : Operand) (ho : o.op = .store 58 x y) (b : Nat) (hx : a.eval x = .pointer (some ⟨b, 0, none⟩)) (A : MgT) (hy : a.eval y = .agg A.cs.toArray) (old : List Value) (hr : Own w b 58 old) (hl : old.length = 22)
    (h : ∀ w', Own w' b 58 A.cs → Chg [b] w w' → wpList Try.prog ops Q rest (a.put o.dst undef) w') : wpList Try.prog ops Q (o :: rest) a w := by
  refine wpList_store_mid hgd _ x y ho b 0 A.cs.toArray hx hy (fun j hj => ?_) infoMg (all_oneCell_toArray A.one) (h _ ?_ ?_)
  · have hj' : j < 22 := hj
    rw [Nat.zero_add, hr.cell j]
    exact ⟨by simp [hl, hj'], hr.frozen j⟩
  · exact own_setCells A.cs [] old w hr (by rw [hl]; rfl)
  · exact (Chg.refl [b] w).setCells (.inl (by simp)) 0 _

/-- the answer to a message -/
def ansT (A : MgT) (e : Int) : MgT := ⟨14, A.to, A.fr, A.id, A.k, A.ep, A.ad, e, noC, none, 0, none, 0, [], none, 0, [], none, 0, (0, 0), (0, 0), ⟨0, none, 0, [], 0⟩⟩
def zmT : MgT := ⟨0, (0, 0), (0, 0), 0, 0, 0, 0, 0, noC, none, 0, none, 0, [], none, 0, [], none, 0, (0, 0), (0, 0), ⟨0, none, 0, [], 0⟩⟩
theorem ansT_in (w : World) (B : Nat) (A : MgT) (e : Int) : MgIn w B (ansT A e) := ⟨Ro.nil _ _ _, Ro.nil _ _ _, Ro.nil _ _ _, Ro.nil _ _ _, Ro.nil _ _ _, fun s hs => by cases hs⟩
theorem ansT_fit (A : MgT) (e : Int) : MgFit (ansT A e) := ⟨by simp [ansT, noC], by simp [ansT, noC], by simp [ansT], by simp [ansT], ⟨by simp [ansT], (fun s hs => by cases hs)⟩, (fun s hs => by cases hs), (fun s hs => by cases hs)⟩
set_option maxHeartbeats 4000000 in
set_option maxRecDepth 100000 in
theorem answer_any (A : MgT) (e : Int) (w : World) :
    Calls Try.prog 53 #[.agg A.cs.toArray, .int .i64 e] w fun z w' => z = .returned (.agg (ansT A e).cs.toArray) ∧ Below w.heap.size w w' := by
  obtain ⟨W, HWW⟩ : ∃ W, Hid ((w.alloc (.cells A.cs.toArray 58)).alloc (.cells #[.int .i64 0, .int .i64 0, .int .i64 0, .int .i64 0, .int .i64 0, .int .i64 0, .int .i64 0, .int .u64 0, .int .u64 0, .int .i64 0, .int .i64 0, .slice none 0 0, .slice none 0 0, .slice none 0 0, .slice none 0 0, .int .i64 0, .int .i64 0, .int .i64 0, .int .i64 0, .int .u64 0, .slice none 0 0, .int .i64 0] 58) = W) := ⟨_, Lib.hid rfl⟩
  have hWc : Chg [] w W := by rw [← HWW.out]; exact ((Chg.refl [] w).alloc _).alloc _
  have HO1 : Hid (Own W w.heap.size 58 A.cs) := Lib.hid (by rw [← HWW.out]; exact (Own.new w _ _).alloc _)
  have HO2 : Hid (Own W (w.heap.size + 1) 58 zmT.cs) := Lib.hid (by
    rw [← HWW.out]
    have := Own.new (w.alloc (.cells A.cs.toArray 58)) 58 zmT.cs
    rw [World.size_alloc] at this
    exact this)
  have HB := Lib.hid hWc
  have c0 := HO1.out.cell 0
  have c1 := HO1.out.cell 1
  have c2 := HO1.out.cell 2
  have c3 := HO1.out.cell 3
  have c4 := HO1.out.cell 4
  have c5 := HO1.out.cell 5
  have c7 := HO1.out.cell 7
  have c8 := HO1.out.cell 8
  have hz := HO1.out.lt
  simp [MgT.cs] at c0 c1 c2 c3 c4 c5 c7 c8
  clear hWc
  go_enter Try.func53, Try.ntmps53
  go_upto_region 1 with fail
  rw [HWW.out]
  go_wp2_with (refine wpList_storeMg rfl (.tmp 4) (.tmp 18) rfl (w.heap.size + 1) rfl (ansT A e) rfl zmT.cs HO2.out rfl ?_)
  intro w1 ho hc
  have HO3 := Lib.hid ho
  have HB1 : Hid (Below w.heap.size w w1) := Lib.hid ((HB.out.then hc (fun x hx => by simp only [List.mem_singleton] at hx; subst hx; exact .inr (Nat.le_succ _))).low)
  clear ho hc c0 c1 c2 c3 c4 c5 c7 c8
  go_wp2_with fail
  refine bodyPost_ret (results_cell_row Try.results53 _ _ (w.heap.size + 1) 58 _ (0, 0) _ rfl HO3.out Try.underlying58 rfl (by kernel_rfl)) rfl ?_
  exact ⟨rfl, HB1.out⟩
/-- some Bool is answered -/
def RB (e : Ending) : Prop := ∃ t, e = .returned (.bool t)
theorem fitsC10_any (k : Int) (a : Option Addr) (n c : Nat) (a2 : Option Addr) (n2 c2 : Nat) (w : World) :
    Calls Try.prog 52 #[cev k a n c a2 n2 c2] w fun e w' => RB e ∧ Below w.heap.size w w' := by
  by_cases h : n ≤ 400
  · go_enter Try.func52, Try.ntmps52
    go_wp2_with fail
    go_ret
    exact ⟨⟨_, rfl⟩, (Below.refl _ _).alloc (Nat.le_refl _) _⟩
  · go_enter Try.func52, Try.ntmps52
    go_wp2_with fail
    go_ret
    exact ⟨⟨_, rfl⟩, (Below.refl _ _).alloc (Nat.le_refl _) _⟩
set_option maxHeartbeats 4000000 in
theorem fits10_any (A : MgT) (B : Nat) (w : World) (h : MgIn w B A) (hB : B ≤ w.heap.size) (hf : MgFit A) :
    Calls Try.prog 27 #[.agg A.cs.toArray] w fun e w' => RB e ∧ Below w.heap.size w w' := by
  obtain ⟨W, HWW⟩ : ∃ W, Hid (w.alloc (.cells A.cs.toArray 58) = W) := ⟨_, Lib.hid rfl⟩
  have hWb : Below w.heap.size w W := by rw [← HWW.out]; exact (Below.refl _ _).alloc (Nat.le_refl _) _
  have HO := Lib.hid (show Own W w.heap.size 58 A.cs by rw [← HWW.out]; exact Own.new w _ _)
  have HB := Lib.hid hWb
  have HF := Lib.hid (fun (W' : World) (hb : Below w.heap.size w W') => fitsL_any A.ly B W' ((h.below hb hB).ly) (Nat.le_trans hB hb.size) hf.ly)
  simp only [LyT.val] at HF
  have c0 := HO.out.cell 10
  have c1 := HO.out.cell 11
  have c2 := HO.out.cell 12
  have hz := HO.out.lt
  simp [MgT.cs] at c0 c1 c2
  clear hWb h hB hf
  go_enter Try.func27, Try.ntmps27
  go_upto_region 1 with fail
  rw [HWW.out]
  go_wp2_with fail
  refine (fitsC10_any A.c.k A.ca A.c.d.length A.cc A.ca2 A.c.b.length A.cc2 W).mono ?_
  rintro e w1 ⟨⟨t1, rfl⟩, hb⟩
  have HB1 := Lib.hid (HB.out.trans (hb.mono HB.out.size))
  have HO1 := Lib.hid (HO.out.below hb HO.out.lt)
  clear hb c0 c1 c2 hz
  have c0 := HO1.out.cell 19
  have c1 := HO1.out.cell 20
  have c2 := HO1.out.cell 21
  have hz := HO1.out.lt
  simp [MgT.cs] at c0 c1 c2
  go_wp2_with fail
  refine (HF.out w1 HB1.out).mono ?_
  rintro e w2 ⟨⟨t2, rfl⟩, hb⟩
  have HB2 := Lib.hid (HB1.out.trans (hb.mono HB1.out.size))
  have HO2 := Lib.hid (HO1.out.below hb HO1.out.lt)
  clear hb c0 c1 c2 hz
  have c0 := HO2.out.cell 13
  have c1 := HO2.out.cell 14
  have hz := HO2.out.lt
  simp [MgT.cs] at c0 c1
  generalize A.st.length = sn at *
  generalize A.bk.length = kn at *
  cases t1 with
  | false =>
    go_wp2_with fail
    go_ret
    exact ⟨⟨_, rfl⟩, HB2.out⟩
  | true =>
  cases t2 with
  | false =>
    go_wp2_with fail
    go_ret
    exact ⟨⟨_, rfl⟩, HB2.out⟩
  | true =>
  by_cases hs : sn ≤ 30
  · go_wp2_with fail
    go_ret
    exact ⟨⟨_, rfl⟩, HB2.out⟩
  · go_wp2_with fail
    go_ret
    exact ⟨⟨_, rfl⟩, HB2.out⟩
end Go.Proofs.Yteenlkmnadjnpaa
namespace Go.Proofs.Yteenlkmnadjnpaa
open Go.RowKit Go.Deep Go.Shelf
set_option linter.unusedVariables false
set_option linter.unusedSimpArgs false

set_option maxHeartbeats 1000000 in
theorem sameChainW_any (L M : List Int) (a a2 : Option Addr) (c c2 B : Nat) (w : World) (hro : Ro w B a (i64s L)) (hro2 : Ro w B a2 (i64s M)) (hB : B ≤ w.heap.size) (hl : L.length ≤ 9223372036854775807) (hl2 : M.length ≤ 9223372036854775807) :
    Calls Try.prog 13 #[.slice a L.length c, .slice a2 M.length c2] w fun e w' => e = .returned (.bool (decide (L = M))) ∧ Below w.heap.size w w' := by
  by_cases hlm : L.length = M.length
  · have HRO := Lib.hid hro
    have HRO2 := Lib.hid hro2
    have HS := Lib.hid hB
    have HN2 := Lib.hid hlm
    rw [← hlm] at hl2 ⊢
    generalize hN : L.length = n at *
    have HN := Lib.hid hN
    have hn1 : (n : Int) ≤ 9223372036854775807 := by omega
    obtain ⟨t, HT⟩ : ∃ t, Hid (decide (L = M) = t) := ⟨_, Lib.hid rfl⟩
    rw [HT.out]
    clear hro hro2 hB hN hlm hl2
    go_enter Try.func13, Try.ntmps13
    go_wp2_with fail
    go_loopw [5] (fun i wr => ∃ k : Nat, k ≤ n ∧ i = .int .i64 (k : Int) ∧ Hid (∀ j, j < k → L.getD j 0 = M.getD j 0) ∧ Hid (Below w.heap.size w wr)) (fun i _ => n - (intOf i).toNat)
    case atStart => exact ⟨0, Nat.zero_le _, rfl, Lib.hid (by omega), Lib.hid (Below.refl _ _)⟩
    case round =>
      obtain ⟨k, hk, rfl, HM, HBk⟩ := hrel
      by_cases hlt : k < n
      · have hkL : k < L.length := by rw [HN.out]; exact hlt
        have hkM : k < M.length := by rw [← HN2.out]; exact hlt
        obtain ⟨b, off, rfl, hb, hc⟩ := (HRO.out.below HBk.out HS.out).i64 (show 0 < L.length by omega)
        obtain ⟨b2, off2, rfl, hb2, hc2⟩ := (HRO2.out.below HBk.out HS.out).i64 (show 0 < M.length by omega)
        have e1 := hc k hkL
        have e2 := hc2 k hkM
        clear hc hc2
        have hk0 : (0 : Int) ≤ (k : Int) := by omega
        have hk1 : (k : Int) < (n : Int) := by omega
        obtain ⟨y, hy⟩ : ∃ y, L.getD k 0 = y := ⟨_, rfl⟩
        obtain ⟨z, hz⟩ : ∃ z, M.getD k 0 = z := ⟨_, rfl⟩
        rw [hy] at e1
        rw [hz] at e2
        have HY := Lib.hid hy
        have HZ := Lib.hid hz
        clear hy hz
        by_cases hx : y = z
        · have hx' : (y != z) = false := by rw [bne_eq_false_iff_eq]; exact hx
          have HX := Lib.hid hx
          clear hx
          go_wp2_with fail
          go_region
          go_wp2_with fail
          go_roundw
          case rel =>
            refine ⟨k + 1, by omega, by go_num, Lib.hid fun j hj => ?_, Lib.hid HBk.out.drew⟩
            by_cases e : j = k
            · subst e; rw [HY.out, HZ.out]; exact HX.out
            · exact HM.out j (by omega)
          case measure => simp [intOf]; omega
        · have hx' : (y != z) = true := by rw [bne_iff_ne]; exact hx
          obtain rfl : t = false := by
            rw [← HT.out]
            simp only [decide_eq_false_iff_not]
            rintro rfl
            exact hx (HY.out.symm.trans HZ.out)
          clear hx
          go_wp2_with fail
          go_region
          go_wp2_with fail
          go_ret
          exact ⟨rfl, HBk.out.drew⟩
      · obtain rfl : k = n := by omega
        obtain rfl : t = true := by
          rw [← HT.out]
          simp only [decide_eq_true_eq]
          apply List.ext_getElem (by rw [HN.out]; exact HN2.out)
          intro i h1 h2
          have := HM.out i (by rw [HN.out] at h1; exact h1)
          simpa [List.getD, h1, h2] using this
        go_wp2_with fail
        go_ret
        exact ⟨rfl, HBk.out⟩
  · have e : decide (L = M) = false := by simp only [decide_eq_false_iff_not]; rintro rfl; exact hlm rfl
    rw [e]
    generalize L.length = n at *
    generalize M.length = m at *
    have hne : ((n : Int) != (m : Int)) = true := by rw [bne_iff_ne]; omega
    clear hlm e hro hro2
    go_enter Try.func13, Try.ntmps13
    go_wp2_with fail
    go_ret
    exact ⟨rfl, Below.refl _ _⟩


theorem same10_any (L M : List Int) (a a2 : Option Addr) (c c2 B : Nat) (w : World) (hro : Ro w B a (i64s L)) (hro2 : Ro w B a2 (i64s M)) (hB : B ≤ w.heap.size) (hl : L.length ≤ 9223372036854775807) (hl2 : M.length ≤ 9223372036854775807) :
    Calls Try.prog 59 #[.slice a L.length c, .slice a2 M.length c2] w fun e w' => e = .returned (.bool (decide (L = M))) ∧ Below w.heap.size w w' := by
  have H := Lib.hid (sameChainW_any L M a a2 c c2 B w hro hro2 hB hl hl2)
  generalize decide (L = M) = t at *
  generalize L.length = n at *
  generalize M.length = m at *
  clear hro hro2 hB hl hl2
  go_enter Try.func59, Try.ntmps59
  go_wp2_with fail
  refine H.out.mono ?_
  rintro e w1 ⟨rfl, hb⟩
  have HB := Lib.hid hb
  clear hb
  go_wp2_with fail
  go_ret
  exact ⟨rfl, HB.out⟩
end Go.Proofs.Yteenlkmnadjnpaa
namespace Go.Proofs.Yteenlkmnadjnpaa
open Go.RowKit Go.Deep Go.Shelf
set_option linter.unusedVariables false
set_option linter.unusedSimpArgs false

set_option maxHeartbeats 4000000 in
theorem rlsame_any (A B : LyT) (B0 : Nat) (w0 : World) (ha : LyIn w0 B0 A) (hb : LyIn w0 B0 B) (hfa : SgFit A.sg) (hfb : SgFit B.sg) (hB : B0 ≤ w0.heap.size) :
    Calls Try.prog 12 #[A.val, B.val] w0 fun e w' => e = .returned (.bool (lalike A.x B.x)) ∧ Below w0.heap.size w0 w' := by
  obtain ⟨f, a, c, L, q⟩ := A
  obtain ⟨f', a', c', L', q'⟩ := B
  simp only [LyT.val] at *
  obtain ⟨W, HWW⟩ : ∃ W, Hid ((w0.alloc (.cells #[.int .u64 (f : Int), .slice a L.length c, .int .i64 q] 25)).alloc (.cells #[.int .u64 (f' : Int), .slice a' L'.length c', .int .i64 q'] 25) = W) := ⟨_, Lib.hid rfl⟩
  have hWc : Chg [] w0 W := by rw [← HWW.out]; exact ((Chg.refl [] w0).alloc _).alloc _
  have hWb : Below w0.heap.size w0 W := hWc.low
  have o1 : Own W w0.heap.size 25 [.int .u64 (f : Int), .slice a L.length c, .int .i64 q] := by rw [← HWW.out]; exact (Own.new w0 _ _).alloc _
  have o2 : Own W (w0.heap.size + 1) 25 [.int .u64 (f' : Int), .slice a' L'.length c', .int .i64 q'] := by
    rw [← HWW.out]
    have := Own.new (w0.alloc (.cells #[.int .u64 (f : Int), .slice a L.length c, .int .i64 q] 25)) 25 [.int .u64 (f' : Int), .slice a' L'.length c', .int .i64 q']
    simpa using this
  obtain ⟨t, HT⟩ : ∃ t, Hid (lalike (LyT.x ⟨f, a, c, L, q⟩) (LyT.x ⟨f', a', c', L', q'⟩) = t) := ⟨_, Lib.hid rfl⟩
  rw [HT.out]
  have HLK : Hid (lalike (LyT.x ⟨f, a, c, L, q⟩) (LyT.x ⟨f', a', c', L', q'⟩) = true ↔ f = f' ∧ q = q' ∧ sgx L = sgx L') := Lib.hid ⟨fun h => by
    have := lalike_iff.1 h
    simp only [LyT.x, Ly.mk.injEq] at this
    exact ⟨this.1, this.2.2, this.2.1⟩, fun ⟨h1, h2, h3⟩ => lalike_iff.2 (by simp only [LyT.x, h1, h2, h3])⟩
  rw [HT.out] at HLK
  have HA := Lib.hid (And.intro (ha.1.below hWb hB) (ha.2.below hWb hB))
  have HBb := Lib.hid (And.intro (hb.1.below hWb hB) (hb.2.below hWb hB))
  have HS := Lib.hid (Nat.le_trans hB hWb.size)
  have HFA := Lib.hid hfa.2
  have HFB := Lib.hid hfb.2
  have hl1 := hfa.1
  have hl2 := hfb.1
  have HB := Lib.hid hWb
  have HO1 := Lib.hid o1
  have HO2 := Lib.hid o2
  have c0 := o1.cell 0
  have c1 := o1.cell 1
  have c2 := o1.cell 2
  have d0 := o2.cell 0
  have d1 := o2.cell 1
  have d2 := o2.cell 2
  simp at c0 c1 c2 d0 d1 d2
  have HK : Hid (∀ V, Below W.heap.size W V → V.cell? ⟨w0.heap.size, 1, none⟩ = some (.slice a L.length c) ∧ V.cell? ⟨w0.heap.size + 1, 1, none⟩ = some (.slice a' L'.length c')) := Lib.hid fun V hV => ⟨cell_keep hV c1 (World.block_lt_of_cell? _ _ c1), cell_keep hV d1 (World.block_lt_of_cell? _ _ d1)⟩
  obtain ⟨n, hn⟩ : ∃ n, L.length = n := ⟨_, rfl⟩
  obtain ⟨m, hm⟩ : ∃ m, L'.length = m := ⟨_, rfl⟩
  rw [hn] at HK HO1 c1 hl1 HWW ⊢
  rw [hm] at HK HO2 d1 hl2 HWW ⊢
  have HN := Lib.hid hn
  have HM := Lib.hid hm
  clear hWc hWb o1 o2 ha hb hfa hfb hB hn hm
  go_enter Try.func12, Try.ntmps12
  go_upto_region 1 with fail
  rw [HWW.out]
  by_cases e : f = f'
  case neg =>
    have e1 : ((f : Int) != (f' : Int)) = true := by rw [bne_iff_ne]; omega
    obtain rfl : t = false := by cases t with | false => rfl | true => exact absurd (HLK.out.1 rfl).1 e
    clear e
    go_wp2_with fail
    go_ret
    exact ⟨rfl, HB.out⟩
  subst e
  by_cases e : q = q'
  case neg =>
    have e1 : (q != q') = true := by rw [bne_iff_ne]; exact e
    obtain rfl : t = false := by cases t with | false => rfl | true => exact absurd (HLK.out.1 rfl).2.1 e
    clear e
    go_wp2_with fail
    go_ret
    exact ⟨rfl, HB.out⟩
  subst e
  by_cases e : n = m
  case neg =>
    have e1 : ((n : Int) != (m : Int)) = true := by rw [bne_iff_ne]; omega
    obtain rfl : t = false := by
      cases t with
      | false => rfl
      | true =>
        have := congrArg List.length (HLK.out.1 rfl).2.2
        simp only [sgx_length, HN.out, HM.out] at this
        exact absurd this e
    clear e
    go_wp2_with fail
    go_ret
    exact ⟨rfl, HB.out⟩
  subst e
  go_wp2_with fail
  clear c0 c1 c2 d0 d1 d2
  go_loopw [5] (fun i wr => ∃ k : Nat, k ≤ n ∧ i = .int .i64 (k : Int) ∧ Hid (∀ j, j < k → (st L j).x = (st L' j).x) ∧ Hid (Below W.heap.size W wr)) (fun i _ => n - (intOf i).toNat)
  case atStart => exact ⟨0, Nat.zero_le _, rfl, Lib.hid (by omega), Lib.hid (Below.refl _ _)⟩
  case round =>
    obtain ⟨k, hk, rfl, HE, HBk⟩ := hrel
    rename World => w6
    by_cases hlt : k < n
    · have hkA : k < L.length := by rw [HN.out]; exact hlt
      have hkB : k < L'.length := by rw [HM.out]; exact hlt
      obtain ⟨g, off, rfl, hg, hcl⟩ := (HA.out.1.below HBk.out HS.out).sg (show 0 < L.length by omega)
      obtain ⟨g', off', rfl, hg', hcl'⟩ := (HBb.out.1.below HBk.out HS.out).sg (show 0 < L'.length by omega)
      obtain ⟨h1, h2⟩ := hcl k hkA
      obtain ⟨h4, h5⟩ := hcl' k hkB
      have HCA := Lib.hid (HA.out.2 _ (st_mem hkA))
      have HCB := Lib.hid (HBb.out.2 _ (st_mem hkB))
      have HQA := Lib.hid (HFA.out _ (st_mem hkA))
      have HQB := Lib.hid (HFB.out _ (st_mem hkB))
      clear hcl hcl'
      obtain ⟨x, hx⟩ : ∃ x, st L k = x := ⟨_, rfl⟩
      obtain ⟨y, hy⟩ : ∃ y, st L' k = y := ⟨_, rfl⟩
      rw [hx] at h1 h2 HCA HQA
      rw [hy] at h4 h5 HCB HQB
      have HX := Lib.hid hx
      have HY := Lib.hid hy
      obtain ⟨xf, xa, xc, xu⟩ := x
      obtain ⟨yf, ya, yc, yu⟩ := y
      simp only at h1 h2 h4 h5 HCA HCB HQA HQB
      have hk0 : (0 : Int) ≤ (k : Int) := by omega
      have hk1 : (k : Int) < (n : Int) := by omega
      clear hx hy
      obtain ⟨xn, hxn⟩ : ∃ n, xu.length = n := ⟨_, rfl⟩
      obtain ⟨yn, hyn⟩ : ∃ n, yu.length = n := ⟨_, rfl⟩
      rw [hxn] at h2
      rw [hyn] at h5
      have HXN := Lib.hid hxn
      have HYN := Lib.hid hyn
      clear hxn hyn
      obtain ⟨k1, k2⟩ := HK.out w6 HBk.out
      have hz6 : W.heap.size ≤ w6.heap.size := HBk.out.size
      have hgz2 : g < w6.heap.size := by have := HS.out; omega
      have hgz2' : g' < w6.heap.size := by have := HS.out; omega
      have hw0 : w0.heap.size + 1 < w6.heap.size := by have := HO2.out.lt; omega
      have a2 : (w6.alloc (.cells #[.int .u64 (xf : Int), .slice xa xn xc] 64)).cell? ⟨w0.heap.size + 1, 1, none⟩ = some (.slice (some ⟨g', off', none⟩) n c') := (((Chg.refl [] w6).alloc _).cell k2 (by simp))
      have h4' : (w6.alloc (.cells #[.int .u64 (xf : Int), .slice xa xn xc] 64)).cell? ⟨g', off' + k * 2, none⟩ = some (.int .u64 (yf : Int)) := (((Chg.refl [] w6).alloc _).cell h4 (by simp))
      have h5' : (w6.alloc (.cells #[.int .u64 (xf : Int), .slice xa xn xc] 64)).cell? ⟨g', off' + k * 2 + 1, none⟩ = some (.slice ya yn yc) := (((Chg.refl [] w6).alloc _).cell h5 (by simp))
      go_upto_region 8 with fail
      obtain ⟨r1, hr1⟩ : ∃ r, w6.heap.size = r := ⟨_, rfl⟩
      obtain ⟨W6, hW6⟩ : ∃ V, (w6.alloc (.cells #[.int .u64 (xf : Int), .slice xa xn xc] 64)).alloc (.cells #[.int .u64 (yf : Int), .slice ya yn yc] 64) = V := ⟨_, rfl⟩
      have HS1 : Hid (Own W6 r1 64 [.int .u64 (xf : Int), .slice xa xn xc]) := Lib.hid (by rw [← hW6, ← hr1]; exact (Own.new w6 _ _).alloc _)
      have HS2 : Hid (Own W6 (r1 + 1) 64 [.int .u64 (yf : Int), .slice ya yn yc]) := Lib.hid (by
        have := Own.new (w6.alloc (.cells #[.int .u64 (xf : Int), .slice xa xn xc] 64)) 64 [.int .u64 (yf : Int), .slice ya yn yc]
        rw [World.size_alloc, hW6, hr1] at this
        exact this)
      have HB6 : Hid (Below W.heap.size W W6) := Lib.hid (by rw [← hW6]; exact (HBk.out.alloc HBk.out.size _).alloc (by simp; omega) _)
      rw [hW6, hr1]
      clear hW6 hr1 a2 h4' h5' k1 k2 h1 h2 h4 h5 hgz2 hgz2' hw0 hz6 hg hg'
      have hxn2 : xn ≤ 9223372036854775807 := by have := HQA.out.1; have := HXN.out; omega
      have hyn2 : yn ≤ 9223372036854775807 := by have := HQB.out.1; have := HYN.out; omega
      have HSG : Hid (∀ V, Below W6.heap.size W6 V → V.cell? ⟨r1, 1, none⟩ = some (.slice xa xn xc) ∧ V.cell? ⟨r1 + 1, 1, none⟩ = some (.slice ya yn yc)) := Lib.hid fun V hV => ⟨(HS1.out.below hV HS1.out.lt).cell 1 |>.trans rfl, (HS2.out.below hV HS2.out.lt).cell 1 |>.trans rfl⟩
      have s0 := HS1.out.cell 0
      have s1 := HS1.out.cell 1
      have u0 := HS2.out.cell 0
      have u1 := HS2.out.cell 1
      have hz1 := HS1.out.lt
      have hz2 := HS2.out.lt
      simp at s0 s1 u0 u1
      have HFALSE : Hid ((SgT.x ⟨xf, xa, xc, xu⟩ ≠ SgT.x ⟨yf, ya, yc, yu⟩) → t = false) := Lib.hid (fun hne => by
        cases t with
        | false => rfl
        | true =>
          have := congrArg (fun l => sx l k) (HLK.out.1 rfl).2.2
          simp only [sx_sgx, HX.out, HY.out] at this
          exact absurd this hne)
      by_cases e : xf = yf
      case neg =>
        have e1 : ((xf : Int) != (yf : Int)) = true := by rw [bne_iff_ne]; omega
        obtain rfl : t = false := HFALSE.out (fun h => e (congrArg Prod.fst h))
        clear e
        go_wp2_with fail
        go_ret
        exact ⟨rfl, HB.out.trans (HB6.out.mono HB.out.size)⟩
      subst e
      by_cases e : xn = yn
      case neg =>
        have e1 : ((xn : Int) != (yn : Int)) = true := by rw [bne_iff_ne]; omega
        obtain rfl : t = false := HFALSE.out (fun h => e (by
          have := congrArg (fun z => List.length (Prod.snd z)) h
          simp only [SgT.x, chx_length, HXN.out, HYN.out] at this
          exact this))
        clear e
        go_wp2_with fail
        go_ret
        exact ⟨rfl, HB.out.trans (HB6.out.mono HB.out.size)⟩
      subst e
      go_wp2_with fail
      clear s0 s1 u0 u1
      go_loopw [8] (fun i wr => ∃ j : Nat, j ≤ xn ∧ i = .int .i64 (j : Int) ∧ Hid (∀ i, i < j → (ct xu i).u = (ct yu i).u) ∧ Hid (Below W6.heap.size W6 wr)) (fun i _ => xn - (intOf i).toNat)
      case atStart => exact ⟨0, Nat.zero_le _, rfl, Lib.hid (by omega), Lib.hid (Below.refl _ _)⟩
      case round =>
        obtain ⟨j, hj, rfl, HEj, HBj⟩ := hrel
        rename World => w7
        obtain ⟨v1, v2⟩ := HSG.out w7 HBj.out
        by_cases hlt2 : j < xn
        · have hjA : j < xu.length := by rw [HXN.out]; exact hlt2
          have hjB : j < yu.length := by rw [HYN.out]; exact hlt2
          have HB7 := Lib.hid (HB6.out.trans (HBj.out.mono HB6.out.size))
          have hBW : B0 ≤ W.heap.size := HS.out
          obtain ⟨b, o, rfl, hb, hc⟩ := (HCA.out.1.below HB7.out HS.out).ch (show 0 < xu.length by omega)
          obtain ⟨b', o', rfl, hb', hc'⟩ := (HCB.out.1.below HB7.out HS.out).ch (show 0 < yu.length by omega)
          have p1 := hc j hjA
          have p2 := hc' j hjB
          have HDA := Lib.hid (HCA.out.2 _ (ct_mem hjA))
          have HDB := Lib.hid (HCB.out.2 _ (ct_mem hjB))
          have HPA := Lib.hid (HQA.out.2 _ (ct_mem hjA))
          have HPB := Lib.hid (HQB.out.2 _ (ct_mem hjB))
          clear hc hc'
          obtain ⟨x2, hx2⟩ : ∃ x, ct xu j = x := ⟨_, rfl⟩
          obtain ⟨y2, hy2⟩ : ∃ x, ct yu j = x := ⟨_, rfl⟩
          rw [hx2] at p1 HDA HPA
          rw [hy2] at p2 HDB HPB
          have HX2 := Lib.hid hx2
          have HY2 := Lib.hid hy2
          obtain ⟨ga, gc, gu⟩ := x2
          obtain ⟨ga', gc', gu'⟩ := y2
          simp only at p1 p2 HDA HDB HPA HPB
          have HSC := Lib.hid (fun (V : World) (hV : Below w7.heap.size w7 V) => sameChainW_any gu gu' ga ga' gc gc' B0 V (HDA.out.below (HB7.out.trans (hV.mono HB7.out.size)) HS.out) (HDB.out.below (HB7.out.trans (hV.mono HB7.out.size)) HS.out) (Nat.le_trans HS.out (Nat.le_trans HB7.out.size hV.size)) HPA.out HPB.out)
          obtain ⟨r, hr⟩ : ∃ r, decide (gu = gu') = r := ⟨_, rfl⟩
          rw [hr] at HSC
          have HR := Lib.hid hr
          have hj0 : (0 : Int) ≤ (j : Int) := by omega
          have hj1 : (j : Int) < (xn : Int) := by omega
          clear hx2 hy2 hr hBW
          generalize gu.length = gn at *
          generalize gu'.length = gn' at *
          go_upto_region 13 with fail
          refine wp_region_held_drew (S := (fun V => Below w7.heap.size w7 V ∧ V.cell? ⟨r1, 1, none⟩ = some (.slice (some ⟨b, o, none⟩) xn xc) ∧ V.cell? ⟨r1 + 1, 1, none⟩ = some (.slice (some ⟨b', o', none⟩) xn yc) ∧ V.cell? ⟨b, o + j, none⟩ = some (.slice ga gn gc) ∧ V.cell? ⟨b', o' + j, none⟩ = some (.slice ga' gn' gc'))) (by kernel_rfl) ⟨(Below.refl _ _).drew, v1, v2, p1, p2⟩ (fun hHeld => ?_)
          refine wpAnyH_take (i := 0) (v := ?_) rfl (by kernel_rfl) (by kernel_rfl) (by kernel_rfl) (fun _ _ _ h => h) (Or.inl ⟨by kernel_rfl, ?_⟩) hHeld ?_
          rotate_left
          · (intro w hSw; first | (go_simp; done) | (go_simp; with_reducible rfl))
          (try simp only [Act.put, List.getElem_toArray, List.getElem_cons_succ, List.getElem_cons_zero, List.setIfInBounds_toArray, List.set_cons_zero, List.set_cons_succ])
          refine wpAnyH_take (i := 1) (v := ?_) rfl (by kernel_rfl) (by kernel_rfl) (by kernel_rfl) (fun _ _ _ h => h) (Or.inl ⟨by kernel_rfl, ?_⟩) hHeld ?_
          rotate_left
          · (intro w hSw; first | (go_simp; done) | (go_simp; with_reducible rfl))
          (try simp only [Act.put, List.getElem_toArray, List.getElem_cons_succ, List.getElem_cons_zero, List.setIfInBounds_toArray, List.set_cons_zero, List.set_cons_succ])
          refine wpAnyH_take (i := 2) (v := ?_) rfl (by kernel_rfl) (by kernel_rfl) (by kernel_rfl) (fun _ _ _ h => h) (Or.inl ⟨by kernel_rfl, ?_⟩) hHeld ?_
          rotate_left
          · (intro w hSw; first | (go_simp; done) | (go_simp; with_reducible rfl))
          (try simp only [Act.put, List.getElem_toArray, List.getElem_cons_succ, List.getElem_cons_zero, List.setIfInBounds_toArray, List.set_cons_zero, List.set_cons_succ])
          refine wpAnyH_take (i := 3) (v := ?_) rfl (by kernel_rfl) (by kernel_rfl) (by kernel_rfl) (fun _ _ _ h => h) (Or.inl ⟨by kernel_rfl, ?_⟩) hHeld ?_
          rotate_left
          · (intro w hSw; first | (go_simp; done) | (go_simp; with_reducible rfl))
          (try simp only [Act.put, List.getElem_toArray, List.getElem_cons_succ, List.getElem_cons_zero, List.setIfInBounds_toArray, List.set_cons_zero, List.set_cons_succ])
          refine wpAnyH_take (i := 4) (v := ?_) rfl (by kernel_rfl) (by kernel_rfl) (by kernel_rfl) (fun _ _ _ h => h) (Or.inl ⟨by kernel_rfl, ?_⟩) hHeld ?_
          rotate_left
          · (intro w hSw; first | (go_simp; done) | (go_simp; with_reducible rfl))
          (try simp only [Act.put, List.getElem_toArray, List.getElem_cons_succ, List.getElem_cons_zero, List.setIfInBounds_toArray, List.set_cons_zero, List.set_cons_succ])
          refine wpAnyH_take (i := 5) (v := ?_) rfl (by kernel_rfl) (by kernel_rfl) (by kernel_rfl) (fun _ _ _ h => h) (Or.inl ⟨by kernel_rfl, ?_⟩) hHeld ?_
          rotate_left
          · (intro w hSw; first | (go_simp; done) | (go_simp; with_reducible rfl))
          (try simp only [Act.put, List.getElem_toArray, List.getElem_cons_succ, List.getElem_cons_zero, List.setIfInBounds_toArray, List.set_cons_zero, List.set_cons_succ])
          refine wpAnyH_take (i := 6) (v := ?_) rfl (by kernel_rfl) (by kernel_rfl) (by kernel_rfl) (fun _ _ _ h => h) (Or.inl ⟨by kernel_rfl, ?_⟩) hHeld ?_
          rotate_left
          · (intro w hSw; first | (go_simp; done) | (go_simp; with_reducible rfl))
          (try simp only [Act.put, List.getElem_toArray, List.getElem_cons_succ, List.getElem_cons_zero, List.setIfInBounds_toArray, List.set_cons_zero, List.set_cons_succ])
          refine wpAnyH_take (i := 7) (v := ?_) rfl (by kernel_rfl) (by kernel_rfl) (by kernel_rfl) (fun _ _ _ h => h) (Or.inl ⟨by kernel_rfl, ?_⟩) hHeld ?_
          rotate_left
          · (intro w hSw; first | (go_simp; done) | (go_simp; with_reducible rfl))
          (try simp only [Act.put, List.getElem_toArray, List.getElem_cons_succ, List.getElem_cons_zero, List.setIfInBounds_toArray, List.set_cons_zero, List.set_cons_succ])
          refine wpAnyH_take (i := 8) (v := ?_) rfl (by kernel_rfl) (by kernel_rfl) (by kernel_rfl) (fun _ _ _ h => h) (Or.inl ⟨by kernel_rfl, ?_⟩) hHeld ?_
          rotate_left
          · (intro w hSw; first | (go_simp; done) | (go_simp; with_reducible rfl))
          (try simp only [Act.put, List.getElem_toArray, List.getElem_cons_succ, List.getElem_cons_zero, List.setIfInBounds_toArray, List.set_cons_zero, List.set_cons_succ])
          refine wpAnyH_take (i := 9) (v := ?_) rfl (by kernel_rfl) (by kernel_rfl) (by kernel_rfl) (fun _ _ _ h => h) (Or.inl ⟨by kernel_rfl, ?_⟩) hHeld ?_
          rotate_left
          · (intro w hSw; first | (go_simp; done) | (go_simp; with_reducible rfl))
          (try simp only [Act.put, List.getElem_toArray, List.getElem_cons_succ, List.getElem_cons_zero, List.setIfInBounds_toArray, List.set_cons_zero, List.set_cons_succ])
          refine wpAnyH_ready (rs := [10]) (by kernel_rfl) (by simp) (AllReadyH.cons rfl (fun K hK => ?_) AllReadyH.nil)
          have hH := hHeld
          (go_simp; go_at_call 13; refine (HSC.out _ hH.1).mono ?_; rintro e w9 ⟨rfl, hb9⟩)
          refine hK.out _ _ (by exact ⟨hH.1.trans (hb9.mono hH.1.size), cell_keep hb9 hH.2.1 (World.block_lt_of_cell? _ _ hH.2.1), cell_keep hb9 hH.2.2.1 (World.block_lt_of_cell? _ _ hH.2.2.1), cell_keep hb9 hH.2.2.2.1 (World.block_lt_of_cell? _ _ hH.2.2.2.1), cell_keep hb9 hH.2.2.2.2 (World.block_lt_of_cell? _ _ hH.2.2.2.2)⟩) (fun hHq1 => ?_)
          clear hK K hH 
          (try simp only [Act.put, List.getElem_toArray, List.getElem_cons_succ, List.getElem_cons_zero, List.setIfInBounds_toArray, List.set_cons_zero, List.set_cons_succ])
          refine wpAnyH_take (i := 11) (v := ?_) rfl (by kernel_rfl) (by kernel_rfl) (by kernel_rfl) (fun _ _ _ h => h) (Or.inl ⟨by kernel_rfl, ?_⟩) hHq1 ?_
          rotate_left
          · (intro w hSw; first | (go_simp; done) | (go_simp; with_reducible rfl))
          (try simp only [Act.put, List.getElem_toArray, List.getElem_cons_succ, List.getElem_cons_zero, List.setIfInBounds_toArray, List.set_cons_zero, List.set_cons_succ])
          refine wpAnyH_done (by kernel_rfl) ?_ _
          have hEnd := hHq1
          have HB9 := Lib.hid (HBj.out.trans (hEnd.1.mono HBj.out.size))
          clear hHeld hEnd v1 v2 p1 p2
          cases r with
          | true =>
            go_wp2_with fail
            go_roundw
            case rel =>
              refine ⟨j + 1, by omega, by go_num, Lib.hid fun i hi => ?_, HB9⟩
              by_cases e : i = j
              · subst e
                rw [HX2.out, HY2.out]
                exact of_decide_eq_true HR.out
              · exact HEj.out i (by omega)
            case measure => simp [intOf]; omega
          | false =>
            obtain rfl : t = false := HFALSE.out (fun h => by
              have := congrArg (fun z : Sg => cx z.2 j) h
              simp only [SgT.x, cx_chx, HX2.out, HY2.out] at this
              exact of_decide_eq_false HR.out this)
            go_wp2_with fail
            go_ret
            exact ⟨rfl, HB.out.trans ((HB6.out.trans (HB9.out.mono HB6.out.size)).mono HB.out.size)⟩
        · obtain rfl : j = xn := by omega
          go_wp2_with fail
          go_roundw
          case rel =>
            refine ⟨k + 1, by omega, by go_num, Lib.hid fun i hi => ?_, Lib.hid (HB6.out.trans (HBj.out.mono HB6.out.size))⟩
            by_cases e : i = k
            · subst e
              rw [HX.out, HY.out]
              simp only [SgT.x, Prod.mk.injEq, true_and]
              exact chx_ext (by rw [HXN.out, HYN.out]) (by rw [HXN.out]; exact HEj.out)
            · exact HE.out i (by omega)
          case measure => simp [intOf]; omega
    · obtain rfl : k = n := by omega
      obtain ⟨k1, k2⟩ := HK.out w6 HBk.out
      obtain rfl : t = true := HLK.out.2 ⟨by trivial, by trivial, sgx_ext (by rw [HN.out, HM.out]) (by rw [HN.out]; exact HE.out)⟩
      go_wp2_with fail
      go_ret
      exact ⟨rfl, HB.out.trans (HBk.out.mono HB.out.size)⟩
end Go.Proofs.Yteenlkmnadjnpaa
namespace Go.Proofs.Yteenlkmnadjnpaa
open Go.RowKit Go.Deep
set_option linter.unusedVariables false
set_option linter.unusedSimpArgs false
set_option maxRecDepth 100000

theorem bytes_beq (l l' : List UInt8) : (({ data := l.toArray } : ByteArray) == ({ data := l'.toArray } : ByteArray)) = decide (l = l') := by
  rw [beq_toListBytes, ByteArray.toList_eq, ByteArray.toList_eq]
  by_cases h : l = l'
  · subst h; simp
  · simp [h]
set_option maxHeartbeats 2000000 in
theorem rsame_any (x y : Ce) (a : Option Addr) (c : Nat) (a2 : Option Addr) (c2 : Nat) (b : Option Addr) (d : Nat) (b2 : Option Addr) (d2 B : Nat) (w : World) (hx : Ro w B a (u8s x.d)) (hx2 : Ro w B a2 (bcs x.b)) (hy : Ro w B b (u8s y.d)) (hy2 : Ro w B b2 (bcs y.b)) (hB : B ≤ w.heap.size)
    (hl : x.b.length ≤ 1000000) (hl2 : y.b.length ≤ 1000000) :
    Calls Try.prog 60 #[cev x.k a x.d.length c a2 x.b.length c2, cev y.k b y.d.length d b2 y.b.length d2] w fun e w' => e = .returned (.bool (alike x y)) ∧ Below w.heap.size w w' := by
  obtain ⟨k, l, L⟩ := x
  obtain ⟨k', l', L'⟩ := y
  simp only at hx hx2 hy hy2 hl hl2 ⊢
  obtain ⟨W, hW⟩ : ∃ W, (w.alloc (.cells #[.int .i64 k, .slice a l.length c, .slice a2 L.length c2] 54)).alloc (.cells #[.int .i64 k', .slice b l'.length d, .slice b2 L'.length d2] 54) = W := ⟨_, rfl⟩
  have hbW : Below w.heap.size w W := by rw [← hW]; exact ((Below.refl _ w).alloc (Nat.le_refl _) _).alloc (by simp) _
  have o1 : Own W w.heap.size 54 [.int .i64 k, .slice a l.length c, .slice a2 L.length c2] := by rw [← hW]; exact (Own.new w _ _).alloc _
  have o2 : Own W (w.heap.size + 1) 54 [.int .i64 k', .slice b l'.length d, .slice b2 L'.length d2] := by
    rw [← hW]
    have := Own.new (w.alloc (.cells #[.int .i64 k, .slice a l.length c, .slice a2 L.length c2] 54)) 54 [.int .i64 k', .slice b l'.length d, .slice b2 L'.length d2]
    simpa using this
  have e1 := conv_ro (c := c) (hx.below hbW hB) rfl
  have e2 := conv_ro (c := d) (hy.below hbW hB) rfl
  have HX2 := Lib.hid (hx2.below hbW hB)
  have HY2 := Lib.hid (hy2.below hbW hB)
  have HO1 := Lib.hid o1
  have HO2 := Lib.hid o2
  have HBW := Lib.hid hbW
  obtain ⟨t, HT⟩ : ∃ t, Hid (alike ⟨k, l, L⟩ ⟨k', l', L'⟩ = t) := ⟨_, Lib.hid rfl⟩
  rw [HT.out]
  have c0 := o1.cell 0
  have c1 := o1.cell 1
  have c2' := o1.cell 2
  have d0 := o2.cell 0
  have d1 := o2.cell 1
  have d2' := o2.cell 2
  simp at c0 c1 c2' d0 d1 d2'
  clear hx hx2 hy hy2 o1 o2 hbW
  have HW := Lib.hid hW
  clear hW
  obtain ⟨n, HN⟩ : ∃ n, Hid (L.length = n) := ⟨_, Lib.hid rfl⟩
  obtain ⟨m, HM⟩ : ∃ m, Hid (L'.length = m) := ⟨_, Lib.hid rfl⟩
  rw [HN.out] at hl c2' HW HO1 ⊢
  rw [HM.out] at hl2 d2' HW HO2 ⊢
  generalize hl1 : l.length = p at *
  generalize hl1' : l'.length = p' at *
  have HP1 := Lib.hid hl1
  have HP2 := Lib.hid hl1'
  clear hl1 hl1'
  by_cases hk : k = k'
  · subst hk
    by_cases hd : l = l'
    · have hs : (!(({ data := l.toArray } : ByteArray) == ({ data := l'.toArray } : ByteArray))) = false := by rw [bytes_beq]; simp [hd]
      have HD := Lib.hid hd
      clear hd
      by_cases hnm : n = m
      · subst hnm
        go_enter Try.func60, Try.ntmps60
        go_wp2_with fail
        rw [HW.out]
        go_simp
        go_wp2_with fail
        clear e1 e2 hs c0 c1 c2' d0 d1 d2'
        go_loopw [5] (fun i wr => ∃ k : Nat, i = .int .i64 k ∧ k ≤ n ∧ Hid (L.take k = L'.take k) ∧ Hid (Qt W wr)) (fun i _ => n - (intOf i).toNat)
        case atStart => exact ⟨0, rfl, Nat.zero_le _, Lib.hid rfl, Lib.hid (Qt.refl _)⟩
        case round =>
          obtain ⟨i, rfl, hi, HTK, HQ⟩ := hrel
          have c2' := (HO1.out.qt HQ.out).cell 2
          have d2' := (HO2.out.qt HQ.out).cell 2
          simp at c2' d2'
          by_cases hlt : i < n
          · have hkA : i < L.length := by rw [HN.out]; exact hlt
            have hkB : i < L'.length := by rw [HM.out]; exact hlt
            obtain ⟨g, off, rfl, hg, hcl⟩ := (HX2.out.qt HQ.out).bk (by omega)
            obtain ⟨g', off', rfl, hg', hcl'⟩ := (HY2.out.qt HQ.out).bk (by omega)
            obtain ⟨h1, h2, h3⟩ := hcl i hkA
            obtain ⟨h4, h5, h6⟩ := hcl' i hkB
            have HTS := Lib.hid (take_succ_eqB hkA hkB HTK.out)
            have HNE := Lib.hid (@ne_of_bk L L' i)
            clear hcl hcl'
            generalize bk L i = x at *
            generalize bk L' i = y at *
            have hk0 : (0 : Int) ≤ (i : Int) := by omega
            have hk1 : (i : Int) < (n : Int) := by omega
            by_cases hxy : x = y
            · subst hxy
              have hN : ∀ W, (binOp .neq 106 (bkv x) (bkv x)).run Try.prog W = .ok (.bool false) W := fun W => by rw [neq_back]; simp
              go_wp2_with fail
              go_region
              go_wp2_with fail
              go_roundw
              case rel => exact ⟨i + 1, by go_num, by omega, Lib.hid (HTS.out trivial), Lib.hid (by first | exact HQ.out | exact HQ.out.trans ⟨1, rfl⟩)⟩
              case measure => simp [intOf]; omega
            · have hN : ∀ W, (binOp .neq 106 (bkv x) (bkv y)).run Try.prog W = .ok (.bool true) W := fun W => by rw [neq_back]; simp [hxy]
              have HF := Lib.hid (HNE.out hxy)
              obtain rfl : t = false := by rw [← HT.out]; unfold alike; simp only [HF.out]; simp
              go_wp2_with fail
              go_region
              go_wp2_with fail
              go_ret
              exact ⟨rfl, Qt.below (by first | exact HQ.out | exact HQ.out.trans ⟨1, rfl⟩) HBW.out⟩
          · obtain rfl : i = n := by omega
            obtain rfl : t = true := by
              rw [← HT.out, alike_iff]
              have ht := HTK.out
              rw [List.take_of_length_le (by rw [HN.out]; omega), List.take_of_length_le (by rw [HM.out]; omega)] at ht
              exact Ce.ext' rfl HD.out ht
            go_wp2_with fail
            go_ret
            exact ⟨rfl, HQ.out.below HBW.out⟩
      · obtain rfl : t = false := by
          rw [← HT.out]; unfold alike
          have : decide (L = L') = false := by simp only [decide_eq_false_iff_not]; rintro rfl; exact hnm (HN.out.symm.trans HM.out)
          simp only [this]; simp
        have hd0 : ((n : Int) != (m : Int)) = true := by rw [bne_iff_ne]; omega
        go_enter Try.func60, Try.ntmps60
        go_wp2_with fail
        rw [HW.out]
        go_simp
        go_wp2_with fail
        go_ret
        exact ⟨rfl, HBW.out⟩
    · have hs : (!(({ data := l.toArray } : ByteArray) == ({ data := l'.toArray } : ByteArray))) = true := by rw [bytes_beq]; simp [hd]
      obtain rfl : t = false := by rw [← HT.out]; unfold alike; simp [hd]
      have hd2 : (!(l == l')) = true := by simp [hd]
      go_enter Try.func60, Try.ntmps60
      go_wp2_with fail
      rw [HW.out]
      go_simp
      go_wp2_with fail
      go_ret
      exact ⟨rfl, HBW.out⟩
  · have h1 : (k != k') = true := by rw [bne_iff_ne]; omega
    obtain rfl : t = false := by rw [← HT.out]; unfold alike; simp [hk]
    clear hk
    go_enter Try.func60, Try.ntmps60
    go_wp2_with fail
    rw [HW.out]
    go_ret
    exact ⟨rfl, HBW.out⟩
end Go.Proofs.Yteenlkmnadjnpaa
namespace Go.Proofs.Yteenlkmnadjnpaa
open Go.RowKit Go.Deep Go.Shelf
set_option linter.unusedVariables false
set_option linter.unusedSimpArgs false

/-- the cells of a head -/
abbrev hcs (k f fr1 fr2 to1 to2 id : Int) (ep ad : Nat) (er ba1 ba2 pr1 pr2 : Int) : List Value :=
  [.int .i64 k, .int .i64 f, .int .i64 fr1, .int .i64 fr2, .int .i64 to1, .int .i64 to2, .int .i64 id, .int .u64 (ep : Int), .int .u64 (ad : Int), .int .i64 er, .int .i64 ba1, .int .i64 ba2, .int .i64 pr1, .int .i64 pr2]
def MgT.hd (A : MgT) : List Value := hcs A.k A.f A.fr.1 A.fr.2 A.to.1 A.to.2 A.id A.ep A.ad A.er A.ba.1 A.ba.2 A.pr.1 A.pr.2
theorem MgT.hd_one (A : MgT) : ∀ v ∈ A.hd, v.oneCell' = true := by
  intro v hv
  simp only [MgT.hd, List.mem_cons, List.not_mem_nil, or_false] at hv
  rcases hv with rfl | rfl | rfl | rfl | rfl | rfl | rfl | rfl | rfl | rfl | rfl | rfl | rfl | rfl <;> rfl
theorem infoHd : (Try.prog.info? 101).map (·.size) = some 14 := by kernel_rfl
theorem wpList_storeHd {ops : Array Oper} {rest : List Oper} {o : Oper} {a : Act} {w : World} {Q : Exit → Act → World → Prop} (hgd : o.guard = none) (x y : Operand) (ho : o.op = .store 101 x y) (b : Nat) (hx : a.eval x = .pointer (some ⟨b, 0, none⟩)) (A : MgT) (hy : a.eval y = .agg A.hd.toArray) (old : List Value) (hr : Own w b 101 old) (hl : old.length = 14)
    (h : ∀ w', Own w' b 101 A.hd → Chg [b] w w' → wpList Try.prog ops Q rest (a.put o.dst undef) w') : wpList Try.prog ops Q (o :: rest) a w := by
  refine wpList_store_mid hgd _ x y ho b 0 A.hd.toArray hx hy (fun j hj => ?_) infoHd (all_oneCell_toArray A.hd_one) (h _ ?_ ?_)
  · have hj' : j < 14 := hj
    rw [Nat.zero_add, hr.cell j]
    exact ⟨by simp [hl, hj'], hr.frozen j⟩
  · exact own_setCells A.hd [] old w hr (by rw [hl]; rfl)
  · exact (Chg.refl [b] w).setCells (.inl (by simp)) 0 _
set_option maxHeartbeats 4000000 in
set_option maxRecDepth 100000 in
theorem headOf10_any (A : MgT) (w : World) :
    Calls Try.prog 54 #[.agg A.cs.toArray] w fun z w' => z = .returned (.agg A.hd.toArray) ∧ Below w.heap.size w w' := by
  obtain ⟨W, HWW⟩ : ∃ W, Hid ((w.alloc (.cells A.cs.toArray 58)).alloc (.cells #[.int .i64 0, .int .i64 0, .int .i64 0, .int .i64 0, .int .i64 0, .int .i64 0, .int .i64 0, .int .u64 0, .int .u64 0, .int .i64 0, .int .i64 0, .int .i64 0, .int .i64 0, .int .i64 0] 101) = W) := ⟨_, Lib.hid rfl⟩
  have hWc : Chg [] w W := by rw [← HWW.out]; exact ((Chg.refl [] w).alloc _).alloc _
  have HO1 : Hid (Own W w.heap.size 58 A.cs) := Lib.hid (by rw [← HWW.out]; exact (Own.new w _ _).alloc _)
  have HO2 : Hid (Own W (w.heap.size + 1) 101 zmT.hd) := Lib.hid (by
    rw [← HWW.out]
    have := Own.new (w.alloc (.cells A.cs.toArray 58)) 101 zmT.hd
    rw [World.size_alloc] at this
    exact this)
  have HB := Lib.hid hWc
  have c0 := HO1.out.cell 0
  have c1 := HO1.out.cell 1
  have c2 := HO1.out.cell 2
  have c3 := HO1.out.cell 3
  have c4 := HO1.out.cell 4
  have c5 := HO1.out.cell 5
  have c6 := HO1.out.cell 6
  have c7 := HO1.out.cell 7
  have c8 := HO1.out.cell 8
  have c9 := HO1.out.cell 9
  have c15 := HO1.out.cell 15
  have c16 := HO1.out.cell 16
  have c17 := HO1.out.cell 17
  have c18 := HO1.out.cell 18
  have hz := HO1.out.lt
  simp [MgT.cs] at c0 c1 c2 c3 c4 c5 c6 c7 c8 c9 c15 c16 c17 c18
  clear hWc
  go_enter Try.func54, Try.ntmps54
  go_upto_region 1 with fail
  rw [HWW.out]
  go_wp2_with (refine wpList_storeHd rfl (.tmp 2) (.tmp 23) rfl (w.heap.size + 1) rfl A rfl zmT.hd HO2.out rfl ?_)
  intro w1 ho hc
  have HO3 := Lib.hid ho
  have HB1 : Hid (Below w.heap.size w w1) := Lib.hid ((HB.out.then hc (fun x hx => by simp only [List.mem_singleton] at hx; subst hx; exact .inr (Nat.le_succ _))).low)
  clear ho hc c0 c1 c2 c3 c4 c5 c6 c7 c8 c9 c15 c16 c17 c18
  go_wp2_with fail
  refine bodyPost_ret (results_cell_row Try.results54 _ _ (w.heap.size + 1) 101 _ (0, 0) _ rfl HO3.out Try.underlying101 rfl (by kernel_rfl)) rfl ?_
  exact ⟨rfl, HB1.out⟩
theorem eqIn_place9 (a b : Int) (w : World) : (Op.equalIn 9999 50 (.agg #[.int .i64 a, .int .i64 b]) (.agg #[.int .i64 a, .int .i64 b])).run Try.prog w = .ok true w := by
  have g0 : ∀ (x y : Value), (part 48 #[x, y] 0).run Try.prog w = .ok x w := fun x y => run_part_cell Try.underlying48 rfl w
  have g1 : ∀ (x y : Value), (part 3 #[x, y] 1).run Try.prog w = .ok y w := fun x y => run_part_cell Try.underlying3 rfl w
  have gg : ∀ (x y : Value), (part 48 #[x, y] 1).run Try.prog w = .ok y w := fun x y => run_part_cell Try.underlying48 rfl w
  have ge : ∀ (x y : Int), (Op.equalIn 9998 3 (.int .i64 x) (.int .i64 y)).run Try.prog w = .ok (x == y) w := fun x y => run_equalIn_int w 9997 3 .i64 .i64 _ _ Try.underlying3
  have gr : ∀ (x y : Int), (Op.equalIn 9998 48 (.int .i64 x) (.int .i64 y)).run Try.prog w = .ok (x == y) w := fun x y => run_equalIn_int w 9997 48 .i64 .i64 _ _ Try.underlying48
  refine (run_equalIn_struct w 9998 50 _ _ (by kernel_rfl) (by kernel_rfl)).trans ?_
  simp [Program.fieldsOf, Try.underlying50, Op.eqFields, g0, g1, gg, ge, gr]
theorem eqIn_ballot9 (a b : Int) (w : World) : (Op.equalIn 9999 56 (.agg #[.int .i64 a, .int .i64 b]) (.agg #[.int .i64 a, .int .i64 b])).run Try.prog w = .ok true w := by
  have g0 : ∀ (x y : Value), (part 3 #[x, y] 0).run Try.prog w = .ok x w := fun x y => run_part_cell Try.underlying3 rfl w
  have g1 : ∀ (x y : Value), (part 3 #[x, y] 1).run Try.prog w = .ok y w := fun x y => run_part_cell Try.underlying3 rfl w
  have gg : ∀ (x y : Value), (part 3 #[x, y] 1).run Try.prog w = .ok y w := fun x y => run_part_cell Try.underlying3 rfl w
  have ge : ∀ (x y : Int), (Op.equalIn 9998 3 (.int .i64 x) (.int .i64 y)).run Try.prog w = .ok (x == y) w := fun x y => run_equalIn_int w 9997 3 .i64 .i64 _ _ Try.underlying3
  have gr : ∀ (x y : Int), (Op.equalIn 9998 3 (.int .i64 x) (.int .i64 y)).run Try.prog w = .ok (x == y) w := fun x y => run_equalIn_int w 9997 3 .i64 .i64 _ _ Try.underlying3
  refine (run_equalIn_struct w 9998 56 _ _ (by kernel_rfl) (by kernel_rfl)).trans ?_
  simp [Program.fieldsOf, Try.underlying56, Op.eqFields, g0, g1, gg, ge, gr]
theorem part_two {t : TypeId} {xs : Array Value} {off : Nat} (ha : ∀ w, (isAgg t).run Try.prog w = .ok true w) (hz : ∀ w, (Go.sizeOf t).run Try.prog w = .ok 2 w) (w : World) : (part t xs off).run Try.prog w = .ok (.agg (xs.extract off (off + 2))) w := by
  unfold part
  rw [Sem.run_bind, ha]
  simp [hz, Sem.run_bind, Result.andThen_ok]
set_option maxHeartbeats 1000000 in
theorem eqIn_headR (A : MgT) (w : World) : (Op.equalIn 10000 101 (.agg A.hd.toArray) (.agg A.hd.toArray)).run Try.prog w = .ok true w := by
  have ap : ∀ w, (isAgg 50).run Try.prog w = .ok true w := fun w => by unfold isAgg; rw [Sem.run_bind, run_underlying Try.underlying50 w]; rfl
  have ab : ∀ w, (isAgg 56).run Try.prog w = .ok true w := fun w => by unfold isAgg; rw [Sem.run_bind, run_underlying Try.underlying56 w]; rfl
  have zp : ∀ w, (Go.sizeOf 50).run Try.prog w = .ok 2 w := fun w => Try.sizeOf50 w
  have zb : ∀ w, (Go.sizeOf 56).run Try.prog w = .ok 2 w := fun w => Try.sizeOf56 w
  unfold MgT.hd
  have p0 : (part 47 (hcs A.k A.f A.fr.1 A.fr.2 A.to.1 A.to.2 A.id A.ep A.ad A.er A.ba.1 A.ba.2 A.pr.1 A.pr.2).toArray 0).run Try.prog w = .ok ((hcs A.k A.f A.fr.1 A.fr.2 A.to.1 A.to.2 A.id A.ep A.ad A.er A.ba.1 A.ba.2 A.pr.1 A.pr.2).getD 0 undef) w := run_part_cell Try.underlying47 rfl w
  have p1 : (part 47 (hcs A.k A.f A.fr.1 A.fr.2 A.to.1 A.to.2 A.id A.ep A.ad A.er A.ba.1 A.ba.2 A.pr.1 A.pr.2).toArray 1).run Try.prog w = .ok ((hcs A.k A.f A.fr.1 A.fr.2 A.to.1 A.to.2 A.id A.ep A.ad A.er A.ba.1 A.ba.2 A.pr.1 A.pr.2).getD 1 undef) w := run_part_cell Try.underlying47 rfl w
  have p6 : (part 3 (hcs A.k A.f A.fr.1 A.fr.2 A.to.1 A.to.2 A.id A.ep A.ad A.er A.ba.1 A.ba.2 A.pr.1 A.pr.2).toArray 6).run Try.prog w = .ok ((hcs A.k A.f A.fr.1 A.fr.2 A.to.1 A.to.2 A.id A.ep A.ad A.er A.ba.1 A.ba.2 A.pr.1 A.pr.2).getD 6 undef) w := run_part_cell Try.underlying3 rfl w
  have p7 : (part 22 (hcs A.k A.f A.fr.1 A.fr.2 A.to.1 A.to.2 A.id A.ep A.ad A.er A.ba.1 A.ba.2 A.pr.1 A.pr.2).toArray 7).run Try.prog w = .ok ((hcs A.k A.f A.fr.1 A.fr.2 A.to.1 A.to.2 A.id A.ep A.ad A.er A.ba.1 A.ba.2 A.pr.1 A.pr.2).getD 7 undef) w := run_part_cell Try.underlying22 rfl w
  have p8 : (part 22 (hcs A.k A.f A.fr.1 A.fr.2 A.to.1 A.to.2 A.id A.ep A.ad A.er A.ba.1 A.ba.2 A.pr.1 A.pr.2).toArray 8).run Try.prog w = .ok ((hcs A.k A.f A.fr.1 A.fr.2 A.to.1 A.to.2 A.id A.ep A.ad A.er A.ba.1 A.ba.2 A.pr.1 A.pr.2).getD 8 undef) w := run_part_cell Try.underlying22 rfl w
  have p9 : (part 29 (hcs A.k A.f A.fr.1 A.fr.2 A.to.1 A.to.2 A.id A.ep A.ad A.er A.ba.1 A.ba.2 A.pr.1 A.pr.2).toArray 9).run Try.prog w = .ok ((hcs A.k A.f A.fr.1 A.fr.2 A.to.1 A.to.2 A.id A.ep A.ad A.er A.ba.1 A.ba.2 A.pr.1 A.pr.2).getD 9 undef) w := run_part_cell Try.underlying29 rfl w
  have p2 : (part 50 (hcs A.k A.f A.fr.1 A.fr.2 A.to.1 A.to.2 A.id A.ep A.ad A.er A.ba.1 A.ba.2 A.pr.1 A.pr.2).toArray 2).run Try.prog w = .ok (.agg #[.int .i64 A.fr.1, .int .i64 A.fr.2]) w := part_two ap zp w
  have p4 : (part 50 (hcs A.k A.f A.fr.1 A.fr.2 A.to.1 A.to.2 A.id A.ep A.ad A.er A.ba.1 A.ba.2 A.pr.1 A.pr.2).toArray 4).run Try.prog w = .ok (.agg #[.int .i64 A.to.1, .int .i64 A.to.2]) w := part_two ap zp w
  have p10 : (part 56 (hcs A.k A.f A.fr.1 A.fr.2 A.to.1 A.to.2 A.id A.ep A.ad A.er A.ba.1 A.ba.2 A.pr.1 A.pr.2).toArray 10).run Try.prog w = .ok (.agg #[.int .i64 A.ba.1, .int .i64 A.ba.2]) w := part_two ab zb w
  have p12 : (part 56 (hcs A.k A.f A.fr.1 A.fr.2 A.to.1 A.to.2 A.id A.ep A.ad A.er A.ba.1 A.ba.2 A.pr.1 A.pr.2).toArray 12).run Try.prog w = .ok (.agg #[.int .i64 A.pr.1, .int .i64 A.pr.2]) w := part_two ab zb w
  generalize (hcs A.k A.f A.fr.1 A.fr.2 A.to.1 A.to.2 A.id A.ep A.ad A.er A.ba.1 A.ba.2 A.pr.1 A.pr.2).toArray = xs at *
  simp only [List.getD_cons_zero, List.getD_cons_succ] at *
  have ei64MessageKind : ∀ (x y : Int), (Op.equalIn 9999 47 (.int .i64 x) (.int .i64 y)).run Try.prog w = .ok (x == y) w := fun x y => run_equalIn_int w 9998 47 .i64 .i64 _ _ Try.underlying47
  have ei64int : ∀ (x y : Int), (Op.equalIn 9999 3 (.int .i64 x) (.int .i64 y)).run Try.prog w = .ok (x == y) w := fun x y => run_equalIn_int w 9998 3 .i64 .i64 _ _ Try.underlying3
  have eu64uint64 : ∀ (x y : Int), (Op.equalIn 9999 22 (.int .u64 x) (.int .u64 y)).run Try.prog w = .ok (x == y) w := fun x y => run_equalIn_int w 9998 22 .u64 .u64 _ _ Try.underlying22
  have ei64Errno : ∀ (x y : Int), (Op.equalIn 9999 29 (.int .i64 x) (.int .i64 y)).run Try.prog w = .ok (x == y) w := fun x y => run_equalIn_int w 9998 29 .i64 .i64 _ _ Try.underlying29
  refine (run_equalIn_struct w 9999 101 _ _ (by kernel_rfl) (by kernel_rfl)).trans ?_
  simp [Program.fieldsOf, Try.underlying101, Op.eqFields, p0, p1, p2, p4, p6, p7, p8, p9, p10, p12, ei64MessageKind, ei64int, eu64uint64, ei64Errno, eqIn_place9, eqIn_ballot9]
theorem eq_headR (A : MgT) (w : World) : (binOp .eql 101 (.agg A.hd.toArray) (.agg A.hd.toArray)).run Try.prog w = .ok (.bool true) w := by
  rw [run_eql_struct, eqIn_headR]; rfl
end Go.Proofs.Yteenlkmnadjnpaa
