/-
  Same of messages. No claim of its own.
-/
import Derived.Test.YteenlkmnadjnpaaGreatH18
import Derived.Test.YteenlkmnadjnpaaGreatH19
import Derived.Test.YteenlkmnadjnpaaGreatH5
import Derived.Test.YteenlkmnadjnpaaGreatH14
namespace Go.Proofs.YteenlkmnadjnpaaGreat
open Go.RowKit Go.Deep Go.Shelf
set_option linter.unusedVariables false
set_option linter.unusedSimpArgs false

/-- messages are the same, in the order of the tests -/
def msEq (A C : MgT) : Bool := hdEq A C && (decide (A.st = C.st) && (decide (A.bk = C.bk) && (alike A.c C.c && lalike A.ly.x C.ly.x)))
end Go.Proofs.YteenlkmnadjnpaaGreat
namespace Go.Proofs.YteenlkmnadjnpaaGreat
open Go.RowKit Go.Deep Go.Shelf
set_option linter.unusedVariables false
set_option linter.unusedSimpArgs false

set_option maxHeartbeats 2000000 in
set_option maxRecDepth 100000 in
theorem rsameW_any (x y : Ce) (a : Option Addr) (c : Nat) (a2 : Option Addr) (c2 : Nat) (b : Option Addr) (d : Nat) (b2 : Option Addr) (d2 B : Nat) (w : World) (hx : Ro w B a (u8s x.d)) (hx2 : Ro w B a2 (bcs x.b)) (hy : Ro w B b (u8s y.d)) (hy2 : Ro w B b2 (bcs y.b)) (hB : B ≤ w.heap.size)
    (hl : x.b.length ≤ 9223372036854775807) (hl2 : y.b.length ≤ 9223372036854775807) :
    Calls Tryz.prog 62 #[cev x.k a x.d.length c a2 x.b.length c2, cev y.k b y.d.length d b2 y.b.length d2] w fun e w' => e = .returned (.bool (alike x y)) ∧ Below w.heap.size w w' := by
  obtain ⟨k, l, L⟩ := x
  obtain ⟨k', l', L'⟩ := y
  simp only at hx hx2 hy hy2 hl hl2 ⊢
  obtain ⟨W, hW⟩ : ∃ W, (w.alloc (.cells #[.int .i64 k, .slice a l.length c, .slice a2 L.length c2] 32)).alloc (.cells #[.int .i64 k', .slice b l'.length d, .slice b2 L'.length d2] 32) = W := ⟨_, rfl⟩
  have hbW : Below w.heap.size w W := by rw [← hW]; exact ((Below.refl _ w).alloc (Nat.le_refl _) _).alloc (by simp) _
  have o1 : Own W w.heap.size 32 [.int .i64 k, .slice a l.length c, .slice a2 L.length c2] := by rw [← hW]; exact (Own.new w _ _).alloc _
  have o2 : Own W (w.heap.size + 1) 32 [.int .i64 k', .slice b l'.length d, .slice b2 L'.length d2] := by
    rw [← hW]
    have := Own.new (w.alloc (.cells #[.int .i64 k, .slice a l.length c, .slice a2 L.length c2] 32)) 32 [.int .i64 k', .slice b l'.length d, .slice b2 L'.length d2]
    simpa using this
  have e1 := conv_ro (c := c) (hx.below hbW hB) rfl
  have e2 := conv_ro (c := d) (hy.below hbW hB) rfl
  have HX2 := Lib.hid (hx2.below hbW hB)
  have HY2 := Lib.hid (hy2.below hbW hB)
  have HO1 := Lib.hid o1
  have HO2 := Lib.hid o2
  have HBW := Lib.hid hbW
  obtain ⟨t, HT⟩ : ∃ t, Hid (alike ⟨k, l, L⟩ ⟨k', l', L'⟩ = t) := ⟨_, Lib.hid rfl⟩
  rw [HT.out]
  have c0 := o1.cell 0
  have c1 := o1.cell 1
  have c2' := o1.cell 2
  have d0 := o2.cell 0
  have d1 := o2.cell 1
  have d2' := o2.cell 2
  simp at c0 c1 c2' d0 d1 d2'
  clear hx hx2 hy hy2 o1 o2 hbW
  have HW := Lib.hid hW
  clear hW
  obtain ⟨n, HN⟩ : ∃ n, Hid (L.length = n) := ⟨_, Lib.hid rfl⟩
  obtain ⟨m, HM⟩ : ∃ m, Hid (L'.length = m) := ⟨_, Lib.hid rfl⟩
  rw [HN.out] at hl c2' HW HO1 ⊢
  rw [HM.out] at hl2 d2' HW HO2 ⊢
  generalize hl1 : l.length = p at *
  generalize hl1' : l'.length = p' at *
  have HP1 := Lib.hid hl1
  have HP2 := Lib.hid hl1'
  clear hl1 hl1'
  by_cases hk : k = k'
  · subst hk
    by_cases hd : l = l'
    · have hs : (!(({ data := l.toArray } : ByteArray) == ({ data := l'.toArray } : ByteArray))) = false := by rw [bytes_beq]; simp [hd]
      have HD := Lib.hid hd
      clear hd
      by_cases hnm : n = m
      · subst hnm
        go_enter Tryz.func62, Tryz.ntmps62
        go_wp2_with fail
        rw [HW.out]
        go_simp
        go_wp2_with fail
        clear e1 e2 hs c0 c1 c2' d0 d1 d2'
        go_loopw [5] (fun i wr => ∃ k : Nat, i = .int .i64 k ∧ k ≤ n ∧ Hid (L.take k = L'.take k) ∧ Hid (Qt W wr)) (fun i _ => n - (intOf i).toNat)
        case atStart => exact ⟨0, rfl, Nat.zero_le _, Lib.hid rfl, Lib.hid (Qt.refl _)⟩
        case round =>
          obtain ⟨i, rfl, hi, HTK, HQ⟩ := hrel
          have c2' := (HO1.out.qt HQ.out).cell 2
          have d2' := (HO2.out.qt HQ.out).cell 2
          simp at c2' d2'
          by_cases hlt : i < n
          · have hkA : i < L.length := by rw [HN.out]; exact hlt
            have hkB : i < L'.length := by rw [HM.out]; exact hlt
            obtain ⟨g, off, rfl, hg, hcl⟩ := (HX2.out.qt HQ.out).bk (by omega)
            obtain ⟨g', off', rfl, hg', hcl'⟩ := (HY2.out.qt HQ.out).bk (by omega)
            obtain ⟨h1, h2, h3⟩ := hcl i hkA
            obtain ⟨h4, h5, h6⟩ := hcl' i hkB
            have HTS := Lib.hid (take_succ_eqB hkA hkB HTK.out)
            have HNE := Lib.hid (@ne_of_bk L L' i)
            clear hcl hcl'
            generalize bk L i = x at *
            generalize bk L' i = y at *
            have hk0 : (0 : Int) ≤ (i : Int) := by omega
            have hk1 : (i : Int) < (n : Int) := by omega
            by_cases hxy : x = y
            · subst hxy
              have hN : ∀ W, (binOp .neq 96 (bkv x) (bkv x)).run Tryz.prog W = .ok (.bool false) W := fun W => by rw [neq_back]; simp
              go_wp2_with fail
              go_region
              go_wp2_with fail
              go_roundw
              case rel => exact ⟨i + 1, by go_num, by omega, Lib.hid (HTS.out trivial), Lib.hid (by first | exact HQ.out | exact HQ.out.trans ⟨1, rfl⟩)⟩
              case measure => simp [intOf]; omega
            · have hN : ∀ W, (binOp .neq 96 (bkv x) (bkv y)).run Tryz.prog W = .ok (.bool true) W := fun W => by rw [neq_back]; simp [hxy]
              have HF := Lib.hid (HNE.out hxy)
              obtain rfl : t = false := by rw [← HT.out]; unfold alike; simp only [HF.out]; simp
              go_wp2_with fail
              go_region
              go_wp2_with fail
              go_ret
              exact ⟨rfl, Qt.below (by first | exact HQ.out | exact HQ.out.trans ⟨1, rfl⟩) HBW.out⟩
          · obtain rfl : i = n := by omega
            obtain rfl : t = true := by
              rw [← HT.out, alike_iff]
              have ht := HTK.out
              rw [List.take_of_length_le (by rw [HN.out]; omega), List.take_of_length_le (by rw [HM.out]; omega)] at ht
              exact Ce.ext' rfl HD.out ht
            go_wp2_with fail
            go_ret
            exact ⟨rfl, HQ.out.below HBW.out⟩
      · obtain rfl : t = false := by
          rw [← HT.out]; unfold alike
          have : decide (L = L') = false := by simp only [decide_eq_false_iff_not]; rintro rfl; exact hnm (HN.out.symm.trans HM.out)
          simp only [this]; simp
        have hd0 : ((n : Int) != (m : Int)) = true := by rw [bne_iff_ne]; omega
        go_enter Tryz.func62, Tryz.ntmps62
        go_wp2_with fail
        rw [HW.out]
        go_simp
        go_wp2_with fail
        go_ret
        exact ⟨rfl, HBW.out⟩
    · have hs : (!(({ data := l.toArray } : ByteArray) == ({ data := l'.toArray } : ByteArray))) = true := by rw [bytes_beq]; simp [hd]
      obtain rfl : t = false := by rw [← HT.out]; unfold alike; simp [hd]
      have hd2 : (!(l == l')) = true := by simp [hd]
      go_enter Tryz.func62, Tryz.ntmps62
      go_wp2_with fail
      rw [HW.out]
      go_simp
      go_wp2_with fail
      go_ret
      exact ⟨rfl, HBW.out⟩
  · have h1 : (k != k') = true := by rw [bne_iff_ne]; omega
    obtain rfl : t = false := by rw [← HT.out]; unfold alike; simp [hk]
    clear hk
    go_enter Tryz.func62, Tryz.ntmps62
    go_wp2_with fail
    rw [HW.out]
    go_ret
    exact ⟨rfl, HBW.out⟩
end Go.Proofs.YteenlkmnadjnpaaGreat
namespace Go.Proofs.YteenlkmnadjnpaaGreat
open Go.RowKit Go.Deep Go.Shelf
set_option linter.unusedVariables false
set_option linter.unusedSimpArgs false

theorem eqw_place (a b a' b' : Int) (w : World) : (Op.equalIn 10000 25 (.agg #[.int .i64 a, .int .i64 b]) (.agg #[.int .i64 a', .int .i64 b'])).run Tryz.prog w = .ok (decide (a = a' ∧ b = b')) w := by
  have g0 : ∀ (x y : Value), (part 23 #[x, y] 0).run Tryz.prog w = .ok x w := fun x y => run_part_cell Tryz.underlying23 rfl w
  have g1 : ∀ (x y : Value), (part 3 #[x, y] 1).run Tryz.prog w = .ok y w := fun x y => run_part_cell Tryz.underlying3 rfl w
  have gg : ∀ (x y : Value), (part 23 #[x, y] 1).run Tryz.prog w = .ok y w := fun x y => run_part_cell Tryz.underlying23 rfl w
  have ge : ∀ (x y : Int), (Op.equalIn 9999 3 (.int .i64 x) (.int .i64 y)).run Tryz.prog w = .ok (x == y) w := fun x y => run_equalIn_int w 9998 3 .i64 .i64 _ _ Tryz.underlying3
  have gr : ∀ (x y : Int), (Op.equalIn 9999 23 (.int .i64 x) (.int .i64 y)).run Tryz.prog w = .ok (x == y) w := fun x y => run_equalIn_int w 9998 23 .i64 .i64 _ _ Tryz.underlying23
  refine (run_equalIn_struct w 9999 25 _ _ (by kernel_rfl) (by kernel_rfl)).trans ?_
  simp [Program.fieldsOf, Tryz.underlying25, Op.eqFields, g0, g1, gg, ge, gr]
  by_cases h1 : a = a'
  · by_cases h2 : b = b' <;> simp [h1, h2]
  · simp [h1]
theorem eqb_place (a b a' b' : Int) {r : Bool} (h : decide (a = a' ∧ b = b') = r) (w : World) : (binOp .eql 25 (.agg #[.int .i64 a, .int .i64 b]) (.agg #[.int .i64 a', .int .i64 b'])).run Tryz.prog w = .ok (.bool r) w := by
  rw [run_eql_struct, eqw_place, h]; rfl
theorem eqw_ballot (a b a' b' : Int) (w : World) : (Op.equalIn 10000 35 (.agg #[.int .i64 a, .int .i64 b]) (.agg #[.int .i64 a', .int .i64 b'])).run Tryz.prog w = .ok (decide (a = a' ∧ b = b')) w := by
  have g0 : ∀ (x y : Value), (part 3 #[x, y] 0).run Tryz.prog w = .ok x w := fun x y => run_part_cell Tryz.underlying3 rfl w
  have g1 : ∀ (x y : Value), (part 3 #[x, y] 1).run Tryz.prog w = .ok y w := fun x y => run_part_cell Tryz.underlying3 rfl w
  have gg : ∀ (x y : Value), (part 3 #[x, y] 1).run Tryz.prog w = .ok y w := fun x y => run_part_cell Tryz.underlying3 rfl w
  have ge : ∀ (x y : Int), (Op.equalIn 9999 3 (.int .i64 x) (.int .i64 y)).run Tryz.prog w = .ok (x == y) w := fun x y => run_equalIn_int w 9998 3 .i64 .i64 _ _ Tryz.underlying3
  have gr : ∀ (x y : Int), (Op.equalIn 9999 3 (.int .i64 x) (.int .i64 y)).run Tryz.prog w = .ok (x == y) w := fun x y => run_equalIn_int w 9998 3 .i64 .i64 _ _ Tryz.underlying3
  refine (run_equalIn_struct w 9999 35 _ _ (by kernel_rfl) (by kernel_rfl)).trans ?_
  simp [Program.fieldsOf, Tryz.underlying35, Op.eqFields, g0, g1, gg, ge, gr]
  by_cases h1 : a = a'
  · by_cases h2 : b = b' <;> simp [h1, h2]
  · simp [h1]
theorem eqb_ballot (a b a' b' : Int) {r : Bool} (h : decide (a = a' ∧ b = b') = r) (w : World) : (binOp .eql 35 (.agg #[.int .i64 a, .int .i64 b]) (.agg #[.int .i64 a', .int .i64 b'])).run Tryz.prog w = .ok (.bool r) w := by
  rw [run_eql_struct, eqw_ballot, h]; rfl
set_option maxHeartbeats 8000000 in
set_option maxRecDepth 100000 in
theorem rmsame_any (A C : MgT) (B : Nat) (w0 : World) (ha : MgIn w0 B A) (hc : MgIn w0 B C) (hB : B ≤ w0.heap.size) (hfa : MgFit A) (hfc : MgFit C) :
    Calls Tryz.prog 16 #[.agg A.cs.toArray, .agg C.cs.toArray] w0 fun e w' => e = .returned (.bool (msEq A C)) ∧ Below w0.heap.size w0 w' := by
  obtain ⟨W, HWW⟩ : ∃ W, Hid ((w0.alloc (.cells A.cs.toArray 40)).alloc (.cells C.cs.toArray 40) = W) := ⟨_, Lib.hid rfl⟩
  have hWb : Below w0.heap.size w0 W := by rw [← HWW.out]; exact ((Below.refl _ _).alloc (Nat.le_refl _) _).alloc (by simp) _
  have ho1 : Own W w0.heap.size 40 A.cs := by rw [← HWW.out]; exact (Own.new w0 _ _).alloc _
  have ho2 : Own W (w0.heap.size + 1) 40 C.cs := by
    rw [← HWW.out]
    have := Own.new (w0.alloc (.cells A.cs.toArray 40)) 40 C.cs
    rw [World.size_alloc] at this
    exact this
  have HB := Lib.hid hWb
  have HS := Lib.hid (Nat.le_trans hB hWb.size)
  have HST : Hid (∀ V, Below W.heap.size W V → Calls Tryz.prog 61 #[.slice A.sa A.st.length A.sc, .slice C.sa C.st.length C.sc] V fun e w' => e = .returned (.bool (decide (A.st = C.st))) ∧ Below V.heap.size V w') := Lib.hid fun V hV =>
    same10_any A.st C.st A.sa C.sa A.sc C.sc B V (ha.below (hWb.trans (hV.mono hWb.size)) hB).st (hc.below (hWb.trans (hV.mono hWb.size)) hB).st (Nat.le_trans hB (hWb.trans (hV.mono hWb.size)).size) hfa.st hfc.st
  have HCE : Hid (∀ V, Below W.heap.size W V → Calls Tryz.prog 62 #[cev A.c.k A.ca A.c.d.length A.cc A.ca2 A.c.b.length A.cc2, cev C.c.k C.ca C.c.d.length C.cc C.ca2 C.c.b.length C.cc2] V fun e w' => e = .returned (.bool (alike A.c C.c)) ∧ Below V.heap.size V w') := Lib.hid fun V hV =>
    rsameW_any A.c C.c A.ca A.cc A.ca2 A.cc2 C.ca C.cc C.ca2 C.cc2 B V (ha.below (hWb.trans (hV.mono hWb.size)) hB).d (ha.below (hWb.trans (hV.mono hWb.size)) hB).b (hc.below (hWb.trans (hV.mono hWb.size)) hB).d (hc.below (hWb.trans (hV.mono hWb.size)) hB).b (Nat.le_trans hB (hWb.trans (hV.mono hWb.size)).size) hfa.b hfc.b
  have HLY : Hid (∀ V, Below W.heap.size W V → Calls Tryz.prog 63 #[.agg #[.int .u64 (A.ly.e : Int), .slice A.ly.a A.ly.sg.length A.ly.c, .int .i64 A.ly.q], .agg #[.int .u64 (C.ly.e : Int), .slice C.ly.a C.ly.sg.length C.ly.c, .int .i64 C.ly.q]] V fun e w' => e = .returned (.bool (lalike A.ly.x C.ly.x)) ∧ Below V.heap.size V w') := Lib.hid fun V hV =>
    rlsame_any A.ly C.ly B V (ha.below (hWb.trans (hV.mono hWb.size)) hB).ly (hc.below (hWb.trans (hV.mono hWb.size)) hB).ly hfa.ly hfc.ly (Nat.le_trans hB (hWb.trans (hV.mono hWb.size)).size)
  have HBA : Hid (Ro W B A.ka (bcs A.bk)) := Lib.hid (ha.below hWb hB).bk
  have HBC : Hid (Ro W B C.ka (bcs C.bk)) := Lib.hid (hc.below hWb hB).bk
  have hl1 := hfa.bk
  have hl2 := hfc.bk
  have HG1 : Hid (∀ V, Below W.heap.size W V → V.cell? ⟨w0.heap.size, 13, none⟩ = some (.slice A.sa A.st.length A.sc) ∧ V.cell? ⟨w0.heap.size + 1, 13, none⟩ = some (.slice C.sa C.st.length C.sc)) := Lib.hid fun V hV => by
    have q1 := ho1.below hV ho1.lt
    have q2 := ho2.below hV ho2.lt
    exact ⟨(q1.cell 13).trans rfl, (q2.cell 13).trans rfl⟩
  have HG2 : Hid (∀ V, Below W.heap.size W V → V.cell? ⟨w0.heap.size, 10, none⟩ = some (.int .i64 A.c.k) ∧ V.cell? ⟨w0.heap.size, 11, none⟩ = some (.slice A.ca A.c.d.length A.cc) ∧ V.cell? ⟨w0.heap.size, 12, none⟩ = some (.slice A.ca2 A.c.b.length A.cc2) ∧ V.cell? ⟨w0.heap.size + 1, 10, none⟩ = some (.int .i64 C.c.k) ∧ V.cell? ⟨w0.heap.size + 1, 11, none⟩ = some (.slice C.ca C.c.d.length C.cc) ∧ V.cell? ⟨w0.heap.size + 1, 12, none⟩ = some (.slice C.ca2 C.c.b.length C.cc2)) := Lib.hid fun V hV => by
    have q1 := ho1.below hV ho1.lt
    have q2 := ho2.below hV ho2.lt
    exact ⟨(q1.cell 10).trans rfl, (q1.cell 11).trans rfl, (q1.cell 12).trans rfl, (q2.cell 10).trans rfl, (q2.cell 11).trans rfl, (q2.cell 12).trans rfl⟩
  have HG3 : Hid (∀ V, Below W.heap.size W V → V.cell? ⟨w0.heap.size, 19, none⟩ = some (.int .u64 (A.ly.e : Int)) ∧ V.cell? ⟨w0.heap.size, 20, none⟩ = some (.slice A.ly.a A.ly.sg.length A.ly.c) ∧ V.cell? ⟨w0.heap.size, 21, none⟩ = some (.int .i64 A.ly.q) ∧ V.cell? ⟨w0.heap.size + 1, 19, none⟩ = some (.int .u64 (C.ly.e : Int)) ∧ V.cell? ⟨w0.heap.size + 1, 20, none⟩ = some (.slice C.ly.a C.ly.sg.length C.ly.c) ∧ V.cell? ⟨w0.heap.size + 1, 21, none⟩ = some (.int .i64 C.ly.q)) := Lib.hid fun V hV => by
    have q1 := ho1.below hV ho1.lt
    have q2 := ho2.below hV ho2.lt
    exact ⟨(q1.cell 19).trans rfl, (q1.cell 20).trans rfl, (q1.cell 21).trans rfl, (q2.cell 19).trans rfl, (q2.cell 20).trans rfl, (q2.cell 21).trans rfl⟩
  have HG4 : Hid (∀ V, Below W.heap.size W V → V.cell? ⟨w0.heap.size, 14, none⟩ = some (.slice A.ka A.bk.length A.kc) ∧ V.cell? ⟨w0.heap.size + 1, 14, none⟩ = some (.slice C.ka C.bk.length C.kc)) := Lib.hid fun V hV => by
    have q1 := ho1.below hV ho1.lt
    have q2 := ho2.below hV ho2.lt
    exact ⟨(q1.cell 14).trans rfl, (q2.cell 14).trans rfl⟩
  have HG5 : Hid (∀ V, Below W.heap.size W V → V.cell? ⟨w0.heap.size, 0, none⟩ = some (.int .i64 A.k) ∧ V.cell? ⟨w0.heap.size, 1, none⟩ = some (.int .i64 A.fr.1) ∧ V.cell? ⟨w0.heap.size, 2, none⟩ = some (.int .i64 A.fr.2) ∧ V.cell? ⟨w0.heap.size, 3, none⟩ = some (.int .i64 A.to.1) ∧ V.cell? ⟨w0.heap.size, 4, none⟩ = some (.int .i64 A.to.2) ∧ V.cell? ⟨w0.heap.size, 5, none⟩ = some (.int .i64 A.id) ∧ V.cell? ⟨w0.heap.size, 6, none⟩ = some (.int .i64 A.f) ∧ V.cell? ⟨w0.heap.size, 7, none⟩ = some (.int .u64 (A.ep : Int)) ∧ V.cell? ⟨w0.heap.size, 8, none⟩ = some (.int .u64 (A.ad : Int)) ∧ V.cell? ⟨w0.heap.size, 9, none⟩ = some (.int .i64 A.er) ∧ V.cell? ⟨w0.heap.size, 15, none⟩ = some (.int .i64 A.ba.1) ∧ V.cell? ⟨w0.heap.size, 16, none⟩ = some (.int .i64 A.ba.2) ∧ V.cell? ⟨w0.heap.size, 17, none⟩ = some (.int .i64 A.pr.1) ∧ V.cell? ⟨w0.heap.size, 18, none⟩ = some (.int .i64 A.pr.2) ∧ V.cell? ⟨w0.heap.size + 1, 0, none⟩ = some (.int .i64 C.k) ∧ V.cell? ⟨w0.heap.size + 1, 1, none⟩ = some (.int .i64 C.fr.1) ∧ V.cell? ⟨w0.heap.size + 1, 2, none⟩ = some (.int .i64 C.fr.2) ∧ V.cell? ⟨w0.heap.size + 1, 3, none⟩ = some (.int .i64 C.to.1) ∧ V.cell? ⟨w0.heap.size + 1, 4, none⟩ = some (.int .i64 C.to.2) ∧ V.cell? ⟨w0.heap.size + 1, 5, none⟩ = some (.int .i64 C.id) ∧ V.cell? ⟨w0.heap.size + 1, 6, none⟩ = some (.int .i64 C.f) ∧ V.cell? ⟨w0.heap.size + 1, 7, none⟩ = some (.int .u64 (C.ep : Int)) ∧ V.cell? ⟨w0.heap.size + 1, 8, none⟩ = some (.int .u64 (C.ad : Int)) ∧ V.cell? ⟨w0.heap.size + 1, 9, none⟩ = some (.int .i64 C.er) ∧ V.cell? ⟨w0.heap.size + 1, 15, none⟩ = some (.int .i64 C.ba.1) ∧ V.cell? ⟨w0.heap.size + 1, 16, none⟩ = some (.int .i64 C.ba.2) ∧ V.cell? ⟨w0.heap.size + 1, 17, none⟩ = some (.int .i64 C.pr.1) ∧ V.cell? ⟨w0.heap.size + 1, 18, none⟩ = some (.int .i64 C.pr.2)) := Lib.hid fun V hV => by
    have q1 := ho1.below hV ho1.lt
    have q2 := ho2.below hV ho2.lt
    exact ⟨(q1.cell 0).trans rfl, (q1.cell 1).trans rfl, (q1.cell 2).trans rfl, (q1.cell 3).trans rfl, (q1.cell 4).trans rfl, (q1.cell 5).trans rfl, (q1.cell 6).trans rfl, (q1.cell 7).trans rfl, (q1.cell 8).trans rfl, (q1.cell 9).trans rfl, (q1.cell 15).trans rfl, (q1.cell 16).trans rfl, (q1.cell 17).trans rfl, (q1.cell 18).trans rfl, (q2.cell 0).trans rfl, (q2.cell 1).trans rfl, (q2.cell 2).trans rfl, (q2.cell 3).trans rfl, (q2.cell 4).trans rfl, (q2.cell 5).trans rfl, (q2.cell 6).trans rfl, (q2.cell 7).trans rfl, (q2.cell 8).trans rfl, (q2.cell 9).trans rfl, (q2.cell 15).trans rfl, (q2.cell 16).trans rfl, (q2.cell 17).trans rfl, (q2.cell 18).trans rfl⟩
  have HIFF : Hid (msEq A C = true ↔ (hdEq A C = true ∧ decide (A.st = C.st) = true ∧ A.bk = C.bk ∧ alike A.c C.c = true ∧ lalike A.ly.x C.ly.x = true)) := Lib.hid (by
    unfold msEq
    simp only [Bool.and_eq_true]
    constructor
    · rintro ⟨h1, h2, h3, h4, h5⟩; exact ⟨h1, h2, of_decide_eq_true h3, h4, h5⟩
    · rintro ⟨h1, h2, h3, h4, h5⟩; exact ⟨h1, h2, decide_eq_true h3, h4, h5⟩)
  have HHD : Hid (hdEq A C = true ↔ (A.k = C.k ∧ A.f = C.f ∧ (A.fr.1 = C.fr.1 ∧ A.fr.2 = C.fr.2) ∧ (A.to.1 = C.to.1 ∧ A.to.2 = C.to.2) ∧ A.id = C.id ∧ A.ep = C.ep ∧ A.ad = C.ad ∧ A.er = C.er ∧ (A.ba.1 = C.ba.1 ∧ A.ba.2 = C.ba.2) ∧ (A.pr.1 = C.pr.1 ∧ A.pr.2 = C.pr.2))) := Lib.hid ⟨fun h => of_decide_eq_true h, fun h => decide_eq_true h⟩
  generalize msEq A C = t at *
  generalize hdEq A C = th at *
  generalize decide (A.st = C.st) = t2 at *
  generalize alike A.c C.c = t4 at *
  generalize lalike A.ly.x C.ly.x = t5 at *
  clear ha hc hB hfa hfc hWb ho1 ho2
  generalize A.ka = ka at *
  generalize C.ka = ka' at *
  generalize A.bk = L at *
  generalize C.bk = L' at *
  obtain ⟨n, hn⟩ : ∃ n, L.length = n := ⟨_, rfl⟩
  obtain ⟨m, hm⟩ : ∃ m, L'.length = m := ⟨_, rfl⟩
  rw [hn] at HG4 hl1
  rw [hm] at HG4 hl2
  have HN := Lib.hid hn
  have HM := Lib.hid hm
  clear hn hm
  go_enter Tryz.func16, Tryz.ntmps16
  go_upto_region 1 with fail
  rw [HWW.out]
  obtain ⟨c1, c2⟩ := HG1.out W (Below.refl _ _)
  go_wp2_with fail
  refine (HST.out W (Below.refl _ _)).mono ?_
  rintro e w1 ⟨rfl, hb⟩
  have HB1 := Lib.hid hb
  clear c1 c2 hb
  obtain ⟨c1, c2, c3, d1, d2, d3⟩ := HG2.out w1 HB1.out
  go_wp2_with fail
  refine (HCE.out w1 HB1.out).mono ?_
  rintro e w2 ⟨rfl, hb⟩
  have HB2 := Lib.hid (HB1.out.trans (hb.mono HB1.out.size))
  clear c1 c2 c3 d1 d2 d3 hb
  obtain ⟨c1, c2, c3, d1, d2, d3⟩ := HG3.out w2 HB2.out
  go_wp2_with fail
  refine (HLY.out w2 HB2.out).mono ?_
  rintro e w3 ⟨rfl, hb⟩
  have HB3 := Lib.hid (HB2.out.trans (hb.mono HB2.out.size))
  clear c1 c2 c3 d1 d2 d3 hb
  obtain ⟨c1, c2⟩ := HG4.out w3 HB3.out
  by_cases e : n = m
  case neg =>
    have e1 : ((n : Int) != (m : Int)) = true := by rw [bne_iff_ne]; omega
    obtain rfl : t = false := by
      cases t with
      | false => rfl
      | true => exact absurd (HN.out.symm.trans ((congrArg List.length (HIFF.out.1 rfl).2.2.1).trans HM.out)) e
    clear e
    go_wp2_with fail
    go_ret
    exact ⟨rfl, HB.out.trans (HB3.out.mono HB.out.size)⟩
  subst e
  go_wp2_with fail
  clear c1 c2
  go_loopw [8] (fun i wr => ∃ k : Nat, i = .int .i64 k ∧ k ≤ n ∧ Hid (L.take k = L'.take k) ∧ Hid (Below W.heap.size W wr)) (fun i _ => n - (intOf i).toNat)
  case atStart => exact ⟨0, rfl, Nat.zero_le _, Lib.hid rfl, HB3⟩
  case round =>
    obtain ⟨i, rfl, hi, HTK, HQ⟩ := hrel
    rename World => w6
    by_cases hlt : i < n
    · have hkA : i < L.length := by rw [HN.out]; exact hlt
      have hkB : i < L'.length := by rw [HM.out]; exact hlt
      obtain ⟨c1, c2⟩ := HG4.out w6 HQ.out
      obtain ⟨g, off, rfl, hg, hcl⟩ := (HBA.out.below HQ.out HS.out).bk (by omega)
      obtain ⟨g', off', rfl, hg', hcl'⟩ := (HBC.out.below HQ.out HS.out).bk (by omega)
      obtain ⟨h1, h2, h3⟩ := hcl i hkA
      obtain ⟨h4, h5, h6⟩ := hcl' i hkB
      have HTS := Lib.hid (take_succ_eqB hkA hkB HTK.out)
      have HNE := Lib.hid (@ne_of_bk L L' i)
      clear hcl hcl'
      generalize bk L i = x at *
      generalize bk L' i = y at *
      have hk0 : (0 : Int) ≤ (i : Int) := by omega
      have hk1 : (i : Int) < (n : Int) := by omega
      by_cases hxy : x = y
      · subst hxy
        have hN : ∀ W, (binOp .neq 96 (bkv x) (bkv x)).run Tryz.prog W = .ok (.bool false) W := fun W => by rw [neq_back]; simp
        go_wp2_with fail
        go_region
        go_wp2_with fail
        go_roundw
        case rel => exact ⟨i + 1, by go_num, by omega, Lib.hid (HTS.out trivial), Lib.hid (by first | exact HQ.out | exact HQ.out.drew)⟩
        case measure => simp [intOf]; omega
      · have hN : ∀ W, (binOp .neq 96 (bkv x) (bkv y)).run Tryz.prog W = .ok (.bool true) W := fun W => by rw [neq_back]; simp [hxy]
        obtain rfl : t = false := by
          cases t with
          | false => rfl
          | true =>
            have h7 := HNE.out hxy
            have h8 := (HIFF.out.1 rfl).2.2.1
            simp [h8] at h7
        go_wp2_with fail
        go_region
        go_wp2_with fail
        go_ret
        exact ⟨rfl, HB.out.trans ((show Below W.heap.size W _ by first | exact HQ.out | exact HQ.out.drew).mono HB.out.size)⟩
    · obtain rfl : i = n := by omega
      have HLL : Hid (L = L') := Lib.hid (by
        have ht := HTK.out
        rwa [List.take_of_length_le (by rw [HN.out]; omega), List.take_of_length_le (by rw [HM.out]; omega)] at ht)
      have hE := HB.out.trans (HQ.out.mono HB.out.size)
      have HE := Lib.hid hE
      clear hE
      obtain ⟨x1, x2⟩ := HG4.out w6 HQ.out
      go_upto_region 11 with fail
      clear x1 x2 HST HCE HLY HG1 HG2 HG3 HG4 HBA HBC HTK HN HM HB HS HWW HB1 HB2 HB3 hlt hi hl1 hl2
      have HG := Lib.hid (HG5.out w6 HQ.out)
      clear HG5 HQ
      refine wp_region_lit ?_
      obtain ⟨y0, _, _, _, _, _, _, _, _, _, _, _, _, _, y14, _, _, _, _, _, _, _, _, _, _, _, _, _⟩ := HG.out
      by_cases e : A.k = C.k
      case neg =>
        have z : (A.k == C.k) = false := by rw [beq_eq_false_iff_ne]; exact e
        obtain rfl : t = false := by
          cases t with
          | false => rfl
          | true => exact absurd (HHD.out.1 (HIFF.out.1 rfl).1).1 e
        clear e HG HIFF HHD HLL
        go_wp2_with fail
        go_ret
        exact ⟨rfl, HE.out⟩
      have z : (A.k == C.k) = true := by rw [beq_iff_eq]; exact e
      have E0 := Lib.hid e
      clear e
      iterate 12 go_step
      clear z y0 y14
      obtain ⟨_, _, _, _, _, _, y6, _, _, _, _, _, _, _, _, _, _, _, _, _, y20, _, _, _, _, _, _, _⟩ := HG.out
      by_cases e : A.f = C.f
      case neg =>
        have z : (A.f == C.f) = false := by rw [beq_eq_false_iff_ne]; exact e
        obtain rfl : t = false := by
          cases t with
          | false => rfl
          | true => exact absurd (HHD.out.1 (HIFF.out.1 rfl).1).2.1 e
        clear e HG HIFF HHD HLL E0
        go_wp2_with fail
        go_ret
        exact ⟨rfl, HE.out⟩
      have z : (A.f == C.f) = true := by rw [beq_iff_eq]; exact e
      have E1 := Lib.hid e
      clear e
      iterate 14 go_step
      clear z y6 y20
      obtain ⟨_, y1, y2, _, _, _, _, _, _, _, _, _, _, _, _, y15, y16, _, _, _, _, _, _, _, _, _, _, _⟩ := HG.out
      by_cases e : A.fr.1 = C.fr.1 ∧ A.fr.2 = C.fr.2
      case neg =>
        have z := eqb_place A.fr.1 A.fr.2 C.fr.1 C.fr.2 (decide_eq_false e)
        obtain rfl : t = false := by
          cases t with
          | false => rfl
          | true => exact absurd (HHD.out.1 (HIFF.out.1 rfl).1).2.2.1 e
        clear e HG HIFF HHD HLL E0 E1
        go_wp2_with fail
        go_ret
        exact ⟨rfl, HE.out⟩
      have z := eqb_place A.fr.1 A.fr.2 C.fr.1 C.fr.2 (decide_eq_true e)
      have E2 := Lib.hid e
      clear e
      iterate 14 go_step
      clear z y1 y2 y15 y16
      obtain ⟨_, _, _, y3, y4, _, _, _, _, _, _, _, _, _, _, _, _, y17, y18, _, _, _, _, _, _, _, _, _⟩ := HG.out
      by_cases e : A.to.1 = C.to.1 ∧ A.to.2 = C.to.2
      case neg =>
        have z := eqb_place A.to.1 A.to.2 C.to.1 C.to.2 (decide_eq_false e)
        obtain rfl : t = false := by
          cases t with
          | false => rfl
          | true => exact absurd (HHD.out.1 (HIFF.out.1 rfl).1).2.2.2.1 e
        clear e HG HIFF HHD HLL E0 E1 E2
        go_wp2_with fail
        go_ret
        exact ⟨rfl, HE.out⟩
      have z := eqb_place A.to.1 A.to.2 C.to.1 C.to.2 (decide_eq_true e)
      have E3 := Lib.hid e
      clear e
      iterate 14 go_step
      clear z y3 y4 y17 y18
      obtain ⟨_, _, _, _, _, y5, _, _, _, _, _, _, _, _, _, _, _, _, _, y19, _, _, _, _, _, _, _, _⟩ := HG.out
      by_cases e : A.id = C.id
      case neg =>
        have z : (A.id == C.id) = false := by rw [beq_eq_false_iff_ne]; exact e
        obtain rfl : t = false := by
          cases t with
          | false => rfl
          | true => exact absurd (HHD.out.1 (HIFF.out.1 rfl).1).2.2.2.2.1 e
        clear e HG HIFF HHD HLL E0 E1 E2 E3
        go_wp2_with fail
        go_ret
        exact ⟨rfl, HE.out⟩
      have z : (A.id == C.id) = true := by rw [beq_iff_eq]; exact e
      have E4 := Lib.hid e
      clear e
      iterate 14 go_step
      clear z y5 y19
      obtain ⟨_, _, _, _, _, _, _, y7, _, _, _, _, _, _, _, _, _, _, _, _, _, y21, _, _, _, _, _, _⟩ := HG.out
      by_cases e : A.ep = C.ep
      case neg =>
        have z : ((A.ep : Int) == (C.ep : Int)) = false := by rw [beq_eq_false_iff_ne]; omega
        obtain rfl : t = false := by
          cases t with
          | false => rfl
          | true => exact absurd (HHD.out.1 (HIFF.out.1 rfl).1).2.2.2.2.2.1 e
        clear e HG HIFF HHD HLL E0 E1 E2 E3 E4
        go_wp2_with fail
        go_ret
        exact ⟨rfl, HE.out⟩
      have z : ((A.ep : Int) == (C.ep : Int)) = true := by rw [beq_iff_eq, e]
      have E5 := Lib.hid e
      clear e
      iterate 14 go_step
      clear z y7 y21
      obtain ⟨_, _, _, _, _, _, _, _, y8, _, _, _, _, _, _, _, _, _, _, _, _, _, y22, _, _, _, _, _⟩ := HG.out
      by_cases e : A.ad = C.ad
      case neg =>
        have z : ((A.ad : Int) == (C.ad : Int)) = false := by rw [beq_eq_false_iff_ne]; omega
        obtain rfl : t = false := by
          cases t with
          | false => rfl
          | true => exact absurd (HHD.out.1 (HIFF.out.1 rfl).1).2.2.2.2.2.2.1 e
        clear e HG HIFF HHD HLL E0 E1 E2 E3 E4 E5
        go_wp2_with fail
        go_ret
        exact ⟨rfl, HE.out⟩
      have z : ((A.ad : Int) == (C.ad : Int)) = true := by rw [beq_iff_eq, e]
      have E6 := Lib.hid e
      clear e
      iterate 14 go_step
      clear z y8 y22
      obtain ⟨_, _, _, _, _, _, _, _, _, y9, _, _, _, _, _, _, _, _, _, _, _, _, _, y23, _, _, _, _⟩ := HG.out
      by_cases e : A.er = C.er
      case neg =>
        have z : (A.er == C.er) = false := by rw [beq_eq_false_iff_ne]; exact e
        obtain rfl : t = false := by
          cases t with
          | false => rfl
          | true => exact absurd (HHD.out.1 (HIFF.out.1 rfl).1).2.2.2.2.2.2.2.1 e
        clear e HG HIFF HHD HLL E0 E1 E2 E3 E4 E5 E6
        go_wp2_with fail
        go_ret
        exact ⟨rfl, HE.out⟩
      have z : (A.er == C.er) = true := by rw [beq_iff_eq]; exact e
      have E7 := Lib.hid e
      clear e
      iterate 14 go_step
      clear z y9 y23
      obtain ⟨_, _, _, _, _, _, _, _, _, _, y10, y11, _, _, _, _, _, _, _, _, _, _, _, _, y24, y25, _, _⟩ := HG.out
      by_cases e : A.ba.1 = C.ba.1 ∧ A.ba.2 = C.ba.2
      case neg =>
        have z := eqb_ballot A.ba.1 A.ba.2 C.ba.1 C.ba.2 (decide_eq_false e)
        obtain rfl : t = false := by
          cases t with
          | false => rfl
          | true => exact absurd (HHD.out.1 (HIFF.out.1 rfl).1).2.2.2.2.2.2.2.2.1 e
        clear e HG HIFF HHD HLL E0 E1 E2 E3 E4 E5 E6 E7
        go_wp2_with fail
        go_ret
        exact ⟨rfl, HE.out⟩
      have z := eqb_ballot A.ba.1 A.ba.2 C.ba.1 C.ba.2 (decide_eq_true e)
      have E8 := Lib.hid e
      clear e
      iterate 14 go_step
      clear z y10 y11 y24 y25
      obtain ⟨_, _, _, _, _, _, _, _, _, _, _, _, y12, y13, _, _, _, _, _, _, _, _, _, _, _, _, y26, y27⟩ := HG.out
      by_cases e : A.pr.1 = C.pr.1 ∧ A.pr.2 = C.pr.2
      case neg =>
        have z := eqb_ballot A.pr.1 A.pr.2 C.pr.1 C.pr.2 (decide_eq_false e)
        obtain rfl : t = false := by
          cases t with
          | false => rfl
          | true => exact absurd (HHD.out.1 (HIFF.out.1 rfl).1).2.2.2.2.2.2.2.2.2 e
        clear e HG HIFF HHD HLL E0 E1 E2 E3 E4 E5 E6 E7 E8
        go_wp2_with fail
        go_ret
        exact ⟨rfl, HE.out⟩
      have z := eqb_ballot A.pr.1 A.pr.2 C.pr.1 C.pr.2 (decide_eq_true e)
      have E9 := Lib.hid e
      clear e
      iterate 14 go_step
      have HTH : Hid (th = true) := Lib.hid (HHD.out.2 ⟨E0.out, E1.out, E2.out, E3.out, E4.out, E5.out, E6.out, E7.out, E8.out, E9.out⟩)
      clear HHD HG E0 E1 E2 E3 E4 E5 E6 E7 E8 E9
      cases t2 with
      | false =>
        obtain rfl : t = false := by
          cases t with
          | false => rfl
          | true => exact absurd (HIFF.out.1 rfl).2.1 (by simp)
        clear HIFF HLL HTH
        go_wp2_with fail
        all_goals (go_ret; exact ⟨rfl, HE.out⟩)
      | true =>
      cases t4 with
      | false =>
        obtain rfl : t = false := by
          cases t with
          | false => rfl
          | true => exact absurd (HIFF.out.1 rfl).2.2.2.1 (by simp)
        clear HIFF HLL HTH
        go_wp2_with fail
        all_goals (go_ret; exact ⟨rfl, HE.out⟩)
      | true =>
      cases t5 with
      | false =>
        obtain rfl : t = false := by
          cases t with
          | false => rfl
          | true => exact absurd (HIFF.out.1 rfl).2.2.2.2 (by simp)
        clear HIFF HLL HTH
        go_wp2_with fail
        all_goals (go_ret; exact ⟨rfl, HE.out⟩)
      | true =>
      obtain rfl : t = true := HIFF.out.2 ⟨HTH.out, by trivial, HLL.out, by trivial, by trivial⟩
      clear HIFF HLL HTH
      go_wp2_with fail
      all_goals (go_ret; exact ⟨rfl, HE.out⟩)
end Go.Proofs.YteenlkmnadjnpaaGreat
namespace Go.Proofs.YteenlkmnadjnpaaGreat
open Go.RowKit Go.Deep Go.Shelf
set_option linter.unusedVariables false
set_option linter.unusedSimpArgs false

def lfC (L : List ChT) : Bool := decide (L.length ≤ 10 ∧ ∀ j, j < L.length → (ct L j).u.length ≤ 10)
theorem lfC_iff (L : List ChT) : lfC L = true ↔ (L.length ≤ 10 ∧ ∀ j, j < L.length → (ct L j).u.length ≤ 10) := by simp [lfC]
def lfL (L : List SgT) : Bool := decide (L.length ≤ 10 ∧ ∀ j, j < L.length → lfC (st L j).ch = true)
theorem lfL_iff (L : List SgT) : lfL L = true ↔ (L.length ≤ 10 ∧ ∀ j, j < L.length → lfC (st L j).ch = true) := by simp [lfL]
/-- is a message one that is asked about? -/
def mfits (A : MgT) : Bool := (decide (A.c.d.length ≤ 400) && decide (A.c.b.length ≤ 30)) && (lfL A.ly.sg && (decide (A.st.length ≤ 30) && decide (A.bk.length ≤ 30)))
set_option maxHeartbeats 1000000 in
theorem fitsC_x (L : List ChT) (a : Option Addr) (c B : Nat) (w : World) (hro : Ro w B a (chv L)) (hB : B ≤ w.heap.size) (hl : L.length ≤ 9223372036854775807) :
    Calls Tryz.prog 91 #[.slice a L.length c] w fun e w' => e = .returned (.bool (lfC L)) ∧ Below w.heap.size w w' := by
  have HRO := Lib.hid hro
  have HS := Lib.hid hB
  have hv := lfC_iff L
  generalize lfC L = r at *
  generalize hN : L.length = n at *
  have HV := Lib.hid hv
  clear hv
  have HN := Lib.hid hN
  have hn1 : (n : Int) ≤ 9223372036854775807 := by omega
  clear hro hB hN
  go_enter Tryz.func91, Tryz.ntmps91
  go_wp2_with fail
  go_loopw [3] (fun i wr => ∃ k : Nat, k ≤ n ∧ k ≤ 10 ∧ i = .int .i64 (k : Int) ∧ Hid (∀ j, j < k → (ct L j).u.length ≤ 10) ∧ Hid (Below w.heap.size w wr)) (fun i _ => n - (intOf i).toNat)
  case atStart => exact ⟨0, Nat.zero_le _, Nat.zero_le _, rfl, Lib.hid (fun j hj => by omega), Lib.hid (Below.refl _ _)⟩
  case round =>
    obtain ⟨k, hk, hk10, rfl, HJ, HBk⟩ := hrel
    by_cases hlt : k < n
    · have hkL : k < L.length := by rw [HN.out]; exact hlt
      obtain ⟨b, off, rfl, hb, hc⟩ := (HRO.out.below HBk.out HS.out).ch (show 0 < L.length by omega)
      have e1 := hc k hkL
      clear hc
      have hk0 : (0 : Int) ≤ (k : Int) := by omega
      have hk1 : (k : Int) < (n : Int) := by omega
      have hk2 : (k : Int) ≤ 10 := by omega
      have HX : Hid ((ct L k).u.length ≤ 10 → ∀ j, j < k + 1 → (ct L j).u.length ≤ 10) := Lib.hid (fun h j hj => by
        by_cases e : j = k
        · rw [e]; exact h
        · exact HJ.out j (by omega))
      have HY : Hid (10 < (ct L k).u.length → r = false) := Lib.hid (fun h => by
        cases r with
        | false => rfl
        | true => exact absurd ((HV.out.1 rfl).2 k hlt) (by omega))
      generalize (ct L k).a = x2 at *
      generalize (ct L k).u.length = x3 at *
      generalize (ct L k).c = x4 at *
      by_cases h10 : k = 10
      · subst h10
        obtain rfl : r = false := by
          cases r with
          | false => rfl
          | true => exact absurd (HV.out.1 rfl).1 (by omega)
        go_wp2_with fail
        go_ret
        exact ⟨rfl, HBk.out⟩
      · have h10' : ((k : Int) == 10) = false := by rw [beq_eq_false_iff_ne]; omega
        have HK10 := Lib.hid h10
        by_cases h3 : 10 < x3
        · have h3' : decide ((10 : Int) < (x3 : Int)) = true := by simp; omega
          obtain rfl : r = false := HY.out h3
          clear h10 h3
          go_wp2_with fail
          go_ret
          exact ⟨rfl, HBk.out⟩
        · have h3' : decide ((10 : Int) < (x3 : Int)) = false := by simp; omega
          have HX2 := Lib.hid (HX.out (by omega))
          clear h10 h3
          go_wp2_with fail
          go_roundw
          case rel => exact ⟨k + 1, by omega, by have := HK10.out; omega, by go_num, HX2, HBk⟩
          case measure => simp [intOf]; omega
    · obtain rfl : k = n := by omega
      obtain rfl : r = true := HV.out.2 ⟨hk10, fun j hj => HJ.out j hj⟩
      go_wp2_with fail
      go_ret
      exact ⟨rfl, HBk.out⟩

set_option maxHeartbeats 1000000 in
theorem fitsL_x (A : LyT) (B : Nat) (w : World) (h : LyIn w B A) (hB : B ≤ w.heap.size) (hf : SgFit A.sg) :
    Calls Tryz.prog 39 #[A.val] w fun e w' => e = .returned (.bool (lfL A.sg)) ∧ Below w.heap.size w w' := by
  obtain ⟨W, HWW⟩ : ∃ W, Hid (w.alloc (.cells #[.int .u64 (A.e : Int), .slice A.a A.sg.length A.c, .int .i64 A.q] 38) = W) := ⟨_, Lib.hid rfl⟩
  have hWb : Below w.heap.size w W := by rw [← HWW.out]; exact (Below.refl _ _).alloc (Nat.le_refl _) _
  have o1 : Own W w.heap.size 38 [.int .u64 (A.e : Int), .slice A.a A.sg.length A.c, .int .i64 A.q] := by rw [← HWW.out]; exact Own.new w _ _
  have HIN := Lib.hid h
  have HB := Lib.hid hWb
  have HO := Lib.hid o1
  have HS := Lib.hid hB
  have hv := lfL_iff A.sg
  have HF := Lib.hid hf
  have hfl := hf.1
  clear h hWb o1 hB hf
  obtain ⟨ep, sa, c, L, q⟩ := A
  simp only [LyT.val] at *
  generalize lfL L = r at *
  generalize hN : L.length = n at *
  have HV := Lib.hid hv
  clear hv
  have HN := Lib.hid hN
  have hn1 : (n : Int) ≤ 9223372036854775807 := by omega
  clear hN
  go_enter Tryz.func39, Tryz.ntmps39
  go_upto_region 1 with fail
  rw [HWW.out]
  go_wp2_with fail
  go_loopw [3] (fun i wr => ∃ k : Nat, k ≤ n ∧ k ≤ 10 ∧ i = .int .i64 (k : Int) ∧ Hid (∀ j, j < k → lfC (st L j).ch = true) ∧ Hid (Below w.heap.size w wr) ∧ Hid (Own wr w.heap.size 38 [.int .u64 (ep : Int), .slice sa n c, .int .i64 q])) (fun i _ => n - (intOf i).toNat)
  case atStart => exact ⟨0, Nat.zero_le _, Nat.zero_le _, rfl, Lib.hid (fun j hj => by omega), HB, HO⟩
  case round =>
    obtain ⟨k, hk, hk10, rfl, HJ, HBk, HOk⟩ := hrel
    have d1 := HOk.out.cell 1
    have hz := HOk.out.lt
    simp at d1
    by_cases hlt : k < n
    · have hkL : k < L.length := by rw [HN.out]; exact hlt
      obtain ⟨b, off, rfl, hb, hc⟩ := (HIN.out.1.below HBk.out HS.out).sg (show 0 < L.length by omega)
      obtain ⟨e1, e2⟩ := hc k hkL
      clear hc
      have hk0 : (0 : Int) ≤ (k : Int) := by omega
      have hk1 : (k : Int) < (n : Int) := by omega
      have hk2 : (k : Int) ≤ 10 := by omega
      have HC := Lib.hid (fitsC_x (st L k).ch (st L k).a (st L k).c B wr ((HIN.out.2 _ (st_mem hkL)).1.below HBk.out HS.out) (Nat.le_trans HS.out HBk.out.size) (HF.out.2 _ (st_mem hkL)).1)
      have HX : Hid (lfC (st L k).ch = true → ∀ j, j < k + 1 → lfC (st L j).ch = true) := Lib.hid (fun h j hj => by
        by_cases e : j = k
        · rw [e]; exact h
        · exact HJ.out j (by omega))
      have HY : Hid (lfC (st L k).ch = false → r = false) := Lib.hid (fun h => by
        cases r with
        | false => rfl
        | true => exact absurd ((HV.out.1 rfl).2 k hlt) (by rw [h]; simp))
      generalize lfC (st L k).ch = t at *
      generalize (st L k).f = x1 at *
      generalize (st L k).a = x2 at *
      generalize (st L k).ch.length = x3 at *
      generalize (st L k).c = x4 at *
      go_wp2_with fail
      refine HC.out.mono ?_
      rintro e w1 ⟨rfl, hb1⟩
      have HB1 := Lib.hid (HBk.out.trans (hb1.mono HBk.out.size))
      have HO1 := Lib.hid (HOk.out.below hb1 HOk.out.lt)
      clear hb1
      cases t with
      | false =>
        obtain rfl : r = false := HY.out rfl
        go_wp2_with fail
        go_ret
        exact ⟨rfl, HB1.out⟩
      | true =>
        by_cases h10 : k = 10
        · subst h10
          obtain rfl : r = false := by
            cases r with
            | false => rfl
            | true => exact absurd (HV.out.1 rfl).1 (by omega)
          go_wp2_with fail
          go_ret
          exact ⟨rfl, HB1.out⟩
        · have h10' : ((k : Int) == 10) = false := by rw [beq_eq_false_iff_ne]; omega
          have HK10 := Lib.hid h10
          have HX2 := Lib.hid (HX.out rfl)
          clear h10
          go_wp2_with fail
          go_roundw
          case rel => exact ⟨k + 1, by omega, by have := HK10.out; omega, by go_num, HX2, HB1, HO1⟩
          case measure => simp [intOf]; omega
    · obtain rfl : k = n := by omega
      obtain rfl : r = true := HV.out.2 ⟨hk10, fun j hj => HJ.out j hj⟩
      go_wp2_with fail
      go_ret
      exact ⟨rfl, HBk.out⟩

theorem fits7_x (k : Int) (a : Option Addr) (n c : Nat) (a2 : Option Addr) (n2 c2 : Nat) (w : World) :
    Calls Tryz.prog 38 #[cev k a n c a2 n2 c2] w fun e w' => e = .returned (.bool (decide (n ≤ 400) && decide (n2 ≤ 30))) ∧ Below w.heap.size w w' := by
  by_cases h : n ≤ 400
  · have h1 : decide (n ≤ 400) = true := by simpa using h
    rw [h1, Bool.true_and]
    go_enter Tryz.func38, Tryz.ntmps38
    go_wp2_with fail
    go_ret
    exact ⟨ret_bool (by rw [decide_eq_decide]; omega), (Below.refl _ _).alloc (Nat.le_refl _) _⟩
  · have h1 : decide (n ≤ 400) = false := by simpa using h
    rw [h1, Bool.false_and]
    go_enter Tryz.func38, Tryz.ntmps38
    go_wp2_with fail
    go_ret
    exact ⟨rfl, (Below.refl _ _).alloc (Nat.le_refl _) _⟩

set_option maxHeartbeats 4000000 in
theorem fits10_x (A : MgT) (B : Nat) (w : World) (h : MgIn w B A) (hB : B ≤ w.heap.size) (hf : MgFit A) :
    Calls Tryz.prog 10 #[.agg A.cs.toArray] w fun e w' => e = .returned (.bool (mfits A)) ∧ Below w.heap.size w w' := by
  obtain ⟨W, HWW⟩ : ∃ W, Hid (w.alloc (.cells A.cs.toArray 40) = W) := ⟨_, Lib.hid rfl⟩
  have hWb : Below w.heap.size w W := by rw [← HWW.out]; exact (Below.refl _ _).alloc (Nat.le_refl _) _
  have HO := Lib.hid (show Own W w.heap.size 40 A.cs by rw [← HWW.out]; exact Own.new w _ _)
  have HB := Lib.hid hWb
  have HF := Lib.hid (fun (W' : World) (hb : Below w.heap.size w W') => fitsL_x A.ly B W' ((h.below hb hB).ly) (Nat.le_trans hB hb.size) hf.ly)
  simp only [LyT.val] at HF
  have c0 := HO.out.cell 10
  have c1 := HO.out.cell 11
  have c2 := HO.out.cell 12
  have hz := HO.out.lt
  simp [MgT.cs] at c0 c1 c2
  clear hWb h hB hf
  have HR : Hid (mfits A = ((decide (A.c.d.length ≤ 400) && decide (A.c.b.length ≤ 30)) && (lfL A.ly.sg && (decide (A.st.length ≤ 30) && decide (A.bk.length ≤ 30))))) := Lib.hid rfl
  obtain ⟨t1, ht1⟩ : ∃ t, (decide (A.c.d.length ≤ 400) && decide (A.c.b.length ≤ 30)) = t := ⟨_, rfl⟩
  have HF7 := Lib.hid (fits7_x A.c.k A.ca A.c.d.length A.cc A.ca2 A.c.b.length A.cc2 W)
  generalize lfL A.ly.sg = t2 at *
  rw [ht1] at HR HF7
  generalize mfits A = rr at *
  clear ht1
  go_enter Tryz.func10, Tryz.ntmps10
  go_upto_region 1 with fail
  rw [HWW.out]
  go_wp2_with fail
  refine HF7.out.mono ?_
  rintro e w1 ⟨rfl, hb⟩
  have HB1 := Lib.hid (HB.out.trans (hb.mono HB.out.size))
  have HO1 := Lib.hid (HO.out.below hb HO.out.lt)
  clear hb c0 c1 c2 hz
  have c0 := HO1.out.cell 19
  have c1 := HO1.out.cell 20
  have c2 := HO1.out.cell 21
  have hz := HO1.out.lt
  simp [MgT.cs] at c0 c1 c2
  go_wp2_with fail
  refine (HF.out w1 HB1.out).mono ?_
  rintro e w2 ⟨rfl, hb⟩
  have HB2 := Lib.hid (HB1.out.trans (hb.mono HB1.out.size))
  have HO2 := Lib.hid (HO1.out.below hb HO1.out.lt)
  clear hb c0 c1 c2 hz
  have c0 := HO2.out.cell 13
  have c1 := HO2.out.cell 14
  have hz := HO2.out.lt
  simp [MgT.cs] at c0 c1
  generalize A.st.length = sn at *
  generalize A.bk.length = kn at *
  cases t1 with
  | false =>
    have e9 : rr = false := HR.out.trans (by simp)
    subst e9
    go_wp2_with fail
    go_ret
    exact ⟨rfl, HB2.out⟩
  | true =>
  cases t2 with
  | false =>
    have e9 : rr = false := HR.out.trans (by simp)
    subst e9
    go_wp2_with fail
    go_ret
    exact ⟨rfl, HB2.out⟩
  | true =>
  by_cases hs : sn ≤ 30
  · have h1 : decide ((sn : Int) ≤ 30) = true := by simp; omega
    have h2 : decide (sn ≤ 30) = true := by simp; omega
    by_cases hk : kn ≤ 30
    · have h3 : decide ((kn : Int) ≤ 30) = true := by simp; omega
      have h4 : decide (kn ≤ 30) = true := by simp; omega
      have e9 : rr = true := HR.out.trans (by rw [h2, h4]; rfl)
      subst e9
      clear hs hk
      go_wp2_with fail
      go_ret
      exact ⟨rfl, HB2.out⟩
    · have h3 : decide ((kn : Int) ≤ 30) = false := by simp; omega
      have h4 : decide (kn ≤ 30) = false := by simp; omega
      have e9 : rr = false := HR.out.trans (by rw [h2, h4]; rfl)
      subst e9
      clear hs hk
      go_wp2_with fail
      go_ret
      exact ⟨rfl, HB2.out⟩
  · have h1 : decide ((sn : Int) ≤ 30) = false := by simp; omega
    have h2 : decide (sn ≤ 30) = false := by simp; omega
    have e9 : rr = false := HR.out.trans (by rw [h2]; rfl)
    subst e9
    clear hs
    go_wp2_with fail
    go_ret
    exact ⟨rfl, HB2.out⟩
end Go.Proofs.YteenlkmnadjnpaaGreat
namespace Go.Proofs.YteenlkmnadjnpaaGreat
open Go.RowKit Go.Deep Go.Shelf
set_option linter.unusedVariables false
set_option linter.unusedSimpArgs false

noncomputable instance mgDec : DecidableEq Mg := fun _ _ => Classical.propDecidable _
theorem msEq_iff (A C : MgT) : msEq A C = true ↔ A.x = C.x := by
  unfold msEq hdEq
  simp only [Bool.and_eq_true, decide_eq_true_eq, alike_iff, lalike_iff]
  constructor
  · rintro ⟨⟨h1, h2, ⟨h3, h4⟩, ⟨h5, h6⟩, h7, h8, h9, h10, ⟨h11, h12⟩, ⟨h13, h14⟩⟩, h15, h16, h17, h18⟩
    unfold MgT.x
    rw [h1, h2, Prod.ext h3 h4, Prod.ext h5 h6, h7, h8, h9, h10, Prod.ext h11 h12, Prod.ext h13 h14, h15, h16, h17, h18]
  · intro h
    unfold MgT.x at h
    injection h with h1 h2 h3 h4 h5 h6 h7 h8 h9 h10 h11 h12 h13 h14
    exact ⟨⟨h1, h5, ⟨by rw [h2], by rw [h2]⟩, ⟨by rw [h3], by rw [h3]⟩, h4, h6, h7, h8, ⟨by rw [h12], by rw [h12]⟩, ⟨by rw [h13], by rw [h13]⟩⟩, h10, h11, h9, h14⟩
theorem msEq_dec (A C : MgT) : msEq A C = decide (A.x = C.x) := by
  cases h : msEq A C with
  | true => simp [(msEq_iff A C).1 h]
  | false =>
    have : ¬ A.x = C.x := fun e => by rw [(msEq_iff A C).2 e] at h; cases h
    simp [this]
end Go.Proofs.YteenlkmnadjnpaaGreat
namespace Go.Proofs.YteenlkmnadjnpaaGreat
open Go.RowKit Go.Deep Go.Shelf
set_option linter.unusedVariables false
set_option linter.unusedSimpArgs false

theorem run_loadMgM {o : Oper} {a : Act} {w : World} (x : Operand) (ho : o.op = .load 40 x) (b off : Nat) (hx : a.eval x = .pointer (some ⟨b, off, none⟩)) (A : MgT) (hr : w.rangeAt b off A.cs) : (execOp a.eval o).run Tryz.prog w = .ok (.value (.agg A.cs.toArray)) w := by
  unfold execOp
  simp only [ho, hx, Instr.loadAt, Instr.sureAddr, Sem.run_bind, Sem.run_pure, Result.andThen_ok, run_loadVar_mid w b off 40 A.cs _ hr Tryz.underlying40 rfl infoMg]
/-- the k-th message of a list -/
theorem MLR.at_ {w : World} {B : Nat} {a : Option Addr} {L : List MgT} (h : MLR w B a L) {k : Nat} (hk : k < L.length) : ∃ b off, a = some ⟨b, off, none⟩ ∧ w.rangeAt b (off + k * 22) L[k].cs := by
  have hl : (mgv L).length = L.length * 22 := mgv_length L
  rcases h.row with hr | ⟨b, off, h1, h2, h3⟩
  · rw [hr] at hl; simp at hl; omega
  · subst h1
    exact ⟨b, off, rfl, mg_range h.row hk⟩
theorem map_take_succ {L M : List MgT} {k : Nat} (h1 : k < L.length) (h2 : k < M.length) (h : (L.take k).map MgT.x = (M.take k).map MgT.x) : (L[k].x = M[k].x → (L.take (k + 1)).map MgT.x = (M.take (k + 1)).map MgT.x) ∧ ((L.map MgT.x = M.map MgT.x) → L[k].x = M[k].x) := by
  constructor
  · intro e
    rw [List.take_succ_eq_append_getElem h1, List.take_succ_eq_append_getElem h2, List.map_append, List.map_append, h]
    simp [e]
  · intro e
    have := congrArg (fun l => l[k]?) e
    simpa [h1, h2] using this
set_option maxHeartbeats 8000000 in
set_option maxRecDepth 100000 in
theorem rsameAll_any (L M : List MgT) (a a2 : Option Addr) (c c2 B : Nat) (w : World) (hL : MLR w B a L) (hM : MLR w B a2 M) (hB : B ≤ w.heap.size) (hl : L.length ≤ 1000000) (hm : M.length ≤ 1000000) :
    Calls Tryz.prog 23 #[.slice a L.length c, .slice a2 M.length c2] w fun e w' => e = .returned (.bool (decide (L.map MgT.x = M.map MgT.x))) ∧ Below w.heap.size w w' := by
  have HL := Lib.hid (fun (V : World) (hV : Below w.heap.size w V) => hL.below hV hB)
  have HM := Lib.hid (fun (V : World) (hV : Below w.heap.size w V) => hM.below hV hB)
  have HB := Lib.hid hB
  obtain ⟨r, hr⟩ : ∃ r, decide (L.map MgT.x = M.map MgT.x) = r := ⟨_, rfl⟩
  rw [hr]
  have HR := Lib.hid hr
  obtain ⟨n, hn⟩ : ∃ n, L.length = n := ⟨_, rfl⟩
  obtain ⟨m, hmm⟩ : ∃ m, M.length = m := ⟨_, rfl⟩
  rw [hn] at hl ⊢
  rw [hmm] at hm ⊢
  have HN := Lib.hid hn
  have HMM := Lib.hid hmm
  clear hL hM hB hr hn hmm
  go_enter Tryz.func23, Tryz.ntmps23
  by_cases e : n = m
  case neg =>
    have e1 : ((n : Int) != (m : Int)) = true := by rw [bne_iff_ne]; omega
    obtain rfl : r = false := by
      rw [← HR.out, decide_eq_false_iff_not]
      intro h
      have := congrArg List.length h
      rw [List.length_map, List.length_map, HN.out, HMM.out] at this
      exact e this
    clear e
    go_wp2_with fail
    go_ret
    exact ⟨rfl, Below.refl _ _⟩
  subst e
  go_wp2_with fail
  go_loopw [5] (fun i wr => ∃ k : Nat, i = .int .i64 k ∧ k ≤ n ∧ Hid ((L.take k).map MgT.x = (M.take k).map MgT.x) ∧ Hid (Below w.heap.size w wr)) (fun i _ => n - (intOf i).toNat)
  case atStart => exact ⟨0, rfl, Nat.zero_le _, Lib.hid rfl, Lib.hid (Below.refl _ _)⟩
  case round =>
    obtain ⟨k, rfl, hk, HT, HQ⟩ := hrel
    rename World => w3
    by_cases hlt : k < n
    · have hkL : k < L.length := by rw [HN.out]; exact hlt
      have hkM : k < M.length := by rw [HMM.out]; exact hlt
      obtain ⟨b1, o1, rfl, hr1⟩ := (HL.out w3 HQ.out).at_ hkL
      obtain ⟨b2, o2, rfl, hr2⟩ := (HM.out w3 HQ.out).at_ hkM
      obtain ⟨s1, s2⟩ := map_take_succ hkL hkM HT.out
      have HS1 := Lib.hid s1
      have HS2 := Lib.hid s2
      have HRG : Hid (∀ V, Below w3.heap.size w3 V → V.rangeAt b1 (o1 + k * 22) L[k].cs ∧ V.rangeAt b2 (o2 + k * 22) M[k].cs) := Lib.hid fun V hV => by
        have hq := HQ.out.trans (hV.mono HQ.out.size)
        obtain ⟨b1', o1', h1, g1⟩ := (HL.out V hq).at_ hkL
        obtain ⟨b2', o2', h2, g2⟩ := (HM.out V hq).at_ hkM
        injection h1 with h1; injection h1 with h1 h1' _
        injection h2 with h2; injection h2 with h2 h2' _
        subst h1 h1' h2 h2'
        exact ⟨g1, g2⟩
      have HSM : Hid (∀ V, Below w3.heap.size w3 V → Calls Tryz.prog 16 #[.agg L[k].cs.toArray, .agg M[k].cs.toArray] V fun e w' => e = .returned (.bool (msEq L[k] M[k])) ∧ Below V.heap.size V w') := Lib.hid fun V hV => by
        have hq := HQ.out.trans (hV.mono HQ.out.size)
        exact rmsame_any L[k] M[k] B V ((HL.out V hq).inn _ (List.getElem_mem hkL)) ((HM.out V hq).inn _ (List.getElem_mem hkM)) (Nat.le_trans HB.out hq.size) ((HL.out V hq).fit _ (List.getElem_mem hkL)) ((HM.out V hq).fit _ (List.getElem_mem hkM))
      have HIF := Lib.hid (msEq_iff L[k] M[k])
      generalize L[k] = T at *
      generalize M[k] = U at *
      generalize msEq T U = t at *
      have hk0 : (0 : Int) ≤ (k : Int) := by omega
      have hk1 : (k : Int) < (n : Int) := by omega
      have hkb : (k : Int) ≤ 1000000 := by omega
      have hd : decide (k < n) = true := by simpa using hlt
      have HLT := Lib.hid hlt
      clear hr1 hr2 s1 s2 hlt hkL hkM hk hl hm
      go_upto_region 6 with fail
      refine wp_region_held_drew (S := (fun V => Below w3.heap.size w3 V)) (by kernel_rfl) ((Below.refl _ _).drew) fun hHeld => ?_
      refine wpAnyH_take (i := 0) (v := ?_) rfl (by kernel_rfl) (by kernel_rfl) (by kernel_rfl) (fun _ _ _ h => h) (Or.inl ⟨by kernel_rfl, ?_⟩) hHeld ?_
      rotate_left
      · (intro w hSw; first | (go_simp; done) | (go_simp; with_reducible rfl))
      (try simp only [Act.put, List.getElem_toArray, List.getElem_cons_succ, List.getElem_cons_zero, List.setIfInBounds_toArray, List.set_cons_zero, List.set_cons_succ])
      refine wpAnyH_take (i := 1) (v := ?_) rfl (by kernel_rfl) (by kernel_rfl) (by kernel_rfl) (fun _ _ _ h => h) (Or.inl ⟨by kernel_rfl, ?_⟩) hHeld ?_
      rotate_left
      · (intro w hSw; first | (go_simp; done) | (go_simp; with_reducible rfl))
      (try simp only [Act.put, List.getElem_toArray, List.getElem_cons_succ, List.getElem_cons_zero, List.setIfInBounds_toArray, List.set_cons_zero, List.set_cons_succ])
      refine wpAnyH_take (i := 2) (v := ?_) rfl (by kernel_rfl) (by kernel_rfl) (by kernel_rfl) (fun _ _ _ h => h) (Or.inl ⟨by kernel_rfl, ?_⟩) hHeld ?_
      rotate_left
      · (intro w hSw; first | (go_simp; done) | (go_simp; with_reducible rfl))
      (try simp only [Act.put, List.getElem_toArray, List.getElem_cons_succ, List.getElem_cons_zero, List.setIfInBounds_toArray, List.set_cons_zero, List.set_cons_succ])
      refine wpAnyH_take (i := 3) (v := .agg T.cs.toArray) rfl (by kernel_rfl) (by kernel_rfl) (by kernel_rfl) (fun _ _ _ h => h) (Or.inl ⟨by kernel_rfl, ?_⟩) hHeld ?_
      · (intro w hSw; exact run_loadMgM (.tmp 20) rfl b1 (o1 + k * 22) rfl T (HRG.out w hSw).1)
      (try simp only [Act.put, List.getElem_toArray, List.getElem_cons_succ, List.getElem_cons_zero, List.setIfInBounds_toArray, List.set_cons_zero, List.set_cons_succ])
      refine wpAnyH_take (i := 4) (v := ?_) rfl (by kernel_rfl) (by kernel_rfl) (by kernel_rfl) (fun _ _ _ h => h) (Or.inl ⟨by kernel_rfl, ?_⟩) hHeld ?_
      rotate_left
      · (intro w hSw; first | (go_simp; done) | (go_simp; with_reducible rfl))
      (try simp only [Act.put, List.getElem_toArray, List.getElem_cons_succ, List.getElem_cons_zero, List.setIfInBounds_toArray, List.set_cons_zero, List.set_cons_succ])
      refine wpAnyH_take (i := 5) (v := ?_) rfl (by kernel_rfl) (by kernel_rfl) (by kernel_rfl) (fun _ _ _ h => h) (Or.inl ⟨by kernel_rfl, ?_⟩) hHeld ?_
      rotate_left
      · (intro w hSw; first | (go_simp; done) | (go_simp; with_reducible rfl))
      (try simp only [Act.put, List.getElem_toArray, List.getElem_cons_succ, List.getElem_cons_zero, List.setIfInBounds_toArray, List.set_cons_zero, List.set_cons_succ])
      refine wpAnyH_take (i := 6) (v := ?_) rfl (by kernel_rfl) (by kernel_rfl) (by kernel_rfl) (fun _ _ _ h => h) (Or.inl ⟨by kernel_rfl, ?_⟩) hHeld ?_
      rotate_left
      · (intro w hSw; first | (go_simp; done) | (go_simp; with_reducible rfl))
      (try simp only [Act.put, List.getElem_toArray, List.getElem_cons_succ, List.getElem_cons_zero, List.setIfInBounds_toArray, List.set_cons_zero, List.set_cons_succ])
      refine wpAnyH_take (i := 7) (v := .agg U.cs.toArray) rfl (by kernel_rfl) (by kernel_rfl) (by kernel_rfl) (fun _ _ _ h => h) (Or.inl ⟨by kernel_rfl, ?_⟩) hHeld ?_
      · (intro w hSw; exact run_loadMgM (.tmp 24) rfl b2 (o2 + k * 22) rfl U (HRG.out w hSw).2)
      (try simp only [Act.put, List.getElem_toArray, List.getElem_cons_succ, List.getElem_cons_zero, List.setIfInBounds_toArray, List.set_cons_zero, List.set_cons_succ])
      refine wpAnyH_ready (rs := [8]) (by kernel_rfl) (by simp) (AllReadyH.cons rfl (fun K hK => ?_) AllReadyH.nil)
      have hH := hHeld
      (go_simp; go_at_call 16; refine (HSM.out _ hH).mono ?_; rintro e w9 ⟨rfl, hb9⟩)
      refine hK.out _ _ (by exact hH.trans (hb9.mono hH.size)) (fun hHq1 => ?_)
      clear hK K hH 
      (try simp only [Act.put, List.getElem_toArray, List.getElem_cons_succ, List.getElem_cons_zero, List.setIfInBounds_toArray, List.set_cons_zero, List.set_cons_succ])
      refine wpAnyH_take (i := 9) (v := ?_) rfl (by kernel_rfl) (by kernel_rfl) (by kernel_rfl) (fun _ _ _ h => h) (Or.inl ⟨by kernel_rfl, ?_⟩) hHq1 ?_
      rotate_left
      · (intro w hSw; first | (go_simp; done) | (go_simp; with_reducible rfl))
      (try simp only [Act.put, List.getElem_toArray, List.getElem_cons_succ, List.getElem_cons_zero, List.setIfInBounds_toArray, List.set_cons_zero, List.set_cons_succ])
      refine wpAnyH_done (by kernel_rfl) ?_ _
      have hEnd := hHq1
      have HE := Lib.hid (HQ.out.trans (hEnd.mono HQ.out.size))
      clear hHeld hEnd
      cases t with
      | true =>
        have HT2 := Lib.hid (HS1.out (HIF.out.1 rfl))
        go_wp2_with fail
        go_roundw
        case rel => have := HLT.out; exact ⟨k + 1, by go_num, by omega, HT2, HE⟩
        case measure => have := HLT.out; simp [intOf]; omega
      | false =>
        obtain rfl : r = false := by
          rw [← HR.out, decide_eq_false_iff_not]
          intro h
          have := HIF.out.2 (HS2.out h)
          cases this
        go_wp2_with fail
        go_ret
        exact ⟨rfl, HE.out⟩
    · obtain rfl : k = n := by omega
      obtain rfl : r = true := by
        rw [← HR.out, decide_eq_true_eq]
        have := HT.out
        rwa [List.take_of_length_le (by rw [HN.out]; exact Nat.le_refl _), List.take_of_length_le (by rw [HMM.out]; exact Nat.le_refl _)] at this
      have hd : decide (k < k) = false := by simp
      clear hlt hk
      go_wp2_with fail
      go_ret
      exact ⟨rfl, HQ.out⟩
end Go.Proofs.YteenlkmnadjnpaaGreat
