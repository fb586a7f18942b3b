/-
  Same of the document's messages. No claim of its own.
-/
import Derived.Test.YteenlkmnadjnpaaG11
import Derived.Test.YteenlkmnadjnpaaG13
import Derived.Test.YteenlkmnadjnpaaG5
import Derived.Test.YteenlkmnadjnpaaG10
import Derived.Test.YteenlkmnadjnpaaG6
import Derived.Deep.RegionHeld3
import Derived.Test.YteenlkmnadjnpaaG7
namespace Go.Proofs.Yteenlkmnadjnpaa
open Go.RowKit Go.Deep Go.Shelf
set_option linter.unusedVariables false
set_option linter.unusedSimpArgs false

set_option maxHeartbeats 2000000 in
set_option maxRecDepth 100000 in
theorem rsameW_any (x y : Ce) (a : Option Addr) (c : Nat) (a2 : Option Addr) (c2 : Nat) (b : Option Addr) (d : Nat) (b2 : Option Addr) (d2 B : Nat) (w : World) (hx : Ro w B a (u8s x.d)) (hx2 : Ro w B a2 (bcs x.b)) (hy : Ro w B b (u8s y.d)) (hy2 : Ro w B b2 (bcs y.b)) (hB : B ≤ w.heap.size)
    (hl : x.b.length ≤ 9223372036854775807) (hl2 : y.b.length ≤ 9223372036854775807) :
    Calls Try.prog 60 #[cev x.k a x.d.length c a2 x.b.length c2, cev y.k b y.d.length d b2 y.b.length d2] w fun e w' => e = .returned (.bool (alike x y)) ∧ Below w.heap.size w w' := by
  obtain ⟨k, l, L⟩ := x
  obtain ⟨k', l', L'⟩ := y
  simp only at hx hx2 hy hy2 hl hl2 ⊢
  obtain ⟨W, hW⟩ : ∃ W, (w.alloc (.cells #[.int .i64 k, .slice a l.length c, .slice a2 L.length c2] 54)).alloc (.cells #[.int .i64 k', .slice b l'.length d, .slice b2 L'.length d2] 54) = W := ⟨_, rfl⟩
  have hbW : Below w.heap.size w W := by rw [← hW]; exact ((Below.refl _ w).alloc (Nat.le_refl _) _).alloc (by simp) _
  have o1 : Own W w.heap.size 54 [.int .i64 k, .slice a l.length c, .slice a2 L.length c2] := by rw [← hW]; exact (Own.new w _ _).alloc _
  have o2 : Own W (w.heap.size + 1) 54 [.int .i64 k', .slice b l'.length d, .slice b2 L'.length d2] := by
    rw [← hW]
    have := Own.new (w.alloc (.cells #[.int .i64 k, .slice a l.length c, .slice a2 L.length c2] 54)) 54 [.int .i64 k', .slice b l'.length d, .slice b2 L'.length d2]
    simpa using this
  have e1 := conv_ro (c := c) (hx.below hbW hB) rfl
  have e2 := conv_ro (c := d) (hy.below hbW hB) rfl
  have HX2 := Lib.hid (hx2.below hbW hB)
  have HY2 := Lib.hid (hy2.below hbW hB)
  have HO1 := Lib.hid o1
  have HO2 := Lib.hid o2
  have HBW := Lib.hid hbW
  obtain ⟨t, HT⟩ : ∃ t, Hid (alike ⟨k, l, L⟩ ⟨k', l', L'⟩ = t) := ⟨_, Lib.hid rfl⟩
  rw [HT.out]
  have c0 := o1.cell 0
  have c1 := o1.cell 1
  have c2' := o1.cell 2
  have d0 := o2.cell 0
  have d1 := o2.cell 1
  have d2' := o2.cell 2
  simp at c0 c1 c2' d0 d1 d2'
  clear hx hx2 hy hy2 o1 o2 hbW
  have HW := Lib.hid hW
  clear hW
  obtain ⟨n, HN⟩ : ∃ n, Hid (L.length = n) := ⟨_, Lib.hid rfl⟩
  obtain ⟨m, HM⟩ : ∃ m, Hid (L'.length = m) := ⟨_, Lib.hid rfl⟩
  rw [HN.out] at hl c2' HW HO1 ⊢
  rw [HM.out] at hl2 d2' HW HO2 ⊢
  generalize hl1 : l.length = p at *
  generalize hl1' : l'.length = p' at *
  have HP1 := Lib.hid hl1
  have HP2 := Lib.hid hl1'
  clear hl1 hl1'
  by_cases hk : k = k'
  · subst hk
    by_cases hd : l = l'
    · have hs : (!(({ data := l.toArray } : ByteArray) == ({ data := l'.toArray } : ByteArray))) = false := by rw [bytes_beq]; simp [hd]
      have HD := Lib.hid hd
      clear hd
      by_cases hnm : n = m
      · subst hnm
        go_enter Try.func60, Try.ntmps60
        go_wp2_with fail
        rw [HW.out]
        go_simp
        go_wp2_with fail
        clear e1 e2 hs c0 c1 c2' d0 d1 d2'
        go_loopw [5] (fun i wr => ∃ k : Nat, i = .int .i64 k ∧ k ≤ n ∧ Hid (L.take k = L'.take k) ∧ Hid (Qt W wr)) (fun i _ => n - (intOf i).toNat)
        case atStart => exact ⟨0, rfl, Nat.zero_le _, Lib.hid rfl, Lib.hid (Qt.refl _)⟩
        case round =>
          obtain ⟨i, rfl, hi, HTK, HQ⟩ := hrel
          have c2' := (HO1.out.qt HQ.out).cell 2
          have d2' := (HO2.out.qt HQ.out).cell 2
          simp at c2' d2'
          by_cases hlt : i < n
          · have hkA : i < L.length := by rw [HN.out]; exact hlt
            have hkB : i < L'.length := by rw [HM.out]; exact hlt
            obtain ⟨g, off, rfl, hg, hcl⟩ := (HX2.out.qt HQ.out).bk (by omega)
            obtain ⟨g', off', rfl, hg', hcl'⟩ := (HY2.out.qt HQ.out).bk (by omega)
            obtain ⟨h1, h2, h3⟩ := hcl i hkA
            obtain ⟨h4, h5, h6⟩ := hcl' i hkB
            have HTS := Lib.hid (take_succ_eqB hkA hkB HTK.out)
            have HNE := Lib.hid (@ne_of_bk L L' i)
            clear hcl hcl'
            generalize bk L i = x at *
            generalize bk L' i = y at *
            have hk0 : (0 : Int) ≤ (i : Int) := by omega
            have hk1 : (i : Int) < (n : Int) := by omega
            by_cases hxy : x = y
            · subst hxy
              have hN : ∀ W, (binOp .neq 106 (bkv x) (bkv x)).run Try.prog W = .ok (.bool false) W := fun W => by rw [neq_back]; simp
              go_wp2_with fail
              go_region
              go_wp2_with fail
              go_roundw
              case rel => exact ⟨i + 1, by go_num, by omega, Lib.hid (HTS.out trivial), Lib.hid (by first | exact HQ.out | exact HQ.out.trans ⟨1, rfl⟩)⟩
              case measure => simp [intOf]; omega
            · have hN : ∀ W, (binOp .neq 106 (bkv x) (bkv y)).run Try.prog W = .ok (.bool true) W := fun W => by rw [neq_back]; simp [hxy]
              have HF := Lib.hid (HNE.out hxy)
              obtain rfl : t = false := by rw [← HT.out]; unfold alike; simp only [HF.out]; simp
              go_wp2_with fail
              go_region
              go_wp2_with fail
              go_ret
              exact ⟨rfl, Qt.below (by first | exact HQ.out | exact HQ.out.trans ⟨1, rfl⟩) HBW.out⟩
          · obtain rfl : i = n := by omega
            obtain rfl : t = true := by
              rw [← HT.out, alike_iff]
              have ht := HTK.out
              rw [List.take_of_length_le (by rw [HN.out]; omega), List.take_of_length_le (by rw [HM.out]; omega)] at ht
              exact Ce.ext' rfl HD.out ht
            go_wp2_with fail
            go_ret
            exact ⟨rfl, HQ.out.below HBW.out⟩
      · obtain rfl : t = false := by
          rw [← HT.out]; unfold alike
          have : decide (L = L') = false := by simp only [decide_eq_false_iff_not]; rintro rfl; exact hnm (HN.out.symm.trans HM.out)
          simp only [this]; simp
        have hd0 : ((n : Int) != (m : Int)) = true := by rw [bne_iff_ne]; omega
        go_enter Try.func60, Try.ntmps60
        go_wp2_with fail
        rw [HW.out]
        go_simp
        go_wp2_with fail
        go_ret
        exact ⟨rfl, HBW.out⟩
    · have hs : (!(({ data := l.toArray } : ByteArray) == ({ data := l'.toArray } : ByteArray))) = true := by rw [bytes_beq]; simp [hd]
      obtain rfl : t = false := by rw [← HT.out]; unfold alike; simp [hd]
      have hd2 : (!(l == l')) = true := by simp [hd]
      go_enter Try.func60, Try.ntmps60
      go_wp2_with fail
      rw [HW.out]
      go_simp
      go_wp2_with fail
      go_ret
      exact ⟨rfl, HBW.out⟩
  · have h1 : (k != k') = true := by rw [bne_iff_ne]; omega
    obtain rfl : t = false := by rw [← HT.out]; unfold alike; simp [hk]
    clear hk
    go_enter Try.func60, Try.ntmps60
    go_wp2_with fail
    rw [HW.out]
    go_ret
    exact ⟨rfl, HBW.out⟩
end Go.Proofs.Yteenlkmnadjnpaa
namespace Go.Proofs.Yteenlkmnadjnpaa
open Go.RowKit Go.Deep Go.Shelf
set_option linter.unusedVariables false
set_option linter.unusedSimpArgs false

theorem eqw_place (a b a' b' : Int) (w : World) : (Op.equalIn 10000 50 (.agg #[.int .i64 a, .int .i64 b]) (.agg #[.int .i64 a', .int .i64 b'])).run Try.prog w = .ok (decide (a = a' ∧ b = b')) w := by
  have g0 : ∀ (x y : Value), (part 48 #[x, y] 0).run Try.prog w = .ok x w := fun x y => run_part_cell Try.underlying48 rfl w
  have g1 : ∀ (x y : Value), (part 3 #[x, y] 1).run Try.prog w = .ok y w := fun x y => run_part_cell Try.underlying3 rfl w
  have gg : ∀ (x y : Value), (part 48 #[x, y] 1).run Try.prog w = .ok y w := fun x y => run_part_cell Try.underlying48 rfl w
  have ge : ∀ (x y : Int), (Op.equalIn 9999 3 (.int .i64 x) (.int .i64 y)).run Try.prog w = .ok (x == y) w := fun x y => run_equalIn_int w 9998 3 .i64 .i64 _ _ Try.underlying3
  have gr : ∀ (x y : Int), (Op.equalIn 9999 48 (.int .i64 x) (.int .i64 y)).run Try.prog w = .ok (x == y) w := fun x y => run_equalIn_int w 9998 48 .i64 .i64 _ _ Try.underlying48
  refine (run_equalIn_struct w 9999 50 _ _ (by kernel_rfl) (by kernel_rfl)).trans ?_
  simp [Program.fieldsOf, Try.underlying50, Op.eqFields, g0, g1, gg, ge, gr]
  by_cases h1 : a = a'
  · by_cases h2 : b = b' <;> simp [h1, h2]
  · simp [h1]
theorem eqb_place (a b a' b' : Int) {r : Bool} (h : decide (a = a' ∧ b = b') = r) (w : World) : (binOp .eql 50 (.agg #[.int .i64 a, .int .i64 b]) (.agg #[.int .i64 a', .int .i64 b'])).run Try.prog w = .ok (.bool r) w := by
  rw [run_eql_struct, eqw_place, h]; rfl
theorem eqw_ballot (a b a' b' : Int) (w : World) : (Op.equalIn 10000 56 (.agg #[.int .i64 a, .int .i64 b]) (.agg #[.int .i64 a', .int .i64 b'])).run Try.prog w = .ok (decide (a = a' ∧ b = b')) w := by
  have g0 : ∀ (x y : Value), (part 3 #[x, y] 0).run Try.prog w = .ok x w := fun x y => run_part_cell Try.underlying3 rfl w
  have g1 : ∀ (x y : Value), (part 3 #[x, y] 1).run Try.prog w = .ok y w := fun x y => run_part_cell Try.underlying3 rfl w
  have gg : ∀ (x y : Value), (part 3 #[x, y] 1).run Try.prog w = .ok y w := fun x y => run_part_cell Try.underlying3 rfl w
  have ge : ∀ (x y : Int), (Op.equalIn 9999 3 (.int .i64 x) (.int .i64 y)).run Try.prog w = .ok (x == y) w := fun x y => run_equalIn_int w 9998 3 .i64 .i64 _ _ Try.underlying3
  have gr : ∀ (x y : Int), (Op.equalIn 9999 3 (.int .i64 x) (.int .i64 y)).run Try.prog w = .ok (x == y) w := fun x y => run_equalIn_int w 9998 3 .i64 .i64 _ _ Try.underlying3
  refine (run_equalIn_struct w 9999 56 _ _ (by kernel_rfl) (by kernel_rfl)).trans ?_
  simp [Program.fieldsOf, Try.underlying56, Op.eqFields, g0, g1, gg, ge, gr]
  by_cases h1 : a = a'
  · by_cases h2 : b = b' <;> simp [h1, h2]
  · simp [h1]
theorem eqb_ballot (a b a' b' : Int) {r : Bool} (h : decide (a = a' ∧ b = b') = r) (w : World) : (binOp .eql 56 (.agg #[.int .i64 a, .int .i64 b]) (.agg #[.int .i64 a', .int .i64 b'])).run Try.prog w = .ok (.bool r) w := by
  rw [run_eql_struct, eqw_ballot, h]; rfl
set_option maxHeartbeats 8000000 in
set_option maxRecDepth 100000 in
theorem rmsame_any (A C : MgT) (B : Nat) (w0 : World) (ha : MgIn w0 B A) (hc : MgIn w0 B C) (hB : B ≤ w0.heap.size) (hfa : MgFit A) (hfc : MgFit C) :
    Calls Try.prog 30 #[.agg A.cs.toArray, .agg C.cs.toArray] w0 fun e w' => e = .returned (.bool (msEq A C)) ∧ Below w0.heap.size w0 w' := by
  obtain ⟨W, HWW⟩ : ∃ W, Hid ((w0.alloc (.cells A.cs.toArray 58)).alloc (.cells C.cs.toArray 58) = W) := ⟨_, Lib.hid rfl⟩
  have hWb : Below w0.heap.size w0 W := by rw [← HWW.out]; exact ((Below.refl _ _).alloc (Nat.le_refl _) _).alloc (by simp) _
  have ho1 : Own W w0.heap.size 58 A.cs := by rw [← HWW.out]; exact (Own.new w0 _ _).alloc _
  have ho2 : Own W (w0.heap.size + 1) 58 C.cs := by
    rw [← HWW.out]
    have := Own.new (w0.alloc (.cells A.cs.toArray 58)) 58 C.cs
    rw [World.size_alloc] at this
    exact this
  have HB := Lib.hid hWb
  have HS := Lib.hid (Nat.le_trans hB hWb.size)
  have HST : Hid (∀ V, Below W.heap.size W V → Calls Try.prog 59 #[.slice A.sa A.st.length A.sc, .slice C.sa C.st.length C.sc] V fun e w' => e = .returned (.bool (decide (A.st = C.st))) ∧ Below V.heap.size V w') := Lib.hid fun V hV =>
    same10_any A.st C.st A.sa C.sa A.sc C.sc B V (ha.below (hWb.trans (hV.mono hWb.size)) hB).st (hc.below (hWb.trans (hV.mono hWb.size)) hB).st (Nat.le_trans hB (hWb.trans (hV.mono hWb.size)).size) hfa.st hfc.st
  have HCE : Hid (∀ V, Below W.heap.size W V → Calls Try.prog 60 #[cev A.c.k A.ca A.c.d.length A.cc A.ca2 A.c.b.length A.cc2, cev C.c.k C.ca C.c.d.length C.cc C.ca2 C.c.b.length C.cc2] V fun e w' => e = .returned (.bool (alike A.c C.c)) ∧ Below V.heap.size V w') := Lib.hid fun V hV =>
    rsameW_any A.c C.c A.ca A.cc A.ca2 A.cc2 C.ca C.cc C.ca2 C.cc2 B V (ha.below (hWb.trans (hV.mono hWb.size)) hB).d (ha.below (hWb.trans (hV.mono hWb.size)) hB).b (hc.below (hWb.trans (hV.mono hWb.size)) hB).d (hc.below (hWb.trans (hV.mono hWb.size)) hB).b (Nat.le_trans hB (hWb.trans (hV.mono hWb.size)).size) hfa.b hfc.b
  have HLY : Hid (∀ V, Below W.heap.size W V → Calls Try.prog 12 #[.agg #[.int .u64 (A.ly.e : Int), .slice A.ly.a A.ly.sg.length A.ly.c, .int .i64 A.ly.q], .agg #[.int .u64 (C.ly.e : Int), .slice C.ly.a C.ly.sg.length C.ly.c, .int .i64 C.ly.q]] V fun e w' => e = .returned (.bool (lalike A.ly.x C.ly.x)) ∧ Below V.heap.size V w') := Lib.hid fun V hV =>
    rlsame_any A.ly C.ly B V (ha.below (hWb.trans (hV.mono hWb.size)) hB).ly (hc.below (hWb.trans (hV.mono hWb.size)) hB).ly hfa.ly hfc.ly (Nat.le_trans hB (hWb.trans (hV.mono hWb.size)).size)
  have HBA : Hid (Ro W B A.ka (bcs A.bk)) := Lib.hid (ha.below hWb hB).bk
  have HBC : Hid (Ro W B C.ka (bcs C.bk)) := Lib.hid (hc.below hWb hB).bk
  have hl1 := hfa.bk
  have hl2 := hfc.bk
  have HG1 : Hid (∀ V, Below W.heap.size W V → V.cell? ⟨w0.heap.size, 13, none⟩ = some (.slice A.sa A.st.length A.sc) ∧ V.cell? ⟨w0.heap.size + 1, 13, none⟩ = some (.slice C.sa C.st.length C.sc)) := Lib.hid fun V hV => by
    have q1 := ho1.below hV ho1.lt
    have q2 := ho2.below hV ho2.lt
    exact ⟨(q1.cell 13).trans rfl, (q2.cell 13).trans rfl⟩
  have HG2 : Hid (∀ V, Below W.heap.size W V → V.cell? ⟨w0.heap.size, 10, none⟩ = some (.int .i64 A.c.k) ∧ V.cell? ⟨w0.heap.size, 11, none⟩ = some (.slice A.ca A.c.d.length A.cc) ∧ V.cell? ⟨w0.heap.size, 12, none⟩ = some (.slice A.ca2 A.c.b.length A.cc2) ∧ V.cell? ⟨w0.heap.size + 1, 10, none⟩ = some (.int .i64 C.c.k) ∧ V.cell? ⟨w0.heap.size + 1, 11, none⟩ = some (.slice C.ca C.c.d.length C.cc) ∧ V.cell? ⟨w0.heap.size + 1, 12, none⟩ = some (.slice C.ca2 C.c.b.length C.cc2)) := Lib.hid fun V hV => by
    have q1 := ho1.below hV ho1.lt
    have q2 := ho2.below hV ho2.lt
    exact ⟨(q1.cell 10).trans rfl, (q1.cell 11).trans rfl, (q1.cell 12).trans rfl, (q2.cell 10).trans rfl, (q2.cell 11).trans rfl, (q2.cell 12).trans rfl⟩
  have HG3 : Hid (∀ V, Below W.heap.size W V → V.cell? ⟨w0.heap.size, 19, none⟩ = some (.int .u64 (A.ly.e : Int)) ∧ V.cell? ⟨w0.heap.size, 20, none⟩ = some (.slice A.ly.a A.ly.sg.length A.ly.c) ∧ V.cell? ⟨w0.heap.size, 21, none⟩ = some (.int .i64 A.ly.q) ∧ V.cell? ⟨w0.heap.size + 1, 19, none⟩ = some (.int .u64 (C.ly.e : Int)) ∧ V.cell? ⟨w0.heap.size + 1, 20, none⟩ = some (.slice C.ly.a C.ly.sg.length C.ly.c) ∧ V.cell? ⟨w0.heap.size + 1, 21, none⟩ = some (.int .i64 C.ly.q)) := Lib.hid fun V hV => by
    have q1 := ho1.below hV ho1.lt
    have q2 := ho2.below hV ho2.lt
    exact ⟨(q1.cell 19).trans rfl, (q1.cell 20).trans rfl, (q1.cell 21).trans rfl, (q2.cell 19).trans rfl, (q2.cell 20).trans rfl, (q2.cell 21).trans rfl⟩
  have HG4 : Hid (∀ V, Below W.heap.size W V → V.cell? ⟨w0.heap.size, 14, none⟩ = some (.slice A.ka A.bk.length A.kc) ∧ V.cell? ⟨w0.heap.size + 1, 14, none⟩ = some (.slice C.ka C.bk.length C.kc)) := Lib.hid fun V hV => by
    have q1 := ho1.below hV ho1.lt
    have q2 := ho2.below hV ho2.lt
    exact ⟨(q1.cell 14).trans rfl, (q2.cell 14).trans rfl⟩
  have HG5 : Hid (∀ V, Below W.heap.size W V → V.cell? ⟨w0.heap.size, 0, none⟩ = some (.int .i64 A.k) ∧ V.cell? ⟨w0.heap.size, 1, none⟩ = some (.int .i64 A.fr.1) ∧ V.cell? ⟨w0.heap.size, 2, none⟩ = some (.int .i64 A.fr.2) ∧ V.cell? ⟨w0.heap.size, 3, none⟩ = some (.int .i64 A.to.1) ∧ V.cell? ⟨w0.heap.size, 4, none⟩ = some (.int .i64 A.to.2) ∧ V.cell? ⟨w0.heap.size, 5, none⟩ = some (.int .i64 A.id) ∧ V.cell? ⟨w0.heap.size, 6, none⟩ = some (.int .i64 A.f) ∧ V.cell? ⟨w0.heap.size, 7, none⟩ = some (.int .u64 (A.ep : Int)) ∧ V.cell? ⟨w0.heap.size, 8, none⟩ = some (.int .u64 (A.ad : Int)) ∧ V.cell? ⟨w0.heap.size, 9, none⟩ = some (.int .i64 A.er) ∧ V.cell? ⟨w0.heap.size, 15, none⟩ = some (.int .i64 A.ba.1) ∧ V.cell? ⟨w0.heap.size, 16, none⟩ = some (.int .i64 A.ba.2) ∧ V.cell? ⟨w0.heap.size, 17, none⟩ = some (.int .i64 A.pr.1) ∧ V.cell? ⟨w0.heap.size, 18, none⟩ = some (.int .i64 A.pr.2) ∧ V.cell? ⟨w0.heap.size + 1, 0, none⟩ = some (.int .i64 C.k) ∧ V.cell? ⟨w0.heap.size + 1, 1, none⟩ = some (.int .i64 C.fr.1) ∧ V.cell? ⟨w0.heap.size + 1, 2, none⟩ = some (.int .i64 C.fr.2) ∧ V.cell? ⟨w0.heap.size + 1, 3, none⟩ = some (.int .i64 C.to.1) ∧ V.cell? ⟨w0.heap.size + 1, 4, none⟩ = some (.int .i64 C.to.2) ∧ V.cell? ⟨w0.heap.size + 1, 5, none⟩ = some (.int .i64 C.id) ∧ V.cell? ⟨w0.heap.size + 1, 6, none⟩ = some (.int .i64 C.f) ∧ V.cell? ⟨w0.heap.size + 1, 7, none⟩ = some (.int .u64 (C.ep : Int)) ∧ V.cell? ⟨w0.heap.size + 1, 8, none⟩ = some (.int .u64 (C.ad : Int)) ∧ V.cell? ⟨w0.heap.size + 1, 9, none⟩ = some (.int .i64 C.er) ∧ V.cell? ⟨w0.heap.size + 1, 15, none⟩ = some (.int .i64 C.ba.1) ∧ V.cell? ⟨w0.heap.size + 1, 16, none⟩ = some (.int .i64 C.ba.2) ∧ V.cell? ⟨w0.heap.size + 1, 17, none⟩ = some (.int .i64 C.pr.1) ∧ V.cell? ⟨w0.heap.size + 1, 18, none⟩ = some (.int .i64 C.pr.2)) := Lib.hid fun V hV => by
    have q1 := ho1.below hV ho1.lt
    have q2 := ho2.below hV ho2.lt
    exact ⟨(q1.cell 0).trans rfl, (q1.cell 1).trans rfl, (q1.cell 2).trans rfl, (q1.cell 3).trans rfl, (q1.cell 4).trans rfl, (q1.cell 5).trans rfl, (q1.cell 6).trans rfl, (q1.cell 7).trans rfl, (q1.cell 8).trans rfl, (q1.cell 9).trans rfl, (q1.cell 15).trans rfl, (q1.cell 16).trans rfl, (q1.cell 17).trans rfl, (q1.cell 18).trans rfl, (q2.cell 0).trans rfl, (q2.cell 1).trans rfl, (q2.cell 2).trans rfl, (q2.cell 3).trans rfl, (q2.cell 4).trans rfl, (q2.cell 5).trans rfl, (q2.cell 6).trans rfl, (q2.cell 7).trans rfl, (q2.cell 8).trans rfl, (q2.cell 9).trans rfl, (q2.cell 15).trans rfl, (q2.cell 16).trans rfl, (q2.cell 17).trans rfl, (q2.cell 18).trans rfl⟩
  have HIFF : Hid (msEq A C = true ↔ (hdEq A C = true ∧ decide (A.st = C.st) = true ∧ A.bk = C.bk ∧ alike A.c C.c = true ∧ lalike A.ly.x C.ly.x = true)) := Lib.hid (by
    unfold msEq
    simp only [Bool.and_eq_true]
    constructor
    · rintro ⟨h1, h2, h3, h4, h5⟩; exact ⟨h1, h2, of_decide_eq_true h3, h4, h5⟩
    · rintro ⟨h1, h2, h3, h4, h5⟩; exact ⟨h1, h2, decide_eq_true h3, h4, h5⟩)
  have HHD : Hid (hdEq A C = true ↔ (A.k = C.k ∧ A.f = C.f ∧ (A.fr.1 = C.fr.1 ∧ A.fr.2 = C.fr.2) ∧ (A.to.1 = C.to.1 ∧ A.to.2 = C.to.2) ∧ A.id = C.id ∧ A.ep = C.ep ∧ A.ad = C.ad ∧ A.er = C.er ∧ (A.ba.1 = C.ba.1 ∧ A.ba.2 = C.ba.2) ∧ (A.pr.1 = C.pr.1 ∧ A.pr.2 = C.pr.2))) := Lib.hid ⟨fun h => of_decide_eq_true h, fun h => decide_eq_true h⟩
  generalize msEq A C = t at *
  generalize hdEq A C = th at *
  generalize decide (A.st = C.st) = t2 at *
  generalize alike A.c C.c = t4 at *
  generalize lalike A.ly.x C.ly.x = t5 at *
  clear ha hc hB hfa hfc hWb ho1 ho2
  generalize A.ka = ka at *
  generalize C.ka = ka' at *
  generalize A.bk = L at *
  generalize C.bk = L' at *
  obtain ⟨n, hn⟩ : ∃ n, L.length = n := ⟨_, rfl⟩
  obtain ⟨m, hm⟩ : ∃ m, L'.length = m := ⟨_, rfl⟩
  rw [hn] at HG4 hl1
  rw [hm] at HG4 hl2
  have HN := Lib.hid hn
  have HM := Lib.hid hm
  clear hn hm
  go_enter Try.func30, Try.ntmps30
  go_upto_region 1 with fail
  rw [HWW.out]
  obtain ⟨c1, c2⟩ := HG1.out W (Below.refl _ _)
  go_wp2_with fail
  refine (HST.out W (Below.refl _ _)).mono ?_
  rintro e w1 ⟨rfl, hb⟩
  have HB1 := Lib.hid hb
  clear c1 c2 hb
  obtain ⟨c1, c2, c3, d1, d2, d3⟩ := HG2.out w1 HB1.out
  go_wp2_with fail
  refine (HCE.out w1 HB1.out).mono ?_
  rintro e w2 ⟨rfl, hb⟩
  have HB2 := Lib.hid (HB1.out.trans (hb.mono HB1.out.size))
  clear c1 c2 c3 d1 d2 d3 hb
  obtain ⟨c1, c2, c3, d1, d2, d3⟩ := HG3.out w2 HB2.out
  go_wp2_with fail
  refine (HLY.out w2 HB2.out).mono ?_
  rintro e w3 ⟨rfl, hb⟩
  have HB3 := Lib.hid (HB2.out.trans (hb.mono HB2.out.size))
  clear c1 c2 c3 d1 d2 d3 hb
  obtain ⟨c1, c2⟩ := HG4.out w3 HB3.out
  by_cases e : n = m
  case neg =>
    have e1 : ((n : Int) != (m : Int)) = true := by rw [bne_iff_ne]; omega
    obtain rfl : t = false := by
      cases t with
      | false => rfl
      | true => exact absurd (HN.out.symm.trans ((congrArg List.length (HIFF.out.1 rfl).2.2.1).trans HM.out)) e
    clear e
    go_wp2_with fail
    go_ret
    exact ⟨rfl, HB.out.trans (HB3.out.mono HB.out.size)⟩
  subst e
  go_wp2_with fail
  clear c1 c2
  go_loopw [8] (fun i wr => ∃ k : Nat, i = .int .i64 k ∧ k ≤ n ∧ Hid (L.take k = L'.take k) ∧ Hid (Below W.heap.size W wr)) (fun i _ => n - (intOf i).toNat)
  case atStart => exact ⟨0, rfl, Nat.zero_le _, Lib.hid rfl, HB3⟩
  case round =>
    obtain ⟨i, rfl, hi, HTK, HQ⟩ := hrel
    rename World => w6
    by_cases hlt : i < n
    · have hkA : i < L.length := by rw [HN.out]; exact hlt
      have hkB : i < L'.length := by rw [HM.out]; exact hlt
      obtain ⟨c1, c2⟩ := HG4.out w6 HQ.out
      obtain ⟨g, off, rfl, hg, hcl⟩ := (HBA.out.below HQ.out HS.out).bk (by omega)
      obtain ⟨g', off', rfl, hg', hcl'⟩ := (HBC.out.below HQ.out HS.out).bk (by omega)
      obtain ⟨h1, h2, h3⟩ := hcl i hkA
      obtain ⟨h4, h5, h6⟩ := hcl' i hkB
      have HTS := Lib.hid (take_succ_eqB hkA hkB HTK.out)
      have HNE := Lib.hid (@ne_of_bk L L' i)
      clear hcl hcl'
      generalize bk L i = x at *
      generalize bk L' i = y at *
      have hk0 : (0 : Int) ≤ (i : Int) := by omega
      have hk1 : (i : Int) < (n : Int) := by omega
      by_cases hxy : x = y
      · subst hxy
        have hN : ∀ W, (binOp .neq 106 (bkv x) (bkv x)).run Try.prog W = .ok (.bool false) W := fun W => by rw [neq_back]; simp
        go_wp2_with fail
        go_region
        go_wp2_with fail
        go_roundw
        case rel => exact ⟨i + 1, by go_num, by omega, Lib.hid (HTS.out trivial), Lib.hid (by first | exact HQ.out | exact HQ.out.drew)⟩
        case measure => simp [intOf]; omega
      · have hN : ∀ W, (binOp .neq 106 (bkv x) (bkv y)).run Try.prog W = .ok (.bool true) W := fun W => by rw [neq_back]; simp [hxy]
        obtain rfl : t = false := by
          cases t with
          | false => rfl
          | true =>
            have h7 := HNE.out hxy
            have h8 := (HIFF.out.1 rfl).2.2.1
            simp [h8] at h7
        go_wp2_with fail
        go_region
        go_wp2_with fail
        go_ret
        exact ⟨rfl, HB.out.trans ((show Below W.heap.size W _ by first | exact HQ.out | exact HQ.out.drew).mono HB.out.size)⟩
    · obtain rfl : i = n := by omega
      have HLL : Hid (L = L') := Lib.hid (by
        have ht := HTK.out
        rwa [List.take_of_length_le (by rw [HN.out]; omega), List.take_of_length_le (by rw [HM.out]; omega)] at ht)
      have hE := HB.out.trans (HQ.out.mono HB.out.size)
      have HE := Lib.hid hE
      clear hE
      obtain ⟨x1, x2⟩ := HG4.out w6 HQ.out
      go_upto_region 11 with fail
      clear x1 x2 HST HCE HLY HG1 HG2 HG3 HG4 HBA HBC HTK HN HM HB HS HWW HB1 HB2 HB3 hlt hi hl1 hl2
      have HG := Lib.hid (HG5.out w6 HQ.out)
      clear HG5 HQ
      refine wp_region_lit ?_
      obtain ⟨y0, _, _, _, _, _, _, _, _, _, _, _, _, _, y14, _, _, _, _, _, _, _, _, _, _, _, _, _⟩ := HG.out
      by_cases e : A.k = C.k
      case neg =>
        have z : (A.k == C.k) = false := by rw [beq_eq_false_iff_ne]; exact e
        obtain rfl : t = false := by
          cases t with
          | false => rfl
          | true => exact absurd (HHD.out.1 (HIFF.out.1 rfl).1).1 e
        clear e HG HIFF HHD HLL
        go_wp2_with fail
        go_ret
        exact ⟨rfl, HE.out⟩
      have z : (A.k == C.k) = true := by rw [beq_iff_eq]; exact e
      have E0 := Lib.hid e
      clear e
      iterate 12 go_step
      clear z y0 y14
      obtain ⟨_, _, _, _, _, _, y6, _, _, _, _, _, _, _, _, _, _, _, _, _, y20, _, _, _, _, _, _, _⟩ := HG.out
      by_cases e : A.f = C.f
      case neg =>
        have z : (A.f == C.f) = false := by rw [beq_eq_false_iff_ne]; exact e
        obtain rfl : t = false := by
          cases t with
          | false => rfl
          | true => exact absurd (HHD.out.1 (HIFF.out.1 rfl).1).2.1 e
        clear e HG HIFF HHD HLL E0
        go_wp2_with fail
        go_ret
        exact ⟨rfl, HE.out⟩
      have z : (A.f == C.f) = true := by rw [beq_iff_eq]; exact e
      have E1 := Lib.hid e
      clear e
      iterate 14 go_step
      clear z y6 y20
      obtain ⟨_, y1, y2, _, _, _, _, _, _, _, _, _, _, _, _, y15, y16, _, _, _, _, _, _, _, _, _, _, _⟩ := HG.out
      by_cases e : A.fr.1 = C.fr.1 ∧ A.fr.2 = C.fr.2
      case neg =>
        have z := eqb_place A.fr.1 A.fr.2 C.fr.1 C.fr.2 (decide_eq_false e)
        obtain rfl : t = false := by
          cases t with
          | false => rfl
          | true => exact absurd (HHD.out.1 (HIFF.out.1 rfl).1).2.2.1 e
        clear e HG HIFF HHD HLL E0 E1
        go_wp2_with fail
        go_ret
        exact ⟨rfl, HE.out⟩
      have z := eqb_place A.fr.1 A.fr.2 C.fr.1 C.fr.2 (decide_eq_true e)
      have E2 := Lib.hid e
      clear e
      iterate 14 go_step
      clear z y1 y2 y15 y16
      obtain ⟨_, _, _, y3, y4, _, _, _, _, _, _, _, _, _, _, _, _, y17, y18, _, _, _, _, _, _, _, _, _⟩ := HG.out
      by_cases e : A.to.1 = C.to.1 ∧ A.to.2 = C.to.2
      case neg =>
        have z := eqb_place A.to.1 A.to.2 C.to.1 C.to.2 (decide_eq_false e)
        obtain rfl : t = false := by
          cases t with
          | false => rfl
          | true => exact absurd (HHD.out.1 (HIFF.out.1 rfl).1).2.2.2.1 e
        clear e HG HIFF HHD HLL E0 E1 E2
        go_wp2_with fail
        go_ret
        exact ⟨rfl, HE.out⟩
      have z := eqb_place A.to.1 A.to.2 C.to.1 C.to.2 (decide_eq_true e)
      have E3 := Lib.hid e
      clear e
      iterate 14 go_step
      clear z y3 y4 y17 y18
      obtain ⟨_, _, _, _, _, y5, _, _, _, _, _, _, _, _, _, _, _, _, _, y19, _, _, _, _, _, _, _, _⟩ := HG.out
      by_cases e : A.id = C.id
      case neg =>
        have z : (A.id == C.id) = false := by rw [beq_eq_false_iff_ne]; exact e
        obtain rfl : t = false := by
          cases t with
          | false => rfl
          | true => exact absurd (HHD.out.1 (HIFF.out.1 rfl).1).2.2.2.2.1 e
        clear e HG HIFF HHD HLL E0 E1 E2 E3
        go_wp2_with fail
        go_ret
        exact ⟨rfl, HE.out⟩
      have z : (A.id == C.id) = true := by rw [beq_iff_eq]; exact e
      have E4 := Lib.hid e
      clear e
      iterate 14 go_step
      clear z y5 y19
      obtain ⟨_, _, _, _, _, _, _, y7, _, _, _, _, _, _, _, _, _, _, _, _, _, y21, _, _, _, _, _, _⟩ := HG.out
      by_cases e : A.ep = C.ep
      case neg =>
        have z : ((A.ep : Int) == (C.ep : Int)) = false := by rw [beq_eq_false_iff_ne]; omega
        obtain rfl : t = false := by
          cases t with
          | false => rfl
          | true => exact absurd (HHD.out.1 (HIFF.out.1 rfl).1).2.2.2.2.2.1 e
        clear e HG HIFF HHD HLL E0 E1 E2 E3 E4
        go_wp2_with fail
        go_ret
        exact ⟨rfl, HE.out⟩
      have z : ((A.ep : Int) == (C.ep : Int)) = true := by rw [beq_iff_eq, e]
      have E5 := Lib.hid e
      clear e
      iterate 14 go_step
      clear z y7 y21
      obtain ⟨_, _, _, _, _, _, _, _, y8, _, _, _, _, _, _, _, _, _, _, _, _, _, y22, _, _, _, _, _⟩ := HG.out
      by_cases e : A.ad = C.ad
      case neg =>
        have z : ((A.ad : Int) == (C.ad : Int)) = false := by rw [beq_eq_false_iff_ne]; omega
        obtain rfl : t = false := by
          cases t with
          | false => rfl
          | true => exact absurd (HHD.out.1 (HIFF.out.1 rfl).1).2.2.2.2.2.2.1 e
        clear e HG HIFF HHD HLL E0 E1 E2 E3 E4 E5
        go_wp2_with fail
        go_ret
        exact ⟨rfl, HE.out⟩
      have z : ((A.ad : Int) == (C.ad : Int)) = true := by rw [beq_iff_eq, e]
      have E6 := Lib.hid e
      clear e
      iterate 14 go_step
      clear z y8 y22
      obtain ⟨_, _, _, _, _, _, _, _, _, y9, _, _, _, _, _, _, _, _, _, _, _, _, _, y23, _, _, _, _⟩ := HG.out
      by_cases e : A.er = C.er
      case neg =>
        have z : (A.er == C.er) = false := by rw [beq_eq_false_iff_ne]; exact e
        obtain rfl : t = false := by
          cases t with
          | false => rfl
          | true => exact absurd (HHD.out.1 (HIFF.out.1 rfl).1).2.2.2.2.2.2.2.1 e
        clear e HG HIFF HHD HLL E0 E1 E2 E3 E4 E5 E6
        go_wp2_with fail
        go_ret
        exact ⟨rfl, HE.out⟩
      have z : (A.er == C.er) = true := by rw [beq_iff_eq]; exact e
      have E7 := Lib.hid e
      clear e
      iterate 14 go_step
      clear z y9 y23
      obtain ⟨_, _, _, _, _, _, _, _, _, _, y10, y11, _, _, _, _, _, _, _, _, _, _, _, _, y24, y25, _, _⟩ := HG.out
      by_cases e : A.ba.1 = C.ba.1 ∧ A.ba.2 = C.ba.2
      case neg =>
        have z := eqb_ballot A.ba.1 A.ba.2 C.ba.1 C.ba.2 (decide_eq_false e)
        obtain rfl : t = false := by
          cases t with
          | false => rfl
          | true => exact absurd (HHD.out.1 (HIFF.out.1 rfl).1).2.2.2.2.2.2.2.2.1 e
        clear e HG HIFF HHD HLL E0 E1 E2 E3 E4 E5 E6 E7
        go_wp2_with fail
        go_ret
        exact ⟨rfl, HE.out⟩
      have z := eqb_ballot A.ba.1 A.ba.2 C.ba.1 C.ba.2 (decide_eq_true e)
      have E8 := Lib.hid e
      clear e
      iterate 14 go_step
      clear z y10 y11 y24 y25
      obtain ⟨_, _, _, _, _, _, _, _, _, _, _, _, y12, y13, _, _, _, _, _, _, _, _, _, _, _, _, y26, y27⟩ := HG.out
      by_cases e : A.pr.1 = C.pr.1 ∧ A.pr.2 = C.pr.2
      case neg =>
        have z := eqb_ballot A.pr.1 A.pr.2 C.pr.1 C.pr.2 (decide_eq_false e)
        obtain rfl : t = false := by
          cases t with
          | false => rfl
          | true => exact absurd (HHD.out.1 (HIFF.out.1 rfl).1).2.2.2.2.2.2.2.2.2 e
        clear e HG HIFF HHD HLL E0 E1 E2 E3 E4 E5 E6 E7 E8
        go_wp2_with fail
        go_ret
        exact ⟨rfl, HE.out⟩
      have z := eqb_ballot A.pr.1 A.pr.2 C.pr.1 C.pr.2 (decide_eq_true e)
      have E9 := Lib.hid e
      clear e
      iterate 14 go_step
      have HTH : Hid (th = true) := Lib.hid (HHD.out.2 ⟨E0.out, E1.out, E2.out, E3.out, E4.out, E5.out, E6.out, E7.out, E8.out, E9.out⟩)
      clear HHD HG E0 E1 E2 E3 E4 E5 E6 E7 E8 E9
      cases t2 with
      | false =>
        obtain rfl : t = false := by
          cases t with
          | false => rfl
          | true => exact absurd (HIFF.out.1 rfl).2.1 (by simp)
        clear HIFF HLL HTH
        go_wp2_with fail
        all_goals (go_ret; exact ⟨rfl, HE.out⟩)
      | true =>
      cases t4 with
      | false =>
        obtain rfl : t = false := by
          cases t with
          | false => rfl
          | true => exact absurd (HIFF.out.1 rfl).2.2.2.1 (by simp)
        clear HIFF HLL HTH
        go_wp2_with fail
        all_goals (go_ret; exact ⟨rfl, HE.out⟩)
      | true =>
      cases t5 with
      | false =>
        obtain rfl : t = false := by
          cases t with
          | false => rfl
          | true => exact absurd (HIFF.out.1 rfl).2.2.2.2 (by simp)
        clear HIFF HLL HTH
        go_wp2_with fail
        all_goals (go_ret; exact ⟨rfl, HE.out⟩)
      | true =>
      obtain rfl : t = true := HIFF.out.2 ⟨HTH.out, by trivial, HLL.out, by trivial, by trivial⟩
      clear HIFF HLL HTH
      go_wp2_with fail
      all_goals (go_ret; exact ⟨rfl, HE.out⟩)
end Go.Proofs.Yteenlkmnadjnpaa
namespace Go.Proofs.Yteenlkmnadjnpaa
open Go.RowKit Go.Deep Go.Shelf
set_option linter.unusedVariables false
set_option linter.unusedSimpArgs false

noncomputable instance mgDec : DecidableEq Mg := fun _ _ => Classical.propDecidable _
theorem msEq_iff (A C : MgT) : msEq A C = true ↔ A.x = C.x := by
  unfold msEq hdEq
  simp only [Bool.and_eq_true, decide_eq_true_eq, alike_iff, lalike_iff]
  constructor
  · rintro ⟨⟨h1, h2, ⟨h3, h4⟩, ⟨h5, h6⟩, h7, h8, h9, h10, ⟨h11, h12⟩, ⟨h13, h14⟩⟩, h15, h16, h17, h18⟩
    unfold MgT.x
    rw [h1, h2, Prod.ext h3 h4, Prod.ext h5 h6, h7, h8, h9, h10, Prod.ext h11 h12, Prod.ext h13 h14, h15, h16, h17, h18]
  · intro h
    unfold MgT.x at h
    injection h with h1 h2 h3 h4 h5 h6 h7 h8 h9 h10 h11 h12 h13 h14
    exact ⟨⟨h1, h5, ⟨by rw [h2], by rw [h2]⟩, ⟨by rw [h3], by rw [h3]⟩, h4, h6, h7, h8, ⟨by rw [h12], by rw [h12]⟩, ⟨by rw [h13], by rw [h13]⟩⟩, h10, h11, h9, h14⟩
theorem msEq_dec (A C : MgT) : msEq A C = decide (A.x = C.x) := by
  cases h : msEq A C with
  | true => simp [(msEq_iff A C).1 h]
  | false =>
    have : ¬ A.x = C.x := fun e => by rw [(msEq_iff A C).2 e] at h; cases h
    simp [this]
end Go.Proofs.Yteenlkmnadjnpaa
namespace Go.Proofs.Yteenlkmnadjnpaa
open Go.RowKit Go.Deep Go.Shelf
set_option linter.unusedVariables false
set_option linter.unusedSimpArgs false

/-- what Encode tells, in one form -/
structure MEU (w : World) (x : Mg) (w' : World) (ok : Bool) (g : Int) (a : Option Addr) (cs : List UInt8) : Prop where
  below : Below w.heap.size w w'
  code : (g != 0) = !ok
  yes : ok = true → mright x = true ∧ IsME x cs
  no : ok = false → g = 101 ∧ mright x = false ∧ cs = []
  ro : Ro w' w'.heap.size a (u8s cs)
  nn : ok = true → a ≠ none
theorem menc_u (A : MgT) (B : Nat) (w : World) (h : MgIn w B A) (hB : B ≤ w.heap.size) (hf : MgFit A) :
    Calls Try.prog 31 #[.agg A.cs.toArray] w fun e w' => ∃ ok g a cs, e = .returned (.tuple #[.slice a cs.length cs.length, .int .i64 g]) ∧ MEU w A.x w' ok g a cs := by
  cases hr : mright A.x with
  | false =>
    refine (menc_no A B w h hB hf hr).mono ?_
    rintro e w' ⟨rfl, hb⟩
    exact ⟨false, 101, none, [], rfl, hb, by decide, (fun h => by cases h), fun _ => ⟨rfl, hr, rfl⟩, Ro.nil _ _ _, fun h => by cases h⟩
  | true =>
    refine (menc_yes A B w h hB hf hr).mono ?_
    rintro e w' ⟨g, cs, rfl, _, he, ho, hb⟩
    exact ⟨true, 0, _, cs, rfl, hb, by decide, fun _ => ⟨hr, he⟩, (fun h => by cases h), ho.ro _ ho.lt, fun _ h => by cases h⟩
theorem wpList_loadMm {ops : Array Oper} {rest : List Oper} {o : Oper} {a : Act} {w : World} {Q : Exit → Act → World → Prop} (x : Operand) (ho : o.op = .load 58 x) (b off : Nat) (hx : a.eval x = .pointer (some ⟨b, off, none⟩)) (A : MgT) (hr : w.rangeAt b off A.cs) (hw : Region.wanted o (yielded ops a.tmps) = true)
    (h : wpList Try.prog ops Q rest (a.put o.dst (.agg A.cs.toArray)) w) : wpList Try.prog ops Q (o :: rest) a w :=
  wpList_step fun K hK => by
    rw [if_pos hw]
    exact wp_load_mid _ x ho b off hx A.cs _ hr Try.underlying58 rfl infoMg (hK _ _ h)
end Go.Proofs.Yteenlkmnadjnpaa
namespace Go.Proofs.Yteenlkmnadjnpaa
open Go.RowKit Go.Deep Go.Shelf
set_option linter.unusedVariables false
set_option linter.unusedSimpArgs false

def alM : MgT := ⟨6, (4, 1), (1, 5), 7, 0, 3, 0, 0, noC, none, 0, none, 0, [], none, 0, [], none, 0, (0, 0), (0, 0), ⟨0, none, 0, [], 0⟩⟩
theorem alM_right : mright alM.x = true := by kernel_rfl
theorem alM_in (w : World) (B : Nat) : MgIn w B alM := ⟨Ro.nil _ _ _, Ro.nil _ _ _, Ro.nil _ _ _, Ro.nil _ _ _, Ro.nil _ _ _, fun s hs => by cases hs⟩
theorem alM_fit : MgFit alM := ⟨by simp [alM, noC], by simp [alM, noC], by simp [alM], by simp [alM], ⟨by simp [alM], (fun s hs => by cases hs)⟩, (fun s hs => by cases hs), (fun s hs => by cases hs)⟩
theorem alM_bytes {cs : List UInt8} (h : IsME alM.x cs) : cs.length = 20 ∧ cs.getD 0 0 = 96 ∧ cs.getD 1 0 = 129 := by
  obtain ⟨cb, lb, h1, h2, h3⟩ := h
  obtain rfl : cb = [] := by
    rcases h1 with ⟨h, _⟩ | ⟨_, h⟩
    · exact absurd h (by decide)
    · exact h
  obtain rfl : lb = [] := by
    rcases h2 with ⟨h, _⟩ | ⟨_, h⟩
    · exact absurd h (by decide)
    · exact h
  have hl := h3.1
  rw [nat_fw_sum, fMg_sum] at hl
  have hl' : cs.length = 20 := by rw [hl]; rfl
  have hr := rd_of_pack (fMg_ok (mright_all alM_right) h1 h2) h3 []
  rw [List.append_nil] at hr
  obtain ⟨r, _⟩ := hr.app
  obtain ⟨q1, q2, q3, q4, _⟩ := r
  simp only [Nat.zero_add, Nat.reduceAdd] at q1 q2 q3 q4
  unfold tkN at q1 q2 q3 q4
  rw [hl'] at q1 q2 q3 q4
  rw [if_pos (by omega)] at q1 q2 q3 q4
  have e1 := num_add cs 0 4 4
  have e2 := num_add cs 8 3 5
  have f1 := num_byte cs 0 8 (by omega)
  have f2 := num_byte cs 8 8 (by omega)
  simp only [Nat.zero_add, Nat.reduceAdd] at e1 e2
  rw [q1, q2] at e1
  rw [q3, q4] at e2
  have g1 : num cs 0 8 = 96 := by rw [e1]; rfl
  have g2 : num cs 8 8 = 129 := by rw [e2]; rfl
  rw [g1] at f1
  rw [g2] at f2
  have b1 := (cs.getD 0 0).toNat_lt
  have b2 := (cs.getD 1 0).toNat_lt
  refine ⟨hl', ?_, ?_⟩
  · apply UInt8.toNat_inj.1
    have : (cs.getD 0 0).toNat = 96 := by
      simp only [Nat.zero_div, Nat.zero_mod, Nat.sub_zero, Nat.sub_self, Nat.pow_zero, Nat.div_one] at f1
      omega
    exact this
  · apply UInt8.toNat_inj.1
    have : (cs.getD 1 0).toNat = 129 := by
      have e : 8 / 8 = 1 := rfl
      rw [e] at f2
      simp only [Nat.mod_self, Nat.sub_zero, Nat.sub_self, Nat.pow_zero, Nat.div_one] at f2
      omega
    exact this

theorem Own.u8at {w : World} {g : Nat} {t : TypeId} {cs : List UInt8} (h : Own w g t (u8s cs)) (i : Nat) (hi : i < cs.length) : w.cell? ⟨g, i, none⟩ = some (.int .u8 ((cs.getD i 0).toNat : Nat)) := by
  rw [h.cell i]
  simp [u8s, List.getD, hi]
set_option maxHeartbeats 8000000 in
set_option maxRecDepth 100000 in
theorem alive10_any (w : World) : Calls Try.prog 28 #[] w fun e w' => e = .returned (.bool true) ∧ Below w.heap.size w w' := by
  have HEN := Lib.hid (fun (W : World) (hW : 0 ≤ W.heap.size) => menc_yes alM 0 W (alM_in W 0) hW alM_fit alM_right)
  have HAN := Lib.hid (fun (W : World) => answer_any alM 84 W)
  have HBY := Lib.hid (fun (cs : List UInt8) (h : IsME alM.x cs) => alM_bytes h)
  have HZ : Hid (Own (w.alloc (.cells #[.int .i64 0, .int .i64 0, .int .i64 0, .int .i64 0, .int .i64 0, .int .i64 0, .int .i64 0, .int .u64 0, .int .u64 0, .int .i64 0, .int .i64 0, .slice none 0 0, .slice none 0 0, .slice none 0 0, .slice none 0 0, .int .i64 0, .int .i64 0, .int .i64 0, .int .i64 0, .int .u64 0, .slice none 0 0, .int .i64 0] 58)) w.heap.size 58 zmT.cs) := Lib.hid (Own.new w 58 zmT.cs)
  simp only [MgT.val] at HEN
  go_enter Try.func28, Try.ntmps28
  go_wp2_with (refine wpList_storeMg rfl (.tmp 1) (.tmp 7) rfl w.heap.size rfl alM rfl zmT.cs HZ.out rfl ?_)
  intro w1 ho hc
  have HO1 := Lib.hid ho
  have HB1 : Hid (Below w.heap.size w w1) := Lib.hid (((Chg.refl [] w).alloc _).then hc (fun x hx => by simp only [List.mem_singleton] at hx; subst hx; exact .inr (Nat.le_refl _))).low
  clear ho hc
  go_wp2_with (refine wpList_loadMg rfl (.tmp 1) rfl w.heap.size rfl alM HO1.out ?_)
  refine (HEN.out w1 (Nat.zero_le _)).mono ?_
  rintro e w2 ⟨g, cs, rfl, hg, he, ho, hb⟩
  obtain ⟨y1, y2, y3⟩ := HBY.out cs he
  have HCS := Lib.hid (And.intro (And.intro y1 (And.intro y2 y3)) ho)
  have HB2 := Lib.hid (HB1.out.trans (hb.mono HB1.out.size))
  have HO2 := Lib.hid (HO1.out.below hb HO1.out.lt)
  clear hg he ho hb y2 y3
  rw [y1]
  clear y1
  go_wp2_with (refine wpList_loadMg rfl (.tmp 1) rfl w.heap.size rfl alM HO2.out ?_)
  refine (HAN.out w2).mono ?_
  rintro e w3 ⟨rfl, hb⟩
  have HB3 := Lib.hid (HB2.out.trans (hb.mono HB2.out.size))
  have HG3 := Lib.hid (HCS.out.2.below hb HCS.out.2.lt)
  have HZ3 : Hid (Own (w3.alloc (.cells #[.int .i64 0, .int .i64 0, .int .i64 0, .int .i64 0, .int .i64 0, .int .i64 0, .int .i64 0, .int .u64 0, .int .u64 0, .int .i64 0, .int .i64 0, .slice none 0 0, .slice none 0 0, .slice none 0 0, .slice none 0 0, .int .i64 0, .int .i64 0, .int .i64 0, .int .i64 0, .int .u64 0, .slice none 0 0, .int .i64 0] 58)) w3.heap.size 58 zmT.cs) := Lib.hid (Own.new w3 58 zmT.cs)
  clear hb
  go_wp2_with (refine wpList_storeMg rfl (.tmp 4) (.tmp 14) rfl w3.heap.size rfl (ansT alM 84) rfl zmT.cs HZ3.out rfl ?_)
  intro w4 ho hc
  have HO4 := Lib.hid ho
  have hc4 : Chg [] w3 w4 := ((Chg.refl [] w3).alloc _).then hc (fun x hx => by simp only [List.mem_singleton] at hx; subst hx; exact .inr (Nat.le_refl _))
  have HB4 : Hid (Below w.heap.size w w4) := Lib.hid (HB3.out.trans (hc4.low.mono HB3.out.size))
  have hg4 := HG3.out.chg hc4 (by simp)
  have d0 := hg4.u8at 0 (by rw [HCS.out.1.1]; omega)
  have d1 := hg4.u8at 1 (by rw [HCS.out.1.1]; omega)
  rw [HCS.out.1.2.1] at d0
  rw [HCS.out.1.2.2] at d1
  have a0 := HO4.out.cell 0
  have a3 := HO4.out.cell 3
  have a4 := HO4.out.cell 4
  have a6 := HO4.out.cell 6
  have a9 := HO4.out.cell 9
  have hz := HO4.out.lt
  have hgl := hg4.lt
  simp [MgT.cs, ansT, alM] at a0 a3 a4 a6 a9
  replace d0 : w4.cell? ⟨g, 0, none⟩ = some (.int .u8 96) := d0
  replace d1 : w4.cell? ⟨g, 1, none⟩ = some (.int .u8 129) := d1
  clear ho hc hc4 hg4
  go_wp2_with fail
  go_ret
  exact ⟨rfl, HB4.out⟩
end Go.Proofs.Yteenlkmnadjnpaa
namespace Go.Proofs.Yteenlkmnadjnpaa
open Go.RowKit Go.Deep Go.Shelf
set_option linter.unusedVariables false
set_option linter.unusedSimpArgs false

set_option maxHeartbeats 8000000 in
set_option maxRecDepth 100000 in
theorem messageSame_any (w : World) {A C : MgT} (hA : MgOk w A) (hC : MgOk w C) :
    Calls Try.prog 5 #[.agg A.cs.toArray, .agg C.cs.toArray] w fun e w' => e = .returned (.bool true) ∧ Below w.heap.size w w' := by
  obtain ⟨W, HWW⟩ : ∃ W, Hid ((w.alloc (.cells A.cs.toArray 58)).alloc (.cells C.cs.toArray 58) = W) := ⟨_, Lib.hid rfl⟩
  have hWb : Below w.heap.size w W := by rw [← HWW.out]; exact ((Below.refl _ _).alloc (Nat.le_refl _) _).alloc (by simp) _
  have ho1 : Own W w.heap.size 58 A.cs := by rw [← HWW.out]; exact (Own.new w _ _).alloc _
  have ho2 : Own W (w.heap.size + 1) 58 C.cs := by
    rw [← HWW.out]
    have := Own.new (w.alloc (.cells A.cs.toArray 58)) 58 C.cs
    rw [World.size_alloc] at this
    exact this
  have HO := Lib.hid (fun (V : World) (hV : Below W.heap.size W V) => And.intro (ho1.below hV ho1.lt) (ho2.below hV ho2.lt))
  have HB := Lib.hid hWb
  have HAL := Lib.hid alive10_any
  have hup := fun (V : World) (hV : Below W.heap.size W V) => hWb.trans (hV.mono hWb.size)
  have hinA := fun (V : World) (hV : Below W.heap.size W V) => hA.inn.below (hup V hV) (Nat.le_refl _)
  have hinC := fun (V : World) (hV : Below W.heap.size W V) => hC.inn.below (hup V hV) (Nat.le_refl _)
  have HUP := Lib.hid hup
  have HF1 := Lib.hid (fun (V : World) (hV : Below W.heap.size W V) => fits10_any A w.heap.size V (hinA V hV) (hup V hV).size hA.fit)
  have HF2 := Lib.hid (fun (V : World) (hV : Below W.heap.size W V) => fits10_any C w.heap.size V (hinC V hV) (hup V hV).size hC.fit)
  have HS1 := Lib.hid (fun (V : World) (hV : Below W.heap.size W V) => msame_any A C w.heap.size V (hinA V hV) (hinC V hV) (hup V hV).size hA.fit hC.fit)
  have HS2 := Lib.hid (fun (V : World) (hV : Below W.heap.size W V) => rmsame_any A C w.heap.size V (hinA V hV) (hinC V hV) (hup V hV).size hA.fit hC.fit)
  have HS3 := Lib.hid (fun (V : World) (hV : Below W.heap.size W V) => msame_any C A w.heap.size V (hinC V hV) (hinA V hV) (hup V hV).size hC.fit hA.fit)
  have HS4 := Lib.hid (fun (V : World) (hV : Below W.heap.size W V) => msame_any A A w.heap.size V (hinA V hV) (hinA V hV) (hup V hV).size hA.fit hA.fit)
  have HE1 := Lib.hid (fun (V : World) (hV : Below W.heap.size W V) => menc_u A w.heap.size V (hinA V hV) (hup V hV).size hA.fit)
  have HE2 := Lib.hid (fun (V : World) (hV : Below W.heap.size W V) => menc_u C w.heap.size V (hinC V hV) (hup V hV).size hC.fit)
  have g1 : msEq C A = msEq A C := by
    rw [msEq_dec, msEq_dec, decide_eq_decide]
    exact ⟨Eq.symm, Eq.symm⟩
  have g2 : msEq A A = true := (msEq_iff A A).2 rfl
  have HD := Lib.hid (msEq_iff A C)
  rw [g1] at HS3
  rw [g2] at HS4
  generalize msEq A C = s at *
  clear hWb hA hC ho1 ho2 hup hinA hinC g1 g2
  go_enter Try.func5, Try.ntmps5
  go_upto_region 1 with fail
  rw [HWW.out]
  have b0 := Below.refl W.heap.size W
  go_wp2_with (refine wpList_loadMm (.tmp 2) rfl w.heap.size 0 rfl A (HO.out W b0).1.range rfl ?_)
  refine (HF1.out W b0).mono ?_
  rintro e w1 ⟨⟨t1, rfl⟩, hb⟩
  have HB1 := Lib.hid hb
  clear hb b0
  go_wp2_with (refine wpList_loadMm (.tmp 3) rfl (w.heap.size + 1) 0 rfl C (HO.out w1 HB1.out).2.range rfl ?_)
  refine (HF2.out w1 HB1.out).mono ?_
  rintro e w2 ⟨⟨t2, rfl⟩, hb⟩
  have HB2 := Lib.hid (HB1.out.trans (hb.mono HB1.out.size))
  clear hb
  have hcase : t1 = false ∨ (t1 = true ∧ t2 = false) ∨ (t1 = true ∧ t2 = true) := by cases t1 <;> cases t2 <;> simp
  rcases hcase with rfl | ⟨rfl, rfl⟩ | ⟨rfl, rfl⟩
  · go_wp2_with fail
    refine (HAL.out w2).mono ?_
    rintro e w3 ⟨rfl, hb⟩
    have HB3 := Lib.hid (HB2.out.trans (hb.mono HB2.out.size))
    clear hb
    go_wp2_with fail
    go_ret
    exact ⟨rfl, HUP.out _ HB3.out⟩
  · go_wp2_with fail
    refine (HAL.out w2).mono ?_
    rintro e w3 ⟨rfl, hb⟩
    have HB3 := Lib.hid (HB2.out.trans (hb.mono HB2.out.size))
    clear hb
    go_wp2_with fail
    go_ret
    exact ⟨rfl, HUP.out _ HB3.out⟩
  go_wp2_with (first | refine wpList_loadMm (.tmp 2) rfl w.heap.size 0 rfl A (HO.out w2 HB2.out).1.range rfl ?_ | refine wpList_loadMm (.tmp 3) rfl (w.heap.size + 1) 0 rfl C (HO.out w2 HB2.out).2.range rfl ?_)
  refine (HS1.out w2 HB2.out).mono ?_
  rintro e w3 ⟨rfl, hb⟩
  have HB3 := Lib.hid (HB2.out.trans (hb.mono HB2.out.size))
  clear hb
  go_wp2_with (first | refine wpList_loadMm (.tmp 2) (by rfl) w.heap.size 0 (by rfl) A (HO.out w3 HB3.out).1.range (by rfl) ?_ | refine wpList_loadMm (.tmp 3) (by rfl) (w.heap.size + 1) 0 (by rfl) C (HO.out w3 HB3.out).2.range (by rfl) ?_)
  refine (HS2.out w3 HB3.out).mono ?_
  rintro e w4 ⟨rfl, hb⟩
  have HB4 := Lib.hid (HB3.out.trans (hb.mono HB3.out.size))
  clear hb
  have hss : (s != s) = false := by cases s <;> rfl
  dsimp only
  go_step
  try simp only [List.append]
  go_wp2_with (first | refine wpList_loadMm (.tmp 3) (by rfl) (w.heap.size + 1) 0 (by rfl) C (HO.out w4 HB4.out).2.range (by first | rfl | kernel_rfl | simp [Region.wanted, yielded]) ?_ | refine wpList_loadMm (.tmp 2) (by rfl) w.heap.size 0 (by rfl) A (HO.out w4 HB4.out).1.range (by first | rfl | kernel_rfl | simp [Region.wanted, yielded]) ?_)
  refine (HS3.out w4 HB4.out).mono ?_
  rintro e w5 ⟨rfl, hb⟩
  have HB5 := Lib.hid (HB4.out.trans (hb.mono HB4.out.size))
  clear hb
  dsimp only
  go_step
  try simp only [List.append]
  go_wp2_with (refine wpList_loadMm (.tmp 2) (by rfl) w.heap.size 0 (by rfl) A (HO.out w5 HB5.out).1.range (by first | rfl | kernel_rfl | simp [Region.wanted, yielded]) ?_)
  refine (HS4.out w5 HB5.out).mono ?_
  rintro e w6 ⟨rfl, hb⟩
  have HB6 := Lib.hid (HB5.out.trans (hb.mono HB5.out.size))
  clear hb
  go_wp2_with (refine wpList_loadMm (.tmp 2) (by rfl) w.heap.size 0 (by rfl) A (HO.out w6 HB6.out).1.range (by rfl) ?_)
  refine (HE1.out w6 HB6.out).mono ?_
  rintro e w7 ⟨ok1, y1, a1, cs1, rfl, hE⟩
  have HB7 := Lib.hid (HB6.out.trans (hE.below.mono HB6.out.size))
  have HEA := Lib.hid hE
  have z1 := hE.code
  have HR1 := Lib.hid hE.ro
  clear hE
  go_wp2_with (refine wpList_loadMm (.tmp 3) (by rfl) (w.heap.size + 1) 0 (by rfl) C (HO.out w7 HB7.out).2.range (by rfl) ?_)
  refine (HE2.out w7 HB7.out).mono ?_
  rintro e w8 ⟨ok2, y2, a2, cs2, rfl, hE⟩
  have HB8 := Lib.hid (HB7.out.trans (hE.below.mono HB7.out.size))
  have HEC := Lib.hid hE
  have z2 := hE.code
  have HR2 := Lib.hid hE.ro
  have HR1' := Lib.hid (HR1.out.below hE.below (Nat.le_refl _))
  clear hE
  go_wp2_with fail
  refine (HAL.out w8).mono ?_
  rintro e w9 ⟨rfl, hb⟩
  have HB9 := Lib.hid (HB8.out.trans (hb.mono HB8.out.size))
  obtain ⟨n1, hn1⟩ : ∃ n1, cs1.length = n1 := ⟨_, rfl⟩
  obtain ⟨n2, hn2⟩ : ∃ n2, cs2.length = n2 := ⟨_, rfl⟩
  have v1 := conv_ro (c := n1) ((HR1'.out.mono HEC.out.below.size).below hb (Nat.le_refl _)) hn1
  have v2 := conv_ro (c := n2) (HR2.out.below hb (Nat.le_refl _)) hn2
  rw [hn1, hn2]
  clear hb hn1 hn2
  cases ok1 with
  | false =>
    have z1' : (y1 != 0) = true := z1
    clear z1
    go_wp2_with fail
    go_ret
    exact ⟨rfl, HUP.out _ HB9.out⟩
  | true =>
    have z1' : (y1 != 0) = false := z1
    clear z1
    cases ok2 with
    | false =>
      have z2' : (y2 != 0) = true := z2
      clear z2
      go_wp2_with fail
      go_ret
      exact ⟨rfl, HUP.out _ HB9.out⟩
    | true =>
      have z2' : (y2 != 0) = false := z2
      clear z2
      have HSB : Hid ((s == decide (cs1 = cs2)) = true) := Lib.hid (by
        obtain ⟨q1, q2⟩ := HEA.out.yes rfl
        obtain ⟨q3, q4⟩ := HEC.out.yes rfl
        have hiff : cs1 = cs2 ↔ A.x = C.x := ⟨fun e => by subst e; exact q2.inj q4 q1 q3, fun e => by rw [e] at q2; exact q2.unique q4⟩
        by_cases e : cs1 = cs2
        · have h1 := HD.out.2 (hiff.1 e)
          subst h1
          simp [e]
        · have h1 : s = false := by
            cases s with
            | false => rfl
            | true => exact absurd (hiff.2 (HD.out.1 rfl)) e
          subst h1
          simp [e])
      go_wp2_with fail
      go_ret
      refine ⟨ret_bool ?_, HUP.out _ HB9.out⟩
      have h9 := HSB.out
      have h8 : (cs1 == cs2) = decide (cs1 = cs2) := by
        by_cases e : cs1 = cs2 <;> simp [e]
      rw [h8]
      exact h9
end Go.Proofs.Yteenlkmnadjnpaa
