/-
  The tail. No claim of their own.
-/
import Derived.Test.YtmpajlpemabniaaGreatZq34
namespace Go.Proofs.YtmpajlpemabniaaGreat
open Go.RowKit Go.Maps Go.Shelf Go.Deep
set_option linter.unusedVariables false
set_option linter.unusedSimpArgs false
structure Top (mr : Nat) (L : List Rn) (ss : List Nat) (n : Nat) : Prop where
  ge : mr ≤ n
  run : ∀ r ∈ L, r.2 ≤ n
  adr : ∀ a ∈ ss, a + 1 ≤ n
  is : n = mr ∨ (∃ r ∈ L, n = r.2) ∨ ∃ a ∈ ss, n = a + 1
theorem Top.start (mr : Nat) : Top mr [] [] mr := ⟨Nat.le_refl _, by simp, by simp, .inl rfl⟩
theorem Top.more {mr : Nat} {L : List Rn} {n : Nat} (h : Top mr L [] n) (x : Rn) : Top mr (L ++ [x]) [] (max n x.2) := by
  refine ⟨Nat.le_trans h.ge (Nat.le_max_left _ _), fun r hr => ?_, by simp, ?_⟩
  · rcases List.mem_append.1 hr with hr | hr
    · exact Nat.le_trans (h.run r hr) (Nat.le_max_left _ _)
    · simp at hr; subst hr; exact Nat.le_max_right _ _
  · by_cases e : n ≤ x.2
    · exact .inr (.inl ⟨x, by simp, by omega⟩)
    · have e2 : max n x.2 = n := by omega
      rw [e2]
      rcases h.is with h1 | ⟨r, h1, h2⟩ | ⟨a, h1, _⟩
      · exact .inl h1
      · exact .inr (.inl ⟨r, List.mem_append_left _ h1, h2⟩)
      · cases h1
theorem Top.key {mr : Nat} {L : List Rn} {ss : List Nat} {n : Nat} (h : Top mr L ss n) (x : Nat) : Top mr L (ss ++ [x]) (max n (x + 1)) := by
  refine ⟨Nat.le_trans h.ge (Nat.le_max_left _ _), fun r hr => Nat.le_trans (h.run r hr) (Nat.le_max_left _ _), fun a ha => ?_, ?_⟩
  · rcases List.mem_append.1 ha with hr | hr
    · exact Nat.le_trans (h.adr a hr) (Nat.le_max_left _ _)
    · simp at hr; subst hr; exact Nat.le_max_right _ _
  · by_cases e : n ≤ x + 1
    · exact .inr (.inr ⟨x, by simp, by omega⟩)
    · have e2 : max n (x + 1) = n := by omega
      rw [e2]
      rcases h.is with h1 | ⟨r, h1, h2⟩ | ⟨a, h1, h2⟩
      · exact .inl h1
      · exact .inr (.inl ⟨r, h1, h2⟩)
      · exact .inr (.inr ⟨a, List.mem_append_left _ h1, h2⟩)
def IsTail (S : PS) (n : Nat) : Prop := Top S.mr S.T (addrs S.m) n
theorem IsTail.uniq {S : PS} {a b : Nat} (h : IsTail S a) (k : IsTail S b) : a = b := by
  have hle : ∀ {x y : Nat}, IsTail S x → IsTail S y → x ≤ y := fun {x y} hx hy => by
    rcases hx.is with h1 | ⟨r, h1, h2⟩ | ⟨z, h1, h2⟩
    · rw [h1]; exact hy.ge
    · rw [h2]; exact hy.run r h1
    · rw [h2]; exact hy.adr z h1
  exact Nat.le_antisymm (hle h k) (hle k h)
set_option maxHeartbeats 2000000 in
set_option maxRecDepth 100000 in
theorem tail_any (w : World) {q p : Nat} {v : Value} {b : Nat} {C : List Nat} {S : PS} (h : Sta w q p v b C S) :
    Calls Tryz.prog 71 #[.pointer (some ⟨q, 0, none⟩)] w fun e w' => ∃ t : Nat, e = .returned (.int .u64 (t : Int)) ∧ IsTail S t ∧ Chg [] w w' := by
  obtain ⟨h0, h1, h2, h3, h4⟩ := h.cells
  obtain ⟨V, hV, hV2⟩ := h.map
  have HR := Lib.hid (Runs_some w p v S.T h.set)
  have HH := Lib.hid h
  have HV := Lib.hid (And.intro hV hV2)
  obtain ⟨mr, hmr⟩ : ∃ x, Hid (S.mr = x) := ⟨_, Lib.hid rfl⟩
  rw [hmr.out] at h2
  obtain ⟨N, hN⟩ : ∃ x, Hid (S.T.length = x) := ⟨_, Lib.hid rfl⟩
  have hNl : N ≤ 1000000 := by rw [← hN.out]; exact h.set.len
  have HL4 := Lib.hid h4
  clear h hV hV2 h0 h1 h4
  go_enter Tryz.func71, Tryz.ntmps71
  go_wp2_with (first
    | (go_at_call 75; refine HR.out.mono ?_; rintro e w1 ⟨vr, rfl, hl1, hb1⟩
       have HL1 := Lib.hid hl1; have HC1 := Lib.hid (low_chg hb1); clear hl1 hb1
       obtain ⟨a, c, e9, hro, _⟩ := HL1.out.form
       rw [hN.out] at e9
       subst e9
       have HRO := Lib.hid hro
       clear hro)
    | fail)
  go_loopw [3, 17] (fun v3 i wr => ∃ k nn : Nat, i = .int .i64 k ∧ k ≤ N ∧ v3 = .int .u64 (nn : Int) ∧ Hid (Top mr (S.T.take k) [] nn) ∧ Hid (Chg [] w1 wr)) (fun _ i _ => N - (intOf i).toNat)
  case atStart => exact ⟨0, mr, rfl, Nat.zero_le _, rfl, Lib.hid (Top.start mr), Lib.hid (Chg.refl [] w1)⟩
  case round =>
    obtain ⟨k, nn, rfl, hk, rfl, HT, HC⟩ := hrel
    by_cases hlt : k < N
    · have hkL : k < S.T.length := by rw [hN.out]; exact hlt
      obtain ⟨g, off, rfl, hg, hcl⟩ := HRO.out.rn (by omega)
      obtain ⟨x1, x2⟩ := hcl k hkL
      have y1 := HC.out.cell x1 (by simp)
      have y2 := HC.out.cell x2 (by simp)
      have HT2 := Lib.hid (show Top mr (S.T.take (k + 1)) [] (max nn (el S.T k).2) from by rw [take_el hkL]; exact HT.out.more _)
      generalize el S.T k = x at *
      have hd1 : decide (k < N) = true := by simpa using hlt
      have hk0 : (0 : Int) ≤ (k : Int) := by omega
      have hk1 : (k : Int) < (N : Int) := by omega
      have hkb : (k : Int) ≤ 4000000 := by omega
      have HKM := Lib.hid (show N - (k + 1) < N - k by omega)
      obtain ⟨M, hM⟩ : ∃ M, Hid (max nn x.2 = M) := ⟨_, Lib.hid rfl⟩
      have hMi : max (nn : Int) (x.2 : Int) = (M : Int) := by rw [← hM.out]; omega
      rw [hM.out] at HT2
      clear hcl x1 x2 h2 h3
      go_wp2_with fail
      go_roundw
      case rel => exact ⟨k + 1, M, by go_num, by omega, rfl, HT2, Lib.hid (HC.out.alloc _)⟩
      case measure => have := HKM.out; simp [intOf]; omega
    · obtain rfl : k = N := by omega
      rename World => wa
      have hd1 : decide (k < k) = false := by simp
      have HCw := Lib.hid (HC1.out.trans HC.out)
      have q4 := HCw.out.cell HL4.out (by simp)
      have HT2 : Hid (Top mr S.T [] nn) := Lib.hid (by have := HT.out; rwa [List.take_of_length_le (by rw [hN.out]; exact Nat.le_refl _)] at this)
      obtain ⟨D, hown, hD⟩ := (HV.out.1.kept HCw.out).own
      have HD := Lib.hid hD
      have hdom := Lib.hid HV.out.1.dom
      clear HT HC h2 h3 hlt hk hD
      go_wp2_with (first
        | (at_range; refine wpList_range_own _ rfl _ 136 rfl 37 42 ukeyed Tryz.underlying136 idR b 1048576 _ rfl hown ?_; intro w0 hrg0 hg0 hs0)
        | fail)
      go_frame
      go_loopw [3, 31] (fun v3 _ wr2 => ∃ (left : Lit → Bool) (cnt : Nat) (ss : List Nat) (mm : Nat), wr2.ranges Tryz.prog 37 idR b wa.heap.size 1048576 D left cnt ∧ Hid (ColU V left ss) ∧ v3 = .int .u64 (mm : Int) ∧ Hid (Top mr S.T ss mm) ∧ wa.grownBy wr2 none)
        (fun _ _ wr2 => wr2.rangeLeft b wa.heap.size)
      case atStart => exact ⟨_, _, [], nn, hrg0, Lib.hid (ColU.start HD.out), rfl, HT2, hg0⟩
      case round =>
        obtain ⟨left, cnt, ss, mm, hrg, hC, rfl, HT3, hgw⟩ := hrel
        go_wp2_with (first
          | (at_next; refine wpList_next_ranges _ rfl _ rfl 37 ukeyed idR (fun x : Nat => Value.int .u64 (x : Int)) id (fun key kl hk => by obtain ⟨x, _, hx, _⟩ := keyOf_u64 hk; exact ⟨x, hx⟩) (fun v _ _ => ⟨v, rfl⟩) b wa.heap.size 1048576 _ _ _ rfl hrg ?_ ?_)
          | fail)
        · intro _ hl0
          go_wp2
          go_ret
          refine ⟨mm, rfl, ?_, HCw.out.grown hgw (fun k e => by cases e)⟩
          have hmem : ∀ x, x ∈ ss ↔ x ∈ addrs S.m := fun x => by
            rw [hC.out.2 x, hl0, mem_addrs, HV.out.2.isS]
            refine ⟨fun h9 => ⟨?_, h9.1⟩, fun h9 => ⟨h9.2, rfl⟩⟩
            obtain ⟨y, hy⟩ := Option.isSome_iff_exists.1 h9.1
            exact (HH.out.gd.cell x y hy).1
          unfold IsTail
          rw [hmr.out]
          exact ⟨HT3.out.ge, HT3.out.run, fun a9 h9 => HT3.out.adr a9 ((hmem a9).2 h9), HT3.out.is.imp id (fun h9 => h9.imp id (fun ⟨y, h1, h2⟩ => ⟨y, (hmem y).1 h1, h2⟩))⟩
        · intro x c kl yd yp w2 cnt2 hkey hlk hv hat hrg2 hlt hg2 hs2 hen
          obtain ⟨x', hx', ex, rfl⟩ := keyOf_u64 hkey
          obtain rfl : x = x' := by simp at ex; omega
          have hsome : (V x).isSome = true := by
            rw [← HD.out.has]
            exact has_true_of_atKey hat
          have hxl : x < 1048576 := by
            obtain ⟨u, hu⟩ := Option.isSome_iff_exists.1 hsome
            exact hdom.out x u hu
          have hC2 := Lib.hid (hC.out.step hlk hsome)
          have HT4 := Lib.hid (HT3.out.key x)
          obtain ⟨M, hM⟩ : ∃ M, Hid (max mm (x + 1) = M) := ⟨_, Lib.hid rfl⟩
          have hMi : max (mm : Int) ((x : Int) + 1) = (M : Int) := by rw [← hM.out]; omega
          rw [hM.out] at HT4
          have hx0 : (0 : Int) ≤ (x : Int) := by omega
          have hx1 : (x : Int) < 1048576 := by omega
          clear hv hat hs2 hsome
          go_wp2_with fail
          go_roundw
          case rel => exact ⟨_, cnt2, ss ++ [x], M, hrg2, hC2, rfl, HT4, hgw.andThen hg2 (fun j hj => by cases hj; exact Or.inl (Nat.le_refl _))⟩
          case measure => rw [hrg2.left_eq, hrg.left_eq]; exact hlt
theorem MapV.look1 {w : World} {b : Nat} {V : Nat → Option Value} (h : MapV w b V) {t e : TypeId} (ht : Tryz.prog.underlying t = some (.map 37 e)) {z : Value} (hz : (zeroValue e).run Tryz.prog w = .ok z w) {a : Nat} (ha : a < 18446744073709551616) {u : Value} (hu : V a = some u) :
    (Instr.lookup t (.map (some b)) (.int .u64 (a : Int)) false).run Tryz.prog w = .ok u w := by
  obtain ⟨D, ho, hm⟩ := h.own
  obtain ⟨v, ps, hrun, hv⟩ := ho.lookup ukeyed ht hz (zd := .held z) (zp := []) rfl (keyOf_uk ha)
  have h2 := idR_inv hv
  rw [hrun]
  rw [(hm.some_ a u hu).2] at h2
  simp at h2
  simp [h2]
set_option maxHeartbeats 1000000 in
theorem Read_ok (w : World) {u : Nat} {l : List Nat} {q p g b n : Nat} {X : TS} {sq sp sb : Nat} {v : Value} {C : List Nat} {S : PS} (P : Pgs w u l q p g b n X sq sp sb v C S) (a : Nat) (c : Ce) (hc : S.m a = some c) :
    Calls Tryz.prog 32 #[.pointer (some ⟨u, 0, none⟩), .int .u64 (a : Int)] w fun e w' => ∃ A', e = .returned (.tuple #[A'.val, .int .i64 0]) ∧ A'.x = c ∧ Hid (NewC w w' A') ∧ Chg [] w w' := by
  obtain ⟨ha, hr, ht⟩ := P.sta.gd.cell a c hc
  obtain ⟨V, hV, hV2⟩ := P.sta.map
  obtain ⟨A, hAm, hAv, hAC⟩ : ∃ A : CeT, S.m a = some A.x ∧ V a = some A.val ∧ CellV w C A := by
    rcases hV2 a with ⟨h1, _⟩ | h1
    · rw [hc] at h1; cases h1
    · exact h1
  have hxc : A.x = c := by rw [hc] at hAm; exact (Option.some.inj hAm).symm
  have hlen := right_lens hr
  obtain ⟨w1, HW1⟩ : ∃ W, Hid (w.alloc (.cells #[.int .i64 0, .slice none 0 0, .slice none 0 0] 42) = W) := ⟨_, Lib.hid rfl⟩
  have hC1 : Chg [] w w1 := by rw [← HW1.out]; exact (Chg.refl [] w).alloc _
  have hob : Own w1 w.heap.size 42 [.int .i64 0, .slice none 0 0, .slice none 0 0] := by rw [← HW1.out]; exact Own.new w _ _
  have HTR : Hid (∀ W, Chg [] w W → Calls Tryz.prog 67 #[.pointer (some ⟨sq, 0, none⟩), .int .u64 (a : Int)] W fun e w' => e = .returned (.bool false) ∧ Chg [] W w') := Lib.hid (fun W hW => by
    have h9 := isTrimmed_any W (P.sta.kept hW) a (by omega)
    rwa [ht] at h9)
  have HWR : Hid (∀ W, Chg [] w W → Calls Tryz.prog 68 #[.pointer (some ⟨sq, 0, none⟩), .int .u64 (a : Int)] W fun e w' => e = .returned (.bool true) ∧ Chg [] W w') := Lib.hid (fun W hW => by
    have h9 := isWritten_any W (P.sta.kept hW) a (by omega)
    rwa [hc] at h9)
  have HLK : Hid (∀ W, Chg [] w W → (Instr.lookup 136 (.map (some sb)) (.int .u64 (a : Int)) false).run Tryz.prog W = .ok A.val W) := Lib.hid (fun W hW =>
    (hV.kept hW).look1 (t := 136) (e := 42) Tryz.underlying136 (z := .agg #[.int .i64 0, .slice none 0 0, .slice none 0 0]) (by kernel_rfl) (by omega) hAv)
  have HCO : Hid (∀ W, Chg [] w1 W → Calls Tryz.prog 70 #[A.val] W fun e w' => ∃ A', e = .returned A'.val ∧ A'.x = A.x ∧ Hid (NewC w1 w' A') ∧ Chg [] W w') := Lib.hid (fun W hW =>
    (copyOf_any A C W (hAC.chg (hC1.trans hW) (by simp)) (by rw [hxc]; omega) (by rw [hxc]; omega)).mono fun e w' ⟨A', x1, x2, x3, x4⟩ => ⟨A', x1, x2, Lib.hid ⟨x3.out.d, x3.out.b, fun ad e => Nat.le_trans hW.size (x3.out.da ad e), fun ad e => Nat.le_trans hW.size (x3.out.ba ad e)⟩, x4⟩)
  obtain ⟨u0, u1⟩ := (P.own.chg hC1 (by simp)).two
  obtain ⟨h0, h1, h2, h3, h4⟩ := (P.sta.kept hC1).cells
  have e1 : decide ((1048576 : Int) ≤ (a : Int)) = false := decide_eq_false (by omega)
  have HO := Lib.hid hob
  have HC1 := Lib.hid hC1
  have HXC := Lib.hid hxc
  have HB : Hid (∀ W, Chg [] w1 W → W.cell? ⟨u, 1, none⟩ = some (.pointer (some ⟨sq, 0, none⟩)) ∧ W.cell? ⟨sq, 4, none⟩ = some (.map (some sb))) := Lib.hid (fun W hW => ⟨hW.cell u1 (by simp), hW.cell h4 (by simp)⟩)
  have HUL : Hid (w1.heap.size = w.heap.size + 1) := Lib.hid (by rw [← HW1.out, World.size_alloc])
  clear P hc hr ht hV hV2 hAm hAv hAC hxc hlen hC1 hob h0 h1 h2 h3 h4
  obtain ⟨⟨ck, cd, cb⟩, a1, c1', a2, c2'⟩ := A
  unfold CeT.val at HLK HCO ⊢
  simp only at HLK HCO HXC ⊢
  generalize cd.length = dn at HLK HCO
  generalize cb.length = bn at HLK HCO
  go_enter Tryz.func32, Tryz.ntmps32
  go_upto_region 1 with fail
  simp only [HW1.out]
  go_wp2_with (first
    | (go_at_call 67; refine (HTR.out _ HC1.out).mono ?_; rintro e w3 ⟨rfl, hc3⟩
       obtain ⟨y3, y4⟩ := HB.out _ hc3
       have HC3 := Lib.hid hc3
       clear hc3)
    | (go_at_call 68; refine (HWR.out _ (HC1.out.trans HC3.out)).mono ?_; rintro e w4 ⟨rfl, hc4⟩
       obtain ⟨z3, z4⟩ := HB.out _ (HC3.out.trans hc4)
       have HC4 := Lib.hid (HC3.out.trans hc4)
       have hlk := HLK.out _ (HC1.out.trans (HC3.out.trans hc4))
       clear hc4)
    | (go_at_call 70; refine (HCO.out _ HC4.out).mono ?_; rintro e w5 ⟨A', rfl, hx5, hn5, hc5⟩
       have HC5 := Lib.hid (HC4.out.trans hc5)
       have HX5 := Lib.hid hx5
       have HN5 := Lib.hid hn5.out
       have HO5 := Lib.hid (HO.out.chg (HC4.out.trans hc5) (by simp))
       have k0 := HO5.out.cell 0
       have k1 := HO5.out.cell 1
       have k2 := HO5.out.cell 2
       have f0 := HO5.out.frozen 0
       have f1 := HO5.out.frozen 1
       have f2 := HO5.out.frozen 2
       simp only [List.getElem?_cons_zero, List.getElem?_cons_succ] at k0 k1 k2
       clear hx5 hn5 hc5
       obtain ⟨⟨k5, d5, b5⟩, a5, m5, a6, m6⟩ := A')
    | fail)
  have hE2 := ((HO5.out.set 0 (.int .i64 k5)).set 1 (.slice a5 d5.length m5)).set 2 (.slice a6 b5.length m6)
  simp only [List.set_cons_zero, List.set_cons_succ] at hE2
  have hCe : Chg [w.heap.size] w5 (((w5.setCell ⟨w.heap.size, 0, none⟩ (.int .i64 k5)).setCell ⟨w.heap.size, 1, none⟩ (.slice a5 d5.length m5)).setCell ⟨w.heap.size, 2, none⟩ (.slice a6 b5.length m6)) :=
    (((Chg.refl [w.heap.size] w5).setCell (.inl (by simp)) _).setCell (.inl (by simp)) _).setCell (.inl (by simp)) _
  generalize (((w5.setCell ⟨w.heap.size, 0, none⟩ (.int .i64 k5)).setCell ⟨w.heap.size, 1, none⟩ (.slice a5 d5.length m5)).setCell ⟨w.heap.size, 2, none⟩ (.slice a6 b5.length m6)) = W7 at hE2 hCe ⊢
  have r0 := hE2.cell 0
  have r1 := hE2.cell 1
  have r2 := hE2.cell 2
  simp only [List.getElem?_cons_zero, List.getElem?_cons_succ] at r0 r1 r2
  have hsz := HUL.out
  refine bodyPost_ret (v := .tuple #[cev k5 a5 d5.length m5 a6 b5.length m6, .int .i64 0]) (by simp [results, Tryz.results32, go_sem, r0, r1, r2]) rfl ?_
  refine ⟨⟨⟨k5, d5, b5⟩, a5, m5, a6, m6⟩, rfl, by rw [← HXC.out]; exact HX5.out, Lib.hid ⟨HN5.out.d.chg2 hCe (fun ad e => ?_), HN5.out.b.chg2 hCe (fun ad e => ?_), fun ad e => ?_, fun ad e => ?_⟩, (HC1.out.trans HC5.out).then hCe (fun x hx => .inr (by simp at hx; omega))⟩
  · have := HN5.out.da ad e; simp; omega
  · have := HN5.out.ba ad e; simp; omega
  · have := HN5.out.da ad e; omega
  · have := HN5.out.ba ad e; omega
set_option maxHeartbeats 1000000 in
theorem Read_tr (w : World) {u : Nat} {l : List Nat} {q p g b n : Nat} {X : TS} {sq sp sb : Nat} {v : Value} {C : List Nat} {S : PS} (P : Pgs w u l q p g b n X sq sp sb v C S) (a : Nat) (ha : a < 1048576) (ht : S.tr a = true) :
    Calls Tryz.prog 32 #[.pointer (some ⟨u, 0, none⟩), .int .u64 (a : Int)] w fun e w' => e = .returned (.tuple #[cev 0 none 0 0 none 0 0, .int .i64 83]) ∧ Chg [] w w' := by
  obtain ⟨w1, HW1⟩ : ∃ W, Hid (w.alloc (.cells #[.int .i64 0, .slice none 0 0, .slice none 0 0] 42) = W) := ⟨_, Lib.hid rfl⟩
  have hC1 : Chg [] w w1 := by rw [← HW1.out]; exact (Chg.refl [] w).alloc _
  have hob : Own w1 w.heap.size 42 [.int .i64 0, .slice none 0 0, .slice none 0 0] := by rw [← HW1.out]; exact Own.new w _ _
  have HTR : Hid (∀ W, Chg [] w W → Calls Tryz.prog 67 #[.pointer (some ⟨sq, 0, none⟩), .int .u64 (a : Int)] W fun e w' => e = .returned (.bool true) ∧ Chg [] W w') := Lib.hid (fun W hW => by
    have h9 := isTrimmed_any W (P.sta.kept hW) a (by omega)
    rwa [ht] at h9)
  obtain ⟨u0, u1⟩ := (P.own.chg hC1 (by simp)).two
  have e1 : decide ((1048576 : Int) ≤ (a : Int)) = false := decide_eq_false (by omega)
  have HO := Lib.hid hob
  have HC1 := Lib.hid hC1
  have HB : Hid (∀ W, Chg [] w1 W → W.cell? ⟨u, 1, none⟩ = some (.pointer (some ⟨sq, 0, none⟩)) ∧ W.cell? ⟨w.heap.size, 0, none⟩ = some (.int .i64 0) ∧ W.cell? ⟨w.heap.size, 1, none⟩ = some (.slice none 0 0) ∧ W.cell? ⟨w.heap.size, 2, none⟩ = some (.slice none 0 0) ∧ W.frozen? ⟨w.heap.size, 0, none⟩ = false ∧ W.frozen? ⟨w.heap.size, 1, none⟩ = false ∧ W.frozen? ⟨w.heap.size, 2, none⟩ = false) := Lib.hid (fun W hW => by
    have h9 := hob.chg hW (by simp)
    exact ⟨hW.cell u1 (by simp), by rw [h9.cell]; rfl, by rw [h9.cell]; rfl, by rw [h9.cell]; rfl, h9.frozen _, h9.frozen _, h9.frozen _⟩)
  clear P ht hC1 hob 
  go_enter Tryz.func32, Tryz.ntmps32
  go_upto_region 1 with fail
  simp only [HW1.out]
  go_wp2_with (first
    | (go_at_call 67; refine (HTR.out _ HC1.out).mono ?_; rintro e w3 ⟨rfl, hc3⟩
       obtain ⟨y1, y2, y3, y4, y5, y6, y7⟩ := HB.out _ hc3
       have HC3 := Lib.hid hc3
       clear hc3)
    | fail)
  have hE2 := (((HO.out.chg HC3.out (by simp)).set 0 (.int .i64 0)).set 1 (.slice none 0 0)).set 2 (.slice none 0 0)
  simp only [List.set_cons_zero, List.set_cons_succ] at hE2
  have r0 := hE2.cell 0
  have r1 := hE2.cell 1
  have r2 := hE2.cell 2
  simp only [List.getElem?_cons_zero, List.getElem?_cons_succ] at r0 r1 r2
  refine bodyPost_ret (v := .tuple #[cev 0 none 0 0 none 0 0, .int .i64 83]) (by simp [results, Tryz.results32, go_sem, r0, r1, r2]) rfl ⟨rfl, ?_⟩
  exact (((HC1.out.trans HC3.out).setCell (.inr (Nat.le_refl _)) _).setCell (.inr (Nat.le_refl _)) _).setCell (.inr (Nat.le_refl _)) _
set_option maxHeartbeats 1000000 in
theorem Read_un (w : World) {u : Nat} {l : List Nat} {q p g b n : Nat} {X : TS} {sq sp sb : Nat} {v : Value} {C : List Nat} {S : PS} (P : Pgs w u l q p g b n X sq sp sb v C S) (a : Nat) (ha : a < 1048576) (ht : S.tr a = false) (hm : S.m a = none) :
    Calls Tryz.prog 32 #[.pointer (some ⟨u, 0, none⟩), .int .u64 (a : Int)] w fun e w' => e = .returned (.tuple #[cev 0 none 0 0 none 0 0, .int .i64 82]) ∧ Chg [] w w' := by
  obtain ⟨w1, HW1⟩ : ∃ W, Hid (w.alloc (.cells #[.int .i64 0, .slice none 0 0, .slice none 0 0] 42) = W) := ⟨_, Lib.hid rfl⟩
  have hC1 : Chg [] w w1 := by rw [← HW1.out]; exact (Chg.refl [] w).alloc _
  have hob : Own w1 w.heap.size 42 [.int .i64 0, .slice none 0 0, .slice none 0 0] := by rw [← HW1.out]; exact Own.new w _ _
  have HTR : Hid (∀ W, Chg [] w W → Calls Tryz.prog 67 #[.pointer (some ⟨sq, 0, none⟩), .int .u64 (a : Int)] W fun e w' => e = .returned (.bool false) ∧ Chg [] W w') := Lib.hid (fun W hW => by
    have h9 := isTrimmed_any W (P.sta.kept hW) a (by omega)
    rwa [ht] at h9)
  have HWR : Hid (∀ W, Chg [] w W → Calls Tryz.prog 68 #[.pointer (some ⟨sq, 0, none⟩), .int .u64 (a : Int)] W fun e w' => e = .returned (.bool false) ∧ Chg [] W w') := Lib.hid (fun W hW => by
    have h9 := isWritten_any W (P.sta.kept hW) a (by omega)
    rwa [hm] at h9)
  obtain ⟨u0, u1⟩ := (P.own.chg hC1 (by simp)).two
  have e1 : decide ((1048576 : Int) ≤ (a : Int)) = false := decide_eq_false (by omega)
  have HO := Lib.hid hob
  have HC1 := Lib.hid hC1
  have HB : Hid (∀ W, Chg [] w1 W → W.cell? ⟨u, 1, none⟩ = some (.pointer (some ⟨sq, 0, none⟩)) ∧ W.cell? ⟨w.heap.size, 0, none⟩ = some (.int .i64 0) ∧ W.cell? ⟨w.heap.size, 1, none⟩ = some (.slice none 0 0) ∧ W.cell? ⟨w.heap.size, 2, none⟩ = some (.slice none 0 0) ∧ W.frozen? ⟨w.heap.size, 0, none⟩ = false ∧ W.frozen? ⟨w.heap.size, 1, none⟩ = false ∧ W.frozen? ⟨w.heap.size, 2, none⟩ = false) := Lib.hid (fun W hW => by
    have h9 := hob.chg hW (by simp)
    exact ⟨hW.cell u1 (by simp), by rw [h9.cell]; rfl, by rw [h9.cell]; rfl, by rw [h9.cell]; rfl, h9.frozen _, h9.frozen _, h9.frozen _⟩)
  clear P ht hC1 hob hm
  go_enter Tryz.func32, Tryz.ntmps32
  go_upto_region 1 with fail
  simp only [HW1.out]
  go_wp2_with (first
    | (go_at_call 67; refine (HTR.out _ HC1.out).mono ?_; rintro e w3 ⟨rfl, hc3⟩
       obtain ⟨y1, y2, y3, y4, y5, y6, y7⟩ := HB.out _ hc3
       have HC3 := Lib.hid hc3
       clear hc3)
    | (go_at_call 68; refine (HWR.out _ (HC1.out.trans HC3.out)).mono ?_; rintro e w4 ⟨rfl, hc4⟩
       obtain ⟨z1, z2, z3, z4, z5, z6, z7⟩ := HB.out _ (HC3.out.trans hc4)
       have HC4 := Lib.hid (HC3.out.trans hc4)
       clear hc4)
    | fail)
  have hE2 := (((HO.out.chg HC4.out (by simp)).set 0 (.int .i64 0)).set 1 (.slice none 0 0)).set 2 (.slice none 0 0)
  simp only [List.set_cons_zero, List.set_cons_succ] at hE2
  have r0 := hE2.cell 0
  have r1 := hE2.cell 1
  have r2 := hE2.cell 2
  simp only [List.getElem?_cons_zero, List.getElem?_cons_succ] at r0 r1 r2
  refine bodyPost_ret (v := .tuple #[cev 0 none 0 0 none 0 0, .int .i64 82]) (by simp [results, Tryz.results32, go_sem, r0, r1, r2]) rfl ⟨rfl, ?_⟩
  exact (((HC1.out.trans HC4.out).setCell (.inr (Nat.le_refl _)) _).setCell (.inr (Nat.le_refl _)) _).setCell (.inr (Nat.le_refl _)) _
theorem Tail_any (w : World) {u : Nat} {l : List Nat} {q p g b n : Nat} {X : TS} {sq sp sb : Nat} {v : Value} {C : List Nat} {S : PS} (P : Pgs w u l q p g b n X sq sp sb v C S) :
    Calls Tryz.prog 30 #[.pointer (some ⟨u, 0, none⟩)] w fun e w' => ∃ t : Nat, e = .returned (.int .u64 (t : Int)) ∧ IsTail S t ∧ Chg [] w w' := by
  have HT := Lib.hid (tail_any w P.sta)
  obtain ⟨u0, u1⟩ := P.own.two
  clear P
  go_enter Tryz.func30, Tryz.ntmps30
  go_wp2_with (first
    | (go_at_call 71; refine HT.out.mono ?_; rintro e w2 ⟨t, rfl, ht, hc2⟩)
    | fail)
  go_ret
  exact ⟨t, rfl, ht, hc2⟩
theorem Opened_any (w : World) {u : Nat} {l : List Nat} {q p g b n : Nat} {X : TS} {sq sp sb : Nat} {v : Value} {C : List Nat} {S : PS} (P : Pgs w u l q p g b n X sq sp sb v C S) : Calls Tryz.prog 31 #[.pointer (some ⟨u, 0, none⟩)] w fun e w' => e = .returned (.int .u64 (S.op : Int)) ∧ w' = w := by
  obtain ⟨u0, u1⟩ := P.own.two
  obtain ⟨h0, h1, h2, h3, h4⟩ := P.sta.cells
  clear P
  go_enter Tryz.func31, Tryz.ntmps31
  go_wp2_with fail
  go_ret
  exact ⟨rfl, rfl⟩
theorem Epoch_any (w : World) {u : Nat} {l : List Nat} {q p g b n : Nat} {X : TS} {sq sp sb : Nat} {v : Value} {C : List Nat} {S : PS} (P : Pgs w u l q p g b n X sq sp sb v C S) : Calls Tryz.prog 28 #[.pointer (some ⟨u, 0, none⟩)] w fun e w' => e = .returned (.int .u64 (S.ep : Int)) ∧ w' = w := by
  obtain ⟨u0, u1⟩ := P.own.two
  obtain ⟨h0, h1, h2, h3, h4⟩ := P.sta.cells
  clear P
  go_enter Tryz.func28, Tryz.ntmps28
  go_wp2_with fail
  go_ret
  exact ⟨rfl, rfl⟩
theorem Mark_any (w : World) {u : Nat} {l : List Nat} {q p g b n : Nat} {X : TS} {sq sp sb : Nat} {v : Value} {C : List Nat} {S : PS} (P : Pgs w u l q p g b n X sq sp sb v C S) : Calls Tryz.prog 29 #[.pointer (some ⟨u, 0, none⟩)] w fun e w' => e = .returned (.int .u64 (S.mr : Int)) ∧ w' = w := by
  obtain ⟨u0, u1⟩ := P.own.two
  obtain ⟨h0, h1, h2, h3, h4⟩ := P.sta.cells
  clear P
  go_enter Tryz.func29, Tryz.ntmps29
  go_wp2_with fail
  go_ret
  exact ⟨rfl, rfl⟩
theorem Written_any (w : World) {u : Nat} {l : List Nat} {q p g b n : Nat} {X : TS} {sq sp sb : Nat} {v : Value} {C : List Nat} {S : PS} (P : Pgs w u l q p g b n X sq sp sb v C S) : Calls Tryz.prog 34 #[.pointer (some ⟨u, 0, none⟩)] w fun e w' => ∃ v, e = .returned v ∧ Lst w' w.heap.size 37 v (u64s (addrs S.m)) ∧ Chg [] w w' := by
  obtain ⟨u0, u1⟩ := P.own.two
  have HT := Lib.hid (written_any w P.sta)
  clear P
  go_enter Tryz.func34, Tryz.ntmps34
  go_wp2_with (first
    | (go_at_call 74; refine HT.out.mono ?_; rintro e w2 ⟨t, rfl, ht, hc2⟩)
    | fail)
  go_ret
  exact ⟨t, rfl, ht, hc2⟩
theorem Trimmed_any (w : World) {u : Nat} {l : List Nat} {q p g b n : Nat} {X : TS} {sq sp sb : Nat} {v : Value} {C : List Nat} {S : PS} (P : Pgs w u l q p g b n X sq sp sb v C S) : Calls Tryz.prog 35 #[.pointer (some ⟨u, 0, none⟩)] w fun e w' => ∃ v, e = .returned v ∧ Lr w' w.heap.size 86 v S.T ∧ Chg [] w w' := by
  obtain ⟨u0, u1⟩ := P.own.two
  obtain ⟨h0, h1, h2, h3, h4⟩ := P.sta.cells
  have HT := Lib.hid (Runs_some w sp v S.T P.sta.set)
  clear P
  go_enter Tryz.func35, Tryz.ntmps35
  go_wp2_with (first
    | (go_at_call 75; refine HT.out.mono ?_; rintro e w2 ⟨t, rfl, ht, hb2⟩)
    | fail)
  go_ret
  exact ⟨t, rfl, ht, low_chg hb2⟩
theorem Pgs.fresh {w w2 w3 w5 : World} {l : List Nat} {q p g b n : Nat} {X : TS} {sq sp sb : Nat} {v : Value} {S : PS} (hc2 : Chg [] w w2) (ht : TD w2 l q p g b n X) (hl : ∀ x ∈ l, w.heap.size ≤ x) (hpg : p < w.heap.size ∧ g < w.heap.size ∧ b < w.heap.size)
    (hc3 : Chg [] w2 w3) (hs : Sta w3 sq sp v sb [] S) (hn : ∀ x ∈ sq :: sp :: sb :: rowOf v, w2.heap.size ≤ x) (hc5 : Chg [] (w3.alloc (.cells #[.pointer (some ⟨q, 0, none⟩), .pointer (some ⟨sq, 0, none⟩)] 95)) w5) :
    Pgs w5 w3.heap.size l q p g b n X sq sp sb v [] S ∧ (∀ x ∈ w3.heap.size :: l ++ stB sq sp sb v, w.heap.size ≤ x) ∧ Chg [] w w5 := by
  have hc4 : Chg [] w3 (w3.alloc (.cells #[.pointer (some ⟨q, 0, none⟩), .pointer (some ⟨sq, 0, none⟩)] 95)) := (Chg.refl [] w3).alloc _
  have h2 := hc2.size
  have h3 := hc3.size
  have hsl := hs.lt
  have hlt := ht.lt
  refine ⟨⟨(Own.new w3 95 [.pointer (some ⟨q, 0, none⟩), .pointer (some ⟨sq, 0, none⟩)]).chg hc5 (by simp), ht.kept ((hc3.trans hc4).trans hc5), hs.kept (hc4.trans hc5), fun hx => ?_, fun hx => Nat.lt_irrefl _ (hsl _ hx), fun x hx => ⟨fun hy => ?_, ?_⟩, fun x hx => by cases hx⟩, fun x hx => ?_, ((hc2.trans hc3).trans hc4).trans hc5⟩
  · rcases List.mem_append.1 hx with hx | hx
    · have := hlt _ hx; omega
    · simp at hx; omega
  · have h5 := hn x hx
    rcases List.mem_append.1 hy with hy | hy
    · have := hlt _ hy; omega
    · simp at hy; omega
  · have h5 := hn x hx; omega
  · rcases List.mem_append.1 hx with hx | hx
    · rcases List.mem_cons.1 hx with rfl | hx
      · omega
      · exact hl x hx
    · have := hn x hx; omega
set_option maxHeartbeats 1000000 in
theorem POpen_fresh (w : World) {p g b n : Nat} {F : Nat → Sec} {h : Nat} (hd : Dsk w p g b n F (fun _ => none)) (hn : 3 ≤ n) (o : Opens n F h []) :
    Calls Tryz.prog 12 #[.pointer (some ⟨p, 0, none⟩)] w fun e w' => ∃ u l q sq sp sb v, e = .returned (.tuple #[.pointer (some ⟨u, 0, none⟩), .int .i64 0]) ∧ Hid (Pgs w' u l q p g b n (calm F (fun _ => none) h []) sq sp sb v [] PS.zero) ∧ Hid (∀ x ∈ u :: l ++ stB sq sp sb v, w.heap.size ≤ x) ∧ Chg [] w w' := by
  have hnn : now F (fun _ => none) = F := rfl
  have HO := Lib.hid (open_at w hd hn (h := h) (L := []) (by rw [hnn]; exact o))
  have HD := Lib.hid hd
  clear hd o hnn
  go_enter Tryz.func12, Tryz.ntmps12
  go_wp2_with (first
    | (go_at_call 37; refine HO.out.mono ?_; rintro e w2 ⟨q, l, rfl, ht, hl, hc2⟩
       have HC2 := Lib.hid hc2; clear hc2)
    | (go_at_call 38; refine (newState_any _).mono ?_; rintro e w3 ⟨sq, sp, v, sb, rfl, hs3, hl3, hc3⟩
       have HS3 := Lib.hid hs3; have HL3 := Lib.hid hl3; have HC3 := Lib.hid hc3; clear hs3 hl3 hc3
       have HLEN := Lib.hid (len_TD (ht.out.kept (HC3.out.alloc (.cells #[.pointer (some ⟨q, 0, none⟩), .pointer (some ⟨sq, 0, none⟩)] 95))))
       simp only [calm, List.length_nil] at HLEN)
    | (go_at_call 39; refine HLEN.out.mono ?_; rintro e w5 ⟨rfl, hc5⟩)
    | fail)
  refine wp_loop_rounds 1 ?_
  rw [rounds_succ]
  go_wp2_with fail
  go_ret2
  obtain ⟨r1, r2, r3⟩ := Pgs.fresh HC2.out ht.out hl.out ⟨HD.out.ltp, HD.out.ltg, HD.out.ltb⟩ HC3.out HS3.out HL3.out hc5
  exact ⟨_, l, q, sq, sp, sb, v, rfl, Lib.hid r1, Lib.hid r2, r3⟩
theorem Pgs.kept {w w' : World} {u : Nat} {l : List Nat} {q p g b n : Nat} {X : TS} {sq sp sb : Nat} {v : Value} {C : List Nat} {S : PS} (P : Pgs w u l q p g b n X sq sp sb v C S) (hc : Chg [] w w') : Pgs w' u l q p g b n X sq sp sb v C S :=
  ⟨P.own.chg hc (by simp), P.td.kept hc, P.sta.kept hc, P.ul, P.us, P.sl, P.cl⟩
theorem Pgs.wide {w W : World} {u : Nat} {l : List Nat} {q p g b n : Nat} {X : TS} {sq sp sb : Nat} {v : Value} {C : List Nat} {S : PS} (P : Pgs w u l q p g b n X sq sp sb v C S) (hc : Chg [] w W) {A : CeT} (hA : NewC w W A) : Pgs W u l q p g b n X sq sp sb v (C ++ A.blocks) S := by
  have hd := P.td.dlt
  refine ⟨P.own.chg hc (by simp), P.td.kept hc, (P.sta.kept hc).mono (fun x hx => List.mem_append_left _ hx) (fun x hx => ?_), P.ul, P.us, P.sl, fun x hx => ?_⟩
  · rcases List.mem_append.1 hx with hx | hx
    · exact ⟨Nat.lt_of_lt_of_le (P.sta.ap x hx).1 hc.size, (P.sta.ap x hx).2⟩
    · have h1 := hA.new x hx
      refine ⟨h1.2, fun h2 => ?_⟩
      have := P.sta.lt x h2
      omega
  · rcases List.mem_append.1 hx with hx | hx
    · exact P.cl x hx
    · have h1 := hA.new x hx
      intro h2
      rcases List.mem_append.1 h2 with h2 | h2
      · have := P.td.lt x h2; omega
      · simp at h2; omega
def Pgc (w : World) (u : Nat) (l : List Nat) (q p g b n : Nat) (sq sp sb : Nat) (v : Value) (X : TS) (S : PS) (w' : World) : Prop :=
  ∃ l' v' C', Pgs w' u l' q p g b n X sq sp sb v' C' S ∧ (∀ x ∈ l', x ∈ l ∨ w.heap.size ≤ x) ∧ Nb w v v' ∧ Chg (l ++ [g, b] ++ stB sq sp sb v) w w'
theorem Write_room (w : World) {u : Nat} {l : List Nat} {q p g b n : Nat} {F : Nat → Sec} {h : Nat} {L : List Rec} {sq sp sb : Nat} {v : Value} {C : List Nat} {S : PS} (P : Pgs w u l q p g b n (calm F (fun _ => none) h L) sq sp sb v C S) (a : Nat) (A : CeT) (ha : a < 1048576)
    (h1 : Ro w w.heap.size A.a (u8s A.x.d)) (h2 : Ro w w.heap.size A.a2 (bcs A.x.b)) (hr : right A.x = true) (ht : S.tr a = false) (hm : S.m a = none) (hl : S.T.length ≤ 999999) (hfit : (frs L).length + 2 + (encR ⟨2, a, 0, A.x⟩).length ≤ hsec n * 64) :
    Calls Tryz.prog 23 #[.pointer (some ⟨u, 0, none⟩), .int .u64 (a : Int), A.val] w fun e w' => e = .returned (.int .i64 0) ∧ Hid (Pgc w u l q p g b n sq sp sb v (calm (cmF n F h h L (L ++ [encR ⟨2, a, 0, A.x⟩])) (fun _ => none) h (L ++ [encR ⟨2, a, 0, A.x⟩])) (exec S ⟨2, a, 0, A.x⟩) w') := by
  have hok : okN ⟨2, a, 0, A.x⟩ := ⟨by simp, by simp, by simpa using ha, by simp, by simp, fun _ => hr, by simp⟩
  have hal : allow S ⟨2, a, 0, A.x⟩ = true := by simp [allow, ht, hm]
  refine Write_go w P a A ha h1 h2 hr ht hm 0 _ (fun W A' hW hx hN => ?_)
  have hP := P.wide hW hN
  have hC : CellV W (C ++ A'.blocks) A' := hN.cellV.mono (fun x hx => List.mem_append_right _ hx)
  have hch := change_room W hP ⟨2, a, 0, A.x⟩ A' (fun _ => ⟨hx, hC⟩) hok hal hl hfit
  refine Calls.mono (R' := _) hch ?_
  rintro e w' ⟨he, l', v', hp, hl', hn, hc⟩
  exact ⟨he, Lib.hid ⟨l', v', _, hp.out, fun x hx => (hl' x hx).imp id (fun h9 => Nat.le_trans hW.size h9), hn.mono hW.size, (hW.mono (by simp)).trans hc⟩⟩
theorem TrimOne_room (w : World) {u : Nat} {l : List Nat} {q p g b n : Nat} {F : Nat → Sec} {h : Nat} {L : List Rec} {sq sp sb : Nat} {v : Value} {C : List Nat} {S : PS} (P : Pgs w u l q p g b n (calm F (fun _ => none) h L) sq sp sb v C S) (a : Nat) (ha : a < 1048576)
    (ht : S.tr a = false) (hl : S.T.length ≤ 999999) (hfit : (frs L).length + 2 + (encR ⟨4, a, a + 1, zCe⟩).length ≤ hsec n * 64) :
    Calls Tryz.prog 25 #[.pointer (some ⟨u, 0, none⟩), .int .u64 (a : Int)] w fun e w' => e = .returned (.int .i64 0) ∧ Hid (Pgc w u l q p g b n sq sp sb v (calm (cmF n F h h L (L ++ [encR ⟨4, a, a + 1, zCe⟩])) (fun _ => none) h (L ++ [encR ⟨4, a, a + 1, zCe⟩])) (exec S ⟨4, a, a + 1, zCe⟩) w') := by
  have hok : okN ⟨4, a, a + 1, zCe⟩ := ⟨by simp, by simp, by simp; omega, by simp; omega, by simp, by simp, by simp⟩
  have hal : allow S ⟨4, a, a + 1, zCe⟩ = true := by simp [allow]; omega
  refine TrimOne_go w P a ha ht 0 _ (fun W hW => ?_)
  have hP := P.kept hW
  have hch := change_room W hP ⟨4, a, a + 1, zCe⟩ zA (fun e => by simp at e) hok hal hl hfit
  refine Calls.mono (R' := _) hch ?_
  rintro e w' ⟨he, l', v', hp, hl', hn, hc⟩
  exact ⟨he, Lib.hid ⟨l', v', _, hp.out, fun x hx => (hl' x hx).imp id (fun h9 => Nat.le_trans hW.size h9), hn.mono hW.size, (hW.mono (by simp)).trans hc⟩⟩
def jC : Ce := ⟨2, [], []⟩
def dC : Ce := ⟨1, [], []⟩
def jA : CeT := ⟨jC, none, 0, none, 0⟩
def dA : CeT := ⟨dC, none, 0, none, 0⟩
def aS1 : PS := exec PS.zero ⟨2, 5, 0, jC⟩
def aS2 : PS := exec aS1 ⟨4, 7, 7 + 1, zCe⟩
theorem jright : right jC = true := by decide
theorem dright : right dC = true := by decide
theorem aS1_tr (a : Nat) : aS1.tr a = false := by
  unfold PS.tr aS1 exec PS.zero
  simp [mem]
theorem aS1_m : aS1.m 5 = some jC := by simp [aS1, exec, updC]
theorem aS2_m : aS2.m 5 = some jC := by simp [aS2, exec, rmC, aS1_m]
theorem aS2_tr : aS2.tr 7 = true := by
  have h : aS2.T = [(7, 8)] := by decide
  unfold PS.tr
  rw [h]
  simp [mem, inR]
theorem aS2_tail : IsTail aS2 8 := by
  have h : aS2.T = [(7, 8)] := by decide
  have hm : aS2.mr = 0 := by decide
  refine ⟨by rw [hm]; omega, fun r hr => ?_, fun a ha => ?_, .inr (.inl ⟨(7, 8), by rw [h]; simp, rfl⟩)⟩
  · rw [h] at hr; simp at hr; subst hr; exact Nat.le_refl _
  · have h2 := (mem_addrs.1 ha).2
    have h3 : a = 5 := by
      by_cases e : a = 5
      · exact e
      · simp [aS2, exec, rmC, aS1, updC, PS.zero, e] at h2
    omega
theorem aL1 : (encR ⟨2, 5, 0, jC⟩).length = 4 := by
  rw [encR_len]
  simp [encC, jC]
theorem aL2 : (encR ⟨4, 7, 7 + 1, zCe⟩).length = 6 := by
  rw [encR_len]
  simp
theorem frs_one8 (r : Rec) : (frs [r]).length = r.length + 2 := by
  show (frame r ++ frs []).length = _
  rw [List.length_append, frame_len]
  show 2 + r.length + 0 = _
  omega
theorem pnew_ex (w : World) (n : Nat) (h1 : 1 ≤ n) (h2 : n ≤ 1024) :
    Calls Tryz.prog 10 #[.int .i64 n] w fun e w' => ∃ p g b, e = .returned (.tuple #[.pointer (some ⟨p, 0, none⟩), .int .i64 0]) ∧ w.heap.size ≤ p ∧ w.heap.size ≤ g ∧ w.heap.size ≤ b ∧ Dsk w' p g b n (fun _ => zsec) (fun _ => none) ∧ Chg [] w w' :=
  (new_ok w n h1 h2).mono fun e w' ⟨he, hd, hc⟩ => ⟨_, _, _, he, by omega, by omega, by omega, hd, hc⟩
theorem Pgc.low {w0 w w' : World} {u : Nat} {l : List Nat} {q p g b n sq sp sb : Nat} {v : Value} {X : TS} {S : PS} (h : Pgc w u l q p g b n sq sp sb v X S w') (hc : Chg [] w0 w) (hn : ∀ x ∈ l ++ [g, b] ++ stB sq sp sb v, w0.heap.size ≤ x) :
    ∃ l' v' C', Pgs w' u l' q p g b n X sq sp sb v' C' S ∧ (∀ x ∈ l' ++ [g, b] ++ stB sq sp sb v', w0.heap.size ≤ x) ∧ Chg [] w0 w' := by
  obtain ⟨l', v', C', h1, h2, h3, h4⟩ := h
  have hsz := hc.size
  refine ⟨l', v', C', h1, fun x hx => ?_, hc.then h4 (fun x hx => .inr (hn x hx))⟩
  simp only [List.mem_append, stB, List.mem_cons, mem_rowOf] at hx hn
  rcases hx with (hx | hx) | hx
  · rcases h2 x hx with h5 | h5
    · exact hn x (.inl (.inl h5))
    · omega
  · exact hn x (.inl (.inr hx))
  · rcases hx with e | e | e | e
    · exact hn x (.inr (.inl e))
    · exact hn x (.inr (.inr (.inl e)))
    · exact hn x (.inr (.inr (.inr (.inl e))))
    · rcases h3 with h5 | h5
      · exact hn x (.inr (.inr (.inr (.inr (h5 ▸ e)))))
      · have := h5 x e; omega
theorem aw1 (w : World) {u : Nat} {l : List Nat} {q p g b sq sp sb : Nat} {v : Value} {C : List Nat} (P : Pgs w u l q p g b 9 (calm (fun _ => zsec) (fun _ => none) 0 []) sq sp sb v C PS.zero) :
    Calls Tryz.prog 23 #[.pointer (some ⟨u, 0, none⟩), .int .u64 5, .agg #[.int .i64 2, .slice none 0 0, .slice none 0 0]] w fun e w' => ∃ F L, e = .returned (.int .i64 0) ∧ Hid (Pgc w u l q p g b 9 sq sp sb v (calm F (fun _ => none) 0 L) aS1 w') ∧ Hid ((frs L).length = 6) := by
  have h := Write_room w P 5 jA (by omega) (Ro.nil _ _ _) (Ro.nil _ _ _) jright (by simp [PS.zero, PS.tr, mem]) rfl (by simp [PS.zero]) (by show (frs []).length + 2 + (encR ⟨2, 5, 0, jC⟩).length ≤ _; rw [aL1]; decide)
  refine Calls.mono (R' := _) h ?_
  rintro e w' ⟨h1, h2⟩
  exact ⟨_, _, h1, h2, Lib.hid (by rw [List.nil_append, frs_one8]; show (encR ⟨2, 5, 0, jC⟩).length + 2 = 6; rw [aL1])⟩
theorem aw2 (w : World) {u : Nat} {l : List Nat} {q p g b sq sp sb : Nat} {v : Value} {C : List Nat} {X : TS} (P : Pgs w u l q p g b 9 X sq sp sb v C aS1) :
    Calls Tryz.prog 23 #[.pointer (some ⟨u, 0, none⟩), .int .u64 5, .agg #[.int .i64 1, .slice none 0 0, .slice none 0 0]] w fun e w' => e = .returned (.int .i64 81) ∧ Chg [] w w' :=
  Write_wr w P 5 dA (by omega) (Ro.nil _ _ _) (Ro.nil _ _ _) dright (aS1_tr 5) (by rw [aS1_m]; rfl)
theorem aS1_T : aS1.T.length ≤ 999999 := by
  have h : aS1.T = [] := rfl
  rw [h]; simp
theorem at7 (w : World) {u : Nat} {l : List Nat} {q p g b sq sp sb : Nat} {v : Value} {C : List Nat} {F : Nat → Sec} {L : List Rec} (P : Pgs w u l q p g b 9 (calm F (fun _ => none) 0 L) sq sp sb v C aS1) (hL : (frs L).length = 6) :
    Calls Tryz.prog 25 #[.pointer (some ⟨u, 0, none⟩), .int .u64 7] w fun e w' => ∃ X, e = .returned (.int .i64 0) ∧ Hid (Pgc w u l q p g b 9 sq sp sb v X aS2 w') := by
  have hf : (frs L).length + 2 + (encR ⟨4, 7, 7 + 1, zCe⟩).length ≤ hsec 9 * 64 := by rw [hL, aL2]; decide
  have h := TrimOne_room w P 7 (by omega) (aS1_tr 7) aS1_T hf
  refine Calls.mono (R' := _) h ?_
  rintro e w' ⟨h1, h2⟩
  exact ⟨_, h1, h2⟩
theorem ar5 (w : World) {u : Nat} {l : List Nat} {q p g b sq sp sb : Nat} {v : Value} {C : List Nat} {X : TS} (P : Pgs w u l q p g b 9 X sq sp sb v C aS2) :
    Calls Tryz.prog 32 #[.pointer (some ⟨u, 0, none⟩), .int .u64 5] w fun e w' => ∃ a n c a' n' c', e = .returned (.tuple #[cev 2 a n c a' n' c', .int .i64 0]) ∧ Chg [] w w' := by
  refine Calls.mono (R' := _) (Read_ok w P 5 jC aS2_m) ?_
  rintro e w' ⟨⟨⟨k6, d6, b6⟩, a6, c6, aa6, cc6⟩, h1, hx6, _, hc6⟩
  have hk6 : k6 = 2 := congrArg Ce.k hx6
  subst hk6
  exact ⟨_, _, _, _, _, _, h1, hc6⟩
theorem ar7 (w : World) {u : Nat} {l : List Nat} {q p g b sq sp sb : Nat} {v : Value} {C : List Nat} {X : TS} (P : Pgs w u l q p g b 9 X sq sp sb v C aS2) :
    Calls Tryz.prog 32 #[.pointer (some ⟨u, 0, none⟩), .int .u64 7] w fun e w' => e = .returned (.tuple #[cev 0 none 0 0 none 0 0, .int .i64 83]) ∧ Chg [] w w' :=
  Read_tr w P 7 (by omega) aS2_tr
theorem at8 (w : World) {u : Nat} {l : List Nat} {q p g b sq sp sb : Nat} {v : Value} {C : List Nat} {X : TS} (P : Pgs w u l q p g b 9 X sq sp sb v C aS2) :
    Calls Tryz.prog 30 #[.pointer (some ⟨u, 0, none⟩)] w fun e w' => e = .returned (.int .u64 8) ∧ Chg [] w w' := by
  refine Calls.mono (R' := _) (Tail_any w P) ?_
  rintro e w' ⟨t, h1, ht, hc⟩
  obtain rfl := ht.uniq aS2_tail
  exact ⟨h1, hc⟩
set_option maxHeartbeats 2000000 in
set_option maxRecDepth 100000 in
theorem alive8_any (w : World) : Calls Tryz.prog 9 #[] w fun e w' => e = .returned (.bool true) ∧ Chg [] w w' := by
  have H0 := Lib.hid (pnew_ex w 9 (by omega) (by omega))
  go_enter Tryz.func9, Tryz.ntmps9
  go_wp2_with fail
  refine H0.out.mono ?_
  rintro e w1 ⟨p, g, b, rfl, hp, hg, hb, hd1, hc1⟩
  have HC1 := Lib.hid hc1
  have HO := Lib.hid (POpen_fresh w1 hd1 (by omega) (opens_zero 9))
  have HB := Lib.hid (And.intro hg hb)
  clear hd1 hc1 hp hg hb
  go_wp2_with fail
  refine HO.out.mono ?_
  rintro e w2 ⟨u, l, q, sq, sp, sb, v, rfl, hP2, hl2, hc2⟩
  have HC2 := Lib.hid (HC1.out.trans hc2)
  have HL2 : Hid (∀ x ∈ l ++ [g, b] ++ stB sq sp sb v, w.heap.size ≤ x) := Lib.hid (fun x hx => by
    have h1 := HC1.out.size
    have h2 := HB.out
    have h3 := hl2.out x
    simp only [List.mem_append, List.mem_cons, List.not_mem_nil, or_false] at hx h3
    rcases hx with (hx | hx | hx) | hx
    · exact Nat.le_trans h1 (h3 (.inl (.inr hx)))
    · omega
    · omega
    · exact Nat.le_trans h1 (h3 (.inr hx)))
  have HW1 := Lib.hid (aw1 w2 hP2.out)
  clear hc2 hl2
  go_wp2_with fail
  refine HW1.out.mono ?_
  rintro e w3 ⟨F3, L3', rfl, hp3, hf3⟩
  obtain ⟨l3, v3, C3, hP3, hL3, hc3⟩ := hp3.out.low HC2.out HL2.out
  have HP3 := Lib.hid hP3; have HL3 := Lib.hid hL3; have HC3 := Lib.hid hc3
  clear hp3 hP3 hL3 hc3
  have HW2 := Lib.hid (aw2 w3 HP3.out)
  go_wp2_with fail
  refine HW2.out.mono ?_
  rintro e w4 ⟨rfl, hc4⟩
  have HP4 := Lib.hid (HP3.out.kept hc4)
  have HC4 := Lib.hid (HC3.out.trans hc4)
  clear hc4
  have HT := Lib.hid (at7 w4 HP4.out hf3.out)
  go_wp2_with fail
  refine HT.out.mono ?_
  rintro e w5 ⟨X5, rfl, hp5⟩
  obtain ⟨l5, v5, C5, hP5, hL5, hc5⟩ := hp5.out.low HC4.out HL3.out
  have HP5 := Lib.hid hP5; have HC5 := Lib.hid hc5
  clear hp5 hP5 hL5 hc5
  have HR1 := Lib.hid (ar5 w5 HP5.out)
  go_wp2_with fail
  refine HR1.out.mono ?_
  rintro e w6 ⟨a6, n6, c6, aa6, nn6, cc6, rfl, hc6⟩
  have HC6 := Lib.hid (HC5.out.trans hc6)
  have HP6 := Lib.hid (HP5.out.kept hc6)
  have hob := Own.new w6 42 [.int .i64 2, .slice a6 n6 c6, .slice aa6 nn6 cc6]
  have HOB := Lib.hid hob
  have HR2 := Lib.hid (fun o => ar7 (w6.alloc o) (HP6.out.kept ((Chg.refl [] w6).alloc o)))
  clear hc6 hob
  go_wp2_with fail
  refine (HR2.out _).mono ?_
  rintro e w7 ⟨rfl, hc7⟩
  have hk7 : ∀ o, (w7.alloc o).cell? ⟨w6.heap.size, 0, none⟩ = some (.int .i64 2) := fun o => (hc7.alloc o).cell (by exact (HOB.out.cell 0).trans rfl) (by simp)
  have HC7 := Lib.hid ((HC6.out.alloc _).trans hc7)
  have HT8 := Lib.hid (fun o => at8 (w7.alloc o) (HP6.out.kept ((((Chg.refl [] w6).alloc _).trans hc7).alloc o)))
  clear hc7
  go_wp2_with fail
  refine (HT8.out _).mono ?_
  rintro e w8 ⟨rfl, hc8⟩
  go_wp2_with fail
  go_ret
  exact ⟨rfl, (HC7.out.alloc _).trans hc8⟩
end Go.Proofs.YtmpajlpemabniaaGreat
