/-
  Push of package sequencer, and its use on streams; the Backs of streams. No claim of its own.
-/
import Derived.Test.YtdblplkaobeimaaGc6
import Derived.Test.YtdblplkaobeimaaGc7
namespace Go.Proofs.Ytdblplkaobeimaa
open Go.RowKit Go.Deep Go.Shelf
set_option linter.unusedVariables false
set_option linter.unusedSimpArgs false

set_option maxHeartbeats 2000000 in
set_option maxRecDepth 100000 in
theorem Push_any (l : La) (a : Nat) (w : World) :
    Calls Try.prog 63 #[lav l, .int .u64 (a : Int)] w fun e w' => e = .returned (lav (pushA l a)) ∧ Below w.heap.size w w' := by
  obtain ⟨p, q⟩ := l
  go_enter Try.func63, Try.ntmps63
  go_upto_region 2 with fail
  obtain ⟨W, hW⟩ : ∃ W, ((w.alloc (.cells #[.int .u64 (p : Int), .int .u64 (q : Int)] 50)).alloc (.cells #[.int .u64 0, .int .u64 0] 50)).alloc (.cells #[.int .u64 (a : Int), .int .u64 0] 50) = W := ⟨_, rfl⟩
  rw [hW]
  have o0 : Own W w.heap.size 50 [.int .u64 (p : Int), .int .u64 (q : Int)] := by rw [← hW]; exact ((Own.new w _ _).alloc _).alloc _
  have o1 : Own W (w.heap.size + 1) 50 [.int .u64 0, .int .u64 0] := by
    rw [← hW]
    have := Own.new (w.alloc (.cells #[.int .u64 (p : Int), .int .u64 (q : Int)] 50)) 50 [.int .u64 0, .int .u64 0]
    rw [World.size_alloc] at this
    exact this.alloc _
  have o2 : Own W (w.heap.size + 1 + 1) 50 [.int .u64 (a : Int), .int .u64 0] := by
    rw [← hW]
    have := Own.new ((w.alloc (.cells #[.int .u64 (p : Int), .int .u64 (q : Int)] 50)).alloc (.cells #[.int .u64 0, .int .u64 0] 50)) 50 [.int .u64 (a : Int), .int .u64 0]
    rw [World.size_alloc, World.size_alloc] at this
    exact this
  have hb : Below w.heap.size w W := by rw [← hW]; exact (((Below.refl _ _).alloc (Nat.le_refl _) _).alloc (by simp) _).alloc (by simp; omega) _
  obtain ⟨W4, hrun, hown4, hown1, hb4⟩ : ∃ W4, (Builtin.copy_ #[56, 56] 3 #[.slice (some ⟨w.heap.size + 1 + 1, 1, none⟩) 1 1, .slice (some ⟨w.heap.size, 0, none⟩) 2 2]).run Try.prog W.drew = .ok (.int .i64 1) W4 ∧ Own W4 (w.heap.size + 1 + 1) 50 [.int .u64 (a : Int), .int .u64 (p : Int)] ∧ Own W4 (w.heap.size + 1) 50 [.int .u64 0, .int .u64 0] ∧ Below w.heap.size w W4 := by
    have h0 := run_copy_row (P := Try.prog) W.drew 56 56 3 26 (w.heap.size + 1 + 1) 1 1 1 ⟨w.heap.size, 0, none⟩ 2 2 #[.int .u64 (a : Int), .int .u64 0] 50 [.int .u64 (p : Int)] Try.underlying56 (by kernel_rfl) o2 rfl (fun j v hj => by
      match j, hj with
      | 0, hj =>
        obtain rfl : Value.int .u64 (p : Int) = v := by simpa using hj
        exact o0.cell 0) (by simp) (by simp [Value.oneCell'])
    refine ⟨_, h0, ?_, ?_, below_setRow hb.drew (by omega) _⟩
    · exact setRow_heap _ _ _ _ _ _ o2
    · exact (setRow_other W.drew (w.heap.size + 1 + 1) (w.heap.size + 1) _ (by omega)).trans o1
  have HB := Lib.hid hb4
  have HO1 := Lib.hid hown1
  have c0 := hown4.cell 0
  have c1 := hown4.cell 1
  have d0 := hown1.cell 0
  have d1 := hown1.cell 1
  have f0 := hown1.frozen 0
  have f1 := hown1.frozen 1
  simp at c0 c1 d0 d1
  clear hb hb4 o0 o1 o2 hW
  go_region
  go_wp2_with fail
  refine bodyPost_ret (results_cell_row Try.results63 _ _ (w.heap.size + 1) 50 _ (0, 0) _ rfl ((HO1.out.set 0 (.int .u64 (a : Int))).set 1 (.int .u64 (p : Int))) Try.underlying50 rfl (by kernel_rfl)) rfl ?_
  exact ⟨rfl, (HB.out.setCell (by simp) _).setCell (by simp) _⟩

theorem Own.lapair {w : World} {b : Nat} {t : TypeId} {pre : List Value} {L : List La} (h : Own w b t (pre ++ lcs L)) {i : Nat} (hi : i < L.length) : w.cell? ⟨b, pre.length + i * 2, none⟩ = some (.int .u64 ((la L i).1 : Int)) ∧ w.cell? ⟨b, pre.length + i * 2 + 1, none⟩ = some (.int .u64 ((la L i).2 : Int)) := by
  obtain ⟨h1, h2⟩ := lcs_at hi
  rw [h.cell, h.cell, Nat.add_assoc, List.getElem?_append_right (by omega), List.getElem?_append_right (by omega), Nat.add_sub_cancel_left, Nat.add_sub_cancel_left]
  exact ⟨h1, h2⟩
theorem Own.laset {w : World} {b : Nat} {t : TypeId} {pre : List Value} {L : List La} (h : Own w b t (pre ++ lcs L)) (i : Nat) (l : La) : Own ((w.setCell ⟨b, pre.length + i * 2, none⟩ (.int .u64 (l.1 : Int))).setCell ⟨b, pre.length + i * 2 + 1, none⟩ (.int .u64 (l.2 : Int))) b t (pre ++ lcs (L.set i l)) := by
  have h2 := (h.set (pre.length + i * 2) (.int .u64 (l.1 : Int))).set (pre.length + i * 2 + 1) (.int .u64 (l.2 : Int))
  rw [List.set_append, if_neg (by omega), List.set_append, if_neg (by omega), Nat.add_assoc, Nat.add_sub_cancel_left, Nat.add_sub_cancel_left, lcs_set] at h2
  rw [Nat.add_assoc]
  exact h2
theorem RoX.i64 {w : World} {l : List Nat} {a : Option Addr} {S : List Int} (h : RoX w l a (i64s S)) (hn : 0 < S.length) : ∃ b off, a = some ⟨b, off, none⟩ ∧ ∀ i, i < S.length → w.cell? ⟨b, off + i, none⟩ = some (.int .i64 (S.getD i 0)) := by
  obtain ⟨b, off, h1, _, h3⟩ := h.ro.i64 hn
  exact ⟨b, off, h1, h3⟩
theorem pushS_take {a : Nat} {S : List Int} {L : List La} {j : Nat} (h : j < S.length) : pushS a (S.take (j + 1)) L = (pushS a (S.take j) L).set (S.getD j 0).toNat (pushA (la (pushS a (S.take j) L) (S.getD j 0).toNat) a) := by
  rw [List.take_succ_eq_append_getElem h, pushS_snoc]
  simp [List.getD, h]

set_option maxHeartbeats 2000000 in
set_option maxRecDepth 100000 in
theorem push_any (S : List Int) (hS : ∀ s ∈ S, 0 ≤ s ∧ s < 16) (a : Option Addr) (c : Nat) (x b : Nat) (t : TypeId) (pre : List Value) (L : List La) (hL : L.length = 16) (w : World) (hro : RoX w [b] a (i64s S)) (hl : S.length ≤ 9223372036854775807) (ho : Own w b t (pre ++ lcs L)) :
    Calls Try.prog 46 #[.pointer (some ⟨b, pre.length, none⟩), .slice a S.length c, .int .u64 (x : Int)] w fun e w' => e = .returned (.tuple #[]) ∧ Own w' b t (pre ++ lcs (pushS x S L)) ∧ Chg [b] w w' := by
  have HRO := Lib.hid hro
  have HU : Hid (∀ k, k < S.length → 0 ≤ S.getD k 0 ∧ S.getD k 0 < 16) := Lib.hid fun k hk => hS _ (by simp [List.getD, hk])
  have HO := Lib.hid ho
  have HP := Lib.hid (fun (l : La) (W : World) => Push_any l x W)
  obtain ⟨n, hn⟩ : ∃ n, S.length = n := ⟨_, rfl⟩
  rw [hn] at hl ⊢
  have HN := Lib.hid hn
  have HLL := Lib.hid hL
  obtain ⟨off, hoff⟩ : ∃ off, pre.length = off := ⟨_, rfl⟩
  have HOF := Lib.hid hoff
  rw [hoff]
  clear hro hS ho hn hL hoff
  go_enter Try.func46, Try.ntmps46
  go_wp2_with fail
  go_loopw [10] (fun i wr => ∃ k : Nat, k ≤ n ∧ i = .int .i64 (k : Int) ∧ Hid (Own wr b t (pre ++ lcs (pushS x (S.take k) L))) ∧ Hid (Chg [b] w wr)) (fun i _ => n - (intOf i).toNat)
  case atStart => exact ⟨0, Nat.zero_le _, rfl, HO, Lib.hid (Chg.refl _ _)⟩
  case round =>
    obtain ⟨k, hk, rfl, HX, HC⟩ := hrel
    rename World => w6
    by_cases hlt : k < n
    · have hkL : k < S.length := by rw [HN.out]; exact hlt
      obtain ⟨b0, off0, rfl, hc⟩ := (HRO.out.chg HC.out).i64 (by omega)
      have e1 := hc k hkL
      have hur := HU.out k hkL
      have HT := Lib.hid (pushS_take (a := x) (L := L) hkL)
      clear hc
      have hk0 : (0 : Int) ≤ (k : Int) := by omega
      have hk1 : (k : Int) < (n : Int) := by omega
      generalize S.getD k 0 = s at *
      obtain ⟨i, rfl⟩ := Int.eq_ofNat_of_zero_le hur.1
      obtain ⟨M, hM⟩ : ∃ M, pushS x (S.take k) L = M := ⟨_, rfl⟩
      have HM : Hid (M.length = 16) := Lib.hid (by rw [← hM, pushS_length]; exact HLL.out)
      rw [hM] at HX HT
      rw [Int.toNat_natCast] at HT
      have hi : i < M.length := by have := HM.out; omega
      obtain ⟨q1, q2⟩ := HX.out.lapair hi
      rw [HOF.out] at q1 q2
      have hi0 : (0 : Int) ≤ (i : Int) := by omega
      have hi1 : (i : Int) < 16 := by omega
      have HI := Lib.hid hi
      generalize la M i = l at *
      clear hur hM hi
      go_wp2_with fail
      go_region_with (go_at_call 63; refine (HP.out l _).mono ?_; rintro e w7 ⟨rfl, hb⟩; have o7 : Own w7 b t (pre ++ lcs M) := Own.below (w := w6.drew) (show Own w6.drew b t _ from HX.out) hb HX.out.lt; obtain ⟨k1, k2⟩ := o7.lapair HI.out; have f1 := o7.frozen (pre.length + i * 2); have f2 := o7.frozen (pre.length + i * 2 + 1); have HC7 := Lib.hid (HC.out.drew.of_below hb); have HO7 := Lib.hid o7; clear o7 hb; rw [HOF.out] at k1 k2 f1 f2)
      go_wp2_with fail
      refine ⟨⟨k + 1, by omega, by go_num, ?_, ?_⟩, by simp [intOf]; omega⟩
      · rw [HT.out, ← HOF.out]
        exact Lib.hid (HO7.out.laset i (pushA l x))
      · exact Lib.hid ((HC7.out.setCell (.inl (by simp)) _).setCell (.inl (by simp)) _)
    · obtain rfl : k = n := by omega
      go_wp2_with fail
      go_end0
      refine ⟨rfl, ?_, HC.out⟩
      have := HX.out
      rw [List.take_of_length_le (by rw [HN.out]; exact Nat.le_refl _)] at this
      exact this

theorem Lb.chgQ {w w' : World} {base : Nat} {v : Value} {L : List Bk} {l : List Nat} (h : Lb w base v L) (hc : Chg l w w') (hl : ∀ x ∈ l, ∀ cur, w.heap[x]? ≠ some (.cells cur 54 (0, 0))) : Lb w' base v L := by
  refine ⟨h.1, ?_⟩
  rcases h.2 with h1 | ⟨g, cap, cur, h1, h2, h3, h4⟩
  · exact .inl h1
  · exact .inr ⟨g, cap, cur, h1, h2, (hc.block g (Array.getElem?_eq_some_iff.1 h3).1 (fun hm => hl g hm cur h3)).trans h3, h4⟩
theorem Lb.rowQ {w : World} {base : Nat} {v : Value} {L : List Bk} (h : Lb w base v L) : ∀ x ∈ rowOf v, base ≤ x ∧ ∃ cur, w.heap[x]? = some (.cells cur 54 (0, 0)) := by
  intro x hx
  rcases h.2 with ⟨rfl, _⟩ | ⟨g, cap, cur, rfl, h2, h3, _⟩
  · simp [rowOf, Value.ownBlock] at hx
  · simp [rowOf, Value.ownBlock] at hx
    subst hx
    exact ⟨h2, cur, h3⟩
/-- append of one Back -/
theorem wpList_appBkQ {ops : Array Oper} {rest : List Oper} {o : Oper} {a : Act} {w : World} {Q : Exit → Act → World → Prop} (hgd : o.guard = none) (s x : Operand)
    (ho : o.op = .call { callee := .builtin .append, args := #[s, x], argTypes := #[30, 30] })
    (base : Nat) (v : Value) (L : List Bk) (hs : a.eval s = v) (hown : Lb w base v L) (g : Nat) (y : Bk) (t : TypeId) (hnew : Own w g t (bcs [y]))
    (hx : a.eval x = .slice (some ⟨g, 0, none⟩) 1 1) (hlen : L.length ≤ 1000000) (hbase : base ≤ w.heap.size)
    (h : ∀ v' w', Hid (Lb w' base v' (L ++ [y])) → Chg (rowOf v) w w' → wpList Try.prog ops Q rest (a.put o.dst v') w') : wpList Try.prog ops Q (o :: rest) a w := by
  obtain ⟨i, hi, hzz⟩ := Option.map_eq_some_iff.1 Try.info_back
  simp only [Prod.mk.injEq] at hzz
  obtain ⟨hz, hsz, hby⟩ := hzz
  refine wpList_append_own w hgd s x 30 ho base 54 i _ 3 24 Try.underlying30 hi hz hsz hby rfl (by omega) v L.length (bcs L) hs hown ⟨g, 0, none⟩ 1 1 (bcs [y]) hx (by simp) (fun j u hu => ?_) (bcs_one _) (by unfold maxLen; omega) (by omega) hbase fun v' w' h2 h3 _ => h v' w' ?_ (grown_chg h3)
  · rw [add_off, Nat.zero_add, hnew.cell j]; exact hu
  · show w'.ownsRow base 54 3 v' (L ++ [y]).length (bcs (L ++ [y]))
    rw [List.length_append, bcs_append]
    exact h2

set_option maxHeartbeats 2000000 in
set_option maxRecDepth 100000 in
theorem backs_any (S : List Int) (hS : ∀ s ∈ S, 0 ≤ s ∧ s < 16) (a : Option Addr) (c b : Nat) (t : TypeId) (pre : List Value) (L : List La) (hL : L.length = 16) (w : World) (hro : Ro w w.heap.size a (i64s S)) (hl : S.length ≤ 1000000) (ho : Own w b t (pre ++ lcs L)) :
    Calls Try.prog 45 #[.pointer (some ⟨b, pre.length, none⟩), .slice a S.length c] w fun e w' => ∃ v, e = .returned v ∧ Lb w' w.heap.size v (backsL L S) ∧ Chg [] w w' := by
  have HRO := Lib.hid hro
  have HU : Hid (∀ k, k < S.length → 0 ≤ S.getD k 0 ∧ S.getD k 0 < 16) := Lib.hid fun k hk => hS _ (by simp [List.getD, hk])
  have HO := Lib.hid ho
  obtain ⟨n, hn⟩ : ∃ n, S.length = n := ⟨_, rfl⟩
  rw [hn] at hl ⊢
  have HN := Lib.hid hn
  have HLL := Lib.hid hL
  obtain ⟨off, hoff⟩ : ∃ off, pre.length = off := ⟨_, rfl⟩
  have HOF := Lib.hid hoff
  rw [hoff]
  have HLM := Lib.hid hl
  clear hro hS ho hn hL hoff
  go_enter Try.func45, Try.ntmps45
  go_wp2_with fail
  go_loopw [5, 10] (fun v i wr => ∃ (k : Nat), k ≤ n ∧ i = .int .i64 (k : Int) ∧ Hid (Lb wr w.heap.size v (backsL L (S.take k))) ∧ Hid (Chg [] w wr)) (fun _ i _ => n - (intOf i).toNat)
  case atStart => exact ⟨0, Nat.zero_le _, rfl, Lib.hid (Lb.nil _ _), Lib.hid (Chg.refl _ _)⟩
  case round =>
    obtain ⟨k, hk, rfl, HX, HC⟩ := hrel
    rename World => w6
    by_cases hlt : k < n
    · have hkL : k < S.length := by rw [HN.out]; exact hlt
      obtain ⟨b0, off0, rfl, hb0, hc⟩ := (HRO.out.below HC.out.low (Nat.le_refl _)).i64 (show 0 < S.length by omega)
      have e1 := hc k hkL
      have hur := HU.out k hkL
      have HT : Hid (backsL L (S.take (k + 1)) = backsL L (S.take k) ++ [(S.getD k 0, la L (S.getD k 0).toNat)]) := Lib.hid (by
        rw [List.take_succ_eq_append_getElem hkL]
        simp only [backsL, List.map_append, List.map_cons, List.map_nil, List.getD, List.getElem?_eq_getElem hkL, Option.getD_some])
      have HLn : Hid ((backsL L (S.take k)).length = k) := Lib.hid (by rw [backsL_length, List.length_take]; omega)
      clear hc
      have hk0 : (0 : Int) ≤ (k : Int) := by omega
      have hk1 : (k : Int) < (n : Int) := by omega
      generalize S.getD k 0 = s at *
      obtain ⟨i, rfl⟩ := Int.eq_ofNat_of_zero_le hur.1
      rw [Int.toNat_natCast] at HT
      have hi : i < L.length := by have := HLL.out; omega
      obtain ⟨q1, q2⟩ := (HO.out.chg HC.out (by simp)).lapair hi
      rw [HOF.out] at q1 q2
      have hi0 : (0 : Int) ≤ (i : Int) := by omega
      have hi1 : (i : Int) < 16 := by omega
      generalize la L i = l at *
      obtain ⟨l1, l2⟩ := l
      generalize backsL L (S.take k) = xs at *
      obtain ⟨al, cl, hv, _, _, _⟩ := HX.out.form
      subst hv
      obtain ⟨W7, hW7⟩ : ∃ W7, w6.alloc (.cells #[.int .i64 (i : Int), .int .u64 (l1 : Int), .int .u64 (l2 : Int)] 54) = W7 := ⟨_, rfl⟩
      obtain ⟨g, hg⟩ : ∃ g, w6.heap.size = g := ⟨_, rfl⟩
      have HG : Hid (Own W7 g 54 (bcs [((i : Int), l1, l2)])) := Lib.hid (by rw [← hW7, ← hg]; exact Own.new w6 _ _)
      have HC7 : Hid (Chg [] w W7) := Lib.hid (by rw [← hW7]; exact HC.out.alloc _)
      have HL7 : Hid (Lb W7 w.heap.size (.slice al xs.length cl) xs) := Lib.hid (by rw [← hW7]; exact HX.out.alloc _)
      have HRW := Lib.hid (fun x (hx : x ∈ rowOf (.slice al xs.length cl)) => (HX.out.rowQ x hx).1)
      have HWW := Lib.hid hW7
      have HGG := Lib.hid hg
      clear hur hi hW7 hg
      rw [HLn.out] at HL7 HRW ⊢
      go_wp2_with (rw [HWW.out, HGG.out]; at_builtin; refine wpList_appBkQ rfl (.tmp 14) (.tmp 22) rfl w.heap.size (.slice al k cl) xs rfl HL7.out g ((i : Int), l1, l2) 54 HG.out rfl (by have := HLn.out; have := HLM.out; omega) HC7.out.size ?_)
      intro v' w8 hl8 hc8
      have HC8 : Hid (Chg [] w w8) := Lib.hid (HC7.out.then hc8 (fun x hx => .inr (HRW.out x hx)))
      clear hc8
      go_wp2_with fail
      go_roundw
      case rel => exact ⟨k + 1, by omega, by go_num, by rw [HT.out]; exact hl8, HC8⟩
      case measure => simp [intOf]; omega
    · obtain rfl : k = n := by omega
      go_wp2_with fail
      go_ret
      have := HX.out
      rw [List.take_of_length_le (by rw [HN.out]; exact Nat.le_refl _)] at this
      exact ⟨_, rfl, this, HC.out⟩
end Go.Proofs.Ytdblplkaobeimaa
