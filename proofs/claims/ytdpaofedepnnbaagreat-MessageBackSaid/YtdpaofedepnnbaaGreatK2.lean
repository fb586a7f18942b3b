/-
  Backs of package message, as they are read. No claim of its own.
-/
import Derived.Test.YtdpaofedepnnbaaGreatK1
import Derived.Test.YtdpaofedepnnbaaGreatCeG
namespace Go.Proofs.YtdpaofedepnnbaaGreat
open Go.RowKit Go.Deep
set_option linter.unusedVariables false
set_option linter.unusedSimpArgs false

set_option maxHeartbeats 4000000 in
theorem mbackF_any (bs : List UInt8) (B s k : Nat) (w : World) (h : Src w 72 B s bs k) (hk : k ≤ 900000) :
    Calls Tryz.prog 109 #[nv s] w fun e w' => e = .returned (bkv (pB bs k).1) ∧ Src w' 72 B s bs (pB bs k).2 ∧ Chg [s] w w' := by
  have eg := egT
  have HK := Lib.hid hk
  have HZ := Lib.hid h.lt
  have HB := Lib.hid h.2.1
  obtain ⟨W, HWW⟩ : ∃ W, Hid (w.alloc (.cells #[.int .i64 0, .int .u64 0, .int .u64 0] 70) = W) := ⟨_, Lib.hid rfl⟩
  have hWc : Chg [] w W := by rw [← HWW.out]; exact (Chg.refl [] w).alloc _
  have HO : Hid (Own W w.heap.size 70 [.int .i64 0, .int .u64 0, .int .u64 0]) := Lib.hid (by rw [← HWW.out]; exact Own.new w _ _)
  have HC := Lib.hid hWc
  have H1 := Lib.hid (mtake_any bs B s k 4 W (h.new0 hWc) (by omega) (by omega))
  have HT := Lib.hid (fun (k' : Nat) (W' : World) (hs : Src W' 72 B s bs k') (hk' : k' ≤ 950000) => mtake_any bs B s k' 21 W' hs (by omega) (by omega))
  have v1 := tkN_lt bs k 4
  have v2 := tkN_lt bs (k + 4) 21
  have v3 := tkN_lt bs (k + 4 + 21) 21
  unfold pB
  have HT1 := Lib.hid (HT.out (k + 4))
  have HT2 := Lib.hid (HT.out (k + 4 + 21))
  clear HT
  generalize tkN bs k 4 = a1 at *
  generalize tkN bs (k + 4) 21 = a2 at *
  generalize tkN bs (k + 4 + 21) 21 = a3 at *
  have e1 := i64_small a1 (by omega)
  have HX : (((a2 : Int) == 1048576) = true ∧ lst a2 = 18446744073709551615) ∨ (((a2 : Int) == 1048576) = false ∧ lst a2 = a2) := by
    by_cases e : a2 = 1048576
    · exact .inl ⟨by rw [beq_iff_eq]; omega, by unfold lst; rw [if_pos e]⟩
    · exact .inr ⟨by rw [beq_eq_false_iff_ne]; omega, by unfold lst; rw [if_neg e]⟩
  have HY : (((a3 : Int) == 1048576) = true ∧ lst a3 = 18446744073709551615) ∨ (((a3 : Int) == 1048576) = false ∧ lst a3 = a3) := by
    by_cases e : a3 = 1048576
    · exact .inl ⟨by rw [beq_iff_eq]; omega, by unfold lst; rw [if_pos e]⟩
    · exact .inr ⟨by rw [beq_eq_false_iff_ne]; omega, by unfold lst; rw [if_neg e]⟩
  clear h hWc hk v1 v2 v3
  rcases HX with ⟨hx, hx'⟩ | ⟨hx, hx'⟩
  all_goals rcases HY with ⟨hy, hy'⟩ | ⟨hy, hy'⟩
  all_goals
    have HXX := Lib.hid hx'
    have HYY := Lib.hid hy'
    clear hx' hy'
    go_enter Tryz.func109, Tryz.ntmps109
    go_upto_region 1 with fail
    rw [HWW.out]
    go_wp2_with fail
    refine H1.out.mono ?_
    rintro e w1 ⟨rfl, h1, h2⟩
    go_upto_region 2 with fail
    obtain ⟨p, hp⟩ : ∃ p, w1.heap.size = p := ⟨_, rfl⟩
    obtain ⟨W2, hW2⟩ : ∃ W2, w1.alloc (.cells #[.int .i64 (a1 : Int), .int .u64 0, .int .u64 0] 70) = W2 := ⟨_, rfl⟩
    have HS2 := Lib.hid (h1.new0 (w' := W2) (by rw [← hW2]; exact (Chg.refl [] w1).alloc _))
    have HC2 : Hid (Chg [s] w W2) := Lib.hid (by rw [← hW2]; exact ((HC.out.nil1 [s]).trans h2).alloc _)
    have HO2 : Hid (Own W2 w.heap.size 70 [.int .i64 0, .int .u64 0, .int .u64 0]) := Lib.hid (by rw [← hW2]; exact (HO.out.chg h2 (by have := HZ.out; simp; omega)).alloc _)
    have HP2 : Hid (Own W2 p 70 [.int .i64 (a1 : Int), .int .u64 0, .int .u64 0]) := Lib.hid (by rw [← hW2, ← hp]; exact Own.new w1 _ _)
    have HPW : Hid (w.heap.size < p) := Lib.hid (by rw [← hp]; exact Nat.lt_of_lt_of_le HO.out.lt h2.size)
    clear h1 h2
    rw [hW2, hp]
    clear hW2 hp
    go_wp2_with fail
    refine wp_loop_rounds 3 ?_
    rw [rounds_succ]
    go_wp2_with fail
    refine (HT1.out W2 HS2.out (by have := HK.out; omega)).mono ?_
    rintro e w3 ⟨rfl, h1, h2⟩
    have HS3 := Lib.hid h1
    have HC3 := Lib.hid (HC2.out.trans h2)
    have HO3 := Lib.hid (HO2.out.chg h2 (by have := HZ.out; simp; omega))
    have HP3 := Lib.hid (HP2.out.chg h2 (by have := HZ.out; have := HPW.out; simp; omega))
    clear h1 h2
    have HST : Hid (∀ V, Src (w3.setCell ⟨p, 1, none⟩ V) 72 B s bs (k + 4 + 21) ∧ Chg [s] w (w3.setCell ⟨p, 1, none⟩ V) ∧ Own (w3.setCell ⟨p, 1, none⟩ V) w.heap.size 70 [.int .i64 0, .int .u64 0, .int .u64 0] ∧ Own (w3.setCell ⟨p, 1, none⟩ V) p 70 [.int .i64 (a1 : Int), V, .int .u64 0]) := Lib.hid (by
      intro V
      have sc : Chg [p] w3 (w3.setCell ⟨p, 1, none⟩ V) := (Chg.refl _ w3).setCell (by simp) _
      have z := HZ.out
      have y := HPW.out
      have x := HB.out
      exact ⟨HS3.out.chg sc (by simp; omega) (fun x hx => by simp only [List.mem_singleton] at hx; subst hx; omega), HC3.out.then sc (fun x hx => by simp only [List.mem_singleton] at hx; subst hx; exact .inr (by omega)), HO3.out.chg sc (by simp; omega), HP3.out.set 1 V⟩)
    have d1 := HP3.out.cell 1
    have f1 := HP3.out.frozen 1
    have hz := HP3.out.lt
    simp at d1
    go_wp2_with fail
    rw [rounds_succ]
    go_wp2_with fail
    refine (HT2.out _ (HST.out _).1 (by have := HK.out; omega)).mono ?_
    rintro e w4 ⟨rfl, h1, h2⟩
    have HS4 := Lib.hid h1
    have HC4 := Lib.hid ((HST.out _).2.1.trans h2)
    have HO4 := Lib.hid ((HST.out _).2.2.1.chg h2 (by have := HZ.out; simp; omega))
    have HP4 := Lib.hid ((HST.out _).2.2.2.chg h2 (by have := HZ.out; have := HPW.out; simp; omega))
    clear h1 h2 d1 f1 hz
    have d0 := HP4.out.cell 0
    have d1 := HP4.out.cell 1
    have d2 := HP4.out.cell 2
    have f2 := HP4.out.frozen 2
    have hz := HP4.out.lt
    have r0 := HO4.out.cell 0
    have r1 := HO4.out.cell 1
    have r2 := HO4.out.cell 2
    have g0 := HO4.out.frozen 0
    have g1 := HO4.out.frozen 1
    have g2 := HO4.out.frozen 2
    have hz4 := HO4.out.lt
    have hne : p ≠ w.heap.size := by have := HPW.out; omega
    have hne' : w.heap.size ≠ p := by have := HPW.out; omega
    simp at d0 d1 d2 r0 r1 r2
    go_wp2_with fail
    rw [rounds_succ]
    go_wp2_with fail
    have sc : ∀ V1 V2 V3 V4, Chg [p, w.heap.size] w4 ((((w4.setCell ⟨p, 2, none⟩ V1).setCell ⟨w.heap.size, 0, none⟩ V2).setCell ⟨w.heap.size, 1, none⟩ V3).setCell ⟨w.heap.size, 2, none⟩ V4) := fun V1 V2 V3 V4 => ((((Chg.refl _ w4).setCell (by simp) _).setCell (by simp) _).setCell (by simp) _).setCell (by simp) _
    refine bodyPost_ret (v := bkv ((a1 : Int), lst a2, lst a3)) (by simp [results, Tryz.results109, go_sem, r0, r1, r2, hz4, bkv, HXX.out, HYY.out, hne, hne']) rfl ⟨rfl, ?_⟩
    have z := HZ.out
    have y := HPW.out
    have x := HB.out
    refine ⟨HS4.out.chg (sc _ _ _ _) (by simp; omega) (fun b hb => ?_), HC4.out.then (sc _ _ _ _) (fun b hb => .inr ?_)⟩
    · simp only [List.mem_cons, List.not_mem_nil, or_false] at hb; omega
    · simp only [List.mem_cons, List.not_mem_nil, or_false] at hb; omega
end Go.Proofs.YtdpaofedepnnbaaGreat
namespace Go.Proofs.YtdpaofedepnnbaaGreat
open Go.RowKit Go.Deep
set_option linter.unusedVariables false
set_option linter.unusedSimpArgs false

theorem Lb.chg {w w' : World} {base : Nat} {v : Value} {L : List Bk} {l : List Nat} (h : Lb w base v L) (hc : Chg l w w') (hl : ∀ x ∈ l, ∀ cur, w.heap[x]? ≠ some (.cells cur 70 (0, 0))) : Lb w' base v L := by
  refine ⟨h.1, ?_⟩
  rcases h.2 with h1 | ⟨g, cap, cur, h1, h2, h3, h4⟩
  · exact .inl h1
  · exact .inr ⟨g, cap, cur, h1, h2, (hc.block g (Array.getElem?_eq_some_iff.1 h3).1 (fun hm => hl g hm cur h3)).trans h3, h4⟩
theorem Lb.row {w : World} {base : Nat} {v : Value} {L : List Bk} (h : Lb w base v L) : ∀ x ∈ rowOf v, base ≤ x ∧ ∃ cur, w.heap[x]? = some (.cells cur 70 (0, 0)) := by
  intro x hx
  rcases h.2 with ⟨rfl, _⟩ | ⟨g, cap, cur, rfl, h2, h3, _⟩
  · simp [rowOf, Value.ownBlock] at hx
  · simp [rowOf, Value.ownBlock] at hx
    subst hx
    exact ⟨h2, cur, h3⟩
/-- append of one Back -/
theorem wpList_appBk {ops : Array Oper} {rest : List Oper} {o : Oper} {a : Act} {w : World} {Q : Exit → Act → World → Prop} (hgd : o.guard = none) (s x : Operand)
    (ho : o.op = .call { callee := .builtin .append, args := #[s, x], argTypes := #[30, 30] })
    (base : Nat) (v : Value) (L : List Bk) (hs : a.eval s = v) (hown : Lb w base v L) (g : Nat) (y : Bk) (t : TypeId) (hnew : Own w g t (bcs [y]))
    (hx : a.eval x = .slice (some ⟨g, 0, none⟩) 1 1) (hlen : L.length ≤ 1000000) (hbase : base ≤ w.heap.size)
    (h : ∀ v' w', Hid (Lb w' base v' (L ++ [y])) → Chg (rowOf v) w w' → wpList Tryz.prog ops Q rest (a.put o.dst v') w') : wpList Tryz.prog ops Q (o :: rest) a w := by
  obtain ⟨i, hi, hzz⟩ := Option.map_eq_some_iff.1 Tryz.info_back
  simp only [Prod.mk.injEq] at hzz
  obtain ⟨hz, hsz, hby⟩ := hzz
  refine wpList_append_own w hgd s x 30 ho base 70 i _ 3 24 Tryz.underlying30 hi hz hsz hby rfl (by omega) v L.length (bcs L) hs hown ⟨g, 0, none⟩ 1 1 (bcs [y]) hx (by simp) (fun j u hu => ?_) (bcs_one _) (by unfold maxLen; omega) (by omega) hbase fun v' w' h2 h3 _ => h v' w' ?_ (grown_chg h3)
  · rw [add_off, Nat.zero_add, hnew.cell j]; exact hu
  · show w'.ownsRow base 70 3 v' (L ++ [y]).length (bcs (L ++ [y]))
    rw [List.length_append, bcs_append]
    exact h2

set_option maxHeartbeats 1000000 in
theorem mbacksF_any (bs : List UInt8) (B s k : Nat) (w : World) (h : Src w 72 B s bs k) (hk : k ≤ 800000) :
    Calls Tryz.prog 85 #[nv s] w fun e w' => ∃ a c, e = .returned (.slice a (pBks bs k).1.length c) ∧ Lb w' w.heap.size (.slice a (pBks bs k).1.length c) (pBks bs k).1 ∧ Src w' 72 B s bs (pBks bs k).2 ∧ Chg [s] w w' := by
  have eg := egT
  have HT := Lib.hid (mtake_any bs B s k 5 w h (by omega) (by omega))
  have HZ := Lib.hid h.lt
  obtain ⟨n, hn⟩ : ∃ n, tkN bs k 5 = n := ⟨_, rfl⟩
  have hn4 : n < 32 := by have := tkN_lt bs k 5; omega
  have HP : Hid (pBks bs k = rep (pB bs) n (k + 5)) := Lib.hid (by unfold pBks; rw [hn])
  rw [hn] at HT
  have hn4' : (n : Int) ≤ 32 := by omega
  have HK := Lib.hid hk
  clear h hn hk
  go_enter Tryz.func85, Tryz.ntmps85
  go_wp2_with fail
  refine HT.out.mono ?_
  rintro e w1 ⟨rfl, h1, h2⟩
  have H1 : Hid (Src w1 72 B s bs (rep (pB bs) 0 (k + 5)).2) := Lib.hid h1
  have H2 := Lib.hid h2
  clear h1 h2
  go_wp2_with fail
  go_loopw [3, 6] (fun v i wr => ∃ (j : Nat) (al : Option Addr) (cl : Nat), j ≤ n ∧ i = .int .u64 (j : Int) ∧ v = .slice al j cl ∧ Hid (Lb wr w.heap.size (.slice al j cl) (rep (pB bs) j (k + 5)).1) ∧ Hid (Src wr 72 B s bs (rep (pB bs) j (k + 5)).2) ∧ Hid (Chg [s] w wr)) (fun _ i _ => n - (intOf i).toNat)
  case atStart => exact ⟨0, none, 0, Nat.zero_le _, rfl, rfl, Lib.hid (Lb.nil _ _), H1, H2⟩
  case round =>
    obtain ⟨j, al, cl, hj, rfl, rfl, HL, HX, HC⟩ := hrel
    rename World => w6
    by_cases hlt : j < n
    · have hj0 : (0 : Int) ≤ (j : Int) := by omega
      have hj1 : (j : Int) < (n : Int) := by omega
      have HR : Hid (rep (pB bs) (j + 1) (k + 5) = ((rep (pB bs) j (k + 5)).1 ++ [(pB bs (rep (pB bs) j (k + 5)).2).1], (pB bs (rep (pB bs) j (k + 5)).2).2)) := Lib.hid rfl
      have HLn : Hid ((rep (pB bs) j (k + 5)).1.length = j) := Lib.hid (by rw [rep_length])
      have HQ := pB_at bs j (k + 5)
      generalize rep (pB bs) j (k + 5) = r at *
      obtain ⟨xs, q⟩ := r
      simp only at HR HL HX HLn HQ
      have HTK := Lib.hid (mbackF_any bs B s q w6 HX.out (by have := HK.out; omega))
      generalize pB bs q = y at *
      obtain ⟨⟨y1, y2, y3⟩, q'⟩ := y
      simp only at HR HTK
      clear HQ
      go_wp2_with fail
      refine HTK.out.mono ?_
      rintro e w7 ⟨rfl, h1, h2⟩
      have hrow := fun x (hx : x ∈ rowOf (.slice al j cl)) => (HL.out.row x hx).1
      have hns : s ∉ rowOf (.slice al j cl) := fun hx => by have := hrow s hx; have := HZ.out; omega
      have HRW := Lib.hid hrow
      have HNS := Lib.hid hns
      clear hrow hns
      obtain ⟨W7, hW7⟩ : ∃ W7, w7.alloc (.cells #[.int .i64 y1, .int .u64 (y2 : Int), .int .u64 (y3 : Int)] 70) = W7 := ⟨_, rfl⟩
      obtain ⟨g, hg⟩ : ∃ g, w7.heap.size = g := ⟨_, rfl⟩
      have HG : Hid (Own W7 g 70 (bcs [(y1, y2, y3)])) := Lib.hid (by rw [← hW7, ← hg]; exact Own.new w7 _ _)
      have H1 := Lib.hid (h1.new0 (w' := W7) (by rw [← hW7]; exact (Chg.refl [] w7).alloc _))
      have HC7 : Hid (Chg [s] w W7) := Lib.hid (by rw [← hW7]; exact (HC.out.trans h2).alloc _)
      have HL7 : Hid (Lb W7 w.heap.size (.slice al j cl) xs) := Lib.hid (by rw [← hW7]; exact (HL.out.chg h2 (HX.out.notT (by decide))).alloc _)
      have HWW := Lib.hid hW7
      have HGG := Lib.hid hg
      clear h1 h2 hW7 hg
      go_wp2_with (rw [HWW.out, HGG.out]; at_builtin; refine wpList_appBk rfl (.tmp 8) (.tmp 11) rfl w.heap.size (.slice al j cl) xs rfl HL7.out g (y1, y2, y3) 70 HG.out rfl (by have := HLn.out; omega) HC7.out.size ?_)
      intro v' w8 hl8 hc8
      have HX8 := Lib.hid (H1.out.chg hc8 HNS.out (fun x hx => by have := HRW.out x hx; have := H1.out.2.1; have := HZ.out; omega))
      have HC8 : Hid (Chg [s] w w8) := Lib.hid (HC7.out.then hc8 (fun x hx => .inr (HRW.out x hx)))
      have HLen : Hid ((xs ++ [(y1, y2, y3)]).length = j + 1) := Lib.hid (by rw [List.length_append, HLn.out]; rfl)
      clear hc8
      obtain ⟨a8, c8, hv8, _, _⟩ := hl8.out.form
      rw [HLen.out] at hv8
      subst hv8
      go_wp2_with fail
      go_roundw
      case rel => exact ⟨j + 1, a8, c8, by omega, by go_num, rfl, by rw [HR.out]; exact hl8, by rw [HR.out]; exact HX8, HC8⟩
      case measure => simp [intOf]; omega
    · obtain rfl : j = n := by omega
      go_wp2_with fail
      go_ret
      rw [HP.out]
      have e : (rep (pB bs) j (k + 5)).1.length = j := rep_length _ _ _
      rw [e]
      exact ⟨al, cl, rfl, HL.out, HX.out, HC.out⟩
end Go.Proofs.YtdpaofedepnnbaaGreat
namespace Go.Proofs.YtdpaofedepnnbaaGreat
open Go.RowKit Go.Deep
set_option linter.unusedVariables false
set_option linter.unusedSimpArgs false

/-- where a walk that reads stands: k bits read, the result still empty -/
def Hd (w : World) (B s : Nat) (bs : List UInt8) (k : Nat) (W : World) : Prop := Src W 72 B s bs k ∧ Chg [s] w W ∧ Own W w.heap.size 40 zmT.cs
theorem Hd.step {w : World} {B s : Nat} {bs : List UInt8} {k k' : Nat} {W W' : World} (h : Hd w B s bs k W) (hs : s < w.heap.size) (h1 : Src W' 72 B s bs k') (h2 : Chg [s] W W') : Hd w B s bs k' W' :=
  ⟨h1, h.2.1.trans h2, h.2.2.chg h2 (by simp; omega)⟩
/-- the message that has just the numbers that it always has -/
def hdT (bs : List UInt8) : MgT := ⟨(tkN bs 0 4 : Nat), pPl bs 8, pPl bs 16, (tkN bs 24 20 : Nat), (tkN bs 4 4 : Nat), tkN bs 44 21, tkN bs 65 21, (tkN bs 86 8 : Nat), noC, none, 0, none, 0, [], none, 0, [], none, 0, pBa bs 94, pBa bs 112, ⟨0, none, 0, [], 0⟩⟩
set_option maxHeartbeats 4000000 in
set_option maxRecDepth 100000 in
theorem mheadF_any (bs : List UInt8) (B s : Nat) (w : World) (h : Src w 72 B s bs 0) :
    Calls Tryz.prog 83 #[nv s] w fun e w' => e = .returned (.agg (hdT bs).cs.toArray) ∧ Src w' 72 B s bs 130 ∧ Chg [s] w w' := by
  have eg := egT
  have HZ := Lib.hid h.lt
  have HB := Lib.hid h.2.1
  obtain ⟨W, HWW⟩ : ∃ W, Hid (w.alloc (.cells #[.int .i64 0, .int .i64 0, .int .i64 0, .int .i64 0, .int .i64 0, .int .i64 0, .int .i64 0, .int .u64 0, .int .u64 0, .int .i64 0, .int .i64 0, .slice none 0 0, .slice none 0 0, .slice none 0 0, .slice none 0 0, .int .i64 0, .int .i64 0, .int .i64 0, .int .i64 0, .int .u64 0, .slice none 0 0, .int .i64 0] 40) = W) := ⟨_, Lib.hid rfl⟩
  have hWc : Chg [] w W := by rw [← HWW.out]; exact (Chg.refl [] w).alloc _
  have H0 : Hid (Hd w B s bs 0 W) := Lib.hid ⟨h.new0 hWc, hWc.nil1 [s], by rw [← HWW.out]; exact Own.new w _ zmT.cs⟩
  have T0 : Hid (∀ W, Hd w B s bs 0 W → Calls Tryz.prog 32 #[.pointer (some ⟨s, 0, none⟩), .int .i64 4] W fun e w' => e = .returned (.int .u64 (tkN bs 0 4 : Nat)) ∧ Src w' 72 B s bs 4 ∧ Chg [s] W w') := Lib.hid fun W hW => mtake_any bs B s 0 4 W hW.1 (by omega) (by omega)
  have T1 : Hid (∀ W, Hd w B s bs 4 W → Calls Tryz.prog 32 #[.pointer (some ⟨s, 0, none⟩), .int .i64 4] W fun e w' => e = .returned (.int .u64 (tkN bs 4 4 : Nat)) ∧ Src w' 72 B s bs 8 ∧ Chg [s] W w') := Lib.hid fun W hW => mtake_any bs B s 4 4 W hW.1 (by omega) (by omega)
  have T2 : Hid (∀ W, Hd w B s bs 8 W → Calls Tryz.prog 107 #[nv s] W fun e w' => e = .returned (.agg #[.int .i64 (tkN bs 8 3 : Nat), .int .i64 (tkN bs (8 + 3) 5 : Nat)]) ∧ Src w' 72 B s bs 16 ∧ Chg [s] W w') := Lib.hid fun W hW => mplaceF_any bs B s 8 W hW.1 (by omega)
  have T3 : Hid (∀ W, Hd w B s bs 16 W → Calls Tryz.prog 107 #[nv s] W fun e w' => e = .returned (.agg #[.int .i64 (tkN bs 16 3 : Nat), .int .i64 (tkN bs (16 + 3) 5 : Nat)]) ∧ Src w' 72 B s bs 24 ∧ Chg [s] W w') := Lib.hid fun W hW => mplaceF_any bs B s 16 W hW.1 (by omega)
  have T4 : Hid (∀ W, Hd w B s bs 24 W → Calls Tryz.prog 32 #[.pointer (some ⟨s, 0, none⟩), .int .i64 20] W fun e w' => e = .returned (.int .u64 (tkN bs 24 20 : Nat)) ∧ Src w' 72 B s bs 44 ∧ Chg [s] W w') := Lib.hid fun W hW => mtake_any bs B s 24 20 W hW.1 (by omega) (by omega)
  have T5 : Hid (∀ W, Hd w B s bs 44 W → Calls Tryz.prog 32 #[.pointer (some ⟨s, 0, none⟩), .int .i64 21] W fun e w' => e = .returned (.int .u64 (tkN bs 44 21 : Nat)) ∧ Src w' 72 B s bs 65 ∧ Chg [s] W w') := Lib.hid fun W hW => mtake_any bs B s 44 21 W hW.1 (by omega) (by omega)
  have T6 : Hid (∀ W, Hd w B s bs 65 W → Calls Tryz.prog 32 #[.pointer (some ⟨s, 0, none⟩), .int .i64 21] W fun e w' => e = .returned (.int .u64 (tkN bs 65 21 : Nat)) ∧ Src w' 72 B s bs 86 ∧ Chg [s] W w') := Lib.hid fun W hW => mtake_any bs B s 65 21 W hW.1 (by omega) (by omega)
  have T7 : Hid (∀ W, Hd w B s bs 86 W → Calls Tryz.prog 32 #[.pointer (some ⟨s, 0, none⟩), .int .i64 8] W fun e w' => e = .returned (.int .u64 (tkN bs 86 8 : Nat)) ∧ Src w' 72 B s bs 94 ∧ Chg [s] W w') := Lib.hid fun W hW => mtake_any bs B s 86 8 W hW.1 (by omega) (by omega)
  have T8 : Hid (∀ W, Hd w B s bs 94 W → Calls Tryz.prog 108 #[nv s] W fun e w' => e = .returned (.agg #[.int .i64 (tkN bs 94 16 : Nat), .int .i64 (tkN bs (94 + 16) 2 : Nat)]) ∧ Src w' 72 B s bs 112 ∧ Chg [s] W w') := Lib.hid fun W hW => mballotF_any bs B s 94 W hW.1 (by omega)
  have T9 : Hid (∀ W, Hd w B s bs 112 W → Calls Tryz.prog 108 #[nv s] W fun e w' => e = .returned (.agg #[.int .i64 (tkN bs 112 16 : Nat), .int .i64 (tkN bs (112 + 16) 2 : Nat)]) ∧ Src w' 72 B s bs 130 ∧ Chg [s] W w') := Lib.hid fun W hW => mballotF_any bs B s 112 W hW.1 (by omega)
  unfold hdT pPl pBa
  have v0 := tkN_lt bs 0 4
  generalize tkN bs 0 4 = a0 at *
  have e0 := i64_small a0 (by omega)
  clear v0
  have v1 := tkN_lt bs 4 4
  generalize tkN bs 4 4 = a1 at *
  have e1 := i64_small a1 (by omega)
  clear v1
  generalize tkN bs 8 3 = a2 at *
  generalize tkN bs (8 + 3) 5 = b2 at *
  generalize tkN bs 16 3 = a3 at *
  generalize tkN bs (16 + 3) 5 = b3 at *
  have v4 := tkN_lt bs 24 20
  generalize tkN bs 24 20 = a4 at *
  have e4 := i64_small a4 (by omega)
  clear v4
  have v5 := tkN_lt bs 44 21
  generalize tkN bs 44 21 = a5 at *
  clear v5
  have v6 := tkN_lt bs 65 21
  generalize tkN bs 65 21 = a6 at *
  clear v6
  have v7 := tkN_lt bs 86 8
  generalize tkN bs 86 8 = a7 at *
  have e7 := i64_small a7 (by omega)
  clear v7
  generalize tkN bs 94 16 = a8 at *
  generalize tkN bs (94 + 16) 2 = b8 at *
  generalize tkN bs 112 16 = a9 at *
  generalize tkN bs (112 + 16) 2 = b9 at *
  clear h hWc
  go_enter Tryz.func83, Tryz.ntmps83
  go_upto_region 1 with fail
  rw [HWW.out]
  go_wp2_with fail
  refine (T0.out W H0.out).mono ?_
  rintro e w1 ⟨rfl, h1, h2⟩
  have H1 := Lib.hid (H0.out.step HZ.out h1 h2)
  clear h1 h2
  go_wp2_with fail
  refine (T1.out w1 H1.out).mono ?_
  rintro e w2 ⟨rfl, h1, h2⟩
  have H2 := Lib.hid (H1.out.step HZ.out h1 h2)
  clear h1 h2
  go_wp2_with fail
  refine (T2.out w2 H2.out).mono ?_
  rintro e w3 ⟨rfl, h1, h2⟩
  have H3 := Lib.hid (H2.out.step HZ.out h1 h2)
  clear h1 h2
  go_wp2_with fail
  refine (T3.out w3 H3.out).mono ?_
  rintro e w4 ⟨rfl, h1, h2⟩
  have H4 := Lib.hid (H3.out.step HZ.out h1 h2)
  clear h1 h2
  go_wp2_with fail
  refine (T4.out w4 H4.out).mono ?_
  rintro e w5 ⟨rfl, h1, h2⟩
  have H5 := Lib.hid (H4.out.step HZ.out h1 h2)
  clear h1 h2
  go_wp2_with fail
  refine (T5.out w5 H5.out).mono ?_
  rintro e w6 ⟨rfl, h1, h2⟩
  have H6 := Lib.hid (H5.out.step HZ.out h1 h2)
  clear h1 h2
  go_wp2_with fail
  refine (T6.out w6 H6.out).mono ?_
  rintro e w7 ⟨rfl, h1, h2⟩
  have H7 := Lib.hid (H6.out.step HZ.out h1 h2)
  clear h1 h2
  go_wp2_with fail
  refine (T7.out w7 H7.out).mono ?_
  rintro e w8 ⟨rfl, h1, h2⟩
  have H8 := Lib.hid (H7.out.step HZ.out h1 h2)
  clear h1 h2
  go_wp2_with fail
  refine (T8.out w8 H8.out).mono ?_
  rintro e w9 ⟨rfl, h1, h2⟩
  have H9 := Lib.hid (H8.out.step HZ.out h1 h2)
  clear h1 h2
  go_wp2_with fail
  refine (T9.out w9 H9.out).mono ?_
  rintro e w10 ⟨rfl, h1, h2⟩
  have H10 := Lib.hid (H9.out.step HZ.out h1 h2)
  clear h1 h2
  have HO := Lib.hid H10.out.2.2
  go_wp2_with (refine wpList_storeMg rfl (.tmp 2) (.tmp 27) rfl w.heap.size rfl ⟨a0, (a2, b2), (a3, b3), a4, a1, a5, a6, a7, noC, none, 0, none, 0, [], none, 0, [], none, 0, (a8, b8), (a9, b9), ⟨0, none, 0, [], 0⟩⟩ rfl zmT.cs HO.out rfl ?_)
  intro w1 ho hc
  have HO3 := Lib.hid ho
  have HQ : Hid (Src w1 72 B s bs 130 ∧ Chg [s] w w1) := Lib.hid ⟨H10.out.1.chg hc (by have := HZ.out; simp; omega) (fun x hx => by simp only [List.mem_singleton] at hx; subst hx; have := HZ.out; have := HB.out; omega), H10.out.2.1.then hc (fun x hx => by simp only [List.mem_singleton] at hx; subst hx; exact .inr (Nat.le_refl _))⟩
  clear ho hc
  go_wp2_with fail
  refine bodyPost_ret (results_cell_row Tryz.results83 _ _ w.heap.size 40 _ (0, 0) _ rfl HO3.out Tryz.underlying40 rfl (by kernel_rfl)) rfl ?_
  exact ⟨rfl, HQ.out⟩
end Go.Proofs.YtdpaofedepnnbaaGreat
