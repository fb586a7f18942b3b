/-
  The statement RunsPlays, walked. No condition but the ranges of the arguments.
-/
import Derived.Test.YtoadbkiklabceaaRg
import Derived.Test.YtoadbkiklabceaaRf
import Derived.Test.YtoadbkiklabceaaPa
import Derived.Test.YtoadbkiklabceaaBlt
import Derived.Deep.CutBlock
import Derived.Deep.CutRange
namespace Go.Proofs.Ytoadbkiklabceaa
open Go.RowKit Go.Shelf Go.Deep
set_option linter.unusedVariables false
set_option linter.unusedSimpArgs false

/-- blocks of other element types are apart from a set's -/
theorem St.off {w : World} {p : Nat} {v : Value} {L : List Rn} (h : St w p v L) {b : Nat} {t : TypeId} {cs : List Value} (ho : Own w b t cs) (h1 : t ≠ 61) (h2 : t ≠ 28) : b ∉ p :: rowOf v := by
  intro hm
  have hb : w.heap[b]? = some (.cells cs.toArray t (0, 0)) := ho
  rcases List.mem_cons.1 hm with rfl | hm
  · have hp : w.heap[b]? = some (.cells [v].toArray 61 (0, 0)) := h.own
    rw [hb] at hp
    injection hp with hp
    injection hp with _ hp _
    exact h1 hp
  · have hv := mem_rowOf.1 hm
    rcases h.row.2 with ⟨hn, _⟩ | ⟨g, cap, cur, rfl, _, hgg, _⟩
    · subst hn; cases hv
    · have e2 : g = b := by simpa [Value.ownBlock] using hv
      subst e2
      rw [hb] at hgg
      injection hgg with hgg
      injection hgg with _ hgg _
      exact h2 hgg
theorem Lr.own_at {w : World} {B : Nat} {e : TypeId} {u : Value} {M : List Rn} (h : Lr w B e u M) {b : Nat} (hb : u.ownBlock = some b) : ∃ cs, Own w b e cs := by
  rcases h.2 with ⟨hn, _⟩ | ⟨g, cap, cur, rfl, _, hgg, _⟩
  · subst hn; cases hb
  · have e2 : g = b := by simpa [Value.ownBlock] using hb
    subst e2
    exact ⟨cur.toList, by unfold Own; simpa using hgg⟩
/-- where a round of a script stands: the set, the document's list -/
structure Pk (w0 W : World) (B p : Nat) (v u : Value) (L : List Rn) (k : Nat) : Prop where
  new : New W B p v L
  ref : Lr W B 31 u L
  low : Below B w0 W
  len : L.length ≤ k
theorem Pk.keep {w0 W W' : World} {B p : Nat} {v u : Value} {L : List Rn} {k : Nat} (h : Pk w0 W B p v u L k) (hb : Below W.heap.size W W') : Pk w0 W' B p v u L k :=
  ⟨h.new.keep hb, h.ref.below hb (Nat.le_refl _), h.low.trans (hb.mono h.new.ltB), h.len⟩
theorem ref_off {W : World} {B : Nat} {u : Value} {L : List Rn} {p2 : Nat} {v2 : Value} {L2 : List Rn} (h : Lr W B 31 u L) (hs : St W p2 v2 L2) : ∀ g, u.ownBlock = some g → g ∉ p2 :: rowOf v2 := fun g hg => by
  obtain ⟨cs, ho⟩ := h.own_at hg
  exact hs.off ho (by decide) (by decide)
theorem cutL_cnt {L : List Rn} (h : NF L) (r : Rn) (hL : ∀ x ∈ L, x.2 ≤ top64) (hr : Fit r) : cnt (cutL L r) ≤ cnt L := by
  unfold cutL
  by_cases hlt : r.1 < r.2
  · rw [if_pos hlt]
    have := cnt_drop h hlt hL (by have := hr.2; unfold top64; omega)
    omega
  · rw [if_neg hlt]; exact Nat.le_refl _
theorem putL_cnt {L : List Rn} (h : NF L) (r : Rn) (hL : ∀ x ∈ L, x.2 ≤ top64) (hr : Fit r) : cnt L ≤ cnt (putL L r) := by
  unfold putL
  by_cases hlt : r.1 < r.2
  · rw [if_pos hlt]
    have := cnt_add h hlt hL (by have := hr.2; unfold top64; omega)
    have := cnt_parts_le h (r := r) (by omega)
    omega
  · rw [if_neg hlt]; exact Nat.le_refl _
theorem cutL_fit {L : List Rn} {r : Rn} (h : NF L) (hL : ∀ x ∈ L, x.2 ≤ top64) (hr : Fit r) : ∀ x ∈ cutL L r, x.2 ≤ top64 := by
  unfold cutL
  by_cases hlt : r.1 < r.2
  · rw [if_pos hlt]; exact dropL_bound h hlt hL
  · rw [if_neg hlt]; exact hL
theorem putL_fit {L : List Rn} {r : Rn} (h : NF L) (hL : ∀ x ∈ L, x.2 ≤ top64) (hr : Fit r) : ∀ x ∈ putL L r, x.2 ≤ top64 := by
  unfold putL
  by_cases hlt : r.1 < r.2
  · rw [if_pos hlt]; exact addL_bound h hlt hL (by have := hr.2; unfold top64; omega)
  · rw [if_neg hlt]; exact hL
theorem merge_w {G : Prop} {S M : World → Prop} (h : (∀ W, S W → M W) → G) (hm : ∀ W, S W → M W) : G := h hm
theorem exit2' {n k : Nat} (h : ¬ (k < n ∧ k < 60)) : decide (k < n) = false ∨ (decide (k < n) = true ∧ decide ((k : Int) < 60) = false) := by
  by_cases h1 : k < n
  · exact .inr ⟨by simpa using h1, by simp; omega⟩
  · exact .inl (by simpa using h1)
set_option maxHeartbeats 4000000 in
set_option maxRecDepth 100000 in
theorem runsPlays_walk (w : World) (a : Option Addr) (n c z : Nat) (A : Nat → ActP) (ha : IsActsP w a n A) (hz : z < 18446744073709551616) :
    Calls Try.prog 3 #[.slice a n c, .int .u64 z] w fun e w' => e = .returned (.bool true) ∧ Below w.heap.size w w' := by
  have hn := ha.1
  have HA := Lib.hid ha.2
  clear ha
  obtain ⟨B, HB⟩ : ∃ B, Hid (w.heap.size = B) := ⟨_, Lib.hid rfl⟩
  go_enter Try.func3, Try.ntmps3
  go_wp2_with (first
    | (go_at_call 10; refine (New_any _).mono ?_; rintro e w1 ⟨rfl, rfl⟩)
    | fail)
  rw [HB.out]
  go_loopw [5, 6, 7] (fun s5 s6 i wr => ∃ (k p : Nat) (v : Value) (L : List Rn), i = .int .i64 k ∧ k ≤ n ∧ k ≤ 60 ∧ s5 = .pointer (some ⟨p, 0, none⟩) ∧ Pk w wr B p v s6 L k) (fun _ _ i _ => n - (intOf i).toNat)
  case atStart =>
    refine ⟨0, B, .slice none 0 0, [], rfl, Nat.zero_le _, by omega, rfl, ⟨?_, Lr.nil _ _ _, ?_, Nat.le_refl _⟩⟩
    · rw [← HB.out]; exact new_st w
    · rw [← HB.out]; exact (Below.refl _ w).alloc (Nat.le_refl _) _
  case round =>
    obtain ⟨k, p, v, L, rfl, hk, hk60, rfl, hp⟩ := hrel
    by_cases hlt : k < n ∧ k < 60
    · obtain ⟨g, off, rfl, hg, hcl⟩ := HA.out (by omega)
      obtain ⟨hxf, h1, h2, h3, h4⟩ := hcl k hlt.1
      have hgw : g < B := by rw [← HB.out]; exact hg
      have hb := hp.low
      have hx1 := (hb.cell (p := ⟨g, off + k * 4, none⟩) hgw).trans h1
      have hx2 := (hb.cell (p := ⟨g, off + k * 4 + 1, none⟩) hgw).trans h2
      have hx3 := (hb.cell (p := ⟨g, off + k * 4 + 2, none⟩) hgw).trans h3
      have hx4 := (hb.cell (p := ⟨g, off + k * 4 + 3, none⟩) hgw).trans h4
      have HPK := Lib.hid hp
      have hd1 : decide (k < n) = true := by simpa using hlt.1
      have hd2 : decide ((k : Int) < 60) = true := by simp; omega
      have hk0 : (0 : Int) ≤ (k : Int) := by omega
      have hk1 : (k : Int) < (n : Int) := by omega
      have hkb : (k : Int) ≤ 4000000 := by omega
      have hkn : k + 1 ≤ n := hlt.1
      have hkn6 : k + 1 ≤ 60 := hlt.2
      have HKM := Lib.hid (show n - (k + 1) < n - k by omega)
      have HXF := Lib.hid hxf
      clear hcl h1 h2 h3 h4 hb hp hlt hxf
      generalize A k = x at *
      obtain ⟨dr, cp, r⟩ := x
      dsimp only at hx1 hx2 hx3 hx4 HXF
      obtain ⟨a6, c6, rfl, hro6, -, -, -, -⟩ := HPK.out.ref.form
      obtain ⟨m, HM⟩ : ∃ m, Hid (L.length = m) := ⟨_, Lib.hid rfl⟩
      have hmk : m ≤ k := by have := HPK.out.len; rw [HM.out] at this; exact this
      rw [HM.out] at HPK ⊢
      clear hro6
      go_upto_region 10 with fail
      obtain ⟨A8, HA8⟩ : ∃ A8, Hid (wr.heap.size = A8) := ⟨_, Lib.hid rfl⟩
      obtain ⟨A9, HA9⟩ : ∃ A9, Hid (A8 + 1 = A9) := ⟨_, Lib.hid rfl⟩
      obtain ⟨W1, HW1⟩ : ∃ W1, Hid ((wr.alloc (.cells #[.bool dr, .bool cp, .int .u64 (r.1 : Int), .int .u64 (r.2 : Int)] 30)).alloc (.cells #[.int .u64 (r.1 : Int), .int .u64 (r.2 : Int)] 31) = W1) := ⟨_, Lib.hid rfl⟩
      have ho8 : Own W1 A8 30 [.bool dr, .bool cp, .int .u64 (r.1 : Int), .int .u64 (r.2 : Int)] := by rw [← HW1.out, ← HA8.out]; exact (Own.new wr _ _).alloc _
      have ho9 : Own W1 A9 31 [.int .u64 (r.1 : Int), .int .u64 (r.2 : Int)] := by
        have := Own.new (wr.alloc (.cells #[.bool dr, .bool cp, .int .u64 (r.1 : Int), .int .u64 (r.2 : Int)] 30)) 31 [.int .u64 (r.1 : Int), .int .u64 (r.2 : Int)]
        rw [World.size_alloc] at this
        rw [← HW1.out, ← HA9.out, ← HA8.out]; exact this
      have hp1 : Pk w W1 B p v (.slice a6 m c6) L k := by
        rw [← HW1.out]
        exact HPK.out.keep (((Below.refl _ wr).alloc (Nat.le_refl _) _).alloc (by simp) _)
      rw [HW1.out, HA8.out, HA9.out]
      have HP1 := Lib.hid (And.intro hp1 (And.intro ho8 ho9))
      obtain ⟨q, HQ⟩ : ∃ q, Hid (cnt L = q) := ⟨_, Lib.hid rfl⟩
      have HCN := Lib.hid (show ∀ W, Pk w W B p v (.slice a6 m c6) L k → Calls Try.prog 11 #[.slice a6 m c6] W fun e w' => e = .returned (.int .u64 (q : Int)) ∧ Below W.heap.size W w' from fun W hW => by
        obtain ⟨a7, c7, h7, hro, _⟩ := hW.ref.form
        rw [HM.out] at h7
        injection h7 with h7 _ h8
        subst h7 h8
        have := rCount_any W a6 L c6 W.heap.size hro (Nat.le_refl _) hW.new.st.nf hW.new.st.fit (by rw [HM.out]; omega)
        rwa [HM.out, HQ.out] at this)
      clear hx1 hx2 hx3 hx4 hp1 ho8 ho9 hgw
      go_upto_block 2 with (first
        | (go_at_call 11; refine (HCN.out W1 HP1.out.1).mono ?_; rintro e W2 ⟨rfl, hb2⟩)
        | fail)
      have HP2 := Lib.hid (And.intro (HP1.out.1.keep hb2) (And.intro (HP1.out.2.1.below hb2 HP1.out.2.1.lt) (HP1.out.2.2.below hb2 HP1.out.2.2.lt)))
      clear hb2
      go_cut [5, 6, 11] from 43 to 79 (fun s5 s6 _ wx => ∃ (p' : Nat) (v' : Value) (L' : List Rn), s5 = .pointer (some ⟨p', 0, none⟩) ∧ Pk w wx B p' v' s6 L' (k + 1) ∧ Own wx A8 30 [.bool dr, .bool cp, .int .u64 (r.1 : Int), .int .u64 (r.2 : Int)])
      case first =>
        obtain ⟨a7, c7, h7, hro, _⟩ := HP2.out.1.ref.form
        rw [HM.out] at h7
        injection h7 with h7 _ h8
        subst h7 h8
        have HRO := Lib.hid hro
        have c80 := HP2.out.2.1.cell 0
        have c81 := HP2.out.2.1.cell 1
        have c82 := HP2.out.2.1.cell 2
        have c83 := HP2.out.2.1.cell 3
        have c90 := HP2.out.2.2.cell 0
        have c91 := HP2.out.2.2.cell 1
        simp at c80 c81 c82 c83 c90 c91
        clear hro
        cases cp with
        | true =>
          have HCP := Lib.hid (Copy_some W2 p v L HP2.out.1.new.st)
          go_wp2_with (first
            | (go_at_call 12; refine HCP.out.mono ?_; rintro e W3 ⟨p', v', rfl, hn3, hb3⟩; have HN3 := Lib.hid hn3; have HP3 := Lib.hid (HP2.out.1.keep hb3); have HO3 := Lib.hid (HP2.out.2.1.below hb3 HP2.out.2.1.lt); have HS3 := Lib.hid hb3.size; have k2 := (hb3.cell (p := ⟨A8, 2, none⟩) HP2.out.2.1.lt).trans c82; have k3 := (hb3.cell (p := ⟨A8, 3, none⟩) HP2.out.2.1.lt).trans c83; have HDA := Lib.hid (drop_any W3 p v L HP3.out.new.st r HXF.out (by rw [HM.out]; omega)); clear hn3 hb3 c80 c81 c82 c83 c90 c91)
            | fail)
          refine HDA.out.mono ?_
          rintro e W4 hp4
          obtain ⟨v4, rfl, hs4, hch, _⟩ := hp4
          have hold := HP2.out.1.new.st.ltF
          have hpk4 : Pk w W4 B p' v' (.slice a6 m c6) L (k + 1) := by
            refine ⟨⟨HN3.out.st.chg hch ?_ ?_, Nat.le_trans HP2.out.1.new.ltB HN3.out.lowp, fun g h => Nat.le_trans HP2.out.1.new.ltB (HN3.out.lowg g h)⟩, HP3.out.ref.chg hch (ref_off HP3.out.ref HP3.out.new.st), below_chg HP3.out.low hch HP3.out.new.ltB HP3.out.new.blocks, by have := HP3.out.len; omega⟩
            · intro hm; have := hold _ hm; have := HN3.out.lowp; omega
            · intro g hg hm; have := hold _ hm; have := HN3.out.lowg g hg; omega
          have HP4 := Lib.hid (And.intro hpk4 (HO3.out.chg hch (HP3.out.new.st.off HO3.out (by decide) (by decide))))
          clear hs4 hch hold hpk4 k2 k3
          go_wp2_with fail
          go_meet
          exact ⟨p', v', L, rfl, HP4.out.1, HP4.out.2⟩
        | false =>
        cases dr with
        | true =>
          have HDR := Lib.hid (rDrop_any W2 a6 L c6 W2.heap.size HRO.out (Nat.le_refl _) HP2.out.1.new.st.nf (by rw [HM.out]; omega) r)
          rw [HM.out] at HDR
          obtain ⟨L2, HL2⟩ : ∃ L2, Hid (cutL L r = L2) := ⟨_, Lib.hid rfl⟩
          have hn2 : NF L2 := by rw [← HL2.out]; exact (cutL_ok HP2.out.1.new.st.nf r).1
          have hl2 : L2.length ≤ L.length + 1 := by rw [← HL2.out]; exact cutL_len HP2.out.1.new.st.nf r
          have hcl := cutL_cnt HP2.out.1.new.st.nf r HP2.out.1.new.st.fit HXF.out
          have hct := cnt_le HP2.out.1.new.st.nf HP2.out.1.new.st.fit
          have hsd := fun W hW => drop_any W p v L hW r HXF.out (by rw [HM.out]; omega)
          have hfit2 := cutL_fit HP2.out.1.new.st.nf HP2.out.1.new.st.fit HXF.out
          rw [HL2.out] at HDR hcl hsd hfit2
          rw [HM.out] at hl2
          have hct2 := cnt_le hn2 hfit2
          unfold top64 at hct hct2
          obtain ⟨d, HD⟩ : ∃ d, Hid (cnt L - cnt L2 = d) := ⟨_, Lib.hid rfl⟩
          obtain ⟨q2, HQ2⟩ : ∃ q2, Hid (cnt L2 = q2) := ⟨_, Lib.hid rfl⟩
          have hwd : IntKind.u64.wrap ((q : Int) - (q2 : Int)) = (d : Int) := by rw [IntKind.wrap_u64, ← HD.out, ← HQ.out, ← HQ2.out]; omega
          simp only [HD.out] at hsd
          have HSD := Lib.hid hsd
          clear hsd hcl hct hct2
          go_wp2_with (first
            | (go_at_call 14; refine HDR.out.mono ?_; rintro e W3 ⟨v6, rfl, hr3, hb3⟩; obtain ⟨a7, c7, rfl, hro7, -, -, -, -⟩ := hr3.form; obtain ⟨m7, HM7⟩ : ∃ m7, Hid (L2.length = m7) := ⟨_, Lib.hid rfl⟩; rw [HM7.out] at hr3 ⊢; have HR3 := Lib.hid hr3; have HP3 := Lib.hid (HP2.out.1.keep hb3); have HO3 := Lib.hid (HP2.out.2.1.below hb3 HP2.out.2.1.lt); have HS3 := Lib.hid hb3.size; have k0 := (hb3.cell (p := ⟨A8, 0, none⟩) HP2.out.2.1.lt).trans c80; have k1 := (hb3.cell (p := ⟨A8, 1, none⟩) HP2.out.2.1.lt).trans c81; have k2 := (hb3.cell (p := ⟨A8, 2, none⟩) HP2.out.2.1.lt).trans c82; have k3 := (hb3.cell (p := ⟨A8, 3, none⟩) HP2.out.2.1.lt).trans c83; clear hr3 hro7 hb3 c80 c81 c82 c83 c90 c91)
            | fail)
          refine (HSD.out W3 HP3.out.new.st).mono ?_
          rintro e W4 hp4
          have hp5 := hp4
          obtain ⟨v', rfl, hn4, hb4, hs4⟩ := HP3.out.new.post HP3.out.low hp4
          obtain ⟨_, _, _, hch, _⟩ := hp5
          have hr4 := HR3.out.chg hch (ref_off HR3.out HP3.out.new.st)
          have ho4 := HO3.out.chg hch (HP3.out.new.st.off HO3.out (by decide) (by decide))
          have hpk4 : Pk w W4 B p v' (.slice a7 m7 c7) L2 (k + 1) := ⟨hn4, hr4.base (Nat.le_trans HP2.out.1.new.ltB (Nat.le_refl _)), hb4, by omega⟩
          obtain ⟨a8, c8, h8, hro8, _⟩ := hr4.form
          rw [HM7.out] at h8
          injection h8 with h8 _ h9
          subst h8 h9
          have hcn := rCount_any W4 a7 L2 c7 W4.heap.size hro8 (Nat.le_refl _) hn2 hfit2 (by omega)
          rw [HM7.out, HQ2.out] at hcn
          have HCN2 := Lib.hid hcn
          have HP4 := Lib.hid (And.intro hpk4 ho4)
          clear hp4 hn4 hb4 hs4 hch hr4 ho4 hpk4 hro8 hcn k0 k1 k2 k3
          go_wp2_with (first
            | (go_at_call 11; refine HCN2.out.mono ?_; rintro e W5 ⟨rfl, hb5⟩)
            | fail)
          go_meet
          exact ⟨p, v', L2, rfl, HP4.out.1.keep hb5, HP4.out.2.below hb5 HP4.out.2.lt⟩
        | false =>
          have HDR := Lib.hid (rAdd_any W2 a6 L c6 W2.heap.size HRO.out (Nat.le_refl _) HP2.out.1.new.st.nf (by rw [HM.out]; omega) r)
          rw [HM.out] at HDR
          obtain ⟨L2, HL2⟩ : ∃ L2, Hid (putL L r = L2) := ⟨_, Lib.hid rfl⟩
          have hn2 : NF L2 := by rw [← HL2.out]; exact (putL_ok HP2.out.1.new.st.nf r).1
          have hl2 : L2.length ≤ L.length + 1 := by rw [← HL2.out]; exact putL_len HP2.out.1.new.st.nf r
          have hcl := putL_cnt HP2.out.1.new.st.nf r HP2.out.1.new.st.fit HXF.out
          have hct := cnt_le HP2.out.1.new.st.nf HP2.out.1.new.st.fit
          have hsd := fun W hW => add_any W p v L hW r HXF.out (by rw [HM.out]; omega)
          have hfit2 := putL_fit HP2.out.1.new.st.nf HP2.out.1.new.st.fit HXF.out
          rw [HL2.out] at HDR hcl hsd hfit2
          rw [HM.out] at hl2
          have hct2 := cnt_le hn2 hfit2
          unfold top64 at hct hct2
          obtain ⟨d, HD⟩ : ∃ d, Hid (cnt L2 - cnt L = d) := ⟨_, Lib.hid rfl⟩
          obtain ⟨q2, HQ2⟩ : ∃ q2, Hid (cnt L2 = q2) := ⟨_, Lib.hid rfl⟩
          have hwd : IntKind.u64.wrap ((q2 : Int) - (q : Int)) = (d : Int) := by rw [IntKind.wrap_u64, ← HD.out, ← HQ.out, ← HQ2.out]; omega
          simp only [HD.out] at hsd
          have HSD := Lib.hid hsd
          clear hsd hcl hct hct2
          go_wp2_with (first
            | (go_at_call 15; refine HDR.out.mono ?_; rintro e W3 ⟨v6, rfl, hr3, hb3⟩; obtain ⟨a7, c7, rfl, hro7, -, -, -, -⟩ := hr3.form; obtain ⟨m7, HM7⟩ : ∃ m7, Hid (L2.length = m7) := ⟨_, Lib.hid rfl⟩; rw [HM7.out] at hr3 ⊢; have HR3 := Lib.hid hr3; have HP3 := Lib.hid (HP2.out.1.keep hb3); have HO3 := Lib.hid (HP2.out.2.1.below hb3 HP2.out.2.1.lt); have HS3 := Lib.hid hb3.size; have k0 := (hb3.cell (p := ⟨A8, 0, none⟩) HP2.out.2.1.lt).trans c80; have k1 := (hb3.cell (p := ⟨A8, 1, none⟩) HP2.out.2.1.lt).trans c81; have k2 := (hb3.cell (p := ⟨A8, 2, none⟩) HP2.out.2.1.lt).trans c82; have k3 := (hb3.cell (p := ⟨A8, 3, none⟩) HP2.out.2.1.lt).trans c83; clear hr3 hro7 hb3 c80 c81 c82 c83 c90 c91)
            | fail)
          refine (HSD.out W3 HP3.out.new.st).mono ?_
          rintro e W4 hp4
          have hp5 := hp4
          obtain ⟨v', rfl, hn4, hb4, hs4⟩ := HP3.out.new.post HP3.out.low hp4
          obtain ⟨_, _, _, hch, _⟩ := hp5
          have hr4 := HR3.out.chg hch (ref_off HR3.out HP3.out.new.st)
          have ho4 := HO3.out.chg hch (HP3.out.new.st.off HO3.out (by decide) (by decide))
          have hpk4 : Pk w W4 B p v' (.slice a7 m7 c7) L2 (k + 1) := ⟨hn4, hr4.base (Nat.le_trans HP2.out.1.new.ltB (Nat.le_refl _)), hb4, by omega⟩
          obtain ⟨a8, c8, h8, hro8, _⟩ := hr4.form
          rw [HM7.out] at h8
          injection h8 with h8 _ h9
          subst h8 h9
          have hcn := rCount_any W4 a7 L2 c7 W4.heap.size hro8 (Nat.le_refl _) hn2 hfit2 (by omega)
          rw [HM7.out, HQ2.out] at hcn
          have HCN2 := Lib.hid hcn
          have HP4 := Lib.hid (And.intro hpk4 ho4)
          clear hp4 hn4 hb4 hs4 hch hr4 ho4 hpk4 hro8 hcn k0 k1 k2 k3
          go_wp2_with (first
            | (go_at_call 11; refine HCN2.out.mono ?_; rintro e W5 ⟨rfl, hb5⟩)
            | fail)
          go_meet
          exact ⟨p, v', L2, rfl, HP4.out.1.keep hb5, HP4.out.2.below hb5 HP4.out.2.lt⟩
      case rest =>
        obtain ⟨p2, v2, L2, rfl, hpc, ho8⟩ := hcut
        obtain ⟨a7, c7, rfl, hro7, -, -, -, -⟩ := hpc.ref.form
        obtain ⟨m7, HM7⟩ : ∃ m7, Hid (L2.length = m7) := ⟨_, Lib.hid rfl⟩
        have hl7 := hpc.len
        have hll : L2.length ≤ 1000000 := by omega
        have HLL := Lib.hid hll
        have HRC := Lib.hid (show ∀ W, Below wc.heap.size wc W → Ro W wc.heap.size a7 (rcs L2) from fun W hW => hro7.below hW (Nat.le_refl _))
        rw [HM7.out] at hpc hl7 ⊢
        have HPC := Lib.hid (And.intro hpc ho8)
        clear hpc ho8 hro7 hll HP2 HCN
        have HNx := Lib.hid (show ∀ W, Below wc.heap.size wc W → Calls Try.prog 17 #[.pointer (some ⟨p2, 0, none⟩), .int .u64 z] W fun e w' => e = .returned (.tuple #[.int .u64 ((frm L2 z).1.1 : Int), .bool (frm L2 z).2]) ∧ Below W.heap.size W w' from fun W hW => by
          have hs := HPC.out.1.new.st.kept (low_chg hW)
          have hro := HRC.out W hW
          have := Next_any (some ⟨p2, 0, none⟩) L2 z W _ hs.setV hs.ltF hz
          first | (rw [HM7.out] at this; exact this) | exact this)
        have HRNx := Lib.hid (show ∀ W, Below wc.heap.size wc W → Calls Try.prog 18 #[.slice a7 m7 c7, .int .u64 z] W fun e w' => e = .returned (.tuple #[.int .u64 ((frm L2 z).1.1 : Int), .bool (frm L2 z).2]) ∧ Below W.heap.size W w' from fun W hW => by
          have hs := HPC.out.1.new.st.kept (low_chg hW)
          have hro := HRC.out W hW
          have := rNext_any W a7 L2 c7 wc.heap.size z hro hW.size hs.nf hs.fit HLL.out
          first | (rw [HM7.out] at this; exact this) | exact this)
        have HCt := Lib.hid (show ∀ W, Below wc.heap.size wc W → Calls Try.prog 22 #[.pointer (some ⟨p2, 0, none⟩)] W fun e w' => e = .returned (.int .u64 ((cnt L2 : Nat) : Int)) ∧ Below W.heap.size W w' from fun W hW => by
          have hs := HPC.out.1.new.st.kept (low_chg hW)
          have hro := HRC.out W hW
          have := Count_any (some ⟨p2, 0, none⟩) L2 W _ hs.setV hs.ltF hs.nf hs.fit
          first | (rw [HM7.out] at this; exact this) | exact this)
        have HRCt := Lib.hid (show ∀ W, Below wc.heap.size wc W → Calls Try.prog 11 #[.slice a7 m7 c7] W fun e w' => e = .returned (.int .u64 ((cnt L2 : Nat) : Int)) ∧ Below W.heap.size W w' from fun W hW => by
          have hs := HPC.out.1.new.st.kept (low_chg hW)
          have hro := HRC.out W hW
          have := rCount_any W a7 L2 c7 wc.heap.size hro hW.size hs.nf hs.fit HLL.out
          first | (rw [HM7.out] at this; exact this) | exact this)
        have HGp := Lib.hid (show ∀ W, Below wc.heap.size wc W → Calls Try.prog 23 #[.pointer (some ⟨p2, 0, none⟩), .int .u64 z] W fun e w' => e = .returned (.int .u64 ((gapL L2 z : Nat) : Int)) ∧ Below W.heap.size W w' from fun W hW => by
          have hs := HPC.out.1.new.st.kept (low_chg hW)
          have hro := HRC.out W hW
          have := Gap_any (some ⟨p2, 0, none⟩) L2 z W _ hs.setV hs.ltF hz
          first | (rw [HM7.out] at this; exact this) | exact this)
        have HRGp := Lib.hid (show ∀ W, Below wc.heap.size wc W → Calls Try.prog 24 #[.slice a7 m7 c7, .int .u64 z] W fun e w' => e = .returned (.int .u64 ((gapL L2 z : Nat) : Int)) ∧ Below W.heap.size W w' from fun W hW => by
          have hs := HPC.out.1.new.st.kept (low_chg hW)
          have hro := HRC.out W hW
          have := rGap_any W a7 L2 c7 wc.heap.size z hro hW.size hs.nf hs.fit HLL.out
          first | (rw [HM7.out] at this; exact this) | exact this)
        have HHs := Lib.hid (show ∀ W, Below wc.heap.size wc W → Calls Try.prog 25 #[.pointer (some ⟨p2, 0, none⟩), .int .u64 z] W fun e w' => e = .returned (.bool (mem L2 z)) ∧ Below W.heap.size W w' from fun W hW => by
          have hs := HPC.out.1.new.st.kept (low_chg hW)
          have hro := HRC.out W hW
          have := Has_any (some ⟨p2, 0, none⟩) L2 z W _ hs.setV hs.ltF hz hs.nf hs.fit
          first | (rw [HM7.out] at this; exact this) | exact this)
        have HRHs := Lib.hid (show ∀ W, Below wc.heap.size wc W → Calls Try.prog 26 #[.slice a7 m7 c7, .int .u64 z] W fun e w' => e = .returned (.bool (mem L2 z)) ∧ Below W.heap.size W w' from fun W hW => by
          have hs := HPC.out.1.new.st.kept (low_chg hW)
          have hro := HRC.out W hW
          have := rHas_any W a7 L2 c7 wc.heap.size z hro hW.size HLL.out
          first | (rw [HM7.out] at this; exact this) | exact this)
        have HHr := Lib.hid (show ∀ W, Below wc.heap.size wc W → Calls Try.prog 25 #[.pointer (some ⟨p2, 0, none⟩), .int .u64 (r.1 : Int)] W fun e w' => e = .returned (.bool (mem L2 r.1)) ∧ Below W.heap.size W w' from fun W hW => by
          have hs := HPC.out.1.new.st.kept (low_chg hW)
          have hro := HRC.out W hW
          have := Has_any (some ⟨p2, 0, none⟩) L2 r.1 W _ hs.setV hs.ltF HXF.out.1 hs.nf hs.fit
          first | (rw [HM7.out] at this; exact this) | exact this)
        have HRHr := Lib.hid (show ∀ W, Below wc.heap.size wc W → Calls Try.prog 26 #[.slice a7 m7 c7, .int .u64 (r.1 : Int)] W fun e w' => e = .returned (.bool (mem L2 r.1)) ∧ Below W.heap.size W w' from fun W hW => by
          have hs := HPC.out.1.new.st.kept (low_chg hW)
          have hro := HRC.out W hW
          have := rHas_any W a7 L2 c7 wc.heap.size r.1 hro hW.size HLL.out
          first | (rw [HM7.out] at this; exact this) | exact this)
        have HRuns := Lib.hid (show ∀ W, Below wc.heap.size wc W → Calls Try.prog 21 #[.pointer (some ⟨p2, 0, none⟩)] W fun e w' => ∃ v, e = .returned v ∧ Lr w' W.heap.size 28 v L2 ∧ Below W.heap.size W w' from fun W hW =>
          Runs_some W p2 v2 L2 (HPC.out.1.new.st.kept (low_chg hW)))
        generalize frm L2 z = f at *
        generalize cnt L2 = q5 at *
        generalize gapL L2 z = gp at *
        generalize mem L2 z = bz at *
        generalize mem L2 r.1 = br at *
        obtain ⟨⟨f1, f3⟩, f2⟩ := f
        dsimp only at HNx HRNx
        have hr0 := HPC.out.2.cell 2
        have hrl := HPC.out.2.lt
        simp at hr0
        go_wp2_with (first
          | (go_at_call 17; refine (HNx.out wc (Below.refl _ _)).mono ?_; rintro e w3 ⟨rfl, hb3⟩; have HB3 := Lib.hid hb3; clear hb3)
          | (go_at_call 18; refine (HRNx.out w3 HB3.out).mono ?_; rintro e w4 ⟨rfl, hb4⟩; have HB4 := Lib.hid (HB3.out.trans (hb4.mono HB3.out.size)); clear hb4)
          | (go_at_call 21; refine (HRuns.out w4 HB4.out).mono ?_; rintro e w5 ⟨v5, rfl, hr5, hb5⟩; obtain ⟨a5, c5, rfl, hro5, -, -, -, -⟩ := hr5.form; have hto := told_any w5 a5 L2 c5 _ hro5 (Nat.le_refl _) (by have := HLL.out; omega); rw [HM7.out] at hto; rw [HM7.out]; have HTO := Lib.hid hto; have HB5 := Lib.hid (HB4.out.trans (hb5.mono HB4.out.size)); clear hb5 hr5 hro5 hto)
          | (go_at_call 20; refine HTO.out.mono ?_; rintro e w6 ⟨v6, rfl, hr6, hb6⟩; obtain ⟨a6', c6', rfl, hro6, -, -, -, -⟩ := hr6.form; have HB6 := Lib.hid (HB5.out.trans (hb6.mono HB5.out.size)); have hsa := Same_any w6 a6' a7 L2 L2 c6' c7 hro6 ((HRC.out w6 HB6.out).mono HB6.out.size) (by have := HLL.out; omega) (by have := HLL.out; omega); rw [HM7.out, show decide (L2 = L2) = true by simp] at hsa; rw [HM7.out]; have HSA := Lib.hid hsa; clear hb6 hr6 hro6 hsa HTO)
          | (go_at_call 19; refine HSA.out.mono ?_; rintro e w7 ⟨rfl, hb7⟩; have HB7 := Lib.hid (HB6.out.trans (hb7.mono HB6.out.size)); clear hb7 HSA)
          | fail)
        have hst : w7.drew.cell? ⟨A8, 2, none⟩ = some (.int .u64 (r.1 : Int)) ∧ Below wc.heap.size wc w7.drew := ⟨(HB7.out.cell (p := ⟨A8, 2, none⟩) hrl).trans hr0, HB7.out.drew⟩
        clear hr0
        refine wp_region_held_drew (S := fun w' => w'.cell? ⟨A8, 2, none⟩ = some (.int .u64 (r.1 : Int)) ∧ Below wc.heap.size wc w') (by kernel_rfl) hst (fun hHeld => ?_)
        refine wpAnyH_take (i := 0) (v := ?_) rfl (by kernel_rfl) (by kernel_rfl) (by kernel_rfl) (fun _ _ _ h => h) (Or.inl ⟨by kernel_rfl, ?_⟩) hHeld ?_
        rotate_left
        · (intro w hSw; first | (go_simp; done) | (go_simp; with_reducible rfl))
        (try simp only [Act.put, List.getElem_toArray, List.getElem_cons_succ, List.getElem_cons_zero, List.setIfInBounds_toArray, List.set_cons_zero, List.set_cons_succ])
        refine wpAnyH_take (i := 1) (v := ?_) rfl (by kernel_rfl) (by kernel_rfl) (by kernel_rfl) (fun _ _ _ h => h) (Or.inl ⟨by kernel_rfl, ?_⟩) hHeld ?_
        rotate_left
        · (intro w hSw; first | (go_simp; done) | (go_simp; with_reducible rfl))
        (try simp only [Act.put, List.getElem_toArray, List.getElem_cons_succ, List.getElem_cons_zero, List.setIfInBounds_toArray, List.set_cons_zero, List.set_cons_succ])
        refine wpAnyH_take (i := 2) (v := ?_) rfl (by kernel_rfl) (by kernel_rfl) (by kernel_rfl) (fun _ _ _ h => h) (Or.inl ⟨by kernel_rfl, ?_⟩) hHeld ?_
        rotate_left
        · (intro w hSw; first | (go_simp; done) | (go_simp; with_reducible rfl))
        (try simp only [Act.put, List.getElem_toArray, List.getElem_cons_succ, List.getElem_cons_zero, List.setIfInBounds_toArray, List.set_cons_zero, List.set_cons_succ])
        refine wpAnyH_take (i := 3) (v := ?_) rfl (by kernel_rfl) (by kernel_rfl) (by kernel_rfl) (fun _ _ _ h => h) (Or.inl ⟨by kernel_rfl, ?_⟩) hHeld ?_
        rotate_left
        · (intro w hSw; first | (go_simp; done) | (go_simp; with_reducible rfl))
        (try simp only [Act.put, List.getElem_toArray, List.getElem_cons_succ, List.getElem_cons_zero, List.setIfInBounds_toArray, List.set_cons_zero, List.set_cons_succ])
        refine wpAnyH_take (i := 5) (v := ?_) rfl (by kernel_rfl) (by kernel_rfl) (by kernel_rfl) (fun _ _ _ h => h) (Or.inl ⟨by kernel_rfl, ?_⟩) hHeld ?_
        rotate_left
        · (intro w hSw; first | (go_simp; done) | (go_simp; with_reducible rfl))
        (try simp only [Act.put, List.getElem_toArray, List.getElem_cons_succ, List.getElem_cons_zero, List.setIfInBounds_toArray, List.set_cons_zero, List.set_cons_succ])
        refine wpAnyH_ready (rs := [4]) (by kernel_rfl) (by simp) (AllReadyH.cons rfl (fun K hK => ?_) AllReadyH.nil)
        have hH := hHeld
        go_simp
        go_at_call 22
        with_reducible refine (HCt.out _ hH.2).mono ?_
        rintro e wq1 ⟨rfl, hb9⟩
        refine hK.out _ _ (by exact ⟨(hb9.cell (World.block_lt_of_cell? _ _ hH.1)).trans hH.1, hH.2.trans (hb9.mono hH.2.size)⟩) (fun hq1 => ?_)
        clear hK K hH hb9
        (try simp only [Act.put, List.getElem_toArray, List.getElem_cons_succ, List.getElem_cons_zero, List.setIfInBounds_toArray, List.set_cons_zero, List.set_cons_succ])
        refine wpAnyH_ready (rs := [6]) (by kernel_rfl) (by simp) (AllReadyH.cons rfl (fun K hK => ?_) AllReadyH.nil)
        have hH := hq1
        go_simp
        go_at_call 11
        with_reducible refine (HRCt.out _ hH.2).mono ?_
        rintro e wq2 ⟨rfl, hb9⟩
        refine hK.out _ _ (by exact ⟨(hb9.cell (World.block_lt_of_cell? _ _ hH.1)).trans hH.1, hH.2.trans (hb9.mono hH.2.size)⟩) (fun hq2 => ?_)
        clear hK K hH hb9
        (try simp only [Act.put, List.getElem_toArray, List.getElem_cons_succ, List.getElem_cons_zero, List.setIfInBounds_toArray, List.set_cons_zero, List.set_cons_succ])
        refine wpAnyH_take (i := 7) (v := ?_) rfl (by kernel_rfl) (by kernel_rfl) (by kernel_rfl) (fun _ _ _ h => h) (Or.inl ⟨by kernel_rfl, ?_⟩) hq2 ?_
        rotate_left
        · (intro w hSw; first | (go_simp; done) | (go_simp; with_reducible rfl))
        (try simp only [Act.put, List.getElem_toArray, List.getElem_cons_succ, List.getElem_cons_zero, List.setIfInBounds_toArray, List.set_cons_zero, List.set_cons_succ])
        refine wpAnyH_take (i := 8) (v := ?_) rfl (by kernel_rfl) (by kernel_rfl) (by kernel_rfl) (fun _ _ _ h => h) (Or.inl ⟨by kernel_rfl, ?_⟩) hq2 ?_
        rotate_left
        · (intro w hSw; first | (go_simp; done) | (go_simp; with_reducible rfl))
        (try simp only [Act.put, List.getElem_toArray, List.getElem_cons_succ, List.getElem_cons_zero, List.setIfInBounds_toArray, List.set_cons_zero, List.set_cons_succ])
        refine wpAnyH_take (i := 9) (v := ?_) rfl (by kernel_rfl) (by kernel_rfl) (by kernel_rfl) (fun _ _ _ h => h) (Or.inl ⟨by kernel_rfl, ?_⟩) hq2 ?_
        rotate_left
        · (intro w hSw; first | (go_simp; done) | (go_simp; with_reducible rfl))
        (try simp only [Act.put, List.getElem_toArray, List.getElem_cons_succ, List.getElem_cons_zero, List.setIfInBounds_toArray, List.set_cons_zero, List.set_cons_succ])
        refine wpAnyH_take (i := 10) (v := ?_) rfl (by kernel_rfl) (by kernel_rfl) (by kernel_rfl) (fun _ _ _ h => h) (Or.inl ⟨by kernel_rfl, ?_⟩) hq2 ?_
        rotate_left
        · (intro w hSw; first | (go_simp; done) | (go_simp; with_reducible rfl))
        (try simp only [Act.put, List.getElem_toArray, List.getElem_cons_succ, List.getElem_cons_zero, List.setIfInBounds_toArray, List.set_cons_zero, List.set_cons_succ])
        refine wpAnyH_take (i := 11) (v := ?_) rfl (by kernel_rfl) (by kernel_rfl) (by kernel_rfl) (fun _ _ _ h => h) (Or.inl ⟨by kernel_rfl, ?_⟩) hq2 ?_
        rotate_left
        · (intro w hSw; first | (go_simp; done) | (go_simp; with_reducible rfl))
        (try simp only [Act.put, List.getElem_toArray, List.getElem_cons_succ, List.getElem_cons_zero, List.setIfInBounds_toArray, List.set_cons_zero, List.set_cons_succ])
        refine wpAnyH_take (i := 12) (v := ?_) rfl (by kernel_rfl) (by kernel_rfl) (by kernel_rfl) (fun _ _ _ h => h) (Or.inl ⟨by kernel_rfl, ?_⟩) hq2 ?_
        rotate_left
        · (intro w hSw; first | (go_simp; done) | (go_simp; with_reducible rfl))
        (try simp only [Act.put, List.getElem_toArray, List.getElem_cons_succ, List.getElem_cons_zero, List.setIfInBounds_toArray, List.set_cons_zero, List.set_cons_succ])
        refine wpAnyH_take (i := 13) (v := ?_) rfl (by kernel_rfl) (by kernel_rfl) (by kernel_rfl) (fun _ _ _ h => h) (Or.inl ⟨by kernel_rfl, ?_⟩) hq2 ?_
        rotate_left
        · (intro w hSw; first | (go_simp; done) | (go_simp; with_reducible rfl))
        (try simp only [Act.put, List.getElem_toArray, List.getElem_cons_succ, List.getElem_cons_zero, List.setIfInBounds_toArray, List.set_cons_zero, List.set_cons_succ])
        refine wpAnyH_take (i := 14) (v := ?_) rfl (by kernel_rfl) (by kernel_rfl) (by kernel_rfl) (fun _ _ _ h => h) (Or.inl ⟨by kernel_rfl, ?_⟩) hq2 ?_
        rotate_left
        · (intro w hSw; first | (go_simp; done) | (go_simp; with_reducible rfl))
        (try simp only [Act.put, List.getElem_toArray, List.getElem_cons_succ, List.getElem_cons_zero, List.setIfInBounds_toArray, List.set_cons_zero, List.set_cons_succ])
        refine wpAnyH_take (i := 15) (v := ?_) rfl (by kernel_rfl) (by kernel_rfl) (by kernel_rfl) (fun _ _ _ h => h) (Or.inl ⟨by kernel_rfl, ?_⟩) hq2 ?_
        rotate_left
        · (intro w hSw; first | (go_simp; done) | (go_simp; with_reducible rfl))
        (try simp only [Act.put, List.getElem_toArray, List.getElem_cons_succ, List.getElem_cons_zero, List.setIfInBounds_toArray, List.set_cons_zero, List.set_cons_succ])
        refine wpAnyH_take (i := 16) (v := ?_) rfl (by kernel_rfl) (by kernel_rfl) (by kernel_rfl) (fun _ _ _ h => h) (Or.inl ⟨by kernel_rfl, ?_⟩) hq2 ?_
        rotate_left
        · (intro w hSw; first | (go_simp; done) | (go_simp; with_reducible rfl))
        (try simp only [Act.put, List.getElem_toArray, List.getElem_cons_succ, List.getElem_cons_zero, List.setIfInBounds_toArray, List.set_cons_zero, List.set_cons_succ])
        refine wpAnyH_take (i := 17) (v := ?_) rfl (by kernel_rfl) (by kernel_rfl) (by kernel_rfl) (fun _ _ _ h => h) (Or.inl ⟨by kernel_rfl, ?_⟩) hq2 ?_
        rotate_left
        · (intro w hSw; first | (go_simp; done) | (go_simp; with_reducible rfl))
        (try simp only [Act.put, List.getElem_toArray, List.getElem_cons_succ, List.getElem_cons_zero, List.setIfInBounds_toArray, List.set_cons_zero, List.set_cons_succ])
        refine wpAnyH_take (i := 18) (v := ?_) rfl (by kernel_rfl) (by kernel_rfl) (by kernel_rfl) (fun _ _ _ h => h) (Or.inl ⟨by kernel_rfl, ?_⟩) hq2 ?_
        rotate_left
        · (intro w hSw; first | (go_simp; done) | (go_simp; with_reducible rfl))
        (try simp only [Act.put, List.getElem_toArray, List.getElem_cons_succ, List.getElem_cons_zero, List.setIfInBounds_toArray, List.set_cons_zero, List.set_cons_succ])
        refine wpAnyH_take (i := 19) (v := ?_) rfl (by kernel_rfl) (by kernel_rfl) (by kernel_rfl) (fun _ _ _ h => h) (Or.inl ⟨by kernel_rfl, ?_⟩) hq2 ?_
        rotate_left
        · (intro w hSw; first | (go_simp; done) | (go_simp; with_reducible rfl))
        (try simp only [Act.put, List.getElem_toArray, List.getElem_cons_succ, List.getElem_cons_zero, List.setIfInBounds_toArray, List.set_cons_zero, List.set_cons_succ])
        refine wpAnyH_take (i := 20) (v := ?_) rfl (by kernel_rfl) (by kernel_rfl) (by kernel_rfl) (fun _ _ _ h => h) (Or.inl ⟨by kernel_rfl, ?_⟩) hq2 ?_
        rotate_left
        · (intro w hSw; first | (go_simp; done) | (go_simp; with_reducible rfl))
        (try simp only [Act.put, List.getElem_toArray, List.getElem_cons_succ, List.getElem_cons_zero, List.setIfInBounds_toArray, List.set_cons_zero, List.set_cons_succ])
        refine wpAnyH_take (i := 21) (v := ?_) rfl (by kernel_rfl) (by kernel_rfl) (by kernel_rfl) (fun _ _ _ h => h) (Or.inl ⟨by kernel_rfl, ?_⟩) hq2 ?_
        rotate_left
        · (intro w hSw; first | (go_simp; done) | (go_simp; with_reducible rfl))
        (try simp only [Act.put, List.getElem_toArray, List.getElem_cons_succ, List.getElem_cons_zero, List.setIfInBounds_toArray, List.set_cons_zero, List.set_cons_succ])
        refine wpAnyH_take (i := 23) (v := ?_) rfl (by kernel_rfl) (by kernel_rfl) (by kernel_rfl) (fun _ _ _ h => h) (Or.inl ⟨by kernel_rfl, ?_⟩) hq2 ?_
        rotate_left
        · (intro w hSw; first | (go_simp; done) | (go_simp; with_reducible rfl))
        (try simp only [Act.put, List.getElem_toArray, List.getElem_cons_succ, List.getElem_cons_zero, List.setIfInBounds_toArray, List.set_cons_zero, List.set_cons_succ])
        refine wpAnyH_take (i := 24) (v := ?_) rfl (by kernel_rfl) (by kernel_rfl) (by kernel_rfl) (fun _ _ _ h => h) (Or.inl ⟨by kernel_rfl, ?_⟩) hq2 ?_
        rotate_left
        · (intro w hSw; first | (go_simp; done) | (go_simp; with_reducible rfl))
        (try simp only [Act.put, List.getElem_toArray, List.getElem_cons_succ, List.getElem_cons_zero, List.setIfInBounds_toArray, List.set_cons_zero, List.set_cons_succ])
        refine wpAnyH_ready (rs := [22]) (by kernel_rfl) (by simp) (AllReadyH.cons rfl (fun K hK => ?_) AllReadyH.nil)
        have hH := hq2
        go_simp
        go_at_call 23
        with_reducible refine (HGp.out _ hH.2).mono ?_
        rintro e wq3 ⟨rfl, hb9⟩
        refine hK.out _ _ (by exact ⟨(hb9.cell (World.block_lt_of_cell? _ _ hH.1)).trans hH.1, hH.2.trans (hb9.mono hH.2.size)⟩) (fun hq3 => ?_)
        clear hK K hH hb9
        (try simp only [Act.put, List.getElem_toArray, List.getElem_cons_succ, List.getElem_cons_zero, List.setIfInBounds_toArray, List.set_cons_zero, List.set_cons_succ])
        refine wpAnyH_ready (rs := [25]) (by kernel_rfl) (by simp) (AllReadyH.cons rfl (fun K hK => ?_) AllReadyH.nil)
        have hH := hq3
        go_simp
        go_at_call 24
        with_reducible refine (HRGp.out _ hH.2).mono ?_
        rintro e wq4 ⟨rfl, hb9⟩
        refine hK.out _ _ (by exact ⟨(hb9.cell (World.block_lt_of_cell? _ _ hH.1)).trans hH.1, hH.2.trans (hb9.mono hH.2.size)⟩) (fun hq4 => ?_)
        clear hK K hH hb9
        (try simp only [Act.put, List.getElem_toArray, List.getElem_cons_succ, List.getElem_cons_zero, List.setIfInBounds_toArray, List.set_cons_zero, List.set_cons_succ])
        refine wpAnyH_take (i := 26) (v := ?_) rfl (by kernel_rfl) (by kernel_rfl) (by kernel_rfl) (fun _ _ _ h => h) (Or.inl ⟨by kernel_rfl, ?_⟩) hq4 ?_
        rotate_left
        · (intro w hSw; first | (go_simp; done) | (go_simp; with_reducible rfl))
        (try simp only [Act.put, List.getElem_toArray, List.getElem_cons_succ, List.getElem_cons_zero, List.setIfInBounds_toArray, List.set_cons_zero, List.set_cons_succ])
        refine wpAnyH_take (i := 27) (v := ?_) rfl (by kernel_rfl) (by kernel_rfl) (by kernel_rfl) (fun _ _ _ h => h) (Or.inl ⟨by kernel_rfl, ?_⟩) hq4 ?_
        rotate_left
        · (intro w hSw; first | (go_simp; done) | (go_simp; with_reducible rfl))
        (try simp only [Act.put, List.getElem_toArray, List.getElem_cons_succ, List.getElem_cons_zero, List.setIfInBounds_toArray, List.set_cons_zero, List.set_cons_succ])
        refine wpAnyH_take (i := 28) (v := ?_) rfl (by kernel_rfl) (by kernel_rfl) (by kernel_rfl) (fun _ _ _ h => h) (Or.inl ⟨by kernel_rfl, ?_⟩) hq4 ?_
        rotate_left
        · (intro w hSw; first | (go_simp; done) | (go_simp; with_reducible rfl))
        (try simp only [Act.put, List.getElem_toArray, List.getElem_cons_succ, List.getElem_cons_zero, List.setIfInBounds_toArray, List.set_cons_zero, List.set_cons_succ])
        refine wpAnyH_take (i := 29) (v := ?_) rfl (by kernel_rfl) (by kernel_rfl) (by kernel_rfl) (fun _ _ _ h => h) (Or.inl ⟨by kernel_rfl, ?_⟩) hq4 ?_
        rotate_left
        · (intro w hSw; first | (go_simp; done) | (go_simp; with_reducible rfl))
        (try simp only [Act.put, List.getElem_toArray, List.getElem_cons_succ, List.getElem_cons_zero, List.setIfInBounds_toArray, List.set_cons_zero, List.set_cons_succ])
        refine wpAnyH_take (i := 30) (v := ?_) rfl (by kernel_rfl) (by kernel_rfl) (by kernel_rfl) (fun _ _ _ h => h) (Or.inl ⟨by kernel_rfl, ?_⟩) hq4 ?_
        rotate_left
        · (intro w hSw; first | (go_simp; done) | (go_simp; with_reducible rfl))
        (try simp only [Act.put, List.getElem_toArray, List.getElem_cons_succ, List.getElem_cons_zero, List.setIfInBounds_toArray, List.set_cons_zero, List.set_cons_succ])
        refine wpAnyH_take (i := 32) (v := ?_) rfl (by kernel_rfl) (by kernel_rfl) (by kernel_rfl) (fun _ _ _ h => h) (Or.inl ⟨by kernel_rfl, ?_⟩) hq4 ?_
        rotate_left
        · (intro w hSw; first | (go_simp; done) | (go_simp; with_reducible rfl))
        (try simp only [Act.put, List.getElem_toArray, List.getElem_cons_succ, List.getElem_cons_zero, List.setIfInBounds_toArray, List.set_cons_zero, List.set_cons_succ])
        refine wpAnyH_take (i := 33) (v := ?_) rfl (by kernel_rfl) (by kernel_rfl) (by kernel_rfl) (fun _ _ _ h => h) (Or.inl ⟨by kernel_rfl, ?_⟩) hq4 ?_
        rotate_left
        · (intro w hSw; first | (go_simp; done) | (go_simp; with_reducible rfl))
        (try simp only [Act.put, List.getElem_toArray, List.getElem_cons_succ, List.getElem_cons_zero, List.setIfInBounds_toArray, List.set_cons_zero, List.set_cons_succ])
        refine wpAnyH_ready (rs := [31]) (by kernel_rfl) (by simp) (AllReadyH.cons rfl (fun K hK => ?_) AllReadyH.nil)
        have hH := hq4
        go_simp
        go_at_call 25
        with_reducible refine (HHs.out _ hH.2).mono ?_
        rintro e wq5 ⟨rfl, hb9⟩
        refine hK.out _ _ (by exact ⟨(hb9.cell (World.block_lt_of_cell? _ _ hH.1)).trans hH.1, hH.2.trans (hb9.mono hH.2.size)⟩) (fun hq5 => ?_)
        clear hK K hH hb9
        (try simp only [Act.put, List.getElem_toArray, List.getElem_cons_succ, List.getElem_cons_zero, List.setIfInBounds_toArray, List.set_cons_zero, List.set_cons_succ])
        refine wpAnyH_ready (rs := [34]) (by kernel_rfl) (by simp) (AllReadyH.cons rfl (fun K hK => ?_) AllReadyH.nil)
        have hH := hq5
        go_simp
        go_at_call 26
        with_reducible refine (HRHs.out _ hH.2).mono ?_
        rintro e wq6 ⟨rfl, hb9⟩
        refine hK.out _ _ (by exact ⟨(hb9.cell (World.block_lt_of_cell? _ _ hH.1)).trans hH.1, hH.2.trans (hb9.mono hH.2.size)⟩) (fun hq6 => ?_)
        clear hK K hH hb9
        (try simp only [Act.put, List.getElem_toArray, List.getElem_cons_succ, List.getElem_cons_zero, List.setIfInBounds_toArray, List.set_cons_zero, List.set_cons_succ])
        refine wpAnyH_take (i := 35) (v := ?_) rfl (by kernel_rfl) (by kernel_rfl) (by kernel_rfl) (fun _ _ _ h => h) (Or.inl ⟨by kernel_rfl, ?_⟩) hq6 ?_
        rotate_left
        · (intro w hSw; first | (go_simp; done) | (go_simp; with_reducible rfl))
        (try simp only [Act.put, List.getElem_toArray, List.getElem_cons_succ, List.getElem_cons_zero, List.setIfInBounds_toArray, List.set_cons_zero, List.set_cons_succ])
        refine wpAnyH_take (i := 36) (v := ?_) rfl (by kernel_rfl) (by kernel_rfl) (by kernel_rfl) (fun _ _ _ h => h) (Or.inl ⟨by kernel_rfl, ?_⟩) hq6 ?_
        rotate_left
        · (intro w hSw; first | (go_simp; done) | (go_simp; with_reducible rfl))
        (try simp only [Act.put, List.getElem_toArray, List.getElem_cons_succ, List.getElem_cons_zero, List.setIfInBounds_toArray, List.set_cons_zero, List.set_cons_succ])
        refine wpAnyH_take (i := 37) (v := ?_) rfl (by kernel_rfl) (by kernel_rfl) (by kernel_rfl) (fun _ _ _ h => h) (Or.inl ⟨by kernel_rfl, ?_⟩) hq6 ?_
        rotate_left
        · (intro w hSw; first | (go_simp; done) | (go_simp; with_reducible rfl))
        (try simp only [Act.put, List.getElem_toArray, List.getElem_cons_succ, List.getElem_cons_zero, List.setIfInBounds_toArray, List.set_cons_zero, List.set_cons_succ])
        refine wpAnyH_take (i := 38) (v := ?_) rfl (by kernel_rfl) (by kernel_rfl) (by kernel_rfl) (fun _ _ _ h => h) (Or.inl ⟨by kernel_rfl, ?_⟩) hq6 ?_
        rotate_left
        · (intro w hSw; first | (go_simp; done) | (go_simp; with_reducible rfl))
        (try simp only [Act.put, List.getElem_toArray, List.getElem_cons_succ, List.getElem_cons_zero, List.setIfInBounds_toArray, List.set_cons_zero, List.set_cons_succ])
        refine wpAnyH_take (i := 39) (v := ?_) rfl (by kernel_rfl) (by kernel_rfl) (by kernel_rfl) (fun _ _ _ h => h) (Or.inl ⟨by kernel_rfl, ?_⟩) hq6 ?_
        rotate_left
        · (intro w hSw; first | (go_simp; done) | (go_simp; with_reducible rfl))
        (try simp only [Act.put, List.getElem_toArray, List.getElem_cons_succ, List.getElem_cons_zero, List.setIfInBounds_toArray, List.set_cons_zero, List.set_cons_succ])
        refine wpAnyH_take (i := 40) (v := ?_) rfl (by kernel_rfl) (by kernel_rfl) (by kernel_rfl) (fun _ _ _ h => h) (Or.inl ⟨by kernel_rfl, ?_⟩) hq6 ?_
        rotate_left
        · (intro w hSw; first | (go_simp; done) | (go_simp; with_reducible rfl))
        (try simp only [Act.put, List.getElem_toArray, List.getElem_cons_succ, List.getElem_cons_zero, List.setIfInBounds_toArray, List.set_cons_zero, List.set_cons_succ])
        refine wpAnyH_take (i := 41) (v := ?_) rfl (by kernel_rfl) (by kernel_rfl) (by kernel_rfl) (fun _ _ _ h => h) (Or.inl ⟨by kernel_rfl, ?_⟩) hq6 ?_
        rotate_left
        · (intro w hSw; first | (go_simp; done) | (go_simp; with_reducible rfl))
        (try simp only [Act.put, List.getElem_toArray, List.getElem_cons_succ, List.getElem_cons_zero, List.setIfInBounds_toArray, List.set_cons_zero, List.set_cons_succ])
        refine wpAnyH_take (i := 43) (v := ?_) rfl (by kernel_rfl) (by kernel_rfl) (by kernel_rfl) (fun _ _ _ h => h) (Or.inl ⟨by kernel_rfl, ?_⟩) hq6 ?_
        rotate_left
        · (intro w hSw; first | (go_simp; done) | (go_simp; with_reducible rfl))
        (try simp only [Act.put, List.getElem_toArray, List.getElem_cons_succ, List.getElem_cons_zero, List.setIfInBounds_toArray, List.set_cons_zero, List.set_cons_succ])
        refine wpAnyH_take (i := 44) (v := ?_) rfl (by kernel_rfl) (by kernel_rfl) (by kernel_rfl) (fun _ _ _ h => h) (Or.inl ⟨by kernel_rfl, ?_⟩) hq6 ?_
        rotate_left
        · (intro w hSw; first | (go_simp; done) | (go_simp; with_reducible rfl))
        (try simp only [Act.put, List.getElem_toArray, List.getElem_cons_succ, List.getElem_cons_zero, List.setIfInBounds_toArray, List.set_cons_zero, List.set_cons_succ])
        refine wpAnyH_take (i := 45) (v := ?_) rfl (by kernel_rfl) (by kernel_rfl) (by kernel_rfl) (fun _ _ _ h => h) (Or.inl ⟨by kernel_rfl, ?_⟩) hq6 ?_
        rotate_left
        · (intro w hSw; first | (go_simp; done) | (go_simp; with_reducible rfl))
        (try simp only [Act.put, List.getElem_toArray, List.getElem_cons_succ, List.getElem_cons_zero, List.setIfInBounds_toArray, List.set_cons_zero, List.set_cons_succ])
        refine wpAnyH_take (i := 46) (v := ?_) rfl (by kernel_rfl) (by kernel_rfl) (by kernel_rfl) (fun _ _ _ h => h) (Or.inl ⟨by kernel_rfl, ?_⟩) hq6 ?_
        rotate_left
        · (intro w hSw; first | (go_simp; done) | (go_simp; with_reducible rfl))
        (try simp only [Act.put, List.getElem_toArray, List.getElem_cons_succ, List.getElem_cons_zero, List.setIfInBounds_toArray, List.set_cons_zero, List.set_cons_succ])
        refine wpAnyH_ready (rs := [42]) (by kernel_rfl) (by simp) (AllReadyH.cons rfl (fun K hK => ?_) AllReadyH.nil)
        have hH := hq6
        go_simp
        go_at_call 25
        with_reducible refine (HHr.out _ hH.2).mono ?_
        rintro e wq7 ⟨rfl, hb9⟩
        refine hK.out _ _ (by exact ⟨(hb9.cell (World.block_lt_of_cell? _ _ hH.1)).trans hH.1, hH.2.trans (hb9.mono hH.2.size)⟩) (fun hq7 => ?_)
        clear hK K hH hb9
        (try simp only [Act.put, List.getElem_toArray, List.getElem_cons_succ, List.getElem_cons_zero, List.setIfInBounds_toArray, List.set_cons_zero, List.set_cons_succ])
        refine wpAnyH_ready (rs := [47]) (by kernel_rfl) (by simp) (AllReadyH.cons rfl (fun K hK => ?_) AllReadyH.nil)
        have hH := hq7
        go_simp
        go_at_call 26
        with_reducible refine (HRHr.out _ hH.2).mono ?_
        rintro e wq8 ⟨rfl, hb9⟩
        refine hK.out _ _ (by exact ⟨(hb9.cell (World.block_lt_of_cell? _ _ hH.1)).trans hH.1, hH.2.trans (hb9.mono hH.2.size)⟩) (fun hq8 => ?_)
        clear hK K hH hb9
        (try simp only [Act.put, List.getElem_toArray, List.getElem_cons_succ, List.getElem_cons_zero, List.setIfInBounds_toArray, List.set_cons_zero, List.set_cons_succ])
        refine wpAnyH_take (i := 48) (v := ?_) rfl (by kernel_rfl) (by kernel_rfl) (by kernel_rfl) (fun _ _ _ h => h) (Or.inl ⟨by kernel_rfl, ?_⟩) hq8 ?_
        rotate_left
        · (intro w hSw; first | (go_simp; done) | (go_simp; with_reducible rfl))
        (try simp only [Act.put, List.getElem_toArray, List.getElem_cons_succ, List.getElem_cons_zero, List.setIfInBounds_toArray, List.set_cons_zero, List.set_cons_succ])
        refine wpAnyH_take (i := 49) (v := ?_) rfl (by kernel_rfl) (by kernel_rfl) (by kernel_rfl) (fun _ _ _ h => h) (Or.inl ⟨by kernel_rfl, ?_⟩) hq8 ?_
        rotate_left
        · (intro w hSw; first | (go_simp; done) | (go_simp; with_reducible rfl))
        (try simp only [Act.put, List.getElem_toArray, List.getElem_cons_succ, List.getElem_cons_zero, List.setIfInBounds_toArray, List.set_cons_zero, List.set_cons_succ])
        refine wpAnyH_done (by kernel_rfl) ?_ _
        have HF := Lib.hid hq8.2
        clear hq8 hst hHeld
        go_wp2_with fail
        go_roundw
        case rel => exact ⟨k + 1, p2, v2, L2, by go_num, hkn, hkn6, rfl, HPC.out.1.keep HF.out⟩
        case measure => have := HKM.out; simp [intOf]; omega
    · have hcase := exit2' hlt
      have HH := Lib.hid hp.low
      clear hp hlt
      rcases hcase with hq | ⟨hq, hq2⟩
      all_goals
        go_wp2_with (first
          | (go_at_call 27; refine (alive_any _).mono ?_; rintro e w11 ⟨rfl, hb11⟩)
          | fail)
        go_ret
        have hbs := HH.out.size
        exact ⟨rfl, by rw [HB.out]; exact HH.out.trans (hb11.mono (by have := HB.out; omega))⟩
theorem runsPlays_walkI (w : World) (a : Option Addr) (n c : Nat) (z : Int) (A : Nat → ActP) (ha : IsActsP w a n A) (hz : (Lit.int .u64 z).wf = true) :
    Calls Try.prog 3 #[.slice a n c, .int .u64 z] w fun e w' => e = .returned (.bool true) ∧ Below w.heap.size w w' := by
  have h := bounds_u64 hz
  obtain ⟨k, rfl⟩ := Int.eq_ofNat_of_zero_le h.1
  exact runsPlays_walk w a n c k A ha (by omega)
end Go.Proofs.Ytoadbkiklabceaa
