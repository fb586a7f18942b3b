/-
  The statement RunsNext, walked. No condition but the ranges of the argument.
-/
import Derived.Test.YtoadbkiklabceaaBlt
namespace Go.Proofs.Ytoadbkiklabceaa
open Go.RowKit Go.Shelf Go.Deep
set_option linter.unusedVariables false
set_option linter.unusedSimpArgs false

/-- where the walk from gap to next stands -/
def atL (L : List Rn) : Nat → Nat
  | 0 => 0
  | i + 1 => (el L i).2
theorem frm_at {L : List Rn} (hN : NF L) (hb : ∀ r ∈ L, r.2 ≤ top64) {i n : Nat} (h : i < L.length) (h1 : ∀ x ∈ L.take i, x.2 ≤ n) (h2 : n ≤ (el L i).1) : frm L n = (el L i, true) := by
  have hx := el_mem h
  have hne := hN.nonempty _ hx
  have ht := hb _ hx
  have hp : parts L (n, top64) = el L i :: parts (L.drop (i + 1)) (n, top64) := by
    rw [parts_pre (n, top64) i (L := L), parts_low (A := L.take i) h1, drop_el h, parts]
    have e : met (el L i) (n, top64) = el L i := by
      simp only [met]
      exact Prod.ext (by show max _ n = _; omega) (by show min _ top64 = _; omega)
    rw [e, if_pos hne]
    rfl
  exact frm_cons hp
theorem take_le_at {L : List Rn} (hN : NF L) {i : Nat} (h : i ≤ L.length) : ∀ x ∈ L.take i, x.2 ≤ atL L i := by
  induction i with
  | zero => simp
  | succ i ih =>
    intro x hx
    rw [take_snoc_el (by omega)] at hx
    rcases List.mem_append.1 hx with hx | hx
    · have h1 := hN
      rw [← List.take_append_drop i L, NF_append] at h1
      have h2 := h1.2.2 x hx (el L i) (by rw [drop_el (by omega)]; simp)
      have h3 := hN.nonempty _ (el_mem (L := L) (i := i) (by omega))
      simp only [atL]
      omega
    · obtain rfl : x = el L i := by simpa using hx
      exact Nat.le_refl _
theorem at_le {L : List Rn} (hN : NF L) {i : Nat} (h : i < L.length) : atL L i ≤ (el L i).1 := by
  cases i with
  | zero => exact Nat.zero_le _
  | succ i =>
    have h1 := hN
    rw [← List.take_append_drop (i + 1) L, NF_append] at h1
    have h2 := h1.2.2 (el L i) (by rw [take_snoc_el (by omega)]; simp) (el L (i + 1)) (by rw [drop_el h]; simp)
    simp only [atL]
    omega
theorem next_at {L : List Rn} (hN : NF L) (hb : ∀ r ∈ L, r.2 ≤ top64) {i : Nat} (h : i < L.length) : frm L (atL L i) = (el L i, true) :=
  frm_at hN hb h (take_le_at hN (by omega)) (at_le hN h)
theorem low_at {L : List Rn} (hN : NF L) {i : Nat} (h : i < L.length) : ∀ x ∈ L.take i, x.2 ≤ (el L i).1 := fun x hx => Nat.le_trans (take_le_at hN (by omega) x hx) (at_le hN h)
theorem gap_from {L : List Rn} (hN : NF L) (hb : ∀ r ∈ L, r.2 ≤ top64) {i : Nat} (h : i < L.length) : gapL L (el L i).1 = (el L i).2 := by
  unfold gapL
  rw [frm_at hN hb h (low_at hN h) (Nat.le_refl _)]
  simp
theorem gap_at {L : List Rn} (hN : NF L) (hb : ∀ r ∈ L, r.2 ≤ top64) {i : Nat} (h : i < L.length) : (atL L i = (el L i).1 ∧ gapL L (atL L i) = (el L i).2) ∨ (atL L i ≠ (el L i).1 ∧ gapL L (atL L i) = atL L i) := by
  by_cases e : atL L i = (el L i).1
  · exact .inl ⟨e, by rw [e]; exact gap_from hN hb h⟩
  · refine .inr ⟨e, ?_⟩
    unfold gapL
    rw [next_at hN hb h, if_neg (by simp; exact fun k => e k.symm)]
theorem end_at {L : List Rn} (hN : NF L) : frm L (atL L L.length) = ((0, 0), false) ∧ gapL L (atL L L.length) = atL L L.length := by
  have h := take_le_at hN (Nat.le_refl L.length)
  rw [List.take_length] at h
  have e : frm L (atL L L.length) = ((0, 0), false) := frm_nil (parts_low h)
  refine ⟨e, ?_⟩
  unfold gapL
  rw [e]
  simp
theorem at_top {L : List Rn} (hb : ∀ r ∈ L, r.2 ≤ top64) {i : Nat} (h : i ≤ L.length) : atL L i < 18446744073709551616 := by
  cases i with
  | zero => simp [atL]
  | succ i => have := hb _ (el_mem (L := L) (i := i) (by omega)); unfold top64 at this; simp only [atL]; omega
set_option maxHeartbeats 2000000 in
set_option maxRecDepth 100000 in
theorem runsNext_walk (w : World) (a : Option Addr) (M : List Rn) (c : Nat) (hro : Ro w w.heap.size a (rcs M)) (hf : ∀ r ∈ M, Fit r) (hl : M.length ≤ 9223372036854775807) :
    Calls Try.prog 7 #[.slice a M.length c] w fun e w' => e = .returned (.bool true) ∧ Below w.heap.size w w' := by
  have HB := Lib.hid (built_any w a M c w.heap.size hro (Nat.le_refl _) hf hl)
  clear hro hf
  obtain ⟨m, HM⟩ : ∃ m, Hid (M.length = m) := ⟨_, Lib.hid rfl⟩
  rw [HM.out] at HB hl ⊢
  obtain ⟨L, HL⟩ : ∃ L, Hid (builtL (M.take 60) = L) := ⟨_, Lib.hid rfl⟩
  rw [HL.out] at HB
  obtain ⟨p, HP⟩ : ∃ p, Hid (w.heap.size = p) := ⟨_, Lib.hid rfl⟩
  rw [HP.out] at HB
  go_enter Try.func7, Try.ntmps7
  go_wp2_with (first
    | (go_at_call 28; refine HB.out.mono ?_; rintro e w1 ⟨v, rfl, hn1, hb1⟩)
    | (go_at_call 21; refine (Runs_some w1 p v L hn1.st).mono ?_; rintro e w2 ⟨v2, rfl, hr2, hb2⟩; obtain ⟨a2, c2, rfl, hro2, hlc2, hc2, _, hbk2⟩ := hr2.form))
  have hst2 := hn1.st.kept (low_chg hb2)
  have hbw2 : Below p w w2 := hb1.trans (hb2.mono (by have := hb1.size; have := HP.out; omega))
  have HST := Lib.hid hst2
  have HBW := Lib.hid hbw2
  have HRO := Lib.hid hro2
  have HBK := Lib.hid hbk2
  obtain ⟨n, HN⟩ : ∃ n, Hid (L.length = n) := ⟨_, Lib.hid rfl⟩
  have hn := hst2.len
  rw [HN.out] at hlc2 hn
  clear hst2 hbw2 hro2 hbk2 hr2 hb2 hn1 hb1
  have HNx := Lib.hid (show ∀ W, Below w2.heap.size w2 W → ∀ t : Nat, t < 18446744073709551616 → Calls Try.prog 17 #[.pointer (some ⟨p, 0, none⟩), .int .u64 t] W fun e w' => e = .returned (.tuple #[.int .u64 ((frm L t).1.1 : Int), .bool (frm L t).2]) ∧ Below W.heap.size W w' from fun W hW t ht =>
    Next_any (some ⟨p, 0, none⟩) L t W _ (HST.out.kept (low_chg hW)).setV (HST.out.kept (low_chg hW)).ltF ht)
  have HGp := Lib.hid (show ∀ W, Below w2.heap.size w2 W → ∀ t : Nat, t < 18446744073709551616 → Calls Try.prog 23 #[.pointer (some ⟨p, 0, none⟩), .int .u64 t] W fun e w' => e = .returned (.int .u64 ((gapL L t : Nat) : Int)) ∧ Below W.heap.size W w' from fun W hW t ht =>
    Gap_any (some ⟨p, 0, none⟩) L t W _ (HST.out.kept (low_chg hW)).setV (HST.out.kept (low_chg hW)).ltF ht)
  have hp2 : p ≤ w2.heap.size := by have := HBW.out.size; have := HP.out; omega
  go_loopw [5, 6] (fun s5 s6 wr => ∃ k : Nat, s5 = .int .u64 ((atL L k : Nat) : Int) ∧ s6 = .int .i64 k ∧ k ≤ L.length ∧ Below w2.heap.size w2 wr) (fun _ s6 _ => L.length - (intOf s6).toNat)
  case atStart => exact ⟨0, rfl, rfl, Nat.zero_le _, Below.refl _ _⟩
  case round =>
    obtain ⟨k, rfl, rfl, hk, hbr⟩ := hrel
    by_cases hlt : k < L.length
    · obtain ⟨g, off, rfl, hg, hcl⟩ := HRO.out.rn (by omega)
      obtain ⟨rfl, _, _, _, _⟩ := HBK.out _ _ _ rfl
      obtain ⟨h1, h2⟩ := hcl k hlt
      rw [Nat.zero_add] at h1 h2
      have hx1 := (hbr.cell (p := ⟨g, k * 2, none⟩) hg).trans h1
      have hx2 := (hbr.cell (p := ⟨g, k * 2 + 1, none⟩) hg).trans h2
      have hgr : g < wr.heap.size := Nat.lt_of_lt_of_le hg hbr.size
      have hN := HST.out.nf
      have hb := HST.out.fit
      have hat := at_top hb (i := k) (by omega)
      have hxf := fit_el hb hN _ (el_mem hlt)
      have hxn := hN.nonempty _ (el_mem hlt)
      have hE1 := next_at hN hb hlt
      have hE2 := gap_from hN hb hlt
      have hE3 := gap_at hN hb hlt
      have HA := Lib.hid (show atL L (k + 1) = (el L k).2 from rfl)
      have HNX := HNx.out wr hbr (atL L k) hat
      rw [hE1] at HNX
      have hG1 : ∀ W, Below w2.heap.size w2 W → Calls Try.prog 23 #[.pointer (some ⟨p, 0, none⟩), .int .u64 (el L k).1] W fun e w' => e = .returned (.int .u64 ((el L k).2 : Int)) ∧ Below W.heap.size W w' := fun W hW => by
        have := HGp.out W hW (el L k).1 hxf.1
        rwa [hE2] at this
      have hG2 : ∀ W, Below w2.heap.size w2 W → Calls Try.prog 23 #[.pointer (some ⟨p, 0, none⟩), .int .u64 (atL L k)] W fun e w' => e = .returned (.int .u64 ((gapL L (atL L k) : Nat) : Int)) ∧ Below W.heap.size W w' := fun W hW => HGp.out W hW (atL L k) hat
      generalize gapL L (atL L k) = gp at hE3 hG2
      generalize el L k = x at *
      generalize atL L k = t at *
      dsimp only at HNX
      have HNXh := Lib.hid HNX
      have HG1 := Lib.hid hG1
      have HG2 := Lib.hid hG2
      have HXN := Lib.hid hxn
      have HKL := Lib.hid (show k + 1 ≤ L.length from hlt)
      have hkb : (k : Int) ≤ 1000000 := by have := HN.out; omega
      have HKM := Lib.hid (show L.length - (k + 1) < L.length - k by omega)
      have hdt : decide (k < L.length) = true := by simpa using hlt
      have hk0 : (0 : Int) ≤ (k : Int) := by omega
      have hk1 : (k : Int) < (L.length : Int) := by omega
      have HBR := Lib.hid hbr
      clear hcl h1 h2 hE1 hE2 HNX hG1 hG2 hN hb hat
      rcases hE3 with ⟨rfl, rfl⟩ | ⟨hne, rfl⟩
      case' inl => have hnn : ((x.2 : Int) != (x.1 : Int)) = true := by simp; omega
      case' inr => have hnn : ((gp : Int) != (gp : Int)) = false := by simp
      all_goals
        clear hxn
        go_wp2_with (go_at_call 17; refine HNXh.out.mono ?_; rintro e w3 ⟨rfl, hb3⟩)
        have hst : w3.drew.cell? ⟨g, k * 2, none⟩ = some (.int .u64 (x.1 : Int)) ∧ w3.drew.cell? ⟨g, k * 2 + 1, none⟩ = some (.int .u64 (x.2 : Int)) ∧ Below w2.heap.size w2 w3.drew :=
          ⟨(hb3.cell (p := ⟨g, k * 2, none⟩) hgr).trans hx1, (hb3.cell (p := ⟨g, k * 2 + 1, none⟩) hgr).trans hx2, (HBR.out.trans (hb3.mono HBR.out.size)).drew⟩
        clear hb3 hx1 hx2
        first
          | (
              have hq : ((x.2 : Int) != (x.1 : Int)) = true := hnn
              go_region_held3 (fun w' => w'.cell? ⟨g, k * 2, none⟩ = some (.int .u64 (x.1 : Int)) ∧ w'.cell? ⟨g, k * 2 + 1, none⟩ = some (.int .u64 (x.2 : Int)) ∧ Below w2.heap.size w2 w')
                (first
                  | assumption
                  | exact hst
                  | (have hH := ‹World.cell? _ ⟨g, k * 2, none⟩ = _ ∧ _›; exact ⟨(hb9.cell (World.block_lt_of_cell? _ _ hH.1)).trans hH.1, (hb9.cell (World.block_lt_of_cell? _ _ hH.2.1)).trans hH.2.1, hH.2.2.trans (hb9.mono hH.2.2.size)⟩))
                (first
                  | (go_at_call 23; have hH := ‹World.cell? _ ⟨g, k * 2, none⟩ = _ ∧ _›; (with_reducible refine (HG1.out _ hH.2.2).mono ?_); clear hH; rintro e w9 ⟨rfl, hb9⟩)
                  | (go_at_call 23; have hH := ‹World.cell? _ ⟨g, k * 2, none⟩ = _ ∧ _›; (with_reducible refine (HG2.out _ hH.2.2).mono ?_); clear hH; rintro e w9 ⟨rfl, hb9⟩))
            )
          | (
              go_region_held (fun w' => w'.cell? ⟨g, k * 2, none⟩ = some (.int .u64 (x.1 : Int)) ∧ w'.cell? ⟨g, k * 2 + 1, none⟩ = some (.int .u64 (x.2 : Int)) ∧ Below w2.heap.size w2 w')
                (first
                  | assumption
                  | exact hst
                  | (have hH := ‹World.cell? _ ⟨g, k * 2, none⟩ = _ ∧ _›; exact ⟨(hb9.cell (World.block_lt_of_cell? _ _ hH.1)).trans hH.1, (hb9.cell (World.block_lt_of_cell? _ _ hH.2.1)).trans hH.2.1, hH.2.2.trans (hb9.mono hH.2.2.size)⟩))
                (first
                  | (go_at_call 23; have hH := ‹World.cell? _ ⟨g, k * 2, none⟩ = _ ∧ _›; (with_reducible refine (HG1.out _ hH.2.2).mono ?_); clear hH; rintro e w9 ⟨rfl, hb9⟩)
                  | (go_at_call 23; have hH := ‹World.cell? _ ⟨g, k * 2, none⟩ = _ ∧ _›; (with_reducible refine (HG2.out _ hH.2.2).mono ?_); clear hH; rintro e w9 ⟨rfl, hb9⟩))
            )
          | fail
        all_goals
          have hH := ‹World.cell? w9 ⟨g, k * 2, none⟩ = _ ∧ _›
          have HBZ := Lib.hid hH.2.2
          clear hH hst
          go_wp2_with (go_at_call 23; refine (HG1.out _ HBZ.out).mono ?_; rintro e w10 ⟨rfl, hb10⟩)
          go_roundw
          case rel => exact ⟨k + 1, by rw [HA.out], by go_num, HKL.out, HBZ.out.trans (hb10.mono HBZ.out.size)⟩
          case measure => simp [intOf]; have := HKM.out; omega
    · obtain rfl : k = L.length := by omega
      have hN := HST.out.nf
      have hb := HST.out.fit
      have hat := at_top hb (i := L.length) (by omega)
      obtain ⟨hE1, hE2⟩ := end_at hN
      have HNX := HNx.out wr hbr (atL L L.length) hat
      rw [hE1] at HNX
      have hG2 : ∀ W, Below w2.heap.size w2 W → Calls Try.prog 23 #[.pointer (some ⟨p, 0, none⟩), .int .u64 (atL L L.length)] W fun e w' => e = .returned (.int .u64 ((atL L L.length : Nat) : Int)) ∧ Below W.heap.size W w' := fun W hW => by
        have := HGp.out W hW (atL L L.length) hat
        rwa [hE2] at this
      generalize atL L L.length = t at *
      dsimp only at HNX
      have HNXh := Lib.hid HNX
      have HG2 := Lib.hid hG2
      have HBR := Lib.hid hbr
      have hdt : decide (L.length < L.length) = false := by simp
      clear hE1 hE2 HNX hG2 hN hb hat hlt hbr
      go_wp2_with (first
        | (go_at_call 17; refine HNXh.out.mono ?_; rintro e w3 ⟨rfl, hb3⟩; have HB3 := Lib.hid (HBR.out.trans (hb3.mono HBR.out.size)))
        | (go_at_call 27; refine (alive_any _).mono ?_; rintro e w4 ⟨rfl, hb4⟩; have HB4 := Lib.hid (HB3.out.trans (hb4.mono HB3.out.size)))
        | (go_at_call 23; refine (HG2.out _ HB4.out).mono ?_; rintro e w5 ⟨rfl, hb5⟩))
      go_ret
      refine ⟨rfl, ?_⟩
      have h5 := HB4.out.trans (hb5.mono HB4.out.size)
      have h6 := HBW.out.trans (h5.mono hp2)
      rw [HP.out]
      exact h6
end Go.Proofs.Ytoadbkiklabceaa
