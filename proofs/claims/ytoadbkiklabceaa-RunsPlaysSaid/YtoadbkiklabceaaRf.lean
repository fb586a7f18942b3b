/-
  Contracts of what the document asks of a list of runs: Count, Has, Next, Gap. No claim of its own.
-/
import Derived.Test.YtoadbkiklabceaaNm
import Derived.Test.YtoadbkiklabceaaAsk
namespace Go.Proofs.Ytoadbkiklabceaa
open Go.RowKit Go.Shelf Go.Deep
set_option linter.unusedVariables false
set_option linter.unusedSimpArgs false

theorem cnt_snoc' {L : List Rn} {k : Nat} (hk : k < L.length) : cnt (L.take (k + 1)) = cnt (L.take k) + ((el L k).2 - (el L k).1) := by
  rw [take_el hk, cnt_append]; simp [cnt]
theorem mem_take_snoc {L : List Rn} {k n : Nat} (hk : k < L.length) (h : mem (L.take k) n = false) (h2 : ¬ ((el L k).1 ≤ n ∧ n < (el L k).2)) : mem (L.take (k + 1)) n = false := by
  rw [take_el hk, mem_append, h, mem_cons, inR_false.2 h2]; rfl
theorem mem_at {L : List Rn} {k n : Nat} (hk : k < L.length) (h2 : (el L k).1 ≤ n ∧ n < (el L k).2) : mem L n = true := mem_iff.2 ⟨_, el_mem hk, h2⟩
theorem frm_hit {L : List Rn} (hN : NF L) (hb : ∀ r ∈ L, r.2 ≤ top64) {i n : Nat} (h : i < L.length) (h1 : ∀ x ∈ L.take i, x.2 ≤ n) (h2 : n < (el L i).2) : frm L n = ((max n (el L i).1, (el L i).2), true) := by
  have hx := el_mem h
  have hne := hN.nonempty _ hx
  have ht := hb _ hx
  have hp : parts L (n, top64) = (max n (el L i).1, (el L i).2) :: parts (L.drop (i + 1)) (n, top64) := by
    rw [parts_pre (n, top64) i (L := L), parts_low (A := L.take i) h1, drop_el h, parts]
    have e : met (el L i) (n, top64) = (max n (el L i).1, (el L i).2) := by
      simp only [met]
      exact Prod.ext (by show max _ n = max n _; omega) (by show min _ top64 = _; omega)
    rw [e, if_pos (by show max n _ < _; omega)]
    rfl
  exact frm_cons hp
theorem low_hit {L : List Rn} (hN : NF L) {i n : Nat} (h : i < L.length) (h1 : (el L i).1 ≤ n) : ∀ x ∈ L.take i, x.2 ≤ n := by
  intro x hx
  have h2 := hN
  rw [← List.take_append_drop i L, NF_append] at h2
  have := h2.2.2 x hx (el L i) (by rw [drop_el h]; simp)
  omega
theorem gap_hit {L : List Rn} (hN : NF L) (hb : ∀ r ∈ L, r.2 ≤ top64) {i n : Nat} (h : i < L.length) (h1 : (el L i).1 ≤ n) (h2 : n < (el L i).2) : gapL L n = (el L i).2 := by
  unfold gapL
  rw [frm_hit hN hb h (low_hit hN h h1) h2]
  simp; omega
theorem gap_miss {L : List Rn} (hN : NF L) (hb : ∀ r ∈ L, r.2 ≤ top64) {n : Nat} (h : mem L n = false) : gapL L n = n := by
  rw [frm_mem hN hb] at h
  unfold gapL
  rw [h]; simp
set_option maxHeartbeats 2000000 in
set_option maxRecDepth 100000 in
theorem rCount_any (w : World) (a : Option Addr) (L : List Rn) (c B0 : Nat) (hro : Ro w B0 a (rcs L)) (hB0 : B0 ≤ w.heap.size) (hN : NF L) (hb : ∀ r ∈ L, r.2 ≤ top64) (hl : L.length ≤ 1000000) :
    Calls Try.prog 11 #[.slice a L.length c] w fun e w' => e = .returned (.int .u64 ((cnt L : Nat) : Int)) ∧ Below w.heap.size w w' := by
  obtain ⟨n, HN⟩ : ∃ n, Hid (L.length = n) := ⟨_, Lib.hid rfl⟩
  rw [HN.out] at hl ⊢
  have HR := Lib.hid (hro.mono hB0)
  have HNF := Lib.hid (And.intro hN hb)
  clear hro hN hb
  go_enter Try.func11, Try.ntmps11
  go_wp2_with fail
  go_loopw [3, 4] (fun s3 i wr => ∃ k : Nat, i = .int .i64 k ∧ s3 = .int .u64 ((cnt (L.take k) : Nat) : Int) ∧ k ≤ n ∧ Below w.heap.size w wr) (fun _ i _ => n - (intOf i).toNat)
  case atStart => exact ⟨0, rfl, rfl, Nat.zero_le _, Below.refl _ _⟩
  case round =>
    obtain ⟨k, rfl, rfl, hk, hbw⟩ := hrel
    by_cases hlt : k < n
    · have hkL : k < L.length := by rw [HN.out]; exact hlt
      obtain ⟨g, off, rfl, hg, hcl⟩ := HR.out.rn (by omega)
      obtain ⟨h1, h2⟩ := hcl k hkL
      have hx1 := (hbw.cell (p := ⟨g, off + k * 2, none⟩) hg).trans h1
      have hx2 := (hbw.cell (p := ⟨g, off + k * 2 + 1, none⟩) hg).trans h2
      have hcs := cnt_snoc' hkL
      have hN := HNF.out.1
      have hc1 := cnt_le (hN.take k) (fun r hr => HNF.out.2 r (List.mem_of_mem_take hr))
      have hc2 := cnt_le (hN.take (k + 1)) (fun r hr => HNF.out.2 r (List.mem_of_mem_take hr))
      have hxf := fit_el HNF.out.2 hN _ (el_mem hkL)
      have hxn := hN.nonempty _ (el_mem hkL)
      obtain ⟨t, HT⟩ : ∃ t, Hid (cnt (L.take (k + 1)) = t) := ⟨_, Lib.hid rfl⟩
      rw [HT.out] at hcs hc2
      generalize el L k = x at *
      generalize cnt (L.take k) = q at *
      unfold Fit at hxf
      unfold top64 at hc1 hc2
      obtain ⟨s, hs⟩ : ∃ s : Nat, s = (q + x.2) % 18446744073709551616 := ⟨_, rfl⟩
      have hs1 : IntKind.u64.wrap ((q : Int) + (x.2 : Int)) = (s : Int) := by rw [IntKind.wrap_u64]; omega
      have hs2 : IntKind.u64.wrap ((s : Int) - (x.1 : Int)) = (t : Int) := by rw [IntKind.wrap_u64]; omega
      have hd1 : decide (k < n) = true := by simpa using hlt
      have hk0 : (0 : Int) ≤ (k : Int) := by omega
      have hk1 : (k : Int) < (n : Int) := by omega
      have hkb : (k : Int) ≤ 4000000 := by omega
      have hkn : k + 1 ≤ n := hlt
      have HKM := Lib.hid (show n - (k + 1) < n - k by omega)
      have HB := Lib.hid hbw
      clear hcl h1 h2 hcs hN hc1 hc2 hxf hxn hs hbw hlt
      go_wp2_with fail
      go_region
      go_wp2_with fail
      go_roundw
      case rel => exact ⟨k + 1, by go_num, by rw [HT.out], hkn, by first | exact HB.out.drew | exact HB.out⟩
      case measure => have := HKM.out; simp [intOf]; omega
    · have ht : L.take k = L := List.take_of_length_le (by rw [HN.out]; omega)
      rw [ht]
      have hd1 : decide (k < n) = false := by simpa using hlt
      go_wp2_with fail
      go_ret
      exact ⟨rfl, hbw⟩
set_option maxHeartbeats 2000000 in
set_option maxRecDepth 100000 in
theorem rHas_any (w : World) (a : Option Addr) (L : List Rn) (c B0 z : Nat) (hro : Ro w B0 a (rcs L)) (hB0 : B0 ≤ w.heap.size) (hl : L.length ≤ 1000000) :
    Calls Try.prog 26 #[.slice a L.length c, .int .u64 z] w fun e w' => e = .returned (.bool (mem L z)) ∧ Below w.heap.size w w' := by
  obtain ⟨n, HN⟩ : ∃ n, Hid (L.length = n) := ⟨_, Lib.hid rfl⟩
  rw [HN.out] at hl ⊢
  have HR := Lib.hid (hro.mono hB0)
  clear hro
  obtain ⟨bb, HBB⟩ : ∃ bb, Hid (mem L z = bb) := ⟨_, Lib.hid rfl⟩
  rw [HBB.out]
  go_enter Try.func26, Try.ntmps26
  go_wp2_with fail
  go_loopw [5] (fun i wr => ∃ k : Nat, i = .int .i64 k ∧ k ≤ n ∧ mem (L.take k) z = false ∧ Below w.heap.size w wr) (fun i _ => n - (intOf i).toNat)
  case atStart => exact ⟨0, rfl, Nat.zero_le _, rfl, Below.refl _ _⟩
  case round =>
    obtain ⟨k, rfl, hk, hmm, hbw⟩ := hrel
    by_cases hlt : k < n
    · have hkL : k < L.length := by rw [HN.out]; exact hlt
      obtain ⟨g, off, rfl, hg, hcl⟩ := HR.out.rn (by omega)
      obtain ⟨h1, h2⟩ := hcl k hkL
      have hx1 := (hbw.cell (p := ⟨g, off + k * 2, none⟩) hg).trans h1
      have hx2 := (hbw.cell (p := ⟨g, off + k * 2 + 1, none⟩) hg).trans h2
      have HMS := Lib.hid (fun h => mem_take_snoc hkL hmm h)
      have HAT := Lib.hid (fun h => HBB.out.symm.trans (@mem_at L k z hkL h))
      generalize el L k = x at *
      have hd1 : decide (k < n) = true := by simpa using hlt
      have hk0 : (0 : Int) ≤ (k : Int) := by omega
      have hk1 : (k : Int) < (n : Int) := by omega
      have hkb : (k : Int) ≤ 4000000 := by omega
      have hkn : k + 1 ≤ n := hlt
      have HKM := Lib.hid (show n - (k + 1) < n - k by omega)
      have HB := Lib.hid hbw
      clear hcl h1 h2 hbw hlt hmm
      by_cases hc1 : x.1 ≤ z
      · have hdc1 : decide (x.1 ≤ z) = true := by simpa using hc1
        by_cases hc2 : z < x.2
        · have hdc2 : decide (z < x.2) = true := by simpa using hc2
          have HAT2 := HAT.out ⟨hc1, hc2⟩
          subst HAT2
          clear hc1 hc2 HMS HAT
          go_wp2_with fail
          first | go_region | skip
          go_wp2_with fail
          go_ret
          exact ⟨rfl, by first | exact HB.out.drew | exact HB.out⟩
        · have hdc2 : decide (z < x.2) = false := by simpa using hc2
          have HMS2 := Lib.hid (HMS.out (fun h => hc2 h.2))
          clear hc1 hc2 HMS HAT
          go_wp2_with fail
          first | go_region | skip
          go_wp2_with fail
          go_roundw
          case rel => exact ⟨k + 1, by go_num, hkn, HMS2.out, by first | exact HB.out.drew | exact HB.out⟩
          case measure => have := HKM.out; simp [intOf]; omega
      · have hdc1 : decide (x.1 ≤ z) = false := by simpa using hc1
        have HMS2 := Lib.hid (HMS.out (fun h => hc1 h.1))
        clear hc1 HMS HAT
        go_wp2_with fail
        first | go_region | skip
        go_wp2_with fail
        go_roundw
        case rel => exact ⟨k + 1, by go_num, hkn, HMS2.out, by first | exact HB.out.drew | exact HB.out⟩
        case measure => have := HKM.out; simp [intOf]; omega
    · have ht : L.take k = L := List.take_of_length_le (by rw [HN.out]; omega)
      rw [ht] at hmm
      have hbb := HBB.out.symm.trans hmm
      subst hbb
      have hd1 : decide (k < n) = false := by simpa using hlt
      clear hmm
      go_wp2_with fail
      go_ret
      exact ⟨rfl, hbw⟩
theorem take_low {L : List Rn} {k n : Nat} (hk : k < L.length) (h : ∀ x ∈ L.take k, x.2 ≤ n) (h2 : (el L k).2 ≤ n) : ∀ x ∈ L.take (k + 1), x.2 ≤ n := by
  rw [take_el hk]
  intro x hx
  rcases List.mem_append.1 hx with hx | hx
  · exact h x hx
  · obtain rfl : x = _ := by simpa using hx
    exact h2
set_option maxHeartbeats 2000000 in
set_option maxRecDepth 100000 in
theorem rNext_any (w : World) (a : Option Addr) (L : List Rn) (c B0 z : Nat) (hro : Ro w B0 a (rcs L)) (hB0 : B0 ≤ w.heap.size) (hN : NF L) (hb : ∀ r ∈ L, r.2 ≤ top64) (hl : L.length ≤ 1000000) :
    Calls Try.prog 18 #[.slice a L.length c, .int .u64 z] w fun e w' => e = .returned (.tuple #[.int .u64 ((frm L z).1.1 : Int), .bool (frm L z).2]) ∧ Below w.heap.size w w' := by
  obtain ⟨n, HN⟩ : ∃ n, Hid (L.length = n) := ⟨_, Lib.hid rfl⟩
  rw [HN.out] at hl ⊢
  have HR := Lib.hid (hro.mono hB0)
  have HNF := Lib.hid (And.intro hN hb)
  clear hro hN hb
  obtain ⟨f, HFF⟩ : ∃ f, Hid (frm L z = f) := ⟨_, Lib.hid rfl⟩
  rw [HFF.out]
  go_enter Try.func18, Try.ntmps18
  go_wp2_with fail
  go_loopw [6] (fun i wr => ∃ k : Nat, i = .int .i64 k ∧ k ≤ n ∧ (∀ x ∈ L.take k, x.2 ≤ z) ∧ Below w.heap.size w wr) (fun i _ => n - (intOf i).toNat)
  case atStart => exact ⟨0, rfl, Nat.zero_le _, by simp, Below.refl _ _⟩
  case round =>
    obtain ⟨k, rfl, hk, hmm, hbw⟩ := hrel
    by_cases hlt : k < n
    · have hkL : k < L.length := by rw [HN.out]; exact hlt
      obtain ⟨g, off, rfl, hg, hcl⟩ := HR.out.rn (by omega)
      obtain ⟨h1, h2⟩ := hcl k hkL
      have hx1 := (hbw.cell (p := ⟨g, off + k * 2, none⟩) hg).trans h1
      have hx2 := (hbw.cell (p := ⟨g, off + k * 2 + 1, none⟩) hg).trans h2
      have HMS := Lib.hid (fun h => take_low hkL hmm h)
      have HAT := Lib.hid (fun h => HFF.out.symm.trans (@frm_hit L HNF.out.1 HNF.out.2 k z hkL hmm h))
      generalize el L k = x at *
      have hd1 : decide (k < n) = true := by simpa using hlt
      have hk0 : (0 : Int) ≤ (k : Int) := by omega
      have hk1 : (k : Int) < (n : Int) := by omega
      have hkb : (k : Int) ≤ 4000000 := by omega
      have hkn : k + 1 ≤ n := hlt
      have HKM := Lib.hid (show n - (k + 1) < n - k by omega)
      have HB := Lib.hid hbw
      clear hcl h1 h2 hbw hlt hmm
      by_cases hc2 : z < x.2
      · have hdc2 : decide (z < x.2) = true := by simpa using hc2
        have HAT2 := HAT.out hc2
        subst HAT2
        clear hc2 HMS HAT
        have hmx : (max (z : Int) (x.1 : Int)) = ((max z x.1 : Nat) : Int) := by omega
        have HMX := Lib.hid hmx
        clear hmx
        go_wp2_with fail
        go_ret2
        exact ⟨by rw [HMX.out]; rfl, HB.out⟩
      · have hdc2 : decide (z < x.2) = false := by simpa using hc2
        have HMS2 := Lib.hid (HMS.out (by omega))
        clear hc2 HMS HAT
        go_wp2_with fail
        go_roundw
        case rel => exact ⟨k + 1, by go_num, hkn, HMS2.out, HB.out⟩
        case measure => have := HKM.out; simp [intOf]; omega
    · have ht : L.take k = L := List.take_of_length_le (by rw [HN.out]; omega)
      rw [ht] at hmm
      have hff := HFF.out.symm.trans (frm_nil (parts_low hmm))
      subst hff
      have hd1 : decide (k < n) = false := by simpa using hlt
      clear hmm
      go_wp2_with fail
      go_ret2
      exact ⟨rfl, hbw⟩
set_option maxHeartbeats 2000000 in
set_option maxRecDepth 100000 in
theorem rGap_any (w : World) (a : Option Addr) (L : List Rn) (c B0 z : Nat) (hro : Ro w B0 a (rcs L)) (hB0 : B0 ≤ w.heap.size) (hN : NF L) (hb : ∀ r ∈ L, r.2 ≤ top64) (hl : L.length ≤ 1000000) :
    Calls Try.prog 24 #[.slice a L.length c, .int .u64 z] w fun e w' => e = .returned (.int .u64 ((gapL L z : Nat) : Int)) ∧ Below w.heap.size w w' := by
  obtain ⟨n, HN⟩ : ∃ n, Hid (L.length = n) := ⟨_, Lib.hid rfl⟩
  rw [HN.out] at hl ⊢
  have HR := Lib.hid (hro.mono hB0)
  have HNF := Lib.hid (And.intro hN hb)
  clear hro hN hb
  obtain ⟨bb, HBB⟩ : ∃ bb, Hid (gapL L z = bb) := ⟨_, Lib.hid rfl⟩
  rw [HBB.out]
  go_enter Try.func24, Try.ntmps24
  go_wp2_with fail
  go_loopw [5] (fun i wr => ∃ k : Nat, i = .int .i64 k ∧ k ≤ n ∧ mem (L.take k) z = false ∧ Below w.heap.size w wr) (fun i _ => n - (intOf i).toNat)
  case atStart => exact ⟨0, rfl, Nat.zero_le _, rfl, Below.refl _ _⟩
  case round =>
    obtain ⟨k, rfl, hk, hmm, hbw⟩ := hrel
    by_cases hlt : k < n
    · have hkL : k < L.length := by rw [HN.out]; exact hlt
      obtain ⟨g, off, rfl, hg, hcl⟩ := HR.out.rn (by omega)
      obtain ⟨h1, h2⟩ := hcl k hkL
      have hx1 := (hbw.cell (p := ⟨g, off + k * 2, none⟩) hg).trans h1
      have hx2 := (hbw.cell (p := ⟨g, off + k * 2 + 1, none⟩) hg).trans h2
      have HMS := Lib.hid (fun h => mem_take_snoc hkL hmm h)
      have HAT := Lib.hid (fun h1 h2 => HBB.out.symm.trans (@gap_hit L HNF.out.1 HNF.out.2 k z hkL h1 h2))
      generalize el L k = x at *
      have hd1 : decide (k < n) = true := by simpa using hlt
      have hk0 : (0 : Int) ≤ (k : Int) := by omega
      have hk1 : (k : Int) < (n : Int) := by omega
      have hkb : (k : Int) ≤ 4000000 := by omega
      have hkn : k + 1 ≤ n := hlt
      have HKM := Lib.hid (show n - (k + 1) < n - k by omega)
      have HB := Lib.hid hbw
      clear hcl h1 h2 hbw hlt hmm
      by_cases hc1 : x.1 ≤ z
      · have hdc1 : decide (x.1 ≤ z) = true := by simpa using hc1
        by_cases hc2 : z < x.2
        · have hdc2 : decide (z < x.2) = true := by simpa using hc2
          have HAT2 := HAT.out hc1 hc2
          subst HAT2
          clear hc1 hc2 HMS HAT
          go_wp2_with fail
          first | go_region | skip
          go_wp2_with fail
          go_ret
          exact ⟨rfl, by first | exact HB.out.drew | exact HB.out⟩
        · have hdc2 : decide (z < x.2) = false := by simpa using hc2
          have HMS2 := Lib.hid (HMS.out (fun h => hc2 h.2))
          clear hc1 hc2 HMS HAT
          go_wp2_with fail
          first | go_region | skip
          go_wp2_with fail
          go_roundw
          case rel => exact ⟨k + 1, by go_num, hkn, HMS2.out, by first | exact HB.out.drew | exact HB.out⟩
          case measure => have := HKM.out; simp [intOf]; omega
      · have hdc1 : decide (x.1 ≤ z) = false := by simpa using hc1
        have HMS2 := Lib.hid (HMS.out (fun h => hc1 h.1))
        clear hc1 HMS HAT
        go_wp2_with fail
        first | go_region | skip
        go_wp2_with fail
        go_roundw
        case rel => exact ⟨k + 1, by go_num, hkn, HMS2.out, by first | exact HB.out.drew | exact HB.out⟩
        case measure => have := HKM.out; simp [intOf]; omega
    · have ht : L.take k = L := List.take_of_length_le (by rw [HN.out]; omega)
      rw [ht] at hmm
      have hbb := HBB.out.symm.trans (gap_miss HNF.out.1 HNF.out.2 hmm)
      subst hbb
      have hd1 : decide (k < n) = false := by simpa using hlt
      clear hmm
      go_wp2_with fail
      go_ret
      exact ⟨rfl, hbw⟩
end Go.Proofs.Ytoadbkiklabceaa
