/-
  Contract of runs.Of. No claim of its own.
-/
import Derived.Test.YtoadbkiklabceaaSam
import Derived.Test.YtoadbkiklabceaaBlt
namespace Go.Proofs.Ytoadbkiklabceaa
open Go.RowKit Go.Shelf Go.Deep
set_option linter.unusedVariables false
set_option linter.unusedSimpArgs false

theorem NF_step {L : List Rn} {k : Nat} (hk : k < L.length) (h : NF (L.take k)) (h1 : (el L k).1 < (el L k).2) (h2 : k = 0 ∨ (el L (k - 1)).2 < (el L k).1) : NF (L.take (k + 1)) := by
  rw [take_el hk]
  refine NF_append.2 ⟨h, ⟨h1, by simp, trivial⟩, fun x hx y hy => ?_⟩
  rw [List.mem_singleton] at hy
  subst hy
  rcases k with _ | k
  · simp at hx
  · have h3 : (el L k).2 < (el L (k + 1)).1 := by simpa using h2
    rw [take_el (by omega)] at h hx
    have h4 := NF_append.1 h
    rw [List.mem_append, List.mem_singleton] at hx
    rcases hx with hx | rfl
    · have h5 := h4.2.2 x hx (el L k) (by simp)
      have h6 := h4.2.1.1
      omega
    · exact h3
theorem NF_no1 {L : List Rn} {k : Nat} (hk : k < L.length) (h : (el L k).2 ≤ (el L k).1) : ¬ NF L := by
  intro hn
  have := hn.nonempty _ (el_mem hk)
  omega
theorem NF_no2 {L : List Rn} {k : Nat} (hk : k + 1 < L.length) (h : (el L (k + 1)).1 ≤ (el L k).2) : ¬ NF L := by
  intro hn
  have h1 := hn.take (k + 1 + 1)
  rw [take_el hk, take_el (by omega)] at h1
  have h2 := (NF_append.1 h1).2.2 (el L k) (by simp) (el L (k + 1)) (by simp)
  omega
set_option maxHeartbeats 2000000 in
set_option maxRecDepth 100000 in
theorem Of_any (w : World) (a : Option Addr) (L : List Rn) (c B0 : Nat) (hro : Ro w B0 a (rcs L)) (hB0 : B0 ≤ w.heap.size) (hf : ∀ r ∈ L, Fit r) (hl : L.length ≤ 1000000) :
    Calls Try.prog 32 #[.slice a L.length c] w fun e w' => (e = .returned (.tuple #[.pointer none, .bool false]) ∧ ¬ NF L ∨ ∃ p v, e = .returned (.tuple #[.pointer (some ⟨p, 0, none⟩), .bool true]) ∧ NF L ∧ New w' w.heap.size p v L) ∧ Below w.heap.size w w' := by
  obtain ⟨n, HN⟩ : ∃ n, Hid (L.length = n) := ⟨_, Lib.hid rfl⟩
  have hlL := hl
  have HC := Lib.hid (fun (w1 : World) (h : Ro w1 w1.heap.size a (rcs L)) => clone_any w1 a c _ L h (by omega))
  rw [HN.out] at hl HC ⊢
  have HR := Lib.hid (hro.mono hB0)
  have HF := Lib.hid hf
  have HL := Lib.hid hlL
  clear hro hf hlL
  go_enter Try.func32, Try.ntmps32
  go_wp2_with fail
  go_loopw [8] (fun i wr => ∃ k : Nat, i = .int .i64 k ∧ k ≤ n ∧ NF (L.take k) ∧ Below w.heap.size w wr) (fun i _ => n - (intOf i).toNat)
  case atStart => exact ⟨0, rfl, Nat.zero_le _, trivial, Below.refl _ _⟩
  case round =>
    obtain ⟨k, rfl, hk, hnf, hb⟩ := hrel
    by_cases hlt : k < n
    · have hkL : k < L.length := by rw [HN.out]; exact hlt
      obtain ⟨g, off, rfl, hg, hcl⟩ := HR.out.rn (by omega)
      obtain ⟨h1, h2⟩ := hcl k hkL
      have hx1 := (hb.cell (p := ⟨g, off + k * 2, none⟩) hg).trans h1
      have hx2 := (hb.cell (p := ⟨g, off + k * 2 + 1, none⟩) hg).trans h2
      have hd1 : decide (k < n) = true := by simpa using hlt
      have hk0 : (0 : Int) ≤ (k : Int) := by omega
      have hk1 : (k : Int) < (n : Int) := by omega
      have hkb : (k : Int) ≤ 4000000 := by omega
      have HKM := Lib.hid (show n - (k + 1) < n - k by omega)
      have hgr : g < wr.heap.size := Nat.lt_of_lt_of_le hg hb.size
      have hob0 : Own (wr.alloc (.cells #[.int .u64 ((el L k).1 : Int), .int .u64 ((el L k).2 : Int)] 28)) wr.heap.size 28 [.int .u64 ((el L k).1 : Int), .int .u64 ((el L k).2 : Int)] := Own.new wr _ _
      have hba : Below w.heap.size w (wr.alloc (.cells #[.int .u64 ((el L k).1 : Int), .int .u64 ((el L k).2 : Int)] 28)) := hb.alloc hb.size _
      have hX1 := hob0.cell 0
      have hX2 := hob0.cell 1
      have HNF := Lib.hid hnf
      have HS := Lib.hid (@NF_step L k hkL hnf)
      have HN1 := Lib.hid (@NF_no1 L k hkL)
      by_cases he : (el L k).2 ≤ (el L k).1
      · have hno := HN1.out he
        have hde : decide ((el L k).2 ≤ (el L k).1) = true := by simpa using he
        have HNO := Lib.hid hno
        clear hcl hnf hno h1 h2 hob0 he HS HN1
        go_wp2_with fail
        clear hx1 hx2
        generalize el L k = x at *
        generalize wr.alloc _ = wA at *
        generalize wr.heap.size = R at *
        simp at hX1 hX2
        have hst : wA.drew.cell? ⟨R, 0, none⟩ = some (.int .u64 (x.1 : Int)) ∧ wA.drew.cell? ⟨R, 1, none⟩ = some (.int .u64 (x.2 : Int)) ∧ Below w.heap.size w wA.drew := ⟨hX1, hX2, hba.drew⟩
        refine wp_region_held_drew (S := fun w' => w'.cell? ⟨R, 0, none⟩ = some (.int .u64 (x.1 : Int)) ∧ w'.cell? ⟨R, 1, none⟩ = some (.int .u64 (x.2 : Int)) ∧ Below w.heap.size w w') (by kernel_rfl) hst (fun hHeld => ?_)
        refine wpAnyH_take (i := 0) (v := ?_) rfl (by kernel_rfl) (by kernel_rfl) (by kernel_rfl) (fun _ _ _ h => h) (Or.inl ⟨by rfl, ?_⟩) hHeld ?_
        rotate_left
        · (intro w hSw; first | (go_simp; done) | (go_simp; with_reducible rfl))
        try simp only [Act.put, List.setIfInBounds_toArray, List.set_cons_zero, List.set_cons_succ]
        refine wpAnyH_ready (rs := [1]) (by kernel_rfl) (by simp) (AllReadyH.cons rfl (fun K hK => ?_) AllReadyH.nil)
        (go_simp; go_at_call 35; (with_reducible refine (empty_any x _).mono ?_); rintro e w9 ⟨rfl, rfl⟩)
        refine hK.out _ _ (by have hH := hHeld; exact ⟨(World.cell?_alloc_lt _ _ _ (World.block_lt_of_cell? _ _ hH.1)).trans hH.1, (World.cell?_alloc_lt _ _ _ (World.block_lt_of_cell? _ _ hH.2.1)).trans hH.2.1, hH.2.2.alloc hH.2.2.size _⟩) (fun hHeld2 => ?_)
        clear hK K
        try simp only [Act.put, List.setIfInBounds_toArray, List.set_cons_zero, List.set_cons_succ]
        rw [hde]
        refine wpAnyH_take (i := 2) (v := ?_) rfl (by kernel_rfl) (by kernel_rfl) (by kernel_rfl) (fun _ _ _ h => h) (Or.inl ⟨by kernel_rfl, ?_⟩) hHeld2 ?_
        rotate_left
        · (intro w hSw; first | (go_simp; done) | (go_simp; with_reducible rfl))
        (try simp only [Act.put, List.getElem_toArray, List.getElem_cons_succ, List.getElem_cons_zero, List.setIfInBounds_toArray, List.set_cons_zero, List.set_cons_succ])
        refine wpAnyH_take (i := 3) (v := undef) rfl (by kernel_rfl) (by kernel_rfl) (by kernel_rfl) (fun _ _ _ h => h) (Or.inr ⟨by kernel_rfl, rfl⟩) hHeld2 ?_
        (try simp only [Act.put, List.getElem_toArray, List.getElem_cons_succ, List.getElem_cons_zero, List.setIfInBounds_toArray, List.set_cons_zero, List.set_cons_succ])
        refine wpAnyH_take (i := 4) (v := undef) rfl (by kernel_rfl) (by kernel_rfl) (by kernel_rfl) (fun _ _ _ h => h) (Or.inr ⟨by kernel_rfl, rfl⟩) hHeld2 ?_
        (try simp only [Act.put, List.getElem_toArray, List.getElem_cons_succ, List.getElem_cons_zero, List.setIfInBounds_toArray, List.set_cons_zero, List.set_cons_succ])
        refine wpAnyH_take (i := 5) (v := undef) rfl (by kernel_rfl) (by kernel_rfl) (by kernel_rfl) (fun _ _ _ h => h) (Or.inr ⟨by kernel_rfl, rfl⟩) hHeld2 ?_
        (try simp only [Act.put, List.getElem_toArray, List.getElem_cons_succ, List.getElem_cons_zero, List.setIfInBounds_toArray, List.set_cons_zero, List.set_cons_succ])
        refine wpAnyH_take (i := 6) (v := undef) rfl (by kernel_rfl) (by kernel_rfl) (by kernel_rfl) (fun _ _ _ h => h) (Or.inr ⟨by kernel_rfl, rfl⟩) hHeld2 ?_
        (try simp only [Act.put, List.getElem_toArray, List.getElem_cons_succ, List.getElem_cons_zero, List.setIfInBounds_toArray, List.set_cons_zero, List.set_cons_succ])
        refine wpAnyH_take (i := 7) (v := undef) rfl (by kernel_rfl) (by kernel_rfl) (by kernel_rfl) (fun _ _ _ h => h) (Or.inr ⟨by kernel_rfl, rfl⟩) hHeld2 ?_
        (try simp only [Act.put, List.getElem_toArray, List.getElem_cons_succ, List.getElem_cons_zero, List.setIfInBounds_toArray, List.set_cons_zero, List.set_cons_succ])
        refine wpAnyH_take (i := 8) (v := undef) rfl (by kernel_rfl) (by kernel_rfl) (by kernel_rfl) (fun _ _ _ h => h) (Or.inr ⟨by kernel_rfl, rfl⟩) hHeld2 ?_
        (try simp only [Act.put, List.getElem_toArray, List.getElem_cons_succ, List.getElem_cons_zero, List.setIfInBounds_toArray, List.set_cons_zero, List.set_cons_succ])
        refine wpAnyH_take (i := 9) (v := undef) rfl (by kernel_rfl) (by kernel_rfl) (by kernel_rfl) (fun _ _ _ h => h) (Or.inr ⟨by kernel_rfl, rfl⟩) hHeld2 ?_
        (try simp only [Act.put, List.getElem_toArray, List.getElem_cons_succ, List.getElem_cons_zero, List.setIfInBounds_toArray, List.set_cons_zero, List.set_cons_succ])
        refine wpAnyH_take (i := 10) (v := undef) rfl (by kernel_rfl) (by kernel_rfl) (by kernel_rfl) (fun _ _ _ h => h) (Or.inr ⟨by kernel_rfl, rfl⟩) hHeld2 ?_
        (try simp only [Act.put, List.getElem_toArray, List.getElem_cons_succ, List.getElem_cons_zero, List.setIfInBounds_toArray, List.set_cons_zero, List.set_cons_succ])
        refine wpAnyH_take (i := 11) (v := undef) rfl (by kernel_rfl) (by kernel_rfl) (by kernel_rfl) (fun _ _ _ h => h) (Or.inr ⟨by kernel_rfl, rfl⟩) hHeld2 ?_
        (try simp only [Act.put, List.getElem_toArray, List.getElem_cons_succ, List.getElem_cons_zero, List.setIfInBounds_toArray, List.set_cons_zero, List.set_cons_succ])
        refine wpAnyH_take (i := 12) (v := undef) rfl (by kernel_rfl) (by kernel_rfl) (by kernel_rfl) (fun _ _ _ h => h) (Or.inr ⟨by kernel_rfl, rfl⟩) hHeld2 ?_
        (try simp only [Act.put, List.getElem_toArray, List.getElem_cons_succ, List.getElem_cons_zero, List.setIfInBounds_toArray, List.set_cons_zero, List.set_cons_succ])
        refine wpAnyH_take (i := 13) (v := undef) rfl (by kernel_rfl) (by kernel_rfl) (by kernel_rfl) (fun _ _ _ h => h) (Or.inr ⟨by kernel_rfl, rfl⟩) hHeld2 ?_
        (try simp only [Act.put, List.getElem_toArray, List.getElem_cons_succ, List.getElem_cons_zero, List.setIfInBounds_toArray, List.set_cons_zero, List.set_cons_succ])
        refine wpAnyH_take (i := 14) (v := undef) rfl (by kernel_rfl) (by kernel_rfl) (by kernel_rfl) (fun _ _ _ h => h) (Or.inr ⟨by kernel_rfl, rfl⟩) hHeld2 ?_
        (try simp only [Act.put, List.getElem_toArray, List.getElem_cons_succ, List.getElem_cons_zero, List.setIfInBounds_toArray, List.set_cons_zero, List.set_cons_succ])
        refine wpAnyH_take (i := 15) (v := undef) rfl (by kernel_rfl) (by kernel_rfl) (by kernel_rfl) (fun _ _ _ h => h) (Or.inr ⟨by kernel_rfl, rfl⟩) hHeld2 ?_
        (try simp only [Act.put, List.getElem_toArray, List.getElem_cons_succ, List.getElem_cons_zero, List.setIfInBounds_toArray, List.set_cons_zero, List.set_cons_succ])
        refine wpAnyH_take (i := 16) (v := ?_) rfl (by kernel_rfl) (by kernel_rfl) (by kernel_rfl) (fun _ _ _ h => h) (Or.inl ⟨by kernel_rfl, ?_⟩) hHeld2 ?_
        rotate_left
        · (intro w hSw; first | (go_simp; done) | (go_simp; with_reducible rfl))
        (try simp only [Act.put, List.getElem_toArray, List.getElem_cons_succ, List.getElem_cons_zero, List.setIfInBounds_toArray, List.set_cons_zero, List.set_cons_succ])
        refine wpAnyH_done (by kernel_rfl) ?_ _
        go_wp2_with fail
        go_ret2
        exact ⟨.inl ⟨rfl, HNO.out⟩, hHeld2.2.2⟩
      · have hde : decide ((el L k).2 ≤ (el L k).1) = false := by simpa using he
        have hne : (el L k).1 < (el L k).2 := by omega
        by_cases hk00 : k = 0
        · have hdk : decide (0 < k) = false := by simp; omega
          have HST := Lib.hid (HS.out hne (.inl hk00))
          clear hcl hnf h1 h2 hob0 he hne HS HN1 hk00
          go_wp2_with fail
          clear hx1 hx2
          generalize el L k = x at *
          generalize wr.alloc _ = wA at *
          generalize wr.heap.size = R at *
          simp at hX1 hX2
          have hst : wA.drew.cell? ⟨R, 0, none⟩ = some (.int .u64 (x.1 : Int)) ∧ wA.drew.cell? ⟨R, 1, none⟩ = some (.int .u64 (x.2 : Int)) ∧ Below w.heap.size w wA.drew := ⟨hX1, hX2, hba.drew⟩
          refine wp_region_held_drew (S := fun w' => w'.cell? ⟨R, 0, none⟩ = some (.int .u64 (x.1 : Int)) ∧ w'.cell? ⟨R, 1, none⟩ = some (.int .u64 (x.2 : Int)) ∧ Below w.heap.size w w') (by kernel_rfl) hst (fun hHeld => ?_)
          refine wpAnyH_take (i := 0) (v := ?_) rfl (by kernel_rfl) (by kernel_rfl) (by kernel_rfl) (fun _ _ _ h => h) (Or.inl ⟨by kernel_rfl, ?_⟩) hHeld ?_
          rotate_left
          · (intro w hSw; first | (go_simp; done) | (go_simp; with_reducible rfl))
          (try simp only [Act.put, List.getElem_toArray, List.getElem_cons_succ, List.getElem_cons_zero, List.setIfInBounds_toArray, List.set_cons_zero, List.set_cons_succ])
          refine wpAnyH_ready (rs := [1]) (by kernel_rfl) (by simp) (AllReadyH.cons rfl (fun K hK => ?_) AllReadyH.nil)
          (go_simp; go_at_call 35; (with_reducible refine (empty_any x _).mono ?_); rintro e w9 ⟨rfl, rfl⟩)
          refine hK.out _ _ (by have hH := hHeld; exact ⟨(World.cell?_alloc_lt _ _ _ (World.block_lt_of_cell? _ _ hH.1)).trans hH.1, (World.cell?_alloc_lt _ _ _ (World.block_lt_of_cell? _ _ hH.2.1)).trans hH.2.1, hH.2.2.alloc hH.2.2.size _⟩) (fun hHeld2 => ?_)
          clear hK K
          try simp only [Act.put, List.setIfInBounds_toArray, List.set_cons_zero, List.set_cons_succ]
          rw [hde]
          refine wpAnyH_take (i := 2) (v := ?_) rfl (by kernel_rfl) (by kernel_rfl) (by kernel_rfl) (fun _ _ _ h => h) (Or.inl ⟨by kernel_rfl, ?_⟩) hHeld2 ?_
          rotate_left
          · (intro w hSw; first | (go_simp; done) | (go_simp; with_reducible rfl))
          (try simp only [Act.put, List.getElem_toArray, List.getElem_cons_succ, List.getElem_cons_zero, List.setIfInBounds_toArray, List.set_cons_zero, List.set_cons_succ])
          refine wpAnyH_take (i := 3) (v := ?_) rfl (by kernel_rfl) (by kernel_rfl) (by kernel_rfl) (fun _ _ _ h => h) (Or.inl ⟨by kernel_rfl, ?_⟩) hHeld2 ?_
          rotate_left
          · (intro w hSw; first | (go_simp; done) | (go_simp; with_reducible rfl))
          (try simp only [Act.put, List.getElem_toArray, List.getElem_cons_succ, List.getElem_cons_zero, List.setIfInBounds_toArray, List.set_cons_zero, List.set_cons_succ])
          refine wpAnyH_take (i := 4) (v := ?_) rfl (by kernel_rfl) (by kernel_rfl) (by kernel_rfl) (fun _ _ _ h => h) (Or.inl ⟨by kernel_rfl, ?_⟩) hHeld2 ?_
          rotate_left
          · (intro w hSw; first | (go_simp; done) | (go_simp; with_reducible rfl))
          (try simp only [Act.put, List.getElem_toArray, List.getElem_cons_succ, List.getElem_cons_zero, List.setIfInBounds_toArray, List.set_cons_zero, List.set_cons_succ])
          refine wpAnyH_take (i := 5) (v := ?_) rfl (by kernel_rfl) (by kernel_rfl) (by kernel_rfl) (fun _ _ _ h => h) (Or.inl ⟨by kernel_rfl, ?_⟩) hHeld2 ?_
          rotate_left
          · (intro w hSw; first | (go_simp; done) | (go_simp; with_reducible rfl))
          (try simp only [Act.put, List.getElem_toArray, List.getElem_cons_succ, List.getElem_cons_zero, List.setIfInBounds_toArray, List.set_cons_zero, List.set_cons_succ])
          refine wpAnyH_take (i := 6) (v := undef) rfl (by kernel_rfl) (by kernel_rfl) (by kernel_rfl) (fun _ _ _ h => h) (Or.inr ⟨by kernel_rfl, rfl⟩) hHeld2 ?_
          (try simp only [Act.put, List.getElem_toArray, List.getElem_cons_succ, List.getElem_cons_zero, List.setIfInBounds_toArray, List.set_cons_zero, List.set_cons_succ])
          refine wpAnyH_take (i := 7) (v := undef) rfl (by kernel_rfl) (by kernel_rfl) (by kernel_rfl) (fun _ _ _ h => h) (Or.inr ⟨by kernel_rfl, rfl⟩) hHeld2 ?_
          (try simp only [Act.put, List.getElem_toArray, List.getElem_cons_succ, List.getElem_cons_zero, List.setIfInBounds_toArray, List.set_cons_zero, List.set_cons_succ])
          refine wpAnyH_take (i := 8) (v := undef) rfl (by kernel_rfl) (by kernel_rfl) (by kernel_rfl) (fun _ _ _ h => h) (Or.inr ⟨by kernel_rfl, rfl⟩) hHeld2 ?_
          (try simp only [Act.put, List.getElem_toArray, List.getElem_cons_succ, List.getElem_cons_zero, List.setIfInBounds_toArray, List.set_cons_zero, List.set_cons_succ])
          refine wpAnyH_take (i := 9) (v := undef) rfl (by kernel_rfl) (by kernel_rfl) (by kernel_rfl) (fun _ _ _ h => h) (Or.inr ⟨by kernel_rfl, rfl⟩) hHeld2 ?_
          (try simp only [Act.put, List.getElem_toArray, List.getElem_cons_succ, List.getElem_cons_zero, List.setIfInBounds_toArray, List.set_cons_zero, List.set_cons_succ])
          refine wpAnyH_take (i := 10) (v := undef) rfl (by kernel_rfl) (by kernel_rfl) (by kernel_rfl) (fun _ _ _ h => h) (Or.inr ⟨by kernel_rfl, rfl⟩) hHeld2 ?_
          (try simp only [Act.put, List.getElem_toArray, List.getElem_cons_succ, List.getElem_cons_zero, List.setIfInBounds_toArray, List.set_cons_zero, List.set_cons_succ])
          refine wpAnyH_take (i := 11) (v := undef) rfl (by kernel_rfl) (by kernel_rfl) (by kernel_rfl) (fun _ _ _ h => h) (Or.inr ⟨by kernel_rfl, rfl⟩) hHeld2 ?_
          (try simp only [Act.put, List.getElem_toArray, List.getElem_cons_succ, List.getElem_cons_zero, List.setIfInBounds_toArray, List.set_cons_zero, List.set_cons_succ])
          refine wpAnyH_take (i := 12) (v := undef) rfl (by kernel_rfl) (by kernel_rfl) (by kernel_rfl) (fun _ _ _ h => h) (Or.inr ⟨by kernel_rfl, rfl⟩) hHeld2 ?_
          (try simp only [Act.put, List.getElem_toArray, List.getElem_cons_succ, List.getElem_cons_zero, List.setIfInBounds_toArray, List.set_cons_zero, List.set_cons_succ])
          refine wpAnyH_take (i := 13) (v := undef) rfl (by kernel_rfl) (by kernel_rfl) (by kernel_rfl) (fun _ _ _ h => h) (Or.inr ⟨by kernel_rfl, rfl⟩) hHeld2 ?_
          (try simp only [Act.put, List.getElem_toArray, List.getElem_cons_succ, List.getElem_cons_zero, List.setIfInBounds_toArray, List.set_cons_zero, List.set_cons_succ])
          refine wpAnyH_take (i := 14) (v := undef) rfl (by kernel_rfl) (by kernel_rfl) (by kernel_rfl) (fun _ _ _ h => h) (Or.inr ⟨by kernel_rfl, rfl⟩) hHeld2 ?_
          (try simp only [Act.put, List.getElem_toArray, List.getElem_cons_succ, List.getElem_cons_zero, List.setIfInBounds_toArray, List.set_cons_zero, List.set_cons_succ])
          refine wpAnyH_take (i := 15) (v := ?_) rfl (by kernel_rfl) (by kernel_rfl) (by kernel_rfl) (fun _ _ _ h => h) (Or.inl ⟨by kernel_rfl, ?_⟩) hHeld2 ?_
          rotate_left
          · (intro w hSw; first | (go_simp; done) | (go_simp; with_reducible rfl))
          (try simp only [Act.put, List.getElem_toArray, List.getElem_cons_succ, List.getElem_cons_zero, List.setIfInBounds_toArray, List.set_cons_zero, List.set_cons_succ])
          refine wpAnyH_take (i := 16) (v := ?_) rfl (by kernel_rfl) (by kernel_rfl) (by kernel_rfl) (fun _ _ _ h => h) (Or.inl ⟨by kernel_rfl, ?_⟩) hHeld2 ?_
          rotate_left
          · (intro w hSw; first | (go_simp; done) | (go_simp; with_reducible rfl))
          (try simp only [Act.put, List.getElem_toArray, List.getElem_cons_succ, List.getElem_cons_zero, List.setIfInBounds_toArray, List.set_cons_zero, List.set_cons_succ])
          refine wpAnyH_done (by kernel_rfl) ?_ _
          go_wp2_with fail
          go_roundw
          case rel => exact ⟨k + 1, by go_num, by omega, HST.out, hHeld2.2.2⟩
          case measure => have := HKM.out; simp [intOf]; omega
        · obtain ⟨j, hj⟩ : ∃ j, k = j + 1 := ⟨k - 1, by omega⟩
          have hdk : decide (0 < k) = true := by simp; omega
          have hjL : j < L.length := by omega
          have hel : el L (k - 1) = el L j := by rw [hj]; rfl
          have hy0 := (hcl j hjL).2
          have hy := (hba.cell (p := ⟨g, off + j * 2 + 1, none⟩) hg).trans hy0
          have hw1 : IntKind.i64.wrap ((k : Int) - 1) = (j : Int) := by rw [IntKind.wrap_i64]; omega
          have hj0 : (0 : Int) ≤ (j : Int) := by omega
          have hj1 : (j : Int) < (n : Int) := by omega
          have HN2 := Lib.hid (fun h => @NF_no2 L j (by omega) h)
          have HST := Lib.hid (fun h => HS.out hne (.inr (by rw [hel]; exact h)))
          rw [show el L (j + 1) = el L k by rw [hj]] at HN2
          by_cases hlo : (el L j).2 < (el L k).1
          · have hdl : decide ((el L j).2 < (el L k).1) = true := by simpa using hlo
            have HOK := Lib.hid (HST.out hlo)
            clear hcl hnf h1 h2 hob0 he hne HS HN1 hk00 hj hel hy0 HST HN2 hlo
            go_wp2_with fail
            clear hx1 hx2
            generalize el L k = x at *
            generalize el L j = y at *
            generalize wr.alloc _ = wA at *
            generalize wr.heap.size = R at *
            simp at hX1 hX2
            have hst : wA.drew.cell? ⟨R, 0, none⟩ = some (.int .u64 (x.1 : Int)) ∧ wA.drew.cell? ⟨R, 1, none⟩ = some (.int .u64 (x.2 : Int)) ∧ wA.drew.cell? ⟨g, off + j * 2 + 1, none⟩ = some (.int .u64 (y.2 : Int)) ∧ Below w.heap.size w wA.drew := ⟨hX1, hX2, hy, hba.drew⟩
            go_region_held3 (fun w' => w'.cell? ⟨R, 0, none⟩ = some (.int .u64 (x.1 : Int)) ∧ w'.cell? ⟨R, 1, none⟩ = some (.int .u64 (x.2 : Int)) ∧ w'.cell? ⟨g, off + j * 2 + 1, none⟩ = some (.int .u64 (y.2 : Int)) ∧ Below w.heap.size w w')
              (first
                | assumption
                | exact hst
                | (have hH := ‹World.cell? _ ⟨R, 0, none⟩ = _ ∧ _›; exact ⟨(World.cell?_alloc_lt _ _ _ (World.block_lt_of_cell? _ _ hH.1)).trans hH.1, (World.cell?_alloc_lt _ _ _ (World.block_lt_of_cell? _ _ hH.2.1)).trans hH.2.1, (World.cell?_alloc_lt _ _ _ (World.block_lt_of_cell? _ _ hH.2.2.1)).trans hH.2.2.1, hH.2.2.2.alloc hH.2.2.2.size _⟩))
              (first
                | (go_at_call 35; (with_reducible refine (empty_any x _).mono ?_); rintro e w9 ⟨rfl, rfl⟩; rw [hde])
                | (go_at_call 44; (with_reducible refine (beginsAbove_any x y.2 _).mono ?_); rintro e w9 ⟨rfl, rfl⟩; rw [hdl]))
            have hH := ‹World.cell? _ ⟨R, 0, none⟩ = _ ∧ _›
            go_wp2_with fail
            go_roundw
            case rel => exact ⟨k + 1, by go_num, by omega, HOK.out, hH.2.2.2⟩
            case measure => have := HKM.out; simp [intOf]; omega
          · have hdl : decide ((el L j).2 < (el L k).1) = false := by simpa using hlo
            have HNO := Lib.hid (HN2.out (by omega))
            clear hcl hnf h1 h2 hob0 he hne HS HN1 hk00 hj hel hy0 HST HN2 hlo
            go_wp2_with fail
            clear hx1 hx2
            generalize el L k = x at *
            generalize el L j = y at *
            generalize wr.alloc _ = wA at *
            generalize wr.heap.size = R at *
            simp at hX1 hX2
            have hst : wA.drew.cell? ⟨R, 0, none⟩ = some (.int .u64 (x.1 : Int)) ∧ wA.drew.cell? ⟨R, 1, none⟩ = some (.int .u64 (x.2 : Int)) ∧ wA.drew.cell? ⟨g, off + j * 2 + 1, none⟩ = some (.int .u64 (y.2 : Int)) ∧ Below w.heap.size w wA.drew := ⟨hX1, hX2, hy, hba.drew⟩
            go_region_held3 (fun w' => w'.cell? ⟨R, 0, none⟩ = some (.int .u64 (x.1 : Int)) ∧ w'.cell? ⟨R, 1, none⟩ = some (.int .u64 (x.2 : Int)) ∧ w'.cell? ⟨g, off + j * 2 + 1, none⟩ = some (.int .u64 (y.2 : Int)) ∧ Below w.heap.size w w')
              (first
                | assumption
                | exact hst
                | (have hH := ‹World.cell? _ ⟨R, 0, none⟩ = _ ∧ _›; exact ⟨(World.cell?_alloc_lt _ _ _ (World.block_lt_of_cell? _ _ hH.1)).trans hH.1, (World.cell?_alloc_lt _ _ _ (World.block_lt_of_cell? _ _ hH.2.1)).trans hH.2.1, (World.cell?_alloc_lt _ _ _ (World.block_lt_of_cell? _ _ hH.2.2.1)).trans hH.2.2.1, hH.2.2.2.alloc hH.2.2.2.size _⟩))
              (first
                | (go_at_call 35; (with_reducible refine (empty_any x _).mono ?_); rintro e w9 ⟨rfl, rfl⟩; rw [hde])
                | (go_at_call 44; (with_reducible refine (beginsAbove_any x y.2 _).mono ?_); rintro e w9 ⟨rfl, rfl⟩; rw [hdl]))
            have hH := ‹World.cell? _ ⟨R, 0, none⟩ = _ ∧ _›
            go_wp2_with fail
            go_ret2
            exact ⟨.inl ⟨rfl, HNO.out⟩, hH.2.2.2⟩
    · have ht : L.take k = L := List.take_of_length_le (by rw [HN.out]; omega)
      rw [ht] at hnf
      have hd1 : decide (k < n) = false := by simpa using hlt
      have HB := Lib.hid hb
      have hro : Ro wr wr.heap.size a (rcs L) := (HR.out.below hb (Nat.le_refl _)).mono hb.size
      have HC2 := Lib.hid (HC.out wr hro)
      have HNF := Lib.hid hnf
      clear hb hro hnf
      go_wp2_with (go_at_call 34; refine HC2.out.mono ?_; rintro e w1 ⟨v, rfl, hr, hb⟩; obtain ⟨a1, c1, rfl⟩ := hr.shape)
      go_ret2
      have hr2 := boxed_new hr hb HNF.out (fun r h => by have := (HF.out r h).2; unfold top64; omega) HL.out
      exact ⟨.inr ⟨_, _, rfl, HNF.out, hr2.st, Nat.le_trans HB.out.size hr2.lowp, fun g h => Nat.le_trans HB.out.size (hr2.lowg g h)⟩, (HB.out.trans (hb.mono HB.out.size)).alloc (Nat.le_trans HB.out.size hb.size) _⟩

end Go.Proofs.Ytoadbkiklabceaa
