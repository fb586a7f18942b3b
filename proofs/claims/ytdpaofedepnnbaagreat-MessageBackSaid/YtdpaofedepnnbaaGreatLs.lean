/-
  source of package layout: take, takeCount, chain, by their contracts. No claim of its own.
-/
import Derived.Test.YtdpaofedepnnbaaGreatFa
import Derived.Deep.Cut
import Derived.Deep.RegionHeld3
namespace Go.Proofs.YtdpaofedepnnbaaGreat
open Go.RowKit Go.Deep
set_option linter.unusedVariables false
set_option linter.unusedSimpArgs false

theorem getN_any (bs : List UInt8) (n : Nat) (a : Option Addr) (c B k m : Nat) (w : World) (hn : bs.length = n) (h : Ro w B a (u8s bs)) (hB : B ≤ w.heap.size) (hl : n ≤ 1000000) (hk : k ≤ 100000000) (hm : m ≤ 64) :
    Calls Tryz.prog 89 #[.slice a n c, .int .i64 (k : Int), .int .i64 (m : Int)] w fun e w' => ∃ ok, e = .returned (.tuple #[.int .u64 (tkN bs k m : Nat), .bool ok]) ∧ Below w.heap.size w w' := by
  subst hn
  by_cases hle : k + m ≤ 8 * bs.length
  · refine (get_yes bs a c B k m w h hB hl (by omega) (by omega) (by omega) (by omega)).mono ?_
    rintro e w' ⟨rfl, hb⟩
    exact ⟨true, by simp [tkN, hle], hb⟩
  · refine (get_no a bs.length c k m w hl (by omega) (by omega) (by omega)).mono ?_
    rintro e w' ⟨rfl, hb⟩
    exact ⟨false, by simp [tkN, hle], hb⟩

/-- bytes that are read from the k-th bit on: a struct in block s, of type T -/
def Src (w : World) (T : TypeId) (B s : Nat) (bs : List UInt8) (k : Nat) : Prop :=
  (∃ a c, Own w s T [.slice a bs.length c, .int .i64 (k : Int)] ∧ Ro w B a (u8s bs)) ∧ B ≤ s ∧ bs.length ≤ 1000000
theorem Src.lt {w : World} {T : TypeId} {B s : Nat} {bs : List UInt8} {k : Nat} (h : Src w T B s bs k) : s < w.heap.size := by
  obtain ⟨⟨a, c, h1, _⟩, _⟩ := h
  exact h1.lt
theorem Src.chg {w w' : World} {T : TypeId} {B s : Nat} {bs : List UInt8} {k : Nat} {l : List Nat} (h : Src w T B s bs k) (hc : Chg l w w') (hs : s ∉ l) (hl : ∀ x ∈ l, B ≤ x) : Src w' T B s bs k := by
  obtain ⟨⟨a, c, h1, h2⟩, h3, h4⟩ := h
  exact ⟨⟨a, c, h1.chg hc hs, h2.below (hc.below (Nat.le_trans h3 (Nat.le_of_lt h1.lt)) hl) (Nat.le_refl _)⟩, h3, h4⟩
theorem Src.new0 {w w' : World} {T : TypeId} {B s : Nat} {bs : List UInt8} {k : Nat} (h : Src w T B s bs k) (hc : Chg [] w w') : Src w' T B s bs k := h.chg hc (by simp) (by simp)
theorem Src.notT {w : World} {T t : TypeId} {B s : Nat} {bs : List UInt8} {k : Nat} (h : Src w T B s bs k) (ht : t ≠ T) : ∀ x ∈ [s], ∀ cur, w.heap[x]? ≠ some (.cells cur t (0, 0)) := by
  obtain ⟨⟨a, c, h1, h2⟩, h3, h4⟩ := h
  exact h1.notT' ht

set_option maxHeartbeats 1000000 in
theorem ltake_any (bs : List UInt8) (B s k m : Nat) (w : World) (h : Src w 149 B s bs k) (hk : k ≤ 1000000) (hm : m ≤ 64) :
    Calls Tryz.prog 133 #[.pointer (some ⟨s, 0, none⟩), .int .i64 (m : Int)] w fun e w' => e = .returned (.int .u64 (tkN bs k m : Nat)) ∧ Src w' 149 B s bs (k + m) ∧ Chg [s] w w' := by
  obtain ⟨⟨a, c, h1, h2⟩, h3, h4⟩ := h
  have HG : Hid (∀ W, Below w.heap.size w W → Calls Tryz.prog 89 #[.slice a bs.length c, .int .i64 (k : Int), .int .i64 (m : Int)] W fun e w' => ∃ ok, e = .returned (.tuple #[.int .u64 (tkN bs k m : Nat), .bool ok]) ∧ Below W.heap.size W w') := Lib.hid fun W hW =>
    getN_any bs bs.length a c B k m W rfl (h2.below hW (by have := h1.lt; omega)) (by have := h1.lt; have := hW.size; omega) h4 (by omega) hm
  obtain ⟨v, hv⟩ : ∃ v, tkN bs k m = v := ⟨_, rfl⟩
  rw [hv] at HG ⊢
  have c0 := h1.cell 0
  have c1 := h1.cell 1
  have hz := h1.lt
  simp at c0 c1
  have HO := Lib.hid h1
  have HR := Lib.hid (And.intro h2 (And.intro h3 h4))
  obtain ⟨n, hn⟩ : ∃ n, bs.length = n := ⟨_, rfl⟩
  rw [hn] at HO HG c0
  have HN := Lib.hid hn
  have e1 : wrap64 ((k : Int) + (m : Int)) = ((k + m : Nat) : Int) := by unfold wrap64; omega
  have HSS : Hid (Below w.heap.size w w.drew ∧ w.drew.cell? ⟨s, 0, none⟩ = some (.slice a n c) ∧ w.drew.cell? ⟨s, 1, none⟩ = some (.int .i64 (k : Int))) := Lib.hid ⟨(Below.refl _ _).drew, c0, c1⟩
  have HZ := Lib.hid hz
  clear h1 h2 h3 h4 hn hv
  go_enter Tryz.func133, Tryz.ntmps133
  go_wp2_with fail
  clear c0 c1 hz
  refine wp_region_held_drew (S := (fun W => Below w.heap.size w W ∧ W.cell? ⟨s, 0, none⟩ = some (.slice a n c) ∧ W.cell? ⟨s, 1, none⟩ = some (.int .i64 (k : Int)))) (by kernel_rfl) HSS.out (fun hHeld => ?_)
  refine wpAnyH_take (i := 0) (v := ?_) rfl (by kernel_rfl) (by kernel_rfl) (by kernel_rfl) (fun _ _ _ h => h) (Or.inl ⟨by kernel_rfl, ?_⟩) hHeld ?_
  rotate_left
  · (intro w hSw; first | (go_simp; done) | (go_simp; with_reducible rfl))
  (try simp only [Act.put, List.getElem_toArray, List.getElem_cons_succ, List.getElem_cons_zero, List.setIfInBounds_toArray, List.set_cons_zero, List.set_cons_succ])
  refine wpAnyH_take (i := 1) (v := ?_) rfl (by kernel_rfl) (by kernel_rfl) (by kernel_rfl) (fun _ _ _ h => h) (Or.inl ⟨by kernel_rfl, ?_⟩) hHeld ?_
  rotate_left
  · (intro w hSw; first | (go_simp; done) | (go_simp; with_reducible rfl))
  (try simp only [Act.put, List.getElem_toArray, List.getElem_cons_succ, List.getElem_cons_zero, List.setIfInBounds_toArray, List.set_cons_zero, List.set_cons_succ])
  refine wpAnyH_take (i := 2) (v := ?_) rfl (by kernel_rfl) (by kernel_rfl) (by kernel_rfl) (fun _ _ _ h => h) (Or.inl ⟨by kernel_rfl, ?_⟩) hHeld ?_
  rotate_left
  · (intro w hSw; first | (go_simp; done) | (go_simp; with_reducible rfl))
  (try simp only [Act.put, List.getElem_toArray, List.getElem_cons_succ, List.getElem_cons_zero, List.setIfInBounds_toArray, List.set_cons_zero, List.set_cons_succ])
  refine wpAnyH_take (i := 3) (v := ?_) rfl (by kernel_rfl) (by kernel_rfl) (by kernel_rfl) (fun _ _ _ h => h) (Or.inl ⟨by kernel_rfl, ?_⟩) hHeld ?_
  rotate_left
  · (intro w hSw; first | (go_simp; done) | (go_simp; with_reducible rfl))
  (try simp only [Act.put, List.getElem_toArray, List.getElem_cons_succ, List.getElem_cons_zero, List.setIfInBounds_toArray, List.set_cons_zero, List.set_cons_succ])
  refine wpAnyH_take (i := 4) (v := ?_) rfl (by kernel_rfl) (by kernel_rfl) (by kernel_rfl) (fun _ _ _ h => h) (Or.inl ⟨by kernel_rfl, ?_⟩) hHeld ?_
  rotate_left
  · (intro w hSw; first | (go_simp; done) | (go_simp; with_reducible rfl))
  (try simp only [Act.put, List.getElem_toArray, List.getElem_cons_succ, List.getElem_cons_zero, List.setIfInBounds_toArray, List.set_cons_zero, List.set_cons_succ])
  refine wpAnyH_take (i := 5) (v := ?_) rfl (by kernel_rfl) (by kernel_rfl) (by kernel_rfl) (fun _ _ _ h => h) (Or.inl ⟨by kernel_rfl, ?_⟩) hHeld ?_
  rotate_left
  · (intro w hSw; first | (go_simp; done) | (go_simp; with_reducible rfl))
  (try simp only [Act.put, List.getElem_toArray, List.getElem_cons_succ, List.getElem_cons_zero, List.setIfInBounds_toArray, List.set_cons_zero, List.set_cons_succ])
  refine wpAnyH_take (i := 6) (v := ?_) rfl (by kernel_rfl) (by kernel_rfl) (by kernel_rfl) (fun _ _ _ h => h) (Or.inl ⟨by kernel_rfl, ?_⟩) hHeld ?_
  rotate_left
  · (intro w hSw; first | (go_simp; done) | (go_simp; with_reducible rfl))
  (try simp only [Act.put, List.getElem_toArray, List.getElem_cons_succ, List.getElem_cons_zero, List.setIfInBounds_toArray, List.set_cons_zero, List.set_cons_succ])
  refine wpAnyH_take (i := 7) (v := ?_) rfl (by kernel_rfl) (by kernel_rfl) (by kernel_rfl) (fun _ _ _ h => h) (Or.inl ⟨by kernel_rfl, ?_⟩) hHeld ?_
  rotate_left
  · (intro w hSw; first | (go_simp; done) | (go_simp; with_reducible rfl))
  (try simp only [Act.put, List.getElem_toArray, List.getElem_cons_succ, List.getElem_cons_zero, List.setIfInBounds_toArray, List.set_cons_zero, List.set_cons_succ])
  refine wpAnyH_take (i := 8) (v := ?_) rfl (by kernel_rfl) (by kernel_rfl) (by kernel_rfl) (fun _ _ _ h => h) (Or.inl ⟨by kernel_rfl, ?_⟩) hHeld ?_
  rotate_left
  · (intro w hSw; first | (go_simp; done) | (go_simp; with_reducible rfl))
  (try simp only [Act.put, List.getElem_toArray, List.getElem_cons_succ, List.getElem_cons_zero, List.setIfInBounds_toArray, List.set_cons_zero, List.set_cons_succ])
  refine wpAnyH_ready (rs := [9]) (by kernel_rfl) (by simp) (AllReadyH.cons rfl (fun K hK => ?_) AllReadyH.nil)
  have hH := hHeld
  (go_simp; go_at_call 89; refine (HG.out _ hH.1).mono ?_; rintro e w6 ⟨ok, rfl, hb6⟩)
  refine hK.out _ _ (by exact ⟨hH.1.trans (hb6.mono hH.1.size), cell_keep hb6 hH.2.1 (World.block_lt_of_cell? _ _ hH.2.1), cell_keep hb6 hH.2.2 (World.block_lt_of_cell? _ _ hH.2.2)⟩) (fun hHq1 => ?_)
  clear hK K hH 
  (try simp only [Act.put, List.getElem_toArray, List.getElem_cons_succ, List.getElem_cons_zero, List.setIfInBounds_toArray, List.set_cons_zero, List.set_cons_succ])
  refine wpAnyH_take (i := 10) (v := ?_) rfl (by kernel_rfl) (by kernel_rfl) (by kernel_rfl) (fun _ _ _ h => h) (Or.inl ⟨by kernel_rfl, ?_⟩) hHq1 ?_
  rotate_left
  · (intro w hSw; first | (go_simp; done) | (go_simp; with_reducible rfl))
  (try simp only [Act.put, List.getElem_toArray, List.getElem_cons_succ, List.getElem_cons_zero, List.setIfInBounds_toArray, List.set_cons_zero, List.set_cons_succ])
  refine wpAnyH_take (i := 11) (v := ?_) rfl (by kernel_rfl) (by kernel_rfl) (by kernel_rfl) (fun _ _ _ h => h) (Or.inl ⟨by kernel_rfl, ?_⟩) hHq1 ?_
  rotate_left
  · (intro w hSw; first | (go_simp; done) | (go_simp; with_reducible rfl))
  (try simp only [Act.put, List.getElem_toArray, List.getElem_cons_succ, List.getElem_cons_zero, List.setIfInBounds_toArray, List.set_cons_zero, List.set_cons_succ])
  refine wpAnyH_take (i := 12) (v := ?_) rfl (by kernel_rfl) (by kernel_rfl) (by kernel_rfl) (fun _ _ _ h => h) (Or.inl ⟨by kernel_rfl, ?_⟩) hHq1 ?_
  rotate_left
  · (intro w hSw; first | (go_simp; done) | (go_simp; with_reducible rfl))
  (try simp only [Act.put, List.getElem_toArray, List.getElem_cons_succ, List.getElem_cons_zero, List.setIfInBounds_toArray, List.set_cons_zero, List.set_cons_succ])
  refine wpAnyH_take (i := 13) (v := ?_) rfl (by kernel_rfl) (by kernel_rfl) (by kernel_rfl) (fun _ _ _ h => h) (Or.inl ⟨by kernel_rfl, ?_⟩) hHq1 ?_
  rotate_left
  · (intro w hSw; first | (go_simp; done) | (go_simp; with_reducible rfl))
  (try simp only [Act.put, List.getElem_toArray, List.getElem_cons_succ, List.getElem_cons_zero, List.setIfInBounds_toArray, List.set_cons_zero, List.set_cons_succ])
  refine wpAnyH_take (i := 14) (v := ?_) rfl (by kernel_rfl) (by kernel_rfl) (by kernel_rfl) (fun _ _ _ h => h) (Or.inl ⟨by kernel_rfl, ?_⟩) hHq1 ?_
  rotate_left
  · (intro w hSw; first | (go_simp; done) | (go_simp; with_reducible rfl))
  (try simp only [Act.put, List.getElem_toArray, List.getElem_cons_succ, List.getElem_cons_zero, List.setIfInBounds_toArray, List.set_cons_zero, List.set_cons_succ])
  refine wpAnyH_done (by kernel_rfl) ?_ _
  have hEnd := hHq1
  have hb := hEnd.1
  have HB := Lib.hid hb
  have HO2 := Lib.hid (HO.out.below hb HZ.out)
  have q1 := HO2.out.cell 1
  have f1 := HO2.out.frozen 1
  have hz2 := HO2.out.lt
  simp at q1
  clear hHeld hEnd hb hb6
  go_wp2_with fail
  go_ret
  refine ⟨rfl, ⟨⟨a, c, ?_, (HR.out.1.below HB.out (by have := HZ.out; have := HR.out.2.1; omega)).below ((Below.refl B _).setCell (by exact HR.out.2.1) _) (Nat.le_refl _)⟩, HR.out.2.1, HR.out.2.2⟩, ?_⟩
  · rw [HN.out]
    exact HO2.out.set 1 _
  · exact ((Chg.refl [s] w).of_below HB.out).setCell (by simp) _

theorem tkN_64 (bs : List UInt8) (k m : Nat) (hm : m ≤ 64) : tkN bs k m < 18446744073709551616 := by
  have h1 := tkN_lt bs k m
  have h2 := pow_le_64 hm
  omega
set_option maxHeartbeats 1000000 in
theorem ltakeC_any (bs : List UInt8) (B s k : Nat) (w : World) (h : Src w 149 B s bs k) (hk : k ≤ 1000000) :
    Calls Tryz.prog 134 #[.pointer (some ⟨s, 0, none⟩)] w fun e w' => e = .returned (.int .u64 (tkN bs k 2 + 1 : Nat)) ∧ Src w' 149 B s bs (k + 2) ∧ Chg [s] w w' := by
  have HT := Lib.hid (ltake_any bs B s k 2 w h hk (by omega))
  have h4 := tkN_lt bs k 2
  generalize tkN bs k 2 = v at *
  have e1 : IntKind.u64.wrap ((v : Int) + 1) = ((v + 1 : Nat) : Int) := wrap_u64_nat (v + 1) (by omega)
  clear h
  go_enter Tryz.func134, Tryz.ntmps134
  go_wp2_with fail
  refine HT.out.mono ?_
  rintro e w1 ⟨rfl, h1, h2⟩
  have H1 := Lib.hid h1
  have H2 := Lib.hid h2
  clear h1 h2
  go_wp2_with fail
  go_ret
  exact ⟨ret_int (by omega), H1.out, H2.out⟩
theorem rep_at {α : Type} {p : Nat → α × Nat} {d : Nat} (h : ∀ k, (p k).2 ≤ k + d) : ∀ n k, (rep p n k).2 ≤ k + n * d
  | 0, k => by simp [rep]
  | n + 1, k => by
    have ih := rep_at h n k
    have := h (rep p n k).2
    rw [rep, Nat.succ_mul]
    simp only
    omega
theorem pCh_at (bs : List UInt8) (k : Nat) : (pCh bs k).2 ≤ k + 22 ∧ (pCh bs k).1.length ≤ 4 := by
  have h1 := rep_at (p := pU bs) (d := 5) (fun k => Nat.le_refl _) (tkN bs k 2 + 1) (k + 2)
  have h2 := tkN_lt bs k 2
  unfold pCh
  rw [rep_length]
  omega
theorem pU_at (bs : List UInt8) (n k : Nat) : (rep (pU bs) n k).2 = k + 5 * n := by
  induction n with
  | zero => rfl
  | succ n ih => simp only [rep, ih, pU]; omega
set_option maxHeartbeats 1000000 in
theorem lpch_any (bs : List UInt8) (B s k : Nat) (w : World) (h : Src w 149 B s bs k) (hk : k ≤ 900000) :
    Calls Tryz.prog 148 #[.pointer (some ⟨s, 0, none⟩)] w fun e w' => ∃ a c, e = .returned (.slice a (pCh bs k).1.length c) ∧ Lst w' w.heap.size 3 (.slice a (pCh bs k).1.length c) (i64s (pCh bs k).1) ∧ Src w' 149 B s bs (pCh bs k).2 ∧ Chg [s] w w' := by
  have HT := Lib.hid (ltakeC_any bs B s k w h (by omega))
  have HZ := Lib.hid h.lt
  obtain ⟨n, hn⟩ : ∃ n, tkN bs k 2 + 1 = n := ⟨_, rfl⟩
  have hn4 : n ≤ 4 := by have := tkN_lt bs k 2; omega
  have HP : Hid (pCh bs k = rep (pU bs) n (k + 2)) := Lib.hid (by unfold pCh; rw [hn])
  rw [hn] at HT
  have hn4' : (n : Int) ≤ 4 := by omega
  have HK := Lib.hid hk
  clear h hn hk
  go_enter Tryz.func148, Tryz.ntmps148
  go_wp2_with fail
  refine HT.out.mono ?_
  rintro e w1 ⟨rfl, h1, h2⟩
  have H1 : Hid (Src w1 149 B s bs (rep (pU bs) 0 (k + 2)).2) := Lib.hid h1
  have H2 := Lib.hid h2
  clear h1 h2
  go_wp2_with fail
  go_loopw [3, 6] (fun v i wr => ∃ (j : Nat) (al : Option Addr) (cl : Nat), j ≤ n ∧ i = .int .u64 (j : Int) ∧ v = .slice al j cl ∧ Hid (Lst wr w.heap.size 3 (.slice al j cl) (i64s (rep (pU bs) j (k + 2)).1)) ∧ Hid (Src wr 149 B s bs (rep (pU bs) j (k + 2)).2) ∧ Hid (Chg [s] w wr)) (fun _ i _ => n - (intOf i).toNat)
  case atStart => exact ⟨0, none, 0, Nat.zero_le _, rfl, rfl, Lib.hid (Lst.nil _ _ _), H1, H2⟩
  case round =>
    obtain ⟨j, al, cl, hj, rfl, rfl, HL, HX, HC⟩ := hrel
    rename World => w6
    by_cases hlt : j < n
    · have hj0 : (0 : Int) ≤ (j : Int) := by omega
      have hj1 : (j : Int) < (n : Int) := by omega
      have HR : Hid (rep (pU bs) (j + 1) (k + 2) = ((rep (pU bs) j (k + 2)).1 ++ [(pU bs (rep (pU bs) j (k + 2)).2).1], (pU bs (rep (pU bs) j (k + 2)).2).2)) := Lib.hid rfl
      have HLn : Hid ((i64s (rep (pU bs) j (k + 2)).1).length ≤ 4) := Lib.hid (by simp [i64s, rep_length]; omega)
      have HQ := pU_at bs j (k + 2)
      generalize rep (pU bs) j (k + 2) = r at *
      obtain ⟨xs, q⟩ := r
      simp only [pU] at HR HL HX HLn HQ
      have HTK := Lib.hid (ltake_any bs B s q 5 w6 HX.out (by have := HK.out; omega) (by omega))
      have hv := tkN_lt bs q 5
      generalize tkN bs q 5 = v at *
      have e2 : IntKind.i64.wrap (v : Int) = (v : Int) := by rw [IntKind.wrap_i64]; omega
      clear HQ
      go_wp2_with fail
      refine HTK.out.mono ?_
      rintro e w7 ⟨rfl, h1, h2⟩
      have H1 := Lib.hid h1
      have HC7 := Lib.hid (HC.out.trans h2)
      have HL7 := Lib.hid (HL.out.chg h2 (HX.out.notT (by decide)))
      clear h1 h2
      go_wp2_with (at_builtin; refine wpList_app1g rfl (.tmp 8) (.tmp 12) 33 rfl w.heap.size 3 (.int .i64 0) 8 Tryz.underlying33 Tryz.info_i64 rfl (.int .i64 (v : Int)) rfl (.slice al j cl) (i64s xs) rfl HL7.out rfl (by have := HLn.out; omega) (by have := HLn.out; omega) HC7.out.size ?_)
      intro v' w8 hl8 hc8
      have hrow := fun x (hx : x ∈ rowOf (.slice al j cl)) => (HL7.out.row x hx).1
      have hns : s ∉ rowOf (.slice al j cl) := fun hx => by have := hrow s hx; have := HZ.out; omega
      have HX8 := Lib.hid (H1.out.chg hc8 hns (fun x hx => by have := hrow x hx; have := H1.out.2.1; have := HZ.out; omega))
      have HC8 : Hid (Chg [s] w w8) := Lib.hid (HC7.out.then hc8 (fun x hx => .inr (hrow x hx)))
      have HL8 : Hid (Lst w8 w.heap.size 3 v' (i64s (xs ++ [(v : Int)]))) := Lib.hid (by have := hl8.out; simpa [i64s] using this)
      have HLen : Hid ((i64s (xs ++ [(v : Int)])).length = j + 1) := Lib.hid (by
        obtain ⟨a', c', he, _⟩ := HL7.out.form
        injection he with _ h2 _
        simp [i64s] at h2 ⊢
        omega)
      clear hrow hns hl8 hc8
      obtain ⟨a8, c8, hv8, _, _, _⟩ := HL8.out.form
      rw [HLen.out] at hv8
      subst hv8
      go_wp2_with fail
      go_roundw
      case rel => exact ⟨j + 1, a8, c8, by omega, by go_num, rfl, by rw [HR.out]; exact HL8, by rw [HR.out]; exact HX8, HC8⟩
      case measure => simp [intOf]; omega
    · obtain rfl : j = n := by omega
      go_wp2_with fail
      go_ret
      rw [HP.out]
      have e : (rep (pU bs) j (k + 2)).1.length = j := rep_length _ _ _
      rw [e]
      exact ⟨al, cl, rfl, HL.out, HX.out, HC.out⟩
end Go.Proofs.YtdpaofedepnnbaaGreat
