/-
  slices.Sorted(maps.Keys(m)) of a map with keys of uint64: what comes, gathered and sorted. No claim of their own.
-/
import Derived.Test.YtmpajlpemabniaaGreatJ25
import Derived.Test.YtmpajlpemabniaaGreatTpJ
import Derived.Test.YtmpajlpemabniaaGreatJ10
namespace Go.Proofs.YtmpajlpemabniaaGreat
open Go.RowKit Go.Maps Go.Sort Go.Shelf Go.Deep
set_option linter.unusedVariables false
set_option linter.unusedSimpArgs false
attribute [local go_sem] Oper.semAt_some

theorem keepsWalks_chg {l : List Nat} {W W' : World} (h : Chg l W W') (hl : ∀ k ∈ l, k < W.heap.size → ∃ c t m, W.heap[k]? = some (.cells c t m)) : KeepsWalks W W' :=
  ⟨h.size, fun k o hk ho => by
    refine (h.block k (Array.getElem?_eq_some_iff.1 hk).1 (fun hm => ?_)).trans hk
    obtain ⟨c, t, mm, hc⟩ := hl k hm (Array.getElem?_eq_some_iff.1 hk).1
    rw [hk] at hc
    cases hc
    cases ho⟩
/-- gathering under way: the box, and what has come -/
structure ApI (w : World) (b2 : Nat) (xs : List Nat) (W : World) : Prop where
  box : ∃ v, Own W b2 79 [v] ∧ Lst W w.heap.size 37 v (u64s xs)
  chg : Chg [] w W
theorem u64s_one (l : List Nat) : ∀ v ∈ u64s l, v.oneCell' = true := by
  intro v hv
  simp only [u64s, List.mem_map] at hv
  obtain ⟨x, _, rfl⟩ := hv
  rfl
set_option maxRecDepth 100000 in
set_option maxHeartbeats 2000000 in
theorem appendSeq_any (w : World) (Bm b : Nat) (V : Nat → Option Value) (hm : Own w Bm 136 [.map (some b)]) (hv : MapV w b V) :
    Calls Tryz.prog 228 #[.slice none 0 0, .func (.func 192) #[] #[.pointer (some ⟨Bm, 0, none⟩)]] w fun e w' => ∃ (v : Value) (xs : List Nat), e = .returned v ∧ AllK V xs ∧ Lst w' w.heap.size 37 v (u64s xs) ∧ Chg [] w w' := by
  have HM := Lib.hid (And.intro hm hv)
  clear hm hv
  refine (callsIn_wide (n := 5)).1 ?_
  refine callsIn_of_wp_marks Tryz.func228 rfl trivial ?_ rfl
  simp only [Tryz.ntmps228, List.size_toArray, List.length_cons, List.length_nil, Nat.reduceAdd, Nat.reduceSub, Array.replicate_succ, Array.replicate_zero, List.push_toArray, List.append_toArray, List.nil_append, List.cons_append]
  obtain ⟨w1, HW1⟩ : ∃ W, Hid (w.alloc (.cells #[.slice none 0 0] 79) = W) := ⟨_, Lib.hid rfl⟩
  have hC1 : Chg [] w w1 := by rw [← HW1.out]; exact (Chg.refl [] w).alloc _
  have hs1 : w1.heap.size = w.heap.size + 1 := by rw [← HW1.out]; simp
  have ho1 : Own w1 w.heap.size 79 [.slice none 0 0] := by rw [← HW1.out]; exact Own.new w _ _
  have hseq := keys_stops 4 Bm b V w1 (HM.out.1.chg hC1 (by simp)) (HM.out.2.kept hC1) KeepsWalks (fun _ _ h => h)
  have H0 := Lib.hid (show ApI w w.heap.size [] w1 from ⟨⟨_, ho1, Lst.nil _ _ _⟩, hC1⟩)
  have HSEQ := Lib.hid hseq
  have HS1 := Lib.hid hs1
  clear hC1 hs1 ho1 hseq
  gi_wp2_with fail
  rw [HW1.out]
  refine wpIn_rangeFunc_ownH rfl (by omega) (gf := 192) (lb := #[.pointer (some ⟨Bm, 0, none⟩)]) rfl trivial (enters_of Tryz.func192 (by kernel_rfl) rfl) HSEQ.out
    (fun h k => h.trans k) (fun W l o o' _ ho _ hw => KeepsWalks.putObj _ ho hw) (Below.refl _ _) (fun _ => rfl)
    (ApI w w.heap.size) (fun _ _ _ => False) ?hI ?hIx ?h0
    (fun x a' W => a' = { tmps := #[.slice none 0 0, .func (.func 192) #[] #[.pointer (some ⟨Bm, 0, none⟩)], .pointer (some ⟨w.heap.size, 0, none⟩), undef, .slice none 0 0, .int .u64 (x : Int), .func (.func 192) #[] #[.pointer (some ⟨Bm, 0, none⟩)], .int .u64 (x : Int), undef, undef, undef, undef, undef], defers := [] }) ?hAx ?assign ?body ?done ?stop
  case hI =>
    rintro xs X Y row h1 hg hr
    obtain ⟨v, h2, h3⟩ := h1.box
    have hr2 := fun r e => (hr r e).2
    exact ⟨⟨v, own_kept h2 hg hr2, lst_kept h3 hg hr2⟩, chg_row h1.chg hg hr (by have := HS1.out; omega)⟩
  case hIx => exact fun _ _ _ _ _ h _ _ => h.elim
  case h0 => exact H0.out
  case hAx => exact fun x a' => ownFrom_pure _ _
  case assign =>
    rintro l pre x W K h1 hK
    unfold encU
    have HK := Lib.hid hK
    clear hK
    gi_wp2_with fail
    exact HK.out _ _ (keepsFrom_below (Below.refl _ _)) (KeepsWalks.refl _) h1 rfl
  case body =>
    rintro l pre x a' W hl hlr h1 rfl hlt
    obtain ⟨v, h2, h3⟩ := h1.box
    obtain ⟨a, c, rfl, -⟩ := h3.form
    rw [u64s_length] at h2 h3
    obtain ⟨N, HN⟩ : ∃ N, Hid (pre.length = N) := ⟨_, Lib.hid rfl⟩
    rw [HN.out] at h2 h3 hlt
    obtain ⟨v, hvE⟩ : ∃ v, v = Value.slice a N c := ⟨_, rfl⟩
    rw [← hvE] at h2 h3
    have HVE := Lib.hid hvE
    rw [hvE] at h2
    have c0 := h2.cell 0
    have f0 := h2.frozen 0
    simp at c0
    rw [hvE] at h3
    have HH := Lib.hid (And.intro h2 (And.intro h3 h1.chg))
    clear hvE HVE v
    obtain ⟨i0, hi, hz0, hz1, hz2⟩ := info_parts Tryz.info_u64
    have hbl := h2.lt
    clear h1 h2 h3
    gi_wp2_with (first
      | (gi_at_builtin; refine wpListIn_append_own _ rfl _ _ 79 rfl w.heap.size 37 i0 (.int .u64 0) 1 8 Tryz.underlying79 hi hz0 hz1 hz2 rfl (by decide) _ _ _ rfl (show World.ownsRow _ _ _ _ _ N _ from by have := HH.out.2.1.alloc (.cells #[.int .u64 (x : Int)] 37); unfold Lst at this; rwa [u64s_length, HN.out] at this) ⟨W.heap.size, 0, none⟩ 1 1 [.int .u64 (x : Int)] rfl rfl (cell_one_new _ _ _) (by simp [Value.oneCell']) (by unfold maxLen; omega) (by omega) (by have := HH.out.2.2.size; simp; omega) ?_; intro v' w3 hown' hg3 hnil3
         obtain ⟨a5, n5, c5, rfl⟩ : ∃ a5 n5 c5, v' = .slice a5 n5 c5 := by
           rcases hown'.2 with ⟨rfl, _⟩ | ⟨g5, c5, r5, rfl, _⟩
           · exact ⟨_, _, _, rfl⟩
           · exact ⟨_, _, _, rfl⟩
         have hne : (Value.slice a N c).ownBlock ≠ some w.heap.size := fun e => by
           obtain ⟨cc, hcc⟩ := (HH.out.2.1.base (Nat.zero_le _)).typ e
           have h9 := HH.out.1
           unfold Own at h9
           rw [hcc] at h9
           simp at h9
         have ho3 := (HH.out.1.alloc (.cells #[.int .u64 (x : Int)] 37)).grown hg3 (fun e => hne e.symm)
         have c3 := ho3.cell 0
         have f3 := ho3.frozen 0
         simp at c3)
      | fail)
    have hCW : Chg (bl (.slice a N c) ++ [w.heap.size]) W (w3.setCell ⟨w.heap.size, 0, none⟩ (.slice a5 n5 c5)) := ((((Chg.refl _ W).alloc _).grown hg3 (fun k e => .inl (List.mem_append_left _ (mem_bl.2 e)))).setCell (by simp) _)
    have hcl : ∀ k ∈ bl (.slice a N c) ++ [w.heap.size], k < W.heap.size → ∃ c t m, W.heap[k]? = some (.cells c t m) := fun y hy hlt => by
      rcases List.mem_append.1 hy with hy | hy
      · obtain ⟨cc, hcc⟩ := (HH.out.2.1.base (Nat.zero_le _)).typ (mem_bl.1 hy)
        exact ⟨_, _, _, hcc⟩
      · simp at hy
        subst hy
        exact ⟨_, _, _, HH.out.1⟩
    refine ⟨keepsFrom_chg hCW hcl, keepsWalks_chg hCW hcl, ⟨_, ho3.set 0 _, ?_⟩, HH.out.2.2.then hCW (fun y hy => .inr ?_)⟩
    · have h6 : Lst w3 w.heap.size 37 (.slice a5 n5 c5) (u64s (pre ++ [x])) := by
        unfold Lst
        have e2 : u64s (pre ++ [x]) = u64s pre ++ [.int .u64 (x : Int)] := by simp [u64s]
        rw [e2, List.length_append, u64s_length, HN.out]
        exact hown'
      exact h6.chg (l := [w.heap.size]) ((Chg.refl _ _).setCell (by simp) _) (fun g hg hm => by
        obtain ⟨cc, hcc⟩ := (h6.base (Nat.zero_le _)).typ hg
        simp at hm
        subst hm
        have h9 := ho3
        unfold Own at h9
        rw [hcc] at h9
        simp at h9)
    · rcases List.mem_append.1 hy with hy | hy
      · exact (HH.out.2.1.lt _ (mem_bl.1 hy)).1
      · simp at hy
        omega
  case done =>
    rintro D xs W hD hS h1 hK
    obtain ⟨v, h2, h3⟩ := h1.box
    have c0 := h2.cell 0
    simp at c0
    have HH := Lib.hid (And.intro h2 (And.intro h3 h1.chg))
    have HK := Lib.hid hK
    clear h1 h2 h3 hK
    gi_wp2_with fail
    refine ⟨by simp, .inl ⟨_, _, rfl, run_takeDeferred HK.out, ?_⟩⟩
    have hg : W.grownBy (W.putObj D (.deferred none)) (some D) := grownBy_putObj' _ D (.deferred none)
    have hs1 := HS1.out
    have hCE := HH.out.2.2.grown hg (fun y hy => by injection hy with hy; subst hy; right; omega)
    have hl5 := lst_kept HH.out.2.1 hg (fun r hr => by injection hr with hr; subst hr; exact ⟨_, HK.out, rfl⟩)
    refine ⟨v, by simp [results, Tryz.results228, go_sem], ?_⟩
    exact ⟨v, xs, rfl, hS, hl5, hCE⟩
  case stop => exact fun D c pre W _ _ h _ => h.elim
end Go.Proofs.YtmpajlpemabniaaGreat
namespace Go.Proofs.YtmpajlpemabniaaGreat
open Go.RowKit Go.Maps Go.Sort Go.Shelf Go.Deep
set_option linter.unusedVariables false
set_option linter.unusedSimpArgs false

theorem bitsLen_any (n : Nat) (hn : n < 1000000000) (w : World) : Calls Tryz.prog 212 #[.int .u64 (n : Int)] w fun e w' => e = .returned (.int .i64 (bitsLen n : Nat)) ∧ w' = w := by
  have h := Any.bits_Len (SlLaysF0.n15.bits (P := Tryz.prog) (ρ := nextA_ren) { nextA with }) (n : Int) w (by omega) (by omega)
  rwa [Int.toNat_natCast, bitLen_eq _ (by omega)] at h
theorem insertion_none (w : World) (c : Nat) : Calls Tryz.prog 251 #[.slice none 0 c, .int .i64 0, .int .i64 0] w fun e w' => e = .returned (.tuple #[]) ∧ w' = w := by
  go_enter Tryz.func251, Tryz.ntmps251
  go_wp2_with fail
  go_loopw [6] (fun vi wr => vi = .int .i64 1 ∧ wr = w) (fun vi _ => 0)
  case atStart => exact ⟨rfl, rfl⟩
  case round =>
    obtain ⟨rfl, rfl⟩ := hrel
    go_wp2_with fail
    go_end0
    exact ⟨rfl, rfl⟩
theorem pdq_none (w : World) (c : Nat) : Calls Tryz.prog 229 #[.slice none 0 c, .int .i64 0, .int .i64 0, .int .i64 0] w fun e w' => e = .returned (.tuple #[]) ∧ w' = w := by
  go_enter Tryz.func229, Tryz.ntmps229
  go_wp2_with fail
  go_loopw [1, 2, 3, 8, 9] (fun v1 v2 v3 v8 v9 wr => v1 = .int .i64 0 ∧ v2 = .int .i64 0 ∧ v3 = .int .i64 0 ∧ v8 = .bool true ∧ v9 = .bool true ∧ wr = w) (fun _ _ _ _ _ _ => 0)
  case atStart => exact ⟨rfl, rfl, rfl, rfl, rfl, rfl⟩
  case round =>
    obtain ⟨rfl, rfl, rfl, rfl, rfl, rfl⟩ := hrel
    go_wp2_with fail
    refine (insertion_none wr c).mono ?_
    rintro e w2 ⟨rfl, rfl⟩
    go_wp2_with fail
    (try simp only [Exit.inBlock, Exit.then])
    refine bodyPost_ret (results_none rfl _ _ _) rfl ?_
    exact ⟨rfl, rfl⟩
/-- sorted by value: what two lists in order have in common is all -/
theorem sorted_eq {A B : List Nat} (h : A.Perm B) (hA : A.Pairwise (· ≤ ·)) (hB : B.Pairwise (· ≤ ·)) : A = B := by
  have hp : (A.map (fun (x : Nat) => (x : Int))).Perm (B.map (fun (x : Nat) => (x : Int))) := h.map _
  have s : ∀ L : List Nat, L.Pairwise (· ≤ ·) → (L.map (fun (x : Nat) => (x : Int))).Pairwise (fun a b => leI a b = true) := fun L hL => List.Pairwise.map _ (fun a b (hab : a ≤ b) => by simp only [leI, decide_eq_true_eq]; omega) hL
  have e := mergeSort_of_perm_i hp
  have e1 : (A.map (fun (x : Nat) => (x : Int))).mergeSort leI = A.map (fun (x : Nat) => (x : Int)) := List.mergeSort_of_pairwise (s A hA)
  have e2 : (B.map (fun (x : Nat) => (x : Int))).mergeSort leI = B.map (fun (x : Nat) => (x : Int)) := List.mergeSort_of_pairwise (s B hB)
  rw [e1, e2] at e
  exact List.map_inj_right (fun x y e => by omega) |>.1 e
def ints (xs : List Nat) : Array Int := (xs.map (fun (x : Nat) => (x : Int))).toArray
theorem us_ints (xs : List Nat) : us (ints xs) = u64s xs := by simp [us, ints, u64s]
theorem ints_size (xs : List Nat) : (ints xs).size = xs.length := by simp [ints]
theorem of_ordered {xs : List Nat} {R : Array Int} (hp : PermIn 0 xs.length (ints xs) R) (hs : SortedIn ltInt 0 xs.length R) : ∃ ys : List Nat, R = ints ys ∧ ys.Perm xs ∧ ys.Pairwise (· ≤ ·) := by
  have hsz : R.size = xs.length := by rw [hp.1, ints_size]
  have h1 : R.toList.Perm (xs.map (fun (x : Nat) => (x : Int))) := by
    have := hp.2.2
    rw [show R.extract 0 xs.length = R by rw [← hsz]; simp, show (ints xs).extract 0 xs.length = ints xs by rw [← ints_size xs]; simp] at this
    simpa [ints] using this
  have hnn : ∀ x ∈ R.toList, ((x.toNat : Nat) : Int) = x := fun x hx => by
    have := h1.mem_iff.1 hx
    simp only [List.mem_map] at this
    obtain ⟨y, _, rfl⟩ := this
    omega
  have hR : R.toList = (R.toList.map Int.toNat).map (fun (x : Nat) => (x : Int)) := by
    rw [List.map_map]
    have : R.toList.map ((fun (x : Nat) => (x : Int)) ∘ Int.toNat) = R.toList.map id := List.map_congr_left fun x hx => hnn x hx
    rw [this, List.map_id]
  refine ⟨R.toList.map Int.toNat, ?_, ?_, ?_⟩
  · unfold ints
    rw [← hR]
  · have h2 := h1.map Int.toNat
    rw [List.map_map] at h2
    have : xs.map (Int.toNat ∘ fun (x : Nat) => (x : Int)) = xs.map id := List.map_congr_left fun x hx => by simp
    rw [this, List.map_id] at h2
    exact h2
  · refine List.Pairwise.map (R := fun a b : Int => a ≤ b) _ (fun a b (hab : a ≤ b) => by omega) ?_
    rw [List.pairwise_iff_getElem]
    intro i j hi hj hij
    have := hs i j (Nat.zero_le _) hij (by simpa [hsz] using hj)
    simp only [ltInt, decide_eq_false_iff_not] at this
    have e1 : R[i]! = R.toList[i] := by simp at hi; simp [hi]
    have e2 : R[j]! = R.toList[j] := by simp at hj; simp [hj]
    rw [e1, e2] at this
    omega
theorem sort_any (w : World) (base : Nat) (v : Value) (xs : List Nat) (h : Lst w base 37 v (u64s xs)) (hl : xs.length ≤ 1048576) :
    Calls Tryz.prog 191 #[v] w fun e w' => e = .returned (.tuple #[]) ∧ ∃ ys : List Nat, ys.Perm xs ∧ ys.Pairwise (· ≤ ·) ∧ Lst w' base 37 v (u64s ys) ∧ Chg (bl v) w w' := by
  rcases h.2 with ⟨rfl, hz⟩ | ⟨g, cap, cur, rfl, hb, hg, hnc, hcm, hcs, htk⟩
  · rw [u64s_length] at hz
    have hx : xs = [] := List.eq_nil_of_length_eq_zero hz
    subst hx
    have HB := Lib.hid (fun w => bitsLen_any 0 (by omega) w)
    have hb0 : bitsLen 0 = 0 := by decide
    rw [hb0] at HB
    go_enter Tryz.func191, Tryz.ntmps191
    go_wp2_with fail
    refine (HB.out _).mono ?_
    rintro e w2 ⟨rfl, rfl⟩
    go_wp2_with fail
    refine (pdq_none w2 0).mono ?_
    rintro e w3 ⟨rfl, rfl⟩
    go_wp2_with fail
    go_end0
    exact ⟨rfl, [], List.Perm.refl _, List.Pairwise.nil, h, Chg.refl _ _⟩
  · rw [u64s_length] at hnc htk
    rw [Nat.mul_one] at htk hcs
    obtain ⟨N, hN⟩ : ∃ N, Hid (xs.length = N) := ⟨_, Lib.hid rfl⟩
    have hcl : cur.toList = us (ints xs) ++ cur.toList.drop xs.length := by
      rw [us_ints, ← htk, List.take_append_drop]
    have hu : Uw w g (ints xs) (cur.toList.drop xs.length) := by
      unfold Uw Own
      rw [← hcl]
      exact hg
    have CP := Lib.hid (pdq_any (N + 1) w g N cap 0 N (bitsLen N) (ints xs) (cur.toList.drop xs.length) (by omega) hu (by rw [ints_size]; exact hN.out) (Nat.zero_le _) (Nat.le_refl _) (by have := hN.out; omega) (Nat.le_trans ((bitsLen_le_iff N 62).2 (by have := hN.out; omega)) (by omega)) (.inl rfl))
    have HB := Lib.hid (fun w => bitsLen_any N (by have := hN.out; omega) w)
    have hwN : IntKind.u64.wrap (N : Int) = (N : Int) := by rw [IntKind.wrap_u64]; have := hN.out; omega
    have HC := Lib.hid (And.intro hb (And.intro hnc (And.intro hcm (And.intro hcs hcl))))
    rw [u64s_length, hN.out]
    obtain ⟨L0, hL0⟩ : ∃ L, Hid (bitsLen N = L) := ⟨_, Lib.hid rfl⟩
    rw [hL0.out] at CP HB
    clear hu hcl hg htk hcs hb hnc hcm h
    go_enter Tryz.func191, Tryz.ntmps191
    go_wp2_with fail
    refine (HB.out _).mono ?_
    rintro e w2 ⟨rfl, rfl⟩
    go_wp2_with fail
    refine CP.out.mono ?_
    rintro e w3 ⟨rfl, HO⟩
    obtain ⟨R, p, s, HS⟩ := HO.out
    rw [← hN.out] at p s
    obtain ⟨ys, rfl, hperm, hsorted⟩ := of_ordered p s
    have HY := Lib.hid (And.intro hperm (And.intro hsorted HS))
    clear p s HS HO hperm hsorted
    go_wp2_with fail
    go_end0
    obtain ⟨h1, h2, h3, h4⟩ := HY.out
    refine ⟨rfl, ys, h1, h2, ?_, by simpa [bl, Value.ownBlock] using h4⟩
    have hyl : ys.length = N := by rw [h1.length_eq, hN.out]
    unfold Uw Own at h3
    refine ⟨by rw [u64s_length]; exact (Nat.mul_one _).symm, .inr ⟨g, cap, (us (ints ys) ++ cur.toList.drop xs.length).toArray, by rw [u64s_length, hyl], HC.out.1, h3, by rw [u64s_length, hyl, ← hN.out]; exact HC.out.2.1, HC.out.2.2.1, ?_, ?_⟩⟩
    · have e1 := congrArg List.length HC.out.2.2.2.2
      simp only [List.length_append, us_len, ints_size, Array.length_toList] at e1
      simp only [List.size_toArray, List.length_append, us_len, ints_size, Nat.mul_one]
      rw [h1.length_eq, ← e1]
      exact HC.out.2.2.2.1
    · rw [u64s_length, Nat.mul_one, us_ints]
      simp
end Go.Proofs.YtmpajlpemabniaaGreat
