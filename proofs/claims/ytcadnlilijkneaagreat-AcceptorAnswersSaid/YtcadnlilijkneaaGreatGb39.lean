/-
  slices.Sorted(maps.Keys(m)) of a map with keys of uint64, whole. No claim of their own.
-/
import Derived.Test.YtcadnlilijkneaaGreatGb38
import Derived.Test.YtcadnlilijkneaaGreatGb34
namespace Go.Proofs.YtcadnlilijkneaaGreat
open Go.RowKit Go.Maps Go.Sort Go.Shelf Go.Deep
set_option linter.unusedVariables false
set_option linter.unusedSimpArgs false

theorem bitsLen_any (n : Nat) (hn : n < 1000000000) (w : World) : Calls Tryz.prog 242 #[.int .u64 (n : Int)] w fun e w' => e = .returned (.int .i64 (bitsLen n : Nat)) ∧ w' = w := by
  have h := Any.bits_Len (SlLaysF0.n15.bits (P := Tryz.prog) (ρ := nextA_ren) { nextA with }) (n : Int) w (by omega) (by omega)
  rwa [Int.toNat_natCast, bitLen_eq _ (by omega)] at h
theorem insertion_none (w : World) (c : Nat) : Calls Tryz.prog 277 #[.slice none 0 c, .int .i64 0, .int .i64 0] w fun e w' => e = .returned (.tuple #[]) ∧ w' = w := by
  go_enter Tryz.func277, Tryz.ntmps277
  go_wp2_with fail
  go_loopw [6] (fun vi wr => vi = .int .i64 1 ∧ wr = w) (fun vi _ => 0)
  case atStart => exact ⟨rfl, rfl⟩
  case round =>
    obtain ⟨rfl, rfl⟩ := hrel
    go_wp2_with fail
    go_end0
    exact ⟨rfl, rfl⟩
theorem pdq_none (w : World) (c : Nat) : Calls Tryz.prog 252 #[.slice none 0 c, .int .i64 0, .int .i64 0, .int .i64 0] w fun e w' => e = .returned (.tuple #[]) ∧ w' = w := by
  go_enter Tryz.func252, Tryz.ntmps252
  go_wp2_with fail
  go_loopw [1, 2, 3, 8, 9] (fun v1 v2 v3 v8 v9 wr => v1 = .int .i64 0 ∧ v2 = .int .i64 0 ∧ v3 = .int .i64 0 ∧ v8 = .bool true ∧ v9 = .bool true ∧ wr = w) (fun _ _ _ _ _ _ => 0)
  case atStart => exact ⟨rfl, rfl, rfl, rfl, rfl, rfl⟩
  case round =>
    obtain ⟨rfl, rfl, rfl, rfl, rfl, rfl⟩ := hrel
    go_wp2_with fail
    refine (insertion_none wr c).mono ?_
    rintro e w2 ⟨rfl, rfl⟩
    go_wp2_with fail
    (try simp only [Exit.inBlock, Exit.then])
    refine bodyPost_ret (results_none rfl _ _ _) rfl ?_
    exact ⟨rfl, rfl⟩
def ints (xs : List Nat) : Array Int := (xs.map (fun (x : Nat) => (x : Int))).toArray
theorem us_ints (xs : List Nat) : us (ints xs) = u64s xs := by simp [us, ints, u64s]
theorem ints_size (xs : List Nat) : (ints xs).size = xs.length := by simp [ints]
theorem of_ordered {xs : List Nat} {R : Array Int} (hp : PermIn 0 xs.length (ints xs) R) (hs : SortedIn ltInt 0 xs.length R) : ∃ ys : List Nat, R = ints ys ∧ ys.Perm xs ∧ ys.Pairwise (· ≤ ·) := by
  have hsz : R.size = xs.length := by rw [hp.1, ints_size]
  have h1 : R.toList.Perm (xs.map (fun (x : Nat) => (x : Int))) := by
    have := hp.2.2
    rw [show R.extract 0 xs.length = R by rw [← hsz]; simp, show (ints xs).extract 0 xs.length = ints xs by rw [← ints_size xs]; simp] at this
    simpa [ints] using this
  have hnn : ∀ x ∈ R.toList, ((x.toNat : Nat) : Int) = x := fun x hx => by
    have := h1.mem_iff.1 hx
    simp only [List.mem_map] at this
    obtain ⟨y, _, rfl⟩ := this
    omega
  have hR : R.toList = (R.toList.map Int.toNat).map (fun (x : Nat) => (x : Int)) := by
    rw [List.map_map]
    have : R.toList.map ((fun (x : Nat) => (x : Int)) ∘ Int.toNat) = R.toList.map id := List.map_congr_left fun x hx => hnn x hx
    rw [this, List.map_id]
  refine ⟨R.toList.map Int.toNat, ?_, ?_, ?_⟩
  · unfold ints
    rw [← hR]
  · have h2 := h1.map Int.toNat
    rw [List.map_map] at h2
    have : xs.map (Int.toNat ∘ fun (x : Nat) => (x : Int)) = xs.map id := List.map_congr_left fun x hx => by simp
    rw [this, List.map_id] at h2
    exact h2
  · refine List.Pairwise.map (R := fun a b : Int => a ≤ b) _ (fun a b (hab : a ≤ b) => by omega) ?_
    rw [List.pairwise_iff_getElem]
    intro i j hi hj hij
    have := hs i j (Nat.zero_le _) hij (by simpa [hsz] using hj)
    simp only [ltInt, decide_eq_false_iff_not] at this
    have e1 : R[i]! = R.toList[i] := by simp at hi; simp [hi]
    have e2 : R[j]! = R.toList[j] := by simp at hj; simp [hj]
    rw [e1, e2] at this
    omega
theorem sort_any (w : World) (base : Nat) (v : Value) (xs : List Nat) (h : Lst w base 23 v (u64s xs)) (hl : xs.length ≤ 1048577) :
    Calls Tryz.prog 211 #[v] w fun e w' => e = .returned (.tuple #[]) ∧ ∃ ys : List Nat, ys.Perm xs ∧ ys.Pairwise (· ≤ ·) ∧ Lst w' base 23 v (u64s ys) ∧ Chg (bl v) w w' := by
  rcases h.2 with ⟨rfl, hz⟩ | ⟨g, cap, cur, rfl, hb, hg, hnc, hcm, hcs, htk⟩
  · rw [u64s_length] at hz
    have hx : xs = [] := List.eq_nil_of_length_eq_zero hz
    subst hx
    have HB := Lib.hid (fun w => bitsLen_any 0 (by omega) w)
    have hb0 : bitsLen 0 = 0 := by decide
    rw [hb0] at HB
    go_enter Tryz.func211, Tryz.ntmps211
    go_wp2_with fail
    refine (HB.out _).mono ?_
    rintro e w2 ⟨rfl, rfl⟩
    go_wp2_with fail
    refine (pdq_none w2 0).mono ?_
    rintro e w3 ⟨rfl, rfl⟩
    go_wp2_with fail
    go_end0
    exact ⟨rfl, [], List.Perm.refl _, List.Pairwise.nil, h, Chg.refl _ _⟩
  · rw [u64s_length] at hnc htk
    rw [Nat.mul_one] at htk hcs
    obtain ⟨N, hN⟩ : ∃ N, Hid (xs.length = N) := ⟨_, Lib.hid rfl⟩
    have hcl : cur.toList = us (ints xs) ++ cur.toList.drop xs.length := by
      rw [us_ints, ← htk, List.take_append_drop]
    have hu : Uw w g (ints xs) (cur.toList.drop xs.length) := by
      unfold Uw Own
      rw [← hcl]
      exact hg
    have CP := Lib.hid (pdq_any (N + 1) w g N cap 0 N (bitsLen N) (ints xs) (cur.toList.drop xs.length) (by omega) hu (by rw [ints_size]; exact hN.out) (Nat.zero_le _) (Nat.le_refl _) (by have := hN.out; omega) (Nat.le_trans ((bitsLen_le_iff N 62).2 (by have := hN.out; omega)) (by omega)) (.inl rfl))
    have HB := Lib.hid (fun w => bitsLen_any N (by have := hN.out; omega) w)
    have hwN : IntKind.u64.wrap (N : Int) = (N : Int) := by rw [IntKind.wrap_u64]; have := hN.out; omega
    have HC := Lib.hid (And.intro hb (And.intro hnc (And.intro hcm (And.intro hcs hcl))))
    rw [u64s_length, hN.out]
    obtain ⟨L0, hL0⟩ : ∃ L, Hid (bitsLen N = L) := ⟨_, Lib.hid rfl⟩
    rw [hL0.out] at CP HB
    clear hu hcl hg htk hcs hb hnc hcm h
    go_enter Tryz.func211, Tryz.ntmps211
    go_wp2_with fail
    refine (HB.out _).mono ?_
    rintro e w2 ⟨rfl, rfl⟩
    go_wp2_with fail
    refine CP.out.mono ?_
    rintro e w3 ⟨rfl, HO⟩
    obtain ⟨R, p, s, HS⟩ := HO.out
    rw [← hN.out] at p s
    obtain ⟨ys, rfl, hperm, hsorted⟩ := of_ordered p s
    have HY := Lib.hid (And.intro hperm (And.intro hsorted HS))
    clear p s HS HO hperm hsorted
    go_wp2_with fail
    go_end0
    obtain ⟨h1, h2, h3, h4⟩ := HY.out
    refine ⟨rfl, ys, h1, h2, ?_, by simpa [bl, Value.ownBlock] using h4⟩
    have hyl : ys.length = N := by rw [h1.length_eq, hN.out]
    unfold Uw Own at h3
    refine ⟨by rw [u64s_length]; exact (Nat.mul_one _).symm, .inr ⟨g, cap, (us (ints ys) ++ cur.toList.drop xs.length).toArray, by rw [u64s_length, hyl], HC.out.1, h3, by rw [u64s_length, hyl, ← hN.out]; exact HC.out.2.1, HC.out.2.2.1, ?_, ?_⟩⟩
    · have e1 := congrArg List.length HC.out.2.2.2.2
      simp only [List.length_append, us_len, ints_size, Array.length_toList] at e1
      simp only [List.size_toArray, List.length_append, us_len, ints_size, Nat.mul_one]
      rw [h1.length_eq, ← e1]
      exact HC.out.2.2.2.1
    · rw [u64s_length, Nat.mul_one, us_ints]
      simp
end Go.Proofs.YtcadnlilijkneaaGreat
namespace Go.Proofs.YtcadnlilijkneaaGreat
open Go.RowKit Go.Maps Go.Shelf Go.Deep
set_option linter.unusedVariables false
set_option linter.unusedSimpArgs false

theorem part_two {t : TypeId} {xs : Array Value} {off : Nat} (ha : ∀ w, (isAgg t).run Tryz.prog w = .ok true w) (hz : ∀ w, (Go.sizeOf t).run Tryz.prog w = .ok 2 w) (w : World) : (part t xs off).run Tryz.prog w = .ok (.agg (xs.extract off (off + 2))) w := by
  unfold part
  rw [Sem.run_bind, ha]
  simp [hz, Sem.run_bind, Result.andThen_ok]
theorem run_fieldP (a b c d e f g : Value) (w : World) : (Instr.field 116 (.agg #[a, b, c, d, e, f, g]) 0).run Tryz.prog w = .ok (.agg #[a, b]) w := by
  have ab : ∀ w, (isAgg 48).run Tryz.prog w = .ok true w := fun w => by unfold isAgg; rw [Sem.run_bind, run_underlying Tryz.underlying48 w]; rfl
  have zb : ∀ w, (Go.sizeOf 48).run Tryz.prog w = .ok 2 w := fun w => Tryz.sizeOf48 w
  have hp : (part 48 #[a, b, c, d, e, f, g] 0).run Tryz.prog w = .ok (.agg #[a, b]) w := part_two ab zb w
  have ha : (asAgg (.agg #[a, b, c, d, e, f, g])).run Tryz.prog w = .ok #[a, b, c, d, e, f, g] w := rfl
  unfold Instr.field
  simp [ha, Result.andThen_ok, Sem.run_bind, run_underlying Tryz.underlying116, hp]
structure AT where
  F : Nat → Sec
  h : Nat
  L : List Rec
  S : AS
def atS (T : AT) : TS := calm T.F (fun _ => none) T.h T.L
def ChO (w : World) (B : Nat → Prop) (u mp q : Nat) (l : List Nat) (p g b n : Nat) (code : Int) (s : Es) (T2 : AT) (e : Ending) (w' : World) : Prop :=
  ∃ T' : EsT, e = .returned (.tuple #[T'.val, .int .i64 code]) ∧ ∃ l' : List Nat, Hid (T'.x = s ∧ LyP w' (fun x => w.heap.size ≤ x ∧ x ∉ acM u mp p g b l' ∧ ¬ B x) T'.y ∧ LyS T'.y ∧ Acs w' B u mp q l' p g b n (atS T2) T2.S ∧ (∀ x ∈ l', x ∈ l ∨ w.heap.size ≤ x) ∧ Chg (mp :: l ++ [g, b]) w w')
theorem ChO.poke {w W w' : World} {B : Nat → Prop} {u mp q : Nat} {l : List Nat} {p g b n : Nat} {s : Es} {T2 : AT} {T' : EsT} {l' : List Nat} (hc : Chg [] w W)  (hm : ∀ x ∈ acM u mp p g b l, x < w.heap.size)
    (h : T'.x = s ∧ LyP w' (fun x => W.heap.size ≤ x ∧ x ∉ acM u mp p g b l' ∧ ¬ B x) T'.y ∧ LyS T'.y ∧ Acs w' B u mp q l' p g b n (atS T2) T2.S ∧ (∀ x ∈ l', x ∈ l ∨ W.heap.size ≤ x) ∧ Chg (mp :: l ++ [g, b]) W w') {R : Nat} (hB : ∀ x, B x → x ≠ R) (hR : w.heap.size ≤ R) (hR2 : R < W.heap.size) {w2 : World} (hc2 : Chg [R] w' w2) :
    T'.x = s ∧ LyP w2 (fun x => w.heap.size ≤ x ∧ x ∉ acM u mp p g b l' ∧ ¬ B x) T'.y ∧ LyS T'.y ∧ Acs w2 B u mp q l' p g b n (atS T2) T2.S ∧ (∀ x ∈ l', x ∈ l ∨ w.heap.size ≤ x) ∧ Chg (mp :: l ++ [g, b]) w w2 := by
  obtain ⟨h1, h2, h3, h4, h5, h6⟩ := h
  have hs := hc.size
  have hRm : ∀ x ∈ [R], x ∉ acM u mp p g b l' := fun x hx hh => by
    simp only [List.mem_singleton] at hx
    subst hx
    have h0 : ∀ y ∈ acM u mp p g b l', y ∈ acM u mp p g b l ∨ W.heap.size ≤ y := fun y hy => by
      unfold acM at hy ⊢
      simp only [List.mem_cons] at hy ⊢
      rcases hy with hy | hy | hy | hy | hy | hy
      · exact .inl (.inl hy)
      · exact .inl (.inr (.inl hy))
      · exact .inl (.inr (.inr (.inl hy)))
      · exact .inl (.inr (.inr (.inr (.inl hy))))
      · exact .inl (.inr (.inr (.inr (.inr (.inl hy)))))
      · rcases h5 y hy with hy | hy
        · exact .inl (.inr (.inr (.inr (.inr (.inr hy)))))
        · exact .inr hy
    rcases h0 x hh with h9 | h9
    · have := hm x h9; omega
    · omega
  refine ⟨h1, (h2.chg hc2 (fun x hx hh => by simp only [List.mem_singleton] at hh; omega)).mono (fun x _ hx => ⟨by omega, hx.2⟩), h3, h4.chg hc2 hRm (fun x hx hh => by simp only [List.mem_singleton] at hh; exact hB x hx.1 hh), fun x hx => (h5 x hx).imp id (fun h9 => by omega), ?_⟩
  exact ((hc.mono (by simp)).trans h6).then hc2 (fun x hx => .inr (by simp only [List.mem_singleton] at hx; omega))
theorem Acs.mlt {w : World} {B : Nat → Prop} {u mp q : Nat} {l : List Nat} {p g b n : Nat} {X : TS} {S : AS} (A : Acs w B u mp q l p g b n X S) : ∀ x ∈ acM u mp p g b l, x < w.heap.size := fun x hx => by
  have h1 := A.td.dlt
  obtain ⟨V, h2, _⟩ := A.map
  unfold acM at hx
  simp only [List.mem_cons] at hx
  rcases hx with hx | hx | hx | hx | hx | hx
  · subst hx; exact A.own.lt
  · subst hx; exact h2.lt
  · omega
  · omega
  · omega
  · exact A.td.lt x hx
def zLt : LyT := ⟨0, none, 0, [], 0⟩
set_option maxHeartbeats 1000000 in
theorem Prepare_arg (w : World) (xv : Option Addr) (e : Nat) (he : e < 18446744073709551616) (b : Bt) (h : xv = none ∨ ep0 e = false ∨ btOk b = false) :
    Calls Tryz.prog 49 #[.pointer xv, .int .u64 (e : Int), btv b] w fun r w' => r = .returned (.tuple #[zEs.val, .int .i64 1]) ∧ Chg [] w w' := by
  obtain ⟨b1, b2⟩ := b
  obtain ⟨W, HW⟩ : ∃ W, Hid ((w.alloc (.cells #[.int .i64 b1, .int .i64 b2] 48)).alloc (.cells #[.int .i64 0, .int .i64 0, .int .i64 0, .int .i64 0, .int .u64 0, .slice none 0 0, .int .i64 0] 116) = W) := ⟨_, Lib.hid rfl⟩
  have hc : Chg [] w W := by rw [← HW.out]; exact ((Chg.refl [] w).alloc _).alloc _
  have hb : Own W w.heap.size 48 [.int .i64 b1, .int .i64 b2] := by rw [← HW.out]; exact (Own.new w _ _).alloc _
  have hr : Own W (w.heap.size + 1) 116 zEc := by
    rw [← HW.out]
    have := Own.new (w.alloc (.cells #[.int .i64 b1, .int .i64 b2] 48)) 116 zEc
    simpa using this
  have HE := Lib.hid (isEpoch_any e W he)
  have HBB := Lib.hid (fun W' => isBallot_any (b1, b2) W')
  have c0 := hb.cell 0
  have c1 := hb.cell 1
  simp at c0 c1
  have HR := Lib.hid hr
  have HC := Lib.hid hc
  clear hc hb hr he
  obtain ⟨x1, hx1⟩ : ∃ x, ep0 e = x := ⟨_, rfl⟩
  obtain ⟨x2, hx2⟩ : ∃ x, btOk (b1, b2) = x := ⟨_, rfl⟩
  rw [hx1] at HE h
  rw [hx2] at HBB h
  clear hx1 hx2
  have HFIN : Hid (∀ W', Chg [] W W' → Own W' (w.heap.size + 1) 116 zEc) := Lib.hid (fun W' h9 => HR.out.chg h9 (by simp))
  have h' : xv = none ∨ (∃ A, xv = some A) ∧ x1 = false ∨ (∃ A, xv = some A) ∧ x1 = true ∧ x2 = false := by
    cases xv with
    | none => exact .inl rfl
    | some A =>
      rcases h with h | h | h
      · cases h
      · exact .inr (.inl ⟨⟨A, rfl⟩, h⟩)
      · cases x1
        · exact .inr (.inl ⟨⟨A, rfl⟩, rfl⟩)
        · exact .inr (.inr ⟨⟨A, rfl⟩, rfl, h⟩)
  clear h
  rcases h' with h | ⟨⟨A, h⟩, h1⟩ | ⟨⟨A, h⟩, h1, h2⟩
  · subst h
    clear HE HBB HFIN
    go_enter Tryz.func49, Tryz.ntmps49
    go_upto_region 1 with fail
    rw [HW.out]
    have HQ := HR
    have HD := HC
    have hq := HQ.out
    have d0 := hq.cell 0
    have f0 := hq.frozen 0
    have d1 := hq.cell 1
    have f1 := hq.frozen 1
    have d2 := hq.cell 2
    have f2 := hq.frozen 2
    have d3 := hq.cell 3
    have f3 := hq.frozen 3
    have d4 := hq.cell 4
    have f4 := hq.frozen 4
    have d5 := hq.cell 5
    have f5 := hq.frozen 5
    have d6 := hq.cell 6
    have f6 := hq.frozen 6
    simp at d0 d1 d2 d3 d4 d5 d6
    clear hq
    go_wp2_with fail
    have H9 := Lib.hid (Own.put7 HQ.out (.int .i64 0) (.int .i64 0) (.int .i64 0) (.int .i64 0) (.int .u64 0) (.slice none 0 0) (.int .i64 0))
    refine bodyPost_ret (results_row_tmp Tryz.results49 _ _ (w.heap.size + 1) 116 _ (0, 0) _ rfl H9.out Tryz.underlying116 rfl (by kernel_rfl)) rfl ?_
    exact ⟨rfl, HD.out.put7 (.inr (Nat.le_succ _)) _ _ _ _ _ _ _⟩
  · subst h h1
    clear HBB HFIN
    go_enter Tryz.func49, Tryz.ntmps49
    go_upto_region 1 with fail
    rw [HW.out]
    go_upto_region 2 with (first | (go_at_call 94; refine HE.out.mono ?_; rintro r w2 ⟨rfl, hw⟩; have hw2 := hw.symm; subst hw2) | fail)
    have HQ := HR
    have HD := HC
    have hq := HQ.out
    have d0 := hq.cell 0
    have f0 := hq.frozen 0
    have d1 := hq.cell 1
    have f1 := hq.frozen 1
    have d2 := hq.cell 2
    have f2 := hq.frozen 2
    have d3 := hq.cell 3
    have f3 := hq.frozen 3
    have d4 := hq.cell 4
    have f4 := hq.frozen 4
    have d5 := hq.cell 5
    have f5 := hq.frozen 5
    have d6 := hq.cell 6
    have f6 := hq.frozen 6
    simp at d0 d1 d2 d3 d4 d5 d6
    clear hq
    go_wp2_with fail
    have H9 := Lib.hid (Own.put7 HQ.out (.int .i64 0) (.int .i64 0) (.int .i64 0) (.int .i64 0) (.int .u64 0) (.slice none 0 0) (.int .i64 0))
    refine bodyPost_ret (results_row_tmp Tryz.results49 _ _ (w.heap.size + 1) 116 _ (0, 0) _ rfl H9.out Tryz.underlying116 rfl (by kernel_rfl)) rfl ?_
    exact ⟨rfl, HD.out.put7 (.inr (Nat.le_succ _)) _ _ _ _ _ _ _⟩
  · subst h h1 h2
    go_enter Tryz.func49, Tryz.ntmps49
    go_upto_region 1 with fail
    rw [HW.out]
    go_upto_region 2 with (first | (go_at_call 94; refine HE.out.mono ?_; rintro r w2 ⟨rfl, hw⟩; have hw2 := hw.symm; subst hw2) | (go_at_call 95; refine (HBB.out _).mono ?_; rintro r w3 ⟨rfl, hc3⟩; have HC3 := Lib.hid hc3; clear hc3) | fail)
    have HQ := Lib.hid (HFIN.out _ HC3.out)
    have HD := Lib.hid (HC.out.trans HC3.out)
    have hq := HQ.out
    have d0 := hq.cell 0
    have f0 := hq.frozen 0
    have d1 := hq.cell 1
    have f1 := hq.frozen 1
    have d2 := hq.cell 2
    have f2 := hq.frozen 2
    have d3 := hq.cell 3
    have f3 := hq.frozen 3
    have d4 := hq.cell 4
    have f4 := hq.frozen 4
    have d5 := hq.cell 5
    have f5 := hq.frozen 5
    have d6 := hq.cell 6
    have f6 := hq.frozen 6
    simp at d0 d1 d2 d3 d4 d5 d6
    clear hq
    go_wp2_with fail
    have H9 := Lib.hid (Own.put7 HQ.out (.int .i64 0) (.int .i64 0) (.int .i64 0) (.int .i64 0) (.int .u64 0) (.slice none 0 0) (.int .i64 0))
    refine bodyPost_ret (results_row_tmp Tryz.results49 _ _ (w.heap.size + 1) 116 _ (0, 0) _ rfl H9.out Tryz.underlying116 rfl (by kernel_rfl)) rfl ?_
    exact ⟨rfl, HD.out.put7 (.inr (Nat.le_succ _)) _ _ _ _ _ _ _⟩
end Go.Proofs.YtcadnlilijkneaaGreat
namespace Go.Proofs.YtcadnlilijkneaaGreat
open Go.RowKit Go.Maps Go.Shelf Go.Deep
set_option linter.unusedVariables false
set_option linter.unusedSimpArgs false

def PrS (u mp g0 e : Nat) (b1 b2 : Int) (tv : Value) (w1 W : World) : Prop :=
  W.cell? ⟨u, 1, none⟩ = some (.map (some mp)) ∧ W.cell? ⟨g0, 0, none⟩ = some (.int .i64 b1) ∧ W.cell? ⟨g0, 1, none⟩ = some (.int .i64 b2) ∧
  (Instr.lookup 152 (.map (some mp)) (.int .u64 (e : Int)) false).run Tryz.prog W = .ok tv W ∧ Chg [] w1 W
theorem PrS.step {u mp g0 e : Nat} {b1 b2 : Int} {tv : Value} {w1 W W' : World} (HLK : Hid (∀ W, Chg [] w1 W → (Instr.lookup 152 (.map (some mp)) (.int .u64 (e : Int)) false).run Tryz.prog W = .ok tv W)) (h : PrS u mp g0 e b1 b2 tv w1 W) (hc : Chg [] W W') : PrS u mp g0 e b1 b2 tv w1 W' := by
  obtain ⟨h0, h1, h2, h9, h10⟩ := h
  exact ⟨hc.cell h0 (by simp), hc.cell h1 (by simp), hc.cell h2 (by simp), HLK.out _ (h10.trans hc), h10.trans hc⟩
def zRc (e : Nat) (b : Bt) : RcT := ⟨false, e, b, zLt⟩
set_option maxHeartbeats 2000000 in
set_option maxRecDepth 100000 in
theorem Prepare_go (w : World) {B : Nat → Prop} {u mp q : Nat} {l : List Nat} {p g b n : Nat} {T0 : AT} (A : Acs w B u mp q l p g b n (atS T0) T0.S) (hB : ∀ x, B x → x < w.heap.size) (e : Nat) (bt : Bt) (h1 : ep0 e = true) (h2 : btOk bt = true) (code : Int) (s : Es) (T2 : AT)
    (hno : (T0.S.at e).p.less bt = false → code = 121 ∧ s = T0.S.at e ∧ T2 = T0)
    (hgo : (T0.S.at e).p.less bt = true → ∀ W, Chg [] w W → Calls Tryz.prog 97 #[.pointer (some ⟨u, 0, none⟩), (zRc e bt).val] W (ChO W B u mp q l p g b n code s T2)) :
    Calls Tryz.prog 49 #[.pointer (some ⟨u, 0, none⟩), .int .u64 (e : Int), btv bt] w (ChO w B u mp q l p g b n code s T2) := by
  have he : e < 18446744073709551616 := by have : ep0 e = true := h1; unfold ep0 at this; have := of_decide_eq_true this; omega
  obtain ⟨V, hV, hV2⟩ := A.map
  obtain ⟨T, hT1, hT2, hT3, hT4⟩ := hV2.get e
  obtain ⟨b1, b2⟩ := bt
  obtain ⟨W, HW⟩ : ∃ W, Hid ((w.alloc (.cells #[.int .i64 b1, .int .i64 b2] 48)).alloc (.cells #[.int .i64 0, .int .i64 0, .int .i64 0, .int .i64 0, .int .u64 0, .slice none 0 0, .int .i64 0] 116) = W) := ⟨_, Lib.hid rfl⟩
  have hc : Chg [] w W := by rw [← HW.out]; exact ((Chg.refl [] w).alloc _).alloc _
  have hsz : W.heap.size = w.heap.size + 2 := by rw [← HW.out]; simp
  have hb : Own W w.heap.size 48 [.int .i64 b1, .int .i64 b2] := by rw [← HW.out]; exact (Own.new w _ _).alloc _
  have hr : Own W (w.heap.size + 1) 116 zEc := by
    rw [← HW.out]
    have := Own.new (w.alloc (.cells #[.int .i64 b1, .int .i64 b2] 48)) 116 zEc
    simpa using this
  have HE := isEpoch_any e W he
  have HBB := fun W' => isBallot_any (b1, b2) W'
  rw [h1] at HE
  rw [h2] at HBB
  have HE := Lib.hid HE
  have HBB := Lib.hid HBB
  have HLT := Lib.hid (fun W' => aLess_any T.p (b1, b2) W')
  have hTp : (T0.S.at e).p = T.p := by rw [hT1]; rfl
  rw [hTp] at hno hgo
  have HLK : Hid (∀ W', Chg [] W W' → (Instr.lookup 152 (.map (some mp)) (.int .u64 (e : Int)) false).run Tryz.prog W' = .ok T.val W') := Lib.hid (fun W' hW => by
    have h9 := (hV.kept (hc.trans hW)).look1 (t := 152) (e := 116) Tryz.underlying152 (z := zEs.val) (by kernel_rfl) he
    rw [hT2] at h9
    exact h9)
  have HST : Hid (∀ W', Chg [] w W' → Calls Tryz.prog 96 #[.pointer (some ⟨u, 0, none⟩), .int .u64 (e : Int)] W' fun r w' => ∃ T' : EsT, r = .returned T'.val ∧ T'.x = T.x ∧ LyP w' (fun x => W'.heap.size ≤ x) T'.y ∧ LyS T'.y ∧ Chg [] W' w') := Lib.hid (fun W' h9 => state_any W' (A.own.chg h9 (by simp)) (hV.kept h9) e he T _ hT2 (hT3.chg h9 (by simp)) hT4)
  obtain ⟨_, d1⟩ := (A.own.chg hc (by simp)).two
  have HS0 : Hid (PrS u mp w.heap.size e b1 b2 T.val W W) := Lib.hid ⟨d1, by rw [hb.cell]; rfl, by rw [hb.cell]; rfl, HLK.out W (Chg.refl _ _), Chg.refl _ _⟩
  have c0 := hb.cell 0
  have c1 := hb.cell 1
  simp at c0 c1
  have HR := Lib.hid (And.intro hr hsz)
  have HC := Lib.hid hc
  have HA := Lib.hid (And.intro A hB)
  have HTX := Lib.hid hT1
  have HNO := Lib.hid hno
  have HGO := Lib.hid hgo
  have HB := Lib.hid hb
  clear A hB hV hV2 hT1 hT2 hT3 hT4 hc hb hr hsz hno hgo h1 h2 he hTp d1
  obtain ⟨t, ht⟩ : ∃ t, Hid (T.p.less (b1, b2) = t) := ⟨_, Lib.hid rfl⟩
  rw [ht.out] at HLT HNO HGO
  obtain ⟨⟨t1, t2⟩, ⟨t3, t4⟩, ⟨te, ta, tc, ts, tq⟩⟩ := T
  simp only [EsT.val] at HLK HS0 HLT
  obtain ⟨tn, htn⟩ : ∃ n, Hid (ts.length = n) := ⟨_, Lib.hid rfl⟩
  rw [htn.out] at HLK HS0
  go_enter Tryz.func49, Tryz.ntmps49
  go_upto_region 1 with fail
  rw [HW.out]
  go_upto_region 3 with (first | (go_at_call 94; refine HE.out.mono ?_; rintro r w2 ⟨rfl, hw⟩; have hw2 := hw.symm; subst hw2) | (go_at_call 95; refine (HBB.out _).mono ?_; rintro r w3 ⟨rfl, hc3⟩; have HC3 := Lib.hid hc3; clear hc3) | fail)
  have HS3 := Lib.hid (HS0.out.step HLK HC3.out)
  clear c0 c1
  refine wp_region_held_drew (S := (fun W' : World => W'.cell? ⟨u, 1, none⟩ = some (.map (some mp)) ∧ W'.cell? ⟨w.heap.size, 0, none⟩ = some (.int .i64 b1) ∧ W'.cell? ⟨w.heap.size, 1, none⟩ = some (.int .i64 b2) ∧ (Instr.lookup 152 (.map (some mp)) (.int .u64 (e : Int)) false).run Tryz.prog W' = .ok (.agg #[.int .i64 t1, .int .i64 t2, .int .i64 t3, .int .i64 t4, .int .u64 (te : Int), .slice ta tn tc, .int .i64 tq]) W' ∧ Chg [] W W')) (by kernel_rfl) (by have h9 := HS3.out.step HLK (Chg.refl [] w3).drew; exact h9) (fun hHeld => ?_)
  refine wpAnyH_take (i := 0) (v := ?_) rfl (by kernel_rfl) (by kernel_rfl) (by kernel_rfl) (fun _ _ _ h => h) (Or.inl ⟨by kernel_rfl, ?_⟩) hHeld ?_
  rotate_left
  · (intro w hSw; first | (go_simp; done) | (go_simp; with_reducible rfl))
  (try simp only [Act.put, List.getElem_toArray, List.getElem_cons_succ, List.getElem_cons_zero, List.setIfInBounds_toArray, List.set_cons_zero, List.set_cons_succ])
  refine wpAnyH_take (i := 1) (v := ?_) rfl (by kernel_rfl) (by kernel_rfl) (by kernel_rfl) (fun _ _ _ h => h) (Or.inl ⟨by kernel_rfl, ?_⟩) hHeld ?_
  rotate_left
  · (intro w hSw; first | (go_simp; done) | (go_simp; with_reducible rfl))
  (try simp only [Act.put, List.getElem_toArray, List.getElem_cons_succ, List.getElem_cons_zero, List.setIfInBounds_toArray, List.set_cons_zero, List.set_cons_succ])
  refine wpAnyH_take (i := 2) (v := ?_) rfl (by kernel_rfl) (by kernel_rfl) (by kernel_rfl) (fun _ _ _ h => h) (Or.inl ⟨by kernel_rfl, ?_⟩) hHeld ?_
  rotate_left
  · (intro w hSw; first | (go_simp; done) | (go_simp; with_reducible rfl))
  (try simp only [Act.put, List.getElem_toArray, List.getElem_cons_succ, List.getElem_cons_zero, List.setIfInBounds_toArray, List.set_cons_zero, List.set_cons_succ])
  refine wpAnyH_take (i := 3) (v := ?_) rfl (by kernel_rfl) (by kernel_rfl) (by kernel_rfl) (fun _ _ _ h => h) (Or.inl ⟨by kernel_rfl, ?_⟩) hHeld ?_
  rotate_left
  · (intro w hSw; first | (go_simp; done) | (go_simp; with_reducible rfl))
  (try simp only [Act.put, List.getElem_toArray, List.getElem_cons_succ, List.getElem_cons_zero, List.setIfInBounds_toArray, List.set_cons_zero, List.set_cons_succ])
  refine wpAnyH_take (i := 4) (v := ?_) rfl (by kernel_rfl) (by kernel_rfl) (by kernel_rfl) (fun _ _ _ h => h) (Or.inl ⟨by kernel_rfl, ?_⟩) hHeld ?_
  rotate_left
  · (intro w hSw; first | (go_simp; done) | (go_simp; with_reducible rfl))
  (try simp only [Act.put, List.getElem_toArray, List.getElem_cons_succ, List.getElem_cons_zero, List.setIfInBounds_toArray, List.set_cons_zero, List.set_cons_succ])
  refine wpAnyH_take (i := 5) (v := ?_) rfl (by kernel_rfl) (by kernel_rfl) (by kernel_rfl) (fun _ _ _ h => h) (Or.inl ⟨by kernel_rfl, ?_⟩) hHeld ?_
  rotate_left
  · (intro w hSw; first | (go_simp; done) | (go_simp; with_reducible rfl))
  (try simp only [Act.put, List.getElem_toArray, List.getElem_cons_succ, List.getElem_cons_zero, List.setIfInBounds_toArray, List.set_cons_zero, List.set_cons_succ])
  refine wpAnyH_take (i := 6) (v := (.agg #[.int .i64 t1, .int .i64 t2])) rfl (by kernel_rfl) (by kernel_rfl) (by kernel_rfl) (fun _ _ _ h => h) (Or.inl ⟨by kernel_rfl, ?_⟩) hHeld ?_
  · (intro w hSw; go_simp; rw [run_fieldP]; rfl)
  (try simp only [Act.put, List.getElem_toArray, List.getElem_cons_succ, List.getElem_cons_zero, List.setIfInBounds_toArray, List.set_cons_zero, List.set_cons_succ])
  refine wpAnyH_take (i := 7) (v := ?_) rfl (by kernel_rfl) (by kernel_rfl) (by kernel_rfl) (fun _ _ _ h => h) (Or.inl ⟨by kernel_rfl, ?_⟩) hHeld ?_
  rotate_left
  · (intro w hSw; first | (go_simp; done) | (go_simp; with_reducible rfl))
  (try simp only [Act.put, List.getElem_toArray, List.getElem_cons_succ, List.getElem_cons_zero, List.setIfInBounds_toArray, List.set_cons_zero, List.set_cons_succ])
  refine wpAnyH_ready (rs := [8]) (by kernel_rfl) (by simp) (AllReadyH.cons rfl (fun K hK => ?_) AllReadyH.nil)
  have hH := hHeld
  (go_simp; go_at_call 46; refine (HLT.out _).mono ?_; rintro r w4 ⟨rfl, hc4⟩)
  refine hK.out _ _ (by exact PrS.step HLK hH hc4) (fun hHq1 => ?_)
  clear hK K hH 
  (try simp only [Act.put, List.getElem_toArray, List.getElem_cons_succ, List.getElem_cons_zero, List.setIfInBounds_toArray, List.set_cons_zero, List.set_cons_succ])
  refine wpAnyH_take (i := 9) (v := ?_) rfl (by kernel_rfl) (by kernel_rfl) (by kernel_rfl) (fun _ _ _ h => h) (Or.inl ⟨by kernel_rfl, ?_⟩) hHq1 ?_
  rotate_left
  · (intro w hSw; first | (go_simp; done) | (go_simp; with_reducible rfl))
  (try simp only [Act.put, List.getElem_toArray, List.getElem_cons_succ, List.getElem_cons_zero, List.setIfInBounds_toArray, List.set_cons_zero, List.set_cons_succ])
  refine wpAnyH_take (i := 10) (v := ?_) rfl (by kernel_rfl) (by kernel_rfl) (by kernel_rfl) (fun _ _ _ h => h) (Or.inl ⟨by kernel_rfl, ?_⟩) hHq1 ?_
  rotate_left
  · (intro w hSw; first | (go_simp; done) | (go_simp; with_reducible rfl))
  (try simp only [Act.put, List.getElem_toArray, List.getElem_cons_succ, List.getElem_cons_zero, List.setIfInBounds_toArray, List.set_cons_zero, List.set_cons_succ])
  refine wpAnyH_done (by kernel_rfl) ?_ _
  have hEnd := hHq1
  have HS4 := Lib.hid hEnd
  have HC4 : Hid (Chg [] W w4) := Lib.hid hEnd.2.2.2.2
  have hr4 := HR.out.1.chg HC4.out (by simp)
  clear hHeld hEnd hc4
  cases t with
  | false =>
    obtain ⟨rfl, rfl, rfl⟩ := HNO.out rfl
    clear HGO HNO
    go_wp2_with (first
      | (go_at_call 96; refine (HST.out _ (HC.out.trans HC4.out)).mono ?_; rintro r w7 ⟨⟨⟨y1, y2⟩, ⟨y3, y4⟩, ⟨ze, za, zc, zs, zq⟩⟩, rfl, hx7, hl7, hs7, hc7⟩
         obtain ⟨zn, hzn⟩ : ∃ n, Hid (zs.length = n) := ⟨_, Lib.hid rfl⟩
         simp only [EsT.val, hzn.out]
         have ho7 := hr4.chg hc7 (by simp)
         have H7 := Lib.hid (And.intro hx7 (And.intro hl7 (And.intro hs7 hc7)))
         have HO7 := Lib.hid ho7
         have d0 := ho7.cell 0
         have f0 := ho7.frozen 0
         have d1 := ho7.cell 1
         have f1 := ho7.frozen 1
         have d2 := ho7.cell 2
         have f2 := ho7.frozen 2
         have d3 := ho7.cell 3
         have f3 := ho7.frozen 3
         have d4 := ho7.cell 4
         have f4 := ho7.frozen 4
         have d5 := ho7.cell 5
         have f5 := ho7.frozen 5
         have d6 := ho7.cell 6
         have f6 := ho7.frozen 6
         simp at d0 d1 d2 d3 d4 d5 d6
         clear ho7 hx7 hl7 hs7 hc7)
      | fail)
    have H9 := Lib.hid (Own.put7 HO7.out (.int .i64 y1) (.int .i64 y2) (.int .i64 y3) (.int .i64 y4) (.int .u64 (ze : Int)) (.slice za zn zc) (.int .i64 zq))
    have hc9 := (Chg.refl [w.heap.size + 1] w7).put7 (g := w.heap.size + 1) (by simp) (.int .i64 y1) (.int .i64 y2) (.int .i64 y3) (.int .i64 y4) (.int .u64 (ze : Int)) (.slice za zn zc) (.int .i64 zq)
    refine bodyPost_ret (results_row_tmp Tryz.results49 _ _ (w.heap.size + 1) 116 _ (0, 0) _ rfl H9.out Tryz.underlying116 rfl (by kernel_rfl)) rfl ?_
    have hcw4 := HC.out.trans HC4.out
    have hmw := HA.out.1.mlt
    refine ⟨⟨(y1, y2), (y3, y4), ⟨ze, za, zc, zs, zq⟩⟩, by simp only [EsT.val, hzn.out]; rfl, l, Lib.hid ?_⟩
    have hsz := HR.out.2
    have hs4 := HC4.out.size
    exact ChO.poke (W := w4) hcw4 hmw ⟨by rw [H7.out.1, HTX.out], H7.out.2.1.mono (fun x _ hx => ⟨hx, fun hm => by have := hmw x hm; have := hcw4.size; omega, fun hm => by have := HA.out.2 x hm; have := hcw4.size; omega⟩), H7.out.2.2.1, HA.out.1.kept (hcw4.trans H7.out.2.2.2), fun x hx => .inl hx, H7.out.2.2.2.mono (by simp)⟩ (fun x hx => by have := HA.out.2 x hx; omega) (Nat.le_succ _) (by omega) hc9
  | true =>
    have HCH := Lib.hid (HGO.out rfl w4 (HC.out.trans HC4.out))
    have q0 := HS4.out.2.1
    have q1 := HS4.out.2.2.1
    unfold RcT.val zRc at HCH
    simp only [kn, zLt, List.length_nil] at HCH
    clear HGO HNO
    go_wp2_with (first
      | (go_at_call 97; refine HCH.out.mono ?_; rintro r w7 ⟨⟨⟨y1, y2⟩, ⟨y3, y4⟩, ⟨ze, za, zc, zs, zq⟩⟩, rfl, l', H7⟩
         obtain ⟨zn, hzn⟩ : ∃ n, Hid (zs.length = n) := ⟨_, Lib.hid rfl⟩
         simp only [EsT.val, hzn.out]
         have ho7 := hr4.chg H7.out.2.2.2.2.2 (fun hx => by have := HA.out.1.mlt (w.heap.size + 1) (by unfold acM; simp only [List.mem_append, List.mem_cons, List.not_mem_nil, or_false] at hx ⊢; rcases hx with (hx | hx) | hx | hx <;> simp [hx]); omega)
         have HO7 := Lib.hid ho7
         have d0 := ho7.cell 0
         have f0 := ho7.frozen 0
         have d1 := ho7.cell 1
         have f1 := ho7.frozen 1
         have d2 := ho7.cell 2
         have f2 := ho7.frozen 2
         have d3 := ho7.cell 3
         have f3 := ho7.frozen 3
         have d4 := ho7.cell 4
         have f4 := ho7.frozen 4
         have d5 := ho7.cell 5
         have f5 := ho7.frozen 5
         have d6 := ho7.cell 6
         have f6 := ho7.frozen 6
         simp at d0 d1 d2 d3 d4 d5 d6
         clear ho7)
      | fail)
    have H9 := Lib.hid (Own.put7 HO7.out (.int .i64 y1) (.int .i64 y2) (.int .i64 y3) (.int .i64 y4) (.int .u64 (ze : Int)) (.slice za zn zc) (.int .i64 zq))
    have hc9 := (Chg.refl [w.heap.size + 1] w7).put7 (g := w.heap.size + 1) (by simp) (.int .i64 y1) (.int .i64 y2) (.int .i64 y3) (.int .i64 y4) (.int .u64 (ze : Int)) (.slice za zn zc) (.int .i64 zq)
    refine bodyPost_ret (results_row_tmp Tryz.results49 _ _ (w.heap.size + 1) 116 _ (0, 0) _ rfl H9.out Tryz.underlying116 rfl (by kernel_rfl)) rfl ?_
    have hsz := HR.out.2
    have hs4 := HC4.out.size
    exact ⟨⟨(y1, y2), (y3, y4), ⟨ze, za, zc, zs, zq⟩⟩, by simp only [EsT.val, hzn.out]; rfl, l', Lib.hid (ChO.poke (HC.out.trans HC4.out) HA.out.1.mlt H7.out (fun x hx => by have := HA.out.2 x hx; omega) (Nat.le_succ _) (by omega) hc9)⟩
end Go.Proofs.YtcadnlilijkneaaGreat
