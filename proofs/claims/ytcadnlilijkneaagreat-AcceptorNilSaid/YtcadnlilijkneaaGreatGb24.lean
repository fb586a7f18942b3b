/-
  Contract of package tape's read: a half's bytes, by a range over the iterator. No claim of its own.
-/
import Derived.Test.YtcadnlilijkneaaGreatGb23
namespace Go.Proofs.YtcadnlilijkneaaGreat
open Go.RowKit Go.Shelf Go.Deep
set_option linter.unusedVariables false
set_option linter.unusedSimpArgs false
attribute [local go_sem] Oper.semAt_some

theorem lst_kept {A B : World} {row : Option Nat} {base : Nat} {t : TypeId} {v : Value} {xs : List Value} (h : Lst A base t v xs) (hg : A.grownBy B row) (hr : ∀ r, row = some r → ∃ o : Obj, A.heap[r]? = some o ∧ o.isCells = false) : Lst B base t v xs := by
  refine h.kept hg ?_
  by_cases hv : v.ownBlock = none
  · exact .inl hv
  · refine .inr fun e => ?_
    obtain ⟨g, hgv⟩ := Option.ne_none_iff_exists'.1 hv
    obtain ⟨o, ho, hc⟩ := hr g (by rw [← e, hgv])
    rcases h.2 with ⟨rfl, _⟩ | ⟨g1, c1, r1, rfl, _, h1, _⟩
    · simp [Value.ownBlock] at hgv
    · simp only [Value.ownBlock, Option.some.injEq] at hgv
      subst hgv
      rw [h1] at ho
      cases ho
      cases hc
theorem chg_row {w X Y : World} {row : Option Nat} {B : Nat} (hb : Chg [] w X) (hg : X.grownBy Y row) (hr : ∀ r, row = some r → B ≤ r ∧ ∃ o : Obj, X.heap[r]? = some o ∧ o.isCells = false) (hB : w.heap.size ≤ B) : Chg [] w Y :=
  hb.grown hg fun k e => .inr (Nat.le_trans hB (hr k e).1)
theorem same_chg {FS l : List Nat} {a b : World} (h : Chg l a b) (hF : ∀ k ∈ FS, k < a.heap.size ∧ k ∉ l) : Same FS a b := ⟨h.size, fun k hk => h.block k (hF k hk).1 (hF k hk).2⟩
theorem keepsFrom_chg {B : Nat} {l : List Nat} {W W' : World} (h : Chg l W W') (hl : ∀ k ∈ l, k < W.heap.size → ∃ c t m, W.heap[k]? = some (.cells c t m)) : KeepsFrom B W W' :=
  ⟨h.size, fun k o hk h0 ho => by
    refine (h.block k (Array.getElem?_eq_some_iff.1 h0).1 (fun hm => ?_)).trans h0
    obtain ⟨c, t, mm, hc⟩ := hl k hm (Array.getElem?_eq_some_iff.1 h0).1
    rw [h0] at hc
    cases hc
    cases ho⟩
def catP (R : Nat → Sec) (f : Nat) (ks : List Nat) : List UInt8 := ks.flatMap fun k => R (f + k)
theorem catP_snoc (R : Nat → Sec) (f : Nat) (ks : List Nat) (k : Nat) : catP R f (ks ++ [k]) = catP R f ks ++ R (f + k) := by simp [catP]
theorem catP_len {R : Nat → Sec} (hR : ∀ i, (R i).length = 64) (f : Nat) (ks : List Nat) : (catP R f ks).length = ks.length * 64 := by
  induction ks with
  | nil => rfl
  | cons k ks ih =>
    have e : catP R f (k :: ks) = R (f + k) ++ catP R f ks := rfl
    rw [e, List.length_append, ih, hR, List.length_cons]; omega
theorem catP_range (R : Nat → Sec) (f : Nat) : ∀ n, catP R f (List.range' 0 n) = cat R f n
  | 0 => rfl
  | n + 1 => by rw [range_snoc, catP_snoc, catP_range R f n, Nat.zero_add]; rfl
structure RdAt (w W : World) (b0 b1 b2 b3 top q : Nat) (R : Nat → Sec) (f : Nat) (ks : List Nat) : Prop where
  o0 : Own W b0 149 [.pointer (some ⟨q, 0, none⟩)]
  o1 : Own W b1 42 [.slice none 0 0]
  o2 : Own W b2 31 [.int .i64 0]
  o3 : ∃ v, Own W b3 42 [v] ∧ Lst W 0 5 v (u8s (catP R f ks)) ∧ ∀ g ∈ bl v, top ≤ g
  chg : Chg [] w W
  size : top ≤ W.heap.size
theorem RdAt.kept {w X Y : World} {b0 b1 b2 b3 top q : Nat} {R : Nat → Sec} {f : Nat} {ks : List Nat} {row : Option Nat} (h : RdAt w X b0 b1 b2 b3 top q R f ks) (ht : w.heap.size ≤ top) (hg : X.grownBy Y row) (hr : ∀ r, row = some r → top ≤ r ∧ ∃ o : Obj, X.heap[r]? = some o ∧ o.isCells = false) : RdAt w Y b0 b1 b2 b3 top q R f ks := by
  obtain ⟨v, h3, h4, h5⟩ := h.o3
  have hr2 := fun r e => (hr r e).2
  exact ⟨own_kept h.o0 hg hr2, own_kept h.o1 hg hr2, own_kept h.o2 hg hr2, ⟨v, own_kept h3 hg hr2, lst_kept h4 hg hr2, h5⟩, chg_row h.chg hg hr ht, Nat.le_trans h.size hg.size⟩
theorem RdAt.more {w X Y : World} {b0 b1 b2 b3 top q : Nat} {R : Nat → Sec} {f : Nat} {ks : List Nat} (h : RdAt w X b0 b1 b2 b3 top q R f ks) (hc : Chg [] X Y) : RdAt w Y b0 b1 b2 b3 top q R f ks := by
  obtain ⟨v, h3, h4, h5⟩ := h.o3
  exact ⟨h.o0.chg hc (by simp), h.o1.chg hc (by simp), h.o2.chg hc (by simp), ⟨v, h3.chg hc (by simp), h4.kept0 hc, h5⟩, h.chg.trans hc, Nat.le_trans h.size hc.size⟩
theorem bl_cut (a : Option Addr) (N k c : Nat) : bl (.slice a k c) = bl (.slice a N c) := by cases a <;> rfl
theorem Lst.cut {w : World} {base : Nat} {e : TypeId} {a : Option Addr} {N c k : Nat} {xs : List Value} (h : Lst w base e (.slice a N c) xs) (hk : k ≤ N) (hN : xs.length = N) : Lst w base e (.slice a k c) (xs.take k) := by
  have hl : (xs.take k).length = k := by rw [List.length_take]; omega
  unfold Lst at *
  rw [hl]
  rw [hN] at h
  refine ⟨by rw [hl]; omega, ?_⟩
  rcases h.2 with ⟨h0, h1⟩ | ⟨g, cap, cur, h0, hb, hg, hnc, hcm, hcs, htake⟩
  · injection h0 with h2 h3 h4
    subst h2 h3 h4
    obtain rfl : k = 0 := by omega
    exact .inl ⟨rfl, rfl⟩
  · injection h0 with h2 h3 h4
    subst h2 h4
    refine .inr ⟨g, c, cur, rfl, hb, hg, by omega, hcm, hcs, ?_⟩
    rw [← htake, List.take_take]
    congr 1
    omega
def ReadT (w : World) (bs : List UInt8) (e : Ending) (w' : World) : Prop :=
  ∃ a c, e = .returned (.tuple #[.slice a bs.length c, .int .i64 0]) ∧ Lst w' 0 5 (.slice a bs.length c) (u8s bs) ∧ (∀ g ∈ bl (.slice a bs.length c), w.heap.size ≤ g) ∧ Chg [] w w'
set_option maxRecDepth 100000 in
set_option maxHeartbeats 2000000 in
theorem read_tape (w : World) {q p g b n : Nat} {F : Nat → Sec} {m : Nat → Option Sec} (hq : w.cell? ⟨q, 0, none⟩ = some (.pointer (some ⟨p, 0, none⟩))) (hd : Dsk w p g b n F m) (h k : Nat) (hh : h ≤ 1) (hk : k ≤ hsec n * 64) :
    Calls Tryz.prog 119 #[.pointer (some ⟨q, 0, none⟩), .int .i64 (h : Int), .int .i64 (k : Int)] w (ReadT w ((cat (now F m) (1 + h * hsec n) (ceilS k)).take k)) := by
  have hn := hd.top
  have hs : hsec n ≤ 512 := by unfold hsec; omega
  have hs2 : hsec n * 64 ≤ 1000000 := by omega
  have HQ := Lib.hid hq
  have HD := Lib.hid hd
  clear hq hd
  refine (callsIn_wide (n := 5)).1 ?_
  refine callsIn_of_wp_marks Tryz.func119 rfl trivial ?_ rfl
  simp only [Tryz.ntmps119, List.size_toArray, List.length_cons, List.length_nil, Nat.reduceAdd, Nat.reduceSub, Array.replicate_succ, Array.replicate_zero, List.push_toArray, List.append_toArray, List.nil_append, List.cons_append]
  obtain ⟨W4, HW4⟩ : ∃ W4, Hid (((((w.alloc (.cells #[.pointer (some ⟨q, 0, none⟩)] 149)).alloc (.cells #[.slice none 0 0] 42)).alloc (.cells #[.int .i64 0] 31)).alloc (.cells #[.slice none 0 0] 42)) = W4) := ⟨_, Lib.hid rfl⟩
  have hC4 : Chg [] w W4 := by rw [← HW4.out]; exact ((((Chg.refl [] w).alloc _).alloc _).alloc _).alloc _
  have hs4 : W4.heap.size = w.heap.size + 4 := by rw [← HW4.out]; simp
  have ho0 : Own W4 w.heap.size 149 [.pointer (some ⟨q, 0, none⟩)] := by
    rw [← HW4.out]; exact (((Own.new w 149 [.pointer (some ⟨q, 0, none⟩)]).alloc _).alloc _).alloc _
  have ho1 : Own W4 (w.heap.size + 1) 42 [.slice none 0 0] := by
    rw [← HW4.out]
    have := ((Own.new (w.alloc (.cells #[.pointer (some ⟨q, 0, none⟩)] 149)) 42 [.slice none 0 0]).alloc (.cells #[.int .i64 0] 31)).alloc (.cells #[.slice none 0 0] 42)
    rwa [World.size_alloc] at this
  have ho2 : Own W4 (w.heap.size + 1 + 1) 31 [.int .i64 0] := by
    rw [← HW4.out]
    have := (Own.new ((w.alloc (.cells #[.pointer (some ⟨q, 0, none⟩)] 149)).alloc (.cells #[.slice none 0 0] 42)) 31 [.int .i64 0]).alloc (.cells #[.slice none 0 0] 42)
    rwa [World.size_alloc, World.size_alloc] at this
  have ho3 : Own W4 (w.heap.size + 1 + 1 + 1) 42 [.slice none 0 0] := by
    rw [← HW4.out]
    have := Own.new (((w.alloc (.cells #[.pointer (some ⟨q, 0, none⟩)] 149)).alloc (.cells #[.slice none 0 0] 42)).alloc (.cells #[.int .i64 0] 31)) 42 [.slice none 0 0]
    rwa [World.size_alloc, World.size_alloc, World.size_alloc] at this
  have HSE := Lib.hid (sectors_any W4 (hC4.cell HQ.out (by simp)) (HD.out.kept hC4) h 0 k hh (by omega) (by omega))
  obtain ⟨f, HF⟩ : ∃ f, Hid (1 + h * hsec n = f) := ⟨_, Lib.hid rfl⟩
  have hf2 : f ≤ 2000 := by
    rw [← HF.out]
    have : h * hsec n ≤ 1 * 512 := Nat.mul_le_mul hh hs
    omega
  rw [HF.out] at HSE ⊢
  have HS4 := Lib.hid hs4
  have HC4 := Lib.hid hC4
  have H0 := Lib.hid (And.intro ho0 (And.intro ho1 (And.intro ho2 ho3)))
  clear hC4 hs4 ho0 ho1 ho2 ho3
  gi_wp2_with fail
  simp only [HW4.out]
  refine ⟨trivial, ?_⟩
  refine (callsIn_wide.2 HSE.out).mono ?_
  rintro e w1 ⟨rfl, hw1⟩
  unfold sectorsV
  have hs1 : w1.heap.size = W4.heap.size + 3 := by rw [hw1]; simp [sectorsW]
  have hC1 : Chg [] W4 w1 := by rw [hw1]; exact (((Chg.refl [] W4).alloc _).alloc _).alloc _
  have hb0 : Own w1 W4.heap.size 3 [.int .i64 ((0 : Nat) : Int)] := by
    rw [hw1]; exact ((Own.new W4 3 [.int .i64 ((0 : Nat) : Int)]).alloc _).alloc _
  have hb1 : Own w1 (W4.heap.size + 1) 3 [.int .i64 (k : Int)] := by
    rw [hw1]; have := (Own.new (W4.alloc (.cells #[.int .i64 ((0 : Nat) : Int)] 3)) 3 [.int .i64 (k : Int)]).alloc (.cells #[.int .i64 (f : Int)] 3); rwa [World.size_alloc] at this
  have hb2 : Own w1 (W4.heap.size + 2) 3 [.int .i64 (f : Int)] := by
    rw [hw1]; have := Own.new ((W4.alloc (.cells #[.int .i64 ((0 : Nat) : Int)] 3)).alloc (.cells #[.int .i64 (k : Int)] 3)) 3 [.int .i64 (f : Int)]; rwa [World.size_alloc, World.size_alloc] at this
  have hseq := sect_stops 4 W4.heap.size (W4.heap.size + 1) (W4.heap.size + 2) f 0 k w1 hb0 hb1 hb2 (by omega) (by omega) (by omega) (Same [W4.heap.size, W4.heap.size + 1, W4.heap.size + 2]) (fun _ _ h => h)
  have hFB : ∀ x ∈ [W4.heap.size, W4.heap.size + 1, W4.heap.size + 2], x < w1.heap.size ∧ w.heap.size + 4 ≤ x := by
    intro x hx
    have := HS4.out
    simp only [List.mem_cons, List.not_mem_nil, or_false] at hx
    omega
  have hR0 : RdAt w w1 w.heap.size (w.heap.size + 1) (w.heap.size + 1 + 1) (w.heap.size + 1 + 1 + 1) w1.heap.size q (now F m) f [] :=
    ⟨H0.out.1.chg hC1 (by simp), H0.out.2.1.chg hC1 (by simp), H0.out.2.2.1.chg hC1 (by simp), ⟨_, H0.out.2.2.2.chg hC1 (by simp), Lst.nil _ _ _, by intro g hg; simp [mem_bl, Value.ownBlock] at hg⟩, HC4.out.trans hC1, Nat.le_refl _⟩
  have HSEQ := Lib.hid hseq
  have HFB := Lib.hid hFB
  have HS1 := Lib.hid hs1
  have HR0 := Lib.hid hR0
  have HB1 := Lib.hid (HC4.out.trans hC1).size
  clear hseq hFB hs1 hw1 hR0 hb0 hb1 hb2 hC1
  gi_wp2_with fail
  refine wpIn_rangeFunc_ownH rfl (by omega) (gf := 229) (lb := #[.pointer (some ⟨W4.heap.size, 0, none⟩), .pointer (some ⟨W4.heap.size + 1, 0, none⟩), .pointer (some ⟨W4.heap.size + 2, 0, none⟩)]) rfl trivial (enters_of Tryz.func229 (by kernel_rfl) rfl) HSEQ.out
    (fun h k => h.trans k) (same_put (fun x hx => (HFB.out x hx).1)) (Below.refl _ _) (fun _ => rfl)
    (fun xs W => RdAt w W w.heap.size (w.heap.size + 1) (w.heap.size + 1 + 1) (w.heap.size + 1 + 1 + 1) w1.heap.size q (now F m) f (valS xs)) (fun _ _ _ => False) ?hI ?hIx ?h0
    (fun x a' W => a' = { tmps := #[.pointer (some ⟨q, 0, none⟩), .int .i64 (h : Int), .int .i64 (k : Int), .pointer (some ⟨w.heap.size, 0, none⟩), undef, undef, .pointer (some ⟨w.heap.size + 1, 0, none⟩), .pointer (some ⟨w.heap.size + 1 + 1, 0, none⟩), .pointer (some ⟨w.heap.size + 1 + 1 + 1, 0, none⟩), .int .i64 ((f : Int) + (x.1 : Int)), undef, undef, .pointer (some ⟨q, 0, none⟩), .int .i64 (h : Int), .int .i64 (k : Int), .func (.func 229) #[] #[.pointer (some ⟨W4.heap.size, 0, none⟩), .pointer (some ⟨W4.heap.size + 1, 0, none⟩), .pointer (some ⟨W4.heap.size + 2, 0, none⟩)], .int .i64 ((f : Int) + (x.1 : Int)), .int .i64 ((x.1 : Int) * 64), undef, undef, undef, undef, undef, undef, undef, undef, undef, undef, undef, undef, undef, undef, undef, undef, undef, undef], defers := [] }) ?hAx ?assign ?body ?done ?stop
  case hI =>
    rintro xs X Y row h1 hg hr
    exact h1.kept HB1.out hg hr
  case hIx => exact fun _ _ _ _ _ h _ _ => h.elim
  case h0 => exact HR0.out
  case hAx => exact fun x a' => ownFrom_pure _ _
  case assign =>
    rintro l pre x W K h1 hK
    unfold encS
    have HK := Lib.hid hK
    clear hK
    gi_wp2_with fail
    exact HK.out _ _ (keepsFrom_below (Below.refl _ _)) (Same.refl _ _) h1 rfl
  case body =>
    rintro l pre x a' W hl hlr h1 rfl hlt
    obtain ⟨v, h3, h4, h5⟩ := h1.o3
    obtain ⟨a, c, rfl, -, -, -⟩ := h4.form
    rw [u8s_length] at h3 h4 h5
    have hlenR : ∀ i, (now F m i).length = 64 := HD.out.lenN
    have hbl : (catP (now F m) f (valS pre)).length ≤ 100000 := by
      rw [catP_len hlenR]
      have h6 : secN 0 k ≤ 1000 := by unfold secN; omega
      have h7 : (valS pre).length = pre.length := by simp [valS]
      omega
    obtain ⟨N, HN⟩ : ∃ N, Hid ((catP (now F m) f (valS pre)).length = N) := ⟨_, Lib.hid rfl⟩
    rw [HN.out] at h3 h4 h5 hbl
    have hx := x.2
    have hxn : f + x.1 < n := by
      rw [← HF.out]
      unfold ceilS at hx
      have h6 : x.1 < hsec n := by omega
      have h7 : h * hsec n ≤ 1 * hsec n := Nat.mul_le_mul hh (Nat.le_refl _)
      have h8 := HD.out.one
      unfold hsec at *
      omega
    have hdW := HD.out.kept h1.chg
    have hrd := read_ok W hdW (f + x.1) hxn
    rw [show ((f + x.1 : Nat) : Int) = (f : Int) + (x.1 : Int) by omega] at hrd
    obtain ⟨S, HSS⟩ : ∃ S, Hid (now F m (f + x.1) = S) := ⟨_, Lib.hid rfl⟩
    have hS64 : S.length = 64 := by rw [← HSS.out]; exact hlenR _
    rw [HSS.out] at hrd
    have HRD := Lib.hid hrd
    have HH1 := Lib.hid h1
    have H3 := Lib.hid h3
    have H4 := Lib.hid h4
    have H5 := Lib.hid h5
    have HPO := Lib.hid (show catP (now F m) f (valS (pre ++ [x])) = catP (now F m) f (valS pre) ++ S by rw [valS_snoc, catP_snoc, HSS.out])
    have c0 := h1.o0.cell 0
    have cq := h1.chg.cell HQ.out (by simp)
    simp at c0
    have hmx : Tryz.prog.follows .mixedOrders = true := by kernel_rfl
    clear hrd h1 h3 h4 h5 hdW hlenR hx
    gi_wp2_with fail
    refine ⟨trivial, ?_⟩
    refine (CallsIn.inRound l (callsIn_wide.2 HRD.out)).mono ?_
    rintro e w2 ⟨rfl, hc2⟩
    gi_wp2_with (first
      | (refine round_alloc37 rfl rfl ?_)
      | (refine round_laid _ _ rfl rfl S rfl rfl rfl hS64 ?_; intro w3 hr3 hc3)
      | fail)
    have hc03 : Chg [] W w3 := hc2.trans hc3
    have hW3 := HH1.out.more hc03
    have h33 := H3.out.chg hc03 (by simp)
    have h43 := H4.out.kept0 hc03
    have hb3 := h33.cell 0
    simp at hb3
    have hlt3 : w2.heap.size < w3.heap.size := by
      obtain ⟨u, hu⟩ := List.exists_mem_of_length_pos (show 0 < (u8s S).length by rw [u8s_length]; omega)
      obtain ⟨i, hi, he⟩ := List.getElem_of_mem hu
      exact World.block_lt_of_cell? _ _ (hr3 i _ (List.getElem?_eq_getElem hi))
    have hroS : Ro w3.drew w3.heap.size (some ⟨w2.heap.size, 0, none⟩) (u8s S) := .inr ⟨w2.heap.size, 0, rfl, hlt3, fun i hi => by
      have := hr3 i _ (List.getElem?_eq_getElem hi)
      rw [List.getD_eq_getElem?_getD, List.getElem?_eq_getElem hi]
      exact this⟩
    have hne : w.heap.size + 1 + 1 + 1 ∉ bl (.slice a N c) := fun hx => by
      have h6 := H5.out _ hx
      have h7 := HS1.out
      have h8 := HS4.out
      omega
    have HW3 := Lib.hid hW3
    have HX := Lib.hid (And.intro h33 (And.intro h43 (And.intro hroS hne)))
    have HC3 := Lib.hid hc03
    clear hr3 hc2 hc3 hW3 h33 h43 hroS hne hc03 c0 cq
    refine round_region (l := l) (fun _ => True) hmx ?_ (by kernel_rfl) ?_
    · rintro ⟨_, _, hh⟩; exact hh
    have hHeld : True := trivial
    refine wpAnyH_take (i := 1) (v := ?_) rfl (by kernel_rfl) (by kernel_rfl) (by kernel_rfl) (fun _ _ _ h => h) (Or.inl ⟨by kernel_rfl, ?_⟩) hHeld ?_
    rotate_left
    · (intro w hSw; first | (go_simp; done) | (go_simp; with_reducible rfl))
    (try simp only [Act.put, List.getElem_toArray, List.getElem_cons_succ, List.getElem_cons_zero, List.setIfInBounds_toArray, List.set_cons_zero, List.set_cons_succ])
    refine wpAnyH_ready (rs := [0]) (by kernel_rfl) (by simp) (AllReadyH.cons rfl (fun K hK => ?_) AllReadyH.nil)
    have hH := hHeld
    (go_simp; skip)
    refine hK.out _ _ (by exact trivial) (fun hHq1 => ?_)
    clear hK K hH 
    (try simp only [Act.put, List.getElem_toArray, List.getElem_cons_succ, List.getElem_cons_zero, List.setIfInBounds_toArray, List.set_cons_zero, List.set_cons_succ])
    refine wpAnyH_ready (rs := [2]) (by kernel_rfl) (by simp) (AllReadyH.cons rfl (fun K hK => ?_) AllReadyH.nil)
    have hH := hHq1
    (refine step_appK (by rfl) (.tmp 30) (.tmp 31) 42 (by rfl) 5 (.int .u8 0) 1 Tryz.underlying42 infoU8 rfl (.slice a N c) (u8s (catP (now F m) f (valS pre))) (by rfl) (show Lst w3.drew 0 5 (.slice a N c) (u8s (catP (now F m) f (valS pre))) from HX.out.2.1) (some ⟨w2.heap.size, 0, none⟩) w3.heap.size 64 64 (u8s S) (by rfl) (by rw [u8s_length, hS64]) HX.out.2.2.1 (u8s_one S) (by rw [u8s_length, HN.out]; omega) (by rw [u8s_length, HN.out]; omega) ?_; intro v5 w5 K5)
    refine hK.out _ _ (by exact trivial) (fun hHq2 => ?_)
    clear hK K hH hHq1
    (obtain ⟨a5, n5, c5, rfl⟩ := K5.out.lst.shape; have ho5 := Own.chg (a := w3.drew) HX.out.1 K5.out.chg HX.out.2.2.2; have hb5 := ho5.cell 0; have hf5 := ho5.frozen 0; simp at hb5)
    (try simp only [Act.put, List.getElem_toArray, List.getElem_cons_succ, List.getElem_cons_zero, List.setIfInBounds_toArray, List.set_cons_zero, List.set_cons_succ])
    refine wpAnyH_ready (rs := [3]) (by kernel_rfl) (by simp) (AllReadyH.cons rfl (fun K hK => ?_) AllReadyH.nil)
    have hH := hHq2
    (go_simp; skip)
    refine hK.out _ _ (by exact trivial) (fun hHq3 => ?_)
    clear hK K hH hHq2
    (try simp only [Act.put, List.getElem_toArray, List.getElem_cons_succ, List.getElem_cons_zero, List.setIfInBounds_toArray, List.set_cons_zero, List.set_cons_succ])
    refine wpAnyH_done (by kernel_rfl) ?_ _
    have hEnd := hHq3
    have hC5 : Chg (bl (.slice a N c)) W w5 := ((HC3.out.drew).mono (by simp)).trans K5.out.chg
    have hCW : Chg (bl (.slice a N c) ++ [w.heap.size + 1 + 1 + 1]) W (w5.setCell ⟨w.heap.size + 1 + 1 + 1, 0, none⟩ (.slice a5 n5 c5)) := (hC5.mono (fun x hx => .inl (by simp [hx]))).setCell (by simp) _
    have hsz := HH1.out.size
    have hs1 := HS1.out
    have hs4 := HS4.out
    have hl5 : ∀ g ∈ bl (.slice a5 n5 c5), w1.heap.size ≤ g := fun g hg => by
      rcases K5.out.bl g hg with h6 | h6
      · exact H5.out g h6
      · have := HC3.out.size
        have h7 : w3.drew.heap.size = w3.heap.size := rfl
        omega
    have hlow : ∀ y, y < w1.heap.size → y ∉ bl (.slice a N c) := fun y hy hm => by have := H5.out y hm; omega
    refine ⟨keepsFrom_chg hCW (fun y hy hlt => ?_), same_chg hCW (fun y hy => ?_), ?_⟩
    · rcases List.mem_append.1 hy with hy | hy
      · obtain ⟨cc, hcc⟩ := H4.out.typ (mem_bl.1 hy)
        exact ⟨_, _, _, hcc⟩
      · simp at hy
        subst hy
        exact ⟨_, _, _, H3.out⟩
    · have h6 := HFB.out y hy
      refine ⟨by omega, fun hm => ?_⟩
      rcases List.mem_append.1 hm with hm | hm
      · exact hlow y h6.1 hm
      · simp at hm
        omega
    · have hl3 : ∀ g, g < w1.heap.size → g ≠ w.heap.size + 1 + 1 + 1 → g ∉ bl (.slice a N c) ++ [w.heap.size + 1 + 1 + 1] := fun g h6 h7 hm => by
        rcases List.mem_append.1 hm with hm | hm
        · exact hlow g h6 hm
        · simp at hm; exact h7 hm
      have hchg : Chg [] w (w5.setCell ⟨w.heap.size + 1 + 1 + 1, 0, none⟩ (.slice a5 n5 c5)) := HH1.out.chg.then hCW (fun y hy => .inr (by
        rcases List.mem_append.1 hy with hy | hy
        · have := H5.out y hy; have := HB1.out; omega
        · simp at hy; omega))
      refine ⟨HH1.out.o0.chg hCW (hl3 _ (by omega) (by omega)), HH1.out.o1.chg hCW (hl3 _ (by omega) (by omega)), HH1.out.o2.chg hCW (hl3 _ (by omega) (by omega)), ⟨_, ho5.set 0 _, ?_, hl5⟩, hchg, ?_⟩
      · rw [HPO.out]
        have h6 := K5.out.lst
        rw [show u8s (catP (now F m) f (valS pre)) ++ u8s S = u8s (catP (now F m) f (valS pre) ++ S) by simp [u8s]] at h6
        exact h6.chg (l := [w.heap.size + 1 + 1 + 1]) ((Chg.refl _ _).setCell (by simp) _) (fun g hg hm => by
          have := hl5 g (mem_bl.2 hg)
          simp at hm
          omega)
      · exact Nat.le_trans hsz hCW.size
  case done =>
    rintro D xs W hD hS h1 hK
    obtain ⟨v, h3, h4, h5⟩ := h1.o3
    have hcat : catP (now F m) f (valS xs) = cat (now F m) f (ceilS k) := by
      rw [hS, Nat.zero_div, show secN 0 k = ceilS k by unfold secN ceilS; omega]
      exact catP_range _ _ _
    rw [hcat] at h4
    have hlen : (cat (now F m) f (ceilS k)).length = ceilS k * 64 := cat_len HD.out.lenN _ _
    have hle : k ≤ (cat (now F m) f (ceilS k)).length := by rw [hlen]; unfold ceilS; omega
    obtain ⟨a, c, rfl, -, hcap, hnone⟩ := h4.form
    rw [u8s_length] at h3 h4 h5 hcap
    obtain ⟨N, HN⟩ : ∃ N, Hid ((cat (now F m) f (ceilS k)).length = N) := ⟨_, Lib.hid rfl⟩
    rw [HN.out] at h3 h4 h5 hcap hle
    have c3 := h3.cell 0
    have c1 := h1.o1.cell 0
    have c2 := h1.o2.cell 0
    have f1 := h1.o1.frozen 0
    have f2 := h1.o2.frozen 0
    simp at c1 c2 c3
    have H1 := Lib.hid h1
    have H4 := Lib.hid h4
    have H5 := Lib.hid h5
    have HK := Lib.hid hK
    have hkc : (k : Int) ≤ (c : Int) := by omega
    have hk0 : (0 : Int) ≤ (k : Int) := by omega
    clear h1 h3 h4 h5 hK hS hcat hlen hnone
    gi_wp2_with fail
    have hs1 := HS1.out
    have hs4 := HS4.out
    have hK2 : ((W.setCell ⟨w.heap.size + 1, 0, none⟩ (.slice a k c)).setCell ⟨w.heap.size + 1 + 1, 0, none⟩ (.int .i64 0)).heap[D]? = some (.deferred (some [])) := by
      rw [Below.heap_setCell _ _ _ _ (by simp; omega), Below.heap_setCell _ _ _ _ (by simp; omega)]
      exact HK.out
    refine ⟨by simp, .inl ⟨_, _, rfl, run_takeDeferred hK2, ?_⟩⟩
    have ho1 := (H1.out.o1.set 0 (.slice a k c)).far (p := ⟨w.heap.size + 1 + 1, 0, none⟩) (by simp) (.int .i64 0)
    have ho2 := (H1.out.o2.far (p := ⟨w.heap.size + 1, 0, none⟩) (by simp) (.slice a k c)).set 0 (.int .i64 0)
    have hg : ((W.setCell ⟨w.heap.size + 1, 0, none⟩ (.slice a k c)).setCell ⟨w.heap.size + 1 + 1, 0, none⟩ (.int .i64 0)).grownBy (((W.setCell ⟨w.heap.size + 1, 0, none⟩ (.slice a k c)).setCell ⟨w.heap.size + 1 + 1, 0, none⟩ (.int .i64 0)).putObj D (.deferred none)) (some D) := grownBy_putObj' _ D (.deferred none)
    have ho1' := ho1.grown hg (by simp; omega)
    have ho2' := ho2.grown hg (by simp; omega)
    have hCW : Chg [w.heap.size + 1, w.heap.size + 1 + 1] W ((W.setCell ⟨w.heap.size + 1, 0, none⟩ (.slice a k c)).setCell ⟨w.heap.size + 1 + 1, 0, none⟩ (.int .i64 0)) := ((Chg.refl _ W).setCell (by simp) _).setCell (by simp) _
    have hCD := H1.out.chg.then hCW (fun y hy => .inr (by simp at hy; omega))
    have hCE := hCD.grown hg (fun y hy => by injection hy with hy; subst hy; right; have := HB1.out; omega)
    have hl4 := (H4.out.cut hle (by rw [u8s_length, HN.out])).chg hCW (fun g hg hm => by
      have := H5.out g (by rw [bl_cut a k N c]; exact mem_bl.2 hg)
      simp at hm
      omega)
    have hl5 := lst_kept hl4 hg (fun r hr => by injection hr with hr; subst hr; exact ⟨_, hK2, rfl⟩)
    generalize (((W.setCell ⟨w.heap.size + 1, 0, none⟩ (.slice a k c)).setCell ⟨w.heap.size + 1 + 1, 0, none⟩ (.int .i64 0)).putObj D (.deferred none)) = WZ at ho1' ho2' hl5 hCE ⊢
    have d1 := ho1'.cell 0
    have d2 := ho2'.cell 0
    simp at d1 d2
    have hbk : ((cat (now F m) f (ceilS k)).take k).length = k := by rw [List.length_take, HN.out]; omega
    refine ⟨.tuple #[.slice a k c, .int .i64 0], by simp [results, Tryz.results119, go_sem, d1, d2], ?_⟩
    refine ⟨a, c, by rw [hbk], ?_, ?_, hCE⟩
    · rw [hbk]
      have e : (u8s (cat (now F m) f (ceilS k))).take k = u8s ((cat (now F m) f (ceilS k)).take k) := by simp [u8s, List.map_take]
      rw [← e]
      exact hl5
    · rw [hbk]
      intro g hg
      have h6 := H5.out g (by rw [bl_cut a k N c]; exact hg)
      have := HB1.out
      omega
  case stop => exact fun D c pre W _ _ h _ => h.elim
end Go.Proofs.YtcadnlilijkneaaGreat
namespace Go.Proofs.YtcadnlilijkneaaGreat
open Go.RowKit Go.Deep
set_option linter.unusedVariables false
set_option linter.unusedSimpArgs false

structure TpV (w : World) (l : List Nat) (q p n h h' : Nat) (L L' : List Rec) (k : Nat) (vF vE vF' vE' : Value) : Prop where
  own : Own w q 215 [.pointer (some ⟨p, 0, none⟩), .int .i64 (h : Int), vF, vE, .int .i64 (h' : Int), vF', vE', .int .i64 (k : Int)]
  fr : Lst w 0 5 vF (u8s (frs L))
  en : Lst w 0 3 vE (i64s (ens L))
  fr' : Lst w 0 5 vF' (u8s (frs L'))
  en' : Lst w 0 3 vE' (i64s (ens L'))
  alF : ∀ g, vF.ownBlock = some g → vF'.ownBlock = some g → (frs L).length ≤ (frs L').length
  alE : ∀ g, vE.ownBlock = some g → vE'.ownBlock = some g → L.length ≤ L'.length
  memq : q ∈ l
  memv : ∀ x, x ∈ bl vF ∨ x ∈ bl vE ∨ x ∈ bl vF' ∨ x ∈ bl vE' → x ∈ l
  half : h ≤ 1
  half' : h' ≤ 1
  step : k ≤ 3
  ok : okL L
  ok' : okL L'
  room : (frs L).length ≤ hsec n * 64
  room' : (frs L').length ≤ hsec n * 64
  pre : h = h' → ∃ W, L' = L ++ W
  busy : 0 < k → h ≠ h' ∨ L.length < L'.length
def Tp (w : World) (l : List Nat) (q p n h h' : Nat) (L L' : List Rec) (k : Nat) : Prop := ∃ vF vE vF' vE', TpV w l q p n h h' L L' k vF vE vF' vE'
theorem TpV.chg {w w' : World} {l : List Nat} {q p n h h' : Nat} {L L' : List Rec} {k : Nat} {vF vE vF' vE' : Value} (t : TpV w l q p n h h' L L' k vF vE vF' vE') {m : List Nat} (hc : Chg m w w') (hm : ∀ x ∈ m, x ∉ l) : TpV w' l q p n h h' L L' k vF vE vF' vE' :=
  ⟨t.own.chg hc (fun h => hm _ h t.memq), t.fr.chg hc (fun g hg h => hm _ h (t.memv g (.inl (mem_bl.2 hg)))), t.en.chg hc (fun g hg h => hm _ h (t.memv g (.inr (.inl (mem_bl.2 hg))))),
    t.fr'.chg hc (fun g hg h => hm _ h (t.memv g (.inr (.inr (.inl (mem_bl.2 hg)))))), t.en'.chg hc (fun g hg h => hm _ h (t.memv g (.inr (.inr (.inr (mem_bl.2 hg)))))),
    t.alF, t.alE, t.memq, t.memv, t.half, t.half', t.step, t.ok, t.ok', t.room, t.room', t.pre, t.busy⟩
theorem Tp.chg {w w' : World} {l : List Nat} {q p n h h' : Nat} {L L' : List Rec} {k : Nat} (t : Tp w l q p n h h' L L' k) {m : List Nat} (hc : Chg m w w') (hm : ∀ x ∈ m, x ∉ l) : Tp w' l q p n h h' L L' k := by
  obtain ⟨a, b, c, d, t⟩ := t
  exact ⟨a, b, c, d, t.chg hc hm⟩
theorem Tp.kept {w w' : World} {l : List Nat} {q p n h h' : Nat} {L L' : List Rec} {k : Nat} (t : Tp w l q p n h h' L L' k) (hc : Chg [] w w') : Tp w' l q p n h h' L L' k := t.chg hc (by simp)
theorem TpV.kept {w w' : World} {l : List Nat} {q p n h h' : Nat} {L L' : List Rec} {k : Nat} {vF vE vF' vE' : Value} (t : TpV w l q p n h h' L L' k vF vE vF' vE') (hc : Chg [] w w') : TpV w' l q p n h h' L L' k vF vE vF' vE' := t.chg hc (by simp)
def OpenT (w : World) (p n : Nat) (R : Nat → Sec) (e : Ending) (w' : World) : Prop :=
  (∃ h L q l, Opens n R h L ∧ e = .returned (.tuple #[.pointer (some ⟨q, 0, none⟩), .int .i64 0]) ∧ Tp w' l q p n h h L L 0 ∧ (∀ x ∈ l, w.heap.size ≤ x) ∧ Chg [] w w') ∨
  ((∀ h L, ¬ Opens n R h L) ∧ e = .returned (.tuple #[.pointer none, .int .i64 63]) ∧ Chg [] w w')
theorem open_nil (w : World) : Calls Tryz.prog 74 #[.pointer none] w fun e w' => e = .returned (.tuple #[.pointer none, .int .i64 1]) ∧ w = w' := by
  go_enter Tryz.func74, Tryz.ntmps74
  go_wp2
  go_ret2
  exact ⟨rfl, rfl⟩
theorem opens_sup {n : Nat} {R : Nat → Sec} {h : Nat} {L : List Rec} (hn : n ≤ 1024) (o : Opens n R h L) : h = supH (R 0) ∧ L.length = supR (R 0) ∧ (frs L).length = supB (R 0) ∧ supH (R 0) ≤ 1 ∧ supS (supH (R 0)) (supR (R 0)) (supB (R 0)) = R 0 := by
  have h1 := o.half
  have h3 := frs_ge o.ok
  have h5 := o.room
  unfold hsec at h5
  obtain ⟨e1, e2, e3⟩ := sup_of (h := h) (r := L.length) (b := (frs L).length) h1 (by omega) (by omega)
  rw [← o.sup] at e1 e2 e3
  refine ⟨e1.symm, e2.symm, e3.symm, by rw [e1]; exact h1, by rw [e1, e2, e3]; exact o.sup.symm⟩
theorem opens_bytes {n : Nat} {R : Nat → Sec} {h : Nat} {L : List Rec} (hR : ∀ i, (R i).length = 64) (hr : (frs L).length ≤ hsec n * 64) : (cat R (1 + h * hsec n) (ceilS (frs L).length)).take (frs L).length = (halfB n R h).take (frs L).length :=
  cat_take_any hR _ _ _ _ (by unfold ceilS; omega) hr
set_option maxHeartbeats 4000000 in
set_option maxRecDepth 100000 in
theorem open_ok (w : World) {p g b n : Nat} {F : Nat → Sec} {m : Nat → Option Sec} (hd : Dsk w p g b n F m) (hn : 3 ≤ n) :
    Calls Tryz.prog 74 #[.pointer (some ⟨p, 0, none⟩)] w (OpenT w p n (now F m)) := by
  have HL := Lib.hid (len_ok w hd)
  have ht := hd.top
  have h1 : decide ((n : Int) < 3) = false := by simp; omega
  obtain ⟨W1, HW1⟩ : ∃ W1, Hid (w.alloc (.cells #[.pointer (some ⟨p, 0, none⟩), .int .i64 0, .slice none 0 0, .slice none 0 0, .int .i64 0, .slice none 0 0, .slice none 0 0, .int .i64 0] 215) = W1) := ⟨_, Lib.hid rfl⟩
  have hC1 : Chg [] w W1 := by rw [← HW1.out]; exact (Chg.refl [] w).alloc _
  have hO1 : Own W1 w.heap.size 215 [.pointer (some ⟨p, 0, none⟩), .int .i64 0, .slice none 0 0, .slice none 0 0, .int .i64 0, .slice none 0 0, .slice none 0 0, .int .i64 0] := by rw [← HW1.out]; exact Own.new w _ _
  have h0 := read_ok W1 (hd.kept hC1) 0 (by omega)
  rw [show ((0 : Nat) : Int) = 0 from rfl] at h0
  obtain ⟨S, HSS⟩ : ∃ S, Hid (now F m 0 = S) := ⟨_, Lib.hid rfl⟩
  have hS64 : S.length = 64 := by rw [← HSS.out]; exact hd.lenN 0
  rw [HSS.out] at h0
  have H0 := Lib.hid h0
  have HD := Lib.hid hd
  have HC1 := Lib.hid hC1
  have HO1 := Lib.hid hO1
  clear hd hC1 hO1 h0
  go_enter Tryz.func74, Tryz.ntmps74
  go_wp2_with (first | (go_at_call 116; refine HL.out.mono ?_; rintro e w' ⟨rfl, rfl⟩) | fail)
  simp only [HW1.out]
  refine H0.out.mono ?_
  rintro e w2 ⟨rfl, hc2⟩
  go_wp2_with (first
    | (refine wpList_alloc37 rfl rfl ?_)
    | (refine wpList_laid rfl _ _ rfl S rfl rfl rfl hS64 ?_; intro w3 hr3 hc3)
    | (refine wpList_load37 rfl _ rfl _ 0 rfl S hr3 hS64 ?_)
    | fail)
  have HS := Lib.hid (superOf_any w3 S hS64)
  have hO3 := HO1.out.chg (hc2.trans hc3) (by simp)
  have HO3 := Lib.hid hO3
  have HC3 := Lib.hid ((HC1.out.trans hc2).trans hc3)
  clear hc2 hc3 hr3 hO3
  refine HS.out.mono ?_
  rintro e w4 ⟨rfl, hc4⟩
  have hx := supH_lt S
  have hr := supR_lt hS64
  have hb := supB_lt hS64
  obtain ⟨x, HX⟩ : ∃ x, Hid (supH S = x) := ⟨_, Lib.hid rfl⟩
  obtain ⟨r, HR⟩ : ∃ r, Hid (supR S = r) := ⟨_, Lib.hid rfl⟩
  obtain ⟨y, HY⟩ : ∃ y, Hid (supB S = y) := ⟨_, Lib.hid rfl⟩
  obtain ⟨okB, HK⟩ : ∃ okB, Hid (decide (supH S ≤ 1 ∧ supS (supH S) (supR S) (supB S) = S) = okB) := ⟨_, Lib.hid rfl⟩
  simp only [HK.out]
  simp only [HX.out, HR.out, HY.out] at hx hr hb ⊢
  have hC4 := HC3.out.trans hc4
  have hO4 := HO3.out.chg hc4 (by simp)
  have hCW : Chg [] w4 (w4.alloc (.cells #[.int .u8 (x : Int), .int .u32 (r : Int), .int .u32 (y : Int)] 218)) := (Chg.refl [] w4).alloc _
  obtain ⟨W5, HW5⟩ : ∃ W5, Hid (w4.alloc (.cells #[.int .u8 (x : Int), .int .u32 (r : Int), .int .u32 (y : Int)] 218) = W5) := ⟨_, Lib.hid rfl⟩
  rw [HW5.out] at hCW
  have hO5 := hO4.chg hCW (by simp)
  have hP5 : Own W5 w4.heap.size 218 [.int .u8 (x : Int), .int .u32 (r : Int), .int .u32 (y : Int)] := by rw [← HW5.out]; exact Own.new w4 _ _
  have HO5 := Lib.hid hO5
  have HP5 := Lib.hid hP5
  have hC5 := hC4.trans hCW
  have HC5 := Lib.hid hC5
  clear hO4 hCW hO5 hP5 hC4 hc4 hC5
  go_wp2_with fail
  simp only [HW5.out]
  cases okB with
  | false =>
    go_quiet (fail)
    go_wp2
    go_ret2
    refine .inr ⟨fun h2 L2 o => ?_, rfl, HC5.out.drewN _⟩
    obtain ⟨_, _, _, e1, e2⟩ := opens_sup ht o
    rw [HSS.out] at e1 e2
    have := HK.out
    rw [decide_eq_true (And.intro e1 e2)] at this
    cases this
  | true =>
    have hk2 := of_decide_eq_true HK.out
    have hx1 : x ≤ 1 := by rw [← HX.out]; exact hk2.1
    have hsup := hk2.2
    rw [HX.out, HR.out, HY.out] at hsup
    have HSUP := Lib.hid hsup
    clear hk2 hsup
    have hq5 := HO5.out.cell 0
    have y5 := HP5.out.cell 2
    have y0 := HP5.out.cell 0
    simp at hq5 y5 y0
    have HHS := Lib.hid (fun k => halfSize_any (W5.drewN k) (show (W5.drewN k).cell? ⟨w.heap.size, 0, none⟩ = _ from hq5) (HD.out.kept (HC5.out.drewN k)))
    obtain ⟨s, HSZ⟩ : ∃ s, Hid (hsec n * 64 = s) := ⟨_, Lib.hid rfl⟩
    have hs1 : s ≤ 100000 := by rw [← HSZ.out]; unfold hsec; omega
    rw [HSZ.out] at HHS
    have e1 : IntKind.u32.wrap (s : Int) = (s : Int) := by rw [IntKind.wrap_u32]; omega
    by_cases hgt : s < y
    · have hd : decide ((s : Int) < (y : Int)) = true := by simp; omega
      have hd2 : decide (s < y) = true := by simpa using hgt
      go_quiet ((go_at_call 118; exact quiet1 (HHS.out _)))
      go_wp2
      go_ret2
      refine .inr ⟨fun h2 L2 o => ?_, rfl, HC5.out.drewN _⟩
      obtain ⟨_, _, e3, _, _⟩ := opens_sup ht o
      rw [HSS.out, HY.out] at e3
      have := o.room
      rw [HSZ.out] at this
      omega
    · have hd : decide ((s : Int) < (y : Int)) = false := by simp; omega
      have hd2 : decide (s < y) = false := by simpa using hgt
      go_quiet ((go_at_call 118; exact quiet1 (HHS.out _)))
      rename_i nq
      have HRD := Lib.hid (read_tape (W5.drewN nq) (show (W5.drewN nq).cell? ⟨w.heap.size, 0, none⟩ = _ from hq5) (HD.out.kept (HC5.out.drewN nq)) x y hx1 (by rw [HSZ.out]; omega))
      obtain ⟨bs, HBS⟩ : ∃ bs, Hid ((cat (now F m) (1 + x * hsec n) (ceilS y)).take y = bs) := ⟨_, Lib.hid rfl⟩
      have hbl : bs.length = y := by
        rw [← HBS.out, List.length_take, cat_len HD.out.lenN]
        unfold ceilS; omega
      rw [HBS.out] at HRD
      have HBL := Lib.hid hbl
      clear hbl
      go_wp2_with fail
      refine HRD.out.mono ?_
      rintro e w6 ⟨a6, c6, rfl, hl6, hb6, hc6⟩
      rw [HBL.out] at hl6 hb6 ⊢
      obtain ⟨_, _, he6, hro6, hcap6, -⟩ := hl6.form
      injection he6 with he7 he8 he9
      subst he7 he9
      have hm6 : c6 ≤ 9223372036854775807 := by
        rcases hl6.2 with ⟨h0, _⟩ | ⟨g, cap, cur, h0, _, _, _, hcm, _⟩
        · injection h0 with _ _ h0; omega
        · injection h0 with _ _ h0; unfold maxLen at hcm; omega
      rw [u8s_length, HBL.out] at hcap6
      have hco := contentOf_any w6 x a6 bs c6 w6.heap.size hro6 (Nat.le_refl _) hx1 (by rw [HBL.out]; exact hcap6) hm6 (by rw [HBL.out]; omega)
      rw [HBL.out] at hco
      have HCO := Lib.hid hco
      have HL6 := Lib.hid hl6
      have HB6 := Lib.hid hb6
      have hc06 := (HC5.out.drewN nq).trans hc6
      have HC6 := Lib.hid hc06
      have hP6 := Own.chg (a := W5.drewN nq) HP5.out hc6 (by simp)
      have hO6 := Own.chg (a := W5.drewN nq) HO5.out hc6 (by simp)
      have z0 := hP6.cell 0
      simp at z0
      have HP6 := Lib.hid hP6
      have HO6 := Lib.hid hO6
      clear hco hl6 hb6 hc6 hc06 hP6 hO6 hro6 he8 hq5 y5 y0 HHS
      go_wp2_with fail
      refine HCO.out.mono ?_
      rintro e w7 h7
      rcases h7 with ⟨L, vE, hok, hbs, rfl, hlE, hbE, hc7⟩ | ⟨hno, rfl, hc7⟩
      · obtain ⟨aE, cE, rfl, -⟩ := hlE.form
        rw [i64s_length, ens_len] at hlE hbE ⊢
        have hK1 : L.length ≤ 100000 := by
          have h8 := frs_ge hok
          have h9 := HBL.out
          rw [hbs] at h9
          omega
        obtain ⟨nL, HNL⟩ : ∃ nL, Hid (L.length = nL) := ⟨_, Lib.hid rfl⟩
        rw [HNL.out] at hlE hbE hK1 ⊢
        have hCW : Chg [] w7 (w7.alloc (.cells #[.int .i64 (x : Int), .slice a6 y c6, .slice aE nL cE] 213)) := (Chg.refl [] w7).alloc _
        obtain ⟨W8, HW8⟩ : ∃ W8, Hid (w7.alloc (.cells #[.int .i64 (x : Int), .slice a6 y c6, .slice aE nL cE] 213) = W8) := ⟨_, Lib.hid rfl⟩
        rw [HW8.out] at hCW
        have hQ8 : Own W8 w7.heap.size 213 [.int .i64 (x : Int), .slice a6 y c6, .slice aE nL cE] := by rw [← HW8.out]; exact Own.new w7 _ _
        have hc68 := hc7.trans hCW
        have hP8 := HP6.out.chg hc68 (by simp)
        have hO8 := HO6.out.chg hc68 (by simp)
        have hlF8 := HL6.out.kept0 hc68
        have hlE8 := hlE.kept0 hCW
        have HX8 := Lib.hid (And.intro hO8 (And.intro hlF8 (And.intro hlE8 (HC6.out.trans hc68))))
        have d0 := hP8.cell 0
        have d1 := hP8.cell 1
        have d2 := hP8.cell 2
        have q0 := hQ8.cell 0
        have q1 := hQ8.cell 1
        have q2 := hQ8.cell 2
        simp at d0 d1 d2 q0 q1 q2
        have HCE := Lib.hid (And.intro d0 (And.intro d1 (And.intro d2 (And.intro q0 (And.intro q1 q2)))))
        have HOK := Lib.hid (And.intro hok hbs)
        have HBE := Lib.hid (And.intro hbE hc7.size)
        have HSU := Lib.hid (fun W => super_any W x a6 aE y c6 nL cE hx1 (by omega) hb)
        clear hCW hQ8 hc68 hP8 hO8 hlF8 hlE8 hlE hbE hok hbs d0 d1 d2 q0 q1 q2 z0
        go_wp2_with fail
        simp only [HW8.out]
        have HOP := Lib.hid (show ∀ h2 L2, Opens n (now F m) h2 L2 → L2 = L ∧ nL = r from fun h2 L2 o => by
          obtain ⟨e1, e2, e3, _, _⟩ := opens_sup ht o
          rw [HSS.out, HX.out] at e1
          rw [HSS.out, HR.out] at e2
          rw [HSS.out, HY.out] at e3
          have h8 := opens_bytes HD.out.lenN o.room (h := h2)
          rw [o.bytes, e3, e1, HBS.out, HOK.out.2] at h8
          have h9 := frs_inj HOK.out.1 o.ok h8
          subst h9
          exact ⟨rfl, by rw [← HNL.out, e2]⟩)
        by_cases hKr : nL = r
        case' pos =>
          have he : ((nL : Int) == (r : Int)) = true := by simp; omega
          have HKR := Lib.hid hKr
          clear hKr
          refine wp_region_held_drew (S := (fun w' => w'.cell? ⟨w4.heap.size, 0, none⟩ = some (.int .u8 (x : Int)) ∧ w'.cell? ⟨w4.heap.size, 1, none⟩ = some (.int .u32 (r : Int)) ∧ w'.cell? ⟨w4.heap.size, 2, none⟩ = some (.int .u32 (y : Int)) ∧ w'.cell? ⟨w7.heap.size, 0, none⟩ = some (.int .i64 (x : Int)) ∧ w'.cell? ⟨w7.heap.size, 1, none⟩ = some (.slice a6 y c6) ∧ w'.cell? ⟨w7.heap.size, 2, none⟩ = some (.slice aE nL cE))) (by kernel_rfl) HCE.out (fun hHeld => ?_)
          refine wpAnyH_take (i := 0) (v := ?_) rfl (by kernel_rfl) (by kernel_rfl) (by kernel_rfl) (fun _ _ _ h => h) (Or.inl ⟨by kernel_rfl, ?_⟩) hHeld ?_
          rotate_left
          · (intro w hSw; first | (go_simp; done) | (go_simp; with_reducible rfl))
          (try simp only [Act.put, List.getElem_toArray, List.getElem_cons_succ, List.getElem_cons_zero, List.setIfInBounds_toArray, List.set_cons_zero, List.set_cons_succ])
          refine wpAnyH_take (i := 1) (v := ?_) rfl (by kernel_rfl) (by kernel_rfl) (by kernel_rfl) (fun _ _ _ h => h) (Or.inl ⟨by kernel_rfl, ?_⟩) hHeld ?_
          rotate_left
          · (intro w hSw; first | (go_simp; done) | (go_simp; with_reducible rfl))
          (try simp only [Act.put, List.getElem_toArray, List.getElem_cons_succ, List.getElem_cons_zero, List.setIfInBounds_toArray, List.set_cons_zero, List.set_cons_succ])
          refine wpAnyH_take (i := 2) (v := ?_) rfl (by kernel_rfl) (by kernel_rfl) (by kernel_rfl) (fun _ _ _ h => h) (Or.inl ⟨by kernel_rfl, ?_⟩) hHeld ?_
          rotate_left
          · (intro w hSw; first | (go_simp; done) | (go_simp; with_reducible rfl))
          (try simp only [Act.put, List.getElem_toArray, List.getElem_cons_succ, List.getElem_cons_zero, List.setIfInBounds_toArray, List.set_cons_zero, List.set_cons_succ])
          refine wpAnyH_take (i := 3) (v := ?_) rfl (by kernel_rfl) (by kernel_rfl) (by kernel_rfl) (fun _ _ _ h => h) (Or.inl ⟨by kernel_rfl, ?_⟩) hHeld ?_
          rotate_left
          · (intro w hSw; first | (go_simp; done) | (go_simp; with_reducible rfl))
          (try simp only [Act.put, List.getElem_toArray, List.getElem_cons_succ, List.getElem_cons_zero, List.setIfInBounds_toArray, List.set_cons_zero, List.set_cons_succ])
          refine wpAnyH_take (i := 5) (v := ?_) rfl (by kernel_rfl) (by kernel_rfl) (by kernel_rfl) (fun _ _ _ h => h) (Or.inl ⟨by kernel_rfl, ?_⟩) hHeld ?_
          rotate_left
          · (intro w hSw; first | (go_simp; done) | (go_simp; with_reducible rfl))
          (try simp only [Act.put, List.getElem_toArray, List.getElem_cons_succ, List.getElem_cons_zero, List.setIfInBounds_toArray, List.set_cons_zero, List.set_cons_succ])
          refine wpAnyH_ready (rs := [4]) (by kernel_rfl) (by simp) (AllReadyH.cons rfl (fun K hK => ?_) AllReadyH.nil)
          have hH := hHeld
          (go_simp; go_at_call 121; refine (HSU.out _).mono ?_; rintro e w9 ⟨rfl, hc9⟩)
          refine hK.out _ _ (by exact ⟨hc9.cell hH.1 (by simp), hc9.cell hH.2.1 (by simp), hc9.cell hH.2.2.1 (by simp), hc9.cell hH.2.2.2.1 (by simp), hc9.cell hH.2.2.2.2.1 (by simp), hc9.cell hH.2.2.2.2.2 (by simp)⟩) (fun hHq1 => ?_)
          clear hK K hH 
          (try simp only [Act.put, List.getElem_toArray, List.getElem_cons_succ, List.getElem_cons_zero, List.setIfInBounds_toArray, List.set_cons_zero, List.set_cons_succ])
          refine wpAnyH_take (i := 6) (v := ?_) rfl (by kernel_rfl) (by kernel_rfl) (by kernel_rfl) (fun _ _ _ h => h) (Or.inl ⟨by kernel_rfl, ?_⟩) hHq1 ?_
          rotate_left
          · (intro w hSw; first | (go_simp; done) | (go_simp; with_reducible rfl))
          (try simp only [Act.put, List.getElem_toArray, List.getElem_cons_succ, List.getElem_cons_zero, List.setIfInBounds_toArray, List.set_cons_zero, List.set_cons_succ])
          refine wpAnyH_take (i := 7) (v := ?_) rfl (by kernel_rfl) (by kernel_rfl) (by kernel_rfl) (fun _ _ _ h => h) (Or.inl ⟨by kernel_rfl, ?_⟩) hHq1 ?_
          rotate_left
          · (intro w hSw; first | (go_simp; done) | (go_simp; with_reducible rfl))
          (try simp only [Act.put, List.getElem_toArray, List.getElem_cons_succ, List.getElem_cons_zero, List.setIfInBounds_toArray, List.set_cons_zero, List.set_cons_succ])
          refine wpAnyH_done (by kernel_rfl) ?_ _
          have hEnd := hHq1
          have hC89 : Chg [] W8 w9 := ((Chg.refl [] W8).drew).trans hc9
          have hX9 := HX8.out
          have hO9 := hX9.1.chg hC89 (by simp)
          have o1 := hO9.cell 1
          have o2 := hO9.cell 2
          have o3 := hO9.cell 3
          have o4 := hO9.cell 4
          have o5 := hO9.cell 5
          have o6 := hO9.cell 6
          have f1 := hO9.frozen 1
          have f2 := hO9.frozen 2
          have f3 := hO9.frozen 3
          have f4 := hO9.frozen 4
          have f5 := hO9.frozen 5
          have f6 := hO9.frozen 6
          simp at o1 o2 o3 o4 o5 o6
          have HC9 := Lib.hid hHq1.2.2.2
          have HO9 := Lib.hid hO9
          have HX9 := Lib.hid (And.intro (hX9.2.1.kept0 hC89) (And.intro (hX9.2.2.1.kept0 hC89) (hX9.2.2.2.trans hC89)))
          have hq7 : w7.heap.size ≠ w.heap.size := by
            have h8 := HO6.out.lt
            have h9 := HBE.out.2
            omega
          clear hEnd hHeld hHq1 hX9 hO9 hc9 hC89 he
          go_wp2_with fail
          refine wp_region_held_drew (S := (fun w' => w'.cell? ⟨w7.heap.size, 0, none⟩ = some (.int .i64 (x : Int)) ∧ w'.cell? ⟨w7.heap.size, 1, none⟩ = some (.slice a6 y c6) ∧ w'.cell? ⟨w7.heap.size, 2, none⟩ = some (.slice aE nL cE))) (by kernel_rfl) HC9.out (fun hHeld => ?_)
          refine wpAnyH_take (i := 0) (v := ?_) rfl (by kernel_rfl) (by kernel_rfl) (by kernel_rfl) (fun _ _ _ h => h) (Or.inl ⟨by kernel_rfl, ?_⟩) hHeld ?_
          rotate_left
          · (intro w hSw; first | (go_simp; done) | (go_simp; with_reducible rfl))
          (try simp only [Act.put, List.getElem_toArray, List.getElem_cons_succ, List.getElem_cons_zero, List.setIfInBounds_toArray, List.set_cons_zero, List.set_cons_succ])
          refine wpAnyH_take (i := 1) (v := ?_) rfl (by kernel_rfl) (by kernel_rfl) (by kernel_rfl) (fun _ _ _ h => h) (Or.inl ⟨by kernel_rfl, ?_⟩) hHeld ?_
          rotate_left
          · (intro w hSw; first | (go_simp; done) | (go_simp; with_reducible rfl))
          (try simp only [Act.put, List.getElem_toArray, List.getElem_cons_succ, List.getElem_cons_zero, List.setIfInBounds_toArray, List.set_cons_zero, List.set_cons_succ])
          refine wpAnyH_take (i := 2) (v := ?_) rfl (by kernel_rfl) (by kernel_rfl) (by kernel_rfl) (fun _ _ _ h => h) (Or.inl ⟨by kernel_rfl, ?_⟩) hHeld ?_
          rotate_left
          · (intro w hSw; first | (go_simp; done) | (go_simp; with_reducible rfl))
          (try simp only [Act.put, List.getElem_toArray, List.getElem_cons_succ, List.getElem_cons_zero, List.setIfInBounds_toArray, List.set_cons_zero, List.set_cons_succ])
          refine wpAnyH_take (i := 3) (v := ?_) rfl (by kernel_rfl) (by kernel_rfl) (by kernel_rfl) (fun _ _ _ h => h) (Or.inl ⟨by kernel_rfl, ?_⟩) hHeld ?_
          rotate_left
          · (intro w hSw; first | (go_simp; done) | (go_simp; with_reducible rfl))
          (try simp only [Act.put, List.getElem_toArray, List.getElem_cons_succ, List.getElem_cons_zero, List.setIfInBounds_toArray, List.set_cons_zero, List.set_cons_succ])
          refine wpAnyH_take (i := 4) (v := ?_) rfl (by kernel_rfl) (by kernel_rfl) (by kernel_rfl) (fun _ _ _ h => h) (Or.inl ⟨by kernel_rfl, ?_⟩) hHeld ?_
          rotate_left
          · (intro w hSw; first | (go_simp; done) | (go_simp; with_reducible rfl))
          (try simp only [Act.put, List.getElem_toArray, List.getElem_cons_succ, List.getElem_cons_zero, List.setIfInBounds_toArray, List.set_cons_zero, List.set_cons_succ])
          refine wpAnyH_take (i := 5) (v := ?_) rfl (by kernel_rfl) (by kernel_rfl) (by kernel_rfl) (fun _ _ _ h => h) (Or.inl ⟨by kernel_rfl, ?_⟩) hHeld ?_
          rotate_left
          · (intro w hSw; first | (go_simp; done) | (go_simp; with_reducible rfl))
          (try simp only [Act.put, List.getElem_toArray, List.getElem_cons_succ, List.getElem_cons_zero, List.setIfInBounds_toArray, List.set_cons_zero, List.set_cons_succ])
          refine wpAnyH_ready (rs := [6]) (by kernel_rfl) (by simp) (AllReadyH.cons rfl (fun K hK => ?_) AllReadyH.nil)
          have hH := hHeld
          (go_simp; refine gen_w2 (fun W => Chg [w.heap.size] w9 W ∧ Own W w.heap.size 215 [.pointer (some ⟨p, 0, none⟩), .int .i64 (x : Int), .slice a6 y c6, .slice aE nL cE, .int .i64 0, .slice none 0 0, .slice none 0 0, .int .i64 0]) ⟨(((((Chg.refl _ w9).setCell (by simp) _).setCell (by simp) _).setCell (by simp) _).drew), ((HO9.out.set 1 (.int .i64 (x : Int))).set 2 (.slice a6 y c6)).set 3 (.slice aE nL cE)⟩ (fun W10 h10 => ?_))
          refine hK.out _ _ (by exact ⟨h10.1.cell HC9.out.1 (by simp; exact hq7), h10.1.cell HC9.out.2.1 (by simp; exact hq7), h10.1.cell HC9.out.2.2 (by simp; exact hq7)⟩) (fun hHq1 => ?_)
          clear hK K hH 
          have HO10 := Lib.hid h10.2; have HC10 := Lib.hid h10.1; clear o1 o2 o3 o4 o5 o6 f1 f2 f3 f4 f5 f6; have o4 := HO10.out.cell 4; have o5 := HO10.out.cell 5; have o6 := HO10.out.cell 6; have f4 := HO10.out.frozen 4; have f5 := HO10.out.frozen 5; have f6 := HO10.out.frozen 6; simp at o4 o5 o6; clear h10
          (try simp only [Act.put, List.getElem_toArray, List.getElem_cons_succ, List.getElem_cons_zero, List.setIfInBounds_toArray, List.set_cons_zero, List.set_cons_succ])
          refine wpAnyH_take (i := 7) (v := ?_) rfl (by kernel_rfl) (by kernel_rfl) (by kernel_rfl) (fun _ _ _ h => h) (Or.inl ⟨by kernel_rfl, ?_⟩) hHq1 ?_
          rotate_left
          · (intro w hSw; first | (go_simp; done) | (go_simp; with_reducible rfl))
          (try simp only [Act.put, List.getElem_toArray, List.getElem_cons_succ, List.getElem_cons_zero, List.setIfInBounds_toArray, List.set_cons_zero, List.set_cons_succ])
          refine wpAnyH_take (i := 8) (v := ?_) rfl (by kernel_rfl) (by kernel_rfl) (by kernel_rfl) (fun _ _ _ h => h) (Or.inl ⟨by kernel_rfl, ?_⟩) hHq1 ?_
          rotate_left
          · (intro w hSw; first | (go_simp; done) | (go_simp; with_reducible rfl))
          (try simp only [Act.put, List.getElem_toArray, List.getElem_cons_succ, List.getElem_cons_zero, List.setIfInBounds_toArray, List.set_cons_zero, List.set_cons_succ])
          refine wpAnyH_ready (rs := [9]) (by kernel_rfl) (by simp) (AllReadyH.cons rfl (fun K hK => ?_) AllReadyH.nil)
          have hH := hHq1
          (go_simp; refine gen_w2 (fun W => Chg [w.heap.size] w9 W ∧ Own W w.heap.size 215 [.pointer (some ⟨p, 0, none⟩), .int .i64 (x : Int), .slice a6 y c6, .slice aE nL cE, .int .i64 (x : Int), .slice a6 y c6, .slice aE nL cE, .int .i64 0]) ⟨(((HC10.out.setCell (by simp) _).setCell (by simp) _).setCell (by simp) _), ((HO10.out.set 4 (.int .i64 (x : Int))).set 5 (.slice a6 y c6)).set 6 (.slice aE nL cE)⟩ (fun W11 h11 => ?_))
          refine hK.out _ _ (by exact ⟨h11.1.cell HC9.out.1 (by simp; exact hq7), h11.1.cell HC9.out.2.1 (by simp; exact hq7), h11.1.cell HC9.out.2.2 (by simp; exact hq7)⟩) (fun hHq2 => ?_)
          clear hK K hH hHq1
          (try simp only [Act.put, List.getElem_toArray, List.getElem_cons_succ, List.getElem_cons_zero, List.setIfInBounds_toArray, List.set_cons_zero, List.set_cons_succ])
          refine wpAnyH_done (by kernel_rfl) ?_ _
          have hEnd := hHq2
          clear hEnd hHeld o4 o5 o6 f4 f5 f6
          have HH11 := Lib.hid h11
          clear h11
          go_wp2_with fail
          go_ret2
          obtain ⟨hlF, hlE, hcx⟩ := HX9.out
          have hy : (frs L).length = y := by rw [← HOK.out.2]; exact HBL.out
          have hchg : Chg [] w W11 := hcx.then HH11.out.1 (by simp)
          have hlow : ∀ z ∈ w.heap.size :: (bl (.slice a6 y c6) ++ bl (.slice aE nL cE)), w.heap.size ≤ z := fun z hz => by
            rcases List.mem_cons.1 hz with rfl | hz
            · exact Nat.le_refl _
            · rcases List.mem_append.1 hz with hz | hz
              · exact Nat.le_trans (HC5.out.drewN 0).size (HB6.out z hz)
              · exact Nat.le_trans HC6.out.size (HBE.out.1 z hz)
          have hnq : ∀ v : Value, (v = .slice a6 y c6 ∨ v = .slice aE nL cE) → ∀ g, v.ownBlock = some g → g ∉ [w.heap.size] := fun v hv g hg hm => by
            have hm2 : g = w.heap.size := by simpa using hm
            subst hm2
            rcases hv with rfl | rfl
            · obtain ⟨c, hc⟩ := hlF.typ hg
              have := HO9.out
              unfold Own at this
              rw [hc] at this
              cases this
            · obtain ⟨c, hc⟩ := hlE.typ hg
              have := HO9.out
              unfold Own at this
              rw [hc] at this
              cases this
          have hlF2 := hlF.chg HH11.out.1 (hnq _ (.inl rfl))
          have hlE2 := hlE.chg HH11.out.1 (hnq _ (.inr rfl))
          rw [HOK.out.2] at hlF2
          refine .inl ⟨x, L, _, w.heap.size :: (bl (.slice a6 y c6) ++ bl (.slice aE nL cE)), ⟨hx1, HOK.out.1, ?_, ?_, ?_⟩, rfl, ⟨_, _, _, _, HH11.out.2, hlF2, hlE2, hlF2, hlE2, fun _ _ _ => Nat.le_refl _, fun _ _ _ => Nat.le_refl _, by simp, ?_, hx1, hx1, by omega, HOK.out.1, HOK.out.1, ?_, ?_, fun _ => ⟨[], by simp⟩, by omega⟩, hlow, hchg⟩
          · rw [hy, HSZ.out]; omega
          · rw [HSS.out, hy, HNL.out, HKR.out]; exact HSUP.out.symm
          · rw [← opens_bytes HD.out.lenN (by rw [hy, HSZ.out]; omega), hy, HBS.out]; exact HOK.out.2
          · rintro z (hz | hz | hz | hz) <;> simp [hz]
          · rw [hy, HSZ.out]; omega
          · rw [hy, HSZ.out]; omega
        case' neg =>
          have he : ((nL : Int) == (r : Int)) = false := by simp; omega
          have HKR := Lib.hid hKr
          clear hKr
          refine wp_region_held_drew (S := (fun w' => w'.cell? ⟨w4.heap.size, 0, none⟩ = some (.int .u8 (x : Int)) ∧ w'.cell? ⟨w4.heap.size, 1, none⟩ = some (.int .u32 (r : Int)) ∧ w'.cell? ⟨w4.heap.size, 2, none⟩ = some (.int .u32 (y : Int)) ∧ w'.cell? ⟨w7.heap.size, 0, none⟩ = some (.int .i64 (x : Int)) ∧ w'.cell? ⟨w7.heap.size, 1, none⟩ = some (.slice a6 y c6) ∧ w'.cell? ⟨w7.heap.size, 2, none⟩ = some (.slice aE nL cE))) (by kernel_rfl) HCE.out (fun hHeld => ?_)
          refine wpAnyH_take (i := 0) (v := ?_) rfl (by kernel_rfl) (by kernel_rfl) (by kernel_rfl) (fun _ _ _ h => h) (Or.inl ⟨by kernel_rfl, ?_⟩) hHeld ?_
          rotate_left
          · (intro w hSw; first | (go_simp; done) | (go_simp; with_reducible rfl))
          (try simp only [Act.put, List.getElem_toArray, List.getElem_cons_succ, List.getElem_cons_zero, List.setIfInBounds_toArray, List.set_cons_zero, List.set_cons_succ])
          refine wpAnyH_take (i := 1) (v := ?_) rfl (by kernel_rfl) (by kernel_rfl) (by kernel_rfl) (fun _ _ _ h => h) (Or.inl ⟨by kernel_rfl, ?_⟩) hHeld ?_
          rotate_left
          · (intro w hSw; first | (go_simp; done) | (go_simp; with_reducible rfl))
          (try simp only [Act.put, List.getElem_toArray, List.getElem_cons_succ, List.getElem_cons_zero, List.setIfInBounds_toArray, List.set_cons_zero, List.set_cons_succ])
          refine wpAnyH_take (i := 2) (v := ?_) rfl (by kernel_rfl) (by kernel_rfl) (by kernel_rfl) (fun _ _ _ h => h) (Or.inl ⟨by kernel_rfl, ?_⟩) hHeld ?_
          rotate_left
          · (intro w hSw; first | (go_simp; done) | (go_simp; with_reducible rfl))
          (try simp only [Act.put, List.getElem_toArray, List.getElem_cons_succ, List.getElem_cons_zero, List.setIfInBounds_toArray, List.set_cons_zero, List.set_cons_succ])
          refine wpAnyH_take (i := 3) (v := ?_) rfl (by kernel_rfl) (by kernel_rfl) (by kernel_rfl) (fun _ _ _ h => h) (Or.inl ⟨by kernel_rfl, ?_⟩) hHeld ?_
          rotate_left
          · (intro w hSw; first | (go_simp; done) | (go_simp; with_reducible rfl))
          (try simp only [Act.put, List.getElem_toArray, List.getElem_cons_succ, List.getElem_cons_zero, List.setIfInBounds_toArray, List.set_cons_zero, List.set_cons_succ])
          refine wpAnyH_take (i := 5) (v := ?_) rfl (by kernel_rfl) (by kernel_rfl) (by kernel_rfl) (fun _ _ _ h => h) (Or.inl ⟨by kernel_rfl, ?_⟩) hHeld ?_
          rotate_left
          · (intro w hSw; first | (go_simp; done) | (go_simp; with_reducible rfl))
          (try simp only [Act.put, List.getElem_toArray, List.getElem_cons_succ, List.getElem_cons_zero, List.setIfInBounds_toArray, List.set_cons_zero, List.set_cons_succ])
          refine wpAnyH_ready (rs := [4]) (by kernel_rfl) (by simp) (AllReadyH.cons rfl (fun K hK => ?_) AllReadyH.nil)
          have hH := hHeld
          (go_simp; go_at_call 121; refine (HSU.out _).mono ?_; rintro e w9 ⟨rfl, hc9⟩)
          refine hK.out _ _ (by exact ⟨hc9.cell hH.1 (by simp), hc9.cell hH.2.1 (by simp), hc9.cell hH.2.2.1 (by simp), hc9.cell hH.2.2.2.1 (by simp), hc9.cell hH.2.2.2.2.1 (by simp), hc9.cell hH.2.2.2.2.2 (by simp)⟩) (fun hHq1 => ?_)
          clear hK K hH 
          (try simp only [Act.put, List.getElem_toArray, List.getElem_cons_succ, List.getElem_cons_zero, List.setIfInBounds_toArray, List.set_cons_zero, List.set_cons_succ])
          refine wpAnyH_take (i := 6) (v := ?_) rfl (by kernel_rfl) (by kernel_rfl) (by kernel_rfl) (fun _ _ _ h => h) (Or.inl ⟨by kernel_rfl, ?_⟩) hHq1 ?_
          rotate_left
          · (intro w hSw; first | (go_simp; done) | (go_simp; with_reducible rfl))
          (try simp only [Act.put, List.getElem_toArray, List.getElem_cons_succ, List.getElem_cons_zero, List.setIfInBounds_toArray, List.set_cons_zero, List.set_cons_succ])
          refine wpAnyH_take (i := 7) (v := ?_) rfl (by kernel_rfl) (by kernel_rfl) (by kernel_rfl) (fun _ _ _ h => h) (Or.inl ⟨by kernel_rfl, ?_⟩) hHq1 ?_
          rotate_left
          · (intro w hSw; first | (go_simp; done) | (go_simp; with_reducible rfl))
          (try simp only [Act.put, List.getElem_toArray, List.getElem_cons_succ, List.getElem_cons_zero, List.setIfInBounds_toArray, List.set_cons_zero, List.set_cons_succ])
          refine wpAnyH_done (by kernel_rfl) ?_ _
          have hEnd := hHq1
          have hC89 : Chg [] W8 w9 := ((Chg.refl [] W8).drew).trans hc9
          clear hEnd hHeld hHq1 hc9
          go_wp2_with fail
          go_ret2
          refine .inr ⟨fun h2 L2 o => HKR.out (HOP.out h2 L2 o).2, rfl, HX8.out.2.2.2.trans hC89⟩
      · have HNO := Lib.hid hno
        have hcc := HC6.out.trans hc7
        have HCC := Lib.hid hcc
        clear hno hcc z0
        go_wp2_with fail
        go_quiet (fail)
        go_wp2
        go_ret2
        refine .inr ⟨fun h2 L2 o => ?_, rfl, ((HCC.out.alloc _).drewN _)⟩
        obtain ⟨e1, e2, e3, _, _⟩ := opens_sup ht o
        rw [HSS.out, HX.out] at e1
        rw [HSS.out, HY.out] at e3
        have h8 := opens_bytes HD.out.lenN o.room (h := h2)
        rw [o.bytes, e3, e1, HBS.out] at h8
        exact HNO.out L2 o.ok h8
end Go.Proofs.YtcadnlilijkneaaGreat
