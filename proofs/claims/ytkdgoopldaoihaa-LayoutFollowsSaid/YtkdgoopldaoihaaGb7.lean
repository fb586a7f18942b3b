/-
  source of package layout: segment and layout, by their contracts. No claim of its own.
-/
import Derived.Test.YtkdgoopldaoihaaGb6
namespace Go.Proofs.Ytkdgoopldaoihaa
open Go.RowKit Go.Deep
set_option linter.unusedVariables false
set_option linter.unusedSimpArgs false

/-- append of one value at a step of a region that draws its order -/
theorem step_app1g {P : Program} {w : World} {ops : Array Oper} {o : Oper} {a : Act} {K : Act → World → Prop} {Q : Exit → Act → World → Prop} {E : Prop} (hgd : o.guard = none) (s x : Operand) (t : TypeId)
    (ho : o.op = .call { callee := .builtin .append, args := #[s, x], argTypes := #[t, t] })
    (base : Nat) (e : TypeId) (z : Value) (bytes : Nat) (ht : P.underlying t = some (.slice e)) (hinfo : (P.info? e).map (fun i => (i.zero, i.size, i.bytes)) = some (some z, 1, bytes)) (hzs : z.cells.size = 1)
    (u : Value) (h1 : u.oneCell' = true) (v : Value) (xs : List Value) (hs : a.eval s = v) (hown : Lst w base e v xs) (g : Nat) (t' : TypeId) (hnew : Own w g t' [u])
    (hx : a.eval x = .slice (some ⟨g, 0, none⟩) 1 1)
    (hlen : (xs.length + 1) * bytes ≤ 140737488355328) (hlen2 : xs.length + 1 ≤ 140737488355328) (hbase : base ≤ w.heap.size)
    (h : ∀ v' w', Hid (Lst w' base e v' (xs ++ [u])) → Chg (rowOf v) w w' → K (a.put o.dst v') w') :
    if Region.wanted o (yielded ops a.tmps) = true then Oper.wp P o a w K Q else E := by
  have hw : Region.wanted o (yielded ops a.tmps) = true := by simp [Region.wanted, hgd]
  rw [if_pos hw]
  exact wp_app s x t ho base e z bytes ht hinfo hzs v xs hs hown (some ⟨g, 0, none⟩) (g + 1) 1 1 [u] hx rfl (hnew.ro _ (by omega)) (by simpa using h1) hlen hlen2 hbase fun v' w' h2 h3 => h v' w' h2 (grown_chg h3)

/-- segments whose chains lie in rows of the call's own -/
def GwC (w : World) (base : Nat) (Ts : List ChT) : Prop := ∀ c ∈ Ts, Lst w base 3 c.val (i64s c.u)
theorem GwC.chg {w w' : World} {base : Nat} {Ts : List ChT} {l : List Nat} (h : GwC w base Ts) (hc : Chg l w w') (hl : ∀ x ∈ l, ∀ cur, w.heap[x]? ≠ some (.cells cur 3 (0, 0))) : GwC w' base Ts := fun c hm => (h c hm).chg hc hl
theorem GwC.base {w : World} {base base' : Nat} {Ts : List ChT} (h : GwC w base Ts) (hb : base' ≤ base) : GwC w base' Ts := fun c hm => (h c hm).base hb
theorem pSg_at (bs : List UInt8) (k : Nat) : (pSg bs k).2 ≤ k + 110 ∧ (pSg bs k).1.2.length ≤ 4 := by
  have h1 := rep_at (p := pCh bs) (d := 22) (fun k => (pCh_at bs k).1) (tkN bs (k + 20) 2 + 1) (k + 20 + 2)
  have h2 := tkN_lt bs (k + 20) 2
  unfold pSg
  simp only [rep_length]
  omega
theorem Own.notRow {w : World} {g : Nat} {t : TypeId} {cs : List Value} (h : Own w g t cs) {base : Nat} {e : TypeId} {v : Value} {xs : List Value} (hl : Lst w base e v xs) (hne : e ≠ t) : g ∉ rowOf v := hl.ownT h hne
theorem Chg.nil1 {w w' : World} (h : Chg [] w w') (l : List Nat) : Chg l w w' := h.mono (fun x hx => by cases hx)

set_option maxHeartbeats 4000000 in
theorem lpsg_any (bs : List UInt8) (B s k : Nat) (w : World) (h : Src w 59 B s bs k) (hk : k ≤ 800000) :
    Calls Try.prog 55 #[.pointer (some ⟨s, 0, none⟩)] w fun e w' => ∃ T : SgT, e = .returned T.val ∧ T.x = (pSg bs k).1 ∧ Lst w' w.heap.size 36 (.slice T.a T.ch.length T.c) (chv T.ch) ∧ GwC w' w.heap.size T.ch ∧ Src w' 59 B s bs (pSg bs k).2 ∧ Chg [s] w w' := by
  have HZ := Lib.hid h.lt
  have HBs := Lib.hid h.2.1
  obtain ⟨f, hf⟩ : ∃ f, tkN bs k 20 = f := ⟨_, rfl⟩
  obtain ⟨n, hn⟩ : ∃ n, tkN bs (k + 20) 2 + 1 = n := ⟨_, rfl⟩
  have hn4 : n ≤ 4 := by have := tkN_lt bs (k + 20) 2; omega
  have HP : Hid (pSg bs k = ((f, (rep (pCh bs) n (k + 20 + 2)).1), (rep (pCh bs) n (k + 20 + 2)).2)) := Lib.hid (by unfold pSg; rw [hn, hf])
  have hn4' : (n : Int) ≤ 4 := by omega
  have HK := Lib.hid hk
  obtain ⟨W, HWW⟩ : ∃ W, Hid (w.alloc (.cells #[.int .u64 0, .slice none 0 0] 49) = W) := ⟨_, Lib.hid rfl⟩
  have hWc : Chg [] w W := by rw [← HWW.out]; exact (Chg.refl [] w).alloc _
  have HWC := Lib.hid hWc
  have HO1 : Hid (Own W w.heap.size 49 [.int .u64 0, .slice none 0 0]) := Lib.hid (by rw [← HWW.out]; exact Own.new w _ _)
  have HT := Lib.hid (ltake_any bs B s k 20 W (h.new0 hWc) (by omega) (by omega))
  rw [hf] at HT
  clear h hk hWc hf
  go_enter Try.func55, Try.ntmps55
  go_upto_region 1 with fail
  rw [HWW.out]
  go_wp2_with fail
  refine HT.out.mono ?_
  rintro e w1 ⟨rfl, h1, h2⟩
  go_upto_region 2 with fail
  obtain ⟨p, hp⟩ : ∃ p, w1.heap.size = p := ⟨_, rfl⟩
  obtain ⟨W2, hW2⟩ : ∃ W2, w1.alloc (.cells #[.int .u64 (f : Int), .slice none 0 0] 49) = W2 := ⟨_, rfl⟩
  have HS1 := Lib.hid (h1.new0 (w' := W2) (by rw [← hW2]; exact (Chg.refl [] w1).alloc _))
  have HC1 : Hid (Chg [s] w W2) := Lib.hid (by rw [← hW2]; exact ((HWC.out.nil1 [s]).trans h2).alloc _)
  have HR1 : Hid (Own W2 w.heap.size 49 [.int .u64 0, .slice none 0 0]) := Lib.hid (by rw [← hW2]; exact (HO1.out.chg h2 (by have := HZ.out; simp; omega)).alloc _)
  have HP1 : Hid (Own W2 p 49 [.int .u64 (f : Int), .slice none 0 0]) := Lib.hid (by rw [← hW2, ← hp]; exact Own.new w1 _ _)
  have HPW : Hid (w.heap.size < p) := Lib.hid (by rw [← hp]; exact Nat.lt_of_lt_of_le HO1.out.lt h2.size)
  clear h1 h2
  rw [hW2, hp]
  clear hW2 hp
  have HTC := Lib.hid (ltakeC_any bs B s (k + 20) W2 HS1.out (by have := HK.out; omega))
  rw [hn] at HTC
  clear hn
  go_wp2_with fail
  refine HTC.out.mono ?_
  rintro e w3 ⟨rfl, h1, h2⟩
  have HS3 : Hid (Src w3 59 B s bs (rep (pCh bs) 0 (k + 20 + 2)).2) := Lib.hid h1
  have HC3 : Hid (Chg [s] w w3) := Lib.hid (HC1.out.trans h2)
  have HR3 := Lib.hid (HR1.out.chg h2 (by have := HZ.out; simp; omega))
  have HP3 := Lib.hid (HP1.out.chg h2 (by have := HZ.out; have := HPW.out; simp; omega))
  clear h1 h2
  go_wp2_with fail
  go_loopw [9] (fun i wr => ∃ (j : Nat) (al : Option Addr) (cl : Nat) (Ts : List ChT), j ≤ n ∧ i = .int .u64 (j : Int) ∧ Hid (Ts.length = j) ∧ Hid (chx Ts = (rep (pCh bs) j (k + 20 + 2)).1) ∧ Hid (Own wr p 49 [.int .u64 (f : Int), .slice al j cl]) ∧ Hid (Own wr w.heap.size 49 [.int .u64 0, .slice none 0 0]) ∧ Hid (Lst wr w.heap.size 36 (.slice al j cl) (chv Ts)) ∧ Hid (GwC wr w.heap.size Ts) ∧ Hid (Src wr 59 B s bs (rep (pCh bs) j (k + 20 + 2)).2) ∧ Hid (Chg [s] w wr)) (fun i _ => n - (intOf i).toNat)
  case atStart => exact ⟨0, none, 0, [], Nat.zero_le _, rfl, Lib.hid rfl, Lib.hid rfl, HP3, HR3, Lib.hid (Lst.nil _ _ _), Lib.hid (fun c hc => by cases hc), HS3, HC3⟩
  case round =>
    obtain ⟨j, al, cl, Ts, hj, rfl, HTL, HTX, HPj, HRj, HLj, HGj, HXj, HCj⟩ := hrel
    rename World => w6
    by_cases hlt : j < n
    · have hj0 : (0 : Int) ≤ (j : Int) := by omega
      have hj1 : (j : Int) < (n : Int) := by omega
      have HR : Hid (rep (pCh bs) (j + 1) (k + 20 + 2) = ((rep (pCh bs) j (k + 20 + 2)).1 ++ [(pCh bs (rep (pCh bs) j (k + 20 + 2)).2).1], (pCh bs (rep (pCh bs) j (k + 20 + 2)).2).2)) := Lib.hid rfl
      have HQ : Hid ((rep (pCh bs) j (k + 20 + 2)).2 ≤ 900000) := Lib.hid (by have := rep_at (p := pCh bs) (d := 22) (fun k => (pCh_at bs k).1) j (k + 20 + 2); have := HK.out; omega)
      generalize rep (pCh bs) j (k + 20 + 2) = r at *
      obtain ⟨xs, q⟩ := r
      simp only at HR HTX HXj HQ
      have HCH := Lib.hid (lpch_any bs B s q w6.drew (HXj.out.new0 ((Chg.refl [] w6).drew)) HQ.out)
      generalize pCh bs q = y at *
      obtain ⟨us, q'⟩ := y
      simp only at HR HCH
      go_wp2_with fail
      have c2 : w6.cell? ⟨p, 1, none⟩ = some (.slice al j cl) := by simpa using HPj.out.cell 1
      have HNS : Hid (s ∉ rowOf (.slice al j cl)) := Lib.hid fun hx => by have := (HLj.out.row s hx).1; have := HZ.out; omega
      obtain ⟨m, hm⟩ : ∃ m, us.length = m := ⟨_, rfl⟩
      rw [hm] at HCH
      have HM := Lib.hid hm
      clear hm
      have HNX : Hid (∀ w9 w5 (a9 : Option Addr) (c9 : Nat), Lst w9 w6.heap.size 3 (.slice a9 m c9) (i64s us) → Src w9 59 B s bs q' → Chg [s] w6 w9 → Chg (rowOf (.slice al j cl)) (w9.alloc (.cells #[.slice a9 m c9] 36)) w5 → Own w5 p 49 [.int .u64 (f : Int), .slice al j cl] ∧ Own w5 w.heap.size 49 [.int .u64 0, .slice none 0 0] ∧ GwC w5 w.heap.size (Ts ++ [⟨a9, c9, us⟩]) ∧ Src w5 59 B s bs q' ∧ Chg [s] w w5) := by
        apply Lib.hid
        intro w9 w5 a9 c9 g1 g2 g3 g4
        have k1 := HPj.out.chg g3 (by have := HZ.out; have := HPW.out; simp; omega)
        have k2 := HRj.out.chg g3 (by have := HZ.out; simp; omega)
        have k3 := HLj.out.chg g3 (HXj.out.notT (by decide))
        have k4 := HGj.out.chg g3 (HXj.out.notT (by decide))
        have ka : Chg [] w9 (w9.alloc (.cells #[.slice a9 m c9] 36)) := (Chg.refl [] w9).alloc _
        have k5 := HCj.out.trans (g3.trans (ka.nil1 [s]))
        have kl := k3.alloc (.cells #[.slice a9 m c9] 36)
        refine ⟨(k1.alloc _).chg g4 (kl.ownT (k1.alloc _) (by decide)), (k2.alloc _).chg g4 (kl.ownT (k2.alloc _) (by decide)), ?_, (g2.new0 ka).chg g4 HNS.out (fun x hx => by have := (HLj.out.row x hx).1; have := HZ.out; have := HBs.out; omega), k5.then g4 (fun x hx => .inr (HLj.out.row x hx).1)⟩
        have ka4 := (k4.chg ka (by simp))
        intro c hc
        rcases List.mem_append.1 hc with hc | hc
        · exact (ka4 c hc).chg g4 (Lst.otherT (ka4 c hc) kl (by decide))
        · simp only [List.mem_singleton] at hc
          subst hc
          have g1' : Lst w9 w.heap.size 3 (.slice a9 m c9) (i64s us) := g1.base HCj.out.size
          have g1'' := g1'.alloc (.cells #[.slice a9 m c9] 36)
          have := g1''.chg g4 (Lst.otherT g1'' kl (by decide))
          show Lst w5 w.heap.size 3 (.slice a9 us.length c9) (i64s us)
          rw [HM.out]
          exact this
      have HLC : Hid ((chv Ts).length = j) := Lib.hid (by rw [chv_length]; exact HTL.out)
      refine wp_region_held_drew (S := (fun w' => Chg [s] w w')) (by kernel_rfl) HCj.out.drew (fun hHeld => ?_)
      refine wpAnyH_take (i := 0) (v := ?_) rfl (by kernel_rfl) (by kernel_rfl) (by kernel_rfl) (fun _ _ _ h => h) (Or.inl ⟨by kernel_rfl, ?_⟩) hHeld ?_
      rotate_left
      · (intro w hSw; first | (go_simp; done) | (go_simp; with_reducible rfl))
      (try simp only [Act.put, List.getElem_toArray, List.getElem_cons_succ, List.getElem_cons_zero, List.setIfInBounds_toArray, List.set_cons_zero, List.set_cons_succ])
      refine wpAnyH_take (i := 2) (v := ?_) rfl (by kernel_rfl) (by kernel_rfl) (by kernel_rfl) (fun _ _ _ h => h) (Or.inl ⟨by kernel_rfl, ?_⟩) hHeld ?_
      rotate_left
      · (intro w hSw; first | (go_simp; done) | (go_simp; with_reducible rfl))
      (try simp only [Act.put, List.getElem_toArray, List.getElem_cons_succ, List.getElem_cons_zero, List.setIfInBounds_toArray, List.set_cons_zero, List.set_cons_succ])
      refine wpAnyH_ready (rs := [1,3]) (by kernel_rfl) (by simp) (AllReadyH.cons rfl (fun K hK => ?_) (AllReadyH.cons rfl (fun K hK => ?_) AllReadyH.nil))
      · have hH := hHeld
        (have g1 : World.cell? w6.drew ⟨p, 1, none⟩ = some (.slice al j cl) := c2; go_simp)
        refine hK.out _ _ (by exact hH) (fun hHq1 => ?_)
        clear hK K hH 
        clear g1
        (try simp only [Act.put, List.getElem_toArray, List.getElem_cons_succ, List.getElem_cons_zero, List.setIfInBounds_toArray, List.set_cons_zero, List.set_cons_succ])
        refine wpAnyH_ready (rs := [3]) (by kernel_rfl) (by simp) (AllReadyH.cons rfl (fun K hK => ?_) AllReadyH.nil)
        have hH := hHq1
        (go_simp; go_at_call 67; refine HCH.out.mono ?_; rintro e w9 ⟨a9, c9, rfl, g1, g2, g3⟩)
        refine hK.out _ _ (by exact hH.trans g3) (fun hHq2 => ?_)
        clear hK K hH hHq1
        have G1 := Lib.hid g1; have G2 := Lib.hid g2; have G3 : Hid (Chg [s] w6 w9) := Lib.hid (((Chg.refl [s] w6).drew).trans g3); have GZ := Lib.hid g3.size; clear g1 g2 g3
        (try simp only [Act.put, List.getElem_toArray, List.getElem_cons_succ, List.getElem_cons_zero, List.setIfInBounds_toArray, List.set_cons_zero, List.set_cons_succ])
        refine wpAnyH_ready (rs := [4]) (by kernel_rfl) (by simp) (AllReadyH.cons rfl (fun K hK => ?_) AllReadyH.nil)
        have hH := hHq2
        (go_simp; skip)
        refine hK.out _ _ (by exact hH.alloc _) (fun hHq3 => ?_)
        clear hK K hH hHq2
        (try simp only [Act.put, List.getElem_toArray, List.getElem_cons_succ, List.getElem_cons_zero, List.setIfInBounds_toArray, List.set_cons_zero, List.set_cons_succ])
        refine wpAnyH_ready (rs := [5]) (by kernel_rfl) (by simp) (AllReadyH.cons rfl (fun K hK => ?_) AllReadyH.nil)
        have hH := hHq3
        (refine step_app1g (by rfl) (.tmp 12) (.tmp 15) 41 (by rfl) w.heap.size 36 (.slice none 0 0) 24 Try.underlying41 Try.info_ch rfl (.slice a9 m c9) rfl (.slice al j cl) (chv Ts) (by rfl) ((HLj.out.chg G3.out (HXj.out.notT (by decide))).alloc _) w9.heap.size 36 (Own.new w9 _ _) (by rfl) (by have := HLC.out; omega) (by have := HLC.out; omega) (by have := HCj.out.size; have := G3.out.size; simp; omega) ?_; intro v5 w5 K5 G5)
        refine hK.out _ _ (by exact (HNX.out w9 w5 a9 c9 G1.out G2.out G3.out G5).2.2.2.2) (fun hHq4 => ?_)
        clear hK K hH hHq3
        have N5 := Lib.hid (HNX.out w9 w5 a9 c9 G1.out G2.out G3.out G5); have g5 := N5.out.1.cell 1; have f5 := N5.out.1.frozen 1; have z5 := N5.out.1.lt; simp at g5; obtain ⟨a5, c5, hv5, _, _, _⟩ := K5.out.form; rw [List.length_append, HLC.out] at hv5; subst hv5; clear G5
        (try simp only [Act.put, List.getElem_toArray, List.getElem_cons_succ, List.getElem_cons_zero, List.setIfInBounds_toArray, List.set_cons_zero, List.set_cons_succ])
        refine wpAnyH_take (i := 6) (v := ?_) rfl (by kernel_rfl) (by kernel_rfl) (by kernel_rfl) (fun _ _ _ h => h) (Or.inl ⟨by kernel_rfl, ?_⟩) hHq4 ?_
        rotate_left
        · (intro w hSw; first | (go_simp; done) | (go_simp; with_reducible rfl))
        (try simp only [Act.put, List.getElem_toArray, List.getElem_cons_succ, List.getElem_cons_zero, List.setIfInBounds_toArray, List.set_cons_zero, List.set_cons_succ])
        refine wpAnyH_ready (rs := [7]) (by kernel_rfl) (by simp) (AllReadyH.cons rfl (fun K hK => ?_) AllReadyH.nil)
        have hH := hHq4
        (go_simp; skip)
        refine hK.out _ _ (by exact hH.setCell (.inr (Nat.le_of_lt HPW.out)) _) (fun hHq5 => ?_)
        clear hK K hH hHq4
        (try simp only [Act.put, List.getElem_toArray, List.getElem_cons_succ, List.getElem_cons_zero, List.setIfInBounds_toArray, List.set_cons_zero, List.set_cons_succ])
        refine wpAnyH_done (by kernel_rfl) ?_ _
        have hEnd := hHq5
        (have hE : Hid (Chg [s] w _) := Lib.hid hEnd; clear hEnd hHeld g5 f5 z5 c2; go_wp2_with fail; go_roundw; (case rel => exact ⟨j + 1, a5, c5, Ts ++ [⟨a9, c9, us⟩], by omega, by go_num, Lib.hid (by rw [List.length_append, HTL.out]; rfl), Lib.hid (by rw [HR.out, ← HTX.out]; simp [chx]), Lib.hid (by have := N5.out.1.set 1 (.slice a5 (j + 1) c5); simpa using this), Lib.hid (N5.out.2.1.far (by have := HPW.out; show w.heap.size ≠ p; omega) _), Lib.hid (by have sc := (Chg.refl [p] w5).setCell (p := ⟨p, 1, none⟩) (by simp) (.slice a5 (j + 1) c5); have := K5.out.chg sc (N5.out.1.notT' (by decide)); rw [← HM.out] at this; simpa [chv, ChT.val] using this), Lib.hid (N5.out.2.2.1.chg ((Chg.refl [p] w5).setCell (p := ⟨p, 1, none⟩) (by simp) _) (N5.out.1.notT' (by decide))), Lib.hid (by rw [HR.out]; exact N5.out.2.2.2.1.chg ((Chg.refl [p] w5).setCell (p := ⟨p, 1, none⟩) (by simp) _) (by have := HZ.out; have := HPW.out; simp; omega) (fun x hx => by simp only [List.mem_singleton] at hx; subst hx; have := HZ.out; have := HPW.out; have := HBs.out; omega)), hE⟩); (case measure => simp [intOf]; omega))
      · have hH := hHeld
        (go_simp; go_at_call 67; refine HCH.out.mono ?_; rintro e w9 ⟨a9, c9, rfl, g1, g2, g3⟩)
        refine hK.out _ _ (by exact hH.trans g3) (fun hHq6 => ?_)
        clear hK K hH 
        have G1 := Lib.hid g1; have G2 := Lib.hid g2; have G3 : Hid (Chg [s] w6 w9) := Lib.hid (((Chg.refl [s] w6).drew).trans g3); have GZ := Lib.hid g3.size; clear g1 g2 g3
        (try simp only [Act.put, List.getElem_toArray, List.getElem_cons_succ, List.getElem_cons_zero, List.setIfInBounds_toArray, List.set_cons_zero, List.set_cons_succ])
        refine wpAnyH_ready (rs := [1,4]) (by kernel_rfl) (by simp) (AllReadyH.cons rfl (fun K hK => ?_) (AllReadyH.cons rfl (fun K hK => ?_) AllReadyH.nil))
        · have hH := hHq6
          (have g1 : World.cell? w9 ⟨p, 1, none⟩ = some (.slice al j cl) := (by simpa using (HPj.out.chg G3.out (by have := HZ.out; have := HPW.out; simp; omega)).cell 1); go_simp)
          refine hK.out _ _ (by exact hH) (fun hHq7 => ?_)
          clear hK K hH hHq6
          clear g1
          (try simp only [Act.put, List.getElem_toArray, List.getElem_cons_succ, List.getElem_cons_zero, List.setIfInBounds_toArray, List.set_cons_zero, List.set_cons_succ])
          refine wpAnyH_ready (rs := [4]) (by kernel_rfl) (by simp) (AllReadyH.cons rfl (fun K hK => ?_) AllReadyH.nil)
          have hH := hHq7
          (go_simp; skip)
          refine hK.out _ _ (by exact hH.alloc _) (fun hHq8 => ?_)
          clear hK K hH hHq7
          (try simp only [Act.put, List.getElem_toArray, List.getElem_cons_succ, List.getElem_cons_zero, List.setIfInBounds_toArray, List.set_cons_zero, List.set_cons_succ])
          refine wpAnyH_ready (rs := [5]) (by kernel_rfl) (by simp) (AllReadyH.cons rfl (fun K hK => ?_) AllReadyH.nil)
          have hH := hHq8
          (refine step_app1g (by rfl) (.tmp 12) (.tmp 15) 41 (by rfl) w.heap.size 36 (.slice none 0 0) 24 Try.underlying41 Try.info_ch rfl (.slice a9 m c9) rfl (.slice al j cl) (chv Ts) (by rfl) ((HLj.out.chg G3.out (HXj.out.notT (by decide))).alloc _) w9.heap.size 36 (Own.new w9 _ _) (by rfl) (by have := HLC.out; omega) (by have := HLC.out; omega) (by have := HCj.out.size; have := G3.out.size; simp; omega) ?_; intro v5 w5 K5 G5)
          refine hK.out _ _ (by exact (HNX.out w9 w5 a9 c9 G1.out G2.out G3.out G5).2.2.2.2) (fun hHq9 => ?_)
          clear hK K hH hHq8
          have N5 := Lib.hid (HNX.out w9 w5 a9 c9 G1.out G2.out G3.out G5); have g5 := N5.out.1.cell 1; have f5 := N5.out.1.frozen 1; have z5 := N5.out.1.lt; simp at g5; obtain ⟨a5, c5, hv5, _, _, _⟩ := K5.out.form; rw [List.length_append, HLC.out] at hv5; subst hv5; clear G5
          (try simp only [Act.put, List.getElem_toArray, List.getElem_cons_succ, List.getElem_cons_zero, List.setIfInBounds_toArray, List.set_cons_zero, List.set_cons_succ])
          refine wpAnyH_take (i := 6) (v := ?_) rfl (by kernel_rfl) (by kernel_rfl) (by kernel_rfl) (fun _ _ _ h => h) (Or.inl ⟨by kernel_rfl, ?_⟩) hHq9 ?_
          rotate_left
          · (intro w hSw; first | (go_simp; done) | (go_simp; with_reducible rfl))
          (try simp only [Act.put, List.getElem_toArray, List.getElem_cons_succ, List.getElem_cons_zero, List.setIfInBounds_toArray, List.set_cons_zero, List.set_cons_succ])
          refine wpAnyH_ready (rs := [7]) (by kernel_rfl) (by simp) (AllReadyH.cons rfl (fun K hK => ?_) AllReadyH.nil)
          have hH := hHq9
          (go_simp; skip)
          refine hK.out _ _ (by exact hH.setCell (.inr (Nat.le_of_lt HPW.out)) _) (fun hHq10 => ?_)
          clear hK K hH hHq9
          (try simp only [Act.put, List.getElem_toArray, List.getElem_cons_succ, List.getElem_cons_zero, List.setIfInBounds_toArray, List.set_cons_zero, List.set_cons_succ])
          refine wpAnyH_done (by kernel_rfl) ?_ _
          have hEnd := hHq10
          (have hE : Hid (Chg [s] w _) := Lib.hid hEnd; clear hEnd hHeld g5 f5 z5 c2; go_wp2_with fail; go_roundw; (case rel => exact ⟨j + 1, a5, c5, Ts ++ [⟨a9, c9, us⟩], by omega, by go_num, Lib.hid (by rw [List.length_append, HTL.out]; rfl), Lib.hid (by rw [HR.out, ← HTX.out]; simp [chx]), Lib.hid (by have := N5.out.1.set 1 (.slice a5 (j + 1) c5); simpa using this), Lib.hid (N5.out.2.1.far (by have := HPW.out; show w.heap.size ≠ p; omega) _), Lib.hid (by have sc := (Chg.refl [p] w5).setCell (p := ⟨p, 1, none⟩) (by simp) (.slice a5 (j + 1) c5); have := K5.out.chg sc (N5.out.1.notT' (by decide)); rw [← HM.out] at this; simpa [chv, ChT.val] using this), Lib.hid (N5.out.2.2.1.chg ((Chg.refl [p] w5).setCell (p := ⟨p, 1, none⟩) (by simp) _) (N5.out.1.notT' (by decide))), Lib.hid (by rw [HR.out]; exact N5.out.2.2.2.1.chg ((Chg.refl [p] w5).setCell (p := ⟨p, 1, none⟩) (by simp) _) (by have := HZ.out; have := HPW.out; simp; omega) (fun x hx => by simp only [List.mem_singleton] at hx; subst hx; have := HZ.out; have := HPW.out; have := HBs.out; omega)), hE⟩); (case measure => simp [intOf]; omega))
        · have hH := hHq6
          (go_simp; skip)
          refine hK.out _ _ (by exact hH.alloc _) (fun hHq11 => ?_)
          clear hK K hH hHq6
          (try simp only [Act.put, List.getElem_toArray, List.getElem_cons_succ, List.getElem_cons_zero, List.setIfInBounds_toArray, List.set_cons_zero, List.set_cons_succ])
          refine wpAnyH_ready (rs := [1]) (by kernel_rfl) (by simp) (AllReadyH.cons rfl (fun K hK => ?_) AllReadyH.nil)
          have hH := hHq11
          (have g1 : World.cell? (w9.alloc (.cells #[.slice a9 m c9] 36)) ⟨p, 1, none⟩ = some (.slice al j cl) := (by simpa using ((HPj.out.chg G3.out (by have := HZ.out; have := HPW.out; simp; omega)).alloc (.cells #[.slice a9 m c9] 36)).cell 1); go_simp)
          refine hK.out _ _ (by exact hH) (fun hHq12 => ?_)
          clear hK K hH hHq11
          clear g1
          (try simp only [Act.put, List.getElem_toArray, List.getElem_cons_succ, List.getElem_cons_zero, List.setIfInBounds_toArray, List.set_cons_zero, List.set_cons_succ])
          refine wpAnyH_ready (rs := [5]) (by kernel_rfl) (by simp) (AllReadyH.cons rfl (fun K hK => ?_) AllReadyH.nil)
          have hH := hHq12
          (refine step_app1g (by rfl) (.tmp 12) (.tmp 15) 41 (by rfl) w.heap.size 36 (.slice none 0 0) 24 Try.underlying41 Try.info_ch rfl (.slice a9 m c9) rfl (.slice al j cl) (chv Ts) (by rfl) ((HLj.out.chg G3.out (HXj.out.notT (by decide))).alloc _) w9.heap.size 36 (Own.new w9 _ _) (by rfl) (by have := HLC.out; omega) (by have := HLC.out; omega) (by have := HCj.out.size; have := G3.out.size; simp; omega) ?_; intro v5 w5 K5 G5)
          refine hK.out _ _ (by exact (HNX.out w9 w5 a9 c9 G1.out G2.out G3.out G5).2.2.2.2) (fun hHq13 => ?_)
          clear hK K hH hHq12
          have N5 := Lib.hid (HNX.out w9 w5 a9 c9 G1.out G2.out G3.out G5); have g5 := N5.out.1.cell 1; have f5 := N5.out.1.frozen 1; have z5 := N5.out.1.lt; simp at g5; obtain ⟨a5, c5, hv5, _, _, _⟩ := K5.out.form; rw [List.length_append, HLC.out] at hv5; subst hv5; clear G5
          (try simp only [Act.put, List.getElem_toArray, List.getElem_cons_succ, List.getElem_cons_zero, List.setIfInBounds_toArray, List.set_cons_zero, List.set_cons_succ])
          refine wpAnyH_take (i := 6) (v := ?_) rfl (by kernel_rfl) (by kernel_rfl) (by kernel_rfl) (fun _ _ _ h => h) (Or.inl ⟨by kernel_rfl, ?_⟩) hHq13 ?_
          rotate_left
          · (intro w hSw; first | (go_simp; done) | (go_simp; with_reducible rfl))
          (try simp only [Act.put, List.getElem_toArray, List.getElem_cons_succ, List.getElem_cons_zero, List.setIfInBounds_toArray, List.set_cons_zero, List.set_cons_succ])
          refine wpAnyH_ready (rs := [7]) (by kernel_rfl) (by simp) (AllReadyH.cons rfl (fun K hK => ?_) AllReadyH.nil)
          have hH := hHq13
          (go_simp; skip)
          refine hK.out _ _ (by exact hH.setCell (.inr (Nat.le_of_lt HPW.out)) _) (fun hHq14 => ?_)
          clear hK K hH hHq13
          (try simp only [Act.put, List.getElem_toArray, List.getElem_cons_succ, List.getElem_cons_zero, List.setIfInBounds_toArray, List.set_cons_zero, List.set_cons_succ])
          refine wpAnyH_done (by kernel_rfl) ?_ _
          have hEnd := hHq14
          (have hE : Hid (Chg [s] w _) := Lib.hid hEnd; clear hEnd hHeld g5 f5 z5 c2; go_wp2_with fail; go_roundw; (case rel => exact ⟨j + 1, a5, c5, Ts ++ [⟨a9, c9, us⟩], by omega, by go_num, Lib.hid (by rw [List.length_append, HTL.out]; rfl), Lib.hid (by rw [HR.out, ← HTX.out]; simp [chx]), Lib.hid (by have := N5.out.1.set 1 (.slice a5 (j + 1) c5); simpa using this), Lib.hid (N5.out.2.1.far (by have := HPW.out; show w.heap.size ≠ p; omega) _), Lib.hid (by have sc := (Chg.refl [p] w5).setCell (p := ⟨p, 1, none⟩) (by simp) (.slice a5 (j + 1) c5); have := K5.out.chg sc (N5.out.1.notT' (by decide)); rw [← HM.out] at this; simpa [chv, ChT.val] using this), Lib.hid (N5.out.2.2.1.chg ((Chg.refl [p] w5).setCell (p := ⟨p, 1, none⟩) (by simp) _) (N5.out.1.notT' (by decide))), Lib.hid (by rw [HR.out]; exact N5.out.2.2.2.1.chg ((Chg.refl [p] w5).setCell (p := ⟨p, 1, none⟩) (by simp) _) (by have := HZ.out; have := HPW.out; simp; omega) (fun x hx => by simp only [List.mem_singleton] at hx; subst hx; have := HZ.out; have := HPW.out; have := HBs.out; omega)), hE⟩); (case measure => simp [intOf]; omega))
    · obtain rfl : j = n := by omega
      have d0 := HPj.out.cell 0
      have d1 := HPj.out.cell 1
      have r0 := HRj.out.cell 0
      have r1 := HRj.out.cell 1
      have f0 := HRj.out.frozen 0
      have f1 := HRj.out.frozen 1
      have hz6 := HRj.out.lt
      simp at d0 d1 r0 r1
      go_wp2_with fail
      refine bodyPost_ret (v := .agg #[.int .u64 (f : Int), .slice al j cl]) (by simp [results, Try.results55, go_sem, r0, r1, hz6]) rfl ?_
      have sc : Chg [w.heap.size] w6 ((w6.setCell ⟨w.heap.size, 0, none⟩ (.int .u64 (f : Int))).setCell ⟨w.heap.size, 1, none⟩ (.slice al j cl)) := ((Chg.refl _ w6).setCell (by simp) _).setCell (by simp) _
      have e1 : (Ts.length : Nat) = j := HTL.out
      refine ⟨⟨f, al, cl, Ts⟩, by simp only [SgT.val, e1], ?_, ?_, HGj.out.chg sc (HRj.out.notT' (by decide)), ?_, ?_⟩
      · rw [HP.out]
        show (f, chx Ts) = _
        rw [HTX.out]
      · simp only [e1]
        exact HLj.out.chg sc (HRj.out.notT' (by decide))
      · rw [HP.out]
        exact HXj.out.chg sc (by have := HZ.out; simp; omega) (fun x hx => by simp only [List.mem_singleton] at hx; subst hx; have := HZ.out; have := HBs.out; omega)
      · exact HCj.out.then sc (fun x hx => by simp only [List.mem_singleton] at hx; subst hx; exact .inr (Nat.le_refl _))
/-- append of one segment at a step of a region that draws its order -/
theorem step_appSg {w : World} {ops : Array Oper} {o : Oper} {a : Act} {K : Act → World → Prop} {Q : Exit → Act → World → Prop} {E : Prop} (hgd : o.guard = none) (s x : Operand)
    (ho : o.op = .call { callee := .builtin .append, args := #[s, x], argTypes := #[23, 23] })
    (base : Nat) (v : Value) (L : List SgT) (hs : a.eval s = v) (hown : Sl w base v L) (g : Nat) (y : SgT) (t : TypeId) (hnew : Own w g t (sgv [y]))
    (hx : a.eval x = .slice (some ⟨g, 0, none⟩) 1 1) (hlen : L.length ≤ 1000000) (hbase : base ≤ w.heap.size)
    (h : ∀ v' w', Hid (Sl w' base v' (L ++ [y])) → Chg (rowOf v) w w' → K (a.put o.dst v') w') :
    if Region.wanted o (yielded ops a.tmps) = true then Oper.wp Try.prog o a w K Q else E := by
  have hw : Region.wanted o (yielded ops a.tmps) = true := by simp [Region.wanted, hgd]
  rw [if_pos hw]
  obtain ⟨i, hi, hzz⟩ := Option.map_eq_some_iff.1 Try.info_seg
  simp only [Prod.mk.injEq] at hzz
  obtain ⟨hz, hsz, hby⟩ := hzz
  refine wp_append_own w s x 23 ho base 49 i _ 2 32 Try.underlying23 hi hz hsz hby rfl (by omega) v L.length (sgv L) hs hown ⟨g, 0, none⟩ 1 1 (sgv [y]) hx (by simp) (fun j u hu => ?_) (sgv_one _) (by unfold maxLen; omega) (by omega) hbase fun v' w' h2 h3 _ => h v' w' ?_ (grown_chg h3)
  · rw [add_off, Nat.zero_add, hnew.cell j]; exact hu
  · show w'.ownsRow base 49 2 v' (L ++ [y]).length (sgv (L ++ [y]))
    rw [List.length_append, sgv_append]
    exact h2
theorem Sl.otherT {w : World} {base base' : Nat} {e : TypeId} {v v' : Value} {xs : List Value} {L : List SgT} (h : Lst w base e v xs) (h' : Sl w base' v' L) (hne : e ≠ 49) : ∀ x ∈ rowOf v', ∀ cur, w.heap[x]? ≠ some (.cells cur e (0, 0)) := h'.notT hne.symm
/-- segments in rows of the call's own -/
def GwS (w : World) (base : Nat) (Gs : List SgT) : Prop := ∀ T ∈ Gs, Lst w base 36 (.slice T.a T.ch.length T.c) (chv T.ch) ∧ GwC w base T.ch
theorem GwS.chg {w w' : World} {base : Nat} {Gs : List SgT} {l : List Nat} (h : GwS w base Gs) (hc : Chg l w w') (h1 : ∀ x ∈ l, ∀ cur, w.heap[x]? ≠ some (.cells cur 36 (0, 0))) (h2 : ∀ x ∈ l, ∀ cur, w.heap[x]? ≠ some (.cells cur 3 (0, 0))) : GwS w' base Gs :=
  fun T hT => ⟨(h T hT).1.chg hc h1, (h T hT).2.chg hc h2⟩
theorem GwS.inn {w : World} {base : Nat} {Gs : List SgT} (h : GwS w base Gs) : SgIn w w.heap.size Gs := fun T hT => by
  obtain ⟨h1, h2⟩ := h T hT
  obtain ⟨a, c, e, hr, _⟩ := h1.form
  injection e with e1 e2 e3
  subst e1
  refine ⟨hr, fun c hc => ?_⟩
  obtain ⟨a, c', e, hr, _⟩ := (h2 c hc).form
  unfold ChT.val at e
  injection e with e1 e2 e3
  rw [e1]
  exact hr

set_option maxHeartbeats 4000000 in
theorem lply_any (bs : List UInt8) (B s : Nat) (w : World) (h : Src w 59 B s bs 0) :
    Calls Try.prog 32 #[.pointer (some ⟨s, 0, none⟩)] w fun e w' => ∃ T : LyT, e = .returned T.val ∧ T.x = pLy bs ∧ Sl w' w.heap.size (.slice T.a T.sg.length T.c) T.sg ∧ GwS w' w.heap.size T.sg ∧ Chg [s] w w' := by
  have HZ := Lib.hid h.lt
  have HBs := Lib.hid h.2.1
  obtain ⟨ep, hep⟩ : ∃ f, tkN bs 0 21 = f := ⟨_, rfl⟩
  obtain ⟨q, hq⟩ : ∃ f, tkN bs 21 5 = f := ⟨_, rfl⟩
  have hq5 : q < 32 := by have := tkN_lt bs 21 5; omega
  obtain ⟨n, hn⟩ : ∃ n, tkN bs 26 2 + 1 = n := ⟨_, rfl⟩
  have hn4 : n ≤ 4 := by have := tkN_lt bs 26 2; omega
  have HP : Hid (pLy bs = ⟨ep, (rep (pSg bs) n 28).1, (q : Int)⟩) := Lib.hid (by unfold pLy; rw [hn, hep, hq])
  have hn4' : (n : Int) ≤ 4 := by omega
  have eq1 : IntKind.i64.wrap (q : Int) = (q : Int) := by rw [IntKind.wrap_i64]; omega
  obtain ⟨W, HWW⟩ : ∃ W, Hid (w.alloc (.cells #[.int .u64 0, .slice none 0 0, .int .i64 0] 25) = W) := ⟨_, Lib.hid rfl⟩
  have hWc : Chg [] w W := by rw [← HWW.out]; exact (Chg.refl [] w).alloc _
  have HWC := Lib.hid hWc
  have HO1 : Hid (Own W w.heap.size 25 [.int .u64 0, .slice none 0 0, .int .i64 0]) := Lib.hid (by rw [← HWW.out]; exact Own.new w _ _)
  have HT := Lib.hid (ltake_any bs B s 0 21 W (h.new0 hWc) (by omega) (by omega))
  rw [hep] at HT
  clear h hWc hep
  go_enter Try.func32, Try.ntmps32
  go_upto_region 1 with fail
  rw [HWW.out]
  go_wp2_with fail
  refine HT.out.mono ?_
  rintro e w1 ⟨rfl, h1, h2⟩
  have HT2 := Lib.hid (ltake_any bs B s 21 5 w1 h1 (by omega) (by omega))
  rw [hq] at HT2
  have HC0 := Lib.hid ((HWC.out.nil1 [s]).trans h2)
  have HO2 := Lib.hid (HO1.out.chg h2 (by have := HZ.out; simp; omega))
  clear h1 h2 hq
  go_wp2_with fail
  refine HT2.out.mono ?_
  rintro e w2 ⟨rfl, h1, h2⟩
  go_upto_region 2 with fail
  obtain ⟨p, hp⟩ : ∃ p, w2.heap.size = p := ⟨_, rfl⟩
  obtain ⟨W2, hW2⟩ : ∃ W2, w2.alloc (.cells #[.int .u64 (ep : Int), .slice none 0 0, .int .i64 (q : Int)] 25) = W2 := ⟨_, rfl⟩
  have HS1 := Lib.hid (h1.new0 (w' := W2) (by rw [← hW2]; exact (Chg.refl [] w2).alloc _))
  have HC1 : Hid (Chg [s] w W2) := Lib.hid (by rw [← hW2]; exact (HC0.out.trans h2).alloc _)
  have HR1 : Hid (Own W2 w.heap.size 25 [.int .u64 0, .slice none 0 0, .int .i64 0]) := Lib.hid (by rw [← hW2]; exact (HO2.out.chg h2 (by have := HZ.out; simp; omega)).alloc _)
  have HP1 : Hid (Own W2 p 25 [.int .u64 (ep : Int), .slice none 0 0, .int .i64 (q : Int)]) := Lib.hid (by rw [← hW2, ← hp]; exact Own.new w2 _ _)
  have HPW : Hid (w.heap.size < p) := Lib.hid (by rw [← hp]; exact Nat.lt_of_lt_of_le HO2.out.lt h2.size)
  clear h1 h2
  rw [hW2, hp]
  clear hW2 hp
  have HTC := Lib.hid (ltakeC_any bs B s 26 W2 HS1.out (by omega))
  rw [hn] at HTC
  clear hn
  go_wp2_with fail
  refine HTC.out.mono ?_
  rintro e w3 ⟨rfl, h1, h2⟩
  have HS3 : Hid (Src w3 59 B s bs (rep (pSg bs) 0 28).2) := Lib.hid h1
  have HC3 : Hid (Chg [s] w w3) := Lib.hid (HC1.out.trans h2)
  have HR3 := Lib.hid (HR1.out.chg h2 (by have := HZ.out; simp; omega))
  have HP3 := Lib.hid (HP1.out.chg h2 (by have := HZ.out; have := HPW.out; simp; omega))
  clear h1 h2
  go_wp2_with fail
  go_loopw [12] (fun i wr => ∃ (j : Nat) (al : Option Addr) (cl : Nat) (Ts : List SgT), j ≤ n ∧ i = .int .u64 (j : Int) ∧ Hid (Ts.length = j) ∧ Hid (sgx Ts = (rep (pSg bs) j 28).1) ∧ Hid (Own wr p 25 [.int .u64 (ep : Int), .slice al j cl, .int .i64 (q : Int)]) ∧ Hid (Own wr w.heap.size 25 [.int .u64 0, .slice none 0 0, .int .i64 0]) ∧ Hid (Sl wr w.heap.size (.slice al j cl) Ts) ∧ Hid (GwS wr w.heap.size Ts) ∧ Hid (Src wr 59 B s bs (rep (pSg bs) j 28).2) ∧ Hid (Chg [s] w wr)) (fun i _ => n - (intOf i).toNat)
  case atStart => exact ⟨0, none, 0, [], Nat.zero_le _, rfl, Lib.hid rfl, Lib.hid rfl, HP3, HR3, Lib.hid (Sl.nil _ _), Lib.hid (fun c hc => by cases hc), HS3, HC3⟩
  case round =>
    obtain ⟨j, al, cl, Ts, hj, rfl, HTL, HTX, HPj, HRj, HLj, HGj, HXj, HCj⟩ := hrel
    rename World => w6
    by_cases hlt : j < n
    · have hj0 : (0 : Int) ≤ (j : Int) := by omega
      have hj1 : (j : Int) < (n : Int) := by omega
      have HR : Hid (rep (pSg bs) (j + 1) 28 = ((rep (pSg bs) j 28).1 ++ [(pSg bs (rep (pSg bs) j 28).2).1], (pSg bs (rep (pSg bs) j 28).2).2)) := Lib.hid rfl
      have HQ : Hid ((rep (pSg bs) j 28).2 ≤ 800000) := Lib.hid (by have := rep_at (p := pSg bs) (d := 110) (fun k => (pSg_at bs k).1) j 28; omega)
      generalize rep (pSg bs) j 28 = r at *
      obtain ⟨xs, qk⟩ := r
      simp only at HR HTX HXj HQ
      have HCH := Lib.hid (lpsg_any bs B s qk w6.drew (HXj.out.new0 ((Chg.refl [] w6).drew)) HQ.out)
      generalize pSg bs qk = y at *
      obtain ⟨us, q'⟩ := y
      simp only at HR HCH
      go_wp2_with fail
      have c2 : w6.cell? ⟨p, 1, none⟩ = some (.slice al j cl) := by simpa using HPj.out.cell 1
      have HNS : Hid (s ∉ rowOf (.slice al j cl)) := Lib.hid fun hx => by have := (HLj.out.row s hx).1; have := HZ.out; omega
      have HNX : Hid (∀ w9 w5 (T : SgT) (m : Nat), T.ch.length = m → Lst w9 w6.heap.size 36 (.slice T.a T.ch.length T.c) (chv T.ch) → GwC w9 w6.heap.size T.ch → Src w9 59 B s bs q' → Chg [s] w6 w9 → Chg (rowOf (.slice al j cl)) (w9.alloc (.cells #[.int .u64 (T.f : Int), .slice T.a m T.c] 49)) w5 → Own w5 p 25 [.int .u64 (ep : Int), .slice al j cl, .int .i64 (q : Int)] ∧ Own w5 w.heap.size 25 [.int .u64 0, .slice none 0 0, .int .i64 0] ∧ GwS w5 w.heap.size (Ts ++ [T]) ∧ Src w5 59 B s bs q' ∧ Chg [s] w w5) := by
        apply Lib.hid
        intro w9 w5 T m hm g1 g1c g2 g3 g4
        have k1 := HPj.out.chg g3 (by have := HZ.out; have := HPW.out; simp; omega)
        have k2 := HRj.out.chg g3 (by have := HZ.out; simp; omega)
        have k3 := HLj.out.chg g3 (HXj.out.notT (by decide))
        have k4 := HGj.out.chg g3 (HXj.out.notT (by decide)) (HXj.out.notT (by decide))
        have ka : Chg [] w9 (w9.alloc (.cells #[.int .u64 (T.f : Int), .slice T.a m T.c] 49)) := (Chg.refl [] w9).alloc _
        have k5 := HCj.out.trans (g3.trans (ka.nil1 [s]))
        have kl := k3.alloc (.cells #[.int .u64 (T.f : Int), .slice T.a m T.c] 49)
        refine ⟨(k1.alloc _).chg g4 ((k1.alloc _).out_row kl (by decide)), (k2.alloc _).chg g4 ((k2.alloc _).out_row kl (by decide)), ?_, (g2.new0 ka).chg g4 HNS.out (fun x hx => by have := (HLj.out.row x hx).1; have := HZ.out; have := HBs.out; omega), k5.then g4 (fun x hx => .inr (HLj.out.row x hx).1)⟩
        have ka4 := (k4.chg ka (by simp) (by simp))
        intro c hc
        rcases List.mem_append.1 hc with hc | hc
        · exact ⟨(ka4 c hc).1.chg g4 (kl.notT (by decide)), (ka4 c hc).2.chg g4 (kl.notT (by decide))⟩
        · simp only [List.mem_singleton] at hc
          subst hc
          exact ⟨((g1.base HCj.out.size).alloc _).chg g4 (kl.notT (by decide)), ((g1c.base HCj.out.size).chg ka (by simp)).chg g4 (kl.notT (by decide))⟩
      refine wp_region_held_drew (S := (fun w' => Chg [s] w w')) (by kernel_rfl) HCj.out.drew (fun hHeld => ?_)
      refine wpAnyH_take (i := 0) (v := ?_) rfl (by kernel_rfl) (by kernel_rfl) (by kernel_rfl) (fun _ _ _ h => h) (Or.inl ⟨by kernel_rfl, ?_⟩) hHeld ?_
      rotate_left
      · (intro w hSw; first | (go_simp; done) | (go_simp; with_reducible rfl))
      (try simp only [Act.put, List.getElem_toArray, List.getElem_cons_succ, List.getElem_cons_zero, List.setIfInBounds_toArray, List.set_cons_zero, List.set_cons_succ])
      refine wpAnyH_take (i := 2) (v := ?_) rfl (by kernel_rfl) (by kernel_rfl) (by kernel_rfl) (fun _ _ _ h => h) (Or.inl ⟨by kernel_rfl, ?_⟩) hHeld ?_
      rotate_left
      · (intro w hSw; first | (go_simp; done) | (go_simp; with_reducible rfl))
      (try simp only [Act.put, List.getElem_toArray, List.getElem_cons_succ, List.getElem_cons_zero, List.setIfInBounds_toArray, List.set_cons_zero, List.set_cons_succ])
      refine wpAnyH_ready (rs := [1,3]) (by kernel_rfl) (by simp) (AllReadyH.cons rfl (fun K hK => ?_) (AllReadyH.cons rfl (fun K hK => ?_) AllReadyH.nil))
      · have hH := hHeld
        (have g1 : World.cell? w6.drew ⟨p, 1, none⟩ = some (.slice al j cl) := c2; go_simp)
        refine hK.out _ _ (by exact hH) (fun hHq1 => ?_)
        clear hK K hH 
        clear g1
        (try simp only [Act.put, List.getElem_toArray, List.getElem_cons_succ, List.getElem_cons_zero, List.setIfInBounds_toArray, List.set_cons_zero, List.set_cons_succ])
        refine wpAnyH_ready (rs := [3]) (by kernel_rfl) (by simp) (AllReadyH.cons rfl (fun K hK => ?_) AllReadyH.nil)
        have hH := hHq1
        (go_simp; go_at_call 55; refine HCH.out.mono ?_; rintro e w9 ⟨⟨Tf, Ta, Tc, Tch⟩, rfl, g0, g1, g1c, g2, g3⟩)
        refine hK.out _ _ (by exact hH.trans g3) (fun hHq2 => ?_)
        clear hK K hH hHq1
        have G0 := Lib.hid g0; have G1 := Lib.hid g1; have G1C := Lib.hid g1c; have G2 := Lib.hid g2; have G3 : Hid (Chg [s] w6 w9) := Lib.hid (((Chg.refl [s] w6).drew).trans g3); have GZ := Lib.hid g3.size; clear g0 g1 g1c g2 g3; simp only [SgT.val]; obtain ⟨m, hm⟩ : ∃ m, Tch.length = m := ⟨_, rfl⟩; rw [hm]; have HM := Lib.hid hm; clear hm
        (try simp only [Act.put, List.getElem_toArray, List.getElem_cons_succ, List.getElem_cons_zero, List.setIfInBounds_toArray, List.set_cons_zero, List.set_cons_succ])
        refine wpAnyH_ready (rs := [4]) (by kernel_rfl) (by simp) (AllReadyH.cons rfl (fun K hK => ?_) AllReadyH.nil)
        have hH := hHq2
        (go_simp; skip)
        refine hK.out _ _ (by exact hH.alloc _) (fun hHq3 => ?_)
        clear hK K hH hHq2
        (try simp only [Act.put, List.getElem_toArray, List.getElem_cons_succ, List.getElem_cons_zero, List.setIfInBounds_toArray, List.set_cons_zero, List.set_cons_succ])
        refine wpAnyH_ready (rs := [5]) (by kernel_rfl) (by simp) (AllReadyH.cons rfl (fun K hK => ?_) AllReadyH.nil)
        have hH := hHq3
        (refine step_appSg (by rfl) (.tmp 15) (.tmp 18) (by rfl) w.heap.size (.slice al j cl) Ts (by rfl) ((HLj.out.chg G3.out (HXj.out.notT (by decide))).alloc _) w9.heap.size ⟨Tf, Ta, Tc, Tch⟩ 49 (by simp only [sgv]; rw [HM.out]; exact Own.new w9 _ _) (by rfl) (by have := HTL.out; omega) (by have := HCj.out.size; have := G3.out.size; simp; omega) ?_; intro v5 w5 K5 G5)
        refine hK.out _ _ (by exact (HNX.out w9 w5 ⟨Tf, Ta, Tc, Tch⟩ m HM.out G1.out G1C.out G2.out G3.out G5).2.2.2.2) (fun hHq4 => ?_)
        clear hK K hH hHq3
        have N5 := Lib.hid (HNX.out w9 w5 ⟨Tf, Ta, Tc, Tch⟩ m HM.out G1.out G1C.out G2.out G3.out G5); have g5 := N5.out.1.cell 1; have f5 := N5.out.1.frozen 1; have z5 := N5.out.1.lt; simp at g5; obtain ⟨a5, c5, hv5, _, _⟩ := K5.out.form; rw [List.length_append, HTL.out] at hv5; subst hv5; clear G5
        (try simp only [Act.put, List.getElem_toArray, List.getElem_cons_succ, List.getElem_cons_zero, List.setIfInBounds_toArray, List.set_cons_zero, List.set_cons_succ])
        refine wpAnyH_take (i := 6) (v := ?_) rfl (by kernel_rfl) (by kernel_rfl) (by kernel_rfl) (fun _ _ _ h => h) (Or.inl ⟨by kernel_rfl, ?_⟩) hHq4 ?_
        rotate_left
        · (intro w hSw; first | (go_simp; done) | (go_simp; with_reducible rfl))
        (try simp only [Act.put, List.getElem_toArray, List.getElem_cons_succ, List.getElem_cons_zero, List.setIfInBounds_toArray, List.set_cons_zero, List.set_cons_succ])
        refine wpAnyH_ready (rs := [7]) (by kernel_rfl) (by simp) (AllReadyH.cons rfl (fun K hK => ?_) AllReadyH.nil)
        have hH := hHq4
        (go_simp; skip)
        refine hK.out _ _ (by exact hH.setCell (.inr (Nat.le_of_lt HPW.out)) _) (fun hHq5 => ?_)
        clear hK K hH hHq4
        (try simp only [Act.put, List.getElem_toArray, List.getElem_cons_succ, List.getElem_cons_zero, List.setIfInBounds_toArray, List.set_cons_zero, List.set_cons_succ])
        refine wpAnyH_done (by kernel_rfl) ?_ _
        have hEnd := hHq5
        (have hE : Hid (Chg [s] w _) := Lib.hid hEnd; clear hEnd hHeld g5 f5 z5 c2; go_wp2_with fail; go_roundw; (case rel => exact ⟨j + 1, a5, c5, Ts ++ [⟨Tf, Ta, Tc, Tch⟩], by omega, by go_num, Lib.hid (by rw [List.length_append, HTL.out]; rfl), Lib.hid (by rw [HR.out, ← HTX.out, ← G0.out]; simp [sgx]), Lib.hid (by have := N5.out.1.set 1 (.slice a5 (j + 1) c5); simpa using this), Lib.hid (N5.out.2.1.far (by have := HPW.out; show w.heap.size ≠ p; omega) _), Lib.hid (K5.out.chg ((Chg.refl [p] w5).setCell (p := ⟨p, 1, none⟩) (by simp) (.slice a5 (j + 1) c5)) (N5.out.1.notT' (by decide))), Lib.hid (N5.out.2.2.1.chg ((Chg.refl [p] w5).setCell (p := ⟨p, 1, none⟩) (by simp) _) (N5.out.1.notT' (by decide)) (N5.out.1.notT' (by decide))), Lib.hid (by rw [HR.out]; exact N5.out.2.2.2.1.chg ((Chg.refl [p] w5).setCell (p := ⟨p, 1, none⟩) (by simp) _) (by have := HZ.out; have := HPW.out; simp; omega) (fun x hx => by simp only [List.mem_singleton] at hx; subst hx; have := HZ.out; have := HPW.out; have := HBs.out; omega)), hE⟩); (case measure => simp [intOf]; omega))
      · have hH := hHeld
        (go_simp; go_at_call 55; refine HCH.out.mono ?_; rintro e w9 ⟨⟨Tf, Ta, Tc, Tch⟩, rfl, g0, g1, g1c, g2, g3⟩)
        refine hK.out _ _ (by exact hH.trans g3) (fun hHq6 => ?_)
        clear hK K hH 
        have G0 := Lib.hid g0; have G1 := Lib.hid g1; have G1C := Lib.hid g1c; have G2 := Lib.hid g2; have G3 : Hid (Chg [s] w6 w9) := Lib.hid (((Chg.refl [s] w6).drew).trans g3); have GZ := Lib.hid g3.size; clear g0 g1 g1c g2 g3; simp only [SgT.val]; obtain ⟨m, hm⟩ : ∃ m, Tch.length = m := ⟨_, rfl⟩; rw [hm]; have HM := Lib.hid hm; clear hm
        (try simp only [Act.put, List.getElem_toArray, List.getElem_cons_succ, List.getElem_cons_zero, List.setIfInBounds_toArray, List.set_cons_zero, List.set_cons_succ])
        refine wpAnyH_ready (rs := [1,4]) (by kernel_rfl) (by simp) (AllReadyH.cons rfl (fun K hK => ?_) (AllReadyH.cons rfl (fun K hK => ?_) AllReadyH.nil))
        · have hH := hHq6
          (have g1 : World.cell? w9 ⟨p, 1, none⟩ = some (.slice al j cl) := (by simpa using (HPj.out.chg G3.out (by have := HZ.out; have := HPW.out; simp; omega)).cell 1); go_simp)
          refine hK.out _ _ (by exact hH) (fun hHq7 => ?_)
          clear hK K hH hHq6
          clear g1
          (try simp only [Act.put, List.getElem_toArray, List.getElem_cons_succ, List.getElem_cons_zero, List.setIfInBounds_toArray, List.set_cons_zero, List.set_cons_succ])
          refine wpAnyH_ready (rs := [4]) (by kernel_rfl) (by simp) (AllReadyH.cons rfl (fun K hK => ?_) AllReadyH.nil)
          have hH := hHq7
          (go_simp; skip)
          refine hK.out _ _ (by exact hH.alloc _) (fun hHq8 => ?_)
          clear hK K hH hHq7
          (try simp only [Act.put, List.getElem_toArray, List.getElem_cons_succ, List.getElem_cons_zero, List.setIfInBounds_toArray, List.set_cons_zero, List.set_cons_succ])
          refine wpAnyH_ready (rs := [5]) (by kernel_rfl) (by simp) (AllReadyH.cons rfl (fun K hK => ?_) AllReadyH.nil)
          have hH := hHq8
          (refine step_appSg (by rfl) (.tmp 15) (.tmp 18) (by rfl) w.heap.size (.slice al j cl) Ts (by rfl) ((HLj.out.chg G3.out (HXj.out.notT (by decide))).alloc _) w9.heap.size ⟨Tf, Ta, Tc, Tch⟩ 49 (by simp only [sgv]; rw [HM.out]; exact Own.new w9 _ _) (by rfl) (by have := HTL.out; omega) (by have := HCj.out.size; have := G3.out.size; simp; omega) ?_; intro v5 w5 K5 G5)
          refine hK.out _ _ (by exact (HNX.out w9 w5 ⟨Tf, Ta, Tc, Tch⟩ m HM.out G1.out G1C.out G2.out G3.out G5).2.2.2.2) (fun hHq9 => ?_)
          clear hK K hH hHq8
          have N5 := Lib.hid (HNX.out w9 w5 ⟨Tf, Ta, Tc, Tch⟩ m HM.out G1.out G1C.out G2.out G3.out G5); have g5 := N5.out.1.cell 1; have f5 := N5.out.1.frozen 1; have z5 := N5.out.1.lt; simp at g5; obtain ⟨a5, c5, hv5, _, _⟩ := K5.out.form; rw [List.length_append, HTL.out] at hv5; subst hv5; clear G5
          (try simp only [Act.put, List.getElem_toArray, List.getElem_cons_succ, List.getElem_cons_zero, List.setIfInBounds_toArray, List.set_cons_zero, List.set_cons_succ])
          refine wpAnyH_take (i := 6) (v := ?_) rfl (by kernel_rfl) (by kernel_rfl) (by kernel_rfl) (fun _ _ _ h => h) (Or.inl ⟨by kernel_rfl, ?_⟩) hHq9 ?_
          rotate_left
          · (intro w hSw; first | (go_simp; done) | (go_simp; with_reducible rfl))
          (try simp only [Act.put, List.getElem_toArray, List.getElem_cons_succ, List.getElem_cons_zero, List.setIfInBounds_toArray, List.set_cons_zero, List.set_cons_succ])
          refine wpAnyH_ready (rs := [7]) (by kernel_rfl) (by simp) (AllReadyH.cons rfl (fun K hK => ?_) AllReadyH.nil)
          have hH := hHq9
          (go_simp; skip)
          refine hK.out _ _ (by exact hH.setCell (.inr (Nat.le_of_lt HPW.out)) _) (fun hHq10 => ?_)
          clear hK K hH hHq9
          (try simp only [Act.put, List.getElem_toArray, List.getElem_cons_succ, List.getElem_cons_zero, List.setIfInBounds_toArray, List.set_cons_zero, List.set_cons_succ])
          refine wpAnyH_done (by kernel_rfl) ?_ _
          have hEnd := hHq10
          (have hE : Hid (Chg [s] w _) := Lib.hid hEnd; clear hEnd hHeld g5 f5 z5 c2; go_wp2_with fail; go_roundw; (case rel => exact ⟨j + 1, a5, c5, Ts ++ [⟨Tf, Ta, Tc, Tch⟩], by omega, by go_num, Lib.hid (by rw [List.length_append, HTL.out]; rfl), Lib.hid (by rw [HR.out, ← HTX.out, ← G0.out]; simp [sgx]), Lib.hid (by have := N5.out.1.set 1 (.slice a5 (j + 1) c5); simpa using this), Lib.hid (N5.out.2.1.far (by have := HPW.out; show w.heap.size ≠ p; omega) _), Lib.hid (K5.out.chg ((Chg.refl [p] w5).setCell (p := ⟨p, 1, none⟩) (by simp) (.slice a5 (j + 1) c5)) (N5.out.1.notT' (by decide))), Lib.hid (N5.out.2.2.1.chg ((Chg.refl [p] w5).setCell (p := ⟨p, 1, none⟩) (by simp) _) (N5.out.1.notT' (by decide)) (N5.out.1.notT' (by decide))), Lib.hid (by rw [HR.out]; exact N5.out.2.2.2.1.chg ((Chg.refl [p] w5).setCell (p := ⟨p, 1, none⟩) (by simp) _) (by have := HZ.out; have := HPW.out; simp; omega) (fun x hx => by simp only [List.mem_singleton] at hx; subst hx; have := HZ.out; have := HPW.out; have := HBs.out; omega)), hE⟩); (case measure => simp [intOf]; omega))
        · have hH := hHq6
          (go_simp; skip)
          refine hK.out _ _ (by exact hH.alloc _) (fun hHq11 => ?_)
          clear hK K hH hHq6
          (try simp only [Act.put, List.getElem_toArray, List.getElem_cons_succ, List.getElem_cons_zero, List.setIfInBounds_toArray, List.set_cons_zero, List.set_cons_succ])
          refine wpAnyH_ready (rs := [1]) (by kernel_rfl) (by simp) (AllReadyH.cons rfl (fun K hK => ?_) AllReadyH.nil)
          have hH := hHq11
          (have g1 : World.cell? (w9.alloc (.cells #[.int .u64 (Tf : Int), .slice Ta m Tc] 49)) ⟨p, 1, none⟩ = some (.slice al j cl) := (by simpa using ((HPj.out.chg G3.out (by have := HZ.out; have := HPW.out; simp; omega)).alloc (.cells #[.int .u64 (Tf : Int), .slice Ta m Tc] 49)).cell 1); go_simp)
          refine hK.out _ _ (by exact hH) (fun hHq12 => ?_)
          clear hK K hH hHq11
          clear g1
          (try simp only [Act.put, List.getElem_toArray, List.getElem_cons_succ, List.getElem_cons_zero, List.setIfInBounds_toArray, List.set_cons_zero, List.set_cons_succ])
          refine wpAnyH_ready (rs := [5]) (by kernel_rfl) (by simp) (AllReadyH.cons rfl (fun K hK => ?_) AllReadyH.nil)
          have hH := hHq12
          (refine step_appSg (by rfl) (.tmp 15) (.tmp 18) (by rfl) w.heap.size (.slice al j cl) Ts (by rfl) ((HLj.out.chg G3.out (HXj.out.notT (by decide))).alloc _) w9.heap.size ⟨Tf, Ta, Tc, Tch⟩ 49 (by simp only [sgv]; rw [HM.out]; exact Own.new w9 _ _) (by rfl) (by have := HTL.out; omega) (by have := HCj.out.size; have := G3.out.size; simp; omega) ?_; intro v5 w5 K5 G5)
          refine hK.out _ _ (by exact (HNX.out w9 w5 ⟨Tf, Ta, Tc, Tch⟩ m HM.out G1.out G1C.out G2.out G3.out G5).2.2.2.2) (fun hHq13 => ?_)
          clear hK K hH hHq12
          have N5 := Lib.hid (HNX.out w9 w5 ⟨Tf, Ta, Tc, Tch⟩ m HM.out G1.out G1C.out G2.out G3.out G5); have g5 := N5.out.1.cell 1; have f5 := N5.out.1.frozen 1; have z5 := N5.out.1.lt; simp at g5; obtain ⟨a5, c5, hv5, _, _⟩ := K5.out.form; rw [List.length_append, HTL.out] at hv5; subst hv5; clear G5
          (try simp only [Act.put, List.getElem_toArray, List.getElem_cons_succ, List.getElem_cons_zero, List.setIfInBounds_toArray, List.set_cons_zero, List.set_cons_succ])
          refine wpAnyH_take (i := 6) (v := ?_) rfl (by kernel_rfl) (by kernel_rfl) (by kernel_rfl) (fun _ _ _ h => h) (Or.inl ⟨by kernel_rfl, ?_⟩) hHq13 ?_
          rotate_left
          · (intro w hSw; first | (go_simp; done) | (go_simp; with_reducible rfl))
          (try simp only [Act.put, List.getElem_toArray, List.getElem_cons_succ, List.getElem_cons_zero, List.setIfInBounds_toArray, List.set_cons_zero, List.set_cons_succ])
          refine wpAnyH_ready (rs := [7]) (by kernel_rfl) (by simp) (AllReadyH.cons rfl (fun K hK => ?_) AllReadyH.nil)
          have hH := hHq13
          (go_simp; skip)
          refine hK.out _ _ (by exact hH.setCell (.inr (Nat.le_of_lt HPW.out)) _) (fun hHq14 => ?_)
          clear hK K hH hHq13
          (try simp only [Act.put, List.getElem_toArray, List.getElem_cons_succ, List.getElem_cons_zero, List.setIfInBounds_toArray, List.set_cons_zero, List.set_cons_succ])
          refine wpAnyH_done (by kernel_rfl) ?_ _
          have hEnd := hHq14
          (have hE : Hid (Chg [s] w _) := Lib.hid hEnd; clear hEnd hHeld g5 f5 z5 c2; go_wp2_with fail; go_roundw; (case rel => exact ⟨j + 1, a5, c5, Ts ++ [⟨Tf, Ta, Tc, Tch⟩], by omega, by go_num, Lib.hid (by rw [List.length_append, HTL.out]; rfl), Lib.hid (by rw [HR.out, ← HTX.out, ← G0.out]; simp [sgx]), Lib.hid (by have := N5.out.1.set 1 (.slice a5 (j + 1) c5); simpa using this), Lib.hid (N5.out.2.1.far (by have := HPW.out; show w.heap.size ≠ p; omega) _), Lib.hid (K5.out.chg ((Chg.refl [p] w5).setCell (p := ⟨p, 1, none⟩) (by simp) (.slice a5 (j + 1) c5)) (N5.out.1.notT' (by decide))), Lib.hid (N5.out.2.2.1.chg ((Chg.refl [p] w5).setCell (p := ⟨p, 1, none⟩) (by simp) _) (N5.out.1.notT' (by decide)) (N5.out.1.notT' (by decide))), Lib.hid (by rw [HR.out]; exact N5.out.2.2.2.1.chg ((Chg.refl [p] w5).setCell (p := ⟨p, 1, none⟩) (by simp) _) (by have := HZ.out; have := HPW.out; simp; omega) (fun x hx => by simp only [List.mem_singleton] at hx; subst hx; have := HZ.out; have := HPW.out; have := HBs.out; omega)), hE⟩); (case measure => simp [intOf]; omega))
    · obtain rfl : j = n := by omega
      have d0 := HPj.out.cell 0
      have d1 := HPj.out.cell 1
      have d2 := HPj.out.cell 2
      have r0 := HRj.out.cell 0
      have r1 := HRj.out.cell 1
      have r2 := HRj.out.cell 2
      have f0 := HRj.out.frozen 0
      have f1 := HRj.out.frozen 1
      have f2 := HRj.out.frozen 2
      have hz6 := HRj.out.lt
      simp at d0 d1 d2 r0 r1 r2
      go_wp2_with fail
      refine bodyPost_ret (v := .agg #[.int .u64 (ep : Int), .slice al j cl, .int .i64 (q : Int)]) (by simp [results, Try.results32, go_sem, r0, r1, r2, hz6]) rfl ?_
      have sc : Chg [w.heap.size] w6 (((w6.setCell ⟨w.heap.size, 0, none⟩ (.int .u64 (ep : Int))).setCell ⟨w.heap.size, 1, none⟩ (.slice al j cl)).setCell ⟨w.heap.size, 2, none⟩ (.int .i64 (q : Int))) := (((Chg.refl _ w6).setCell (by simp) _).setCell (by simp) _).setCell (by simp) _
      have e1 : (Ts.length : Nat) = j := HTL.out
      refine ⟨⟨ep, al, cl, Ts, (q : Int)⟩, by simp only [LyT.val, e1], ?_, ?_, HGj.out.chg sc (HRj.out.notT' (by decide)) (HRj.out.notT' (by decide)), ?_⟩
      · rw [HP.out]
        show (⟨ep, sgx Ts, (q : Int)⟩ : Ly) = _
        rw [HTX.out]
      · simp only [e1]
        exact HLj.out.chg sc (HRj.out.notT' (by decide))
      · exact HCj.out.then sc (fun x hx => by simp only [List.mem_singleton] at hx; subst hx; exact .inr (Nat.le_refl _))
end Go.Proofs.Ytkdgoopldaoihaa
