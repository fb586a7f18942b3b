/-
  A message as it is read: what the walk keeps. No claim of its own.
-/
import Derived.Test.YtdpaofedepnnbaaGreatK2
import Derived.Test.YtdpaofedepnnbaaGreatK3
import Derived.Test.YtdpaofedepnnbaaGreatLd
import Derived.Test.YtdpaofedepnnbaaGreatCeS
import Derived.Test.YtdpaofedepnnbaaGreatK1
import Derived.Test.YtdpaofedepnnbaaGreatLq
import Derived.Laws.StructEq
import Derived.Deep.RegionHeld3
import Derived.Test.YtdpaofedepnnbaaGreatOp10
import Derived.Test.YtdpaofedepnnbaaGreatArgs
import Derived.Deep.Cut
namespace Go.Proofs.YtdpaofedepnnbaaGreat
open Go.RowKit Go.Deep
set_option linter.unusedVariables false
set_option linter.unusedSimpArgs false

theorem Lst.cap {w : World} {base n c : Nat} {e : TypeId} {a : Option Addr} {xs : List Value} (h : Lst w base e (.slice a n c) xs) : c ≤ 9223372036854775807 := by
  rcases h.2 with ⟨hv, _⟩ | ⟨g, cap, cur, hv, _, _, _, hm, _⟩
  · injection hv with _ _ hv; omega
  · injection hv with _ _ hv; unfold maxLen at hm; omega
theorem Lb.apart {w : World} {base n c : Nat} {a : Option Addr} {L : List Bk} {l : List Nat} (h : Lb w base (.slice a n c) L) (hl : ∀ x ∈ l, x < base) : RoX w l a (bcs L) := by
  obtain ⟨a', c', h1, h2, _⟩ := h.form
  injection h1 with h1 _ _
  subst h1
  rcases h2 with h2 | ⟨b, off, g1, g2, g3⟩
  · exact .inl h2
  · refine .inr ⟨b, off, g1, g2, fun hm => ?_, g3⟩
    have hr := h.row b (by rw [g1]; simp [rowOf, Value.ownBlock]) |>.1
    have := hl b hm
    omega
theorem Frs.apart {w w' : World} {a : Option Addr} {vs : List Value} {l : List Nat} (h : Ro w' w'.heap.size a vs) (hf : Frs w a) (hl : ∀ x ∈ l, x < w.heap.size) : RoX w' l a vs := by
  rcases h with h | ⟨b, off, g1, g2, g3⟩
  · exact .inl h
  · refine .inr ⟨b, off, g1, g2, fun hm => ?_, g3⟩
    have hr := hf _ g1
    have := hl b hm
    simp only at hr
    omega
theorem RoX.mono {w : World} {l l' : List Nat} {a : Option Addr} {vs : List Value} (h : RoX w l a vs) (hl : ∀ x ∈ l', x ∈ l) : RoX w l' a vs := by
  rcases h with h | ⟨b, off, h1, h2, h3, h4⟩
  · exact .inl h
  · exact .inr ⟨b, off, h1, h2, fun hm => h3 (hl b hm), h4⟩
theorem RoX.nil (w : World) (l : List Nat) (a : Option Addr) : RoX w l a [] := .inl rfl
theorem decC_fit (l : List UInt8) : (decC l).d.length ≤ 100 ∧ (decC l).b.length ≤ 4 ∧ ∀ b ∈ (decC l).b, FitB b := by
  by_cases h : ∃ x, right x = true ∧ IsEnc x l
  · obtain ⟨x, hr, he⟩ := h
    rw [decC_yes hr he]
    rcases right_kind hr with hk | hk
    · obtain ⟨h1, h2, h3⟩ := right_data hr hk
      refine ⟨h1, h2, fun b hb => ?_⟩
      obtain ⟨i, hi, rfl⟩ := List.getElem_of_mem hb
      have h4 := backsOk_at h3 i hi
      have e : bk x.b i = x.b[i] := by simp [bk, hi]
      rw [e] at h4
      obtain ⟨g1, g2, g3, g4⟩ := h4
      have g5 := lastOk_iff.1 g4
      unfold FitB
      omega
    · rw [right_junk hr hk]
      exact ⟨by simp, by simp, fun b hb => by cases hb⟩
  · rw [decC_no (fun x h1 h2 => h ⟨x, h1, h2⟩)]
    exact ⟨by simp [noC], by simp [noC], fun b hb => by cases hb⟩
/-- Decode of a cell, by what its bytes say -/
theorem cdec_u (bs : List UInt8) (n : Nat) (a : Option Addr) (c B : Nat) (w : World) (hn : bs.length = n) (h : Ro w B a (u8s bs)) (hB : B ≤ w.heap.size) (hnc : n ≤ c) (hc : c ≤ 9223372036854775807) (hl : n ≤ 1000000) :
    Calls Tryz.prog 86 #[.slice a n c] w fun e w' => ∃ a1 c1 a2 c2 g, e = .returned (.tuple #[cev (decC bs).k a1 (decC bs).d.length c1 a2 (decC bs).b.length c2, .int .i64 g]) ∧ Ro w' w'.heap.size a1 (u8s (decC bs).d) ∧ Ro w' w'.heap.size a2 (bcs (decC bs).b) ∧ Frs w a1 ∧ Frs w a2 ∧ Below w.heap.size w w' := by
  by_cases hx : ∃ x, right x = true ∧ IsEnc x bs
  · obtain ⟨x, hr, he⟩ := hx
    refine (dec_yes bs n a c B w hn h hB hnc hc hl x he hr).mono ?_
    rintro e w' ⟨a1, c1, a2, c2, he', h1, h2, h3, h4, h5⟩
    rw [decC_yes hr he]
    exact ⟨a1, c1, a2, c2, 0, he', h1, h2, h3, h4, h5⟩
  · have hno := fun x h1 h2 => hx ⟨x, h1, h2⟩
    refine (dec_no bs n a c B w hn h hB hnc hc hl hno).mono ?_
    rintro e w' ⟨he', hb⟩
    rw [decC_no hno]
    exact ⟨none, 0, none, 0, 71, he', Ro.nil _ _ _, Ro.nil _ _ _, (fun ad e => nomatch e), (fun ad e => nomatch e), hb⟩
/-- Decode of a layout, by what its bytes say -/
theorem ldec_u (bs : List UInt8) (n : Nat) (a : Option Addr) (c B : Nat) (w : World) (hn : bs.length = n) (hro : Ro w B a (u8s bs)) (hB : B ≤ w.heap.size) (hl : n ≤ 1000000) :
    Calls Tryz.prog 88 #[.slice a n c] w fun e w' => ∃ (T : LyT) (g : Int), e = .returned (.tuple #[T.val, .int .i64 g]) ∧ T.x = decL bs ∧ SgFit T.sg ∧ Sl w' w.heap.size (.slice T.a T.sg.length T.c) T.sg ∧ GwS w' w.heap.size T.sg ∧ Below w.heap.size w w' := by
  refine (ldecG_any bs n a c B w hn hro hB hl).mono ?_
  rintro e w' ⟨hb, ⟨T, h1, h2, h3, h4, h5, h6, h7, h8⟩ | ⟨h1, h2⟩⟩
  · exact ⟨T, 0, h1, by rw [decL_yes h2 h3]; exact h4, h6, h7, h8, hb⟩
  · exact ⟨⟨0, none, 0, [], 0⟩, 91, h1, by rw [decL_no h2]; rfl, ⟨by simp, (fun s hs => by cases hs)⟩, Sl.nil _ _, (fun s hs => by cases hs), hb⟩

/-- where the walk that reads a message stands: k bits read, the result in block w.heap.size, the message in block p -/
def Fr (w : World) (B s : Nat) (bs : List UInt8) (p k : Nat) (T : MgT) (W : World) : Prop := Src W 72 B s bs k ∧ Chg [s] w W ∧ Own W w.heap.size 40 zmT.cs ∧ Own W p 40 T.cs
theorem Fr.step {w : World} {B s p : Nat} {bs : List UInt8} {k k' : Nat} {T : MgT} {W W' : World} (h : Fr w B s bs p k T W) (hs : s < w.heap.size ∧ w.heap.size < p) (h1 : Src W' 72 B s bs k') (h2 : Chg [s] W W') : Fr w B s bs p k' T W' :=
  ⟨h1, h.2.1.trans h2, h.2.2.1.chg h2 (by simp; omega), h.2.2.2.chg h2 (by simp; omega)⟩
theorem Fr.below {w : World} {B s p : Nat} {bs : List UInt8} {k : Nat} {T : MgT} {W W' : World} (h : Fr w B s bs p k T W) (hb : Below W.heap.size W W') : Fr w B s bs p k T W' :=
  have hc : Chg [] W W' := (Chg.refl [] W).of_below hb
  ⟨h.1.new0 hc, h.2.1.trans (hc.nil1 [s]), h.2.2.1.chg hc (by simp), h.2.2.2.chg hc (by simp)⟩
theorem Fr.set {w : World} {B s p : Nat} {bs : List UInt8} {k : Nat} {T : MgT} {W : World} (h : Fr w B s bs p k T W) (hs : s < w.heap.size ∧ w.heap.size < p) (i : Nat) (v : Value) (T' : MgT) (e : T'.cs = T.cs.set i v) : Fr w B s bs p k T' (W.setCell ⟨p, i, none⟩ v) := by
  have hc : Chg [p] W (W.setCell ⟨p, i, none⟩ v) := (Chg.refl _ W).setCell (by simp) _
  have hB := h.1.2.1
  refine ⟨h.1.chg hc (by simp; omega) (fun x hx => by simp only [List.mem_singleton] at hx; subst hx; omega), h.2.1.then hc (fun x hx => by simp only [List.mem_singleton] at hx; subst hx; exact .inr (by omega)), h.2.2.1.chg hc (by simp; omega), ?_⟩
  rw [e]
  exact h.2.2.2.set i v
/-- three cells at once -/
theorem Fr.set3 {w : World} {B s p : Nat} {bs : List UInt8} {k : Nat} {T : MgT} {W : World} (h : Fr w B s bs p k T W) (hs : s < w.heap.size ∧ w.heap.size < p) (i : Nat) (v1 v2 v3 : Value) (T' : MgT) (e : T'.cs = ((T.cs.set i v1).set (i + 1) v2).set (i + 2) v3) : Fr w B s bs p k T' (((W.setCell ⟨p, i, none⟩ v1).setCell ⟨p, i + 1, none⟩ v2).setCell ⟨p, i + 2, none⟩ v3) := by
  have hc : Chg [p] W (((W.setCell ⟨p, i, none⟩ v1).setCell ⟨p, i + 1, none⟩ v2).setCell ⟨p, i + 2, none⟩ v3) := (((Chg.refl _ W).setCell (by simp) _).setCell (by simp) _).setCell (by simp) _
  have hB := h.1.2.1
  refine ⟨h.1.chg hc (by simp; omega) (fun x hx => by simp only [List.mem_singleton] at hx; subst hx; omega), h.2.1.then hc (fun x hx => by simp only [List.mem_singleton] at hx; subst hx; exact .inr (by omega)), h.2.2.1.chg hc (by simp; omega), ?_⟩
  rw [e]
  exact ((h.2.2.2.set i v1).set (i + 1) v2).set (i + 2) v3
theorem Fr.lt {w : World} {B s p x : Nat} {bs : List UInt8} {k : Nat} {T : MgT} {W : World} (h : Fr w B s bs p k T W) (hs : s < w.heap.size ∧ w.heap.size < p) (hx : x < w.heap.size) : ∀ y ∈ [x, s, w.heap.size, p], y < W.heap.size := by
  have := h.2.2.2.lt
  intro y hy
  simp only [List.mem_cons, List.not_mem_nil, or_false] at hy
  omega
/-- the slices of a message lie apart from the blocks of l -/
structure MgX (W : World) (base : Nat) (l : List Nat) (T : MgT) : Prop where
  d : RoX W l T.ca (u8s T.c.d)
  b : RoX W l T.ca2 (bcs T.c.b)
  st : RoX W l T.sa (i64s T.st)
  bk : RoX W l T.ka (bcs T.bk)
  sl : Sl W base (.slice T.ly.a T.ly.sg.length T.ly.c) T.ly.sg
  gw : GwS W base T.ly.sg
theorem MgX.inn {W : World} {base : Nat} {l : List Nat} {T : MgT} (h : MgX W base l T) : MgIn W W.heap.size T := ⟨h.d.ro, h.b.ro, h.st.ro, h.bk.ro, h.sl.ro, h.gw.inn⟩
theorem MgX.own {W W' : World} {base b : Nat} {l l' : List Nat} {T : MgT} {cs : List Value} (h : MgX W base l T) (hc : Chg [b] W W') (hb : b ∈ l) (ho : Own W b 40 cs) (hl : ∀ x ∈ l', x ∈ l) : MgX W' base l' T := by
  have hc' : Chg l W W' := hc.mono (fun x hx => by simp only [List.mem_singleton] at hx; subst hx; exact .inl hb)
  exact ⟨(h.d.chg hc').mono hl, (h.b.chg hc').mono hl, (h.st.chg hc').mono hl, (h.bk.chg hc').mono hl, h.sl.chg hc (ho.notT' (by decide)), h.gw.chg hc (ho.notT' (by decide)) (ho.notT' (by decide))⟩
theorem MgX.below {W W' : World} {base : Nat} {l : List Nat} {T : MgT} (h : MgX W base l T) (hb : Below W.heap.size W W') : MgX W' base l T := by
  have hc : Chg [] W W' := (Chg.refl [] W).of_below hb
  have hc' : Chg l W W' := hc.mono (fun x hx => by cases hx)
  exact ⟨h.d.chg hc', h.b.chg hc', h.st.chg hc', h.bk.chg hc', h.sl.chg hc (by simp), h.gw.chg hc (by simp) (by simp)⟩
end Go.Proofs.YtdpaofedepnnbaaGreat
namespace Go.Proofs.YtdpaofedepnnbaaGreat
open Go.RowKit Go.Deep
set_option linter.unusedVariables false
set_option linter.unusedSimpArgs false

theorem pBk_fit (bs : List UInt8) (k : Nat) : FitB (pB bs k).1 := by
  have h1 := tkN_lt bs k 4
  have h2 := tkN_lt bs (k + 4) 21
  have h3 := tkN_lt bs (k + 4 + 21) 21
  unfold pB FitB lst
  simp only
  refine ⟨by omega, by omega, ?_, ?_⟩
  · split <;> omega
  · split <;> omega
theorem pBks_fit (bs : List UInt8) (k : Nat) : (pBks bs k).1.length ≤ 32 ∧ (∀ b ∈ (pBks bs k).1, FitB b) ∧ (pBks bs k).2 ≤ k + 2000 := by
  have h1 := tkN_lt bs k 5
  refine ⟨?_, rep_mem (P := FitB) (pBk_fit bs) _ _, ?_⟩
  · unfold pBks; rw [rep_length]; omega
  · unfold pBks; rw [pB_at]; omega
theorem pSt_fit (bs : List UInt8) (k : Nat) : (pSt bs k).1.length ≤ 8 ∧ (pSt bs k).2 ≤ k + 100 := by
  have h1 := tkN_lt bs k 3
  refine ⟨?_, ?_⟩
  · unfold pSt; rw [rep_length]; omega
  · unfold pSt; rw [pS_at]; omega
theorem pBy_fit (bs : List UInt8) (k : Nat) : (pBy bs k).1.length ≤ 256 ∧ (pBy bs k).2 ≤ k + 4000 := by
  have h1 := tkN_lt bs k 8
  refine ⟨?_, ?_⟩
  · unfold pBy; rw [rep_length]; omega
  · unfold pBy; rw [pY_at]; omega
set_option maxHeartbeats 4000000 in
set_option maxRecDepth 100000 in
theorem messageF_any (bs : List UInt8) (B s x : Nat) (w : World) (h : Src w 72 B s bs 0) (hx : x < w.heap.size) :
    Calls Tryz.prog 31 #[nv s] w fun e w' => ∃ T : MgT, e = .returned (.agg T.cs.toArray) ∧ T.x = pMg bs ∧ MgFit T ∧ MgX w' w.heap.size [x] T ∧ Chg [s] w w' := by
  have eg := egT
  obtain ⟨W, HWW⟩ : ∃ W, Hid (w.alloc (.cells #[.int .i64 0, .int .i64 0, .int .i64 0, .int .i64 0, .int .i64 0, .int .i64 0, .int .i64 0, .int .u64 0, .int .u64 0, .int .i64 0, .int .i64 0, .slice none 0 0, .slice none 0 0, .slice none 0 0, .slice none 0 0, .int .i64 0, .int .i64 0, .int .i64 0, .int .i64 0, .int .u64 0, .slice none 0 0, .int .i64 0] 40) = W) := ⟨_, Lib.hid rfl⟩
  have hWc : Chg [] w W := by rw [← HWW.out]; exact (Chg.refl [] w).alloc _
  have hO : Own W w.heap.size 40 zmT.cs := by rw [← HWW.out]; exact Own.new w _ zmT.cs
  have HZ := Lib.hid h.lt
  have HXL := Lib.hid hx
  have HO := Lib.hid (And.intro (hWc.nil1 [s]) hO)
  have H1 := Lib.hid (mheadF_any bs B s W (h.new0 hWc))
  have f1 := pSt_fit bs 130
  have f2 := pBks_fit bs (pSt bs 130).2
  have f3 := pBy_fit bs (pBks bs (pSt bs 130).2).2
  have f4 := pBy_fit bs (pBy bs (pBks bs (pSt bs 130).2).2).2
  have HPM : Hid (pMg bs = { (hdT bs).x with st := (pSt bs 130).1, bk := (pBks bs (pSt bs 130).2).1, c := decC (pBy bs (pBks bs (pSt bs 130).2).2).1, ly := decL (pBy bs (pBy bs (pBks bs (pSt bs 130).2).2).2).1 }) := Lib.hid rfl
  have HS2 := Lib.hid (fun (W : World) (hs : Src W 72 B s bs 130) => mstreamsF_any bs B s 130 W hs (by omega))
  have HS3 := Lib.hid (fun (W : World) (hs : Src W 72 B s bs (pSt bs 130).2) => mbacksF_any bs B s (pSt bs 130).2 W hs (by omega))
  have HS4 := Lib.hid (fun (W : World) (hs : Src W 72 B s bs (pBks bs (pSt bs 130).2).2) => mbytesF_any bs B s (pBks bs (pSt bs 130).2).2 W hs (by omega))
  have HS5 := Lib.hid (fun (W : World) (hs : Src W 72 B s bs (pBy bs (pBks bs (pSt bs 130).2).2).2) => mbytesF_any bs B s (pBy bs (pBks bs (pSt bs 130).2).2).2 W hs (by omega))
  generalize pBy bs (pBy bs (pBks bs (pSt bs 130).2).2).2 = y4 at *
  generalize pBy bs (pBks bs (pSt bs 130).2).2 = y3 at *
  generalize pBks bs (pSt bs 130).2 = y2 at *
  generalize pSt bs 130 = y1 at *
  obtain ⟨st, k1⟩ := y1
  obtain ⟨bk, k2⟩ := y2
  obtain ⟨cb, k3⟩ := y3
  obtain ⟨lb, k4⟩ := y4
  simp only at f1 f2 f3 f4 HPM HS2 HS3 HS4 HS5
  have HF1 := Lib.hid f1.1
  have HF2 := Lib.hid (And.intro f2.1 f2.2.1)
  have HF3 := Lib.hid f3.1
  have HF4 := Lib.hid f4.1
  generalize hdT bs = T0 at *
  clear h hx hWc hO f1 f2 f3 f4
  obtain ⟨n1, hn1⟩ : ∃ n1, st.length = n1 := ⟨_, rfl⟩
  obtain ⟨n2, hn2⟩ : ∃ n2, bk.length = n2 := ⟨_, rfl⟩
  obtain ⟨n3, hn3⟩ : ∃ n3, cb.length = n3 := ⟨_, rfl⟩
  obtain ⟨n4, hn4⟩ : ∃ n4, lb.length = n4 := ⟨_, rfl⟩
  rw [hn1] at HS2
  rw [hn2] at HS3
  rw [hn3] at HS4
  rw [hn4] at HS5
  have HN := Lib.hid (And.intro hn1 (And.intro hn2 (And.intro hn3 hn4)))
  clear hn1 hn2 hn3 hn4
  go_enter Tryz.func31, Tryz.ntmps31
  go_upto_region 1 with fail
  rw [HWW.out]
  go_wp2_with fail
  refine H1.out.mono ?_
  rintro e w1 ⟨rfl, h1, h2⟩
  have HH := Lib.hid (And.intro h1 h2)
  clear h1 h2
  go_wp2_with (refine wpList_storeMg rfl (.tmp 3) (.tmp 5) rfl w1.heap.size rfl T0 rfl zmT.cs (Own.new w1 _ zmT.cs) rfl ?_)
  intro W2 ho hc
  obtain ⟨p, hp⟩ : ∃ p, w1.heap.size = p := ⟨_, rfl⟩
  rw [hp] at ho hc ⊢
  have HPW : Hid (s < w.heap.size ∧ w.heap.size < p) := Lib.hid (by have := HO.out.2.lt; have := HH.out.2.size; have := HZ.out; omega)
  have hF : Fr w B s bs p 130 T0 W2 := by
    have ha : Chg [] w1 (w1.alloc (.cells zmT.cs.toArray 40)) := (Chg.refl [] w1).alloc _
    have hb : Chg [] w1 W2 := ha.then hc (fun x hx => by simp only [List.mem_singleton] at hx; subst hx; exact .inr (by omega))
    exact ⟨HH.out.1.new0 hb, (HO.out.1.trans HH.out.2).trans (hb.nil1 [s]), (HO.out.2.chg HH.out.2 (by have := HZ.out; simp; omega)).chg hb (by simp), ho⟩
  have F2 := Lib.hid hF
  clear ho hc hp hF HH
  go_wp2_with fail
  refine (HS2.out W2 F2.out.1).mono ?_
  rintro e w3 ⟨sa, sc, rfl, h1, h2, h3⟩
  have F3 := Lib.hid (F2.out.step HPW.out h2 h3)
  have HL3 := Lib.hid (F2.out.lt HPW.out HXL.out)
  have R3 : Hid (RoX w3 [x, s, w.heap.size, p] sa (i64s st)) := Lib.hid (h1.apart2 (fun y hy => .inl (HL3.out y hy)))
  clear h1 h2 h3
  have c1 : w3.cell? ⟨p, 13, none⟩ = some (T0.cs.getD 13 undef) := F3.out.2.2.2.cell 13
  have f1 := F3.out.2.2.2.frozen 13
  have z1 := F3.out.2.2.2.lt
  go_upto_region 3 with fail
  obtain ⟨W3, hW3⟩ : ∃ W3, w3.setCell ⟨p, 13, none⟩ (.slice sa n1 sc) = W3 := ⟨_, rfl⟩
  obtain ⟨T1, hT1⟩ : ∃ T1 : MgT, { T0 with st := st, sa := sa, sc := sc } = T1 := ⟨_, rfl⟩
  have G3 := Lib.hid (F3.out.set HPW.out 13 (.slice sa n1 sc) T1 (by rw [← hT1, ← HN.out.1]; rfl))
  have R3' := Lib.hid (R3.out.chg ((Chg.refl _ w3).setCell (p := ⟨p, 13, none⟩) (.inl (by simp)) (.slice sa n1 sc)))
  rw [hW3] at G3 R3' ⊢
  have HT1 := Lib.hid hT1
  clear hW3 hT1 c1 f1 z1
  go_wp2_with fail
  refine (HS3.out W3 G3.out.1).mono ?_
  rintro e w4 ⟨ka, kc, rfl, h1, h2, h3⟩
  have F4 := Lib.hid (G3.out.step HPW.out h2 h3)
  have HL4 := Lib.hid (G3.out.lt HPW.out HXL.out)
  have R4 : Hid (RoX w4 [x, s, w.heap.size, p] sa (i64s st) ∧ RoX w4 [x, s, w.heap.size, p] ka (bcs bk)) := Lib.hid ⟨R3'.out.chg (h3.mono (fun y hy => by simp only [List.mem_singleton] at hy; subst hy; exact .inl (by simp))), h1.apart HL4.out⟩
  clear h1 h2 h3
  have c1 : w4.cell? ⟨p, 14, none⟩ = some (T1.cs.getD 14 undef) := F4.out.2.2.2.cell 14
  have f1 := F4.out.2.2.2.frozen 14
  have z1 := F4.out.2.2.2.lt
  go_upto_region 4 with fail
  obtain ⟨W4, hW4⟩ : ∃ W4, w4.setCell ⟨p, 14, none⟩ (.slice ka n2 kc) = W4 := ⟨_, rfl⟩
  obtain ⟨T2, hT2⟩ : ∃ T2 : MgT, { T1 with bk := bk, ka := ka, kc := kc } = T2 := ⟨_, rfl⟩
  have G4 := Lib.hid (F4.out.set HPW.out 14 (.slice ka n2 kc) T2 (by rw [← hT2, ← HN.out.2.1]; rfl))
  have k4 : Chg [x, s, w.heap.size, p] w4 (w4.setCell ⟨p, 14, none⟩ (.slice ka n2 kc)) := (Chg.refl _ w4).setCell (p := ⟨p, 14, none⟩) (.inl (by simp)) _
  have R4' := Lib.hid (And.intro (R4.out.1.chg k4) (R4.out.2.chg k4))
  rw [hW4] at G4 R4' ⊢
  have HT2 := Lib.hid hT2
  clear hW4 hT2 k4 c1 f1 z1
  go_wp2_with fail
  refine (HS4.out W4 G4.out.1).mono ?_
  rintro e w5 ⟨da, dc, rfl, h1, h2, h3⟩
  have F5 := Lib.hid (G4.out.step HPW.out h2 h3)
  have k5 : Chg [x, s, w.heap.size, p] W4 w5 := h3.mono (fun y hy => by simp only [List.mem_singleton] at hy; subst hy; exact .inl (by simp))
  have R5 := Lib.hid (And.intro (R4'.out.1.chg k5) (R4'.out.2.chg k5))
  have HCD : Hid (Calls Tryz.prog 86 #[.slice da n3 dc] w5 fun e w' => ∃ a1 c1 a2 c2 g, e = .returned (.tuple #[cev (decC cb).k a1 (decC cb).d.length c1 a2 (decC cb).b.length c2, .int .i64 g]) ∧ Ro w' w'.heap.size a1 (u8s (decC cb).d) ∧ Ro w' w'.heap.size a2 (bcs (decC cb).b) ∧ Frs w5 a1 ∧ Frs w5 a2 ∧ Below w5.heap.size w5 w') := Lib.hid (by
    obtain ⟨a', c', he, hro, hcl, _⟩ := h1.form
    injection he with g1 g2 g3
    subst g1
    subst g3
    exact cdec_u cb n3 da dc w5.heap.size w5 HN.out.2.2.1 hro (Nat.le_refl _) (by rw [g2]; simpa [u8s] using hcl) h1.cap (by have := HF3.out; have := HN.out.2.2.1; omega))
  clear h1 h2 h3 k5
  have HDF := Lib.hid (decC_fit cb)
  generalize decC cb = ce at *
  obtain ⟨m1, hm1⟩ : ∃ m1, ce.d.length = m1 := ⟨_, rfl⟩
  obtain ⟨m2, hm2⟩ : ∃ m2, ce.b.length = m2 := ⟨_, rfl⟩
  rw [hm1, hm2] at HCD
  have HM := Lib.hid (And.intro hm1 hm2)
  clear hm1 hm2
  go_wp2_with fail
  refine HCD.out.mono ?_
  rintro e w6 ⟨a1, c1, a2, c2, g6, rfl, h1, h2, h3, h4, h5⟩
  have F6 := Lib.hid (F5.out.below h5)
  have HL5 := Lib.hid (F5.out.lt HPW.out HXL.out)
  have k6 : Chg [x, s, w.heap.size, p] w5 w6 := (Chg.refl _ w5).of_below h5
  have R6 := Lib.hid (And.intro (R5.out.1.chg k6) (And.intro (R5.out.2.chg k6) (And.intro (Frs.apart h1 h3 HL5.out) (Frs.apart h2 h4 HL5.out))))
  clear h1 h2 h3 h4 h5 k6
  have d10 : w6.cell? ⟨p, 10, none⟩ = some (T2.cs.getD 10 undef) := F6.out.2.2.2.cell 10
  have d11 : w6.cell? ⟨p, 11, none⟩ = some (T2.cs.getD 11 undef) := F6.out.2.2.2.cell 11
  have d12 : w6.cell? ⟨p, 12, none⟩ = some (T2.cs.getD 12 undef) := F6.out.2.2.2.cell 12
  have f10 := F6.out.2.2.2.frozen 10
  have f11 := F6.out.2.2.2.frozen 11
  have f12 := F6.out.2.2.2.frozen 12
  have z1 := F6.out.2.2.2.lt
  go_upto_region 5 with fail
  obtain ⟨W6, hW6⟩ : ∃ W6, ((w6.setCell ⟨p, 10, none⟩ (.int .i64 ce.k)).setCell ⟨p, 11, none⟩ (.slice a1 m1 c1)).setCell ⟨p, 12, none⟩ (.slice a2 m2 c2) = W6 := ⟨_, rfl⟩
  obtain ⟨T3, hT3⟩ : ∃ T3 : MgT, { T2 with c := ce, ca := a1, cc := c1, ca2 := a2, cc2 := c2 } = T3 := ⟨_, rfl⟩
  have G6 := Lib.hid (F6.out.set3 HPW.out 10 (.int .i64 ce.k) (.slice a1 m1 c1) (.slice a2 m2 c2) T3 (by rw [← hT3, ← HM.out.1, ← HM.out.2]; rfl))
  have k6 : Chg [x, s, w.heap.size, p] w6 (((w6.setCell ⟨p, 10, none⟩ (.int .i64 ce.k)).setCell ⟨p, 11, none⟩ (.slice a1 m1 c1)).setCell ⟨p, 12, none⟩ (.slice a2 m2 c2)) := (((Chg.refl _ w6).setCell (p := ⟨p, 10, none⟩) (.inl (by simp)) _).setCell (p := ⟨p, 11, none⟩) (.inl (by simp)) _).setCell (p := ⟨p, 12, none⟩) (.inl (by simp)) _
  have R6' := Lib.hid (And.intro (R6.out.1.chg k6) (And.intro (R6.out.2.1.chg k6) (And.intro (R6.out.2.2.1.chg k6) (R6.out.2.2.2.chg k6))))
  rw [hW6] at G6 R6' ⊢
  have HT3 := Lib.hid hT3
  clear hW6 hT3 k6 d10 d11 d12 f10 f11 f12 z1
  go_wp2_with fail
  refine (HS5.out W6 G6.out.1).mono ?_
  rintro e w7 ⟨ba, bc, rfl, h1, h2, h3⟩
  have F7 := Lib.hid (G6.out.step HPW.out h2 h3)
  have k7 : Chg [x, s, w.heap.size, p] W6 w7 := h3.mono (fun y hy => by simp only [List.mem_singleton] at hy; subst hy; exact .inl (by simp))
  have R7 := Lib.hid (And.intro (R6'.out.1.chg k7) (And.intro (R6'.out.2.1.chg k7) (And.intro (R6'.out.2.2.1.chg k7) (R6'.out.2.2.2.chg k7))))
  have HLD : Hid (Calls Tryz.prog 88 #[.slice ba n4 bc] w7 fun e w' => ∃ (T : LyT) (g : Int), e = .returned (.tuple #[T.val, .int .i64 g]) ∧ T.x = decL lb ∧ SgFit T.sg ∧ Sl w' w7.heap.size (.slice T.a T.sg.length T.c) T.sg ∧ GwS w' w7.heap.size T.sg ∧ Below w7.heap.size w7 w') := Lib.hid (by
    obtain ⟨a', c', he, hro, hcl, _⟩ := h1.form
    injection he with g1 g2 g3
    subst g1
    exact ldec_u lb n4 ba bc w7.heap.size w7 HN.out.2.2.2 hro (Nat.le_refl _) (by have := HF4.out; have := HN.out.2.2.2; omega))
  clear h1 h2 h3 k7
  go_wp2_with fail
  refine HLD.out.mono ?_
  rintro e w8 ⟨⟨le, la, lc, L, lq⟩, g8, rfl, h1, h2, h3, h4, h5⟩
  simp only [LyT.val] at h3 h4 ⊢
  obtain ⟨m3, hm3⟩ : ∃ m3, L.length = m3 := ⟨_, rfl⟩
  rw [hm3] at h3 ⊢
  have HM3 := Lib.hid hm3
  have HLX := Lib.hid (And.intro h1 h2)
  have F8 := Lib.hid (F7.out.below h5)
  have k8 : Chg [x, s, w.heap.size, p] w7 w8 := (Chg.refl _ w7).of_below h5
  have R8 := Lib.hid (And.intro (R7.out.1.chg k8) (And.intro (R7.out.2.1.chg k8) (And.intro (R7.out.2.2.1.chg k8) (R7.out.2.2.2.chg k8))))
  have S8 := Lib.hid (And.intro (h3.base F7.out.2.1.size) (h4.base F7.out.2.1.size))
  clear h1 h2 h3 h4 h5 k8 hm3
  have d19 : w8.cell? ⟨p, 19, none⟩ = some (T3.cs.getD 19 undef) := F8.out.2.2.2.cell 19
  have d20 : w8.cell? ⟨p, 20, none⟩ = some (T3.cs.getD 20 undef) := F8.out.2.2.2.cell 20
  have d21 : w8.cell? ⟨p, 21, none⟩ = some (T3.cs.getD 21 undef) := F8.out.2.2.2.cell 21
  have f19 := F8.out.2.2.2.frozen 19
  have f20 := F8.out.2.2.2.frozen 20
  have f21 := F8.out.2.2.2.frozen 21
  have z1 := F8.out.2.2.2.lt
  go_upto_region 6 with fail
  obtain ⟨W8, hW8⟩ : ∃ W8, ((w8.setCell ⟨p, 19, none⟩ (.int .u64 (le : Int))).setCell ⟨p, 20, none⟩ (.slice la m3 lc)).setCell ⟨p, 21, none⟩ (.int .i64 lq) = W8 := ⟨_, rfl⟩
  obtain ⟨T4, hT4⟩ : ∃ T4 : MgT, { T3 with ly := ⟨le, la, lc, L, lq⟩ } = T4 := ⟨_, rfl⟩
  have G8 := Lib.hid (F8.out.set3 HPW.out 19 (.int .u64 (le : Int)) (.slice la m3 lc) (.int .i64 lq) T4 (by rw [← hT4, ← HM3.out]; rfl))
  have kp : Chg [p] w8 (((w8.setCell ⟨p, 19, none⟩ (.int .u64 (le : Int))).setCell ⟨p, 20, none⟩ (.slice la m3 lc)).setCell ⟨p, 21, none⟩ (.int .i64 lq)) := (((Chg.refl _ w8).setCell (p := ⟨p, 19, none⟩) (.inl (by simp)) _).setCell (p := ⟨p, 20, none⟩) (.inl (by simp)) _).setCell (p := ⟨p, 21, none⟩) (.inl (by simp)) _
  have hX8 : MgX w8 w.heap.size [x, s, w.heap.size, p] T4 := by
    rw [← hT4, ← HT3.out, ← HT2.out, ← HT1.out]
    exact ⟨R8.out.2.2.1, R8.out.2.2.2, R8.out.1, R8.out.2.1, by simp only [HM3.out]; exact S8.out.1, S8.out.2⟩
  have X8 := Lib.hid (hX8.own (l' := [x, s, w.heap.size, p]) kp (by simp) F8.out.2.2.2 (fun y hy => hy))
  have HFT : Hid (T4.x = pMg bs ∧ MgFit T4) := Lib.hid (by
    rw [← hT4, ← HT3.out, ← HT2.out, ← HT1.out, HPM.out, ← HLX.out.1]
    refine ⟨rfl, ⟨?_, ?_, ?_, ?_, HLX.out.2, HDF.out.2.2, HF2.out.2⟩⟩
    · have := HDF.out.1; simp only; omega
    · have := HDF.out.2.1; simp only; omega
    · have := HF1.out; simp only; omega
    · have := HF2.out.1; simp only; omega)
  rw [hW8] at G8 X8 ⊢
  clear hW8 hT4 kp hX8 d19 d20 d21 f19 f20 f21 z1
  go_wp2_with (first | refine wpList_loadMg rfl (.tmp 3) rfl p rfl T4 G8.out.2.2.2 ?_ | refine wpList_storeMg rfl (.tmp 2) (.tmp 26) rfl w.heap.size rfl T4 rfl zmT.cs G8.out.2.2.1 rfl ?_)
  intro w9 ho hc
  have HO9 := Lib.hid ho
  have X9 := Lib.hid (X8.out.own (l' := [x]) hc (by simp) G8.out.2.2.1 (fun y hy => by simp only [List.mem_singleton] at hy; subst hy; simp))
  have HC9 := Lib.hid (G8.out.2.1.then hc (fun y hy => by simp only [List.mem_singleton] at hy; subst hy; exact .inr (Nat.le_refl _)))
  clear ho hc
  go_wp2_with fail
  refine bodyPost_ret (results_cell_row Tryz.results31 _ _ w.heap.size 40 _ (0, 0) _ rfl HO9.out Tryz.underlying40 rfl (by kernel_rfl)) rfl ?_
  exact ⟨T4, rfl, HFT.out.1, HFT.out.2, X9.out, HC9.out⟩
end Go.Proofs.YtdpaofedepnnbaaGreat
namespace Go.Proofs.YtdpaofedepnnbaaGreat
open Go.RowKit Go.Deep Go.Shelf
set_option linter.unusedVariables false
set_option linter.unusedSimpArgs false

theorem results_row_tmp {P : Program} {fn : Func} {p u : Tmp} {ty : TypeId} (h : fn.results = #[.cell p ty, .tmp u]) (tmps : Array Value) (w : World) (g : Nat) (t : TypeId) (cs : Array Value) (fr : Nat × Nat) (d : TypeDesc)
    (hp : tmps.getD p undef = .pointer (some ⟨g, 0, none⟩)) (hg : w.heap[g]? = some (.cells cs t fr))
    (hu : P.underlying ty = some d) (hd : (match d with | .struct _ | .array _ _ => true | _ => false) = true) (hi : (P.info? ty).map (·.size) = some cs.size) :
    (results fn tmps).run P w = .ok (.tuple #[.agg cs, tmps.getD u undef]) w := by
  have hp' : tmps[p]?.getD undef = .pointer (some ⟨g, 0, none⟩) := by simpa using hp
  simp [results, h, hp', asAddr, run_loadVar_row w g t ty cs fr d hg hu hd hi]

/-- what Decode tells, in one form -/
structure MU (w : World) (bs : List UInt8) (w' : World) (ok : Bool) (g : Int) (T : MgT) : Prop where
  below : Below w.heap.size w w'
  code : (g == 0) = ok
  yes : ok = true → mright (pMg bs) = true ∧ IsME (pMg bs) bs ∧ T.x = pMg bs
  no : ok = false → g = 101 ∧ ∀ x, mright x = true → ¬ IsME x bs
  inn : MgIn w' w'.heap.size T
  fit : MgFit T
theorem zmT_fit : MgFit zmT := ⟨by simp [zmT, noC], by simp [zmT, noC], by simp [zmT], by simp [zmT], ⟨by simp [zmT], (fun s hs => by cases hs)⟩, (fun s hs => by cases hs), (fun s hs => by cases hs)⟩
theorem zmT_in (w : World) (B : Nat) : MgIn w B zmT := ⟨Ro.nil _ _ _, Ro.nil _ _ _, Ro.nil _ _ _, Ro.nil _ _ _, Ro.nil _ _ _, fun s hs => by cases hs⟩
theorem noME_of {bs : List UInt8} (h : mright (pMg bs) = true → ¬ IsME (pMg bs) bs) : ∀ x, mright x = true → ¬ IsME x bs := fun x hr he => by
  have := pMg_enc' hr he
  rw [this] at h
  exact h hr he
/-- what Encode tells, in one form -/
structure MEU (w : World) (x : Mg) (w' : World) (ok : Bool) (g : Int) (a : Option Addr) (cs : List UInt8) : Prop where
  below : Below w.heap.size w w'
  code : (g != 0) = !ok
  yes : ok = true → mright x = true ∧ IsME x cs
  no : ok = false → g = 101 ∧ mright x = false ∧ cs = []
  ro : Ro w' w'.heap.size a (u8s cs)
  nn : ok = true → a ≠ none
theorem menc_u (A : MgT) (B : Nat) (w : World) (h : MgIn w B A) (hB : B ≤ w.heap.size) (hf : MgFit A) :
    Calls Tryz.prog 7 #[.agg A.cs.toArray] w fun e w' => ∃ ok g a cs, e = .returned (.tuple #[.slice a cs.length cs.length, .int .i64 g]) ∧ MEU w A.x w' ok g a cs := by
  cases hr : mright A.x with
  | false =>
    refine (menc_no A B w h hB hf hr).mono ?_
    rintro e w' ⟨rfl, hb⟩
    exact ⟨false, 101, none, [], rfl, hb, by decide, (fun h => by cases h), fun _ => ⟨rfl, hr, rfl⟩, Ro.nil _ _ _, fun h => by cases h⟩
  | true =>
    refine (menc_yes A B w h hB hf hr).mono ?_
    rintro e w' ⟨g, cs, rfl, _, he, ho, hb⟩
    exact ⟨true, 0, _, cs, rfl, hb, by decide, fun _ => ⟨hr, he⟩, (fun h => by cases h), ho.ro _ ho.lt, fun _ h => by cases h⟩
set_option maxHeartbeats 4000000 in
set_option maxRecDepth 100000 in
theorem mdec_any (bs : List UInt8) (n : Nat) (a : Option Addr) (c B : Nat) (w : World) (hn : bs.length = n) (hro : Ro w B a (u8s bs)) (hB : B ≤ w.heap.size) (hl : n ≤ 1000000) :
    Calls Tryz.prog 9 #[.slice a n c] w fun e w' => ∃ ok g T, e = .returned (.tuple #[.agg T.cs.toArray, .int .i64 g]) ∧ MU w bs w' ok g T := by
  obtain ⟨W, HWW⟩ : ∃ W, Hid (w.alloc (.cells #[.int .i64 0, .int .i64 0, .int .i64 0, .int .i64 0, .int .i64 0, .int .i64 0, .int .i64 0, .int .u64 0, .int .u64 0, .int .i64 0, .int .i64 0, .slice none 0 0, .slice none 0 0, .slice none 0 0, .slice none 0 0, .int .i64 0, .int .i64 0, .int .i64 0, .int .i64 0, .int .u64 0, .slice none 0 0, .int .i64 0] 40) = W) := ⟨_, Lib.hid rfl⟩
  obtain ⟨W2, HW2⟩ : ∃ W2, Hid (W.alloc (.cells #[.slice a n c, .int .i64 0] 72) = W2) := ⟨_, Lib.hid rfl⟩
  have hWc : Chg [] w W := by rw [← HWW.out]; exact (Chg.refl [] w).alloc _
  have hWc2 : Chg [] w W2 := by rw [← HW2.out]; exact hWc.alloc _
  have hs : W.heap.size = w.heap.size + 1 := by rw [← HWW.out]; simp
  have o1 : Own W w.heap.size 40 zmT.cs := by rw [← HWW.out]; exact Own.new w _ zmT.cs
  have HO1 : Hid (Own W2 w.heap.size 40 zmT.cs) := Lib.hid (by rw [← HW2.out]; exact o1.alloc _)
  have HSRC : Hid (Src W2 72 B (w.heap.size + 1) bs 0) := Lib.hid ⟨⟨a, c, by rw [hn, ← hs, ← HW2.out]; exact Own.new W _ _, hro.below hWc2.low hB⟩, by omega, by omega⟩
  have HC2 := Lib.hid hWc2
  have HRO := Lib.hid hro
  have HBW := Lib.hid hB
  have HN := Lib.hid hn
  have HS := Lib.hid hs
  have HNoB := Lib.hid (@noME_of bs)
  clear hWc hWc2 hs o1 hro hB hn
  go_enter Tryz.func9, Tryz.ntmps9
  go_upto_region 1 with fail
  rw [HWW.out]
  go_upto_region 2 with fail
  rw [HW2.out, HS.out]
  go_wp2_with fail
  refine (messageF_any bs B (w.heap.size + 1) w.heap.size W2 HSRC.out (by have := HO1.out.lt; omega)).mono ?_
  rintro e w1 ⟨T, rfl, hx, hf, h1, h2⟩
  have HC1 := Lib.hid ((HC2.out.nil1 [w.heap.size + 1]).trans h2)
  have HO2 := Lib.hid (HO1.out.chg h2 (by simp))
  have HX := Lib.hid hx
  have HF := Lib.hid hf
  have HT1 := Lib.hid h1
  clear h1 h2 hx hf
  go_wp2_with (refine wpList_storeMg rfl (.tmp 5) (.tmp 11) rfl w1.heap.size rfl T rfl zmT.cs (Own.new w1 _ zmT.cs) rfl ?_)
  intro W3 ho hc
  have hb13 : Chg [] w1 W3 := ((Chg.refl [] w1).alloc _).then hc (fun x hx => by simp only [List.mem_singleton] at hx; subst hx; exact .inr (Nat.le_refl _))
  have HM3 := Lib.hid (HT1.out.below hb13.low)
  have HC3 : Hid (Below w.heap.size w W3) := Lib.hid ((HC1.out.below (Nat.le_refl _) (by simp)).trans (hb13.low.mono HC1.out.size))
  have HO3 := Lib.hid (HO2.out.chg hb13 (by simp))
  obtain ⟨p, hp⟩ : ∃ p, w1.heap.size = p := ⟨_, rfl⟩
  rw [hp] at ho ⊢
  have HP3 := Lib.hid ho
  have HEN := Lib.hid (menc_u T W3.heap.size W3 HM3.out.inn (Nat.le_refl _) HF.out)
  clear ho hc hb13 hp
  go_wp2_with (refine wpList_loadMg rfl (.tmp 5) rfl p rfl T HP3.out ?_)
  refine HEN.out.mono ?_
  rintro e w4 ⟨ok, g, a4, cs, rfl, hE⟩
  have HE := Lib.hid hE
  have e4 := hE.code
  have HM4 := Lib.hid (HM3.out.below hE.below)
  have HB4 := Lib.hid (HC3.out.trans (hE.below.mono HC3.out.size))
  have HO4 := Lib.hid (HO3.out.below hE.below HO3.out.lt)
  have HP4 := Lib.hid (HP3.out.below hE.below HP3.out.lt)
  obtain ⟨nc, hnc⟩ : ∃ nc, cs.length = nc := ⟨_, rfl⟩
  have HEQ := Lib.hid (bytesEqual_any cs bs nc n a4 a nc c w4.heap.size w4 hnc HN.out hE.ro ((HRO.out.below HB4.out HBW.out).mono (Nat.le_trans HBW.out HB4.out.size)))
  rw [hnc]
  clear hE hnc
  cases ok with
  | false =>
    have e5 : (g != 0) = true := e4
    clear e4
    go_wp2_with (refine wpList_storeMg rfl (.tmp 2) (.tmp 25) rfl w.heap.size rfl zmT rfl zmT.cs HO4.out rfl ?_)
    intro w5 ho hc
    have HO5 := Lib.hid ho
    have HC5 : Hid (Below w.heap.size w w5) := Lib.hid (HB4.out.trans (hc.below HB4.out.size (by simp)))
    clear ho hc
    go_wp2_with fail
    refine bodyPost_ret (results_row_tmp Tryz.results9 _ _ w.heap.size 40 _ (0, 0) _ rfl HO5.out Tryz.underlying40 rfl (by kernel_rfl)) rfl ?_
    exact ⟨false, 101, zmT, rfl, HC5.out, by decide, (fun h => by cases h), (fun _ => ⟨rfl, HNoB.out (fun h => by have := (HE.out.no rfl).2.1; rw [HX.out, h] at this; cases this)⟩), zmT_in _ _, zmT_fit⟩
  | true =>
    have e5 : (g != 0) = false := e4
    clear e4
    by_cases heq : cs = bs
    · have hE : decide (cs = bs) = true := by simpa using heq
      rw [hE] at HEQ
      have HEQ2 := Lib.hid heq
      clear heq hE
      go_wp2_with fail
      refine HEQ.out.mono ?_
      rintro e w5 ⟨rfl, rfl⟩
      go_wp2_with (first | refine wpList_loadMg rfl (.tmp 5) rfl p rfl T HP4.out ?_ | refine wpList_storeMg rfl (.tmp 2) (.tmp 26) rfl w.heap.size rfl T rfl zmT.cs HO4.out rfl ?_)
      intro w6 ho hc
      have HO6 := Lib.hid ho
      have HM6 := Lib.hid (HM4.out.own (l' := []) hc (by simp) HO4.out (fun x hx => by cases hx))
      have HC6 : Hid (Below w.heap.size w w6) := Lib.hid (HB4.out.trans (hc.below HB4.out.size (by simp)))
      clear ho hc
      go_wp2_with fail
      refine bodyPost_ret (results_row_tmp Tryz.results9 _ _ w.heap.size 40 _ (0, 0) _ rfl HO6.out Tryz.underlying40 rfl (by kernel_rfl)) rfl ?_
      obtain ⟨y1, y2⟩ := HE.out.yes rfl
      rw [HX.out, HEQ2.out] at y2
      rw [HX.out] at y1
      exact ⟨true, 0, T, rfl, HC6.out, by decide, fun _ => ⟨y1, y2, HX.out⟩, (fun h => by cases h), HM6.out.inn, HF.out⟩
    · have hE : decide (cs = bs) = false := by simpa using heq
      rw [hE] at HEQ
      have HEQ2 := Lib.hid heq
      clear heq hE
      go_wp2_with fail
      refine HEQ.out.mono ?_
      rintro e w5 ⟨rfl, rfl⟩
      go_wp2_with (refine wpList_storeMg rfl (.tmp 2) (.tmp 25) rfl w.heap.size rfl zmT rfl zmT.cs HO4.out rfl ?_)
      intro w6 ho hc
      have HO6 := Lib.hid ho
      have HC6 : Hid (Below w.heap.size w w6) := Lib.hid (HB4.out.trans (hc.below HB4.out.size (by simp)))
      clear ho hc
      go_wp2_with fail
      refine bodyPost_ret (results_row_tmp Tryz.results9 _ _ w.heap.size 40 _ (0, 0) _ rfl HO6.out Tryz.underlying40 rfl (by kernel_rfl)) rfl ?_
      exact ⟨false, 101, zmT, rfl, HC6.out, by decide, (fun h => by cases h), (fun _ => ⟨rfl, HNoB.out (fun _ h => by have := (HE.out.yes rfl).2; rw [HX.out] at this; exact HEQ2.out (this.unique h))⟩), zmT_in _ _, zmT_fit⟩
end Go.Proofs.YtdpaofedepnnbaaGreat
namespace Go.Proofs.YtdpaofedepnnbaaGreat
open Go.RowKit Go.Deep Go.Shelf
set_option linter.unusedVariables false
set_option linter.unusedSimpArgs false

/-- the cells of a head -/
abbrev hcs (k f fr1 fr2 to1 to2 id : Int) (ep ad : Nat) (er ba1 ba2 pr1 pr2 : Int) : List Value :=
  [.int .i64 k, .int .i64 f, .int .i64 fr1, .int .i64 fr2, .int .i64 to1, .int .i64 to2, .int .i64 id, .int .u64 (ep : Int), .int .u64 (ad : Int), .int .i64 er, .int .i64 ba1, .int .i64 ba2, .int .i64 pr1, .int .i64 pr2]
def MgT.hd (A : MgT) : List Value := hcs A.k A.f A.fr.1 A.fr.2 A.to.1 A.to.2 A.id A.ep A.ad A.er A.ba.1 A.ba.2 A.pr.1 A.pr.2
theorem MgT.hd_one (A : MgT) : ∀ v ∈ A.hd, v.oneCell' = true := by
  intro v hv
  simp only [MgT.hd, List.mem_cons, List.not_mem_nil, or_false] at hv
  rcases hv with rfl | rfl | rfl | rfl | rfl | rfl | rfl | rfl | rfl | rfl | rfl | rfl | rfl | rfl <;> rfl
theorem infoHd : (Tryz.prog.info? 96).map (·.size) = some 14 := by kernel_rfl
theorem wpList_storeHd {ops : Array Oper} {rest : List Oper} {o : Oper} {a : Act} {w : World} {Q : Exit → Act → World → Prop} (hgd : o.guard = none) (x y : Operand) (ho : o.op = .store 96 x y) (b : Nat) (hx : a.eval x = .pointer (some ⟨b, 0, none⟩)) (A : MgT) (hy : a.eval y = .agg A.hd.toArray) (old : List Value) (hr : Own w b 96 old) (hl : old.length = 14)
    (h : ∀ w', Own w' b 96 A.hd → Chg [b] w w' → wpList Tryz.prog ops Q rest (a.put o.dst undef) w') : wpList Tryz.prog ops Q (o :: rest) a w := by
  refine wpList_store_mid hgd _ x y ho b 0 A.hd.toArray hx hy (fun j hj => ?_) infoHd (all_oneCell_toArray A.hd_one) (h _ ?_ ?_)
  · have hj' : j < 14 := hj
    rw [Nat.zero_add, hr.cell j]
    exact ⟨by simp [hl, hj'], hr.frozen j⟩
  · exact own_setCells A.hd [] old w hr (by rw [hl]; rfl)
  · exact (Chg.refl [b] w).setCells (.inl (by simp)) 0 _
set_option maxHeartbeats 4000000 in
set_option maxRecDepth 100000 in
theorem headOf10_any (A : MgT) (w : World) :
    Calls Tryz.prog 59 #[.agg A.cs.toArray] w fun z w' => z = .returned (.agg A.hd.toArray) ∧ Below w.heap.size w w' := by
  obtain ⟨W, HWW⟩ : ∃ W, Hid ((w.alloc (.cells A.cs.toArray 40)).alloc (.cells #[.int .i64 0, .int .i64 0, .int .i64 0, .int .i64 0, .int .i64 0, .int .i64 0, .int .i64 0, .int .u64 0, .int .u64 0, .int .i64 0, .int .i64 0, .int .i64 0, .int .i64 0, .int .i64 0] 96) = W) := ⟨_, Lib.hid rfl⟩
  have hWc : Chg [] w W := by rw [← HWW.out]; exact ((Chg.refl [] w).alloc _).alloc _
  have HO1 : Hid (Own W w.heap.size 40 A.cs) := Lib.hid (by rw [← HWW.out]; exact (Own.new w _ _).alloc _)
  have HO2 : Hid (Own W (w.heap.size + 1) 96 zmT.hd) := Lib.hid (by
    rw [← HWW.out]
    have := Own.new (w.alloc (.cells A.cs.toArray 40)) 96 zmT.hd
    rw [World.size_alloc] at this
    exact this)
  have HB := Lib.hid hWc
  have c0 := HO1.out.cell 0
  have c1 := HO1.out.cell 1
  have c2 := HO1.out.cell 2
  have c3 := HO1.out.cell 3
  have c4 := HO1.out.cell 4
  have c5 := HO1.out.cell 5
  have c6 := HO1.out.cell 6
  have c7 := HO1.out.cell 7
  have c8 := HO1.out.cell 8
  have c9 := HO1.out.cell 9
  have c15 := HO1.out.cell 15
  have c16 := HO1.out.cell 16
  have c17 := HO1.out.cell 17
  have c18 := HO1.out.cell 18
  have hz := HO1.out.lt
  simp [MgT.cs] at c0 c1 c2 c3 c4 c5 c6 c7 c8 c9 c15 c16 c17 c18
  clear hWc
  go_enter Tryz.func59, Tryz.ntmps59
  go_upto_region 1 with fail
  rw [HWW.out]
  go_wp2_with (refine wpList_storeHd rfl (.tmp 2) (.tmp 23) rfl (w.heap.size + 1) rfl A rfl zmT.hd HO2.out rfl ?_)
  intro w1 ho hc
  have HO3 := Lib.hid ho
  have HB1 : Hid (Below w.heap.size w w1) := Lib.hid ((HB.out.then hc (fun x hx => by simp only [List.mem_singleton] at hx; subst hx; exact .inr (Nat.le_succ _))).low)
  clear ho hc c0 c1 c2 c3 c4 c5 c6 c7 c8 c9 c15 c16 c17 c18
  go_wp2_with fail
  refine bodyPost_ret (results_cell_row Tryz.results59 _ _ (w.heap.size + 1) 96 _ (0, 0) _ rfl HO3.out Tryz.underlying96 rfl (by kernel_rfl)) rfl ?_
  exact ⟨rfl, HB1.out⟩
theorem eqIn_place9 (a b : Int) (w : World) : (Op.equalIn 9999 25 (.agg #[.int .i64 a, .int .i64 b]) (.agg #[.int .i64 a, .int .i64 b])).run Tryz.prog w = .ok true w := by
  have g0 : ∀ (x y : Value), (part 23 #[x, y] 0).run Tryz.prog w = .ok x w := fun x y => run_part_cell Tryz.underlying23 rfl w
  have g1 : ∀ (x y : Value), (part 3 #[x, y] 1).run Tryz.prog w = .ok y w := fun x y => run_part_cell Tryz.underlying3 rfl w
  have gg : ∀ (x y : Value), (part 23 #[x, y] 1).run Tryz.prog w = .ok y w := fun x y => run_part_cell Tryz.underlying23 rfl w
  have ge : ∀ (x y : Int), (Op.equalIn 9998 3 (.int .i64 x) (.int .i64 y)).run Tryz.prog w = .ok (x == y) w := fun x y => run_equalIn_int w 9997 3 .i64 .i64 _ _ Tryz.underlying3
  have gr : ∀ (x y : Int), (Op.equalIn 9998 23 (.int .i64 x) (.int .i64 y)).run Tryz.prog w = .ok (x == y) w := fun x y => run_equalIn_int w 9997 23 .i64 .i64 _ _ Tryz.underlying23
  refine (run_equalIn_struct w 9998 25 _ _ (by kernel_rfl) (by kernel_rfl)).trans ?_
  simp [Program.fieldsOf, Tryz.underlying25, Op.eqFields, g0, g1, gg, ge, gr]
theorem eqIn_ballot9 (a b : Int) (w : World) : (Op.equalIn 9999 35 (.agg #[.int .i64 a, .int .i64 b]) (.agg #[.int .i64 a, .int .i64 b])).run Tryz.prog w = .ok true w := by
  have g0 : ∀ (x y : Value), (part 3 #[x, y] 0).run Tryz.prog w = .ok x w := fun x y => run_part_cell Tryz.underlying3 rfl w
  have g1 : ∀ (x y : Value), (part 3 #[x, y] 1).run Tryz.prog w = .ok y w := fun x y => run_part_cell Tryz.underlying3 rfl w
  have gg : ∀ (x y : Value), (part 3 #[x, y] 1).run Tryz.prog w = .ok y w := fun x y => run_part_cell Tryz.underlying3 rfl w
  have ge : ∀ (x y : Int), (Op.equalIn 9998 3 (.int .i64 x) (.int .i64 y)).run Tryz.prog w = .ok (x == y) w := fun x y => run_equalIn_int w 9997 3 .i64 .i64 _ _ Tryz.underlying3
  have gr : ∀ (x y : Int), (Op.equalIn 9998 3 (.int .i64 x) (.int .i64 y)).run Tryz.prog w = .ok (x == y) w := fun x y => run_equalIn_int w 9997 3 .i64 .i64 _ _ Tryz.underlying3
  refine (run_equalIn_struct w 9998 35 _ _ (by kernel_rfl) (by kernel_rfl)).trans ?_
  simp [Program.fieldsOf, Tryz.underlying35, Op.eqFields, g0, g1, gg, ge, gr]
theorem part_two {t : TypeId} {xs : Array Value} {off : Nat} (ha : ∀ w, (isAgg t).run Tryz.prog w = .ok true w) (hz : ∀ w, (Go.sizeOf t).run Tryz.prog w = .ok 2 w) (w : World) : (part t xs off).run Tryz.prog w = .ok (.agg (xs.extract off (off + 2))) w := by
  unfold part
  rw [Sem.run_bind, ha]
  simp [hz, Sem.run_bind, Result.andThen_ok]
set_option maxHeartbeats 1000000 in
theorem eqIn_headR (A : MgT) (w : World) : (Op.equalIn 10000 96 (.agg A.hd.toArray) (.agg A.hd.toArray)).run Tryz.prog w = .ok true w := by
  have ap : ∀ w, (isAgg 25).run Tryz.prog w = .ok true w := fun w => by unfold isAgg; rw [Sem.run_bind, run_underlying Tryz.underlying25 w]; rfl
  have ab : ∀ w, (isAgg 35).run Tryz.prog w = .ok true w := fun w => by unfold isAgg; rw [Sem.run_bind, run_underlying Tryz.underlying35 w]; rfl
  have zp : ∀ w, (Go.sizeOf 25).run Tryz.prog w = .ok 2 w := fun w => Tryz.sizeOf25 w
  have zb : ∀ w, (Go.sizeOf 35).run Tryz.prog w = .ok 2 w := fun w => Tryz.sizeOf35 w
  unfold MgT.hd
  have p0 : (part 22 (hcs A.k A.f A.fr.1 A.fr.2 A.to.1 A.to.2 A.id A.ep A.ad A.er A.ba.1 A.ba.2 A.pr.1 A.pr.2).toArray 0).run Tryz.prog w = .ok ((hcs A.k A.f A.fr.1 A.fr.2 A.to.1 A.to.2 A.id A.ep A.ad A.er A.ba.1 A.ba.2 A.pr.1 A.pr.2).getD 0 undef) w := run_part_cell Tryz.underlying22 rfl w
  have p1 : (part 22 (hcs A.k A.f A.fr.1 A.fr.2 A.to.1 A.to.2 A.id A.ep A.ad A.er A.ba.1 A.ba.2 A.pr.1 A.pr.2).toArray 1).run Tryz.prog w = .ok ((hcs A.k A.f A.fr.1 A.fr.2 A.to.1 A.to.2 A.id A.ep A.ad A.er A.ba.1 A.ba.2 A.pr.1 A.pr.2).getD 1 undef) w := run_part_cell Tryz.underlying22 rfl w
  have p6 : (part 3 (hcs A.k A.f A.fr.1 A.fr.2 A.to.1 A.to.2 A.id A.ep A.ad A.er A.ba.1 A.ba.2 A.pr.1 A.pr.2).toArray 6).run Tryz.prog w = .ok ((hcs A.k A.f A.fr.1 A.fr.2 A.to.1 A.to.2 A.id A.ep A.ad A.er A.ba.1 A.ba.2 A.pr.1 A.pr.2).getD 6 undef) w := run_part_cell Tryz.underlying3 rfl w
  have p7 : (part 26 (hcs A.k A.f A.fr.1 A.fr.2 A.to.1 A.to.2 A.id A.ep A.ad A.er A.ba.1 A.ba.2 A.pr.1 A.pr.2).toArray 7).run Tryz.prog w = .ok ((hcs A.k A.f A.fr.1 A.fr.2 A.to.1 A.to.2 A.id A.ep A.ad A.er A.ba.1 A.ba.2 A.pr.1 A.pr.2).getD 7 undef) w := run_part_cell Tryz.underlying26 rfl w
  have p8 : (part 26 (hcs A.k A.f A.fr.1 A.fr.2 A.to.1 A.to.2 A.id A.ep A.ad A.er A.ba.1 A.ba.2 A.pr.1 A.pr.2).toArray 8).run Tryz.prog w = .ok ((hcs A.k A.f A.fr.1 A.fr.2 A.to.1 A.to.2 A.id A.ep A.ad A.er A.ba.1 A.ba.2 A.pr.1 A.pr.2).getD 8 undef) w := run_part_cell Tryz.underlying26 rfl w
  have p9 : (part 27 (hcs A.k A.f A.fr.1 A.fr.2 A.to.1 A.to.2 A.id A.ep A.ad A.er A.ba.1 A.ba.2 A.pr.1 A.pr.2).toArray 9).run Tryz.prog w = .ok ((hcs A.k A.f A.fr.1 A.fr.2 A.to.1 A.to.2 A.id A.ep A.ad A.er A.ba.1 A.ba.2 A.pr.1 A.pr.2).getD 9 undef) w := run_part_cell Tryz.underlying27 rfl w
  have p2 : (part 25 (hcs A.k A.f A.fr.1 A.fr.2 A.to.1 A.to.2 A.id A.ep A.ad A.er A.ba.1 A.ba.2 A.pr.1 A.pr.2).toArray 2).run Tryz.prog w = .ok (.agg #[.int .i64 A.fr.1, .int .i64 A.fr.2]) w := part_two ap zp w
  have p4 : (part 25 (hcs A.k A.f A.fr.1 A.fr.2 A.to.1 A.to.2 A.id A.ep A.ad A.er A.ba.1 A.ba.2 A.pr.1 A.pr.2).toArray 4).run Tryz.prog w = .ok (.agg #[.int .i64 A.to.1, .int .i64 A.to.2]) w := part_two ap zp w
  have p10 : (part 35 (hcs A.k A.f A.fr.1 A.fr.2 A.to.1 A.to.2 A.id A.ep A.ad A.er A.ba.1 A.ba.2 A.pr.1 A.pr.2).toArray 10).run Tryz.prog w = .ok (.agg #[.int .i64 A.ba.1, .int .i64 A.ba.2]) w := part_two ab zb w
  have p12 : (part 35 (hcs A.k A.f A.fr.1 A.fr.2 A.to.1 A.to.2 A.id A.ep A.ad A.er A.ba.1 A.ba.2 A.pr.1 A.pr.2).toArray 12).run Tryz.prog w = .ok (.agg #[.int .i64 A.pr.1, .int .i64 A.pr.2]) w := part_two ab zb w
  generalize (hcs A.k A.f A.fr.1 A.fr.2 A.to.1 A.to.2 A.id A.ep A.ad A.er A.ba.1 A.ba.2 A.pr.1 A.pr.2).toArray = xs at *
  simp only [List.getD_cons_zero, List.getD_cons_succ] at *
  have ei64MessageKind : ∀ (x y : Int), (Op.equalIn 9999 22 (.int .i64 x) (.int .i64 y)).run Tryz.prog w = .ok (x == y) w := fun x y => run_equalIn_int w 9998 22 .i64 .i64 _ _ Tryz.underlying22
  have ei64int : ∀ (x y : Int), (Op.equalIn 9999 3 (.int .i64 x) (.int .i64 y)).run Tryz.prog w = .ok (x == y) w := fun x y => run_equalIn_int w 9998 3 .i64 .i64 _ _ Tryz.underlying3
  have eu64uint64 : ∀ (x y : Int), (Op.equalIn 9999 26 (.int .u64 x) (.int .u64 y)).run Tryz.prog w = .ok (x == y) w := fun x y => run_equalIn_int w 9998 26 .u64 .u64 _ _ Tryz.underlying26
  have ei64Errno : ∀ (x y : Int), (Op.equalIn 9999 27 (.int .i64 x) (.int .i64 y)).run Tryz.prog w = .ok (x == y) w := fun x y => run_equalIn_int w 9998 27 .i64 .i64 _ _ Tryz.underlying27
  refine (run_equalIn_struct w 9999 96 _ _ (by kernel_rfl) (by kernel_rfl)).trans ?_
  simp [Program.fieldsOf, Tryz.underlying96, Op.eqFields, p0, p1, p2, p4, p6, p7, p8, p9, p10, p12, ei64MessageKind, ei64int, eu64uint64, ei64Errno, eqIn_place9, eqIn_ballot9]
theorem eq_headR (A : MgT) (w : World) : (binOp .eql 96 (.agg A.hd.toArray) (.agg A.hd.toArray)).run Tryz.prog w = .ok (.bool true) w := by
  rw [run_eql_struct, eqIn_headR]; rfl
end Go.Proofs.YtdpaofedepnnbaaGreat
namespace Go.Proofs.YtdpaofedepnnbaaGreat
open Go.RowKit Go.Deep Go.Shelf
set_option linter.unusedVariables false
set_option linter.unusedSimpArgs false

theorem MgT.hd_x {A C : MgT} (h : A.x = C.x) : C.hd = A.hd := by
  unfold MgT.x at h
  injection h with h1 h2 h3 h4 h5 h6 h7 h8 h9 h10 h11 h12 h13 h14
  unfold MgT.hd
  rw [h1, h2, h3, h4, h5, h6, h7, h8, h12, h13]
/-- two messages in two blocks, their cells -/
def MS (W V : World) (p q : Nat) (A C : MgT) : Prop := Below W.heap.size W V ∧ Own V p 40 A.cs ∧ Own V q 40 C.cs
theorem ms_all {W V : World} {p q : Nat} {A C : MgT} (h0 : Below W.heap.size W V) (h1 : Own V p 40 A.cs) (h2 : Own V q 40 C.cs) : Below W.heap.size W V ∧ Own V p 40 A.cs ∧ Own V q 40 C.cs ∧ V.cell? ⟨p, 10, none⟩ = some (.int .i64 A.c.k) ∧ V.cell? ⟨p, 11, none⟩ = some (.slice A.ca A.c.d.length A.cc) ∧ V.cell? ⟨p, 12, none⟩ = some (.slice A.ca2 A.c.b.length A.cc2) ∧ V.cell? ⟨p, 13, none⟩ = some (.slice A.sa A.st.length A.sc) ∧ V.cell? ⟨p, 14, none⟩ = some (.slice A.ka A.bk.length A.kc) ∧ V.cell? ⟨p, 19, none⟩ = some (.int .u64 (A.ly.e : Int)) ∧ V.cell? ⟨p, 20, none⟩ = some (.slice A.ly.a A.ly.sg.length A.ly.c) ∧ V.cell? ⟨p, 21, none⟩ = some (.int .i64 A.ly.q) ∧ V.cell? ⟨q, 10, none⟩ = some (.int .i64 C.c.k) ∧ V.cell? ⟨q, 11, none⟩ = some (.slice C.ca C.c.d.length C.cc) ∧ V.cell? ⟨q, 12, none⟩ = some (.slice C.ca2 C.c.b.length C.cc2) ∧ V.cell? ⟨q, 13, none⟩ = some (.slice C.sa C.st.length C.sc) ∧ V.cell? ⟨q, 14, none⟩ = some (.slice C.ka C.bk.length C.kc) ∧ V.cell? ⟨q, 19, none⟩ = some (.int .u64 (C.ly.e : Int)) ∧ V.cell? ⟨q, 20, none⟩ = some (.slice C.ly.a C.ly.sg.length C.ly.c) ∧ V.cell? ⟨q, 21, none⟩ = some (.int .i64 C.ly.q) :=
  ⟨h0, h1, h2, (h1.cell 10).trans rfl, (h1.cell 11).trans rfl, (h1.cell 12).trans rfl, (h1.cell 13).trans rfl, (h1.cell 14).trans rfl, (h1.cell 19).trans rfl, (h1.cell 20).trans rfl, (h1.cell 21).trans rfl, (h2.cell 10).trans rfl, (h2.cell 11).trans rfl, (h2.cell 12).trans rfl, (h2.cell 13).trans rfl, (h2.cell 14).trans rfl, (h2.cell 19).trans rfl, (h2.cell 20).trans rfl, (h2.cell 21).trans rfl⟩
theorem run_loadMgX {o : Oper} {a : Act} {w : World} (x : Operand) (ho : o.op = .load 40 x) (b : Nat) (hx : a.eval x = .pointer (some ⟨b, 0, none⟩)) (A : MgT) (hr : Own w b 40 A.cs) : (execOp a.eval o).run Tryz.prog w = .ok (.value (.agg A.cs.toArray)) w := by
  unfold execOp
  simp only [ho, hx, Instr.loadAt, Instr.sureAddr, Sem.run_bind, Sem.run_pure, Result.andThen_ok, run_loadVar_mid w b 0 40 A.cs _ hr.range Tryz.underlying40 rfl infoMg]
set_option maxHeartbeats 4000000 in
set_option maxRecDepth 100000 in
theorem msame_eq (A C : MgT) (hx : A.x = C.x) (B : Nat) (w0 : World) (ha : MgIn w0 B A) (hc : MgIn w0 B C) (hB : B ≤ w0.heap.size) (hfa : MgFit A) (hfc : MgFit C) :
    Calls Tryz.prog 16 #[.agg A.cs.toArray, .agg C.cs.toArray] w0 fun e w0' => e = .returned (.bool true) ∧ Below w0.heap.size w0 w0' := by
  obtain ⟨W, Hw⟩ : ∃ W, Hid ((w0.alloc (.cells A.cs.toArray 40)).alloc (.cells C.cs.toArray 40) = W) := ⟨_, Lib.hid rfl⟩
  have hWb : Below w0.heap.size w0 W := by rw [← Hw.out]; exact ((Below.refl _ _).alloc (Nat.le_refl _) _).alloc (by simp) _
  have ho1 : Own W w0.heap.size 40 A.cs := by rw [← Hw.out]; exact (Own.new w0 _ _).alloc _
  have ho2 : Own W (w0.heap.size + 1) 40 C.cs := by
    rw [← Hw.out]
    have := Own.new (w0.alloc (.cells A.cs.toArray 40)) 40 C.cs
    rw [World.size_alloc] at this
    exact this
  have HO1 := Lib.hid ho1
  have HO2 := Lib.hid ho2
  have HB := Lib.hid hWb
  have HHA := Lib.hid (fun V => headOf10_any A V)
  have HHC := Lib.hid (fun V => headOf10_any C V)
  rw [MgT.hd_x hx] at HHC
  have hxx := hx
  unfold MgT.x at hxx
  injection hxx with g1 g2 g3 g4 g5 g6 g7 g8 gc gs gk g12 g13 gl
  have HST : Hid (∀ V, Below W.heap.size W V → Calls Tryz.prog 60 #[.slice A.sa A.st.length A.sc, .slice C.sa C.st.length C.sc] V fun e w0' => e = .returned (.bool true) ∧ Below V.heap.size V w0') := Lib.hid fun V hV => by
    have := equalInts_any V A.sa C.sa A.st C.st A.sc C.sc _ _ B rfl rfl (ha.below (hWb.trans (hV.mono hWb.size)) hB).st (hc.below (hWb.trans (hV.mono hWb.size)) hB).st hfa.st hfc.st
    rw [decide_eq_true gs] at this
    refine this.mono ?_
    rintro e w' ⟨h1, h2⟩
    exact ⟨h1, ((Chg.refl [] V).qt h2).low⟩
  have HBK : Hid (∀ V, Below W.heap.size W V → Calls Tryz.prog 61 #[.slice A.ka A.bk.length A.kc, .slice C.ka C.bk.length C.kc] V fun e w0' => e = .returned (.bool true) ∧ Below V.heap.size V w0') := Lib.hid fun V hV => by
    have := equalBacks_any V A.ka C.ka A.bk C.bk A.kc C.kc _ _ B rfl rfl (ha.below (hWb.trans (hV.mono hWb.size)) hB).bk (hc.below (hWb.trans (hV.mono hWb.size)) hB).bk hfa.bk hfc.bk
    rw [decide_eq_true gk] at this
    refine this.mono ?_
    rintro e w' ⟨h1, h2⟩
    exact ⟨h1, ((Chg.refl [] V).qt h2).low⟩
  have HCE : Hid (∀ V, Below W.heap.size W V → Calls Tryz.prog 62 #[cev A.c.k A.ca A.c.d.length A.cc A.ca2 A.c.b.length A.cc2, cev C.c.k C.ca C.c.d.length C.cc C.ca2 C.c.b.length C.cc2] V fun e w0' => e = .returned (.bool true) ∧ Below V.heap.size V w0') := Lib.hid fun V hV => by
    have := same_any A.c C.c A.ca A.cc A.ca2 A.cc2 C.ca C.cc C.ca2 C.cc2 B V (ha.below (hWb.trans (hV.mono hWb.size)) hB).d (ha.below (hWb.trans (hV.mono hWb.size)) hB).b (hc.below (hWb.trans (hV.mono hWb.size)) hB).d (hc.below (hWb.trans (hV.mono hWb.size)) hB).b (Nat.le_trans hB (hWb.trans (hV.mono hWb.size)).size) hfa.b hfc.b
    rwa [alike_iff.2 gc] at this
  have HLY : Hid (∀ V, Below W.heap.size W V → Calls Tryz.prog 63 #[.agg #[.int .u64 (A.ly.e : Int), .slice A.ly.a A.ly.sg.length A.ly.c, .int .i64 A.ly.q], .agg #[.int .u64 (C.ly.e : Int), .slice C.ly.a C.ly.sg.length C.ly.c, .int .i64 C.ly.q]] V fun e w0' => e = .returned (.bool true) ∧ Below V.heap.size V w0') := Lib.hid fun V hV => by
    have := lsame_any A.ly C.ly B V (ha.below (hWb.trans (hV.mono hWb.size)) hB).ly (hc.below (hWb.trans (hV.mono hWb.size)) hB).ly hfa.ly hfc.ly (Nat.le_trans hB (hWb.trans (hV.mono hWb.size)).size)
    rwa [lalike_iff.2 gl] at this
  have HSP : Hid (∀ V, (Below W.heap.size W V ∧ Own V w0.heap.size 40 A.cs ∧ Own V (w0.heap.size + 1) 40 C.cs) → Below W.heap.size W V ∧ Own V w0.heap.size 40 A.cs ∧ Own V (w0.heap.size + 1) 40 C.cs ∧ V.cell? ⟨w0.heap.size, 10, none⟩ = some (.int .i64 A.c.k) ∧ V.cell? ⟨w0.heap.size, 11, none⟩ = some (.slice A.ca A.c.d.length A.cc) ∧ V.cell? ⟨w0.heap.size, 12, none⟩ = some (.slice A.ca2 A.c.b.length A.cc2) ∧ V.cell? ⟨w0.heap.size, 13, none⟩ = some (.slice A.sa A.st.length A.sc) ∧ V.cell? ⟨w0.heap.size, 14, none⟩ = some (.slice A.ka A.bk.length A.kc) ∧ V.cell? ⟨w0.heap.size, 19, none⟩ = some (.int .u64 (A.ly.e : Int)) ∧ V.cell? ⟨w0.heap.size, 20, none⟩ = some (.slice A.ly.a A.ly.sg.length A.ly.c) ∧ V.cell? ⟨w0.heap.size, 21, none⟩ = some (.int .i64 A.ly.q) ∧ V.cell? ⟨w0.heap.size + 1, 10, none⟩ = some (.int .i64 C.c.k) ∧ V.cell? ⟨w0.heap.size + 1, 11, none⟩ = some (.slice C.ca C.c.d.length C.cc) ∧ V.cell? ⟨w0.heap.size + 1, 12, none⟩ = some (.slice C.ca2 C.c.b.length C.cc2) ∧ V.cell? ⟨w0.heap.size + 1, 13, none⟩ = some (.slice C.sa C.st.length C.sc) ∧ V.cell? ⟨w0.heap.size + 1, 14, none⟩ = some (.slice C.ka C.bk.length C.kc) ∧ V.cell? ⟨w0.heap.size + 1, 19, none⟩ = some (.int .u64 (C.ly.e : Int)) ∧ V.cell? ⟨w0.heap.size + 1, 20, none⟩ = some (.slice C.ly.a C.ly.sg.length C.ly.c) ∧ V.cell? ⟨w0.heap.size + 1, 21, none⟩ = some (.int .i64 C.ly.q)) := Lib.hid fun V h => ms_all h.1 h.2.1 h.2.2
  have hr := eq_headR A
  clear ha hc hB hfa hfc hWb ho1 ho2 g1 g2 g3 g4 g5 g6 g7 g8 gc gs gk g12 g13 gl
  go_enter Tryz.func16, Tryz.ntmps16
  go_upto_region 1 with fail
  rw [Hw.out]
  refine wp_region_held_drew (S := (fun V => Below W.heap.size W V ∧ Own V w0.heap.size 40 A.cs ∧ Own V (w0.heap.size + 1) 40 C.cs ∧ V.cell? ⟨w0.heap.size, 10, none⟩ = some (.int .i64 A.c.k) ∧ V.cell? ⟨w0.heap.size, 11, none⟩ = some (.slice A.ca A.c.d.length A.cc) ∧ V.cell? ⟨w0.heap.size, 12, none⟩ = some (.slice A.ca2 A.c.b.length A.cc2) ∧ V.cell? ⟨w0.heap.size, 13, none⟩ = some (.slice A.sa A.st.length A.sc) ∧ V.cell? ⟨w0.heap.size, 14, none⟩ = some (.slice A.ka A.bk.length A.kc) ∧ V.cell? ⟨w0.heap.size, 19, none⟩ = some (.int .u64 (A.ly.e : Int)) ∧ V.cell? ⟨w0.heap.size, 20, none⟩ = some (.slice A.ly.a A.ly.sg.length A.ly.c) ∧ V.cell? ⟨w0.heap.size, 21, none⟩ = some (.int .i64 A.ly.q) ∧ V.cell? ⟨w0.heap.size + 1, 10, none⟩ = some (.int .i64 C.c.k) ∧ V.cell? ⟨w0.heap.size + 1, 11, none⟩ = some (.slice C.ca C.c.d.length C.cc) ∧ V.cell? ⟨w0.heap.size + 1, 12, none⟩ = some (.slice C.ca2 C.c.b.length C.cc2) ∧ V.cell? ⟨w0.heap.size + 1, 13, none⟩ = some (.slice C.sa C.st.length C.sc) ∧ V.cell? ⟨w0.heap.size + 1, 14, none⟩ = some (.slice C.ka C.bk.length C.kc) ∧ V.cell? ⟨w0.heap.size + 1, 19, none⟩ = some (.int .u64 (C.ly.e : Int)) ∧ V.cell? ⟨w0.heap.size + 1, 20, none⟩ = some (.slice C.ly.a C.ly.sg.length C.ly.c) ∧ V.cell? ⟨w0.heap.size + 1, 21, none⟩ = some (.int .i64 C.ly.q))) (by kernel_rfl) (HSP.out _ ⟨(Below.refl _ _).drew, HO1.out, HO2.out⟩) (fun hHeld => ?_)
  refine wpAnyH_take (i := 0) (v := .agg A.cs.toArray) rfl (by kernel_rfl) (by kernel_rfl) (by kernel_rfl) (fun _ _ _ h => h) (Or.inl ⟨by kernel_rfl, ?_⟩) hHeld ?_
  · (intro w hSw; exact run_loadMgX (.tmp 2) rfl w0.heap.size rfl A hSw.2.1)
  (try simp only [Act.put, List.getElem_toArray, List.getElem_cons_succ, List.getElem_cons_zero, List.setIfInBounds_toArray, List.set_cons_zero, List.set_cons_succ])
  refine wpAnyH_take (i := 2) (v := .agg C.cs.toArray) rfl (by kernel_rfl) (by kernel_rfl) (by kernel_rfl) (fun _ _ _ h => h) (Or.inl ⟨by kernel_rfl, ?_⟩) hHeld ?_
  · (intro w hSw; exact run_loadMgX (.tmp 3) rfl (w0.heap.size + 1) rfl C hSw.2.2.1)
  (try simp only [Act.put, List.getElem_toArray, List.getElem_cons_succ, List.getElem_cons_zero, List.setIfInBounds_toArray, List.set_cons_zero, List.set_cons_succ])
  refine wpAnyH_ready (rs := [1]) (by kernel_rfl) (by simp) (AllReadyH.cons rfl (fun K hK => ?_) AllReadyH.nil)
  have hH := hHeld
  (go_simp; go_at_call 59; refine (HHA.out _).mono ?_; rintro e w9 ⟨rfl, hb9⟩)
  refine hK.out _ _ (by exact HSP.out _ ⟨hH.1.trans (hb9.mono hH.1.size), hH.2.1.below (hb9) hH.2.1.lt, hH.2.2.1.below (hb9) hH.2.2.1.lt⟩) (fun hHq1 => ?_)
  clear hK K hH 
  (try simp only [Act.put, List.getElem_toArray, List.getElem_cons_succ, List.getElem_cons_zero, List.setIfInBounds_toArray, List.set_cons_zero, List.set_cons_succ])
  refine wpAnyH_ready (rs := [3]) (by kernel_rfl) (by simp) (AllReadyH.cons rfl (fun K hK => ?_) AllReadyH.nil)
  have hH := hHq1
  (go_simp; go_at_call 59; refine (HHC.out _).mono ?_; rintro e w9 ⟨rfl, hb9⟩)
  refine hK.out _ _ (by exact HSP.out _ ⟨hH.1.trans (hb9.mono hH.1.size), hH.2.1.below (hb9) hH.2.1.lt, hH.2.2.1.below (hb9) hH.2.2.1.lt⟩) (fun hHq2 => ?_)
  clear hK K hH hHq1
  (try simp only [Act.put, List.getElem_toArray, List.getElem_cons_succ, List.getElem_cons_zero, List.setIfInBounds_toArray, List.set_cons_zero, List.set_cons_succ])
  refine wpAnyH_take (i := 4) (v := .bool true) rfl (by kernel_rfl) (by kernel_rfl) (by kernel_rfl) (fun _ _ _ h => h) (Or.inl ⟨by kernel_rfl, ?_⟩) hHq2 ?_
  · (intro w hSw; have hq := hr w; go_simp)
  (try simp only [Act.put, List.getElem_toArray, List.getElem_cons_succ, List.getElem_cons_zero, List.setIfInBounds_toArray, List.set_cons_zero, List.set_cons_succ])
  refine wpAnyH_take (i := 5) (v := ?_) rfl (by kernel_rfl) (by kernel_rfl) (by kernel_rfl) (fun _ _ _ h => h) (Or.inl ⟨by kernel_rfl, ?_⟩) hHq2 ?_
  rotate_left
  · (intro w hSw; first | (go_simp; done) | (go_simp; with_reducible rfl))
  (try simp only [Act.put, List.getElem_toArray, List.getElem_cons_succ, List.getElem_cons_zero, List.setIfInBounds_toArray, List.set_cons_zero, List.set_cons_succ])
  refine wpAnyH_take (i := 6) (v := ?_) rfl (by kernel_rfl) (by kernel_rfl) (by kernel_rfl) (fun _ _ _ h => h) (Or.inl ⟨by kernel_rfl, ?_⟩) hHq2 ?_
  rotate_left
  · (intro w hSw; first | (go_simp; done) | (go_simp; with_reducible rfl))
  (try simp only [Act.put, List.getElem_toArray, List.getElem_cons_succ, List.getElem_cons_zero, List.setIfInBounds_toArray, List.set_cons_zero, List.set_cons_succ])
  refine wpAnyH_take (i := 7) (v := ?_) rfl (by kernel_rfl) (by kernel_rfl) (by kernel_rfl) (fun _ _ _ h => h) (Or.inl ⟨by kernel_rfl, ?_⟩) hHq2 ?_
  rotate_left
  · (intro w hSw; first | (go_simp; done) | (go_simp; with_reducible rfl))
  (try simp only [Act.put, List.getElem_toArray, List.getElem_cons_succ, List.getElem_cons_zero, List.setIfInBounds_toArray, List.set_cons_zero, List.set_cons_succ])
  refine wpAnyH_take (i := 8) (v := ?_) rfl (by kernel_rfl) (by kernel_rfl) (by kernel_rfl) (fun _ _ _ h => h) (Or.inl ⟨by kernel_rfl, ?_⟩) hHq2 ?_
  rotate_left
  · (intro w hSw; first | (go_simp; done) | (go_simp; with_reducible rfl))
  (try simp only [Act.put, List.getElem_toArray, List.getElem_cons_succ, List.getElem_cons_zero, List.setIfInBounds_toArray, List.set_cons_zero, List.set_cons_succ])
  refine wpAnyH_take (i := 9) (v := ?_) rfl (by kernel_rfl) (by kernel_rfl) (by kernel_rfl) (fun _ _ _ h => h) (Or.inl ⟨by kernel_rfl, ?_⟩) hHq2 ?_
  rotate_left
  · (intro w hSw; first | (go_simp; done) | (go_simp; with_reducible rfl))
  (try simp only [Act.put, List.getElem_toArray, List.getElem_cons_succ, List.getElem_cons_zero, List.setIfInBounds_toArray, List.set_cons_zero, List.set_cons_succ])
  refine wpAnyH_ready (rs := [10]) (by kernel_rfl) (by simp) (AllReadyH.cons rfl (fun K hK => ?_) AllReadyH.nil)
  have hH := hHq2
  (go_simp; go_at_call 60; refine (HST.out _ hH.1).mono ?_; rintro e w9 ⟨rfl, hb9⟩)
  refine hK.out _ _ (by exact HSP.out _ ⟨hH.1.trans (hb9.mono hH.1.size), hH.2.1.below (hb9) hH.2.1.lt, hH.2.2.1.below (hb9) hH.2.2.1.lt⟩) (fun hHq3 => ?_)
  clear hK K hH hHq2
  (try simp only [Act.put, List.getElem_toArray, List.getElem_cons_succ, List.getElem_cons_zero, List.setIfInBounds_toArray, List.set_cons_zero, List.set_cons_succ])
  refine wpAnyH_take (i := 11) (v := ?_) rfl (by kernel_rfl) (by kernel_rfl) (by kernel_rfl) (fun _ _ _ h => h) (Or.inl ⟨by kernel_rfl, ?_⟩) hHq3 ?_
  rotate_left
  · (intro w hSw; first | (go_simp; done) | (go_simp; with_reducible rfl))
  (try simp only [Act.put, List.getElem_toArray, List.getElem_cons_succ, List.getElem_cons_zero, List.setIfInBounds_toArray, List.set_cons_zero, List.set_cons_succ])
  refine wpAnyH_take (i := 12) (v := ?_) rfl (by kernel_rfl) (by kernel_rfl) (by kernel_rfl) (fun _ _ _ h => h) (Or.inl ⟨by kernel_rfl, ?_⟩) hHq3 ?_
  rotate_left
  · (intro w hSw; first | (go_simp; done) | (go_simp; with_reducible rfl))
  (try simp only [Act.put, List.getElem_toArray, List.getElem_cons_succ, List.getElem_cons_zero, List.setIfInBounds_toArray, List.set_cons_zero, List.set_cons_succ])
  refine wpAnyH_take (i := 13) (v := ?_) rfl (by kernel_rfl) (by kernel_rfl) (by kernel_rfl) (fun _ _ _ h => h) (Or.inl ⟨by kernel_rfl, ?_⟩) hHq3 ?_
  rotate_left
  · (intro w hSw; first | (go_simp; done) | (go_simp; with_reducible rfl))
  (try simp only [Act.put, List.getElem_toArray, List.getElem_cons_succ, List.getElem_cons_zero, List.setIfInBounds_toArray, List.set_cons_zero, List.set_cons_succ])
  refine wpAnyH_take (i := 14) (v := ?_) rfl (by kernel_rfl) (by kernel_rfl) (by kernel_rfl) (fun _ _ _ h => h) (Or.inl ⟨by kernel_rfl, ?_⟩) hHq3 ?_
  rotate_left
  · (intro w hSw; first | (go_simp; done) | (go_simp; with_reducible rfl))
  (try simp only [Act.put, List.getElem_toArray, List.getElem_cons_succ, List.getElem_cons_zero, List.setIfInBounds_toArray, List.set_cons_zero, List.set_cons_succ])
  refine wpAnyH_take (i := 15) (v := ?_) rfl (by kernel_rfl) (by kernel_rfl) (by kernel_rfl) (fun _ _ _ h => h) (Or.inl ⟨by kernel_rfl, ?_⟩) hHq3 ?_
  rotate_left
  · (intro w hSw; first | (go_simp; done) | (go_simp; with_reducible rfl))
  (try simp only [Act.put, List.getElem_toArray, List.getElem_cons_succ, List.getElem_cons_zero, List.setIfInBounds_toArray, List.set_cons_zero, List.set_cons_succ])
  refine wpAnyH_take (i := 16) (v := ?_) rfl (by kernel_rfl) (by kernel_rfl) (by kernel_rfl) (fun _ _ _ h => h) (Or.inl ⟨by kernel_rfl, ?_⟩) hHq3 ?_
  rotate_left
  · (intro w hSw; first | (go_simp; done) | (go_simp; with_reducible rfl))
  (try simp only [Act.put, List.getElem_toArray, List.getElem_cons_succ, List.getElem_cons_zero, List.setIfInBounds_toArray, List.set_cons_zero, List.set_cons_succ])
  refine wpAnyH_ready (rs := [17]) (by kernel_rfl) (by simp) (AllReadyH.cons rfl (fun K hK => ?_) AllReadyH.nil)
  have hH := hHq3
  (go_simp; go_at_call 61; refine (HBK.out _ hH.1).mono ?_; rintro e w9 ⟨rfl, hb9⟩)
  refine hK.out _ _ (by exact HSP.out _ ⟨hH.1.trans (hb9.mono hH.1.size), hH.2.1.below (hb9) hH.2.1.lt, hH.2.2.1.below (hb9) hH.2.2.1.lt⟩) (fun hHq4 => ?_)
  clear hK K hH hHq3
  (try simp only [Act.put, List.getElem_toArray, List.getElem_cons_succ, List.getElem_cons_zero, List.setIfInBounds_toArray, List.set_cons_zero, List.set_cons_succ])
  refine wpAnyH_take (i := 18) (v := ?_) rfl (by kernel_rfl) (by kernel_rfl) (by kernel_rfl) (fun _ _ _ h => h) (Or.inl ⟨by kernel_rfl, ?_⟩) hHq4 ?_
  rotate_left
  · (intro w hSw; first | (go_simp; done) | (go_simp; with_reducible rfl))
  (try simp only [Act.put, List.getElem_toArray, List.getElem_cons_succ, List.getElem_cons_zero, List.setIfInBounds_toArray, List.set_cons_zero, List.set_cons_succ])
  refine wpAnyH_take (i := 19) (v := ?_) rfl (by kernel_rfl) (by kernel_rfl) (by kernel_rfl) (fun _ _ _ h => h) (Or.inl ⟨by kernel_rfl, ?_⟩) hHq4 ?_
  rotate_left
  · (intro w hSw; first | (go_simp; done) | (go_simp; with_reducible rfl))
  (try simp only [Act.put, List.getElem_toArray, List.getElem_cons_succ, List.getElem_cons_zero, List.setIfInBounds_toArray, List.set_cons_zero, List.set_cons_succ])
  refine wpAnyH_take (i := 20) (v := ?_) rfl (by kernel_rfl) (by kernel_rfl) (by kernel_rfl) (fun _ _ _ h => h) (Or.inl ⟨by kernel_rfl, ?_⟩) hHq4 ?_
  rotate_left
  · (intro w hSw; first | (go_simp; done) | (go_simp; with_reducible rfl))
  (try simp only [Act.put, List.getElem_toArray, List.getElem_cons_succ, List.getElem_cons_zero, List.setIfInBounds_toArray, List.set_cons_zero, List.set_cons_succ])
  refine wpAnyH_take (i := 21) (v := ?_) rfl (by kernel_rfl) (by kernel_rfl) (by kernel_rfl) (fun _ _ _ h => h) (Or.inl ⟨by kernel_rfl, ?_⟩) hHq4 ?_
  rotate_left
  · (intro w hSw; first | (go_simp; done) | (go_simp; with_reducible rfl))
  (try simp only [Act.put, List.getElem_toArray, List.getElem_cons_succ, List.getElem_cons_zero, List.setIfInBounds_toArray, List.set_cons_zero, List.set_cons_succ])
  refine wpAnyH_take (i := 22) (v := ?_) rfl (by kernel_rfl) (by kernel_rfl) (by kernel_rfl) (fun _ _ _ h => h) (Or.inl ⟨by kernel_rfl, ?_⟩) hHq4 ?_
  rotate_left
  · (intro w hSw; first | (go_simp; done) | (go_simp; with_reducible rfl))
  (try simp only [Act.put, List.getElem_toArray, List.getElem_cons_succ, List.getElem_cons_zero, List.setIfInBounds_toArray, List.set_cons_zero, List.set_cons_succ])
  refine wpAnyH_take (i := 23) (v := ?_) rfl (by kernel_rfl) (by kernel_rfl) (by kernel_rfl) (fun _ _ _ h => h) (Or.inl ⟨by kernel_rfl, ?_⟩) hHq4 ?_
  rotate_left
  · (intro w hSw; first | (go_simp; done) | (go_simp; with_reducible rfl))
  (try simp only [Act.put, List.getElem_toArray, List.getElem_cons_succ, List.getElem_cons_zero, List.setIfInBounds_toArray, List.set_cons_zero, List.set_cons_succ])
  refine wpAnyH_ready (rs := [24]) (by kernel_rfl) (by simp) (AllReadyH.cons rfl (fun K hK => ?_) AllReadyH.nil)
  have hH := hHq4
  (go_simp; go_at_call 62; refine (HCE.out _ hH.1).mono ?_; rintro e w9 ⟨rfl, hb9⟩)
  refine hK.out _ _ (by exact HSP.out _ ⟨hH.1.trans (hb9.mono hH.1.size), hH.2.1.below (hb9) hH.2.1.lt, hH.2.2.1.below (hb9) hH.2.2.1.lt⟩) (fun hHq5 => ?_)
  clear hK K hH hHq4
  (try simp only [Act.put, List.getElem_toArray, List.getElem_cons_succ, List.getElem_cons_zero, List.setIfInBounds_toArray, List.set_cons_zero, List.set_cons_succ])
  refine wpAnyH_take (i := 25) (v := ?_) rfl (by kernel_rfl) (by kernel_rfl) (by kernel_rfl) (fun _ _ _ h => h) (Or.inl ⟨by kernel_rfl, ?_⟩) hHq5 ?_
  rotate_left
  · (intro w hSw; first | (go_simp; done) | (go_simp; with_reducible rfl))
  (try simp only [Act.put, List.getElem_toArray, List.getElem_cons_succ, List.getElem_cons_zero, List.setIfInBounds_toArray, List.set_cons_zero, List.set_cons_succ])
  refine wpAnyH_take (i := 26) (v := ?_) rfl (by kernel_rfl) (by kernel_rfl) (by kernel_rfl) (fun _ _ _ h => h) (Or.inl ⟨by kernel_rfl, ?_⟩) hHq5 ?_
  rotate_left
  · (intro w hSw; first | (go_simp; done) | (go_simp; with_reducible rfl))
  (try simp only [Act.put, List.getElem_toArray, List.getElem_cons_succ, List.getElem_cons_zero, List.setIfInBounds_toArray, List.set_cons_zero, List.set_cons_succ])
  refine wpAnyH_take (i := 27) (v := ?_) rfl (by kernel_rfl) (by kernel_rfl) (by kernel_rfl) (fun _ _ _ h => h) (Or.inl ⟨by kernel_rfl, ?_⟩) hHq5 ?_
  rotate_left
  · (intro w hSw; first | (go_simp; done) | (go_simp; with_reducible rfl))
  (try simp only [Act.put, List.getElem_toArray, List.getElem_cons_succ, List.getElem_cons_zero, List.setIfInBounds_toArray, List.set_cons_zero, List.set_cons_succ])
  refine wpAnyH_take (i := 28) (v := ?_) rfl (by kernel_rfl) (by kernel_rfl) (by kernel_rfl) (fun _ _ _ h => h) (Or.inl ⟨by kernel_rfl, ?_⟩) hHq5 ?_
  rotate_left
  · (intro w hSw; first | (go_simp; done) | (go_simp; with_reducible rfl))
  (try simp only [Act.put, List.getElem_toArray, List.getElem_cons_succ, List.getElem_cons_zero, List.setIfInBounds_toArray, List.set_cons_zero, List.set_cons_succ])
  refine wpAnyH_take (i := 29) (v := ?_) rfl (by kernel_rfl) (by kernel_rfl) (by kernel_rfl) (fun _ _ _ h => h) (Or.inl ⟨by kernel_rfl, ?_⟩) hHq5 ?_
  rotate_left
  · (intro w hSw; first | (go_simp; done) | (go_simp; with_reducible rfl))
  (try simp only [Act.put, List.getElem_toArray, List.getElem_cons_succ, List.getElem_cons_zero, List.setIfInBounds_toArray, List.set_cons_zero, List.set_cons_succ])
  refine wpAnyH_take (i := 30) (v := ?_) rfl (by kernel_rfl) (by kernel_rfl) (by kernel_rfl) (fun _ _ _ h => h) (Or.inl ⟨by kernel_rfl, ?_⟩) hHq5 ?_
  rotate_left
  · (intro w hSw; first | (go_simp; done) | (go_simp; with_reducible rfl))
  (try simp only [Act.put, List.getElem_toArray, List.getElem_cons_succ, List.getElem_cons_zero, List.setIfInBounds_toArray, List.set_cons_zero, List.set_cons_succ])
  refine wpAnyH_ready (rs := [31]) (by kernel_rfl) (by simp) (AllReadyH.cons rfl (fun K hK => ?_) AllReadyH.nil)
  have hH := hHq5
  (go_simp; go_at_call 63; refine (HLY.out _ hH.1).mono ?_; rintro e w9 ⟨rfl, hb9⟩)
  refine hK.out _ _ (by exact HSP.out _ ⟨hH.1.trans (hb9.mono hH.1.size), hH.2.1.below (hb9) hH.2.1.lt, hH.2.2.1.below (hb9) hH.2.2.1.lt⟩) (fun hHq6 => ?_)
  clear hK K hH hHq5
  (try simp only [Act.put, List.getElem_toArray, List.getElem_cons_succ, List.getElem_cons_zero, List.setIfInBounds_toArray, List.set_cons_zero, List.set_cons_succ])
  refine wpAnyH_take (i := 32) (v := ?_) rfl (by kernel_rfl) (by kernel_rfl) (by kernel_rfl) (fun _ _ _ h => h) (Or.inl ⟨by kernel_rfl, ?_⟩) hHq6 ?_
  rotate_left
  · (intro w hSw; first | (go_simp; done) | (go_simp; with_reducible rfl))
  (try simp only [Act.put, List.getElem_toArray, List.getElem_cons_succ, List.getElem_cons_zero, List.setIfInBounds_toArray, List.set_cons_zero, List.set_cons_succ])
  refine wpAnyH_take (i := 33) (v := ?_) rfl (by kernel_rfl) (by kernel_rfl) (by kernel_rfl) (fun _ _ _ h => h) (Or.inl ⟨by kernel_rfl, ?_⟩) hHq6 ?_
  rotate_left
  · (intro w hSw; first | (go_simp; done) | (go_simp; with_reducible rfl))
  (try simp only [Act.put, List.getElem_toArray, List.getElem_cons_succ, List.getElem_cons_zero, List.setIfInBounds_toArray, List.set_cons_zero, List.set_cons_succ])
  refine wpAnyH_done (by kernel_rfl) ?_ _
  have hEnd := hHq6
  have HE := Lib.hid (HB.out.trans (hEnd.1.mono HB.out.size))
  clear hHeld hEnd
  go_wp2_with fail
  go_ret
  exact ⟨rfl, HE.out⟩
end Go.Proofs.YtdpaofedepnnbaaGreat
namespace Go.Proofs.YtdpaofedepnnbaaGreat
open Go.RowKit Go.Deep Go.Shelf
set_option linter.unusedVariables false
set_option linter.unusedSimpArgs false

def alM : MgT := ⟨6, (4, 1), (1, 5), 7, 0, 3, 0, 0, noC, none, 0, none, 0, [], none, 0, [], none, 0, (0, 0), (0, 0), ⟨0, none, 0, [], 0⟩⟩
theorem alM_right : mright alM.x = true := by kernel_rfl
theorem alM_in (w : World) (B : Nat) : MgIn w B alM := ⟨Ro.nil _ _ _, Ro.nil _ _ _, Ro.nil _ _ _, Ro.nil _ _ _, Ro.nil _ _ _, fun s hs => by cases hs⟩
theorem alM_fit : MgFit alM := ⟨by simp [alM, noC], by simp [alM, noC], by simp [alM], by simp [alM], ⟨by simp [alM], (fun s hs => by cases hs)⟩, (fun s hs => by cases hs), (fun s hs => by cases hs)⟩
theorem alM_bytes {cs : List UInt8} (h : IsME alM.x cs) : cs.length = 20 ∧ cs.getD 0 0 = 96 ∧ cs.getD 1 0 = 129 := by
  obtain ⟨cb, lb, h1, h2, h3⟩ := h
  obtain rfl : cb = [] := by
    rcases h1 with ⟨h, _⟩ | ⟨_, h⟩
    · exact absurd h (by decide)
    · exact h
  obtain rfl : lb = [] := by
    rcases h2 with ⟨h, _⟩ | ⟨_, h⟩
    · exact absurd h (by decide)
    · exact h
  have hl := h3.1
  rw [nat_fw_sum, fMg_sum] at hl
  have hl' : cs.length = 20 := by rw [hl]; rfl
  have hr := rd_of_pack (fMg_ok (mright_all alM_right) h1 h2) h3 []
  rw [List.append_nil] at hr
  obtain ⟨r, _⟩ := hr.app
  obtain ⟨q1, q2, q3, q4, _⟩ := r
  simp only [Nat.zero_add, Nat.reduceAdd] at q1 q2 q3 q4
  unfold tkN at q1 q2 q3 q4
  rw [hl'] at q1 q2 q3 q4
  rw [if_pos (by omega)] at q1 q2 q3 q4
  have e1 := num_add cs 0 4 4
  have e2 := num_add cs 8 3 5
  have f1 := num_byte cs 0 8 (by omega)
  have f2 := num_byte cs 8 8 (by omega)
  simp only [Nat.zero_add, Nat.reduceAdd] at e1 e2
  rw [q1, q2] at e1
  rw [q3, q4] at e2
  have g1 : num cs 0 8 = 96 := by rw [e1]; rfl
  have g2 : num cs 8 8 = 129 := by rw [e2]; rfl
  rw [g1] at f1
  rw [g2] at f2
  have b1 := (cs.getD 0 0).toNat_lt
  have b2 := (cs.getD 1 0).toNat_lt
  refine ⟨hl', ?_, ?_⟩
  · apply UInt8.toNat_inj.1
    have : (cs.getD 0 0).toNat = 96 := by
      simp only [Nat.zero_div, Nat.zero_mod, Nat.sub_zero, Nat.sub_self, Nat.pow_zero, Nat.div_one] at f1
      omega
    exact this
  · apply UInt8.toNat_inj.1
    have : (cs.getD 1 0).toNat = 129 := by
      have e : 8 / 8 = 1 := rfl
      rw [e] at f2
      simp only [Nat.mod_self, Nat.sub_zero, Nat.sub_self, Nat.pow_zero, Nat.div_one] at f2
      omega
    exact this

theorem Own.u8at {w : World} {g : Nat} {t : TypeId} {cs : List UInt8} (h : Own w g t (u8s cs)) (i : Nat) (hi : i < cs.length) : w.cell? ⟨g, i, none⟩ = some (.int .u8 ((cs.getD i 0).toNat : Nat)) := by
  rw [h.cell i]
  simp [u8s, List.getD, hi]
set_option maxHeartbeats 8000000 in
set_option maxRecDepth 100000 in
theorem alive10_any (w : World) : Calls Tryz.prog 6 #[] w fun e w' => e = .returned (.bool true) ∧ Below w.heap.size w w' := by
  have HEN := Lib.hid (fun (W : World) (hW : 0 ≤ W.heap.size) => menc_yes alM 0 W (alM_in W 0) hW alM_fit alM_right)
  have HAN := Lib.hid (fun (W : World) => answer_any alM 84 W)
  have HBY := Lib.hid (fun (cs : List UInt8) (h : IsME alM.x cs) => alM_bytes h)
  have HZ : Hid (Own (w.alloc (.cells #[.int .i64 0, .int .i64 0, .int .i64 0, .int .i64 0, .int .i64 0, .int .i64 0, .int .i64 0, .int .u64 0, .int .u64 0, .int .i64 0, .int .i64 0, .slice none 0 0, .slice none 0 0, .slice none 0 0, .slice none 0 0, .int .i64 0, .int .i64 0, .int .i64 0, .int .i64 0, .int .u64 0, .slice none 0 0, .int .i64 0] 40)) w.heap.size 40 zmT.cs) := Lib.hid (Own.new w 40 zmT.cs)
  simp only [MgT.val] at HEN
  go_enter Tryz.func6, Tryz.ntmps6
  go_wp2_with (refine wpList_storeMg rfl (.tmp 1) (.tmp 7) rfl w.heap.size rfl alM rfl zmT.cs HZ.out rfl ?_)
  intro w1 ho hc
  have HO1 := Lib.hid ho
  have HB1 : Hid (Below w.heap.size w w1) := Lib.hid (((Chg.refl [] w).alloc _).then hc (fun x hx => by simp only [List.mem_singleton] at hx; subst hx; exact .inr (Nat.le_refl _))).low
  clear ho hc
  go_wp2_with (refine wpList_loadMg rfl (.tmp 1) rfl w.heap.size rfl alM HO1.out ?_)
  refine (HEN.out w1 (Nat.zero_le _)).mono ?_
  rintro e w2 ⟨g, cs, rfl, hg, he, ho, hb⟩
  obtain ⟨y1, y2, y3⟩ := HBY.out cs he
  have HCS := Lib.hid (And.intro (And.intro y1 (And.intro y2 y3)) ho)
  have HB2 := Lib.hid (HB1.out.trans (hb.mono HB1.out.size))
  have HO2 := Lib.hid (HO1.out.below hb HO1.out.lt)
  clear hg he ho hb y2 y3
  rw [y1]
  clear y1
  go_wp2_with (refine wpList_loadMg rfl (.tmp 1) rfl w.heap.size rfl alM HO2.out ?_)
  refine (HAN.out w2).mono ?_
  rintro e w3 ⟨rfl, hb⟩
  have HB3 := Lib.hid (HB2.out.trans (hb.mono HB2.out.size))
  have HG3 := Lib.hid (HCS.out.2.below hb HCS.out.2.lt)
  have HZ3 : Hid (Own (w3.alloc (.cells #[.int .i64 0, .int .i64 0, .int .i64 0, .int .i64 0, .int .i64 0, .int .i64 0, .int .i64 0, .int .u64 0, .int .u64 0, .int .i64 0, .int .i64 0, .slice none 0 0, .slice none 0 0, .slice none 0 0, .slice none 0 0, .int .i64 0, .int .i64 0, .int .i64 0, .int .i64 0, .int .u64 0, .slice none 0 0, .int .i64 0] 40)) w3.heap.size 40 zmT.cs) := Lib.hid (Own.new w3 40 zmT.cs)
  clear hb
  go_wp2_with (refine wpList_storeMg rfl (.tmp 4) (.tmp 14) rfl w3.heap.size rfl (ansT alM 84) rfl zmT.cs HZ3.out rfl ?_)
  intro w4 ho hc
  have HO4 := Lib.hid ho
  have hc4 : Chg [] w3 w4 := ((Chg.refl [] w3).alloc _).then hc (fun x hx => by simp only [List.mem_singleton] at hx; subst hx; exact .inr (Nat.le_refl _))
  have HB4 : Hid (Below w.heap.size w w4) := Lib.hid (HB3.out.trans (hc4.low.mono HB3.out.size))
  have hg4 := HG3.out.chg hc4 (by simp)
  have d0 := hg4.u8at 0 (by rw [HCS.out.1.1]; omega)
  have d1 := hg4.u8at 1 (by rw [HCS.out.1.1]; omega)
  rw [HCS.out.1.2.1] at d0
  rw [HCS.out.1.2.2] at d1
  have a0 := HO4.out.cell 0
  have a3 := HO4.out.cell 3
  have a4 := HO4.out.cell 4
  have a6 := HO4.out.cell 6
  have a9 := HO4.out.cell 9
  have hz := HO4.out.lt
  have hgl := hg4.lt
  simp [MgT.cs, ansT, alM] at a0 a3 a4 a6 a9
  replace d0 : w4.cell? ⟨g, 0, none⟩ = some (.int .u8 96) := d0
  replace d1 : w4.cell? ⟨g, 1, none⟩ = some (.int .u8 129) := d1
  clear ho hc hc4 hg4
  go_wp2_with fail
  go_ret
  exact ⟨rfl, HB4.out⟩
end Go.Proofs.YtdpaofedepnnbaaGreat
namespace Go.Proofs.YtdpaofedepnnbaaGreat
open Go.RowKit Go.Deep Go.Shelf
set_option linter.unusedVariables false
set_option linter.unusedSimpArgs false

theorem wpList_loadMgW {ops : Array Oper} {rest : List Oper} {o : Oper} {a : Act} {w : World} {Q : Exit → Act → World → Prop} (x : Operand) (ho : o.op = .load 40 x) (b : Nat) (hx : a.eval x = .pointer (some ⟨b, 0, none⟩)) (A : MgT) (hr : Own w b 40 A.cs) (hw : Region.wanted o (yielded ops a.tmps) = true)
    (h : wpList Tryz.prog ops Q rest (a.put o.dst (.agg A.cs.toArray)) w) : wpList Tryz.prog ops Q (o :: rest) a w :=
  wpList_step fun K hK => by
    rw [if_pos hw]
    exact wp_load_mid _ x ho b 0 hx A.cs _ hr.range Tryz.underlying40 rfl infoMg (hK _ _ h)
theorem me_less {x : Mg} {cs : List UInt8} (hr : mright x = true) (he : IsME x cs) {q : Nat} (hq : cs.length = q + 1) : ∀ y, mright y = true → ¬ IsME y (cs.take q) := fun y hy hey => by
  have h1 := pMg_enc hy hey (cs.drop q)
  rw [List.take_append_drop, pMg_enc' hr he] at h1
  subst h1
  have := congrArg List.length (he.unique hey)
  rw [List.length_take, hq] at this
  omega
theorem me_more {x : Mg} {cs : List UInt8} (hr : mright x = true) (he : IsME x cs) (t : List UInt8) (ht : 0 < t.length) : ∀ y, mright y = true → ¬ IsME y (cs ++ t) := fun y hy hey => by
  have h1 := pMg_enc hr he t
  rw [pMg_enc' hy hey] at h1
  subst h1
  have := congrArg List.length (he.unique hey)
  rw [List.length_append] at this
  omega
theorem me_bound {x : Mg} {cs : List UInt8} (hr : mright x = true) (he : IsME x cs) : 1 ≤ cs.length ∧ cs.length ≤ 1000 := by
  obtain ⟨cb, lb, hc, hl, hp⟩ := he
  have h1 := hp.1
  rw [nat_fw_sum, fMg_sum] at h1
  have hm := mright_all hr
  have h2 := hm.st.1
  have h3 := hm.bk.1
  have h4 : cb.length ≤ 200 := by
    rcases hc with ⟨r, e⟩ | ⟨_, rfl⟩
    · rcases enc_length e r with ⟨_, h⟩ | ⟨hk, h, _⟩
      · omega
      · obtain ⟨q1, q2, _⟩ := right_data r hk
        omega
    · simp
  have h5 : lb.length ≤ 100 := by
    rcases hl with ⟨r, e⟩ | ⟨_, rfl⟩
    · have h6 := e.1
      rw [nat_fw_sum] at h6
      have := fLy_sum r
      omega
    · simp
  omega
set_option maxHeartbeats 8000000 in
set_option maxRecDepth 100000 in
theorem messageBack_any (w : World) {A : MgT} (hA : MgOk w A) {ab : Option Addr} {nb cb : Nat} {zs : List Int} (hrow : IsRow .u8 w ab nb cb zs) :
    Calls Tryz.prog 4 #[.agg A.cs.toArray, .slice ab nb cb] w fun e w' => e = .returned (.bool true) ∧ Below w.heap.size w w' := by
  obtain ⟨bs, hbl, hbc, _, hbr⟩ := hrow.u8s
  have hnb := hrow.len_le
  clear hrow
  obtain ⟨W, HWW⟩ : ∃ W, Hid (w.alloc (.cells A.cs.toArray 40) = W) := ⟨_, Lib.hid rfl⟩
  have hWb : Below w.heap.size w W := by rw [← HWW.out]; exact (Below.refl _ _).alloc (Nat.le_refl _) _
  have HO := Lib.hid (show Own W w.heap.size 40 A.cs by rw [← HWW.out]; exact Own.new w _ _)
  have HZ := Lib.hid HO.out.lt
  have HWB := Lib.hid hWb
  have HAL := Lib.hid alive10_any
  have hin := fun (W' : World) (hb : Below W.heap.size W W') => hA.inn.below (hWb.trans (hb.mono hWb.size)) (Nat.le_refl _)
  have HLA := Lib.hid hin
  have HFA := Lib.hid hA.fit
  have hsz := fun (W' : World) (hb : Below W.heap.size W W') => Nat.le_trans hWb.size hb.size
  have HF := Lib.hid (fun (W' : World) (hb : Below W.heap.size W W') => fits10_any A w.heap.size W' (hin W' hb) (hsz W' hb) hA.fit)
  have HRA := Lib.hid (fun (W' : World) (hb : Below W.heap.size W W') => mright_any A w.heap.size W' (hin W' hb) (hsz W' hb) hA.fit)
  have HEA := Lib.hid (fun (W' : World) (hb : Below W.heap.size W W') => menc_u A w.heap.size W' (hin W' hb) (hsz W' hb) hA.fit)
  have HDB := Lib.hid (fun (W' : World) (hb : Below W.heap.size W W') (hl : nb ≤ 1000000) => mdec_any bs nb ab cb w.heap.size W' hbl (hbr.below (hWb.trans (hb.mono hWb.size)) (Nat.le_refl _)) (hsz W' hb) hl)
  have HBR := Lib.hid (fun (W' : World) (hb : Below W.heap.size W W') => hbr.below (hWb.trans (hb.mono hWb.size)) (Nat.le_refl _))
  have HBL := Lib.hid hbl
  have HEND : Hid (∀ W', Below W.heap.size W W' → Below w.heap.size w W') := Lib.hid (fun W' h => hWb.trans (h.mono hWb.size))
  have HOW : Hid (∀ W', Below W.heap.size W W' → Own W' w.heap.size 40 A.cs) := Lib.hid (fun W' h => HO.out.below h HO.out.lt)
  simp only [MgT.val] at HRA
  clear hWb hbr hbl hbc hin hsz hA
  obtain ⟨X, HX⟩ : ∃ X, Hid (A.x = X) := ⟨_, Lib.hid rfl⟩
  rw [HX.out] at HEA HRA
  go_enter Tryz.func4, Tryz.ntmps4
  go_upto_region 1 with fail
  rw [HWW.out]
  go_wp2_with (refine wpList_loadMg rfl (.tmp 2) rfl w.heap.size rfl A HO.out ?_)
  refine (HF.out W (Below.refl _ _)).mono ?_
  rintro e w1 ⟨⟨t1, rfl⟩, hb1⟩
  have HB1 := Lib.hid hb1
  clear hb1
  cases t1 with
  | false =>
    go_wp2_with fail
    refine (HAL.out w1).mono ?_
    rintro e w3 ⟨rfl, hb3⟩
    have HE := Lib.hid (HEND.out _ (HB1.out.trans (hb3.mono HB1.out.size)))
    clear hb3
    go_wp2_with fail
    go_ret
    exact ⟨rfl, HE.out⟩
  | true =>
  by_cases hl : 600 < nb
  · go_wp2_with fail
    refine (HAL.out w1).mono ?_
    rintro e w3 ⟨rfl, hb3⟩
    have HE := Lib.hid (HEND.out _ (HB1.out.trans (hb3.mono HB1.out.size)))
    clear hb3
    go_wp2_with fail
    go_ret
    exact ⟨rfl, HE.out⟩
  go_wp2_with fail
  refine (HDB.out w1 HB1.out (by omega)).mono ?_
  rintro e w3 ⟨ok, g, T, rfl, hD⟩
  have hg := hD.code
  have HD := Lib.hid hD
  have HB3 := Lib.hid (HB1.out.trans (hD.below.mono HB1.out.size))
  have HDX := Lib.hid (fun (W' : World) (hb : Below w3.heap.size w3 W') => menc_u T w3.heap.size W' (hD.inn.below hb (Nat.le_refl _)) hb.size hD.fit)
  have HDR := Lib.hid (fun (W' : World) (hb : Below w3.heap.size w3 W') => mright_any T w3.heap.size W' (hD.inn.below hb (Nat.le_refl _)) hb.size hD.fit)
  simp only [MgT.val] at HDR
  clear hD
  obtain ⟨x3, hx3⟩ : ∃ x, T.x = x := ⟨_, rfl⟩
  rw [hx3] at HDX HDR
  have HX3 := Lib.hid hx3
  clear hx3
  go_wp2_with (refine wpList_storeMg rfl (.tmp 6) (.tmp 31) rfl w3.heap.size rfl T rfl zmT.cs (Own.new w3 _ zmT.cs) rfl ?_)
  intro W3 ho hc
  have hb13 : Chg [] w3 W3 := ((Chg.refl [] w3).alloc _).then hc (fun x hx => by simp only [List.mem_singleton] at hx; subst hx; exact .inr (Nat.le_refl _))
  obtain ⟨p, hp⟩ : ∃ p, w3.heap.size = p := ⟨_, rfl⟩
  have HW3 : Hid (Below W.heap.size W W3) := Lib.hid (HB3.out.trans (hb13.low.mono HB3.out.size))
  have HW33 : Hid (Below w3.heap.size w3 W3) := Lib.hid hb13.low
  rw [hp] at ho ⊢
  have HP3 := Lib.hid ho
  clear ho hc hb13 hp
  go_upto_if 34 with fail
  go_cut [] from 35 (fun wx => Hid (Below W.heap.size W wx))
  case first =>
    cases ok with
    | false =>
      go_wp2_with fail
      go_meet
      case rel => exact HW3
    | true =>
      obtain ⟨y1, y2, y3⟩ := HD.out.yes rfl
      have y3' : x3 = pMg bs := HX3.out.symm.trans y3
      rw [← y3'] at y1 y2
      have HY2 := Lib.hid y2
      have HY1 := Lib.hid y1
      clear y1 y2 y3 y3'
      go_wp2_with (refine wpList_loadMg rfl (.tmp 6) rfl p rfl T HP3.out ?_)
      refine (HDX.out W3 HW33.out).mono ?_
      rintro e w4 ⟨ok4, g4, a4, cs, rfl, hE⟩
      cases ok4 with
      | false =>
        have := (hE.no rfl).2.1
        rw [HY1.out] at this
        cases this
      | true =>
      have hcs := (hE.yes rfl).2.unique HY2.out
      subst hcs
      have e4 : (g4 != 0) = false := hE.code
      have HR4 := Lib.hid hE.ro
      have HB4 := Lib.hid (HW3.out.trans (hE.below.mono HW3.out.size))
      have HB34 := Lib.hid (HW33.out.trans (hE.below.mono HW33.out.size))
      have HP4 := Lib.hid (HP3.out.below hE.below HP3.out.lt)
      have v1 := conv_ro (c := nb) HR4.out HBL.out
      have v2 := conv_ro (c := cb) (HBR.out w4 HB4.out) HBL.out
      have HBL2 := HBL.out
      rw [HBL2]
      have HRR := HDR.out w4 HB34.out
      rw [HY1.out] at HRR
      have HRR' := Lib.hid HRR
      clear hE HBL2 HRR
      go_wp2_with (refine wpList_loadMgW (.tmp 6) (by rfl) p (by rfl) T HP4.out (by first | rfl | kernel_rfl | simp [Region.wanted, yielded]) ?_)
      refine HRR'.out.mono ?_
      rintro e w5 ⟨rfl, hb5⟩
      have HB5 := Lib.hid (HB4.out.trans (hb5.mono HB4.out.size))
      clear hb5 v1 v2
      go_wp2_with fail
      go_meet
      case rel => exact HB5
  case rest =>
    rename World => wq
    have HBQ := hcut
    clear hcut HW3 HW33 HP3 HD HDX HDR HX3 HB3 hg
    have HOQ := Lib.hid (HOW.out wq HBQ.out)
    go_wp2_with (refine wpList_loadMg rfl (.tmp 2) rfl w.heap.size rfl A HOQ.out ?_)
    refine (HEA.out wq HBQ.out).mono ?_
    rintro e w5 ⟨ok5, g5, a5, cs, rfl, hE⟩
    have HE5 := Lib.hid hE
    have HB5 := Lib.hid (HBQ.out.trans (hE.below.mono HBQ.out.size))
    have e5 := hE.code
    clear hE
    obtain ⟨nl, hnl⟩ : ∃ nl, cs.length = nl := ⟨_, rfl⟩
    have HNL := Lib.hid hnl
    rw [hnl]
    clear hnl
    cases ok5 with
    | false =>
      have e6 : (g5 != 0) = true := e5
      obtain ⟨rfl, hr, -⟩ := HE5.out.no rfl
      have HR := Lib.hid hr
      clear e5 e6 hr
      go_wp2_with fail
      refine (HAL.out w5).mono ?_
      rintro e w6 ⟨rfl, hb6⟩
      have HB6 := Lib.hid (HB5.out.trans (hb6.mono HB5.out.size))
      clear hb6
      have HO6 := Lib.hid (HOW.out w6 HB6.out)
      have hRR := HRA.out w6 HB6.out
      rw [HR.out] at hRR
      have HRR := Lib.hid hRR
      clear hRR
      dsimp only
      go_step
      try simp only [List.append]
      go_wp2_with (refine wpList_loadMgW (.tmp 2) (by rfl) w.heap.size (by rfl) A HO6.out (by first | rfl | kernel_rfl | simp [Region.wanted, yielded]) ?_)
      refine HRR.out.mono ?_
      rintro e w7 ⟨rfl, hb7⟩
      have HB7 := Lib.hid (HB6.out.trans (hb7.mono HB6.out.size))
      clear hb7
      go_wp2_with fail
      go_ret
      exact ⟨rfl, HEND.out _ HB7.out⟩
    | true =>
      have e6 : (g5 != 0) = false := e5
      obtain ⟨hr, he⟩ := HE5.out.yes rfl
      have HR := Lib.hid hr
      have HME := Lib.hid he
      have HN1 : Hid (1 ≤ nl ∧ nl ≤ 1000) := Lib.hid (by rw [← HNL.out]; exact me_bound hr he)
      have HRO : Hid (∀ W', Below w5.heap.size w5 W' → Ro W' w5.heap.size a5 (u8s cs)) := Lib.hid (fun W' h => HE5.out.ro.below h (Nat.le_refl _))
      clear hr he e5
      obtain ⟨qn, rfl⟩ : ∃ qn, nl = qn + 1 := ⟨nl - 1, by have := HN1.out; omega⟩
      obtain ⟨ad, rfl⟩ : ∃ ad, a5 = some ad := Option.ne_none_iff_exists'.1 (HE5.out.nn rfl)
      go_wp2_with fail
      refine (mdec_any cs (qn + 1) (some ad) (qn + 1) w5.heap.size w5 HNL.out HE5.out.ro (Nat.le_refl _) (by have := HN1.out; omega)).mono ?_
      rintro e w6 ⟨ok6, g6, T6, rfl, hD6⟩
      cases ok6 with
      | false => exact absurd HME.out ((hD6.no rfl).2 X HR.out)
      | true =>
      have e7 : (g6 == 0) = true := hD6.code
      have hx6 : T6.x = A.x := ((hD6.yes rfl).2.2.trans (pMg_enc' HR.out HME.out)).trans HX.out.symm
      have HB6 := Lib.hid (HB5.out.trans (hD6.below.mono HB5.out.size))
      have HS6 : Hid (∀ W', Below w6.heap.size w6 W' → Calls Tryz.prog 16 #[.agg T6.cs.toArray, .agg A.cs.toArray] W' fun e w' => e = .returned (.bool true) ∧ Below W'.heap.size W' w') := Lib.hid (fun W' h => by
        have hb := HB6.out.trans (h.mono HB6.out.size)
        exact msame_eq T6 A hx6 W'.heap.size W' ((hD6.inn.below h (Nat.le_refl _)).mono h.size) ((HLA.out W' hb).mono (HEND.out W' hb).size) (Nat.le_refl _) hD6.fit HFA.out)
      have HB56 := Lib.hid hD6.below
      clear hD6 hx6
      go_wp2_with (refine wpList_storeMg rfl (.tmp 12) (.tmp 74) rfl w6.heap.size rfl T6 rfl zmT.cs (Own.new w6 _ zmT.cs) rfl ?_)
      intro W6 ho hc
      have hb6 : Chg [] w6 W6 := ((Chg.refl [] w6).alloc _).then hc (fun x hx => by simp only [List.mem_singleton] at hx; subst hx; exact .inr (Nat.le_refl _))
      obtain ⟨p6, hp⟩ : ∃ p, w6.heap.size = p := ⟨_, rfl⟩
      have HBW6 : Hid (Below W.heap.size W W6) := Lib.hid (HB6.out.trans (hb6.low.mono HB6.out.size))
      have HB5W : Hid (Below w5.heap.size w5 W6) := Lib.hid (HB56.out.trans (hb6.low.mono HB56.out.size))
      have HB6W : Hid (Below w6.heap.size w6 W6) := Lib.hid hb6.low
      rw [hp] at ho ⊢
      have HP6 := Lib.hid ho
      clear ho hc hb6 hp
      have hq1 : (qn : Int) ≤ 1000 := by have := HN1.out; omega
      go_wp2_with fail
      refine (mdec_any (cs.take qn) qn (some ad) (qn + 1) w5.heap.size W6 (by rw [List.length_take, HNL.out]; omega) (by have := (HRO.out W6 HB5W.out).take qn; simpa [u8s] using this) HB5W.out.size (by have := HN1.out; omega)).mono ?_
      rintro e w7 ⟨ok7, g7, T7, rfl, hD7⟩
      cases ok7 with
      | true => exact absurd (hD7.yes rfl).2.1 (me_less HR.out HME.out HNL.out _ (hD7.yes rfl).1)
      | false =>
      obtain ⟨rfl, -⟩ := hD7.no rfl
      have HB7 := Lib.hid (HBW6.out.trans (hD7.below.mono HBW6.out.size))
      have HB57 := Lib.hid (HB5W.out.trans (hD7.below.mono HB5W.out.size))
      have HB67 := Lib.hid (HB6W.out.trans (hD7.below.mono HB6W.out.size))
      have HP7 := Lib.hid (HP6.out.below hD7.below HP6.out.lt)
      clear hD7
      go_wp2_with (refine wpList_storeMg rfl (.tmp 14) (.tmp 83) rfl w7.heap.size rfl T7 rfl zmT.cs (Own.new w7 _ zmT.cs) rfl ?_)
      intro W7 ho hc
      have hb7 : Chg [] w7 W7 := ((Chg.refl [] w7).alloc _).then hc (fun x hx => by simp only [List.mem_singleton] at hx; subst hx; exact .inr (Nat.le_refl _))
      have HBW7 : Hid (Below W.heap.size W W7) := Lib.hid (HB7.out.trans (hb7.low.mono HB7.out.size))
      have HB5W7 : Hid (Below w5.heap.size w5 W7) := Lib.hid (HB57.out.trans (hb7.low.mono HB57.out.size))
      have HB6W7 : Hid (Below w6.heap.size w6 W7) := Lib.hid (HB67.out.trans (hb7.low.mono HB67.out.size))
      have HPW7 := Lib.hid (HP7.out.below hb7.low HP7.out.lt)
      clear ho hc hb7
      have HEl : Hid (Lst (W7.alloc (.cells #[] 5)) W7.heap.size 5 (.slice (some ⟨W7.heap.size, 0, none⟩) 0 0) []) := Lib.hid (Lst.lit W7 W7.heap.size 5 #[] (Nat.le_refl _) (by decide))
      have HXl : Hid ((u8s cs).length = (qn + 1)) := Lib.hid (by rw [u8s_length]; exact HNL.out)
      have HB7e : Hid (Below W7.heap.size W7 (W7.alloc (.cells #[] 5))) := Lib.hid ((Below.refl _ _).alloc (Nat.le_refl _) _)
      have HRE : Hid (Ro (W7.alloc (.cells #[] 5)) w5.heap.size (some ad) (u8s cs)) := Lib.hid (HRO.out _ (HB5W7.out.alloc HB5W7.out.size _))
      go_wp2_with (at_builtin; refine wpList_appB rfl (.tmp 86) (.tmp 87) 29 rfl W7.heap.size 5 (.int .u8 0) 1 Tryz.underlying29 Tryz.info_u8 rfl (.slice (some ⟨W7.heap.size, 0, none⟩) 0 0) [] rfl HEl.out (some ad) w5.heap.size (qn + 1) (qn + 1) (u8s cs) rfl HXl.out HRE.out (u8s_oneCell _) (by simp; have := HN1.out; omega) (by simp; have := HN1.out; omega) W7.heap.size W7 HB7e.out (Nat.le_refl _) (by simp) ?_)
      intro v1 wa hl1 hb1 hs1
      have HL1 := Lib.hid (show Lst wa _ _ v1 (u8s cs) from hl1.out)
      have HBa := Lib.hid hb1
      clear hl1 hb1 hs1
      obtain ⟨a8, c8, rfl, -, -, -⟩ := HL1.out.form
      rw [HXl.out] at HL1 ⊢
      go_wp2_with (at_builtin; refine wpList_app1 rfl (.tmp 88) (.tmp 89) 29 rfl W7.heap.size 5 (.int .u8 0) 1 Tryz.underlying29 Tryz.info_u8 rfl (.int .u8 0) rfl (.slice a8 (qn + 1) c8) (u8s cs) rfl HL1.out rfl (by have := HXl.out; have := HN1.out; omega) (by have := HXl.out; have := HN1.out; omega) W7.heap.size W7 HBa.out (Nat.le_refl _) HBa.out.size ?_)
      intro v2 wb hl2 hb2 hs2
      have HL2 := Lib.hid (show Lst wb _ _ v2 (u8s (cs ++ [0])) by have := hl2.out; simpa [u8s] using this)
      have HBb := Lib.hid hb2
      clear hl2 hb2 hs2
      obtain ⟨a9, c9, rfl, hr9, -, -⟩ := HL2.out.form
      have HR9 := Lib.hid hr9
      have HX9 : Hid ((cs ++ [0]).length = (qn + 1) + 1) := Lib.hid (by rw [List.length_append, HNL.out]; rfl)
      have HBW8 : Hid (Below W.heap.size W wb) := Lib.hid (HBW7.out.trans (HBb.out.mono HBW7.out.size))
      have HB68 : Hid (Below w6.heap.size w6 wb) := Lib.hid (HB6W7.out.trans (HBb.out.mono HB6W7.out.size))
      have HPW8 := Lib.hid (HPW7.out.below HBb.out HPW7.out.lt)
      rw [u8s_length, HX9.out]
      clear hr9
      go_wp2_with fail
      refine (mdec_any (cs ++ [0]) ((qn + 1) + 1) a9 c9 wb.heap.size wb HX9.out HR9.out (Nat.le_refl _) (by have := HN1.out; omega)).mono ?_
      rintro e w9 ⟨ok9, g9, T9, rfl, hD9⟩
      cases ok9 with
      | true => exact absurd (hD9.yes rfl).2.1 (me_more HR.out HME.out [0] (by simp) _ (hD9.yes rfl).1)
      | false =>
      obtain ⟨rfl, -⟩ := hD9.no rfl
      have HB9 := Lib.hid (HBW8.out.trans (hD9.below.mono HBW8.out.size))
      have HB69 := Lib.hid (HB68.out.trans (hD9.below.mono HB68.out.size))
      have HP9 := Lib.hid (HPW8.out.below hD9.below HPW8.out.lt)
      clear hD9
      go_wp2_with (refine wpList_storeMg rfl (.tmp 16) (.tmp 92) rfl w9.heap.size rfl T9 rfl zmT.cs (Own.new w9 _ zmT.cs) rfl ?_)
      intro W9 ho hc
      have hb9 : Chg [] w9 W9 := ((Chg.refl [] w9).alloc _).then hc (fun x hx => by simp only [List.mem_singleton] at hx; subst hx; exact .inr (Nat.le_refl _))
      have HBW9 : Hid (Below W.heap.size W W9) := Lib.hid (HB9.out.trans (hb9.low.mono HB9.out.size))
      have HB6W9 : Hid (Below w6.heap.size w6 W9) := Lib.hid (HB69.out.trans (hb9.low.mono HB69.out.size))
      have HPW9 := Lib.hid (HP9.out.below hb9.low HP9.out.lt)
      clear ho hc hb9
      go_upto_region 15 with fail
      go_wp2_with fail
      refine (HAL.out W9).mono ?_
      rintro e w10 ⟨rfl, hb10⟩
      have HB10 := Lib.hid (HBW9.out.trans (hb10.mono HBW9.out.size))
      have HB6X := Lib.hid (HB6W9.out.trans (hb10.mono HB6W9.out.size))
      have HPX := Lib.hid (HPW9.out.below hb10 HPW9.out.lt)
      have HOX := Lib.hid (HOW.out w10 HB10.out)
      clear hb10
      dsimp only
      go_step
      try simp only [List.append]
      go_wp2_with (first | refine wpList_loadMgW (.tmp 12) (by rfl) p6 (by rfl) T6 HPX.out (by first | rfl | kernel_rfl | simp [Region.wanted, yielded]) ?_ | refine wpList_loadMgW (.tmp 2) (by rfl) w.heap.size (by rfl) A HOX.out (by first | rfl | kernel_rfl | simp [Region.wanted, yielded]) ?_)
      refine (HS6.out w10 HB6X.out).mono ?_
      rintro e w11 ⟨rfl, hb11⟩
      have HE := Lib.hid (HEND.out _ (HB10.out.trans (hb11.mono HB10.out.size)))
      clear hb11
      go_wp2_with fail
      go_ret
      exact ⟨rfl, HE.out⟩
end Go.Proofs.YtdpaofedepnnbaaGreat
