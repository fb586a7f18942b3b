/-
  The document's Next of a layout, by its contract. Lemmas, no claim of their own.
-/
import Derived.Test.YtkdgoopldaoihaaGb20
namespace Go.Proofs.Ytkdgoopldaoihaa
open Go.RowKit Go.Deep Go.Shelf
set_option linter.unusedVariables false
set_option linter.unusedSimpArgs false

/-- pairs of chains as plain lists -/
def DDx (D : List (ChT × ChT)) : List (List Int × List Int) := D.map fun p => (p.1.u, p.2.u)
theorem DDx_look (D : List (ChT × ChT)) (c : List Int) : lookF (DDx D) c = (dnF D c).map fun p => p.2.u := by
  unfold lookF DDx dnF
  induction D with
  | nil => rfl
  | cons p D ih =>
    simp only [List.map_cons, List.find?_cons]
    by_cases h : p.1.u = c
    · simp [h]
    · simp only [h, decide_false]
      exact ih
/-- chains that came in, and chains of the call's own -/
def DnI (w : World) (B base : Nat) (D : List (ChT × ChT)) : Prop := ∀ p ∈ D, Ro w B p.1.a (i64s p.1.u) ∧ p.1.u.length ≤ 1000000 ∧ Lst w base 3 p.2.val (i64s p.2.u)
theorem DnI.chg {w w' : World} {B base : Nat} {D : List (ChT × ChT)} {l : List Nat} (h : DnI w B base D) (hc : Chg l w w') (hB : B ≤ w.heap.size) (hl : ∀ x ∈ l, B ≤ x) (ht : ∀ x ∈ l, ∀ cur, w.heap[x]? ≠ some (.cells cur 3 (0, 0))) : DnI w' B base D :=
  fun p hp => ⟨(h p hp).1.below (hc.below hB hl) (Nat.le_refl _), (h p hp).2.1, (h p hp).2.2.chg hc ht⟩
theorem GwS.fit {w : World} {base : Nat} {Ts : List SgT} (h : GwS w base Ts) (hl : Ts.length ≤ 1000000) : SgFit Ts := by
  have hm : maxLen ≤ 9223372036854775807 := by unfold maxLen; omega
  refine ⟨by omega, fun s hs => ⟨?_, fun c hc => ?_⟩⟩
  · have := (h s hs).1.len_le
    rw [chv_length] at this
    omega
  · have := ((h s hs).2 c hc).len_le
    rw [i64s_length] at this
    omega
theorem leftOf_take {dr cu : List Int} {j : Nat} (hj : j < cu.length) : leftOf dr (cu.take (j + 1)) = if cu.getD j 0 ∈ dr then leftOf dr (cu.take j) else leftOf dr (cu.take j) ++ [cu.getD j 0] := by
  rw [i64_take hj]
  unfold leftOf
  rw [List.filter_append]
  generalize cu.getD j 0 = y
  by_cases h : y ∈ dr
  · simp [h]
  · simp [h]
theorem leftOf_len (dr cu : List Int) : (leftOf dr cu).length ≤ cu.length := List.length_filter_le _ _
theorem fill1_have {dr : List Int} {D : List (ChT × ChT)} {fr cu : List Int} {p : ChT × ChT} (h : dnF D cu = some p) : fill1 dr (DDx D, fr) cu = (0, (DDx D, fr), p.2.u) := by
  unfold fill1
  rw [DDx_look, h]
  rfl
theorem fill1_gone {dr : List Int} {D : List (ChT × ChT)} {fr cu : List Int} (h : dnF D cu = none) (h2 : (leftOf dr cu).length = 0) : fill1 dr (DDx D, fr) cu = (191, (DDx D, fr), []) := by
  unfold fill1
  rw [DDx_look, h]
  simp only [Option.map_none]
  rw [if_pos h2]
theorem fill1_few {dr : List Int} {D : List (ChT × ChT)} {fr cu : List Int} (h : dnF D cu = none) (h2 : (leftOf dr cu).length ≠ 0) (h3 : fr.length < cu.length - (leftOf dr cu).length) : fill1 dr (DDx D, fr) cu = (1, (DDx D, fr), []) := by
  unfold fill1
  rw [DDx_look, h]
  simp only [Option.map_none]
  rw [if_neg h2, if_pos h3]
theorem fill1_new {dr : List Int} {D : List (ChT × ChT)} {fr cu : List Int} {T U : ChT} {t : Nat} (h : dnF D cu = none) (h2 : (leftOf dr cu).length ≠ 0) (h3 : t = cu.length - (leftOf dr cu).length) (h4 : t ≤ fr.length) (hT : T.u = cu) (hU : U.u = leftOf dr cu ++ fr.take t) : fill1 dr (DDx D, fr) cu = (0, (DDx (D ++ [(T, U)]), fr.drop t), U.u) := by
  unfold fill1
  rw [DDx_look, h]
  simp only [Option.map_none]
  rw [if_neg h2, if_neg (by omega), ← h3]
  simp [DDx, hT, hU]
theorem fillC_ok {dr : List Int} {S S' : FS} {L : List (List Int)} {k : Nat} (hk : k < L.length) {c now : List Int} (hc : cx L k = c) (h : fill1 dr S c = (0, S', now)) : fillC dr S (L.drop k) = pre [now] (fillC dr S' (L.drop (k + 1))) := by
  subst hc
  rw [fillC_step dr S L k hk, h]
  rfl
theorem fillC_bad {dr : List Int} {S S' : FS} {L : List (List Int)} {k : Nat} (hk : k < L.length) {c now : List Int} {fc : Int} (hc : cx L k = c) (h : fill1 dr S c = (fc, S', now)) (h0 : fc ≠ 0) : (fillC dr S (L.drop k)).1 = fc := by
  subst hc
  rw [fillC_step dr S L k hk, h]
  simp only
  rw [if_neg h0]
theorem nextOf_err {x : Ly} {dr fr : List Int} {sq fc : Int} (h : lright x = true) (h1 : (fillS dr ([], fr) x.s).1 = fc) (h0 : fc ≠ 0) : nextOf x dr fr sq = (fc, ⟨0, [], 0⟩) := by
  unfold nextOf
  rw [if_pos h, h1, if_neg h0]
theorem nextOf_no {x : Ly} {dr fr : List Int} {sq : Int} (h : lright x = false) : nextOf x dr fr sq = (91, ⟨0, [], 0⟩) := by
  unfold nextOf
  rw [if_neg (by rw [h]; simp)]
theorem nextOf_end {x y : Ly} {dr fr : List Int} {sq : Int} (h : lright x = true) (h1 : (fillS dr ([], fr) x.s).1 = 0) (h2 : nextRaw x dr fr sq = y) : nextOf x dr fr sq = if lright y then (0, y) else (91, ⟨0, [], 0⟩) := by
  unfold nextOf
  rw [if_pos h, if_pos h1, h2]
theorem Lst.notT9 {w : World} {base : Nat} {e : TypeId} {v : Value} {xs : List Value} (h : Lst w base e v xs) {t' : TypeId} (ht : e ≠ t') : ∀ x ∈ rowOf v, ∀ cur, w.heap[x]? ≠ some (.cells cur t' (0, 0)) := by
  intro x hx cur he
  obtain ⟨_, cur', h2⟩ := h.row x hx
  rw [he] at h2
  injection h2 with h2
  injection h2 with _ h2 _
  exact ht h2.symm
theorem Lst.chgD {w w' : World} {base : Nat} {e : TypeId} {v : Value} {xs : List Value} {l : List Nat} (h : Lst w base e v xs) (hc : Chg l w w') (hd : ∀ x ∈ rowOf v, x ∉ l) : Lst w' base e v xs := by
  refine ⟨h.1, ?_⟩
  rcases h.2 with h1 | ⟨g, cap, cur, h1, h2, h3, h4⟩
  · exact .inl h1
  · exact .inr ⟨g, cap, cur, h1, h2, (hc.block g (Array.getElem?_eq_some_iff.1 h3).1 (hd g (by rw [h1]; simp [rowOf, Value.ownBlock]))).trans h3, h4⟩
theorem Sl.chgD {w w' : World} {base : Nat} {v : Value} {L : List SgT} {l : List Nat} (h : Sl w base v L) (hc : Chg l w w') (hd : ∀ x ∈ rowOf v, x ∉ l) : Sl w' base v L := by
  refine ⟨h.1, ?_⟩
  rcases h.2 with h1 | ⟨g, cap, cur, h1, h2, h3, h4⟩
  · exact .inl h1
  · exact .inr ⟨g, cap, cur, h1, h2, (hc.block g (Array.getElem?_eq_some_iff.1 h3).1 (hd g (by rw [h1]; simp [rowOf, Value.ownBlock]))).trans h3, h4⟩
/-- what stands already when a segment is begun: all in blocks below H -/
structure NxO (wr : World) (base H bx R p : Nat) (cb cr cp : List Value) (v : Value) (Ts : List SgT) : Prop where
  ob : Own wr bx 25 cb
  oR : Own wr R 25 cr
  op : Own wr p 25 cp
  sl : Sl wr base v Ts
  gw : GwS wr base Ts
  lt : bx < H ∧ R < H ∧ p < H ∧ ∀ x ∈ rowOf v, x < H
  lg : ∀ T ∈ Ts, (∀ x ∈ rowOf (.slice T.a T.ch.length T.c), x < H) ∧ ∀ c ∈ T.ch, ∀ x ∈ rowOf c.val, x < H
theorem rowOf_mem {v : Value} {x : Nat} (h : x ∈ rowOf v) : v.ownBlock = some x := by
  unfold rowOf at h
  cases e : v.ownBlock with
  | none => rw [e] at h; simp at h
  | some y => rw [e] at h; simp at h; rw [h]
theorem NxO.begin {w : World} {base bx R p : Nat} {cb cr cp : List Value} {v : Value} {Ts : List SgT} (h1 : Own w bx 25 cb) (h2 : Own w R 25 cr) (h3 : Own w p 25 cp) (h4 : Sl w base v Ts) (h5 : GwS w base Ts) : NxO w base w.heap.size bx R p cb cr cp v Ts :=
  ⟨h1, h2, h3, h4, h5, ⟨h1.lt, h2.lt, h3.lt, fun x hx => (h4.lt x (rowOf_mem hx)).2⟩, fun T hT => ⟨fun x hx => ((h5 T hT).1.lt x (rowOf_mem hx)).2, fun c hc x hx => ((h5 T hT).2 c hc |>.lt x (rowOf_mem hx)).2⟩⟩
theorem NxO.keep {w w' : World} {base H bx R p : Nat} {cb cr cp : List Value} {v : Value} {Ts : List SgT} {l : List Nat} (h : NxO w base H bx R p cb cr cp v Ts) (hc : Chg l w w') (hl : ∀ x ∈ l, H ≤ x ∨ ∃ cur, w.heap[x]? = some (.cells cur 82 (0, 0))) : NxO w' base H bx R p cb cr cp v Ts := by
  have own : ∀ {b : Nat} {cs : List Value}, b < H → Own w b 25 cs → b ∉ l := fun hb ho hm => by
    rcases hl _ hm with h1 | ⟨cur, h1⟩
    · omega
    · unfold Own at ho
      rw [ho] at h1
      injection h1 with h1
      injection h1 with _ h1 _
      exact absurd h1 (by decide)
  have row : ∀ {e : TypeId} {v : Value} {xs : List Value}, e ≠ 82 → (∀ x ∈ rowOf v, x < H) → Lst w base e v xs → ∀ x ∈ rowOf v, x ∉ l := fun he hv hL x hx hm => by
    rcases hl _ hm with h1 | ⟨cur, h1⟩
    · have := hv x hx; omega
    · obtain ⟨_, cur', h2⟩ := hL.row x hx
      rw [h2] at h1
      injection h1 with h1
      injection h1 with _ h1 _
      exact he h1
  refine ⟨h.ob.chg hc (own h.lt.1 h.ob), h.oR.chg hc (own h.lt.2.1 h.oR), h.op.chg hc (own h.lt.2.2.1 h.op), h.sl.chgD hc (fun x hx hm => ?_), fun T hT => ⟨(h.gw T hT).1.chgD hc (row (by decide) (h.lg T hT).1 (h.gw T hT).1), fun c hcc => ((h.gw T hT).2 c hcc).chgD hc (row (by decide) ((h.lg T hT).2 c hcc) ((h.gw T hT).2 c hcc))⟩, h.lt, h.lg⟩
  rcases hl _ hm with h1 | ⟨cur, h1⟩
  · have := h.lt.2.2.2 x hx; omega
  · obtain ⟨_, cur', h2⟩ := h.sl.row x hx
    rw [h2] at h1
    injection h1 with h1
    injection h1 with _ h1 _
    exact absurd h1 (by decide)
set_option maxHeartbeats 16000000 in
set_option maxRecDepth 100000 in
theorem dnext_any (A : LyT) (B : Nat) (dr fr : List Int) (a1 a2 : Option Addr) (c1 c2 : Nat) (sq : Int) (w : World) (h : LyIn w B A) (hB : B ≤ w.heap.size) (hf : SgFit A.sg) (hd : Ro w B a1 (i64s dr)) (hdl : dr.length ≤ 1000000) (hr : Ro w B a2 (i64s fr)) (hrl : fr.length ≤ 1000000) :
    Calls Try.prog 23 #[A.val, .slice a1 dr.length c1, .slice a2 fr.length c2, .int .i64 sq] w (R4 w (nextOf A.x dr fr sq)) := by
  obtain ⟨W, HWW⟩ : ∃ W, Hid ((w.alloc (.cells #[.int .u64 (A.e : Int), .slice A.a A.sg.length A.c, .int .i64 A.q] 25)).alloc (.cells #[.int .u64 0, .slice none 0 0, .int .i64 0] 25) = W) := ⟨_, Lib.hid rfl⟩
  have hWc : Chg [] w W := by rw [← HWW.out]; exact ((Chg.refl [] w).alloc _).alloc _
  have HR := Lib.hid (dlright_any A B W (h.below (hWc.below hB (by simp)) (Nat.le_refl _)) (Nat.le_trans hB hWc.size) hf)
  have HO : Hid (Own W w.heap.size 25 [.int .u64 (A.e : Int), .slice A.a A.sg.length A.c, .int .i64 A.q]) := Lib.hid (by rw [← HWW.out]; exact (Own.new w _ _).alloc _)
  obtain ⟨R, hR⟩ : ∃ R, w.heap.size + 1 = R := ⟨_, rfl⟩
  have HRE := Lib.hid hR
  have HOR : Hid (Own W R 25 [.int .u64 0, .slice none 0 0, .int .i64 0]) := Lib.hid (by
    rw [← HWW.out, ← hR]
    have := Own.new (w.alloc (.cells #[.int .u64 (A.e : Int), .slice A.a A.sg.length A.c, .int .i64 A.q] 25)) 25 [.int .u64 0, .slice none 0 0, .int .i64 0]
    simpa using this)
  have HC := Lib.hid hWc
  have HIN := Lib.hid (And.intro h (And.intro hd hr))
  have HBW := Lib.hid hB
  have HDL := Lib.hid hdl
  have HRL := Lib.hid hrl
  have HSV : Hid (lright A.x = true → SgV A.sg) := Lib.hid (fun h => SgV.of h)
  have HEP : Hid (lright A.x = true → A.e ≤ 1048576) := Lib.hid (fun h => (lright_iff.1 h).1.2)
  have HXS : Hid (A.x.s = sgx A.sg) := Lib.hid rfl
  have HXE : Hid (A.x.e = A.e) := Lib.hid rfl
  obtain ⟨x, hx⟩ : ∃ x, A.x = x := ⟨_, rfl⟩
  rw [hx] at HR HXS HXE HSV HEP ⊢
  obtain ⟨ep, sa, c, L, q⟩ := A
  simp only [LyT.val] at *
  obtain ⟨n, hn⟩ : ∃ n, L.length = n := ⟨_, rfl⟩
  have HN := Lib.hid hn
  rw [hn] at HO HWW HR ⊢
  obtain ⟨nd, hnd⟩ : ∃ n, dr.length = n := ⟨_, rfl⟩
  have HND := Lib.hid hnd
  obtain ⟨nf, hnf⟩ : ∃ n, fr.length = n := ⟨_, rfl⟩
  have HNF := Lib.hid hnf
  rw [hnd, hnf]
  rw [hnf] at HRL
  have HAS : Hid (dr.length = nd ∧ fr.length = nf) := Lib.hid ⟨hnd, hnf⟩
  obtain ⟨r, hr9⟩ : ∃ r, lright x = r := ⟨_, rfl⟩
  have HRR := Lib.hid hr9
  rw [hr9] at HR HSV HEP
  obtain ⟨res, hres⟩ : ∃ res, nextOf x dr fr sq = res := ⟨_, rfl⟩
  have HRES := Lib.hid hres
  rw [hres]
  have c0 := HO.out.cell 0
  have c1' := HO.out.cell 1
  have c2' := HO.out.cell 2
  have hz := HO.out.lt
  simp at c0 c1' c2'
  clear h hB hf hd hdl hr hrl hWc hx hn hnd hnf hr9 hres hR
  go_enter Try.func23, Try.ntmps23
  go_upto_region 1 with fail
  rw [HWW.out, HRE.out]
  go_wp2_with fail
  refine HR.out.mono ?_
  rintro e w1 ⟨rfl, hb⟩
  have HC1 := Lib.hid (HC.out.trans hb)
  have HO1 := Lib.hid (HO.out.chg hb (by simp))
  have HOR1 := Lib.hid (HOR.out.chg hb (by simp))
  clear hb c0 c1' c2' hz
  have HFAIL : Hid (∀ (fc : Int) (w' : World), fc ≠ 0 → nextOf x dr fr sq = (fc, ⟨0, [], 0⟩) → Chg [] w w' → R4 w res (.returned (.tuple #[zeroL, .int .i64 fc])) (((w'.setCell ⟨R, 0, none⟩ (.int .u64 0)).setCell ⟨R, 1, none⟩ (.slice none 0 0)).setCell ⟨R, 2, none⟩ (.int .i64 0))) := Lib.hid (fun fc w' h0 h1 h2 => by
    rw [← HRES.out, h1]
    refine ⟨?_, .inr ⟨h0, rfl⟩⟩
    have hRR : w.heap.size ≤ R := by have := HRE.out; omega
    exact ((h2.low.setCell hRR _).setCell hRR _).setCell hRR _)
  cases r with
  | false =>
    have r0 := HOR1.out.cell 0
    have r1 := HOR1.out.cell 1
    have r2 := HOR1.out.cell 2
    have f0 := HOR1.out.frozen 0
    have f1 := HOR1.out.frozen 1
    have f2 := HOR1.out.frozen 2
    have hz7 := HOR1.out.lt
    simp at r0 r1 r2
    go_wp2_with fail
    refine bodyPost_ret (v := .tuple #[zeroL, .int .i64 91]) (by simp [results, Try.results23, go_sem, r0, r1, r2, hz7]) rfl ?_
    exact HFAIL.out 91 _ (by decide) (nextOf_no HRR.out) HC1.out
  | true =>
  have hep := HEP.out (by trivial)
  have HV := Lib.hid (HSV.out (by trivial))
  have HN4 := Lib.hid HV.out.n
  have hn4 : (n : Int) ≤ 4 := by have := HN4.out; rw [HN.out] at this; omega
  obtain ⟨e1, he1⟩ : ∃ e1, ep + 1 = e1 := ⟨_, rfl⟩
  have HE1 := Lib.hid he1
  have HK1 : Hid (IntKind.u64.wrap ((ep : Int) + 1) = (e1 : Int)) := Lib.hid (by have := wrap_u64_nat e1 (by omega); rw [← he1] at this ⊢; simpa using this)
  have HK2 : Hid ((ep : Int) + 1 = (e1 : Int)) := Lib.hid (by omega)
  clear hep he1
  have d0 := HO1.out.cell 0
  have d1 := HO1.out.cell 1
  have d2 := HO1.out.cell 2
  have hz1 := HO1.out.lt
  simp at d0 d1 d2
  have k1 := HK1.out
  go_upto_region 5 with fail
  obtain ⟨p, hp⟩ : ∃ p, w1.heap.size = p := ⟨_, rfl⟩
  obtain ⟨W3, hW3⟩ : ∃ W3, w1.alloc (.cells #[.int .u64 (e1 : Int), .slice none 0 0, .int .i64 sq] 25) = W3 := ⟨_, rfl⟩
  have HC3 : Hid (Chg [] w W3) := Lib.hid (by rw [← hW3]; exact HC1.out.alloc _)
  have HO3 : Hid (Own W3 w.heap.size 25 [.int .u64 (ep : Int), .slice sa n c, .int .i64 q]) := Lib.hid (by rw [← hW3]; exact HO1.out.alloc _)
  have HOR3 : Hid (Own W3 R 25 [.int .u64 0, .slice none 0 0, .int .i64 0]) := Lib.hid (by rw [← hW3]; exact HOR1.out.alloc _)
  have HP3 : Hid (Own W3 p 25 [.int .u64 (e1 : Int), .slice none 0 0, .int .i64 sq]) := Lib.hid (by rw [← hW3, ← hp]; exact Own.new w1 _ _)
  have HPW : Hid (R < p) := Lib.hid (by rw [← hp]; exact HOR1.out.lt)
  first | rw [hW3, hp] | trace_state
  clear hW3 hp d0 d1 d2 hz1 k1
  go_wp2_with fail
  go_loopw [12, 13, 14] (fun v12 v13 v14 wr => ∃ (i u : Nat) (D : List (ChT × ChT)) (da : Option Addr) (nD dc : Nat) (al : Option Addr) (cl : Nat) (Ts : List SgT), i ≤ n ∧ v14 = .int .i64 (i : Int) ∧ v13 = .int .i64 (u : Int) ∧ v12 = .slice da nD dc ∧ Hid (D.length = nD ∧ D.length ≤ 4 * i) ∧ Hid (u ≤ nf) ∧ Hid (Ts.length = i) ∧ Hid (Dn wr w.heap.size (.slice da nD dc) D) ∧ Hid (DnI wr B w.heap.size D) ∧ Hid (Own wr w.heap.size 25 [.int .u64 (ep : Int), .slice sa n c, .int .i64 q]) ∧ Hid (Own wr R 25 [.int .u64 0, .slice none 0 0, .int .i64 0]) ∧ Hid (Own wr p 25 [.int .u64 (e1 : Int), .slice al i cl, .int .i64 sq]) ∧ Hid (Sl wr w.heap.size (.slice al i cl) Ts) ∧ Hid (GwS wr w.heap.size Ts) ∧ Hid (fillS dr ([], fr) x.s = pre (sgx Ts) (fillS dr (DDx D, fr.drop u) (x.s.drop i))) ∧ Hid (Chg [] w wr)) (fun _ _ i _ => n - (intOf i).toNat)
  case atStart => exact ⟨0, 0, [], none, 0, 0, none, 0, [], Nat.zero_le _, rfl, rfl, rfl, Lib.hid ⟨rfl, Nat.zero_le _⟩, Lib.hid (Nat.zero_le _), Lib.hid rfl, Lib.hid (Dn.nil _ _), Lib.hid (fun p hp => by cases hp), HO3, HOR3, HP3, Lib.hid (Sl.nil _ _), Lib.hid (fun s hs => by cases hs), Lib.hid (by simp [pre, sgx, DDx]), HC3⟩
  case round =>
    obtain ⟨i, u, D, da, nD, dc, al, cl, Ts, hi, rfl, rfl, rfl, HDL6, HU6, HTL, HDN, HDI, HOB, HORr, HPr, HSL, HGW, HEQ, HCr⟩ := hrel
    rename World => w6
    have d1 := HOB.out.cell 1
    have hzb := HOB.out.lt
    simp at d1
    by_cases hlt : i < n
    · have hiL : i < L.length := by rw [HN.out]; exact hlt
      have HB6 : Hid (Below w.heap.size w w6) := Lib.hid HCr.out.low
      obtain ⟨b, off, rfl, hb, hc⟩ := (HIN.out.1.1.below HB6.out HBW.out).sg (show 0 < L.length by omega)
      obtain ⟨s1, s2⟩ := hc i hiL
      have HBL : Hid (b < w.heap.size) := Lib.hid (Nat.lt_of_lt_of_le hb HBW.out)
      have hi0 : (0 : Int) ≤ (i : Int) := Int.natCast_nonneg i
      have hi1 : (i : Int) < (n : Int) := Int.ofNat_lt.2 hlt
      have HVi := Lib.hid (HV.out.sg i hiL)
      have HI2 := Lib.hid (HIN.out.1.2 _ (st_mem hiL))
      have HSXi : Hid (sx x.s i = (st L i).x) := Lib.hid (by rw [HXS.out, sx_sgx])
      have HIX : Hid (i < x.s.length) := Lib.hid (by rw [HXS.out, sgx_length]; exact hiL)
      obtain ⟨sgi, hsgi⟩ : ∃ s, st L i = s := ⟨_, rfl⟩
      have HSGI := Lib.hid hsgi
      rw [hsgi] at s1 s2 HVi HI2 HSXi
      obtain ⟨f, ca, cc, M⟩ := sgi
      simp only at s1 s2 HVi HI2
      have HSX2 : Hid ((sx x.s i) = (f, chx M)) := Lib.hid (by rw [HSXi.out]; rfl)
      obtain ⟨m, hm⟩ : ∃ m, M.length = m := ⟨_, rfl⟩
      have HM := Lib.hid hm
      rw [hm] at s2 HVi
      have hm4 : (m : Int) ≤ 4 := by have := HVi.out.2.1; omega
      have HS2 := Lib.hid (And.intro s1 s2)
      have hsb := World.block_lt_of_cell? _ _ s1
      clear hc hm hsgi hb s2
      go_upto_region 11 with fail
      obtain ⟨ps, hps⟩ : ∃ p, w6.heap.size = p := ⟨_, rfl⟩
      obtain ⟨W7, hW7⟩ : ∃ W3, w6.alloc (.cells #[.int .u64 (f : Int), .slice none 0 0] 49) = W3 := ⟨_, rfl⟩
      have ka : Chg [] w6 W7 := by rw [← hW7]; exact (Chg.refl [] w6).alloc _
      have HNX7 : Hid (NxO W7 w.heap.size w6.heap.size w.heap.size R p [.int .u64 (ep : Int), .slice (some ⟨b, off, none⟩) n c, .int .i64 q] [.int .u64 0, .slice none 0 0, .int .i64 0] [.int .u64 (e1 : Int), .slice al i cl, .int .i64 sq] (.slice al i cl) Ts) := Lib.hid ((NxO.begin HOB.out HORr.out HPr.out HSL.out HGW.out).keep ka (by simp))
      have HSZ7 : Hid (w6.heap.size ≤ W7.heap.size) := Lib.hid ka.size
      have HPS7 : Hid (Own W7 ps 49 [.int .u64 (f : Int), .slice none 0 0]) := Lib.hid (by rw [← hW7, ← hps]; exact Own.new w6 _ _)
      have HDN7 := Lib.hid (HDN.out.chg ka (by simp))
      have HDI7 := Lib.hid (HDI.out.chg ka (Nat.le_trans HBW.out HCr.out.size) (by simp) (by simp))
      have HCW7 := Lib.hid (HCr.out.trans ka)
      first | rw [hW7, hps] | trace_state
      have HPSE := Lib.hid hps
      clear hW7 hps ka s1 hsb d1 hzb
      go_wp2_with fail
      have HERRI0 : Hid (∀ fc : Int, fc ≠ 0 → (fillC dr (DDx D, fr.drop u) (chx M)).1 = fc → (fillS dr ([], fr) x.s).1 = fc) := Lib.hid (fun fc h0 h1 => by
        rw [HEQ.out]
        have h2 := fillS_at (dr := dr) (S := (DDx D, fr.drop u)) HIX.out HSX2.out (fc := fc) (fs := (fillC dr (DDx D, fr.drop u) (chx M)).2.1) (fx := (fillC dr (DDx D, fr.drop u) (chx M)).2.2) (by rw [← h1])
        rw [h2, if_neg h0]
        rfl)
      go_loopw [12, 13, 16] (fun v12 v13 v16 wr => ∃ (k u' : Nat) (D' : List (ChT × ChT)) (da' : Option Addr) (nD' dc' : Nat) (al2 : Option Addr) (cl2 : Nat) (Cs : List ChT), k ≤ m ∧ v16 = .int .i64 (k : Int) ∧ v13 = .int .i64 (u' : Int) ∧ v12 = .slice da' nD' dc' ∧ Hid (D'.length = nD' ∧ D'.length ≤ 4 * i + k) ∧ Hid (u' ≤ nf) ∧ Hid (Cs.length = k) ∧ Hid (Dn wr w.heap.size (.slice da' nD' dc') D') ∧ Hid (DnI wr B w.heap.size D') ∧ Hid (Own wr ps 49 [.int .u64 (f : Int), .slice al2 k cl2]) ∧ Hid (Lst wr w6.heap.size 36 (.slice al2 k cl2) (chv Cs)) ∧ Hid (GwC wr w.heap.size Cs) ∧ Hid (fillC dr (DDx D, fr.drop u) (chx M) = pre (chx Cs) (fillC dr (DDx D', fr.drop u') ((chx M).drop k))) ∧ Hid (NxO wr w.heap.size w6.heap.size w.heap.size R p [.int .u64 (ep : Int), .slice (some ⟨b, off, none⟩) n c, .int .i64 q] [.int .u64 0, .slice none 0 0, .int .i64 0] [.int .u64 (e1 : Int), .slice al i cl, .int .i64 sq] (.slice al i cl) Ts) ∧ Hid (w6.heap.size ≤ wr.heap.size) ∧ Hid (Chg [] w wr)) (fun _ _ k _ => m - (intOf k).toNat)
      case atStart => exact ⟨0, u, D, da, nD, dc, none, 0, [], Nat.zero_le _, rfl, rfl, rfl, Lib.hid ⟨HDL6.out.1, HDL6.out.2⟩, HU6, Lib.hid rfl, HDN7, HDI7, HPS7, Lib.hid (Lst.nil _ _ _), Lib.hid (fun s hs => by cases hs), Lib.hid (by simp [pre, chx]), HNX7, HSZ7, HCW7⟩
      case round =>
        obtain ⟨k, u', D', da', nD', dc', al2, cl2, Cs, hk, rfl, rfl, rfl, HDL7, HU7, HCL, HDNr, HDIr, HPSr, HLr, HGr, HEC, HNXr, HSZr, HCWr⟩ := hrel
        rename World => w7
        have HOB7 := Lib.hid HNXr.out.ob
        have d1 := HOB7.out.cell 1
        have hzb := HOB7.out.lt
        simp at d1
        have HB7 : Hid (Below w.heap.size w w7) := Lib.hid HCWr.out.low
        obtain ⟨b', off', hbo, _, hc⟩ := (HIN.out.1.1.below HB7.out HBW.out).sg (show 0 < L.length by omega)
        injection hbo with hbo
        injection hbo with hbo1 hbo2 _
        subst hbo1 hbo2
        obtain ⟨_, s2⟩ := hc i hiL
        rw [HSGI.out] at s2
        simp only at s2
        rw [HM.out] at s2
        clear hc
        by_cases hlt2 : k < m
        · have hkL : k < M.length := by rw [HM.out]; exact hlt2
          obtain ⟨b2, o2, rfl, hb2, hc2⟩ := (HI2.out.1.below HB7.out HBW.out).ch (show 0 < M.length by omega)
          have s3 := hc2 k hkL
          have hk0 : (0 : Int) ≤ (k : Int) := Int.natCast_nonneg k
          have hk1 : (k : Int) < (m : Int) := Int.ofNat_lt.2 hlt2
          have HCXk : Hid (cx (chx M) k = (ct M k).u) := Lib.hid (cx_chx M k)
          have HKX : Hid (k < (chx M).length) := Lib.hid (by rw [chx_length]; exact hkL)
          have HRC := Lib.hid (HI2.out.2 _ (ct_mem hkL))
          have HVk := Lib.hid (HVi.out.2.2 k hlt2).1
          generalize ct M k = ck at *
          obtain ⟨cka, ckc, cu⟩ := ck
          simp only at s3 HCXk HRC HVk
          obtain ⟨cn, hcn⟩ : ∃ m, cu.length = m := ⟨_, rfl⟩
          have HCN := Lib.hid hcn
          rw [hcn] at s3 HVk
          have hcn4 : (cn : Int) ≤ 4 := by have := HVk.out; omega
          obtain ⟨da9, dc9, hv9, hrd, _⟩ := HDNr.out.form
          injection hv9 with g1 g2 g3
          have HBC := Lib.hid (dbecame_any D' cu da' cka dc' ckc w7.heap.size w7 (by rw [g1]; exact hrd) (fun p hp => ⟨(HDIr.out p hp).1.mono (Nat.le_trans HBW.out HCWr.out.size), (HDIr.out p hp).2.1⟩) ((HRC.out.below HB7.out HBW.out).mono (Nat.le_trans HBW.out HCWr.out.size)) (Nat.le_refl _) (by have := HDL7.out; omega) (by have := HVk.out; have := HCN.out; omega))
          rw [HDL7.out.1, hcn] at HBC
          clear hc2 hcn g1 g2 g3 hrd hb2
          go_wp2_with fail
          refine HBC.out.mono ?_
          rintro e w8 ⟨hcase, hb8⟩
          have HB8 := Lib.hid hb8
          have k8 : Chg [] w7 w8 := ⟨hb8.os, hb8.tape, hb8.output, hb8.size, fun k hk _ => hb8.block k hk⟩
          have HNX8 := Lib.hid (HNXr.out.keep k8 (by simp))
          have HSZ8 := Lib.hid (Nat.le_trans HSZr.out k8.size)
          have HCW8 := Lib.hid (HCWr.out.trans k8)
          have HDN8 := Lib.hid (HDNr.out.chg k8 (by simp))
          have HDI8 := Lib.hid (HDIr.out.chg k8 (Nat.le_trans HBW.out HCWr.out.size) (by simp) (by simp))
          have HPS8 := Lib.hid (HPSr.out.chg k8 (by simp))
          have HL8 := Lib.hid (HLr.out.chg k8 (by simp))
          have HG8 := Lib.hid (HGr.out.chg k8 (by simp))
          clear hb8 k8 d1 hzb s2 s3
          have HERRI : Hid (∀ fc : Int, fc ≠ 0 → (fillC dr (DDx D', fr.drop u') ((chx M).drop k)).1 = fc → (fillS dr ([], fr) x.s).1 = fc) := Lib.hid (fun fc h0 h1 => HERRI0.out fc h0 (by rw [HEC.out]; exact h1))
          rcases hcase with ⟨pp, hpp, rfl⟩ | ⟨hpp, rfl⟩
          · have HF1 := Lib.hid (fill1_have (dr := dr) (fr := fr.drop u') hpp)
            have HMEM : Hid (pp ∈ D') := Lib.hid (List.mem_of_find?_eq_some hpp)
            have HLN := Lib.hid (HDI8.out _ HMEM.out).2.2
            obtain ⟨pp1, ⟨qa, qc, qu⟩⟩ := pp
            simp only [ChT.val] at HF1 HLN ⊢
            obtain ⟨qn, hqn⟩ : ∃ m, qu.length = m := ⟨_, rfl⟩
            have HQN := Lib.hid hqn
            rw [hqn] at HLN ⊢
            clear hpp hqn
            have HECk := Lib.hid (fillC_ok HKX.out HCXk.out HF1.out)
            have c1 := HPS8.out.cell 1
            have f1 := HPS8.out.frozen 1
            have hz1' := HPS8.out.lt
            simp at c1
            have HLC : Hid ((chv Cs).length = k) := Lib.hid (by rw [chv_length]; exact HCL.out)
            have HBS : Hid (w6.heap.size ≤ w8.heap.size) := Lib.hid HSZ8.out
            go_upto_region 30 with fail
            go_wp2_with (at_builtin; refine wpList_app1g rfl (.tmp 124) (.tmp 126) 41 rfl w6.heap.size 36 (.slice none 0 0) 24 Try.underlying41 Try.info_ch rfl (.slice qa qn qc) rfl (.slice al2 k cl2) (chv Cs) rfl HL8.out rfl (by have := HLC.out; have := HM.out; omega) (by have := HLC.out; omega) HBS.out ?_)
            intro v15 w15 hl15 hc15
            have KROW := Lib.hid HL8.out.row
            have KNT := Lib.hid (fun (t' : TypeId) (h : 36 ≠ t') => (fun x (hx : x ∈ rowOf (.slice al2 k cl2)) => HL8.out.notT9 h x hx))
            have K1 := Lib.hid (HPS8.out.chg hc15 (HL8.out.ownT HPS8.out (by decide)))
            have KDN := Lib.hid (HDN8.out.chg hc15 (KNT.out _ (by decide)))
            have KDI := Lib.hid (HDI8.out.chg hc15 (Nat.le_trans HBW.out HCW8.out.size) (fun x hx => Nat.le_trans HBW.out (Nat.le_trans HCr.out.size (KROW.out x hx).1)) (KNT.out _ (by decide)))
            have KNX := Lib.hid (HNX8.out.keep hc15 (fun x hx => .inl (KROW.out x hx).1))
            have KSZ := Lib.hid (Nat.le_trans HSZ8.out hc15.size)
            have KCW : Hid (Chg [] w w15) := Lib.hid (HCW8.out.then hc15 (fun x hx => .inr (Nat.le_trans HCr.out.size (KROW.out x hx).1)))
            have KG : Hid (GwC w15 w.heap.size (Cs ++ [⟨qa, qc, qu⟩])) := Lib.hid (by
              have h1 := HG8.out.chg hc15 (KNT.out _ (by decide))
              intro c hc
              rcases List.mem_append.1 hc with hc | hc
              · exact h1 c hc
              · simp only [List.mem_singleton] at hc
                subst hc
                show Lst w15 w.heap.size 3 (.slice qa qu.length qc) (i64s qu)
                rw [HQN.out]
                exact HLN.out.chg hc15 (KNT.out _ (by decide)))
            have KL : Hid (Lst w15 w6.heap.size 36 v15 (chv (Cs ++ [⟨qa, qc, qu⟩]))) := Lib.hid (by
              have := hl15.out
              have e : chv (Cs ++ [⟨qa, qc, qu⟩]) = chv Cs ++ [.slice qa qn qc] := by simp [chv, ChT.val, HQN.out]
              rw [e]
              exact this)
            have KLen : Hid ((chv (Cs ++ [⟨qa, qc, qu⟩])).length = k + 1) := Lib.hid (by have := HCL.out; simp; omega)
            have KEC : Hid (fillC dr (DDx D, fr.drop u) (chx M) = pre (chx (Cs ++ [⟨qa, qc, qu⟩])) (fillC dr (DDx D', fr.drop u') ((chx M).drop (k + 1)))) := Lib.hid (by rw [HEC.out, HECk.out, pre_pre]; simp [chx])
            obtain ⟨a15, c15, hv15, _, _, _⟩ := KL.out.form
            rw [KLen.out] at hv15
            subst hv15
            have c1' := K1.out.cell 1
            have f1' := K1.out.frozen 1
            have hz1'' := K1.out.lt
            simp at c1'
            clear hl15 hc15 c1 f1 hz1'
            go_wp2_with fail
            go_roundw
            case rel =>
              have sc : Chg [ps] w15 (w15.setCell ⟨ps, 1, none⟩ (.slice a15 (k + 1) c15)) := (Chg.refl _ w15).setCell (by simp) _
              have hpw : w6.heap.size ≤ ps := by have := HPSE.out; omega
              have hpw2 : w.heap.size ≤ ps := Nat.le_trans HCr.out.size hpw
              refine ⟨k + 1, u', D', da', nD', dc', a15, c15, Cs ++ [⟨qa, qc, qu⟩], hlt2, by go_num, rfl, rfl, Lib.hid (by have := HDL7.out; omega), HU7, Lib.hid (by rw [List.length_append, HCL.out]; rfl), Lib.hid (KDN.out.chg sc (K1.out.notT' (by decide))), Lib.hid (KDI.out.chg sc (Nat.le_trans HBW.out KCW.out.size) (fun x hx => by simp only [List.mem_singleton] at hx; subst hx; exact Nat.le_trans HBW.out hpw2) (K1.out.notT' (by decide))), Lib.hid (by have := K1.out.set 1 (.slice a15 (k + 1) c15); simpa using this), Lib.hid (KL.out.chg sc (K1.out.notT' (by decide))), Lib.hid (KG.out.chg sc (K1.out.notT' (by decide))), KEC, Lib.hid (KNX.out.keep sc (fun x hx => by simp only [List.mem_singleton] at hx; subst hx; exact .inl hpw)), Lib.hid (Nat.le_trans KSZ.out sc.size), Lib.hid (KCW.out.then sc (fun x hx => by simp only [List.mem_singleton] at hx; subst hx; exact .inr hpw2))⟩
            case measure => simp [intOf]; omega
          · have HNONE := Lib.hid hpp
            clear hpp
            have HDRO := Lib.hid (And.intro HIN.out.2.1 HIN.out.2.2)
            go_wp2_with fail
            go_loopw [18, 20] (fun v j wr => ∃ (z : Nat) (na : Option Addr) (nl nc : Nat), z ≤ cn ∧ j = .int .i64 (z : Int) ∧ v = .slice na nl nc ∧ Hid (Lst wr w8.heap.size 3 (.slice na nl nc) (i64s (leftOf dr (cu.take z)))) ∧ Hid (Chg [] w8 wr)) (fun _ j _ => cn - (intOf j).toNat)
            case atStart => exact ⟨0, none, 0, 0, Nat.zero_le _, rfl, rfl, Lib.hid (Lst.nil _ _ _), Lib.hid (Chg.refl _ _)⟩
            case round =>
              obtain ⟨z, na, nl, nc, hz, rfl, rfl, HLz, HCz⟩ := hrel
              rename World => w9
              by_cases hlt3 : z < cn
              · have hzL : z < cu.length := by rw [HCN.out]; exact hlt3
                have HB9 : Hid (Below w.heap.size w w9) := Lib.hid (HCW8.out.low.trans (HCz.out.low.mono HCW8.out.size))
                obtain ⟨b3, o3, rfl, hb3, hc3⟩ := (HRC.out.below HB9.out HBW.out).i64 (show 0 < cu.length by omega)
                have e3 := hc3 z hzL
                have HLT := Lib.hid (leftOf_take (dr := dr) hzL)
                have HLE : Hid ((leftOf dr (cu.take z)).length ≤ 4) := Lib.hid (by have := leftOf_len dr (cu.take z); rw [List.length_take] at this; have := HVk.out; omega)
                have hz0 : (0 : Int) ≤ (z : Int) := Int.natCast_nonneg z
                have hz1 : (z : Int) < (cn : Int) := Int.ofNat_lt.2 hlt3
                have HHAS := Lib.hid (dhas_any dr (cu.getD z 0) a1 c1 B w9 (HDRO.out.1.below HB9.out HBW.out) (Nat.le_trans HBW.out HB9.out.size) (by have := HDL.out; omega))
                rw [HND.out] at HHAS
                obtain ⟨hs, hhs⟩ : ∃ t, decide (cu.getD z 0 ∈ dr) = t := ⟨_, rfl⟩
                rw [hhs] at HHAS
                have HLT2 : Hid (leftOf dr (cu.take (z + 1)) = if hs = true then leftOf dr (cu.take z) else leftOf dr (cu.take z) ++ [cu.getD z 0]) := Lib.hid (by rw [HLT.out, ← hhs]; simp only [decide_eq_true_eq])
                generalize cu.getD z 0 = uu at *
                clear hc3 hhs hb3
                go_wp2_with fail
                refine HHAS.out.mono ?_
                rintro e w10 ⟨rfl, hc10⟩
                have e4 := hc10.cell e3 (by simp)
                have HC10 := Lib.hid (HCz.out.trans hc10)
                have HL10 := Lib.hid (HLz.out.chg hc10 (by simp))
                clear hc10 e3
                cases hs with
                | true =>
                  have HLT3 : Hid (leftOf dr (cu.take (z + 1)) = leftOf dr (cu.take z)) := Lib.hid (by rw [HLT2.out]; rfl)
                  clear e4
                  go_wp2_with fail
                  go_roundw
                  case rel => exact ⟨z + 1, na, nl, nc, hlt3, by go_num, rfl, by rw [HLT3.out]; exact HL10, HC10⟩
                  case measure => simp [intOf]; omega
                | false =>
                  have HLT3 : Hid (leftOf dr (cu.take (z + 1)) = leftOf dr (cu.take z) ++ [uu]) := Lib.hid (by rw [HLT2.out]; rfl)
                  go_wp2_with (at_builtin; refine wpList_app1g rfl (.tmp 87) (.tmp 92) 36 rfl w8.heap.size 3 (.int .i64 0) 8 Try.underlying36 Try.info_i64 rfl (.int .i64 uu) rfl _ (i64s (leftOf dr (cu.take z))) rfl HL10.out rfl (by have := HLE.out; simp; omega) (by have := HLE.out; simp; omega) HC10.out.size ?_)
                  intro v11 w11 hl11 hc11
                  have HRW := Lib.hid HL10.out.row
                  have HC11 : Hid (Chg [] w8 w11) := Lib.hid (HC10.out.then hc11 (fun x hx => .inr (HRW.out x hx).1))
                  obtain ⟨a11, k11, hv11, _, _⟩ := hl11.out.form
                  generalize (i64s (leftOf dr (cu.take z)) ++ [Value.int .i64 uu]).length = n11 at hv11
                  subst hv11
                  have HL11 : Hid (Lst w11 w8.heap.size 3 (.slice a11 n11 k11) (i64s (leftOf dr (cu.take (z + 1))))) := Lib.hid (by rw [HLT3.out]; have := hl11.out; simpa [i64s] using this)
                  clear hl11 hc11 e4
                  go_wp2_with fail
                  go_roundw
                  case rel => exact ⟨z + 1, a11, n11, k11, hlt3, by go_num, rfl, HL11, HC11⟩
                  case measure => simp [intOf]; omega
              · obtain rfl : z = cn := Nat.le_antisymm hz (Nat.not_lt.1 hlt3)
                have HTK : Hid (cu.take z = cu) := Lib.hid (List.take_of_length_le (by rw [HCN.out]; exact Nat.le_refl _))
                rw [HTK.out] at HLz
                obtain ⟨na9, nc9, hv9, hrd, _⟩ := HLz.out.form
                rw [i64s_length] at hv9
                injection hv9 with g1 g2 g3
                have HNL : Hid ((leftOf dr cu).length = nl) := Lib.hid g2.symm
                have HLF := Lib.hid (leftOf_len dr cu)
                clear g1 g2 g3 hrd
                by_cases hz9 : nl = 0
                · subst hz9
                  have HF1 := Lib.hid (fill1_gone (dr := dr) (fr := fr.drop u') HNONE.out HNL.out)
                  have HBADC := Lib.hid (fillC_bad HKX.out HCXk.out HF1.out (by decide))
                  have HCE := Lib.hid (HCW8.out.trans HCz.out)
                  have oR := (HNX8.out.oR.chg HCz.out (by simp))
                  have r0 := oR.cell 0
                  have r1 := oR.cell 1
                  have r2 := oR.cell 2
                  have f0 := oR.frozen 0
                  have f1 := oR.frozen 1
                  have f2 := oR.frozen 2
                  have hz7 := oR.lt
                  simp at r0 r1 r2
                  clear oR
                  go_wp2_with fail
                  refine bodyPost_ret (v := .tuple #[zeroL, .int .i64 191]) (by simp [results, Try.results23, go_sem, r0, r1, r2, hz7]) rfl ?_
                  exact HFAIL.out 191 _ (by decide) (nextOf_err HRR.out (HERRI.out _ (by decide) HBADC.out) (by decide)) HCE.out
                · have hne : (((nl : Nat) : Int) == 0) = false := by rw [beq_eq_false_iff_ne]; omega
                  have hne2 : (nl == 0) = false := by rw [beq_eq_false_iff_ne]; exact hz9
                  have HNE := Lib.hid hz9
                  clear hz9
                  go_wp2_with fail
                  clear hne hne2
                  go_loopw [18, 13] (fun v j wr => ∃ (t : Nat) (na : Option Addr) (tl nc : Nat), nl + t ≤ z ∧ tl = nl + t ∧ j = .int .i64 ((u' + t : Nat) : Int) ∧ v = .slice na tl nc ∧ Hid (u' + t ≤ nf) ∧ Hid (Lst wr w8.heap.size 3 (.slice na tl nc) (i64s (leftOf dr cu ++ (fr.drop u').take t))) ∧ Hid (Chg [] w8 wr)) (fun _ j _ => u' + z - (intOf j).toNat)
                  case atStart => exact ⟨0, na, nl, nc, (by have := HLF.out; have := HNL.out; have := HCN.out; omega), rfl, rfl, rfl, HU7, Lib.hid (by simpa using HLz.out), HCz⟩
                  case round =>
                    obtain ⟨t, na2, tl, nc2, ht, htl, rfl, rfl, HUT, HLt, HCt⟩ := hrel
                    rename World => w12
                    obtain ⟨ut, hut⟩ : ∃ ut, u' + t = ut := ⟨_, rfl⟩
                    rw [hut] at HUT ⊢
                    have HUTE := Lib.hid hut
                    have HTLE := Lib.hid htl
                    clear htl hut
                    by_cases hlt4 : tl < z
                    · have hl4 : (tl : Int) < (z : Int) := Int.ofNat_lt.2 hlt4
                      by_cases hlt5 : ut < nf
                      · have hl5 : decide ((nf : Int) ≤ (ut : Int)) = false := decide_eq_false (by omega)
                        have hl6 : (ut : Int) < (nf : Int) := Int.ofNat_lt.2 hlt5
                        have hl7 : (0 : Int) ≤ (ut : Int) := Int.natCast_nonneg ut
                        have hfL : ut < fr.length := by rw [HNF.out]; exact hlt5
                        have HB12 : Hid (Below w.heap.size w w12) := Lib.hid (HCW8.out.low.trans (HCt.out.low.mono HCW8.out.size))
                        obtain ⟨b4, o4, rfl, hb4, hc4⟩ := (HDRO.out.2.below HB12.out HBW.out).i64 (show 0 < fr.length by omega)
                        have e4 := hc4 ut hfL
                        have HDT : Hid ((fr.drop u').take (t + 1) = (fr.drop u').take t ++ [fr.getD ut 0]) := Lib.hid (by
                          have hh : t < (fr.drop u').length := by rw [List.length_drop]; have := HUTE.out; omega
                          rw [List.take_succ_eq_append_getElem hh]
                          congr 2
                          rw [List.getElem_drop]
                          have hfL2 : u' + t < fr.length := by rw [HUTE.out]; exact hfL
                          rw [← HUTE.out]
                          simp [List.getD, hfL2])
                        have HLL : Hid ((i64s (leftOf dr cu ++ (fr.drop u').take t)).length ≤ 1000000) := Lib.hid (by
                          rw [i64s_length, List.length_append, List.length_take, List.length_drop]
                          have := HNL.out
                          have := HRL.out
                          have := HNF.out
                          have := HVk.out
                          omega)
                        generalize fr.getD ut 0 = uu at *
                        have HUTN : Hid (ut ≤ 1000000) := Lib.hid (by have := HRL.out; omega)
                        have hutn : (ut : Int) ≤ 1000000 := by have := HUTN.out; omega
                        clear hc4 hb4
                        go_wp2_with (at_builtin; refine wpList_app1g rfl (.tmp 108) (.tmp 113) 36 rfl w8.heap.size 3 (.int .i64 0) 8 Try.underlying36 Try.info_i64 rfl (.int .i64 uu) rfl _ (i64s (leftOf dr cu ++ (fr.drop u').take t)) rfl HLt.out rfl (by have := HLL.out; omega) (by have := HLL.out; omega) HCt.out.size ?_)
                        intro v13 w13 hl13 hc13
                        have HRW := Lib.hid HLt.out.row
                        have HC13 : Hid (Chg [] w8 w13) := Lib.hid (HCt.out.then hc13 (fun x hx => .inr (HRW.out x hx).1))
                        obtain ⟨a13, k13, hv13, _, _⟩ := hl13.out.form
                        have HL13 : Hid (Lst w13 w8.heap.size 3 v13 (i64s (leftOf dr cu ++ (fr.drop u').take (t + 1)))) := Lib.hid (by rw [HDT.out]; have := hl13.out; simpa [i64s] using this)
                        have HN13 : Hid ((i64s (leftOf dr cu ++ (fr.drop u').take t) ++ [Value.int .i64 uu]).length = tl + 1) := Lib.hid (by
                          obtain ⟨_, _, hv, _, _⟩ := HLt.out.form
                          injection hv with _ g2 _
                          rw [List.length_append, ← g2]
                          rfl)
                        rw [HN13.out] at hv13
                        subst hv13
                        clear hl13 hc13 e4
                        go_wp2_with fail
                        go_roundw
                        case rel => exact ⟨t + 1, a13, tl + 1, k13, (by have := HTLE.out; omega), (by have := HTLE.out; omega), (by have := HUTE.out; rw [← this]; go_num), rfl, Lib.hid (by have := HUTE.out; omega), HL13, HC13⟩
                        case measure => have h1 := HUTE.out; have h2 := HTLE.out; simp [intOf]; omega
                      · have hl5 : decide ((nf : Int) ≤ (ut : Int)) = true := decide_eq_true (by omega)
                        have HF1 := Lib.hid (fill1_few (dr := dr) (fr := fr.drop u') HNONE.out (by rw [HNL.out]; exact HNE.out) (by rw [List.length_drop, HNL.out, HNF.out, HCN.out]; have := HUTE.out; have := HTLE.out; have := HUT.out; omega))
                        have HBADC := Lib.hid (fillC_bad HKX.out HCXk.out HF1.out (by decide))
                        have HCE := Lib.hid (HCW8.out.trans HCt.out)
                        have oR := (HNX8.out.oR.chg HCt.out (by simp))
                        have r0 := oR.cell 0
                        have r1 := oR.cell 1
                        have r2 := oR.cell 2
                        have f0 := oR.frozen 0
                        have f1 := oR.frozen 1
                        have f2 := oR.frozen 2
                        have hz7 := oR.lt
                        simp at r0 r1 r2
                        clear oR
                        go_wp2_with fail
                        refine bodyPost_ret (v := .tuple #[zeroL, .int .i64 1]) (by simp [results, Try.results23, go_sem, r0, r1, r2, hz7]) rfl ?_
                        exact HFAIL.out 1 _ (by decide) (nextOf_err HRR.out (HERRI.out _ (by decide) HBADC.out) (by decide)) HCE.out
                    · have HTZ : Hid (t = z - nl) := Lib.hid (by have := HTLE.out; omega)
                      have hl4 : decide ((tl : Int) < (z : Int)) = false := decide_eq_false (by omega)
                      have HF1 := Lib.hid (fill1_new (dr := dr) (fr := fr.drop u') (T := ⟨cka, ckc, cu⟩) (U := ⟨na2, nc2, leftOf dr cu ++ (fr.drop u').take t⟩) HNONE.out (by rw [HNL.out]; exact HNE.out) (by rw [HNL.out, HCN.out]; exact HTZ.out) (by rw [List.length_drop, HNF.out]; have := HUTE.out; have := HUT.out; omega) rfl rfl)
                      rw [List.drop_drop, HUTE.out] at HF1
                      obtain ⟨qu, hqu⟩ : ∃ q, leftOf dr cu ++ (fr.drop u').take t = q := ⟨_, rfl⟩
                      rw [hqu] at HF1 HLt
                      have HQN : Hid (qu.length = tl) := Lib.hid (by
                        obtain ⟨_, _, hv, _, _⟩ := HLt.out.form
                        injection hv with _ g2 _
                        rw [i64s_length] at g2
                        exact g2.symm)
                      have HECk := Lib.hid (fillC_ok HKX.out HCXk.out HF1.out)
                      have HDN12 := Lib.hid (HDN8.out.chg HCt.out (by simp))
                      have HDI12 := Lib.hid (HDI8.out.chg HCt.out (Nat.le_trans HBW.out HCW8.out.size) (by simp) (by simp))
                      have HPS12 := Lib.hid (HPS8.out.chg HCt.out (by simp))
                      have HL12 := Lib.hid (HL8.out.chg HCt.out (by simp))
                      have HG12 := Lib.hid (HG8.out.chg HCt.out (by simp))
                      have HNX12 := Lib.hid (HNX8.out.keep HCt.out (by simp))
                      have HSZ12 := Lib.hid (Nat.le_trans HSZ8.out HCt.out.size)
                      have HCW12 := Lib.hid (HCW8.out.trans HCt.out)
                      have HLQ := Lib.hid (HLt.out.base HCW8.out.size)
                      clear hqu
                      go_upto_region 29 with fail
                      go_wp2_with (at_builtin; refine wpList_appDn rfl (.tmp 117) (.tmp 121) rfl w.heap.size (.slice da' nD' dc') D' rfl (HDN12.out.alloc _) w12.heap.size (⟨cka, ckc, cu⟩, ⟨na2, nc2, qu⟩) 82 (by simp only [dnv, ChT.val]; rw [HCN.out, HQN.out]; exact Own.new w12 _ _) rfl (by have := HDL7.out; have := HN4.out; omega) (by have := HCW12.out.size; simp; omega) ?_)
                      intro v14 w14 hl14 hg14
                      obtain ⟨W13, hW13⟩ : ∃ W11, w12.alloc (.cells #[.slice cka z ckc, .slice na2 tl nc2] 82) = W11 := ⟨_, rfl⟩
                      have ka : Chg [] w12 W13 := by rw [← hW13]; exact (Chg.refl [] w12).alloc _
                      rw [hW13] at hg14
                      have kd := HDN12.out.chg ka (by simp)
                      have hc14 : Chg (rowOf (.slice da' nD' dc')) W13 w14 := grown_chg hg14
                      have hc14' : Chg (rowOf (.slice da' nD' dc')) w12 w14 := (ka.nil1 _).trans hc14
                      have HNT := Lib.hid (fun (t' : TypeId) (h : 82 ≠ t') => HDN12.out.notT h)
                      have HPS14 := Lib.hid (HPS12.out.chg hc14' (HPS12.out.out_rowD HDN12.out (by decide)))
                      have HL14 := Lib.hid (HL12.out.chg hc14' (HNT.out _ (by decide)))
                      have HG14 := Lib.hid (HG12.out.chg hc14' (HNT.out _ (by decide)))
                      have HQL14 := Lib.hid (HLQ.out.chg hc14' (HNT.out _ (by decide)))
                      have HDI14 : Hid (DnI w14 B w.heap.size (D' ++ [(⟨cka, ckc, cu⟩, ⟨na2, nc2, qu⟩)])) := Lib.hid (by
                        have h1 := HDI12.out.chg hc14' (Nat.le_trans HBW.out HCW12.out.size) (fun x hx => Nat.le_trans HBW.out (HDN12.out.row x hx).1) (HNT.out _ (by decide))
                        intro p hp
                        rcases List.mem_append.1 hp with hp | hp
                        · exact h1 p hp
                        · simp only [List.mem_singleton] at hp
                          subst hp
                          refine ⟨(HRC.out.below ((HCW12.out.then hc14' (fun x hx => .inr (HDN12.out.row x hx).1)).low) HBW.out), (by have := HVk.out; have := HCN.out; simp only; omega), ?_⟩
                          show Lst w14 w.heap.size 3 (.slice na2 qu.length nc2) (i64s qu)
                          rw [HQN.out]
                          exact HQL14.out)
                      have HNX14 := Lib.hid (HNX12.out.keep hc14' (fun x hx => .inr (HDN12.out.row x hx).2))
                      have HSZ14 := Lib.hid (Nat.le_trans HSZ12.out hc14'.size)
                      have HCW14 : Hid (Chg [] w w14) := Lib.hid (HCW12.out.then hc14' (fun x hx => .inr (HDN12.out.row x hx).1))
                      obtain ⟨a14, k14, hv14, _, _⟩ := hl14.out.form
                      have HDLN : Hid ((D' ++ [((⟨cka, ckc, cu⟩ : ChT), (⟨na2, nc2, qu⟩ : ChT))]).length = nD' + 1 ∧ (D' ++ [((⟨cka, ckc, cu⟩ : ChT), (⟨na2, nc2, qu⟩ : ChT))]).length ≤ 4 * i + (k + 1)) := Lib.hid (by have := HDL7.out; simp; omega)
                      rw [HDLN.out.1] at hv14
                      subst hv14
                      obtain ⟨D2, hD2⟩ : ∃ D2, D' ++ [((⟨cka, ckc, cu⟩ : ChT), (⟨na2, nc2, qu⟩ : ChT))] = D2 := ⟨_, rfl⟩
                      rw [hD2] at hl14 HDI14 HDLN HECk
                      have HDN14 := hl14
                      have HUT2 : Hid (ut ≤ nf) := HUT
                      clear hl14 hg14 hc14 hc14' ka kd hW13 hD2
                      have c1 := HPS14.out.cell 1
                      have f1 := HPS14.out.frozen 1
                      have hz1' := HPS14.out.lt
                      simp at c1
                      have HLC : Hid ((chv Cs).length = k) := Lib.hid (by rw [chv_length]; exact HCL.out)
                      have HBS : Hid (w6.heap.size ≤ w14.heap.size) := Lib.hid HSZ14.out
                      go_upto_region 30 with fail
                      go_wp2_with (at_builtin; refine wpList_app1g rfl (.tmp 124) (.tmp 126) 41 rfl w6.heap.size 36 (.slice none 0 0) 24 Try.underlying41 Try.info_ch rfl (.slice na2 tl nc2) rfl (.slice al2 k cl2) (chv Cs) rfl HL14.out rfl (by have := HLC.out; have := HM.out; omega) (by have := HLC.out; omega) HBS.out ?_)
                      intro v15 w15 hl15 hc15
                      have KROW := Lib.hid HL14.out.row
                      have KNT := Lib.hid (fun (t' : TypeId) (h : 36 ≠ t') => (fun x (hx : x ∈ rowOf (.slice al2 k cl2)) => HL14.out.notT9 h x hx))
                      have K1 := Lib.hid (HPS14.out.chg hc15 (HL14.out.ownT HPS14.out (by decide)))
                      have KDN := Lib.hid (HDN14.out.chg hc15 (KNT.out _ (by decide)))
                      have KDI := Lib.hid (HDI14.out.chg hc15 (Nat.le_trans HBW.out HCW14.out.size) (fun x hx => Nat.le_trans HBW.out (Nat.le_trans HCr.out.size (KROW.out x hx).1)) (KNT.out _ (by decide)))
                      have KNX := Lib.hid (HNX14.out.keep hc15 (fun x hx => .inl (KROW.out x hx).1))
                      have KSZ := Lib.hid (Nat.le_trans HSZ14.out hc15.size)
                      have KCW : Hid (Chg [] w w15) := Lib.hid (HCW14.out.then hc15 (fun x hx => .inr (Nat.le_trans HCr.out.size (KROW.out x hx).1)))
                      have KG : Hid (GwC w15 w.heap.size (Cs ++ [⟨na2, nc2, qu⟩])) := Lib.hid (by
                        have h1 := HG14.out.chg hc15 (KNT.out _ (by decide))
                        intro c hc
                        rcases List.mem_append.1 hc with hc | hc
                        · exact h1 c hc
                        · simp only [List.mem_singleton] at hc
                          subst hc
                          show Lst w15 w.heap.size 3 (.slice na2 qu.length nc2) (i64s qu)
                          rw [HQN.out]
                          exact HQL14.out.chg hc15 (KNT.out _ (by decide)))
                      have KL : Hid (Lst w15 w6.heap.size 36 v15 (chv (Cs ++ [⟨na2, nc2, qu⟩]))) := Lib.hid (by
                        have := hl15.out
                        have e : chv (Cs ++ [⟨na2, nc2, qu⟩]) = chv Cs ++ [.slice na2 tl nc2] := by simp [chv, ChT.val, HQN.out]
                        rw [e]
                        exact this)
                      have KLen : Hid ((chv (Cs ++ [⟨na2, nc2, qu⟩])).length = k + 1) := Lib.hid (by have := HCL.out; simp; omega)
                      have KEC : Hid (fillC dr (DDx D, fr.drop u) (chx M) = pre (chx (Cs ++ [⟨na2, nc2, qu⟩])) (fillC dr (DDx D2, fr.drop ut) ((chx M).drop (k + 1)))) := Lib.hid (by rw [HEC.out, HECk.out, pre_pre]; simp [chx])
                      obtain ⟨a15, c15, hv15, _, _, _⟩ := KL.out.form
                      rw [KLen.out] at hv15
                      subst hv15
                      have c1' := K1.out.cell 1
                      have f1' := K1.out.frozen 1
                      have hz1'' := K1.out.lt
                      simp at c1'
                      clear hl15 hc15 c1 f1 hz1'
                      go_wp2_with fail
                      go_roundw
                      case rel =>
                        have sc : Chg [ps] w15 (w15.setCell ⟨ps, 1, none⟩ (.slice a15 (k + 1) c15)) := (Chg.refl _ w15).setCell (by simp) _
                        have hpw : w6.heap.size ≤ ps := by have := HPSE.out; omega
                        have hpw2 : w.heap.size ≤ ps := Nat.le_trans HCr.out.size hpw
                        refine ⟨k + 1, ut, D2, a14, (nD' + 1), k14, a15, c15, Cs ++ [⟨na2, nc2, qu⟩], hlt2, by go_num, rfl, rfl, Lib.hid (by have := HDLN.out; omega), HUT2, Lib.hid (by rw [List.length_append, HCL.out]; rfl), Lib.hid (KDN.out.chg sc (K1.out.notT' (by decide))), Lib.hid (KDI.out.chg sc (Nat.le_trans HBW.out KCW.out.size) (fun x hx => by simp only [List.mem_singleton] at hx; subst hx; exact Nat.le_trans HBW.out hpw2) (K1.out.notT' (by decide))), Lib.hid (by have := K1.out.set 1 (.slice a15 (k + 1) c15); simpa using this), Lib.hid (KL.out.chg sc (K1.out.notT' (by decide))), Lib.hid (KG.out.chg sc (K1.out.notT' (by decide))), KEC, Lib.hid (KNX.out.keep sc (fun x hx => by simp only [List.mem_singleton] at hx; subst hx; exact .inl hpw)), Lib.hid (Nat.le_trans KSZ.out sc.size), Lib.hid (KCW.out.then sc (fun x hx => by simp only [List.mem_singleton] at hx; subst hx; exact .inr hpw2))⟩
                      case measure => simp [intOf]; omega
        · obtain rfl : k = m := Nat.le_antisymm hk (Nat.not_lt.1 hlt2)
          have HFC : Hid (fillC dr (DDx D, fr.drop u) (chx M) = (0, (DDx D', fr.drop u'), chx Cs)) := Lib.hid (by
            have e : (chx M).drop k = [] := List.drop_of_length_le (by rw [chx_length, HM.out]; exact Nat.le_refl _)
            rw [HEC.out, e]
            simp [fillC, pre])
          have HFS : Hid (fillS dr ([], fr) x.s = pre (sgx (Ts ++ [⟨f, al2, cl2, Cs⟩])) (fillS dr (DDx D', fr.drop u') (x.s.drop (i + 1)))) := Lib.hid (by
            rw [HEQ.out, fillS_at HIX.out HSX2.out HFC.out, if_pos rfl, pre_pre]
            simp [sgx, SgT.x])
          have d1' : w7.cell? ⟨p, 1, none⟩ = some (.slice al i cl) := by simpa using HNXr.out.op.cell 1
          have d3 := HPSr.out.cell 0
          have d4 := HPSr.out.cell 1
          have hz4 := HPSr.out.lt
          simp at d3 d4
          have HSZ : Hid (w.heap.size ≤ w7.heap.size) := Lib.hid HCWr.out.size
          go_upto_region 31 with fail
          clear d1 hzb s2
          go_wp2_with (at_builtin; refine wpList_appSg rfl (.tmp 130) (.tmp 132) rfl w.heap.size (.slice al i cl) Ts rfl (HNXr.out.sl.alloc _) w7.heap.size ⟨f, al2, cl2, Cs⟩ 49 (by simp only [sgv]; rw [HCL.out]; exact Own.new w7 _ _) rfl (by have := HTL.out; have := HN4.out; have := HN.out; omega) (by have := HSZ.out; simp; omega) ?_)
          intro v' w14 hl8 hg8
          obtain ⟨W11, hW11⟩ : ∃ W11, w7.alloc (.cells #[.int .u64 (f : Int), .slice al2 k cl2] 49) = W11 := ⟨_, rfl⟩
          have ka : Chg [] w7 W11 := by rw [← hW11]; exact (Chg.refl [] w7).alloc _
          rw [hW11] at hg8
          have hc8 : Chg (rowOf (.slice al i cl)) w7 w14 := (ka.nil1 _).trans (grown_chg hg8)
          have kl := HNXr.out.sl
          have HKL := Lib.hid kl.row
          have K1 := Lib.hid (HNXr.out.op.chg hc8 (HNXr.out.op.out_row kl (by decide)))
          have K2 := Lib.hid (HNXr.out.oR.chg hc8 (HNXr.out.oR.out_row kl (by decide)))
          have K3 := Lib.hid (HNXr.out.ob.chg hc8 (HNXr.out.ob.out_row kl (by decide)))
          have KDN := Lib.hid (HDNr.out.chg hc8 (kl.notT (by decide)))
          have KDI := Lib.hid (HDIr.out.chg hc8 (Nat.le_trans HBW.out HCWr.out.size) (fun x hx => Nat.le_trans HBW.out (HKL.out x hx).1) (kl.notT (by decide)))
          have KC : Hid (Chg [] w w14) := Lib.hid (HCWr.out.then hc8 (fun x hx => .inr (HKL.out x hx).1))
          have g1 := (HLr.out.base HCr.out.size).chg hc8 (kl.notT (by decide))
          have g2 := HGr.out.chg hc8 (kl.notT (by decide))
          have g3 := HNXr.out.gw.chg hc8 (kl.notT (by decide)) (kl.notT (by decide))
          have KG : Hid (GwS w14 w.heap.size (Ts ++ [⟨f, al2, cl2, Cs⟩])) := Lib.hid (by
            intro c hc
            rcases List.mem_append.1 hc with hc | hc
            · exact g3 c hc
            · simp only [List.mem_singleton] at hc
              subst hc
              refine ⟨?_, g2⟩
              simp only [HCL.out]
              exact g1)
          obtain ⟨a9, c9, hv9, _, _⟩ := hl8.out.form
          have HLen : Hid ((Ts ++ [(⟨f, al2, cl2, Cs⟩ : SgT)]).length = i + 1) := Lib.hid (by have := HTL.out; simp; omega)
          rw [HLen.out] at hv9
          subst hv9
          have KL := hl8
          have HDLZ : Hid (D'.length = nD' ∧ D'.length ≤ 4 * (i + 1)) := Lib.hid (by have := HDL7.out; have := HVi.out.2.1; omega)
          have c1' := K1.out.cell 1
          have f1' := K1.out.frozen 1
          have hz1'' := K1.out.lt
          simp at c1'
          clear ka hg8 hW11 hc8 kl g1 g2 g3 hl8 d1' d3 d4 hz4
          go_wp2_with fail
          go_roundw
          case rel =>
            have sc : Chg [p] w14 (w14.setCell ⟨p, 1, none⟩ (.slice a9 (i + 1) c9)) := (Chg.refl _ w14).setCell (by simp) _
            have hpw : R < p := HPW.out
            have hpw2 : w.heap.size < R := by have := HRE.out; omega
            refine ⟨i + 1, u', D', da', nD', dc', a9, c9, Ts ++ [⟨f, al2, cl2, Cs⟩], hlt, by go_num, rfl, rfl, HDLZ, HU7, HLen, Lib.hid (KDN.out.chg sc (K1.out.notT' (by decide))), Lib.hid (KDI.out.chg sc (Nat.le_trans HBW.out KC.out.size) (fun x hx => by simp only [List.mem_singleton] at hx; subst hx; have := HBW.out; omega) (K1.out.notT' (by decide))), Lib.hid (K3.out.chg sc (by simp; omega)), Lib.hid (K2.out.chg sc (by simp; omega)), Lib.hid (by have := K1.out.set 1 (.slice a9 (i + 1) c9); simpa using this), Lib.hid (KL.out.chg sc (K1.out.notT' (by decide))), Lib.hid (KG.out.chg sc (K1.out.notT' (by decide)) (K1.out.notT' (by decide))), HFS, Lib.hid (KC.out.then sc (fun x hx => by simp only [List.mem_singleton] at hx; subst hx; exact .inr (by omega)))⟩
          case measure => simp [intOf]; omega
    · obtain rfl : i = n := Nat.le_antisymm hi (Nat.not_lt.1 hlt)
      have HFS : Hid (fillS dr ([], fr) x.s = (0, (DDx D, fr.drop u), sgx Ts)) := Lib.hid (by
        have e : x.s.drop i = [] := List.drop_of_length_le (by rw [HXS.out, sgx_length, HN.out]; exact Nat.le_refl _)
        rw [HEQ.out, e]
        simp [fillS, pre])
      have HTX : Hid ((⟨e1, al, cl, Ts, sq⟩ : LyT).x = ⟨e1, sgx Ts, sq⟩) := Lib.hid rfl
      have HRAW : Hid (nextRaw x dr fr sq = (⟨e1, al, cl, Ts, sq⟩ : LyT).x) := Lib.hid (by
        unfold nextRaw
        rw [HFS.out, HXE.out, HE1.out]
        rfl)
      have HRS2 := Lib.hid (nextOf_end HRR.out (by rw [HFS.out]) HRAW.out)
      have HLIN : Hid (LyIn w6 w6.heap.size ⟨e1, al, cl, Ts, sq⟩) := Lib.hid ⟨HSL.out.ro (n := i), HGW.out.inn⟩
      have HDR := Lib.hid (dlright_any ⟨e1, al, cl, Ts, sq⟩ w6.heap.size w6 HLIN.out (Nat.le_refl _) (HGW.out.fit (by have := HTL.out; have := HN4.out; have := HN.out; show Ts.length ≤ 1000000; omega)))
      simp only [LyT.val, HTL.out] at HDR
      obtain ⟨y, hy⟩ : ∃ y, (⟨e1, al, cl, Ts, sq⟩ : LyT).x = y := ⟨_, rfl⟩
      rw [hy] at HDR HRS2
      have HY := Lib.hid hy
      obtain ⟨ry, hry⟩ : ∃ ry, lright y = ry := ⟨_, rfl⟩
      rw [hry] at HDR HRS2
      have HRY := Lib.hid hry
      clear hy hry
      go_upto_region 32 with fail
      clear d1 hzb
      have d0 := HPr.out.cell 0
      have d1 := HPr.out.cell 1
      have d2 := HPr.out.cell 2
      have hzp := HPr.out.lt
      simp at d0 d1 d2
      go_wp2_with fail
      refine HDR.out.mono ?_
      rintro e w7 ⟨rfl, hc7⟩
      have HC7 := Lib.hid (HCr.out.trans hc7)
      have HP7 := Lib.hid (HPr.out.chg hc7 (by simp))
      have HR7 := Lib.hid (HORr.out.chg hc7 (by simp))
      have HSL7 := Lib.hid (HSL.out.chg hc7 (by simp))
      have HGW7 := Lib.hid (HGW.out.chg hc7 (by simp) (by simp))
      have r0 := HR7.out.cell 0
      have r1 := HR7.out.cell 1
      have r2 := HR7.out.cell 2
      have f0 := HR7.out.frozen 0
      have f1 := HR7.out.frozen 1
      have f2 := HR7.out.frozen 2
      have z0 := HP7.out.cell 0
      have z1 := HP7.out.cell 1
      have z2 := HP7.out.cell 2
      have hz7 := HR7.out.lt
      have hz8 := HP7.out.lt
      simp at r0 r1 r2 z0 z1 z2
      clear hc7 d0 d1 d2 hzp
      cases ry with
      | false =>
        go_wp2_with fail
        refine bodyPost_ret (v := .tuple #[zeroL, .int .i64 91]) (by simp [results, Try.results23, go_sem, r0, r1, r2, hz7]) rfl ?_
        exact HFAIL.out 91 _ (by decide) (by rw [HRS2.out]; rfl) HC7.out
      | true =>
        go_wp2_with fail
        refine bodyPost_ret (v := .tuple #[.agg #[.int .u64 (e1 : Int), .slice al i cl, .int .i64 sq], .int .i64 0]) (by simp [results, Try.results23, go_sem, r0, r1, r2, z0, z1, z2, hz7]) rfl ?_
        have hres : res = (0, y) := by rw [← HRES.out, HRS2.out]; rfl
        have sc : Chg [R] w7 (((w7.setCell ⟨R, 0, none⟩ (.int .u64 (e1 : Int))).setCell ⟨R, 1, none⟩ (.slice al i cl)).setCell ⟨R, 2, none⟩ (.int .i64 sq)) := (((Chg.refl _ w7).setCell (by simp) _).setCell (by simp) _).setCell (by simp) _
        have g1 := HSL7.out.chg sc (HR7.out.notT' (by decide))
        have g2 := HGW7.out.chg sc (HR7.out.notT' (by decide)) (HR7.out.notT' (by decide))
        rw [hres]
        refine ⟨(HC7.out.then sc (fun x hx => by simp only [List.mem_singleton] at hx; subst hx; exact .inr (by have := HRE.out; omega))).low, .inl ⟨rfl, HRY.out, ⟨e1, al, cl, Ts, sq⟩, by simp only [LyT.val, HTL.out], HY.out, ⟨g1.ro, g2.inn⟩⟩⟩
end Go.Proofs.Ytkdgoopldaoihaa
