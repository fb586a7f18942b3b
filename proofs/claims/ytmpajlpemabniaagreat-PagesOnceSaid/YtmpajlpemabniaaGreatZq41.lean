/-
  Open of a tape whose records describe a state. No claim of its own.
-/
import Derived.Test.YtmpajlpemabniaaGreatZq40
import Derived.Test.YtmpajlpemabniaaGreatZq38
import Derived.Test.YtmpajlpemabniaaGreatZq39
namespace Go.Proofs.YtmpajlpemabniaaGreat
open Go.RowKit Go.Maps Go.Shelf Go.Deep
set_option linter.unusedVariables false
set_option linter.unusedSimpArgs false
theorem Desc.recs {L : List Rec} {S : PS} (h : Desc L S) : ∃ rs : List Rc, L = rs.map encR ∧ allows rs PS.zero ∧ S = rs.foldl exec PS.zero := by
  induction h with
  | nil => exact ⟨[], rfl, trivial, rfl⟩
  | @snoc L S r _ h1 h2 ih =>
    obtain ⟨rs, e1, e2, e3⟩ := ih
    refine ⟨rs ++ [r], by rw [e1, List.map_append]; rfl, allows_append _ _ _ e2 ⟨h1, by rw [← e3]; exact h2, trivial⟩, by rw [List.foldl_append, ← e3]; rfl⟩
theorem allows_take : ∀ (rs : List Rc) (S : PS) (i : Nat), allows rs S → allows (rs.take i) S
  | [], _, i, _ => by simp [allows]
  | r :: rs, S, 0, _ => trivial
  | r :: rs, S, i + 1, h => ⟨h.1, h.2.1, allows_take rs _ i h.2.2⟩
theorem allows_at : ∀ (rs : List Rc) (S : PS) (i : Nat) (hi : i < rs.length), allows rs S → okN rs[i] ∧ allow ((rs.take i).foldl exec S) rs[i] = true
  | [], _, i, hi, _ => by simp at hi
  | r :: rs, S, 0, _, h => ⟨h.1, h.2.1⟩
  | r :: rs, S, i + 1, hi, h => allows_at rs (exec S r) i (by simpa using hi) h.2.2
def stAt (rs : List Rc) (i : Nat) : PS := (rs.take i).foldl exec PS.zero
theorem stAt_succ {rs : List Rc} {i : Nat} (hi : i < rs.length) : stAt rs (i + 1) = exec (stAt rs i) rs[i] := by
  unfold stAt
  rw [List.take_succ_eq_append_getElem hi, List.foldl_append]
  rfl
theorem stAt_desc {rs : List Rc} (h : allows rs PS.zero) (i : Nat) : Desc ((rs.take i).map encR) (stAt rs i) := by
  have := Desc.more (rs.take i) Desc.nil (allows_take rs _ i h)
  rwa [List.nil_append] at this
theorem recordOf_yes (w : World) (r : Rc) (a : Option Addr) (c B : Nat) (ho : okN r) (hro : Ro w B a (u8s (encR r))) (hB : B ≤ w.heap.size) (hlc : (encR r).length ≤ c) (hcm : c ≤ 9223372036854775807) :
    Calls Tryz.prog 41 #[.slice a (encR r).length c] w fun e w' => ∃ A : CeT, e = .returned (.tuple #[rcv (r.k : Int) r.n r.t A, .bool true]) ∧ (r.k = 2 → A.x = r.c) ∧ Hid (NewC w w' A) ∧ Chg [] w w' := by
  by_cases hk : r.k = 2
  · refine Calls.mono (R' := _) (recordOf_cell w r a c B ho hk hro hB hlc hcm) ?_
    rintro e w' ⟨A, h1, h2, h3, h4⟩
    exact ⟨A, h1, fun _ => h2, h3, h4⟩
  · refine Calls.mono (R' := _) (recordOf_num w r a c B ho hk hro hB) ?_
    rintro e w' ⟨h1, h2⟩
    exact ⟨zA, h1, fun e => absurd e hk, Lib.hid ⟨Ro.nil _ _ _, Ro.nil _ _ _, (fun _ h => nomatch h), (fun _ h => nomatch h)⟩, h2⟩
theorem Lst.cap {w : World} {base : Nat} {e : TypeId} {v : Value} {xs : List Value} (h : Lst w base e v xs) : ∃ a c, v = .slice a xs.length c ∧ Ro w w.heap.size a xs ∧ xs.length ≤ c ∧ c ≤ 9223372036854775807 := by
  obtain ⟨a, c, h1, h2, h3, _⟩ := h.form
  refine ⟨a, c, h1, h2, h3, ?_⟩
  rcases h.2 with ⟨h4, _⟩ | ⟨g, cap, cur, h4, _, _, _, hm, _⟩
  · rw [h4] at h1; injection h1 with _ _ h5; omega
  · rw [h4] at h1; injection h1 with _ _ h5; unfold maxLen at hm; omega
structure OpW (w5 W : World) (sq sp sb : Nat) (v0 v : Value) (C : List Nat) (S : PS) : Prop where
  sta : Sta W sq sp v sb C S
  row : ∀ x ∈ rowOf v, x ∈ rowOf v0 ∨ w5.heap.size ≤ x
  cs : ∀ x ∈ C, w5.heap.size ≤ x
  chg : Chg (stB sq sp sb v0) w5 W
theorem OpW.kept {w5 W W' : World} {sq sp sb : Nat} {v0 v : Value} {C : List Nat} {S : PS} (h : OpW w5 W sq sp sb v0 v C S) (hc : Chg [] W W') : OpW w5 W' sq sp sb v0 v C S :=
  ⟨h.sta.kept hc, h.row, h.cs, h.chg.trans (hc.mono (by simp))⟩
theorem OpW.wide {w5 W W' : World} {sq sp sb : Nat} {v0 v : Value} {C : List Nat} {S : PS} (h : OpW w5 W sq sp sb v0 v C S) (hc : Chg [] W W') {A : CeT} (hA : NewC W W' A) : OpW w5 W' sq sp sb v0 v (C ++ A.blocks) S := by
  refine ⟨(h.sta.kept hc).mono (fun x hx => List.mem_append_left _ hx) (fun x hx => ?_), h.row, fun x hx => ?_, h.chg.trans (hc.mono (by simp))⟩
  · rcases List.mem_append.1 hx with hx | hx
    · exact ⟨Nat.lt_of_lt_of_le (h.sta.ap x hx).1 hc.size, (h.sta.ap x hx).2⟩
    · have h1 := hA.new x hx
      refine ⟨h1.2, fun h2 => ?_⟩
      have := h.sta.lt x h2
      omega
  · rcases List.mem_append.1 hx with hx | hx
    · exact h.cs x hx
    · exact Nat.le_trans h.chg.size (hA.new x hx).1
theorem OpW.exec {w5 W W' : World} {sq sp sb : Nat} {v0 v v' : Value} {C : List Nat} {S S' : PS} (h : OpW w5 W sq sp sb v0 v C S) (hs : Sta W' sq sp v' sb C S') (hc : Chg (sq :: sp :: sb :: rowOf v) W W') (hn : Nb W v v') : OpW w5 W' sq sp sb v0 v' C S' := by
  refine ⟨hs, fun x hx => ?_, h.cs, h.chg.then hc (fun x hx => ?_)⟩
  · rw [mem_rowOf] at hx
    rcases hn with h1 | h1
    · exact h.row x (by rw [mem_rowOf, ← h1]; exact hx)
    · exact .inr (Nat.le_trans h.chg.size (h1 x hx))
  · simp only [List.mem_cons] at hx
    unfold stB
    rcases hx with e | e | e | e
    · left; simp [e]
    · left; simp [e]
    · left; simp [e]
    · rcases h.row x e with h1 | h1
      · left; simp [h1]
      · exact .inr h1
set_option maxHeartbeats 4000000 in
set_option maxRecDepth 100000 in
theorem POpen_any (w : World) {p g b n : Nat} {T : PT} (hd : Dsk w p g b n T.F (fun _ => none)) (hn : 3 ≤ n) (iv : Iv n T) :
    Calls Tryz.prog 12 #[.pointer (some ⟨p, 0, none⟩)] w fun e w' => ∃ u l q sq sp sb v C, e = .returned (.tuple #[.pointer (some ⟨u, 0, none⟩), .int .i64 0]) ∧ Hid (Pgs w' u l q p g b n (ptS T) sq sp sb v C T.S) ∧ Hid (∀ x ∈ u :: (l ++ stB sq sp sb v ++ C), w.heap.size ≤ x) ∧ Chg [] w w' := by
  have hnn : now T.F (fun _ => none) = T.F := rfl
  have HO := Lib.hid (open_at w hd hn (h := T.h) (L := T.L) (by rw [hnn]; exact iv.op))
  have HD := Lib.hid hd
  have HIV := Lib.hid iv
  obtain ⟨rs, hrs, hal, hSS⟩ := iv.de.recs
  have HRS := Lib.hid (And.intro hrs (And.intro hal hSS))
  obtain ⟨N, hN⟩ : ∃ x, Hid (T.L.length = x) := ⟨_, Lib.hid rfl⟩
  have hNr : rs.length = N := by rw [← hN.out, hrs, List.length_map]
  have hNb : N ≤ 20000 := by rw [← hN.out]; exact iv.few hd.top
  have HNR := Lib.hid hNr
  clear hd hnn iv hrs hal hSS hNr
  go_enter Tryz.func12, Tryz.ntmps12
  go_wp2_with (first
    | (go_at_call 37; refine HO.out.mono ?_; rintro e w2 ⟨q, l, rfl, ht, hl, hc2⟩
       have HC2 := Lib.hid hc2; have HT2 := Lib.hid ht.out; have HL2 := Lib.hid hl.out; clear hc2 ht hl)
    | (go_at_call 38; refine (newState_any _).mono ?_; rintro e w3 ⟨sq, sp, v0, sb, rfl, hs3, hl3, hc3⟩
       have HS3 := Lib.hid hs3; have HL3 := Lib.hid hl3; have HC3 := Lib.hid hc3; clear hs3 hl3 hc3)
    | fail)
  have hc34 : Chg [] w3 (w3.alloc (.cells #[.pointer (some ⟨q, 0, none⟩), .pointer (some ⟨sq, 0, none⟩)] 95)) := (Chg.refl [] w3).alloc _
  have hown := Own.new w3 95 [.pointer (some ⟨q, 0, none⟩), .pointer (some ⟨sq, 0, none⟩)]
  generalize w3.alloc (.cells #[.pointer (some ⟨q, 0, none⟩), .pointer (some ⟨sq, 0, none⟩)] 95) = w4 at hc34 hown ⊢
  obtain ⟨u, hu⟩ : ∃ x, Hid (w3.heap.size = x) := ⟨_, Lib.hid rfl⟩
  rw [hu.out] at hown ⊢
  have hlen : Calls Tryz.prog 39 #[.pointer (some ⟨q, 0, none⟩)] w4 fun e w' => e = .returned (.int .i64 ((T.L.length : Nat) : Int)) ∧ Chg [] w4 w' := len_TD (HT2.out.kept (HC3.out.trans hc34))
  rw [hN.out] at hlen
  refine hlen.mono ?_
  rintro e w5 ⟨rfl, hc5⟩
  have HC35 := Lib.hid (hc34.trans hc5)
  have HC25 := Lib.hid (HC3.out.trans (hc34.trans hc5))
  have HT5 := Lib.hid (HT2.out.kept HC25.out)
  have HU5 := Lib.hid (hown.chg hc5 (by simp))
  have HS5 := Lib.hid (HS3.out.kept HC35.out)
  have HW5 : Hid (OpW w5 w5 sq sp sb v0 v0 [] (stAt rs 0)) := Lib.hid ⟨HS5.out, fun x hx => .inl hx, fun x hx => (by cases hx), Chg.refl _ _⟩
  have HLO : Hid (∀ x ∈ stB sq sp sb v0, w2.heap.size ≤ x ∧ x < u) := Lib.hid (fun x hx => ⟨HL3.out x hx, by rw [← hu.out]; exact HS3.out.lt x hx⟩)
  have HUL : Hid (w2.heap.size ≤ u ∧ u < w5.heap.size) := Lib.hid ⟨by rw [← hu.out]; exact HC3.out.size, HU5.out.lt⟩
  have HTK : Hid (∀ W, Chg (stB sq sp sb v0) w5 W → TD W l q p g b n (calm T.F (fun _ => none) T.h T.L)) := Lib.hid (fun W hW => HT5.out.chg hW (fun x hx => by
    have h1 := (HLO.out x hx).1
    have h2 := HC2.out.size
    have h3 := HD.out.ltp
    have h4 := HD.out.ltg
    have h5 := HD.out.ltb
    refine ⟨fun h => ?_, by omega, by omega, by omega⟩
    have := HT2.out.lt x h
    omega))
  have HUK : Hid (∀ W, Chg (stB sq sp sb v0) w5 W → Own W u 95 [.pointer (some ⟨q, 0, none⟩), .pointer (some ⟨sq, 0, none⟩)]) := Lib.hid (fun W hW => HU5.out.chg hW (fun h => by have := (HLO.out u h).2; omega))
  clear hc34 hown hlen hc5 HO
  go_wp2_with fail
  go_loopw [26] (fun i wr => ∃ (k : Nat) (v : Value) (C : List Nat), i = .int .i64 k ∧ k ≤ N ∧ Hid (OpW w5 wr sq sp sb v0 v C (stAt rs k))) (fun i _ => N - (intOf i).toNat)
  case atStart => exact ⟨0, v0, [], rfl, Nat.zero_le _, HW5⟩
  case round =>
    obtain ⟨k, v, C, rfl, hk, HW⟩ := hrel
    rename World => wr
    by_cases hlt : k < N
    · have hkr : k < rs.length := by rw [HNR.out]; exact hlt
      obtain ⟨hok, hal⟩ := allows_at rs PS.zero k hkr HRS.out.2.1
      have hkL : k < T.L.length := by rw [hN.out]; exact hlt
      have hLk : T.L[k] = encR rs[k] := by
        have h9 := HRS.out.1
        have h10 : T.L[k]? = some (encR rs[k]) := by rw [h9, List.getElem?_map, List.getElem?_eq_getElem hkr]; rfl
        rw [List.getElem?_eq_getElem hkL] at h10
        exact Option.some.inj h10
      have HRD : Hid (Calls Tryz.prog 40 #[.pointer (some ⟨q, 0, none⟩), .int .i64 (k : Int)] wr fun e w' => ∃ v, e = .returned (.tuple #[v, .int .i64 0]) ∧ Hid (Lst w' wr.heap.size 5 v (u8s (encR rs[k]))) ∧ Chg [] wr w') := Lib.hid (by
        have h9 := read_TD (HTK.out wr HW.out.chg) k hkL
        simp only [calm] at h9
        rw [hLk] at h9
        exact h9)
      have HSU := Lib.hid (stAt_succ hkr)
      have hdl := (stAt_desc HRS.out.2.1 k).size.1
      rw [List.length_map, List.length_take] at hdl
      have hal2 : allow (stAt rs k) rs[k] = true := hal
      clear hLk hal
      generalize rs[k] = r at *
      have HRC : Hid (∀ W a c, Ro W W.heap.size a (u8s (encR r)) → (encR r).length ≤ c → c ≤ 9223372036854775807 → Calls Tryz.prog 41 #[.slice a (encR r).length c] W fun e w' => ∃ A : CeT, e = .returned (.tuple #[rcv (r.k : Int) r.n r.t A, .bool true]) ∧ (r.k = 2 → A.x = r.c) ∧ Hid (NewC W w' A) ∧ Chg [] W w') := Lib.hid (fun W a c h1 h2 h3 => recordOf_yes W r a c W.heap.size hok h1 (Nat.le_refl _) h2 h3)
      have HAL : Hid (∀ W C' A, OpW w5 W sq sp sb v0 v C' (stAt rs k) → Calls Tryz.prog 42 #[.pointer (some ⟨sq, 0, none⟩), rcv (r.k : Int) r.n r.t A] W fun e w' => e = .returned (.bool true) ∧ Chg [] W w') := Lib.hid (fun W C' A h => allows_yes W h.sta r A hok hal2)
      have HEX : Hid (∀ W C' A, OpW w5 W sq sp sb v0 v C' (stAt rs k) → (r.k = 2 → A.x = r.c ∧ CellV W C' A) → Calls Tryz.prog 43 #[.pointer (some ⟨sq, 0, none⟩), rcv (r.k : Int) r.n r.t A] W fun e w' => e = .returned (.tuple #[]) ∧ ∃ v', Hid (OpW w5 w' sq sp sb v0 v' C' (exec (stAt rs k) r)) ∧ Chg (sq :: sp :: sb :: rowOf v) W w') := Lib.hid (fun W C' A h hc => by
        refine Calls.mono (R' := _) (exec_any W h.sta r A hc hok hal2 (by omega)) ?_
        rintro e w' ⟨h1, v', h2, h3, h4⟩
        exact ⟨h1, v', Lib.hid (h.exec h2 h3 h4), h3⟩)
      have hd1 : decide (k < N) = true := by simpa using hlt
      have hk0 : (0 : Int) ≤ (k : Int) := by omega
      have hk1 : (k : Int) < (N : Int) := by omega
      have hkb : (k : Int) ≤ 4000000 := by omega
      have HKM := Lib.hid (show N - (k + 1) < N - k by omega)
      have HLT := Lib.hid hlt
      have HVB : Hid (∀ x ∈ sq :: sp :: sb :: rowOf v, x ≠ u ∧ x < wr.heap.size) := Lib.hid (fun x hx => by
        refine ⟨fun e => ?_, HW.out.sta.lt x hx⟩
        subst e
        have h9 : x ∈ stB sq sp sb v0 ∨ w5.heap.size ≤ x := by
          unfold stB
          simp only [List.mem_cons] at hx ⊢
          rcases hx with e | e | e | e
          · exact .inl (.inl e)
          · exact .inl (.inr (.inl e))
          · exact .inl (.inr (.inr (.inl e)))
          · exact (HW.out.row x e).imp (fun h => .inr (.inr (.inr h))) id
        rcases h9 with h9 | h9
        · have := (HLO.out x h9).2; omega
        · have := HUL.out.2; omega)
      generalize stAt rs k = S at *
      clear hok hal2 hdl hkr hkL hlt
      go_wp2_with fail
      refine HRD.out.mono ?_
      rintro e w6 ⟨v6, rfl, hl6, hc6⟩
      obtain ⟨a6, c6, e6, hro6, hle6, hcm6⟩ := hl6.out.cap
      rw [u8s_length] at e6 hle6
      subst e6
      have HR6 := Lib.hid (HRC.out w6 a6 c6 hro6 hle6 hcm6)
      have HW6 := Lib.hid (HW.out.kept hc6)
      have HC6 := Lib.hid hc6
      generalize (encR r).length = en at HR6 ⊢
      clear hl6 hro6 hle6 hcm6 hc6 HRD HRC
      go_wp2_with fail
      refine HR6.out.mono ?_
      rintro e w8 ⟨A, rfl, hAx, hAN, hc8⟩
      have HW8 := Lib.hid (HW6.out.wide hc8 hAN.out)
      have HC8 := Lib.hid (HC6.out.trans hc8)
      have HCV : Hid (CellV w8 (C ++ A.blocks) A) := Lib.hid (hAN.out.cellV.mono (fun x hx => List.mem_append_right _ hx))
      have HAX := Lib.hid hAx
      have HAL8 := Lib.hid (fun W h => HAL.out W (C ++ A.blocks) A h)
      have HEX8 := Lib.hid (fun W h => HEX.out W (C ++ A.blocks) A h)
      generalize C ++ A.blocks = C2 at HW8 HCV HAL8 HEX8
      clear hAx hAN hc8 HR6 HAL HEX HW HW6
      obtain ⟨⟨ck, cd, cb⟩, a1, c1, a2, c2⟩ := A
      obtain ⟨k', nn, tt, cx⟩ := r
      unfold rcv at HAL8 HEX8 ⊢
      simp only at HAL8 HEX8 HAX ⊢
      obtain ⟨dn, hdn⟩ : ∃ x, Hid (cd.length = x) := ⟨_, Lib.hid rfl⟩
      obtain ⟨bn, hbn⟩ : ∃ x, Hid (cb.length = x) := ⟨_, Lib.hid rfl⟩
      simp only [hdn.out, hbn.out] at HAL8 HEX8 ⊢
      go_upto_region 12 with fail
      have hc89 : Chg [] w8 (w8.alloc (.cells #[.int .u64 (k' : Int), .int .u64 (nn : Int), .int .u64 (tt : Int), .int .i64 ck, .slice a1 dn c1, .slice a2 bn c2] 101)) := (Chg.refl [] w8).alloc _
      have hob9 := Own.new w8 101 [.int .u64 (k' : Int), .int .u64 (nn : Int), .int .u64 (tt : Int), .int .i64 ck, .slice a1 dn c1, .slice a2 bn c2]
      generalize w8.alloc (.cells #[.int .u64 (k' : Int), .int .u64 (nn : Int), .int .u64 (tt : Int), .int .i64 ck, .slice a1 dn c1, .slice a2 bn c2] 101) = w9 at hc89 hob9 ⊢
      obtain ⟨gB, hgB⟩ : ∃ x, Hid (w8.heap.size = x) := ⟨_, Lib.hid rfl⟩
      rw [hgB.out] at hob9 ⊢
      have HW9 := Lib.hid (HW8.out.kept hc89)
      have hu9 := HUK.out w9 HW9.out.chg
      have HCV9 := Lib.hid (HCV.out.chg hc89 (by simp))
      have HGB : Hid (gB ∉ sq :: sp :: sb :: rowOf v) := Lib.hid (fun hx => by have h1 := (HVB.out _ hx).2; have h2 := HC8.out.size; have h3 := hgB.out; omega)
      have HUB : Hid (u ∉ sq :: sp :: sb :: rowOf v) := Lib.hid (fun hx => (HVB.out _ hx).1 rfl)
      have HS9 : Hid (ChS u q sq gB (k' : Int) (nn : Int) (tt : Int) ck a1 dn c1 a2 bn c2 w9) := Lib.hid ⟨hu9.two.1, hu9.two.2, by rw [hob9.cell]; rfl, by rw [hob9.cell]; rfl, by rw [hob9.cell]; rfl, by rw [hob9.cell]; rfl, by rw [hob9.cell]; rfl, by rw [hob9.cell]; rfl⟩
      clear hc89 hob9 hu9
      refine wp_region_held_drew (S := (fun W : World => W.cell? ⟨u, 0, none⟩ = some (.pointer (some ⟨q, 0, none⟩)) ∧ W.cell? ⟨u, 1, none⟩ = some (.pointer (some ⟨sq, 0, none⟩)) ∧ W.cell? ⟨gB, 0, none⟩ = some (.int .u64 (k' : Int)) ∧ W.cell? ⟨gB, 1, none⟩ = some (.int .u64 (nn : Int)) ∧ W.cell? ⟨gB, 2, none⟩ = some (.int .u64 (tt : Int)) ∧ W.cell? ⟨gB, 3, none⟩ = some (.int .i64 ck) ∧ W.cell? ⟨gB, 4, none⟩ = some (.slice a1 dn c1) ∧ W.cell? ⟨gB, 5, none⟩ = some (.slice a2 bn c2))) (by kernel_rfl) (by have h9 := HS9.out.step (m := []) (Chg.refl [] w9).drew (by simp) (by simp); exact h9) (fun hHeld => ?_)
      refine tkH (i := 0) (v := ?_) rfl hHeld ?_ ?_
      rotate_left
      · (intro w hSw; first | (go_simp; done) | (go_simp; with_reducible rfl))
      (try simp only [Act.put, sTt, sZz, sSs, sGt, sGs, sGz])
      refine tkH (i := 1) (v := ?_) rfl hHeld ?_ ?_
      rotate_left
      · (intro w hSw; first | (go_simp; done) | (go_simp; with_reducible rfl))
      (try simp only [Act.put, sTt, sZz, sSs, sGt, sGs, sGz])
      refine tkH (i := 2) (v := ?_) rfl hHeld ?_ ?_
      rotate_left
      · (intro w hSw; first | (go_simp; done) | (go_simp; with_reducible rfl))
      (try simp only [Act.put, sTt, sZz, sSs, sGt, sGs, sGz])
      refine tkH (i := 3) (v := ?_) rfl hHeld ?_ ?_
      rotate_left
      · (intro w hSw; first | (go_simp; done) | (go_simp; with_reducible rfl))
      (try simp only [Act.put, sTt, sZz, sSs, sGt, sGs, sGz])
      refine tkH (i := 4) (v := ?_) rfl hHeld ?_ ?_
      rotate_left
      · (intro w hSw; first | (go_simp; done) | (go_simp; with_reducible rfl))
      (try simp only [Act.put, sTt, sZz, sSs, sGt, sGs, sGz])
      refine tkH (i := 5) (v := ?_) rfl hHeld ?_ ?_
      rotate_left
      · (intro w hSw; first | (go_simp; done) | (go_simp; with_reducible rfl))
      (try simp only [Act.put, sTt, sZz, sSs, sGt, sGs, sGz])
      refine tkH (i := 6) (v := ?_) rfl hHeld ?_ ?_
      rotate_left
      · (intro w hSw; first | (go_simp; done) | (go_simp; with_reducible rfl))
      (try simp only [Act.put, sTt, sZz, sSs, sGt, sGs, sGz])
      refine tkH (i := 7) (v := ?_) rfl hHeld ?_ ?_
      rotate_left
      · (intro w hSw; first | (go_simp; done) | (go_simp; with_reducible rfl))
      (try simp only [Act.put, sTt, sZz, sSs, sGt, sGs, sGz])
      refine wpAnyH_ready (rs := [8]) (by kernel_rfl) (by simp) (AllReadyH.cons rfl (fun K hK => ?_) AllReadyH.nil)
      have hH := hHeld
      (go_simp; go_at_call 42; refine (HAL8.out _ (HW9.out.kept ((Chg.refl [] w9).drew))).mono ?_; rintro e wa ⟨rfl, hca⟩)
      refine hK.out _ _ (by exact ChS.step hH hca (by simp) (by simp)) (fun hHq1 => ?_)
      clear hK K hH 
      (try simp only [Act.put, sTt, sZz, sSs, sGt, sGs, sGz])
      refine tkH (i := 9) (v := ?_) rfl hHq1 ?_ ?_
      rotate_left
      · (intro w hSw; first | (go_simp; done) | (go_simp; with_reducible rfl))
      (try simp only [Act.put, sTt, sZz, sSs, sGt, sGs, sGz])
      refine tkH (i := 10) (v := ?_) rfl hHq1 ?_ ?_
      rotate_left
      · (intro w hSw; first | (go_simp; done) | (go_simp; with_reducible rfl))
      (try simp only [Act.put, sTt, sZz, sSs, sGt, sGs, sGz])
      refine wpAnyH_done (by kernel_rfl) ?_ _
      have hEnd := hHq1
      have HWa := Lib.hid (HW9.out.kept (((Chg.refl [] w9).drew).trans hca))
      have HCVa := Lib.hid (HCV9.out.chg (((Chg.refl [] w9).drew).trans hca) (by simp))
      have HSa : Hid (ChS u q sq gB (k' : Int) (nn : Int) (tt : Int) ck a1 dn c1 a2 bn c2 wa) := Lib.hid hEnd
      clear hHeld hEnd hca HAL8
      go_upto_region 14 with fail
      refine wp_region_held_drew (S := (fun W : World => W.cell? ⟨u, 0, none⟩ = some (.pointer (some ⟨q, 0, none⟩)) ∧ W.cell? ⟨u, 1, none⟩ = some (.pointer (some ⟨sq, 0, none⟩)) ∧ W.cell? ⟨gB, 0, none⟩ = some (.int .u64 (k' : Int)) ∧ W.cell? ⟨gB, 1, none⟩ = some (.int .u64 (nn : Int)) ∧ W.cell? ⟨gB, 2, none⟩ = some (.int .u64 (tt : Int)) ∧ W.cell? ⟨gB, 3, none⟩ = some (.int .i64 ck) ∧ W.cell? ⟨gB, 4, none⟩ = some (.slice a1 dn c1) ∧ W.cell? ⟨gB, 5, none⟩ = some (.slice a2 bn c2))) (by kernel_rfl) (by have h9 := HSa.out.step (m := []) (Chg.refl [] wa).drew (by simp) (by simp); exact h9) (fun hHeld => ?_)
      refine tkH (i := 0) (v := ?_) rfl hHeld ?_ ?_
      rotate_left
      · (intro w hSw; first | (go_simp; done) | (go_simp; with_reducible rfl))
      (try simp only [Act.put, sTt, sZz, sSs, sGt, sGs, sGz])
      refine tkH (i := 1) (v := ?_) rfl hHeld ?_ ?_
      rotate_left
      · (intro w hSw; first | (go_simp; done) | (go_simp; with_reducible rfl))
      (try simp only [Act.put, sTt, sZz, sSs, sGt, sGs, sGz])
      refine tkH (i := 2) (v := ?_) rfl hHeld ?_ ?_
      rotate_left
      · (intro w hSw; first | (go_simp; done) | (go_simp; with_reducible rfl))
      (try simp only [Act.put, sTt, sZz, sSs, sGt, sGs, sGz])
      refine tkH (i := 3) (v := ?_) rfl hHeld ?_ ?_
      rotate_left
      · (intro w hSw; first | (go_simp; done) | (go_simp; with_reducible rfl))
      (try simp only [Act.put, sTt, sZz, sSs, sGt, sGs, sGz])
      refine tkH (i := 4) (v := ?_) rfl hHeld ?_ ?_
      rotate_left
      · (intro w hSw; first | (go_simp; done) | (go_simp; with_reducible rfl))
      (try simp only [Act.put, sTt, sZz, sSs, sGt, sGs, sGz])
      refine wpAnyH_ready (rs := [5]) (by kernel_rfl) (by simp) (AllReadyH.cons rfl (fun K hK => ?_) AllReadyH.nil)
      have hH := hHeld
      (go_simp; go_at_call 43; refine (HEX8.out _ (HWa.out.kept ((Chg.refl [] wa).drew)) (fun e => ⟨HAX.out e, HCVa.out.chg ((Chg.refl [] wa).drew) (by simp)⟩)).mono ?_; rintro e wb ⟨rfl, v', hwb, hcb⟩)
      refine hK.out _ _ (by exact ChS.step hH hcb HUB.out HGB.out) (fun hHq1 => ?_)
      clear hK K hH 
      (try simp only [Act.put, sTt, sZz, sSs, sGt, sGs, sGz])
      refine wpAnyH_done (by kernel_rfl) ?_ _
      have hEnd := hHq1
      have HWb := Lib.hid hwb.out
      clear hHeld hEnd hwb hcb HEX8
      go_wp2_with fail
      go_roundw
      case rel => exact ⟨k + 1, v', C2, by go_num, by have := HLT.out; omega, by rw [HSU.out]; exact HWb⟩
      case measure => have := HKM.out; simp [intOf]; omega
    · obtain rfl : k = N := by omega
      have hd1 : decide (k < k) = false := by simp
      go_wp2_with fail
      go_ret2
      have hst : stAt rs k = T.S := by
        unfold stAt
        rw [List.take_of_length_le (by rw [HNR.out]; exact Nat.le_refl _)]
        exact HRS.out.2.2.symm
      have hW := HW.out
      rw [hst] at hW
      have h2 := HC2.out.size
      have h3 := HD.out.ltp
      have h4 := HD.out.ltg
      have h5 := HD.out.ltb
      have h25 := HC25.out.size
      have hrow : ∀ x ∈ stB sq sp sb v, (w2.heap.size ≤ x ∧ x < u) ∨ w5.heap.size ≤ x := fun x hx => by
        unfold stB at hx
        simp only [List.mem_cons] at hx
        have hl := HLO.out x
        unfold stB at hl
        simp only [List.mem_cons] at hl
        rcases hx with e | e | e | e
        · exact .inl (hl (.inl e))
        · exact .inl (hl (.inr (.inl e)))
        · exact .inl (hl (.inr (.inr (.inl e))))
        · exact (hW.row x e).imp (fun h => hl (.inr (.inr (.inr h)))) id
      have hlt : ∀ x, w2.heap.size ≤ x → x ∉ l ++ [g, b] := fun x hx h => by
        rcases List.mem_append.1 h with h | h
        · have := HT2.out.lt x h; omega
        · simp at h; omega
      have hul := HUL.out
      refine ⟨u, l, q, sq, sp, sb, v, C, rfl, Lib.hid ⟨HUK.out _ hW.chg, HTK.out _ hW.chg, hW.sta, hlt u hul.1, fun hx => ?_, fun x hx => ⟨hlt x ?_, ?_⟩, fun x hx => hlt x ?_⟩, Lib.hid (fun x hx => ?_), ?_⟩
      · rcases hrow u hx with h9 | h9 <;> omega
      · rcases hrow x hx with h9 | h9 <;> omega
      · rcases hrow x hx with h9 | h9 <;> omega
      · have := hW.cs x hx; omega
      · simp only [List.mem_cons, List.mem_append] at hx
        rcases hx with rfl | (hx | hx) | hx
        · omega
        · exact HL2.out x hx
        · rcases hrow x hx with h9 | h9 <;> omega
        · have := hW.cs x hx; omega
      · exact (HC2.out.trans HC25.out).then hW.chg (fun x hx => .inr (by have := (HLO.out x hx).1; omega))
theorem Pgy.more {w0 w w' : World} {N : List Nat} {u p n : Nat} {T : PT} (V : Pgy w0 w N u p n T) (hc : Chg [] w w') (N' : List Nat) (hN : ∀ x ∈ N', x ∈ N ∨ (w.heap.size ≤ x ∧ x < w'.heap.size)) : Pgy w0 w' N' u p n T :=
  ⟨(V.v.low.kept hc).mono fun x hx => ⟨hx.1.1, fun h => by
    rcases hN x h with h1 | h1
    · exact hx.1.2 h1
    · have := hx.2; omega⟩, V.c.trans hc, fun x hx => by
    rcases hN x hx with h1 | h1
    · exact Nat.lt_of_lt_of_le (V.lt x h1) hc.size
    · exact h1.2⟩
theorem Pgy.step2 {w0 w w' : World} {N : List Nat} {u p n : Nat} {T T' : PT} (V : Pgy w0 w N u p n T) (h : Pgvc w (fun x => w0.heap.size ≤ x ∧ x ∉ N) u p n T' w') : Pgy w0 w' N u p n T' ∧ ∃ m, Chg m w w' ∧ ∀ x ∈ N, x ∉ m := by
  refine ⟨(V.step h).1, ?_⟩
  obtain ⟨m, hm, hm2⟩ := h.2
  refine ⟨m, hm, fun g hg hx => ?_⟩
  have h1 := V.lt g hg
  rcases hm2 g hx with h2 | h2
  · exact h2.2 hg
  · omega
theorem crashF_none (F : Nat → Sec) (ks : List Bool) : crashF F (fun _ => none) ks = F := by
  funext i
  unfold crashF
  split <;> rfl
structure DskC (w w' : World) (p n : Nat) (T : PT) : Prop where
  ex : ∃ g b, Dsk w' p g b n T.F (fun _ => none) ∧ w.heap.size ≤ p ∧ w.heap.size ≤ g ∧ w.heap.size ≤ b
theorem Pgv.crash {w : World} {B : Nat → Prop} {u p n : Nat} {T : PT} (V : Pgv w B u p n T) (a : Option Addr) (ks : List Bool) (c : Nat) (hro : Ro w w.heap.size a (bls ks)) (hks : ks.length ≤ 9223372036854775807) :
    Calls Tryz.prog 16 #[.pointer (some ⟨p, 0, none⟩), .slice a ks.length c] w fun e w' => ∃ p', e = .returned (.pointer (some ⟨p', 0, none⟩)) ∧ Hid (DskC w w' p' n T) ∧ Chg [] w w' := by
  obtain ⟨l, q, g, b, sq, sp, sb, v, C, P, _⟩ := V.ex
  refine Calls.mono (R' := _) (crash_ok w P.td.dsk a ks c w.heap.size hro (Nat.le_refl _) hks) ?_
  rintro e w' ⟨p', g', b', h1, h2, h3, h4, h5, h6⟩
  refine ⟨p', h1, Lib.hid ⟨g', b', ?_, h2, h3, h4⟩, h6⟩
  have : crashF (ptS T).F (ptS T).m ks = T.F := crashF_none _ _
  rwa [this] at h5
theorem DskC.crash {w0 w : World} {p n : Nat} {T : PT} (D : DskC w0 w p n T) (a : Option Addr) (ks : List Bool) (c : Nat) (hro : Ro w w.heap.size a (bls ks)) (hks : ks.length ≤ 9223372036854775807) :
    Calls Tryz.prog 16 #[.pointer (some ⟨p, 0, none⟩), .slice a ks.length c] w fun e w' => ∃ p', e = .returned (.pointer (some ⟨p', 0, none⟩)) ∧ Hid (DskC w w' p' n T) ∧ Chg [] w w' := by
  obtain ⟨g, b, D, _⟩ := D.ex
  refine Calls.mono (R' := _) (crash_ok w D a ks c w.heap.size hro (Nat.le_refl _) hks) ?_
  rintro e w' ⟨p', g', b', h1, h2, h3, h4, h5, h6⟩
  refine ⟨p', h1, Lib.hid ⟨g', b', ?_, h2, h3, h4⟩, h6⟩
  rwa [crashF_none] at h5
theorem DskC.open_ {w W : World} {p n : Nat} {T : PT} (D : DskC w W p n T) (hW : Chg [] w W) (hn : 3 ≤ n) (iv : Iv n T) :
    Calls Tryz.prog 12 #[.pointer (some ⟨p, 0, none⟩)] W fun e w' => ∃ u, e = .returned (.tuple #[.pointer (some ⟨u, 0, none⟩), .int .i64 0]) ∧ Hid (Pgv w' (fun x => w.heap.size ≤ x) u p n T) ∧ Chg [] W w' := by
  obtain ⟨g, b, D, h1, h2, h3⟩ := D.ex
  refine Calls.mono (R' := _) (POpen_any W D hn iv) ?_
  rintro e w' ⟨u, l, q, sq, sp, sb, v, C, e1, hP, hl, hc⟩
  refine ⟨u, e1, Lib.hid ⟨⟨l, q, g, b, sq, sp, sb, v, C, hP.out, fun x hx => ?_⟩, iv⟩, hc⟩
  have h4 := hl.out x
  have h5 := hW.size
  simp only [List.mem_cons, List.mem_append, List.not_mem_nil, or_false] at hx h4
  show w.heap.size ≤ x
  rcases hx with hx | hx | ((hx | hx | hx) | hx) | hx
  · have := h4 (.inl hx); omega
  · omega
  · have := h4 (.inr (.inl (.inl hx))); omega
  · omega
  · omega
  · have := h4 (.inr (.inl (.inr hx))); omega
  · have := h4 (.inr (.inr hx)); omega
theorem Pgy.again {w0 w w' : World} {N : List Nat} {u p u' p' n : Nat} {T : PT} (V : Pgy w0 w N u p n T) (h : Pgv w' (fun x => w.heap.size ≤ x) u' p' n T) (hc : Chg [] w w') : Pgy w0 w' N u' p' n T :=
  ⟨h.mono fun x hx => ⟨Nat.le_trans V.c.size hx, fun h9 => by have := V.lt x h9; omega⟩, V.c.trans hc, fun x hx => Nat.lt_of_lt_of_le (V.lt x hx) hc.size⟩
theorem rd_up {S U : PS} (g : Gd S) (k : Gd U) (h : Up S U) (a : Nat) : (rdE S a = 0 ∧ ((rdE U a = 0 ∧ rdC U a = rdC S a) ∨ rdE U a = 83)) ∨ (rdE S a = 82 ∧ (rdE U a = 0 ∨ rdE U a = 82 ∨ rdE U a = 83)) ∨ (rdE S a = 83 ∧ rdE U a = 83) := by
  have h83 : U.tr a = true → rdE U a = 83 := fun e => by unfold rdE; rw [if_pos e]
  by_cases e1 : S.tr a = true
  · exact .inr (.inr ⟨by unfold rdE; rw [if_pos e1], h83 (h.tr a e1)⟩)
  · by_cases e2 : (S.m a).isSome = true
    · left
      refine ⟨by unfold rdE; rw [if_neg e1, if_pos e2], ?_⟩
      obtain ⟨c, hc⟩ := Option.isSome_iff_exists.1 e2
      by_cases e3 : U.tr a = true
      · exact .inr (h83 e3)
      · rcases h.m a c hc with h1 | h1
        · exact .inl ⟨by unfold rdE; rw [if_neg e3, if_pos (by rw [h1]; rfl)], by unfold rdC; rw [h1, hc]⟩
        · exact absurd h1 e3
    · right; left
      refine ⟨by unfold rdE; rw [if_neg e1, if_neg e2], ?_⟩
      unfold rdE
      split
      · exact .inr (.inr rfl)
      · split
        · exact .inl rfl
        · exact .inr (.inl rfl)
end Go.Proofs.YtmpajlpemabniaaGreat
