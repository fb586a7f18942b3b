/-
  Slices of segments of the call's own; repair's chains, by its contract. No claim of its own.
-/
import Derived.Test.YtdpaofedepnnbaaLyN
import Derived.Test.YtdpaofedepnnbaaSl
namespace Go.Proofs.Ytdpaofedepnnbaa
open Go.RowKit Go.Deep Go.Shelf
set_option linter.unusedVariables false
set_option linter.unusedSimpArgs false


/-- chains, filled up one after the other -/
def fillC (dr : List Int) : FS → List (List Int) → Int × FS × List (List Int)
  | S, [] => (0, S, [])
  | S, c :: L => if (fill1 dr S c).1 = 0 then ((fillC dr (fill1 dr S c).2.1 L).1, (fillC dr (fill1 dr S c).2.1 L).2.1, (fill1 dr S c).2.2 :: (fillC dr (fill1 dr S c).2.1 L).2.2) else ((fill1 dr S c).1, (fill1 dr S c).2.1, [])
def pre {α : Type} (ns : List α) (r : Int × FS × List α) : Int × FS × List α := (r.1, r.2.1, ns ++ r.2.2)
theorem fillC_step (dr : List Int) (S : FS) (L : List (List Int)) (k : Nat) (hk : k < L.length) : fillC dr S (L.drop k) = if (fill1 dr S (cx L k)).1 = 0 then pre [(fill1 dr S (cx L k)).2.2] (fillC dr (fill1 dr S (cx L k)).2.1 (L.drop (k + 1))) else ((fill1 dr S (cx L k)).1, (fill1 dr S (cx L k)).2.1, []) := by
  have e : L.drop k = cx L k :: L.drop (k + 1) := by
    rw [List.drop_eq_getElem_cons hk]
    congr 1
    simp [cx, List.getD, hk]
  rw [e]
  simp only [fillC, pre, List.cons_append, List.nil_append]
theorem pre_pre {α : Type} (a b : List α) (r : Int × FS × List α) : pre a (pre b r) = pre (a ++ b) r := by simp [pre]
theorem RepS.notT {w : World} {B q b : Nat} {a1 : Option Addr} {c1 : Nat} {dr : List Int} {S : FS} (h : RepS w B q b a1 c1 dr S) (t : TypeId) (ht : t ≠ 93) : ∀ x ∈ [q, b], ∀ cur, w.heap[x]? ≠ some (.cells cur t (0, 0)) := by
  obtain ⟨a2, c2, D, h1, h2, h3, h4, h4b, h5, h6, h7⟩ := h.ex
  intro x hx cur he
  simp only [List.mem_cons, List.not_mem_nil, or_false] at hx
  rcases hx with rfl | rfl
  · unfold Own at h1
    rw [h1] at he
    injection he with he
    injection he with _ he _
    exact ht he.symm
  · obtain ⟨es, clock, g1, g2⟩ := h5
    rw [g1] at he
    injection he with he
    cases he

theorem RepS.chgT {w w' : World} {B q b : Nat} {a1 : Option Addr} {c1 : Nat} {dr : List Int} {S : FS} {l : List Nat} (h : RepS w B q b a1 c1 dr S) (hc : Chg l w w') (hl : ∀ x ∈ l, B ≤ x ∧ ∃ cur t, w.heap[x]? = some (.cells cur t (0, 0)) ∧ t ≠ 93 ∧ t ≠ 3) : RepS w' B q b a1 c1 dr S := by
  obtain ⟨a2, c2, D, h1, h2, h3, h4, h4b, h5, h6, h7⟩ := h.ex
  have hB : B ≤ w.heap.size := Nat.le_trans h.hq (Nat.le_of_lt h1.lt)
  have hcb : Below B w w' := hc.below hB (fun x hx => (hl x hx).1)
  have hqn : q ∉ l := fun hq => by
    obtain ⟨_, cur, t, g1, g2, g3⟩ := hl q hq
    unfold Own at h1
    rw [h1] at g1
    injection g1 with g1
    injection g1 with _ g1 _
    exact g2 g1.symm
  have hbn : b ∉ l := fun hb => by
    obtain ⟨_, cur, t, g1, g2, g3⟩ := hl b hb
    obtain ⟨es, clock, k1, _⟩ := h5
    rw [k1] at g1
    injection g1 with g1
    cases g1
  refine ⟨⟨a2, c2, D, h1.chg hc hqn, h2.below hcb (Nat.le_refl _), h3, h4, h4b, h5.chg hc hbn, h6, fun p hp => ⟨(h7 p hp).1, (h7 p hp).2.chg hc (fun x hx cur he => ?_)⟩⟩, h.row.below hcb (Nat.le_refl _), h.hq, h.hb, h.hd⟩
  obtain ⟨_, cur', t, g1, g2, g3⟩ := hl x hx
  rw [he] at g1
  injection g1 with g1
  injection g1 with _ g1 _
  exact g3 g1.symm

/-- what a call of chains leaves -/
def R2 (w : World) (B q b : Nat) (a1 : Option Addr) (c1 : Nat) (dr : List Int) (r : Int × FS × List (List Int)) (e : Ending) (w' : World) : Prop :=
  ∃ a n c, e = .returned (.tuple #[.slice a n c, .int .i64 r.1]) ∧ RepS w' B q b a1 c1 dr r.2.1 ∧ Chg [q, b] w w' ∧ (r.1 = 0 → ∃ Ts : List ChT, n = Ts.length ∧ chx Ts = r.2.2 ∧ Lst w' w.heap.size 36 (.slice a n c) (chv Ts) ∧ ∀ T ∈ Ts, Lst w' B 3 T.val (i64s T.u))
set_option maxHeartbeats 4000000 in
set_option maxRecDepth 100000 in
theorem chainsR_any (L : List ChT) (a : Option Addr) (c B q b : Nat) (a1 : Option Addr) (c1 : Nat) (dr : List Int) (S : FS) (w : World) (h : RepS w B q b a1 c1 dr S) (hro : Ro w B a (chv L)) (hin : ChIn w B L) (hL : ∀ T ∈ L, ChP T.u) (hl : L.length ≤ 1000000) :
    Calls Try.prog 56 #[.pointer (some ⟨q, 0, none⟩), .slice a L.length c] w (R2 w B q b a1 c1 dr (fillC dr S (chx L))) := by
  have hBw : B ≤ w.heap.size := by
    obtain ⟨a2, c2, D, h1, _⟩ := h.ex
    exact Nat.le_trans h.hq (Nat.le_of_lt h1.lt)
  have HBQ := Lib.hid (And.intro h.hq h.hb)
  have HREP := Lib.hid h
  have HRO := Lib.hid hro
  have HIN := Lib.hid hin
  have HP := Lib.hid hL
  have HS := Lib.hid hBw
  obtain ⟨r, HRR⟩ : ∃ r, Hid (fillC dr S (chx L) = r) := ⟨_, Lib.hid rfl⟩
  rw [HRR.out]
  have HCR := Lib.hid (fun (A : ChT) (S : FS) (W : World) h hA hro => chainR_any A B q b a1 c1 dr S W h hA hro)
  generalize hN : L.length = n at *
  have HN := Lib.hid hN
  have hn1 : (n : Int) ≤ 1000000 := by omega
  clear hro hin hL h hBw hN
  go_enter Try.func56, Try.ntmps56
  go_wp2_with fail
  go_loopw [6, 13] (fun x i wr => ∃ (k : Nat) (Sk : FS) (Ts : List ChT) (v : Value), k ≤ n ∧ i = .int .i64 (k : Int) ∧ v = x ∧ Hid (RepS wr B q b a1 c1 dr Sk) ∧ Hid (Lst wr w.heap.size 36 v (chv Ts)) ∧ Hid (∀ T ∈ Ts, Lst wr B 3 T.val (i64s T.u)) ∧ Hid (Chg [q, b] w wr) ∧ Hid (r = pre (chx Ts) (fillC dr Sk ((chx L).drop k))) ∧ Hid (Ts.length = k)) (fun _ i _ => n - (intOf i).toNat)
  case atStart => exact ⟨0, S, [], _, Nat.zero_le _, rfl, rfl, HREP, Lib.hid (Lst.nil _ _ _), Lib.hid (by simp), Lib.hid (Chg.refl _ _), Lib.hid (by rw [List.drop_zero, HRR.out]; simp [pre, chx]), Lib.hid rfl⟩
  case round =>
    obtain ⟨k, Sk, Ts, v, hk, rfl, rfl, HRk, HLk, HTk, HCk, HEk, HKk⟩ := hrel
    by_cases hlt : k < n
    · have hkL : k < L.length := by rw [HN.out]; exact hlt
      have HCB : Hid (Below B w wr) := Lib.hid (HCk.out.below HS.out (fun x hx => by
        simp only [List.mem_cons, List.not_mem_nil, or_false] at hx
        rcases hx with rfl | rfl
        · exact HBQ.out.1
        · exact HBQ.out.2))
      obtain ⟨b2, off, rfl, hb, hcc⟩ := (HRO.out.below HCB.out (Nat.le_refl _)).ch (show 0 < L.length by omega)
      have e1 := hcc k hkL
      clear hcc
      have hk0 : (0 : Int) ≤ (k : Int) := by omega
      have hk1 : (k : Int) < (n : Int) := by omega
      have HC := Lib.hid (HCR.out (ct L k) Sk wr HRk.out (HP.out _ (ct_mem hkL)) ((HIN.out _ (ct_mem hkL)).below HCB.out (Nat.le_refl _)))
      have hst := fillC_step dr Sk (chx L) k (by simpa using hkL)
      rw [cx_chx] at hst
      have HST := Lib.hid hst
      clear hst
      generalize hT : ct L k = T at *
      clear hT
      obtain ⟨ta, tc, tu⟩ := T
      simp only [ChT.val] at HC HST
      generalize fill1 dr Sk tu = f at *
      obtain ⟨fc, fs, fx⟩ := f
      simp only at HST
      simp only at e1
      generalize tu.length = tn at *
      go_wp2_with fail
      refine HC.out.mono ?_
      rintro e w1 ⟨v1, rfl, hr1, hc1, hok, hno⟩
      have HR1 := Lib.hid hr1
      have HC1 : Hid (Chg [q, b] w w1) := Lib.hid (HCk.out.trans hc1)
      have HL1 : Hid (Lst w1 w.heap.size 36 v (chv Ts)) := Lib.hid (HLk.out.chg hc1 (HRk.out.notT _ (by decide)))
      have HT1 : Hid (∀ T ∈ Ts, Lst w1 B 3 T.val (i64s T.u)) := Lib.hid (fun T hT => (HTk.out T hT).chg hc1 (HRk.out.notT _ (by decide)))
      by_cases hf : fc = 0
      · subst hf
        obtain ⟨T, rfl, hTu, hTl⟩ := hok rfl
        have HTL := Lib.hid hTl
        have HTU := Lib.hid hTu
        have HEQ := Lib.hid (HEk.out.trans (by rw [HST.out, if_pos rfl, pre_pre]))
        clear hr1 hc1 hok hno hTl hTu
        have hTv : T.val = .slice T.a T.u.length T.c := rfl
        rw [hTv]
        generalize hTn : T.u.length = m at *
        have HTN := Lib.hid hTn
        clear hTn hTv
        go_wp2_with (at_builtin; refine wpList_app1g rfl (.tmp 26) (.tmp 28) 41 rfl w.heap.size 36 (.slice none 0 0) 24 Try.underlying41 Try.info_ch rfl (.slice T.a m T.c) rfl v (chv Ts) rfl HL1.out rfl (by rw [chv_length]; have := HKk.out; omega) (by rw [chv_length]; have := HKk.out; omega) HC1.out.size ?_)
        intro v' w2 hl2 hc2
        have hrow := HL1.out.row
        have HR2 : Hid (RepS w2 B q b a1 c1 dr fs) := Lib.hid (HR1.out.chgT hc2 (fun x hx => by
          obtain ⟨h1, cur, h2⟩ := hrow x hx
          exact ⟨Nat.le_trans HS.out h1, cur, _, h2, by decide, by decide⟩))
        have HT2 : Hid (∀ T' ∈ Ts ++ [T], Lst w2 B 3 T'.val (i64s T'.u)) := Lib.hid (fun T' hT' => by
          have h1 : Lst w1 B 3 T'.val (i64s T'.u) := by
            rcases List.mem_append.1 hT' with h | h
            · exact HT1.out T' h
            · simp only [List.mem_singleton] at h
              subst h
              exact HTL.out
          exact h1.chg hc2 (fun x hx cur he => by
            obtain ⟨_, cur', h2⟩ := hrow x hx
            rw [he] at h2
            injection h2 with h2
            injection h2 with _ h2 _
            exact absurd h2 (by decide)))
        have HC2 : Hid (Chg [q, b] w w2) := Lib.hid (HC1.out.then hc2 (fun x hx => .inr (hrow x hx).1))
        have HL2 : Hid (Lst w2 w.heap.size 36 v' (chv (Ts ++ [T]))) := Lib.hid (by
          have e : chv (Ts ++ [T]) = chv Ts ++ [.slice T.a m T.c] := by
            unfold chv
            rw [List.map_append, ← HTN.out]
            rfl
          rw [e]
          exact hl2.out)
        clear hl2 hc2 hrow
        go_wp2_with fail
        go_roundw
        case rel =>
          refine ⟨k + 1, fs, Ts ++ [T], _, by omega, by go_num, rfl, HR2, HL2, HT2, HC2, Lib.hid ?_, Lib.hid (by rw [List.length_append]; have := HKk.out; simp; omega)⟩
          rw [HEQ.out]
          congr 1
          unfold chx
          rw [List.map_append, ← HTU.out]
          rfl
        case measure => simp [intOf]; omega
      · have hv1 := hno hf
        subst hv1
        have HEQ := Lib.hid (HEk.out.trans (by rw [HST.out, if_neg hf]))
        have hf' : (fc != 0) = true := by rw [bne_iff_ne]; exact hf
        have HF := Lib.hid hf
        clear hr1 hc1 hok hno hf
        go_wp2_with fail
        go_ret2
        rw [HEQ.out]
        exact ⟨none, 0, 0, rfl, HR1.out, HC1.out, fun h => absurd h HF.out⟩
    · obtain rfl : k = n := by omega
      have HEQ := Lib.hid (HEk.out.trans (by rw [List.drop_of_length_le (by rw [chx_length, HN.out]; exact Nat.le_refl _)]))
      obtain ⟨av, cv, hv, _, _⟩ := HLk.out.form
      rw [chv_length] at hv
      subst hv
      generalize hTn : Ts.length = m at *
      have HTN := Lib.hid hTn
      clear hTn
      go_wp2_with fail
      go_ret2
      rw [HEQ.out]
      exact ⟨av, m, cv, rfl, HRk.out, HCk.out, fun _ => ⟨Ts, HTN.out.symm, by simp [pre, fillC], HLk.out, HTk.out⟩⟩
end Go.Proofs.Ytdpaofedepnnbaa
