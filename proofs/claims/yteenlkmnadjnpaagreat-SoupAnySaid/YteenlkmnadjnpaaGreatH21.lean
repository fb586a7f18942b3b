/-
  The statement SoupAny: the walk of its Go text, by the contracts of what it calls.
-/
import Derived.Test.YteenlkmnadjnpaaGreatH20
namespace Go.Proofs.YteenlkmnadjnpaaGreat
open Go.RowKit Go.Deep Go.Shelf
set_option linter.unusedVariables false
set_option linter.unusedSimpArgs false

open Classical in
/-- the bytes under which a message comes in, if it does -/
noncomputable def kOf (A : MgT) : Option Ky := if h : mfits A = true ∧ mright A.x = true ∧ ∃ k, IsME A.x k then some (Classical.choose h.2.2) else none
theorem kOf_yes {A : MgT} {k : Ky} (h1 : mfits A = true) (h2 : mright A.x = true) (h3 : IsME A.x k) : kOf A = some k := by
  unfold kOf
  rw [dif_pos ⟨h1, h2, k, h3⟩]
  congr 1
  exact (Classical.choose_spec (⟨k, h3⟩ : ∃ k, IsME A.x k)).unique h3
theorem kOf_no {A : MgT} (h : ¬ (mfits A = true ∧ mright A.x = true)) : kOf A = none := by
  unfold kOf
  rw [dif_neg]
  rintro ⟨h1, h2, _⟩
  exact h ⟨h1, h2⟩
noncomputable def kl (L : List MgT) : List Ky := L.filterMap kOf
theorem kl_len (L : List MgT) : (kl L).length ≤ L.length := List.length_filterMap_le _ _
def insl (l : List Ky) : List Ky := l.foldl (fun acc k => ins k acc) []
theorem insl_perm' : ∀ (l acc : List Ky), (l.foldl (fun acc k => ins k acc) acc).Perm (l ++ acc)
  | [], acc => List.Perm.refl _
  | k :: l, acc => (insl_perm' l (ins k acc)).trans (((ins_perm k acc).append_left l).trans List.perm_middle)
theorem insl_perm (l : List Ky) : (insl l).Perm l := by
  have := insl_perm' l []
  rwa [List.append_nil] at this
theorem insl_srt' : ∀ (l acc : List Ky), Srt acc → Srt (l.foldl (fun acc k => ins k acc) acc)
  | [], _, h => h
  | k :: l, acc, h => insl_srt' l (ins k acc) h.ins
theorem insl_srt (l : List Ky) : Srt (insl l) := insl_srt' l [] List.Pairwise.nil
theorem insl_len (l : List Ky) : (insl l).length = l.length := (insl_perm l).length_eq
theorem insl_snoc (l : List Ky) (k : Ky) : insl (l ++ [k]) = ins k (insl l) := by simp [insl, List.foldl_append]
theorem insl_eq {l m : List Ky} (h : l.Perm m) : insl l = insl m :=
  (((insl_perm l).trans h).trans (insl_perm m).symm).eq_of_pairwise (le := fun a b => a ≤ b) (fun a b _ _ h1 h2 => List.le_antisymm h1 h2) (insl_srt l) (insl_srt m)
theorem kl_snoc (X : List MgT) (C : MgT) : kl (X ++ [C]) = kl X ++ (match kOf C with | some k => [k] | none => []) := by
  unfold kl
  rw [List.filterMap_append]
  cases h : kOf C <;> simp [h]
theorem kl_rev (L : List MgT) : insl (kl L.reverse) = insl (kl L) := by
  apply insl_eq
  unfold kl
  rw [List.filterMap_reverse]
  exact List.reverse_perm _
/-- a soup that holds the messages of X -/
noncomputable def sX (X : List MgT) : SpS := ⟨insl (kl X), fun _ => false, 0⟩
theorem sX_nofit {X : List MgT} {C : MgT} (h : mfits C = false) : sX (X ++ [C]) = sX X := by
  unfold sX
  rw [kl_snoc, kOf_no (fun hh => by rw [h] at hh; cases hh.1), List.append_nil]
theorem sX_len (X : List MgT) : (sX X).L.length ≤ X.length := by
  show (insl (kl X)).length ≤ _
  rw [insl_len]
  exact kl_len X
theorem sX_put {X : List MgT} {C : MgT} {g : Int} {S' : SpS} (hX : X.length < 400) (hf : mfits C = true) (h : PutR (sX X) C.x g S') :
    S' = sX (X ++ [C]) ∧ ((g = 0 ∧ (sX (X ++ [C])).L.length = (sX X).L.length + 1) ∨ (g = 101 ∧ (sX (X ++ [C])).L.length = (sX X).L.length)) := by
  cases hr : mright C.x with
  | true =>
    obtain ⟨k, _, he, rfl, rfl⟩ := h.yes hr
    have h1 : ¬ 400 ≤ (sX X).L.length := by have := sX_len X; omega
    have e1 : (sX X).add k = sX (X ++ [C]) := by
      unfold SpS.add
      rw [if_neg h1]
      unfold sX
      rw [kl_snoc, kOf_yes hf hr he, insl_snoc]
    refine ⟨e1, .inl ⟨if_neg h1, ?_⟩⟩
    rw [← e1]
    unfold SpS.add
    rw [if_neg h1]
    exact ins_len _ _
  | false =>
    obtain ⟨rfl, rfl⟩ := h.no hr
    have e1 : sX (X ++ [C]) = sX X := by
      unfold sX
      rw [kl_snoc, kOf_no (fun hh => by rw [hr] at hh; cases hh.2), List.append_nil]
    rw [e1]
    exact ⟨rfl, .inr ⟨rfl, rfl⟩⟩
theorem drop_rev {L : List MgT} {i j : Nat} (h : i + j + 1 = L.length) : (L.drop (L.length - (i + 1))).reverse = (L.drop (L.length - i)).reverse ++ [L[j]] := by
  have e1 : L.length - (i + 1) = j := by omega
  have e2 : L.length - i = j + 1 := by omega
  rw [e1, e2, List.drop_eq_getElem_cons (by omega), List.reverse_cons]
theorem keyAt_first {L : List Ky} (h : L ≠ []) : ∃ k, keyAt L 0 = some k := by
  unfold keyAt
  rw [if_neg (by omega)]
  cases hd : dd L with
  | nil =>
    cases L with
    | nil => exact absurd rfl h
    | cons x l =>
      have : x ∈ dd (x :: l) := dd_mem.2 (by simp)
      rw [hd] at this
      cases this
  | cons k l => exact ⟨k, rfl⟩
theorem Down_u {w : World} {p b d : Nat} {S : SpS} (h : Sp w p b d S) (q : Pl2) (x : Bool) :
    Calls Tryz.prog 37 #[.pointer (some ⟨p, 0, none⟩), plV q, .bool x] w fun e w' => ∃ g : Int, e = .returned (.int .i64 g) ∧ ∃ S', S'.L = S.L ∧ Sp w' p b d S' ∧ Chg [p, b, d] w w' := by
  cases hq : plOk q with
  | true =>
    refine (Down_any h q x hq).mono ?_
    rintro e w' ⟨rfl, hs, hc⟩
    exact ⟨0, rfl, S.down q x, rfl, hs, hc.mono (by simp)⟩
  | false =>
    refine (Down_bad h q x hq).mono ?_
    rintro e w' ⟨rfl, hc⟩
    exact ⟨1, rfl, S, rfl, h.kept hc, hc.mono (by simp)⟩
theorem MgX.sp {w w' : World} {base p b d : Nat} {S : SpS} {T : MgT} (h : MgX w base [p, b] T) (hS : Sp w p b d S) (hc : Chg [p, b] w w') : MgX w' base [p, b] T := by
  have hT : ∀ t, t ≠ 123 → ∀ x ∈ [p, b], ∀ cur, w.heap[x]? ≠ some (.cells cur t (0, 0)) := by
    intro t ht x hx cur he
    simp only [List.mem_cons, List.not_mem_nil, or_false] at hx
    rcases hx with rfl | rfl
    · have := hS.own
      unfold Own at this
      rw [this] at he
      injection he with he
      injection he with _ he _
      exact ht he.symm
    · obtain ⟨D, ⟨es, clock, hb, _⟩, _⟩ := hS.tm.own
      rw [hb] at he
      injection he with he
      cases he
  exact ⟨h.d.chg hc, h.b.chg hc, h.st.chg hc, h.bk.chg hc, h.sl.chg hc (hT _ (by decide)), h.gw.chg hc (hT _ (by decide)) (hT _ (by decide))⟩
theorem eql_placeX (p q : Pl2) {r : Bool} (h : decide (p = q) = r) (w : World) : (binOp .eql 25 (.agg #[.int .i64 p.1, .int .i64 p.2]) (.agg #[.int .i64 q.1, .int .i64 q.2])).run Tryz.prog w = .ok (.bool r) w := by
  have e2 : decide (p.1 = q.1 ∧ p.2 = q.2) = r := by
    rw [← h]
    by_cases hpq : p = q
    · subst hpq; simp
    · have : ¬ (p.1 = q.1 ∧ p.2 = q.2) := fun ⟨a, b⟩ => hpq (Prod.ext a b)
      simp [hpq, this]
  rw [run_eql_struct, eqw_placeX, e2]
  rfl
set_option maxHeartbeats 16000000 in
set_option maxRecDepth 100000 in
theorem soupAny_any (w : World) {a0 : Option Addr} {L : List MgT} {cc : Nat} {q : Pl2} (hL : MLR w w.heap.size a0 L ∧ L.length ≤ 9223372036854775807) (hq : Pw q) :
    Calls Tryz.prog 6 #[.slice a0 L.length cc, plV q] w fun e w' => e = .returned (.bool true) ∧ Below w.heap.size w w' := by
  obtain ⟨W, HWW⟩ : ∃ W, Hid (w.alloc (.cells #[.int .i64 q.1, .int .i64 q.2] 25) = W) := ⟨_, Lib.hid rfl⟩
  have hWb : Below w.heap.size w W := by rw [← HWW.out]; exact (Below.refl _ _).alloc (Nat.le_refl _) _
  have HO := Lib.hid (show Own W w.heap.size 25 [.int .i64 q.1, .int .i64 q.2] by rw [← HWW.out]; exact Own.new w _ _)
  have HB := Lib.hid hWb
  have HAL := Lib.hid alive11_any
  have HNW := Lib.hid New_any
  have HIN := Lib.hid (fun (V : World) (hV : Below w.heap.size w V) => hL.1.below hV (Nat.le_refl _))
  have HQ := Lib.hid hq
  have HE60 : Hid (L = [] ∨ 0 < L.length) := Lib.hid (by cases L <;> simp)
  obtain ⟨n, hn⟩ : ∃ n, L.length = n := ⟨_, rfl⟩
  have HN := Lib.hid hn
  have hnb : (n : Int) ≤ 9223372036854775807 := by have := hL.2; omega
  rw [hn]
  obtain ⟨q1, q2⟩ := q
  dsimp only at HWW HO
  clear hWb hL hn hq
  go_enter Tryz.func6, Tryz.ntmps6
  go_upto_region 1 with fail
  rw [HWW.out]
  go_wp2_with fail
  refine (HNW.out W).mono ?_
  rintro e w1 ⟨p, rfl, b, d, hs, hb, hge⟩
  have HS1 := Lib.hid hs
  have HGE1 : Hid (∀ x ∈ [p, b, d], w.heap.size < x) := Lib.hid (fun x hx => Nat.lt_of_lt_of_le HO.out.lt (hge x hx))
  have HB1 := Lib.hid (HB.out.trans (hb.mono HB.out.size))
  have HO1 := Lib.hid (HO.out.below hb HO.out.lt)
  clear hs hb hge
  go_wp2_with fail
  refine (HNW.out w1).mono ?_
  rintro e w2 ⟨p2, rfl, b2, d2, hs, hb, hge⟩
  have HS2 := Lib.hid (HS1.out.kept ((Chg.refl [] w1).of_below hb))
  have HT2 := Lib.hid hs
  have HSEP : Hid (∀ x ∈ [p, b, d], x ∉ [p2, b2, d2]) := Lib.hid (fun x hx hm => by have h1 := hge x hm; have h2 := HS1.out.lt x hx; omega)
  have HGE : Hid (∀ x ∈ [p, b, d, p2, b2, d2], w.heap.size < x) := Lib.hid (fun x hx => by
    simp only [List.mem_cons, List.not_mem_nil, or_false] at hx
    rcases hx with rfl | rfl | rfl | rfl | rfl | rfl
    · exact HGE1.out _ (by simp)
    · exact HGE1.out _ (by simp)
    · exact HGE1.out _ (by simp)
    · exact Nat.lt_of_lt_of_le (Nat.lt_of_lt_of_le HO1.out.lt (Nat.le_refl _)) (hge _ (by simp))
    · exact Nat.lt_of_lt_of_le (Nat.lt_of_lt_of_le HO1.out.lt (Nat.le_refl _)) (hge _ (by simp))
    · exact Nat.lt_of_lt_of_le (Nat.lt_of_lt_of_le HO1.out.lt (Nat.le_refl _)) (hge _ (by simp)))
  have HB2 := Lib.hid (HB1.out.trans (hb.mono HB1.out.size))
  have HO2 := Lib.hid (HO1.out.below hb HO1.out.lt)
  have HX1 : Hid (∀ {V V' : World} {S : SpS}, Sp V p b d S → Chg [p2, b2] V V' → Sp V' p b d S) := Lib.hid (fun hS hc => hS.chg hc (fun hm => HSEP.out p (by simp) (by simp at hm ⊢; omega)) (fun hm => HSEP.out b (by simp) (by simp at hm ⊢; omega)) (fun hm => HSEP.out d (by simp) (by simp at hm ⊢; omega)))
  have HX2 : Hid (∀ {V V' : World} {S : SpS} {l : List Nat}, Sp V p2 b2 d2 S → Chg l V V' → (∀ x ∈ l, x ∈ [p, b, d]) → Sp V' p2 b2 d2 S) := Lib.hid (fun hS hc hl => hS.chg hc (fun hm => HSEP.out _ (hl _ hm) (by simp)) (fun hm => HSEP.out _ (hl _ hm) (by simp)) (fun hm => HSEP.out _ (hl _ hm) (by simp)))
  clear hs hb hge
  by_cases hn60 : 60 < n
  · have e1 : decide ((60 : Int) < (n : Int)) = true := by simp; omega
    have e2 : decide (60 < n) = true := by simp; omega
    clear hn60
    go_wp2_with fail
    go_ret
    exact ⟨rfl, HB2.out⟩
  have e1 : decide ((60 : Int) < (n : Int)) = false := by simp; omega
  have e2 : decide (60 < n) = false := by simp; omega
  have HN60 : Hid (n ≤ 60) := Lib.hid (by omega)
  have hn60' : (n : Int) ≤ 60 := by omega
  clear hn60 hnb
  go_wp2_with fail
  go_loopw [7, 8] (fun v7 v8 wr => ∃ i : Nat, v8 = .int .i64 (i : Int) ∧ i ≤ n ∧ v7 = .int .i64 ((sX (L.take i)).L.length : Int) ∧ Hid (Sp wr p b d (sX (L.take i))) ∧ Hid (Sp wr p2 b2 d2 (sX (L.drop (L.length - i)).reverse)) ∧ Hid (Chg [p, b, d, p2, b2, d2] w2 wr)) (fun _ v8 _ => n - (intOf v8).toNat)
  case atStart =>
    refine ⟨0, rfl, Nat.zero_le _, rfl, HS2, Lib.hid ?_, Lib.hid (Chg.refl _ _)⟩
    rw [Nat.sub_zero, List.drop_length]
    exact HT2.out
  case round =>
    obtain ⟨i, rfl, hi, rfl, HS, HT, HC⟩ := hrel
    rename World => w3
    have HB3 := Lib.hid (below_chg HB2.out HC.out HB2.out.size (fun x hx => Nat.le_of_lt (HGE.out x hx)))
    have HO3 := Lib.hid (HO2.out.chg HC.out (fun hm => absurd (HGE.out _ hm) (Nat.lt_irrefl _)))
    by_cases hlt : i < n
    · obtain ⟨j, hj⟩ : ∃ j, i + j + 1 = L.length := ⟨L.length - i - 1, by rw [HN.out]; omega⟩
      have hiL : i < L.length := by rw [HN.out]; exact hlt
      have hjL : j < L.length := by omega
      have hjn : i + j + 1 = n := by rw [hj, HN.out]
      have HDR : Hid ((L.drop (L.length - (i + 1))).reverse = (L.drop (L.length - i)).reverse ++ [L[j]]) := Lib.hid (drop_rev hj)
      have HTK : Hid (L.take (i + 1) = L.take i ++ [L[i]]) := Lib.hid (List.take_succ_eq_append_getElem hiL)
      have hML := HIN.out w3 HB3.out
      obtain ⟨bb, off, rfl, hr1⟩ := hML.at_ hiL
      have HRG : Hid (∀ V, Below w.heap.size w V → V.rangeAt bb (off + i * 22) L[i].cs ∧ V.rangeAt bb (off + j * 22) L[j].cs ∧ (MgIn V w.heap.size L[i] ∧ MgFit L[i]) ∧ (MgIn V w.heap.size L[j] ∧ MgFit L[j]) ∧ w.heap.size ≤ V.heap.size) := Lib.hid fun V hV => by
        have hM := HIN.out V hV
        obtain ⟨b1', o1', h1, g1⟩ := hM.at_ hiL
        obtain ⟨b2', o2', h2, g2⟩ := hM.at_ hjL
        injection h1 with h1; injection h1 with h1 h1' _
        injection h2 with h2; injection h2 with h2 h2' _
        subst h1 h1' h2 h2'
        exact ⟨g1, g2, ⟨hM.inn _ (List.getElem_mem hiL), hM.fit _ (List.getElem_mem hiL)⟩, ⟨hM.inn _ (List.getElem_mem hjL), hM.fit _ (List.getElem_mem hjL)⟩, hV.size⟩
      have HXL : Hid ((L.take i).length < 400 ∧ (L.drop (L.length - i)).reverse.length < 400) := Lib.hid (by
        rw [List.length_take, List.length_reverse, List.length_drop, HN.out]
        have := HN60.out
        omega)
      generalize L[i] = C at *
      generalize L[j] = D at *
      generalize (L.drop (L.length - i)).reverse = Y at *
      have HYD := HDR
      generalize hX : L.take i = X at *
      have HLEN : Hid ((sX X).L.length ≤ 60) := Lib.hid (by
        have h1 := sX_len X
        have h2 : X.length ≤ 60 := by rw [← hX, List.length_take, HN.out]; have := HN60.out; omega
        omega)
      obtain ⟨n1, hn1⟩ : ∃ n1, n1 + 1 = n := ⟨n - 1, by omega⟩
      have k0 : (0 : Int) ≤ (i : Int) := by omega
      have k1 : (i : Int) < (n : Int) := by omega
      have k2 : (i : Int) ≤ 60 := by omega
      have k3 : (0 : Int) ≤ (j : Int) := by omega
      have k4 : (j : Int) < (n : Int) := by omega
      have k5 : decide (i < n) = true := by simpa using hlt
      have hw1 : IntKind.i64.wrap ((n : Int) - 1) = (n1 : Int) := by rw [IntWalk.i64_in _ (by omega)]; omega
      have hq1 : (n : Int) - 1 = (n1 : Int) := by omega
      have hw2 : IntKind.i64.wrap ((n1 : Int) - (i : Int)) = (j : Int) := by rw [IntWalk.i64_in _ (by omega)]; omega
      have hq2 : (n1 : Int) - (i : Int) = (j : Int) := by omega
      have HLT := Lib.hid hlt
      obtain ⟨g1, g2, g3, g4, g5⟩ := HRG.out w3 HB3.out
      have HF1 := Lib.hid (fits10_x C w.heap.size w3 g3.1 g5 g3.2)
      obtain ⟨t1, ht1⟩ : ∃ t, mfits C = t := ⟨_, rfl⟩
      rw [ht1] at HF1
      have HT1 := Lib.hid ht1
      clear hML hr1 hlt hiL hjL hj hjn hn1 g1 g2 g3 g4 g5 ht1 hX hi
      have HRX : Hid (∀ V, Below w.heap.size w V → V.rangeAt bb (off + i * 22) C.cs ∧ V.rangeAt bb (off + j * 22) D.cs) := Lib.hid fun V hV => ⟨(HRG.out V hV).1, (HRG.out V hV).2.1⟩
      go_wp2_with (refine wpList_loadMm (.tmp 47) rfl bb (off + i * 22) rfl C (HRX.out w3 HB3.out).1 rfl ?_)
      refine HF1.out.mono ?_
      rintro e w4 ⟨rfl, hb⟩
      have hc := (Chg.refl [] w3).of_below hb
      have HB4 := Lib.hid (HB3.out.trans (hb.mono HB3.out.size))
      have HS4 := Lib.hid (HS.out.kept hc)
      have HT4 := Lib.hid (HT.out.kept hc)
      have HC4 := Lib.hid (HC.out.trans (hc.mono (by simp)))
      obtain ⟨g1, g2, g3, g4, g5⟩ := HRG.out w4 HB4.out
      have HF2 := Lib.hid (fits10_x D w.heap.size w4 g4.1 g5 g4.2)
      obtain ⟨t2, ht2⟩ : ∃ t, mfits D = t := ⟨_, rfl⟩
      rw [ht2] at HF2
      have HT2' := Lib.hid ht2
      clear hb hc g1 g2 g3 g4 g5 ht2
      go_wp2_with (refine wpList_loadMm (.tmp 56) rfl bb (off + j * 22) rfl D (HRX.out w4 HB4.out).2 rfl ?_)
      refine HF2.out.mono ?_
      rintro e w5 ⟨rfl, hb⟩
      have hc := (Chg.refl [] w4).of_below hb
      have HB5 := Lib.hid (HB4.out.trans (hb.mono HB4.out.size))
      have HS5 := Lib.hid (HS4.out.kept hc)
      have HT5 := Lib.hid (HT4.out.kept hc)
      have HC5 := Lib.hid (HC4.out.trans (hc.mono (by simp)))
      clear hb hc
      cases t1 with
      | false =>
        have HS6 : Hid (Sp w5 p b d (sX (X ++ [C]))) := Lib.hid (by rw [sX_nofit HT1.out]; exact HS5.out)
        have HLS : Hid ((sX (X ++ [C])).L.length = (sX X).L.length) := Lib.hid (by rw [sX_nofit HT1.out])
        rw [← HLS.out]
        cases t2 with
        | false =>
          have HT7 : Hid (Sp w5 p2 b2 d2 (sX (Y ++ [D]))) := Lib.hid (by rw [sX_nofit HT2'.out]; exact HT5.out)
          go_wp2_with fail
          go_roundw
          case rel => have := HLT.out; exact ⟨i + 1, by go_num, by omega, by rw [HTK.out], Lib.hid (by rw [HTK.out]; exact HS6.out), Lib.hid (by rw [HDR.out]; exact HT7.out), HC5⟩
          case measure => have := HLT.out; simp [intOf]; omega
        | true =>
          obtain ⟨g1, g2, g3, g4, g5⟩ := HRG.out w5 HB5.out
          have HPU2 := Lib.hid (Put_any HT5.out (Nat.zero_le _) D w.heap.size g4.1 g5 g4.2)
          clear g1 g2 g3 g4 g5
          go_wp2_with (refine wpList_loadMm (.tmp 79) (by rfl) bb (off + j * 22) (by rfl) D (HRX.out w5 HB5.out).2 (by first | rfl | kernel_rfl | simp [Region.wanted, yielded]) ?_)
          refine HPU2.out.mono ?_
          rintro e w8 ⟨g, rfl, S', hr, hs, hc⟩
          obtain ⟨rfl, -⟩ := sX_put HXL.out.2 HT2'.out hr
          have HT8 := Lib.hid hs
          have HS8 := Lib.hid (HX1.out HS6.out hc)
          have HC8 := Lib.hid (HC5.out.trans (hc.mono (by simp)))
          clear hr hs hc
          go_wp2_with fail
          go_roundw
          case rel => have := HLT.out; exact ⟨i + 1, by go_num, by omega, by rw [HTK.out], Lib.hid (by rw [HTK.out]; exact HS8.out), Lib.hid (by rw [HDR.out]; exact HT8.out), HC8⟩
          case measure => have := HLT.out; simp [intOf]; omega
      | true =>
        obtain ⟨g1, g2, g3, g4, g5⟩ := HRG.out w5 HB5.out
        have HPU := Lib.hid (Put_any HS5.out (Nat.zero_le _) C w.heap.size g3.1 g5 g3.2)
        clear g1 g2 g3 g4 g5
        go_wp2_with (refine wpList_loadMm (.tmp 64) (by rfl) bb (off + i * 22) (by rfl) C (HRX.out w5 HB5.out).1 (by first | rfl | kernel_rfl | simp [Region.wanted, yielded]) ?_)
        refine HPU.out.mono ?_
        rintro e w6 ⟨g, rfl, S', hr, hs, hc⟩
        obtain ⟨rfl, hgl⟩ := sX_put HXL.out.1 HT1.out hr
        have HS6 := Lib.hid hs
        have HB6 := Lib.hid (below_chg HB5.out hc HB5.out.size (fun x hx => Nat.le_of_lt (HGE.out x (by simp at hx ⊢; omega))))
        have HT6 := Lib.hid (HX2.out HT5.out hc (by simp))
        have HC6 := Lib.hid (HC5.out.trans (hc.mono (by simp)))
        clear hr hs hc
        rcases hgl with ⟨rfl, hlen⟩ | ⟨rfl, hlen⟩
        · have HLS := Lib.hid hlen
          obtain ⟨m0, hm0⟩ : ∃ m0, (sX X).L.length = m0 := ⟨_, rfl⟩
          have HM0 := Lib.hid hm0
          have hmb : (m0 : Int) ≤ 60 := by have := HLEN.out; omega
          rw [hm0]
          obtain ⟨m1, hm1⟩ : ∃ m1 : Int, (((sX (X ++ [C])).L.length : Nat) : Int) = m1 := ⟨_, rfl⟩
          have hwm : IntKind.i64.wrap ((m0 : Int) + 1) = m1 := by rw [IntWalk.i64_in _ (by omega)]; omega
          have hqm : (m0 : Int) + 1 = m1 := by omega
          have HM1 := Lib.hid hm1
          clear hlen hm0 hm1
          cases t2 with
          | false =>
            have HT7 : Hid (Sp w6 p2 b2 d2 (sX (Y ++ [D]))) := Lib.hid (by rw [sX_nofit HT2'.out]; exact HT6.out)
            go_wp2_with fail
            go_roundw
            case rel => have := HLT.out; exact ⟨i + 1, by go_num, by omega, by rw [HTK.out, HM1.out], Lib.hid (by rw [HTK.out]; exact HS6.out), Lib.hid (by rw [HDR.out]; exact HT7.out), HC6⟩
            case measure => have := HLT.out; simp [intOf]; omega
          | true =>
            obtain ⟨g1, g2, g3, g4, g5⟩ := HRG.out w6 HB6.out
            have HPU2 := Lib.hid (Put_any HT6.out (Nat.zero_le _) D w.heap.size g4.1 g5 g4.2)
            clear g1 g2 g3 g4 g5
            go_wp2_with (refine wpList_loadMm (.tmp 79) (by rfl) bb (off + j * 22) (by rfl) D (HRX.out w6 HB6.out).2 (by first | rfl | kernel_rfl | simp [Region.wanted, yielded]) ?_)
            refine HPU2.out.mono ?_
            rintro e w8 ⟨g, rfl, S', hr, hs, hc⟩
            obtain ⟨rfl, -⟩ := sX_put HXL.out.2 HT2'.out hr
            have HT8 := Lib.hid hs
            have HS8 := Lib.hid (HX1.out HS6.out hc)
            have HC8 := Lib.hid (HC6.out.trans (hc.mono (by simp)))
            clear hr hs hc
            go_wp2_with fail
            go_roundw
            case rel => have := HLT.out; exact ⟨i + 1, by go_num, by omega, by rw [HTK.out, HM1.out], Lib.hid (by rw [HTK.out]; exact HS8.out), Lib.hid (by rw [HDR.out]; exact HT8.out), HC8⟩
            case measure => have := HLT.out; simp [intOf]; omega
        · have HLS := Lib.hid hlen
          rw [← HLS.out]
          clear hlen
          cases t2 with
          | false =>
            have HT7 : Hid (Sp w6 p2 b2 d2 (sX (Y ++ [D]))) := Lib.hid (by rw [sX_nofit HT2'.out]; exact HT6.out)
            go_wp2_with fail
            go_roundw
            case rel => have := HLT.out; exact ⟨i + 1, by go_num, by omega, by rw [HTK.out], Lib.hid (by rw [HTK.out]; exact HS6.out), Lib.hid (by rw [HDR.out]; exact HT7.out), HC6⟩
            case measure => have := HLT.out; simp [intOf]; omega
          | true =>
            obtain ⟨g1, g2, g3, g4, g5⟩ := HRG.out w6 HB6.out
            have HPU2 := Lib.hid (Put_any HT6.out (Nat.zero_le _) D w.heap.size g4.1 g5 g4.2)
            clear g1 g2 g3 g4 g5
            go_wp2_with (refine wpList_loadMm (.tmp 79) (by rfl) bb (off + j * 22) (by rfl) D (HRX.out w6 HB6.out).2 (by first | rfl | kernel_rfl | simp [Region.wanted, yielded]) ?_)
            refine HPU2.out.mono ?_
            rintro e w8 ⟨g, rfl, S', hr, hs, hc⟩
            obtain ⟨rfl, -⟩ := sX_put HXL.out.2 HT2'.out hr
            have HT8 := Lib.hid hs
            have HS8 := Lib.hid (HX1.out HS6.out hc)
            have HC8 := Lib.hid (HC6.out.trans (hc.mono (by simp)))
            clear hr hs hc
            go_wp2_with fail
            go_roundw
            case rel => have := HLT.out; exact ⟨i + 1, by go_num, by omega, by rw [HTK.out], Lib.hid (by rw [HTK.out]; exact HS8.out), Lib.hid (by rw [HDR.out]; exact HT8.out), HC8⟩
            case measure => have := HLT.out; simp [intOf]; omega
    · obtain rfl : i = n := by omega
      have hk5 : decide (i < i) = false := by simp
      have HSE : Hid (sX (L.drop (L.length - i)).reverse = sX (L.take i)) := Lib.hid (by
        unfold sX
        rw [HN.out, Nat.sub_self, List.drop_zero, kl_rev, List.take_of_length_le (by rw [HN.out]; exact Nat.le_refl _)])
      rw [HSE.out] at HT
      generalize sX (L.take i) = S0 at *
      have HK5 := Lib.hid hk5
      obtain ⟨nN, hN⟩ : ∃ nN, S0.L.length = nN := ⟨_, rfl⟩
      have HNN := Lib.hid hN
      have HNB : Hid (nN ≤ 400) := Lib.hid (by rw [← hN]; exact HS.out.len)
      rw [hN]
      have HD := Lib.hid (Down_u HS.out (q1, q2) true)
      have a0 := HO3.out.cell 0
      have a1 := HO3.out.cell 1
      have az := HO3.out.lt
      simp at a0 a1
      clear hN hlt hi
      go_wp2_with fail
      refine HD.out.mono ?_
      rintro e w4 ⟨g, rfl, S1, hSL, hs, hc⟩
      have HSL := Lib.hid hSL
      have HS4 := Lib.hid hs
      have HT4 := Lib.hid (HX2.out HT.out hc (by simp))
      have HB4 := Lib.hid (below_chg HB3.out hc HB3.out.size (fun x hx => Nat.le_of_lt (HGE.out x (by simp at hx ⊢; omega))))
      have HO4 := Lib.hid (HO3.out.chg hc (fun hm => absurd (HGE.out _ (by simp at hm ⊢; omega)) (Nat.lt_irrefl _)))
      have HKI := Lib.hid (Kinds_any hs)
      clear a0 a1 az hs hc hSL hk5
      go_wp2_with fail
      refine HKI.out.mono ?_
      rintro e w5 ⟨v, rfl, Ts, hm, hmap, hc⟩
      have HM5 := Lib.hid hm
      have HP5 := Lib.hid hmap
      have HS5 := Lib.hid (HS4.out.kept hc)
      have HT5 := Lib.hid (HT4.out.kept hc)
      have HB5 := Lib.hid (below_chg HB4.out hc HB4.out.size (by simp))
      have HO5 := Lib.hid (HO4.out.chg hc (by simp))
      have HKI2 := Lib.hid (Kinds_any HT5.out)
      clear hm hmap hc
      go_wp2_with fail
      refine HKI2.out.mono ?_
      rintro e w6 ⟨v2, rfl, Us, hm, hmap, hc⟩
      have HS6 := Lib.hid (HS5.out.kept hc)
      have HT6 := Lib.hid (HT5.out.kept hc)
      have HB6 := Lib.hid (below_chg HB5.out hc HB5.out.size (by simp))
      have HO6 := Lib.hid (HO5.out.chg hc (by simp))
      obtain ⟨ta, tc, rfl, hmlT⟩ := (HM5.out.kept hc).form
      obtain ⟨ua, uc, rfl, hmlU⟩ := hm.form
      have hTU : Ts.map MgT.x = Us.map MgT.x := by rw [HP5.out, hmap, HSL.out]
      have hlT : Ts.length ≤ 1000000 := by
        have h1 := congrArg List.length HP5.out
        rw [List.length_map, List.length_map] at h1
        have h2 := nodup_sub_le (dd_nodup HS5.out.srt) (fun x hx => dd_mem.1 hx)
        have h3 := HS5.out.len
        omega
      have hlU : Us.length ≤ 1000000 := by
        have h1 := congrArg List.length hTU
        rw [List.length_map, List.length_map] at h1
        omega
      have HSA := Lib.hid (rsameAll_any Ts Us ta ua tc uc w6.heap.size w6 hmlT hmlU (Nat.le_refl _) hlT hlU)
      rw [show decide (Ts.map MgT.x = Us.map MgT.x) = true from decide_eq_true hTU] at HSA
      clear hm hmap hc hmlT hmlU hTU hlT hlU
      go_wp2_with fail
      refine HSA.out.mono ?_
      rintro e w7 ⟨rfl, hb⟩
      have HS7 := Lib.hid (HS6.out.kept ((Chg.refl [] w6).of_below hb))
      have HT7 := Lib.hid (HT6.out.kept ((Chg.refl [] w6).of_below hb))
      have HB7 := Lib.hid (HB6.out.trans (hb.mono HB6.out.size))
      have HO7 := Lib.hid (HO6.out.below hb HO6.out.lt)
      have HL7 := Lib.hid (Len_any HS7.out)
      rw [HSL.out, HNN.out] at HL7
      clear hb
      go_wp2_with fail
      refine HL7.out.mono ?_
      rintro e w8 ⟨rfl, hc⟩
      have HS8 := Lib.hid (HS7.out.kept hc)
      have HT8 := Lib.hid (HT7.out.kept hc)
      have HB8 := Lib.hid (below_chg HB7.out hc HB7.out.size (by simp))
      have HO8 := Lib.hid (HO7.out.chg hc (by simp))
      have HL8 := Lib.hid (Len_any HT8.out)
      rw [HNN.out] at HL8
      clear hc
      have hnn : ((nN : Int) != (nN : Int)) = false := by simp
      go_wp2_with fail
      refine HL8.out.mono ?_
      rintro e w9 ⟨rfl, hc⟩
      have HS9 := Lib.hid (HS8.out.kept hc)
      have HT9 := Lib.hid (HT8.out.kept hc)
      have HB9 := Lib.hid (below_chg HB8.out hc HB8.out.size (by simp))
      have HO9 := Lib.hid (HO8.out.chg hc (by simp))
      clear hc
      go_wp2_with fail
      go_loopw [12] (fun v12 wr => ∃ (i : Nat) (S T : SpS), v12 = .int .i64 (i : Int) ∧ i ≤ nN ∧ Hid (Sp wr p b d S) ∧ Hid (Sp wr p2 b2 d2 T) ∧ Hid (S.L = T.L ∧ S.L.length + i = nN) ∧ Hid (Chg [p, b, d, p2, b2, d2] w9 wr)) (fun v12 _ => nN - (intOf v12).toNat)
      case atStart => exact ⟨0, _, _, rfl, Nat.zero_le _, HS9, HT9, Lib.hid ⟨HSL.out, by rw [HSL.out, HNN.out, Nat.add_zero]⟩, Lib.hid (Chg.refl _ _)⟩
      case round =>
        obtain ⟨k, S, T, rfl, hk, HSr, HTr, HST, HCr⟩ := hrel
        rename World => wa
        have HBa := Lib.hid (below_chg HB9.out HCr.out HB9.out.size (fun x hx => Nat.le_of_lt (HGE.out x hx)))
        have HOa := Lib.hid (HO9.out.chg HCr.out (fun hm => absurd (HGE.out _ hm) (Nat.lt_irrefl _)))
        by_cases hlt : k < nN
        · have hne : S.L ≠ [] := fun e => by have := HST.out.2; rw [e] at this; simp at this; omega
          obtain ⟨kk, hkk⟩ := keyAt_first hne
          have hkT : keyAt T.L 0 = some kk := by rw [← HST.out.1]; exact hkk
          have hmk := HSr.out.enc kk (keyAt_mem hkk)
          have hto := (mright_all hmk.1).to
          have HPW : Hid (Pw (pMg kk).to) := Lib.hid ⟨by omega, by omega⟩
          have e1' : (S.take 0).L = S.L.erase kk ∧ (S.take 0).F = S.F := by unfold SpS.take; rw [hkk]; exact ⟨rfl, rfl⟩
          have e2' : (T.take 0).L = T.L.erase kk := by unfold SpS.take; rw [hkT]; rfl
          have HEQ : Hid ((S.take 0).L = (T.take 0).L ∧ (S.take 0).L.length + (k + 1) = nN) := Lib.hid ⟨by rw [e1'.1, e2', HST.out.1], by
            rw [e1'.1, List.length_erase_of_mem (keyAt_mem hkk)]
            have h1 := List.length_pos_of_mem (keyAt_mem hkk)
            have h2 := HST.out.2
            omega⟩
          have HSF := Lib.hid e1'.2
          have HKK := Lib.hid (And.intro hkk hkT)
          have HTK1 := Lib.hid (Take_x [p2, b2] HSr.out 0 (fun x hx => HTr.out.lt x (by simp at hx ⊢; omega)))
          have hd : decide ((k : Int) < (nN : Int)) = true := by simp; omega
          have hd' : decide (k < nN) = true := by simp; omega
          have hkb : (k : Int) ≤ 400 := by have := HNB.out; omega
          have HLT := Lib.hid hlt
          clear hne hkk hkT hmk hto e1' e2' hlt hk
          go_wp2_with fail
          refine HTK1.out.mono ?_
          rintro e wb ⟨T1, u1, g1, rfl, ht, hf, hin, hx, hs, hc⟩
          obtain ⟨y1, y2, rfl⟩ := ht.yes kk HKK.out.1
          have HY1 := Lib.hid (And.intro y1 y2)
          have HF1 := Lib.hid hf
          have HXb := Lib.hid hx
          have HSb := Lib.hid hs
          have HTb := Lib.hid (HX2.out HTr.out hc (by simp))
          have HCb := Lib.hid (HCr.out.trans (hc.mono (by simp)))
          have HOb := Lib.hid (HOa.out.chg hc (fun hm => absurd (HGE.out _ (by simp at hm ⊢; omega)) (Nat.lt_irrefl _)))
          have HZ := Lib.hid (Own.new wb 40 zmT.cs)
          clear ht hf hin hx hs hc y1 y2
          go_wp2_with (refine wpList_storeMg rfl (.tmp 13) (.tmp 112) rfl wb.heap.size rfl T1 rfl zmT.cs HZ.out rfl ?_)
          intro wc ho hc
          have hcc : Chg [] wb wc := ((Chg.refl [] wb).alloc _).then hc (fun x hx => by simp only [List.mem_singleton] at hx; subst hx; exact .inr (Nat.le_refl _))
          have HXc := Lib.hid (HXb.out.below hcc.low)
          have HSc := Lib.hid (HSb.out.kept hcc)
          have HTc := Lib.hid (HTb.out.kept hcc)
          have HCc := Lib.hid (HCb.out.trans (hcc.mono (by simp)))
          have HOc := Lib.hid (HOb.out.chg hcc (by simp))
          have HFAR : Hid (wb.heap.size ∉ [p2, b2]) := Lib.hid (fun hm => by have := HTb.out.lt wb.heap.size (by simp at hm ⊢; omega); omega)
          obtain ⟨m1, hm1⟩ : ∃ m1, wb.heap.size = m1 := ⟨_, rfl⟩
          rw [hm1] at ho HFAR ⊢
          have HMc := Lib.hid ho
          have HTK2 := Lib.hid (Take_x [] HTc.out 0 (by simp))
          clear ho hc hcc hm1 HZ
          go_wp2_with fail
          refine HTK2.out.mono ?_
          rintro e wd ⟨T2, u2, g2, rfl, ht, hf, hin, hx, hs, hc⟩
          obtain ⟨y1, y2, rfl⟩ := ht.yes kk HKK.out.2
          have HY2 := Lib.hid y1
          have HF2 := Lib.hid hf
          have HId := Lib.hid hin
          have HXd := Lib.hid (HXc.out.sp HTc.out hc)
          have HSd := Lib.hid (HX1.out HSc.out hc)
          have HTd := Lib.hid hs
          have HCd := Lib.hid (HCc.out.trans (hc.mono (by simp)))
          have HOd := Lib.hid (HOc.out.chg hc (fun hm => absurd (HGE.out _ (by simp at hm ⊢; omega)) (Nat.lt_irrefl _)))
          have HMd := Lib.hid (HMc.out.chg hc HFAR.out)
          have HZ := Lib.hid (Own.new wd 40 zmT.cs)
          clear ht hf hin hx hs hc y1 y2
          go_wp2_with (refine wpList_storeMg rfl (.tmp 16) (.tmp 118) rfl wd.heap.size rfl T2 rfl zmT.cs HZ.out rfl ?_)
          intro we ho hc
          have hce : Chg [] wd we := ((Chg.refl [] wd).alloc _).then hc (fun x hx => by simp only [List.mem_singleton] at hx; subst hx; exact .inr (Nat.le_refl _))
          have HI1 := Lib.hid (HXd.out.below hce.low).inn
          have HI2 := Lib.hid ((HId.out.below hce.low (Nat.le_refl _)).mono hce.size)
          have HSe := Lib.hid (HSd.out.kept hce)
          have HTe := Lib.hid (HTd.out.kept hce)
          have HCe := Lib.hid (HCd.out.trans (hce.mono (by simp)))
          have HOe := Lib.hid (HOd.out.chg hce (by simp))
          have HMe := Lib.hid (HMd.out.chg hce (by simp))
          obtain ⟨m2, hm2⟩ : ∃ m2, wd.heap.size = m2 := ⟨_, rfl⟩
          rw [hm2] at ho ⊢
          have HNe := Lib.hid ho
          have HSM := Lib.hid (rmsame_any T1 T2 we.heap.size we HI1.out HI2.out (Nat.le_refl _) HF1.out HF2.out)
          rw [show msEq T1 T2 = true from (msEq_iff T1 T2).2 (by rw [HY1.out.1, HY2.out])] at HSM
          clear ho hc hce hm2 HZ
          go_wp2_with (first | refine wpList_loadMg rfl (.tmp 13) rfl m1 rfl T1 HMe.out ?_ | refine wpList_loadMg rfl (.tmp 16) rfl m2 rfl T2 HNe.out ?_)
          refine HSM.out.mono ?_
          rintro e wf ⟨rfl, hb⟩
          have hcf := (Chg.refl [] we).of_below hb
          have HSf := Lib.hid (HSe.out.kept hcf)
          have HTf := Lib.hid (HTe.out.kept hcf)
          have HCf := Lib.hid (HCe.out.trans (hcf.mono (by simp)))
          have HOf := Lib.hid (HOe.out.chg hcf (by simp))
          have HMf := Lib.hid (HMe.out.chg hcf (by simp))
          have hto : T1.to = (pMg kk).to := by rw [← HY1.out.1]; rfl
          have HTO := Lib.hid hto
          have c3 : wf.cell? ⟨m1, 3, none⟩ = some (.int .i64 T1.to.1) := (HMf.out.cell 3).trans rfl
          have c4 : wf.cell? ⟨m1, 4, none⟩ = some (.int .i64 T1.to.2) := (HMf.out.cell 4).trans rfl
          have cz := HMf.out.lt
          have HID := Lib.hid (IsDown_any HSf.out T1.to (by rw [hto]; exact HPW.out))
          obtain ⟨fu, hfu⟩ : ∃ fu, S.F T1.to = fu := ⟨_, rfl⟩
          have hu : u1 = !fu := by rw [HY1.out.2, ← hto, hfu]
          rw [show (S.take 0).F T1.to = fu by rw [HSF.out]; exact hfu] at HID
          have HFU := Lib.hid hfu
          subst hu
          have hff : ((!fu) != (!fu)) = false := by cases fu <;> rfl
          clear hb hcf hto hfu
          go_wp2_with fail
          refine HID.out.mono ?_
          rintro e wg ⟨rfl, hc⟩
          have HSg := Lib.hid (HSf.out.kept hc)
          have HTg := Lib.hid (HTf.out.kept hc)
          have HCg := Lib.hid (HCf.out.trans (hc.mono (by simp)))
          have HOg := Lib.hid (HOf.out.chg hc (by simp))
          have HMg := Lib.hid (HMf.out.chg hc (by simp))
          have a0 : wg.cell? ⟨w.heap.size, 0, none⟩ = some (.int .i64 q1) := (HOg.out.cell 0).trans rfl
          have a1 : wg.cell? ⟨w.heap.size, 1, none⟩ = some (.int .i64 q2) := (HOg.out.cell 1).trans rfl
          have az := HOg.out.lt
          have HID2 := Lib.hid (IsDown_any HSg.out (q1, q2) HQ.out)
          obtain ⟨fq, hfq⟩ : ∃ fq, (S.take 0).F (q1, q2) = fq := ⟨_, rfl⟩
          rw [hfq] at HID2
          have HFQ : Hid (S.F (q1, q2) = fq) := Lib.hid (by rw [← HSF.out]; exact hfq)
          clear c3 c4 cz hc hfq
          go_wp2_with fail
          refine HID2.out.mono ?_
          rintro e wh ⟨rfl, hc⟩
          have HSh := Lib.hid (HSg.out.kept hc)
          have HTh := Lib.hid (HTg.out.kept hc)
          have HCh := Lib.hid (HCg.out.trans (hc.mono (by simp)))
          have oh := HOg.out.chg hc (by simp)
          have mh := HMg.out.chg hc (by simp)
          clear a0 a1 az hc
          have a0 : wh.cell? ⟨w.heap.size, 0, none⟩ = some (.int .i64 q1) := (oh.cell 0).trans rfl
          have a1 : wh.cell? ⟨w.heap.size, 1, none⟩ = some (.int .i64 q2) := (oh.cell 1).trans rfl
          have az := oh.lt
          have c3 : wh.cell? ⟨m1, 3, none⟩ = some (.int .i64 T1.to.1) := (mh.cell 3).trans rfl
          have c4 : wh.cell? ⟨m1, 4, none⟩ = some (.int .i64 T1.to.2) := (mh.cell 4).trans rfl
          have cz := mh.lt
          clear oh mh
          obtain ⟨te, hte⟩ : ∃ te, decide (T1.to = (q1, q2)) = te := ⟨_, rfl⟩
          have hEQ := eql_placeX T1.to (q1, q2) hte
          have HTE : Hid (fq = true → te = true → fu = true) := Lib.hid (fun h1 h2 => by
            rw [← HFU.out, of_decide_eq_true (hte.trans h2), HFQ.out]
            exact h1)
          clear hte hff
          cases fq with
          | false =>
            go_wp2_with fail
            go_roundw
            case rel => have := HLT.out; exact ⟨k + 1, _, _, by go_num, by omega, HSh, HTh, HEQ, HCh⟩
            case measure => have := HLT.out; simp [intOf]; omega
          | true =>
            cases te with
            | false =>
              go_wp2_with fail
              go_roundw
              case rel => have := HLT.out; exact ⟨k + 1, _, _, by go_num, by omega, HSh, HTh, HEQ, HCh⟩
              case measure => have := HLT.out; simp [intOf]; omega
            | true =>
              obtain rfl : fu = true := HTE.out rfl rfl
              go_wp2_with fail
              go_roundw
              case rel => have := HLT.out; exact ⟨k + 1, _, _, by go_num, by omega, HSh, HTh, HEQ, HCh⟩
              case measure => have := HLT.out; simp [intOf]; omega
        · obtain rfl : k = nN := by omega
          have hd : decide (k < k) = false := by simp
          have HS0 : Hid (S.L = []) := Lib.hid (List.eq_nil_of_length_eq_zero (by have := HST.out.2; omega))
          clear hlt hk
          go_wp2_with fail
          refine (HAL.out wa).mono ?_
          rintro e wb ⟨rfl, hb⟩
          have HSb := Lib.hid (HSr.out.kept ((Chg.refl [] wa).of_below hb))
          have HBb := Lib.hid (HBa.out.trans (hb.mono HBa.out.size))
          have HLE := Lib.hid (Len_any HSb.out)
          rw [HS0.out] at HLE
          clear hb
          go_wp2_with fail
          refine HLE.out.mono ?_
          rintro e wc ⟨rfl, hc⟩
          have HSc := Lib.hid (HSb.out.kept hc)
          have HBc := Lib.hid (below_chg HBb.out hc HBb.out.size (by simp))
          have HKc := Lib.hid (Kinds_any HSc.out)
          rw [show (([] : List Ky).length : Int) = 0 from rfl]
          clear hc
          go_wp2_with fail
          refine HKc.out.mono ?_
          rintro e wd ⟨v, rfl, Vs, hm, hmap, hc⟩
          obtain ⟨va, vc, rfl, _⟩ := hm.form
          have hl0 : Vs.length = 0 := by
            have := congrArg List.length hmap
            rw [HS0.out, List.length_map, List.length_map] at this
            simpa [dd, firsts] using this
          rw [hl0]
          have HBd := Lib.hid (below_chg HBc.out hc HBc.out.size (by simp))
          clear hm hmap hc hl0
          go_wp2_with fail
          go_ret
          exact ⟨rfl, HBd.out⟩
end Go.Proofs.YteenlkmnadjnpaaGreat
