/-
  Contracts of Add and Drop whole; of the live question that the statements of package runs ask; of built. No claim of its own.
-/
import Derived.Test.YtoadbkiklabceaaDrp
namespace Go.Proofs.Ytoadbkiklabceaa
open Go.RowKit Go.Shelf Go.Deep
set_option linter.unusedVariables false
set_option linter.unusedSimpArgs false

theorem add_any (w : World) (p : Nat) (v : Value) (L : List Rn) (hs : St w p v L) (r : Rn) (hf : Fit r) (hl : L.length ≤ 999999) :
    Calls Try.prog 16 #[.pointer (some ⟨p, 0, none⟩), rv r] w (AddPost w p v L (putL L r) (cnt (putL L r) - cnt L)) := by
  unfold putL
  by_cases h : r.1 < r.2
  · rw [if_pos h]; exact add_some w p v L hs r h hf hl
  · rw [if_neg h, Nat.sub_self]; exact add_empty w p v L hs r (by omega)
theorem drop_any (w : World) (p : Nat) (v : Value) (L : List Rn) (hs : St w p v L) (r : Rn) (hf : Fit r) (hl : L.length ≤ 999999) :
    Calls Try.prog 13 #[.pointer (some ⟨p, 0, none⟩), rv r] w (AddPost w p v L (cutL L r) (cnt L - cnt (cutL L r))) := by
  unfold cutL
  by_cases h : r.1 < r.2
  · rw [if_pos h]; exact drop_some w p v L hs r h hf hl
  · rw [if_neg h, Nat.sub_self]; exact drop_empty w p v L hs r (by omega)
theorem putL_ok {L : List Rn} (h : NF L) (r : Rn) : NF (putL L r) ∧ ∀ n, mem (putL L r) n = (mem L n || inR r n) := by
  unfold putL
  by_cases hr : r.1 < r.2
  · rw [if_pos hr]; exact addL_ok h hr
  · rw [if_neg hr]; exact ⟨h, fun n => by rw [inR_empty (by omega)]; simp⟩
theorem cutL_ok {L : List Rn} (h : NF L) (r : Rn) : NF (cutL L r) ∧ ∀ n, mem (cutL L r) n = (mem L n && !inR r n) := by
  unfold cutL
  by_cases hr : r.1 < r.2
  · rw [if_pos hr]; exact dropL_ok h hr
  · rw [if_neg hr]; exact ⟨h, fun n => by rw [inR_empty (by omega)]; simp⟩
theorem putL_len {L : List Rn} (h : NF L) (r : Rn) : (putL L r).length ≤ L.length + 1 := by
  unfold putL
  by_cases hr : r.1 < r.2
  · rw [if_pos hr]; exact addL_len' h hr
  · rw [if_neg hr]; omega
theorem cutL_len {L : List Rn} (h : NF L) (r : Rn) : (cutL L r).length ≤ L.length + 1 := by
  unfold cutL
  by_cases hr : r.1 < r.2
  · rw [if_pos hr]; exact dropL_len h hr
  · rw [if_neg hr]; omega
theorem New.ltB {w : World} {B p : Nat} {v : Value} {L : List Rn} (h : New w B p v L) : B ≤ w.heap.size := by have := h.st.own.lt; have := h.lowp; omega
theorem New.blocks {w : World} {B p : Nat} {v : Value} {L : List Rn} (h : New w B p v L) : ∀ k ∈ p :: rowOf v, B ≤ k := by
  intro k hk
  rcases List.mem_cons.1 hk with rfl | hk
  · exact h.lowp
  · exact h.lowg k (mem_rowOf.1 hk)
theorem New.post {w w' w0 : World} {B p n : Nat} {v : Value} {L M : List Rn} {e : Ending} (h : New w B p v L) (hb : Below B w0 w) (hp : AddPost w p v L M n e w') :
    ∃ v', e = .returned (.int .u64 (n : Int)) ∧ New w' B p v' M ∧ Below B w0 w' ∧ w.heap.size ≤ w'.heap.size := by
  obtain ⟨v', he, hs, hc, hn⟩ := hp
  refine ⟨v', he, ⟨hs, h.lowp, fun g hg => ?_⟩, below_chg hb hc h.ltB h.blocks, hc.size⟩
  rcases hn with hn | hn
  · exact h.lowg g (hn ▸ hg)
  · exact Nat.le_trans h.ltB (hn g hg)
theorem New.keep {w w' : World} {B p : Nat} {v : Value} {L : List Rn} (h : New w B p v L) (hb : Below w.heap.size w w') : New w' B p v L := ⟨h.st.kept (low_chg hb), h.lowp, h.lowg⟩
theorem fit_lit (a b : Nat) (ha : a < 18446744073709551616) (hb : b < 18446744073709551616) : Fit (a, b) := ⟨ha, hb⟩

set_option maxHeartbeats 1000000 in
set_option maxRecDepth 100000 in
theorem alive_any (w : World) : Calls Try.prog 27 #[] w fun e w' => e = .returned (.bool true) ∧ Below w.heap.size w w' := by
  have e1 : putL [] (3, 7) = [(3, 7)] := by decide
  have e2 : putL [(3, 7)] (7, 9) = [(3, 9)] := by decide
  have e3 : cutL [(3, 9)] (5, 6) = [(3, 5), (6, 9)] := by decide
  have e4 : frm [(3, 5), (6, 9)] 5 = ((6, 9), true) := by decide +kernel
  have e5 : gapL [(3, 5), (6, 9)] 3 = 5 := by decide +kernel
  have e6 : cnt [(3, 5), (6, 9)] = 5 := by decide
  have hA1 : ∀ W v p, St W p v [] → Calls Try.prog 16 #[.pointer (some ⟨p, 0, none⟩), .agg #[.int .u64 3, .int .u64 7]] W (AddPost W p v [] [(3, 7)] 4) := fun W v p hs => by
    have := add_any W p v [] hs (3, 7) (fit_lit _ _ (by omega) (by omega)) (by simp)
    rwa [e1] at this
  have hA2 : ∀ W v p, St W p v [(3, 7)] → Calls Try.prog 16 #[.pointer (some ⟨p, 0, none⟩), .agg #[.int .u64 7, .int .u64 9]] W (AddPost W p v [(3, 7)] [(3, 9)] 2) := fun W v p hs => by
    have := add_any W p v [(3, 7)] hs (7, 9) (fit_lit _ _ (by omega) (by omega)) (by simp)
    rwa [e2] at this
  have hA3 : ∀ W v p, St W p v [(3, 9)] → Calls Try.prog 13 #[.pointer (some ⟨p, 0, none⟩), .agg #[.int .u64 5, .int .u64 6]] W (AddPost W p v [(3, 9)] [(3, 5), (6, 9)] 1) := fun W v p hs => by
    have := drop_any W p v [(3, 9)] hs (5, 6) (fit_lit _ _ (by omega) (by omega)) (by simp)
    rwa [e3] at this
  have hA4 : ∀ W v p, St W p v [(3, 5), (6, 9)] → Calls Try.prog 17 #[.pointer (some ⟨p, 0, none⟩), .int .u64 5] W fun e w' => e = .returned (.tuple #[.int .u64 6, .bool true]) ∧ Below W.heap.size W w' := fun W v p hs => by
    have := Next_any (some ⟨p, 0, none⟩) [(3, 5), (6, 9)] 5 W _ hs.setV hs.ltF (by omega)
    rwa [e4] at this
  have hA5 : ∀ W v p, St W p v [(3, 5), (6, 9)] → Calls Try.prog 23 #[.pointer (some ⟨p, 0, none⟩), .int .u64 3] W fun e w' => e = .returned (.int .u64 5) ∧ Below W.heap.size W w' := fun W v p hs => by
    have := Gap_any (some ⟨p, 0, none⟩) [(3, 5), (6, 9)] 3 W _ hs.setV hs.ltF (by omega)
    rwa [e5] at this
  have hA6 : ∀ W v p, St W p v [(3, 5), (6, 9)] → Calls Try.prog 22 #[.pointer (some ⟨p, 0, none⟩)] W fun e w' => e = .returned (.int .u64 5) ∧ Below W.heap.size W w' := fun W v p hs => by
    have := Count_any (some ⟨p, 0, none⟩) [(3, 5), (6, 9)] W _ hs.setV hs.ltF hs.nf hs.fit
    rwa [e6] at this
  have H1 := Lib.hid hA1
  have H2 := Lib.hid hA2
  have H3 := Lib.hid hA3
  have H4 := Lib.hid hA4
  have H5 := Lib.hid hA5
  have H6 := Lib.hid hA6
  clear e1 e2 e3 e4 e5 e6 hA1 hA2 hA3 hA4 hA5 hA6
  go_enter Try.func27, Try.ntmps27
  go_wp2_with (first
    | (go_at_call 10; refine (New_any _).mono ?_; rintro e w1 ⟨rfl, rfl⟩))
  obtain ⟨W, HW⟩ : ∃ W, Hid (w.alloc (.cells #[.slice none 0 0] 61) = W) := ⟨_, Lib.hid rfl⟩
  have hn : New W w.heap.size w.heap.size (.slice none 0 0) [] := by rw [← HW.out]; exact new_st w
  have hb : Below w.heap.size w W := by rw [← HW.out]; exact (Below.refl _ w).alloc (Nat.le_refl _) _
  rw [HW.out]
  refine (H1.out W _ _ hn.st).mono ?_
  rintro e w2 hp
  obtain ⟨v2, rfl, hn2, hb2, _⟩ := hn.post hb hp
  clear hp hn hb
  go_wp2_with fail
  refine (H2.out w2 _ _ hn2.st).mono ?_
  rintro e w3 hp
  obtain ⟨v3, rfl, hn3, hb3, _⟩ := hn2.post hb2 hp
  clear hp hn2 hb2
  go_wp2_with fail
  refine (H3.out w3 _ _ hn3.st).mono ?_
  rintro e w4 hp
  obtain ⟨v4, rfl, hn4, hb4, _⟩ := hn3.post hb3 hp
  clear hp hn3 hb3
  go_wp2_with fail
  refine (Runs_some w4 _ _ _ hn4.st).mono ?_
  rintro e w5 ⟨v5, rfl, hr5, hb5⟩
  have hn5 := hn4.keep hb5
  have hb45 := hb4.trans (hb5.mono hb4.size)
  obtain ⟨a5, c5, rfl, hro5, _, _, _, hbk5⟩ := hr5.form
  obtain ⟨g5, off5, rfl, hg5, hcl5⟩ := hro5.rn (by simp)
  obtain ⟨rfl, _, _, _, _⟩ := hbk5 _ _ _ rfl
  have q1 := (hcl5 1 (by simp)).1
  have q2 := (hcl5 1 (by simp)).2
  simp [el] at q1 q2
  clear hcl5 hbk5 hro5 hr5 hn4 hb4 hb5
  have HN5 := Lib.hid hn5
  have HB5 := Lib.hid hb45
  clear hn5 hb45
  go_wp2_with fail
  refine (H4.out w5 _ _ HN5.out.st).mono ?_
  rintro e w6 ⟨rfl, hb6⟩
  have HN6 := Lib.hid (HN5.out.keep hb6)
  have HB6 := Lib.hid (HB5.out.trans (hb6.mono HB5.out.size))
  have q3 := (hb6.cell (p := ⟨g5, 2, none⟩) hg5).trans q1
  have q4 := (hb6.cell (p := ⟨g5, 3, none⟩) hg5).trans q2
  have hg6 : g5 < w6.heap.size := Nat.lt_of_lt_of_le hg5 hb6.size
  clear hb6 q1 q2
  go_wp2_with (first
    | (go_at_call 23; refine (H5.out w6 _ _ HN6.out.st).mono ?_; rintro e w7 ⟨rfl, hb7⟩; have HN7 := Lib.hid (HN6.out.keep hb7); have HB7 := Lib.hid (HB6.out.trans (hb7.mono HB6.out.size)))
    | (go_at_call 22; refine (H6.out w7 _ _ HN7.out.st).mono ?_; rintro e w8 ⟨rfl, hb8⟩))
  go_ret
  exact ⟨rfl, HB7.out.trans (hb8.mono HB7.out.size)⟩
end Go.Proofs.Ytoadbkiklabceaa
