/-
  A tape with its disk: Open, Append, Replace, and the readers, over a state. No claim of their own.
-/
import Derived.Test.YtdiemejdbakffaaTpV
import Derived.Lib.SlBytesConst
namespace Go.Proofs.Ytdiemejdbakffaa
open Go.RowKit Go.Deep Go.Shelf
set_option linter.unusedVariables false
set_option linter.unusedSimpArgs false

/-- a state with nothing under way -/
def calm (F : Nat → Sec) (m : Nat → Option Sec) (h : Nat) (L : List Rec) : TS := ⟨F, m, h, h, L, L, 0⟩
/-- a call that changes a tape -/
def TDT (w : World) (l : List Nat) (q p g b n : Nat) (S : TS) (w' : World) : Prop := ∃ l', TD w' l' q p g b n S ∧ (∀ x ∈ l', x ∈ l ∨ w.heap.size ≤ x) ∧ Chg l w w'
theorem TpT.td {w w' : World} {l : List Nat} {q p g b n : Nat} {S : TS} {h h' : Nat} {L L' : List Rec} {k : Nat} (t : TD w l q p g b n S) (u : TpT w l q p n h h' L L' k w') : TDT w l q p g b n ⟨S.F, S.m, h, h', L, L', k⟩ w' := by
  obtain ⟨l1, ⟨vF, vE, vF', vE', h1⟩, h21, h3⟩ := u
  obtain ⟨h1, hn⟩ := h1.norm
  have h2 : ∀ x ∈ q :: (bl vF ++ bl vE ++ bl vF' ++ bl vE'), x ∈ l ∨ w.heap.size ≤ x := fun x hx => h21 x (hn x hx).1
  generalize (q :: (bl vF ++ bl vE ++ bl vF' ++ bl vE')) = l' at h1 hn h2
  have np : p ∉ l' := fun hx => by
    rcases h2 p hx with h4 | h4
    · exact t.np h4
    · have := t.dsk.ltp; omega
  have ng : g ∉ l' := fun hx => by
    rcases h2 g hx with h4 | h4
    · exact t.ng h4
    · have := t.dsk.ltg; omega
  have nb : b ∉ l' := fun hx => by
    rcases h2 b hx with h4 | h4
    · exact t.nb h4
    · have := t.dsk.ltb; omega
  exact ⟨l', ⟨⟨_, _, _, _, h1⟩, t.dsk.keep h3 t.np t.ng t.nb, np, ng, nb, t.three, fun x hx => (hn x hx).2⟩, h2, h3⟩
theorem open_at (w : World) {p g b n : Nat} {F : Nat → Sec} {m : Nat → Option Sec} {h : Nat} {L : List Rec} (hd : Dsk w p g b n F m) (hn : 3 ≤ n) (o : Opens n (now F m) h L) :
    Calls Try.prog 10 #[.pointer (some ⟨p, 0, none⟩)] w fun e w' => ∃ q l, e = .returned (.tuple #[.pointer (some ⟨q, 0, none⟩), .int .i64 0]) ∧ Hid (TD w' l q p g b n (calm F m h L)) ∧ Hid (∀ x ∈ l, w.heap.size ≤ x) ∧ Chg [] w w' := by
  refine (open_ok w hd hn).mono fun e w' h => ?_
  rcases h with ⟨h2, L2, q, l, o2, he, ht, hl, hc⟩ | ⟨hno, _, _⟩
  · obtain ⟨rfl, rfl⟩ := o2.uniq hd.top o
    obtain ⟨vF, vE, vF', vE', h1⟩ := ht
    obtain ⟨h1, hnn⟩ := h1.norm
    have hl1 : ∀ x ∈ q :: (bl vF ++ bl vE ++ bl vF' ++ bl vE'), w.heap.size ≤ x := fun x hx => hl x (hnn x hx).1
    clear hl
    generalize (q :: (bl vF ++ bl vE ++ bl vF' ++ bl vE')) = l at h1 hnn hl1
    have hl := hl1
    exact ⟨q, l, he, Lib.hid ⟨⟨_, _, _, _, h1⟩, hd.kept hc, fun hx => by have := hl _ hx; have := hd.ltp; omega, fun hx => by have := hl _ hx; have := hd.ltg; omega, fun hx => by have := hl _ hx; have := hd.ltb; omega, hn, fun x hx => (hnn x hx).2⟩, Lib.hid hl, hc⟩
  · exact absurd o (hno _ _)
section
variable {w : World} {l : List Nat} {q p g b n : Nat} {S : TS}
def appS (n : Nat) (S : TS) (r : Rec) : TS := { S with L' := appL n S.k S.h S.h' S.L S.L' r }
theorem append_TD (t : TD w l q p g b n S) (a : Option Addr) (r : Rec) (c B : Nat) (hro : Ro w B a (u8s r)) (hB : B ≤ w.heap.size) (hsep : okR r → ∀ x, a = some x → x.block ∉ l) :
    Calls Try.prog 11 #[.pointer (some ⟨q, 0, none⟩), .slice a r.length c] w fun e w' => e = .returned (.int .i64 ((appE n S.k S.h S.h' S.L S.L' r : Nat) : Int)) ∧ Hid (TDT w l q p g b n (appS n S r) w') := by
  obtain ⟨_, _, _, _, tv⟩ := t.tp
  exact (append_tape tv t.dsk a r c B hro hB hsep).mono fun e w' h => ⟨h.1, Lib.hid (TpT.td t h.2)⟩
def replS (n : Nat) (S : TS) (xs : List SB) : TS := { S with h' := replH n S.k S.h S.h' xs, L' := replL n S.k S.L' xs }
theorem replace_TD (t : TD w l q p g b n S) (a : Option Addr) (xs : List SB) (c B : Nat) (hr : RoL w B a xs) (hB : B ≤ w.heap.size) (hs : Sep l a xs) (hl : xs.length ≤ 1000000) :
    Calls Try.prog 15 #[.pointer (some ⟨q, 0, none⟩), .slice a xs.length c] w fun e w' => e = .returned (.int .i64 ((replE n S.k xs : Nat) : Int)) ∧ Hid (TDT w l q p g b n (replS n S xs) w') := by
  obtain ⟨_, _, _, _, tv⟩ := t.tp
  exact (replace_tape tv t.dsk a xs c B hr hB hs hl).mono fun e w' h => ⟨h.1, Lib.hid (TpT.td t h.2)⟩
theorem len_TD (t : TD w l q p g b n S) : Calls Try.prog 21 #[.pointer (some ⟨q, 0, none⟩)] w fun e w' => e = .returned (.int .i64 ((S.L.length : Nat) : Int)) ∧ Chg [] w w' := by
  obtain ⟨_, _, _, _, tv⟩ := t.tp
  exact len_tape tv
theorem waiting_TD (t : TD w l q p g b n S) : Calls Try.prog 22 #[.pointer (some ⟨q, 0, none⟩)] w fun e w' => e = .returned (.int .i64 ((waitN S.h S.h' S.L S.L' : Nat) : Int)) ∧ Chg [] w w' := by
  obtain ⟨_, _, _, _, tv⟩ := t.tp
  exact waiting_tape tv t.dsk.top
theorem room_TD (t : TD w l q p g b n S) : Calls Try.prog 20 #[.pointer (some ⟨q, 0, none⟩)] w fun e w' => e = .returned (.int .i64 ((roomN n S.h S.h' S.L S.L' : Nat) : Int)) ∧ Chg [] w w' := by
  obtain ⟨_, _, _, _, tv⟩ := t.tp
  exact (room_tape tv t.dsk).mono fun e w' h => ⟨h.1, (Chg.refl [] w).qt h.2⟩
theorem read_TD (t : TD w l q p g b n S) (i : Nat) (hi : i < S.L.length) : Calls Try.prog 23 #[.pointer (some ⟨q, 0, none⟩), .int .i64 (i : Int)] w fun e w' => ∃ v, e = .returned (.tuple #[v, .int .i64 0]) ∧ Hid (Lst w' w.heap.size 5 v (u8s S.L[i])) ∧ Chg [] w w' := by
  obtain ⟨_, _, _, _, tv⟩ := t.tp
  exact read_recT tv t.dsk.top i hi
theorem readno_TD (t : TD w l q p g b n S) (i : Int) (hi : i < 0 ∨ ((S.L.length : Nat) : Int) ≤ i) : Calls Try.prog 23 #[.pointer (some ⟨q, 0, none⟩), .int .i64 i] w fun e w' => e = .returned (.tuple #[.slice none 0 0, .int .i64 62]) ∧ Chg [] w w' := by
  obtain ⟨_, _, _, _, tv⟩ := t.tp
  exact read_noneT tv i hi
/-- the blocks of a tape's disk and its own lie below -/
theorem TD.dlt (t : TD w l q p g b n S) : p < w.heap.size ∧ g < w.heap.size ∧ b < w.heap.size := ⟨t.dsk.ltp, t.dsk.ltg, t.dsk.ltb⟩
end
theorem conv_ro {w : World} {B len c : Nat} {a : Option Addr} {bs : List UInt8} (h : Ro w B a (u8s bs)) (hl : bs.length = len) :
    (convert 35 9 (.slice a len c)).run Try.prog w = .ok (.string ⟨bs.toArray⟩) w := by
  subst hl
  by_cases h0 : 0 < bs.length
  · obtain ⟨b, off, rfl, hb, hc⟩ := h.u8 h0
    exact run_convert_bytes_back w _ _ _ _ _ bs Try.underlying35 Try.underlying5 Try.underlying9 fun j hj => by
      rw [add_off, hc j hj]
      simp [List.getD, hj]
  · have e : bs = [] := List.eq_nil_of_length_eq_zero (by omega)
    subst e
    rw [run_convert_bytes_string w _ _ _ a _ c Try.underlying35 Try.underlying5 Try.underlying9]
    cases a <;> simp [Conv.bytesToString, loadCells]
    all_goals rfl
theorem commit_k0 {n : Nat} {S : TS} (hi : ¬ S.idle) (hk : S.k = 0) : commitS n S = ⟨now (now S.F (wfM n S.h S.h' S.L S.L' S.m)) (upd (fun _ => none) 0 (supS S.h' S.L'.length (frs S.L').length)), fun _ => none, S.h', S.h', S.L', S.L', 0⟩ := by
  unfold commitS
  rw [if_neg hi, if_pos hk]
  have e1 : stepS n S = ⟨S.F, wfM n S.h S.h' S.L S.L' S.m, S.h, S.h', S.L, S.L', 1⟩ := by unfold stepS; rw [if_neg hi, if_pos hk]
  have e2 : stepS n ⟨S.F, wfM n S.h S.h' S.L S.L' S.m, S.h, S.h', S.L, S.L', 1⟩ = ⟨now S.F (wfM n S.h S.h' S.L S.L' S.m), fun _ => none, S.h, S.h', S.L, S.L', 2⟩ := by
    unfold stepS; rw [if_neg (show ¬ TS.idle ⟨S.F, wfM n S.h S.h' S.L S.L' S.m, S.h, S.h', S.L, S.L', 1⟩ from hi), if_neg (by simp), if_pos rfl]
  have e3 : stepS n ⟨now S.F (wfM n S.h S.h' S.L S.L' S.m), fun _ => none, S.h, S.h', S.L, S.L', 2⟩ = ⟨now S.F (wfM n S.h S.h' S.L S.L' S.m), upd (fun _ => none) 0 (supS S.h' S.L'.length (frs S.L').length), S.h, S.h', S.L, S.L', 3⟩ := by
    unfold stepS; rw [if_neg (show ¬ TS.idle ⟨now S.F (wfM n S.h S.h' S.L S.L' S.m), fun _ => none, S.h, S.h', S.L, S.L', 2⟩ from hi), if_neg (by simp), if_neg (by simp), if_pos rfl]
  have e4 : stepS n ⟨now S.F (wfM n S.h S.h' S.L S.L' S.m), upd (fun _ => none) 0 (supS S.h' S.L'.length (frs S.L').length), S.h, S.h', S.L, S.L', 3⟩ = ⟨now (now S.F (wfM n S.h S.h' S.L S.L' S.m)) (upd (fun _ => none) 0 (supS S.h' S.L'.length (frs S.L').length)), fun _ => none, S.h', S.h', S.L', S.L', 0⟩ := by
    unfold stepS; rw [if_neg (show ¬ TS.idle ⟨now S.F (wfM n S.h S.h' S.L S.L' S.m), upd (fun _ => none) 0 (supS S.h' S.L'.length (frs S.L').length), S.h, S.h', S.L, S.L', 3⟩ from hi), if_neg (by simp), if_neg (by simp), if_neg (by simp)]
  rw [e1, e2, e3, e4]
end Go.Proofs.Ytdiemejdbakffaa
