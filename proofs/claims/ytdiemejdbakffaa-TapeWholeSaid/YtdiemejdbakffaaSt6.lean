/-
  A tape and its disk that a law has made, seen from an earlier world: what each call leaves. No claim of their own.
-/
import Derived.Test.YtdiemejdbakffaaFit6
namespace Go.Proofs.Ytdiemejdbakffaa
open Go.RowKit Go.Deep Go.Shelf
set_option linter.unusedVariables false
set_option linter.unusedSimpArgs false

/-- seen from w0: only blocks in N, and new ones, have turned, and the tape's and the disk's are among these -/
structure Ts (w0 w : World) (N l : List Nat) (q p g b n : Nat) (S : TS) : Prop where
  td : TD w l q p g b n S
  sub : ∀ x ∈ l ++ [g, b], x ∈ N ∨ w0.heap.size ≤ x
  chg : Chg N w0 w
def Tz (w0 w : World) (N : List Nat) (q p g b n : Nat) (S : TS) : Prop := ∃ l, Ts w0 w N l q p g b n S
theorem Ts.kept {w0 w w' : World} {N l : List Nat} {q p g b n : Nat} {S : TS} (t : Ts w0 w N l q p g b n S) (hc : Chg [] w w') : Ts w0 w' N l q p g b n S := ⟨t.td.kept hc, t.sub, t.chg.then hc (by simp)⟩
theorem Tz.kept {w0 w w' : World} {N : List Nat} {q p g b n : Nat} {S : TS} (t : Tz w0 w N q p g b n S) (hc : Chg [] w w') : Tz w0 w' N q p g b n S := t.elim fun l h => ⟨l, h.kept hc⟩
theorem Tz.chg {w0 w : World} {N : List Nat} {q p g b n : Nat} {S : TS} (t : Tz w0 w N q p g b n S) : Chg N w0 w := t.elim fun l h => h.chg
theorem Tz.inv {w0 w : World} {N : List Nat} {q p g b n : Nat} {S : TS} (t : Tz w0 w N q p g b n S) : SInv n S := t.elim fun l h => h.td.inv
theorem Ts.tdt {w0 w w' : World} {N l : List Nat} {q p g b n : Nat} {S S' : TS} (t : Ts w0 w N l q p g b n S) (u : TDT w l q p g b n S' w') : Tz w0 w' N q p g b n S' := by
  obtain ⟨l', h1, h2, h3⟩ := u
  refine ⟨l', h1, fun x hx => ?_, t.chg.then h3 (fun x hx => t.sub x (List.mem_append.2 (.inl hx)))⟩
  rcases List.mem_append.1 hx with hx | hx
  · rcases h2 x hx with h4 | h4
    · exact t.sub x (List.mem_append.2 (.inl h4))
    · exact .inr (Nat.le_trans t.chg.size h4)
  · exact t.sub x (List.mem_append.2 (.inr hx))
theorem Ts.run {w0 w w' : World} {N l : List Nat} {q p g b n : Nat} {S S' : TS} (t : Ts w0 w N l q p g b n S) (u : TD w' l q p g b n S') (hc : Chg (l ++ [g, b]) w w') : Tz w0 w' N q p g b n S' :=
  ⟨l, u, t.sub, t.chg.then hc t.sub⟩
/-- seen from now on -/
theorem Tz.now {w0 w : World} {N : List Nat} {q p g b n : Nat} {S : TS} (t : Tz w0 w N q p g b n S) : ∃ N', Tz w w N' q p g b n S ∧ ∀ x ∈ N', x ∈ N ∨ w0.heap.size ≤ x := by
  obtain ⟨l, h⟩ := t
  exact ⟨l ++ [g, b], ⟨l, h.td, fun x hx => .inl hx, Chg.refl _ _⟩, h.sub⟩
/-- a new disk with a new tape -/
theorem Tz.start {w0 w1 w2 : World} {l : List Nat} {q p g b n : Nat} {S : TS} (hp : w0.heap.size ≤ p) (hg : w0.heap.size ≤ g) (hb : w0.heap.size ≤ b) (h1 : Chg [] w0 w1) (t : TD w2 l q p g b n S) (hl : ∀ x ∈ l, w1.heap.size ≤ x) (h2 : Chg [] w1 w2) : Tz w0 w2 [] q p g b n S := by
  refine ⟨l, t, fun x hx => .inr ?_, h1.trans h2⟩
  rcases List.mem_append.1 hx with hx | hx
  · exact Nat.le_trans h1.size (hl x hx)
  · simp only [List.mem_cons, List.mem_nil_iff, or_false] at hx
    rcases hx with rfl | rfl
    · exact hg
    · exact hb
section
variable {w0 w : World} {N : List Nat} {q p g b n : Nat} {S : TS}
theorem ro_off {w : World} {B : Nat} {a : Option Addr} {vs : List Value} (h : Ro w B a vs) (hn : vs ≠ []) : ∀ x, a = some x → x.block < B := by
  rcases h with h | ⟨b, off, rfl, hb, _⟩
  · exact absurd h hn
  · intro x hx
    injection hx with hx
    subst hx
    exact hb
theorem append_Z (t : Tz w0 w N q p g b n S) (a : Option Addr) (r : Rec) (c : Nat) (hro : Ro w0 w0.heap.size a (u8s r)) (hN : r ≠ [] → ∀ x, a = some x → x.block ∉ N) :
    Calls Try.prog 11 #[.pointer (some ⟨q, 0, none⟩), .slice a r.length c] w fun e w' => e = .returned (.int .i64 ((appE n S.k S.h S.h' S.L S.L' r : Nat) : Int)) ∧ Hid (Tz w0 w' N q p g b n (appS n S r)) := by
  obtain ⟨l, t⟩ := t
  have hne : ∀ {r : Rec}, okR r → r ≠ [] := fun h e => by subst e; exact absurd h.1 (by simp)
  have hu : ∀ {r : Rec}, r ≠ [] → u8s r ≠ [] := fun h e => h (by have := congrArg List.length e; rw [u8s_length] at this; exact List.eq_nil_of_length_eq_zero this)
  refine (append_TD t.td a r c w0.heap.size (Ro.chgs2 hro t.chg (fun h => hN (fun e => h (by rw [e]; rfl)))) t.chg.size (fun hr x hx hm => ?_)).mono fun e w' h => ⟨h.1, Lib.hid (t.tdt h.2.out)⟩
  rcases t.sub _ (List.mem_append.2 (.inl hm)) with h1 | h1
  · exact hN (hne hr) x hx h1
  · have := ro_off hro (hu (hne hr)) x hx
    omega
/-- a row of the law's own -/
theorem append_Zown (t : Tz w0 w N q p g b n S) (i : Nat) (r : Rec) (c : Nat) (hro : Ro w (i + 1) (some ⟨i, 0, none⟩) (u8s r)) (hi : i < w.heap.size) (hl : ∀ l, TD w l q p g b n S → (∀ x ∈ l ++ [g, b], x ∈ N ∨ w0.heap.size ≤ x) → i ∉ l) :
    Calls Try.prog 11 #[.pointer (some ⟨q, 0, none⟩), .slice (some ⟨i, 0, none⟩) r.length c] w fun e w' => e = .returned (.int .i64 ((appE n S.k S.h S.h' S.L S.L' r : Nat) : Int)) ∧ Hid (Tz w0 w' N q p g b n (appS n S r)) := by
  obtain ⟨l, t⟩ := t
  refine (append_TD t.td _ r c (i + 1) hro (by omega) (fun hr x hx hm => ?_)).mono fun e w' h => ⟨h.1, Lib.hid (t.tdt h.2.out)⟩
  injection hx with hx
  subst hx
  exact hl l t.td t.sub hm
/-- a literal -/
theorem append_Zlit (t : Tz w0 w N q p g b n S) (r : Rec) (c : Nat) (fr : Nat × Nat) :
    Calls Try.prog 11 #[.pointer (some ⟨q, 0, none⟩), .slice (some ⟨w.heap.size, 0, none⟩) r.length c] (w.alloc (.cells (u8s r).toArray 5 fr)) fun e w' => e = .returned (.int .i64 ((appE n S.k S.h S.h' S.L S.L' r : Nat) : Int)) ∧ Hid (Tz w0 w' N q p g b n (appS n S r)) := by
  obtain ⟨l, t⟩ := t
  have hC : Chg [] w (w.alloc (.cells (u8s r).toArray 5 fr)) := (Chg.refl [] w).alloc _
  have t2 := t.kept hC
  refine (append_TD t2.td _ r c (w.heap.size + 1) (ro_marked w r _ fr) (by simp) (fun hr x hx hm => ?_)).mono fun e w' h => ⟨h.1, Lib.hid (t2.tdt h.2.out)⟩
  injection hx with hx
  subst hx
  have := t.td.lt _ hm
  simp at this
theorem replace_Z (t : Tz w0 w N q p g b n S) (a : Option Addr) (xs : List SB) (c : Nat) (hr : RoL w0 w0.heap.size a xs) (hN : Sep N a xs) (hl : xs.length ≤ 1000000) :
    Calls Try.prog 15 #[.pointer (some ⟨q, 0, none⟩), .slice a xs.length c] w fun e w' => e = .returned (.int .i64 ((replE n S.k xs : Nat) : Int)) ∧ Hid (Tz w0 w' N q p g b n (replS n S xs)) := by
  obtain ⟨l, t⟩ := t
  refine (replace_TD t.td a xs c w0.heap.size (hr.chgs t.chg hN) t.chg.size ⟨fun h x hx hm => ?_, fun y hy h x hx hm => ?_⟩ hl).mono fun e w' h => ⟨h.1, Lib.hid (t.tdt h.2.out)⟩
  · rcases t.sub _ (List.mem_append.2 (.inl hm)) with h1 | h1
    · exact hN.1 h x hx h1
    · have := ro_off hr.row (fun e => h (List.map_eq_nil_iff.1 e)) x hx
      omega
  · rcases t.sub _ (List.mem_append.2 (.inl hm)) with h1 | h1
    · exact hN.2 y hy h x hx h1
    · have := ro_off (hr.el y hy).1 (fun e => h (by have := congrArg List.length e; rw [u8s_length] at this; exact List.eq_nil_of_length_eq_zero this)) x hx
      omega
theorem commit_Z (t : Tz w0 w N q p g b n S) : Calls Try.prog 12 #[.pointer (some ⟨q, 0, none⟩)] w fun e w' => e = .returned (.int .i64 0) ∧ Hid (Tz w0 w' N q p g b n (commitS n S)) := by
  obtain ⟨l, t⟩ := t
  exact (commit_TD t.td).mono fun e w' h => ⟨h.1, Lib.hid (t.run h.2.1.out h.2.2)⟩
theorem step_Z (t : Tz w0 w N q p g b n S) : Calls Try.prog 17 #[.pointer (some ⟨q, 0, none⟩)] w fun e w' => e = .returned (.tuple #[.bool (doneS S), .int .i64 0]) ∧ Hid (Tz w0 w' N q p g b n (stepS n S)) := by
  obtain ⟨l, t⟩ := t
  exact (step_TD t.td).mono fun e w' h => ⟨h.1, Lib.hid (t.run h.2.1.out h.2.2)⟩
theorem len_Z (t : Tz w0 w N q p g b n S) : Calls Try.prog 21 #[.pointer (some ⟨q, 0, none⟩)] w fun e w' => e = .returned (.int .i64 ((S.L.length : Nat) : Int)) ∧ Chg [] w w' := by
  obtain ⟨l, t⟩ := t
  exact len_TD t.td
theorem waiting_Z (t : Tz w0 w N q p g b n S) : Calls Try.prog 22 #[.pointer (some ⟨q, 0, none⟩)] w fun e w' => e = .returned (.int .i64 ((waitN S.h S.h' S.L S.L' : Nat) : Int)) ∧ Chg [] w w' := by
  obtain ⟨l, t⟩ := t
  exact waiting_TD t.td
theorem room_Z (t : Tz w0 w N q p g b n S) : Calls Try.prog 20 #[.pointer (some ⟨q, 0, none⟩)] w fun e w' => e = .returned (.int .i64 ((roomN n S.h S.h' S.L S.L' : Nat) : Int)) ∧ Qt w w' := by
  obtain ⟨l, t⟩ := t
  obtain ⟨_, _, _, _, tv⟩ := t.td.tp
  exact room_tape tv t.td.dsk
theorem read_Z (t : Tz w0 w N q p g b n S) (i : Nat) (hi : i < S.L.length) : Calls Try.prog 23 #[.pointer (some ⟨q, 0, none⟩), .int .i64 (i : Int)] w fun e w' => ∃ v, e = .returned (.tuple #[v, .int .i64 0]) ∧ Hid (Lst w' w.heap.size 5 v (u8s S.L[i])) ∧ Chg [] w w' := by
  obtain ⟨l, t⟩ := t
  exact read_TD t.td i hi
end
end Go.Proofs.Ytdiemejdbakffaa
