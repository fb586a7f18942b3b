/-
  Slices of slices that are read beside a tape: what a call of the tape's leaves of them. No claim of their own.
-/
import Derived.Test.YtdiemejdbakffaaGreatJ7
namespace Go.Proofs.YtdiemejdbakffaaGreat
open Go.RowKit Go.Deep Go.Shelf Go.Maps
set_option linter.unusedVariables false
set_option linter.unusedSimpArgs false

theorem u8s_ne {r : Rec} (h : u8s r ≠ []) : r ≠ [] := fun e => h (by rw [e]; rfl)
theorem ne_u8s {r : Rec} (h : r ≠ []) : u8s r ≠ [] := fun e => h (by have := congrArg List.length e; rw [u8s_length] at this; exact List.eq_nil_of_length_eq_zero this)
/-- it reads as ys, and none of its blocks is in N -/
structure RS (w : World) (N : List Nat) (a : Option Addr) (ys : List SB) : Prop where
  rom : RoM w a ys
  sep : Sep N a ys
theorem RS.call {w w1 : World} {N N' : List Nat} {a : Option Addr} {ys : List SB} (h : RS w N a ys) (hc : Chg N w w1) (hN : ∀ x ∈ N', x ∈ N ∨ w.heap.size ≤ x) : RS w1 N' a ys := by
  refine ⟨⟨(Ro.chgs2 h.rom.row hc (fun h0 => h.sep.1 (fun e => h0 (by rw [e]; rfl)))).mono hc.size, fun x hx => (Ro.chgs2 (h.rom.el x hx) hc (fun h0 => h.sep.2 x hx (u8s_ne h0))).mono hc.size, h.rom.len, h.rom.lens⟩, fun h0 x hx hm => ?_, fun y hy h0 x hx hm => ?_⟩
  · rcases hN _ hm with h1 | h1
    · exact h.sep.1 h0 x hx h1
    · have := ro_off h.rom.row (fun e => h0 (List.map_eq_nil_iff.1 e)) x hx
      omega
  · rcases hN _ hm with h1 | h1
    · exact h.sep.2 y hy h0 x hx h1
    · have := ro_off (h.rom.el y hy) (ne_u8s h0) x hx
      omega
theorem RS.kept {w w1 : World} {N : List Nat} {a : Option Addr} {ys : List SB} (h : RS w N a ys) (hc : Chg [] w w1) : RS w1 N a ys := h.call (hc.mono (by simp)) (fun x hx => .inl hx)
theorem RS.arg {w0 w : World} {N : List Nat} {a : Option Addr} {ys : List SB} (h : RoM w0 a ys) (hc : Chg [] w0 w) (hN : ∀ x ∈ N, w0.heap.size ≤ x) : RS w N a ys :=
  RS.call (N := []) ⟨h, ⟨fun _ _ _ => by simp, fun _ _ _ _ _ => by simp⟩⟩ hc (fun x hx => .inr (hN x hx))
theorem lst_ge {w : World} {base : Nat} {e : TypeId} {a : Option Addr} {n c : Nat} {xs : List Value} (h : Lst w base e (.slice a n c) xs) : ∀ x, a = some x → base ≤ x.block := by
  intro x hx
  subst hx
  rcases h.2 with ⟨h0, _⟩ | ⟨g, cap, cur, h0, hb, _⟩
  · cases h0
  · injection h0 with h0
    injection h0 with h0
    subst h0
    exact hb
theorem lst_bl {w : World} {e : TypeId} {a : Option Addr} {n c : Nat} {xs : List Value} (h : Lst w 0 e (.slice a n c) xs) : ∀ x, a = some x → x.block ∈ bl (.slice a n c) := by
  intro x hx
  subst hx
  rcases h.2 with ⟨h0, _⟩ | ⟨g, cap, cur, h0, hb, _⟩
  · cases h0
  · injection h0 with h0
    injection h0 with h0
    subst h0
    exact mem_bl.2 rfl
/-- clones of a tape's records -/
theorem RS.own {w : World} {base : Nat} {N : List Nat} {a : Option Addr} {n c : Nat} {xs : List SB} (h : RL w base (.slice a n c) xs) (hN : ∀ x ∈ N, x < base) (hl : xs.length ≤ 9223372036854775807) (hx : ∀ x ∈ xs, x.bs.length ≤ 9223372036854775807) : RS w N a xs := by
  refine ⟨h.rom hl hx, fun _ x hax hm => ?_, fun y hy _ x hax hm => ?_⟩
  · have h1 := h.low _ (lst_bl h.lst x hax)
    have h2 := hN _ hm
    omega
  · have h1 := lst_ge (show Lst w base 5 (.slice y.a y.bs.length y.c) _ from h.el y hy) x hax
    have h2 := hN _ hm
    omega
/-- a new list out of an old one and one more -/
theorem RS.more {w w1 : World} {N : List Nat} {a a1 : Option Addr} {n c1 : Nat} {ys : List SB} {x : SB} (h : RS w N a ys) (hc : Chg [] w w1) (hx : RS w N none [] ∧ Ro w w.heap.size x.a (u8s x.bs) ∧ x.bs.length ≤ 9223372036854775807 ∧ (x.bs ≠ [] → ∀ y, x.a = some y → y.block ∉ N)) (hl : Lst w1 0 37 (.slice a1 n c1) ((ys ++ [x]).map SB.val)) (hb : ∀ y ∈ bl (.slice a1 n c1), y ∉ N) (hlen : (ys ++ [x]).length ≤ 9223372036854775807) : RS w1 N a1 (ys ++ [x]) := by
  obtain ⟨a2, c2, h1, h2, _⟩ := hl.form
  injection h1 with h3
  subst h3
  have hk := h.kept hc
  refine ⟨⟨h2, fun y hy => ?_, hlen, fun y hy => ?_⟩, fun _ y hy => hb _ (lst_bl hl y hy), fun y hy h0 z hz => ?_⟩
  · rcases List.mem_append.1 hy with hy | hy
    · exact hk.rom.el y hy
    · simp only [List.mem_cons, List.mem_nil_iff, or_false] at hy
      subst hy
      exact (hx.2.1.chgs hc (by simp)).mono hc.size
  · rcases List.mem_append.1 hy with hy | hy
    · exact hk.rom.lens y hy
    · simp only [List.mem_cons, List.mem_nil_iff, or_false] at hy
      subst hy
      exact hx.2.2.1
  · rcases List.mem_append.1 hy with hy | hy
    · exact hk.sep.2 y hy h0 z hz
    · simp only [List.mem_cons, List.mem_nil_iff, or_false] at hy
      subst hy
      exact hx.2.2.2 h0 z hz
end Go.Proofs.YtdiemejdbakffaaGreat
