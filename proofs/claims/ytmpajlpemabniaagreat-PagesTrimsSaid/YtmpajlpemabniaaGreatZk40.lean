/-
  Pages beside blocks of a law's own. No claim of its own.
-/
import Derived.Test.YtmpajlpemabniaaGreatZk39
namespace Go.Proofs.YtmpajlpemabniaaGreat
open Go.RowKit Go.Maps Go.Shelf Go.Deep
set_option linter.unusedVariables false
set_option linter.unusedSimpArgs false

structure Pgy (w0 w : World) (N : List Nat) (u p n : Nat) (T : PT) : Prop where
  v : Pgv w (fun x => w0.heap.size ≤ x ∧ x ∉ N) u p n T
  c : Chg [] w0 w
  lt : ∀ x ∈ N, x < w.heap.size
theorem Pgv.low {w : World} {B : Nat → Prop} {u p n : Nat} {T : PT} (V : Pgv w B u p n T) : Pgv w (fun x => B x ∧ x < w.heap.size) u p n T := by
  obtain ⟨l, q, g, b, sq, sp, sb, v, C, P, hB⟩ := V.ex
  exact ⟨⟨l, q, g, b, sq, sp, sb, v, C, P, fun x hx => ⟨hB x hx, P.lt x hx⟩⟩, V.iv⟩
theorem Pgz.fence {w0 w w' : World} {u p n : Nat} {T : PT} (V : Pgz w0 w u p n T) (hc : Chg [] w w') (N : List Nat) (hN : ∀ x ∈ N, w.heap.size ≤ x ∧ x < w'.heap.size) : Pgy w0 w' N u p n T :=
  ⟨(V.v.low.kept hc).mono fun x hx => ⟨hx.1, fun h => by have := (hN x h).1; omega⟩, V.c.trans hc, fun x hx => (hN x hx).2⟩
theorem Pgy.kept {w0 w w' : World} {N : List Nat} {u p n : Nat} {T : PT} (V : Pgy w0 w N u p n T) (hc : Chg [] w w') : Pgy w0 w' N u p n T := ⟨V.v.kept hc, V.c.trans hc, fun x hx => Nat.lt_of_lt_of_le (V.lt x hx) hc.size⟩
theorem Pgy.turn {w0 w w' : World} {N : List Nat} {u p n : Nat} {T : PT} (V : Pgy w0 w N u p n T) (hc : Chg N w w') (h0 : ∀ x ∈ N, w0.heap.size ≤ x) : Pgy w0 w' N u p n T :=
  ⟨V.v.apart (B2 := fun x => x ∈ N) ⟨N, hc, fun x hx => .inl hx⟩ (fun x _ h1 h2 => h1.2 h2), V.c.then hc (fun x hx => .inr (h0 x hx)), fun x hx => Nat.lt_of_lt_of_le (V.lt x hx) hc.size⟩
theorem Pgy.step {w0 w w' : World} {N : List Nat} {u p n : Nat} {T T' : PT} (V : Pgy w0 w N u p n T) (h : Pgvc w (fun x => w0.heap.size ≤ x ∧ x ∉ N) u p n T' w') : Pgy w0 w' N u p n T' ∧ ∀ g ∈ N, ∀ t cs, Own w g t cs → Own w' g t cs := by
  obtain ⟨m, hm, hm2⟩ := h.2
  refine ⟨⟨h.1.mono fun x hx => ?_, Gch.low V.c h.2 fun x hx => hx.1, fun x hx => Nat.lt_of_lt_of_le (V.lt x hx) hm.size⟩, fun g hg t cs ho => ho.chg hm fun hx => ?_⟩
  · rcases hx with h1 | h1
    · exact h1
    · exact ⟨Nat.le_trans V.c.size h1, fun h9 => by have := V.lt x h9; omega⟩
  · have h1 := V.lt g hg
    rcases hm2 g hx with h2 | h2
    · exact h2.2 hg
    · omega
theorem Pgy.z {w0 w : World} {N : List Nat} {u p n : Nat} {T : PT} (V : Pgy w0 w N u p n T) : Pgz w0 w u p n T := ⟨V.v.mono fun x hx => hx.1, V.c⟩
end Go.Proofs.YtmpajlpemabniaaGreat
