/-
  Contract of package tape's Replace. No claim of its own.
-/
import Derived.Test.YtcadnlilijkneaaGreatGb25
namespace Go.Proofs.YtcadnlilijkneaaGreat
open Go.RowKit Go.Deep Go.Shelf
set_option linter.unusedVariables false
set_option linter.unusedSimpArgs false

section
variable {w : World} {l : List Nat} {q p n h h' : Nat} {L L' : List Rec} {k : Nat} {vF vE vF' vE' : Value}
theorem TpV.fresh {W : World} (t : TpV w l q p n h h' L L' 0 vF vE vF' vE') (hW : Chg [q] w W)
    (ho : Own W q 215 [.pointer (some ⟨p, 0, none⟩), .int .i64 (h : Int), vF, vE, .int .i64 ((1 - h : Nat) : Int), .slice none 0 0, .slice none 0 0, .int .i64 ((0 : Nat) : Int)]) :
    TpV W l q p n h (1 - h) L [] 0 vF vE (.slice none 0 0) (.slice none 0 0) :=
  ⟨ho, t.fr.other hW (fun g hg _ => by simp at hg; subst hg; exact ⟨_, _, _, t.own, ne_tp_u8⟩), t.en.other hW (fun g hg _ => by simp at hg; subst hg; exact ⟨_, _, _, t.own, ne_tp_int⟩), Lst.nil _ _ _, Lst.nil _ _ _,
    fun g _ h => by simp [Value.ownBlock] at h, fun g _ h => by simp [Value.ownBlock] at h, t.memq, fun x hx => by
      rcases hx with hx | hx | hx | hx
      · exact t.memv x (.inl hx)
      · exact t.memv x (.inr (.inl hx))
      · simp [mem_bl, Value.ownBlock] at hx
      · simp [mem_bl, Value.ownBlock] at hx,
    t.half, by omega, by omega, t.ok, okL_nil, t.room, by simp [frs], fun e => by have := t.half; omega, fun e => by omega⟩
end
end Go.Proofs.YtcadnlilijkneaaGreat
