/-
  Contracts of Add and Drop whole; of the live question that the statements of package runs ask; of built. No claim of its own.
-/
import Derived.Test.YtmpajlpemabniaaGreatDrp
namespace Go.Proofs.YtmpajlpemabniaaGreat
open Go.RowKit Go.Shelf Go.Deep
set_option linter.unusedVariables false
set_option linter.unusedSimpArgs false

theorem add_any (w : World) (p : Nat) (v : Value) (L : List Rn) (hs : St w p v L) (r : Rn) (hf : Fit r) (hl : L.length ≤ 999999) :
    Calls Tryz.prog 92 #[.pointer (some ⟨p, 0, none⟩), rv r] w (AddPost w p v L (putL L r) (cnt (putL L r) - cnt L)) := by
  unfold putL
  by_cases h : r.1 < r.2
  · rw [if_pos h]; exact add_some w p v L hs r h hf hl
  · rw [if_neg h, Nat.sub_self]; exact add_empty w p v L hs r (by omega)
theorem drop_any (w : World) (p : Nat) (v : Value) (L : List Rn) (hs : St w p v L) (r : Rn) (hf : Fit r) (hl : L.length ≤ 999999) :
    Calls Tryz.prog 90 #[.pointer (some ⟨p, 0, none⟩), rv r] w (AddPost w p v L (cutL L r) (cnt L - cnt (cutL L r))) := by
  unfold cutL
  by_cases h : r.1 < r.2
  · rw [if_pos h]; exact drop_some w p v L hs r h hf hl
  · rw [if_neg h, Nat.sub_self]; exact drop_empty w p v L hs r (by omega)
theorem putL_ok {L : List Rn} (h : NF L) (r : Rn) : NF (putL L r) ∧ ∀ n, mem (putL L r) n = (mem L n || inR r n) := by
  unfold putL
  by_cases hr : r.1 < r.2
  · rw [if_pos hr]; exact addL_ok h hr
  · rw [if_neg hr]; exact ⟨h, fun n => by rw [inR_empty (by omega)]; simp⟩
theorem cutL_ok {L : List Rn} (h : NF L) (r : Rn) : NF (cutL L r) ∧ ∀ n, mem (cutL L r) n = (mem L n && !inR r n) := by
  unfold cutL
  by_cases hr : r.1 < r.2
  · rw [if_pos hr]; exact dropL_ok h hr
  · rw [if_neg hr]; exact ⟨h, fun n => by rw [inR_empty (by omega)]; simp⟩
theorem putL_len {L : List Rn} (h : NF L) (r : Rn) : (putL L r).length ≤ L.length + 1 := by
  unfold putL
  by_cases hr : r.1 < r.2
  · rw [if_pos hr]; exact addL_len' h hr
  · rw [if_neg hr]; omega
theorem cutL_len {L : List Rn} (h : NF L) (r : Rn) : (cutL L r).length ≤ L.length + 1 := by
  unfold cutL
  by_cases hr : r.1 < r.2
  · rw [if_pos hr]; exact dropL_len h hr
  · rw [if_neg hr]; omega
theorem New.ltB {w : World} {B p : Nat} {v : Value} {L : List Rn} (h : New w B p v L) : B ≤ w.heap.size := by have := h.st.own.lt; have := h.lowp; omega
theorem New.blocks {w : World} {B p : Nat} {v : Value} {L : List Rn} (h : New w B p v L) : ∀ k ∈ p :: rowOf v, B ≤ k := by
  intro k hk
  rcases List.mem_cons.1 hk with rfl | hk
  · exact h.lowp
  · exact h.lowg k (mem_rowOf.1 hk)
theorem New.post {w w' w0 : World} {B p n : Nat} {v : Value} {L M : List Rn} {e : Ending} (h : New w B p v L) (hb : Below B w0 w) (hp : AddPost w p v L M n e w') :
    ∃ v', e = .returned (.int .u64 (n : Int)) ∧ New w' B p v' M ∧ Below B w0 w' ∧ w.heap.size ≤ w'.heap.size := by
  obtain ⟨v', he, hs, hc, hn⟩ := hp
  refine ⟨v', he, ⟨hs, h.lowp, fun g hg => ?_⟩, below_chg hb hc h.ltB h.blocks, hc.size⟩
  rcases hn with hn | hn
  · exact h.lowg g (hn ▸ hg)
  · exact Nat.le_trans h.ltB (hn g hg)
theorem New.keep {w w' : World} {B p : Nat} {v : Value} {L : List Rn} (h : New w B p v L) (hb : Below w.heap.size w w') : New w' B p v L := ⟨h.st.kept (low_chg hb), h.lowp, h.lowg⟩
theorem fit_lit (a b : Nat) (ha : a < 18446744073709551616) (hb : b < 18446744073709551616) : Fit (a, b) := ⟨ha, hb⟩

end Go.Proofs.YtmpajlpemabniaaGreat
