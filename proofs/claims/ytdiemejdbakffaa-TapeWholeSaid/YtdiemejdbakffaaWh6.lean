/-
  TapeWhole's helpers: what an append, a replacement, and a list that is copied and made longer, leave. No claim of their own.
-/
import Derived.Test.YtdiemejdbakffaaRs6
namespace Go.Proofs.Ytdiemejdbakffaa
open Go.RowKit Go.Deep Go.Shelf Go.Maps
set_option linter.unusedVariables false
set_option linter.unusedSimpArgs false

theorem wh_app {n : Nat} {S : TS} (r : Rec) : (appS n S r).L = S.L ∧ ((appE n S.k S.h S.h' S.L S.L' r = 0 ∧ (appS n S r).L' = S.L' ++ [r]) ∨ (∃ E : Nat, appE n S.k S.h S.h' S.L S.L' r = E ∧ ((E : Int) == 0) = false ∧ (appS n S r).L' = S.L')) := by
  refine ⟨rfl, ?_⟩
  by_cases h : appE n S.k S.h S.h' S.L S.L' r = 0
  · exact .inl ⟨h, by show appL n S.k S.h S.h' S.L S.L' r = _; unfold appL; rw [if_pos h]⟩
  · exact .inr ⟨_, rfl, by simp; omega, by show appL n S.k S.h S.h' S.L S.L' r = _; unfold appL; rw [if_neg h]⟩
theorem wh_repl {n : Nat} {S : TS} (xs : List SB) : (replS n S xs).L = S.L ∧ ((replE n S.k xs = 0 ∧ (replS n S xs).L' = recs xs) ∨ (∃ E : Nat, replE n S.k xs = E ∧ ((E : Int) == 0) = false ∧ (replS n S xs).L' = S.L')) := by
  refine ⟨rfl, ?_⟩
  by_cases h : replE n S.k xs = 0
  · exact .inl ⟨h, by show replL n S.k S.L' xs = _; unfold replL; rw [if_pos h]⟩
  · exact .inr ⟨_, rfl, by simp; omega, by show replL n S.k S.L' xs = _; unfold replL; rw [if_neg h]⟩
theorem AppK.old {w w' : World} {e : TypeId} {v v' : Value} {xs ys : List Value} (k : AppK w w' e v v' xs ys) {B : Nat} (hb : ∀ x ∈ Proofs.Ytdiemejdbakffaa.bl v, B ≤ x) {i o : Nat} {u : Value} (hc : w.cell? ⟨i, o, none⟩ = some u) (hp : i < B) : w'.cell? ⟨i, o, none⟩ = some u :=
  k.chg.cell hc (fun hm => by have := hb _ hm; omega)
theorem bl_some (g n c : Nat) : ∀ x ∈ bl (.slice (some ⟨g, 0, none⟩) n c), x = g := fun x hx => by
  rw [mem_bl] at hx
  simp only [Value.ownBlock, Option.some.injEq] at hx
  exact hx.symm
/-- a list is copied into a new one, and one more comes behind it -/
theorem lit2 {w wa w1 wb w2 : World} {e : TypeId} {v1 v2 : Value} {xs : List Value} {u : Value} {g : Nat} (ha : Chg [] w wa) (hg : w.heap.size ≤ g) (k1 : AppK wa w1 e (.slice (some ⟨g, 0, none⟩) 0 0) v1 [] xs) (hb : Chg [] w1 wb) (k2 : AppK wb w2 e v1 v2 xs [u]) :
    Chg [] w w2 ∧ Lst w2 0 e v2 (xs ++ [u]) ∧ ∀ x ∈ bl v2, w.heap.size ≤ x := by
  have h1 : ∀ x ∈ bl v1, w.heap.size ≤ x := fun x hx => by
    rcases k1.bl x hx with h | h
    · have := bl_some g 0 0 x h; omega
    · exact Nat.le_trans ha.size h
  have c1 : Chg [] w w1 := ha.then k1.chg (fun x hx => .inr (by have := bl_some g 0 0 x hx; omega))
  refine ⟨(c1.trans hb).then k2.chg (fun x hx => .inr (h1 x hx)), k2.lst, fun x hx => ?_⟩
  rcases k2.bl x hx with h | h
  · exact h1 x h
  · exact Nat.le_trans (c1.trans hb).size h
theorem v1_bl {w wa w1 : World} {e : TypeId} {v1 : Value} {xs : List Value} {g : Nat} (ha : Chg [] w wa) (hg : w.heap.size ≤ g) (k1 : AppK wa w1 e (.slice (some ⟨g, 0, none⟩) 0 0) v1 [] xs) : ∀ x ∈ bl v1, w.heap.size ≤ x := fun x hx => by
  rcases k1.bl x hx with h | h
  · have := bl_some g 0 0 x h; omega
  · exact Nat.le_trans ha.size h
/-- what RS asks of the longer list -/
theorem RS.snoc {w w1 : World} {N : List Nat} {a : Option Addr} {ys : List SB} {x : SB} {v : Value} (h : RS w N a ys) (hN : ∀ y ∈ N, y < w.heap.size) (hc : Chg [] w w1) (hx : Ro w w.heap.size x.a (u8s x.bs)) (hxl : x.bs.length ≤ 9223372036854775807) (hxN : x.bs ≠ [] → ∀ y, x.a = some y → y.block ∉ N) (hl : Lst w1 0 35 v (ys.map SB.val ++ [x.val])) (hb : ∀ y ∈ bl v, w.heap.size ≤ y) (hlen : (ys ++ [x]).length ≤ 9223372036854775807) :
    ∃ a1 c1, v = .slice a1 (ys ++ [x]).length c1 ∧ RS w1 N a1 (ys ++ [x]) := by
  rw [show ys.map SB.val ++ [x.val] = (ys ++ [x]).map SB.val by rw [List.map_append]; rfl] at hl
  obtain ⟨a1, c1, h1, _, _⟩ := hl.form
  rw [List.length_map] at h1
  subst h1
  exact ⟨a1, c1, rfl, h.more hc ⟨⟨RoM.nil _ _, ⟨fun h => absurd rfl h, fun _ hy => by cases hy⟩⟩, hx, hxl, hxN⟩ hl (fun y hy hn => by have := hb y hy; have := hN y hn; omega) hlen⟩
theorem sb_one (zs : List SB) : ∀ u ∈ zs.map SB.val, u.oneCell' = true := fun u hu => by
  obtain ⟨x, _, rfl⟩ := List.mem_map.1 hu
  rfl
theorem cell_lt {w : World} {b o : Nat} {v : Value} (h : w.cell? ⟨b, o, none⟩ = some v) : b < w.heap.size := by
  by_cases hb : b < w.heap.size
  · exact hb
  · exfalso
    have : w.heap[b]? = none := by simp; omega
    simp [World.cell?, this] at h
/-- a tape with a disk, some steps behind what was committed -/
structure Wk (w0 w : World) (N : List Nat) (q p g b n : Nat) (S : TS) : Prop where
  tz : Tz w w N q p g b n S
  d : DInv n S
  low : ∀ x ∈ N, w0.heap.size ≤ x ∧ x < w.heap.size
  chg : Chg [] w0 w
theorem Wk.kept {w0 w w1 : World} {N : List Nat} {q p g b n : Nat} {S : TS} (h : Wk w0 w N q p g b n S) (hc : Chg [] w w1) : Wk w0 w1 N q p g b n S :=
  ⟨h.tz.fresh hc (by simp), h.d, fun x hx => ⟨(h.low x hx).1, Nat.lt_of_lt_of_le (h.low x hx).2 hc.size⟩, h.chg.trans hc⟩
theorem Wk.step {w0 w w1 : World} {N : List Nat} {q p g b n : Nat} {S : TS} (h : Wk w0 w N q p g b n S) (t : Tz w w1 N q p g b n (stepS n S)) : ∃ N', Wk w0 w1 N' q p g b n (stepS n S) ∧ (∀ x ∈ N', x ∈ N ∨ w.heap.size ≤ x) ∧ Chg N w w1 := by
  obtain ⟨N', h1, h2⟩ := t.next
  refine ⟨N', ⟨h1, step_inv h.tz.inv h.d, fun x hx => ⟨?_, (h2 x hx).2⟩, h.chg.then t.chg (fun x hx => .inr (h.low x hx).1)⟩, fun x hx => (h2 x hx).1, t.chg⟩
  rcases (h2 x hx).1 with h3 | h3
  · exact (h.low x h3).1
  · exact Nat.le_trans h.chg.size h3
/-- a disk without anything that waits is opened -/
theorem open_new (w : World) {p g b n : Nat} {F : Nat → Sec} {h : Nat} {L : List Rec} (hd : Dsk w p g b n F (fun _ => none)) (hn : 3 ≤ n) (o : Opens n F h L) :
    Calls Try.prog 10 #[.pointer (some ⟨p, 0, none⟩)] w fun e w' => ∃ q N, e = .returned (.tuple #[.pointer (some ⟨q, 0, none⟩), .int .i64 0]) ∧ Hid (Tz w' w' N q p g b n (calm F (fun _ => none) h L)) ∧ Chg [] w w' := by
  refine (open_at w hd hn (h := h) (L := L) o).mono fun e w' h => ?_
  obtain ⟨q, l, he, ht, _, hc⟩ := h
  exact ⟨q, l ++ [g, b], he, Lib.hid ⟨l, ht.out, fun x hx => .inl hx, Chg.refl _ _⟩, hc⟩
theorem records_len {w : World} {base : Nat} {v : Value} {xs : List SB} {L : List Rec} (h : RL w base v xs ∧ recs xs = L) (hf : L.length ≤ 1000000) : xs.length ≤ 1000000 := by
  rw [← recs_len, h.2]; exact hf
theorem records_rom {w : World} {base : Nat} {a : Option Addr} {n c : Nat} {xs : List SB} {L : List Rec} (h : RL w base (.slice a n c) xs ∧ recs xs = L) (hf : L.length ≤ 1000000) (ho : okL L) : RoM w a xs :=
  h.1.rom (by have := records_len h hf; omega) (fun x hx => by
    have := ho x.bs (by rw [← h.2]; exact List.mem_map.2 ⟨x, hx, rfl⟩)
    have := this.2
    omega)
end Go.Proofs.Ytdiemejdbakffaa
