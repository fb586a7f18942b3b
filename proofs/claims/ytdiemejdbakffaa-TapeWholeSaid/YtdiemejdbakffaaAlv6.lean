/-
  Contract of the live question that the statements of package tape ask. No claim of their own.
-/
import Derived.Test.YtdiemejdbakffaaTpW
namespace Go.Proofs.Ytdiemejdbakffaa
open Go.RowKit Go.Maps Go.Shelf Go.Deep
set_option linter.unusedVariables false
set_option linter.unusedSimpArgs false

theorem ro_marked (w : World) (bs : List UInt8) (t : TypeId) (fr : Nat × Nat) : Ro (w.alloc (.cells (u8s bs).toArray t fr)) (w.heap.size + 1) (some ⟨w.heap.size, 0, none⟩) (u8s bs) := by
  refine .inr ⟨w.heap.size, 0, rfl, by omega, fun i hi => ?_⟩
  rw [Nat.zero_add]
  refine (cell_of_row _ w.heap.size i (u8s bs).toArray t fr (World.alloc_heap_new w _)).trans ?_
  simp [List.getD, List.getElem?_eq_getElem hi]
theorem conv4 {w : World} {g : Nat} {S : Sec} (h : w.rangeAt g 0 (u8s S)) (l : List UInt8) (c : Nat) (hl : S.take l.length = l) :
    (convert 35 9 (.slice (some ⟨g, 0, none⟩) l.length c)).run Try.prog w = .ok (.string ⟨l.toArray⟩) w :=
  run_convert_bytes_back w _ _ _ _ _ l Try.underlying35 Try.underlying5 Try.underlying9 fun j hj => by
    have h1 : S[j]? = some l[j] := by
      have h2 : (S.take l.length)[j]? = some l[j] := by rw [hl]; exact List.getElem?_eq_getElem hj
      rwa [List.getElem?_take, if_pos hj] at h2
    have := h j (.int .u8 (l[j].toNat : Nat)) (by simp [u8s, h1])
    rw [add_off]
    exact this
def hi2 : Rec := [104, 105]
theorem new_ex (w : World) (n : Nat) (h1 : 1 ≤ n) (h2 : n ≤ 1024) :
    Calls Try.prog 9 #[.int .i64 n] w fun e w' => ∃ p g b, e = .returned (.tuple #[.pointer (some ⟨p, 0, none⟩), .int .i64 0]) ∧ w.heap.size ≤ p ∧ w.heap.size ≤ g ∧ w.heap.size ≤ b ∧ Dsk w' p g b n (fun _ => zsec) (fun _ => none) ∧ Chg [] w w' :=
  (new_ok w n h1 h2).mono fun e w' ⟨he, hd, hc⟩ => ⟨_, _, _, he, by omega, by omega, by omega, hd, hc⟩
theorem alive_app : appE 5 0 0 0 [] [] hi2 = 0 ∧ appL 5 0 0 0 [] [] hi2 = [hi2] := by decide
theorem alive_not : ¬ TS.idle ⟨fun _ => zsec, fun _ => none, 0, 0, [], [hi2], 0⟩ := by decide
theorem alive_sec (F : Nat → Sec) : ((now (now F (wfM 5 0 0 [] [hi2] fun _ => none)) (upd (fun _ => none) 0 (supS 0 1 4))) 1).take 5 = [0, 2, 104, 105, 0] := by
  have h1 : (now (now F (wfM 5 0 0 [] [hi2] fun _ => none)) (upd (fun _ => none) 0 (supS 0 1 4))) 1 = fillS ((frs [hi2]).drop 0) := by
    show ((upd (fun _ => none) 0 (supS 0 1 4)) 1).getD _ = _
    rw [show (upd (fun _ => none) 0 (supS 0 1 4)) 1 = none from rfl]
    show now F (wfM 5 0 0 [] [hi2] fun _ => none) 1 = _
    rw [now_wf, if_pos (by decide), show (1 - (1 + 0 * hsec 5)) * 64 = 0 from by decide]
  rw [h1]
  decide
theorem alive_room : roomN 5 0 0 [hi2] [hi2] = 124 := by decide
set_option maxHeartbeats 2000000 in
set_option maxRecDepth 100000 in
theorem alive_any (w : World) : Calls Try.prog 8 #[] w fun e w' => e = .returned (.bool true) ∧ Chg [] w w' := by
  have H0 := Lib.hid (new_ex w 5 (by omega) (by omega))
  have kc := fun (w : World) (C : Array Value) (n c : Nat) => Lib.run_convert_bytes_const (P := Try.prog) w 35 5 C n c Try.underlying35 Try.underlying5
  go_enter Try.func8, Try.ntmps8
  go_wp2_with fail
  refine H0.out.mono ?_
  rintro e w1 ⟨p, g, b, rfl, hp, hg, hb, hd1, hc1⟩
  have H1 := Lib.hid (open_at w1 hd1 (by omega) (h := 0) (L := []) (opens_zero 5))
  clear hd1
  go_wp2_with fail
  refine H1.out.mono ?_
  rintro e w2 ⟨q, l, rfl, ht2, hl2, hc2⟩
  have hc02 : Chg [] w w2 := hc1.trans hc2
  clear H0 H1
  go_wp2_with fail
  have hc01 : w.heap.size ≤ w1.heap.size := hc1.size
  have hC3 : Chg [] w2 (w2.alloc (.cells (u8s hi2).toArray 5 (2, 3))) := (Chg.refl [] w2).alloc _
  have h3 := append_TD (ht2.out.kept hC3) (some ⟨w2.heap.size, 0, none⟩) hi2 2 _ (ro_marked w2 hi2 5 (2, 3)) (by simp) (fun _ x hx hm => by
    injection hx with hx
    subst hx
    have := ht2.out.lt _ hm
    simp at this)
  rw [show appE 5 (calm (fun _ => zsec) (fun _ => none) 0 []).k (calm (fun _ => zsec) (fun _ => none) 0 []).h (calm (fun _ => zsec) (fun _ => none) 0 []).h' (calm (fun _ => zsec) (fun _ => none) 0 []).L (calm (fun _ => zsec) (fun _ => none) 0 []).L' hi2 = 0 from alive_app.1, show appS 5 (calm (fun _ => zsec) (fun _ => none) 0 []) hi2 = ⟨fun _ => zsec, fun _ => none, 0, 0, [], [hi2], 0⟩ from by unfold appS; rw [show appL 5 (calm (fun _ => zsec) (fun _ => none) 0 []).k (calm (fun _ => zsec) (fun _ => none) 0 []).h (calm (fun _ => zsec) (fun _ => none) 0 []).h' (calm (fun _ => zsec) (fun _ => none) 0 []).L (calm (fun _ => zsec) (fun _ => none) 0 []).L' hi2 = [hi2] from alive_app.2]; rfl] at h3
  have H3 := Lib.hid h3
  have HL := Lib.hid hl2.out
  have HC3 := Lib.hid (hc02.trans hC3)
  clear h3 hC3 ht2 hl2 hc2 hc1 kc
  refine H3.out.mono ?_
  rintro e w4 ⟨rfl, ht4⟩
  obtain ⟨l4, ht4, hl4, hc4⟩ := ht4.out
  have h5 := commit_TD ht4
  rw [commit_k0 alive_not rfl] at h5
  have H5 := Lib.hid h5
  have hw12 : w.heap.size ≤ w2.heap.size := hc02.size
  have hc04 : Chg [] w w4 := HC3.out.then hc4 (fun x hx => .inr (by have := HL.out x hx; have := hc01; omega))
  have hg4 : ∀ x ∈ l4 ++ [g, b], x ∈ [] ∨ w.heap.size ≤ x := fun x hx => by
    simp only [List.mem_append, List.mem_cons, List.mem_nil_iff, or_false] at hx
    rcases hx with hx | rfl | rfl
    · rcases hl4 x hx with h | h
      · exact .inr (by have := HL.out x h; have := hc01; omega)
      · exact .inr (by have := HC3.out.size; omega)
    · exact .inr hg
    · exact .inr hb
  have HG := Lib.hid hg4
  have HC4 := Lib.hid hc04
  clear h5 hc4 ht4 H3 hg4 hc04 HC3 HL hl4 hc02
  go_wp2_with fail
  refine H5.out.mono ?_
  rintro e w5 ⟨rfl, ht5, hc5⟩
  have h6 := read_ok w5 ht5.out.dsk 1 (by omega)
  have hl6 := ht5.out.dsk.lenN 1
  have hs6 : ((now (now (now (fun _ => zsec) (wfM 5 0 0 [] [hi2] fun _ => none)) (upd (fun _ => none) 0 (supS 0 1 4))) (fun _ => none)) 1).take 5 = [0, 2, 104, 105, 0] := alive_sec (fun _ => zsec)
  have h6 : Calls Try.prog 25 #[.pointer (some ⟨p, 0, none⟩), .int .i64 1] w5 fun e w' => ∃ S, e = .returned (.tuple #[sv S, .int .i64 0]) ∧ S.length = 64 ∧ Hid (S.take 5 = [0, 2, 104, 105, 0]) ∧ Chg [] w5 w' := h6.mono fun e w' h => ⟨_, h.1, hl6, Lib.hid hs6, h.2⟩
  clear hl6 hs6
  have H6 := Lib.hid h6
  have HC5 := Lib.hid (HC4.out.then hc5 HG.out)
  clear h6 H5 HG HC4 hc5
  have HT5 := ht5
  clear ht5
  go_wp2_with fail
  refine H6.out.mono ?_
  rintro e w6 ⟨S6, rfl, hS6, hS5, hc6⟩
  have HT6 := Lib.hid (HT5.out.kept hc6)
  have HC6 := Lib.hid (HC5.out.trans hc6)
  clear HT5 HC5 hc6 H6
  go_wp2_with (first
    | (refine wpList_alloc37 rfl rfl ?_)
    | (refine wpList_laid rfl _ _ rfl S6 rfl rfl rfl hS6 ?_; intro w7 hr7 hc7)
    | fail)
  have HT7 := Lib.hid (HT6.out.kept hc7)
  have HC7 := Lib.hid (HC6.out.trans hc7)
  have HR7 := Lib.hid hr7
  clear HT6 HC6 hr7 hc7
  have H8 := Lib.hid (read_TD HT7.out 0 (by decide))
  go_wp2_with (first
    | (go_at_call 23; refine H8.out.mono ?_; rintro e w8 ⟨v8, rfl, hv8, hc8⟩)
    | fail)
  have hv9 : Lst w8 w7.heap.size 5 v8 (u8s hi2) := hv8.out
  obtain ⟨a8, c8, hv10, hro8, _, _⟩ := hv9.form
  rw [u8s_length] at hv10
  replace hv10 : v8 = .slice a8 2 c8 := hv10
  subst hv10
  have hr8 := hc8.range HR7.out (by simp)
  have hcv1 : (convert 35 9 (.slice (some ⟨w6.heap.size, 0, none⟩) 5 64)).run Try.prog w8 = .ok (.string ⟨#[0, 2, 104, 105, 0]⟩) w8 := conv4 hr8 [0, 2, 104, 105, 0] 64 hS5.out
  have hcv2 : (convert 35 9 (.slice a8 2 c8)).run Try.prog w8 = .ok (.string ⟨#[104, 105]⟩) w8 := conv_ro (bs := hi2) hro8 rfl
  have hR := room_TD (HT7.out.kept hc8)
  rw [show roomN 5 0 0 [hi2] [hi2] = 124 from alive_room] at hR
  have HR := Lib.hid hR
  have HLn := Lib.hid (fun w' (hc : Chg [] w8 w') => len_TD ((HT7.out.kept hc8).kept hc))
  have HC8 := Lib.hid (HC7.out.trans hc8)
  clear hR hv9 hv8 hr8 HR7 HT7 HC7 hS5 hS6 hc8 H8 hro8
  go_simp
  go_wp2_with (first
    | (go_at_call 20; refine HR.out.mono ?_; rintro e w9 ⟨rfl, hc9⟩; have H9 := Lib.hid (HLn.out w9 hc9))
    | (go_at_call 21; refine H9.out.mono ?_; rintro e w10 ⟨rfl, hc10⟩)
    | fail)

  go_ret
  exact ⟨rfl, (HC8.out.trans hc9).trans hc10⟩
end Go.Proofs.Ytdiemejdbakffaa
