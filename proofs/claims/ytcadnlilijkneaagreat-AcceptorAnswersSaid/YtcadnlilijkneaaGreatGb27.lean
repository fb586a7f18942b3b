/-
  Contracts of package tape's writeFrames, writeSuper, settle, steps. No claim of their own.
-/
import Derived.Test.YtcadnlilijkneaaGreatGb26
namespace Go.Proofs.YtcadnlilijkneaaGreat
open Go.RowKit Go.Shelf Go.Deep Go.Maps
set_option linter.unusedVariables false
set_option linter.unusedSimpArgs false
attribute [local go_sem] Oper.semAt_some

theorem sectorsW_chg (w : World) (f fr to_ : Nat) : Chg [] w (sectorsW w f fr to_) := (((Chg.refl [] w).alloc _).alloc _).alloc _
theorem sectorsW_size (w : World) (f fr to_ : Nat) : (sectorsW w f fr to_).heap.size = w.heap.size + 3 := by simp [sectorsW]
theorem sectorsW_own (w : World) (f fr to_ : Nat) : Own (sectorsW w f fr to_) w.heap.size 3 [.int .i64 (fr : Int)] ∧ Own (sectorsW w f fr to_) (w.heap.size + 1) 3 [.int .i64 (to_ : Int)] ∧ Own (sectorsW w f fr to_) (w.heap.size + 2) 3 [.int .i64 (f : Int)] := by
  refine ⟨((Own.new w 3 [.int .i64 (fr : Int)]).alloc _).alloc _, ?_, ?_⟩
  · have := (Own.new (w.alloc (.cells #[.int .i64 (fr : Int)] 3)) 3 [.int .i64 (to_ : Int)]).alloc (.cells #[.int .i64 (f : Int)] 3)
    rwa [World.size_alloc] at this
  · have := Own.new ((w.alloc (.cells #[.int .i64 (fr : Int)] 3)).alloc (.cells #[.int .i64 (to_ : Int)] 3)) 3 [.int .i64 (f : Int)]
    rwa [World.size_alloc, World.size_alloc] at this
def wrP (m : Nat → Option Sec) (f : Nat) (B : List UInt8) (ks : List Nat) : Nat → Option Sec := ks.foldl (fun m k => upd m (f + k) (fillS (B.drop (k * 64)))) m
theorem wrP_snoc (m : Nat → Option Sec) (f : Nat) (B : List UInt8) (ks : List Nat) (k : Nat) : wrP m f B (ks ++ [k]) = upd (wrP m f B ks) (f + k) (fillS (B.drop (k * 64))) := by simp [wrP]
theorem wrP_range (m : Nat → Option Sec) (f : Nat) (B : List UInt8) (i : Nat) : ∀ n, wrP m f B (List.range' i n) = wrM m f B i (i + n)
  | 0 => by rw [Nat.add_zero, wrM_none]; rfl
  | n + 1 => by rw [range_snoc, wrP_snoc, wrP_range m f B i n, wrM_succ m f B i (i + n) (by omega)]; rfl
theorem dsk_row {X Y : World} {p g b n top : Nat} {F : Nat → Sec} {m : Nat → Option Sec} {row : Option Nat} (h : Dsk X p g b n F m) (hg : X.grownBy Y row) (hr : ∀ r, row = some r → top ≤ r) (h1 : p < top) (h2 : g < top) (h3 : b < top) : Dsk Y p g b n F m := by
  have hc : Chg row.toList X Y := ⟨hg.os, hg.tape, hg.output, hg.size, fun k hk hn => hg.block k hk (fun e => hn (by rw [← e]; simp))⟩
  have hl : ∀ x ∈ row.toList, top ≤ x := fun x hx => hr x (by simpa using hx)
  exact h.keep hc (fun hx => by have := hl _ hx; omega) (fun hx => by have := hl _ hx; omega) (fun hx => by have := hl _ hx; omega)
theorem keepsFrom_low {B : Nat} {l : List Nat} {W W' : World} (h : Chg l W W') (hl : ∀ k ∈ l, k < B) : KeepsFrom B W W' :=
  ⟨h.size, fun k o hk h0 _ => (h.block k (Array.getElem?_eq_some_iff.1 h0).1 (fun hm => by have := hl k hm; omega)).trans h0⟩
structure WrAt (w W : World) (b0 b1 top q p g b n : Nat) (F : Nat → Sec) (m : Nat → Option Sec) (f : Nat) (B : List UInt8) (ks : List Nat) : Prop where
  o0 : Own W b0 149 [.pointer (some ⟨q, 0, none⟩)]
  o1 : Own W b1 31 [.int .i64 0]
  dsk : Dsk W p g b n F (wrP m f B ks)
  chg : Chg [b] w W
  size : top ≤ W.heap.size
theorem WrAt.kept {w X Y : World} {b0 b1 top q p g b n : Nat} {F : Nat → Sec} {m : Nat → Option Sec} {f : Nat} {B : List UInt8} {ks : List Nat} {row : Option Nat} (h : WrAt w X b0 b1 top q p g b n F m f B ks) (ht : w.heap.size ≤ top) (h1 : p < top) (h2 : g < top) (h3 : b < top) (hg : X.grownBy Y row) (hr : ∀ r, row = some r → top ≤ r ∧ ∃ o : Obj, X.heap[r]? = some o ∧ o.isCells = false) : WrAt w Y b0 b1 top q p g b n F m f B ks := by
  have hr2 := fun r e => (hr r e).2
  exact ⟨own_kept h.o0 hg hr2, own_kept h.o1 hg hr2, dsk_row h.dsk hg (fun r e => (hr r e).1) h1 h2 h3, h.chg.grown hg (fun k e => .inr (Nat.le_trans ht (hr k e).1)), Nat.le_trans h.size hg.size⟩
section
variable {w : World} {l : List Nat} {q p n h h' : Nat} {L L' : List Rec} {k : Nat} {vF vE vF' vE' : Value}
def fromN (h h' : Nat) (L : List Rec) : Nat := if h = h' then (frs L).length else 0
def wfM (n h h' : Nat) (L L' : List Rec) (m : Nat → Option Sec) : Nat → Option Sec := wrP m (1 + h' * hsec n) (frs L') (List.range' (fromN h h' L / 64) (secN (fromN h h' L) (frs L').length))
set_option maxHeartbeats 4000000 in
set_option maxRecDepth 100000 in
theorem writeFrames_any {g b : Nat} {F : Nat → Sec} {m : Nat → Option Sec} (t : TpV w l q p n h h' L L' k vF vE vF' vE') (hd : Dsk w p g b n F m) (hbl : b ∉ l) :
    Calls Tryz.prog 243 #[.pointer (some ⟨q, 0, none⟩)] w fun e w' => e = .returned (.int .i64 0) ∧ Hid (Dsk w' p g b n F (wfM n h h' L L' m)) ∧ Chg [b] w w' := by
  have hn := hd.top
  have hs : hsec n ≤ 512 := by unfold hsec; omega
  have hle := t.len_le hn
  have hroom := t.room'
  have hh' := t.half'
  have HT := Lib.hid t
  have HD := Lib.hid hd
  have HB := Lib.hid hbl
  obtain ⟨aF, cF, rfl⟩ := t.fr.sl8
  obtain ⟨aF', cF', rfl⟩ := t.fr'.sl8
  obtain ⟨N0, HN0⟩ : ∃ N, Hid ((frs L).length = N) := ⟨_, Lib.hid rfl⟩
  obtain ⟨N, HN⟩ : ∃ N, Hid ((frs L').length = N) := ⟨_, Lib.hid rfl⟩
  rw [HN0.out, HN.out] at HT hle
  rw [HN.out] at hroom
  obtain ⟨W2, HW2⟩ : ∃ W2, Hid ((w.alloc (.cells #[.pointer (some ⟨q, 0, none⟩)] 149)).alloc (.cells #[.int .i64 0] 31) = W2) := ⟨_, Lib.hid rfl⟩
  have hC2 : Chg [] w W2 := by rw [← HW2.out]; exact ((Chg.refl [] w).alloc _).alloc _
  have hs2 : W2.heap.size = w.heap.size + 2 := by rw [← HW2.out]; simp
  have ho0 : Own W2 w.heap.size 149 [.pointer (some ⟨q, 0, none⟩)] := by rw [← HW2.out]; exact (Own.new w 149 [.pointer (some ⟨q, 0, none⟩)]).alloc _
  have ho1 : Own W2 (w.heap.size + 1) 31 [.int .i64 0] := by rw [← HW2.out]; have := Own.new (w.alloc (.cells #[.pointer (some ⟨q, 0, none⟩)] 149)) 31 [.int .i64 0]; rwa [World.size_alloc] at this
  have t2 := HT.out.kept hC2
  have HR := Lib.hid (replacing_any t2)
  have cqw := t.own.cell 2
  have hql := t.own.lt
  simp at cqw
  rw [HN0.out] at cqw
  have hoq := t2.own
  have c0 := ho0.cell 0
  have cq := hoq.cell 2
  simp at c0 cq
  have H0 := Lib.hid (And.intro ho0 (And.intro ho1 (And.intro hoq hC2)))
  have HS2 := Lib.hid hs2
  have hltb := Lib.hid (And.intro hd.ltp (And.intro hd.ltg hd.ltb))
  clear t hd hbl hC2 hs2 ho0 ho1 t2 hoq
  refine (callsIn_wide (n := 5)).1 ?_
  refine callsIn_of_wp_marks Tryz.func243 rfl trivial ?_ rfl
  simp only [Tryz.ntmps243, List.size_toArray, List.length_cons, List.length_nil, Nat.reduceAdd, Nat.reduceSub, Array.replicate_succ, Array.replicate_zero, List.push_toArray, List.append_toArray, List.nil_append, List.cons_append]
  gi_wp2_with fail
  simp only [HW2.out]
  gi_wp2_with fail
  refine ⟨trivial, ?_⟩
  refine (callsIn_wide.2 HR.out).mono ?_
  rintro e w1 ⟨rfl, hq1⟩
  have HQ1 := Lib.hid hq1
  have c0 := (H0.out.1.qt hq1).cell 0
  simp at c0
  clear cq cqw hql hq1
  by_cases hk : h = h'
  case' pos =>
    rw [decide_eq_false (show ¬ h ≠ h' from fun x => x hk)]
    have HFR := Lib.hid (show fromN h h' L = N0 by unfold fromN; rw [if_pos hk, HN0.out])
    have hN0 : N0 ≤ 1000000 := by omega
    clear hk
    gi_wp2_with fail
    refine wpIn_wide.2 ?_
    refine wp_noPanic ?_
    have hoq1 := H0.out.2.2.1.qt HQ1.out
    have hC1 := H0.out.2.2.2.qt HQ1.out
    have hHC : w1.cell? ⟨w.heap.size, 0, none⟩ = some (.pointer (some ⟨q, 0, none⟩)) ∧ w1.cell? ⟨q, 4, none⟩ = some (.int .i64 (h' : Int)) ∧ w1.cell? ⟨q, 5, none⟩ = some (.slice aF' N cF') := ⟨c0, by rw [hoq1.cell]; rfl, by rw [hoq1.cell]; rfl⟩
    have HSE := Lib.hid (sectors_any w1.drew (show w1.drew.cell? ⟨q, 0, none⟩ = some (.pointer (some ⟨p, 0, none⟩)) from by show w1.cell? _ = _; rw [hoq1.cell]; rfl) ((HD.out.kept hC1).kept ((Chg.refl [] w1).drew)) h' N0 N hh' (by omega) (by omega))
    have HHC := Lib.hid hHC
    clear hHC c0 hoq1 hC1
    refine wp_region_held_drew (S := (fun w' => w'.cell? ⟨w.heap.size, 0, none⟩ = some (.pointer (some ⟨q, 0, none⟩)) ∧ w'.cell? ⟨q, 4, none⟩ = some (.int .i64 (h' : Int)) ∧ w'.cell? ⟨q, 5, none⟩ = some (.slice aF' N cF'))) (by kernel_rfl) HHC.out (fun hHeld => ?_)
    refine wpAnyH_take (i := 0) (v := ?_) rfl (by kernel_rfl) (by kernel_rfl) (by kernel_rfl) (fun _ _ _ h => h) (Or.inl ⟨by kernel_rfl, ?_⟩) hHeld ?_
    rotate_left
    · (intro w hSw; first | (go_simp; done) | (go_simp; with_reducible rfl))
    (try simp only [Act.put, List.getElem_toArray, List.getElem_cons_succ, List.getElem_cons_zero, List.setIfInBounds_toArray, List.set_cons_zero, List.set_cons_succ])
    refine wpAnyH_take (i := 1) (v := ?_) rfl (by kernel_rfl) (by kernel_rfl) (by kernel_rfl) (fun _ _ _ h => h) (Or.inl ⟨by kernel_rfl, ?_⟩) hHeld ?_
    rotate_left
    · (intro w hSw; first | (go_simp; done) | (go_simp; with_reducible rfl))
    (try simp only [Act.put, List.getElem_toArray, List.getElem_cons_succ, List.getElem_cons_zero, List.setIfInBounds_toArray, List.set_cons_zero, List.set_cons_succ])
    refine wpAnyH_take (i := 2) (v := ?_) rfl (by kernel_rfl) (by kernel_rfl) (by kernel_rfl) (fun _ _ _ h => h) (Or.inl ⟨by kernel_rfl, ?_⟩) hHeld ?_
    rotate_left
    · (intro w hSw; first | (go_simp; done) | (go_simp; with_reducible rfl))
    (try simp only [Act.put, List.getElem_toArray, List.getElem_cons_succ, List.getElem_cons_zero, List.setIfInBounds_toArray, List.set_cons_zero, List.set_cons_succ])
    refine wpAnyH_take (i := 3) (v := ?_) rfl (by kernel_rfl) (by kernel_rfl) (by kernel_rfl) (fun _ _ _ h => h) (Or.inl ⟨by kernel_rfl, ?_⟩) hHeld ?_
    rotate_left
    · (intro w hSw; first | (go_simp; done) | (go_simp; with_reducible rfl))
    (try simp only [Act.put, List.getElem_toArray, List.getElem_cons_succ, List.getElem_cons_zero, List.setIfInBounds_toArray, List.set_cons_zero, List.set_cons_succ])
    refine wpAnyH_take (i := 4) (v := ?_) rfl (by kernel_rfl) (by kernel_rfl) (by kernel_rfl) (fun _ _ _ h => h) (Or.inl ⟨by kernel_rfl, ?_⟩) hHeld ?_
    rotate_left
    · (intro w hSw; first | (go_simp; done) | (go_simp; with_reducible rfl))
    (try simp only [Act.put, List.getElem_toArray, List.getElem_cons_succ, List.getElem_cons_zero, List.setIfInBounds_toArray, List.set_cons_zero, List.set_cons_succ])
    refine wpAnyH_take (i := 5) (v := ?_) rfl (by kernel_rfl) (by kernel_rfl) (by kernel_rfl) (fun _ _ _ h => h) (Or.inl ⟨by kernel_rfl, ?_⟩) hHeld ?_
    rotate_left
    · (intro w hSw; first | (go_simp; done) | (go_simp; with_reducible rfl))
    (try simp only [Act.put, List.getElem_toArray, List.getElem_cons_succ, List.getElem_cons_zero, List.setIfInBounds_toArray, List.set_cons_zero, List.set_cons_succ])
    refine wpAnyH_take (i := 6) (v := ?_) rfl (by kernel_rfl) (by kernel_rfl) (by kernel_rfl) (fun _ _ _ h => h) (Or.inl ⟨by kernel_rfl, ?_⟩) hHeld ?_
    rotate_left
    · (intro w hSw; first | (go_simp; done) | (go_simp; with_reducible rfl))
    (try simp only [Act.put, List.getElem_toArray, List.getElem_cons_succ, List.getElem_cons_zero, List.setIfInBounds_toArray, List.set_cons_zero, List.set_cons_succ])
    refine wpAnyH_take (i := 7) (v := ?_) rfl (by kernel_rfl) (by kernel_rfl) (by kernel_rfl) (fun _ _ _ h => h) (Or.inl ⟨by kernel_rfl, ?_⟩) hHeld ?_
    rotate_left
    · (intro w hSw; first | (go_simp; done) | (go_simp; with_reducible rfl))
    (try simp only [Act.put, List.getElem_toArray, List.getElem_cons_succ, List.getElem_cons_zero, List.setIfInBounds_toArray, List.set_cons_zero, List.set_cons_succ])
    refine wpAnyH_take (i := 8) (v := ?_) rfl (by kernel_rfl) (by kernel_rfl) (by kernel_rfl) (fun _ _ _ h => h) (Or.inl ⟨by kernel_rfl, ?_⟩) hHeld ?_
    rotate_left
    · (intro w hSw; first | (go_simp; done) | (go_simp; with_reducible rfl))
    (try simp only [Act.put, List.getElem_toArray, List.getElem_cons_succ, List.getElem_cons_zero, List.setIfInBounds_toArray, List.set_cons_zero, List.set_cons_succ])
    refine wpAnyH_take (i := 9) (v := ?_) rfl (by kernel_rfl) (by kernel_rfl) (by kernel_rfl) (fun _ _ _ h => h) (Or.inl ⟨by kernel_rfl, ?_⟩) hHeld ?_
    rotate_left
    · (intro w hSw; first | (go_simp; done) | (go_simp; with_reducible rfl))
    (try simp only [Act.put, List.getElem_toArray, List.getElem_cons_succ, List.getElem_cons_zero, List.setIfInBounds_toArray, List.set_cons_zero, List.set_cons_succ])
    refine wpAnyH_take (i := 10) (v := ?_) rfl (by kernel_rfl) (by kernel_rfl) (by kernel_rfl) (fun _ _ _ h => h) (Or.inl ⟨by kernel_rfl, ?_⟩) hHeld ?_
    rotate_left
    · (intro w hSw; first | (go_simp; done) | (go_simp; with_reducible rfl))
    (try simp only [Act.put, List.getElem_toArray, List.getElem_cons_succ, List.getElem_cons_zero, List.setIfInBounds_toArray, List.set_cons_zero, List.set_cons_succ])
    refine wpAnyH_take (i := 11) (v := ?_) rfl (by kernel_rfl) (by kernel_rfl) (by kernel_rfl) (fun _ _ _ h => h) (Or.inl ⟨by kernel_rfl, ?_⟩) hHeld ?_
    rotate_left
    · (intro w hSw; first | (go_simp; done) | (go_simp; with_reducible rfl))
    (try simp only [Act.put, List.getElem_toArray, List.getElem_cons_succ, List.getElem_cons_zero, List.setIfInBounds_toArray, List.set_cons_zero, List.set_cons_succ])
    refine wpAnyH_take (i := 12) (v := ?_) rfl (by kernel_rfl) (by kernel_rfl) (by kernel_rfl) (fun _ _ _ h => h) (Or.inl ⟨by kernel_rfl, ?_⟩) hHeld ?_
    rotate_left
    · (intro w hSw; first | (go_simp; done) | (go_simp; with_reducible rfl))
    (try simp only [Act.put, List.getElem_toArray, List.getElem_cons_succ, List.getElem_cons_zero, List.setIfInBounds_toArray, List.set_cons_zero, List.set_cons_succ])
    refine wpAnyH_ready (rs := [13]) (by kernel_rfl) (by simp) (AllReadyH.cons rfl (fun K hK => ?_) AllReadyH.nil)
    have hH := hHeld
    (go_simp; go_at_call 179; refine HSE.out.mono ?_; rintro e w5 ⟨rfl, hw5⟩; have HW5 := Lib.hid hw5; clear hw5; simp only [sectorsV])
    refine hK.out _ _ (by have hc := sectorsW_chg w1.drew (1 + h' * hsec n) N0 N; rw [← HW5.out] at hc; exact ⟨hc.cell hH.1 (by simp), hc.cell hH.2.1 (by simp), hc.cell hH.2.2 (by simp)⟩) (fun hHq1 => ?_)
    clear hK K hH 
    (try simp only [Act.put, List.getElem_toArray, List.getElem_cons_succ, List.getElem_cons_zero, List.setIfInBounds_toArray, List.set_cons_zero, List.set_cons_succ])
    refine wpAnyH_done (by kernel_rfl) ?_ _
    have hEnd := hHq1
    dsimp only [NoPanic]
    obtain ⟨f, HF⟩ : ∃ f, Hid (1 + h' * hsec n = f) := ⟨_, Lib.hid rfl⟩
    have hf2 : f ≤ 2000 := by
      rw [← HF.out]
      have : h' * hsec n ≤ 1 * 512 := Nat.mul_le_mul hh' hs
      omega
    rw [HF.out] at HW5
    have hc5 := sectorsW_chg w1.drew f N0 N
    have hs5 := sectorsW_size w1.drew f N0 N
    have hb5 := sectorsW_own w1.drew f N0 N
    rw [← HW5.out] at hc5 hs5 hb5
    rw [show w1.drew.heap.size = w1.heap.size from rfl] at hs5 hb5
    have hsz1 : w1.heap.size = w.heap.size + 2 := by rw [Qt.size HQ1.out]; exact HS2.out
    have hseq := sect_stops 4 w1.heap.size (w1.heap.size + 1) (w1.heap.size + 2) f N0 N w5 hb5.1 hb5.2.1 hb5.2.2 (by omega) (by omega) (by omega) (Same [w1.heap.size, w1.heap.size + 1, w1.heap.size + 2]) (fun _ _ h => h)
    have hC05 := (H0.out.2.2.2.qt HQ1.out).drew.trans hc5
    have hC15 := ((Chg.refl [] w1).drew).trans hc5
    have hlt3 := hltb.out
    have hW0 : WrAt w w5 w.heap.size (w.heap.size + 1) w5.heap.size q p g b n F m f (frs L') [] :=
      ⟨(H0.out.1.qt HQ1.out).chg hC15 (by simp), (H0.out.2.1.qt HQ1.out).chg hC15 (by simp), HD.out.kept hC05, hC05.mono (by simp), Nat.le_refl _⟩
    have hFB : ∀ x ∈ [w1.heap.size, w1.heap.size + 1, w1.heap.size + 2], x < w5.heap.size ∧ w.heap.size + 2 ≤ x := by
      intro x hx
      simp only [List.mem_cons, List.not_mem_nil, or_false] at hx
      omega
    have HSEQ := Lib.hid hseq
    have HFB := Lib.hid hFB
    have HW0 := Lib.hid hW0
    have HS5 := Lib.hid (And.intro hs5 hsz1)
    clear hseq hFB hW0 hs5 hsz1 hb5 hc5 hC05 hC15 hlt3 hEnd hHeld hHq1
    gi_wp2_with fail
    refine wpIn_rangeFunc_ownH rfl (by omega) (gf := 229) (lb := #[.pointer (some ⟨w1.heap.size, 0, none⟩), .pointer (some ⟨w1.heap.size + 1, 0, none⟩), .pointer (some ⟨w1.heap.size + 2, 0, none⟩)]) rfl trivial (enters_of Tryz.func229 (by kernel_rfl) rfl) HSEQ.out
      (fun h k => h.trans k) (same_put (fun x hx => (HFB.out x hx).1)) (Below.refl _ _) (fun _ => rfl)
      (fun xs W => WrAt w W w.heap.size (w.heap.size + 1) w5.heap.size q p g b n F m f (frs L') (valS xs)) (fun _ _ _ => False) ?hIA ?hIxA ?h0A
      (fun x a' W => a' = { tmps := #[.pointer (some ⟨q, 0, none⟩), .pointer (some ⟨w.heap.size, 0, none⟩), .pointer (some ⟨w.heap.size + 1, 0, none⟩), .int .i64 (N0 : Int), .int .i64 ((f : Int) + (x.1 : Int)), .int .i64 ((x.1 : Int) * 64), undef, .pointer (some ⟨q, 0, none⟩), .pointer (some ⟨q, 0, none⟩), .pointer (some ⟨q, 1, none⟩), .pointer (some ⟨q, 2, none⟩), .slice aF N0 cF, .int .i64 (N0 : Int), .pointer (some ⟨q, 0, none⟩), .bool false, .pointer (some ⟨q, 0, none⟩), .pointer (some ⟨q, 0, none⟩), .pointer (some ⟨q, 0, none⟩), .pointer (some ⟨q, 4, none⟩), .pointer (some ⟨q, 4, none⟩), .int .i64 (h' : Int), .int .i64 (N0 : Int), .pointer (some ⟨q, 0, none⟩), .pointer (some ⟨q, 0, none⟩), .pointer (some ⟨q, 4, none⟩), .pointer (some ⟨q, 5, none⟩), .slice aF' N cF', .int .i64 (N : Int), .func (.func 229) #[] #[.pointer (some ⟨w1.heap.size, 0, none⟩), .pointer (some ⟨w1.heap.size + 1, 0, none⟩), .pointer (some ⟨w1.heap.size + 2, 0, none⟩)], .int .i64 ((f : Int) + (x.1 : Int)), .int .i64 ((x.1 : Int) * 64), undef, undef, undef, undef, undef, undef, undef, undef, undef, undef, undef, undef, undef, undef, undef, undef, undef], defers := [] }) ?hAxA ?assignA ?bodyA ?doneA ?stopA
    case' hIA =>
      rintro xs X Y row h1 hg hr
      have h3 := hltb.out
      have h4 := HS5.out
      exact h1.kept (by omega) (by omega) (by omega) (by omega) hg hr
    case' hIxA => exact fun _ _ _ _ _ h _ _ => h.elim
    case' h0A => exact HW0.out
    case' hAxA => exact fun x a' => ownFrom_pure _ _
    case' assignA =>
      rintro l2 pre x W K h1 hK
      unfold encS
      have HK := Lib.hid hK
      clear hK
      gi_wp2_with fail
      exact HK.out _ _ (keepsFrom_below (Below.refl _ _)) (Same.refl _ _) h1 rfl
    case' bodyA =>
      rintro l2 pre x a' W hl hlr h1 rfl hlt
      have hx := x.2
      unfold ceilS at hx
      have hx64 : x.1 * 64 < N := by omega
      obtain ⟨gF, hgF0, hgF1, hgF2, hgF3, hgF4, hgF5⟩ := HT.out.fr'.rowU8 (by rw [HN.out]; omega)
      subst hgF0
      have hbF : gF ≠ b := fun e => HB.out (by rw [← e]; exact HT.out.memv gF (.inr (.inr (.inl (mem_bl.2 rfl)))))
      have hbq : q ≠ b := fun e => HB.out (by rw [← e]; exact HT.out.memq)
      have hbB : w.heap.size ≠ b := by have := hltb.out; omega
      have hxn : f + x.1 < n := by
        rw [← HF.out]
        have h6 : x.1 < hsec n := by omega
        have h7 : h' * hsec n ≤ 1 * hsec n := Nat.mul_le_mul hh' (Nat.le_refl _)
        have h8 := HD.out.one
        unfold hsec at *
        omega
      obtain ⟨bs, HBS⟩ : ∃ bs, Hid ((frs L').drop (x.1 * 64) = bs) := ⟨_, Lib.hid rfl⟩
      have hbl : bs.length = N - x.1 * 64 := by rw [← HBS.out, List.length_drop, HN.out]
      have hro : ∀ W6, Chg [] W W6 → Ro W6 W6.heap.size (some ⟨gF, x.1 * 64, none⟩) (u8s bs) := fun W6 hc6 => by
        have hcw : Chg [b] w W6 := h1.chg.trans (hc6.mono (by simp))
        refine .inr ⟨gF, x.1 * 64, rfl, Nat.lt_of_lt_of_le hgF4 hcw.size, fun i hi => ?_⟩
        rw [u8s_length, hbl] at hi
        rw [hcw.cell (hgF5 (x.1 * 64 + i) (by rw [HN.out]; omega)) (by simpa using hbF), u8s_getD bs i (by rw [hbl]; omega), ← HBS.out]
        simp [List.getD]
      have hFi : ∀ W6, Chg [] W W6 → Calls Tryz.prog 228 #[.slice (some ⟨gF, x.1 * 64, none⟩) (N - x.1 * 64) (cF' - x.1 * 64)] W6 fun e w' => e = .returned (sv (fillS bs)) ∧ Chg [] W6 w' := fun W6 hc6 => by
        have h6 := fill_any W6 (some ⟨gF, x.1 * 64, none⟩) bs (cF' - x.1 * 64) W6.heap.size (hro W6 hc6) (Nat.le_refl _)
        rwa [hbl] at h6
      have hWr : ∀ W6, Chg [] W W6 → Calls Tryz.prog 275 #[.pointer (some ⟨p, 0, none⟩), .int .i64 ((f : Int) + (x.1 : Int)), sv (fillS bs)] W6 fun e w' => e = .returned (.int .i64 0) ∧ Hid (Dsk w' p g b n F (upd (wrP m f (frs L') (valS pre)) (f + x.1) (fillS bs))) ∧ Chg [b] W6 w' := fun W6 hc6 => by
        have h6 := write_ok W6 (h1.dsk.kept hc6) (f + x.1) hxn (fillS bs) (fillS_len _)
        rw [show ((f + x.1 : Nat) : Int) = (f : Int) + (x.1 : Int) by omega] at h6
        exact h6.mono fun e w' h => ⟨h.1, Lib.hid h.2.1, h.2.2⟩
      obtain ⟨T, HTT⟩ : ∃ T, Hid (fillS bs = T) := ⟨_, Lib.hid rfl⟩
      rw [HTT.out] at hFi hWr
      have HFI := Lib.hid hFi
      have HWR := Lib.hid hWr
      have HPO := Lib.hid (show wrP m f (frs L') (valS (pre ++ [x])) = upd (wrP m f (frs L') (valS pre)) (f + x.1) T by rw [valS_snoc, wrP_snoc, HBS.out, HTT.out])
      have HH1 := Lib.hid h1
      have hoq := HT.out.own.chg h1.chg (by simpa using hbq)
      have hHC : W.cell? ⟨w.heap.size, 0, none⟩ = some (.pointer (some ⟨q, 0, none⟩)) ∧ W.cell? ⟨q, 0, none⟩ = some (.pointer (some ⟨p, 0, none⟩)) ∧ W.cell? ⟨q, 5, none⟩ = some (.slice (some ⟨gF, 0, none⟩) N cF') := ⟨by rw [h1.o0.cell]; rfl, by rw [hoq.cell]; rfl, by rw [hoq.cell]; rfl⟩
      have HHC2 := Lib.hid hHC
      have hxN : (x.1 : Int) * 64 ≤ (N : Int) := by omega
      have hxc : (x.1 : Int) * 64 ≤ (cF' : Int) := by rw [HN.out] at hgF2; omega
      have hx0 : (0 : Int) ≤ (x.1 : Int) * 64 := by omega
      have hcx : (cF' = x.1 * 64) = False := by rw [HN.out] at hgF2; simp; omega
      have htn : ((x.1 : Int) * 64).toNat = x.1 * 64 := by omega
      have hmx : Tryz.prog.follows .mixedOrders = true := by kernel_rfl
      clear hx hbl hro hFi hWr h1 hoq hHC hgF1 hgF5
      gi_wp2_with fail
      refine round_region (l := l2) (fun w' => w'.cell? ⟨w.heap.size, 0, none⟩ = some (.pointer (some ⟨q, 0, none⟩)) ∧ w'.cell? ⟨q, 0, none⟩ = some (.pointer (some ⟨p, 0, none⟩)) ∧ w'.cell? ⟨q, 5, none⟩ = some (.slice (some ⟨gF, 0, none⟩) N cF')) hmx ?_ (by kernel_rfl) ?_
      · rintro ⟨_, _, hh⟩; exact hh
      have hHeld : W.drew.cell? ⟨w.heap.size, 0, none⟩ = some (.pointer (some ⟨q, 0, none⟩)) ∧ W.drew.cell? ⟨q, 0, none⟩ = some (.pointer (some ⟨p, 0, none⟩)) ∧ W.drew.cell? ⟨q, 5, none⟩ = some (.slice (some ⟨gF, 0, none⟩) N cF') := HHC2.out
      refine wpAnyH_take (i := 0) (v := ?_) rfl (by kernel_rfl) (by kernel_rfl) (by kernel_rfl) (fun _ _ _ h => h) (Or.inl ⟨by kernel_rfl, ?_⟩) hHeld ?_
      rotate_left
      · (intro w hSw; first | (go_simp; done) | (go_simp; with_reducible rfl))
      (try simp only [Act.put, List.getElem_toArray, List.getElem_cons_succ, List.getElem_cons_zero, List.setIfInBounds_toArray, List.set_cons_zero, List.set_cons_succ])
      refine wpAnyH_take (i := 1) (v := ?_) rfl (by kernel_rfl) (by kernel_rfl) (by kernel_rfl) (fun _ _ _ h => h) (Or.inl ⟨by kernel_rfl, ?_⟩) hHeld ?_
      rotate_left
      · (intro w hSw; first | (go_simp; done) | (go_simp; with_reducible rfl))
      (try simp only [Act.put, List.getElem_toArray, List.getElem_cons_succ, List.getElem_cons_zero, List.setIfInBounds_toArray, List.set_cons_zero, List.set_cons_succ])
      refine wpAnyH_take (i := 2) (v := ?_) rfl (by kernel_rfl) (by kernel_rfl) (by kernel_rfl) (fun _ _ _ h => h) (Or.inl ⟨by kernel_rfl, ?_⟩) hHeld ?_
      rotate_left
      · (intro w hSw; first | (go_simp; done) | (go_simp; with_reducible rfl))
      (try simp only [Act.put, List.getElem_toArray, List.getElem_cons_succ, List.getElem_cons_zero, List.setIfInBounds_toArray, List.set_cons_zero, List.set_cons_succ])
      refine wpAnyH_take (i := 3) (v := ?_) rfl (by kernel_rfl) (by kernel_rfl) (by kernel_rfl) (fun _ _ _ h => h) (Or.inl ⟨by kernel_rfl, ?_⟩) hHeld ?_
      rotate_left
      · (intro w hSw; first | (go_simp; done) | (go_simp; with_reducible rfl))
      (try simp only [Act.put, List.getElem_toArray, List.getElem_cons_succ, List.getElem_cons_zero, List.setIfInBounds_toArray, List.set_cons_zero, List.set_cons_succ])
      refine wpAnyH_take (i := 4) (v := ?_) rfl (by kernel_rfl) (by kernel_rfl) (by kernel_rfl) (fun _ _ _ h => h) (Or.inl ⟨by kernel_rfl, ?_⟩) hHeld ?_
      rotate_left
      · (intro w hSw; first | (go_simp; done) | (go_simp; with_reducible rfl))
      (try simp only [Act.put, List.getElem_toArray, List.getElem_cons_succ, List.getElem_cons_zero, List.setIfInBounds_toArray, List.set_cons_zero, List.set_cons_succ])
      refine wpAnyH_take (i := 5) (v := ?_) rfl (by kernel_rfl) (by kernel_rfl) (by kernel_rfl) (fun _ _ _ h => h) (Or.inl ⟨by kernel_rfl, ?_⟩) hHeld ?_
      rotate_left
      · (intro w hSw; first | (go_simp; done) | (go_simp; with_reducible rfl))
      (try simp only [Act.put, List.getElem_toArray, List.getElem_cons_succ, List.getElem_cons_zero, List.setIfInBounds_toArray, List.set_cons_zero, List.set_cons_succ])
      refine wpAnyH_take (i := 6) (v := ?_) rfl (by kernel_rfl) (by kernel_rfl) (by kernel_rfl) (fun _ _ _ h => h) (Or.inl ⟨by kernel_rfl, ?_⟩) hHeld ?_
      rotate_left
      · (intro w hSw; first | (go_simp; done) | (go_simp; with_reducible rfl))
      (try simp only [Act.put, List.getElem_toArray, List.getElem_cons_succ, List.getElem_cons_zero, List.setIfInBounds_toArray, List.set_cons_zero, List.set_cons_succ])
      refine wpAnyH_take (i := 7) (v := ?_) rfl (by kernel_rfl) (by kernel_rfl) (by kernel_rfl) (fun _ _ _ h => h) (Or.inl ⟨by kernel_rfl, ?_⟩) hHeld ?_
      rotate_left
      · (intro w hSw; first | (go_simp; done) | (go_simp; with_reducible rfl))
      (try simp only [Act.put, List.getElem_toArray, List.getElem_cons_succ, List.getElem_cons_zero, List.setIfInBounds_toArray, List.set_cons_zero, List.set_cons_succ])
      refine wpAnyH_take (i := 8) (v := ?_) rfl (by kernel_rfl) (by kernel_rfl) (by kernel_rfl) (fun _ _ _ h => h) (Or.inl ⟨by kernel_rfl, ?_⟩) hHeld ?_
      rotate_left
      · (intro w hSw; first | (go_simp; done) | (go_simp; with_reducible rfl))
      (try simp only [Act.put, List.getElem_toArray, List.getElem_cons_succ, List.getElem_cons_zero, List.setIfInBounds_toArray, List.set_cons_zero, List.set_cons_succ])
      refine wpAnyH_take (i := 9) (v := ?_) rfl (by kernel_rfl) (by kernel_rfl) (by kernel_rfl) (fun _ _ _ h => h) (Or.inl ⟨by kernel_rfl, ?_⟩) hHeld ?_
      rotate_left
      · (intro w hSw; first | (go_simp; done) | (go_simp; with_reducible rfl))
      (try simp only [Act.put, List.getElem_toArray, List.getElem_cons_succ, List.getElem_cons_zero, List.setIfInBounds_toArray, List.set_cons_zero, List.set_cons_succ])
      refine wpAnyH_take (i := 10) (v := ?_) rfl (by kernel_rfl) (by kernel_rfl) (by kernel_rfl) (fun _ _ _ h => h) (Or.inl ⟨by kernel_rfl, ?_⟩) hHeld ?_
      rotate_left
      · (intro w hSw; first | (go_simp; done) | (go_simp; with_reducible rfl))
      (try simp only [Act.put, List.getElem_toArray, List.getElem_cons_succ, List.getElem_cons_zero, List.setIfInBounds_toArray, List.set_cons_zero, List.set_cons_succ])
      refine wpAnyH_take (i := 11) (v := ?_) rfl (by kernel_rfl) (by kernel_rfl) (by kernel_rfl) (fun _ _ _ h => h) (Or.inl ⟨by kernel_rfl, ?_⟩) hHeld ?_
      rotate_left
      · (intro w hSw; first | (go_simp; done) | (go_simp; with_reducible rfl))
      (try simp only [Act.put, List.getElem_toArray, List.getElem_cons_succ, List.getElem_cons_zero, List.setIfInBounds_toArray, List.set_cons_zero, List.set_cons_succ])
      refine wpAnyH_ready (rs := [12]) (by kernel_rfl) (by simp) (AllReadyH.cons rfl (fun K hK => ?_) AllReadyH.nil)
      have hH := hHeld
      (go_simp; go_at_call 228; refine (HFI.out _ ((Chg.refl [] W).drew)).mono ?_; rintro e w8 ⟨rfl, hc8⟩)
      refine hK.out _ _ (by exact ⟨hc8.cell hH.1 (by simp), hc8.cell hH.2.1 (by simp), hc8.cell hH.2.2 (by simp)⟩) (fun hHq1 => ?_)
      clear hK K hH 
      (try simp only [Act.put, List.getElem_toArray, List.getElem_cons_succ, List.getElem_cons_zero, List.setIfInBounds_toArray, List.set_cons_zero, List.set_cons_succ])
      refine wpAnyH_ready (rs := [13]) (by kernel_rfl) (by simp) (AllReadyH.cons rfl (fun K hK => ?_) AllReadyH.nil)
      have hH := hHq1
      (go_simp; go_at_call 275; refine (HWR.out _ (((Chg.refl [] W).drew).trans hc8)).mono ?_; rintro e w9 ⟨rfl, hd9, hc9⟩)
      refine hK.out _ _ (by exact ⟨hc9.cell hH.1 (by simpa using hbB), hc9.cell hH.2.1 (by simpa using hbq), hc9.cell hH.2.2 (by simpa using hbq)⟩) (fun hHq2 => ?_)
      clear hK K hH hHq1
      (try simp only [Act.put, List.getElem_toArray, List.getElem_cons_succ, List.getElem_cons_zero, List.setIfInBounds_toArray, List.set_cons_zero, List.set_cons_succ])
      refine wpAnyH_take (i := 14) (v := ?_) rfl (by kernel_rfl) (by kernel_rfl) (by kernel_rfl) (fun _ _ _ h => h) (Or.inl ⟨by kernel_rfl, ?_⟩) hHq2 ?_
      rotate_left
      · (intro w hSw; first | (go_simp; done) | (go_simp; with_reducible rfl))
      (try simp only [Act.put, List.getElem_toArray, List.getElem_cons_succ, List.getElem_cons_zero, List.setIfInBounds_toArray, List.set_cons_zero, List.set_cons_succ])
      refine wpAnyH_done (by kernel_rfl) ?_ _
      have hEnd := hHq2
      clear hEnd
      gi_wp2_with fail
      have hC : Chg [b] W w9 := ((((Chg.refl [] W).drew).trans hc8).mono (by simp)).trans hc9
      have h3 := hltb.out
      have h4 := HS5.out
      have hbW5 : b < w5.heap.size := by omega
      refine ⟨keepsFrom_low hC (by simpa using hbW5), same_chg hC (fun y hy => ?_), ?_⟩
      · have h6 := HFB.out y hy
        refine ⟨Nat.lt_of_lt_of_le h6.1 HH1.out.size, fun hm => ?_⟩
        simp at hm
        omega
      · exact ⟨HH1.out.o0.chg hC (by simpa using hbB), HH1.out.o1.chg hC (by simp; omega), by rw [HPO.out]; exact hd9.out, HH1.out.chg.trans hC, Nat.le_trans HH1.out.size hC.size⟩
    case' doneA =>
      rintro D xs W hD hS h1 hK
      have c1 := h1.o1.cell 0
      have f1 := h1.o1.frozen 0
      simp at c1
      have H1 := Lib.hid h1
      have HK := Lib.hid hK
      have HSS := Lib.hid hS
      clear h1 hK hS
      gi_wp2_with fail
      have h3 := hltb.out
      have h4 := HS5.out
      have hK2 : (W.setCell ⟨w.heap.size + 1, 0, none⟩ (.int .i64 0)).heap[D]? = some (.deferred (some [])) := by
        rw [Below.heap_setCell _ _ _ _ (by simp; omega)]
        exact HK.out
      refine ⟨by simp, .inl ⟨_, _, rfl, run_takeDeferred hK2, ?_⟩⟩
      have ho1 := H1.out.o1.set 0 (.int .i64 0)
      have hg : (W.setCell ⟨w.heap.size + 1, 0, none⟩ (.int .i64 0)).grownBy ((W.setCell ⟨w.heap.size + 1, 0, none⟩ (.int .i64 0)).putObj D (.deferred none)) (some D) := grownBy_putObj' _ D (.deferred none)
      have ho1' := ho1.grown hg (by simp; omega)
      have hCW : Chg [w.heap.size + 1] W (W.setCell ⟨w.heap.size + 1, 0, none⟩ (.int .i64 0)) := (Chg.refl _ W).setCell (by simp) _
      have hCD := H1.out.chg.then hCW (fun y hy => .inr (by simp at hy; omega))
      have hCE := hCD.grown hg (fun y hy => by injection hy with hy; subst hy; right; omega)
      have hd1 := H1.out.dsk.keep hCW (by simp; omega) (by simp; omega) (by simp; omega)
      have hd2 := dsk_row (top := w5.heap.size) hd1 hg (fun r hr => by injection hr with hr; subst hr; exact hD) (by omega) (by omega) (by omega)
      generalize ((W.setCell ⟨w.heap.size + 1, 0, none⟩ (.int .i64 0)).putObj D (.deferred none)) = WZ at ho1' hd2 hCE ⊢
      have d1 := ho1'.cell 0
      simp at d1
      refine ⟨.int .i64 0, by simp [results, Tryz.results243, go_sem, d1], rfl, Lib.hid ?_, hCE⟩
      have e : wfM n h h' L L' m = wrP m f (frs L') (valS xs) := by
        unfold wfM
        rw [HFR.out, HN.out, HF.out, HSS.out]
      rw [e]
      exact hd2
    case' stopA => exact fun D c pre W _ _ h _ => h.elim
  case' neg =>
    rw [decide_eq_true (show h ≠ h' from hk)]
    have HFR := Lib.hid (show fromN h h' L = 0 by unfold fromN; rw [if_neg hk])
    clear hk
    gi_wp2_with fail
    refine wpIn_wide.2 ?_
    refine wp_noPanic ?_
    have hoq1 := H0.out.2.2.1.qt HQ1.out
    have hC1 := H0.out.2.2.2.qt HQ1.out
    have hHC : w1.cell? ⟨w.heap.size, 0, none⟩ = some (.pointer (some ⟨q, 0, none⟩)) ∧ w1.cell? ⟨q, 4, none⟩ = some (.int .i64 (h' : Int)) ∧ w1.cell? ⟨q, 5, none⟩ = some (.slice aF' N cF') := ⟨c0, by rw [hoq1.cell]; rfl, by rw [hoq1.cell]; rfl⟩
    have HSE := Lib.hid (sectors_any w1.drew (show w1.drew.cell? ⟨q, 0, none⟩ = some (.pointer (some ⟨p, 0, none⟩)) from by show w1.cell? _ = _; rw [hoq1.cell]; rfl) ((HD.out.kept hC1).kept ((Chg.refl [] w1).drew)) h' 0 N hh' (by omega) (by omega))
    have HHC := Lib.hid hHC
    clear hHC c0 hoq1 hC1
    refine wp_region_held_drew (S := (fun w' => w'.cell? ⟨w.heap.size, 0, none⟩ = some (.pointer (some ⟨q, 0, none⟩)) ∧ w'.cell? ⟨q, 4, none⟩ = some (.int .i64 (h' : Int)) ∧ w'.cell? ⟨q, 5, none⟩ = some (.slice aF' N cF'))) (by kernel_rfl) HHC.out (fun hHeld => ?_)
    refine wpAnyH_take (i := 0) (v := ?_) rfl (by kernel_rfl) (by kernel_rfl) (by kernel_rfl) (fun _ _ _ h => h) (Or.inl ⟨by kernel_rfl, ?_⟩) hHeld ?_
    rotate_left
    · (intro w hSw; first | (go_simp; done) | (go_simp; with_reducible rfl))
    (try simp only [Act.put, List.getElem_toArray, List.getElem_cons_succ, List.getElem_cons_zero, List.setIfInBounds_toArray, List.set_cons_zero, List.set_cons_succ])
    refine wpAnyH_take (i := 1) (v := ?_) rfl (by kernel_rfl) (by kernel_rfl) (by kernel_rfl) (fun _ _ _ h => h) (Or.inl ⟨by kernel_rfl, ?_⟩) hHeld ?_
    rotate_left
    · (intro w hSw; first | (go_simp; done) | (go_simp; with_reducible rfl))
    (try simp only [Act.put, List.getElem_toArray, List.getElem_cons_succ, List.getElem_cons_zero, List.setIfInBounds_toArray, List.set_cons_zero, List.set_cons_succ])
    refine wpAnyH_take (i := 2) (v := ?_) rfl (by kernel_rfl) (by kernel_rfl) (by kernel_rfl) (fun _ _ _ h => h) (Or.inl ⟨by kernel_rfl, ?_⟩) hHeld ?_
    rotate_left
    · (intro w hSw; first | (go_simp; done) | (go_simp; with_reducible rfl))
    (try simp only [Act.put, List.getElem_toArray, List.getElem_cons_succ, List.getElem_cons_zero, List.setIfInBounds_toArray, List.set_cons_zero, List.set_cons_succ])
    refine wpAnyH_take (i := 3) (v := ?_) rfl (by kernel_rfl) (by kernel_rfl) (by kernel_rfl) (fun _ _ _ h => h) (Or.inl ⟨by kernel_rfl, ?_⟩) hHeld ?_
    rotate_left
    · (intro w hSw; first | (go_simp; done) | (go_simp; with_reducible rfl))
    (try simp only [Act.put, List.getElem_toArray, List.getElem_cons_succ, List.getElem_cons_zero, List.setIfInBounds_toArray, List.set_cons_zero, List.set_cons_succ])
    refine wpAnyH_take (i := 4) (v := ?_) rfl (by kernel_rfl) (by kernel_rfl) (by kernel_rfl) (fun _ _ _ h => h) (Or.inl ⟨by kernel_rfl, ?_⟩) hHeld ?_
    rotate_left
    · (intro w hSw; first | (go_simp; done) | (go_simp; with_reducible rfl))
    (try simp only [Act.put, List.getElem_toArray, List.getElem_cons_succ, List.getElem_cons_zero, List.setIfInBounds_toArray, List.set_cons_zero, List.set_cons_succ])
    refine wpAnyH_take (i := 5) (v := ?_) rfl (by kernel_rfl) (by kernel_rfl) (by kernel_rfl) (fun _ _ _ h => h) (Or.inl ⟨by kernel_rfl, ?_⟩) hHeld ?_
    rotate_left
    · (intro w hSw; first | (go_simp; done) | (go_simp; with_reducible rfl))
    (try simp only [Act.put, List.getElem_toArray, List.getElem_cons_succ, List.getElem_cons_zero, List.setIfInBounds_toArray, List.set_cons_zero, List.set_cons_succ])
    refine wpAnyH_take (i := 6) (v := ?_) rfl (by kernel_rfl) (by kernel_rfl) (by kernel_rfl) (fun _ _ _ h => h) (Or.inl ⟨by kernel_rfl, ?_⟩) hHeld ?_
    rotate_left
    · (intro w hSw; first | (go_simp; done) | (go_simp; with_reducible rfl))
    (try simp only [Act.put, List.getElem_toArray, List.getElem_cons_succ, List.getElem_cons_zero, List.setIfInBounds_toArray, List.set_cons_zero, List.set_cons_succ])
    refine wpAnyH_take (i := 7) (v := ?_) rfl (by kernel_rfl) (by kernel_rfl) (by kernel_rfl) (fun _ _ _ h => h) (Or.inl ⟨by kernel_rfl, ?_⟩) hHeld ?_
    rotate_left
    · (intro w hSw; first | (go_simp; done) | (go_simp; with_reducible rfl))
    (try simp only [Act.put, List.getElem_toArray, List.getElem_cons_succ, List.getElem_cons_zero, List.setIfInBounds_toArray, List.set_cons_zero, List.set_cons_succ])
    refine wpAnyH_take (i := 8) (v := ?_) rfl (by kernel_rfl) (by kernel_rfl) (by kernel_rfl) (fun _ _ _ h => h) (Or.inl ⟨by kernel_rfl, ?_⟩) hHeld ?_
    rotate_left
    · (intro w hSw; first | (go_simp; done) | (go_simp; with_reducible rfl))
    (try simp only [Act.put, List.getElem_toArray, List.getElem_cons_succ, List.getElem_cons_zero, List.setIfInBounds_toArray, List.set_cons_zero, List.set_cons_succ])
    refine wpAnyH_take (i := 9) (v := ?_) rfl (by kernel_rfl) (by kernel_rfl) (by kernel_rfl) (fun _ _ _ h => h) (Or.inl ⟨by kernel_rfl, ?_⟩) hHeld ?_
    rotate_left
    · (intro w hSw; first | (go_simp; done) | (go_simp; with_reducible rfl))
    (try simp only [Act.put, List.getElem_toArray, List.getElem_cons_succ, List.getElem_cons_zero, List.setIfInBounds_toArray, List.set_cons_zero, List.set_cons_succ])
    refine wpAnyH_take (i := 10) (v := ?_) rfl (by kernel_rfl) (by kernel_rfl) (by kernel_rfl) (fun _ _ _ h => h) (Or.inl ⟨by kernel_rfl, ?_⟩) hHeld ?_
    rotate_left
    · (intro w hSw; first | (go_simp; done) | (go_simp; with_reducible rfl))
    (try simp only [Act.put, List.getElem_toArray, List.getElem_cons_succ, List.getElem_cons_zero, List.setIfInBounds_toArray, List.set_cons_zero, List.set_cons_succ])
    refine wpAnyH_take (i := 11) (v := ?_) rfl (by kernel_rfl) (by kernel_rfl) (by kernel_rfl) (fun _ _ _ h => h) (Or.inl ⟨by kernel_rfl, ?_⟩) hHeld ?_
    rotate_left
    · (intro w hSw; first | (go_simp; done) | (go_simp; with_reducible rfl))
    (try simp only [Act.put, List.getElem_toArray, List.getElem_cons_succ, List.getElem_cons_zero, List.setIfInBounds_toArray, List.set_cons_zero, List.set_cons_succ])
    refine wpAnyH_take (i := 12) (v := ?_) rfl (by kernel_rfl) (by kernel_rfl) (by kernel_rfl) (fun _ _ _ h => h) (Or.inl ⟨by kernel_rfl, ?_⟩) hHeld ?_
    rotate_left
    · (intro w hSw; first | (go_simp; done) | (go_simp; with_reducible rfl))
    (try simp only [Act.put, List.getElem_toArray, List.getElem_cons_succ, List.getElem_cons_zero, List.setIfInBounds_toArray, List.set_cons_zero, List.set_cons_succ])
    refine wpAnyH_ready (rs := [13]) (by kernel_rfl) (by simp) (AllReadyH.cons rfl (fun K hK => ?_) AllReadyH.nil)
    have hH := hHeld
    (go_simp; go_at_call 179; refine HSE.out.mono ?_; rintro e w5 ⟨rfl, hw5⟩; have HW5 := Lib.hid hw5; clear hw5; simp only [sectorsV])
    refine hK.out _ _ (by have hc := sectorsW_chg w1.drew (1 + h' * hsec n) 0 N; rw [← HW5.out] at hc; exact ⟨hc.cell hH.1 (by simp), hc.cell hH.2.1 (by simp), hc.cell hH.2.2 (by simp)⟩) (fun hHq1 => ?_)
    clear hK K hH 
    (try simp only [Act.put, List.getElem_toArray, List.getElem_cons_succ, List.getElem_cons_zero, List.setIfInBounds_toArray, List.set_cons_zero, List.set_cons_succ])
    refine wpAnyH_done (by kernel_rfl) ?_ _
    have hEnd := hHq1
    dsimp only [NoPanic]
    obtain ⟨f, HF⟩ : ∃ f, Hid (1 + h' * hsec n = f) := ⟨_, Lib.hid rfl⟩
    have hf2 : f ≤ 2000 := by
      rw [← HF.out]
      have : h' * hsec n ≤ 1 * 512 := Nat.mul_le_mul hh' hs
      omega
    rw [HF.out] at HW5
    have hc5 := sectorsW_chg w1.drew f 0 N
    have hs5 := sectorsW_size w1.drew f 0 N
    have hb5 := sectorsW_own w1.drew f 0 N
    rw [← HW5.out] at hc5 hs5 hb5
    rw [show w1.drew.heap.size = w1.heap.size from rfl] at hs5 hb5
    have hsz1 : w1.heap.size = w.heap.size + 2 := by rw [Qt.size HQ1.out]; exact HS2.out
    have hseq := sect_stops 4 w1.heap.size (w1.heap.size + 1) (w1.heap.size + 2) f 0 N w5 hb5.1 hb5.2.1 hb5.2.2 (by omega) (by omega) (by omega) (Same [w1.heap.size, w1.heap.size + 1, w1.heap.size + 2]) (fun _ _ h => h)
    have hC05 := (H0.out.2.2.2.qt HQ1.out).drew.trans hc5
    have hC15 := ((Chg.refl [] w1).drew).trans hc5
    have hlt3 := hltb.out
    have hW0 : WrAt w w5 w.heap.size (w.heap.size + 1) w5.heap.size q p g b n F m f (frs L') [] :=
      ⟨(H0.out.1.qt HQ1.out).chg hC15 (by simp), (H0.out.2.1.qt HQ1.out).chg hC15 (by simp), HD.out.kept hC05, hC05.mono (by simp), Nat.le_refl _⟩
    have hFB : ∀ x ∈ [w1.heap.size, w1.heap.size + 1, w1.heap.size + 2], x < w5.heap.size ∧ w.heap.size + 2 ≤ x := by
      intro x hx
      simp only [List.mem_cons, List.not_mem_nil, or_false] at hx
      omega
    have HSEQ := Lib.hid hseq
    have HFB := Lib.hid hFB
    have HW0 := Lib.hid hW0
    have HS5 := Lib.hid (And.intro hs5 hsz1)
    clear hseq hFB hW0 hs5 hsz1 hb5 hc5 hC05 hC15 hlt3 hEnd hHeld hHq1
    gi_wp2_with fail
    refine wpIn_rangeFunc_ownH rfl (by omega) (gf := 229) (lb := #[.pointer (some ⟨w1.heap.size, 0, none⟩), .pointer (some ⟨w1.heap.size + 1, 0, none⟩), .pointer (some ⟨w1.heap.size + 2, 0, none⟩)]) rfl trivial (enters_of Tryz.func229 (by kernel_rfl) rfl) HSEQ.out
      (fun h k => h.trans k) (same_put (fun x hx => (HFB.out x hx).1)) (Below.refl _ _) (fun _ => rfl)
      (fun xs W => WrAt w W w.heap.size (w.heap.size + 1) w5.heap.size q p g b n F m f (frs L') (valS xs)) (fun _ _ _ => False) ?hIB ?hIxB ?h0B
      (fun x a' W => a' = { tmps := #[.pointer (some ⟨q, 0, none⟩), .pointer (some ⟨w.heap.size, 0, none⟩), .pointer (some ⟨w.heap.size + 1, 0, none⟩), .int .i64 0, .int .i64 ((f : Int) + (x.1 : Int)), .int .i64 ((x.1 : Int) * 64), undef, .pointer (some ⟨q, 0, none⟩), .pointer (some ⟨q, 0, none⟩), .pointer (some ⟨q, 1, none⟩), .pointer (some ⟨q, 2, none⟩), .slice aF N0 cF, .int .i64 (N0 : Int), .pointer (some ⟨q, 0, none⟩), .bool true, .pointer (some ⟨q, 0, none⟩), .pointer (some ⟨q, 0, none⟩), .pointer (some ⟨q, 0, none⟩), .pointer (some ⟨q, 4, none⟩), .pointer (some ⟨q, 4, none⟩), .int .i64 (h' : Int), .int .i64 0, .pointer (some ⟨q, 0, none⟩), .pointer (some ⟨q, 0, none⟩), .pointer (some ⟨q, 4, none⟩), .pointer (some ⟨q, 5, none⟩), .slice aF' N cF', .int .i64 (N : Int), .func (.func 229) #[] #[.pointer (some ⟨w1.heap.size, 0, none⟩), .pointer (some ⟨w1.heap.size + 1, 0, none⟩), .pointer (some ⟨w1.heap.size + 2, 0, none⟩)], .int .i64 ((f : Int) + (x.1 : Int)), .int .i64 ((x.1 : Int) * 64), undef, undef, undef, undef, undef, undef, undef, undef, undef, undef, undef, undef, undef, undef, undef, undef, undef], defers := [] }) ?hAxB ?assignB ?bodyB ?doneB ?stopB
    case' hIB =>
      rintro xs X Y row h1 hg hr
      have h3 := hltb.out
      have h4 := HS5.out
      exact h1.kept (by omega) (by omega) (by omega) (by omega) hg hr
    case' hIxB => exact fun _ _ _ _ _ h _ _ => h.elim
    case' h0B => exact HW0.out
    case' hAxB => exact fun x a' => ownFrom_pure _ _
    case' assignB =>
      rintro l2 pre x W K h1 hK
      unfold encS
      have HK := Lib.hid hK
      clear hK
      gi_wp2_with fail
      exact HK.out _ _ (keepsFrom_below (Below.refl _ _)) (Same.refl _ _) h1 rfl
    case' bodyB =>
      rintro l2 pre x a' W hl hlr h1 rfl hlt
      have hx := x.2
      unfold ceilS at hx
      have hx64 : x.1 * 64 < N := by omega
      obtain ⟨gF, hgF0, hgF1, hgF2, hgF3, hgF4, hgF5⟩ := HT.out.fr'.rowU8 (by rw [HN.out]; omega)
      subst hgF0
      have hbF : gF ≠ b := fun e => HB.out (by rw [← e]; exact HT.out.memv gF (.inr (.inr (.inl (mem_bl.2 rfl)))))
      have hbq : q ≠ b := fun e => HB.out (by rw [← e]; exact HT.out.memq)
      have hbB : w.heap.size ≠ b := by have := hltb.out; omega
      have hxn : f + x.1 < n := by
        rw [← HF.out]
        have h6 : x.1 < hsec n := by omega
        have h7 : h' * hsec n ≤ 1 * hsec n := Nat.mul_le_mul hh' (Nat.le_refl _)
        have h8 := HD.out.one
        unfold hsec at *
        omega
      obtain ⟨bs, HBS⟩ : ∃ bs, Hid ((frs L').drop (x.1 * 64) = bs) := ⟨_, Lib.hid rfl⟩
      have hbl : bs.length = N - x.1 * 64 := by rw [← HBS.out, List.length_drop, HN.out]
      have hro : ∀ W6, Chg [] W W6 → Ro W6 W6.heap.size (some ⟨gF, x.1 * 64, none⟩) (u8s bs) := fun W6 hc6 => by
        have hcw : Chg [b] w W6 := h1.chg.trans (hc6.mono (by simp))
        refine .inr ⟨gF, x.1 * 64, rfl, Nat.lt_of_lt_of_le hgF4 hcw.size, fun i hi => ?_⟩
        rw [u8s_length, hbl] at hi
        rw [hcw.cell (hgF5 (x.1 * 64 + i) (by rw [HN.out]; omega)) (by simpa using hbF), u8s_getD bs i (by rw [hbl]; omega), ← HBS.out]
        simp [List.getD]
      have hFi : ∀ W6, Chg [] W W6 → Calls Tryz.prog 228 #[.slice (some ⟨gF, x.1 * 64, none⟩) (N - x.1 * 64) (cF' - x.1 * 64)] W6 fun e w' => e = .returned (sv (fillS bs)) ∧ Chg [] W6 w' := fun W6 hc6 => by
        have h6 := fill_any W6 (some ⟨gF, x.1 * 64, none⟩) bs (cF' - x.1 * 64) W6.heap.size (hro W6 hc6) (Nat.le_refl _)
        rwa [hbl] at h6
      have hWr : ∀ W6, Chg [] W W6 → Calls Tryz.prog 275 #[.pointer (some ⟨p, 0, none⟩), .int .i64 ((f : Int) + (x.1 : Int)), sv (fillS bs)] W6 fun e w' => e = .returned (.int .i64 0) ∧ Hid (Dsk w' p g b n F (upd (wrP m f (frs L') (valS pre)) (f + x.1) (fillS bs))) ∧ Chg [b] W6 w' := fun W6 hc6 => by
        have h6 := write_ok W6 (h1.dsk.kept hc6) (f + x.1) hxn (fillS bs) (fillS_len _)
        rw [show ((f + x.1 : Nat) : Int) = (f : Int) + (x.1 : Int) by omega] at h6
        exact h6.mono fun e w' h => ⟨h.1, Lib.hid h.2.1, h.2.2⟩
      obtain ⟨T, HTT⟩ : ∃ T, Hid (fillS bs = T) := ⟨_, Lib.hid rfl⟩
      rw [HTT.out] at hFi hWr
      have HFI := Lib.hid hFi
      have HWR := Lib.hid hWr
      have HPO := Lib.hid (show wrP m f (frs L') (valS (pre ++ [x])) = upd (wrP m f (frs L') (valS pre)) (f + x.1) T by rw [valS_snoc, wrP_snoc, HBS.out, HTT.out])
      have HH1 := Lib.hid h1
      have hoq := HT.out.own.chg h1.chg (by simpa using hbq)
      have hHC : W.cell? ⟨w.heap.size, 0, none⟩ = some (.pointer (some ⟨q, 0, none⟩)) ∧ W.cell? ⟨q, 0, none⟩ = some (.pointer (some ⟨p, 0, none⟩)) ∧ W.cell? ⟨q, 5, none⟩ = some (.slice (some ⟨gF, 0, none⟩) N cF') := ⟨by rw [h1.o0.cell]; rfl, by rw [hoq.cell]; rfl, by rw [hoq.cell]; rfl⟩
      have HHC2 := Lib.hid hHC
      have hxN : (x.1 : Int) * 64 ≤ (N : Int) := by omega
      have hxc : (x.1 : Int) * 64 ≤ (cF' : Int) := by rw [HN.out] at hgF2; omega
      have hx0 : (0 : Int) ≤ (x.1 : Int) * 64 := by omega
      have hcx : (cF' = x.1 * 64) = False := by rw [HN.out] at hgF2; simp; omega
      have htn : ((x.1 : Int) * 64).toNat = x.1 * 64 := by omega
      have hmx : Tryz.prog.follows .mixedOrders = true := by kernel_rfl
      clear hx hbl hro hFi hWr h1 hoq hHC hgF1 hgF5
      gi_wp2_with fail
      refine round_region (l := l2) (fun w' => w'.cell? ⟨w.heap.size, 0, none⟩ = some (.pointer (some ⟨q, 0, none⟩)) ∧ w'.cell? ⟨q, 0, none⟩ = some (.pointer (some ⟨p, 0, none⟩)) ∧ w'.cell? ⟨q, 5, none⟩ = some (.slice (some ⟨gF, 0, none⟩) N cF')) hmx ?_ (by kernel_rfl) ?_
      · rintro ⟨_, _, hh⟩; exact hh
      have hHeld : W.drew.cell? ⟨w.heap.size, 0, none⟩ = some (.pointer (some ⟨q, 0, none⟩)) ∧ W.drew.cell? ⟨q, 0, none⟩ = some (.pointer (some ⟨p, 0, none⟩)) ∧ W.drew.cell? ⟨q, 5, none⟩ = some (.slice (some ⟨gF, 0, none⟩) N cF') := HHC2.out
      refine wpAnyH_take (i := 0) (v := ?_) rfl (by kernel_rfl) (by kernel_rfl) (by kernel_rfl) (fun _ _ _ h => h) (Or.inl ⟨by kernel_rfl, ?_⟩) hHeld ?_
      rotate_left
      · (intro w hSw; first | (go_simp; done) | (go_simp; with_reducible rfl))
      (try simp only [Act.put, List.getElem_toArray, List.getElem_cons_succ, List.getElem_cons_zero, List.setIfInBounds_toArray, List.set_cons_zero, List.set_cons_succ])
      refine wpAnyH_take (i := 1) (v := ?_) rfl (by kernel_rfl) (by kernel_rfl) (by kernel_rfl) (fun _ _ _ h => h) (Or.inl ⟨by kernel_rfl, ?_⟩) hHeld ?_
      rotate_left
      · (intro w hSw; first | (go_simp; done) | (go_simp; with_reducible rfl))
      (try simp only [Act.put, List.getElem_toArray, List.getElem_cons_succ, List.getElem_cons_zero, List.setIfInBounds_toArray, List.set_cons_zero, List.set_cons_succ])
      refine wpAnyH_take (i := 2) (v := ?_) rfl (by kernel_rfl) (by kernel_rfl) (by kernel_rfl) (fun _ _ _ h => h) (Or.inl ⟨by kernel_rfl, ?_⟩) hHeld ?_
      rotate_left
      · (intro w hSw; first | (go_simp; done) | (go_simp; with_reducible rfl))
      (try simp only [Act.put, List.getElem_toArray, List.getElem_cons_succ, List.getElem_cons_zero, List.setIfInBounds_toArray, List.set_cons_zero, List.set_cons_succ])
      refine wpAnyH_take (i := 3) (v := ?_) rfl (by kernel_rfl) (by kernel_rfl) (by kernel_rfl) (fun _ _ _ h => h) (Or.inl ⟨by kernel_rfl, ?_⟩) hHeld ?_
      rotate_left
      · (intro w hSw; first | (go_simp; done) | (go_simp; with_reducible rfl))
      (try simp only [Act.put, List.getElem_toArray, List.getElem_cons_succ, List.getElem_cons_zero, List.setIfInBounds_toArray, List.set_cons_zero, List.set_cons_succ])
      refine wpAnyH_take (i := 4) (v := ?_) rfl (by kernel_rfl) (by kernel_rfl) (by kernel_rfl) (fun _ _ _ h => h) (Or.inl ⟨by kernel_rfl, ?_⟩) hHeld ?_
      rotate_left
      · (intro w hSw; first | (go_simp; done) | (go_simp; with_reducible rfl))
      (try simp only [Act.put, List.getElem_toArray, List.getElem_cons_succ, List.getElem_cons_zero, List.setIfInBounds_toArray, List.set_cons_zero, List.set_cons_succ])
      refine wpAnyH_take (i := 5) (v := ?_) rfl (by kernel_rfl) (by kernel_rfl) (by kernel_rfl) (fun _ _ _ h => h) (Or.inl ⟨by kernel_rfl, ?_⟩) hHeld ?_
      rotate_left
      · (intro w hSw; first | (go_simp; done) | (go_simp; with_reducible rfl))
      (try simp only [Act.put, List.getElem_toArray, List.getElem_cons_succ, List.getElem_cons_zero, List.setIfInBounds_toArray, List.set_cons_zero, List.set_cons_succ])
      refine wpAnyH_take (i := 6) (v := ?_) rfl (by kernel_rfl) (by kernel_rfl) (by kernel_rfl) (fun _ _ _ h => h) (Or.inl ⟨by kernel_rfl, ?_⟩) hHeld ?_
      rotate_left
      · (intro w hSw; first | (go_simp; done) | (go_simp; with_reducible rfl))
      (try simp only [Act.put, List.getElem_toArray, List.getElem_cons_succ, List.getElem_cons_zero, List.setIfInBounds_toArray, List.set_cons_zero, List.set_cons_succ])
      refine wpAnyH_take (i := 7) (v := ?_) rfl (by kernel_rfl) (by kernel_rfl) (by kernel_rfl) (fun _ _ _ h => h) (Or.inl ⟨by kernel_rfl, ?_⟩) hHeld ?_
      rotate_left
      · (intro w hSw; first | (go_simp; done) | (go_simp; with_reducible rfl))
      (try simp only [Act.put, List.getElem_toArray, List.getElem_cons_succ, List.getElem_cons_zero, List.setIfInBounds_toArray, List.set_cons_zero, List.set_cons_succ])
      refine wpAnyH_take (i := 8) (v := ?_) rfl (by kernel_rfl) (by kernel_rfl) (by kernel_rfl) (fun _ _ _ h => h) (Or.inl ⟨by kernel_rfl, ?_⟩) hHeld ?_
      rotate_left
      · (intro w hSw; first | (go_simp; done) | (go_simp; with_reducible rfl))
      (try simp only [Act.put, List.getElem_toArray, List.getElem_cons_succ, List.getElem_cons_zero, List.setIfInBounds_toArray, List.set_cons_zero, List.set_cons_succ])
      refine wpAnyH_take (i := 9) (v := ?_) rfl (by kernel_rfl) (by kernel_rfl) (by kernel_rfl) (fun _ _ _ h => h) (Or.inl ⟨by kernel_rfl, ?_⟩) hHeld ?_
      rotate_left
      · (intro w hSw; first | (go_simp; done) | (go_simp; with_reducible rfl))
      (try simp only [Act.put, List.getElem_toArray, List.getElem_cons_succ, List.getElem_cons_zero, List.setIfInBounds_toArray, List.set_cons_zero, List.set_cons_succ])
      refine wpAnyH_take (i := 10) (v := ?_) rfl (by kernel_rfl) (by kernel_rfl) (by kernel_rfl) (fun _ _ _ h => h) (Or.inl ⟨by kernel_rfl, ?_⟩) hHeld ?_
      rotate_left
      · (intro w hSw; first | (go_simp; done) | (go_simp; with_reducible rfl))
      (try simp only [Act.put, List.getElem_toArray, List.getElem_cons_succ, List.getElem_cons_zero, List.setIfInBounds_toArray, List.set_cons_zero, List.set_cons_succ])
      refine wpAnyH_take (i := 11) (v := ?_) rfl (by kernel_rfl) (by kernel_rfl) (by kernel_rfl) (fun _ _ _ h => h) (Or.inl ⟨by kernel_rfl, ?_⟩) hHeld ?_
      rotate_left
      · (intro w hSw; first | (go_simp; done) | (go_simp; with_reducible rfl))
      (try simp only [Act.put, List.getElem_toArray, List.getElem_cons_succ, List.getElem_cons_zero, List.setIfInBounds_toArray, List.set_cons_zero, List.set_cons_succ])
      refine wpAnyH_ready (rs := [12]) (by kernel_rfl) (by simp) (AllReadyH.cons rfl (fun K hK => ?_) AllReadyH.nil)
      have hH := hHeld
      (go_simp; go_at_call 228; refine (HFI.out _ ((Chg.refl [] W).drew)).mono ?_; rintro e w8 ⟨rfl, hc8⟩)
      refine hK.out _ _ (by exact ⟨hc8.cell hH.1 (by simp), hc8.cell hH.2.1 (by simp), hc8.cell hH.2.2 (by simp)⟩) (fun hHq1 => ?_)
      clear hK K hH 
      (try simp only [Act.put, List.getElem_toArray, List.getElem_cons_succ, List.getElem_cons_zero, List.setIfInBounds_toArray, List.set_cons_zero, List.set_cons_succ])
      refine wpAnyH_ready (rs := [13]) (by kernel_rfl) (by simp) (AllReadyH.cons rfl (fun K hK => ?_) AllReadyH.nil)
      have hH := hHq1
      (go_simp; go_at_call 275; refine (HWR.out _ (((Chg.refl [] W).drew).trans hc8)).mono ?_; rintro e w9 ⟨rfl, hd9, hc9⟩)
      refine hK.out _ _ (by exact ⟨hc9.cell hH.1 (by simpa using hbB), hc9.cell hH.2.1 (by simpa using hbq), hc9.cell hH.2.2 (by simpa using hbq)⟩) (fun hHq2 => ?_)
      clear hK K hH hHq1
      (try simp only [Act.put, List.getElem_toArray, List.getElem_cons_succ, List.getElem_cons_zero, List.setIfInBounds_toArray, List.set_cons_zero, List.set_cons_succ])
      refine wpAnyH_take (i := 14) (v := ?_) rfl (by kernel_rfl) (by kernel_rfl) (by kernel_rfl) (fun _ _ _ h => h) (Or.inl ⟨by kernel_rfl, ?_⟩) hHq2 ?_
      rotate_left
      · (intro w hSw; first | (go_simp; done) | (go_simp; with_reducible rfl))
      (try simp only [Act.put, List.getElem_toArray, List.getElem_cons_succ, List.getElem_cons_zero, List.setIfInBounds_toArray, List.set_cons_zero, List.set_cons_succ])
      refine wpAnyH_done (by kernel_rfl) ?_ _
      have hEnd := hHq2
      clear hEnd
      gi_wp2_with fail
      have hC : Chg [b] W w9 := ((((Chg.refl [] W).drew).trans hc8).mono (by simp)).trans hc9
      have h3 := hltb.out
      have h4 := HS5.out
      have hbW5 : b < w5.heap.size := by omega
      refine ⟨keepsFrom_low hC (by simpa using hbW5), same_chg hC (fun y hy => ?_), ?_⟩
      · have h6 := HFB.out y hy
        refine ⟨Nat.lt_of_lt_of_le h6.1 HH1.out.size, fun hm => ?_⟩
        simp at hm
        omega
      · exact ⟨HH1.out.o0.chg hC (by simpa using hbB), HH1.out.o1.chg hC (by simp; omega), by rw [HPO.out]; exact hd9.out, HH1.out.chg.trans hC, Nat.le_trans HH1.out.size hC.size⟩
    case' doneB =>
      rintro D xs W hD hS h1 hK
      have c1 := h1.o1.cell 0
      have f1 := h1.o1.frozen 0
      simp at c1
      have H1 := Lib.hid h1
      have HK := Lib.hid hK
      have HSS := Lib.hid hS
      clear h1 hK hS
      gi_wp2_with fail
      have h3 := hltb.out
      have h4 := HS5.out
      have hK2 : (W.setCell ⟨w.heap.size + 1, 0, none⟩ (.int .i64 0)).heap[D]? = some (.deferred (some [])) := by
        rw [Below.heap_setCell _ _ _ _ (by simp; omega)]
        exact HK.out
      refine ⟨by simp, .inl ⟨_, _, rfl, run_takeDeferred hK2, ?_⟩⟩
      have ho1 := H1.out.o1.set 0 (.int .i64 0)
      have hg : (W.setCell ⟨w.heap.size + 1, 0, none⟩ (.int .i64 0)).grownBy ((W.setCell ⟨w.heap.size + 1, 0, none⟩ (.int .i64 0)).putObj D (.deferred none)) (some D) := grownBy_putObj' _ D (.deferred none)
      have ho1' := ho1.grown hg (by simp; omega)
      have hCW : Chg [w.heap.size + 1] W (W.setCell ⟨w.heap.size + 1, 0, none⟩ (.int .i64 0)) := (Chg.refl _ W).setCell (by simp) _
      have hCD := H1.out.chg.then hCW (fun y hy => .inr (by simp at hy; omega))
      have hCE := hCD.grown hg (fun y hy => by injection hy with hy; subst hy; right; omega)
      have hd1 := H1.out.dsk.keep hCW (by simp; omega) (by simp; omega) (by simp; omega)
      have hd2 := dsk_row (top := w5.heap.size) hd1 hg (fun r hr => by injection hr with hr; subst hr; exact hD) (by omega) (by omega) (by omega)
      generalize ((W.setCell ⟨w.heap.size + 1, 0, none⟩ (.int .i64 0)).putObj D (.deferred none)) = WZ at ho1' hd2 hCE ⊢
      have d1 := ho1'.cell 0
      simp at d1
      refine ⟨.int .i64 0, by simp [results, Tryz.results243, go_sem, d1], rfl, Lib.hid ?_, hCE⟩
      have e : wfM n h h' L L' m = wrP m f (frs L') (valS xs) := by
        unfold wfM
        rw [HFR.out, HN.out, HF.out, HSS.out]
      rw [e]
      exact hd2
    case' stopB => exact fun D c pre W _ _ h _ => h.elim
end
end Go.Proofs.YtcadnlilijkneaaGreat
