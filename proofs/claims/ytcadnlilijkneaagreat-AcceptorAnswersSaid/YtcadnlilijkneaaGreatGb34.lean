/-
  A change for which there is room. No claim of its own.
-/
import Derived.Test.YtcadnlilijkneaaGreatGb32
import Derived.Test.YtcadnlilijkneaaGreatGb33
namespace Go.Proofs.YtcadnlilijkneaaGreat
open Go.RowKit Go.Maps Go.Shelf Go.Deep
set_option linter.unusedVariables false
set_option linter.unusedSimpArgs false

abbrev zEc : List Value := [.int .i64 0, .int .i64 0, .int .i64 0, .int .i64 0, .int .u64 0, .slice none 0 0, .int .i64 0]
def ChS (u q mp g0 : Nat) (k : Int) (e : Nat) (b1 b2 : Int) (ye : Nat) (ya : Option Addr) (yn yc : Nat) (yq : Int) (tv : Value) (w1 W : World) : Prop :=
  W.cell? ⟨u, 0, none⟩ = some (.pointer (some ⟨q, 0, none⟩)) ∧ W.cell? ⟨u, 1, none⟩ = some (.map (some mp)) ∧
  W.cell? ⟨g0, 0, none⟩ = some (.int .u64 k) ∧ W.cell? ⟨g0, 1, none⟩ = some (.int .u64 (e : Int)) ∧ W.cell? ⟨g0, 2, none⟩ = some (.int .i64 b1) ∧ W.cell? ⟨g0, 3, none⟩ = some (.int .i64 b2) ∧ W.cell? ⟨g0, 4, none⟩ = some (.int .u64 (ye : Int)) ∧ W.cell? ⟨g0, 5, none⟩ = some (.slice ya yn yc) ∧ W.cell? ⟨g0, 6, none⟩ = some (.int .i64 yq) ∧
  (Instr.lookup 152 (.map (some mp)) (.int .u64 (e : Int)) false).run Tryz.prog W = .ok tv W ∧ Chg [] w1 W
theorem ChS.step {u q mp g0 : Nat} {k : Int} {e : Nat} {b1 b2 : Int} {ye : Nat} {ya : Option Addr} {yn yc : Nat} {yq : Int} {tv : Value} {w1 W W' : World} (HLK : Hid (∀ W, Chg [] w1 W → (Instr.lookup 152 (.map (some mp)) (.int .u64 (e : Int)) false).run Tryz.prog W = .ok tv W)) (h : ChS u q mp g0 k e b1 b2 ye ya yn yc yq tv w1 W) (hc : Chg [] W W') : ChS u q mp g0 k e b1 b2 ye ya yn yc yq tv w1 W' := by
  obtain ⟨h0, h1, h2, h3, h4, h5, h6, h7, h8, h9, h10⟩ := h
  exact ⟨hc.cell h0 (by simp), hc.cell h1 (by simp), hc.cell h2 (by simp), hc.cell h3 (by simp), hc.cell h4 (by simp), hc.cell h5 (by simp), hc.cell h6 (by simp), hc.cell h7 (by simp), hc.cell h8 (by simp), HLK.out _ (h10.trans hc), h10.trans hc⟩
theorem ChS.step2 {u q mp g0 gb : Nat} {k : Int} {e : Nat} {b1 b2 : Int} {ye : Nat} {ya : Option Addr} {yn yc : Nat} {yq : Int} {tv : Value} {w1 W W' : World} (HLK : Hid (∀ W, Chg [] w1 W → (Instr.lookup 152 (.map (some mp)) (.int .u64 (e : Int)) false).run Tryz.prog W = .ok tv W)) (h : ChS u q mp g0 k e b1 b2 ye ya yn yc yq tv w1 W) (hc : Chg [gb] W W') (hb : w1.heap.size ≤ gb) (hu : u < w1.heap.size) (hg : g0 < w1.heap.size) : ChS u q mp g0 k e b1 b2 ye ya yn yc yq tv w1 W' := by
  obtain ⟨h0, h1, h2, h3, h4, h5, h6, h7, h8, h9, h10⟩ := h
  have k1 : u ∉ [gb] := by simp; omega
  have k2 : g0 ∉ [gb] := by simp; omega
  have k3 : Chg [] w1 W' := h10.then hc (fun x hx => .inr (by simp only [List.mem_singleton] at hx; omega))
  exact ⟨hc.cell h0 k1, hc.cell h1 k1, hc.cell h2 k2, hc.cell h3 k2, hc.cell h4 k2, hc.cell h5 k2, hc.cell h6 k2, hc.cell h7 k2, hc.cell h8 k2, HLK.out _ k3, k3⟩
def ChB (u q mp g0 : Nat) (k : Int) (e : Nat) (b1 b2 : Int) (ye : Nat) (ya : Option Addr) (yn yc : Nat) (yq : Int) (W : World) : Prop :=
  W.cell? ⟨u, 0, none⟩ = some (.pointer (some ⟨q, 0, none⟩)) ∧ W.cell? ⟨u, 1, none⟩ = some (.map (some mp)) ∧
  W.cell? ⟨g0, 0, none⟩ = some (.int .u64 k) ∧ W.cell? ⟨g0, 1, none⟩ = some (.int .u64 (e : Int)) ∧ W.cell? ⟨g0, 2, none⟩ = some (.int .i64 b1) ∧ W.cell? ⟨g0, 3, none⟩ = some (.int .i64 b2) ∧ W.cell? ⟨g0, 4, none⟩ = some (.int .u64 (ye : Int)) ∧ W.cell? ⟨g0, 5, none⟩ = some (.slice ya yn yc) ∧ W.cell? ⟨g0, 6, none⟩ = some (.int .i64 yq)
theorem ChB.step {u q mp g0 : Nat} {k : Int} {e : Nat} {b1 b2 : Int} {ye : Nat} {ya : Option Addr} {yn yc : Nat} {yq : Int} {m : List Nat} {W W' : World} (h : ChB u q mp g0 k e b1 b2 ye ya yn yc yq W) (hc : Chg m W W') (hu : u ∉ m) (hg : g0 ∉ m) : ChB u q mp g0 k e b1 b2 ye ya yn yc yq W' := by
  obtain ⟨h0, h1, h2, h3, h4, h5, h6, h7, h8⟩ := h
  exact ⟨hc.cell h0 hu, hc.cell h1 hu, hc.cell h2 hg, hc.cell h3 hg, hc.cell h4 hg, hc.cell h5 hg, hc.cell h6 hg, hc.cell h7 hg, hc.cell h8 hg⟩
theorem ChS.b {u q mp g0 : Nat} {k : Int} {e : Nat} {b1 b2 : Int} {ye : Nat} {ya : Option Addr} {yn yc : Nat} {yq : Int} {tv : Value} {w1 W : World} (h : ChS u q mp g0 k e b1 b2 ye ya yn yc yq tv w1 W) : ChB u q mp g0 k e b1 b2 ye ya yn yc yq W := by
  obtain ⟨h0, h1, h2, h3, h4, h5, h6, h7, h8, h9, h10⟩ := h
  exact ⟨h0, h1, h2, h3, h4, h5, h6, h7, h8⟩
def EsT.cs (T : EsT) : List Value := [.int .i64 T.p.1, .int .i64 T.p.2, .int .i64 T.a.1, .int .i64 T.a.2, .int .u64 (T.y.e : Int), .slice T.y.a T.y.sg.length T.y.c, .int .i64 T.y.q]
def NxP (w1 : World) (T : EsT) (v6 : Value) (W : World) : Prop := ∃ gb, v6 = .pointer (some ⟨gb, 0, none⟩) ∧ w1.heap.size ≤ gb ∧ Own W gb 116 T.cs ∧ Chg [] w1 W
set_option maxHeartbeats 4000000 in
set_option maxRecDepth 100000 in
theorem change_room (w : World) {B : Nat → Prop} {u mp q : Nat} {l : List Nat} {p g b n : Nat} {F : Nat → Sec} {h : Nat} {L : List Rec} {S : AS} (A : Acs w B u mp q l p g b n (calm F (fun _ => none) h L) S)
    (r : RcT) (ho : okA r.x) (ha : allow S r.x = true) (hl : LyP w (fun x => B x ∧ x ∉ acM u mp p g b l) r.y) (hs : LyS r.y) (hfit : (frs L).length + 2 + (encA r.x).length ≤ hsec n * 64) :
    Calls Tryz.prog 97 #[.pointer (some ⟨u, 0, none⟩), r.val] w fun e w' => ∃ (T' : EsT), e = .returned (.tuple #[T'.val, .int .i64 0]) ∧ ∃ l' : List Nat, Hid (T'.x = behind (S.at r.e) r.x ∧ LyP w' (fun x => w.heap.size ≤ x ∧ x ∉ acM u mp p g b l') T'.y ∧ LyS T'.y ∧ Acs w' B u mp q l' p g b n (calm (cmF n F h h L (L ++ [encA r.x])) (fun _ => none) h (L ++ [encA r.x])) (exec S r.x) ∧ (∀ x ∈ l', x ∈ l ∨ w.heap.size ≤ x) ∧ Chg (mp :: l ++ [g, b]) w w') := by
  have hE := app_commit (n := n) (F := F) (h := h) (encA_ok ho) hfit
  obtain ⟨V, hV, hV20⟩ := A.map
  have hV2 : StV w (fun x => (B x ∧ x ∉ acM u mp p g b l) ∧ x < w.heap.size) S V := hV20.mono (fun x hx hp => ⟨hp, hx⟩)
  replace hl : LyP w (fun x => (B x ∧ x ∉ acM u mp p g b l) ∧ x < w.heap.size) r.y := hl.mono (fun x hx hp => ⟨hp, hx⟩)
  obtain ⟨T, hT1, hT2, hT3, hT4⟩ := hV2.get r.e
  have HVV := Lib.hid (And.intro hV hV2)
  clear hV20
  obtain ⟨w1, HW1⟩ : ∃ W, Hid ((w.alloc (.cells #[.int .u64 (kn r.k), .int .u64 (r.e : Int), .int .i64 r.b.1, .int .i64 r.b.2, .int .u64 (r.y.e : Int), .slice r.y.a r.y.sg.length r.y.c, .int .i64 r.y.q] 160)).alloc (.cells #[.int .i64 0, .int .i64 0, .int .i64 0, .int .i64 0, .int .u64 0, .slice none 0 0, .int .i64 0] 116) = W) := ⟨_, Lib.hid rfl⟩
  have hC1 : Chg [] w w1 := by rw [← HW1.out]; exact ((Chg.refl [] w).alloc _).alloc _
  have hob : Own w1 w.heap.size 160 [.int .u64 (kn r.k), .int .u64 (r.e : Int), .int .i64 r.b.1, .int .i64 r.b.2, .int .u64 (r.y.e : Int), .slice r.y.a r.y.sg.length r.y.c, .int .i64 r.y.q] := by rw [← HW1.out]; exact (Own.new w _ _).alloc _
  have hor : Own w1 (w.heap.size + 1) 116 zEc := by
    rw [← HW1.out]
    have := Own.new (w.alloc (.cells #[.int .u64 (kn r.k), .int .u64 (r.e : Int), .int .i64 r.b.1, .int .i64 r.b.2, .int .u64 (r.y.e : Int), .slice r.y.a r.y.sg.length r.y.c, .int .i64 r.y.q] 160)) 116 zEc
    simpa using this
  have hsz1 : w1.heap.size = w.heap.size + 2 := by rw [← HW1.out]; simp
  have HLK : Hid (∀ W, Chg [] w1 W → (Instr.lookup 152 (.map (some mp)) (.int .u64 (r.e : Int)) false).run Tryz.prog W = .ok T.val W) := Lib.hid (fun W hW => by
    have h9 := (hV.kept (hC1.trans hW)).look1 (t := 152) (e := 116) Tryz.underlying152 (z := zEs.val) (by kernel_rfl) (a := r.e) (by have := ho.e.2; show r.e < _; simp only [RcT.x] at this; omega)
    rw [hT2] at h9
    exact h9)
  have HBH := Lib.hid (fun W => behind_any T r W)
  have HEN : Hid (∀ W, Chg [] w W → Calls Tryz.prog 150 #[r.val] W fun e w' => ∃ a c, e = .returned (.slice a (encA r.x).length c) ∧ Ro w' w'.heap.size a (u8s (encA r.x)) ∧ (∀ ad, a = some ad → w.heap.size ≤ ad.block) ∧ Chg [] W w') := Lib.hid (fun W hW =>
    (encoded_any W r _ ho (hl.chg hW (by simp))).mono fun e w' ⟨a, c, h1, h2, h3, h4⟩ => ⟨a, c, h1, h2, fun ad e => Nat.le_trans hW.size (h3 ad e), h4⟩)
  have HAP : Hid (∀ W a c, Chg [] w W → Ro W W.heap.size a (u8s (encA r.x)) → (∀ ad, a = some ad → w.heap.size ≤ ad.block) → Calls Tryz.prog 89 #[.pointer (some ⟨q, 0, none⟩), .slice a (encA r.x).length c] W fun e w' => e = .returned (.int .i64 0) ∧ Hid (TDT W l q p g b n (appS n (calm F (fun _ => none) h L) (encA r.x)) w')) := Lib.hid (fun W a c hW hr hn =>
    (append_TD (A.td.kept hW) a (encA r.x) c W.heap.size hr (Nat.le_refl _) (fun _ x e hx => by have h1 := hn x e; have h2 := A.td.lt _ hx; omega)).mono fun e w' ⟨h1, h2⟩ => ⟨by rw [h1]; show Ending.returned (.int .i64 ((appE n 0 h h L L (encA r.x) : Nat) : Int)) = _; rw [hE.1]; rfl, h2⟩)
  have HA := Lib.hid A
  have HE := Lib.hid hE.2
  have HT := Lib.hid (And.intro hT1 (And.intro hT3 hT4))
  have HRY := Lib.hid (And.intro hl hs)
  have HOA := Lib.hid (And.intro ho ha)
  obtain ⟨d0, d1⟩ := (A.own.chg hC1 (by simp)).two
  have HS0 : Hid (ChS u q mp w.heap.size (kn r.k) r.e r.b.1 r.b.2 r.y.e r.y.a r.y.sg.length r.y.c r.y.q T.val w1 w1) := Lib.hid ⟨d0, d1, by rw [hob.cell]; rfl, by rw [hob.cell]; rfl, by rw [hob.cell]; rfl, by rw [hob.cell]; rfl, by rw [hob.cell]; rfl, by rw [hob.cell]; rfl, by rw [hob.cell]; rfl, HLK.out w1 (Chg.refl _ _), Chg.refl _ _⟩
  have HB := Lib.hid (And.intro hC1 (And.intro hor hsz1))
  have HU1 : Hid (u < w1.heap.size ∧ w.heap.size < w1.heap.size) := Lib.hid ⟨Nat.lt_of_lt_of_le A.own.lt hC1.size, hob.lt⟩
  have HBX : Hid ((behT T r).x = behind (S.at r.e) r.x) := Lib.hid (by rw [behT_x, hT1])
  have HBY : Hid (LyP w (fun x => (B x ∧ x ∉ acM u mp p g b l) ∧ x < w.heap.size) (behT T r).y ∧ LyS (behT T r).y) := Lib.hid (by
    unfold behT
    cases r.k
    · exact ⟨hT3, hT4⟩
    · exact ⟨hl, hs⟩)
  generalize hT2e : behT T r = T2 at *
  clear hT2e
  clear A hE hV hV2 hT1 hT2 hT3 hT4 hC1 hob hor hsz1 d0 d1 hl hs ho ha hfit
  obtain ⟨EA, hEA⟩ : ∃ x, Hid (encA r.x = x) := ⟨_, Lib.hid rfl⟩
  obtain ⟨RX, hRX⟩ : ∃ x, Hid (r.x = x) := ⟨_, Lib.hid rfl⟩
  rw [hEA.out] at HEN HAP HE ⊢
  rw [hRX.out] at HBX HOA ⊢
  have HRE : Hid (RX.e = r.e) := Lib.hid (by rw [← hRX.out]; rfl)
  obtain ⟨en, hen⟩ : ∃ x, Hid (EA.length = x) := ⟨_, Lib.hid rfl⟩
  rw [hen.out] at HEN HAP
  clear hEA hRX
  obtain ⟨⟨t1, t2⟩, ⟨t3, t4⟩, ⟨te, ta, tc, ts, tq⟩⟩ := T
  obtain ⟨⟨x1, x2⟩, ⟨x3, x4⟩, ⟨xe, xa, xc, xs, xq⟩⟩ := T2
  obtain ⟨k, re, ⟨b1, b2⟩, ⟨ye, ya, yc, ys, yq⟩⟩ := r
  simp only [EsT.val, RcT.val] at *
  obtain ⟨yn, hyn⟩ : ∃ n, Hid (ys.length = n) := ⟨_, Lib.hid rfl⟩
  obtain ⟨tn, htn⟩ : ∃ n, Hid (ts.length = n) := ⟨_, Lib.hid rfl⟩
  obtain ⟨xn, hxn⟩ : ∃ n, Hid (xs.length = n) := ⟨_, Lib.hid rfl⟩
  obtain ⟨kk, hkk⟩ : ∃ n, Hid (kn k = n) := ⟨_, Lib.hid rfl⟩
  simp only [hyn.out, htn.out, hxn.out, hkk.out] at HW1 HLK HBH HEN HS0 ⊢
  go_enter Tryz.func97, Tryz.ntmps97
  go_upto_region 1 with fail
  rw [HW1.out]
  go_cut [6] from 6 to 18 (fun v6 wx => NxP w1 ⟨(x1, x2), (x3, x4), ⟨xe, xa, xc, xs, xq⟩⟩ v6 wx)
  case first =>
    refine wp_region_held_drew (S := (fun W : World => W.cell? ⟨u, 0, none⟩ = some (.pointer (some ⟨q, 0, none⟩)) ∧ W.cell? ⟨u, 1, none⟩ = some (.map (some mp)) ∧ W.cell? ⟨w.heap.size, 0, none⟩ = some (.int .u64 kk) ∧ W.cell? ⟨w.heap.size, 1, none⟩ = some (.int .u64 (re : Int)) ∧ W.cell? ⟨w.heap.size, 2, none⟩ = some (.int .i64 b1) ∧ W.cell? ⟨w.heap.size, 3, none⟩ = some (.int .i64 b2) ∧ W.cell? ⟨w.heap.size, 4, none⟩ = some (.int .u64 (ye : Int)) ∧ W.cell? ⟨w.heap.size, 5, none⟩ = some (.slice ya yn yc) ∧ W.cell? ⟨w.heap.size, 6, none⟩ = some (.int .i64 yq) ∧ (Instr.lookup 152 (.map (some mp)) (.int .u64 (re : Int)) false).run Tryz.prog W = .ok (.agg #[.int .i64 t1, .int .i64 t2, .int .i64 t3, .int .i64 t4, .int .u64 (te : Int), .slice ta tn tc, .int .i64 tq]) W ∧ Chg [] w1 W)) (by kernel_rfl) (by have h9 := HS0.out.step HLK (Chg.refl [] w1).drew; exact h9) (fun hHeld => ?_)
    refine wpAnyH_take (i := 0) (v := ?_) rfl (by kernel_rfl) (by kernel_rfl) (by kernel_rfl) (fun _ _ _ h => h) (Or.inl ⟨by kernel_rfl, ?_⟩) hHeld ?_
    rotate_left
    · (intro w hSw; first | (go_simp; done) | (go_simp; with_reducible rfl))
    (try simp only [Act.put, List.getElem_toArray, List.getElem_cons_succ, List.getElem_cons_zero, List.setIfInBounds_toArray, List.set_cons_zero, List.set_cons_succ])
    refine wpAnyH_take (i := 1) (v := ?_) rfl (by kernel_rfl) (by kernel_rfl) (by kernel_rfl) (fun _ _ _ h => h) (Or.inl ⟨by kernel_rfl, ?_⟩) hHeld ?_
    rotate_left
    · (intro w hSw; first | (go_simp; done) | (go_simp; with_reducible rfl))
    (try simp only [Act.put, List.getElem_toArray, List.getElem_cons_succ, List.getElem_cons_zero, List.setIfInBounds_toArray, List.set_cons_zero, List.set_cons_succ])
    refine wpAnyH_take (i := 2) (v := ?_) rfl (by kernel_rfl) (by kernel_rfl) (by kernel_rfl) (fun _ _ _ h => h) (Or.inl ⟨by kernel_rfl, ?_⟩) hHeld ?_
    rotate_left
    · (intro w hSw; first | (go_simp; done) | (go_simp; with_reducible rfl))
    (try simp only [Act.put, List.getElem_toArray, List.getElem_cons_succ, List.getElem_cons_zero, List.setIfInBounds_toArray, List.set_cons_zero, List.set_cons_succ])
    refine wpAnyH_take (i := 3) (v := ?_) rfl (by kernel_rfl) (by kernel_rfl) (by kernel_rfl) (fun _ _ _ h => h) (Or.inl ⟨by kernel_rfl, ?_⟩) hHeld ?_
    rotate_left
    · (intro w hSw; first | (go_simp; done) | (go_simp; with_reducible rfl))
    (try simp only [Act.put, List.getElem_toArray, List.getElem_cons_succ, List.getElem_cons_zero, List.setIfInBounds_toArray, List.set_cons_zero, List.set_cons_succ])
    refine wpAnyH_take (i := 4) (v := ?_) rfl (by kernel_rfl) (by kernel_rfl) (by kernel_rfl) (fun _ _ _ h => h) (Or.inl ⟨by kernel_rfl, ?_⟩) hHeld ?_
    rotate_left
    · (intro w hSw; first | (go_simp; done) | (go_simp; with_reducible rfl))
    (try simp only [Act.put, List.getElem_toArray, List.getElem_cons_succ, List.getElem_cons_zero, List.setIfInBounds_toArray, List.set_cons_zero, List.set_cons_succ])
    refine wpAnyH_take (i := 5) (v := ?_) rfl (by kernel_rfl) (by kernel_rfl) (by kernel_rfl) (fun _ _ _ h => h) (Or.inl ⟨by kernel_rfl, ?_⟩) hHeld ?_
    rotate_left
    · (intro w hSw; first | (go_simp; done) | (go_simp; with_reducible rfl))
    (try simp only [Act.put, List.getElem_toArray, List.getElem_cons_succ, List.getElem_cons_zero, List.setIfInBounds_toArray, List.set_cons_zero, List.set_cons_succ])
    refine wpAnyH_take (i := 6) (v := ?_) rfl (by kernel_rfl) (by kernel_rfl) (by kernel_rfl) (fun _ _ _ h => h) (Or.inl ⟨by kernel_rfl, ?_⟩) hHeld ?_
    rotate_left
    · (intro w hSw; first | (go_simp; done) | (go_simp; with_reducible rfl))
    (try simp only [Act.put, List.getElem_toArray, List.getElem_cons_succ, List.getElem_cons_zero, List.setIfInBounds_toArray, List.set_cons_zero, List.set_cons_succ])
    refine wpAnyH_take (i := 7) (v := ?_) rfl (by kernel_rfl) (by kernel_rfl) (by kernel_rfl) (fun _ _ _ h => h) (Or.inl ⟨by kernel_rfl, ?_⟩) hHeld ?_
    rotate_left
    · (intro w hSw; first | (go_simp; done) | (go_simp; with_reducible rfl))
    (try simp only [Act.put, List.getElem_toArray, List.getElem_cons_succ, List.getElem_cons_zero, List.setIfInBounds_toArray, List.set_cons_zero, List.set_cons_succ])
    refine wpAnyH_ready (rs := [8,9]) (by kernel_rfl) (by simp) (AllReadyH.cons rfl (fun K hK => ?_) (AllReadyH.cons rfl (fun K hK => ?_) AllReadyH.nil))
    · have hH := hHeld
      (go_simp; go_at_call 78; refine (HBH.out _).mono ?_; rintro e w2 ⟨rfl, hc2⟩)
      refine hK.out _ _ (by exact ChS.step HLK hH hc2) (fun hHq1 => ?_)
      clear hK K hH 
      have HC2 := Lib.hid hc2
      (try simp only [Act.put, List.getElem_toArray, List.getElem_cons_succ, List.getElem_cons_zero, List.setIfInBounds_toArray, List.set_cons_zero, List.set_cons_succ])
      refine wpAnyH_ready (rs := [9]) (by kernel_rfl) (by simp) (AllReadyH.cons rfl (fun K hK => ?_) AllReadyH.nil)
      have hH := hHq1
      (go_simp; skip)
      refine hK.out _ _ (by exact ChS.step HLK hH ((Chg.refl [] _).alloc _)) (fun hHq2 => ?_)
      clear hK K hH hHq1
      (try simp only [Act.put, List.getElem_toArray, List.getElem_cons_succ, List.getElem_cons_zero, List.setIfInBounds_toArray, List.set_cons_zero, List.set_cons_succ])
      refine wpAnyH_ready (rs := [10]) (by kernel_rfl) (by simp) (AllReadyH.cons rfl (fun K hK => ?_) AllReadyH.nil)
      have hH := hHq2
      (go_simp; skip)
      refine hK.out _ _ (by exact HS0.out.step HLK (((Chg.refl [] w1).drew.trans HC2.out).alloc _)) (fun hHq3 => ?_)
      clear hK K hH hHq2
      (try simp only [Act.put, List.getElem_toArray, List.getElem_cons_succ, List.getElem_cons_zero, List.setIfInBounds_toArray, List.set_cons_zero, List.set_cons_succ])
      refine wpAnyH_done (by kernel_rfl) ?_ _
      have hEnd := hHq3
      (go_wp2_with fail; go_meet; (case rel => (first | exact ⟨w2.heap.size, rfl, HC2.out.size, by rw [show EsT.cs _ = [.int .i64 x1, .int .i64 x2, .int .i64 x3, .int .i64 x4, .int .u64 (xe : Int), .slice xa xn xc, .int .i64 xq] from by simp only [EsT.cs, hxn.out]]; exact Own.new w2 _ _, ((Chg.refl [] w1).drew.trans HC2.out).alloc _⟩ | exact ⟨w1.heap.size, rfl, Nat.le_refl _, by rw [show EsT.cs _ = [.int .i64 x1, .int .i64 x2, .int .i64 x3, .int .i64 x4, .int .u64 (xe : Int), .slice xa xn xc, .int .i64 xq] from by simp only [EsT.cs, hxn.out]]; exact HZ2.out.put7 _ _ _ _ _ _ _, HC2.out.put7 (.inr (Nat.le_refl _)) _ _ _ _ _ _ _⟩)))
    · have hH := hHeld
      (go_simp; skip)
      refine hK.out _ _ (by exact ChS.step HLK hH ((Chg.refl [] _).alloc _)) (fun hHq4 => ?_)
      clear hK K hH 
      (try simp only [Act.put, List.getElem_toArray, List.getElem_cons_succ, List.getElem_cons_zero, List.setIfInBounds_toArray, List.set_cons_zero, List.set_cons_succ])
      refine wpAnyH_ready (rs := [8]) (by kernel_rfl) (by simp) (AllReadyH.cons rfl (fun K hK => ?_) AllReadyH.nil)
      have hH := hHq4
      (go_simp; go_at_call 78; refine (HBH.out _).mono ?_; rintro e w2 ⟨rfl, hc2⟩)
      refine hK.out _ _ (by exact ChS.step HLK hH hc2) (fun hHq5 => ?_)
      clear hK K hH hHq4
      have hz2 : Own w2 w1.heap.size 116 zEc := ((Own.new w1 116 zEc).chg ((Chg.refl [] _).drew.trans hc2) (by simp)); have e0 := hz2.cell 0; have f0 := hz2.frozen 0; have e1 := hz2.cell 1; have f1 := hz2.frozen 1; have e2 := hz2.cell 2; have f2 := hz2.frozen 2; have e3 := hz2.cell 3; have f3 := hz2.frozen 3; have e4 := hz2.cell 4; have f4 := hz2.frozen 4; have e5 := hz2.cell 5; have f5 := hz2.frozen 5; have e6 := hz2.cell 6; have f6 := hz2.frozen 6; simp at e0 e1 e2 e3 e4 e5 e6; have HZ2 := Lib.hid hz2; have HC2 := Lib.hid (((Chg.refl [] w1).alloc (.cells zEc.toArray 116)).drew.trans hc2); clear hz2 hc2
      (try simp only [Act.put, List.getElem_toArray, List.getElem_cons_succ, List.getElem_cons_zero, List.setIfInBounds_toArray, List.set_cons_zero, List.set_cons_succ])
      refine wpAnyH_ready (rs := [10]) (by kernel_rfl) (by simp) (AllReadyH.cons rfl (fun K hK => ?_) AllReadyH.nil)
      have hH := hHq5
      (go_simp; skip)
      refine hK.out _ _ (by exact ChS.step2 HLK hH ((Chg.refl [w1.heap.size] w2).put7 (by simp) (.int .i64 x1) (.int .i64 x2) (.int .i64 x3) (.int .i64 x4) (.int .u64 (xe : Int)) (.slice xa xn xc) (.int .i64 xq)) (Nat.le_refl _) HU1.out.1 HU1.out.2) (fun hHq6 => ?_)
      clear hK K hH hHq5
      (try simp only [Act.put, List.getElem_toArray, List.getElem_cons_succ, List.getElem_cons_zero, List.setIfInBounds_toArray, List.set_cons_zero, List.set_cons_succ])
      refine wpAnyH_done (by kernel_rfl) ?_ _
      have hEnd := hHq6
      (go_wp2_with fail; go_meet; (case rel => (first | exact ⟨w2.heap.size, rfl, HC2.out.size, by rw [show EsT.cs _ = [.int .i64 x1, .int .i64 x2, .int .i64 x3, .int .i64 x4, .int .u64 (xe : Int), .slice xa xn xc, .int .i64 xq] from by simp only [EsT.cs, hxn.out]]; exact Own.new w2 _ _, ((Chg.refl [] w1).drew.trans HC2.out).alloc _⟩ | exact ⟨w1.heap.size, rfl, Nat.le_refl _, by rw [show EsT.cs _ = [.int .i64 x1, .int .i64 x2, .int .i64 x3, .int .i64 x4, .int .u64 (xe : Int), .slice xa xn xc, .int .i64 xq] from by simp only [EsT.cs, hxn.out]]; exact HZ2.out.put7 _ _ _ _ _ _ _, HC2.out.put7 (.inr (Nat.le_refl _)) _ _ _ _ _ _ _⟩)))
  case rest =>
    rename World => wx
    obtain ⟨gb, rfl, hgb, hobx, hcx⟩ := hcut
    have HGB := Lib.hid (And.intro hgb (And.intro hobx hcx))
    have HWX := Lib.hid (HB.out.1.trans hcx)
    have HZX : Hid (ChB u q mp w.heap.size kk re b1 b2 ye ya yn yc yq wx) := Lib.hid (HS0.out.b.step (m := []) hcx (by simp) (by simp))
    have HAX := Lib.hid (HA.out.kept HWX.out)
    clear hgb hobx hcx HBH HLK HS0
    go_upto_region 2 with fail
    refine wp_region_held_drew (S := (fun W : World => W.cell? ⟨u, 0, none⟩ = some (.pointer (some ⟨q, 0, none⟩)) ∧ W.cell? ⟨u, 1, none⟩ = some (.map (some mp)) ∧ W.cell? ⟨w.heap.size, 0, none⟩ = some (.int .u64 kk) ∧ W.cell? ⟨w.heap.size, 1, none⟩ = some (.int .u64 (re : Int)) ∧ W.cell? ⟨w.heap.size, 2, none⟩ = some (.int .i64 b1) ∧ W.cell? ⟨w.heap.size, 3, none⟩ = some (.int .i64 b2) ∧ W.cell? ⟨w.heap.size, 4, none⟩ = some (.int .u64 (ye : Int)) ∧ W.cell? ⟨w.heap.size, 5, none⟩ = some (.slice ya yn yc) ∧ W.cell? ⟨w.heap.size, 6, none⟩ = some (.int .i64 yq))) (by kernel_rfl) (by have h9 := HZX.out.step (m := []) (Chg.refl [] wx).drew (by simp) (by simp); exact h9) (fun hHeld => ?_)
    refine wpAnyH_take (i := 0) (v := ?_) rfl (by kernel_rfl) (by kernel_rfl) (by kernel_rfl) (fun _ _ _ h => h) (Or.inl ⟨by kernel_rfl, ?_⟩) hHeld ?_
    rotate_left
    · (intro w hSw; first | (go_simp; done) | (go_simp; with_reducible rfl))
    (try simp only [Act.put, List.getElem_toArray, List.getElem_cons_succ, List.getElem_cons_zero, List.setIfInBounds_toArray, List.set_cons_zero, List.set_cons_succ])
    refine wpAnyH_take (i := 1) (v := ?_) rfl (by kernel_rfl) (by kernel_rfl) (by kernel_rfl) (fun _ _ _ h => h) (Or.inl ⟨by kernel_rfl, ?_⟩) hHeld ?_
    rotate_left
    · (intro w hSw; first | (go_simp; done) | (go_simp; with_reducible rfl))
    (try simp only [Act.put, List.getElem_toArray, List.getElem_cons_succ, List.getElem_cons_zero, List.setIfInBounds_toArray, List.set_cons_zero, List.set_cons_succ])
    refine wpAnyH_take (i := 2) (v := ?_) rfl (by kernel_rfl) (by kernel_rfl) (by kernel_rfl) (fun _ _ _ h => h) (Or.inl ⟨by kernel_rfl, ?_⟩) hHeld ?_
    rotate_left
    · (intro w hSw; first | (go_simp; done) | (go_simp; with_reducible rfl))
    (try simp only [Act.put, List.getElem_toArray, List.getElem_cons_succ, List.getElem_cons_zero, List.setIfInBounds_toArray, List.set_cons_zero, List.set_cons_succ])
    refine wpAnyH_take (i := 3) (v := ?_) rfl (by kernel_rfl) (by kernel_rfl) (by kernel_rfl) (fun _ _ _ h => h) (Or.inl ⟨by kernel_rfl, ?_⟩) hHeld ?_
    rotate_left
    · (intro w hSw; first | (go_simp; done) | (go_simp; with_reducible rfl))
    (try simp only [Act.put, List.getElem_toArray, List.getElem_cons_succ, List.getElem_cons_zero, List.setIfInBounds_toArray, List.set_cons_zero, List.set_cons_succ])
    refine wpAnyH_take (i := 4) (v := ?_) rfl (by kernel_rfl) (by kernel_rfl) (by kernel_rfl) (fun _ _ _ h => h) (Or.inl ⟨by kernel_rfl, ?_⟩) hHeld ?_
    rotate_left
    · (intro w hSw; first | (go_simp; done) | (go_simp; with_reducible rfl))
    (try simp only [Act.put, List.getElem_toArray, List.getElem_cons_succ, List.getElem_cons_zero, List.setIfInBounds_toArray, List.set_cons_zero, List.set_cons_succ])
    refine wpAnyH_ready (rs := [5]) (by kernel_rfl) (by simp) (AllReadyH.cons rfl (fun K hK => ?_) AllReadyH.nil)
    have hH := hHeld
    (go_simp; go_at_call 150; refine (HEN.out _ HWX.out.drew).mono ?_; rintro e w2 ⟨a2', c2', rfl, hr2, hn2, hc2⟩)
    refine hK.out _ _ (by exact ChB.step hH hc2 (by simp) (by simp)) (fun hHq1 => ?_)
    clear hK K hH 
    have HC2 := Lib.hid (HWX.out.drew.trans hc2); have HR2 := Lib.hid (And.intro hr2 hn2); have HCX2 := Lib.hid ((Chg.refl [] wx).drew.trans hc2)
    (try simp only [Act.put, List.getElem_toArray, List.getElem_cons_succ, List.getElem_cons_zero, List.setIfInBounds_toArray, List.set_cons_zero, List.set_cons_succ])
    refine wpAnyH_ready (rs := [6]) (by kernel_rfl) (by simp) (AllReadyH.cons rfl (fun K hK => ?_) AllReadyH.nil)
    have hH := hHq1
    (go_simp; go_at_call 89; refine (HAP.out _ _ _ HC2.out HR2.out.1 HR2.out.2).mono ?_; rintro e w3 ⟨rfl, ht3⟩; obtain ⟨l', ht4, hl4, hc4⟩ := ht3.out)
    refine hK.out _ _ (by exact ChB.step hH hc4 (fun hx => HA.out.ul (by simp [hx])) (fun hx => Nat.lt_irrefl _ (HA.out.td.lt _ hx))) (fun hHq2 => ?_)
    clear hK K hH hHq1
    (try simp only [Act.put, List.getElem_toArray, List.getElem_cons_succ, List.getElem_cons_zero, List.setIfInBounds_toArray, List.set_cons_zero, List.set_cons_succ])
    refine wpAnyH_take (i := 7) (v := ?_) rfl (by kernel_rfl) (by kernel_rfl) (by kernel_rfl) (fun _ _ _ h => h) (Or.inl ⟨by kernel_rfl, ?_⟩) hHq2 ?_
    rotate_left
    · (intro w hSw; first | (go_simp; done) | (go_simp; with_reducible rfl))
    (try simp only [Act.put, List.getElem_toArray, List.getElem_cons_succ, List.getElem_cons_zero, List.setIfInBounds_toArray, List.set_cons_zero, List.set_cons_succ])
    refine wpAnyH_done (by kernel_rfl) ?_ _
    have hEnd := hHq2
    have HL4 : Hid (∀ x ∈ l', x ∈ l ∨ wx.heap.size ≤ x) := Lib.hid (fun x hx => (hl4 x hx).imp id (fun h9 => Nat.le_trans HCX2.out.size h9))
    have HC3 : Hid (Chg l wx w3) := Lib.hid ((HCX2.out.mono (by simp)).trans hc4)
    have HCM := Lib.hid (commit_TD ht4)
    have HZ3 : Hid (ChB u q mp w.heap.size kk re b1 b2 ye ya yn yc yq w3) := Lib.hid hEnd
    obtain ⟨u0, u1, _⟩ := hEnd
    clear hHeld hr2 hn2 hc2 ht3 ht4 hl4 hc4 HEN HAP
    have HCOM : Hid (∀ w5, Chg (l' ++ [g, b]) w3 w5 → Chg (l ++ [g, b]) wx w5) := Lib.hid (fun w5 h5 => (HC3.out.mono (fun x hx => .inl (List.mem_append_left _ hx))).then h5 (fun x hx => by
      rcases List.mem_append.1 hx with hx | hx
      · exact (HL4.out x hx).imp (fun h9 => List.mem_append_left _ h9) id
      · exact .inl (List.mem_append_right _ hx)))
    go_upto_region 12 with (first
      | (go_at_call 90; refine HCM.out.mono ?_; rintro e w5 ⟨rfl, ht5, hc5⟩
         have HC5 := Lib.hid (HCOM.out w5 hc5); have HT5 := Lib.hid ht5.out; clear hc5 ht5)
      | fail)
    have hte := HT5.out
    rw [HE.out] at hte
    have HA5 := Lib.hid (HAX.out.tape HC5.out hte HL4.out)
    have hP1 : ∀ x, ((B x ∧ x ∉ acM u mp p g b l) ∧ x < w.heap.size) → x ∉ l ++ [g, b] := fun x hx => by
      have := hx.1.2
      unfold acM at this
      simp only [List.mem_cons, not_or] at this
      simp [this]
    have hP2 : ∀ x, ((B x ∧ x ∉ acM u mp p g b l) ∧ x < w.heap.size) → ((B x ∧ x ∉ acM u mp p g b l') ∧ x < w.heap.size) := fun x hx => by
      refine ⟨⟨hx.1.1, fun hm => ?_⟩, hx.2⟩
      have h7 := hx.1.2
      unfold acM at hm h7
      simp only [List.mem_cons, not_or] at hm h7
      rcases hm with hm | hm | hm | hm | hm | hm
      · exact h7.1 hm
      · exact h7.2.1 hm
      · exact h7.2.2.1 hm
      · exact h7.2.2.2.1 hm
      · exact h7.2.2.2.2.1 hm
      · rcases HL4.out x hm with h3 | h3
        · exact h7.2.2.2.2.2 h3
        · have := HWX.out.size; omega
    have HY5 := Lib.hid (((HBY.out.1.chg HWX.out (by simp)).chg HC5.out hP1).mono (fun x _ h9 => hP2 x h9))
    have HV5 := Lib.hid (((HVV.out.2.chg HWX.out (by simp)).chg HC5.out hP1).mono (fun x _ h9 => hP2 x h9))
    have hV5 : MapV w5 mp V := (HVV.out.1.kept HWX.out).chg HC5.out (by
      have := HA.out.ml
      simp only [List.mem_cons, not_or] at this
      simp [this])
    clear hP1 hP2
    have hgbl : gb ∉ l ++ [g, b] := fun hx => by
      have h1 := HGB.out.1
      have h2 := HB.out.1.size
      rcases List.mem_append.1 hx with hx | hx
      · have := HA.out.td.lt _ hx; omega
      · have := HA.out.td.dlt; simp at hx; omega
    have hob5 := HGB.out.2.1.chg HC5.out hgbl
    have hzl : w.heap.size ∉ l ++ [g, b] := fun hx => by
      rcases List.mem_append.1 hx with hx | hx
      · have := HA.out.td.lt _ hx; omega
      · have := HA.out.td.dlt; simp at hx; omega
    have hul5 : u ∉ l ++ [g, b] := fun hx => HA.out.ul (by simp only [List.mem_append, List.mem_cons, List.not_mem_nil, or_false] at hx ⊢; rcases hx with hx | hx | hx <;> simp [hx])
    have HZ5 := Lib.hid (HZX.out.step HC5.out hul5 hzl)
    have HOR5 : Hid (Own w5 (w.heap.size + 1) 116 zEc) := Lib.hid ((HB.out.2.1.chg HGB.out.2.2 (by simp)).chg HC5.out (fun hx => by
      rcases List.mem_append.1 hx with hx | hx
      · have := HA.out.td.lt _ hx; omega
      · have := HA.out.td.dlt; simp at hx; omega))
    have HOB5 := Lib.hid hob5
    have hre : re < 1048577 := by have := HOA.out.1.e.2; have := HRE.out; omega
    have hc5d : Chg [] w5 w5.drew := (Chg.refl [] w5).drew
    obtain ⟨w6, hrun, hm6, hc6⟩ := (hV5.kept hc5d).put (t := 152) (e := 116) Tryz.underlying152 hre (.agg #[.int .i64 x1, .int .i64 x2, .int .i64 x3, .int .i64 x4, .int .u64 (xe : Int), .slice xa xn xc, .int .i64 xq])
    have hu6 : u ∉ [mp] := by simpa using HA.out.um
    have hV5lt := hV5.lt
    have hmpl : mp < w.heap.size := by obtain ⟨V, hV, _⟩ := HA.out.map; exact hV.lt
    have hz6 : w.heap.size ∉ [mp] := by simp; omega
    have hg6 : gb ∉ [mp] := by have := HGB.out.1; have := HB.out.1.size; simp; omega
    have HN6 := Lib.hid (And.intro hu6 (And.intro hz6 hg6))
    have HSX := Lib.hid (show (fun W : World => W.cell? ⟨u, 1, none⟩ = some (.map (some mp)) ∧ W.cell? ⟨w.heap.size, 1, none⟩ = some (.int .u64 (re : Int)) ∧ W.cell? ⟨gb, 0, none⟩ = some (.int .i64 x1) ∧ W.cell? ⟨gb, 1, none⟩ = some (.int .i64 x2) ∧ W.cell? ⟨gb, 2, none⟩ = some (.int .i64 x3) ∧ W.cell? ⟨gb, 3, none⟩ = some (.int .i64 x4) ∧ W.cell? ⟨gb, 4, none⟩ = some (.int .u64 (xe : Int)) ∧ W.cell? ⟨gb, 5, none⟩ = some (.slice xa xn xc) ∧ W.cell? ⟨gb, 6, none⟩ = some (.int .i64 xq)) w5.drew from by
      have h8 := HZ5.out.step hc5d (by simp) (by simp)
      have h9 := HOB5.out.chg hc5d (by simp)
      unfold EsT.cs at h9
      simp only [hxn.out] at h9
      exact ⟨h8.2.1, h8.2.2.2.1, by rw [h9.cell]; rfl, by rw [h9.cell]; rfl, by rw [h9.cell]; rfl, by rw [h9.cell]; rfl, by rw [h9.cell]; rfl, by rw [h9.cell]; rfl, by rw [h9.cell]; rfl⟩)
    have HC6 := Lib.hid hc6
    have HM6 := Lib.hid hm6
    clear hob5 hte hV5 hm6 hc6 hu6 hz6 hg6 hmpl hV5lt hgbl hzl hul5 u0 u1
    refine wp_region_held_drew (S := (fun W : World => W.cell? ⟨u, 1, none⟩ = some (.map (some mp)) ∧ W.cell? ⟨w.heap.size, 1, none⟩ = some (.int .u64 (re : Int)) ∧ W.cell? ⟨gb, 0, none⟩ = some (.int .i64 x1) ∧ W.cell? ⟨gb, 1, none⟩ = some (.int .i64 x2) ∧ W.cell? ⟨gb, 2, none⟩ = some (.int .i64 x3) ∧ W.cell? ⟨gb, 3, none⟩ = some (.int .i64 x4) ∧ W.cell? ⟨gb, 4, none⟩ = some (.int .u64 (xe : Int)) ∧ W.cell? ⟨gb, 5, none⟩ = some (.slice xa xn xc) ∧ W.cell? ⟨gb, 6, none⟩ = some (.int .i64 xq))) (by kernel_rfl) HSX.out (fun hHeld => ?_)
    refine wpAnyH_take (i := 0) (v := ?_) rfl (by kernel_rfl) (by kernel_rfl) (by kernel_rfl) (fun _ _ _ h => h) (Or.inl ⟨by kernel_rfl, ?_⟩) hHeld ?_
    rotate_left
    · (intro w hSw; first | (go_simp; done) | (go_simp; with_reducible rfl))
    (try simp only [Act.put, List.getElem_toArray, List.getElem_cons_succ, List.getElem_cons_zero, List.setIfInBounds_toArray, List.set_cons_zero, List.set_cons_succ])
    refine wpAnyH_take (i := 1) (v := ?_) rfl (by kernel_rfl) (by kernel_rfl) (by kernel_rfl) (fun _ _ _ h => h) (Or.inl ⟨by kernel_rfl, ?_⟩) hHeld ?_
    rotate_left
    · (intro w hSw; first | (go_simp; done) | (go_simp; with_reducible rfl))
    (try simp only [Act.put, List.getElem_toArray, List.getElem_cons_succ, List.getElem_cons_zero, List.setIfInBounds_toArray, List.set_cons_zero, List.set_cons_succ])
    refine wpAnyH_take (i := 2) (v := ?_) rfl (by kernel_rfl) (by kernel_rfl) (by kernel_rfl) (fun _ _ _ h => h) (Or.inl ⟨by kernel_rfl, ?_⟩) hHeld ?_
    rotate_left
    · (intro w hSw; first | (go_simp; done) | (go_simp; with_reducible rfl))
    (try simp only [Act.put, List.getElem_toArray, List.getElem_cons_succ, List.getElem_cons_zero, List.setIfInBounds_toArray, List.set_cons_zero, List.set_cons_succ])
    refine wpAnyH_take (i := 3) (v := ?_) rfl (by kernel_rfl) (by kernel_rfl) (by kernel_rfl) (fun _ _ _ h => h) (Or.inl ⟨by kernel_rfl, ?_⟩) hHeld ?_
    rotate_left
    · (intro w hSw; first | (go_simp; done) | (go_simp; with_reducible rfl))
    (try simp only [Act.put, List.getElem_toArray, List.getElem_cons_succ, List.getElem_cons_zero, List.setIfInBounds_toArray, List.set_cons_zero, List.set_cons_succ])
    refine wpAnyH_take (i := 4) (v := ?_) rfl (by kernel_rfl) (by kernel_rfl) (by kernel_rfl) (fun _ _ _ h => h) (Or.inl ⟨by kernel_rfl, ?_⟩) hHeld ?_
    rotate_left
    · (intro w hSw; first | (go_simp; done) | (go_simp; with_reducible rfl))
    (try simp only [Act.put, List.getElem_toArray, List.getElem_cons_succ, List.getElem_cons_zero, List.setIfInBounds_toArray, List.set_cons_zero, List.set_cons_succ])
    refine wpAnyH_take (i := 5) (v := ?_) rfl (by kernel_rfl) (by kernel_rfl) (by kernel_rfl) (fun _ _ _ h => h) (Or.inl ⟨by kernel_rfl, ?_⟩) hHeld ?_
    rotate_left
    · (intro w hSw; first | (go_simp; done) | (go_simp; with_reducible rfl))
    (try simp only [Act.put, List.getElem_toArray, List.getElem_cons_succ, List.getElem_cons_zero, List.setIfInBounds_toArray, List.set_cons_zero, List.set_cons_succ])
    refine wpAnyH_take (i := 6) (v := ?_) rfl (by kernel_rfl) (by kernel_rfl) (by kernel_rfl) (fun _ _ _ h => h) (Or.inl ⟨by kernel_rfl, ?_⟩) hHeld ?_
    rotate_left
    · (intro w hSw; first | (go_simp; done) | (go_simp; with_reducible rfl))
    (try simp only [Act.put, List.getElem_toArray, List.getElem_cons_succ, List.getElem_cons_zero, List.setIfInBounds_toArray, List.set_cons_zero, List.set_cons_succ])
    refine wpAnyH_ready (rs := [7]) (by kernel_rfl) (by simp) (AllReadyH.cons rfl (fun K hK => ?_) AllReadyH.nil)
    have hH := hHeld
    (go_simp; skip)
    refine hK.out _ _ (by exact ⟨HC6.out.cell hH.1 HN6.out.1, HC6.out.cell hH.2.1 HN6.out.2.1, HC6.out.cell hH.2.2.1 HN6.out.2.2, HC6.out.cell hH.2.2.2.1 HN6.out.2.2, HC6.out.cell hH.2.2.2.2.1 HN6.out.2.2, HC6.out.cell hH.2.2.2.2.2.1 HN6.out.2.2, HC6.out.cell hH.2.2.2.2.2.2.1 HN6.out.2.2, HC6.out.cell hH.2.2.2.2.2.2.2.1 HN6.out.2.2, HC6.out.cell hH.2.2.2.2.2.2.2.2 HN6.out.2.2⟩) (fun hHq1 => ?_)
    clear hK K hH 
    (try simp only [Act.put, List.getElem_toArray, List.getElem_cons_succ, List.getElem_cons_zero, List.setIfInBounds_toArray, List.set_cons_zero, List.set_cons_succ])
    refine wpAnyH_done (by kernel_rfl) ?_ _
    have hEnd := hHq1
    obtain ⟨v0, v1, _⟩ := hEnd
    clear hrun hHeld HSX
    have HC56 : Hid (Chg [mp] w5 w6) := Lib.hid ((hc5d.mono (by simp)).trans HC6.out)
    have hml := HA5.out.ml
    have hul := HA5.out.ul
    simp only [List.mem_cons, not_or] at hml hul
    have hpm : ∀ x, ((B x ∧ x ∉ acM u mp p g b l') ∧ x < w.heap.size) → x ∉ [mp] := fun x hx => by
      have := hx.1.2
      unfold acM at this
      simp only [List.mem_cons, not_or] at this
      simp [this]
    have HT6 : Hid (RX.e = re) := HRE
    have HM6' : Hid (StV w6 (fun x => (B x ∧ x ∉ acM u mp p g b l') ∧ x < w.heap.size) (exec S RX) (updV V re (.agg #[.int .i64 x1, .int .i64 x2, .int .i64 x3, .int .i64 x4, .int .u64 (xe : Int), .slice xa xn xc, .int .i64 xq]))) := Lib.hid (by
      have h9 := (HV5.out.chg HC56.out hpm).exec RX ⟨(x1, x2), (x3, x4), ⟨xe, xa, xc, xs, xq⟩⟩ (by rw [HBX.out, HT6.out]) (HY5.out.chg HC56.out hpm) HBY.out.2
      rw [HT6.out] at h9
      simpa only [EsT.val, hxn.out] using h9)
    have HA6 : Hid (Acs w6 B u mp q l' p g b n (calm (cmF n F h h L (L ++ [EA])) (fun _ => none) h (L ++ [EA])) (exec S RX)) := Lib.hid ⟨HA5.out.own.chg HC56.out HN6.out.1, HA5.out.td.chg HC56.out (fun x hx => by simp only [List.mem_singleton] at hx; subst hx; exact ⟨hml.2.2.2, hml.1, hml.2.1, hml.2.2.1⟩), ⟨_, HM6.out, HM6'.out.mono (fun x _ h9 => h9.1)⟩, HA5.out.gd.exec HOA.out.1 HOA.out.2, HA5.out.um, HA5.out.ul, HA5.out.ml⟩
    have hT6 : (updV V re (.agg #[.int .i64 x1, .int .i64 x2, .int .i64 x3, .int .i64 x4, .int .u64 (xe : Int), .slice xa xn xc, .int .i64 xq]) re).getD zEs.val = EsT.val ⟨(x1, x2), (x3, x4), ⟨xe, xa, xc, xs, xq⟩⟩ := by
      unfold updV
      rw [if_pos rfl, Option.getD_some]
      simp only [EsT.val, hxn.out]
    have HST := Lib.hid (state_any w6 HA6.out.own HM6.out re (by omega) ⟨(x1, x2), (x3, x4), ⟨xe, xa, xc, xs, xq⟩⟩ _ hT6 (HY5.out.chg HC56.out hpm) HBY.out.2)
    clear hT6
    have HOR6 := Lib.hid (HOR5.out.chg HC56.out (fun hx => by simp only [List.mem_singleton] at hx; obtain ⟨V, hV, _⟩ := HA.out.map; have := hV.lt; omega))
    clear hml hul hpm
    go_wp2_with (first
      | (go_at_call 96; refine HST.out.mono ?_; rintro e w7 ⟨⟨⟨y1, y2⟩, ⟨y3, y4⟩, ⟨ze, za, zc, zs, zq⟩⟩, rfl, hx7, hl7, hs7, hc7⟩
         obtain ⟨zn, hzn⟩ : ∃ n, Hid (zs.length = n) := ⟨_, Lib.hid rfl⟩
         simp only [EsT.val, hzn.out]
         have ho7 := HOR6.out.chg hc7 (by simp)
         have H7 := Lib.hid (And.intro hx7 (And.intro hl7 (And.intro hs7 hc7)))
         have HO7 := Lib.hid ho7
         have d0 := ho7.cell 0; have f0 := ho7.frozen 0; have d1 := ho7.cell 1; have f1 := ho7.frozen 1; have d2 := ho7.cell 2; have f2 := ho7.frozen 2; have d3 := ho7.cell 3; have f3 := ho7.frozen 3; have d4 := ho7.cell 4; have f4 := ho7.frozen 4; have d5 := ho7.cell 5; have f5 := ho7.frozen 5; have d6 := ho7.cell 6; have f6 := ho7.frozen 6
         simp at d0 d1 d2 d3 d4 d5 d6
         clear ho7 hx7 hl7 hs7 hc7)
      | fail)
    have H9 := Lib.hid (Own.put7 HO7.out (.int .i64 y1) (.int .i64 y2) (.int .i64 y3) (.int .i64 y4) (.int .u64 (ze : Int)) (.slice za zn zc) (.int .i64 zq))
    refine bodyPost_ret (results_row_tmp Tryz.results97 _ _ (w.heap.size + 1) 116 _ (0, 0) _ rfl H9.out Tryz.underlying116 rfl (by kernel_rfl)) rfl ?_
    have h5 := (Chg.refl [w.heap.size + 1] w7).put7 (g := w.heap.size + 1) (by simp) (.int .i64 y1) (.int .i64 y2) (.int .i64 y3) (.int .i64 y4) (.int .u64 (ze : Int)) (.slice za zn zc) (.int .i64 zq)
    have hres : ∀ x ∈ [w.heap.size + 1], x ∉ acM u mp p g b l' := fun x hx hm => by
      simp only [List.mem_singleton] at hx
      subst hx
      unfold acM at hm
      simp only [List.mem_cons] at hm
      have a1 := HA.out.own.lt
      have a2 : mp < w.heap.size := by obtain ⟨V, hV, _⟩ := HA.out.map; exact hV.lt
      have a3 := HA.out.td.dlt
      rcases hm with hm | hm | hm | hm | hm | hm
      · omega
      · omega
      · omega
      · omega
      · omega
      · rcases HL4.out _ hm with h9 | h9
        · have := HA.out.td.lt _ h9; omega
        · have := HWX.out.size; have := HB.out.2.2; have := HGB.out.2.2.size; omega
    have hsz6 : w.heap.size + 2 ≤ w6.heap.size := by have := HB.out.2.2; have := HGB.out.2.2.size; have := HC5.out.size; have := HC56.out.size; omega
    have hres1 : w.heap.size + 1 ∉ acM u mp p g b l' := hres _ (by simp)
    have hres2 := hres1
    unfold acM at hres2
    simp only [List.mem_cons, not_or] at hres2
    have hq1 : LyP _ (fun x => w.heap.size ≤ x ∧ x ∉ acM u mp p g b l') (⟨ze, za, zc, zs, zq⟩ : LyT) := (H7.out.2.1.chg h5 (fun x hx hm => by simp only [List.mem_singleton] at hm; omega)).mono (fun x _ hx => ⟨by omega, fun hm => by
      have h9 := HA6.out.td.lt
      unfold acM at hm
      simp only [List.mem_cons] at hm
      have b1 := HA6.out.own.lt
      have b2 : mp < w6.heap.size := HM6.out.lt
      have b3 := HA6.out.td.dlt
      rcases hm with hm | hm | hm | hm | hm | hm
      · omega
      · omega
      · omega
      · omega
      · omega
      · have := h9 x hm; omega⟩)
    have h8 := HA6.out.kept H7.out.2.2.2
    have hfin : Acs _ B u mp q l' p g b n (calm (cmF n F h h L (L ++ [EA])) (fun _ => none) h (L ++ [EA])) (exec S RX) := ⟨h8.own.chg h5 (by simp; omega), h8.td.chg h5 (fun x hx => by simp only [List.mem_singleton] at hx; subst hx; exact ⟨hres2.2.2.2.2.2, hres2.2.2.1, hres2.2.2.2.1, hres2.2.2.2.2.1⟩), ⟨_, (HM6.out.kept H7.out.2.2.2).chg h5 (by simp; omega), ((HM6'.out.chg H7.out.2.2.2 (by simp)).chg h5 (fun x hx hm => by simp only [List.mem_singleton] at hm; omega)).mono (fun x _ h9 => h9.1)⟩, h8.gd, h8.um, h8.ul, h8.ml⟩
    have hchg : Chg (mp :: l ++ [g, b]) w _ := ((((HWX.out.mono (l' := mp :: l ++ [g, b]) (by simp)).trans (HC5.out.mono (fun x hx => .inl (by simp only [List.mem_append, List.mem_cons, List.not_mem_nil, or_false] at hx ⊢; rcases hx with hx | hx | hx <;> simp [hx])))).trans (HC56.out.mono (fun x hx => .inl (by simp only [List.mem_singleton] at hx; simp [hx])))).trans (H7.out.2.2.2.mono (by simp))).then h5 (fun x hx => .inr (by simp only [List.mem_singleton] at hx; omega))
    refine ⟨⟨(y1, y2), (y3, y4), ⟨ze, za, zc, zs, zq⟩⟩, ?_, l', Lib.hid ⟨by rw [H7.out.1, HBX.out], hq1, H7.out.2.2.1, hfin, fun x hx => (HL4.out x hx).imp id (fun h9 => Nat.le_trans HWX.out.size h9), hchg⟩⟩
    simp only [EsT.val, hzn.out]
    rfl
end Go.Proofs.YtcadnlilijkneaaGreat
