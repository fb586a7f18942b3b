/-
  No pages. No claim of their own.
-/
import Derived.Test.YtmpajlpemabniaaGreatJ32
namespace Go.Proofs.YtmpajlpemabniaaGreat
open Go.RowKit Go.Maps Go.Shelf Go.Deep
set_option linter.unusedVariables false
set_option linter.unusedSimpArgs false

theorem Write_nil (w : World) (a : Int) (k : Int) (a1 : Option Addr) (n1 c1 : Nat) (a2 : Option Addr) (n2 c2 : Nat) : Calls Tryz.prog 23 #[.pointer none, .int .u64 a, cev k a1 n1 c1 a2 n2 c2] w fun e w' => e = .returned (.int .i64 1) ∧ Chg [] w w' := by
  go_enter Tryz.func23, Tryz.ntmps23
  go_wp2_with fail
  go_ret
  exact ⟨rfl, (Chg.refl [] w).alloc _⟩
theorem Read_nil (w : World) (a : Int) : Calls Tryz.prog 32 #[.pointer none, .int .u64 a] w fun e w' => e = .returned (.tuple #[cev 0 none 0 0 none 0 0, .int .i64 1]) ∧ Chg [] w w' := by
  have hob := Own.new w 42 [.int .i64 0, .slice none 0 0, .slice none 0 0]
  have HO := Lib.hid hob
  obtain ⟨w1, HW1⟩ : ∃ W, Hid (w.alloc (.cells #[.int .i64 0, .slice none 0 0, .slice none 0 0] 42) = W) := ⟨_, Lib.hid rfl⟩
  have y2 : w1.cell? ⟨w.heap.size, 0, none⟩ = some (.int .i64 0) := by rw [← HW1.out]; exact (hob.cell 0).trans rfl
  have y3 : w1.cell? ⟨w.heap.size, 1, none⟩ = some (.slice none 0 0) := by rw [← HW1.out]; exact (hob.cell 1).trans rfl
  have y4 : w1.cell? ⟨w.heap.size, 2, none⟩ = some (.slice none 0 0) := by rw [← HW1.out]; exact (hob.cell 2).trans rfl
  have y5 : w1.frozen? ⟨w.heap.size, 0, none⟩ = false := by rw [← HW1.out]; exact hob.frozen 0
  have y6 : w1.frozen? ⟨w.heap.size, 1, none⟩ = false := by rw [← HW1.out]; exact hob.frozen 1
  have y7 : w1.frozen? ⟨w.heap.size, 2, none⟩ = false := by rw [← HW1.out]; exact hob.frozen 2
  have hE2 : Own (((w1.setCell ⟨w.heap.size, 0, none⟩ (.int .i64 0)).setCell ⟨w.heap.size, 1, none⟩ (.slice none 0 0)).setCell ⟨w.heap.size, 2, none⟩ (.slice none 0 0)) w.heap.size 42 [.int .i64 0, .slice none 0 0, .slice none 0 0] := by
    rw [← HW1.out]; exact ((hob.set 0 (.int .i64 0)).set 1 (.slice none 0 0)).set 2 (.slice none 0 0)
  have HC : Hid (Chg [] w (((w1.setCell ⟨w.heap.size, 0, none⟩ (.int .i64 0)).setCell ⟨w.heap.size, 1, none⟩ (.slice none 0 0)).setCell ⟨w.heap.size, 2, none⟩ (.slice none 0 0))) := by
    rw [← HW1.out]
    exact Lib.hid (((((Chg.refl [] w).alloc _).setCell (.inr (Nat.le_refl _)) _).setCell (.inr (Nat.le_refl _)) _).setCell (.inr (Nat.le_refl _)) _)
  have HE := Lib.hid hE2
  clear hob hE2
  go_enter Tryz.func32, Tryz.ntmps32
  go_upto_region 1 with fail
  rw [HW1.out]
  go_wp2_with fail
  have r0 := HE.out.cell 0
  have r1 := HE.out.cell 1
  have r2 := HE.out.cell 2
  simp only [List.getElem?_cons_zero, List.getElem?_cons_succ] at r0 r1 r2
  refine bodyPost_ret (v := .tuple #[cev 0 none 0 0 none 0 0, .int .i64 1]) (by simp [results, Tryz.results32, go_sem, r0, r1, r2]) rfl ⟨rfl, HC.out⟩
theorem Trim_nil (w : World) (a : Int) : Calls Tryz.prog 24 #[.pointer none, .int .u64 a] w fun e w' => e = .returned (.int .i64 1) ∧ w' = w := by
  go_enter Tryz.func24, Tryz.ntmps24
  go_wp2_with fail
  go_ret
  exact ⟨rfl, rfl⟩
theorem TrimOne_nil (w : World) (a : Int) : Calls Tryz.prog 25 #[.pointer none, .int .u64 a] w fun e w' => e = .returned (.int .i64 1) ∧ w' = w := by
  go_enter Tryz.func25, Tryz.ntmps25
  go_wp2_with fail
  go_ret
  exact ⟨rfl, rfl⟩
theorem Seal_nil (w : World) (a : Int) : Calls Tryz.prog 26 #[.pointer none, .int .u64 a] w fun e w' => e = .returned (.int .i64 1) ∧ w' = w := by
  go_enter Tryz.func26, Tryz.ntmps26
  go_wp2_with fail
  go_ret
  exact ⟨rfl, rfl⟩
theorem OpenE_nil (w : World) (a : Int) : Calls Tryz.prog 27 #[.pointer none, .int .u64 a] w fun e w' => e = .returned (.int .i64 1) ∧ w' = w := by
  go_enter Tryz.func27, Tryz.ntmps27
  go_wp2_with fail
  go_ret
  exact ⟨rfl, rfl⟩
theorem Opened_nil (w : World) : Calls Tryz.prog 31 #[.pointer none] w fun e w' => e = .returned (.int .u64 0) ∧ w' = w := by
  go_enter Tryz.func31, Tryz.ntmps31
  go_wp2_with fail
  go_ret
  exact ⟨rfl, rfl⟩
theorem Epoch_nil (w : World) : Calls Tryz.prog 28 #[.pointer none] w fun e w' => e = .returned (.int .u64 0) ∧ w' = w := by
  go_enter Tryz.func28, Tryz.ntmps28
  go_wp2_with fail
  go_ret
  exact ⟨rfl, rfl⟩
theorem Mark_nil (w : World) : Calls Tryz.prog 29 #[.pointer none] w fun e w' => e = .returned (.int .u64 0) ∧ w' = w := by
  go_enter Tryz.func29, Tryz.ntmps29
  go_wp2_with fail
  go_ret
  exact ⟨rfl, rfl⟩
theorem Tail_nil (w : World) : Calls Tryz.prog 30 #[.pointer none] w fun e w' => e = .returned (.int .u64 0) ∧ w' = w := by
  go_enter Tryz.func30, Tryz.ntmps30
  go_wp2_with fail
  go_ret
  exact ⟨rfl, rfl⟩
theorem Trimmed_nil (w : World) : Calls Tryz.prog 35 #[.pointer none] w fun e w' => e = .returned (.slice none 0 0) ∧ w' = w := by
  go_enter Tryz.func35, Tryz.ntmps35
  go_wp2_with fail
  go_ret
  exact ⟨rfl, rfl⟩
theorem Written_nil (w : World) : Calls Tryz.prog 34 #[.pointer none] w fun e w' => e = .returned (.slice none 0 0) ∧ w' = w := by
  go_enter Tryz.func34, Tryz.ntmps34
  go_wp2_with fail
  go_ret
  exact ⟨rfl, rfl⟩
theorem Opened_any (w : World) {u : Nat} {l : List Nat} {q p g b n : Nat} {X : TS} {sq sp sb : Nat} {v : Value} {C : List Nat} {S : PS} (P : Pgs w u l q p g b n X sq sp sb v C S) : Calls Tryz.prog 31 #[.pointer (some ⟨u, 0, none⟩)] w fun e w' => e = .returned (.int .u64 (S.op : Int)) ∧ w' = w := by
  obtain ⟨u0, u1⟩ := P.own.two
  obtain ⟨h0, h1, h2, h3, h4⟩ := P.sta.cells
  clear P
  go_enter Tryz.func31, Tryz.ntmps31
  go_wp2_with fail
  go_ret
  exact ⟨rfl, rfl⟩
theorem Epoch_any (w : World) {u : Nat} {l : List Nat} {q p g b n : Nat} {X : TS} {sq sp sb : Nat} {v : Value} {C : List Nat} {S : PS} (P : Pgs w u l q p g b n X sq sp sb v C S) : Calls Tryz.prog 28 #[.pointer (some ⟨u, 0, none⟩)] w fun e w' => e = .returned (.int .u64 (S.ep : Int)) ∧ w' = w := by
  obtain ⟨u0, u1⟩ := P.own.two
  obtain ⟨h0, h1, h2, h3, h4⟩ := P.sta.cells
  clear P
  go_enter Tryz.func28, Tryz.ntmps28
  go_wp2_with fail
  go_ret
  exact ⟨rfl, rfl⟩
theorem Mark_any (w : World) {u : Nat} {l : List Nat} {q p g b n : Nat} {X : TS} {sq sp sb : Nat} {v : Value} {C : List Nat} {S : PS} (P : Pgs w u l q p g b n X sq sp sb v C S) : Calls Tryz.prog 29 #[.pointer (some ⟨u, 0, none⟩)] w fun e w' => e = .returned (.int .u64 (S.mr : Int)) ∧ w' = w := by
  obtain ⟨u0, u1⟩ := P.own.two
  obtain ⟨h0, h1, h2, h3, h4⟩ := P.sta.cells
  clear P
  go_enter Tryz.func29, Tryz.ntmps29
  go_wp2_with fail
  go_ret
  exact ⟨rfl, rfl⟩
theorem Written_any (w : World) {u : Nat} {l : List Nat} {q p g b n : Nat} {X : TS} {sq sp sb : Nat} {v : Value} {C : List Nat} {S : PS} (P : Pgs w u l q p g b n X sq sp sb v C S) : Calls Tryz.prog 34 #[.pointer (some ⟨u, 0, none⟩)] w fun e w' => ∃ v, e = .returned v ∧ Lst w' w.heap.size 37 v (u64s (addrs S.m)) ∧ Chg [] w w' := by
  obtain ⟨u0, u1⟩ := P.own.two
  have HT := Lib.hid (written_any w P.sta)
  clear P
  go_enter Tryz.func34, Tryz.ntmps34
  go_wp2_with (first
    | (go_at_call 74; refine HT.out.mono ?_; rintro e w2 ⟨t, rfl, ht, hc2⟩)
    | fail)
  go_ret
  exact ⟨t, rfl, ht, hc2⟩
theorem Trimmed_any (w : World) {u : Nat} {l : List Nat} {q p g b n : Nat} {X : TS} {sq sp sb : Nat} {v : Value} {C : List Nat} {S : PS} (P : Pgs w u l q p g b n X sq sp sb v C S) : Calls Tryz.prog 35 #[.pointer (some ⟨u, 0, none⟩)] w fun e w' => ∃ v, e = .returned v ∧ Lr w' w.heap.size 86 v S.T ∧ Chg [] w w' := by
  obtain ⟨u0, u1⟩ := P.own.two
  obtain ⟨h0, h1, h2, h3, h4⟩ := P.sta.cells
  have HT := Lib.hid (Runs_some w sp v S.T P.sta.set)
  clear P
  go_enter Tryz.func35, Tryz.ntmps35
  go_wp2_with (first
    | (go_at_call 75; refine HT.out.mono ?_; rintro e w2 ⟨t, rfl, ht, hb2⟩)
    | fail)
  go_ret
  exact ⟨t, rfl, ht, low_chg hb2⟩
end Go.Proofs.YtmpajlpemabniaaGreat
namespace Go.Proofs.YtmpajlpemabniaaGreat
open Go.RowKit Go.Maps Go.Shelf Go.Deep
set_option linter.unusedVariables false
set_option linter.unusedSimpArgs false

theorem POpen_nil (w : World) : Calls Tryz.prog 12 #[.pointer none] w fun e w' => e = .returned (.tuple #[.pointer none, .int .i64 1]) ∧ w' = w := by
  go_enter Tryz.func12, Tryz.ntmps12
  go_wp2_with (first
    | (go_at_call 37; refine (open_nil _).mono ?_; rintro e w2 ⟨rfl, rfl⟩)
    | fail)
  go_ret2
  exact ⟨rfl, rfl⟩
theorem Pgs.fresh {w w2 w3 w5 : World} {l : List Nat} {q p g b n : Nat} {X : TS} {sq sp sb : Nat} {v : Value} {S : PS} (hc2 : Chg [] w w2) (ht : TD w2 l q p g b n X) (hl : ∀ x ∈ l, w.heap.size ≤ x) (hpg : p < w.heap.size ∧ g < w.heap.size ∧ b < w.heap.size)
    (hc3 : Chg [] w2 w3) (hs : Sta w3 sq sp v sb [] S) (hn : ∀ x ∈ sq :: sp :: sb :: rowOf v, w2.heap.size ≤ x) (hc5 : Chg [] (w3.alloc (.cells #[.pointer (some ⟨q, 0, none⟩), .pointer (some ⟨sq, 0, none⟩)] 95)) w5) :
    Pgs w5 w3.heap.size l q p g b n X sq sp sb v [] S ∧ (∀ x ∈ w3.heap.size :: l ++ stB sq sp sb v, w.heap.size ≤ x) ∧ Chg [] w w5 := by
  have hc4 : Chg [] w3 (w3.alloc (.cells #[.pointer (some ⟨q, 0, none⟩), .pointer (some ⟨sq, 0, none⟩)] 95)) := (Chg.refl [] w3).alloc _
  have h2 := hc2.size
  have h3 := hc3.size
  have hsl := hs.lt
  have hlt := ht.lt
  refine ⟨⟨(Own.new w3 95 [.pointer (some ⟨q, 0, none⟩), .pointer (some ⟨sq, 0, none⟩)]).chg hc5 (by simp), ht.kept ((hc3.trans hc4).trans hc5), hs.kept (hc4.trans hc5), fun hx => ?_, fun hx => Nat.lt_irrefl _ (hsl _ hx), fun x hx => ⟨fun hy => ?_, ?_⟩, fun x hx => by cases hx⟩, fun x hx => ?_, ((hc2.trans hc3).trans hc4).trans hc5⟩
  · rcases List.mem_append.1 hx with hx | hx
    · have := hlt _ hx; omega
    · simp at hx; omega
  · have h5 := hn x hx
    rcases List.mem_append.1 hy with hy | hy
    · have := hlt _ hy; omega
    · simp at hy; omega
  · have h5 := hn x hx; omega
  · rcases List.mem_append.1 hx with hx | hx
    · rcases List.mem_cons.1 hx with rfl | hx
      · omega
      · exact hl x hx
    · have := hn x hx; omega
set_option maxHeartbeats 1000000 in
theorem POpen_fresh (w : World) {p g b n : Nat} {F : Nat → Sec} {h : Nat} (hd : Dsk w p g b n F (fun _ => none)) (hn : 3 ≤ n) (o : Opens n F h []) :
    Calls Tryz.prog 12 #[.pointer (some ⟨p, 0, none⟩)] w fun e w' => ∃ u l q sq sp sb v, e = .returned (.tuple #[.pointer (some ⟨u, 0, none⟩), .int .i64 0]) ∧ Hid (Pgs w' u l q p g b n (calm F (fun _ => none) h []) sq sp sb v [] PS.zero) ∧ Hid (∀ x ∈ u :: l ++ stB sq sp sb v, w.heap.size ≤ x) ∧ Chg [] w w' := by
  have hnn : now F (fun _ => none) = F := rfl
  have HO := Lib.hid (open_at w hd hn (h := h) (L := []) (by rw [hnn]; exact o))
  have HD := Lib.hid hd
  clear hd o hnn
  go_enter Tryz.func12, Tryz.ntmps12
  go_wp2_with (first
    | (go_at_call 37; refine HO.out.mono ?_; rintro e w2 ⟨q, l, rfl, ht, hl, hc2⟩
       have HC2 := Lib.hid hc2; clear hc2)
    | (go_at_call 38; refine (newState_any _).mono ?_; rintro e w3 ⟨sq, sp, v, sb, rfl, hs3, hl3, hc3⟩
       have HS3 := Lib.hid hs3; have HL3 := Lib.hid hl3; have HC3 := Lib.hid hc3; clear hs3 hl3 hc3
       have HLEN := Lib.hid (len_TD (ht.out.kept (HC3.out.alloc (.cells #[.pointer (some ⟨q, 0, none⟩), .pointer (some ⟨sq, 0, none⟩)] 95))))
       simp only [calm, List.length_nil] at HLEN)
    | (go_at_call 39; refine HLEN.out.mono ?_; rintro e w5 ⟨rfl, hc5⟩)
    | fail)
  refine wp_loop_rounds 1 ?_
  rw [rounds_succ]
  go_wp2_with fail
  go_ret2
  obtain ⟨r1, r2, r3⟩ := Pgs.fresh HC2.out ht.out hl.out ⟨HD.out.ltp, HD.out.ltg, HD.out.ltb⟩ HC3.out HS3.out HL3.out hc5
  exact ⟨_, l, q, sq, sp, sb, v, rfl, Lib.hid r1, Lib.hid r2, r3⟩
end Go.Proofs.YtmpajlpemabniaaGreat
namespace Go.Proofs.YtmpajlpemabniaaGreat
open Go.RowKit Go.Maps Go.Shelf Go.Deep
set_option linter.unusedVariables false
set_option linter.unusedSimpArgs false

theorem Pgs.kept {w w' : World} {u : Nat} {l : List Nat} {q p g b n : Nat} {X : TS} {sq sp sb : Nat} {v : Value} {C : List Nat} {S : PS} (P : Pgs w u l q p g b n X sq sp sb v C S) (hc : Chg [] w w') : Pgs w' u l q p g b n X sq sp sb v C S :=
  ⟨P.own.chg hc (by simp), P.td.kept hc, P.sta.kept hc, P.ul, P.us, P.sl, P.cl⟩
/-- with a new cell's blocks beside -/
theorem Pgs.wide {w W : World} {u : Nat} {l : List Nat} {q p g b n : Nat} {X : TS} {sq sp sb : Nat} {v : Value} {C : List Nat} {S : PS} (P : Pgs w u l q p g b n X sq sp sb v C S) (hc : Chg [] w W) {A : CeT} (hA : NewC w W A) : Pgs W u l q p g b n X sq sp sb v (C ++ A.blocks) S := by
  have hd := P.td.dlt
  refine ⟨P.own.chg hc (by simp), P.td.kept hc, (P.sta.kept hc).mono (fun x hx => List.mem_append_left _ hx) (fun x hx => ?_), P.ul, P.us, P.sl, fun x hx => ?_⟩
  · rcases List.mem_append.1 hx with hx | hx
    · exact ⟨Nat.lt_of_lt_of_le (P.sta.ap x hx).1 hc.size, (P.sta.ap x hx).2⟩
    · have h1 := hA.new x hx
      refine ⟨h1.2, fun h2 => ?_⟩
      have := P.sta.lt x h2
      omega
  · rcases List.mem_append.1 hx with hx | hx
    · exact P.cl x hx
    · have h1 := hA.new x hx
      intro h2
      rcases List.mem_append.1 h2 with h2 | h2
      · have := P.td.lt x h2; omega
      · simp at h2; omega
/-- what a call that changed pages leaves: seen from w -/
def Pgc (w : World) (u : Nat) (l : List Nat) (q p g b n : Nat) (sq sp sb : Nat) (v : Value) (X : TS) (S : PS) (w' : World) : Prop :=
  ∃ l' v' C', Pgs w' u l' q p g b n X sq sp sb v' C' S ∧ (∀ x ∈ l', x ∈ l ∨ w.heap.size ≤ x) ∧ Nb w v v' ∧ Chg (l ++ [g, b] ++ stB sq sp sb v) w w'
theorem Write_room (w : World) {u : Nat} {l : List Nat} {q p g b n : Nat} {F : Nat → Sec} {h : Nat} {L : List Rec} {sq sp sb : Nat} {v : Value} {C : List Nat} {S : PS} (P : Pgs w u l q p g b n (calm F (fun _ => none) h L) sq sp sb v C S) (a : Nat) (A : CeT) (ha : a < 1048576)
    (h1 : Ro w w.heap.size A.a (u8s A.x.d)) (h2 : Ro w w.heap.size A.a2 (bcs A.x.b)) (hr : right A.x = true) (ht : S.tr a = false) (hm : S.m a = none) (hl : S.T.length ≤ 999999) (hfit : (frs L).length + 2 + (encR ⟨2, a, 0, A.x⟩).length ≤ hsec n * 64) :
    Calls Tryz.prog 23 #[.pointer (some ⟨u, 0, none⟩), .int .u64 (a : Int), A.val] w fun e w' => e = .returned (.int .i64 0) ∧ Hid (Pgc w u l q p g b n sq sp sb v (calm (cmF n F h h L (L ++ [encR ⟨2, a, 0, A.x⟩])) (fun _ => none) h (L ++ [encR ⟨2, a, 0, A.x⟩])) (exec S ⟨2, a, 0, A.x⟩) w') := by
  have hok : okN ⟨2, a, 0, A.x⟩ := ⟨by simp, by simp, by simpa using ha, by simp, by simp, fun _ => hr, by simp⟩
  have hal : allow S ⟨2, a, 0, A.x⟩ = true := by simp [allow, ht, hm]
  refine Write_go w P a A ha h1 h2 hr ht hm 0 _ (fun W A' hW hx hN => ?_)
  have hP := P.wide hW hN
  have hC : CellV W (C ++ A'.blocks) A' := hN.cellV.mono (fun x hx => List.mem_append_right _ hx)
  have hch := change_room W hP ⟨2, a, 0, A.x⟩ A' (fun _ => ⟨hx, hC⟩) hok hal hl hfit
  refine Calls.mono (R' := _) hch ?_
  rintro e w' ⟨he, l', v', hp, hl', hn, hc⟩
  exact ⟨he, Lib.hid ⟨l', v', _, hp.out, fun x hx => (hl' x hx).imp id (fun h9 => Nat.le_trans hW.size h9), hn.mono hW.size, (hW.mono (by simp)).trans hc⟩⟩
theorem TrimOne_room (w : World) {u : Nat} {l : List Nat} {q p g b n : Nat} {F : Nat → Sec} {h : Nat} {L : List Rec} {sq sp sb : Nat} {v : Value} {C : List Nat} {S : PS} (P : Pgs w u l q p g b n (calm F (fun _ => none) h L) sq sp sb v C S) (a : Nat) (ha : a < 1048576)
    (ht : S.tr a = false) (hl : S.T.length ≤ 999999) (hfit : (frs L).length + 2 + (encR ⟨4, a, a + 1, zCe⟩).length ≤ hsec n * 64) :
    Calls Tryz.prog 25 #[.pointer (some ⟨u, 0, none⟩), .int .u64 (a : Int)] w fun e w' => e = .returned (.int .i64 0) ∧ Hid (Pgc w u l q p g b n sq sp sb v (calm (cmF n F h h L (L ++ [encR ⟨4, a, a + 1, zCe⟩])) (fun _ => none) h (L ++ [encR ⟨4, a, a + 1, zCe⟩])) (exec S ⟨4, a, a + 1, zCe⟩) w') := by
  have hok : okN ⟨4, a, a + 1, zCe⟩ := ⟨by simp, by simp, by simp; omega, by simp; omega, by simp, by simp, by simp⟩
  have hal : allow S ⟨4, a, a + 1, zCe⟩ = true := by simp [allow]; omega
  refine TrimOne_go w P a ha ht 0 _ (fun W hW => ?_)
  have hP := P.kept hW
  have hch := change_room W hP ⟨4, a, a + 1, zCe⟩ zA (fun e => by simp at e) hok hal hl hfit
  refine Calls.mono (R' := _) hch ?_
  rintro e w' ⟨he, l', v', hp, hl', hn, hc⟩
  exact ⟨he, Lib.hid ⟨l', v', _, hp.out, fun x hx => (hl' x hx).imp id (fun h9 => Nat.le_trans hW.size h9), hn.mono hW.size, (hW.mono (by simp)).trans hc⟩⟩
end Go.Proofs.YtmpajlpemabniaaGreat
namespace Go.Proofs.YtmpajlpemabniaaGreat
open Go.RowKit Go.Maps Go.Shelf Go.Deep
set_option linter.unusedVariables false
set_option linter.unusedSimpArgs false

def jC : Ce := ⟨2, [], []⟩
def dC : Ce := ⟨1, [], []⟩
def jA : CeT := ⟨jC, none, 0, none, 0⟩
def dA : CeT := ⟨dC, none, 0, none, 0⟩
def aS1 : PS := exec PS.zero ⟨2, 5, 0, jC⟩
def aS2 : PS := exec aS1 ⟨4, 7, 7 + 1, zCe⟩
theorem jright : right jC = true := by decide
theorem dright : right dC = true := by decide
theorem aS1_tr (a : Nat) : aS1.tr a = false := by
  unfold PS.tr aS1 exec PS.zero
  simp [mem]
theorem aS1_m : aS1.m 5 = some jC := by simp [aS1, exec, updC]
theorem aS2_m : aS2.m 5 = some jC := by simp [aS2, exec, rmC, aS1_m]
theorem aS2_tr : aS2.tr 7 = true := by
  have h : aS2.T = [(7, 8)] := by decide
  unfold PS.tr
  rw [h]
  simp [mem, inR]
theorem aS2_tail : IsTail aS2 8 := by
  have h : aS2.T = [(7, 8)] := by decide
  have hm : aS2.mr = 0 := by decide
  refine ⟨by rw [hm]; omega, fun r hr => ?_, fun a ha => ?_, .inr (.inl ⟨(7, 8), by rw [h]; simp, rfl⟩)⟩
  · rw [h] at hr; simp at hr; subst hr; exact Nat.le_refl _
  · have h2 := (mem_addrs.1 ha).2
    have h3 : a = 5 := by
      by_cases e : a = 5
      · exact e
      · simp [aS2, exec, rmC, aS1, updC, PS.zero, e] at h2
    omega
theorem aL1 : (encR ⟨2, 5, 0, jC⟩).length = 4 := by
  rw [encR_len]
  simp [encC, jC]
theorem aL2 : (encR ⟨4, 7, 7 + 1, zCe⟩).length = 6 := by
  rw [encR_len]
  simp
theorem frs_one8 (r : Rec) : (frs [r]).length = r.length + 2 := by
  show (frame r ++ frs []).length = _
  rw [List.length_append, frame_len]
  show 2 + r.length + 0 = _
  omega
theorem pnew_ex (w : World) (n : Nat) (h1 : 1 ≤ n) (h2 : n ≤ 1024) :
    Calls Tryz.prog 10 #[.int .i64 n] w fun e w' => ∃ p g b, e = .returned (.tuple #[.pointer (some ⟨p, 0, none⟩), .int .i64 0]) ∧ w.heap.size ≤ p ∧ w.heap.size ≤ g ∧ w.heap.size ≤ b ∧ Dsk w' p g b n (fun _ => zsec) (fun _ => none) ∧ Chg [] w w' :=
  (new_ok w n h1 h2).mono fun e w' ⟨he, hd, hc⟩ => ⟨_, _, _, he, by omega, by omega, by omega, hd, hc⟩
/-- blocks that are new since w: a call that turns only these changes nothing of w -/
theorem Pgc.low {w0 w w' : World} {u : Nat} {l : List Nat} {q p g b n sq sp sb : Nat} {v : Value} {X : TS} {S : PS} (h : Pgc w u l q p g b n sq sp sb v X S w') (hc : Chg [] w0 w) (hn : ∀ x ∈ l ++ [g, b] ++ stB sq sp sb v, w0.heap.size ≤ x) :
    ∃ l' v' C', Pgs w' u l' q p g b n X sq sp sb v' C' S ∧ (∀ x ∈ l' ++ [g, b] ++ stB sq sp sb v', w0.heap.size ≤ x) ∧ Chg [] w0 w' := by
  obtain ⟨l', v', C', h1, h2, h3, h4⟩ := h
  have hsz := hc.size
  refine ⟨l', v', C', h1, fun x hx => ?_, hc.then h4 (fun x hx => .inr (hn x hx))⟩
  simp only [List.mem_append, stB, List.mem_cons, mem_rowOf] at hx hn
  rcases hx with (hx | hx) | hx
  · rcases h2 x hx with h5 | h5
    · exact hn x (.inl (.inl h5))
    · omega
  · exact hn x (.inl (.inr hx))
  · rcases hx with e | e | e | e
    · exact hn x (.inr (.inl e))
    · exact hn x (.inr (.inr (.inl e)))
    · exact hn x (.inr (.inr (.inr (.inl e))))
    · rcases h3 with h5 | h5
      · exact hn x (.inr (.inr (.inr (.inr (h5 ▸ e)))))
      · have := h5 x e; omega
theorem aw1 (w : World) {u : Nat} {l : List Nat} {q p g b sq sp sb : Nat} {v : Value} {C : List Nat} (P : Pgs w u l q p g b 9 (calm (fun _ => zsec) (fun _ => none) 0 []) sq sp sb v C PS.zero) :
    Calls Tryz.prog 23 #[.pointer (some ⟨u, 0, none⟩), .int .u64 5, .agg #[.int .i64 2, .slice none 0 0, .slice none 0 0]] w fun e w' => ∃ F L, e = .returned (.int .i64 0) ∧ Hid (Pgc w u l q p g b 9 sq sp sb v (calm F (fun _ => none) 0 L) aS1 w') ∧ Hid ((frs L).length = 6) := by
  have h := Write_room w P 5 jA (by omega) (Ro.nil _ _ _) (Ro.nil _ _ _) jright (by simp [PS.zero, PS.tr, mem]) rfl (by simp [PS.zero]) (by show (frs []).length + 2 + (encR ⟨2, 5, 0, jC⟩).length ≤ _; rw [aL1]; decide)
  refine Calls.mono (R' := _) h ?_
  rintro e w' ⟨h1, h2⟩
  exact ⟨_, _, h1, h2, Lib.hid (by rw [List.nil_append, frs_one8]; show (encR ⟨2, 5, 0, jC⟩).length + 2 = 6; rw [aL1])⟩
theorem aw2 (w : World) {u : Nat} {l : List Nat} {q p g b sq sp sb : Nat} {v : Value} {C : List Nat} {X : TS} (P : Pgs w u l q p g b 9 X sq sp sb v C aS1) :
    Calls Tryz.prog 23 #[.pointer (some ⟨u, 0, none⟩), .int .u64 5, .agg #[.int .i64 1, .slice none 0 0, .slice none 0 0]] w fun e w' => e = .returned (.int .i64 81) ∧ Chg [] w w' :=
  Write_wr w P 5 dA (by omega) (Ro.nil _ _ _) (Ro.nil _ _ _) dright (aS1_tr 5) (by rw [aS1_m]; rfl)
theorem aS1_T : aS1.T.length ≤ 999999 := by
  have h : aS1.T = [] := rfl
  rw [h]; simp
theorem at7 (w : World) {u : Nat} {l : List Nat} {q p g b sq sp sb : Nat} {v : Value} {C : List Nat} {F : Nat → Sec} {L : List Rec} (P : Pgs w u l q p g b 9 (calm F (fun _ => none) 0 L) sq sp sb v C aS1) (hL : (frs L).length = 6) :
    Calls Tryz.prog 25 #[.pointer (some ⟨u, 0, none⟩), .int .u64 7] w fun e w' => ∃ X, e = .returned (.int .i64 0) ∧ Hid (Pgc w u l q p g b 9 sq sp sb v X aS2 w') := by
  have hf : (frs L).length + 2 + (encR ⟨4, 7, 7 + 1, zCe⟩).length ≤ hsec 9 * 64 := by rw [hL, aL2]; decide
  have h := TrimOne_room w P 7 (by omega) (aS1_tr 7) aS1_T hf
  refine Calls.mono (R' := _) h ?_
  rintro e w' ⟨h1, h2⟩
  exact ⟨_, h1, h2⟩
theorem ar5 (w : World) {u : Nat} {l : List Nat} {q p g b sq sp sb : Nat} {v : Value} {C : List Nat} {X : TS} (P : Pgs w u l q p g b 9 X sq sp sb v C aS2) :
    Calls Tryz.prog 32 #[.pointer (some ⟨u, 0, none⟩), .int .u64 5] w fun e w' => ∃ a n c a' n' c', e = .returned (.tuple #[cev 2 a n c a' n' c', .int .i64 0]) ∧ Chg [] w w' := by
  refine Calls.mono (R' := _) (Read_ok w P 5 jC aS2_m) ?_
  rintro e w' ⟨⟨⟨k6, d6, b6⟩, a6, c6, aa6, cc6⟩, h1, hx6, _, hc6⟩
  have hk6 : k6 = 2 := congrArg Ce.k hx6
  subst hk6
  exact ⟨_, _, _, _, _, _, h1, hc6⟩
theorem ar7 (w : World) {u : Nat} {l : List Nat} {q p g b sq sp sb : Nat} {v : Value} {C : List Nat} {X : TS} (P : Pgs w u l q p g b 9 X sq sp sb v C aS2) :
    Calls Tryz.prog 32 #[.pointer (some ⟨u, 0, none⟩), .int .u64 7] w fun e w' => e = .returned (.tuple #[cev 0 none 0 0 none 0 0, .int .i64 83]) ∧ Chg [] w w' :=
  Read_tr w P 7 (by omega) aS2_tr
theorem at8 (w : World) {u : Nat} {l : List Nat} {q p g b sq sp sb : Nat} {v : Value} {C : List Nat} {X : TS} (P : Pgs w u l q p g b 9 X sq sp sb v C aS2) :
    Calls Tryz.prog 30 #[.pointer (some ⟨u, 0, none⟩)] w fun e w' => e = .returned (.int .u64 8) ∧ Chg [] w w' := by
  refine Calls.mono (R' := _) (Tail_any w P) ?_
  rintro e w' ⟨t, h1, ht, hc⟩
  obtain rfl := ht.uniq aS2_tail
  exact ⟨h1, hc⟩
set_option maxHeartbeats 2000000 in
set_option maxRecDepth 100000 in
theorem alive8_any (w : World) : Calls Tryz.prog 9 #[] w fun e w' => e = .returned (.bool true) ∧ Chg [] w w' := by
  have H0 := Lib.hid (pnew_ex w 9 (by omega) (by omega))
  go_enter Tryz.func9, Tryz.ntmps9
  go_wp2_with fail
  refine H0.out.mono ?_
  rintro e w1 ⟨p, g, b, rfl, hp, hg, hb, hd1, hc1⟩
  have HC1 := Lib.hid hc1
  have HO := Lib.hid (POpen_fresh w1 hd1 (by omega) (opens_zero 9))
  have HB := Lib.hid (And.intro hg hb)
  clear hd1 hc1 hp hg hb
  go_wp2_with fail
  refine HO.out.mono ?_
  rintro e w2 ⟨u, l, q, sq, sp, sb, v, rfl, hP2, hl2, hc2⟩
  have HC2 := Lib.hid (HC1.out.trans hc2)
  have HL2 : Hid (∀ x ∈ l ++ [g, b] ++ stB sq sp sb v, w.heap.size ≤ x) := Lib.hid (fun x hx => by
    have h1 := HC1.out.size
    have h2 := HB.out
    have h3 := hl2.out x
    simp only [List.mem_append, List.mem_cons, List.not_mem_nil, or_false] at hx h3
    rcases hx with (hx | hx | hx) | hx
    · exact Nat.le_trans h1 (h3 (.inl (.inr hx)))
    · omega
    · omega
    · exact Nat.le_trans h1 (h3 (.inr hx)))
  have HW1 := Lib.hid (aw1 w2 hP2.out)
  clear hc2 hl2
  go_wp2_with fail
  refine HW1.out.mono ?_
  rintro e w3 ⟨F3, L3', rfl, hp3, hf3⟩
  obtain ⟨l3, v3, C3, hP3, hL3, hc3⟩ := hp3.out.low HC2.out HL2.out
  have HP3 := Lib.hid hP3; have HL3 := Lib.hid hL3; have HC3 := Lib.hid hc3
  clear hp3 hP3 hL3 hc3
  have HW2 := Lib.hid (aw2 w3 HP3.out)
  go_wp2_with fail
  refine HW2.out.mono ?_
  rintro e w4 ⟨rfl, hc4⟩
  have HP4 := Lib.hid (HP3.out.kept hc4)
  have HC4 := Lib.hid (HC3.out.trans hc4)
  clear hc4
  have HT := Lib.hid (at7 w4 HP4.out hf3.out)
  go_wp2_with fail
  refine HT.out.mono ?_
  rintro e w5 ⟨X5, rfl, hp5⟩
  obtain ⟨l5, v5, C5, hP5, hL5, hc5⟩ := hp5.out.low HC4.out HL3.out
  have HP5 := Lib.hid hP5; have HC5 := Lib.hid hc5
  clear hp5 hP5 hL5 hc5
  have HR1 := Lib.hid (ar5 w5 HP5.out)
  go_wp2_with fail
  refine HR1.out.mono ?_
  rintro e w6 ⟨a6, n6, c6, aa6, nn6, cc6, rfl, hc6⟩
  have HC6 := Lib.hid (HC5.out.trans hc6)
  have HP6 := Lib.hid (HP5.out.kept hc6)
  have hob := Own.new w6 42 [.int .i64 2, .slice a6 n6 c6, .slice aa6 nn6 cc6]
  have HOB := Lib.hid hob
  have HR2 := Lib.hid (fun o => ar7 (w6.alloc o) (HP6.out.kept ((Chg.refl [] w6).alloc o)))
  clear hc6 hob
  go_wp2_with fail
  refine (HR2.out _).mono ?_
  rintro e w7 ⟨rfl, hc7⟩
  have hk7 : ∀ o, (w7.alloc o).cell? ⟨w6.heap.size, 0, none⟩ = some (.int .i64 2) := fun o => (hc7.alloc o).cell (by exact (HOB.out.cell 0).trans rfl) (by simp)
  have HC7 := Lib.hid ((HC6.out.alloc _).trans hc7)
  have HT8 := Lib.hid (fun o => at8 (w7.alloc o) (HP6.out.kept ((((Chg.refl [] w6).alloc _).trans hc7).alloc o)))
  clear hc7
  go_wp2_with fail
  refine (HT8.out _).mono ?_
  rintro e w8 ⟨rfl, hc8⟩
  go_wp2_with fail
  go_ret
  exact ⟨rfl, (HC7.out.alloc _).trans hc8⟩
end Go.Proofs.YtmpajlpemabniaaGreat
