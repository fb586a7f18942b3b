/-
  Contract of the live question that the statements of package disk ask. No claim of its own.
-/
import Derived.Test.YtfgniggppafelaaDkX
import Derived.Test.YtfgniggppafelaaDkF
import Derived.Lib.SlBytesConst
namespace Go.Proofs.Ytfgniggppafelaa
open Go.RowKit Go.Maps Go.Shelf
set_option linter.unusedVariables false
set_option linter.unusedSimpArgs false

theorem ro_marked (w : World) (bs : List UInt8) (t : TypeId) (fr : Nat × Nat) : Ro (w.alloc (.cells (u8s bs).toArray t fr)) (w.heap.size + 1) (some ⟨w.heap.size, 0, none⟩) (u8s bs) := by
  refine .inr ⟨w.heap.size, 0, rfl, by omega, fun i hi => ?_⟩
  rw [Nat.zero_add]
  refine (cell_of_row _ w.heap.size i (u8s bs).toArray t fr (World.alloc_heap_new w _)).trans ?_
  simp [List.getD, List.getElem?_eq_getElem hi]
theorem fill_lit (w : World) (bs : List UInt8) (c : Nat) (fr : Nat × Nat) :
    Calls Try.prog 12 #[.slice (some ⟨w.heap.size, 0, none⟩) bs.length c] (w.alloc (.cells (u8s bs).toArray 5 fr)) fun e w' => e = .returned (sv (fillS bs)) ∧ Chg [] w w' := by
  refine (fill_any _ _ bs c _ (ro_marked w bs _ fr) (by simp)).mono fun e w' ⟨he, hc⟩ => ⟨he, ((Chg.refl [] w).alloc _).trans hc⟩
theorem conv4 {w : World} {g : Nat} {S : Sec} (h : w.rangeAt g 0 (u8s S)) (l : List UInt8) (c : Nat) (hl : S.take l.length = l) :
    (convert 31 9 (.slice (some ⟨g, 0, none⟩) l.length c)).run Try.prog w = .ok (.string ⟨l.toArray⟩) w :=
  run_convert_bytes_back w _ _ _ _ _ l Try.underlying31 Try.underlying5 Try.underlying9 fun j hj => by
    have h1 : S[j]? = some l[j] := by
      have h2 : (S.take l.length)[j]? = some l[j] := by rw [hl]; exact List.getElem?_eq_getElem hj
      rwa [List.getElem?_take, if_pos hj] at h2
    have := h j (.int .u8 (l[j].toNat : Nat)) (by simp [u8s, h1])
    rw [add_off]
    exact this
theorem mid2 (F : Nat → Sec) (S : Sec) : now F (upd (fun _ => none) 1 S) 1 = S := by simp [now, upd]
theorem dirty1 (S : Sec) : dirtyL 3 (upd (fun _ => none) 1 S) = [1] := by simp [dirtyL, upd, List.range, List.range.loop]
theorem dirty0 (S : Sec) : dirtyL 1 (upd (fun _ => none) 1 S) = [] := by simp [dirtyL, upd, List.range, List.range.loop]
theorem crash1 (F : Nat → Sec) (S : Sec) : now (crashF F (upd (fun _ => none) 1 S) []) (fun _ => none) 1 = F 1 := by simp [now, crashF]
theorem crash2 (F : Nat → Sec) (S : Sec) : now (crashF F (upd (fun _ => none) 1 S) [true]) (fun _ => none) 1 = S := by
  simp [now, crashF, dirty0]
  simp [upd]
theorem old4 : (fillS [111, 108, 100]).take [111, 108, 100, (0 : UInt8)].length = [111, 108, 100, 0] := by decide
theorem new3 : (fillS [110, 101, 119]).take [110, 101, (119 : UInt8)].length = [110, 101, 119] := by decide
/-- a sector that is laid into a new variable -/
def laidW (w : World) (S : Sec) : World := (w.alloc (.cells (u8s zsec).toArray 37)).setCells w.heap.size 0 (u8s S)
theorem laid_chg (w : World) (S : Sec) : Chg [] w (laidW w S) := ((Chg.refl [] w).alloc _).setCells (Or.inr (Nat.le_refl _)) _ _
theorem laid_range (w : World) (S : Sec) (hS : S.length = 64) : (laidW w S).rangeAt w.heap.size 0 (u8s S) := World.rangeAt_setCells_same _ _ _ _ (by rw [u8s_length, hS]; exact there_box w zsec _ zsec_len)
theorem laid_size (w : World) (S : Sec) : (laidW w S).heap.size = w.heap.size + 1 := by
  unfold laidW
  rw [(setCells_heap _ _ _ _).2.2.2.1]
  simp
theorem wpList_laid {w W : World} {ops : Array Oper} {rest : List Oper} {o : Oper} {a : Act} {Q : Exit → Act → World → Prop} (hgd : o.guard = none) (x y : Operand) (ho : o.op = .store 37 x y) (S : Sec) (hW : W = w.alloc (.cells (u8s zsec).toArray 37)) (hx : a.eval x = .pointer (some ⟨w.heap.size, 0, none⟩)) (hy : a.eval y = sv S) (hS : S.length = 64)
    (h : ∀ w', w'.rangeAt w.heap.size 0 (u8s S) → Chg [] w w' → wpList Try.prog ops Q rest (a.put o.dst undef) w') : wpList Try.prog ops Q (o :: rest) a W := by
  subst hW
  exact wpList_store37 hgd x y ho w.heap.size 0 S hx hy (there_box w zsec _ zsec_len) hS (h (laidW w S) (laid_range w S hS) (laid_chg w S))
theorem ro_bl1 (w : World) (x : Bool) (t : TypeId) : Ro (w.alloc (.cells #[.bool x] t)) (w.heap.size + 1) (some ⟨w.heap.size, 0, none⟩) (bls [x]) := (Own.new w t (bls [x])).ro (w.heap.size + 1) (by omega)
set_option maxHeartbeats 1000000 in
set_option maxRecDepth 100000 in
theorem alive_any (w : World) : Calls Try.prog 10 #[] w fun e w' => e = .returned (.bool true) ∧ Chg [] w w' := by
  have H0 := Lib.hid (new_ok w 3 (by omega) (by omega))
  have kc := fun (w : World) (C : Array Value) (n c : Nat) => Lib.run_convert_bytes_const (P := Try.prog) w 31 5 C n c Try.underlying31 Try.underlying5
  obtain ⟨So, HSo, hlo⟩ : ∃ S, Hid (fillS [111, 108, 100] = S) ∧ S.length = 64 := ⟨_, Lib.hid rfl, fillS_len _⟩
  obtain ⟨Sn, HSn, hln⟩ : ∃ S, Hid (fillS [110, 101, 119] = S) ∧ S.length = 64 := ⟨_, Lib.hid rfl, fillS_len _⟩
  obtain ⟨Se, HSe, hle⟩ : ∃ S, Hid (fillS [] = S) ∧ S.length = 64 := ⟨_, Lib.hid rfl, fillS_len _⟩
  go_enter Try.func10, Try.ntmps10
  go_wp2_with (first
    | (go_at_call 8; refine H0.out.mono ?_; rintro e w1 ⟨rfl, hd1, hc1⟩)
    | fail)
  have h1 := fill_lit w1 [111, 108, 100] 3 (3, 4)
  rw [HSo.out] at h1
  have H1 := Lib.hid h1
  clear h1
  go_wp2_with (first
    | (go_at_call 12; refine H1.out.mono ?_; rintro e w2 ⟨rfl, hc2⟩)
    | fail)
  have hd2 := hd1.kept hc2
  have H2 := Lib.hid (write_ok w2 hd2 1 (by omega) So hlo)
  clear hd1
  go_wp2_with (first
    | (go_at_call 11; refine H2.out.mono ?_; rintro e w3 ⟨rfl, hd3, hc3⟩)
    | fail)
  have H3 := Lib.hid (flush_ok w3 hd3)
  clear hd2
  go_wp2_with (first
    | (go_at_call 15; refine H3.out.mono ?_; rintro e w4 ⟨rfl, hd4, hc4⟩)
    | fail)
  obtain ⟨F, hF, hF1⟩ : ∃ F, now (fun _ => zsec) (upd (fun _ => none) 1 So) = F ∧ F 1 = So := ⟨_, rfl, mid2 _ _⟩
  rw [hF] at hd4
  clear hF
  have HF1 := Lib.hid hF1
  clear hF1
  have h4 := fill_lit w4 [110, 101, 119] 3 (3, 4)
  rw [HSn.out] at h4
  have H4 := Lib.hid h4
  have hc04 : Chg [] w w4 := ((hc1.then hc2 (by simp)).then hc3 (by simp)).then hc4 (by simp)
  clear hd3 hc1 hc2 hc3 hc4 h4 H0 H1 H2 H3
  go_wp2_with (first
    | (go_at_call 12; refine H4.out.mono ?_; rintro e w5 ⟨rfl, hc5⟩)
    | fail)
  have hd5 := hd4.kept hc5
  have H5 := Lib.hid (write_ok w5 hd5 1 (by omega) Sn hln)
  clear hd4
  go_wp2_with (first
    | (go_at_call 11; refine H5.out.mono ?_; rintro e w6 ⟨rfl, hd6, hc6⟩)
    | fail)
  have h6 := fill_any w6 none [] 0 0 (Ro.nil _ _ _) (by omega)
  rw [HSe.out] at h6
  have H6 := Lib.hid h6
  clear hd5 h6 kc
  go_wp2_with (first
    | (go_at_call 12; refine H6.out.mono ?_; rintro e w7 ⟨rfl, hc7⟩)
    | fail)
  have hd7 := hd6.kept hc7
  have H7 := Lib.hid (write_no w7 hd7 3 (by omega) Se)
  clear hd6
  go_wp2_with (first
    | (go_at_call 11; refine H7.out.mono ?_; rintro e w8 ⟨rfl, hc8⟩)
    | fail)
  have hd8 := hd7.kept hc8
  have H8 := Lib.hid (crash_ok w8 hd8 none [] 0 0 (Ro.nil _ _ _) (by omega) (by simp))
  have hc08 : Chg [] w w8 := (((hc04.then hc5 (by simp)).then hc6 (by simp)).then hc7 (by simp)).then hc8 (by simp)
  clear hd7 hc04 hc5 hc6 hc7 hc8 H4 H5 H6 H7
  go_wp2_with (first
    | (go_at_call 17; refine H8.out.mono ?_; rintro e w9 ⟨p1, g1, b1, rfl, hp1, hg1, hb1, hx9, hc9⟩)
    | fail)
  have h9 := read_ok w9 hx9 1 (by omega)
  rw [crash1, HF1.out] at h9
  have H9 := Lib.hid h9
  have hd9 := hd8.kept hc9
  have hc09 : Chg [] w w9 := hc08.then hc9 (by simp)
  clear h9 hx9 hd8 hc08 hc9 hp1 hg1 hb1 H8
  go_wp2_with (first
    | (go_at_call 20; refine H9.out.mono ?_; rintro e w10 ⟨rfl, hc10⟩)
    | (refine wpList_alloc37 rfl rfl ?_)
    | (refine wpList_laid rfl _ _ rfl So rfl rfl rfl hlo ?_; intro w11 hr11 hc11)
    | fail)
  have hc011 : Chg [] w w11 := (hc09.then hc10 (by simp)).then hc11 (by simp)
  have hd11 := (hd9.kept hc10).kept hc11
  have hC12 : Chg [] w11 (w11.alloc (.cells #[.bool true] 4)) := (Chg.refl [] w11).alloc _
  have H10 := Lib.hid (crash_ok _ (hd11.kept hC12) _ [true] 1 _ (ro_bl1 w11 true 4) (by simp) (by simp))
  clear hc09 hd9 hc10 hc11 H9
  go_wp2_with (first
    | (go_at_call 17; refine H10.out.mono ?_; rintro e w13 ⟨p2, g2, b2, rfl, hp2, hg2, hb2, hx13, hc13⟩)
    | fail)
  have h14 := read_ok w13 hx13 1 (by omega)
  rw [crash2] at h14
  have H14 := Lib.hid h14
  have hcw : Chg [] w11 w13 := hC12.trans hc13
  have hd13 := hd11.kept hcw
  have hr13 := hcw.range hr11 (by simp)
  have hc013 := hc011.trans hcw
  clear h14 hx13 hp2 hg2 hb2 H10 hd11 hr11 hcw hC12 hc13 hc011
  go_wp2_with (first
    | (go_at_call 20; refine H14.out.mono ?_; rintro e w14 ⟨rfl, hc14⟩)
    | (refine wpList_alloc37 rfl rfl ?_)
    | (refine wpList_laid rfl _ _ rfl Sn rfl rfl rfl hln ?_; intro w15 hr15 hc15)
    | fail)
  have hcw := hc14.trans hc15
  have hd15 := hd13.kept hcw
  have hro15 := hcw.range hr13 (by simp)
  have hcv1 : (convert 31 9 (.slice (some ⟨w10.heap.size, 0, none⟩) 4 64)).run Try.prog w15 = .ok (.string ⟨#[111, 108, 100, 0]⟩) w15 := conv4 hro15 [111, 108, 100, 0] 64 (by rw [← HSo.out]; exact old4)
  have hcv2 : (convert 31 9 (.slice (some ⟨w14.heap.size, 0, none⟩) 3 64)).run Try.prog w15 = .ok (.string ⟨#[110, 101, 119]⟩) w15 := conv4 hr15 [110, 101, 119] 64 (by rw [← HSn.out]; exact new3)
  have hc015 := hc013.trans hcw
  have HL := Lib.hid (len_ok w15 hd15)
  have h16 := dirty_some w15 hd15 (by rw [dirty1]; decide)
  rw [dirty1] at h16
  have H16 := Lib.hid h16
  clear h16 hd15 hd13 hro15 hr15 hr13 hcw hc14 hc15 H14 hc013 hlo hln hle HSo HSn HSe HF1
  go_simp
  go_wp2_with (first
    | (go_at_call 23; refine HL.out.mono ?_; rintro e w' ⟨rfl, rfl⟩)
    | (go_at_call 22; refine H16.out.mono ?_; rintro e w16 ⟨gd, cd, rfl, hgd1, hgd2, hgd3, hb16⟩)
    | fail)
  go_ret
  exact ⟨rfl, hc015.of_below hb16⟩
end Go.Proofs.Ytfgniggppafelaa
