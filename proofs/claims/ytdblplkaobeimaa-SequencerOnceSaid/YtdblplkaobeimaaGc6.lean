/-
  The streams' last addresses in memory: lastsOf and Push of package sequencer, by their contracts. No claim of their own.
-/
import Derived.Test.YtdblplkaobeimaaGc5
import Derived.Deep.MidRow
import Derived.Laws.Rows
import Derived.Deep.CutRange
namespace Go.Proofs.Ytdblplkaobeimaa
open Go.RowKit Go.Deep Go.Shelf
set_option linter.unusedVariables false
set_option linter.unusedSimpArgs false

theorem infoLs : (Try.prog.info? 58).map (·.size) = some 32 := by kernel_rfl
/-- what Find tells of a stream, in one form -/
theorem find_u (bs : List Bk) (a2 : Option Addr) (c2 B : Nat) (s : Int) (w : World) (hro : Ro w B a2 (bcs bs)) (hB : B ≤ w.heap.size) (hl : bs.length ≤ 1000000) :
    Calls Try.prog 28 #[cev 0 none 0 0 a2 bs.length c2, .int .i64 s] w fun e w' => ∃ t, e = .returned (.tuple #[lav (fstB bs s), .bool t]) ∧ Below w.heap.size w w' := by
  rcases fx_or (fun k => decide ((bk bs k).1 = s)) bs.length with ⟨h1, hn⟩ | ⟨i, hi, h1, hp, hn⟩
  · refine (find_no ⟨0, [], bs⟩ none 0 0 a2 c2 B s w hro hB hl h1).mono ?_
    rintro e w' ⟨rfl, hb⟩
    have e1 : fstB bs s = noLa := by unfold fstB; rw [show fdx ⟨0, [], bs⟩ s = -1 from h1]; rfl
    exact ⟨false, by rw [e1]; rfl, hb⟩
  · refine (find_yes ⟨0, [], bs⟩ none 0 0 a2 c2 B s w hro hB hl i hi h1).mono ?_
    rintro e w' ⟨rfl, hb⟩
    have e1 : fstB bs s = (bk bs i).2 := by
      unfold fstB
      rw [show fdx ⟨0, [], bs⟩ s = (i : Int) from h1, if_neg (by omega)]
      simp
    exact ⟨true, by rw [e1], hb⟩

/-- what lastsOf has filled so far -/
def lsU (bs : List Bk) (j : Nat) : List La := lastsM bs j ++ List.replicate (16 - j) (0, 0)
theorem lsU_length (bs : List Bk) (j : Nat) (h : j ≤ 16) : (lsU bs j).length = 16 := by simp [lsU]; omega
theorem lsU_set (bs : List Bk) (j : Nat) (h : j < 16) : (lsU bs j).set j (fstB bs ((j : Nat) : Int)) = lsU bs (j + 1) := by
  have h2 : List.replicate (16 - j) ((0, 0) : La) = (0, 0) :: List.replicate (16 - (j + 1)) (0, 0) := by rw [show 16 - j = (16 - (j + 1)) + 1 by omega]; rfl
  unfold lsU
  rw [lastsM_succ, h2, List.set_append, lastsM_length, if_neg (by omega), Nat.sub_self]
  simp
theorem lsU_full (bs : List Bk) : lsU bs 16 = lastsM bs 16 := by simp [lsU]

/-- the last addresses lie behind what is ahead of them in their block -/
theorem Own.rangeL {w : World} {b : Nat} {t : TypeId} {pre : List Value} {L : List La} (h : Own w b t (pre ++ lcs L)) : w.rangeAt b pre.length (lcs L) := fun j v hv => by
  rw [h.cell (pre.length + j), List.getElem?_append_right (by omega), Nat.add_sub_cancel_left]; exact hv
/-- all streams' last addresses are loaded whole -/
theorem wpList_loadLs {ops : Array Oper} {rest : List Oper} {o : Oper} {a : Act} {w : World} {Q : Exit → Act → World → Prop} (hgd : o.guard = none) (x : Operand) (ho : o.op = .load 58 x) (b off : Nat) (hx : a.eval x = .pointer (some ⟨b, off, none⟩)) (L : List La) (hL : L.length = 16) (hr : w.rangeAt b off (lcs L))
    (h : wpList Try.prog ops Q rest (a.put o.dst (.agg (lcs L).toArray)) w) : wpList Try.prog ops Q (o :: rest) a w :=
  wpList_load_mid hgd _ x ho b off hx (lcs L) _ hr Try.underlying58 rfl (by rw [infoLs, lcs_length, hL]) h
theorem own_setCellsB {g : Nat} {t : TypeId} : ∀ (vs pre old : List Value) (w : World), Own w g t (pre ++ old) → old.length = vs.length → Own (w.setCells g pre.length vs) g t (pre ++ vs)
  | [], pre, old, w, h, hl => by
    have : old = [] := List.eq_nil_of_length_eq_zero (by simpa using hl)
    subst this
    exact h
  | v :: vs, pre, [], w, h, hl => by simp at hl
  | v :: vs, pre, o :: old, w, h, hl => by
    rw [World.setCells]
    have h1 := h.set pre.length v
    have e : (pre ++ o :: old).set pre.length v = (pre ++ [v]) ++ old := by simp [List.set_append]
    rw [e] at h1
    have := own_setCellsB vs (pre ++ [v]) old _ h1 (by simpa using hl)
    simpa using this
/-- and stored whole -/
theorem wpList_storeLs {ops : Array Oper} {rest : List Oper} {o : Oper} {a : Act} {w : World} {Q : Exit → Act → World → Prop} (hgd : o.guard = none) (x y : Operand) (ho : o.op = .store 58 x y) (b off : Nat) (hx : a.eval x = .pointer (some ⟨b, off, none⟩)) (L : List La) (hL : L.length = 16) (hy : a.eval y = .agg (lcs L).toArray) (t : TypeId) (pre old : List Value) (hp : pre.length = off) (hr : Own w b t (pre ++ old)) (hl : old.length = 32)
    (h : ∀ w', Own w' b t (pre ++ lcs L) → Chg [b] w w' → wpList Try.prog ops Q rest (a.put o.dst undef) w') : wpList Try.prog ops Q (o :: rest) a w := by
  subst hp
  refine wpList_store_mid hgd _ x y ho b pre.length (lcs L).toArray hx hy (fun j hj => ?_) (by rw [infoLs]; simp [hL]) (all_oneCell_toArray (lcs_one L)) (h _ ?_ ?_)
  · have hj' : j < 32 := by simpa [hL] using hj
    rw [hr.cell (pre.length + j), List.getElem?_append_right (by omega), Nat.add_sub_cancel_left]
    exact ⟨by simp [hl, hj'], hr.frozen _⟩
  · exact own_setCellsB (lcs L) pre old w hr (by rw [hl, lcs_length, hL])
  · exact (Chg.refl [b] w).setCells (.inl (by simp)) _ _

set_option maxHeartbeats 2000000 in
set_option maxRecDepth 100000 in
theorem lastsOf_any (bs : List Bk) (a2 : Option Addr) (c2 B : Nat) (w : World) (hro : Ro w B a2 (bcs bs)) (hB : B ≤ w.heap.size) (hl : bs.length ≤ 1000000) :
    Calls Try.prog 14 #[.slice a2 bs.length c2] w fun e w' => e = .returned (.agg (lcs (lastsM bs 16)).toArray) ∧ Below w.heap.size w w' := by
  have HF := Lib.hid (fun (W : World) (hb : Below w.heap.size w W) (s : Int) => find_u bs a2 c2 B s W (hro.below hb hB) (Nat.le_trans hB hb.size) hl)
  generalize bs.length = m at *
  clear hro hB hl
  go_enter Try.func14, Try.ntmps14
  go_wp2_with fail
  go_loopw [5] (fun i wr => ∃ (j : Nat), j ≤ 16 ∧ i = .int .i64 (j : Int) ∧ Hid (Own wr w.heap.size 58 (lcs (lsU [] 0))) ∧ Hid (Own wr (w.heap.size + 1) 58 (lcs (lsU bs j))) ∧ Hid (Below w.heap.size w wr)) (fun i _ => 16 - (intOf i).toNat)
  case atStart =>
    refine ⟨0, by omega, rfl, Lib.hid ?_, Lib.hid ?_, Lib.hid ?_⟩
    · exact (Own.new w _ _).alloc _
    · have := Own.new (w.alloc (.cells (lcs (lsU [] 0)).toArray 58)) 58 (lcs (lsU bs 0))
      rw [World.size_alloc] at this
      exact this
    · exact ((Below.refl _ _).alloc (Nat.le_refl _) _).alloc (by simp) _
  case round =>
    obtain ⟨j, hj, rfl, HR, HO, HB⟩ := hrel
    rename World => w6
    by_cases hlt : j < 16
    · have hj0 : (0 : Int) ≤ (j : Int) := by omega
      have hj1 : (j : Int) < 16 := by omega
      go_wp2_with fail
      refine (HF.out w6 HB.out (j : Int)).mono ?_
      rintro e w7 ⟨t, rfl, hb⟩
      have HR7 := Lib.hid (HR.out.below hb HR.out.lt)
      have o7 := HO.out.below hb HO.out.lt
      have HB7 := Lib.hid (HB.out.trans (hb.mono HB.out.size))
      clear hb
      obtain ⟨l, hl⟩ : ∃ l, fstB bs (j : Int) = l := ⟨_, rfl⟩
      rw [hl]
      have k1 := o7.cell (j * 2)
      have k2 := o7.cell (j * 2 + 1)
      have f1 := o7.frozen (j * 2)
      have f2 := o7.frozen (j * 2 + 1)
      obtain ⟨q1, q2⟩ := lcs_at (L := lsU bs j) (i := j) (by rw [lsU_length _ _ hj]; exact hlt)
      rw [q1] at k1
      rw [q2] at k2
      go_wp2_with fail
      have o8 := (o7.set (j * 2) (.int .u64 (l.1 : Int))).set (j * 2 + 1) (.int .u64 (l.2 : Int))
      rw [lcs_set, show (lsU bs j).set j l = lsU bs (j + 1) by rw [← hl]; exact lsU_set bs j hlt] at o8
      go_roundw
      case rel => exact ⟨j + 1, by omega, by go_num, Lib.hid ((HR7.out.far (by simp) _).far (by simp) _), Lib.hid o8, Lib.hid ((HB7.out.setCell (by simp) _).setCell (by simp) _)⟩
      case measure => simp [intOf]; omega
    · obtain rfl : j = 16 := by omega
      go_wp2_with (first | refine wpList_loadLs rfl (.tmp 3) rfl (w.heap.size + 1) 0 rfl (lsU bs 16) (lsU_length bs 16 (by omega)) (HO.out.rangeL (pre := [])) ?_ | refine wpList_storeLs rfl (.tmp 2) (.tmp 18) rfl w.heap.size 0 rfl (lsU bs 16) (lsU_length bs 16 (by omega)) rfl 58 [] (lcs (lsU [] 0)) rfl HR.out (by rw [lcs_length, lsU_length [] 0 (Nat.zero_le _)]) ?_)
      intro w8 ho hc
      go_wp2_with fail
      refine bodyPost_ret (results_cell_row Try.results14 _ _ w.heap.size 58 _ (0, 0) _ rfl ho Try.underlying58 rfl (by rw [infoLs]; simp [lsU_length])) rfl ?_
      rw [← lsU_full]
      exact ⟨rfl, HB.out.trans (hc.below HB.out.size (by simp))⟩
end Go.Proofs.Ytdblplkaobeimaa
