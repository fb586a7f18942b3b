/-
  The sequencer as mathematics: streams' last addresses, as plain values and as cells; what pushing makes of them. Plain lemmas, no claim of their own.
-/
import Derived.Test.YtdblplkaobeimaaGa5
import Derived.Test.YtdblplkaobeimaaGa6
import Derived.Deep.MidRow
import Derived.Laws.Rows
import Derived.Deep.CutRange
import Derived.Deep.RegionHeld3
import Derived.IntWalk
import Derived.Test.YtdblplkaobeimaaGa2
import Derived.Deep.Cut
namespace Go.Proofs.Ytdblplkaobeimaa
open Go.RowKit Go.Deep
set_option linter.unusedVariables false
set_option linter.unusedSimpArgs false

/-- a stream's last addresses, the greatest first -/
abbrev La := Nat × Nat
/-- none -/
abbrev nA : Nat := 18446744073709551615
def noLa : La := (nA, nA)
/-- those of stream i -/
def la (L : List La) (i : Nat) : La := L.getD i noLa
/-- their cells -/
def lcs : List La → List Value
  | [] => []
  | l :: L => .int .u64 (l.1 : Int) :: .int .u64 (l.2 : Int) :: lcs L
/-- two addresses by value -/
abbrev lav (l : La) : Value := .agg #[.int .u64 (l.1 : Int), .int .u64 (l.2 : Int)]
@[simp] theorem lcs_length (L : List La) : (lcs L).length = L.length * 2 := by
  induction L with
  | nil => rfl
  | cons r L ih => simp [lcs, ih]; omega
theorem lcs_one (L : List La) : ∀ v ∈ lcs L, v.oneCell' = true := by
  induction L with
  | nil => intro v hv; cases hv
  | cons r L ih =>
    intro v hv
    simp only [lcs, List.mem_cons] at hv
    rcases hv with rfl | rfl | hv
    · rfl
    · rfl
    · exact ih v hv
theorem la_get {L : List La} {i : Nat} (h : i < L.length) : L[i]? = some (la L i) := by simp [la, List.getD, h]
theorem lcs_get (L : List La) (i : Nat) : (lcs L)[i * 2]? = L[i]?.map (fun r => Value.int .u64 (r.1 : Int)) ∧ (lcs L)[i * 2 + 1]? = L[i]?.map (fun r => Value.int .u64 (r.2 : Int)) := by
  induction L generalizing i with
  | nil => simp [lcs]
  | cons r L ih =>
    cases i with
    | zero => simp [lcs]
    | succ i => rw [show (i + 1) * 2 = i * 2 + 1 + 1 by omega]; simpa [lcs] using ih i
theorem lcs_at {L : List La} {i : Nat} (h : i < L.length) : (lcs L)[i * 2]? = some (.int .u64 ((la L i).1 : Int)) ∧ (lcs L)[i * 2 + 1]? = some (.int .u64 ((la L i).2 : Int)) := by
  obtain ⟨h1, h2⟩ := lcs_get L i
  rw [h1, h2, la_get h]
  exact ⟨rfl, rfl⟩
theorem lcs_set (L : List La) (i : Nat) (l : La) : ((lcs L).set (i * 2) (.int .u64 (l.1 : Int))).set (i * 2 + 1) (.int .u64 (l.2 : Int)) = lcs (L.set i l) := by
  induction L generalizing i with
  | nil => simp [lcs]
  | cons r L ih =>
    cases i with
    | zero => simp [lcs]
    | succ i =>
      rw [show (i + 1) * 2 = i * 2 + 1 + 1 by omega]
      simp only [lcs, List.set_cons_succ]
      rw [ih i]
/-- an address in front -/
def pushA (l : La) (a : Nat) : La := (a, l.1)
/-- an address pushed to streams -/
def pushS (a : Nat) : List Int → List La → List La
  | [], L => L
  | s :: S, L => pushS a S (L.set s.toNat (pushA (la L s.toNat) a))
theorem pushS_length (a : Nat) : ∀ (S : List Int) (L : List La), (pushS a S L).length = L.length
  | [], _ => rfl
  | s :: S, L => by rw [pushS, pushS_length a S]; simp
theorem pushS_snoc (a : Nat) : ∀ (S : List Int) (s : Int) (L : List La), pushS a (S ++ [s]) L = (pushS a S L).set s.toNat (pushA (la (pushS a S L) s.toNat) a)
  | [], _, _ => rfl
  | x :: S, s, L => by rw [List.cons_append, pushS, pushS, pushS_snoc a S]
/-- the Backs of streams -/
def backsL (L : List La) (S : List Int) : List Bk := S.map fun s => (s, la L s.toNat)
@[simp] theorem backsL_length (L : List La) (S : List Int) : (backsL L S).length = S.length := by simp [backsL]
/-- what Backs say of a stream -/
def fstB (bs : List Bk) (s : Int) : La := if fdx ⟨0, [], bs⟩ s < 0 then noLa else (bk bs (fdx ⟨0, [], bs⟩ s).toNat).2
/-- of the first n streams -/
def lastsM (bs : List Bk) (n : Nat) : List La := (List.range n).map fun i => fstB bs ((i : Nat) : Int)
@[simp] theorem lastsM_length (bs : List Bk) (n : Nat) : (lastsM bs n).length = n := by simp [lastsM]
theorem lastsM_succ (bs : List Bk) (n : Nat) : lastsM bs (n + 1) = lastsM bs n ++ [fstB bs ((n : Nat) : Int)] := by simp [lastsM, List.range_succ]
theorem la_lastsM {bs : List Bk} {n i : Nat} (h : i < n) : la (lastsM bs n) i = fstB bs ((i : Nat) : Int) := by
  simp [la, lastsM, List.getD, h]
theorem la_set {L : List La} {i k : Nat} {l : La} (hi : i < L.length) : la (L.set i l) k = if i = k then l else la L k := by
  unfold la
  simp only [List.getD, List.getElem?_set]
  by_cases h : i = k
  · subst h; simp [hi]
  · simp [h]

/-- a sequencer's state -/
structure SqS where
  n : Int
  e : Nat
  t : Nat
  L : List La
/-- its cells -/
def SqS.cs (S : SqS) : List Value := .int .i64 S.n :: .int .u64 (S.e : Int) :: .int .u64 (S.t : Int) :: lcs S.L
def SqS.ok (S : SqS) : Prop := S.L.length = 16 ∧ S.e ≤ 18446744073709551615 ∧ S.t ≤ 1048576
end Go.Proofs.Ytdblplkaobeimaa
namespace Go.Proofs.Ytdblplkaobeimaa
open Go.RowKit Go.Deep Go.Shelf
set_option linter.unusedVariables false
set_option linter.unusedSimpArgs false

theorem infoLs : (Try.prog.info? 58).map (·.size) = some 32 := by kernel_rfl
/-- what Find tells of a stream, in one form -/
theorem find_u (bs : List Bk) (a2 : Option Addr) (c2 B : Nat) (s : Int) (w : World) (hro : Ro w B a2 (bcs bs)) (hB : B ≤ w.heap.size) (hl : bs.length ≤ 1000000) :
    Calls Try.prog 28 #[cev 0 none 0 0 a2 bs.length c2, .int .i64 s] w fun e w' => ∃ t, e = .returned (.tuple #[lav (fstB bs s), .bool t]) ∧ Below w.heap.size w w' := by
  rcases fx_or (fun k => decide ((bk bs k).1 = s)) bs.length with ⟨h1, hn⟩ | ⟨i, hi, h1, hp, hn⟩
  · refine (find_no ⟨0, [], bs⟩ none 0 0 a2 c2 B s w hro hB hl h1).mono ?_
    rintro e w' ⟨rfl, hb⟩
    have e1 : fstB bs s = noLa := by unfold fstB; rw [show fdx ⟨0, [], bs⟩ s = -1 from h1]; rfl
    exact ⟨false, by rw [e1]; rfl, hb⟩
  · refine (find_yes ⟨0, [], bs⟩ none 0 0 a2 c2 B s w hro hB hl i hi h1).mono ?_
    rintro e w' ⟨rfl, hb⟩
    have e1 : fstB bs s = (bk bs i).2 := by
      unfold fstB
      rw [show fdx ⟨0, [], bs⟩ s = (i : Int) from h1, if_neg (by omega)]
      simp
    exact ⟨true, by rw [e1], hb⟩

/-- what lastsOf has filled so far -/
def lsU (bs : List Bk) (j : Nat) : List La := lastsM bs j ++ List.replicate (16 - j) (0, 0)
theorem lsU_length (bs : List Bk) (j : Nat) (h : j ≤ 16) : (lsU bs j).length = 16 := by simp [lsU]; omega
theorem lsU_set (bs : List Bk) (j : Nat) (h : j < 16) : (lsU bs j).set j (fstB bs ((j : Nat) : Int)) = lsU bs (j + 1) := by
  have h2 : List.replicate (16 - j) ((0, 0) : La) = (0, 0) :: List.replicate (16 - (j + 1)) (0, 0) := by rw [show 16 - j = (16 - (j + 1)) + 1 by omega]; rfl
  unfold lsU
  rw [lastsM_succ, h2, List.set_append, lastsM_length, if_neg (by omega), Nat.sub_self]
  simp
theorem lsU_full (bs : List Bk) : lsU bs 16 = lastsM bs 16 := by simp [lsU]

/-- the last addresses lie behind what is ahead of them in their block -/
theorem Own.rangeL {w : World} {b : Nat} {t : TypeId} {pre : List Value} {L : List La} (h : Own w b t (pre ++ lcs L)) : w.rangeAt b pre.length (lcs L) := fun j v hv => by
  rw [h.cell (pre.length + j), List.getElem?_append_right (by omega), Nat.add_sub_cancel_left]; exact hv
/-- all streams' last addresses are loaded whole -/
theorem wpList_loadLs {ops : Array Oper} {rest : List Oper} {o : Oper} {a : Act} {w : World} {Q : Exit → Act → World → Prop} (hgd : o.guard = none) (x : Operand) (ho : o.op = .load 58 x) (b off : Nat) (hx : a.eval x = .pointer (some ⟨b, off, none⟩)) (L : List La) (hL : L.length = 16) (hr : w.rangeAt b off (lcs L))
    (h : wpList Try.prog ops Q rest (a.put o.dst (.agg (lcs L).toArray)) w) : wpList Try.prog ops Q (o :: rest) a w :=
  wpList_load_mid hgd _ x ho b off hx (lcs L) _ hr Try.underlying58 rfl (by rw [infoLs, lcs_length, hL]) h
theorem own_setCellsB {g : Nat} {t : TypeId} : ∀ (vs pre old : List Value) (w : World), Own w g t (pre ++ old) → old.length = vs.length → Own (w.setCells g pre.length vs) g t (pre ++ vs)
  | [], pre, old, w, h, hl => by
    have : old = [] := List.eq_nil_of_length_eq_zero (by simpa using hl)
    subst this
    exact h
  | v :: vs, pre, [], w, h, hl => by simp at hl
  | v :: vs, pre, o :: old, w, h, hl => by
    rw [World.setCells]
    have h1 := h.set pre.length v
    have e : (pre ++ o :: old).set pre.length v = (pre ++ [v]) ++ old := by simp [List.set_append]
    rw [e] at h1
    have := own_setCellsB vs (pre ++ [v]) old _ h1 (by simpa using hl)
    simpa using this
/-- and stored whole -/
theorem wpList_storeLs {ops : Array Oper} {rest : List Oper} {o : Oper} {a : Act} {w : World} {Q : Exit → Act → World → Prop} (hgd : o.guard = none) (x y : Operand) (ho : o.op = .store 58 x y) (b off : Nat) (hx : a.eval x = .pointer (some ⟨b, off, none⟩)) (L : List La) (hL : L.length = 16) (hy : a.eval y = .agg (lcs L).toArray) (t : TypeId) (pre old : List Value) (hp : pre.length = off) (hr : Own w b t (pre ++ old)) (hl : old.length = 32)
    (h : ∀ w', Own w' b t (pre ++ lcs L) → Chg [b] w w' → wpList Try.prog ops Q rest (a.put o.dst undef) w') : wpList Try.prog ops Q (o :: rest) a w := by
  subst hp
  refine wpList_store_mid hgd _ x y ho b pre.length (lcs L).toArray hx hy (fun j hj => ?_) (by rw [infoLs]; simp [hL]) (all_oneCell_toArray (lcs_one L)) (h _ ?_ ?_)
  · have hj' : j < 32 := by simpa [hL] using hj
    rw [hr.cell (pre.length + j), List.getElem?_append_right (by omega), Nat.add_sub_cancel_left]
    exact ⟨by simp [hl, hj'], hr.frozen _⟩
  · exact own_setCellsB (lcs L) pre old w hr (by rw [hl, lcs_length, hL])
  · exact (Chg.refl [b] w).setCells (.inl (by simp)) _ _

set_option maxHeartbeats 2000000 in
set_option maxRecDepth 100000 in
theorem lastsOf_any (bs : List Bk) (a2 : Option Addr) (c2 B : Nat) (w : World) (hro : Ro w B a2 (bcs bs)) (hB : B ≤ w.heap.size) (hl : bs.length ≤ 1000000) :
    Calls Try.prog 14 #[.slice a2 bs.length c2] w fun e w' => e = .returned (.agg (lcs (lastsM bs 16)).toArray) ∧ Below w.heap.size w w' := by
  have HF := Lib.hid (fun (W : World) (hb : Below w.heap.size w W) (s : Int) => find_u bs a2 c2 B s W (hro.below hb hB) (Nat.le_trans hB hb.size) hl)
  generalize bs.length = m at *
  clear hro hB hl
  go_enter Try.func14, Try.ntmps14
  go_wp2_with fail
  go_loopw [5] (fun i wr => ∃ (j : Nat), j ≤ 16 ∧ i = .int .i64 (j : Int) ∧ Hid (Own wr w.heap.size 58 (lcs (lsU [] 0))) ∧ Hid (Own wr (w.heap.size + 1) 58 (lcs (lsU bs j))) ∧ Hid (Below w.heap.size w wr)) (fun i _ => 16 - (intOf i).toNat)
  case atStart =>
    refine ⟨0, by omega, rfl, Lib.hid ?_, Lib.hid ?_, Lib.hid ?_⟩
    · exact (Own.new w _ _).alloc _
    · have := Own.new (w.alloc (.cells (lcs (lsU [] 0)).toArray 58)) 58 (lcs (lsU bs 0))
      rw [World.size_alloc] at this
      exact this
    · exact ((Below.refl _ _).alloc (Nat.le_refl _) _).alloc (by simp) _
  case round =>
    obtain ⟨j, hj, rfl, HR, HO, HB⟩ := hrel
    rename World => w6
    by_cases hlt : j < 16
    · have hj0 : (0 : Int) ≤ (j : Int) := by omega
      have hj1 : (j : Int) < 16 := by omega
      go_wp2_with fail
      refine (HF.out w6 HB.out (j : Int)).mono ?_
      rintro e w7 ⟨t, rfl, hb⟩
      have HR7 := Lib.hid (HR.out.below hb HR.out.lt)
      have o7 := HO.out.below hb HO.out.lt
      have HB7 := Lib.hid (HB.out.trans (hb.mono HB.out.size))
      clear hb
      obtain ⟨l, hl⟩ : ∃ l, fstB bs (j : Int) = l := ⟨_, rfl⟩
      rw [hl]
      have k1 := o7.cell (j * 2)
      have k2 := o7.cell (j * 2 + 1)
      have f1 := o7.frozen (j * 2)
      have f2 := o7.frozen (j * 2 + 1)
      obtain ⟨q1, q2⟩ := lcs_at (L := lsU bs j) (i := j) (by rw [lsU_length _ _ hj]; exact hlt)
      rw [q1] at k1
      rw [q2] at k2
      go_wp2_with fail
      have o8 := (o7.set (j * 2) (.int .u64 (l.1 : Int))).set (j * 2 + 1) (.int .u64 (l.2 : Int))
      rw [lcs_set, show (lsU bs j).set j l = lsU bs (j + 1) by rw [← hl]; exact lsU_set bs j hlt] at o8
      go_roundw
      case rel => exact ⟨j + 1, by omega, by go_num, Lib.hid ((HR7.out.far (by simp) _).far (by simp) _), Lib.hid o8, Lib.hid ((HB7.out.setCell (by simp) _).setCell (by simp) _)⟩
      case measure => simp [intOf]; omega
    · obtain rfl : j = 16 := by omega
      go_wp2_with (first | refine wpList_loadLs rfl (.tmp 3) rfl (w.heap.size + 1) 0 rfl (lsU bs 16) (lsU_length bs 16 (by omega)) (HO.out.rangeL (pre := [])) ?_ | refine wpList_storeLs rfl (.tmp 2) (.tmp 18) rfl w.heap.size 0 rfl (lsU bs 16) (lsU_length bs 16 (by omega)) rfl 58 [] (lcs (lsU [] 0)) rfl HR.out (by rw [lcs_length, lsU_length [] 0 (Nat.zero_le _)]) ?_)
      intro w8 ho hc
      go_wp2_with fail
      refine bodyPost_ret (results_cell_row Try.results14 _ _ w.heap.size 58 _ (0, 0) _ rfl ho Try.underlying58 rfl (by rw [infoLs]; simp [lsU_length])) rfl ?_
      rw [← lsU_full]
      exact ⟨rfl, HB.out.trans (hc.below HB.out.size (by simp))⟩
end Go.Proofs.Ytdblplkaobeimaa
namespace Go.Proofs.Ytdblplkaobeimaa
open Go.RowKit Go.Deep
set_option linter.unusedVariables false
set_option linter.unusedSimpArgs false

theorem eql_nil (a : Option Addr) (n c : Nat) (w : World) : (binOp .eql 29 (.slice a n c) (.slice none 0 0)).run Try.prog w = .ok (.bool a.isNone) w := by
  simp only [binOp]
  simp [run_equal_slice_nil w 29 5 a n c Try.underlying29]
/-- a slice of n bytes that are laid below the heap's end -/
def ClP (w : World) (bs : List UInt8) (n : Nat) (e : Ending) (w' : World) : Prop := ∃ a' c', e = .returned (.slice a' n c') ∧ Ro w' w'.heap.size a' (u8s bs) ∧ (∀ ad, a' = some ad → w.heap.size ≤ ad.block) ∧ Below w.heap.size w w'
end Go.Proofs.Ytdblplkaobeimaa
namespace Go.Proofs.Ytdblplkaobeimaa
open Go.RowKit Go.Deep
set_option linter.unusedVariables false
set_option linter.unusedSimpArgs false

theorem Ro.far {w : World} {B : Nat} {a : Option Addr} {vs : List Value} (h : Ro w B a vs) {p : Addr} {u : Value} (hp : ∀ ad, a = some ad → ad.block ≠ p.block) : Ro (w.setCell p u) B a vs := by
  rcases h with h | ⟨b, off, h1, h2, h3⟩
  · exact .inl h
  · refine .inr ⟨b, off, h1, h2, fun i hi => ?_⟩
    have hb := Below.heap_setCell w p u b (hp _ h1)
    rw [← h3 i hi]
    simp only [World.cell?, hb]
/-- a slice of Backs of the call's own -/
def Lb (w : World) (base : Nat) (v : Value) (L : List Bk) : Prop := w.ownsRow base 54 3 v L.length (bcs L)
theorem Lb.nil (w : World) (base : Nat) : Lb w base (.slice none 0 0) [] := World.ownsRow_nil w base _ 3
theorem Lb.qt {w w' : World} {base : Nat} {v : Value} {L : List Bk} (h : Lb w base v L) (k : Qt w w') : Lb w' base v L := by
  obtain ⟨n, rfl⟩ := k
  exact h
theorem Lb.alloc {w : World} {base : Nat} {v : Value} {L : List Bk} (h : Lb w base v L) (o : Obj) : Lb (w.alloc o) base v L := World.ownsRow.alloc h o
theorem Lb.below {w w' : World} {base B : Nat} {v : Value} {L : List Bk} (h : Lb w base v L) (hb : Below B w w') (hB : w.heap.size ≤ B) : Lb w' base v L := by
  unfold Lb at h ⊢
  refine World.ownsRow.kept (row := none) h ⟨hb.os, hb.tape, hb.output, hb.size, fun b hlt _ => hb.block b (by omega)⟩ ?_
  by_cases hv : v.ownBlock = none
  · exact .inl hv
  · exact .inr hv
theorem Lb.lt {w : World} {base : Nat} {v : Value} {L : List Bk} (h : Lb w base v L) : ∀ k, v.ownBlock = some k → base ≤ k ∧ k < w.heap.size := World.ownsRow.lt h
theorem Lb.form {w : World} {base : Nat} {v : Value} {L : List Bk} (h : Lb w base v L) : ∃ a c, v = .slice a L.length c ∧ Ro w w.heap.size a (bcs L) ∧ L.length ≤ c ∧ c ≤ maxLen := by
  unfold Lb at h
  rcases h.2 with ⟨rfl, h0⟩ | ⟨g, cap, cur, rfl, hb, hh, hle, hm, hrest⟩
  · have : L = [] := by simpa using h0
    subst this
    exact ⟨none, 0, rfl, .inl rfl, by simp, by decide⟩
  · refine ⟨some ⟨g, 0, none⟩, cap, rfl, .inr ⟨g, 0, rfl, ?_, fun i hi => ?_⟩, hle, hm⟩
    · exact (World.ownsRow.lt h g rfl).2
    · have := World.ownsRow.cellAt h i (by rw [bcs_length] at hi; exact hi)
      rw [Nat.zero_add, this]
      simp only [List.getD, List.getElem?_eq_getElem hi, Option.getD_some]
theorem Lb.far {w : World} {base : Nat} {v : Value} {L : List Bk} (h : Lb w base v L) {p : Addr} (hp : p.block < base) (u : Value) : Lb (w.setCell p u) base v L := by
  unfold Lb at h ⊢
  refine World.ownsRow.kept (row := some p.block) h ⟨rfl, rfl, rfl, by simp [World.setCell], fun b hlt hne => Below.heap_setCell w p u b (fun e => hne (by rw [e]))⟩ ?_
  by_cases hv : v.ownBlock = none
  · exact .inl hv
  · refine .inr (fun e => ?_)
    have := (World.ownsRow.lt h p.block e).1
    omega
theorem Try.info_back : (Try.prog.info? 54).map (fun i => (i.zero, i.size, i.bytes)) = some (some (.agg #[.int .i64 0, .int .u64 0, .int .u64 0]), 3, 24) := by kernel_rfl
theorem Lb.grown_below {B base : Nat} {a w w' : World} {v : Value} {L : List Bk} (h : Below B a w) (hl : Lb w base v L) (hg : w.grownBy w' v.ownBlock) (hB : B ≤ base) (hB2 : B ≤ w.heap.size) : Below B a w' :=
  ⟨hg.os.trans h.os, hg.tape.trans h.tape, hg.output.trans h.output, Nat.le_trans h.size hg.size, fun b hb => (hg.block b (by omega) (fun e => by have := (hl.lt b e.symm).1; omega)).trans (h.block b hb)⟩
/-- append of one Back at a step of a region that draws its order -/
theorem step_app3 {ops : Array Oper} {o : Oper} {a : Act} {w : World} {K : Act → World → Prop} {Q : Exit → Act → World → Prop} {E : Prop} (hgd : o.guard = none) (s x : Operand)
    (ho : o.op = .call { callee := .builtin .append, args := #[s, x], argTypes := #[30, 30] })
    (base : Nat) (v : Value) (L : List Bk) (hs : a.eval s = v) (hown : Lb w base v L) (g : Nat) (y : Bk) (t : TypeId) (hnew : Own w g t (bcs [y]))
    (hx : a.eval x = .slice (some ⟨g, 0, none⟩) 1 1) (hlen : L.length ≤ 1000000) (hbase : base ≤ w.heap.size)
    (h : ∀ v' w', Hid (Lb w' base v' (L ++ [y])) → w.grownBy w' v.ownBlock → K (a.put o.dst v') w') :
    if Region.wanted o (yielded ops a.tmps) = true then Oper.wp Try.prog o a w K Q else E := by
  have hw : Region.wanted o (yielded ops a.tmps) = true := by simp [Region.wanted, hgd]
  rw [if_pos hw]
  obtain ⟨i, hi, hzz⟩ := Option.map_eq_some_iff.1 Try.info_back
  simp only [Prod.mk.injEq] at hzz
  obtain ⟨hz, hsz, hby⟩ := hzz
  refine wp_append_own w s x 30 ho base 54 i _ 3 24 Try.underlying30 hi hz hsz hby rfl (by omega) v L.length (bcs L) hs hown ⟨g, 0, none⟩ 1 1 (bcs [y]) hx (by simp) (fun j u hu => ?_) (bcs_one _) (by unfold maxLen; omega) (by omega) hbase fun v' w' h2 h3 _ => h v' w' ?_ h3
  · rw [add_off, Nat.zero_add, hnew.cell j]; exact hu
  · show w'.ownsRow base 54 3 v' (L ++ [y]).length (bcs (L ++ [y]))
    rw [List.length_append, bcs_append]
    exact h2

theorem wrap_small2 (k : Nat) (h : k < 1000) : IntKind.i64.wrap (k : Int) = (k : Int) := IntWalk.i64_in _ (by omega)
theorem wrap_small (k : Nat) (h : k < 1000) : wrap64 (k : Int) = (k : Int) := by unfold wrap64; omega
/-- an address of blocks that are new since w -/
def Frs (w : World) (a : Option Addr) : Prop := ∀ ad, a = some ad → w.heap.size ≤ ad.block
/-- a cell that has been read out of bytes -/
def DcP (w : World) (x : Ce) (r : Value) (e : Ending) (w' : World) : Prop := ∃ a1 c1 a2 c2, e = .returned (.tuple #[cev x.k a1 x.d.length c1 a2 x.b.length c2, r]) ∧ Ro w' w'.heap.size a1 (u8s x.d) ∧ Ro w' w'.heap.size a2 (bcs x.b) ∧ Frs w a1 ∧ Frs w a2 ∧ Below w.heap.size w w'
/-- the same over letters -/
def DcQ (w : World) (sz cnt : Nat) (ds : List UInt8) (L : List Bk) (e : Ending) (w' : World) : Prop := ∃ a1 c1 a2 c2, e = .returned (.tuple #[cev 1 a1 sz c1 a2 cnt c2, .bool true]) ∧ Ro w' w'.heap.size a1 (u8s ds) ∧ Ro w' w'.heap.size a2 (bcs L) ∧ Frs w a1 ∧ Frs w a2 ∧ Below w.heap.size w w'
/-- the numbers behind the first one -/
def tl (vs : List Nat) (k : Nat) : List Bk := ((vs.drop 1).take k).map backN
theorem tl_step (vs : List Nat) (k : Nat) (h : k + 1 < vs.length) : tl vs (k + 1) = tl vs k ++ [backN (vs.getD (k + 1) 0)] := by
  unfold tl
  have h1 : k < (vs.drop 1).length := by rw [List.length_drop]; omega
  rw [List.take_succ_eq_append_getElem h1, List.map_append]
  have : (vs.drop 1)[k] = vs.getD (k + 1) 0 := by
    rw [List.getElem_drop]
    have h2 : 1 + k < vs.length := by omega
    simp only [List.getD]
    rw [show k + 1 = 1 + k by omega, List.getElem?_eq_getElem h2]
    rfl
  rw [this]
  rfl
theorem tl_length (vs : List Nat) (k : Nat) (h : k + 1 ≤ vs.length) : (tl vs k).length = k := by
  unfold tl
  rw [List.length_map, List.length_take, List.length_drop]
  omega

end Go.Proofs.Ytdblplkaobeimaa
namespace Go.Proofs.Ytdblplkaobeimaa
open Go.RowKit Go.Deep Go.Shelf
set_option linter.unusedVariables false
set_option linter.unusedSimpArgs false

set_option maxHeartbeats 2000000 in
set_option maxRecDepth 100000 in
theorem Push_any (l : La) (a : Nat) (w : World) :
    Calls Try.prog 63 #[lav l, .int .u64 (a : Int)] w fun e w' => e = .returned (lav (pushA l a)) ∧ Below w.heap.size w w' := by
  obtain ⟨p, q⟩ := l
  go_enter Try.func63, Try.ntmps63
  go_upto_region 2 with fail
  obtain ⟨W, hW⟩ : ∃ W, ((w.alloc (.cells #[.int .u64 (p : Int), .int .u64 (q : Int)] 50)).alloc (.cells #[.int .u64 0, .int .u64 0] 50)).alloc (.cells #[.int .u64 (a : Int), .int .u64 0] 50) = W := ⟨_, rfl⟩
  rw [hW]
  have o0 : Own W w.heap.size 50 [.int .u64 (p : Int), .int .u64 (q : Int)] := by rw [← hW]; exact ((Own.new w _ _).alloc _).alloc _
  have o1 : Own W (w.heap.size + 1) 50 [.int .u64 0, .int .u64 0] := by
    rw [← hW]
    have := Own.new (w.alloc (.cells #[.int .u64 (p : Int), .int .u64 (q : Int)] 50)) 50 [.int .u64 0, .int .u64 0]
    rw [World.size_alloc] at this
    exact this.alloc _
  have o2 : Own W (w.heap.size + 1 + 1) 50 [.int .u64 (a : Int), .int .u64 0] := by
    rw [← hW]
    have := Own.new ((w.alloc (.cells #[.int .u64 (p : Int), .int .u64 (q : Int)] 50)).alloc (.cells #[.int .u64 0, .int .u64 0] 50)) 50 [.int .u64 (a : Int), .int .u64 0]
    rw [World.size_alloc, World.size_alloc] at this
    exact this
  have hb : Below w.heap.size w W := by rw [← hW]; exact (((Below.refl _ _).alloc (Nat.le_refl _) _).alloc (by simp) _).alloc (by simp; omega) _
  obtain ⟨W4, hrun, hown4, hown1, hb4⟩ : ∃ W4, (Builtin.copy_ #[56, 56] 3 #[.slice (some ⟨w.heap.size + 1 + 1, 1, none⟩) 1 1, .slice (some ⟨w.heap.size, 0, none⟩) 2 2]).run Try.prog W.drew = .ok (.int .i64 1) W4 ∧ Own W4 (w.heap.size + 1 + 1) 50 [.int .u64 (a : Int), .int .u64 (p : Int)] ∧ Own W4 (w.heap.size + 1) 50 [.int .u64 0, .int .u64 0] ∧ Below w.heap.size w W4 := by
    have h0 := run_copy_row (P := Try.prog) W.drew 56 56 3 26 (w.heap.size + 1 + 1) 1 1 1 ⟨w.heap.size, 0, none⟩ 2 2 #[.int .u64 (a : Int), .int .u64 0] 50 [.int .u64 (p : Int)] Try.underlying56 (by kernel_rfl) o2 rfl (fun j v hj => by
      match j, hj with
      | 0, hj =>
        obtain rfl : Value.int .u64 (p : Int) = v := by simpa using hj
        exact o0.cell 0) (by simp) (by simp [Value.oneCell'])
    refine ⟨_, h0, ?_, ?_, below_setRow hb.drew (by omega) _⟩
    · exact setRow_heap _ _ _ _ _ _ o2
    · exact (setRow_other W.drew (w.heap.size + 1 + 1) (w.heap.size + 1) _ (by omega)).trans o1
  have HB := Lib.hid hb4
  have HO1 := Lib.hid hown1
  have c0 := hown4.cell 0
  have c1 := hown4.cell 1
  have d0 := hown1.cell 0
  have d1 := hown1.cell 1
  have f0 := hown1.frozen 0
  have f1 := hown1.frozen 1
  simp at c0 c1 d0 d1
  clear hb hb4 o0 o1 o2 hW
  go_region
  go_wp2_with fail
  refine bodyPost_ret (results_cell_row Try.results63 _ _ (w.heap.size + 1) 50 _ (0, 0) _ rfl ((HO1.out.set 0 (.int .u64 (a : Int))).set 1 (.int .u64 (p : Int))) Try.underlying50 rfl (by kernel_rfl)) rfl ?_
  exact ⟨rfl, (HB.out.setCell (by simp) _).setCell (by simp) _⟩

theorem Own.lapair {w : World} {b : Nat} {t : TypeId} {pre : List Value} {L : List La} (h : Own w b t (pre ++ lcs L)) {i : Nat} (hi : i < L.length) : w.cell? ⟨b, pre.length + i * 2, none⟩ = some (.int .u64 ((la L i).1 : Int)) ∧ w.cell? ⟨b, pre.length + i * 2 + 1, none⟩ = some (.int .u64 ((la L i).2 : Int)) := by
  obtain ⟨h1, h2⟩ := lcs_at hi
  rw [h.cell, h.cell, Nat.add_assoc, List.getElem?_append_right (by omega), List.getElem?_append_right (by omega), Nat.add_sub_cancel_left, Nat.add_sub_cancel_left]
  exact ⟨h1, h2⟩
theorem Own.laset {w : World} {b : Nat} {t : TypeId} {pre : List Value} {L : List La} (h : Own w b t (pre ++ lcs L)) (i : Nat) (l : La) : Own ((w.setCell ⟨b, pre.length + i * 2, none⟩ (.int .u64 (l.1 : Int))).setCell ⟨b, pre.length + i * 2 + 1, none⟩ (.int .u64 (l.2 : Int))) b t (pre ++ lcs (L.set i l)) := by
  have h2 := (h.set (pre.length + i * 2) (.int .u64 (l.1 : Int))).set (pre.length + i * 2 + 1) (.int .u64 (l.2 : Int))
  rw [List.set_append, if_neg (by omega), List.set_append, if_neg (by omega), Nat.add_assoc, Nat.add_sub_cancel_left, Nat.add_sub_cancel_left, lcs_set] at h2
  rw [Nat.add_assoc]
  exact h2
theorem RoX.i64 {w : World} {l : List Nat} {a : Option Addr} {S : List Int} (h : RoX w l a (i64s S)) (hn : 0 < S.length) : ∃ b off, a = some ⟨b, off, none⟩ ∧ ∀ i, i < S.length → w.cell? ⟨b, off + i, none⟩ = some (.int .i64 (S.getD i 0)) := by
  obtain ⟨b, off, h1, _, h3⟩ := h.ro.i64 hn
  exact ⟨b, off, h1, h3⟩
theorem pushS_take {a : Nat} {S : List Int} {L : List La} {j : Nat} (h : j < S.length) : pushS a (S.take (j + 1)) L = (pushS a (S.take j) L).set (S.getD j 0).toNat (pushA (la (pushS a (S.take j) L) (S.getD j 0).toNat) a) := by
  rw [List.take_succ_eq_append_getElem h, pushS_snoc]
  simp [List.getD, h]

set_option maxHeartbeats 2000000 in
set_option maxRecDepth 100000 in
theorem push_any (S : List Int) (hS : ∀ s ∈ S, 0 ≤ s ∧ s < 16) (a : Option Addr) (c : Nat) (x b : Nat) (t : TypeId) (pre : List Value) (L : List La) (hL : L.length = 16) (w : World) (hro : RoX w [b] a (i64s S)) (hl : S.length ≤ 9223372036854775807) (ho : Own w b t (pre ++ lcs L)) :
    Calls Try.prog 46 #[.pointer (some ⟨b, pre.length, none⟩), .slice a S.length c, .int .u64 (x : Int)] w fun e w' => e = .returned (.tuple #[]) ∧ Own w' b t (pre ++ lcs (pushS x S L)) ∧ Chg [b] w w' := by
  have HRO := Lib.hid hro
  have HU : Hid (∀ k, k < S.length → 0 ≤ S.getD k 0 ∧ S.getD k 0 < 16) := Lib.hid fun k hk => hS _ (by simp [List.getD, hk])
  have HO := Lib.hid ho
  have HP := Lib.hid (fun (l : La) (W : World) => Push_any l x W)
  obtain ⟨n, hn⟩ : ∃ n, S.length = n := ⟨_, rfl⟩
  rw [hn] at hl ⊢
  have HN := Lib.hid hn
  have HLL := Lib.hid hL
  obtain ⟨off, hoff⟩ : ∃ off, pre.length = off := ⟨_, rfl⟩
  have HOF := Lib.hid hoff
  rw [hoff]
  clear hro hS ho hn hL hoff
  go_enter Try.func46, Try.ntmps46
  go_wp2_with fail
  go_loopw [10] (fun i wr => ∃ k : Nat, k ≤ n ∧ i = .int .i64 (k : Int) ∧ Hid (Own wr b t (pre ++ lcs (pushS x (S.take k) L))) ∧ Hid (Chg [b] w wr)) (fun i _ => n - (intOf i).toNat)
  case atStart => exact ⟨0, Nat.zero_le _, rfl, HO, Lib.hid (Chg.refl _ _)⟩
  case round =>
    obtain ⟨k, hk, rfl, HX, HC⟩ := hrel
    rename World => w6
    by_cases hlt : k < n
    · have hkL : k < S.length := by rw [HN.out]; exact hlt
      obtain ⟨b0, off0, rfl, hc⟩ := (HRO.out.chg HC.out).i64 (by omega)
      have e1 := hc k hkL
      have hur := HU.out k hkL
      have HT := Lib.hid (pushS_take (a := x) (L := L) hkL)
      clear hc
      have hk0 : (0 : Int) ≤ (k : Int) := by omega
      have hk1 : (k : Int) < (n : Int) := by omega
      generalize S.getD k 0 = s at *
      obtain ⟨i, rfl⟩ := Int.eq_ofNat_of_zero_le hur.1
      obtain ⟨M, hM⟩ : ∃ M, pushS x (S.take k) L = M := ⟨_, rfl⟩
      have HM : Hid (M.length = 16) := Lib.hid (by rw [← hM, pushS_length]; exact HLL.out)
      rw [hM] at HX HT
      rw [Int.toNat_natCast] at HT
      have hi : i < M.length := by have := HM.out; omega
      obtain ⟨q1, q2⟩ := HX.out.lapair hi
      rw [HOF.out] at q1 q2
      have hi0 : (0 : Int) ≤ (i : Int) := by omega
      have hi1 : (i : Int) < 16 := by omega
      have HI := Lib.hid hi
      generalize la M i = l at *
      clear hur hM hi
      go_wp2_with fail
      go_region_with (go_at_call 63; refine (HP.out l _).mono ?_; rintro e w7 ⟨rfl, hb⟩; have o7 : Own w7 b t (pre ++ lcs M) := Own.below (w := w6.drew) (show Own w6.drew b t _ from HX.out) hb HX.out.lt; obtain ⟨k1, k2⟩ := o7.lapair HI.out; have f1 := o7.frozen (pre.length + i * 2); have f2 := o7.frozen (pre.length + i * 2 + 1); have HC7 := Lib.hid (HC.out.drew.of_below hb); have HO7 := Lib.hid o7; clear o7 hb; rw [HOF.out] at k1 k2 f1 f2)
      go_wp2_with fail
      refine ⟨⟨k + 1, by omega, by go_num, ?_, ?_⟩, by simp [intOf]; omega⟩
      · rw [HT.out, ← HOF.out]
        exact Lib.hid (HO7.out.laset i (pushA l x))
      · exact Lib.hid ((HC7.out.setCell (.inl (by simp)) _).setCell (.inl (by simp)) _)
    · obtain rfl : k = n := by omega
      go_wp2_with fail
      go_end0
      refine ⟨rfl, ?_, HC.out⟩
      have := HX.out
      rw [List.take_of_length_le (by rw [HN.out]; exact Nat.le_refl _)] at this
      exact this

theorem Lb.chgQ {w w' : World} {base : Nat} {v : Value} {L : List Bk} {l : List Nat} (h : Lb w base v L) (hc : Chg l w w') (hl : ∀ x ∈ l, ∀ cur, w.heap[x]? ≠ some (.cells cur 54 (0, 0))) : Lb w' base v L := by
  refine ⟨h.1, ?_⟩
  rcases h.2 with h1 | ⟨g, cap, cur, h1, h2, h3, h4⟩
  · exact .inl h1
  · exact .inr ⟨g, cap, cur, h1, h2, (hc.block g (Array.getElem?_eq_some_iff.1 h3).1 (fun hm => hl g hm cur h3)).trans h3, h4⟩
theorem Lb.rowQ {w : World} {base : Nat} {v : Value} {L : List Bk} (h : Lb w base v L) : ∀ x ∈ rowOf v, base ≤ x ∧ ∃ cur, w.heap[x]? = some (.cells cur 54 (0, 0)) := by
  intro x hx
  rcases h.2 with ⟨rfl, _⟩ | ⟨g, cap, cur, rfl, h2, h3, _⟩
  · simp [rowOf, Value.ownBlock] at hx
  · simp [rowOf, Value.ownBlock] at hx
    subst hx
    exact ⟨h2, cur, h3⟩
/-- append of one Back -/
theorem wpList_appBkQ {ops : Array Oper} {rest : List Oper} {o : Oper} {a : Act} {w : World} {Q : Exit → Act → World → Prop} (hgd : o.guard = none) (s x : Operand)
    (ho : o.op = .call { callee := .builtin .append, args := #[s, x], argTypes := #[30, 30] })
    (base : Nat) (v : Value) (L : List Bk) (hs : a.eval s = v) (hown : Lb w base v L) (g : Nat) (y : Bk) (t : TypeId) (hnew : Own w g t (bcs [y]))
    (hx : a.eval x = .slice (some ⟨g, 0, none⟩) 1 1) (hlen : L.length ≤ 1000000) (hbase : base ≤ w.heap.size)
    (h : ∀ v' w', Hid (Lb w' base v' (L ++ [y])) → Chg (rowOf v) w w' → wpList Try.prog ops Q rest (a.put o.dst v') w') : wpList Try.prog ops Q (o :: rest) a w := by
  obtain ⟨i, hi, hzz⟩ := Option.map_eq_some_iff.1 Try.info_back
  simp only [Prod.mk.injEq] at hzz
  obtain ⟨hz, hsz, hby⟩ := hzz
  refine wpList_append_own w hgd s x 30 ho base 54 i _ 3 24 Try.underlying30 hi hz hsz hby rfl (by omega) v L.length (bcs L) hs hown ⟨g, 0, none⟩ 1 1 (bcs [y]) hx (by simp) (fun j u hu => ?_) (bcs_one _) (by unfold maxLen; omega) (by omega) hbase fun v' w' h2 h3 _ => h v' w' ?_ (grown_chg h3)
  · rw [add_off, Nat.zero_add, hnew.cell j]; exact hu
  · show w'.ownsRow base 54 3 v' (L ++ [y]).length (bcs (L ++ [y]))
    rw [List.length_append, bcs_append]
    exact h2

set_option maxHeartbeats 2000000 in
set_option maxRecDepth 100000 in
theorem backs_any (S : List Int) (hS : ∀ s ∈ S, 0 ≤ s ∧ s < 16) (a : Option Addr) (c b : Nat) (t : TypeId) (pre : List Value) (L : List La) (hL : L.length = 16) (w : World) (hro : Ro w w.heap.size a (i64s S)) (hl : S.length ≤ 1000000) (ho : Own w b t (pre ++ lcs L)) :
    Calls Try.prog 45 #[.pointer (some ⟨b, pre.length, none⟩), .slice a S.length c] w fun e w' => ∃ v, e = .returned v ∧ Lb w' w.heap.size v (backsL L S) ∧ Chg [] w w' := by
  have HRO := Lib.hid hro
  have HU : Hid (∀ k, k < S.length → 0 ≤ S.getD k 0 ∧ S.getD k 0 < 16) := Lib.hid fun k hk => hS _ (by simp [List.getD, hk])
  have HO := Lib.hid ho
  obtain ⟨n, hn⟩ : ∃ n, S.length = n := ⟨_, rfl⟩
  rw [hn] at hl ⊢
  have HN := Lib.hid hn
  have HLL := Lib.hid hL
  obtain ⟨off, hoff⟩ : ∃ off, pre.length = off := ⟨_, rfl⟩
  have HOF := Lib.hid hoff
  rw [hoff]
  have HLM := Lib.hid hl
  clear hro hS ho hn hL hoff
  go_enter Try.func45, Try.ntmps45
  go_wp2_with fail
  go_loopw [5, 10] (fun v i wr => ∃ (k : Nat), k ≤ n ∧ i = .int .i64 (k : Int) ∧ Hid (Lb wr w.heap.size v (backsL L (S.take k))) ∧ Hid (Chg [] w wr)) (fun _ i _ => n - (intOf i).toNat)
  case atStart => exact ⟨0, Nat.zero_le _, rfl, Lib.hid (Lb.nil _ _), Lib.hid (Chg.refl _ _)⟩
  case round =>
    obtain ⟨k, hk, rfl, HX, HC⟩ := hrel
    rename World => w6
    by_cases hlt : k < n
    · have hkL : k < S.length := by rw [HN.out]; exact hlt
      obtain ⟨b0, off0, rfl, hb0, hc⟩ := (HRO.out.below HC.out.low (Nat.le_refl _)).i64 (show 0 < S.length by omega)
      have e1 := hc k hkL
      have hur := HU.out k hkL
      have HT : Hid (backsL L (S.take (k + 1)) = backsL L (S.take k) ++ [(S.getD k 0, la L (S.getD k 0).toNat)]) := Lib.hid (by
        rw [List.take_succ_eq_append_getElem hkL]
        simp only [backsL, List.map_append, List.map_cons, List.map_nil, List.getD, List.getElem?_eq_getElem hkL, Option.getD_some])
      have HLn : Hid ((backsL L (S.take k)).length = k) := Lib.hid (by rw [backsL_length, List.length_take]; omega)
      clear hc
      have hk0 : (0 : Int) ≤ (k : Int) := by omega
      have hk1 : (k : Int) < (n : Int) := by omega
      generalize S.getD k 0 = s at *
      obtain ⟨i, rfl⟩ := Int.eq_ofNat_of_zero_le hur.1
      rw [Int.toNat_natCast] at HT
      have hi : i < L.length := by have := HLL.out; omega
      obtain ⟨q1, q2⟩ := (HO.out.chg HC.out (by simp)).lapair hi
      rw [HOF.out] at q1 q2
      have hi0 : (0 : Int) ≤ (i : Int) := by omega
      have hi1 : (i : Int) < 16 := by omega
      generalize la L i = l at *
      obtain ⟨l1, l2⟩ := l
      generalize backsL L (S.take k) = xs at *
      obtain ⟨al, cl, hv, _, _, _⟩ := HX.out.form
      subst hv
      obtain ⟨W7, hW7⟩ : ∃ W7, w6.alloc (.cells #[.int .i64 (i : Int), .int .u64 (l1 : Int), .int .u64 (l2 : Int)] 54) = W7 := ⟨_, rfl⟩
      obtain ⟨g, hg⟩ : ∃ g, w6.heap.size = g := ⟨_, rfl⟩
      have HG : Hid (Own W7 g 54 (bcs [((i : Int), l1, l2)])) := Lib.hid (by rw [← hW7, ← hg]; exact Own.new w6 _ _)
      have HC7 : Hid (Chg [] w W7) := Lib.hid (by rw [← hW7]; exact HC.out.alloc _)
      have HL7 : Hid (Lb W7 w.heap.size (.slice al xs.length cl) xs) := Lib.hid (by rw [← hW7]; exact HX.out.alloc _)
      have HRW := Lib.hid (fun x (hx : x ∈ rowOf (.slice al xs.length cl)) => (HX.out.rowQ x hx).1)
      have HWW := Lib.hid hW7
      have HGG := Lib.hid hg
      clear hur hi hW7 hg
      rw [HLn.out] at HL7 HRW ⊢
      go_wp2_with (rw [HWW.out, HGG.out]; at_builtin; refine wpList_appBkQ rfl (.tmp 14) (.tmp 22) rfl w.heap.size (.slice al k cl) xs rfl HL7.out g ((i : Int), l1, l2) 54 HG.out rfl (by have := HLn.out; have := HLM.out; omega) HC7.out.size ?_)
      intro v' w8 hl8 hc8
      have HC8 : Hid (Chg [] w w8) := Lib.hid (HC7.out.then hc8 (fun x hx => .inr (HRW.out x hx)))
      clear hc8
      go_wp2_with fail
      go_roundw
      case rel => exact ⟨k + 1, by omega, by go_num, by rw [HT.out]; exact hl8, HC8⟩
      case measure => simp [intOf]; omega
    · obtain rfl : k = n := by omega
      go_wp2_with fail
      go_ret
      have := HX.out
      rw [List.take_of_length_le (by rw [HN.out]; exact Nat.le_refl _)] at this
      exact ⟨_, rfl, this, HC.out⟩
end Go.Proofs.Ytdblplkaobeimaa
namespace Go.Proofs.Ytdblplkaobeimaa
open Go.RowKit Go.Deep Go.Shelf
set_option linter.unusedVariables false
set_option linter.unusedSimpArgs false

set_option maxHeartbeats 2000000 in
theorem equalInts_any (w : World) (a b : Option Addr) (A B : List Int) (c d n m B0 : Nat) (hn : A.length = n) (hm : B.length = m) (ha : Ro w B0 a (i64s A)) (hb : Ro w B0 b (i64s B)) (hl : n ≤ 9223372036854775807) (hl2 : m ≤ 9223372036854775807) :
    Calls Try.prog 71 #[.slice a n c, .slice b m d] w fun e w' => e = .returned (.bool (decide (A = B))) ∧ Qt w w' := by
  have HN := Lib.hid hn
  have HM := Lib.hid hm
  have HA := Lib.hid ha
  have HB := Lib.hid hb
  clear ha hb hn hm
  go_enter Try.func71, Try.ntmps71
  by_cases hnm : n = m
  · subst hnm
    go_wp2_with fail
    go_loopw [13] (fun i wr => ∃ k : Nat, i = .int .i64 k ∧ k ≤ n ∧ Hid (∀ j, j < k → A.getD j 0 = B.getD j 0) ∧ Qt w wr) (fun i _ => n - (intOf i).toNat)
    case atStart => exact ⟨0, rfl, Nat.zero_le _, Lib.hid (by omega), Qt.refl _⟩
    case round =>
      obtain ⟨k, rfl, hk, HT, hq⟩ := hrel
      by_cases hlt : k < n
      · have hkA : k < A.length := by rw [HN.out]; exact hlt
        have hkB : k < B.length := by rw [HM.out]; exact hlt
        obtain ⟨g, off, rfl, hg, hcl⟩ := (HA.out.qt hq).i64 (by omega)
        obtain ⟨g', off', rfl, hg', hcl'⟩ := (HB.out.qt hq).i64 (by omega)
        have h1 := hcl k hkA
        have h4 := hcl' k hkB
        clear hcl hcl'
        obtain ⟨x, hx⟩ : ∃ x, A.getD k 0 = x := ⟨_, rfl⟩
        obtain ⟨y, hy⟩ : ∃ y, B.getD k 0 = y := ⟨_, rfl⟩
        rw [hx] at h1
        rw [hy] at h4
        have HX := Lib.hid hx
        have HY := Lib.hid hy
        have hk0 : (0 : Int) ≤ (k : Int) := by omega
        have hk1 : (k : Int) < (n : Int) := by omega
        have HQ := Lib.hid hq
        clear hq hx hy
        by_cases hxy : x = y
        · have hne : (x != y) = false := by rw [bne_eq_false_iff_eq]; exact hxy
          have HE := Lib.hid hxy
          clear hxy
          go_wp2_with fail
          go_region
          go_wp2_with fail
          go_roundw
          case rel =>
            refine ⟨k + 1, by go_num, by omega, Lib.hid fun j hj => ?_, by first | exact HQ.out | exact HQ.out.trans ⟨1, rfl⟩⟩
            by_cases e : j = k
            · subst e; rw [HX.out, HY.out]; exact HE.out
            · exact HT.out j (by omega)
          case measure => simp [intOf]; omega
        · have hne : (x != y) = true := by rw [bne_iff_ne]; exact hxy
          have HF : Hid (decide (A = B) = false) := Lib.hid (by
            simp only [decide_eq_false_iff_not]
            rintro rfl
            exact hxy (HX.out.symm.trans HY.out))
          clear hxy
          go_wp2_with fail
          go_region
          go_wp2_with fail
          go_ret
          exact ⟨by rw [HF.out]; rfl, by first | exact HQ.out | exact HQ.out.trans ⟨1, rfl⟩⟩
      · obtain rfl : k = n := by omega
        have HF : Hid (decide (A = B) = true) := Lib.hid (by
          simp only [decide_eq_true_eq]
          apply List.ext_getElem (by rw [HN.out, HM.out])
          intro i h1 h2
          have := HT.out i (by rw [HN.out] at h1; exact h1)
          simpa [List.getD, h1, h2] using this)
        go_wp2_with fail
        go_ret
        exact ⟨by rw [HF.out]; rfl, hq⟩
  · have hd0 : ((n : Int) != (m : Int)) = true := by rw [bne_iff_ne]; omega
    have HF := Lib.hid (show decide (A = B) = false by simp only [decide_eq_false_iff_not]; rintro rfl; exact hnm (HN.out.symm.trans HM.out))
    go_wp2_with fail
    go_ret
    exact ⟨by rw [HF.out]; rfl, Qt.refl _⟩

theorem chx_ext {A B : List ChT} (h : A.length = B.length) (he : ∀ j, j < A.length → (ct A j).u = (ct B j).u) : chx A = chx B := by
  apply List.ext_getElem (by simpa using h)
  intro i h1 h2
  have h1' : i < A.length := by simpa using h1
  have h2' : i < B.length := by simpa using h2
  have := he i h1'
  simpa [chx, ct, List.getD, h1', h2'] using this
theorem sgx_ext {A B : List SgT} (h : A.length = B.length) (he : ∀ j, j < A.length → (st A j).x = (st B j).x) : sgx A = sgx B := by
  apply List.ext_getElem (by simpa using h)
  intro i h1 h2
  have h1' : i < A.length := by simpa using h1
  have h2' : i < B.length := by simpa using h2
  have := he i h1'
  simpa [sgx, st, List.getD, h1', h2'] using this

set_option maxHeartbeats 2000000 in
theorem eqChs_any (A B : List ChT) (a b : Option Addr) (c d B0 : Nat) (w : World) (ha : Ro w B0 a (chv A)) (hb : Ro w B0 b (chv B)) (hia : ChIn w B0 A) (hib : ChIn w B0 B) (hfa : ChFit A) (hfb : ChFit B) (hB : B0 ≤ w.heap.size) :
    Calls Try.prog 70 #[.slice a A.length c, .slice b B.length d, .func (.func 71) #[] #[]] w fun e w' => e = .returned (.bool (decide (chx A = chx B))) ∧ Below w.heap.size w w' := by
  have eg : ∀ args w, (callFunc 71 args).run Try.prog w = .ok (.enter 71 args) w := enters_of Try.func71 (by kernel_rfl) rfl
  have HA := Lib.hid (And.intro ha hia)
  have HBb := Lib.hid (And.intro hb hib)
  have HFA := Lib.hid hfa.2
  have HFB := Lib.hid hfb.2
  have hl1 := hfa.1
  have HS := Lib.hid hB
  obtain ⟨n, hn⟩ : ∃ n, A.length = n := ⟨_, rfl⟩
  obtain ⟨m, hm⟩ : ∃ m, B.length = m := ⟨_, rfl⟩
  have hl2 := hfb.1
  rw [hn] at hl1 ⊢
  rw [hm] at hl2 ⊢
  have HN := Lib.hid hn
  have HM := Lib.hid hm
  obtain ⟨t, HT⟩ : ∃ t, Hid (decide (chx A = chx B) = t) := ⟨_, Lib.hid rfl⟩
  rw [HT.out]
  clear ha hb hia hib hfa hfb hB hn hm
  go_enter Try.func70, Try.ntmps70
  by_cases hnm : n = m
  · subst hnm
    go_wp2_with fail
    go_loopw [17] (fun i wr => ∃ k : Nat, i = .int .i64 k ∧ k ≤ n ∧ Hid (∀ j, j < k → (ct A j).u = (ct B j).u) ∧ Hid (Below w.heap.size w wr)) (fun i _ => n - (intOf i).toNat)
    case atStart => exact ⟨0, rfl, Nat.zero_le _, Lib.hid (by omega), Lib.hid (Below.refl _ _)⟩
    case round =>
      obtain ⟨k, rfl, hk, HE, HBk⟩ := hrel
      rename World => w6
      by_cases hlt : k < n
      · have hkA : k < A.length := by rw [HN.out]; exact hlt
        have hkB : k < B.length := by rw [HM.out]; exact hlt
        obtain ⟨g, off, rfl, hg, hcl⟩ := (HA.out.1.below HBk.out HS.out).ch (show 0 < A.length by omega)
        obtain ⟨g', off', rfl, hg', hcl'⟩ := (HBb.out.1.below HBk.out HS.out).ch (show 0 < B.length by omega)
        have h1 := hcl k hkA
        have h4 := hcl' k hkB
        have HCA := Lib.hid ((HA.out.2 _ (ct_mem hkA)).below HBk.out HS.out)
        have HCB := Lib.hid ((HBb.out.2 _ (ct_mem hkB)).below HBk.out HS.out)
        have HQA := Lib.hid (HFA.out _ (ct_mem hkA))
        have HQB := Lib.hid (HFB.out _ (ct_mem hkB))
        clear hcl hcl'
        obtain ⟨x, hx⟩ : ∃ x, ct A k = x := ⟨_, rfl⟩
        obtain ⟨y, hy⟩ : ∃ y, ct B k = y := ⟨_, rfl⟩
        rw [hx] at h1 HCA HQA
        rw [hy] at h4 HCB HQB
        have HX := Lib.hid hx
        have HY := Lib.hid hy
        obtain ⟨xa, xc, xu⟩ := x
        obtain ⟨ya, yc, yu⟩ := y
        simp only at h1 h4 HCA HCB HQA HQB
        have hk0 : (0 : Int) ≤ (k : Int) := by omega
        have hk1 : (k : Int) < (n : Int) := by omega
        have HEQ : Hid (∀ W, Qt w6 W → Calls Try.prog 71 #[.slice xa xu.length xc, .slice ya yu.length yc] W fun e w' => e = .returned (.bool (decide (xu = yu))) ∧ Qt W w') := Lib.hid fun W hW => equalInts_any W xa ya xu yu xc yc _ _ B0 rfl rfl (HCA.out.qt hW) (HCB.out.qt hW) HQA.out HQB.out
        obtain ⟨r, hr⟩ : ∃ r, decide (xu = yu) = r := ⟨_, rfl⟩
        rw [hr] at HEQ
        have HR := Lib.hid hr
        clear hx hy hr
        generalize xu.length = xn at *
        generalize yu.length = yn at *
        go_wp2_with fail
        refine (HEQ.out _ (Qt.refl _)).mono ?_
        rintro e w7 ⟨rfl, hq⟩
        have HB7 : Hid (Below w.heap.size w w7) := Lib.hid (hq.below HBk.out)
        clear hq
        cases r with
        | true =>
          go_wp2_with fail
          go_roundw
          case rel =>
            refine ⟨k + 1, by go_num, by omega, Lib.hid fun j hj => ?_, HB7⟩
            by_cases e : j = k
            · subst e; rw [HX.out, HY.out]; simpa using HR.out
            · exact HE.out j (by omega)
          case measure => simp [intOf]; omega
        | false =>
          obtain rfl : t = false := by
            rw [← HT.out]
            simp only [decide_eq_false_iff_not]
            intro h
            have := congrArg (fun l => cx l k) h
            simp only [cx_chx, HX.out, HY.out] at this
            have h2 := HR.out
            simp only [decide_eq_false_iff_not] at h2
            exact h2 this
          go_wp2_with fail
          go_ret
          exact ⟨rfl, HB7.out⟩
      · obtain rfl : k = n := by omega
        obtain rfl : t = true := by
          rw [← HT.out]
          simp only [decide_eq_true_eq]
          exact chx_ext (by rw [HN.out, HM.out]) (by rw [HN.out]; exact HE.out)
        go_wp2_with fail
        go_ret
        exact ⟨rfl, HBk.out⟩
  · have hd0 : ((n : Int) != (m : Int)) = true := by rw [bne_iff_ne]; omega
    obtain rfl : t = false := by
      rw [← HT.out]
      simp only [decide_eq_false_iff_not]
      intro h
      have := congrArg List.length h
      simp only [chx_length, HN.out, HM.out] at this
      exact hnm this
    go_wp2_with fail
    go_ret
    exact ⟨rfl, Below.refl _ _⟩
set_option maxHeartbeats 2000000 in
theorem sameSeg_any (A B : SgT) (B0 : Nat) (w : World) (ha : Ro w B0 A.a (chv A.ch)) (hb : Ro w B0 B.a (chv B.ch)) (hia : ChIn w B0 A.ch) (hib : ChIn w B0 B.ch) (hfa : ChFit A.ch) (hfb : ChFit B.ch) (hB : B0 ≤ w.heap.size) :
    Calls Try.prog 59 #[A.val, B.val] w fun e w' => e = .returned (.bool (decide (A.x = B.x))) ∧ Below w.heap.size w w' := by
  obtain ⟨f, a, c, L⟩ := A
  obtain ⟨f', a', c', L'⟩ := B
  simp only [SgT.val] at *
  obtain ⟨W, HWW⟩ : ∃ W, Hid ((w.alloc (.cells #[.int .u64 (f : Int), .slice a L.length c] 91)).alloc (.cells #[.int .u64 (f' : Int), .slice a' L'.length c'] 91) = W) := ⟨_, Lib.hid rfl⟩
  have hWc : Chg [] w W := by rw [← HWW.out]; exact ((Chg.refl [] w).alloc _).alloc _
  have hWb : Below w.heap.size w W := hWc.low
  have o1 : Own W w.heap.size 91 [.int .u64 (f : Int), .slice a L.length c] := by rw [← HWW.out]; exact (Own.new w _ _).alloc _
  have o2 : Own W (w.heap.size + 1) 91 [.int .u64 (f' : Int), .slice a' L'.length c'] := by
    rw [← HWW.out]
    have := Own.new (w.alloc (.cells #[.int .u64 (f : Int), .slice a L.length c] 91)) 91 [.int .u64 (f' : Int), .slice a' L'.length c']
    simpa using this
  have HE := Lib.hid (eqChs_any L L' a a' c c' B0 W (ha.below hWb hB) (hb.below hWb hB) (hia.below hWb hB) (hib.below hWb hB) hfa hfb (Nat.le_trans hB hWb.size))
  obtain ⟨r, hr⟩ : ∃ r, decide (chx L = chx L') = r := ⟨_, rfl⟩
  rw [hr] at HE
  have HX : Hid (decide (SgT.x ⟨f, a, c, L⟩ = SgT.x ⟨f', a', c', L'⟩) = (decide (f = f') && r)) := Lib.hid (by
    rw [← hr]
    simp only [SgT.x, Prod.mk.injEq, Bool.decide_and])
  rw [HX.out]
  have HB := Lib.hid hWb
  have c0 := o1.cell 0
  have c1 := o1.cell 1
  have d0 := o2.cell 0
  have d1 := o2.cell 1
  simp at c0 c1 d0 d1
  generalize L.length = n at *
  generalize L'.length = n' at *
  clear hWc hWb o1 o2 hr ha hb hia hib hfa hfb hB
  by_cases e : f = f'
  · subst e
    have e0 : decide (f = f) = true := by simp
    rw [e0, Bool.true_and]
    clear e0
    go_enter Try.func59, Try.ntmps59
    go_upto_region 1 with fail
    rw [HWW.out]
    go_wp2_with fail
    refine HE.out.mono ?_
    rintro e w1 ⟨rfl, hb⟩
    have HB1 := Lib.hid (HB.out.trans (hb.mono HB.out.size))
    clear hb
    go_wp2_with fail
    go_ret
    exact ⟨rfl, HB1.out⟩
  · have e0 : decide (f = f') = false := by simpa using e
    have e1 : ((f : Int) == (f' : Int)) = false := by rw [beq_eq_false_iff_ne]; omega
    rw [e0, Bool.false_and]
    clear e0 e
    go_enter Try.func59, Try.ntmps59
    go_upto_region 1 with fail
    rw [HWW.out]
    go_wp2_with fail
    go_ret
    exact ⟨rfl, HB.out⟩

set_option maxHeartbeats 2000000 in
theorem eqSgs_any (A B : List SgT) (a b : Option Addr) (c d B0 : Nat) (w : World) (ha : Ro w B0 a (sgv A)) (hb : Ro w B0 b (sgv B)) (hia : SgIn w B0 A) (hib : SgIn w B0 B) (hfa : SgFit A) (hfb : SgFit B) (hB : B0 ≤ w.heap.size) :
    Calls Try.prog 58 #[.slice a A.length c, .slice b B.length d, .func (.func 59) #[] #[]] w fun e w' => e = .returned (.bool (decide (sgx A = sgx B))) ∧ Below w.heap.size w w' := by
  have eg : ∀ args w, (callFunc 59 args).run Try.prog w = .ok (.enter 59 args) w := enters_of Try.func59 (by kernel_rfl) rfl
  have HA := Lib.hid (And.intro ha hia)
  have HBb := Lib.hid (And.intro hb hib)
  have HFA := Lib.hid hfa.2
  have HFB := Lib.hid hfb.2
  have hl1 := hfa.1
  have HS := Lib.hid hB
  obtain ⟨n, hn⟩ : ∃ n, A.length = n := ⟨_, rfl⟩
  obtain ⟨m, hm⟩ : ∃ m, B.length = m := ⟨_, rfl⟩
  have hl2 := hfb.1
  rw [hn] at hl1 ⊢
  rw [hm] at hl2 ⊢
  have HN := Lib.hid hn
  have HM := Lib.hid hm
  obtain ⟨t, HT⟩ : ∃ t, Hid (decide (sgx A = sgx B) = t) := ⟨_, Lib.hid rfl⟩
  rw [HT.out]
  clear ha hb hia hib hfa hfb hB hn hm
  go_enter Try.func58, Try.ntmps58
  by_cases hnm : n = m
  · subst hnm
    go_wp2_with fail
    go_loopw [17] (fun i wr => ∃ k : Nat, i = .int .i64 k ∧ k ≤ n ∧ Hid (∀ j, j < k → (st A j).x = (st B j).x) ∧ Hid (Below w.heap.size w wr)) (fun i _ => n - (intOf i).toNat)
    case atStart => exact ⟨0, rfl, Nat.zero_le _, Lib.hid (by omega), Lib.hid (Below.refl _ _)⟩
    case round =>
      obtain ⟨k, rfl, hk, HE, HBk⟩ := hrel
      rename World => w6
      by_cases hlt : k < n
      · have hkA : k < A.length := by rw [HN.out]; exact hlt
        have hkB : k < B.length := by rw [HM.out]; exact hlt
        obtain ⟨g, off, rfl, hg, hcl⟩ := (HA.out.1.below HBk.out HS.out).sg (show 0 < A.length by omega)
        obtain ⟨g', off', rfl, hg', hcl'⟩ := (HBb.out.1.below HBk.out HS.out).sg (show 0 < B.length by omega)
        obtain ⟨h1, h2⟩ := hcl k hkA
        obtain ⟨h4, h5⟩ := hcl' k hkB
        have HCA := Lib.hid (HA.out.2 _ (st_mem hkA))
        have HCB := Lib.hid (HBb.out.2 _ (st_mem hkB))
        have HQA := Lib.hid (HFA.out _ (st_mem hkA))
        have HQB := Lib.hid (HFB.out _ (st_mem hkB))
        clear hcl hcl'
        obtain ⟨x, hx⟩ : ∃ x, st A k = x := ⟨_, rfl⟩
        obtain ⟨y, hy⟩ : ∃ y, st B k = y := ⟨_, rfl⟩
        rw [hx] at h1 h2 HCA HQA
        rw [hy] at h4 h5 HCB HQB
        have HX := Lib.hid hx
        have HY := Lib.hid hy
        have HEQ : Hid (∀ W, Below w.heap.size w W → Calls Try.prog 59 #[x.val, y.val] W fun e w' => e = .returned (.bool (decide (x.x = y.x))) ∧ Below W.heap.size W w') := Lib.hid fun W hW => sameSeg_any x y B0 W (HCA.out.1.below hW HS.out) (HCB.out.1.below hW HS.out) (HCA.out.2.below hW HS.out) (HCB.out.2.below hW HS.out) HQA.out HQB.out (Nat.le_trans HS.out hW.size)
        obtain ⟨r, hr⟩ : ∃ r, decide (x.x = y.x) = r := ⟨_, rfl⟩
        rw [hr] at HEQ
        have HR := Lib.hid hr
        obtain ⟨xf, xa, xc, xu⟩ := x
        obtain ⟨yf, ya, yc, yu⟩ := y
        simp only [SgT.val] at h1 h2 h4 h5 HEQ
        have hk0 : (0 : Int) ≤ (k : Int) := by omega
        have hk1 : (k : Int) < (n : Int) := by omega
        clear hx hy hr
        generalize xu.length = xn at *
        generalize yu.length = yn at *
        have HK2 : Hid (w.heap.size ≤ w6.heap.size) := Lib.hid HBk.out.size
        have hgz := hg
        have hgz' : g' < w6.heap.size := by have := HS.out; have := HK2.out; omega
        have hgz2 : g < w6.heap.size := by have := HS.out; have := HK2.out; omega
        have h4' : (w6.alloc (.cells #[.int .u64 (xf : Int), .slice xa xn xc] 91)).cell? ⟨g', off' + k * 2, none⟩ = some (.int .u64 (yf : Int)) := (((Chg.refl [] w6).alloc _).cell h4 (by simp))
        have h5' : (w6.alloc (.cells #[.int .u64 (xf : Int), .slice xa xn xc] 91)).cell? ⟨g', off' + k * 2 + 1, none⟩ = some (.slice ya yn yc) := (((Chg.refl [] w6).alloc _).cell h5 (by simp))
        go_wp2_with fail
        refine (HEQ.out _ ((HBk.out.alloc HBk.out.size _).alloc (by have := HK2.out; simp; omega) _)).mono ?_
        rintro e w7 ⟨rfl, hq⟩
        have HB7 : Hid (Below w.heap.size w w7) := Lib.hid (((HBk.out.alloc HBk.out.size _).alloc (by have := HK2.out; simp; omega) _).trans (hq.mono (by have := HK2.out; simp; omega)))
        clear hq h4' h5'
        cases r with
        | true =>
          go_wp2_with fail
          go_roundw
          case rel =>
            refine ⟨k + 1, by go_num, by omega, Lib.hid fun j hj => ?_, HB7⟩
            by_cases e : j = k
            · subst e; rw [HX.out, HY.out]; simpa using HR.out
            · exact HE.out j (by omega)
          case measure => simp [intOf]; omega
        | false =>
          obtain rfl : t = false := by
            rw [← HT.out]
            simp only [decide_eq_false_iff_not]
            intro h
            have := congrArg (fun l => sx l k) h
            simp only [sx_sgx, HX.out, HY.out] at this
            have h2 := HR.out
            simp only [decide_eq_false_iff_not] at h2
            exact h2 this
          go_wp2_with fail
          go_ret
          exact ⟨rfl, HB7.out⟩
      · obtain rfl : k = n := by omega
        obtain rfl : t = true := by
          rw [← HT.out]
          simp only [decide_eq_true_eq]
          exact sgx_ext (by rw [HN.out, HM.out]) (by rw [HN.out]; exact HE.out)
        go_wp2_with fail
        go_ret
        exact ⟨rfl, HBk.out⟩
  · have hd0 : ((n : Int) != (m : Int)) = true := by rw [bne_iff_ne]; omega
    obtain rfl : t = false := by
      rw [← HT.out]
      simp only [decide_eq_false_iff_not]
      intro h
      have := congrArg List.length h
      simp only [sgx_length, HN.out, HM.out] at this
      exact hnm this
    go_wp2_with fail
    go_ret
    exact ⟨rfl, Below.refl _ _⟩

set_option maxHeartbeats 2000000 in
theorem lsame_any (A B : LyT) (B0 : Nat) (w : World) (ha : LyIn w B0 A) (hb : LyIn w B0 B) (hfa : SgFit A.sg) (hfb : SgFit B.sg) (hB : B0 ≤ w.heap.size) :
    Calls Try.prog 39 #[A.val, B.val] w fun e w' => e = .returned (.bool (lalike A.x B.x)) ∧ Below w.heap.size w w' := by
  obtain ⟨f, a, c, L, q⟩ := A
  obtain ⟨f', a', c', L', q'⟩ := B
  simp only [LyT.val] at *
  obtain ⟨W, HWW⟩ : ∃ W, Hid ((w.alloc (.cells #[.int .u64 (f : Int), .slice a L.length c, .int .i64 q] 38)).alloc (.cells #[.int .u64 (f' : Int), .slice a' L'.length c', .int .i64 q'] 38) = W) := ⟨_, Lib.hid rfl⟩
  have hWc : Chg [] w W := by rw [← HWW.out]; exact ((Chg.refl [] w).alloc _).alloc _
  have hWb : Below w.heap.size w W := hWc.low
  have o1 : Own W w.heap.size 38 [.int .u64 (f : Int), .slice a L.length c, .int .i64 q] := by rw [← HWW.out]; exact (Own.new w _ _).alloc _
  have o2 : Own W (w.heap.size + 1) 38 [.int .u64 (f' : Int), .slice a' L'.length c', .int .i64 q'] := by
    rw [← HWW.out]
    have := Own.new (w.alloc (.cells #[.int .u64 (f : Int), .slice a L.length c, .int .i64 q] 38)) 38 [.int .u64 (f' : Int), .slice a' L'.length c', .int .i64 q']
    simpa using this
  have HE := Lib.hid (eqSgs_any L L' a a' c c' B0 W (ha.1.below hWb hB) (hb.1.below hWb hB) (ha.2.below hWb hB) (hb.2.below hWb hB) hfa hfb (Nat.le_trans hB hWb.size))
  obtain ⟨r, hr⟩ : ∃ r, decide (sgx L = sgx L') = r := ⟨_, rfl⟩
  rw [hr] at HE
  have HX : Hid (lalike (LyT.x ⟨f, a, c, L, q⟩) (LyT.x ⟨f', a', c', L', q'⟩) = (decide (f = f') && (decide (q = q') && r))) := Lib.hid (by
    rw [← hr]
    rfl)
  rw [HX.out]
  have HB := Lib.hid hWb
  have c0 := o1.cell 0
  have c1 := o1.cell 1
  have c2 := o1.cell 2
  have d0 := o2.cell 0
  have d1 := o2.cell 1
  have d2 := o2.cell 2
  simp at c0 c1 c2 d0 d1 d2
  generalize L.length = n at *
  generalize L'.length = n' at *
  clear hWc hWb o1 o2 hr ha hb hfa hfb hB
  by_cases e : f = f'
  · subst e
    have e0 : decide (f = f) = true := by simp
    rw [e0, Bool.true_and]
    clear e0
    by_cases e : q = q'
    · subst e
      have e0 : decide (q = q) = true := by simp
      rw [e0, Bool.true_and]
      clear e0
      go_enter Try.func39, Try.ntmps39
      go_upto_region 1 with fail
      rw [HWW.out]
      go_wp2_with fail
      refine HE.out.mono ?_
      rintro e w1 ⟨rfl, hb⟩
      have HB1 := Lib.hid (HB.out.trans (hb.mono HB.out.size))
      clear hb
      go_wp2_with fail
      go_ret
      exact ⟨rfl, HB1.out⟩
    · have e0 : decide (q = q') = false := by simpa using e
      have e1 : (q == q') = false := by rw [beq_eq_false_iff_ne]; exact e
      rw [e0, Bool.false_and]
      clear e0 e
      go_enter Try.func39, Try.ntmps39
      go_upto_region 1 with fail
      rw [HWW.out]
      go_wp2_with fail
      go_ret
      exact ⟨rfl, HB.out⟩
  · have e0 : decide (f = f') = false := by simpa using e
    have e1 : ((f : Int) == (f' : Int)) = false := by rw [beq_eq_false_iff_ne]; omega
    rw [e0, Bool.false_and]
    clear e0 e
    go_enter Try.func39, Try.ntmps39
    go_upto_region 1 with fail
    rw [HWW.out]
    go_wp2_with fail
    go_ret
    exact ⟨rfl, HB.out⟩
end Go.Proofs.Ytdblplkaobeimaa
