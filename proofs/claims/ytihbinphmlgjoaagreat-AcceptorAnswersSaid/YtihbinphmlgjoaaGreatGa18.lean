/-
  Contract of package disk's Crash, of a disk. No claim of its own.
-/
import Derived.Test.YtihbinphmlgjoaaGreatGa4
import Derived.Test.YtihbinphmlgjoaaGreatGa17
import Derived.Lib.SlBytesConst
import Derived.Test.YtihbinphmlgjoaaGreatGa7
import Derived.Test.YtihbinphmlgjoaaGreatGa10
import Derived.Test.YtihbinphmlgjoaaGreatGa1
import Derived.Maps.RangeWalk
import Derived.Maps.OwnIn
import Derived.Maps.OwnSet
import Derived.Maps.Ext
import Derived.Lib.SlKeysI
import Derived.Test.YtihbinphmlgjoaaGreatGa6
import Derived.Laws.StructEq
namespace Go.Proofs.YtihbinphmlgjoaaGreat
open Go.RowKit Go.Maps Go.Shelf
set_option linter.unusedVariables false
set_option linter.unusedSimpArgs false

/-- a crash under way: the first k dirty sectors are done -/
structure CrAt (w wr : World) (g gd n : Nat) (F : Nat → Sec) (m : Nat → Option Sec) (ks : List Bool) (k : Nat) : Prop where
  chg : Chg [] w wr
  rng : ∀ i, i < n → wr.rangeAt g (i * 64) (u8s (crashK n F m ks k i))
  the : wr.there g 0 (n * 64)
  low : w.heap.size ≤ g
  lis : ∀ j, j < (dirtyL n m).length → wr.cell? ⟨gd, j, none⟩ = some (.int .i64 (((dirtyL n m).getD j 0 : Nat) : Int))
  gd : g ≠ gd
theorem crashK_len {w : World} {p g b n : Nat} {F : Nat → Sec} {m : Nat → Option Sec} (hd : Dsk w p g b n F m) (ks : List Bool) (k i : Nat) : (crashK n F m ks k i).length = 64 := by
  unfold crashK crashF
  split
  · split
    · exact hd.lenN i
    · exact hd.lenF i
  · exact hd.lenF i
theorem crashF_len {w : World} {p g b n : Nat} {F : Nat → Sec} {m : Nat → Option Sec} (hd : Dsk w p g b n F m) (ks : List Bool) (i : Nat) : (crashF F m ks i).length = 64 := by
  unfold crashF
  split
  · exact hd.lenN i
  · exact hd.lenF i
theorem i64s_dirty (n : Nat) (m : Nat → Option Sec) (j : Nat) (hj : j < (dirtyL n m).length) : (i64s (dirtyZ n m))[j]? = some (.int .i64 (((dirtyL n m).getD j 0 : Nat) : Int)) := by
  simp [i64s, dirtyZ, List.getD, hj]
theorem crAt_keep {w wr : World} {g gd n : Nat} {F : Nat → Sec} {m : Nat → Option Sec} {ks : List Bool} {k : Nat} (h : CrAt w wr g gd n F m ks k) (hk : k < (dirtyL n m).length) (hn : ks.getD k false = false) : CrAt w wr g gd n F m ks (k + 1) := by
  refine ⟨h.chg, fun i hi => ?_, h.the, h.low, h.lis, h.gd⟩
  rw [crashK_succ F m ks hk i]
  by_cases e : i = (dirtyL n m)[k]
  · rw [if_pos e, if_neg (by rw [hn]; simp), ← (show crashK n F m ks k i = F i by rw [e]; exact crashK_at F m ks hk)]
    exact h.rng i hi
  · rw [if_neg e]
    exact h.rng i hi
theorem crAt_set {w wr w0 : World} {p gg b g gd n : Nat} {F : Nat → Sec} {m : Nat → Option Sec} {ks : List Bool} {k : Nat} (hd : Dsk w0 p gg b n F m) (h : CrAt w wr g gd n F m ks k) (hk : k < (dirtyL n m).length) (hn : ks.getD k false = true) (x : Nat) (hx : x = (dirtyL n m).getD k 0) :
    CrAt w (wr.setCells g (x * 64) (u8s (now F m x))) g gd n F m ks (k + 1) := by
  have hx2 : x = (dirtyL n m)[k] := by rw [hx]; simp [List.getD, hk]
  have hxn : x < n := by rw [hx2]; exact (mem_dirtyL.1 (List.getElem_mem hk)).1
  have hth : wr.there g (x * 64) (u8s (now F m x)).length := fun j hj => by
    rw [u8s_length, hd.lenN] at hj
    have := h.the (x * 64 + j) (by omega)
    simpa using this
  have hC : Chg [g] wr (wr.setCells g (x * 64) (u8s (now F m x))) := (Chg.refl [g] wr).setCells (by simp) _ _
  have hgd := h.gd
  refine ⟨h.chg.then hC (by simp; exact h.low), fun i hi => ?_, World.there_setCells h.the _ _ _, h.low, fun j hj => hC.cell (h.lis j hj) (by simp; exact fun e => hgd e.symm), h.gd⟩
  rw [crashK_succ F m ks hk i]
  by_cases e : i = (dirtyL n m)[k]
  · have ei : i = x := by rw [hx2]; exact e
    rw [if_pos e, if_pos hn, ei]
    exact World.rangeAt_setCells_same _ _ _ _ hth
  · have ei : i ≠ x := by rw [hx2]; exact e
    rw [if_neg e]
    refine World.rangeAt_setCells_apart (h.rng i hi) _ _ _ (.inr ?_)
    rw [u8s_length, u8s_length, crashK_len hd, hd.lenN]
    omega
/-- Dirty, opened -/
theorem dirty_some (w : World) {p g b n : Nat} {F : Nat → Sec} {m : Nat → Option Sec} (hd : Dsk w p g b n F m) (hL : 0 < (dirtyL n m).length) :
    Calls Tryz.prog 45 #[.pointer (some ⟨p, 0, none⟩)] w fun e w' => ∃ gd c, e = .returned (.slice (some ⟨gd, 0, none⟩) (dirtyL n m).length c) ∧ w.heap.size ≤ gd ∧ gd < w'.heap.size ∧ (∀ j, j < (dirtyL n m).length → w'.cell? ⟨gd, j, none⟩ = some (.int .i64 (((dirtyL n m).getD j 0 : Nat) : Int))) ∧ Below w.heap.size w w' := by
  refine (dirty_ok w hd).mono fun e w' ⟨v, he, hrow, hb⟩ => ?_
  obtain ⟨a, c, rfl, ha⟩ := open_row1 hrow
  obtain ⟨gd, rfl, h1, h2, h3⟩ := ha hL
  exact ⟨gd, c, he, h1, h2, fun j hj => by rw [h3 j hj, i64s_dirty n m j hj], hb⟩
theorem dirty_none (w : World) {p g b n : Nat} {F : Nat → Sec} {m : Nat → Option Sec} (hd : Dsk w p g b n F m) (hL : (dirtyL n m).length = 0) :
    Calls Tryz.prog 45 #[.pointer (some ⟨p, 0, none⟩)] w fun e w' => ∃ a c, e = .returned (.slice a 0 c) ∧ Below w.heap.size w w' := by
  refine (dirty_ok w hd).mono fun e w' ⟨v, he, hrow, hb⟩ => ?_
  obtain ⟨a, c, rfl, ha⟩ := open_row1 hrow
  rw [hL] at he
  exact ⟨a, c, he, hb⟩
/-- a new disk out of the row that a crash has made -/
theorem crash_new {w w2 : World} {gl n cl : Nat} {F : Nat → Sec} (h1 : 1 ≤ n) (h2 : n ≤ 1024) (hF : ∀ i, (F i).length = 64) (hC : Chg [] w w2) (hr : ∀ i, i < n → w2.rangeAt gl (i * 64) (u8s (F i))) (ht : w2.there gl 0 (n * 64)) (hgl : w.heap.size ≤ gl) :
    Calls Tryz.prog 29 #[.slice (some ⟨gl, 0, none⟩) n cl] w2 fun e w' => ∃ p', e = .returned (.pointer (some ⟨p', 0, none⟩)) ∧ Hid (∃ g' b', w.heap.size ≤ p' ∧ w.heap.size ≤ g' ∧ w.heap.size ≤ b' ∧ Dsk w' p' g' b' n F (fun _ => none) ∧ Chg [] w w') := by
  refine (clean_any w2 _ n cl).mono fun e w' ⟨he, hw⟩ => ?_
  have hD := clean_dsk (c := cl) h1 h2 hF hr ht
  have := hC.size
  subst hw
  exact ⟨_, he, Lib.hid ⟨gl, w2.heap.size, by omega, hgl, by omega, hD.1, hC.trans hD.2⟩⟩
theorem crash_post {w w' : World} {n p' : Nat} {F : Nat → Sec} {e : Ending} (he : e = .returned (.pointer (some ⟨p', 0, none⟩))) (h : Hid (∃ g' b', w.heap.size ≤ p' ∧ w.heap.size ≤ g' ∧ w.heap.size ≤ b' ∧ Dsk w' p' g' b' n F (fun _ => none) ∧ Chg [] w w')) :
    ∃ p' g' b', e = .returned (.pointer (some ⟨p', 0, none⟩)) ∧ w.heap.size ≤ p' ∧ w.heap.size ≤ g' ∧ w.heap.size ≤ b' ∧ Dsk w' p' g' b' n F (fun _ => none) ∧ Chg [] w w' := by
  obtain ⟨g', b', h1, h2, h3, h4, h5⟩ := h.out
  exact ⟨p', g', b', he, h1, h2, h3, h4, h5⟩
set_option maxRecDepth 100000 in
theorem crash_ok (w : World) {p g b n : Nat} {F : Nat → Sec} {m : Nat → Option Sec} (hd : Dsk w p g b n F m) (a : Option Addr) (ks : List Bool) (c B : Nat) (hro : Ro w B a (bls ks)) (hB : B ≤ w.heap.size) (hks : ks.length ≤ 9223372036854775807) :
    Calls Tryz.prog 15 #[.pointer (some ⟨p, 0, none⟩), .slice a ks.length c] w fun e w' => ∃ p' g' b', e = .returned (.pointer (some ⟨p', 0, none⟩)) ∧ w.heap.size ≤ p' ∧ w.heap.size ≤ g' ∧ w.heap.size ≤ b' ∧ Dsk w' p' g' b' n (crashF F m ks) (fun _ => none) ∧ Chg [] w w' := by
  obtain ⟨c0, hflu⟩ := hd.flu
  have hdir := hd.dir
  have ht := hd.top
  have HD := Lib.hid hd
  have hro2 := hro.mono hB
  have HR := Lib.hid hro2
  have HC := Lib.hid (clone_rows w g n c0 F hd.lenF ht hd.rng)
  have hLn := dirtyL_le n m
  clear hd hro hro2
  by_cases hL : (dirtyL n m).length = 0
  · have HL := Lib.hid hL
    clear hL
    go_enter Tryz.func15, Tryz.ntmps15
    go_wp2_with (first
      | (go_at_call 44; refine HC.out.mono ?_; rintro e w1 ⟨gl, cl, rfl, hgl, hgl2, hrl, htl, hb1⟩)
      | fail)
    have hC1 : Chg [] w w1 := (Chg.refl [] w).of_below hb1
    have HC2 := Lib.hid (dirty_none w1 (HD.out.kept hC1) HL.out)
    go_wp2_with (first
      | (go_at_call 45; refine HC2.out.mono ?_; rintro e w2 ⟨ad, cd, rfl, hb2⟩)
      | fail)
    have hC12 : Chg [] w1 w2 := (Chg.refl [] w1).of_below hb2
    have HN := Lib.hid (crash_new (cl := cl) (F := crashF F m ks) HD.out.one ht (fun i => crashF_len HD.out ks i) (hC1.trans hC12) (fun i hi => by
      have := hC12.range (hrl i hi) (by simp)
      rw [← crashK_end n F m ks i hi, HL.out, crashK_zero]; exact this) (hC12.there htl (by simp)) hgl)
    clear hrl htl hb1 hb2 hC1 hC12
    refine wp_loop_rounds 1 ?_
    rw [rounds_succ]
    go_wp2_with (first
      | (go_at_call 29; refine HN.out.mono ?_; rintro e w3 ⟨p3, rfl, H3⟩)
      | fail)
    go_ret
    exact crash_post rfl H3
  · have hL0 : 0 < (dirtyL n m).length := by omega
    clear hL
    go_enter Tryz.func15, Tryz.ntmps15
    go_wp2_with (first
      | (go_at_call 44; refine HC.out.mono ?_; rintro e w1 ⟨gl, cl, rfl, hgl, hgl2, hrl, htl, hb1⟩)
      | fail)
    have hC1 : Chg [] w w1 := (Chg.refl [] w).of_below hb1
    have HC2 := Lib.hid (dirty_some w1 (HD.out.kept hC1) hL0)
    obtain ⟨L, HLn⟩ : ∃ L, Hid ((dirtyL n m).length = L) := ⟨_, Lib.hid rfl⟩
    have HC3 := HC2
    rw [HLn.out] at HC3 hL0 hLn
    clear HC2
    go_wp2_with (first
      | (go_at_call 45; refine HC3.out.mono ?_; rintro e w2 ⟨gd, cd, rfl, hgd, hgd2, hlis, hb2⟩)
      | fail)
    have hC12 : Chg [] w1 w2 := (Chg.refl [] w1).of_below hb2
    have HS := Lib.hid (show CrAt w w2 gl gd n F m ks 0 from ⟨hC1.trans hC12, fun i hi => by rw [crashK_zero]; exact hC12.range (hrl i hi) (by simp), hC12.there htl (by simp), hgl, fun j hj => hlis j (by rw [← HLn.out]; exact hj), by omega⟩)
    clear hrl htl hb1 hb2 hC1 hC12 hlis hgl2 hgd2 HC3
    go_loopw [18] (fun i wr => ∃ k : Nat, k ≤ L ∧ i = .int .i64 k ∧ CrAt w wr gl gd n F m ks k) (fun i _ => L - (intOf i).toNat)
    case atStart => exact ⟨0, Nat.zero_le _, rfl, HS.out⟩
    case round =>
      obtain ⟨k, hk, rfl, hR⟩ := hrel
      by_cases hlt : k < L
      · have hkL : k < (dirtyL n m).length := by rw [HLn.out]; exact hlt
        have hdt : decide (k < L) = true := by simpa using hlt
        have hcell := hR.lis k hkL
        obtain ⟨x, HX⟩ : ∃ x, Hid (x = (dirtyL n m).getD k 0) := ⟨_, Lib.hid rfl⟩
        rw [← HX.out] at hcell
        have hxm : x ∈ dirtyL n m := by rw [HX.out]; simp [List.getD, hkL]
        have hxn : x < n := (mem_dirtyL.1 hxm).1
        have hms : (m x).isSome = true := (mem_dirtyL.1 hxm).2
        have hk0 : (0 : Int) ≤ (k : Int) := by omega
        have hk1 : (k : Int) < (L : Int) := by omega
        have hx0 : (0 : Int) ≤ (x : Int) := by omega
        have hx1 : (x : Int) < (n : Int) := by omega
        have HR2 := Lib.hid hR
        have hmeas : L - (k + 1) < L - k := by omega
        by_cases hkk : k < ks.length
        · obtain ⟨bk, off, rfl, hbk, hkc⟩ := HR.out.bl (by omega)
          have hkc2 := hR.chg.cell (hkc k hkk) (by simp)
          have hdk : decide (k < ks.length) = true := by simpa using hkk
          have hkk1 : (k : Int) < (ks.length : Int) := by omega
          cases hv : ks.getD k false with
          | false =>
            rw [hv] at hkc2
            have HK := Lib.hid (crAt_keep hR hkL hv)
            clear hR hkc hms hv hxm
            go_wp2
            go_roundw
            case rel => exact ⟨k + 1, by omega, by go_num, HK.out⟩
            case measure => simp [intOf]; omega
          | true =>
            rw [hv] at hkc2
            have HK := Lib.hid (crAt_set HD.out hR hkL hv x HX.out)
            have hdW := HD.out.kept hR.chg
            have hdirW := hdW.dir
            have hlook : (Instr.lookup 120 (.map (some b)) (.int .i64 (x : Int)) false).run Tryz.prog wr = .ok (sv (now F m x)) wr := by
              rw [(look_run hdW x hxn).2]
              obtain ⟨S, hS⟩ := Option.isSome_iff_exists.1 hms
              simp [now, hS]
            have hlen := HD.out.lenN x
            have hth : wr.there gl (x * 64) 64 := fun j hj => by
              have := hR.the (x * 64 + j) (by omega)
              simpa using this
            obtain ⟨S, HS2⟩ : ∃ S, Hid (now F m x = S) := ⟨_, Lib.hid rfl⟩
            rw [HS2.out] at hlook hlen HK
            clear hR hkc hms hv hxm hdW
            go_wp2_with (first
              | (refine wpList_store37 rfl _ _ rfl gl (x * 64) S rfl rfl hth hlen ?_)
              | fail)
            go_roundw
            case rel => exact ⟨k + 1, by omega, by go_num, HK.out⟩
            case measure => simp [intOf]; omega
        · have hdk : decide (k < ks.length) = false := by simpa using hkk
          have HK := Lib.hid (crAt_keep hR hkL (by rw [List.getD_eq_getElem?_getD, List.getElem?_eq_none (by omega)]; rfl))
          clear hR hms hxm
          go_wp2
          go_roundw
          case rel => exact ⟨k + 1, by omega, by go_num, HK.out⟩
          case measure => simp [intOf]; omega
      · have hkL : k = L := by omega
        have HN := Lib.hid (crash_new (cl := cl) (F := crashF F m ks) HD.out.one ht (fun i => crashF_len HD.out ks i) hR.chg (fun i hi => by
          have := hR.rng i hi
          rw [hkL, ← HLn.out, crashK_end n F m ks i hi] at this; exact this) hR.the hgl)
        have hnl : decide (k < L) = false := by simpa using hlt
        clear hR hkL
        go_wp2_with (first
          | (go_at_call 29; refine HN.out.mono ?_; rintro e w3 ⟨p3, rfl, H3⟩)
          | fail)
        go_ret
        exact crash_post rfl H3
end Go.Proofs.YtihbinphmlgjoaaGreat
namespace Go.Proofs.YtihbinphmlgjoaaGreat
open Go.RowKit
set_option linter.unusedVariables false
set_option linter.unusedSimpArgs false

theorem cat_get {R : Nat → Sec} (hR : ∀ i, (R i).length = 64) (f : Nat) : ∀ n i, i < n * 64 → (cat R f n)[i]? = (R (f + i / 64))[i % 64]?
  | 0, i, h => by omega
  | n + 1, i, h => by
    rw [cat]
    by_cases hi : i < n * 64
    · rw [List.getElem?_append_left (by rw [cat_len hR]; exact hi)]
      exact cat_get hR f n i hi
    · rw [List.getElem?_append_right (by rw [cat_len hR]; omega), cat_len hR, show i / 64 = n from by omega, show i - n * 64 = i % 64 from by omega]
/-- the sectors from one on hold bytes -/
def Has (n : Nat) (R : Nat → Sec) (h : Nat) (B : List UInt8) : Prop := ∀ i, i < B.length → (R (1 + h * hsec n + i / 64))[i % 64]? = B[i]?
theorem has_iff {n : Nat} {R : Nat → Sec} (hR : ∀ i, (R i).length = 64) {h : Nat} {B : List UInt8} (hB : B.length ≤ hsec n * 64) : (halfB n R h).take B.length = B ↔ Has n R h B := by
  unfold halfB
  constructor
  · intro e i hi
    rw [← cat_get hR _ (hsec n) i (by omega)]
    have := congrArg (fun l : List UInt8 => l[i]?) e
    simpa [List.getElem?_take, hi] using this
  · intro e
    refine List.ext_getElem? fun i => ?_
    rw [List.getElem?_take]
    by_cases hi : i < B.length
    · rw [if_pos hi, cat_get hR _ _ i (by omega)]
      exact e i hi
    · rw [if_neg hi, List.getElem?_eq_none (by omega)]
theorem fillS_at (B : List UInt8) (i : Nat) (hi : i < B.length) : (fillS (B.drop (i / 64 * 64)))[i % 64]? = B[i]? := by
  rw [fillS_get _ _ (by omega)]
  have e : i / 64 * 64 + i % 64 = i := by omega
  simp [List.getD, e, hi]
/-- where writeFrames writes -/
theorem wfM_at (n h h' : Nat) (L L' : List Rec) (m : Nat → Option Sec) (x : Nat) : wfM n h h' L L' m x =
    if 1 + h' * hsec n + fromN h h' L / 64 ≤ x ∧ x < 1 + h' * hsec n + (fromN h h' L / 64 + secN (fromN h h' L) (frs L').length) then some (fillS ((frs L').drop ((x - (1 + h' * hsec n)) * 64))) else m x := by
  unfold wfM
  rw [wrP_range]
  rfl
section
variable {n h h' : Nat} {L L' : List Rec} {F : Nat → Sec}
theorem Opens.mk' {R : Nat → Sec} (hR : ∀ i, (R i).length = 64) (h1 : h ≤ 1) (h2 : okL L) (h3 : (frs L).length ≤ hsec n * 64) (h4 : R 0 = supS h L.length (frs L).length) (h5 : Has n R h (frs L)) : Opens n R h L :=
  ⟨h1, h2, h3, h4, (has_iff hR h3).2 h5⟩
theorem Opens.has {R : Nat → Sec} (hR : ∀ i, (R i).length = 64) (o : Opens n R h L) : Has n R h (frs L) := (has_iff hR o.room).1 o.bytes
theorem now_wf (n h h' : Nat) (L L' : List Rec) (F : Nat → Sec) (x : Nat) : now F (wfM n h h' L L' fun _ => none) x =
    if 1 + h' * hsec n + fromN h h' L / 64 ≤ x ∧ x < 1 + h' * hsec n + (fromN h h' L / 64 + secN (fromN h h' L) (frs L').length) then fillS ((frs L').drop ((x - (1 + h' * hsec n)) * 64)) else F x := by
  unfold now
  rw [wfM_at]
  split <;> rfl
theorem pre_at (hp : h = h' → ∃ W, L' = L ++ W) (e : h = h') {i : Nat} (hi : i < (frs L).length) : (frs L')[i]? = (frs L)[i]? ∧ i < (frs L').length := by
  obtain ⟨W, rfl⟩ := hp e
  rw [frs_append]
  exact ⟨List.getElem?_append_left hi, by rw [List.length_append]; omega⟩
/-- a crash behind the first step -/
theorem mid_opens {R : Nat → Sec} (hF : ∀ i, (F i).length = 64) (hR : ∀ i, (R i).length = 64) (o : Opens n F h L) (hp : h = h' → ∃ W, L' = L ++ W) (hh : h' ≤ 1) (hr : (frs L').length ≤ hsec n * 64) (hx : ∀ x, R x = F x ∨ R x = now F (wfM n h h' L L' fun _ => none) x) : Opens n R h L := by
  have h0 := o.half
  refine Opens.mk' hR o.half o.ok o.room ?_ fun i hi => ?_
  · rw [← o.sup]
    rcases hx 0 with e | e
    · exact e
    · rw [e, now_wf, if_neg (by omega)]
  · have hF2 := o.has hF i hi
    rcases hx (1 + h * hsec n + i / 64) with e | e
    · rw [e]; exact hF2
    · rw [e, now_wf]
      split
      · rename_i hw
        by_cases hhh : h = h'
        · obtain ⟨p1, p2⟩ := pre_at hp hhh hi
          rw [← hhh, Nat.add_sub_cancel_left, fillS_at _ _ p2, p1]
        · exfalso
          have h3 := o.room
          have hf : fromN h h' L = 0 := by unfold fromN; rw [if_neg hhh]
          rw [hf] at hw
          unfold secN at hw
          have h4 : h = 0 ∧ h' = 1 ∨ h = 1 ∧ h' = 0 := by omega
          rcases h4 with ⟨rfl, rfl⟩ | ⟨rfl, rfl⟩ <;> omega
      · exact hF2
/-- all that the first step writes -/
theorem mid_has (hF : ∀ i, (F i).length = 64) (o : Opens n F h L) (hp : h = h' → ∃ W, L' = L ++ W) : Has n (now F (wfM n h h' L L' fun _ => none)) h' (frs L') := by
  intro i hi
  rw [now_wf]
  split
  · rw [Nat.add_sub_cancel_left, fillS_at _ _ hi]
  · rename_i hw
    by_cases hhh : h = h'
    · have hf : fromN h h' L = (frs L).length := by unfold fromN; rw [if_pos hhh]
      rw [hf] at hw
      unfold secN at hw
      have hi2 : i < (frs L).length := by omega
      obtain ⟨p1, _⟩ := pre_at hp hhh hi2
      rw [p1, ← hhh]
      exact o.has hF i hi2
    · have hf : fromN h h' L = 0 := by unfold fromN; rw [if_neg hhh]
      rw [hf] at hw
      unfold secN at hw
      omega
/-- the superblock's step -/
theorem sup_opens {R : Nat → Sec} (hR : ∀ i, (R i).length = 64) (o : Opens n F h L) (hh : Has n F h' (frs L')) (h1 : h' ≤ 1) (h2 : okL L') (h3 : (frs L').length ≤ hsec n * 64) (h4 : R 0 = supS h' L'.length (frs L').length) (h5 : ∀ x, x ≠ 0 → R x = F x) : Opens n R h' L' :=
  Opens.mk' hR h1 h2 h3 h4 fun i hi => by rw [h5 _ (by omega)]; exact hh i hi
end
/-- a state's disk -/
structure DInv (n : Nat) (S : TS) : Prop where
  k0 : S.k = 0 → (S.m = fun _ => none) ∧ Opens n S.F S.h S.L
  k1 : S.k = 1 → S.m = wfM n S.h S.h' S.L S.L' (fun _ => none) ∧ Opens n S.F S.h S.L
  k2 : S.k = 2 → (S.m = fun _ => none) ∧ Opens n S.F S.h S.L ∧ Has n S.F S.h' (frs S.L')
  k3 : S.k = 3 → S.m = upd (fun _ => none) 0 (supS S.h' S.L'.length (frs S.L').length) ∧ Opens n S.F S.h S.L ∧ Has n S.F S.h' (frs S.L')
/-- what a state's numbers keep -/
structure SInv (n : Nat) (S : TS) : Prop where
  lenF : ∀ i, (S.F i).length = 64
  lenN : ∀ i, (now S.F S.m i).length = 64
  le3 : S.k ≤ 3
  half' : S.h' ≤ 1
  ok' : okL S.L'
  room' : (frs S.L').length ≤ hsec n * 64
  pre : S.h = S.h' → ∃ W, S.L' = S.L ++ W
theorem TD.inv {w : World} {l : List Nat} {q p g b n : Nat} {S : TS} (t : TD w l q p g b n S) : SInv n S := by
  obtain ⟨_, _, _, _, tv⟩ := t.tp
  exact ⟨t.dsk.lenF, t.dsk.lenN, tv.step, tv.half', tv.ok', tv.room', tv.pre⟩
theorem step_inv {n : Nat} {S : TS} (s : SInv n S) (d : DInv n S) : DInv n (stepS n S) := by
  unfold stepS
  by_cases hi : S.idle
  · rw [if_pos hi]; exact d
  · rw [if_neg hi]
    by_cases e0 : S.k = 0
    · obtain ⟨hm, ho⟩ := d.k0 e0
      rw [if_pos e0]
      exact ⟨fun h => by simp at h, fun _ => ⟨by rw [hm], ho⟩, fun h => by simp at h, fun h => by simp at h⟩
    · rw [if_neg e0]
      by_cases e1 : S.k = 1
      · obtain ⟨hm, ho⟩ := d.k1 e1
        have hl := s.lenN
        rw [hm] at hl
        rw [if_pos e1]
        refine ⟨fun h => by simp at h, fun h => by simp at h, fun _ => ⟨rfl, ?_, ?_⟩, fun h => by simp at h⟩
        · show Opens n (now S.F S.m) S.h S.L
          rw [hm]
          exact mid_opens s.lenF hl ho s.pre s.half' s.room' fun x => .inr rfl
        · show Has n (now S.F S.m) S.h' (frs S.L')
          rw [hm]
          exact mid_has s.lenF ho s.pre
      · rw [if_neg e1]
        by_cases e2 : S.k = 2
        · obtain ⟨hm, ho, hh⟩ := d.k2 e2
          rw [if_pos e2]
          exact ⟨fun h => by simp at h, fun h => by simp at h, fun h => by simp at h, fun _ => ⟨by rw [hm], ho, hh⟩⟩
        · have e3 : S.k = 3 := by have := s.le3; omega
          obtain ⟨hm, ho, hh⟩ := d.k3 e3
          rw [if_neg e2]
          refine ⟨fun _ => ⟨rfl, ?_⟩, fun h => by simp at h, fun h => by simp at h, fun h => by simp at h⟩
          exact sup_opens s.lenN ho hh s.half' s.ok' s.room' (by rw [hm]; simp [now, upd]) (fun x hx => by rw [hm]; simp [now, upd, hx])
/-- what a crash leaves -/
theorem crash_opens {n : Nat} {S : TS} (s : SInv n S) (d : DInv n S) (ks : List Bool) (hl : ∀ i, (crashF S.F S.m ks i).length = 64) :
    (S.k ≤ 2 → Opens n (crashF S.F S.m ks) S.h S.L) ∧ (Opens n (crashF S.F S.m ks) S.h S.L ∨ Opens n (crashF S.F S.m ks) S.h' S.L') := by
  have hx : ∀ x, crashF S.F S.m ks x = S.F x ∨ crashF S.F S.m ks x = now S.F S.m x := fun x => by
    unfold crashF
    split
    · exact .inr rfl
    · exact .inl rfl
  have hnone : (S.m = fun _ => none) → crashF S.F S.m ks = S.F := fun hm => by
    funext x
    rcases hx x with e | e
    · exact e
    · rw [e, hm]; rfl
  by_cases e0 : S.k = 0
  · obtain ⟨hm, ho⟩ := d.k0 e0
    rw [hnone hm]
    exact ⟨fun _ => ho, .inl ho⟩
  · by_cases e1 : S.k = 1
    · obtain ⟨hm, ho⟩ := d.k1 e1
      have h1 : Opens n (crashF S.F S.m ks) S.h S.L := mid_opens s.lenF hl ho s.pre s.half' s.room' fun x => by
        have := hx x
        rw [hm] at this ⊢
        exact this
      exact ⟨fun _ => h1, .inl h1⟩
    · by_cases e2 : S.k = 2
      · obtain ⟨hm, ho, _⟩ := d.k2 e2
        rw [hnone hm]
        exact ⟨fun _ => ho, .inl ho⟩
      · have e3 : S.k = 3 := by have := s.le3; omega
        obtain ⟨hm, ho, hh⟩ := d.k3 e3
        refine ⟨fun h => by omega, ?_⟩
        have hne : ∀ x, x ≠ 0 → crashF S.F S.m ks x = S.F x := fun x h0 => by
          rcases hx x with e | e
          · exact e
          · rw [e, hm]; simp [now, upd, h0]
        rcases hx 0 with e | e
        · left
          have : crashF S.F S.m ks = S.F := by
            funext x
            by_cases h0 : x = 0
            · rw [h0]; exact e
            · exact hne x h0
          rw [this]
          exact ho
        · right
          exact sup_opens hl ho hh s.half' s.ok' s.room' (by rw [e, hm]; simp [now, upd]) hne
/-- a disk that is new -/
theorem opens_zero (n : Nat) : Opens n (fun _ => zsec) 0 [] := by
  have hz : zsec = supS 0 0 0 := by decide
  exact ⟨by omega, okL_nil, by simp [frs], hz, by simp [frs]⟩
end Go.Proofs.YtihbinphmlgjoaaGreat
namespace Go.Proofs.YtihbinphmlgjoaaGreat
open Go.RowKit Go.Deep Go.Shelf
set_option linter.unusedVariables false
set_option linter.unusedSimpArgs false

/-- a state with nothing under way -/
def calm (F : Nat → Sec) (m : Nat → Option Sec) (h : Nat) (L : List Rec) : TS := ⟨F, m, h, h, L, L, 0⟩
/-- a call that changes a tape -/
def TDT (w : World) (l : List Nat) (q p g b n : Nat) (S : TS) (w' : World) : Prop := ∃ l', TD w' l' q p g b n S ∧ (∀ x ∈ l', x ∈ l ∨ w.heap.size ≤ x) ∧ Chg l w w'
theorem TpT.td {w w' : World} {l : List Nat} {q p g b n : Nat} {S : TS} {h h' : Nat} {L L' : List Rec} {k : Nat} (t : TD w l q p g b n S) (u : TpT w l q p n h h' L L' k w') : TDT w l q p g b n ⟨S.F, S.m, h, h', L, L', k⟩ w' := by
  obtain ⟨l1, ⟨vF, vE, vF', vE', h1⟩, h21, h3⟩ := u
  obtain ⟨h1, hn⟩ := h1.norm
  have h2 : ∀ x ∈ q :: (bl vF ++ bl vE ++ bl vF' ++ bl vE'), x ∈ l ∨ w.heap.size ≤ x := fun x hx => h21 x (hn x hx).1
  generalize (q :: (bl vF ++ bl vE ++ bl vF' ++ bl vE')) = l' at h1 hn h2
  have np : p ∉ l' := fun hx => by
    rcases h2 p hx with h4 | h4
    · exact t.np h4
    · have := t.dsk.ltp; omega
  have ng : g ∉ l' := fun hx => by
    rcases h2 g hx with h4 | h4
    · exact t.ng h4
    · have := t.dsk.ltg; omega
  have nb : b ∉ l' := fun hx => by
    rcases h2 b hx with h4 | h4
    · exact t.nb h4
    · have := t.dsk.ltb; omega
  exact ⟨l', ⟨⟨_, _, _, _, h1⟩, t.dsk.keep h3 t.np t.ng t.nb, np, ng, nb, t.three, fun x hx => (hn x hx).2⟩, h2, h3⟩
theorem open_at (w : World) {p g b n : Nat} {F : Nat → Sec} {m : Nat → Option Sec} {h : Nat} {L : List Rec} (hd : Dsk w p g b n F m) (hn : 3 ≤ n) (o : Opens n (now F m) h L) :
    Calls Tryz.prog 30 #[.pointer (some ⟨p, 0, none⟩)] w fun e w' => ∃ q l, e = .returned (.tuple #[.pointer (some ⟨q, 0, none⟩), .int .i64 0]) ∧ Hid (TD w' l q p g b n (calm F m h L)) ∧ Hid (∀ x ∈ l, w.heap.size ≤ x) ∧ Chg [] w w' := by
  refine (open_ok w hd hn).mono fun e w' h => ?_
  rcases h with ⟨h2, L2, q, l, o2, he, ht, hl, hc⟩ | ⟨hno, _, _⟩
  · obtain ⟨rfl, rfl⟩ := o2.uniq hd.top o
    obtain ⟨vF, vE, vF', vE', h1⟩ := ht
    obtain ⟨h1, hnn⟩ := h1.norm
    have hl1 : ∀ x ∈ q :: (bl vF ++ bl vE ++ bl vF' ++ bl vE'), w.heap.size ≤ x := fun x hx => hl x (hnn x hx).1
    clear hl
    generalize (q :: (bl vF ++ bl vE ++ bl vF' ++ bl vE')) = l at h1 hnn hl1
    have hl := hl1
    exact ⟨q, l, he, Lib.hid ⟨⟨_, _, _, _, h1⟩, hd.kept hc, fun hx => by have := hl _ hx; have := hd.ltp; omega, fun hx => by have := hl _ hx; have := hd.ltg; omega, fun hx => by have := hl _ hx; have := hd.ltb; omega, hn, fun x hx => (hnn x hx).2⟩, Lib.hid hl, hc⟩
  · exact absurd o (hno _ _)
section
variable {w : World} {l : List Nat} {q p g b n : Nat} {S : TS}
def appS (n : Nat) (S : TS) (r : Rec) : TS := { S with L' := appL n S.k S.h S.h' S.L S.L' r }
theorem append_TD (t : TD w l q p g b n S) (a : Option Addr) (r : Rec) (c B : Nat) (hro : Ro w B a (u8s r)) (hB : B ≤ w.heap.size) (hsep : okR r → ∀ x, a = some x → x.block ∉ l) :
    Calls Tryz.prog 46 #[.pointer (some ⟨q, 0, none⟩), .slice a r.length c] w fun e w' => e = .returned (.int .i64 ((appE n S.k S.h S.h' S.L S.L' r : Nat) : Int)) ∧ Hid (TDT w l q p g b n (appS n S r) w') := by
  obtain ⟨_, _, _, _, tv⟩ := t.tp
  exact (append_tape tv t.dsk a r c B hro hB hsep).mono fun e w' h => ⟨h.1, Lib.hid (TpT.td t h.2)⟩
def replS (n : Nat) (S : TS) (xs : List SB) : TS := { S with h' := replH n S.k S.h S.h' xs, L' := replL n S.k S.L' xs }
theorem replace_TD (t : TD w l q p g b n S) (a : Option Addr) (xs : List SB) (c B : Nat) (hr : RoL w B a xs) (hB : B ≤ w.heap.size) (hs : Sep l a xs) (hl : xs.length ≤ 1000000) :
    Calls Tryz.prog 98 #[.pointer (some ⟨q, 0, none⟩), .slice a xs.length c] w fun e w' => e = .returned (.int .i64 ((replE n S.k xs : Nat) : Int)) ∧ Hid (TDT w l q p g b n (replS n S xs) w') := by
  obtain ⟨_, _, _, _, tv⟩ := t.tp
  exact (replace_tape tv t.dsk a xs c B hr hB hs hl).mono fun e w' h => ⟨h.1, Lib.hid (TpT.td t h.2)⟩
theorem len_TD (t : TD w l q p g b n S) : Calls Tryz.prog 31 #[.pointer (some ⟨q, 0, none⟩)] w fun e w' => e = .returned (.int .i64 ((S.L.length : Nat) : Int)) ∧ Chg [] w w' := by
  obtain ⟨_, _, _, _, tv⟩ := t.tp
  exact len_tape tv
theorem waiting_TD (t : TD w l q p g b n S) : Calls Tryz.prog 133 #[.pointer (some ⟨q, 0, none⟩)] w fun e w' => e = .returned (.int .i64 ((waitN S.h S.h' S.L S.L' : Nat) : Int)) ∧ Chg [] w w' := by
  obtain ⟨_, _, _, _, tv⟩ := t.tp
  exact waiting_tape tv t.dsk.top
theorem room_TD (t : TD w l q p g b n S) : Calls Tryz.prog 90 #[.pointer (some ⟨q, 0, none⟩)] w fun e w' => e = .returned (.int .i64 ((roomN n S.h S.h' S.L S.L' : Nat) : Int)) ∧ Chg [] w w' := by
  obtain ⟨_, _, _, _, tv⟩ := t.tp
  exact (room_tape tv t.dsk).mono fun e w' h => ⟨h.1, (Chg.refl [] w).qt h.2⟩
theorem read_TD (t : TD w l q p g b n S) (i : Nat) (hi : i < S.L.length) : Calls Tryz.prog 32 #[.pointer (some ⟨q, 0, none⟩), .int .i64 (i : Int)] w fun e w' => ∃ v, e = .returned (.tuple #[v, .int .i64 0]) ∧ Hid (Lst w' w.heap.size 5 v (u8s S.L[i])) ∧ Chg [] w w' := by
  obtain ⟨_, _, _, _, tv⟩ := t.tp
  exact read_recT tv t.dsk.top i hi
theorem readno_TD (t : TD w l q p g b n S) (i : Int) (hi : i < 0 ∨ ((S.L.length : Nat) : Int) ≤ i) : Calls Tryz.prog 32 #[.pointer (some ⟨q, 0, none⟩), .int .i64 i] w fun e w' => e = .returned (.tuple #[.slice none 0 0, .int .i64 62]) ∧ Chg [] w w' := by
  obtain ⟨_, _, _, _, tv⟩ := t.tp
  exact read_noneT tv i hi
/-- the blocks of a tape's disk and its own lie below -/
theorem TD.dlt (t : TD w l q p g b n S) : p < w.heap.size ∧ g < w.heap.size ∧ b < w.heap.size := ⟨t.dsk.ltp, t.dsk.ltg, t.dsk.ltb⟩
end
theorem commit_k0 {n : Nat} {S : TS} (hi : ¬ S.idle) (hk : S.k = 0) : commitS n S = ⟨now (now S.F (wfM n S.h S.h' S.L S.L' S.m)) (upd (fun _ => none) 0 (supS S.h' S.L'.length (frs S.L').length)), fun _ => none, S.h', S.h', S.L', S.L', 0⟩ := by
  unfold commitS
  rw [if_neg hi, if_pos hk]
  have e1 : stepS n S = ⟨S.F, wfM n S.h S.h' S.L S.L' S.m, S.h, S.h', S.L, S.L', 1⟩ := by unfold stepS; rw [if_neg hi, if_pos hk]
  have e2 : stepS n ⟨S.F, wfM n S.h S.h' S.L S.L' S.m, S.h, S.h', S.L, S.L', 1⟩ = ⟨now S.F (wfM n S.h S.h' S.L S.L' S.m), fun _ => none, S.h, S.h', S.L, S.L', 2⟩ := by
    unfold stepS; rw [if_neg (show ¬ TS.idle ⟨S.F, wfM n S.h S.h' S.L S.L' S.m, S.h, S.h', S.L, S.L', 1⟩ from hi), if_neg (by simp), if_pos rfl]
  have e3 : stepS n ⟨now S.F (wfM n S.h S.h' S.L S.L' S.m), fun _ => none, S.h, S.h', S.L, S.L', 2⟩ = ⟨now S.F (wfM n S.h S.h' S.L S.L' S.m), upd (fun _ => none) 0 (supS S.h' S.L'.length (frs S.L').length), S.h, S.h', S.L, S.L', 3⟩ := by
    unfold stepS; rw [if_neg (show ¬ TS.idle ⟨now S.F (wfM n S.h S.h' S.L S.L' S.m), fun _ => none, S.h, S.h', S.L, S.L', 2⟩ from hi), if_neg (by simp), if_neg (by simp), if_pos rfl]
  have e4 : stepS n ⟨now S.F (wfM n S.h S.h' S.L S.L' S.m), upd (fun _ => none) 0 (supS S.h' S.L'.length (frs S.L').length), S.h, S.h', S.L, S.L', 3⟩ = ⟨now (now S.F (wfM n S.h S.h' S.L S.L' S.m)) (upd (fun _ => none) 0 (supS S.h' S.L'.length (frs S.L').length)), fun _ => none, S.h', S.h', S.L', S.L', 0⟩ := by
    unfold stepS; rw [if_neg (show ¬ TS.idle ⟨now S.F (wfM n S.h S.h' S.L S.L' S.m), upd (fun _ => none) 0 (supS S.h' S.L'.length (frs S.L').length), S.h, S.h', S.L, S.L', 3⟩ from hi), if_neg (by simp), if_neg (by simp), if_neg (by simp)]
  rw [e1, e2, e3, e4]
end Go.Proofs.YtihbinphmlgjoaaGreat
namespace Go.Proofs.YtihbinphmlgjoaaGreat
open Go.RowKit
set_option linter.unusedVariables false
set_option linter.unusedSimpArgs false

/-- the bytes of numbers that are packed -/
def packL (l : List Int) (vs : List Nat) : List UInt8 := (List.range (((nat l).sum + 7) / 8)).map fun i => UInt8.ofNat (nm (fun j => (packB (nat l) vs).getD (8 * i + j) false) 8)
theorem packL_to (l : List Bool) (i : Nat) : IsBytesTo l ((List.range i).map fun i => UInt8.ofNat (nm (fun j => l.getD (8 * i + j) false) 8)) i := by
  induction i with
  | zero => exact IsBytesTo.start l
  | succ i ih =>
    rw [List.range_succ, List.map_append]
    exact ih.step
theorem packL_is {l : List Int} {vs : List Nat} (h : l.length = vs.length) : IsPack l vs (packL l vs) := by
  refine isPack_of_bytes h ((packL_to _ _).stop ?_)
  rw [packB_length _ _ (by simpa using h)]
@[simp] theorem packL_len (l : List Int) (vs : List Nat) : (packL l vs).length = ((nat l).sum + 7) / 8 := by simp [packL]
/-- the bytes of a layout -/
def encY (y : Ly) : List UInt8 := packL (fw (fLy y)) (fv (fLy y))
theorem encY_is (y : Ly) : IsLE y (encY y) := packL_is (by simp)

/-- a ballot -/
abbrev Bt := Int × Int
def Bt.less (a b : Bt) : Bool := decide (a.1 < b.1) || (decide (a.1 = b.1) && decide (a.2 < b.2))
/-- is it one that may be promised? -/
def btOk (b : Bt) : Bool := !decide (b = (0, 0)) && (decide (0 ≤ b.1) && (decide (b.1 ≤ 65535) && (decide (0 ≤ b.2) && decide (b.2 < 4))))
theorem btOk_iff {b : Bt} : btOk b = true ↔ b ≠ (0, 0) ∧ 0 ≤ b.1 ∧ b.1 ≤ 65535 ∧ 0 ≤ b.2 ∧ b.2 < 4 := by
  unfold btOk
  simp only [Bool.and_eq_true, Bool.not_eq_true', decide_eq_false_iff_not, decide_eq_true_eq]
theorem less_iff {a b : Bt} : a.less b = true ↔ a.1 < b.1 ∨ a.1 = b.1 ∧ a.2 < b.2 := by
  unfold Bt.less
  simp only [Bool.or_eq_true, Bool.and_eq_true, decide_eq_true_eq]
theorem less_false {a b : Bt} : a.less b = false ↔ b.1 < a.1 ∨ b.1 = a.1 ∧ b.2 ≤ a.2 := by
  cases h : a.less b with
  | true =>
    have := less_iff.1 h
    constructor
    · intro e; cases e
    · omega
  | false =>
    have : ¬ (a.1 < b.1 ∨ a.1 = b.1 ∧ a.2 < b.2) := fun k => by rw [less_iff.2 k] at h; cases h
    constructor
    · intro _; omega
    · intro _; rfl
theorem bt_ext {a b : Bt} (h1 : a.1 = b.1) (h2 : a.2 = b.2) : a = b := Prod.ext h1 h2
def ep0 (e : Nat) : Bool := decide (1 ≤ e ∧ e ≤ 1048576)
/-- a layout that is none -/
def zLy : Ly := ⟨0, [], 0⟩
theorem zLy_wrong : lright zLy = false := by decide

/-- a record: an acceptance or a promise, its epoch, its ballot, its layout -/
structure Rc where
  k : Bool
  e : Nat
  b : Bt
  y : Ly
def wid4 : List Int := [1, 21, 16, 2]
def val4 (x : Rc) : List Nat := [if x.k then 1 else 0, x.e, x.b.1.toNat, x.b.2.toNat]
structure okA (x : Rc) : Prop where
  e : 1 ≤ x.e ∧ x.e ≤ 1048576
  b : btOk x.b = true
  y : x.k = true → lright x.y = true ∧ x.y.e = x.e
  y0 : x.k = false → x.y = zLy
/-- its bytes -/
def encA (x : Rc) : Rec := packL wid4 (val4 x) ++ if x.k then encY x.y else []
theorem wid4_span : (spanOf wid4).isSome := by simp [wid4, spanOf]
theorem okA.pack {x : Rc} (h : okA x) : PackOk wid4 (val4 x) := by
  obtain ⟨_, h1, h2, h3, h4⟩ := btOk_iff.1 h.b
  have he := h.e
  refine ⟨wid4_span, rfl, fun i hi => ?_⟩
  have hi' : i = 0 ∨ i = 1 ∨ i = 2 ∨ i = 3 := by simp [wid4] at hi; omega
  rcases hi' with rfl | rfl | rfl | rfl
  · show (if x.k then 1 else 0) < 2 ^ 1
    split <;> omega
  · show x.e < 2 ^ 21; omega
  · show x.b.1.toNat < 2 ^ 16; omega
  · show x.b.2.toNat < 2 ^ 2; omega
theorem fsum_flat {α : Type} {f : α → List (Nat × Nat)} {n : Nat} : ∀ {xs : List α}, (∀ x ∈ xs, fsum (f x) ≤ n) → fsum (xs.flatMap f) ≤ xs.length * n
  | [], _ => by simp [fsum]
  | x :: xs, h => by
    have h1 := h x (by simp)
    have h2 := fsum_flat (xs := xs) fun y hy => h y (by simp [hy])
    rw [List.flatMap_cons, fsum_app, List.length_cons, Nat.succ_mul]
    omega
theorem encY_len {y : Ly} (h : lright y = true) : 1 ≤ (encY y).length ∧ (encY y).length ≤ 59 := by
  obtain ⟨_, _, h3⟩ := lright_iff.1 h
  obtain ⟨h4, _, h5, _⟩ := sgOk_iff.1 h3
  have hs : fsum (y.s.flatMap fSg) ≤ y.s.length * 110 := fsum_flat fun s hs => by
    obtain ⟨i, hi, rfl⟩ := mem_sx hs
    obtain ⟨g1, g2, _⟩ := chOk_iff.1 (h5 i hi).2
    have hc : fsum ((sx y.s i).2.flatMap fCh) ≤ (sx y.s i).2.length * 22 := fsum_flat fun c hc => by
      have hl := g2 c hc
      have hu : fsum (c.flatMap fun u : Int => [(5, u.toNat)]) ≤ c.length * 5 := fsum_flat fun u _ => by simp [fsum]
      unfold fCh
      rw [fsum_cons]
      simp only
      omega
    unfold fSg
    rw [fsum_cons, fsum_cons]
    simp only
    omega
  unfold encY
  rw [packL_len, nat_fw_sum]
  unfold fLy
  rw [fsum_cons, fsum_cons, fsum_cons]
  simp only
  omega
theorem head_len (x : Rc) : (packL wid4 (val4 x)).length = 5 := by rw [packL_len]; rfl
theorem encA_len {x : Rc} (h : okA x) : 5 ≤ (encA x).length ∧ (encA x).length ≤ 64 := by
  unfold encA
  rw [List.length_append, head_len]
  cases hk : x.k with
  | false => simp
  | true =>
    have := encY_len (h.y hk).1
    simp only [if_true]
    omega
theorem encA_ok {x : Rc} (h : okA x) : okR (encA x) := by have := encA_len h; unfold okR; omega

/-- an epoch's state: promised, accepted, the layout -/
structure Es where
  p : Bt
  a : Bt
  y : Ly
def Es.zero : Es := ⟨(0, 0), (0, 0), zLy⟩
/-- states by epochs -/
abbrev AS := Nat → Option Es
def AS.at (S : AS) (e : Nat) : Es := (S e).getD Es.zero
/-- the state behind a record -/
def behind (s : Es) (x : Rc) : Es := ⟨x.b, if x.k then x.b else s.a, if x.k then x.y else s.y⟩
def exec (S : AS) (x : Rc) : AS := fun e => if e = x.e then some (behind (S.at x.e) x) else S e
/-- may a record come next? -/
def allow (S : AS) (x : Rc) : Bool := !Bt.less x.b (S.at x.e).p
/-- a state as it can be -/
structure EsOk (e : Nat) (s : Es) : Prop where
  p : btOk s.p = true
  a : s.a = (0, 0) ∧ s.y = zLy ∨ btOk s.a = true ∧ lright s.y = true ∧ s.y.e = e
  le : Bt.less s.p s.a = false
def Gd (S : AS) : Prop := ∀ e s, S e = some s → (1 ≤ e ∧ e ≤ 1048576) ∧ EsOk e s
theorem Gd.zero : Gd (fun _ => none) := fun e s h => by cases h
theorem Gd.exec {S : AS} {x : Rc} (g : Gd S) (h : okA x) (ha : allow S x = true) : Gd (exec S x) := by
  intro e s hs
  unfold Proofs.YtihbinphmlgjoaaGreat.exec at hs
  by_cases he : e = x.e
  · rw [if_pos he] at hs
    subst he
    injection hs with hs
    subst hs
    refine ⟨h.e, h.b, ?_, ?_⟩
    · unfold behind
      cases hk : x.k with
      | true => exact .inr ⟨by simpa using h.b, by simpa using (h.y hk).1, by simpa using (h.y hk).2⟩
      | false =>
        simp only [Bool.false_eq_true, if_false]
        unfold AS.at
        cases hS : S x.e with
        | none => exact .inl ⟨rfl, rfl⟩
        | some s => exact (g x.e s hS).2.a
    · unfold behind
      cases hk : x.k with
      | true => simp only [if_true]; rw [less_false]; omega
      | false =>
        simp only [Bool.false_eq_true, if_false]
        unfold allow at ha
        rw [Bool.not_eq_true'] at ha
        obtain ⟨hb0, hb1, _, hb3, _⟩ := btOk_iff.1 h.b
        unfold AS.at at ha ⊢
        cases hS : S x.e with
        | none => simp only [Option.getD_none, Es.zero]; rw [less_false]; simp only; omega
        | some s =>
          have := (g x.e s hS).2.le
          rw [hS] at ha
          simp only [Option.getD_some] at ha ⊢
          rw [less_false] at this ha ⊢
          omega
  · rw [if_neg he] at hs
    exact g e s hs
theorem at_exec_same (S : AS) (x : Rc) : (exec S x).at x.e = behind (S.at x.e) x := by unfold AS.at exec; rw [if_pos rfl]; rfl
theorem at_exec_other (S : AS) (x : Rc) {e : Nat} (h : e ≠ x.e) : (exec S x).at e = S.at e := by unfold AS.at exec; rw [if_neg h]
/-- records that describe states -/
inductive Desc : List Rec → AS → Prop
  | nil : Desc [] (fun _ => none)
  | snoc {L : List Rec} {S : AS} {x : Rc} : Desc L S → okA x → allow S x = true → Desc (L ++ [encA x]) (exec S x)
theorem Desc.good {L : List Rec} {S : AS} (h : Desc L S) : Gd S := by
  induction h with
  | nil => exact Gd.zero
  | snoc _ h1 h2 ih => exact ih.exec h1 h2
theorem Desc.okL {L : List Rec} {S : AS} (h : Desc L S) : okL L := by
  induction h with
  | nil => exact okL_nil
  | snoc _ h1 _ ih => exact ih.snoc (encA_ok h1)

/-- a tape's disk behind a commit -/
def cmF (n : Nat) (F : Nat → Sec) (h h' : Nat) (L L' : List Rec) : Nat → Sec := now (now F (wfM n h h' L L' fun _ => none)) (upd (fun _ => none) 0 (supS h' L'.length (frs L').length))
/-- what comes of an append and its commit -/
theorem app_commit {n : Nat} {F : Nat → Sec} {h : Nat} {L : List Rec} {r : Rec} (ho : okR r) (hfit : (frs L).length + 2 + r.length ≤ hsec n * 64) :
    appE n 0 h h L L r = 0 ∧ commitS n (appS n (calm F (fun _ => none) h L) r) = calm (cmF n F h h L (L ++ [r])) (fun _ => none) h (L ++ [r]) := by
  have e1 : appE n 0 h h L L r = 0 := by
    unfold appE
    rw [if_neg (by simpa using ho), if_neg (by simp), if_neg]
    unfold roomN
    simp
    omega
  refine ⟨e1, ?_⟩
  have e2 : appS n (calm F (fun _ => none) h L) r = ⟨F, fun _ => none, h, h, L, L ++ [r], 0⟩ := by
    unfold appS calm appL
    simp only [e1, if_true]
  rw [e2, commit_k0 (by unfold TS.idle idle; simp) rfl]
  rfl
end Go.Proofs.YtihbinphmlgjoaaGreat
namespace Go.Proofs.YtihbinphmlgjoaaGreat
open Go.RowKit Go.Maps Go.Shelf
set_option linter.unusedVariables false
set_option linter.unusedSimpArgs false

/-- the literal of key a -/
abbrev uk (a : Nat) : Lit := .int .u64 (a : Int)
/-- a value reads as itself -/
def idR (v : Value) : Option (DataW Value × List MemPlace) := some (.held v, [])
theorem idR_inv {v : Value} {z : DataW Value × List MemPlace} (h : idR v = some z) : z = (.held v, []) := by simpa [idR, eq_comm] using h
theorem ukeyed : Keyed Tryz.prog 37 := int_keyed Tryz.underlying37
theorem uk_inj {a b : Nat} (h : uk a = uk b) : a = b := by simp only [Lit.int.injEq, true_and] at h; omega
theorem uk_isKey (a : Nat) : WideAt.IsKeyLit (uk a) := by simp [WideAt.IsKeyLit]
theorem keyOf_uk {a : Nat} (h : a < 18446744073709551616) : keyOf Tryz.prog 37 (.int .u64 (a : Int)) = some (uk a) := keyOf_int_mk Tryz.underlying37 (WalkArith.wf_u64 (by omega))
theorem keyOf_u64 {key : Value} {kl : Lit} (h : keyOf Tryz.prog 37 key = some kl) : ∃ a : Nat, a < 18446744073709551616 ∧ key = .int .u64 (a : Int) ∧ kl = uk a := by
  obtain ⟨x, rfl, rfl, hw⟩ := Maps.keyOf_int_inv Tryz.underlying37 h
  have h2 : 0 ≤ x ∧ x ≤ 18446744073709551615 := by
    simp [Lit.wf, IntKind.min, IntKind.max, IntKind.signed, IntKind.bits] at hw
    omega
  obtain ⟨a, rfl⟩ : ∃ a : Nat, x = (a : Int) := ⟨x.toNat, by omega⟩
  exact ⟨a, by omega, rfl, rfl⟩
/-- the datum of the map V -/
structure MapD (V : Nat → Option Value) (D : DataW Value) : Prop where
  some_ : ∀ a v, V a = some v → has D (uk a) = true ∧ ∀ z, D.atKey (uk a) z = .held v
  none_ : ∀ a, V a = none → has D (uk a) = false
  keys : ∀ kl, has D kl = true → ∃ a, a < 18446744073709551616 ∧ kl = uk a
theorem MapD.has {V : Nat → Option Value} {D : DataW Value} (h : MapD V D) (a : Nat) : Go.Maps.has D (uk a) = (V a).isSome := by
  cases hV : V a with
  | none => exact h.none_ a hV
  | some v => exact (h.some_ a v hV).1
def updV (V : Nat → Option Value) (a : Nat) (v : Value) : Nat → Option Value := fun x => if x = a then some v else V x
theorem MapD.empty : MapD (fun _ => none) (.map []) := ⟨fun _ _ h => (by cases h), fun _ _ => rfl, fun kl h => by simp [Go.Maps.has] at h⟩
theorem MapD.put {V : Nat → Option Value} {D : DataW Value} (h : MapD V D) (hD : IsMap D) {i : Nat} (hi : i < 18446744073709551616) (v : Value) : MapD (updV V i v) (D.put (uk i) (.held v)) := by
  have hne : ∀ j, j ≠ i → uk j ≠ uk i := fun j hj e => hj (uk_inj e)
  refine ⟨fun j u hj => ?_, fun j hj => ?_, fun kl hkl => ?_⟩
  · by_cases e : j = i
    · subst e
      simp only [updV, if_true, Option.some.injEq] at hj
      subst hj
      exact ⟨has_put_same hD (uk_isKey j) _, fun z => atKey_put_same hD (uk_isKey j) _ z⟩
    · simp only [updV, if_neg e] at hj
      obtain ⟨h1, h2⟩ := h.some_ j u hj
      exact ⟨by rw [has_put_other (hne j e)]; exact h1, fun z => by rw [atKey_put_other (hne j e)]; exact h2 z⟩
  · by_cases e : j = i
    · subst e
      simp [updV] at hj
    · simp only [updV, if_neg e] at hj
      rw [has_put_other (hne j e)]
      exact h.none_ j hj
  · by_cases e : kl = uk i
    · exact ⟨i, hi, e⟩
    · rw [has_put_other e] at hkl
      exact h.keys kl hkl
/-- numbers without repeats below N are N at most -/
theorem nodup_le {l : List Nat} (h : l.Nodup) {N : Nat} (hN : ∀ x ∈ l, x < N) : l.length ≤ N := by
  have hp : l.Perm ((List.range N).filter fun x => decide (x ∈ l)) := (List.perm_ext_iff_of_nodup h (List.nodup_range.filter _)).2 fun x => by
    simp only [List.mem_filter, List.mem_range, decide_eq_true_eq]
    exact ⟨fun hx => ⟨hN x hx, hx⟩, fun hx => hx.2⟩
  rw [hp.length_eq]
  have := List.length_filter_le (fun x => decide (x ∈ l)) (List.range N)
  simpa using this
/-- a map in block b -/
structure MapV (w : World) (b : Nat) (V : Nat → Option Value) : Prop where
  own : ∃ D, w.ownsMap Tryz.prog 37 idR b 1048577 D ∧ MapD V D
  dom : ∀ a v, V a = some v → a < 1048577
theorem MapV.lt {w : World} {b : Nat} {V : Nat → Option Value} (h : MapV w b V) : b < w.heap.size := by obtain ⟨D, h1, _⟩ := h.own; exact h1.lt
theorem owns_block {w w' : World} {b n : Nat} {D : DataW Value} (h : w.ownsMap Tryz.prog 37 idR b n D) (hb : w'.heap[b]? = w.heap[b]?) : w'.ownsMap Tryz.prog 37 idR b n D := by
  obtain ⟨es, clock, h1, h2⟩ := h
  exact ⟨es, clock, hb.trans h1, h2⟩
theorem MapV.chg {l : List Nat} {w w' : World} {b : Nat} {V : Nat → Option Value} (h : MapV w b V) (hc : Chg l w w') (hb : b ∉ l) : MapV w' b V := by
  obtain ⟨D, h1, h2⟩ := h.own
  exact ⟨⟨D, owns_block h1 (hc.block b h1.lt hb), h2⟩, h.dom⟩
theorem MapV.kept {w w' : World} {b : Nat} {V : Nat → Option Value} (h : MapV w b V) (hc : Chg [] w w') : MapV w' b V := h.chg hc (by simp)
theorem tightM {w : World} {b n : Nat} {V : Nat → Option Value} {D : DataW Value} (h : w.ownsMap Tryz.prog 37 idR b n D) (hm : MapD V D) (hd : ∀ a v, V a = some v → a < 1048577) : MapV w b V := by
  refine ⟨⟨D, ?_, hm⟩, hd⟩
  obtain ⟨es, hD, hpw, hk⟩ := h.entries ukeyed
  obtain ⟨es0, clock, hb, F, hn, hD0⟩ := h
  refine ⟨es0, clock, hb, F, ?_, hD0⟩
  have e1 : es0.size = es.length := by
    rw [hD] at hD0
    have := DataW.map.inj hD0
    rw [this, length_sorted]
    simp
  rw [e1]
  subst hD
  have hx : ∀ p ∈ es, ∃ a, a < 18446744073709551616 ∧ p.1 = uk a := fun p hp => hm.keys p.1 (List.any_eq_true.2 ⟨p, hp, WideAt.sameKey_self (hk p hp)⟩)
  let f : Lit × DataW Value → Nat := fun p => match p.1 with | .int _ x => x.toNat | _ => 0
  have hf : ∀ p ∈ es, p.1 = uk (f p) := fun p hp => by
    obtain ⟨a, _, ha⟩ := hx p hp
    show p.1 = uk (match p.1 with | .int _ x => x.toNat | _ => 0)
    rw [ha]
    simp
  have hnd : (es.map f).Nodup := List.pairwise_map.2 (hpw.imp_of_mem fun {p q} hp hq hne e => hne (by rw [hf p hp, hf q hq, e]))
  have := nodup_le hnd (N := 1048577) fun x hx2 => by
    obtain ⟨p, hp, rfl⟩ := List.mem_map.1 hx2
    have h2 : Go.Maps.has (.map es) (uk (f p)) = true := by rw [← hf p hp]; exact List.any_eq_true.2 ⟨p, hp, WideAt.sameKey_self (hk p hp)⟩
    rw [hm.has] at h2
    obtain ⟨v, hv⟩ := Option.isSome_iff_exists.1 h2
    exact hd _ v hv
  simpa using this
/-- lookup, with ok -/
theorem MapV.look {w : World} {b : Nat} {V : Nat → Option Value} (h : MapV w b V) {t e : TypeId} (ht : Tryz.prog.underlying t = some (.map 37 e)) {z : Value} (hz : (zeroValue e).run Tryz.prog w = .ok z w) {a : Nat} (ha : a < 18446744073709551616) :
    (Instr.lookup t (.map (some b)) (.int .u64 (a : Int)) true).run Tryz.prog w = .ok (.tuple #[(V a).getD z, .bool (V a).isSome]) w := by
  obtain ⟨D, ho, hm⟩ := h.own
  obtain ⟨v, ps, hrun, hv⟩ := ho.look_ok ukeyed ht hz (zd := .held z) (zp := []) rfl (keyOf_uk ha)
  have h2 := idR_inv hv
  rw [hrun, hm.has]
  cases hV : V a with
  | none =>
    have e1 : D.atKey (uk a) (.held z) = .held z := by
      have := hm.none_ a hV
      exact atKey_of_not_has this _
    rw [e1] at h2
    simp at h2
    simp [h2]
  | some u =>
    rw [(hm.some_ a u hV).2] at h2
    simp at h2
    simp [h2]
/-- m[a] = v -/
theorem MapV.put {w : World} {b : Nat} {V : Nat → Option Value} (h : MapV w b V) {t e : TypeId} (ht : Tryz.prog.underlying t = some (.map 37 e)) {a : Nat} (ha : a < 1048577) (v : Value) :
    ∃ w', (Instr.mapUpdate t (.map (some b)) (.int .u64 (a : Int)) v).run Tryz.prog w = .ok () w' ∧ MapV w' b (updV V a v) ∧ Chg [b] w w' := by
  obtain ⟨D, ho, hm⟩ := h.own
  obtain ⟨w', hrun, ho', htn⟩ := ho.store ukeyed ht (by unfold maxLen; omega) (keyOf_uk (a := a) (by omega)) (val := v) (d := .held v) (ps := []) rfl
  refine ⟨w', hrun, tightM ho' (hm.put (i := a) ho.isMap (by omega) v) fun j u hj => ?_, (Chg.refl [b] w).grown htn.grown (by simp)⟩
  by_cases e : j = a
  · rw [e]; exact ha
  · have h2 : updV V a v j = V j := if_neg e
    rw [h2] at hj
    exact h.dom j u hj
theorem MapV.made (w : World) : MapV (w.alloc (.map #[] 0)) w.heap.size (fun _ => none) := tightM (World.ownsMap_made w Tryz.prog 37 idR) MapD.empty (fun _ _ h => by cases h)
/-- which keys have come -/
def ColU (V : Nat → Option Value) (left : Lit → Bool) (ss : List Nat) : Prop := ss.Nodup ∧ ∀ x, x ∈ ss ↔ ((V x).isSome = true ∧ left (uk x) = false)
theorem ColU.start {V : Nat → Option Value} {D : DataW Value} (h : MapD V D) : ColU V (Go.Maps.has D) [] := ⟨List.nodup_nil, fun x => by rw [h.has]; cases (V x).isSome <;> simp⟩
theorem ColU.step {V : Nat → Option Value} {left : Lit → Bool} {ss : List Nat} (h : ColU V left ss) {x : Nat} (hlk : left (uk x) = true) (hV : (V x).isSome = true) : ColU V (fun z => left z && !z.sameKey (uk x)) (ss ++ [x]) := by
  have hnew : x ∉ ss := fun hx => by have := ((h.2 x).1 hx).2; rw [hlk] at this; cases this
  refine ⟨List.nodup_append.2 ⟨h.1, by simp, fun a ha b hb => by simp at hb; subst hb; exact fun e => hnew (e ▸ ha)⟩, fun y => ?_⟩
  by_cases hy : y = x
  · subst hy; simp [hV, Lit.sameKey]
  · have h2 : ¬ ((y : Int) = (x : Int)) := by omega
    simp [h.2 y, hy, Lit.sameKey, h2]
end Go.Proofs.YtihbinphmlgjoaaGreat
namespace Go.Proofs.YtihbinphmlgjoaaGreat
open Go.RowKit Go.Deep
set_option linter.unusedVariables false
set_option linter.unusedSimpArgs false

end Go.Proofs.YtihbinphmlgjoaaGreat
