/-
  Contract of package disk's Crash, of a disk. No claim of its own.
-/
import Derived.Test.YtdiemejdbakffaaDkK
namespace Go.Proofs.Ytdiemejdbakffaa
open Go.RowKit Go.Maps Go.Shelf
set_option linter.unusedVariables false
set_option linter.unusedSimpArgs false

/-- a crash under way: the first k dirty sectors are done -/
structure CrAt (w wr : World) (g gd n : Nat) (F : Nat → Sec) (m : Nat → Option Sec) (ks : List Bool) (k : Nat) : Prop where
  chg : Chg [] w wr
  rng : ∀ i, i < n → wr.rangeAt g (i * 64) (u8s (crashK n F m ks k i))
  the : wr.there g 0 (n * 64)
  low : w.heap.size ≤ g
  lis : ∀ j, j < (dirtyL n m).length → wr.cell? ⟨gd, j, none⟩ = some (.int .i64 (((dirtyL n m).getD j 0 : Nat) : Int))
  gd : g ≠ gd
theorem crashK_len {w : World} {p g b n : Nat} {F : Nat → Sec} {m : Nat → Option Sec} (hd : Dsk w p g b n F m) (ks : List Bool) (k i : Nat) : (crashK n F m ks k i).length = 64 := by
  unfold crashK crashF
  split
  · split
    · exact hd.lenN i
    · exact hd.lenF i
  · exact hd.lenF i
theorem crashF_len {w : World} {p g b n : Nat} {F : Nat → Sec} {m : Nat → Option Sec} (hd : Dsk w p g b n F m) (ks : List Bool) (i : Nat) : (crashF F m ks i).length = 64 := by
  unfold crashF
  split
  · exact hd.lenN i
  · exact hd.lenF i
theorem i64s_dirty (n : Nat) (m : Nat → Option Sec) (j : Nat) (hj : j < (dirtyL n m).length) : (i64s (dirtyZ n m))[j]? = some (.int .i64 (((dirtyL n m).getD j 0 : Nat) : Int)) := by
  simp [i64s, dirtyZ, List.getD, hj]
theorem crAt_keep {w wr : World} {g gd n : Nat} {F : Nat → Sec} {m : Nat → Option Sec} {ks : List Bool} {k : Nat} (h : CrAt w wr g gd n F m ks k) (hk : k < (dirtyL n m).length) (hn : ks.getD k false = false) : CrAt w wr g gd n F m ks (k + 1) := by
  refine ⟨h.chg, fun i hi => ?_, h.the, h.low, h.lis, h.gd⟩
  rw [crashK_succ F m ks hk i]
  by_cases e : i = (dirtyL n m)[k]
  · rw [if_pos e, if_neg (by rw [hn]; simp), ← (show crashK n F m ks k i = F i by rw [e]; exact crashK_at F m ks hk)]
    exact h.rng i hi
  · rw [if_neg e]
    exact h.rng i hi
theorem crAt_set {w wr w0 : World} {p gg b g gd n : Nat} {F : Nat → Sec} {m : Nat → Option Sec} {ks : List Bool} {k : Nat} (hd : Dsk w0 p gg b n F m) (h : CrAt w wr g gd n F m ks k) (hk : k < (dirtyL n m).length) (hn : ks.getD k false = true) (x : Nat) (hx : x = (dirtyL n m).getD k 0) :
    CrAt w (wr.setCells g (x * 64) (u8s (now F m x))) g gd n F m ks (k + 1) := by
  have hx2 : x = (dirtyL n m)[k] := by rw [hx]; simp [List.getD, hk]
  have hxn : x < n := by rw [hx2]; exact (mem_dirtyL.1 (List.getElem_mem hk)).1
  have hth : wr.there g (x * 64) (u8s (now F m x)).length := fun j hj => by
    rw [u8s_length, hd.lenN] at hj
    have := h.the (x * 64 + j) (by omega)
    simpa using this
  have hC : Chg [g] wr (wr.setCells g (x * 64) (u8s (now F m x))) := (Chg.refl [g] wr).setCells (by simp) _ _
  have hgd := h.gd
  refine ⟨h.chg.then hC (by simp; exact h.low), fun i hi => ?_, World.there_setCells h.the _ _ _, h.low, fun j hj => hC.cell (h.lis j hj) (by simp; exact fun e => hgd e.symm), h.gd⟩
  rw [crashK_succ F m ks hk i]
  by_cases e : i = (dirtyL n m)[k]
  · have ei : i = x := by rw [hx2]; exact e
    rw [if_pos e, if_pos hn, ei]
    exact World.rangeAt_setCells_same _ _ _ _ hth
  · have ei : i ≠ x := by rw [hx2]; exact e
    rw [if_neg e]
    refine World.rangeAt_setCells_apart (h.rng i hi) _ _ _ (.inr ?_)
    rw [u8s_length, u8s_length, crashK_len hd, hd.lenN]
    omega
/-- Dirty, opened -/
theorem dirty_some (w : World) {p g b n : Nat} {F : Nat → Sec} {m : Nat → Option Sec} (hd : Dsk w p g b n F m) (hL : 0 < (dirtyL n m).length) :
    Calls Try.prog 24 #[.pointer (some ⟨p, 0, none⟩)] w fun e w' => ∃ gd c, e = .returned (.slice (some ⟨gd, 0, none⟩) (dirtyL n m).length c) ∧ w.heap.size ≤ gd ∧ gd < w'.heap.size ∧ (∀ j, j < (dirtyL n m).length → w'.cell? ⟨gd, j, none⟩ = some (.int .i64 (((dirtyL n m).getD j 0 : Nat) : Int))) ∧ Below w.heap.size w w' := by
  refine (dirty_ok w hd).mono fun e w' ⟨v, he, hrow, hb⟩ => ?_
  obtain ⟨a, c, rfl, ha⟩ := open_row1 hrow
  obtain ⟨gd, rfl, h1, h2, h3⟩ := ha hL
  exact ⟨gd, c, he, h1, h2, fun j hj => by rw [h3 j hj, i64s_dirty n m j hj], hb⟩
theorem dirty_none (w : World) {p g b n : Nat} {F : Nat → Sec} {m : Nat → Option Sec} (hd : Dsk w p g b n F m) (hL : (dirtyL n m).length = 0) :
    Calls Try.prog 24 #[.pointer (some ⟨p, 0, none⟩)] w fun e w' => ∃ a c, e = .returned (.slice a 0 c) ∧ Below w.heap.size w w' := by
  refine (dirty_ok w hd).mono fun e w' ⟨v, he, hrow, hb⟩ => ?_
  obtain ⟨a, c, rfl, ha⟩ := open_row1 hrow
  rw [hL] at he
  exact ⟨a, c, he, hb⟩
/-- a new disk out of the row that a crash has made -/
theorem crash_new {w w2 : World} {gl n cl : Nat} {F : Nat → Sec} (h1 : 1 ≤ n) (h2 : n ≤ 1024) (hF : ∀ i, (F i).length = 64) (hC : Chg [] w w2) (hr : ∀ i, i < n → w2.rangeAt gl (i * 64) (u8s (F i))) (ht : w2.there gl 0 (n * 64)) (hgl : w.heap.size ≤ gl) :
    Calls Try.prog 26 #[.slice (some ⟨gl, 0, none⟩) n cl] w2 fun e w' => ∃ p', e = .returned (.pointer (some ⟨p', 0, none⟩)) ∧ Hid (∃ g' b', w.heap.size ≤ p' ∧ w.heap.size ≤ g' ∧ w.heap.size ≤ b' ∧ Dsk w' p' g' b' n F (fun _ => none) ∧ Chg [] w w') := by
  refine (clean_any w2 _ n cl).mono fun e w' ⟨he, hw⟩ => ?_
  have hD := clean_dsk (c := cl) h1 h2 hF hr ht
  have := hC.size
  subst hw
  exact ⟨_, he, Lib.hid ⟨gl, w2.heap.size, by omega, hgl, by omega, hD.1, hC.trans hD.2⟩⟩
theorem crash_post {w w' : World} {n p' : Nat} {F : Nat → Sec} {e : Ending} (he : e = .returned (.pointer (some ⟨p', 0, none⟩))) (h : Hid (∃ g' b', w.heap.size ≤ p' ∧ w.heap.size ≤ g' ∧ w.heap.size ≤ b' ∧ Dsk w' p' g' b' n F (fun _ => none) ∧ Chg [] w w')) :
    ∃ p' g' b', e = .returned (.pointer (some ⟨p', 0, none⟩)) ∧ w.heap.size ≤ p' ∧ w.heap.size ≤ g' ∧ w.heap.size ≤ b' ∧ Dsk w' p' g' b' n F (fun _ => none) ∧ Chg [] w w' := by
  obtain ⟨g', b', h1, h2, h3, h4, h5⟩ := h.out
  exact ⟨p', g', b', he, h1, h2, h3, h4, h5⟩
set_option maxRecDepth 100000 in
theorem crash_ok (w : World) {p g b n : Nat} {F : Nat → Sec} {m : Nat → Option Sec} (hd : Dsk w p g b n F m) (a : Option Addr) (ks : List Bool) (c B : Nat) (hro : Ro w B a (bls ks)) (hB : B ≤ w.heap.size) (hks : ks.length ≤ 9223372036854775807) :
    Calls Try.prog 18 #[.pointer (some ⟨p, 0, none⟩), .slice a ks.length c] w fun e w' => ∃ p' g' b', e = .returned (.pointer (some ⟨p', 0, none⟩)) ∧ w.heap.size ≤ p' ∧ w.heap.size ≤ g' ∧ w.heap.size ≤ b' ∧ Dsk w' p' g' b' n (crashF F m ks) (fun _ => none) ∧ Chg [] w w' := by
  obtain ⟨c0, hflu⟩ := hd.flu
  have hdir := hd.dir
  have ht := hd.top
  have HD := Lib.hid hd
  have hro2 := hro.mono hB
  have HR := Lib.hid hro2
  have HC := Lib.hid (clone_rows w g n c0 F hd.lenF ht hd.rng)
  have hLn := dirtyL_le n m
  clear hd hro hro2
  by_cases hL : (dirtyL n m).length = 0
  · have HL := Lib.hid hL
    clear hL
    go_enter Try.func18, Try.ntmps18
    go_wp2_with (first
      | (go_at_call 41; refine HC.out.mono ?_; rintro e w1 ⟨gl, cl, rfl, hgl, hgl2, hrl, htl, hb1⟩)
      | fail)
    have hC1 : Chg [] w w1 := (Chg.refl [] w).of_below hb1
    have HC2 := Lib.hid (dirty_none w1 (HD.out.kept hC1) HL.out)
    go_wp2_with (first
      | (go_at_call 24; refine HC2.out.mono ?_; rintro e w2 ⟨ad, cd, rfl, hb2⟩)
      | fail)
    have hC12 : Chg [] w1 w2 := (Chg.refl [] w1).of_below hb2
    have HN := Lib.hid (crash_new (cl := cl) (F := crashF F m ks) HD.out.one ht (fun i => crashF_len HD.out ks i) (hC1.trans hC12) (fun i hi => by
      have := hC12.range (hrl i hi) (by simp)
      rw [← crashK_end n F m ks i hi, HL.out, crashK_zero]; exact this) (hC12.there htl (by simp)) hgl)
    clear hrl htl hb1 hb2 hC1 hC12
    refine wp_loop_rounds 1 ?_
    rw [rounds_succ]
    go_wp2_with (first
      | (go_at_call 26; refine HN.out.mono ?_; rintro e w3 ⟨p3, rfl, H3⟩)
      | fail)
    go_ret
    exact crash_post rfl H3
  · have hL0 : 0 < (dirtyL n m).length := by omega
    clear hL
    go_enter Try.func18, Try.ntmps18
    go_wp2_with (first
      | (go_at_call 41; refine HC.out.mono ?_; rintro e w1 ⟨gl, cl, rfl, hgl, hgl2, hrl, htl, hb1⟩)
      | fail)
    have hC1 : Chg [] w w1 := (Chg.refl [] w).of_below hb1
    have HC2 := Lib.hid (dirty_some w1 (HD.out.kept hC1) hL0)
    obtain ⟨L, HLn⟩ : ∃ L, Hid ((dirtyL n m).length = L) := ⟨_, Lib.hid rfl⟩
    have HC3 := HC2
    rw [HLn.out] at HC3 hL0 hLn
    clear HC2
    go_wp2_with (first
      | (go_at_call 24; refine HC3.out.mono ?_; rintro e w2 ⟨gd, cd, rfl, hgd, hgd2, hlis, hb2⟩)
      | fail)
    have hC12 : Chg [] w1 w2 := (Chg.refl [] w1).of_below hb2
    have HS := Lib.hid (show CrAt w w2 gl gd n F m ks 0 from ⟨hC1.trans hC12, fun i hi => by rw [crashK_zero]; exact hC12.range (hrl i hi) (by simp), hC12.there htl (by simp), hgl, fun j hj => hlis j (by rw [← HLn.out]; exact hj), by omega⟩)
    clear hrl htl hb1 hb2 hC1 hC12 hlis hgl2 hgd2 HC3
    go_loopw [18] (fun i wr => ∃ k : Nat, k ≤ L ∧ i = .int .i64 k ∧ CrAt w wr gl gd n F m ks k) (fun i _ => L - (intOf i).toNat)
    case atStart => exact ⟨0, Nat.zero_le _, rfl, HS.out⟩
    case round =>
      obtain ⟨k, hk, rfl, hR⟩ := hrel
      by_cases hlt : k < L
      · have hkL : k < (dirtyL n m).length := by rw [HLn.out]; exact hlt
        have hdt : decide (k < L) = true := by simpa using hlt
        have hcell := hR.lis k hkL
        obtain ⟨x, HX⟩ : ∃ x, Hid (x = (dirtyL n m).getD k 0) := ⟨_, Lib.hid rfl⟩
        rw [← HX.out] at hcell
        have hxm : x ∈ dirtyL n m := by rw [HX.out]; simp [List.getD, hkL]
        have hxn : x < n := (mem_dirtyL.1 hxm).1
        have hms : (m x).isSome = true := (mem_dirtyL.1 hxm).2
        have hk0 : (0 : Int) ≤ (k : Int) := by omega
        have hk1 : (k : Int) < (L : Int) := by omega
        have hx0 : (0 : Int) ≤ (x : Int) := by omega
        have hx1 : (x : Int) < (n : Int) := by omega
        have HR2 := Lib.hid hR
        have hmeas : L - (k + 1) < L - k := by omega
        by_cases hkk : k < ks.length
        · obtain ⟨bk, off, rfl, hbk, hkc⟩ := HR.out.bl (by omega)
          have hkc2 := hR.chg.cell (hkc k hkk) (by simp)
          have hdk : decide (k < ks.length) = true := by simpa using hkk
          have hkk1 : (k : Int) < (ks.length : Int) := by omega
          cases hv : ks.getD k false with
          | false =>
            rw [hv] at hkc2
            have HK := Lib.hid (crAt_keep hR hkL hv)
            clear hR hkc hms hv hxm
            go_wp2
            go_roundw
            case rel => exact ⟨k + 1, by omega, by go_num, HK.out⟩
            case measure => simp [intOf]; omega
          | true =>
            rw [hv] at hkc2
            have HK := Lib.hid (crAt_set HD.out hR hkL hv x HX.out)
            have hdW := HD.out.kept hR.chg
            have hdirW := hdW.dir
            have hlook : (Instr.lookup 82 (.map (some b)) (.int .i64 (x : Int)) false).run Try.prog wr = .ok (sv (now F m x)) wr := by
              rw [(look_run hdW x hxn).2]
              obtain ⟨S, hS⟩ := Option.isSome_iff_exists.1 hms
              simp [now, hS]
            have hlen := HD.out.lenN x
            have hth : wr.there gl (x * 64) 64 := fun j hj => by
              have := hR.the (x * 64 + j) (by omega)
              simpa using this
            obtain ⟨S, HS2⟩ : ∃ S, Hid (now F m x = S) := ⟨_, Lib.hid rfl⟩
            rw [HS2.out] at hlook hlen HK
            clear hR hkc hms hv hxm hdW
            go_wp2_with (first
              | (refine wpList_store37 rfl _ _ rfl gl (x * 64) S rfl rfl hth hlen ?_)
              | fail)
            go_roundw
            case rel => exact ⟨k + 1, by omega, by go_num, HK.out⟩
            case measure => simp [intOf]; omega
        · have hdk : decide (k < ks.length) = false := by simpa using hkk
          have HK := Lib.hid (crAt_keep hR hkL (by rw [List.getD_eq_getElem?_getD, List.getElem?_eq_none (by omega)]; rfl))
          clear hR hms hxm
          go_wp2
          go_roundw
          case rel => exact ⟨k + 1, by omega, by go_num, HK.out⟩
          case measure => simp [intOf]; omega
      · have hkL : k = L := by omega
        have HN := Lib.hid (crash_new (cl := cl) (F := crashF F m ks) HD.out.one ht (fun i => crashF_len HD.out ks i) hR.chg (fun i hi => by
          have := hR.rng i hi
          rw [hkL, ← HLn.out, crashK_end n F m ks i hi] at this; exact this) hR.the hgl)
        have hnl : decide (k < L) = false := by simpa using hlt
        clear hR hkL
        go_wp2_with (first
          | (go_at_call 26; refine HN.out.mono ?_; rintro e w3 ⟨p3, rfl, H3⟩)
          | fail)
        go_ret
        exact crash_post rfl H3
end Go.Proofs.Ytdiemejdbakffaa
