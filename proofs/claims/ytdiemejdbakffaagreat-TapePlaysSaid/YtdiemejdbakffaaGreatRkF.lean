/-
  Contracts of the document's disk: Fill, Flush, Dirty. No claim of their own.
-/
import Derived.Test.YtdiemejdbakffaaGreatJ6
namespace Go.Proofs.YtdiemejdbakffaaGreat
open Go.RowKit Go.Maps Go.Shelf
set_option linter.unusedVariables false
set_option linter.unusedSimpArgs false

theorem getD_fill (bs : List UInt8) (i : Nat) (hi : i < 64) : (u8s (fillS bs))[i]? = some (.int .u8 ((bs.getD i 0).toNat : Nat)) := by
  unfold u8s
  rw [List.getElem?_map, fillS_get bs i hi]
  rfl
theorem take_getD (bs : List UInt8) (k j : Nat) : (bs.take k).getD j 0 = if j < k then bs.getD j 0 else 0 := by
  simp only [List.getD_eq_getElem?_getD, List.getElem?_take]
  split <;> rfl
theorem fill_zero (bs : List UInt8) : fillS (bs.take 0) = zsec := by
  refine List.ext_getElem? fun i => ?_
  rcases Nat.lt_or_ge i 64 with h | h
  · rw [fillS_get _ i h, List.take_zero]
    unfold zsec
    rw [List.getElem?_replicate, if_pos h]
    rfl
  · rw [List.getElem?_eq_none (by rw [fillS_len]; exact h), List.getElem?_eq_none (by rw [zsec_len]; exact h)]
theorem fill_end (bs : List UInt8) (k : Nat) (h : ¬ (k < bs.length ∧ k < 64)) : fillS (bs.take k) = fillS bs := by
  refine List.ext_getElem? fun i => ?_
  rcases Nat.lt_or_ge i 64 with hi | hi
  · rw [fillS_get _ i hi, fillS_get _ i hi, take_getD]
    split
    · rfl
    · rename_i h2
      rw [List.getD_eq_getElem?_getD, List.getElem?_eq_none (by omega)]
      rfl
  · rw [List.getElem?_eq_none (by rw [fillS_len]; exact hi), List.getElem?_eq_none (by rw [fillS_len]; exact hi)]
theorem fill_step {w : World} {g k : Nat} {bs : List UInt8} (h : w.rangeAt g 0 (u8s (fillS (bs.take k)))) (hk : k < 64) : (w.setCell ⟨g, k, none⟩ (.int .u8 ((bs.getD k 0).toNat : Nat))).rangeAt g 0 (u8s (fillS (bs.take (k + 1)))) := fun j v hv => by
  have hj : j < 64 := by have := (List.getElem?_eq_some_iff.1 hv).1; rw [u8s_length, fillS_len] at this; exact this
  rw [getD_fill _ j hj, take_getD] at hv
  have h0 := fun j hj => h j _ (getD_fill (bs.take k) j hj)
  simp only [Nat.zero_add] at h0 ⊢
  by_cases e : j = k
  · subst e
    rw [World.cell?_setCell_same _ _ _ (h0 j hj)]
    rw [if_pos (by omega)] at hv
    exact hv
  · rw [World.cell?_setCell_other _ _ _ _ (fun e2 => e (by injection e2 with _ e3 _; exact e3.symm)), h0 j hj, take_getD]
    have : (j < k + 1) = (j < k) := by rw [eq_iff_iff]; omega
    simp only [this] at hv
    exact hv
theorem there_setCell {w : World} {g n : Nat} (h : w.there g 0 n) (p : Addr) (v : Value) : (w.setCell p v).there g 0 n := fun j hj => by
  obtain ⟨h1, h2⟩ := h j hj
  refine ⟨?_, by rw [World.frozen?_setCell]; exact h2⟩
  obtain ⟨u, hu⟩ := Option.isSome_iff_exists.1 h1
  by_cases e : p = ⟨g, 0 + j, none⟩
  · subst e
    rw [World.cell?_setCell_same _ _ _ hu]; rfl
  · rw [World.cell?_setCell_other _ _ _ _ e, hu]; rfl
theorem fill_exit {k len : Nat} (h : ¬ (k < len ∧ k < 64)) : decide (k < len) = false ∨ (decide (k < len) = true ∧ decide ((k : Int) < 64) = false) := by
  by_cases h2 : k < len
  · exact .inr ⟨by simp; omega, by simp; omega⟩
  · exact .inl (by simp; omega)
set_option maxRecDepth 100000 in
theorem rfill_any (w : World) (a : Option Addr) (bs : List UInt8) (c B : Nat) (hro : Ro w B a (u8s bs)) (hB : B ≤ w.heap.size) :
    Calls Tryz.prog 16 #[.slice a bs.length c] w fun e w' => e = .returned (sv (fillS bs)) ∧ Chg [] w w' := by
  have H := Lib.hid hro
  obtain ⟨w0, HW0⟩ : ∃ w0, Hid (two w zsec zsec 50 = w0) := ⟨_, Lib.hid rfl⟩
  have hc0 : Chg [] w w0 := by rw [← HW0.out]; exact two_chg w zsec zsec _
  have hr0 : w0.rangeAt (w.heap.size + 1) 0 (u8s (fillS (bs.take 0))) := by rw [fill_zero, ← HW0.out]; exact range_block (two_new w zsec zsec _)
  have ht0 : w0.there (w.heap.size + 1) 0 64 := by rw [← HW0.out]; exact there_block (two_new w zsec zsec _) zsec_len
  have hs0 : w0.there w.heap.size 0 64 := by rw [← HW0.out]; exact there_block (two_first w zsec zsec _) zsec_len
  have H0 := Lib.hid (And.intro hc0 (And.intro hr0 (And.intro ht0 hs0)))
  clear hro hc0 hr0 ht0 hs0
  go_enter Tryz.func16, Tryz.ntmps16
  go_wp2_with (first
    | (refine wpList_alloc40 rfl rfl ?_)
    | fail)
  have hw0 : (w.alloc (.cells (u8s zsec).toArray 50)).alloc (.cells (u8s zsec).toArray 50) = w0 := HW0.out
  rw [hw0]
  clear hw0
  go_loopw [4] (fun i wr => ∃ k : Nat, k ≤ 64 ∧ i = .int .i64 k ∧ Chg [] w wr ∧ wr.rangeAt (w.heap.size + 1) 0 (u8s (fillS (bs.take k))) ∧ wr.there (w.heap.size + 1) 0 64 ∧ wr.there w.heap.size 0 64) (fun i _ => 64 - (intOf i).toNat)
  case atStart => exact ⟨0, by omega, rfl, H0.out⟩
  case round =>
    obtain ⟨k, hk, rfl, hc, hr, ht, hs⟩ := hrel
    by_cases hlt : k < bs.length ∧ k < 64
    · obtain ⟨b, off, rfl, hlb, hcell⟩ := H.out.u8 (by omega)
      have hcl := hc.cell (hcell k hlt.1) (by simp)
      have hk0 : (0 : Int) ≤ (k : Int) := by omega
      have hk1 : (k : Int) < (bs.length : Int) := by omega
      have hk2 : (k : Int) < 64 := by omega
      have hst := hr k _ (getD_fill (bs.take k) k hlt.2)
      have hfz := (ht k hlt.2).2
      rw [Nat.zero_add] at hst hfz
      have HN := Lib.hid (And.intro (fill_step hr hlt.2) (And.intro (there_setCell ht ⟨w.heap.size + 1, k, none⟩ (.int .u8 ((bs.getD k 0).toNat : Nat))) (there_setCell hs ⟨w.heap.size + 1, k, none⟩ (.int .u8 ((bs.getD k 0).toNat : Nat)))))
      obtain ⟨x, HX⟩ : ∃ x : Nat, Hid ((bs.getD k 0).toNat = x) := ⟨_, Lib.hid rfl⟩
      have HN2 := HN.out
      rw [HX.out] at HN2 hcl
      have HN3 := Lib.hid HN2
      have hmeas : 64 - (k + 1) < 64 - k := by omega
      clear hr ht hs HN HN2
      go_wp2
      go_roundw
      case rel => exact ⟨k + 1, by omega, by go_num, hc.setCell (by simp) _, HN3.out⟩
      case measure => simp [intOf]; omega
    · have hcase := fill_exit hlt
      rw [fill_end bs k hlt] at hr
      clear hlt
      rcases hcase with hq | ⟨hq, hq2⟩
      all_goals
        go_wp2_with (first
          | (refine wpList_load40 rfl _ rfl (w.heap.size + 1) 0 rfl (fillS bs) hr (fillS_len bs) ?_)
          | (refine wpList_store40 rfl _ _ rfl w.heap.size 0 (fillS bs) rfl rfl hs (fillS_len bs) ?_)
          | fail)
        refine bodyPost_ret (results_cell (j := 2) (t := 50) (p := ⟨w.heap.size, 0, none⟩) Tryz.results16 rfl (load40 (S := fillS bs) (World.rangeAt_setCells_same _ _ _ _ (by rw [u8s_length, fillS_len]; exact hs)) (fillS_len bs))) rfl ⟨rfl, ?_⟩
        exact hc.setCells (Or.inr (Nat.le_refl _)) _ _
/-- a flush under way: the first k sectors are flushed -/
def mixB (D : Nat → Bool) (k : Nat) : Nat → Bool := fun j => if j < k then false else D j
theorem mixR_next (F G : Nat → Sec) (k : Nat) : updF (mixR F G k) k (G k) = mixR F G (k + 1) := by
  funext j
  unfold updF mixR
  by_cases e : j = k
  · subst e; rw [if_pos rfl, if_pos (by omega)]
  · rw [if_neg e]
    by_cases h : j < k
    · rw [if_pos h, if_pos (by omega)]
    · rw [if_neg h, if_neg (by omega)]
theorem mixB_next (D : Nat → Bool) (k : Nat) : updB (mixB D k) k false = mixB D (k + 1) := by
  funext j
  unfold updB mixB
  by_cases e : j = k
  · subst e; rw [if_pos rfl, if_pos (by omega)]
  · rw [if_neg e]
    by_cases h : j < k
    · rw [if_pos h, if_pos (by omega)]
    · rw [if_neg h, if_neg (by omega)]
theorem mixB_zero (D : Nat → Bool) : mixB D 0 = D := by funext j; simp [mixB]
theorem Rdk.full {w : World} {q gn go gd n : Nat} {N O : Nat → Sec} {D : Nat → Bool} (h : Rdk w q gn go gd n N (mixR O N n) (mixB D n)) : Rdk w q gn go gd n N N (fun _ => false) :=
  ⟨h.c0, h.c1, h.c2, h.one, h.top, h.lenN, h.lenN, h.rn, h.ro.full, h.bd.congr fun j hj => if_pos hj, h.ne⟩
set_option maxRecDepth 100000 in
theorem rflush_ok (w : World) {q gn go gd n : Nat} {N O : Nat → Sec} {D : Nat → Bool} (hd : Rdk w q gn go gd n N O D) :
    Calls Tryz.prog 70 #[.pointer (some ⟨q, 0, none⟩)] w fun e w' => (∃ v, e = .returned v) ∧ Rdk w' q gn go gd n N N (fun _ => false) ∧ Chg [go, gd] w w' := by
  have HD := Lib.hid (show Rdk w q gn go gd n N (mixR O N 0) (mixB D 0) by rw [mixR_zero, mixB_zero]; exact hd)
  obtain ⟨n1, n2, n3, n4, n5, n6⟩ := hd.ne
  have htop := hd.top
  clear hd
  go_enter Tryz.func70, Tryz.ntmps70
  go_wp2
  go_loopw [2] (fun i wr => ∃ k : Nat, k ≤ n ∧ i = .int .i64 k ∧ Rdk wr q gn go gd n N (mixR O N k) (mixB D k) ∧ Chg [go, gd] w wr) (fun i _ => n - (intOf i).toNat)
  case atStart => exact ⟨0, Nat.zero_le _, rfl, HD.out, Chg.refl _ _⟩
  case round =>
    obtain ⟨k, hk, rfl, hR, hc⟩ := hrel
    have hc0 := hR.c0
    by_cases hlt : k < n
    · have hdt : decide (k < n) = true := by simpa using hlt
      have hk0 : (0 : Int) ≤ (k : Int) := by omega
      have hk1 : (k : Int) < (n : Int) := by omega
      have hRd := hR.kept ((Chg.refl [] wr).drew)
      have hR2 := hRd.setO k hlt (N k) (hR.lenN k)
      rw [mixR_next] at hR2
      have hR3 := hR2.setD k hlt false
      rw [mixB_next] at hR3
      have hc1 := hRd.c1
      have hc0d := hRd.c0
      have hrg := hRd.rn.rng k hlt
      have hT := hRd.ro.at_ k hlt
      have hc1' := hR2.c1
      have hc0' := hR2.c0
      have hc2' := hR2.c2
      have hrg' := hR2.rn.rng k hlt
      have hT' := hR2.ro.at_ k hlt
      have hcd := hR2.bd.cell k hlt
      have hfz := hR2.bd.free k
      obtain ⟨S, HS⟩ : ∃ S, Hid (N k = S) := ⟨_, Lib.hid rfl⟩
      have hSl := hR.lenN k
      rw [HS.out] at hR2 hR3 hrg hc1' hc0' hc2' hrg' hT' hcd hfz hSl
      have hu := Tryz.underlying50
      have hinf : (Tryz.prog.info? 50).map (·.size) = some (u8s S).length := by rw [u8s_length, hSl]; exact info40
      have hone := u8s_one S
      have hT2 : wr.drew.there go (k * 64) (u8s S).length := by rw [u8s_length, hSl]; exact hT
      have hT2' : (wr.drew.setCells go (k * 64) (u8s S)).there go (k * 64) (u8s S).length := by rw [u8s_length, hSl]; exact hT'
      have HR3 := Lib.hid hR3
      have HC := Lib.hid ((hc.drew.setCells (b := go) (by simp) (k * 64) (u8s S)).setCell (p := ⟨gd, k, none⟩) (by simp) (.bool false))
      clear hR hRd hR2 hR3 hT hT' hSl
      go_wp2_with fail
      go_region_held3 (fun w' => w'.cell? ⟨q, 0, none⟩ = some (.slice (some ⟨gn, 0, none⟩) n n) ∧ w'.cell? ⟨q, 1, none⟩ = some (.slice (some ⟨go, 0, none⟩) n n) ∧ w'.rangeAt gn (k * 64) (u8s S) ∧ w'.there go (k * 64) (u8s S).length) (first | assumption | (exact ⟨hc0d, hc1, hrg, hT2⟩) | (exact ⟨hc0', hc1', hrg', hT2'⟩)) (fail)
      go_wp2
      go_roundw
      case rel => exact ⟨k + 1, by omega, by go_num, HR3.out, HC.out⟩
      case measure => simp [intOf]; omega
    · have hdt : decide (k < n) = false := by simpa using hlt
      have hkn : k = n := by omega
      subst hkn
      have HE := Lib.hid (And.intro hR.full hc)
      clear hR hc
      go_wp2
      go_end0
      exact ⟨⟨_, rfl⟩, HE.out⟩
theorem dirtyL_succ (k : Nat) (m : Nat → Option Sec) : dirtyL (k + 1) m = dirtyL k m ++ (if (m k).isSome = true then [k] else []) := by
  unfold dirtyL
  rw [List.range_succ, List.filter_append]
  congr 1
  by_cases h : (m k).isSome = true
  · simp [h]
  · simp [h]
theorem dirtyZ_yes {k : Nat} {m : Nat → Option Sec} (h : (m k).isSome = true) : i64s (dirtyZ (k + 1) m) = i64s (dirtyZ k m) ++ [.int .i64 (k : Int)] := by
  unfold dirtyZ
  rw [dirtyL_succ, if_pos h]
  simp [i64s]
theorem dirtyZ_no {k : Nat} {m : Nat → Option Sec} (h : (m k).isSome = false) : i64s (dirtyZ (k + 1) m) = i64s (dirtyZ k m) := by
  unfold dirtyZ
  rw [dirtyL_succ, if_neg (by rw [h]; simp)]
  simp
theorem dirtyZ_le (k : Nat) (m : Nat → Option Sec) : (i64s (dirtyZ k m)).length ≤ k := by
  have := dirtyL_le k m
  simpa [dirtyZ] using this
theorem infoI : (Tryz.prog.info? 3).map (fun i => (i.zero, i.size, i.bytes)) = some (some (.int .i64 0), 1, 8) := by kernel_rfl
theorem rdirty_ok (w : World) {q gn go gd n : Nat} {N O : Nat → Sec} {m : Nat → Option Sec} (hd : Rdk w q gn go gd n N O (fun i => (m i).isSome)) :
    Calls Tryz.prog 47 #[.pointer (some ⟨q, 0, none⟩)] w fun e w' => ∃ v, e = .returned v ∧ Hid (Lst w' w.heap.size 3 v (i64s (dirtyZ n m))) ∧ Chg [] w w' := by
  have HD := Lib.hid hd
  have htop := hd.top
  clear hd
  go_enter Tryz.func47, Tryz.ntmps47
  go_wp2
  go_loopw [3, 4] (fun v i wr => ∃ k : Nat, k ≤ n ∧ i = .int .i64 (k : Int) ∧ Lst wr w.heap.size 3 v (i64s (dirtyZ k m)) ∧ Below w.heap.size w wr) (fun _ i _ => n - (intOf i).toNat)
  case atStart => exact ⟨0, Nat.zero_le _, by simp, Lst.nil _ _ _, Below.refl _ _⟩
  case round =>
    obtain ⟨k, hk, rfl, hown, hbel⟩ := hrel
    have hR := HD.out.kept ((Chg.refl [] w).of_below hbel)
    have hc2 := hR.c2
    by_cases hlt : k < n
    · have hdt : decide (k < n) = true := by simpa using hlt
      have hk0 : (0 : Int) ≤ (k : Int) := by omega
      have hk1 : (k : Int) < (n : Int) := by omega
      have hcd := hR.bd.cell k hlt
      have hmeas : n - (k + 1) < n - k := by omega
      have hle := dirtyZ_le k m
      clear hR
      cases hm : (m k).isSome with
      | true =>
        have hcd' : wr.cell? ⟨gd, k, none⟩ = some (.bool true) := by rw [← hm]; exact hcd
        have HZ := Lib.hid (dirtyZ_yes hm)
        clear hcd hm
        go_wp2_with (at_builtin; refine wpList_app1 rfl (.tmp 21) (.tmp 23) 66 rfl w.heap.size 3 (.int .i64 0) 8 Tryz.underlying66 infoI rfl (.int .i64 (k : Int)) rfl _ (i64s (dirtyZ k m)) rfl hown rfl ?c1 ?c2 w.heap.size w hbel (Nat.le_refl _) hbel.size ?_)
        case c1 => omega
        case c2 => omega
        intro v' w1 hown1 hbel1 _
        go_wp2_with fail
        go_roundw
        case rel => exact ⟨k + 1, by omega, by go_num, by rw [HZ.out]; exact hown1.out, hbel1⟩
        case measure => simp [intOf]; omega
      | false =>
        have hcd' : wr.cell? ⟨gd, k, none⟩ = some (.bool false) := by rw [← hm]; exact hcd
        have HZ := Lib.hid (show Lst wr w.heap.size 3 _ _ from (dirtyZ_no hm).symm ▸ hown)
        clear hcd hm hown
        go_wp2
        go_roundw
        case rel => exact ⟨k + 1, by omega, by go_num, HZ.out, hbel⟩
        case measure => simp [intOf]; omega
    · have hdt : decide (k < n) = false := by simpa using hlt
      have hkn : k = n := by omega
      subst hkn
      have HO := Lib.hid hown
      clear hown hR
      go_wp2
      go_ret
      exact ⟨_, rfl, HO, (Chg.refl [] w).of_below hbel⟩
end Go.Proofs.YtdiemejdbakffaaGreat
