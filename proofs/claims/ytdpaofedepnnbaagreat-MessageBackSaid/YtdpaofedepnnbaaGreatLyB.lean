/-
  Right of package layout, and what it calls, by their contracts. No claim of their own.
-/
import Derived.Test.YtdpaofedepnnbaaGreatLyA
import Derived.Shelf.Lay
import Derived.Laws.EntriesVeiled
import Derived.Deep.Cut
namespace Go.Proofs.YtdpaofedepnnbaaGreat
open Go.RowKit Go.Deep Go.Shelf
set_option linter.unusedVariables false
set_option linter.unusedSimpArgs false

/-- which units there were, one by one -/
def fl (us : List Int) : List Value := (List.range 32).map fun (k : Nat) => Value.bool (decide ((k : Int) ∈ us))
@[simp] theorem fl_length (us : List Int) : (fl us).length = 32 := by simp [fl]
theorem fl_get (us : List Int) (i : Nat) (h : i < 32) : (fl us)[i]? = some (.bool (decide ((i : Int) ∈ us))) := by simp [fl, h]
theorem fl_set (us : List Int) (i : Nat) (h : i < 32) : (fl us).set i (.bool true) = fl (us ++ [(i : Int)]) := by
  apply List.ext_getElem (by simp)
  intro j h1 h2
  simp only [List.length_set, fl_length] at h1
  rw [List.getElem_set]
  by_cases e : i = j
  · subst e; simp [fl]
  · simp [fl, e, show ¬ (j : Int) = (i : Int) by omega]
theorem grown_trans {a b c : World} {r : Option Nat} (h : a.grownBy b r) (k : b.grownBy c r) : a.grownBy c r :=
  ⟨k.os.trans h.os, k.tape.trans h.tape, k.output.trans h.output, Nat.le_trans h.size k.size, fun x hx hne => (k.block x (Nat.lt_of_lt_of_le hx h.size) hne).trans (h.block x hx hne)⟩
theorem grown_below' {w w' : World} {g : Nat} (h : w.grownBy w' (some g)) (hg : g ≤ w.heap.size) : Below g w w' := below_only (Below.refl _ _) h (Nat.le_refl _) hg
theorem grown_cell {w w' : World} {g gw o : Nat} {v : Value} (h : w.grownBy w' (some g)) (hc : w.cell? ⟨gw, o, none⟩ = some v) (hne : gw ≠ g) : w'.cell? ⟨gw, o, none⟩ = some v := by
  have hlt := World.block_lt_of_cell? _ _ hc
  have := h.block gw hlt (by intro e; injection e with e; exact hne e)
  rw [← hc]
  simp only [World.cell?, this]

set_option maxHeartbeats 400000 in
theorem rc1_any (u : Int) (us : List Int) (g : Nat) (w : World) (h : Own w g 179 (fl us)) :
    Calls Tryz.prog 141 #[.int .i64 u, .pointer (some ⟨g, 0, none⟩)] w fun e w' => e = .returned (.bool (ubad us u)) ∧ (ubad us u = false → Own w' g 179 (fl (us ++ [u]))) ∧ w.grownBy w' (some g) := by
  have HU := Lib.hid (isUnit_any u w)
  by_cases hu : 0 ≤ u ∧ u < 32
  · obtain ⟨k, rfl⟩ := Int.eq_ofNat_of_zero_le hu.1
    have hk : k < 32 := by omega
    have hc := (h.cell k).trans (fl_get us k hk)
    have hf := h.frozen k
    have e : decide (0 ≤ (k : Int) ∧ (k : Int) < 32) = true := by simp; omega
    rw [e] at HU
    have e1 : ubad us (k : Int) = decide ((k : Int) ∈ us) := by unfold ubad; rw [e]; simp
    rw [e1]
    have HO := Lib.hid h
    have h0 : (0 : Int) ≤ (k : Int) := by omega
    have h1 : (k : Int) < 32 := by omega
    clear hu e e1 h
    cases hd : decide ((k : Int) ∈ us) with
    | true =>
      rw [hd] at hc
      clear hd
      go_enter Tryz.func141, Tryz.ntmps141
      go_wp2_with fail
      refine HU.out.mono ?_
      rintro e w' ⟨rfl, rfl⟩
      go_wp2_with fail
      go_ret
      exact ⟨rfl, by simp, World.grownBy.refl _ _⟩
    | false =>
      rw [hd] at hc
      clear hd
      go_enter Tryz.func141, Tryz.ntmps141
      go_wp2_with fail
      refine HU.out.mono ?_
      rintro e w' ⟨rfl, rfl⟩
      go_wp2_with fail
      go_ret
      refine ⟨rfl, fun _ => ?_, only_set (World.grownBy.refl _ _) _ _⟩
      rw [← fl_set us k hk]
      exact HO.out.set k _
  · have e : decide (0 ≤ u ∧ u < 32) = false := by simpa using hu
    have e1 : ubad us u = true := by unfold ubad; rw [e]; simp
    rw [e] at HU
    rw [e1]
    clear hu e e1 h
    go_enter Tryz.func141, Tryz.ntmps141
    go_wp2_with fail
    refine HU.out.mono ?_
    rintro e w' ⟨rfl, rfl⟩
    go_wp2_with fail
    go_ret
    exact ⟨rfl, by simp, World.grownBy.refl _ _⟩

theorem rc1_in (A : ChT) (us : List Int) (g B : Nat) (w : World) (h : Own w g 179 (fl us)) (hro : Ro w B A.a (i64s A.u)) (hB : B ≤ g) (hl : A.u.length ≤ 1000000) :
    Calls Tryz.prog 94 #[.slice A.a A.u.length A.c, .func (.func 141) #[] #[.pointer (some ⟨g, 0, none⟩)]] w fun e w' => e = .returned (.bool (cbadU us A.u)) ∧ (cbadU us A.u = false → Own w' g 179 (fl (us ++ A.u))) ∧ w.grownBy w' (some g) := by
  have eg : ∀ args w, (callFunc 141 args).run Tryz.prog w = .ok (.enter 141 args) w := enters_of Tryz.func141 (by kernel_rfl) rfl
  have hg := h.lt
  refine (contains_int (fun k W => Own W g 179 (fl (us ++ A.u.take k)) ∧ w.grownBy W (some g) ∧ ∀ j, j < k → ubad (us ++ A.u.take j) (A.u.getD j 0) = false) (fun W => w.grownBy W (some g) ∧ cbadU us A.u = true) (fun k => ubad (us ++ A.u.take k) (A.u.getD k 0)) 141 #[.pointer (some ⟨g, 0, none⟩)] eg A.u A.a A.c B w hl (fun k W hS => hro.below (grown_below' hS.2.1 (by omega)) hB) ⟨by simpa using h, World.grownBy.refl _ _, by omega⟩ (fun k W hk hS => ?_)).mono ?_
  · obtain ⟨h1, h2, h3⟩ := hS
    refine (rc1_any (A.u.getD k 0) (us ++ A.u.take k) g W h1).mono ?_
    rintro e w' ⟨rfl, g1, g2⟩
    refine ⟨rfl, fun hp => ⟨grown_trans h2 g2, ?_⟩, fun hp => ⟨?_, grown_trans h2 g2, fun j hj => ?_⟩⟩
    · rw [← Bool.not_eq_false]
      intro hc
      have := anyN_false.1 hc k hk
      rw [this] at hp; cases hp
    · have := g1 hp
      rwa [List.append_assoc, show A.u.take k ++ [A.u.getD k 0] = A.u.take (k + 1) by rw [List.take_succ_eq_append_getElem hk]; simp [List.getD, hk]] at this
    · by_cases e : j = k
      · subst e; exact hp
      · exact h3 j (by omega)
  · rintro e w' ⟨rfl, hT | ⟨h1, h2, h3⟩⟩
    · exact ⟨rfl, fun hc => (by rw [hT.2] at hc; cases hc), hT.1⟩
    · exact ⟨rfl, fun hc => by simpa using h1, h2⟩

set_option maxHeartbeats 400000 in
theorem rc2_any (A : ChT) (us : List Int) (g gw B : Nat) (w : World) (h : Own w g 179 (fl us)) (hw : w.cell? ⟨gw, 0, none⟩ = some (.func (.func 141) #[] #[.pointer (some ⟨g, 0, none⟩)])) (hro : Ro w B A.a (i64s A.u)) (hB : B ≤ g) (hl : A.u.length ≤ 9223372036854775807) :
    Calls Tryz.prog 144 #[A.val, .pointer (some ⟨gw, 0, none⟩)] w fun e w' => e = .returned (.bool (cbad us A.u)) ∧ (cbad us A.u = false → Own w' g 179 (fl (us ++ A.u))) ∧ w.grownBy w' (some g) := by
  have HW := Lib.hid (within_int A.a A.u.length A.c w hl)
  have HC := Lib.hid (fun hl => rc1_in A us g B w h hro hB hl)
  unfold cbad
  simp only [ChT.val]
  cases hi : isLen A.u.length with
  | true =>
    rw [hi] at HW
    have hl2 := isLen_iff.1 hi
    replace HC := Lib.hid (HC.out (by omega))
    clear hi hl2 hl hro h
    generalize cbadU us A.u = t at *
    generalize A.u.length = n at *
    go_enter Tryz.func144, Tryz.ntmps144
    go_wp2_with fail
    refine HW.out.mono ?_
    rintro e w' ⟨rfl, rfl⟩
    go_wp2_with fail
    refine HC.out.mono ?_
    rintro e w' ⟨rfl, h1, h2⟩
    have H1 := Lib.hid h1
    have H2 := Lib.hid h2
    clear h1 h2
    go_wp2_with fail
    go_ret
    exact ⟨by simp, by simpa using H1.out, H2.out⟩
  | false =>
    rw [hi] at HW
    clear hi HC hl hro h
    generalize A.u.length = n at *
    go_enter Tryz.func144, Tryz.ntmps144
    go_wp2_with fail
    refine HW.out.mono ?_
    rintro e w' ⟨rfl, rfl⟩
    go_wp2_with fail
    go_ret
    exact ⟨rfl, by simp, World.grownBy.refl _ _⟩
theorem rc2_in (L : List ChT) (a : Option Addr) (c g gw B : Nat) (w : World) (h : Own w g 179 (fl [])) (hw : w.cell? ⟨gw, 0, none⟩ = some (.func (.func 141) #[] #[.pointer (some ⟨g, 0, none⟩)])) (hne : gw ≠ g) (hro : Ro w B a (chv L)) (hin : ChIn w B L) (hB : B ≤ g) (hl : L.length ≤ 1000000) (hf : ChFit L) :
    Calls Tryz.prog 143 #[.slice a L.length c, .func (.func 144) #[] #[.pointer (some ⟨gw, 0, none⟩)]] w fun e w' => e = .returned (.bool (anyN (fun k => cbad ((chx L).take k).flatten (cx (chx L) k)) L.length)) ∧ w.grownBy w' (some g) := by
  have eg : ∀ args w, (callFunc 144 args).run Tryz.prog w = .ok (.enter 144 args) w := enters_of Tryz.func144 (by kernel_rfl) rfl
  have hg := h.lt
  refine (contains_ch (fun k W => Own W g 179 (fl ((chx L).take k).flatten) ∧ w.grownBy W (some g)) (fun W => w.grownBy W (some g)) (fun k => cbad ((chx L).take k).flatten (cx (chx L) k)) 144 #[.pointer (some ⟨gw, 0, none⟩)] eg L a c B w hl (fun k W hS => hro.below (grown_below' hS.2 (by omega)) hB) ⟨by simpa using h, World.grownBy.refl _ _⟩ (fun k W hk hS => ?_)).mono ?_
  · obtain ⟨h1, h2⟩ := hS
    refine (rc2_any (ct L k) _ g gw B W h1 (grown_cell h2 hw hne) ((hin _ (ct_mem hk)).below (grown_below' h2 (by omega)) hB) hB (hf.2 _ (ct_mem hk))).mono ?_
    rintro e w' ⟨rfl, g1, g2⟩
    simp only [cx_chx]
    refine ⟨trivial, fun hp => grown_trans h2 g2, fun hp => ⟨?_, grown_trans h2 g2⟩⟩
    have := g1 hp
    rw [cx_take (by simpa using hk), cx_chx]
    simpa using this
  · rintro e w' ⟨rfl, hT | ⟨h1, h2⟩⟩
    · exact ⟨rfl, hT⟩
    · exact ⟨rfl, h2⟩

set_option maxHeartbeats 400000 in
theorem rightChains_any (L : List ChT) (a : Option Addr) (c B : Nat) (w : World) (hro : Ro w B a (chv L)) (hin : ChIn w B L) (hB : B ≤ w.heap.size) (hf : ChFit L) :
    Calls Tryz.prog 126 #[.slice a L.length c] w fun e w' => e = .returned (.bool (chOk (chx L))) ∧ Below w.heap.size w w' := by
  have HW := Lib.hid (fun W => within_ch a L.length c W hf.1)
  have efl : (fl []).toArray = #[.bool false, .bool false, .bool false, .bool false, .bool false, .bool false, .bool false, .bool false, .bool false, .bool false, .bool false, .bool false, .bool false, .bool false, .bool false, .bool false, .bool false, .bool false, .bool false, .bool false, .bool false, .bool false, .bool false, .bool false, .bool false, .bool false, .bool false, .bool false, .bool false, .bool false, .bool false, .bool false] := by simp [fl, List.range, List.range.loop]
  obtain ⟨W0, HW0⟩ : ∃ W0, Hid (w.alloc (.cells (fl []).toArray 179) = W0) := ⟨_, Lib.hid rfl⟩
  have hz0 : W0.heap.size = w.heap.size + 1 := by rw [← HW0.out]; simp
  obtain ⟨W, HWW⟩ : ∃ W, Hid (W0.alloc (.cells #[.func (.func 141) #[] #[.pointer (some ⟨w.heap.size, 0, none⟩)]] 132) = W) := ⟨_, Lib.hid rfl⟩
  have hb0 : Below w.heap.size w W0 := by rw [← HW0.out]; exact (Below.refl _ _).alloc (Nat.le_refl _) _
  have hWb : Below w.heap.size w W := by rw [← HWW.out]; exact hb0.alloc (by omega) _
  have o0 : Own W0 w.heap.size 179 (fl []) := by rw [← HW0.out]; exact Own.new w _ _
  have o1 : Own W w.heap.size 179 (fl []) := by rw [← HWW.out]; exact o0.alloc _
  have o2 : W.cell? ⟨W0.heap.size, 0, none⟩ = some (.func (.func 141) #[] #[.pointer (some ⟨w.heap.size, 0, none⟩)]) := by
    rw [← HWW.out]
    simp
  have HC := Lib.hid (fun hl => rc2_in L a c w.heap.size W0.heap.size B W o1 o2 (by omega) (hro.below hWb hB) (hin.below hWb hB) hB hl hf)
  have HB := Lib.hid hWb
  rw [efl] at HW0
  unfold chOk
  rw [chx_length]
  generalize anyN (fun k => cbad ((chx L).take k).flatten (cx (chx L) k)) L.length = t at *
  clear hz0 hb0 o0
  cases hi : isLen L.length with
  | true =>
    rw [hi] at HW
    have hl2 := isLen_iff.1 hi
    replace HC := Lib.hid (HC.out (by omega))
    clear hi hl2 hro hf o1 o2 hWb hin efl
    generalize L.length = n at *
    go_enter Tryz.func126, Tryz.ntmps126
    go_upto_region 2 with fail
    rw [HW0.out]
    go_wp2_with fail
    refine (HW.out _).mono ?_
    rintro e w' ⟨rfl, rfl⟩
    go_wp2_with fail
    rw [HWW.out]
    refine HC.out.mono ?_
    rintro e w' ⟨rfl, h2⟩
    have H2 := Lib.hid (below_only HB.out h2 (Nat.le_refl _) HB.out.size)
    clear h2
    go_wp2_with fail
    go_ret
    exact ⟨by simp, H2.out⟩
  | false =>
    rw [hi] at HW
    clear hi HC hro hf o1 o2 hWb hin efl
    generalize L.length = n at *
    go_enter Tryz.func126, Tryz.ntmps126
    go_upto_region 2 with fail
    rw [HW0.out]
    go_wp2_with fail
    refine (HW.out _).mono ?_
    rintro e w' ⟨rfl, rfl⟩
    go_wp2_with fail
    go_ret
    exact ⟨rfl, by rw [HWW.out]; exact HB.out⟩

theorem wrap_u64_mod (n : Nat) : IntKind.u64.wrap ((n : Int) + 1) = (((n + 1) % 18446744073709551616 : Nat) : Int) := by rw [IntKind.wrap_u64]; omega
set_option maxHeartbeats 400000 in
theorem rs1_any (A : SgT) (m g B : Nat) (w : World) (h : Own w g 26 [.int .u64 (m : Int)]) (hro : Ro w B A.a (chv A.ch)) (hin : ChIn w B A.ch) (hB : B ≤ g) (hf : ChFit A.ch) :
    Calls Tryz.prog 125 #[A.val, .pointer (some ⟨g, 0, none⟩)] w fun e w' => e = .returned (.bool (sbad m A.x)) ∧ Own w' g 26 [.int .u64 (((A.f + 1) % 18446744073709551616 : Nat) : Int)] ∧ Below g w w' := by
  obtain ⟨f, a, c, L⟩ := A
  simp only [SgT.val, SgT.x] at hro hin hf ⊢
  have hg := h.lt
  have HO := Lib.hid h
  have hc := h.cell 0
  have hfz := h.frozen 0
  simp at hc
  have ew := wrap_u64_mod f
  have HE := Lib.hid ew
  clear ew
  obtain ⟨t, HT⟩ : ∃ t, Hid (chOk (chx L) = t) := ⟨_, Lib.hid rfl⟩
  have HR := Lib.hid (fun (W : World) (hb : Below g w W) (hs : B ≤ W.heap.size) => rightChains_any L a c B W (hro.below hb hB) (hin.below hb hB) hs hf)
  rw [HT.out] at HR
  clear h hro hin hf
  obtain ⟨u, HU⟩ : ∃ u, Hid (sbad m (f, chx L) = u) := ⟨_, Lib.hid rfl⟩
  rw [HU.out]
  generalize L.length = n at *
  by_cases e1 : f < m
  · obtain rfl : u = true := by rw [← HU.out]; simp [sbad, e1]
    have e1' : (f : Int) < (m : Int) := by omega
    clear e1
    go_enter Tryz.func125, Tryz.ntmps125
    go_wp2_with fail
    go_ret
    refine ⟨rfl, ?_, ((Below.refl g w).setCell (Nat.le_refl _) _).alloc (by simp [set_size]; omega) _⟩
    first | rw [← HE.out] | rw [show ((f : Int) + 1) % 18446744073709551616 = IntKind.u64.wrap ((f : Int) + 1) by rw [IntKind.wrap_u64]]
    exact (HO.out.set 0 _).alloc _
  by_cases e2 : 1048576 ≤ f
  · obtain rfl : u = true := by rw [← HU.out]; simp [sbad, e2]
    have e1' : ¬ (f : Int) < (m : Int) := by omega
    have e2' : (1048576 : Int) ≤ (f : Int) := by omega
    clear e1 e2
    go_enter Tryz.func125, Tryz.ntmps125
    go_wp2_with fail
    go_ret
    refine ⟨rfl, ?_, ((Below.refl g w).setCell (Nat.le_refl _) _).alloc (by simp [set_size]; omega) _⟩
    first | rw [← HE.out] | rw [show ((f : Int) + 1) % 18446744073709551616 = IntKind.u64.wrap ((f : Int) + 1) by rw [IntKind.wrap_u64]]
    exact (HO.out.set 0 _).alloc _
  obtain rfl : u = !t := by rw [← HU.out]; simp [sbad, e1, e2, HT.out]
  have e1' : ¬ (f : Int) < (m : Int) := by omega
  have e2' : ¬ (1048576 : Int) ≤ (f : Int) := by omega
  clear e1 e2
  go_enter Tryz.func125, Tryz.ntmps125
  go_wp2_with fail
  refine (HR.out _ ((Below.refl g w).alloc (by omega) _) (by simp; omega)).mono ?_
  rintro e w' ⟨rfl, hb⟩
  have HB := Lib.hid hb
  have o1 : Own w' w.heap.size 102 [.int .u64 (f : Int), .slice a n c] := (Own.new w 102 [.int .u64 (f : Int), .slice a n c]).below hb (by simp)
  have o2 : Own w' g 26 [.int .u64 (m : Int)] := (HO.out.alloc _).below hb (by simp; omega)
  have hz := o1.lt
  have c1 := o1.cell 0
  have c2 := o2.cell 0
  have c3 := o2.frozen 0
  simp at c1 c2
  have HO2 := Lib.hid o2
  clear hb o1 o2 hc hfz
  go_wp2_with fail
  go_ret
  refine ⟨rfl, ?_, (((Below.refl g w).alloc (by omega) _).trans (HB.out.mono (by simp; omega))).setCell (Nat.le_refl _) _⟩
  first
    | rw [show (((f + 1) % 18446744073709551616 : Nat) : Int) = (f : Int) + 1 by omega]
    | rw [show ((f : Int) + 1) % 18446744073709551616 = (f : Int) + 1 by omega]
  exact HO2.out.set 0 _

theorem rs1_in (L : List SgT) (a : Option Addr) (c g B : Nat) (w : World) (h : Own w g 26 [.int .u64 0]) (hro : Ro w B a (sgv L)) (hin : SgIn w B L) (hB : B ≤ g) (hl : L.length ≤ 1000000) (hf : SgFit L) :
    Calls Tryz.prog 128 #[.slice a L.length c, .func (.func 125) #[] #[.pointer (some ⟨g, 0, none⟩)]] w fun e w' => e = .returned (.bool (anyN (fun k => sbad (leastF (sgx L) k) (sx (sgx L) k)) L.length)) ∧ Below g w w' := by
  have eg : ∀ args w, (callFunc 125 args).run Tryz.prog w = .ok (.enter 125 args) w := enters_of Tryz.func125 (by kernel_rfl) rfl
  have hg := h.lt
  refine (contains_seg (fun k W => Own W g 26 [.int .u64 (leastF (sgx L) k : Nat)] ∧ Below g w W) (fun W => Below g w W) (fun k => sbad (leastF (sgx L) k) (sx (sgx L) k)) 125 #[.pointer (some ⟨g, 0, none⟩)] eg L a c B w hl (fun k W hS => hro.below hS.2 hB) ⟨by simpa [leastF] using h, Below.refl _ _⟩ (fun k W hk hS => ?_)).mono ?_
  · obtain ⟨h1, h2⟩ := hS
    have hs := hin _ (st_mem hk)
    refine (rs1_any (st L k) _ g B W h1 (hs.1.below h2 hB) (hs.2.below h2 hB) hB (hf.2 _ (st_mem hk))).mono ?_
    rintro e w' ⟨rfl, g1, g2⟩
    rw [sx_sgx]
    refine ⟨rfl, fun hp => h2.trans g2, fun hp => ⟨?_, h2.trans g2⟩⟩
    have e : leastF (sgx L) (k + 1) = ((st L k).f + 1) % 18446744073709551616 := by
      unfold leastF
      rw [if_neg (by omega), Nat.add_sub_cancel, sx_sgx]
      rfl
    rw [e]
    exact g1
  · rintro e w' ⟨rfl, hT | ⟨h1, h2⟩⟩
    · exact ⟨rfl, hT⟩
    · exact ⟨rfl, h2⟩

set_option maxHeartbeats 400000 in
theorem rightSegments_any (L : List SgT) (a : Option Addr) (c B : Nat) (w : World) (hro : Ro w B a (sgv L)) (hin : SgIn w B L) (hB : B ≤ w.heap.size) (hf : SgFit L) :
    Calls Tryz.prog 106 #[.slice a L.length c] w fun e w' => e = .returned (.bool (sgOk (sgx L))) ∧ Below w.heap.size w w' := by
  have HW := Lib.hid (fun W => within_seg a L.length c W hf.1)
  obtain ⟨W, HWW⟩ : ∃ W, Hid (w.alloc (.cells #[.int .u64 0] 26) = W) := ⟨_, Lib.hid rfl⟩
  have hWb : Below w.heap.size w W := by rw [← HWW.out]; exact (Below.refl _ _).alloc (Nat.le_refl _) _
  have o1 : Own W w.heap.size 26 [.int .u64 0] := by rw [← HWW.out]; exact Own.new w _ _
  have HC := Lib.hid (fun hl => rs1_in L a c w.heap.size B W o1 (hro.below hWb hB) (hin.below hWb hB) hB hl hf)
  have HB := Lib.hid hWb
  unfold sgOk
  rw [sgx_length, sx_sgx]
  generalize anyN (fun k => sbad (leastF (sgx L) k) (sx (sgx L) k)) L.length = t at *
  cases hi : isLen L.length with
  | true =>
    rw [hi] at HW
    have hl2 := isLen_iff.1 hi
    replace HC := Lib.hid (HC.out (by omega))
    obtain ⟨b, off, rfl, hb, hc⟩ := (hro.below hWb hB).sg (by omega)
    have hc0 := (hc 0 (by omega)).1
    rw [Nat.zero_mul, Nat.add_zero, ← HWW.out] at hc0
    have hn1 : (1 : Int) ≤ (L.length : Int) := by omega
    have hf0 : (st L 0).x.1 = (st L 0).f := rfl
    rw [hf0]
    clear hf0
    clear hi hl2 hro hf o1 hWb hin hc
    generalize (st L 0).f = f at *
    generalize L.length = n at *
    by_cases h0 : f = 0
    · subst h0
      go_enter Tryz.func106, Tryz.ntmps106
      go_wp2_with fail
      refine (HW.out _).mono ?_
      rintro e w' ⟨rfl, rfl⟩
      go_wp2_with fail
      rw [HWW.out]
      refine HC.out.mono ?_
      rintro e w' ⟨rfl, h2⟩
      have H2 := Lib.hid (HB.out.trans h2)
      clear h2
      go_wp2_with fail
      go_ret
      exact ⟨by simp, H2.out⟩
    · have h0' : ((f : Int) == 0) = false := by rw [beq_eq_false_iff_ne]; omega
      have e : decide (f = 0) = false := by simpa using h0
      rw [e]
      clear h0 e
      go_enter Tryz.func106, Tryz.ntmps106
      go_wp2_with fail
      refine (HW.out _).mono ?_
      rintro e w' ⟨rfl, rfl⟩
      go_wp2_with fail
      go_ret
      exact ⟨rfl, by rw [HWW.out]; exact HB.out⟩
  | false =>
    rw [hi] at HW
    clear hi HC hro hf o1 hWb hin
    generalize decide ((st L 0).x.1 = 0) = u at *
    generalize L.length = n at *
    go_enter Tryz.func106, Tryz.ntmps106
    go_wp2_with fail
    refine (HW.out _).mono ?_
    rintro e w' ⟨rfl, rfl⟩
    go_wp2_with fail
    go_ret
    exact ⟨rfl, by rw [HWW.out]; exact HB.out⟩

set_option maxHeartbeats 400000 in
theorem lright_any (A : LyT) (B : Nat) (w : World) (h : LyIn w B A) (hB : B ≤ w.heap.size) (hf : SgFit A.sg) :
    Calls Tryz.prog 72 #[A.val] w fun e w' => e = .returned (.bool (lright A.x)) ∧ Below w.heap.size w w' := by
  obtain ⟨ep, a, c, L, q⟩ := A
  simp only [LyT.val, LyT.x] at *
  obtain ⟨W, HWW⟩ : ∃ W, Hid (w.alloc (.cells #[.int .u64 (ep : Int), .slice a L.length c, .int .i64 q] 38) = W) := ⟨_, Lib.hid rfl⟩
  have hWb : Below w.heap.size w W := by rw [← HWW.out]; exact (Below.refl _ _).alloc (Nat.le_refl _) _
  have h1 := h.below hWb hB
  have HU := Lib.hid (isUnit_any q W)
  have HR := Lib.hid (rightSegments_any L a c B W h1.1 h1.2 (Nat.le_trans hB hWb.size) hf)
  have HB := Lib.hid hWb
  have o1 : Own W w.heap.size 38 [.int .u64 (ep : Int), .slice a L.length c, .int .i64 q] := by rw [← HWW.out]; exact Own.new w _ _
  unfold lright
  simp only
  generalize sgOk (sgx L) = t at *
  generalize decide (0 ≤ q ∧ q < 32) = u at *
  generalize L.length = n at *
  have hz := o1.lt
  clear h1 hWb h hf hB o1
  have HK : 1 ≤ ep ∧ ep ≤ 1048576 ∨ ep < 1 ∨ 1048576 < ep := by omega
  rcases HK with ⟨k1, k2⟩ | k1 | k1
  · have e : decide (1 ≤ ep ∧ ep ≤ 1048576) = true := by simp; omega
    rw [e]
    have k1' : (1 : Int) ≤ (ep : Int) := by omega
    have k2' : (ep : Int) ≤ 1048576 := by omega
    clear e k1 k2
    cases u with
    | true =>
      go_enter Tryz.func72, Tryz.ntmps72
      go_wp2_with fail
      rw [HWW.out]
      refine HU.out.mono ?_
      rintro e w' ⟨rfl, rfl⟩
      rw [← HWW.out]
      go_wp2_with fail
      rw [HWW.out]
      refine HR.out.mono ?_
      rintro e w' ⟨rfl, h2⟩
      have H2 := Lib.hid (HB.out.trans (h2.mono HB.out.size))
      clear h2
      go_wp2_with fail
      go_ret
      exact ⟨by simp, H2.out⟩
    | false =>
      go_enter Tryz.func72, Tryz.ntmps72
      go_wp2_with fail
      rw [HWW.out]
      refine HU.out.mono ?_
      rintro e w' ⟨rfl, rfl⟩
      rw [← HWW.out]
      go_wp2_with fail
      go_ret
      exact ⟨rfl, by rw [HWW.out]; exact HB.out⟩
  all_goals
    have e : decide (1 ≤ ep ∧ ep ≤ 1048576) = false := by simp; omega
    rw [e]
    first
      | (have k1' : (ep : Int) < 1 := by omega)
      | (have k1' : 1048576 < (ep : Int) := by omega)
    have k2' : 1048576 < (ep : Int) ∨ (ep : Int) < 1 := by omega
    clear e k2'
    go_enter Tryz.func72, Tryz.ntmps72
    go_wp2_with fail
    go_ret
    exact ⟨rfl, by rw [HWW.out]; exact HB.out⟩
end Go.Proofs.YtdpaofedepnnbaaGreat
