/-
  The statement BitsTells: the walk of its Go text, by the contracts of what it calls.
-/
import Derived.Test.YtogkhhgcljeddaaArgs
import Derived.Test.YtogkhhgcljeddaaLawBitsBytes
import Derived.Test.YtogkhhgcljeddaaBitsC
import Derived.Test.YtogkhhgcljeddaaRefB
import Derived.Test.YtogkhhgcljeddaaRefE
namespace Go.Proofs.Ytogkhhgcljeddaa
open Go.RowKit Go.Deep

theorem put_yes_len (bs : List UInt8) (len : Nat) (a : Option Addr) (c B : Nat) (k n : Int) (v : Nat) (w : World) (hlen : bs.length = len) (h : Ro w B a (u8s bs)) (hB : B ≤ w.heap.size) (hl : len ≤ 1000000) (hn0 : 0 ≤ n) (hn : n ≤ 64) (hk0 : 0 ≤ k) (hk : k + n ≤ 8 * len) :
    Calls Try.prog 12 #[.slice a len c, .int .i64 k, .int .i64 n, .int .u64 v] w fun e w' => ∃ (g : Nat) (cs : List UInt8), e = .returned (.tuple #[.slice (some ⟨g, 0, none⟩) len len, .bool true]) ∧ w.heap.size ≤ g ∧ IsPut bs cs k.toNat n.toNat v ∧ Own w' g 5 (u8s cs) ∧ Below w.heap.size w w' := by
  subst hlen
  exact put_yes bs a c B k n v w h hB hl hn0 hn hk0 hk
theorem refGet_yes_len (bs : List UInt8) (len : Nat) (a : Option Addr) (c B : Nat) (k n : Int) (w : World) (hlen : bs.length = len) (h : Ro w B a (u8s bs)) (hl : len ≤ 1000000) (hn0 : 0 ≤ n) (hn : n ≤ 64) (hk0 : 0 ≤ k) (hk : k + n ≤ 8 * len) :
    Calls Try.prog 11 #[.slice a len c, .int .i64 k, .int .i64 n] w fun e w' => e = .returned (.tuple #[.int .u64 (num bs k.toNat n.toNat : Nat), .bool true]) ∧ w = w' := by
  subst hlen
  exact refGet_yes bs a c B k n w h hl hn0 hn hk0 hk
theorem refPut_yes_len (bs : List UInt8) (len : Nat) (a : Option Addr) (c B : Nat) (k n : Int) (v : Nat) (w : World) (hlen : bs.length = len) (h : Ro w B a (u8s bs)) (hB : B ≤ w.heap.size) (hl : len ≤ 1000) (hn0 : 0 ≤ n) (hn : n ≤ 64) (hk0 : 0 ≤ k) (hk : k + n ≤ 8 * len) (hv : v < 18446744073709551616) :
    Calls Try.prog 13 #[.slice a len c, .int .i64 k, .int .i64 n, .int .u64 v] w fun e w' => ∃ a2 c2 cs, e = .returned (.tuple #[.slice a2 len c2, .bool true]) ∧ IsPut bs cs k.toNat n.toNat v ∧ Ro w' w'.heap.size a2 (u8s cs) ∧ Below w.heap.size w w' := by
  subst hlen
  refine (refPut_yes bs a c B k n v w h hB hl hn0 hn hk0 hk hv).mono ?_
  rintro e w' ⟨x, cs, rfl, hput, hown, hbel⟩
  obtain ⟨a2, c2, hxe, hro, _, _⟩ := hown.form
  rw [show (u8s cs).length = bs.length by rw [u8s_length, hput.1]] at hxe
  exact ⟨a2, c2, cs, by rw [hxe], hput, hro, hbel⟩
theorem refCount_len (bs : List UInt8) (len : Nat) (a : Option Addr) (c B : Nat) (w : World) (hlen : bs.length = len) (h : Ro w B a (u8s bs)) (hB : B ≤ w.heap.size) (hl : len ≤ 1000000) :
    Calls Try.prog 19 #[.slice a len c] w fun e w' => e = .returned (.int .i64 (bn (rowB bs)).sum) ∧ Below w.heap.size w w' := by
  subst hlen
  exact refCount_any bs a c B w h hB hl
theorem ones8 : ∀ n : Fin 256, Lib.onesCount n.val = (List.range 8).foldl (fun s i => s + (n.val.testBit (7 - i)).toNat) 0 := by decide +kernel
theorem row_cons (x : UInt8) (r : List UInt8) : rowB (x :: r) = (List.range 8).map (fun i => x.toNat.testBit (7 - i)) ++ rowB r := by
  apply List.ext_getElem
  · simp; omega
  · intro i h1 h2
    by_cases c : i < 8
    · rw [List.getElem_append_left (by simpa using c)]
      simp only [rowB, bitB, List.getElem_map, List.getElem_range]
      rw [show i / 8 = 0 from by omega, show i % 8 = i from by omega]
      rfl
    · rw [List.getElem_append_right (by simp; omega)]
      simp only [rowB, bitB, List.getElem_map, List.getElem_range, List.length_map, List.length_range]
      rw [show i / 8 = (i - 8) / 8 + 1 from by omega, show i % 8 = (i - 8) % 8 from by omega]
      simp [List.getD]
theorem bn_range8 (f : Nat → Bool) : (bn ((List.range 8).map f)).sum = (((List.range 8).foldl (fun s i => s + (f i).toNat) 0 : Nat) : Int) := by
  simp only [show List.range 8 = [0, 1, 2, 3, 4, 5, 6, 7] from rfl, List.map_cons, List.map_nil, bn, List.sum_cons, List.sum_nil, List.foldl_cons, List.foldl_nil, bi_toNat]
  omega
theorem count_row (bs : List UInt8) : (bn (rowB bs)).sum = ((ones bs : Nat) : Int) := by
  induction bs with
  | nil => simp [rowB, bn, ones]
  | cons x r ih =>
    rw [row_cons, bn_append, List.sum_append, ih, bn_range8]
    have := ones8 ⟨x.toNat, x.toNat_lt⟩
    simp only at this
    rw [← this]
    simp [ones]

theorem reverse_is (v : Nat) (n : Int) (w : World) (hv : v < 18446744073709551616) :
    Calls Try.prog 16 #[.int .u64 v, .int .i64 n] w fun e w' => e = .returned (.int .u64 (revn v (wd n) : Nat)) ∧ w = w' := reverse_any v n w hv
theorem refCount_is (bs : List UInt8) (len : Nat) (a : Option Addr) (c B : Nat) (w : World) (hlen : bs.length = len) (h : Ro w B a (u8s bs)) (hB : B ≤ w.heap.size) (hl : len ≤ 1000000) :
    Calls Try.prog 19 #[.slice a len c] w fun e w' => e = .returned (.int .i64 (ones bs : Nat)) ∧ Below w.heap.size w w' := by
  have := refCount_len bs len a c B w hlen h hB hl
  rw [count_row] at this
  exact this

set_option maxRecDepth 100000 in
set_option maxHeartbeats 4000000 in
theorem bitsTells_walk (a0 : Option Addr) (len0 cap0 : Nat) (k n : Int) (v : Nat) (bs : List UInt8) (w : World) (hl0 : bs.length = len0)
    (h0 : Ro w w.heap.size a0 (u8s bs)) (hk0 : -9223372036854775808 ≤ k) (hk1 : k ≤ 9223372036854775807) (hn0 : -9223372036854775808 ≤ n) (hn1 : n ≤ 9223372036854775807) (hc0 : len0 ≤ 9223372036854775807) (hv : v < 18446744073709551616) :
    Calls Try.prog 3 #[.slice a0 len0 cap0, .agg #[.int .i64 k, .int .i64 n], .int .u64 v] w fun e w' => e = .returned (.bool true) ∧ Below w.heap.size w w' := by
  have hbx0 : Below w.heap.size w (w.alloc (.cells #[.int .i64 k, .int .i64 n] 23)) := (Below.refl _ _).alloc (Nat.le_refl _) _
  by_cases g0 : 300 < len0
  · have g0' : (300 : Int) < (len0 : Int) := by omega
    have HBX := Lib.hid hbx0
    clear hbx0
    go_enter Try.func3, Try.ntmps3
    go_wp2_with fail
    refine (alive_any _).mono ?_
    rintro e w' ⟨rfl, hb⟩
    go_wp2_with fail
    go_ret
    exact ⟨rfl, HBX.out.trans (hb.mono (by simp))⟩
  have hwb : Ro (w.alloc (.cells #[.int .i64 k, .int .i64 n] 23)) w.heap.size a0 (u8s bs) := h0.below hbx0 (Nat.le_refl _)
  have hcb0 : (w.alloc (.cells #[.int .i64 k, .int .i64 n] 23)).cell? ⟨w.heap.size, 0, none⟩ = some (.int .i64 k) := by rw [(Own.new w 23 [.int .i64 k, .int .i64 n]).cell 0]; rfl
  have hcb1 : (w.alloc (.cells #[.int .i64 k, .int .i64 n] 23)).cell? ⟨w.heap.size, 1, none⟩ = some (.int .i64 n) := by rw [(Own.new w 23 [.int .i64 k, .int .i64 n]).cell 1]; rfl
  have hszb : (w.alloc (.cells #[.int .i64 k, .int .i64 n] 23)).heap.size = w.heap.size + 1 := by simp
  have HL0 := Lib.hid hl0
  have HBX := Lib.hid hbx0
  clear hl0 hbx0
  obtain ⟨wb, hwbe⟩ : ∃ wb, wb = w.alloc (.cells #[.int .i64 k, .int .i64 n] 23) := ⟨_, rfl⟩
  have hlit := Lst.lit wb wb.heap.size 5 #[] (Nat.le_refl _) (by simp)
  have happ : Ro (wb.alloc (.cells #[] 5)) w.heap.size a0 (u8s bs) := by rw [hwbe]; exact hwb.keep fun p hp => World.cell?_alloc_lt _ _ p (by simp; omega)
  have hbA : Below wb.heap.size wb (wb.alloc (.cells #[] 5)) := (Below.refl _ _).alloc (Nat.le_refl _) _
  rw [← hwbe] at hwb hcb0 hcb1 hszb HBX
  rw [hszb] at hlit hbA
  rw [hwbe] at hlit happ hbA
  have HWB := Lib.hid hwb
  have HC0 := Lib.hid hcb0
  have HC1 := Lib.hid hcb1
  have HSZ := Lib.hid hszb
  have HE := Lib.hid hwbe
  clear hwb hcb0 hcb1 hszb hwbe
  go_enter Try.func3, Try.ntmps3
  go_wp2_with (at_builtin; refine wpList_appB rfl (.tmp 21) (.tmp 22) 22 rfl (w.heap.size + 1) 5 (.int .u8 0) 1 Try.underlying22 Try.info_u8 rfl _ [] rfl hlit a0 w.heap.size len0 cap0 (u8s bs) rfl (by simpa using HL0.out) happ (u8s_oneCell _) (by simp; omega) (by simp; omega) (w.heap.size + 1) _ hbA (Nat.le_refl _) (by simp) ?_)
  intro v2 w2 hown2 hbel2 hsz2
  rw [← HE.out] at hbel2
  clear hlit happ hbA
  go_wp2_with (at_builtin; refine wpList_app1 rfl (.tmp 23) (.tmp 24) 22 rfl (w.heap.size + 1) 5 (.int .u8 0) 1 Try.underlying22 Try.info_u8 rfl (.int .u8 7) rfl v2 (u8s bs) rfl hown2.out rfl (by have := HL0.out; simp; omega) (by have := HL0.out; simp; omega) (w.heap.size + 1) wb hbel2 (Nat.le_refl _) (by have := hbel2.size; have := HSZ.out; omega) ?_)
  intro v3 w3 hown3 hbel3 hsz3
  obtain ⟨a3, c3, hve, hro3, hc3, _⟩ := hown3.out.form
  rw [show (u8s bs ++ [Value.int .u8 7]).length = len0 + 1 by rw [List.length_append, u8s_length, HL0.out]; rfl] at hve hc3
  subst hve
  have hro3' : Ro w3 w3.heap.size a3 (u8s bs) := by
    have := hro3.take len0
    rwa [List.take_append_of_le_length (by rw [u8s_length, HL0.out]; exact Nat.le_refl _), List.take_of_length_le (by rw [u8s_length, HL0.out]; exact Nat.le_refl _)] at this
  have hb3 := HWB.out.below hbel3 (Nat.le_succ _)
  have hx0 := cell_keep hbel3 HC0.out (Nat.lt_succ_self _)
  have hx1 := cell_keep hbel3 HC1.out (Nat.lt_succ_self _)
  have hs3 : w.heap.size + 1 ≤ w3.heap.size := by have := hbel3.size; have := HSZ.out; omega
  have hF3 : Below w.heap.size w w3 := HBX.out.trans (hbel3.mono (Nat.le_succ _))
  have HF3 := Lib.hid hF3
  clear hown2 hbel2 hsz2 hown3 hro3 hbel3 hsz3 hF3
  by_cases hin : 0 ≤ n ∧ n ≤ 64 ∧ 0 ≤ k ∧ k + n ≤ 8 * (len0 : Int)
  · obtain ⟨i1, i2, i3, i4⟩ := hin
    go_wp2_with fail
    refine (get_yes_len bs len0 a3 c3 w3.heap.size k n w3 HL0.out hro3' (Nat.le_refl _) (by omega) i1 i2 i3 i4).mono ?_
    rintro e w4 ⟨rfl, hb4⟩
    have hy0 := cell_keep hb4 hx0 hs3
    have hy1 := cell_keep hb4 hx1 hs3
    clear hx0 hx1
    go_wp2_with fail
    refine (refGet_yes_len bs len0 a0 cap0 w.heap.size k n w4 HL0.out (hb3.below hb4 (by omega)) (by omega) i1 i2 i3 i4).mono ?_
    rintro e w4' ⟨rfl, rfl⟩
    go_wp2_with fail
    refine (put_yes_len bs len0 a3 c3 w3.heap.size k n v w4 HL0.out (hro3'.below hb4 (Nat.le_refl _)) hb4.size (by omega) i1 i2 i3 i4).mono ?_
    rintro e w5 ⟨g, cs, rfl, hg, hput, hown5, hb5⟩
    have hb45 := hb4.trans (hb5.mono hb4.size)
    have hz0 := cell_keep hb5 hy0 (by have := hb4.size; omega)
    have hz1 := cell_keep hb5 hy1 (by have := hb4.size; omega)
    have hroz := hown5.ro w5.heap.size hown5.lt
    clear hy0 hy1 hb4 hb5 hown5
    go_wp2_with fail
    refine (refPut_yes_len bs len0 a0 cap0 w.heap.size k n v w5 HL0.out (hb3.below hb45 (by omega)) (by have := hb45.size; omega) (by omega) i1 i2 i3 i4 hv).mono ?_
    rintro e w6 ⟨a6, c6, cs', rfl, hput6, hro6, hb6⟩
    obtain rfl := hput.unique hput6
    have hb36 := hb45.trans (hb6.mono hb45.size)
    have hq0 := cell_keep hb6 hz0 (by have := hb45.size; omega)
    have hq1 := cell_keep hb6 hz1 (by have := hb45.size; omega)
    have hroz6 := hroz.below hb6 (Nat.le_refl _)
    clear hz0 hz1 hroz
    have hcl := hput.1
    rw [HL0.out] at hcl
    have HCL := Lib.hid hcl
    have HP := Lib.hid hput
    clear hcl hput hput6
    go_wp2_with fail
    refine (alive_any _).mono ?_
    rintro e w7 ⟨rfl, hb7⟩
    have hb37 := hb36.trans (hb7.mono hb36.size)
    have hcvz := conv_ro (c := len0) (hroz6.below hb7 hb6.size) HCL.out
    have hcvw := conv_ro (c := c6) (hro6.below hb7 (Nat.le_refl _)) HCL.out
    have hcvo := conv_ro (c := c3) (hro3'.below hb37 (Nat.le_refl _)) HL0.out
    have hcvb := conv_ro (c := cap0) (hb3.below hb37 (by omega)) HL0.out
    clear hq0 hq1
    go_wp2_with fail
    refine (extend_is v n _).mono ?_
    rintro e w8 ⟨rfl, rfl⟩
    go_wp2_with fail
    refine (refExtend_any v n w7 hv).mono ?_
    rintro e w8 ⟨rfl, hb8⟩
    go_wp2_with fail
    refine (reverse_is v n w8 hv).mono ?_
    rintro e w9 ⟨rfl, rfl⟩
    go_wp2_with fail
    refine (refReverse_any v n w8 hv).mono ?_
    rintro e w9 ⟨rfl, hb9⟩
    have hb39 := (hb37.trans (hb8.mono hb37.size)).trans (hb9.mono (Nat.le_trans hb37.size hb8.size))
    go_wp2_with fail
    refine (count_len bs len0 a3 c3 w3.heap.size w9 HL0.out (hro3'.below hb39 (Nat.le_refl _)) (by omega)).mono ?_
    rintro e w10 ⟨rfl, rfl⟩
    go_wp2_with fail
    refine (refCount_is bs len0 a0 cap0 w.heap.size w9 HL0.out (hb3.below hb39 (by omega)) (by have := hb39.size; omega) (by omega)).mono ?_
    rintro e w10 ⟨rfl, hb10⟩
    go_wp2_with fail
    go_ret
    exact ⟨rfl, HF3.out.trans ((hb39.trans (hb10.mono hb39.size)).mono HF3.out.size)⟩
  · go_wp2_with fail
    refine (get_no a3 len0 c3 k n w3 (by omega) hk0 hk1 hin).mono ?_
    rintro e w4 ⟨rfl, hb4⟩
    have hy0 := cell_keep hb4 hx0 hs3
    have hy1 := cell_keep hb4 hx1 hs3
    clear hx0 hx1
    go_wp2_with fail
    refine (refGet_no a0 len0 cap0 k n w4 (by omega) hk0 hk1 hn0 hn1 hin).mono ?_
    rintro e w4' ⟨rfl, rfl⟩
    go_wp2_with fail
    refine (put_no a3 len0 c3 k n v w4 (by omega) hk0 hk1 hin).mono ?_
    rintro e w5 ⟨rfl, hb5⟩
    have hb45 := hb4.trans (hb5.mono hb4.size)
    have hz0 := cell_keep hb5 hy0 (by have := hb4.size; omega)
    have hz1 := cell_keep hb5 hy1 (by have := hb4.size; omega)
    clear hy0 hy1 hb4 hb5
    go_wp2_with fail
    refine (refPut_no a0 len0 cap0 k n v w5 (by omega) hk0 hk1 hn0 hn1 hin).mono ?_
    rintro e w6 ⟨rfl, rfl⟩
    go_wp2_with fail
    refine (alive_any _).mono ?_
    rintro e w7 ⟨rfl, hb7⟩
    have hb37 := hb45.trans (hb7.mono hb45.size)
    have hcvz : ∀ W : World, (convert 22 9 (.slice none 0 0)).run Try.prog W = .ok (.string ⟨#[]⟩) W := fun W => conv_ro (c := 0) (Ro.nil W 0 none) rfl
    have hcvo := conv_ro (c := c3) (hro3'.below hb37 (Nat.le_refl _)) HL0.out
    have hcvb := conv_ro (c := cap0) (hb3.below hb37 (by omega)) HL0.out
    clear hz0 hz1
    go_wp2_with fail
    refine (extend_is v n _).mono ?_
    rintro e w8 ⟨rfl, rfl⟩
    go_wp2_with fail
    refine (refExtend_any v n w7 hv).mono ?_
    rintro e w8 ⟨rfl, hb8⟩
    go_wp2_with fail
    refine (reverse_is v n w8 hv).mono ?_
    rintro e w9 ⟨rfl, rfl⟩
    go_wp2_with fail
    refine (refReverse_any v n w8 hv).mono ?_
    rintro e w9 ⟨rfl, hb9⟩
    have hb39 := (hb37.trans (hb8.mono hb37.size)).trans (hb9.mono (Nat.le_trans hb37.size hb8.size))
    go_wp2_with fail
    refine (count_len bs len0 a3 c3 w3.heap.size w9 HL0.out (hro3'.below hb39 (Nat.le_refl _)) (by omega)).mono ?_
    rintro e w10 ⟨rfl, rfl⟩
    go_wp2_with fail
    refine (refCount_is bs len0 a0 cap0 w.heap.size w9 HL0.out (hb3.below hb39 (by omega)) (by have := hb39.size; omega) (by omega)).mono ?_
    rintro e w10 ⟨rfl, hb10⟩
    go_wp2_with fail
    go_ret
    exact ⟨rfl, HF3.out.trans ((hb39.trans (hb10.mono hb39.size)).mono HF3.out.size)⟩

theorem bitsTells_row (w : World) {a0 : Option Addr} {len0 cap0 : Nat} {z0 z1 : List Int} {v : Int} (w0 : IsRow .u8 w a0 len0 cap0 z0) (hz1 : z1.length = 2) (w1 : ∀ n ∈ z1, (Lit.int .i64 n).wf = true) (w2 : (Lit.int .u64 v).wf = true) :
    Calls Try.prog 3 #[.slice a0 len0 cap0, .agg (z1.map (Value.int .i64)).toArray, .int .u64 v] w fun e w' => e = .returned (.bool true) ∧ Below w.heap.size w w' := by
  obtain ⟨bs, h0, hm0, _, hr0⟩ := w0.u8s
  obtain ⟨k, n, rfl⟩ : ∃ k n, z1 = [k, n] := by
    match z1, hz1 with
    | [k, n], _ => exact ⟨k, n, rfl⟩
  have hk := bounds_i64 (w1 k (by simp))
  have hn := bounds_i64 (w1 n (by simp))
  have hv := bounds_u64 w2
  obtain ⟨v, rfl⟩ := Int.eq_ofNat_of_zero_le hv.1
  exact bitsTells_walk a0 len0 cap0 k n v bs w h0 hr0 hk.1 hk.2 hn.1 hn.2 w0.len_le (by omega)
end Go.Proofs.Ytogkhhgcljeddaa
