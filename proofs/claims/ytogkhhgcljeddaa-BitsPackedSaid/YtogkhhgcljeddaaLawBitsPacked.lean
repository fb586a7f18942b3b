/-
  The statement BitsPacked: the walk of its Go text, by the contracts of what it calls.
-/
import Derived.Test.YtogkhhgcljeddaaLawBitsPacks
namespace Go.Proofs.Ytogkhhgcljeddaa
open Go.RowKit Go.Deep

set_option maxRecDepth 100000 in
set_option maxHeartbeats 4000000 in
theorem bitsPacked_walk (a0 a1 : Option Addr) (len0 len1 c0 c1 : Nat) (l : List Int) (vs : List Nat) (w : World) (hl0 : l.length = len0) (hl1 : vs.length = len1)
    (h0 : Ro w w.heap.size a0 (i64s l)) (h1 : Ro w w.heap.size a1 (u64s vs)) (m0 : len0 ≤ 9223372036854775807) (m1 : len1 ≤ 9223372036854775807) :
    Calls Try.prog 6 #[.slice a0 len0 c0, .slice a1 len1 c1] w fun e w' => e = .returned (.bool true) ∧ Below w.heap.size w w' := by
  by_cases g0 : (60 : Int) < (len0 : Int)
  · go_enter Try.func6, Try.ntmps6
    go_wp2_with fail
    refine (alive_any _).mono ?_
    rintro e w' ⟨rfl, hb⟩
    go_wp2_with fail
    go_ret
    exact ⟨rfl, hb⟩
  by_cases g1 : (60 : Int) < (len1 : Int)
  · go_enter Try.func6, Try.ntmps6
    go_wp2_with fail
    refine (alive_any _).mono ?_
    rintro e w' ⟨rfl, hb⟩
    go_wp2_with fail
    go_ret
    exact ⟨rfl, hb⟩
  have g0' : len0 ≤ 60 := by omega
  have g1' : len1 ≤ 60 := by omega
  have d0 : decide ((60 : Int) < (len0 : Int)) = false := decide_eq_false g0
  have d1 : decide ((60 : Int) < (len1 : Int)) = false := decide_eq_false g1
  clear g0 g1
  have HL0 := Lib.hid hl0
  have HL1 := Lib.hid hl1
  have hpack := pack_res l vs len0 len1 a0 a1 c0 c1 w.heap.size w hl0 hl1 h0 h1 (Nat.le_refl _) g0'
  by_cases hok : PackOk l vs
  · have hlen : len0 = len1 := by rw [← hl0, ← hl1]; exact hok.2.1
    obtain ⟨t, ht⟩ := Option.isSome_iff_exists.1 hok.1
    have hw := (spanOf_some ht).1
    have hsum := nat_sum_le l hw
    rw [hl0] at hsum
    clear ht hl0 hl1
    subst hlen
    have HP := Lib.hid hpack
    clear hpack
    go_enter Try.func6, Try.ntmps6
    go_wp2_with fail
    refine HP.out.mono ?_
    rintro e w1 ⟨ax, cx, p, cs, lx, rfl, hlx, hres, hrox, hb1⟩
    rcases hres with ⟨rfl, _, hpk⟩ | ⟨_, hx, _⟩
    rotate_left
    · exact absurd hok hx
    have huo := unpOk_of hok.1 hok.2.1 hpk
    have hus := isUnp_of_pack hok hpk
    have hlxs : lx = ((nat l).sum + 7) / 8 := by rw [← hlx]; exact hpk.1
    have hunp := unpack_res l cs len0 lx a0 ax c0 cx w1.heap.size w1 HL0.out hlx ((h0.below hb1 (Nat.le_refl _)).mono hb1.size) hrox (Nat.le_refl _) g0' (by omega)
    have HU := Lib.hid hunp
    have HLX := Lib.hid hlx
    have HLXS := Lib.hid hlxs
    clear hunp hlx hlxs
    go_wp2_with fail
    refine HU.out.mono ?_
    rintro e w2 ⟨az, cz, r, us, lz, rfl, hlz, hrez, hroz, hb2⟩
    have hru := hrez.unique (.inl ⟨rfl, huo, hus⟩)
    obtain ⟨rfl, rfl⟩ := hru
    obtain rfl : lz = len0 := by rw [← hlz]; exact HL1.out
    have hb02 := hb1.trans (hb2.mono hb1.size)
    have hro1 := h1.below hb02 (Nat.le_refl _)
    have hrox2 := hrox.below hb2 (Nat.le_refl _)
    clear hlz hrez hrox
    have hsame := same_yes us lz HL1.out az a1 cz c1 w2.heap.size w2 hroz (hro1.mono hb02.size) (by omega)
    have HS := Lib.hid hsame
    clear hsame
    go_wp2_with fail
    refine HS.out.mono ?_
    rintro e w3 ⟨rfl, hq⟩
    have hb03 := hq.below hb02
    have hrox3 := hrox2.qt hq
    have hs3 : w1.heap.size ≤ w3.heap.size := by rw [hq.size]; exact hb2.size
    clear hroz hrox2 hro1
    go_wp2_with fail
    go_loopw [10, 11] (fun x i wr => ∃ k : Nat, k ≤ lz ∧ i = .int .i64 (k : Int) ∧ x = .int .i64 (((nat l).take k).sum : Nat) ∧ Below w3.heap.size w3 wr) (fun _ i _ => lz - (intOf i).toNat)
    case atStart => exact ⟨0, by omega, by simp, by simp, Below.refl _ _⟩
    case round =>
      obtain ⟨k, hk, rfl, rfl, hbr⟩ := hrel
      have hroxr := hrox3.below hbr hs3
      by_cases hlt : k < lz
      · obtain ⟨b, off, rfl, hb, hc⟩ := h0.i64 (by have := HL0.out; omega)
        obtain ⟨b2, off2, rfl, hb2', hc2⟩ := h1.u64 (by have := HL1.out; omega)
        have hb0r : Below w.heap.size w wr := hb03.trans (hbr.mono hb03.size)
        have hw1 := hc k (by have := HL0.out; omega)
        have hw2 := hc2 k (by have := HL1.out; omega)
        have hcell := cell_keep hb0r hw1 hb
        have hn := hw k (by have := HL0.out; omega)
        have hst := sum_take_nat (nat l) k (by have := HL0.out; simp; omega)
        have hle := sum_take_le (nat l) (k + 1)
        have hval := hus.2 k (by have := HL0.out; omega)
        rw [nat_getD] at hst
        have hw' := Lib.hid hw
        clear hc hc2 hw
        generalize l.getD k 0 = n at *
        generalize us.getD k 0 = v at *
        obtain ⟨hn0, hn1⟩ := hn
        obtain ⟨m, rfl⟩ := Int.eq_ofNat_of_zero_le hn0
        rw [Int.toNat_natCast] at hst hval
        generalize ((nat l).take k).sum = s at *
        have hget := get_yes_len cs lx ax cx w1.heap.size (s : Nat) (m : Nat) wr HLX.out hroxr (by have := hbr.size; omega) (by have := HLXS.out; omega) (by omega) (by omega) (by omega) (by have := HLXS.out; omega)
        rw [Int.toNat_natCast, Int.toNat_natCast, ← hval] at hget
        have HG := Lib.hid hget
        have HST := Lib.hid hst
        have HW1 := Lib.hid hw1
        have HW2 := Lib.hid hw2
        have hs64 : s + m ≤ 4000 := by omega
        clear hget hst hval hw1 hw2 hle
        go_wp2_with fail
        refine HG.out.mono ?_
        rintro e w4 ⟨rfl, hb4⟩
        have hb04 := hb0r.trans (hb4.mono hb0r.size)
        have hcell4 := cell_keep hb04 HW1.out hb
        have hcell5 := cell_keep hb04 HW2.out hb2'
        clear hcell
        go_wp2_with fail
        go_roundw
        case rel => exact ⟨k + 1, by omega, by go_num, by rw [HST.out]; go_num, hbr.trans (hb4.mono hbr.size)⟩
        case measure => simp [intOf]; omega
      · obtain rfl : k = lz := by omega
        have e1 : (nat l).take k = nat l := List.take_of_length_le (by have := HL0.out; simp; omega)
        rw [e1]
        have hb0r : Below w.heap.size w wr := hb03.trans (hbr.mono hb03.size)
        have hlit := Lst.lit wr wr.heap.size 5 #[] (Nat.le_refl _) (by simp)
        have hro0 := h0.below hb0r (Nat.le_refl _)
        have hlx9 : lx ≤ 1000 := by have := HLXS.out; omega
        have hat1 : (nat l).sum ≤ 8 * lx := by have := HLXS.out; omega
        have hat2 : 8 * lx < (nat l).sum + 8 := by have := HLXS.out; omega
        generalize hS : (nat l).sum = S at *
        clear hS e1
        go_wp2_with (at_builtin; refine wpList_appB rfl (.tmp 88) (.tmp 89) 22 rfl wr.heap.size 5 (.int .u8 0) 1 Try.underlying22 Try.info_u8 rfl _ [] rfl hlit ax w1.heap.size lx cx (u8s cs) rfl (by simpa using HLX.out) (hroxr.keep fun p hp => World.cell?_alloc_lt _ _ p (by have := hbr.size; omega)) (u8s_oneCell _) (by simp; omega) (by simp; omega) wr.heap.size wr ((Below.refl _ _).alloc (Nat.le_refl _) _) (Nat.le_refl _) (by simp) ?_)
        intro v5 w5 hown5 hbel5 hsz5
        clear hlit
        go_wp2_with (at_builtin; refine wpList_app1 rfl (.tmp 90) (.tmp 91) 22 rfl wr.heap.size 5 (.int .u8 0) 1 Try.underlying22 Try.info_u8 rfl (.int .u8 0) rfl v5 (u8s cs) rfl hown5.out rfl (by have := HLX.out; simp; omega) (by have := HLX.out; simp; omega) wr.heap.size wr hbel5 (Nat.le_refl _) hbel5.size ?_)
        intro v6 w6 hown6 hbel6 hsz6
        obtain ⟨a6, c6, hve, hro6, _, _⟩ := hown6.out.form
        rw [show (u8s cs ++ [Value.int .u8 0]).length = lx + 1 by rw [List.length_append, u8s_length, HLX.out]; rfl] at hve
        subst hve
        have e7 : u8s cs ++ [Value.int .u8 0] = u8s (cs ++ [0]) := by simp [u8s]
        rw [e7] at hro6
        have hunp := unpack_res l (cs ++ [0]) k (lx + 1) a0 a6 c0 c6 w6.heap.size w6 HL0.out (by rw [List.length_append, HLX.out]; rfl) ((hro0.below hbel6 (by have := hb0r.size; omega)).mono (by have := hb0r.size; have := hbel6.size; omega)) hro6 (Nat.le_refl _) (by omega) (by omega)
        have HU6 := Lib.hid hunp
        clear hunp hown5 hown6 e7
        go_wp2_with fail
        refine HU6.out.mono ?_
        rintro e w7 ⟨a8, c8, r8, us8, l8, rfl, _, hre8, _, hb7⟩
        rcases hre8 with ⟨_, hx, _⟩ | ⟨rfl, _, _⟩
        · exact absurd hx (not_unpOk_more hpk)
        go_wp2_with fail
        refine (alive_any _).mono ?_
        rintro e w8 ⟨rfl, hb8⟩
        have hfin : Below w.heap.size w w8 := ((hb0r.trans (hbel6.mono hb0r.size)).trans (hb7.mono (by have := hb0r.size; have := hbel6.size; omega))).trans (hb8.mono (by have := hb0r.size; have := hbel6.size; have := hb7.size; omega))
        go_wp2_with fail
        go_ret
        exact ⟨ret_bool (decide_eq_true (by omega)), hfin⟩
  · have HP := Lib.hid hpack
    clear hpack hl0 hl1
    go_enter Try.func6, Try.ntmps6
    go_wp2_with fail
    refine HP.out.mono ?_
    rintro e w1 ⟨ax, cx, p, cs, lx, rfl, hlx, hres, hrox, hb1⟩
    rcases hres with ⟨_, hx, _⟩ | ⟨rfl, _, rfl⟩
    · exact absurd hx hok
    obtain rfl : lx = 0 := hlx.symm
    go_wp2_with fail
    refine (alive_any _).mono ?_
    rintro e w' ⟨rfl, hb⟩
    go_wp2_with fail
    go_ret
    exact ⟨rfl, hb1.trans (hb.mono hb1.size)⟩

theorem bitsPacked_row (w : World) {a0 a1 : Option Addr} {len0 cap0 len1 cap1 : Nat} {z0 z1 : List Int} (w0 : IsRow .i64 w a0 len0 cap0 z0) (w1 : IsRow .u64 w a1 len1 cap1 z1) :
    Calls Try.prog 6 #[.slice a0 len0 cap0, .slice a1 len1 cap1] w fun e w' => e = .returned (.bool true) ∧ Below w.heap.size w w' := by
  obtain ⟨l, h0, _, _, hr0, _⟩ := w0.i64s
  obtain ⟨vs, h1, _, _, hr1, h64⟩ := w1.u64s
  exact bitsPacked_walk a0 a1 len0 len1 cap0 cap1 l vs w h0 h1 hr0 hr1 w0.len_le w1.len_le
end Go.Proofs.Ytogkhhgcljeddaa
