/-
  The document's answers on windows by their contracts: Windows, Find; the statements' own helpers: same (two lists), alive (a live question). No condition but the ranges that each theorem names.
-/
import Derived.Test.YtlkojonchlcpdaaRefs
import Derived.Test.YtlkojonchlcpdaaFind
namespace Go.Proofs.Ytlkojonchlcpdaa
open Go.RowKit Go.Deep

theorem u32s_oneCell (l : List Nat) : ∀ v ∈ u32s l, v.oneCell' = true := by
  intro v hv
  simp only [u32s, List.mem_map] at hv
  obtain ⟨x, _, rfl⟩ := hv
  rfl
theorem u32s_getD (l : List Nat) (i : Nat) (h : i < l.length) : (u32s l).getD i undef = .int .u32 (l.getD i 0 : Nat) := by
  simp [u32s, List.getD, h]
theorem Ro.u32 {w : World} {B : Nat} {a : Option Addr} {l : List Nat} (h : Ro w B a (u32s l)) (hn : 0 < l.length) :
    ∃ b off, a = some ⟨b, off, none⟩ ∧ b < B ∧ ∀ i, i < l.length → w.cell? ⟨b, off + i, none⟩ = some (.int .u32 (l.getD i 0 : Nat)) := by
  obtain ⟨b, off, h1, h2, h3⟩ := h.at_ (by intro e; have e2 := congrArg List.length e; simp only [u32s_length, List.length_nil] at e2; omega)
  exact ⟨b, off, h1, h2, fun i hi => by rw [h3 i (by simpa using hi), u32s_getD l i hi]⟩

set_option maxHeartbeats 1000000 in
theorem refWindows_any (bs : List UInt8) (n : Int) (len : Nat) (A : Option Addr) (c : Nat) (w : World) (hlen : bs.length = len) (hcap : len ≤ c) (hmax : c ≤ 9223372036854775807) (hnil : A = none → c = 0) (hro : Ro w w.heap.size A (u8s bs)) (hl : len ≤ 1000000) :
    Calls Try.prog 22 #[.slice A len c, .int .i64 n] w fun e w' => ∃ v, e = .returned v ∧ Lst w' w.heap.size 23 v (u32s (winL bs n)) ∧ Below w.heap.size w w' := by
  have HL := Lib.hid hlen
  clear hlen
  by_cases h1 : n < 0
  · have e : winL bs n = [] := by unfold winL winN; rw [if_neg (by omega)]; rfl
    have HE := Lib.hid e
    clear e
    go_enter Try.func22, Try.ntmps22
    go_wp2_with fail
    go_ret
    exact ⟨_, rfl, by rw [HE.out]; exact Lst.nil _ _ _, Below.refl _ _⟩
  by_cases h2 : (len : Int) < n
  · have e : winL bs n = [] := by unfold winL winN; rw [if_neg (by have := HL.out; omega)]; rfl
    have HE := Lib.hid e
    clear e
    go_enter Try.func22, Try.ntmps22
    go_wp2_with fail
    go_ret
    exact ⟨_, rfl, by rw [HE.out]; exact Lst.nil _ _ _, Below.refl _ _⟩
  obtain ⟨n, rfl⟩ := Int.eq_ofNat_of_zero_le (show 0 ≤ n by omega)
  have hN : winN (n : Int) bs.length = len - n + 1 := by unfold winN; rw [if_pos (by have := HL.out; omega)]; have := HL.out; simp; omega
  have HN := Lib.hid hN
  clear hN h1
  have hdl : decide (len < n) = false := decide_eq_false (by omega)
  go_enter Try.func22, Try.ntmps22
  go_wp2_with fail
  go_loopw [5, 6] (fun v i wr => ∃ k : Nat, k + n ≤ len + 1 ∧ i = .int .i64 (k : Int) ∧ Lst wr w.heap.size 23 v (u32s ((List.range k).map (winS bs n))) ∧ Below w.heap.size w wr) (fun _ i _ => len + 1 - (intOf i).toNat)
  case atStart => exact ⟨0, by omega, by simp, Lst.nil _ _ _, Below.refl _ _⟩
  case round =>
    obtain ⟨k, hk, rfl, hown, hbel⟩ := hrel
    by_cases hlt : k + n ≤ len
    · have hlt' : (k : Int) + (n : Int) ≤ (len : Int) := by omega
      have hs : sumN ((bs.drop k).take n) = winS bs n k := rfl
      have hsum := fun (A2 : Option Addr) (c2 : Nat) (hr : Ro wr w.heap.size A2 (u8s ((bs.drop k).take n))) => refSum_any ((bs.drop k).take n) n A2 c2 w.heap.size wr (by rw [List.length_take, List.length_drop]; have := HL.out; omega) hr (by omega)
      rw [hs] at hsum
      have hror : Ro wr w.heap.size (if c = k then A else A.map fun x => x.add k) (u8s ((bs.drop k).take n)) := by
        have := ((hro.below hbel (Nat.le_refl _)).drop k c (by rw [u8s_length]; have := HL.out; omega)).take n
        rwa [show ((u8s bs).drop k).take n = u8s ((bs.drop k).take n) by simp [u8s, List.map_take, List.map_drop]] at this
      have hxe : winS bs n k = winS bs n k := rfl
      generalize hx : winS bs n k = x at hsum
      have HX := Lib.hid hx
      clear hx hs hxe
      have hlk : k ≤ 1000001 := by omega
      by_cases hck : c = k
      · rw [if_pos hck] at hror
        have HSUM := Lib.hid (hsum A 0 hror)
        clear hsum hror
        subst hck
        go_wp2_with fail
        refine HSUM.out.mono ?_
        rintro e w1 ⟨rfl, rfl⟩
        go_wp2_with (at_builtin; refine wpList_app1 rfl (.tmp 23) (.tmp 31) 31 rfl w.heap.size 23 (.int .u32 0) 4 Try.underlying31 Try.info_u32 rfl (.int .u32 (x : Int)) rfl _ (u32s ((List.range c).map (winS bs n))) rfl hown rfl ?c1 ?c2 w.heap.size w hbel (Nat.le_refl _) hbel.size ?_)
        case c1 => simp; omega
        case c2 => simp; omega
        intro v' w1 hown1 hbel1 _
        go_wp2_with fail
        go_roundw
        case rel => exact ⟨c + 1, by omega, by go_num, by rw [List.range_succ, List.map_append, u32s, List.map_append, List.map_singleton, HX.out]; exact hown1.out, hbel1⟩
        case measure => simp [intOf]; omega
      · rw [if_neg hck] at hror
        have HSUM := Lib.hid (hsum (A.map fun x => x.add k) (c - k) hror)
        clear hsum hror
        go_wp2_with fail
        refine HSUM.out.mono ?_
        rintro e w1 ⟨rfl, rfl⟩
        go_wp2_with (at_builtin; refine wpList_app1 rfl (.tmp 23) (.tmp 31) 31 rfl w.heap.size 23 (.int .u32 0) 4 Try.underlying31 Try.info_u32 rfl (.int .u32 (x : Int)) rfl _ (u32s ((List.range k).map (winS bs n))) rfl hown rfl ?c1 ?c2 w.heap.size w hbel (Nat.le_refl _) hbel.size ?_)
        case c1 => simp; omega
        case c2 => simp; omega
        intro v' w1 hown1 hbel1 _
        go_wp2_with fail
        go_roundw
        case rel => exact ⟨k + 1, by omega, by go_num, by rw [List.range_succ, List.map_append, u32s, List.map_append, List.map_singleton, HX.out]; exact hown1.out, hbel1⟩
        case measure => simp [intOf]; omega
    · have e : k = len - n + 1 := by omega
      have e2 : winL bs (n : Int) = (List.range k).map (winS bs n) := by unfold winL; rw [HN.out, e]; rfl
      have HE := Lib.hid e2
      have hlt' : ¬ (k : Int) + (n : Int) ≤ (len : Int) := by omega
      clear e e2
      go_wp2_with fail
      go_ret
      exact ⟨_, rfl, by rw [HE.out]; exact hown, hbel⟩

set_option maxHeartbeats 1000000 in
theorem refFind_any (bs : List UInt8) (s : Nat) (n : Int) (len : Nat) (A : Option Addr) (c i : Nat) (b : Bool) (w : World) (hlen : bs.length = len) (hcap : len ≤ c) (hmax : c ≤ 9223372036854775807) (hnil : A = none → c = 0) (hro : Ro w w.heap.size A (u8s bs)) (hl : len ≤ 1000000) (hs : s < 4294967296) (hfind : IsFind (winL bs n) s i b) :
    Calls Try.prog 20 #[.slice A len c, .int .u32 (s : Int), .int .i64 n] w fun e w' => e = .returned (.tuple #[.int .i64 (i : Int), .bool b]) ∧ Below w.heap.size w w' := by
  have HF := Lib.hid hfind
  clear hfind
  go_enter Try.func20, Try.ntmps20
  go_wp2_with fail
  refine (refWindows_any bs n len A c w hlen hcap hmax hnil hro hl).mono ?_
  rintro e w1 ⟨v, rfl, hl1, hb1⟩
  have hwl : (winL bs n).length ≤ 1000001 := by rw [winL_length]; have := winN_le n bs.length; omega
  obtain ⟨a3, c3, hv, hr3, _, _⟩ := hl1.form
  subst hv
  rw [u32s_length]
  clear hl1
  generalize hL : winL bs n = L at *
  obtain ⟨m, hm⟩ : ∃ m, L.length = m := ⟨_, rfl⟩
  rw [hm] at hwl ⊢
  have HM := Lib.hid hm
  clear hm hL
  go_wp2_with fail
  go_loop [9] (fun x => ∃ k : Nat, k ≤ m ∧ x = .int .i64 (k : Int) ∧ ∀ j, j < k → L.getD j 0 ≠ s) (fun x => m - (intOf x).toNat)
  case atStart => exact ⟨0, by omega, by simp, by omega⟩
  case round =>
    obtain ⟨k, hk, rfl, hall⟩ := hrel
    have HA := Lib.hid hall
    clear hall
    by_cases hlt : k < m
    · obtain ⟨b0, off, rfl, hb0, hc⟩ := hr3.u32 (by have := HM.out; omega)
      have hcell := hc k (by have := HM.out; omega)
      clear hc
      generalize hz : L.getD k 0 = z at hcell
      by_cases hzs : z = s
      · have hu := HF.out.unique (j := k) (c := true) (.inl ⟨rfl, by have := HM.out; omega, by rw [hz, hzs], HA.out⟩)
        have HU := Lib.hid hu
        clear hu hz
        subst hzs
        go_wp2_with fail
        go_ret2
        rw [HU.out.1, HU.out.2]
        exact ⟨rfl, hb1⟩
      · have HZ := Lib.hid hz
        have hne : ((z : Int) == (s : Int)) = false := by rw [beq_eq_false_iff_ne]; omega
        clear hz
        go_wp2_with fail
        all_goals
          go_round
          case rel =>
            refine ⟨k + 1, by omega, by go_num, fun j hj => ?_⟩
            by_cases e : j = k
            · subst e; rw [HZ.out]; exact hzs
            · exact HA.out j (by omega)
          case measure => simp [intOf]; omega
    · obtain rfl : k = m := by omega
      have hu := HF.out.unique (j := 0) (c := false) (.inr ⟨rfl, rfl, fun j hj => HA.out j (by have := HM.out; omega)⟩)
      have HU := Lib.hid hu
      clear hu
      go_wp2_with fail
      go_ret2
      rw [HU.out.1, HU.out.2]
      exact ⟨rfl, hb1⟩
end Go.Proofs.Ytlkojonchlcpdaa
