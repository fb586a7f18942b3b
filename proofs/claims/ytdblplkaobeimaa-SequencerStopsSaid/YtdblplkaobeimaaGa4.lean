/-
  Plain lists: what Unpack gives is what Pack takes. Lemmas only, no claim of their own.
-/
import Derived.Test.YtdblplkaobeimaaGa3
import Derived.Test.YtdblplkaobeimaaGa1
import Derived.Deep.RegionHeld3
import Derived.Shelf.Lay
namespace Go.Proofs.Ytdblplkaobeimaa
set_option linter.unusedVariables false
set_option linter.unusedSimpArgs false

/-- what Unpack takes -/
def UnpOk (l : List Int) (bs : List UInt8) : Prop := (spanOf l).isSome ∧ bs.length = ((nat l).sum + 7) / 8 ∧ num bs (nat l).sum (8 * bs.length - (nat l).sum) = 0
/-- what it gives, the first i of them -/
def IsUnpTo (l : List Int) (bs : List UInt8) (vs : List Nat) (i : Nat) : Prop := vs.length = l.length ∧ ∀ j, j < i → vs.getD j 0 = num bs ((nat l).take j).sum (l.getD j 0).toNat
def IsUnp (l : List Int) (bs : List UInt8) (vs : List Nat) : Prop := IsUnpTo l bs vs l.length
theorem setN_getD (vs : List Nat) (i j x : Nat) (hi : i < vs.length) : (vs.set i x).getD j 0 = if i = j then x else vs.getD j 0 := by
  simp only [List.getD, List.getElem?_set]
  by_cases h : i = j
  · subst h; simp [hi]
  · simp [h]
theorem IsUnpTo.step {l : List Int} {bs : List UInt8} {vs : List Nat} {i : Nat} (h : IsUnpTo l bs vs i) (hi : i < l.length) : IsUnpTo l bs (vs.set i (num bs ((nat l).take i).sum (l.getD i 0).toNat)) (i + 1) := by
  refine ⟨by simpa using h.1, fun j hj => ?_⟩
  rw [setN_getD _ _ _ _ (by rw [h.1]; exact hi)]
  by_cases e : i = j
  · rw [if_pos e, e]
  · rw [if_neg e]; exact h.2 j (by omega)
theorem IsUnp.unique {l : List Int} {bs : List UInt8} {a b : List Nat} (ha : IsUnp l bs a) (hb : IsUnp l bs b) : a = b := by
  apply List.ext_getElem (ha.1.trans hb.1.symm)
  intro i h1 h2
  have e1 := ha.2 i (by rw [← ha.1]; exact h1)
  have e2 := hb.2 i (by rw [← ha.1]; exact h1)
  rw [← e2] at e1
  simpa [List.getD, h1, h2] using e1

/-- the first i of them, as a list of its own -/
def unpL (l : List Int) (bs : List UInt8) (i : Nat) : List Nat := (List.range i).map fun j => num bs ((nat l).take j).sum (l.getD j 0).toNat
@[simp] theorem unpL_length (l : List Int) (bs : List UInt8) (i : Nat) : (unpL l bs i).length = i := by simp [unpL]
theorem unpL_succ (l : List Int) (bs : List UInt8) (i : Nat) : unpL l bs (i + 1) = unpL l bs i ++ [num bs ((nat l).take i).sum (l.getD i 0).toNat] := by simp [unpL, List.range_succ]
theorem unpL_is (l : List Int) (bs : List UInt8) : IsUnp l bs (unpL l bs l.length) := by
  refine ⟨by simp, fun j hj => ?_⟩
  simp [unpL, List.getD, hj]
theorem unpL_lt (l : List Int) (bs : List UInt8) (n i : Nat) (h : ∀ i, i < n → 0 ≤ l.getD i 0 ∧ l.getD i 0 ≤ 64) : (unpL l bs n).getD i 0 < 18446744073709551616 := by
  by_cases hi : i < n
  · have e : (unpL l bs n).getD i 0 = num bs ((nat l).take i).sum (l.getD i 0).toNat := by simp [unpL, List.getD, hi]
    rw [e]
    have h1 := num_lt bs ((nat l).take i).sum (l.getD i 0).toNat
    have h2 := pow_le_64 (n := (l.getD i 0).toNat) (by have := h i hi; omega)
    omega
  · have e : (unpL l bs n).getD i 0 = 0 := by simp [List.getD]; rw [List.getElem?_eq_none (by simp; omega)]; rfl
    rw [e]; omega
theorem dig_nm (f : Nat → Bool) (n : Nat) : dig (nm f n) n = (List.range n).map f := by
  unfold dig
  apply List.map_congr_left
  intro i hi
  rw [List.mem_range] at hi
  rw [nm_bit, decide_eq_true (by omega), Bool.true_and]
  congr 1
  omega
theorem rowB_take_add (bs : List UInt8) (s n : Nat) (h : s + n ≤ 8 * bs.length) : (rowB bs).take (s + n) = (rowB bs).take s ++ (List.range n).map fun j => bitB bs (s + j) := by
  apply List.ext_getElem
  · simp; omega
  · intro i h1 h2
    rw [List.length_take, rowB_length] at h1
    by_cases c : i < s
    · rw [List.getElem_append_left (by rw [List.length_take, rowB_length]; omega)]
      simp
    · rw [List.getElem_append_right (by rw [List.length_take, rowB_length]; omega)]
      simp only [List.length_take, rowB_length, List.getElem_take, List.getElem_map, List.getElem_range]
      unfold rowB
      simp only [List.getElem_map, List.getElem_range]
      congr 1
      omega
theorem unp_row {l : List Int} {bs : List UInt8} {vs : List Nat} (h : IsUnp l bs vs) (hs : (nat l).sum ≤ 8 * bs.length) : ∀ i, i ≤ l.length → packB ((nat l).take i) (vs.take i) = (rowB bs).take ((nat l).take i).sum := by
  intro i
  induction i with
  | zero => intro _; simp [packB]
  | succ i ih =>
    intro hi
    have h1 := h.1
    have hst := sum_take_nat (nat l) i (by simp; omega)
    have hle := sum_take_le (nat l) (i + 1)
    rw [packB_take _ _ _ (by simp; omega) (by omega), ih (by omega), hst, nat_getD] at *
    rw [rowB_take_add _ _ _ (by omega), h.2 i (by omega), num_nm, dig_nm]
theorem num_zero (bs : List UInt8) (k n : Nat) : num bs k n = 0 ↔ ∀ j, j < n → bitB bs (k + j) = false := by
  rw [num_nm]
  constructor
  · intro h j hj
    have := nm_bit (fun j => bitB bs (k + j)) n (n - 1 - j)
    rw [h, decide_eq_true (by omega), show n - 1 - (n - 1 - j) = j from by omega] at this
    simpa using this.symm
  · intro h
    apply Nat.eq_of_testBit_eq
    intro i
    rw [nm_bit]
    by_cases hi : i < n
    · rw [h _ (by omega)]; simp
    · rw [decide_eq_false hi]; simp
theorem isPack_self {l : List Int} {bs : List UInt8} {vs : List Nat} (hok : UnpOk l bs) (h : IsUnp l bs vs) : IsPack l vs bs := by
  obtain ⟨_, hlen, hz⟩ := hok
  have hs : (nat l).sum ≤ 8 * bs.length := by omega
  refine ⟨hlen, fun m hm => ?_⟩
  have hr := unp_row h hs l.length (Nat.le_refl _)
  have h1 := h.1
  rw [List.take_of_length_le (by simp), List.take_of_length_le (by omega)] at hr
  rw [hr]
  by_cases c : m < (nat l).sum
  · have : ((rowB bs).take (nat l).sum).getD m false = (rowB bs).getD m false := by simp [List.getD, List.getElem?_take, c]
    rw [this, rowB_getD, if_pos hm]
  · have e : ((rowB bs).take (nat l).sum).getD m false = false := by simp only [List.getD]; rw [List.getElem?_eq_none (by rw [List.length_take, rowB_length]; omega)]; rfl
    rw [e]
    have := (num_zero _ _ _).1 hz (m - (nat l).sum) (by omega)
    rwa [show (nat l).sum + (m - (nat l).sum) = m from by omega] at this
theorem packOk_unp {l : List Int} {bs : List UInt8} {vs : List Nat} (hs : (spanOf l).isSome) (h : IsUnp l bs vs) : PackOk l vs :=
  ⟨hs, h.1.symm, fun i hi => by rw [h.2 i hi]; exact num_lt _ _ _⟩
theorem unpOk_of {l : List Int} {bs : List UInt8} {vs : List Nat} (hs : (spanOf l).isSome) (hlv : l.length = vs.length) (h : IsPack l vs bs) : UnpOk l bs := by
  refine ⟨hs, h.1, (num_zero _ _ _).2 fun j hj => ?_⟩
  have hpl := packB_length (nat l) vs (by simpa using hlv)
  have := h.2 ((nat l).sum + j) (by omega)
  rw [this]
  simp only [List.getD]
  rw [List.getElem?_eq_none (by omega)]
  rfl
theorem packB_split (ns vs : List Nat) (i : Nat) (h : ns.length = vs.length) : packB ns vs = packB (ns.take i) (vs.take i) ++ packB (ns.drop i) (vs.drop i) := by
  induction ns generalizing vs i with
  | nil => simp [packB]
  | cons n ns ih =>
    cases vs with
    | nil => simp at h
    | cons v vs =>
      cases i with
      | zero => simp [packB]
      | succ i =>
        simp only [List.take_succ_cons, List.drop_succ_cons, packB, List.append_assoc]
        rw [← ih vs i (by simpa using h)]
theorem packB_at (ns vs : List Nat) (i j : Nat) (h : ns.length = vs.length) (hi : i < ns.length) (hj : j < ns.getD i 0) : (packB ns vs).getD ((ns.take i).sum + j) false = (dig (vs.getD i 0) (ns.getD i 0)).getD j false := by
  rw [packB_split ns vs (i + 1) h, packB_take ns vs i hi (by omega)]
  have hl := packB_length (ns.take i) (vs.take i) (by simp; omega)
  rw [List.append_assoc, getD_right _ _ _ _ (by omega), hl, getD_left _ _ _ _ (by rw [dig_length]; omega)]
  congr 1
  omega
theorem isUnp_of_pack {l : List Int} {vs : List Nat} {cs : List UInt8} (hok : PackOk l vs) (h : IsPack l vs cs) : IsUnp l cs vs := by
  obtain ⟨hs, hlen, hfit⟩ := hok
  refine ⟨hlen.symm, fun i hi => ?_⟩
  have hsl := sum_take_nat (nat l) i (by simpa using hi)
  have hle := sum_take_le (nat l) (i + 1)
  rw [nat_getD] at hsl
  have e := nm_congr (fun j => bitB cs (((nat l).take i).sum + j)) (fun j => (dig (vs.getD i 0) (l.getD i 0).toNat).getD j false) (l.getD i 0).toNat (fun j hj => by
    have := packB_at (nat l) vs i j (by simpa using hlen) (by simpa using hi) (by rw [nat_getD]; exact hj)
    rw [nat_getD] at this
    have h2 := h.2 (((nat l).take i).sum + j) (by have := h.1; omega)
    exact h2.trans this)
  rw [num_nm, e, nm_dig, Nat.mod_eq_of_lt (hfit i hi)]
theorem not_unpOk_more {l : List Int} {vs : List Nat} {cs : List UInt8} (h : IsPack l vs cs) : ¬ UnpOk l (cs ++ [0]) := by
  intro hu
  have h1 := hu.2.1
  have h2 := h.1
  rw [List.length_append] at h1
  simp only [List.length_cons, List.length_nil] at h1
  omega
end Go.Proofs.Ytdblplkaobeimaa
namespace Go.Proofs.Ytdblplkaobeimaa
set_option linter.unusedVariables false
set_option linter.unusedSimpArgs false
open Go.RowKit Go.Deep

theorem Try.info_u64 : (Try.prog.info? 26).map (fun i => (i.zero, i.size, i.bytes)) = some (some (.int .u64 0), 1, 8) := by kernel_rfl
theorem made_u64s (n : Nat) : madeCells #[.int .u64 0] n = (u64s (List.replicate n 0)).toArray := by
  apply Array.ext
  · simp [size_madeCells, u64s]
  · intro i h1 h2
    simp [madeCells, u64s, Nat.mod_one]
theorem own_made64 (w : World) (n : Nat) : Own (w.alloc (.cells (madeCells #[.int .u64 0] n) 26)) w.heap.size 26 (u64s (List.replicate n 0)) := by
  rw [made_u64s]
  exact Own.new w 26 _

end Go.Proofs.Ytdblplkaobeimaa
namespace Go.Proofs.Ytdblplkaobeimaa
set_option linter.unusedVariables false
set_option linter.unusedSimpArgs false
open Go.RowKit Go.Deep

end Go.Proofs.Ytdblplkaobeimaa
namespace Go.Proofs.Ytdblplkaobeimaa
open Go.RowKit Go.Deep
set_option linter.unusedVariables false
set_option linter.unusedSimpArgs false

theorem join_int (h l n : Nat) (hn : n ≤ 64) (hh : h * 2 ^ n < 18446744073709551616) (hl : l < 2 ^ n) :
    bits BinOp.or IntKind.u64 (IntKind.u64.wrap ((h : Int) * 2 ^ n)) (l : Int) = ((h * 2 ^ n + l : Nat) : Int) := by
  have e : ((h : Int) * 2 ^ n) = ((h * 2 ^ n : Nat) : Int) := by simp
  have h3 := pow_le_64 hn
  rw [e, wrap_u64_nat _ hh, u64_or_nat _ _ hh (by omega), nat_join n _ _ (Nat.mul_mod_left _ _) hl]

set_option maxHeartbeats 400000 in
theorem noLast_any (w : World) :
    Calls Try.prog 49 #[] w fun e w' => e = .returned (.agg #[.int .u64 18446744073709551615, .int .u64 18446744073709551615]) ∧ Below w.heap.size w w' := by
  go_enter Try.func49, Try.ntmps49
  go_wp2
  refine wp_loop_rounds 3 ?_
  rw [rounds_succ]; go_wp2
  rw [rounds_succ]; go_wp2
  rw [rounds_succ]; go_wp2
  exact bodyPost_ret (v := .agg #[.int .u64 18446744073709551615, .int .u64 18446744073709551615]) (by simp [results, Try.results49, go_sem]) rfl ⟨rfl, ((Below.refl _ _).alloc (Nat.le_refl _) _).alloc (by simp) _⟩

/-- what the encoding of data says ahead of the Backs, as one number -/
def headN (nb nd : Nat) : Nat := (1 * 2 ^ 3 + nb) * 2 ^ 7 + nd
/-- a Back as one number -/
def fieldN (b : Bk) : Nat := (b.1.toNat * 2 ^ 21 + min b.2.1 1048576) * 2 ^ 21 + min b.2.2 1048576
/-- an address out of its bits -/
def lst (a : Nat) : Nat := if a = 1048576 then 18446744073709551615 else a
/-- a Back out of its number -/
def backN (f : Nat) : Bk := (((f / 2 ^ 21 / 2 ^ 21 : Nat) : Int), lst (f / 2 ^ 21 % 2 ^ 21), lst (f % 2 ^ 21))

theorem ix0 (x y : Value) (W : World) : Sem.run Try.prog (Instr.index 50 (.agg #[x, y]) (.int .i64 0)) W = .ok x W := by
  simp [Instr.index, go_sem]
theorem ix1 (x y : Value) (W : World) : Sem.run Try.prog (Instr.index 50 (.agg #[x, y]) (.int .i64 1)) W = .ok y W := by
  simp [Instr.index, go_sem]
end Go.Proofs.Ytdblplkaobeimaa
namespace Go.Proofs.Ytdblplkaobeimaa
open Go.RowKit Go.Deep
set_option linter.unusedVariables false
set_option linter.unusedSimpArgs false

set_option maxHeartbeats 1000000 in
theorem index_back (S : Nat → World → Prop) (p : Nat → Bool) (g : Nat) (lb : Array Value) (eg : ∀ args w, (callFunc g args).run Try.prog w = .ok (.enter g args) w)
    (L : List Bk) (a : Option Addr) (c B : Nat) (w : World) (hl : L.length ≤ 1000000)
    (hro : ∀ k W, S k W → Ro W B a (bcs L)) (h0 : S 0 w)
    (hf : ∀ k W, k < L.length → S k W → Calls Try.prog g (#[bkv (bk L k)] ++ lb) W fun e w' => e = .returned (.bool (p k)) ∧ S (k + 1) w') :
    Calls Try.prog 47 #[.slice a L.length c, .func (.func g) #[] lb] w fun e w' => e = .returned (.int .i64 (fx p L.length)) ∧ ∃ k, S k w' := by
  obtain ⟨n, HN⟩ : ∃ n, Hid (L.length = n) := ⟨_, Lib.hid rfl⟩
  have HR := Lib.hid hro
  have HF := Lib.hid hf
  have H0 := Lib.hid h0
  clear hro hf h0
  rw [HN.out] at hl ⊢
  go_enter Try.func47, Try.ntmps47
  go_wp2_with fail
  go_loopw [8] (fun i wr => ∃ k : Nat, k ≤ n ∧ i = .int .i64 (k : Int) ∧ Hid (S k wr) ∧ Hid (∀ j, j < k → p j = false)) (fun i _ => n - (intOf i).toNat)
  case atStart => exact ⟨0, Nat.zero_le _, rfl, H0, Lib.hid (by omega)⟩
  case round =>
    obtain ⟨k, hk, rfl, HS, HP⟩ := hrel
    by_cases hlt : k < n
    · have hkL : k < L.length := by rw [HN.out]; exact hlt
      obtain ⟨b, off, rfl, hb, hc⟩ := (HR.out k wr HS.out).bk (by omega)
      obtain ⟨c1, c2, c3⟩ := hc k hkL
      have HC := Lib.hid (HF.out k wr hkL HS.out)
      clear hc
      have hk0 : (0 : Int) ≤ (k : Int) := by omega
      have hk1 : (k : Int) < (n : Int) := by omega
      generalize bk L k = x at *
      cases hq : p k with
      | true =>
        have HQ := Lib.hid hq
        clear hq
        go_wp2_with fail
        refine HC.out.mono ?_
        rintro e w' ⟨rfl, hs⟩
        rw [HQ.out]
        have HS2 := Lib.hid hs
        clear hs
        go_wp2_with fail
        go_ret
        exact ⟨ret_int (fx_hit p n k hlt HQ.out HP.out).symm, _, HS2.out⟩
      | false =>
        have HQ := Lib.hid hq
        clear hq
        go_wp2_with fail
        refine HC.out.mono ?_
        rintro e w' ⟨rfl, hs⟩
        rw [HQ.out]
        have HS2 := Lib.hid hs
        clear hs
        go_wp2_with fail
        go_roundw
        case rel =>
          refine ⟨k + 1, by omega, by go_num, HS2, Lib.hid fun j hj => ?_⟩
          by_cases e : j = k
          · subst e; exact HQ.out
          · exact HP.out j (by omega)
        case measure => simp [intOf]; omega
    · obtain rfl : k = n := by omega
      go_wp2_with fail
      go_ret
      exact ⟨ret_int (fx_miss p k HP.out).symm, _, HS.out⟩

set_option maxHeartbeats 1000000 in
theorem contains_back (S : Nat → World → Prop) (p : Nat → Bool) (g : Nat) (lb : Array Value) (eg : ∀ args w, (callFunc g args).run Try.prog w = .ok (.enter g args) w)
    (L : List Bk) (a : Option Addr) (c B : Nat) (w : World) (hl : L.length ≤ 1000000)
    (hro : ∀ k W, S k W → Ro W B a (bcs L)) (h0 : S 0 w)
    (hf : ∀ k W, k < L.length → S k W → Calls Try.prog g (#[bkv (bk L k)] ++ lb) W fun e w' => e = .returned (.bool (p k)) ∧ S (k + 1) w') :
    Calls Try.prog 34 #[.slice a L.length c, .func (.func g) #[] lb] w fun e w' => e = .returned (.bool (anyN p L.length)) ∧ ∃ k, S k w' := by
  have HC := Lib.hid (index_back S p g lb eg L a c B w hl hro h0 hf)
  clear hro h0 hf
  obtain ⟨z, hz⟩ : ∃ z, z = fx p L.length := ⟨_, rfl⟩
  unfold anyN
  rw [← hz] at HC ⊢
  clear hz
  go_enter Try.func34, Try.ntmps34
  go_wp2_with fail
  refine HC.out.mono ?_
  rintro e w' ⟨rfl, hs⟩
  have HS := Lib.hid hs
  clear hs
  go_wp2_with fail
  go_ret
  exact ⟨rfl, HS.out⟩

set_option maxHeartbeats 1000000 in
theorem index_num (S : Nat → World → Prop) (p : Nat → Bool) (g : Nat) (lb : Array Value) (eg : ∀ args w, (callFunc g args).run Try.prog w = .ok (.enter g args) w)
    (L : List Nat) (a : Option Addr) (c B : Nat) (w : World) (hl : L.length ≤ 1000000)
    (hro : ∀ k W, S k W → Ro W B a (u64s L)) (h0 : S 0 w)
    (hf : ∀ k W, k < L.length → S k W → Calls Try.prog g (#[.int .u64 (L.getD k 0 : Nat)] ++ lb) W fun e w' => e = .returned (.bool (p k)) ∧ S (k + 1) w') :
    Calls Try.prog 72 #[.slice a L.length c, .func (.func g) #[] lb] w fun e w' => e = .returned (.int .i64 (fx p L.length)) ∧ ∃ k, S k w' := by
  obtain ⟨n, HN⟩ : ∃ n, Hid (L.length = n) := ⟨_, Lib.hid rfl⟩
  have HR := Lib.hid hro
  have HF := Lib.hid hf
  have H0 := Lib.hid h0
  clear hro hf h0
  rw [HN.out] at hl ⊢
  go_enter Try.func72, Try.ntmps72
  go_wp2_with fail
  go_loopw [8] (fun i wr => ∃ k : Nat, k ≤ n ∧ i = .int .i64 (k : Int) ∧ Hid (S k wr) ∧ Hid (∀ j, j < k → p j = false)) (fun i _ => n - (intOf i).toNat)
  case atStart => exact ⟨0, Nat.zero_le _, rfl, H0, Lib.hid (by omega)⟩
  case round =>
    obtain ⟨k, hk, rfl, HS, HP⟩ := hrel
    by_cases hlt : k < n
    · have hkL : k < L.length := by rw [HN.out]; exact hlt
      obtain ⟨b, off, rfl, hb, hc⟩ := (HR.out k wr HS.out).u64 (by omega)
      have c1 := hc k hkL
      have HC := Lib.hid (HF.out k wr hkL HS.out)
      clear hc
      have hk0 : (0 : Int) ≤ (k : Int) := by omega
      have hk1 : (k : Int) < (n : Int) := by omega
      generalize L.getD k 0 = x at *
      cases hq : p k with
      | true =>
        have HQ := Lib.hid hq
        clear hq
        go_wp2_with fail
        refine HC.out.mono ?_
        rintro e w' ⟨rfl, hs⟩
        rw [HQ.out]
        have HS2 := Lib.hid hs
        clear hs
        go_wp2_with fail
        go_ret
        exact ⟨ret_int (fx_hit p n k hlt HQ.out HP.out).symm, _, HS2.out⟩
      | false =>
        have HQ := Lib.hid hq
        clear hq
        go_wp2_with fail
        refine HC.out.mono ?_
        rintro e w' ⟨rfl, hs⟩
        rw [HQ.out]
        have HS2 := Lib.hid hs
        clear hs
        go_wp2_with fail
        go_roundw
        case rel =>
          refine ⟨k + 1, by omega, by go_num, HS2, Lib.hid fun j hj => ?_⟩
          by_cases e : j = k
          · subst e; exact HQ.out
          · exact HP.out j (by omega)
        case measure => simp [intOf]; omega
    · obtain rfl : k = n := by omega
      go_wp2_with fail
      go_ret
      exact ⟨ret_int (fx_miss p k HP.out).symm, _, HS.out⟩

set_option maxHeartbeats 1000000 in
theorem contains_num (S : Nat → World → Prop) (p : Nat → Bool) (g : Nat) (lb : Array Value) (eg : ∀ args w, (callFunc g args).run Try.prog w = .ok (.enter g args) w)
    (L : List Nat) (a : Option Addr) (c B : Nat) (w : World) (hl : L.length ≤ 1000000)
    (hro : ∀ k W, S k W → Ro W B a (u64s L)) (h0 : S 0 w)
    (hf : ∀ k W, k < L.length → S k W → Calls Try.prog g (#[.int .u64 (L.getD k 0 : Nat)] ++ lb) W fun e w' => e = .returned (.bool (p k)) ∧ S (k + 1) w') :
    Calls Try.prog 62 #[.slice a L.length c, .func (.func g) #[] lb] w fun e w' => e = .returned (.bool (anyN p L.length)) ∧ ∃ k, S k w' := by
  have HC := Lib.hid (index_num S p g lb eg L a c B w hl hro h0 hf)
  clear hro h0 hf
  obtain ⟨z, hz⟩ : ∃ z, z = fx p L.length := ⟨_, rfl⟩
  unfold anyN
  rw [← hz] at HC ⊢
  clear hz
  go_enter Try.func62, Try.ntmps62
  go_wp2_with fail
  refine HC.out.mono ?_
  rintro e w' ⟨rfl, hs⟩
  have HS := Lib.hid hs
  clear hs
  go_wp2_with fail
  go_ret
  exact ⟨rfl, HS.out⟩
end Go.Proofs.Ytdblplkaobeimaa
namespace Go.Proofs.Ytdblplkaobeimaa
open Go.RowKit Go.Deep Go.Shelf
set_option linter.unusedVariables false
set_option linter.unusedSimpArgs false

/-- an address that may not come, the ones below m being free -/
def lbad (m x : Nat) : Bool := if x = 18446744073709551615 then false else decide (m ≤ x)
/-- what is free behind it -/
def nlim (x : Nat) : Nat := if x = 18446744073709551615 then 0 else x
/-- what is free ahead of the k-th -/
def lim (l : List Nat) (k : Nat) : Nat := if k = 0 then 1048576 else nlim (l.getD (k - 1) 0)
/-- may these be a Back's? -/
def lastOk (b : Bk) : Bool := !anyN (fun k => lbad (lim [b.2.1, b.2.2] k) ([b.2.1, b.2.2].getD k 0)) 2
theorem lastOk_iff {b : Bk} : lastOk b = true ↔ (b.2.1 = 18446744073709551615 ∨ b.2.1 < 1048576) ∧ (b.2.2 = 18446744073709551615 ∨ b.2.1 ≠ 18446744073709551615 ∧ b.2.2 < b.2.1) := by
  obtain ⟨s, p, q⟩ := b
  unfold lastOk
  rw [Bool.not_eq_true', anyN_false]
  constructor
  · intro h
    have h0 := h 0 (by omega)
    have h1 := h 1 (by omega)
    simp [lbad, lim, nlim] at h0 h1
    show (p = _ ∨ p < _) ∧ (q = _ ∨ p ≠ _ ∧ q < p)
    split at h1 <;> omega
  · intro h j hj
    replace h : (p = 18446744073709551615 ∨ p < 1048576) ∧ (q = 18446744073709551615 ∨ p ≠ 18446744073709551615 ∧ q < p) := h
    have hj' : j = 0 ∨ j = 1 := by omega
    rcases hj' with rfl | rfl
    · simp [lbad, lim]
      omega
    · simp [lbad, lim, nlim]
      split <;> omega
/-- the least stream that may come ahead of the k-th -/
def least (L : List Bk) (k : Nat) : Int := if k = 0 then 0 else wrap64 ((bk L (k - 1)).1 + 1)
/-- a Back that may not come -/
def bbad (m : Int) (b : Bk) : Bool := decide (b.1 < m) || decide (16 ≤ b.1) || !lastOk b
/-- may these be a cell's? -/
def backsOk (L : List Bk) : Bool := !anyN (fun k => bbad (least L k) (bk L k)) L.length
/-- is a cell valid? -/
def right (x : Ce) : Bool := if x.k = 2 then decide (x.d.length = 0 ∧ x.b.length = 0) else if x.k = 1 then decide (x.d.length ≤ 100 ∧ x.b.length ≤ 4) && backsOk x.b else false

set_option maxHeartbeats 400000 in
theorem rl1_any (x m g : Nat) (w : World) (h : Own w g 26 [.int .u64 (m : Int)]) :
    Calls Try.prog 73 #[.int .u64 (x : Int), .pointer (some ⟨g, 0, none⟩)] w fun e w' => e = .returned (.bool (lbad m x)) ∧ w' = w.setCell ⟨g, 0, none⟩ (.int .u64 (nlim x : Nat)) := by
  have hc := h.cell 0
  have hf := h.frozen 0
  simp at hc
  clear h
  by_cases e : x = 18446744073709551615
  · have e1 : lbad m x = false := by simp [lbad, e]
    have e2 : nlim x = 0 := by simp [nlim, e]
    rw [e1, e2]
    subst e
    clear e1 e2
    go_enter Try.func73, Try.ntmps73
    go_wp2
    go_ret
    exact ⟨rfl, rfl⟩
  · have e1 : lbad m x = decide (m ≤ x) := by simp [lbad, e]
    have e2 : nlim x = x := by simp [nlim, e]
    have e3 : ((x : Int) == 18446744073709551615) = false := by rw [beq_eq_false_iff_ne]; omega
    rw [e1, e2]
    clear e1 e2 e
    go_enter Try.func73, Try.ntmps73
    go_wp2
    go_ret
    exact ⟨by simp, rfl⟩

set_option maxHeartbeats 400000 in
theorem rightLast_any (b : Bk) (w : World) :
    Calls Try.prog 65 #[.agg #[.int .u64 (b.2.1 : Int), .int .u64 (b.2.2 : Int)]] w fun e w' => e = .returned (.bool (lastOk b)) ∧ Below w.heap.size w w' := by
  obtain ⟨s, p, q⟩ := b
  obtain ⟨t, ht⟩ : ∃ t, t = anyN (fun k => lbad (lim [p, q] k) ([p, q].getD k 0)) 2 := ⟨_, rfl⟩
  have eg : ∀ args w, (callFunc 73 args).run Try.prog w = .ok (.enter 73 args) w := enters_of Try.func73 (by kernel_rfl) rfl
  have hC : ∀ W : World, W = (w.alloc (.cells #[.int .u64 (p : Int), .int .u64 (q : Int)] 50)).alloc (.cells #[.int .u64 1048576] 26) →
      Calls Try.prog 62 #[.slice (some ⟨w.heap.size, 0, none⟩) 2 2, .func (.func 73) #[] #[.pointer (some ⟨w.heap.size + 1, 0, none⟩)]] W fun e w' => e = .returned (.bool t) ∧ Below w.heap.size w w' := by
    intro W hW
    have h1 : Own W w.heap.size 50 (u64s [p, q]) := by rw [hW]; exact (Own.new w _ _).alloc _
    have h2 : Own W (w.heap.size + 1) 26 [.int .u64 ((1048576 : Nat) : Int)] := by
      rw [hW]
      have := Own.new (w.alloc (.cells #[.int .u64 (p : Int), .int .u64 (q : Int)] 50)) 26 [.int .u64 ((1048576 : Nat) : Int)]
      simpa using this
    have hb : Below w.heap.size w W := by rw [hW]; exact ((Below.refl _ _).alloc (Nat.le_refl _) _).alloc (by simp) _
    refine (contains_num (fun k W => Own W w.heap.size 50 (u64s [p, q]) ∧ Own W (w.heap.size + 1) 26 [.int .u64 (lim [p, q] k : Nat)] ∧ Below w.heap.size w W) (fun k => lbad (lim [p, q] k) ([p, q].getD k 0)) 73 #[.pointer (some ⟨w.heap.size + 1, 0, none⟩)] eg [p, q] (some ⟨w.heap.size, 0, none⟩) 2 (w.heap.size + 1) W (by simp) (fun k W' h => h.1.ro _ (by omega)) ⟨h1, h2, hb⟩ (fun k W' hk h => ?_)).mono ?_
    · obtain ⟨o1, o2, o3⟩ := h
      refine (rl1_any ([p, q].getD k 0) (lim [p, q] k) (w.heap.size + 1) W' o2).mono ?_
      rintro e w' ⟨rfl, rfl⟩
      refine ⟨rfl, o1.far (by show w.heap.size ≠ w.heap.size + 1; omega) _, ?_, o3.setCell (by show w.heap.size ≤ w.heap.size + 1; omega) _⟩
      have := o2.set 0 (.int .u64 (nlim ([p, q].getD k 0) : Nat))
      simpa [lim] using this
    · rintro e w' ⟨rfl, k, hk⟩
      rw [ht]
      exact ⟨rfl, hk.2.2⟩
  have HC := Lib.hid hC
  unfold lastOk
  show Calls _ _ _ _ fun e w' => e = .returned (.bool !anyN (fun k => lbad (lim [p, q] k) ([p, q].getD k 0)) 2) ∧ _
  rw [← ht]
  clear ht hC
  go_enter Try.func65, Try.ntmps65
  go_wp2_with fail
  refine (HC.out _ rfl).mono ?_
  rintro e w' ⟨rfl, hb⟩
  have HB := Lib.hid hb
  clear hb
  go_wp2_with fail
  go_ret
  exact ⟨rfl, HB.out⟩

set_option maxHeartbeats 1000000 in
theorem rb1_any (b : Bk) (m : Int) (g : Nat) (w : World) (h : Own w g 3 [.int .i64 m]) :
    Calls Try.prog 64 #[bkv b, .pointer (some ⟨g, 0, none⟩)] w fun e w' => e = .returned (.bool (bbad m b)) ∧ Own w' g 3 [.int .i64 (wrap64 (b.1 + 1))] ∧ Below g w w' := by
  have hg := h.lt
  have HO := Lib.hid h
  have hc := h.cell 0
  have hf := h.frozen 0
  simp at hc
  clear h
  obtain ⟨t, HT⟩ : ∃ t, Hid (lastOk b = t) := ⟨_, Lib.hid rfl⟩
  obtain ⟨u, HU⟩ : ∃ u, Hid (bbad m b = u) := ⟨_, Lib.hid rfl⟩
  rw [HU.out]
  have HR := Lib.hid (fun W => rightLast_any b W)
  rw [HT.out] at HR
  obtain ⟨s, p, q⟩ := b
  simp only at HR ⊢
  by_cases e1 : s < m
  · obtain rfl : u = true := by rw [← HU.out]; simp [bbad, e1]
    go_enter Try.func64, Try.ntmps64
    go_wp2
    go_ret
    exact ⟨rfl, (HO.out.set 0 _).alloc _, ((Below.refl g w).setCell (Nat.le_refl _) _).alloc (by simp [set_size]; omega) _⟩
  by_cases e2 : 16 ≤ s
  · obtain rfl : u = true := by rw [← HU.out]; simp [bbad, e2]
    go_enter Try.func64, Try.ntmps64
    go_wp2
    go_ret
    exact ⟨rfl, (HO.out.set 0 _).alloc _, ((Below.refl g w).setCell (Nat.le_refl _) _).alloc (by simp [set_size]; omega) _⟩
  obtain rfl : u = !t := by rw [← HU.out]; simp [bbad, e1, e2, HT.out]
  go_enter Try.func64, Try.ntmps64
  go_wp2_with fail
  refine (HR.out _).mono ?_
  rintro e w' ⟨rfl, hb⟩
  have HB := Lib.hid hb
  have o1 : Own w' w.heap.size 54 [.int .i64 s, .int .u64 (p : Int), .int .u64 (q : Int)] := (Own.new w 54 [.int .i64 s, .int .u64 (p : Int), .int .u64 (q : Int)]).below hb (by simp)
  have o2 : Own w' g 3 [.int .i64 m] := (HO.out.alloc _).below hb (by simp; omega)
  have hz := o1.lt
  have c1 := o1.cell 0
  have c2 := o2.cell 0
  have c3 := o2.frozen 0
  simp at c1 c2
  have HO2 := Lib.hid o2
  clear hb o1 o2 hc hf
  go_wp2_with fail
  go_ret
  exact ⟨rfl, HO2.out.set 0 _, (((Below.refl g w).alloc (by omega) _).trans (HB.out.mono (by simp; omega))).setCell (Nat.le_refl _) _⟩

set_option maxHeartbeats 1000000 in
theorem rightBacks_any (L : List Bk) (a : Option Addr) (c B : Nat) (w : World) (hro : Ro w B a (bcs L)) (hB : B ≤ w.heap.size) (hl : L.length ≤ 1000000) :
    Calls Try.prog 53 #[.slice a L.length c] w fun e w' => e = .returned (.bool (backsOk L)) ∧ Below w.heap.size w w' := by
  obtain ⟨t, ht⟩ : ∃ t, t = anyN (fun k => bbad (least L k) (bk L k)) L.length := ⟨_, rfl⟩
  have eg : ∀ args w, (callFunc 64 args).run Try.prog w = .ok (.enter 64 args) w := enters_of Try.func64 (by kernel_rfl) rfl
  have HC : Hid (Calls Try.prog 34 #[.slice a L.length c, .func (.func 64) #[] #[.pointer (some ⟨w.heap.size, 0, none⟩)]] (w.alloc (.cells #[.int .i64 0] 3)) fun e w' => e = .returned (.bool t) ∧ Below w.heap.size w w') := by
    apply Lib.hid
    refine (contains_back (fun k W => Own W w.heap.size 3 [.int .i64 (least L k)] ∧ Below w.heap.size w W) (fun k => bbad (least L k) (bk L k)) 64 #[.pointer (some ⟨w.heap.size, 0, none⟩)] eg L a c B _ hl (fun k W' h => hro.below h.2 hB) ⟨Own.new w _ _, (Below.refl _ _).alloc (Nat.le_refl _) _⟩ (fun k W' hk h => ?_)).mono ?_
    · obtain ⟨o1, o2⟩ := h
      refine (rb1_any (bk L k) (least L k) w.heap.size W' o1).mono ?_
      rintro e w' ⟨rfl, o3, o4⟩
      exact ⟨rfl, by simpa [least] using o3, o2.trans o4⟩
    · rintro e w' ⟨rfl, k, hk⟩
      rw [ht]
      exact ⟨rfl, hk.2⟩
  unfold backsOk
  rw [← ht]
  clear ht
  go_enter Try.func53, Try.ntmps53
  go_wp2_with fail
  refine HC.out.mono ?_
  rintro e w' ⟨rfl, hb⟩
  have HB := Lib.hid hb
  clear hb
  go_wp2_with fail
  go_ret
  exact ⟨rfl, HB.out⟩

set_option maxHeartbeats 1000000 in
theorem right_any (x : Ce) (a : Option Addr) (c : Nat) (a2 : Option Addr) (c2 B : Nat) (w : World) (hro : Ro w B a2 (bcs x.b)) (hB : B ≤ w.heap.size) (hl : x.b.length ≤ 9223372036854775807) (hl2 : x.d.length ≤ 9223372036854775807) :
    Calls Try.prog 36 #[cev x.k a x.d.length c a2 x.b.length c2] w fun e w' => e = .returned (.bool (right x)) ∧ Below w.heap.size w w' := by
  obtain ⟨t, HT⟩ : ∃ t, Hid (backsOk x.b = t) := ⟨_, Lib.hid rfl⟩
  obtain ⟨u, HU⟩ : ∃ u, Hid (right x = u) := ⟨_, Lib.hid rfl⟩
  have HR := Lib.hid (fun (h4 : x.b.length ≤ 4) => rightBacks_any x.b a2 c2 B (w.alloc (.cells #[.int .i64 x.k, .slice a x.d.length c, .slice a2 x.b.length c2] 32)) (hro.below ((Below.refl B w).alloc hB _) (Nat.le_refl _)) (by simp; omega) (by omega))
  rw [HT.out] at HR
  rw [HU.out]
  clear hro
  obtain ⟨k, d, b⟩ := x
  simp only at HR HU HT hl hl2 ⊢
  generalize hd : d.length = n at *
  generalize hb : b.length = m at *
  have HD := Lib.hid hd
  have HBL := Lib.hid hb
  clear hd hb
  by_cases e2 : k = 2
  · subst e2
    by_cases hn : n = 0
    · subst hn
      by_cases hm : m = 0
      · subst hm
        obtain rfl : u = true := by rw [← HU.out]; simp [right, HD.out, HBL.out]
        go_enter Try.func36, Try.ntmps36
        go_wp2_with fail
        go_ret
        exact ⟨rfl, (Below.refl _ _).alloc (Nat.le_refl _) _⟩
      · obtain rfl : u = false := by rw [← HU.out]; simp [right, HD.out, HBL.out, hm]
        have hm' : ((m : Int) == 0) = false := by rw [beq_eq_false_iff_ne]; omega
        clear hm
        go_enter Try.func36, Try.ntmps36
        go_wp2_with fail
        go_ret
        exact ⟨rfl, (Below.refl _ _).alloc (Nat.le_refl _) _⟩
    · obtain rfl : u = false := by rw [← HU.out]; simp [right, HD.out, HBL.out, hn]
      have hn' : ((n : Int) == 0) = false := by rw [beq_eq_false_iff_ne]; omega
      clear hn
      go_enter Try.func36, Try.ntmps36
      go_wp2_with fail
      go_ret
      exact ⟨rfl, (Below.refl _ _).alloc (Nat.le_refl _) _⟩
  · by_cases e1 : k = 1
    · subst e1
      by_cases hn : n ≤ 100
      · by_cases hm : m ≤ 4
        · obtain rfl : u = t := by rw [← HU.out]; simp [right, HD.out, HBL.out, hn, hm, HT.out]
          go_enter Try.func36, Try.ntmps36
          go_wp2_with fail
          refine (HR.out hm).mono ?_
          rintro e w' ⟨rfl, hb⟩
          have HB := Lib.hid hb
          clear hb
          go_wp2_with fail
          go_ret
          exact ⟨rfl, ((Below.refl _ _).alloc (Nat.le_refl _) _).trans (HB.out.mono (by simp))⟩
        · obtain rfl : u = false := by rw [← HU.out]; simp [right, HD.out, HBL.out, hm]
          go_enter Try.func36, Try.ntmps36
          go_wp2_with fail
          go_ret
          exact ⟨rfl, (Below.refl _ _).alloc (Nat.le_refl _) _⟩
      · obtain rfl : u = false := by rw [← HU.out]; simp [right, HD.out, HBL.out, hn]
        go_enter Try.func36, Try.ntmps36
        go_wp2_with fail
        go_ret
        exact ⟨rfl, (Below.refl _ _).alloc (Nat.le_refl _) _⟩
    · obtain rfl : u = false := by rw [← HU.out]; simp [right, e1, e2]
      have h1 : (k == 1) = false := by rw [beq_eq_false_iff_ne]; omega
      have h2 : (k == 2) = false := by rw [beq_eq_false_iff_ne]; omega
      clear e1 e2
      go_enter Try.func36, Try.ntmps36
      go_wp2_with fail
      go_ret
      exact ⟨rfl, (Below.refl _ _).alloc (Nat.le_refl _) _⟩
end Go.Proofs.Ytdblplkaobeimaa
