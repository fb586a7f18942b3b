/-
  Decode of package cell where the bytes are a valid cell's, and where they are none's; the law package's Fits and alive. No claim of its own.
-/
import Derived.Test.YtcapphabajplcaaCeI
import Derived.Test.YtcapphabajplcaaCeD
import Derived.Test.YtcapphabajplcaaCeS
namespace Go.Proofs.Ytcapphabajplcaa
open Go.RowKit Go.Deep
set_option linter.unusedVariables false
set_option linter.unusedSimpArgs false

set_option maxHeartbeats 1000000 in
theorem decode_j (a : Option Addr) (c B : Nat) (w : World) (h : Ro w B a (u8s [2])) (hB : B ≤ w.heap.size) :
    Calls Try.prog 9 #[.slice a 1 c] w fun e w' => e = .returned (.tuple #[cev 2 none 0 0 none 0 0, .int .i64 0]) ∧ Below w.heap.size w w' := by
  obtain ⟨b, off, rfl, hb0, hcl⟩ := h.u8 (by simp)
  have hc0 := hcl 0 (by simp)
  have hblt : b < w.heap.size := by omega
  change w.cell? ⟨b, off, none⟩ = some (.int .u8 2) at hc0
  clear h hcl
  go_enter Try.func9, Try.ntmps9
  go_wp2_with fail
  refine bodyPost_ret (v := .tuple #[cev 2 none 0 0 none 0 0, .int .i64 0]) (by simp [results, Try.results9, go_sem]) rfl ⟨rfl, ?_⟩
  exact (Below.refl w.heap.size w).alloc (Nat.le_refl _) _

/-- bytes of a valid cell -/
theorem dec_yes (bs : List UInt8) (n : Nat) (a : Option Addr) (c B : Nat) (w : World) (hn : bs.length = n) (h : Ro w B a (u8s bs)) (hB : B ≤ w.heap.size) (hnc : n ≤ c) (hc : c ≤ 9223372036854775807) (hl : n ≤ 1000000) (x : Ce) (hx : IsEnc x bs) (hr : right x = true) :
    Calls Try.prog 9 #[.slice a n c] w (DcP w x (.int .i64 0)) := by
  rcases right_kind hr with hk | hk
  · exact decode_c bs n a c B w hn h hB hnc hc hl x (dec_of_enc hx hr hk) hr
  · obtain rfl := right_junk hr hk
    rcases hx with ⟨_, rfl⟩ | ⟨h1, _⟩
    · subst hn
      refine (decode_j a c B w h hB).mono ?_
      rintro e w' ⟨rfl, hb⟩
      exact ⟨none, 0, none, 0, rfl, Ro.nil _ _ _, Ro.nil _ _ _, (fun ad e => nomatch e), (fun ad e => nomatch e), hb⟩
    · simp at h1
/-- bytes of none -/
theorem dec_no (bs : List UInt8) (n : Nat) (a : Option Addr) (c B : Nat) (w : World) (hn : bs.length = n) (h : Ro w B a (u8s bs)) (hB : B ≤ w.heap.size) (hnc : n ≤ c) (hc : c ≤ 9223372036854775807) (hl : n ≤ 1000000) (hno : ∀ x, right x = true → ¬ IsEnc x bs) :
    Calls Try.prog 9 #[.slice a n c] w fun e w' => e = .returned (.tuple #[cev 0 none 0 0 none 0 0, .int .i64 71]) ∧ Below w.heap.size w w' := by
  have h2 : bs ≠ [2] := fun e => hno ⟨2, [], []⟩ rfl (.inl ⟨rfl, e⟩)
  by_cases hx : ∃ x, IsDec bs x
  · obtain ⟨x, hx⟩ := hx
    cases hr : right x with
    | true => exact absurd (enc_of_dec hx hr) (hno x hr)
    | false => exact decode_b bs n a c B w hn h hB hnc hc hl x hx hr
  · exact decode_a bs n a c B w hn h hB hnc hc hl h2 (fun x hd => hx ⟨x, hd⟩)

/-- is a cell one that is asked about? -/
def fitsC (x : Ce) : Bool := decide (x.d.length ≤ 400) && decide (x.b.length ≤ 30)
set_option maxHeartbeats 400000 in
theorem fits_any (k : Int) (a : Option Addr) (n c : Nat) (a2 : Option Addr) (n2 c2 : Nat) (w : World) :
    Calls Try.prog 7 #[cev k a n c a2 n2 c2] w fun e w' => e = .returned (.bool (decide (n ≤ 400) && decide (n2 ≤ 30))) ∧ Below w.heap.size w w' := by
  by_cases h : n ≤ 400
  · have h1 : decide (n ≤ 400) = true := by simpa using h
    rw [h1, Bool.true_and]
    go_enter Try.func7, Try.ntmps7
    go_wp2_with fail
    go_ret
    exact ⟨ret_bool (by rw [decide_eq_decide]; omega), (Below.refl _ _).alloc (Nat.le_refl _) _⟩
  · have h1 : decide (n ≤ 400) = false := by simpa using h
    rw [h1, Bool.false_and]
    go_enter Try.func7, Try.ntmps7
    go_wp2_with fail
    go_ret
    exact ⟨rfl, (Below.refl _ _).alloc (Nat.le_refl _) _⟩

def aliveC : Ce := ⟨1, [97, 98], [(3, 7, 18446744073709551615)]⟩
theorem alive_right : right aliveC = true := by decide
theorem alive_enc : IsEnc aliveC [72, 35, 0, 0, 60, 0, 0, 0, 97, 98] := .inr ⟨rfl, [72, 35, 0, 0, 60, 0, 0, 0], ⟨by decide, by decide⟩, rfl⟩
end Go.Proofs.Ytcapphabajplcaa
