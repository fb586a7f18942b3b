/-
  Contracts of package tape's areRecords, framesSize, Replace. No claim of their own.
-/
import Derived.Test.YtdiemejdbakffaaGreatTpN
namespace Go.Proofs.YtdiemejdbakffaaGreat
open Go.RowKit Go.Deep Go.Shelf
set_option linter.unusedVariables false
set_option linter.unusedSimpArgs false

/-- a slice of bytes: where it lies, what it reads as, its capacity -/
structure SB where
  a : Option Addr
  bs : Rec
  c : Nat
def SB.val (x : SB) : Value := .slice x.a x.bs.length x.c
/-- a slice of slices of bytes -/
structure RoL (w : World) (B : Nat) (a : Option Addr) (xs : List SB) : Prop where
  row : Ro w B a (xs.map SB.val)
  el : ∀ x ∈ xs, Ro w B x.a (u8s x.bs) ∧ x.bs.length ≤ 140737488355328
/-- none of its blocks is in l -/
def Sep (l : List Nat) (a : Option Addr) (xs : List SB) : Prop := (xs ≠ [] → ∀ x, a = some x → x.block ∉ l) ∧ ∀ y ∈ xs, y.bs ≠ [] → ∀ x, y.a = some x → x.block ∉ l
theorem Ro.chgs2 {l : List Nat} {w w' : World} {B : Nat} {a : Option Addr} {vs : List Value} (h : Ro w B a vs) (hc : Chg l w w') (hl : vs ≠ [] → ∀ x, a = some x → x.block ∉ l) : Ro w' B a vs := by
  by_cases h0 : vs = []
  · exact .inl h0
  · exact h.chgs hc (hl h0)
theorem RoL.chgs {l : List Nat} {w w' : World} {B : Nat} {a : Option Addr} {xs : List SB} (h : RoL w B a xs) (hc : Chg l w w') (hs : Sep l a xs) : RoL w' B a xs :=
  ⟨h.row.chgs2 hc (fun h0 => hs.1 (fun e => h0 (by rw [e]; rfl))), fun x hx => ⟨(h.el x hx).1.chgs2 hc (fun h0 => hs.2 x hx (fun e => h0 (by rw [e]; rfl))), (h.el x hx).2⟩⟩
theorem RoL.kept {w w' : World} {B : Nat} {a : Option Addr} {xs : List SB} (h : RoL w B a xs) (hc : Chg [] w w') : RoL w' B a xs := h.chgs hc ⟨fun _ _ _ => by simp, fun _ _ _ _ _ => by simp⟩
theorem RoL.mono {w : World} {B B' : Nat} {a : Option Addr} {xs : List SB} (h : RoL w B a xs) (hB : B ≤ B') : RoL w B' a xs := ⟨h.row.mono hB, fun x hx => ⟨(h.el x hx).1.mono hB, (h.el x hx).2⟩⟩
theorem RoL.at_ {w : World} {B : Nat} {a : Option Addr} {xs : List SB} (h : RoL w B a xs) {k : Nat} (hk : k < xs.length) : ∃ b off, a = some ⟨b, off, none⟩ ∧ b < B ∧ ∀ i (hi : i < xs.length), w.cell? ⟨b, off + i, none⟩ = some (xs[i]).val := by
  obtain ⟨b, off, h1, h2, h3⟩ := h.row.at_ (by intro e; have := congrArg List.length e; simp only [List.length_map, List.length_nil] at this; omega)
  refine ⟨b, off, h1, h2, fun i hi => ?_⟩
  rw [h3 i (by simpa using hi)]
  simp [List.getD, hi]
theorem anyRec (w : World) (a : Option Addr) (n c : Nat) : Calls Tryz.prog 76 #[.slice a n c] w fun e w' => e = .returned (.bool (!decide (1 ≤ n ∧ n ≤ 300))) ∧ w = w' := by
  have HI := Lib.hid (isRecord_any w a n c)
  generalize decide (1 ≤ n ∧ n ≤ 300) = t at HI ⊢
  go_enter Tryz.func76, Tryz.ntmps76
  go_wp2_with (first | (go_at_call 53; refine HI.out.mono ?_; rintro e w' ⟨rfl, rfl⟩) | fail)
  go_ret
  exact ⟨rfl, rfl⟩
def allR (xs : List SB) : Prop := ∀ x ∈ xs, okR x.bs
instance (xs : List SB) : Decidable (allR xs) := by unfold allR; infer_instance
set_option maxRecDepth 100000 in
theorem index_any (w : World) (a : Option Addr) (xs : List SB) (c B : Nat) (h : RoL w B a xs) (hl : xs.length ≤ 140737488355328) :
    Calls Tryz.prog 84 #[.slice a xs.length c, .func (.func 76) #[] #[]] w fun e w' => ∃ r : Int, e = .returned (.int .i64 r) ∧ Hid (decide (0 ≤ r) = !decide (allR xs)) ∧ w = w' := by
  obtain ⟨n, HN⟩ : ∃ n, Hid (xs.length = n) := ⟨_, Lib.hid rfl⟩
  rw [HN.out] at hl ⊢
  have HR := Lib.hid h
  clear h
  go_enter Tryz.func84, Tryz.ntmps84
  go_wp2
  go_loop [8] (fun i => ∃ k : Nat, k ≤ n ∧ i = .int .i64 k ∧ Hid (∀ x ∈ xs.take k, okR x.bs)) (fun i => n - (intOf i).toNat)
  case atStart => exact ⟨0, Nat.zero_le _, rfl, Lib.hid (by simp)⟩
  case round =>
    obtain ⟨k, hk, rfl, HP⟩ := hrel
    by_cases hlt : k < n
    · have hkx : k < xs.length := by rw [HN.out]; exact hlt
      obtain ⟨b, off, rfl, hb, hc⟩ := HR.out.at_ hkx
      have hcell := hc k hkx
      unfold SB.val at hcell
      have hd : decide (k < n) = true := by simpa using hlt
      have hk1 : (k : Int) < (n : Int) := by omega
      have HX := Lib.hid (show xs[k] ∈ xs from List.getElem_mem hkx)
      have HT := Lib.hid (show xs.take (k + 1) = xs.take k ++ [xs[k]] from take_snoc xs k hkx)
      generalize xs[k] = x at *
      by_cases hok : okR x.bs
      · have HA := Lib.hid (anyRec w x.a x.bs.length x.c)
        rw [decide_eq_true (show 1 ≤ x.bs.length ∧ x.bs.length ≤ 300 from hok)] at HA
        have HOK := Lib.hid hok
        clear hok hc
        go_wp2_with (first | (go_at_call 76; refine HA.out.mono ?_; rintro e w' ⟨rfl, rfl⟩) | fail)
        go_round
        case rel => exact ⟨k + 1, by omega, by go_num, Lib.hid (by
          rw [HT.out]
          intro y hy
          rcases List.mem_append.1 hy with hy | hy
          · exact HP.out y hy
          · simp at hy; subst hy; exact HOK.out)⟩
        case measure => simp [intOf]; omega
      · have HA := Lib.hid (anyRec w x.a x.bs.length x.c)
        rw [decide_eq_false (show ¬ (1 ≤ x.bs.length ∧ x.bs.length ≤ 300) from hok)] at HA
        have HOK := Lib.hid (show decide (0 ≤ (k : Int)) = !decide (allR xs) by
          rw [decide_eq_false (fun h2 : allR xs => hok (h2 x HX.out)), decide_eq_true (by omega)]
          rfl)
        clear hok hc
        go_wp2_with (first | (go_at_call 76; refine HA.out.mono ?_; rintro e w' ⟨rfl, rfl⟩) | fail)
        go_ret
        exact ⟨_, rfl, HOK, rfl⟩
    · have hkn : k = n := by omega
      have HK := Lib.hid (show decide (0 ≤ (-1 : Int)) = !decide (allR xs) by
        have h2 : allR xs := by
          have := HP.out
          rw [hkn, ← HN.out, List.take_length] at this
          exact this
        rw [decide_eq_true h2]
        rfl)
      have hd : decide (k < n) = false := by simpa using hlt
      clear hkn
      go_wp2
      go_ret
      exact ⟨_, rfl, HK, rfl⟩
theorem areRecords_any (w : World) (a : Option Addr) (xs : List SB) (c B : Nat) (h : RoL w B a xs) (hl : xs.length ≤ 140737488355328) :
    Calls Tryz.prog 65 #[.slice a xs.length c] w fun e w' => e = .returned (.bool (decide (allR xs))) ∧ w = w' := by
  have HX := Lib.hid (index_any w a xs c B h hl)
  have HC : Calls Tryz.prog 75 #[.slice a xs.length c, .func (.func 76) #[] #[]] w fun e w' => e = .returned (.bool (!decide (allR xs))) ∧ w = w' := by
    generalize (!decide (allR xs)) = t at HX ⊢
    clear h
    go_enter Tryz.func75, Tryz.ntmps75
    go_wp2_with (first | (go_at_call 84; refine HX.out.mono ?_; rintro e w' ⟨r, rfl, hr, rfl⟩) | fail)
    go_ret
    exact ⟨by rw [← hr.out]; rfl, rfl⟩
  have HC2 := Lib.hid HC
  clear h HC HX
  generalize decide (allR xs) = t at HC2 ⊢
  go_enter Tryz.func65, Tryz.ntmps65
  go_wp2_with (first | (go_at_call 75; refine HC2.out.mono ?_; rintro e w' ⟨rfl, rfl⟩) | fail)
  go_ret
  exact ⟨ret_bool (by simp), rfl⟩
/-- the records that a slice of slices reads as -/
def recs (xs : List SB) : List Rec := xs.map (·.bs)
@[simp] theorem recs_len (xs : List SB) : (recs xs).length = xs.length := by simp [recs]
theorem recs_snoc (xs : List SB) (x : SB) : recs (xs ++ [x]) = recs xs ++ [x.bs] := by simp [recs]
theorem frs_le (L : List Rec) (h : okL L) : (frs L).length ≤ 302 * L.length := by
  induction L with
  | nil => simp [frs]
  | cons r L ih =>
    have h1 := h r (by simp)
    have h2 := ih (fun x hx => h x (by simp [hx]))
    unfold okR at h1
    simp only [frs, List.length_append, frame_len, List.length_cons]
    omega
theorem allR.okL {xs : List SB} (h : allR xs) : okL (recs xs) := fun r hr => by
  obtain ⟨x, hx, rfl⟩ := List.mem_map.1 hr
  exact h x hx
set_option maxRecDepth 100000 in
theorem framesSize_any (w : World) (a : Option Addr) (xs : List SB) (c B : Nat) (h : RoL w B a xs) (hl : xs.length ≤ 1000000) (hok : allR xs) :
    Calls Tryz.prog 66 #[.slice a xs.length c] w fun e w' => e = .returned (.int .i64 (((frs (recs xs)).length : Nat) : Int)) ∧ w = w' := by
  obtain ⟨n, HN⟩ : ∃ n, Hid (xs.length = n) := ⟨_, Lib.hid rfl⟩
  rw [HN.out] at hl ⊢
  have HR := Lib.hid h
  have HOK := Lib.hid hok
  clear h hok
  go_enter Tryz.func66, Tryz.ntmps66
  go_wp2
  go_loop [3, 8] (fun s i => ∃ k : Nat, k ≤ n ∧ i = .int .i64 k ∧ s = .int .i64 (((frs (recs (xs.take k))).length : Nat) : Int)) (fun _ i => n - (intOf i).toNat)
  case atStart => exact ⟨0, Nat.zero_le _, rfl, rfl⟩
  case round =>
    obtain ⟨k, hk, rfl, rfl⟩ := hrel
    by_cases hlt : k < n
    · have hkx : k < xs.length := by rw [HN.out]; exact hlt
      obtain ⟨b, off, rfl, hb, hc⟩ := HR.out.at_ hkx
      have hcell := hc k hkx
      unfold SB.val at hcell
      have hd : decide (k < n) = true := by simpa using hlt
      have hk1 : (k : Int) < (n : Int) := by omega
      have hm := List.getElem_mem hkx
      have hr := HOK.out _ hm
      have HT := Lib.hid (show (frs (recs (xs.take (k + 1)))).length = (frs (recs (xs.take k))).length + 2 + (xs[k]).bs.length by rw [take_snoc xs k hkx, recs_snoc, frs_snoc_len])
      have hle : (frs (recs (xs.take k))).length ≤ 302 * 1000000 := by
        have h1 := frs_le (recs (xs.take k)) (fun r hr => by
          obtain ⟨y, hy, rfl⟩ := List.mem_map.1 hr
          exact HOK.out y (List.mem_of_mem_take hy))
        have h2 : (recs (xs.take k)).length ≤ 1000000 := by rw [recs_len, List.length_take]; omega
        omega
      have hr3 := hr.2
      generalize xs[k] = x at *
      obtain ⟨N, HNN⟩ : ∃ N, Hid (x.bs.length = N) := ⟨_, Lib.hid rfl⟩
      obtain ⟨M, HM⟩ : ∃ N, Hid ((frs (recs (xs.take k))).length = N) := ⟨_, Lib.hid rfl⟩
      rw [HNN.out] at hr3 hcell
      rw [HM.out] at hle ⊢
      have HF := Lib.hid (frameSize_any w x.a N x.c (by omega))
      clear hm hr hc
      go_wp2_with (first | (go_at_call 56; refine HF.out.mono ?_; rintro e w' ⟨rfl, rfl⟩) | fail)
      go_round
      case rel => exact ⟨k + 1, by omega, by go_num, by
        have h1 := HT.out
        have h2 := HM.out
        have h3 := HNN.out
        congr 1
        omega⟩
      case measure => simp [intOf]; omega
    · have hkn : k = n := by omega
      have HK := Lib.hid (show xs.take k = xs by rw [hkn, ← HN.out, List.take_length])
      have hd : decide (k < n) = false := by simpa using hlt
      clear hkn
      rw [HK.out]
      go_wp2
      go_ret
      exact ⟨rfl, rfl⟩
end Go.Proofs.YtdiemejdbakffaaGreat
