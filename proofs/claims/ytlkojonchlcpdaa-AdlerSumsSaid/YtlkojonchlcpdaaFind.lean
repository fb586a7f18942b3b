/-
  Package adler's Find by its contract. No condition but the ranges that each theorem names.
-/
import Derived.Test.YtlkojonchlcpdaaWins
namespace Go.Proofs.Ytlkojonchlcpdaa
open Go.RowKit Go.Shelf
attribute [local go_sem] Oper.semAt_some

/-- the index of the first one that is s: i, or there is none -/
def IsFind (l : List Nat) (s i : Nat) (b : Bool) : Prop :=
  (b = true ∧ i < l.length ∧ l.getD i 0 = s ∧ ∀ j, j < i → l.getD j 0 ≠ s) ∨ (b = false ∧ i = 0 ∧ ∀ j, j < l.length → l.getD j 0 ≠ s)
theorem isFind_some (l : List Nat) (s : Nat) : ∃ i b, IsFind l s i b := by
  by_cases h : ∃ i, i < l.length ∧ l.getD i 0 = s
  · obtain ⟨i, hi, hs⟩ := h
    induction i using Nat.strongRecOn with
    | _ i ih =>
      by_cases h2 : ∃ j, j < i ∧ l.getD j 0 = s
      · obtain ⟨j, hj, hs2⟩ := h2
        exact ih j hj (by omega) hs2
      · exact ⟨i, true, .inl ⟨rfl, hi, hs, fun j hj e => h2 ⟨j, hj, e⟩⟩⟩
  · exact ⟨0, false, .inr ⟨rfl, rfl, fun j hj e => h ⟨j, hj, e⟩⟩⟩
theorem IsFind.unique {l : List Nat} {s i j : Nat} {b c : Bool} (h : IsFind l s i b) (k : IsFind l s j c) : i = j ∧ b = c := by
  rcases h with ⟨rfl, h1, h2, h3⟩ | ⟨rfl, rfl, h3⟩ <;> rcases k with ⟨rfl, k1, k2, k3⟩ | ⟨rfl, rfl, k3⟩
  · rcases Nat.lt_trichotomy i j with e | e | e
    · exact absurd h2 (k3 i e)
    · exact ⟨e, rfl⟩
    · exact absurd k2 (h3 j e)
  · exact absurd h2 (k3 i h1)
  · exact absurd k2 (h3 j k1)
  · exact ⟨rfl, rfl⟩
theorem winL_length (bs : List UInt8) (n : Int) : (winL bs n).length = winN n bs.length := by simp [winL]
theorem winL_getD (bs : List UInt8) (n : Int) (k : Nat) (h : k < winN n bs.length) : (winL bs n).getD k 0 = winS bs n.toNat k := by simp [winL, List.getD, h]

set_option maxRecDepth 100000 in
set_option maxHeartbeats 2000000 in
theorem adFind_any (bs : List UInt8) (s : Nat) (n : Int) (len : Nat) (A : Option Addr) (c i : Nat) (b : Bool) (w : World) (hlen : bs.length = len) (hcap : len ≤ c) (hmax : c ≤ 9223372036854775807) (hnil : A = none → c = 0) (hro : Ro w w.heap.size A (u8s bs)) (hs : s < 4294967296) (hfind : IsFind (winL bs n) s i b) :
    Calls Try.prog 19 #[.slice A len c, .int .u32 (s : Int), .int .i64 n] w fun e w' => e = .returned (.tuple #[.int .i64 (i : Int), .bool b]) ∧ Below w.heap.size w w' := by
  refine (callsIn_wide (n := 3)).1 ?_
  refine callsIn_of_wp_marks Try.func19 rfl trivial ?_ rfl
  simp only [Try.ntmps19, List.size_toArray, List.length_cons, List.length_nil, Nat.reduceAdd, Nat.reduceSub, Array.replicate_succ, Array.replicate_zero, List.push_toArray, List.append_toArray, List.nil_append, List.cons_append]
  obtain ⟨x, y, hx, hy, hxy⟩ : ∃ x y, x < 65536 ∧ y < 65536 ∧ s = 65536 * y + x := ⟨s % 65536, s / 65536, by omega, by omega, by omega⟩
  have HSP := Lib.hid (fun w => split_is s x y w hxy hx hy)
  have HXY := Lib.hid hxy
  have HF := Lib.hid hfind
  have HL := Lib.hid hlen
  clear hxy hfind hlen
  gi_wp2_with fail
  refine ⟨trivial, ?_⟩
  refine (callsIn_wide.2 (HSP.out _)).mono ?_
  rintro e w2 ⟨rfl, hb2⟩
  gi_wp2_with fail
  refine ⟨trivial, ?_⟩
  refine (callsIn_wide.2 (windows_any n A len c _)).mono ?_
  rintro e w1 ⟨rfl, rfl⟩
  gi_wp2_with fail
  have hbX : Below w.heap.size w ((w.alloc (.cells #[.int .i64 0] 3)).alloc (.cells #[.bool false] 4)) := ((Below.refl _ w).alloc (Nat.le_refl _) _).alloc (by simp) _
  have hs2 : w.heap.size + 1 + 1 ≤ w2.heap.size := by have := hb2.size; simpa using this
  have hr1 : Own w2 w.heap.size 3 [.int .i64 0] := ((Own.new w _ _).alloc _).below hb2 (by simp; omega)
  have hr2 : Own w2 (w.heap.size + 1) 4 [.bool false] := by
    have := Own.new (w.alloc (.cells #[.int .i64 0] 3)) 4 [.bool false]
    rw [World.size_alloc] at this
    exact this.below hb2 (by simp)
  have hB2 : Below w.heap.size w w2 := hbX.trans (hb2.mono hbX.size)
  clear hb2 hbX
  obtain ⟨W0, hW0⟩ : ∃ W0, ((w2.alloc (.cells #[.int .i64 (x : Int), .int .i64 (y : Int)] 43)).alloc (.cells #[.slice A len c] 22)).alloc (.cells #[.int .i64 n] 3) = W0 := ⟨_, rfl⟩
  have hs0 : W0.heap.size = w2.heap.size + 3 := by rw [← hW0]; simp
  have hB0 : Below w.heap.size w W0 := by rw [← hW0]; exact ((hB2.alloc hB2.size _).alloc (by simp; have := hB2.size; omega) _).alloc (by simp; have := hB2.size; omega) _
  have ho1 : Own W0 w.heap.size 3 [.int .i64 0] := by rw [← hW0]; exact ((hr1.alloc _).alloc _).alloc _
  have ho2 : Own W0 (w.heap.size + 1) 4 [.bool false] := by rw [← hW0]; exact ((hr2.alloc _).alloc _).alloc _
  have ho8 : Own W0 w2.heap.size 43 [.int .i64 (x : Int), .int .i64 (y : Int)] := by rw [← hW0]; exact ((Own.new w2 _ _).alloc _).alloc _
  have hob : Own W0 (w2.heap.size + 1) 22 [.slice A len c] := by
    rw [← hW0]
    have := (Own.new (w2.alloc (.cells #[.int .i64 (x : Int), .int .i64 (y : Int)] 43)) 22 [.slice A len c]).alloc (.cells #[.int .i64 n] 3)
    rwa [World.size_alloc] at this
  have hon : Own W0 (w2.heap.size + 1 + 1) 3 [.int .i64 n] := by
    rw [← hW0]
    have := Own.new ((w2.alloc (.cells #[.int .i64 (x : Int), .int .i64 (y : Int)] 43)).alloc (.cells #[.slice A len c] 22)) 3 [.int .i64 n]
    rwa [World.size_alloc, World.size_alloc] at this
  rw [hW0]
  clear hW0
  have hsw : w.heap.size ≤ W0.heap.size := by omega
  have HS0 := Lib.hid hs0
  have hgv := windows_gives bs n len A c w.heap.size (w2.heap.size + 1 + 1) (w2.heap.size + 1) W0 HL.out hcap hmax hnil (hro.below hB0 (Nat.le_refl _)) (by omega) hon hob
  have HG := Lib.hid hgv
  clear hs0 hgv hr1 hr2 hB2
  refine wp_gives (gf := 31) (lb := #[.pointer (some ⟨w2.heap.size + 1 + 1, 0, none⟩), .pointer (some ⟨w2.heap.size + 1, 0, none⟩)]) rfl (enters_of Try.func31 (by kernel_rfl) rfl) HG.out (Below.refl _ _) (fun _ => rfl)
    (fun _ _ _ h k => h.trans k) (fun W l o o' hl h ho => Kept.put (by omega) h ho)
    (fun cd xs W => ((cd = none ∧ (∀ j ∈ xs, winS bs n.toNat j ≠ s) ∧ Own W w.heap.size 3 [.int .i64 0] ∧ Own W (w.heap.size + 1) 4 [.bool false]) ∨
      (cd = some .ret ∧ ∃ ini k, xs = ini ++ [k] ∧ (∀ j ∈ ini, winS bs n.toNat j ≠ s) ∧ winS bs n.toNat k = s ∧ Own W w.heap.size 3 [.int .i64 (k : Int)] ∧ Own W (w.heap.size + 1) 4 [.bool true])) ∧
      Own W w2.heap.size 43 [.int .i64 (x : Int), .int .i64 (y : Int)] ∧ Below w.heap.size w W) ?hI ?h0
    (fun pre k a' W => ∃ B2, a' = { tmps := #[.slice A len c, .int .u32 (s : Int), .int .i64 n, undef, undef, undef, .pointer (some ⟨w.heap.size, 0, none⟩), .pointer (some ⟨w.heap.size + 1, 0, none⟩), .pointer (some ⟨w2.heap.size, 0, none⟩), .int .i64 (k : Int), .pointer (some ⟨B2, 0, none⟩), .int .u32 (s : Int), .agg #[.int .i64 (x : Int), .int .i64 (y : Int)], .slice A len c, .int .i64 n, .func (.func 31) #[] #[.pointer (some ⟨w2.heap.size + 1 + 1, 0, none⟩), .pointer (some ⟨w2.heap.size + 1, 0, none⟩)], .int .i64 (k : Int), .agg #[.int .i64 ((winS bs n.toNat k % 65536 : Nat) : Int), .int .i64 ((winS bs n.toNat k / 65536 : Nat) : Int)], undef, undef, undef, undef], defers := [] } ∧
      Own W B2 43 [.int .i64 ((winS bs n.toNat k % 65536 : Nat) : Int), .int .i64 ((winS bs n.toNat k / 65536 : Nat) : Int)] ∧ (∀ j ∈ pre, winS bs n.toNat j ≠ s) ∧ Own W w.heap.size 3 [.int .i64 0] ∧ Own W (w.heap.size + 1) 4 [.bool false] ∧ Own W w2.heap.size 43 [.int .i64 (x : Int), .int .i64 (y : Int)] ∧ Below w.heap.size w W) ?hM ?assign ?body ?fin
  case hI =>
    rintro cd xs X Y ⟨h, h8, hb⟩ hT
    have t1 : ∀ {t cs}, Own X w.heap.size t cs → Own Y w.heap.size t cs := fun h => hT.own h (.inl (by have := HS0.out; omega))
    have t2 : ∀ {t cs}, Own X (w.heap.size + 1) t cs → Own Y (w.heap.size + 1) t cs := fun h => hT.own h (.inl (by have := HS0.out; omega))
    refine ⟨?_, hT.own h8 (.inl (by have := HS0.out; omega)), hT.below hb hsw (Nat.le_refl _)⟩
    rcases h with ⟨h1, h2, h3, h4⟩ | ⟨h1, ini, k, h2, h3, h4, h5, h6⟩
    · exact .inl ⟨h1, h2, t1 h3, t2 h4⟩
    · exact .inr ⟨h1, ini, k, h2, h3, h4, t1 h5, t2 h6⟩
  case h0 => exact ⟨.inl ⟨rfl, by simp, ho1, ho2⟩, ho8, hB0⟩
  case hM =>
    rintro pre k a' X l o o' ⟨B2, rfl, h1, h2, h3, h4, h5, hb⟩ hl hX hoc
    have hT := Turn.put (B := W0.heap.size) 0 o' hX hoc hl
    exact ⟨B2, rfl, hT.own h1 (.inr (by decide)), h2, hT.own h3 (.inr (by decide)), hT.own h4 (.inr (by decide)), hT.own h5 (.inr (by decide)), hT.below hb hsw (Nat.le_refl _)⟩
  case assign =>
    rintro l pre k W ⟨hI, h8, hb⟩ hG
    rcases hI with ⟨_, h2, h3, h4⟩ | ⟨h1, _⟩
    case inr => cases h1
    refine assign_by fun K hK => ?_
    unfold winEncs
    generalize winS bs n.toNat k % 65536 = p at hK ⊢
    generalize winS bs n.toNat k / 65536 = q at hK ⊢
    have HK := Lib.hid hK
    clear hK hG
    gi_wp2_with fail
    exact HK.out _ _ ⟨(KeepsOthers.alloc _ _).from _, Kept.alloc _ _ _ _ hb.size, W.heap.size, rfl, Own.new W _ _, h2, h3.alloc _, h4.alloc _, h8.alloc _, hb.alloc hb.size _⟩
  case body =>
    rintro l pre k a' W hG ⟨B2, rfl, hoB, h2, h3, h4, h8, hb⟩
    have hwl := winS_lt bs n.toNat k
    have hiff : winS bs n.toNat k = s ↔ winS bs n.toNat k % 65536 = x ∧ winS bs n.toNat k / 65536 = y := by have := HXY.out; omega
    generalize hp : winS bs n.toNat k % 65536 = p at hoB hiff ⊢
    generalize hq : winS bs n.toNat k / 65536 = q at hoB hiff ⊢
    have HIF := Lib.hid hiff
    have hB0 := hoB.cell 0
    have hB1 := hoB.cell 1
    have h80 := h8.cell 0
    have h81 := h8.cell 1
    have h30 := h3.cell 0
    have h40 := h4.cell 0
    have h3f := h3.frozen 0
    have h4f := h4.frozen 0
    simp at hB0 hB1 h80 h81 h30 h40
    clear hwl hiff hp hq hG
    by_cases e : p = x ∧ q = y
    · obtain ⟨rfl, rfl⟩ := e
      gi_wp2_with fail
      have hn8 : w2.heap.size ≠ w.heap.size := by omega
      have hn9 : w2.heap.size ≠ w.heap.size + 1 := by omega
      refine ⟨some .ret, rfl, ((KeepsOthers.setCell _ _ _).trans (KeepsOthers.setCell _ _ _)).from _, (fun h => by cases h), .inr ⟨rfl, pre, k, rfl, h2, HIF.out.2 (by simp), ?_, ?_⟩, ?_, ?_⟩
      · exact (h3.set 0 (.int .i64 (k : Int))).far (p := ⟨w.heap.size + 1, 0, none⟩) (by simp) _
      · exact (h4.far (p := ⟨w.heap.size, 0, none⟩) (by simp) _).set 0 (.bool true)
      · exact (h8.far (p := ⟨w.heap.size, 0, none⟩) hn8 _).far (p := ⟨w.heap.size + 1, 0, none⟩) hn9 _
      · exact (hb.setCell (p := ⟨w.heap.size, 0, none⟩) (Nat.le_refl _) _).setCell (p := ⟨w.heap.size + 1, 0, none⟩) (by simp) _
    · have hne : winS bs n.toNat k ≠ s := fun h => e (HIF.out.1 h)
      have HN := Lib.hid hne
      have e2 : (((p : Int) == (x : Int)) && ((q : Int) == (y : Int))) = false := by
        rw [Bool.and_eq_false_iff, beq_eq_false_iff_ne, beq_eq_false_iff_ne]
        omega
      clear hne
      gi_wp2_with fail
      all_goals
        refine ⟨none, rfl, KeepsFrom.refl _ _, (fun _ => Kept.refl _ _ _), .inl ⟨rfl, ?_, h3, h4⟩, h8, hb⟩
        intro j hj
        rcases List.mem_append.1 hj with hj | hj
        · exact h2 j hj
        · obtain rfl : j = k := by simpa using hj
          exact HN.out
  case fin =>
    rintro D cd xs W hD ⟨m, rfl, hle, hm⟩ ⟨hI, h8, hb⟩ hK
    rcases hI with ⟨rfl, h2, h3, h4⟩ | ⟨rfl, ini, k, e1, h2, h2s, h3, h4⟩
    · obtain rfl := hm rfl
      have h30 := h3.cell 0
      have h40 := h4.cell 0
      have h3f := h3.frozen 0
      have h4f := h4.frozen 0
      simp at h30 h40
      dsimp only
      gi_wp2_with fail
      have hW1 : Own ((W.setCell ⟨w.heap.size, 0, none⟩ (.int .i64 0)).setCell ⟨w.heap.size + 1, 0, none⟩ (.bool false)) w.heap.size 3 [.int .i64 0] := (h3.set 0 _).far (p := ⟨w.heap.size + 1, 0, none⟩) (by simp) _
      have hW2 : Own ((W.setCell ⟨w.heap.size, 0, none⟩ (.int .i64 0)).setCell ⟨w.heap.size + 1, 0, none⟩ (.bool false)) (w.heap.size + 1) 4 [.bool false] := (h4.far (p := ⟨w.heap.size, 0, none⟩) (by simp) _).set 0 _
      have hb2 := (hb.setCell (p := ⟨w.heap.size, 0, none⟩) (Nat.le_refl _) (.int .i64 0)).setCell (p := ⟨w.heap.size + 1, 0, none⟩) (by simp) (.bool false)
      have hK2 := ((KeepsOthers.setCell W ⟨w.heap.size, 0, none⟩ (.int .i64 0)).trans (KeepsOthers.setCell _ ⟨w.heap.size + 1, 0, none⟩ (.bool false))).same D _ hK rfl
      generalize (W.setCell ⟨w.heap.size, 0, none⟩ (.int .i64 0)).setCell ⟨w.heap.size + 1, 0, none⟩ (.bool false) = W2 at *
      have hT := Turn.put (B := W0.heap.size) 43 (.deferred none) hK2 rfl hD
      have c1 := (hT.own hW1 (.inr (by decide))).cell 0
      have c2 := (hT.own hW2 (.inr (by decide))).cell 0
      simp at c1 c2
      have hu := HF.out.unique (j := 0) (c := false) (.inr ⟨rfl, rfl, fun j hj => by
        rw [winL_length] at hj
        rw [winL_getD bs n j hj]
        exact h2 j (by rw [List.mem_range, ← HL.out]; exact hj)⟩)
      rw [hu.1, hu.2]
      refine ⟨by simp, .inl ⟨_, _, rfl, run_takeDeferred hK2, ?_⟩⟩
      exact ⟨.tuple #[.int .i64 0, .bool false], by simp [results, Try.f19, go_sem, c1, c2], rfl, hT.below hb2 hsw (Nat.le_refl _)⟩
    · obtain ⟨m, rfl⟩ : ∃ m', m = m' + 1 := by
        cases m with
        | zero => simp at e1
        | succ m => exact ⟨m, rfl⟩
      rw [List.range_succ] at e1
      obtain ⟨rfl, e5⟩ := List.append_inj' e1 rfl
      obtain rfl : m = k := by simpa using e5
      have hT := Turn.put (B := W0.heap.size) 43 (.deferred none) hK rfl hD
      have c1 := (hT.own h3 (.inr (by decide))).cell 0
      have c2 := (hT.own h4 (.inr (by decide))).cell 0
      simp at c1 c2
      have hlt : ∀ j, j ≤ m → j < winN n bs.length := fun j hj => by rw [HL.out]; omega
      have hu := HF.out.unique (j := m) (c := true) (.inl ⟨rfl, by rw [winL_length]; exact hlt m (Nat.le_refl _), by rw [winL_getD bs n m (hlt m (Nat.le_refl _))]; exact h2s, fun j hj => by
        rw [winL_getD bs n j (hlt j (by omega))]
        exact h2 j (by rw [List.mem_range]; exact hj)⟩)
      have HU := Lib.hid hu
      clear hu
      dsimp only
      gi_wp2_with fail
      rw [HU.out.1, HU.out.2]
      refine ⟨by simp, .inl ⟨_, _, rfl, run_takeDeferred hK, ?_⟩⟩
      exact ⟨.tuple #[.int .i64 (m : Int), .bool true], by simp [results, Try.f19, go_sem, c1, c2], rfl, hT.below hb hsw (Nat.le_refl _)⟩
end Go.Proofs.Ytlkojonchlcpdaa
