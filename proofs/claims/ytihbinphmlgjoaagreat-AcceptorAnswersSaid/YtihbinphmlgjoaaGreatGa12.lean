/-
  Contracts of package tape: with, record. No claim of their own.
-/
import Derived.Test.YtihbinphmlgjoaaGreatGa11
import Derived.RangeFuncNested
import Derived.RangeFuncBound
import Derived.RangeFuncCalls
import Derived.RangeFuncLeaves
import Derived.Shelf.Abstract
import Derived.Shelf.RegionOpen
import Derived.WalkKit
import Derived.OwnWalkIn
import Derived.TacticsInMore
import Derived.LoopNIn
import Derived.LoopIn
namespace Go.Proofs.YtihbinphmlgjoaaGreat
open Go.RowKit
set_option linter.unusedVariables false
set_option linter.unusedSimpArgs false

theorem Ro.chgs {l : List Nat} {w w' : World} {B : Nat} {a : Option Addr} {vs : List Value} (h : Ro w B a vs) (hc : Chg l w w') (hl : ∀ x, a = some x → x.block ∉ l) : Ro w' B a vs := by
  rcases h with h | ⟨b, off, rfl, hb, hcl⟩
  · exact .inl h
  · exact .inr ⟨b, off, rfl, hb, fun i hi => hc.cell (hcl i hi) (hl _ rfl)⟩
/-- a record more: what reads as what -/
structure WithK (w w' : World) (vF vE vF' vE' : Value) (L : List Rec) (r : Rec) : Prop where
  fr : Lst w' 0 5 vF' (u8s (frs (L ++ [r])))
  en : Lst w' 0 3 vE' (i64s (ens (L ++ [r])))
  sameF : ∀ x ∈ bl vF', x ∈ bl vF ∨ w.heap.size ≤ x
  sameE : ∀ x ∈ bl vE', x ∈ bl vE ∨ w.heap.size ≤ x
  keepF : ∀ u zs, Lst w 0 5 u zs → (∀ g, u.ownBlock = some g → vF.ownBlock = some g → zs.length ≤ (frs L).length) → Lst w' 0 5 u zs
  keepE : ∀ u zs, Lst w 0 3 u zs → (∀ g, u.ownBlock = some g → vE.ownBlock = some g → zs.length ≤ L.length) → Lst w' 0 3 u zs
  chg : Chg (bl vF ++ bl vE) w w'
theorem ne_u8_int : 5 ≠ 3 := by decide
theorem Lst.typ {w : World} {e : TypeId} {v : Value} {xs : List Value} (h : Lst w 0 e v xs) {g : Nat} (hg : v.ownBlock = some g) : ∃ c, w.heap[g]? = some (.cells c e (0, 0)) := by
  rcases h.2 with ⟨rfl, _⟩ | ⟨g1, c1, r1, rfl, _, h1, _⟩
  · simp [Value.ownBlock] at hg
  · simp only [Value.ownBlock, Option.some.injEq] at hg
    subst hg
    exact ⟨_, h1⟩
/-- slices lie as they lay where blocks of other elements turn -/
theorem Lst.other {w w' : World} {e : TypeId} {v : Value} {xs : List Value} (h : Lst w 0 e v xs) {l : List Nat} (hc : Chg l w w') (hl : ∀ g ∈ l, g < w.heap.size → ∃ c t m, w.heap[g]? = some (.cells c t m) ∧ t ≠ e) : Lst w' 0 e v xs :=
  h.chg hc fun g hg hm => by
    obtain ⟨c, hh⟩ := h.typ hg
    obtain ⟨c2, t2, m2, h2, h3⟩ := hl g hm (h.lt g hg).2
    rw [hh] at h2
    cases h2
    exact h3 rfl
theorem ne_ct_u8 : 137 ≠ 5 := by decide
theorem ne_ct_int : 137 ≠ 3 := by decide
theorem with_fin {w X w2 w4 W : World} {vF vE v2 v4 : Value} {L : List Rec} {r : Rec} {cs ds : List Value} {N : Nat} {x : Value} (hF : Lst w 0 5 vF (u8s (frs L))) (hE : Lst w 0 3 vE (i64s (ens L))) (hCX : Chg [] w X) (hs : X.heap.size = w.heap.size + 2)
    (hO : Own X w.heap.size 137 cs) (hP : Own X (w.heap.size + 1) 137 ds) (K3 : AppK X w2 5 vF v2 (u8s (frs L)) (u8s (frame r)))
    (K4 : AppK (w2.setCell ⟨w.heap.size, 1, none⟩ x) w4 3 vE v4 (i64s (ens L)) [.int .i64 (N : Int)]) (hN : (frs (L ++ [r])).length = N) (hW : Chg [w.heap.size, w.heap.size + 1] w4 W) : WithK w W vF vE v2 v4 L r := by
  have hFl := hF.bl_lt
  have hEl := hE.bl_lt
  have hFX := hF.kept0 hCX
  have hO2 := hO.chg K3.chg (fun hx => by have := hFl _ hx; omega)
  have hP2 := hP.chg K3.chg (fun hx => by have := hFl _ hx; omega)
  have hs2 : X.heap.size ≤ w2.heap.size := K3.chg.size
  have hset : Chg [w.heap.size] w2 (w2.setCell ⟨w.heap.size, 1, none⟩ x) := (Chg.refl _ _).setCell (by simp) _
  have hO3 := hO2.set 1 x
  have hP3 := hP2.far (p := ⟨w.heap.size, 1, none⟩) (by simp) x
  have hO4 := hO3.chg K4.chg (fun hx => by have := hEl _ hx; omega)
  have hP4 := hP3.chg K4.chg (fun hx => by have := hEl _ hx; omega)
  -- slices of bytes from w2 on
  have hU : ∀ u zs, Lst w2 0 5 u zs → Lst W 0 5 u zs := by
    intro u zs hu
    have h1 : Lst (w2.setCell ⟨w.heap.size, 1, none⟩ x) 0 5 u zs := hu.other hset (fun g hg _ => by simp at hg; subst hg; exact ⟨_, _, _, hO2, ne_ct_u8⟩)
    have hE2 := (hE.kept0 hCX).other K3.chg (fun g hg _ => by obtain ⟨c, hc⟩ := hFX.typ (mem_bl.1 hg); exact ⟨_, _, _, hc, ne_u8_int⟩)
    have hE3 := hE2.other hset (fun g hg _ => by simp at hg; subst hg; exact ⟨_, _, _, hO2, ne_ct_int⟩)
    have h2 := h1.other K4.chg (fun g hg _ => by obtain ⟨c, hc⟩ := hE3.typ (mem_bl.1 hg); exact ⟨_, _, _, hc, ne_u8_int.symm⟩)
    exact h2.other hW (fun g hg _ => by
      simp at hg
      rcases hg with rfl | rfl
      · exact ⟨_, _, _, hO4, ne_ct_u8⟩
      · exact ⟨_, _, _, hP4, ne_ct_u8⟩)
  have hI : ∀ u zs, Lst w4 0 3 u zs → Lst W 0 3 u zs := fun u zs hu => hu.other hW (fun g hg _ => by
      simp at hg
      rcases hg with rfl | rfl
      · exact ⟨_, _, _, hO4, ne_ct_int⟩
      · exact ⟨_, _, _, hP4, ne_ct_int⟩)
  have e1 : u8s (frs L) ++ u8s (frame r) = u8s (frs (L ++ [r])) := by rw [frs_snoc]; simp [u8s]
  have e2 : i64s (ens L) ++ [.int .i64 (N : Int)] = i64s (ens (L ++ [r])) := by rw [ens_snoc, hN]; simp [i64s]
  refine ⟨?_, ?_, ?_, ?_, ?_, ?_, ?_⟩
  · have := K3.lst
    rw [e1] at this
    exact hU _ _ this
  · have := K4.lst
    rw [e2] at this
    exact hI _ _ this
  · intro y hy
    rcases K3.bl y hy with h | h
    · exact .inl h
    · right; omega
  · intro y hy
    rcases K4.bl y hy with h | h
    · exact .inl h
    · rw [set_size] at h; right; omega
  · intro u zs hu hl
    exact hU _ _ (K3.keep u zs (hu.kept0 hCX) (fun g h1 h2 => by rw [u8s_length]; exact hl g h1 h2))
  · intro u zs hu hl
    have h1 := (hu.kept0 hCX).other K3.chg (fun g hg _ => by obtain ⟨c, hc⟩ := hFX.typ (mem_bl.1 hg); exact ⟨_, _, _, hc, ne_u8_int⟩)
    have h2 := h1.other hset (fun g hg _ => by simp at hg; subst hg; exact ⟨_, _, _, hO2, ne_ct_int⟩)
    exact hI _ _ (K4.keep u zs h2 (fun g h1 h2 => by rw [i64s_length, ens_len]; exact hl g h1 h2))
  · have h1 : Chg (bl vF ++ bl vE) w w2 := (hCX.mono (by simp)).trans (K3.chg.mono (fun y hy => .inl (by simp [hy])))
    have h2 := h1.then hset (fun y hy => by simp at hy; subst hy; right; exact Nat.le_refl _)
    have h3 := h2.then K4.chg (fun y hy => .inl (by simp [hy]))
    exact h3.then hW (fun y hy => by simp at hy; right; omega)
set_option maxHeartbeats 1000000 in
set_option maxRecDepth 100000 in
theorem with_any (w : World) (h : Nat) (aF aE : Option Addr) (nF cF nE cE : Nat) (L : List Rec) (a : Option Addr) (r : Rec) (c B : Nat) (hF : Lst w 0 5 (.slice aF nF cF) (u8s (frs L))) (hE : Lst w 0 3 (.slice aE nE cE) (i64s (ens L)))
    (hro : Ro w B a (u8s r)) (hB : B ≤ w.heap.size) (hsep : ∀ x, a = some x → x.block ∉ bl (.slice aF nF cF)) (hr : okR r) (hok : okL L) (hl : (frs L).length ≤ 1000000) :
    Calls Tryz.prog 91 #[cv h (.slice aF nF cF) (.slice aE nE cE), .slice a r.length c] w fun e w' => ∃ vF' vE', e = .returned (cv h vF' vE') ∧ Hid (WithK w w' (.slice aF nF cF) (.slice aE nE cE) vF' vE' L r) := by
  obtain ⟨n, HN⟩ : ∃ n, Hid (r.length = n) := ⟨_, Lib.hid rfl⟩
  have hr1 := hr.1
  have hr3 := hr.2
  rw [HN.out] at hr1 hr3 ⊢
  obtain ⟨X, HX⟩ : ∃ X, Hid ((w.alloc (.cells #[.int .i64 (h : Int), .slice aF nF cF, .slice aE nE cE] 137)).alloc (.cells #[.int .i64 0, .slice none 0 0, .slice none 0 0] 137) = X) := ⟨_, Lib.hid rfl⟩
  have hCX : Chg [] w X := by rw [← HX.out]; exact ((Chg.refl [] w).alloc _).alloc _
  have hO : Own X w.heap.size 137 [.int .i64 (h : Int), .slice aF nF cF, .slice aE nE cE] := by rw [← HX.out]; exact (Own.new w _ _).alloc _
  have hP : Own X (w.heap.size + 1) 137 [.int .i64 0, .slice none 0 0, .slice none 0 0] := by rw [← HX.out]; have := Own.new (w.alloc (.cells #[.int .i64 (h : Int), .slice aF nF cF, .slice aE nE cE] 137)) 137 [.int .i64 0, .slice none 0 0, .slice none 0 0]; rwa [World.size_alloc] at this
  have hsX : X.heap.size = w.heap.size + 2 := by rw [← HX.out]; simp
  have H1 := Lib.hid (putNumber_any X (.slice aF nF cF) _ n 2 (hF.kept0 hCX) (by simp; omega) (by omega) (by omega))
  have HO := Lib.hid hO
  have HP := Lib.hid hP
  have HS := Lib.hid hsX
  have HF := Lib.hid hF
  have HE := Lib.hid hE
  have HRO := Lib.hid (hro.mono hB)
  have HCX := Lib.hid hCX
  have HSP := Lib.hid hsep
  have e1 : IntKind.u32.wrap (n : Int) = (n : Int) := by rw [IntKind.wrap_u32]; omega
  clear hO hP hsX hF hE hro hsep hCX
  go_enter Tryz.func91, Tryz.ntmps91
  go_wp2_with fail
  simp only [HX.out]
  refine H1.out.mono ?_
  rintro e w1 ⟨v1, rfl, K1⟩
  have hsz := HS.out
  have hFX := HF.out.kept0 HCX.out
  have hroX := HRO.out.chgs HCX.out (fun x _ => by simp)
  have hro1 := hroX.chgs K1.out.chg HSP.out
  have HRO1 := Lib.hid (hro1.mono (Nat.le_trans HCX.out.size K1.out.chg.size))
  have hFlt := HF.out.bl_lt
  have hne : w.heap.size ∉ bl (.slice aF nF cF) ∧ w.heap.size + 1 ∉ bl (.slice aF nF cF) := ⟨fun hx => by have := hFlt _ hx; omega, fun hx => by have := hFlt _ hx; omega⟩
  have hA : ∀ v2 w2, AppK w1 w2 5 v1 v2 (u8s (frs L) ++ u8s (be 2 n)) (u8s r) → ∃ a2 c2, v2 = .slice a2 (frs (L ++ [r])).length c2 ∧ Hid (AppK X w2 5 (.slice aF nF cF) v2 (u8s (frs L)) (u8s (frame r))) ∧
      w2.cell? ⟨w.heap.size, 0, none⟩ = some (.int .i64 (h : Int)) ∧ w2.cell? ⟨w.heap.size, 1, none⟩ = some (.slice aF nF cF) ∧ w2.cell? ⟨w.heap.size, 2, none⟩ = some (.slice aE nE cE) ∧ w2.frozen? ⟨w.heap.size, 1, none⟩ = false ∧ Hid (Own w2 w.heap.size 137 [.int .i64 (h : Int), .slice aF nF cF, .slice aE nE cE]) ∧
      Hid (∀ u, Lst (w2.setCell ⟨w.heap.size, 1, none⟩ u) 0 3 (.slice aE nE cE) (i64s (ens L))) := by
    intro v2 w2 K2
    have K3 := AppK.trans hFX K1.out K2
    have e : u8s (be 2 n) ++ u8s r = u8s (frame r) := by rw [← HN.out]; simp [u8s, frame]
    rw [e] at K3
    have hl2 := K3.lst
    have e2 : u8s (frs L) ++ u8s (frame r) = u8s (frs (L ++ [r])) := by rw [frs_snoc]; simp [u8s]
    rw [e2] at hl2
    obtain ⟨a2, c2, rfl, _⟩ := hl2.form
    rw [u8s_length] at K3 ⊢
    have hO2 := HO.out.chg K3.chg hne.1
    refine ⟨a2, c2, rfl, Lib.hid K3, by rw [hO2.cell]; rfl, by rw [hO2.cell]; rfl, by rw [hO2.cell]; rfl, hO2.frozen 1, Lib.hid hO2, Lib.hid fun u => ?_⟩
    have hcw : Chg (bl (.slice aF nF cF) ++ [w.heap.size]) w (w2.setCell ⟨w.heap.size, 1, none⟩ u) := ((HCX.out.mono (by simp)).trans (K3.chg.mono (fun x hx => .inl (by simp [hx])))).setCell (by simp) _
    refine HE.out.chg hcw fun g hg hm => ?_
    rcases List.mem_append.1 hm with hm | hm
    · exact HE.out.off HF.out ne_u8_int.symm g hg hm
    · have := (HE.out.lt g hg).2
      simp at hm
      omega
  have HA := Lib.hid hA
  have hlE : (i64s (ens L)).length ≤ 1000000 := by rw [i64s_length, ens_len]; have := frs_ge hok; omega
  have HL2 := Lib.hid (show (frs (L ++ [r])).length = (frs L).length + 2 + n by rw [frs_snoc_len, HN.out])
  obtain ⟨N, HNN⟩ : ∃ N, Hid ((frs (L ++ [r])).length = N) := ⟨_, Lib.hid rfl⟩
  have HLE := Lib.hid hlE
  clear hA hFX hroX hro1 hFlt hne hlE hsz
  have hB4 : ∀ x v4 w4, AppK x w4 3 (.slice aE nE cE) v4 (i64s (ens L)) [.int .i64 (N : Int)] → (∃ a4 n4 c4, v4 = .slice a4 n4 c4) ∧ (∀ b cs, b = w.heap.size ∨ b = w.heap.size + 1 → Own x b 137 cs → Own w4 b 137 cs) := by
    intro x v4 w4 K4
    refine ⟨K4.lst.shape, fun b cs hb ho => ho.chg K4.chg fun hx => ?_⟩
    have := HE.out.bl_lt _ hx
    omega
  have HB4 := Lib.hid hB4
  clear hB4
  go_wp2_with (first
    | (at_builtin; refine wpList_appK rfl _ _ 44 rfl 5 (.int .u8 0) 1 Tryz.underlying44 infoU8 rfl v1 _ (by rfl) K1.out.lst a w1.heap.size n c (u8s r) (by rfl) (by rw [u8s_length, HN.out]) HRO1.out (u8s_one r) (by simp; omega) (by simp; omega) ?_; intro v2 w2 K2; obtain ⟨a2, c2, rfl, K3, o0, o1, o2, f1, HO2, HE2⟩ := HA.out v2 w2 K2.out; clear K2 HA; rw [HNN.out] at K3 ⊢)
    | (at_builtin; refine wpList_appK1 rfl _ _ 77 rfl 3 (.int .i64 0) 8 Tryz.underlying77 infoInt rfl _ rfl (.slice aE nE cE) _ (by rfl) (HE2.out _) _ (by rfl) (by simp) (by have := HLE.out; omega) (by have := HLE.out; omega) ?_; intro v4 w4 K4; obtain ⟨⟨a4, n4, c4, rfl⟩, hk4⟩ := HB4.out _ v4 w4 K4.out; have hO4 := hk4 _ _ (.inl rfl) (HO2.out.set 1 _); have hP4 := hk4 _ _ (.inr rfl) ((HP.out.chg K3.out.chg (fun hx => by have h1 := HF.out.bl_lt _ hx; omega)).far (p := ⟨w.heap.size, 1, none⟩) (by simp) _); have q0 := hO4.cell 0; have q1 := hO4.cell 1; have q2 := hO4.cell 2; have g2 := hO4.frozen 2; have p0 := hP4.cell 0; have p1 := hP4.cell 1; have p2 := hP4.cell 2; have k0 := hP4.frozen 0; have k1 := hP4.frozen 1; have k2 := hP4.frozen 2; simp at q0 q1 q2 p0 p1 p2; clear hk4 hO4 hP4 HB4 o0 o1 o2 f1)
    | fail)
  have HW := Lib.hid (fun W hW => with_fin HF.out HE.out HCX.out HS.out HO.out HP.out K3.out K4.out HNN.out (W := W) hW)
  clear HF HE HCX HS HO HP K3 K4 HE2 HO2 HL2 HLE HRO1 K1 H1
  refine bodyPost_ret (v := cv h (.slice a2 N c2) (.slice a4 n4 c4)) (by simp [results, Tryz.results91, go_sem, q0, q1, q2, g2, p0, p1, p2, k0, k1, k2]) rfl ⟨_, _, rfl, Lib.hid (HW.out _ ?_)⟩
  exact ((((Chg.refl _ w4).setCell (by simp) _).setCell (by simp) _).setCell (by simp) _).setCell (by simp) _

theorem Lst.rowU8 {w : World} {aF : Option Addr} {nF cF : Nat} {bs : List UInt8} (h : Lst w 0 5 (.slice aF nF cF) (u8s bs)) (hp : 0 < bs.length) : ∃ g, aF = some ⟨g, 0, none⟩ ∧ nF = bs.length ∧ bs.length ≤ cF ∧ cF ≤ maxLen ∧ g < w.heap.size ∧ ∀ i, i < bs.length → w.cell? ⟨g, i, none⟩ = some (.int .u8 ((bs.getD i 0).toNat : Nat)) := by
  rcases h.2 with ⟨h0, h1⟩ | ⟨g, cap, cur, h0, hb, hg, hnc, hcm, hcs, htake⟩
  · rw [u8s_length] at h1; omega
  · injection h0 with h1 h2 h3
    subst h1 h2 h3
    rw [u8s_length] at hnc ⊢
    refine ⟨g, rfl, rfl, hnc, hcm, (Array.getElem?_eq_some_iff.1 hg).1, fun i hi => ?_⟩
    rw [cell_of_row w g i cur _ (0, 0) hg]
    have h4 : (u8s bs)[i]? = some (.int .u8 ((bs.getD i 0).toNat : Nat)) := by simp [u8s, List.getD, hi]
    rw [← h4, ← htake, List.getElem?_take, if_pos (by rw [u8s_length]; omega)]
    simp
theorem Lst.rowInt {w : World} {aF : Option Addr} {nF cF : Nat} {l : List Int} (h : Lst w 0 3 (.slice aF nF cF) (i64s l)) (hp : 0 < l.length) : ∃ g, aF = some ⟨g, 0, none⟩ ∧ nF = l.length ∧ l.length ≤ cF ∧ cF ≤ maxLen ∧ g < w.heap.size ∧ ∀ i, i < l.length → w.cell? ⟨g, i, none⟩ = some (.int .i64 (l.getD i 0)) := by
  rcases h.2 with ⟨h0, h1⟩ | ⟨g, cap, cur, h0, hb, hg, hnc, hcm, hcs, htake⟩
  · rw [i64s_length] at h1; omega
  · injection h0 with h1 h2 h3
    subst h1 h2 h3
    rw [i64s_length] at hnc ⊢
    refine ⟨g, rfl, rfl, hnc, hcm, (Array.getElem?_eq_some_iff.1 hg).1, fun i hi => ?_⟩
    rw [cell_of_row w g i cur _ (0, 0) hg]
    have h4 : (i64s l)[i]? = some (.int .i64 (l.getD i 0)) := by simp [i64s, List.getD, hi]
    rw [← h4, ← htake, List.getElem?_take, if_pos (by rw [i64s_length]; omega)]
    simp
end Go.Proofs.YtihbinphmlgjoaaGreat
namespace Go.Proofs.YtihbinphmlgjoaaGreat
open Go.RowKit
set_option linter.unusedVariables false
set_option linter.unusedSimpArgs false

/-- a slice of bytes that is told -/
def Told (r : Rec) (w : World) (e : Ending) (w' : World) : Prop := ∃ a c, e = .returned (.slice a r.length c) ∧ Ro w' w'.heap.size a (u8s r) ∧ r.length ≤ c ∧ c ≤ 9223372036854775807 ∧ Chg [] w w'
set_option maxHeartbeats 1000000 in
set_option maxRecDepth 100000 in
theorem record_any (w : World) (h : Nat) (aF aE : Option Addr) (nF cF nE cE : Nat) (L : List Rec) (i : Nat) (hF : Lst w 0 5 (.slice aF nF cF) (u8s (frs L))) (hE : Lst w 0 3 (.slice aE nE cE) (i64s (ens L))) (hi : i < L.length) (hok : okL L) (hl : (frs L).length ≤ 1000000) :
    Calls Tryz.prog 67 #[cv h (.slice aF nF cF) (.slice aE nE cE), .int .i64 (i : Int)] w (Told (L[i]) w) := by
  have hge := frs_ge hok
  obtain ⟨g, rfl, rfl, hcF, hcm, hg, hgc⟩ := hF.rowU8 (by omega)
  obtain ⟨g', rfl, rfl, hcE, _, hg', hgc'⟩ := hE.rowInt (by rw [ens_len]; omega)
  rw [ens_len] at hgc' hcE ⊢
  have hr := frs_rec L i hi
  have hok1 : okR L[i] := hok _ (List.getElem_mem hi)
  have hle := frs_take_le L (i + 1)
  have hle0 := frs_take_le L i
  obtain ⟨r, HR⟩ : ∃ r, Hid (L[i] = r) := ⟨_, Lib.hid rfl⟩
  rw [HR.out] at hr hok1 ⊢
  have he1 : (ens L).getD i 0 = (((frs (L.take (i + 1))).length : Nat) : Int) := ens_get L i hi
  obtain ⟨T, HT⟩ : ∃ T, Hid ((frs (L.take (i + 1))).length = T) := ⟨_, Lib.hid rfl⟩
  obtain ⟨S, HS⟩ : ∃ S, Hid ((frs (L.take i)).length = S) := ⟨_, Lib.hid rfl⟩
  obtain ⟨N, HN⟩ : ∃ N, Hid ((frs L).length = N) := ⟨_, Lib.hid rfl⟩
  obtain ⟨K, HK⟩ : ∃ K, Hid (L.length = K) := ⟨_, Lib.hid rfl⟩
  obtain ⟨m, HM⟩ : ∃ m, Hid (r.length = m) := ⟨_, Lib.hid rfl⟩
  have h1 := hr.2
  have h2 := hok1.1
  have h3 := hok1.2
  rw [HT.out, HS.out, HM.out] at h1
  rw [HM.out] at h2 h3
  rw [HT.out] at he1 hle
  rw [HN.out] at hle hle0 hcF hl
  rw [HS.out] at hle0
  unfold maxLen at hcm
  have c1 := hgc' i hi
  rw [he1] at c1
  have HP := Lib.hid (show ∀ w', Chg [] w w' → Told r w (.returned (.slice (some ⟨g, S + 2, none⟩) m (cF - (S + 2)))) w' from fun w' hc => ⟨_, _, by rw [HM.out], by
    refine .inr ⟨g, S + 2, rfl, Nat.lt_of_lt_of_le hg hc.size, fun j hj => ?_⟩
    rw [u8s_length, HM.out] at hj
    refine hc.cell ?_ (by simp)
    rw [hgc _ (by rw [HN.out]; omega), u8s_getD r j (by rw [HM.out]; exact hj)]
    have h5 : r[j]? = (frs L)[S + 2 + j]? := by
      have := congrArg (fun l : List UInt8 => l[j]?) hr.1
      simp only [HS.out, HM.out, List.getElem?_take, if_pos hj, List.getElem?_drop] at this
      exact this.symm
    simp only [List.getD, h5], by rw [HM.out]; omega, by omega, hc⟩)
  have hc0 : i = 0 → S = 0 := by rintro rfl; rw [← HS.out]; rfl
  have c0 : 0 < i → w.cell? ⟨g', i - 1, none⟩ = some (.int .i64 (S : Int)) := by
    intro hp
    have := hgc' (i - 1) (by omega)
    rw [ens_get L (i - 1) (by omega), show i - 1 + 1 = i from by omega, HS.out] at this
    exact this
  have hKc : K ≤ cE := by rw [← HK.out]; exact hcE
  have hiK : i < K := by rw [← HK.out]; exact hi
  rw [HN.out, HK.out]
  have hKb : (K : Int) ≤ 1000000 := by rw [HK.out, HN.out] at hge; omega
  have hT1 : (S : Int) + 2 ≤ (T : Int) := by omega
  have hT2 : (T : Int) ≤ (cF : Int) := by omega
  have hT3 : (2 : Int) ≤ (T : Int) := by omega
  clear hgc hgc' hr hok1 he1 hi HR hcE hge hF hE hok
  by_cases hz : i = 0
  · have hS := hc0 hz
    have hcf : (cF = 2) = False := by simp; omega
    have eM : T - 2 = m := by omega
    clear h1
    subst hz
    subst hS
    clear hc0 c0
    go_enter Tryz.func67, Tryz.ntmps67
    go_wp2_with fail
    go_quiet (fail)
    go_wp2
    go_ret
    exact HP.out _ (((Chg.refl [] w).alloc _).drewN _)
  · have c0' := c0 (by omega)
    have hi2 : (1 : Int) ≤ (i : Int) := by omega
    have hi3 : (i : Int) < (K : Int) := by omega
    have hi4 : (i : Int) - 1 < (K : Int) := by omega
    have e1 : ((i : Int) - 1).toNat = i - 1 := by omega
    have hcf : (cF = 2 + S) = False := by simp; omega
    have hcf2 : (2 + S = cF) = False := by simp; omega
    have hcf3 : ¬ ((cF : Int) = 2 + (S : Int)) := by omega
    have eM : T - (2 + S) = m := by omega
    have HP2 := HP
    rw [Nat.add_comm S 2, ← eM] at HP2
    clear eM
    clear h1
    have hd : decide ((0 : Int) < (i : Int)) = true := by simp; omega
    have hi1 : i - 1 < K := by omega
    clear hc0 c0
    go_enter Tryz.func67, Tryz.ntmps67
    go_wp2_with fail
    go_quiet (fail)
    go_wp2
    go_ret
    exact HP2.out _ (((Chg.refl [] w).alloc _).drewN _)
end Go.Proofs.YtihbinphmlgjoaaGreat
namespace Go.Proofs.YtihbinphmlgjoaaGreat
open Go.RowKit
set_option linter.unusedVariables false
set_option linter.unusedSimpArgs false

/-- a sector is a superblock -/
def isSup (S : Sec) : Prop := ∃ h r b, h ≤ 1 ∧ r < 4294967296 ∧ b < 4294967296 ∧ S = supS h r b
/-- the numbers that a sector tells as a superblock -/
def supH (S : Sec) : Nat := (S.getD 0 0).toNat
def supR (S : Sec) : Nat := nb ((S.drop 1).take 4)
def supB (S : Sec) : Nat := nb ((S.drop 5).take 4)
theorem supR_lt {S : Sec} (h : S.length = 64) : supR S < 4294967296 := by
  have := nb_lt 4 ((S.drop 1).take 4) (by rw [List.length_take, List.length_drop]; omega)
  have h3 : (256 : Nat) ^ 4 = 4294967296 := by decide
  unfold supR; omega
theorem supB_lt {S : Sec} (h : S.length = 64) : supB S < 4294967296 := by
  have := nb_lt 4 ((S.drop 5).take 4) (by rw [List.length_take, List.length_drop]; omega)
  have h3 : (256 : Nat) ^ 4 = 4294967296 := by decide
  unfold supB; omega
theorem supH_lt (S : Sec) : supH S < 256 := UInt8.toNat_lt _
theorem sup_of {h r b : Nat} (hh : h ≤ 1) (hr : r < 4294967296) (hb : b < 4294967296) : supH (supS h r b) = h ∧ supR (supS h r b) = r ∧ supB (supS h r b) = b := by
  obtain ⟨a1, a2, a3⟩ := supS_parts (h := h) (r := r) (b := b)
  have h3 : (256 : Nat) ^ 4 = 4294967296 := by decide
  unfold supH supR supB
  rw [a1, a2, a3, nb_be 4 r (by omega), nb_be 4 b (by omega)]
  refine ⟨?_, rfl, rfl⟩
  simp
  omega
theorem isSup_iff {S : Sec} (hS : S.length = 64) : isSup S ↔ supH S ≤ 1 ∧ supS (supH S) (supR S) (supB S) = S := by
  constructor
  · rintro ⟨h, r, b, h1, h2, h3, rfl⟩
    obtain ⟨e1, e2, e3⟩ := sup_of h1 h2 h3
    rw [e1, e2, e3]
    exact ⟨h1, rfl⟩
  · rintro ⟨h1, h2⟩
    exact ⟨_, _, _, h1, supR_lt hS, supB_lt hS, h2.symm⟩
theorem exec_load37 {w : World} {a : Act} {o : Oper} {x : Operand} (ho : o.op = .load 53 x) (b off : Nat) (hx : a.eval x = .pointer (some ⟨b, off, none⟩)) (S : Sec) (hr : w.rangeAt b off (u8s S)) (hS : S.length = 64) : Sem.run Tryz.prog (execOp a.eval o) w = .ok (.value (sv S)) w := by
  unfold execOp
  simp only [ho, hx, Instr.loadAt, Instr.sureAddr, Sem.run_bind, Sem.run_pure, Result.andThen_ok, load37 hr hS]
theorem far3r {w : World} {B b o i j k : Nat} {x y z : Value} {vs : List Value} (h : w.rangeAt b o vs) (hne : b ≠ B) : (((w.setCell ⟨B, i, none⟩ x).setCell ⟨B, j, none⟩ y).setCell ⟨B, k, none⟩ z).rangeAt b o vs :=
  Chg.range (l := [B]) ((((Chg.refl _ w).setCell (by simp) _).setCell (by simp) _).setCell (by simp) _) h (by simp; exact hne)
theorem chg3 {a w : World} {B i j k : Nat} {x y z : Value} (h : Chg [] a w) (hB : a.heap.size ≤ B) : Chg [] a (((w.setCell ⟨B, i, none⟩ x).setCell ⟨B, j, none⟩ y).setCell ⟨B, k, none⟩ z) :=
  ((h.setCell (p := ⟨B, i, none⟩) (.inr hB) _).setCell (p := ⟨B, j, none⟩) (.inr hB) _).setCell (p := ⟨B, k, none⟩) (.inr hB) _
/-- a goal to which several ways lead is shown once -/
theorem both {G H : Prop} (main : G → H) (fin : G) : H := main fin
/-- what superOf tells -/
def SupT (S : Sec) (w : World) (e : Ending) (w' : World) : Prop :=
  e = .returned (.tuple #[pv (supH S) (supR S) (supB S), .bool (decide (supH S ≤ 1 ∧ supS (supH S) (supR S) (supB S) = S))]) ∧ Chg [] w w'
set_option maxHeartbeats 4000000 in
set_option maxRecDepth 100000 in
theorem superOf_any (w : World) (S : Sec) (hS : S.length = 64) :
    Calls Tryz.prog 60 #[sv S] w (SupT S w) := by
  obtain ⟨X, HX⟩ : ∃ X, Hid ((w.alloc (.cells (u8s S).toArray 53)).alloc (.cells #[.int .u8 0, .int .u32 0, .int .u32 0] 142) = X) := ⟨_, Lib.hid rfl⟩
  have hO : Own X w.heap.size 53 (u8s S) := by rw [← HX.out]; exact (Own.new w 53 (u8s S)).alloc _
  have hP : Own X (w.heap.size + 1) 142 [.int .u8 0, .int .u32 0, .int .u32 0] := by rw [← HX.out]; have := Own.new (w.alloc (.cells (u8s S).toArray 53)) 142 [.int .u8 0, .int .u32 0, .int .u32 0]; rwa [World.size_alloc] at this
  have hsX : X.heap.size = w.heap.size + 2 := by rw [← HX.out]; simp
  have hcell : ∀ W, Chg [] X W → ∀ i, i < 64 → W.cell? ⟨w.heap.size, i, none⟩ = some (.int .u8 ((S.getD i 0).toNat : Nat)) := fun W hW i hi => by
    rw [(hO.chg hW (by simp)).cell, List.getElem?_eq_getElem (by rw [u8s_length, hS]; exact hi)]
    simp [u8s, List.getD, hS, hi]
  have hnum : ∀ W k, Chg [] X W → k + 4 ≤ 64 → Calls Tryz.prog 107 #[.slice (some ⟨w.heap.size, k, none⟩) 4 (64 - k)] W fun e w' => e = .returned (.int .u32 ((nb ((S.drop k).take 4) : Nat) : Int)) ∧ W = w' := fun W k hW hk => by
    have e : ((S.drop k).take 4).length = 4 := by rw [List.length_take, List.length_drop, hS]; omega
    have h := number_any W (some ⟨w.heap.size, k, none⟩) ((S.drop k).take 4) (64 - k) W.heap.size (by
      refine .inr ⟨w.heap.size, k, rfl, by have := hW.size; omega, fun i hi => ?_⟩
      rw [u8s_length, e] at hi
      rw [hcell W hW _ (by omega), u8s_getD _ _ (by rw [e]; exact hi)]
      simp [List.getD, List.getElem?_take, hi, List.getElem?_drop]) (by omega)
    rw [e] at h
    exact h
  have c0 := hcell X (Chg.refl _ _) 0 (by omega)
  obtain ⟨x, HXX⟩ : ∃ x, Hid ((S.getD 0 0).toNat = x) := ⟨_, Lib.hid rfl⟩
  obtain ⟨r, HRR⟩ : ∃ r, Hid (nb ((S.drop 1).take 4) = r) := ⟨_, Lib.hid rfl⟩
  obtain ⟨b, HBB⟩ : ∃ b, Hid (nb ((S.drop 5).take 4) = b) := ⟨_, Lib.hid rfl⟩
  rw [HXX.out] at c0
  have h1 := fun W hW => hnum W 1 hW (by omega)
  have h2 := fun W hW => hnum W 5 hW (by omega)
  simp only [HRR.out] at h1
  simp only [HBB.out] at h2
  have H1 := Lib.hid h1
  have H2 := Lib.hid h2
  clear h1 h2
  have HO := Lib.hid hO
  have HP := Lib.hid hP
  have HS := Lib.hid hsX
  have hCX : Chg [] w X := by rw [← HX.out]; exact ((Chg.refl [] w).alloc _).alloc _
  have HC := Lib.hid hCX
  have HL := Lib.hid hS
  clear hO hP hsX hcell hnum hCX hS
  go_enter Tryz.func60, Tryz.ntmps60
  go_wp2_with (first
    | (refine wpList_box37 rfl _ rfl S rfl ?_)
    | fail)
  simp only [HX.out]
  apply both
  intro FIN
  refine wp_region_held_drew (S := (fun w' => w'.cell? ⟨w.heap.size, 0, none⟩ = some (.int .u8 (x : Int)) ∧ Chg [] X w')) (by kernel_rfl) ⟨c0, (Chg.refl [] X).drew⟩ (fun hHeld => ?_)
  refine wpAnyH_take (i := 0) (v := ?_) rfl (by kernel_rfl) (by kernel_rfl) (by kernel_rfl) (fun _ _ _ h => h) (Or.inl ⟨by kernel_rfl, ?_⟩) hHeld ?_
  rotate_left
  · (intro w hSw; first | (go_simp; done) | (go_simp; with_reducible rfl))
  (try simp only [Act.put, List.getElem_toArray, List.getElem_cons_succ, List.getElem_cons_zero, List.setIfInBounds_toArray, List.set_cons_zero, List.set_cons_succ])
  refine wpAnyH_take (i := 1) (v := ?_) rfl (by kernel_rfl) (by kernel_rfl) (by kernel_rfl) (fun _ _ _ h => h) (Or.inl ⟨by kernel_rfl, ?_⟩) hHeld ?_
  rotate_left
  · (intro w hSw; first | (go_simp; done) | (go_simp; with_reducible rfl))
  (try simp only [Act.put, List.getElem_toArray, List.getElem_cons_succ, List.getElem_cons_zero, List.setIfInBounds_toArray, List.set_cons_zero, List.set_cons_succ])
  refine wpAnyH_take (i := 2) (v := ?_) rfl (by kernel_rfl) (by kernel_rfl) (by kernel_rfl) (fun _ _ _ h => h) (Or.inl ⟨by kernel_rfl, ?_⟩) hHeld ?_
  rotate_left
  · (intro w hSw; first | (go_simp; done) | (go_simp; with_reducible rfl))
  (try simp only [Act.put, List.getElem_toArray, List.getElem_cons_succ, List.getElem_cons_zero, List.setIfInBounds_toArray, List.set_cons_zero, List.set_cons_succ])
  refine wpAnyH_take (i := 4) (v := ?_) rfl (by kernel_rfl) (by kernel_rfl) (by kernel_rfl) (fun _ _ _ h => h) (Or.inl ⟨by kernel_rfl, ?_⟩) hHeld ?_
  rotate_left
  · (intro w hSw; first | (go_simp; done) | (go_simp; with_reducible rfl))
  (try simp only [Act.put, List.getElem_toArray, List.getElem_cons_succ, List.getElem_cons_zero, List.setIfInBounds_toArray, List.set_cons_zero, List.set_cons_succ])
  refine wpAnyH_ready (rs := [3,7]) (by kernel_rfl) (by simp) (AllReadyH.cons rfl (fun K hK => ?_) (AllReadyH.cons rfl (fun K hK => ?_) AllReadyH.nil))
  · have hH := hHeld
    (go_simp; go_at_call 107; refine (H1.out _ hH.2).mono ?_; rintro e w9 ⟨rfl, rfl⟩)
    refine hK.out _ _ (by exact hH) (fun hHq1 => ?_)
    clear hK K hH 
    (try simp only [Act.put, List.getElem_toArray, List.getElem_cons_succ, List.getElem_cons_zero, List.setIfInBounds_toArray, List.set_cons_zero, List.set_cons_succ])
    refine wpAnyH_ready (rs := [5,7]) (by kernel_rfl) (by simp) (AllReadyH.cons rfl (fun K hK => ?_) (AllReadyH.cons rfl (fun K hK => ?_) AllReadyH.nil))
    · have hH := hHq1
      (go_simp; go_at_call 107; refine (H2.out _ hH.2).mono ?_; rintro e w9 ⟨rfl, rfl⟩)
      refine hK.out _ _ (by exact hH) (fun hHq2 => ?_)
      clear hK K hH hHq1
      (try simp only [Act.put, List.getElem_toArray, List.getElem_cons_succ, List.getElem_cons_zero, List.setIfInBounds_toArray, List.set_cons_zero, List.set_cons_succ])
      refine wpAnyH_take (i := 6) (v := ?_) rfl (by kernel_rfl) (by kernel_rfl) (by kernel_rfl) (fun _ _ _ h => h) (Or.inl ⟨by kernel_rfl, ?_⟩) hHq2 ?_
      rotate_left
      · (intro w hSw; first | (go_simp; done) | (go_simp; with_reducible rfl))
      (try simp only [Act.put, List.getElem_toArray, List.getElem_cons_succ, List.getElem_cons_zero, List.setIfInBounds_toArray, List.set_cons_zero, List.set_cons_succ])
      refine wpAnyH_ready (rs := [7]) (by kernel_rfl) (by simp) (AllReadyH.cons rfl (fun K hK => ?_) AllReadyH.nil)
      have hH := hHq2
      (go_simp; skip)
      refine hK.out _ _ (by exact ⟨(((Chg.refl [] _).alloc _).cell hH.1 (by simp)), hH.2.alloc _⟩) (fun hHq3 => ?_)
      clear hK K hH hHq2
      (try simp only [Act.put, List.getElem_toArray, List.getElem_cons_succ, List.getElem_cons_zero, List.setIfInBounds_toArray, List.set_cons_zero, List.set_cons_succ])
      refine wpAnyH_ready (rs := [8]) (by kernel_rfl) (by simp) (AllReadyH.cons rfl (fun K hK => ?_) AllReadyH.nil)
      have hH := hHq3
      (go_simp; skip)
      refine hK.out _ _ (by exact ⟨(((Chg.refl [] X).alloc _).cell c0 (by simp)), ((Chg.refl [] X).alloc _).drew⟩) (fun hHq4 => ?_)
      clear hK K hH hHq3
      (try simp only [Act.put, List.getElem_toArray, List.getElem_cons_succ, List.getElem_cons_zero, List.setIfInBounds_toArray, List.set_cons_zero, List.set_cons_succ])
      refine wpAnyH_done (by kernel_rfl) ?_ _
      have hEnd := hHq4
      exact FIN
    · have hH := hHq1
      (go_simp; skip)
      refine hK.out _ _ (by exact ⟨(((Chg.refl [] _).alloc _).cell hH.1 (by simp)), hH.2.alloc _⟩) (fun hHq5 => ?_)
      clear hK K hH hHq1
      (try simp only [Act.put, List.getElem_toArray, List.getElem_cons_succ, List.getElem_cons_zero, List.setIfInBounds_toArray, List.set_cons_zero, List.set_cons_succ])
      refine wpAnyH_ready (rs := [5]) (by kernel_rfl) (by simp) (AllReadyH.cons rfl (fun K hK => ?_) AllReadyH.nil)
      have hH := hHq5
      (go_simp; go_at_call 107; refine (H2.out _ hH.2).mono ?_; rintro e w9 ⟨rfl, rfl⟩)
      refine hK.out _ _ (by exact hH) (fun hHq6 => ?_)
      clear hK K hH hHq5
      (try simp only [Act.put, List.getElem_toArray, List.getElem_cons_succ, List.getElem_cons_zero, List.setIfInBounds_toArray, List.set_cons_zero, List.set_cons_succ])
      refine wpAnyH_take (i := 6) (v := ?_) rfl (by kernel_rfl) (by kernel_rfl) (by kernel_rfl) (fun _ _ _ h => h) (Or.inl ⟨by kernel_rfl, ?_⟩) hHq6 ?_
      rotate_left
      · (intro w hSw; first | (go_simp; done) | (go_simp; with_reducible rfl))
      (try simp only [Act.put, List.getElem_toArray, List.getElem_cons_succ, List.getElem_cons_zero, List.setIfInBounds_toArray, List.set_cons_zero, List.set_cons_succ])
      refine wpAnyH_ready (rs := [8]) (by kernel_rfl) (by simp) (AllReadyH.cons rfl (fun K hK => ?_) AllReadyH.nil)
      have hH := hHq6
      (go_simp; skip)
      refine hK.out _ _ (by exact ⟨(((Chg.refl [] X).alloc _).cell c0 (by simp)), ((Chg.refl [] X).alloc _).drew⟩) (fun hHq7 => ?_)
      clear hK K hH hHq6
      (try simp only [Act.put, List.getElem_toArray, List.getElem_cons_succ, List.getElem_cons_zero, List.setIfInBounds_toArray, List.set_cons_zero, List.set_cons_succ])
      refine wpAnyH_done (by kernel_rfl) ?_ _
      have hEnd := hHq7
      exact FIN
  · have hH := hHeld
    (go_simp; skip)
    refine hK.out _ _ (by exact ⟨(((Chg.refl [] _).alloc _).cell hH.1 (by simp)), hH.2.alloc _⟩) (fun hHq8 => ?_)
    clear hK K hH 
    (try simp only [Act.put, List.getElem_toArray, List.getElem_cons_succ, List.getElem_cons_zero, List.setIfInBounds_toArray, List.set_cons_zero, List.set_cons_succ])
    refine wpAnyH_ready (rs := [3]) (by kernel_rfl) (by simp) (AllReadyH.cons rfl (fun K hK => ?_) AllReadyH.nil)
    have hH := hHq8
    (go_simp; go_at_call 107; refine (H1.out _ hH.2).mono ?_; rintro e w9 ⟨rfl, rfl⟩)
    refine hK.out _ _ (by exact hH) (fun hHq9 => ?_)
    clear hK K hH hHq8
    (try simp only [Act.put, List.getElem_toArray, List.getElem_cons_succ, List.getElem_cons_zero, List.setIfInBounds_toArray, List.set_cons_zero, List.set_cons_succ])
    refine wpAnyH_ready (rs := [5]) (by kernel_rfl) (by simp) (AllReadyH.cons rfl (fun K hK => ?_) AllReadyH.nil)
    have hH := hHq9
    (go_simp; go_at_call 107; refine (H2.out _ hH.2).mono ?_; rintro e w9 ⟨rfl, rfl⟩)
    refine hK.out _ _ (by exact hH) (fun hHq10 => ?_)
    clear hK K hH hHq9
    (try simp only [Act.put, List.getElem_toArray, List.getElem_cons_succ, List.getElem_cons_zero, List.setIfInBounds_toArray, List.set_cons_zero, List.set_cons_succ])
    refine wpAnyH_take (i := 6) (v := ?_) rfl (by kernel_rfl) (by kernel_rfl) (by kernel_rfl) (fun _ _ _ h => h) (Or.inl ⟨by kernel_rfl, ?_⟩) hHq10 ?_
    rotate_left
    · (intro w hSw; first | (go_simp; done) | (go_simp; with_reducible rfl))
    (try simp only [Act.put, List.getElem_toArray, List.getElem_cons_succ, List.getElem_cons_zero, List.setIfInBounds_toArray, List.set_cons_zero, List.set_cons_succ])
    refine wpAnyH_ready (rs := [8]) (by kernel_rfl) (by simp) (AllReadyH.cons rfl (fun K hK => ?_) AllReadyH.nil)
    have hH := hHq10
    (go_simp; skip)
    refine hK.out _ _ (by exact ⟨(((Chg.refl [] X).alloc _).cell c0 (by simp)), ((Chg.refl [] X).alloc _).drew⟩) (fun hHq11 => ?_)
    clear hK K hH hHq10
    (try simp only [Act.put, List.getElem_toArray, List.getElem_cons_succ, List.getElem_cons_zero, List.setIfInBounds_toArray, List.set_cons_zero, List.set_cons_succ])
    refine wpAnyH_done (by kernel_rfl) ?_ _
    have hEnd := hHq11
    exact FIN
  obtain ⟨Y, HY⟩ : ∃ Y, Hid ((X.alloc (.cells #[.int .u8 (x : Int), .int .u32 (r : Int), .int .u32 (b : Int)] 142)).drew = Y) := ⟨_, Lib.hid rfl⟩
  have hCY : Chg [] X Y := by rw [← HY.out]; exact ((Chg.refl [] X).alloc _).drew
  have hQ : Own Y X.heap.size 142 [.int .u8 (x : Int), .int .u32 (r : Int), .int .u32 (b : Int)] := by rw [← HY.out]; exact (Own.new X 142 [.int .u8 (x : Int), .int .u32 (r : Int), .int .u32 (b : Int)])
  have hPY := HP.out.chg hCY (by simp)
  have hOY := HO.out.chg hCY (by simp)
  have hx : x < 256 := by rw [← HXX.out]; exact UInt8.toNat_lt _
  have hr : r < 4294967296 := by rw [← HRR.out]; exact supR_lt HL.out
  have hb : b < 4294967296 := by rw [← HBB.out]; exact supB_lt HL.out
  have HSE := Lib.hid (fun W => sector_any W x r b hx hr hb)
  have hrg : Y.rangeAt w.heap.size 0 (u8s S) := fun j v hv => by rw [Nat.zero_add, hOY.cell]; exact hv
  have d0 := hQ.cell 0
  have d1 := hQ.cell 1
  have d2 := hQ.cell 2
  simp at d0 d1 d2
  have HD := Lib.hid (And.intro d0 (And.intro d1 (And.intro d2 hrg)))
  have HPY := Lib.hid hPY
  have hqs : X.heap.size ≠ w.heap.size + 1 := by have := HS.out; omega
  have hqb : w.heap.size + 1 < Y.heap.size := hPY.lt
  have HCY := Lib.hid (HC.out.trans hCY)
  clear hQ hPY hOY hCY d0 d1 d2 hrg c0 H1 H2
  simp only [HY.out]
  by_cases hx1 : x ≤ 1
  case' pos =>
    have hd : decide ((x : Int) ≤ 1) = true := by simp; omega
    have he : ∀ W, (binOp .eql 53 (sv (supS x r b)) (sv S)).run Tryz.prog W = .ok (.bool (decide (supS x r b = S))) W := run_eql_sec 53 Tryz.underlying53 (supS x r b) S (supS_len _ _ _) HL.out
    have HE := Lib.hid (show decide (supS x r b = S) = decide (supH S ≤ 1 ∧ supS (supH S) (supR S) (supB S) = S) by
      rw [decide_eq_decide]
      unfold supH supR supB
      rw [HXX.out, HRR.out, HBB.out]
      exact ⟨fun h => ⟨hx1, h⟩, fun h => h.2⟩)
    obtain ⟨T, HT⟩ : ∃ T, Hid (supS x r b = T) := ⟨_, Lib.hid rfl⟩
    obtain ⟨q, HQ⟩ : ∃ q, Hid (decide (supS x r b = S) = q) := ⟨_, Lib.hid rfl⟩
    simp only [HQ.out] at he
    rw [HQ.out] at HE
    rw [HT.out] at he HSE
    have hTl : T.length = 64 := by rw [← HT.out]; exact supS_len _ _ _
    go_wp2_with fail
    refine wp_region_held_drew (S := (fun w' => w'.cell? ⟨X.heap.size, 0, none⟩ = some (.int .u8 (x : Int)) ∧ w'.cell? ⟨X.heap.size, 1, none⟩ = some (.int .u32 (r : Int)) ∧ w'.cell? ⟨X.heap.size, 2, none⟩ = some (.int .u32 (b : Int)) ∧ w'.rangeAt w.heap.size 0 (u8s S))) (by kernel_rfl) HD.out (fun hHeld => ?_)
    refine wpAnyH_take (i := 0) (v := ?_) rfl (by kernel_rfl) (by kernel_rfl) (by kernel_rfl) (fun _ _ _ h => h) (Or.inl ⟨by kernel_rfl, ?_⟩) hHeld ?_
    rotate_left
    · (intro w hSw; first | (go_simp; done) | (go_simp; with_reducible rfl))
    (try simp only [Act.put, List.getElem_toArray, List.getElem_cons_succ, List.getElem_cons_zero, List.setIfInBounds_toArray, List.set_cons_zero, List.set_cons_succ])
    refine wpAnyH_take (i := 1) (v := ?_) rfl (by kernel_rfl) (by kernel_rfl) (by kernel_rfl) (fun _ _ _ h => h) (Or.inl ⟨by kernel_rfl, ?_⟩) hHeld ?_
    rotate_left
    · (intro w hSw; first | (go_simp; done) | (go_simp; with_reducible rfl))
    (try simp only [Act.put, List.getElem_toArray, List.getElem_cons_succ, List.getElem_cons_zero, List.setIfInBounds_toArray, List.set_cons_zero, List.set_cons_succ])
    refine wpAnyH_take (i := 2) (v := ?_) rfl (by kernel_rfl) (by kernel_rfl) (by kernel_rfl) (fun _ _ _ h => h) (Or.inl ⟨by kernel_rfl, ?_⟩) hHeld ?_
    rotate_left
    · (intro w hSw; first | (go_simp; done) | (go_simp; with_reducible rfl))
    (try simp only [Act.put, List.getElem_toArray, List.getElem_cons_succ, List.getElem_cons_zero, List.setIfInBounds_toArray, List.set_cons_zero, List.set_cons_succ])
    refine wpAnyH_take (i := 3) (v := ?_) rfl (by kernel_rfl) (by kernel_rfl) (by kernel_rfl) (fun _ _ _ h => h) (Or.inl ⟨by kernel_rfl, ?_⟩) hHeld ?_
    rotate_left
    · (intro w hSw; first | (go_simp; done) | (go_simp; with_reducible rfl))
    (try simp only [Act.put, List.getElem_toArray, List.getElem_cons_succ, List.getElem_cons_zero, List.setIfInBounds_toArray, List.set_cons_zero, List.set_cons_succ])
    refine wpAnyH_take (i := 4) (v := ?_) rfl (by kernel_rfl) (by kernel_rfl) (by kernel_rfl) (fun _ _ _ h => h) (Or.inl ⟨by kernel_rfl, ?_⟩) hHeld ?_
    rotate_left
    · (intro w hSw; first | (go_simp; done) | (go_simp; with_reducible rfl))
    (try simp only [Act.put, List.getElem_toArray, List.getElem_cons_succ, List.getElem_cons_zero, List.setIfInBounds_toArray, List.set_cons_zero, List.set_cons_succ])
    refine wpAnyH_take (i := 5) (v := ?_) rfl (by kernel_rfl) (by kernel_rfl) (by kernel_rfl) (fun _ _ _ h => h) (Or.inl ⟨by kernel_rfl, ?_⟩) hHeld ?_
    rotate_left
    · (intro w hSw; first | (go_simp; done) | (go_simp; with_reducible rfl))
    (try simp only [Act.put, List.getElem_toArray, List.getElem_cons_succ, List.getElem_cons_zero, List.setIfInBounds_toArray, List.set_cons_zero, List.set_cons_succ])
    refine wpAnyH_take (i := 7) (v := sv S) rfl (by kernel_rfl) (by kernel_rfl) (by kernel_rfl) (fun _ _ _ h => h) (Or.inl ⟨by kernel_rfl, ?_⟩) hHeld ?_
    · (intro w hSw; exact exec_load37 rfl _ 0 rfl S hSw.2.2.2 HL.out)
    (try simp only [Act.put, List.getElem_toArray, List.getElem_cons_succ, List.getElem_cons_zero, List.setIfInBounds_toArray, List.set_cons_zero, List.set_cons_succ])
    refine wpAnyH_ready (rs := [6]) (by kernel_rfl) (by simp) (AllReadyH.cons rfl (fun K hK => ?_) AllReadyH.nil)
    have hH := hHeld
    (go_simp; go_at_call 108; refine (HSE.out _).mono ?_; rintro e w9 ⟨rfl, hc9⟩)
    refine hK.out _ _ (by exact ⟨hc9.cell hH.1 (by simp), hc9.cell hH.2.1 (by simp), hc9.cell hH.2.2.1 (by simp), hc9.range hH.2.2.2 (by simp)⟩) (fun hHq1 => ?_)
    clear hK K hH 
    have hP9 := HPY.out.chg (((Chg.refl [] Y).drew).trans hc9) (by simp); have s0 := hP9.cell 0; have s1 := hP9.cell 1; have s2 := hP9.cell 2; have f0 := hP9.frozen 0; have f1 := hP9.frozen 1; have f2 := hP9.frozen 2; simp at s0 s1 s2
    (try simp only [Act.put, List.getElem_toArray, List.getElem_cons_succ, List.getElem_cons_zero, List.setIfInBounds_toArray, List.set_cons_zero, List.set_cons_succ])
    refine wpAnyH_take (i := 8) (v := ?_) rfl (by kernel_rfl) (by kernel_rfl) (by kernel_rfl) (fun _ _ _ h => h) (Or.inl ⟨by kernel_rfl, ?_⟩) hHq1 ?_
    rotate_left
    · (intro w hSw; first | (go_simp; done) | (go_simp; with_reducible rfl))
    (try simp only [Act.put, List.getElem_toArray, List.getElem_cons_succ, List.getElem_cons_zero, List.setIfInBounds_toArray, List.set_cons_zero, List.set_cons_succ])
    refine wpAnyH_take (i := 9) (v := ?_) rfl (by kernel_rfl) (by kernel_rfl) (by kernel_rfl) (fun _ _ _ h => h) (Or.inl ⟨by kernel_rfl, ?_⟩) hHq1 ?_
    rotate_left
    · (intro w hSw; first | (go_simp; done) | (go_simp; with_reducible rfl))
    (try simp only [Act.put, List.getElem_toArray, List.getElem_cons_succ, List.getElem_cons_zero, List.setIfInBounds_toArray, List.set_cons_zero, List.set_cons_succ])
    refine wpAnyH_ready (rs := [10]) (by kernel_rfl) (by simp) (AllReadyH.cons rfl (fun K hK => ?_) AllReadyH.nil)
    have hH := hHq1
    (go_simp; skip)
    refine hK.out _ _ (by exact ⟨far3 hH.1 hqs, far3 hH.2.1 hqs, far3 hH.2.2.1 hqs, far3r hH.2.2.2 (by omega)⟩) (fun hHq2 => ?_)
    clear hK K hH hHq1
    (try simp only [Act.put, List.getElem_toArray, List.getElem_cons_succ, List.getElem_cons_zero, List.setIfInBounds_toArray, List.set_cons_zero, List.set_cons_succ])
    refine wpAnyH_take (i := 11) (v := ?_) rfl (by kernel_rfl) (by kernel_rfl) (by kernel_rfl) (fun _ _ _ h => h) (Or.inl ⟨by kernel_rfl, ?_⟩) hHq2 ?_
    rotate_left
    · (intro w hSw; first | (go_simp; done) | (go_simp; with_reducible rfl))
    (try simp only [Act.put, List.getElem_toArray, List.getElem_cons_succ, List.getElem_cons_zero, List.setIfInBounds_toArray, List.set_cons_zero, List.set_cons_succ])
    refine wpAnyH_done (by kernel_rfl) ?_ _
    have hEnd := hHq2
    have hC9 : Chg [] Y w9 := ((Chg.refl [] Y).drew).trans hc9
    clear hEnd hHeld
    go_wp2_with fail
    refine bodyPost_ret (v := .tuple #[pv x r b, .bool q]) (by simp [results, Tryz.results60, go_sem, s0, s1, s2, f0, f1, f2]) rfl ⟨?_, ?_⟩
    · rw [← HE.out]
      unfold supH supR supB
      rw [HXX.out, HRR.out, HBB.out]
    · exact chg3 (HCY.out.trans hC9) (by omega)
  case' neg =>
    have hd : decide ((x : Int) ≤ 1) = false := by simp; omega
    have HE := Lib.hid (show decide (supH S ≤ 1 ∧ supS (supH S) (supR S) (supB S) = S) = false by
      refine decide_eq_false fun h => hx1 ?_
      have := h.1
      unfold supH at this
      rw [HXX.out] at this
      exact this)
    have s0 := HPY.out.cell 0
    have s1 := HPY.out.cell 1
    have s2 := HPY.out.cell 2
    have f0 := HPY.out.frozen 0
    have f1 := HPY.out.frozen 1
    have f2 := HPY.out.frozen 2
    simp at s0 s1 s2
    go_wp2_with fail
    refine wp_region_held_drew (S := (fun w' => w'.cell? ⟨X.heap.size, 0, none⟩ = some (.int .u8 (x : Int)) ∧ w'.cell? ⟨X.heap.size, 1, none⟩ = some (.int .u32 (r : Int)) ∧ w'.cell? ⟨X.heap.size, 2, none⟩ = some (.int .u32 (b : Int)) ∧ w'.rangeAt w.heap.size 0 (u8s S))) (by kernel_rfl) HD.out (fun hHeld => ?_)
    refine wpAnyH_take (i := 0) (v := ?_) rfl (by kernel_rfl) (by kernel_rfl) (by kernel_rfl) (fun _ _ _ h => h) (Or.inl ⟨by kernel_rfl, ?_⟩) hHeld ?_
    rotate_left
    · (intro w hSw; first | (go_simp; done) | (go_simp; with_reducible rfl))
    (try simp only [Act.put, List.getElem_toArray, List.getElem_cons_succ, List.getElem_cons_zero, List.setIfInBounds_toArray, List.set_cons_zero, List.set_cons_succ])
    refine wpAnyH_take (i := 1) (v := ?_) rfl (by kernel_rfl) (by kernel_rfl) (by kernel_rfl) (fun _ _ _ h => h) (Or.inl ⟨by kernel_rfl, ?_⟩) hHeld ?_
    rotate_left
    · (intro w hSw; first | (go_simp; done) | (go_simp; with_reducible rfl))
    (try simp only [Act.put, List.getElem_toArray, List.getElem_cons_succ, List.getElem_cons_zero, List.setIfInBounds_toArray, List.set_cons_zero, List.set_cons_succ])
    refine wpAnyH_take (i := 2) (v := ?_) rfl (by kernel_rfl) (by kernel_rfl) (by kernel_rfl) (fun _ _ _ h => h) (Or.inl ⟨by kernel_rfl, ?_⟩) hHeld ?_
    rotate_left
    · (intro w hSw; first | (go_simp; done) | (go_simp; with_reducible rfl))
    (try simp only [Act.put, List.getElem_toArray, List.getElem_cons_succ, List.getElem_cons_zero, List.setIfInBounds_toArray, List.set_cons_zero, List.set_cons_succ])
    refine wpAnyH_take (i := 3) (v := ?_) rfl (by kernel_rfl) (by kernel_rfl) (by kernel_rfl) (fun _ _ _ h => h) (Or.inl ⟨by kernel_rfl, ?_⟩) hHeld ?_
    rotate_left
    · (intro w hSw; first | (go_simp; done) | (go_simp; with_reducible rfl))
    (try simp only [Act.put, List.getElem_toArray, List.getElem_cons_succ, List.getElem_cons_zero, List.setIfInBounds_toArray, List.set_cons_zero, List.set_cons_succ])
    refine wpAnyH_take (i := 4) (v := ?_) rfl (by kernel_rfl) (by kernel_rfl) (by kernel_rfl) (fun _ _ _ h => h) (Or.inl ⟨by kernel_rfl, ?_⟩) hHeld ?_
    rotate_left
    · (intro w hSw; first | (go_simp; done) | (go_simp; with_reducible rfl))
    (try simp only [Act.put, List.getElem_toArray, List.getElem_cons_succ, List.getElem_cons_zero, List.setIfInBounds_toArray, List.set_cons_zero, List.set_cons_succ])
    refine wpAnyH_take (i := 5) (v := undef) rfl (by kernel_rfl) (by kernel_rfl) (by kernel_rfl) (fun _ _ _ h => h) (Or.inr ⟨by kernel_rfl, rfl⟩) hHeld ?_
    (try simp only [Act.put, List.getElem_toArray, List.getElem_cons_succ, List.getElem_cons_zero, List.setIfInBounds_toArray, List.set_cons_zero, List.set_cons_succ])
    refine wpAnyH_take (i := 6) (v := undef) rfl (by kernel_rfl) (by kernel_rfl) (by kernel_rfl) (fun _ _ _ h => h) (Or.inr ⟨by kernel_rfl, rfl⟩) hHeld ?_
    (try simp only [Act.put, List.getElem_toArray, List.getElem_cons_succ, List.getElem_cons_zero, List.setIfInBounds_toArray, List.set_cons_zero, List.set_cons_succ])
    refine wpAnyH_take (i := 7) (v := undef) rfl (by kernel_rfl) (by kernel_rfl) (by kernel_rfl) (fun _ _ _ h => h) (Or.inr ⟨by kernel_rfl, rfl⟩) hHeld ?_
    (try simp only [Act.put, List.getElem_toArray, List.getElem_cons_succ, List.getElem_cons_zero, List.setIfInBounds_toArray, List.set_cons_zero, List.set_cons_succ])
    refine wpAnyH_take (i := 8) (v := undef) rfl (by kernel_rfl) (by kernel_rfl) (by kernel_rfl) (fun _ _ _ h => h) (Or.inr ⟨by kernel_rfl, rfl⟩) hHeld ?_
    (try simp only [Act.put, List.getElem_toArray, List.getElem_cons_succ, List.getElem_cons_zero, List.setIfInBounds_toArray, List.set_cons_zero, List.set_cons_succ])
    refine wpAnyH_take (i := 9) (v := ?_) rfl (by kernel_rfl) (by kernel_rfl) (by kernel_rfl) (fun _ _ _ h => h) (Or.inl ⟨by kernel_rfl, ?_⟩) hHeld ?_
    rotate_left
    · (intro w hSw; first | (go_simp; done) | (go_simp; with_reducible rfl))
    (try simp only [Act.put, List.getElem_toArray, List.getElem_cons_succ, List.getElem_cons_zero, List.setIfInBounds_toArray, List.set_cons_zero, List.set_cons_succ])
    refine wpAnyH_ready (rs := [10]) (by kernel_rfl) (by simp) (AllReadyH.cons rfl (fun K hK => ?_) AllReadyH.nil)
    have hH := hHeld
    (go_simp; skip)
    refine hK.out _ _ (by exact ⟨far3 hH.1 hqs, far3 hH.2.1 hqs, far3 hH.2.2.1 hqs, far3r hH.2.2.2 (by omega)⟩) (fun hHq1 => ?_)
    clear hK K hH 
    (try simp only [Act.put, List.getElem_toArray, List.getElem_cons_succ, List.getElem_cons_zero, List.setIfInBounds_toArray, List.set_cons_zero, List.set_cons_succ])
    refine wpAnyH_take (i := 11) (v := ?_) rfl (by kernel_rfl) (by kernel_rfl) (by kernel_rfl) (fun _ _ _ h => h) (Or.inl ⟨by kernel_rfl, ?_⟩) hHq1 ?_
    rotate_left
    · (intro w hSw; first | (go_simp; done) | (go_simp; with_reducible rfl))
    (try simp only [Act.put, List.getElem_toArray, List.getElem_cons_succ, List.getElem_cons_zero, List.setIfInBounds_toArray, List.set_cons_zero, List.set_cons_succ])
    refine wpAnyH_done (by kernel_rfl) ?_ _
    have hEnd := hHq1
    clear hEnd hHeld
    go_wp2_with fail
    refine bodyPost_ret (v := .tuple #[pv x r b, .bool false]) (by simp [results, Tryz.results60, go_sem, s0, s1, s2, f0, f1, f2]) rfl ⟨?_, ?_⟩
    · rw [HE.out]
      unfold supH supR supB
      rw [HXX.out, HRR.out, HBB.out]
    · exact chg3 HCY.out.drew (by omega)
end Go.Proofs.YtihbinphmlgjoaaGreat
namespace Go.Proofs.YtihbinphmlgjoaaGreat
open Go.RowKit Go.Shelf Go.Deep
set_option linter.unusedVariables false
set_option linter.unusedSimpArgs false
attribute [local go_sem] Oper.semAt_some

/-- how many sectors -/
def secN (fr to_ : Nat) : Nat := (to_ + 63) / 64 - fr / 64
/-- how many sectors hold so many bytes -/
def ceilS (to_ : Nat) : Nat := (to_ + 63) / 64
abbrev SN (to_ : Nat) := {k : Nat // k < ceilS to_}
def encS (f to_ : Nat) (k : SN to_) : Array Value := #[.int .i64 (((f + k.1 : Nat)) : Int), .int .i64 ((k.1 * 64 : Nat) : Int)]
def valS {to_ : Nat} (xs : List (SN to_)) : List Nat := xs.map (·.1)
theorem secN_lt (fr to_ j : Nat) : j < secN fr to_ ↔ (fr / 64 + j) * 64 < to_ := by unfold secN; omega
theorem valS_snoc {to_ : Nat} (xs : List (SN to_)) (x : SN to_) : valS (xs ++ [x]) = valS xs ++ [x.1] := by simp [valS]
theorem range_snoc (q j : Nat) : List.range' q (j + 1) = List.range' q j ++ [q + j] := by rw [List.range'_concat]; simp
set_option maxRecDepth 100000 in
set_option maxHeartbeats 2000000 in
theorem sect_stops (n bf bt bi f fr to_ : Nat) (w : World) (hf : Own w bf 3 [.int .i64 (fr : Int)]) (ht : Own w bt 3 [.int .i64 (to_ : Int)]) (hi : Own w bi 3 [.int .i64 (f : Int)]) (hfr : fr ≤ 1000000) (hto : to_ ≤ 1000000) (hff : f ≤ 1000000)
    (Kp : World → World → Prop) (hK : ∀ W W', Kp W W' → Same [bf, bt, bi] W W') :
    SeqStopsK Fence.wide n Tryz.prog 149 #[.pointer (some ⟨bf, 0, none⟩), .pointer (some ⟨bt, 0, none⟩), .pointer (some ⟨bi, 0, none⟩)] (encS f to_) Kp (fun xs => valS xs = List.range' (fr / 64) (secN fr to_)) (fun _ => True) (secN fr to_) w := by
  intro l J Jx W hW hJ hJx hY h0
  have hfW := hf.below hW hf.lt
  have htW := ht.below hW ht.lt
  have hiW := hi.below hW hi.lt
  obtain ⟨q, HQ⟩ : ∃ q, Hid (fr / 64 = q) := ⟨_, Lib.hid rfl⟩
  obtain ⟨m, HM⟩ : ∃ m, Hid (secN fr to_ = m) := ⟨_, Lib.hid rfl⟩
  rw [HQ.out, HM.out]
  rw [HM.out] at hY
  have c1 := hfW.cell 0
  simp at c1
  have hq : (fr : Int) / 64 = (q : Int) := by rw [← HQ.out]; omega
  have hqm : q ≤ 1000000 := by rw [← HQ.out]; omega
  have HF := Lib.hid hfW
  have HT := Lib.hid htW
  have HI := Lib.hid hiW
  clear hf ht hi hfW htW hiW
  refine callsIn_of_wp Tryz.func149 rfl trivial ?_ rfl
  simp only [Tryz.ntmps149, List.size_toArray, List.length_cons, List.length_nil, Nat.reduceAdd, Nat.reduceSub, Array.replicate_succ, Array.replicate_zero, List.push_toArray, List.append_toArray, List.nil_append, List.cons_append]
  gi_wp2_with fail
  gi_loopw [5] (fun i wr => ∃ (j : Nat) (pre : List (SN to_)), i = .int .i64 ((q + j : Nat) : Int) ∧ j ≤ m ∧ valS pre = List.range' q j ∧ J pre wr ∧ Same [bf, bt, bi] W wr) (fun i _ => q + m - (intOf i).toNat)
  case atStart => exact ⟨0, [], rfl, Nat.zero_le _, rfl, h0, Same.refl _ _⟩
  case round =>
    obtain ⟨j, pre, rfl, hj, hpre, hjj, hS⟩ := hrel
    have c2 := (HT.out.same hS (by simp)).cell 0
    have c3 := (HI.out.same hS (by simp)).cell 0
    simp at c2 c3
    have HS := Lib.hid hS
    have hmb : m ≤ 1000000 := by rw [← HM.out]; unfold secN; omega
    obtain ⟨k, HK⟩ : ∃ k, Hid (q + j = k) := ⟨_, Lib.hid rfl⟩
    rw [HK.out]
    have hkb : k ≤ 2000000 := by rw [← HK.out]; omega
    have hpl : pre.length = j := by have := congrArg List.length hpre; simpa [valS] using this
    have HPL := Lib.hid hpl
    have HPR := Lib.hid hpre
    clear hpl hpre hS
    by_cases hlt : j < m
    · have hk : k * 64 < to_ := by rw [← HK.out, ← HQ.out]; exact (secN_lt fr to_ j).1 (by rw [HM.out]; exact hlt)
      have hd : decide ((k : Int) * 64 < (to_ : Int)) = true := by simp; omega
      have hkc : k < ceilS to_ := by unfold ceilS; omega
      obtain ⟨fn, tmps, assign, body, hyy, hR⟩ := hY pre ⟨k, hkc⟩ _ hjj (by rw [HPL.out]; exact hlt)
      dsimp only [encS] at hyy
      rw [show ((f + k : Nat) : Int) = (f : Int) + (k : Int) by omega, show ((k * 64 : Nat) : Int) = (k : Int) * 64 by omega] at hyy
      have HPO := Lib.hid (show valS (pre ++ [⟨k, hkc⟩]) = List.range' q (j + 1) by rw [valS_snoc, HPR.out, range_snoc, HK.out])
      generalize (⟨k, hkc⟩ : SN to_) = x at hR HPO
      clear hY
      gi_wp2_with fail
      refine ⟨(fun h => by cases h), (roundIn_any hR).mono ?_⟩
      rintro e W5 (⟨rfl, hj5, hk5⟩ | ⟨rfl, hjx5⟩)
      · gi_wp2_with fail
        go_roundw
        case rel => exact ⟨j + 1, pre ++ [x], by have := HK.out; congr 1; omega, hlt, HPO.out, hj5, HS.out.trans (hK _ _ hk5)⟩
        case measure => have := HK.out; simp [intOf]; omega
      · gi_wp2_with fail
        refine bodyPost_ret (results_none rfl _ _ _) rfl ?_
        exact ⟨⟨_, rfl⟩, .inr ⟨pre ++ [x], trivial, hjx5⟩⟩
    · have hk : ¬ k * 64 < to_ := by rw [← HK.out, ← HQ.out]; exact fun h => hlt (by rw [← HM.out]; exact (secN_lt fr to_ j).2 h)
      have hd : decide ((k : Int) * 64 < (to_ : Int)) = false := by simp; omega
      have hjm : j = m := by omega
      have HJM := Lib.hid hjm
      clear hjm hY
      gi_wp2_with fail
      go_end0
      exact ⟨⟨_, rfl⟩, .inl ⟨pre, by rw [HPR.out, HJM.out], hjj⟩⟩
/-- sectors: the iterator, and its three variables -/
theorem halfSectors_any (w : World) {q p g b n : Nat} {F : Nat → Sec} {m : Nat → Option Sec} (hq : w.cell? ⟨q, 0, none⟩ = some (.pointer (some ⟨p, 0, none⟩))) (hd : Dsk w p g b n F m) :
    Calls Tryz.prog 109 #[.pointer (some ⟨q, 0, none⟩)] w fun e w' => e = .returned (.int .i64 ((hsec n : Nat) : Int)) ∧ w = w' := by
  have h1 := hd.one
  have h2 := hd.top
  have HL := Lib.hid (len_ok w hd)
  have e1 : ((n : Int) - 1) / 2 = ((hsec n : Nat) : Int) := by unfold hsec; omega
  obtain ⟨s, HS⟩ : ∃ s, Hid (hsec n = s) := ⟨_, Lib.hid rfl⟩
  rw [HS.out] at e1 ⊢
  have hn1 : (1 : Int) ≤ (n : Int) := by omega
  have E1 := Lib.hid e1
  clear hd e1
  go_enter Tryz.func109, Tryz.ntmps109
  go_wp2_with (first | (go_at_call 59; refine HL.out.mono ?_; rintro e w' ⟨rfl, rfl⟩) | fail)
  go_ret
  exact ⟨ret_int E1.out, rfl⟩
theorem halfSize_any (w : World) {q p g b n : Nat} {F : Nat → Sec} {m : Nat → Option Sec} (hq : w.cell? ⟨q, 0, none⟩ = some (.pointer (some ⟨p, 0, none⟩))) (hd : Dsk w p g b n F m) :
    Calls Tryz.prog 61 #[.pointer (some ⟨q, 0, none⟩)] w fun e w' => e = .returned (.int .i64 ((hsec n * 64 : Nat) : Int)) ∧ w = w' := by
  have h2 := hd.top
  have HL := Lib.hid (halfSectors_any w hq hd)
  have hs : hsec n ≤ 1024 := by unfold hsec; omega
  obtain ⟨s, HS⟩ : ∃ s, Hid (hsec n = s) := ⟨_, Lib.hid rfl⟩
  rw [HS.out] at HL hs ⊢
  clear hd hq
  go_enter Tryz.func61, Tryz.ntmps61
  go_wp2_with (first | (go_at_call 109; refine HL.out.mono ?_; rintro e w' ⟨rfl, rfl⟩) | fail)
  go_ret
  exact ⟨ret_int (by omega), rfl⟩
def sectorsV (w : World) : Value := .func (.func 149) #[] #[.pointer (some ⟨w.heap.size, 0, none⟩), .pointer (some ⟨w.heap.size + 1, 0, none⟩), .pointer (some ⟨w.heap.size + 2, 0, none⟩)]
def sectorsW (w : World) (f fr to_ : Nat) : World := ((w.alloc (.cells #[.int .i64 (fr : Int)] 3)).alloc (.cells #[.int .i64 (to_ : Int)] 3)).alloc (.cells #[.int .i64 (f : Int)] 3)
theorem sectors_any (w : World) {q p g b n : Nat} {F : Nat → Sec} {m : Nat → Option Sec} (hq : w.cell? ⟨q, 0, none⟩ = some (.pointer (some ⟨p, 0, none⟩))) (hd : Dsk w p g b n F m) (h fr to_ : Nat) (hh : h ≤ 1) (hfr : fr ≤ 1000000) (hto : to_ ≤ 1000000) :
    Calls Tryz.prog 110 #[.pointer (some ⟨q, 0, none⟩), .int .i64 (h : Int), .int .i64 (fr : Int), .int .i64 (to_ : Int)] w fun e w' => e = .returned (sectorsV w) ∧ w' = sectorsW w (1 + h * hsec n) fr to_ := by
  have h2 := hd.top
  have hC : Chg [] w ((w.alloc (.cells #[.int .i64 (fr : Int)] 3)).alloc (.cells #[.int .i64 (to_ : Int)] 3)) := ((Chg.refl [] w).alloc _).alloc _
  have HL := Lib.hid (halfSectors_any _ (hC.cell hq (by simp)) (hd.kept hC))
  have hs : hsec n ≤ 1024 := by unfold hsec; omega
  obtain ⟨s, HS⟩ : ∃ s, Hid (hsec n = s) := ⟨_, Lib.hid rfl⟩
  rw [HS.out] at HL hs ⊢
  clear hd hq hC
  obtain ⟨f, HF⟩ : ∃ f : Nat, Hid (1 + h * s = f) := ⟨_, Lib.hid rfl⟩
  rw [HF.out]
  have e1 : (h : Int) * (s : Int) = ((f : Int) - 1) := by rw [← HF.out]; simp; omega
  have E2 := Lib.hid (show (1 : Int) + ((f : Int) - 1) = (f : Int) by omega)
  have hf1 : 1 ≤ f := by rw [← HF.out]; omega
  have hf2 : f ≤ 2000 := by
    rw [← HF.out]
    have : h * s ≤ 1 * 1024 := Nat.mul_le_mul hh hs
    omega
  go_enter Tryz.func110, Tryz.ntmps110
  go_wp2_with (first | (go_at_call 109; refine HL.out.mono ?_; rintro e w' ⟨rfl, rfl⟩) | fail)
  go_ret
  exact ⟨rfl, by rw [E2.out]; rfl⟩
end Go.Proofs.YtihbinphmlgjoaaGreat
