/-
  store, Put of package bits by their contracts.
-/
import Derived.Test.YtcadnlilijkneaaGreatGb8
import Derived.Test.YtcadnlilijkneaaGreatGb9
namespace Go.Proofs.YtcadnlilijkneaaGreat
open Go.RowKit Go.Deep
set_option linter.unusedVariables false
set_option linter.unusedSimpArgs false

set_option maxHeartbeats 400000 in
theorem store_any (bs : List UInt8) (g c k n v : Nat) (w : World) (h : Own w g 5 (u8s bs)) (hn : n ≤ 64) (hk : k + n ≤ 8 * bs.length) (hl : bs.length ≤ 1000000) :
    Calls Tryz.prog 248 #[.slice (some ⟨g, 0, none⟩) bs.length c, .int .i64 k, .int .i64 n, .int .u64 v] w fun e w' => e = .returned (.tuple #[]) ∧ ∃ cs : List UInt8, IsPut bs cs k n v ∧ Own w' g 5 (u8s cs) ∧ w.grownBy w' (some g) ∧ w'.heap.size = w.heap.size := by
  go_enter Tryz.func248, Tryz.ntmps248
  go_wp2
  go_loopw [1, 2] (fun x y wr => ∃ (j : Nat) (cs : List UInt8), j ≤ n ∧ x = .int .i64 ((k + j : Nat) : Int) ∧ y = .int .i64 ((n - j : Nat) : Int) ∧ Own wr g 5 (u8s cs) ∧ IsPutTo bs cs k n v j ∧ w.grownBy wr (some g) ∧ wr.heap.size = w.heap.size) (fun _ y _ => (intOf y).toNat)
  case atStart => exact ⟨0, bs, by omega, by simp, by simp, h, IsPutTo.start _ _ _ _, only_refl _ _, rfl⟩
  case round =>
    obtain ⟨j, cs, hj, rfl, rfl, ho, hput, hg, hsz⟩ := hrel
    have hcs := hput.1
    by_cases hlt : j < n
    · have hc := ho.cell ((k + j) / 8)
      have hf := ho.frozen ((k + j) / 8)
      have hp : 0 < n - j := by omega
      have b1 : 0 ≤ 8 - ((k : Int) + (j : Int)) % 8 := by omega
      have hcell : wr.cell? ⟨g, (k + j) / 8, none⟩ = some (.int .u8 ((cs.getD ((k + j) / 8) 0).toNat : Nat)) := by
        rw [hc]; simp [u8s, List.getD, show (k + j) / 8 < cs.length from by omega]
      clear hc
      obtain ⟨x, hx⟩ : ∃ x, x = cs.getD ((k + j) / 8) 0 := ⟨_, rfl⟩
      rw [← hx] at hcell
      have HX := Lib.hid hx; clear hx
      have HZ := Lib.hid hsz; clear hsz
      have HC := Lib.hid hcs; clear hcs
      by_cases hm : 8 - (k + j) % 8 ≤ n - j
      · have hm' : 8 - ((k : Int) + (j : Int)) % 8 ≤ ((n - j : Nat) : Int) := by omega
        go_wp2
        go_roundw
        case measure => simp [intOf]; omega
        case rel =>
          have hN := nb_int0 x.toNat (v / 2 ^ (n - j - (8 - (k + j) % 8))) (8 - (k + j) % 8) x.toNat_lt (by omega)
          have hlt8 := nbP_lt x.toNat (v / 2 ^ (n - j - (8 - (k + j) % 8))) 0 (8 - (k + j) % 8) x.toNat_lt (by omega)
          have hstep := hput.step (8 - (k + j) % 8) hk (by omega) (by omega) (by omega) _ rfl
          rw [← HX.out, Nat.sub_self] at hstep
          rw [Int.natCast_ediv, Int.natCast_pow] at hN
          refine ⟨j + (8 - (k + j) % 8), cs.set ((k + j) / 8) (UInt8.ofNat (nbP x.toNat (v / 2 ^ (n - j - (8 - (k + j) % 8))) 0 (8 - (k + j) % 8))), by omega, by go_num, by go_num, ?_, hstep, only_set hg _ _, (set_size _ _ _).trans HZ.out⟩
          refine (congrArg (fun z => Own (wr.setCell ⟨g, (k + j) / 8, none⟩ (.int .u8 z)) g 5 _) hN).mpr ?_
          have := ho.set ((k + j) / 8) (.int .u8 (nbP x.toNat (v / 2 ^ (n - j - (8 - (k + j) % 8))) 0 (8 - (k + j) % 8) : Nat))
          unfold u8s at this ⊢
          rw [List.map_set, u8_of _ hlt8]
          exact this
      · have hm' : ((n - j : Nat) : Int) < 8 - ((k : Int) + (j : Int)) % 8 := by omega
        go_wp2
        go_roundw
        case measure => simp [intOf]; omega
        case rel =>
          have hN := nb_int x.toNat v (8 - (k + j) % 8 - (n - j)) (n - j) x.toNat_lt (by omega)
          have hlt8 := nbP_lt x.toNat v (8 - (k + j) % 8 - (n - j)) (n - j) x.toNat_lt (by omega)
          have hstep := hput.step (n - j) hk (by omega) (by omega) (by omega) _ rfl
          rw [← HX.out, Nat.sub_self, Nat.pow_zero, Nat.div_one] at hstep
          refine ⟨j + (n - j), cs.set ((k + j) / 8) (UInt8.ofNat (nbP x.toNat v (8 - (k + j) % 8 - (n - j)) (n - j))), by omega, by go_num, by go_num, ?_, hstep, only_set hg _ _, (set_size _ _ _).trans HZ.out⟩
          refine (congrArg (fun z => Own (wr.setCell ⟨g, (k + j) / 8, none⟩ (.int .u8 z)) g 5 _) hN).mpr ?_
          have := ho.set ((k + j) / 8) (.int .u8 (nbP x.toNat v (8 - (k + j) % 8 - (n - j)) (n - j) : Nat))
          unfold u8s at this ⊢
          rw [List.map_set, u8_of _ hlt8]
          exact this
    · obtain rfl : j = n := by omega
      go_wp2
      go_end0
      exact ⟨rfl, cs, hput.stop, ho, hg, hsz⟩

theorem store_len (bs : List UInt8) (len g c k n v : Nat) (w : World) (hlen : bs.length = len) (h : Own w g 5 (u8s bs)) (hn : n ≤ 64) (hk : k + n ≤ 8 * len) (hl : len ≤ 1000000) :
    Calls Tryz.prog 248 #[.slice (some ⟨g, 0, none⟩) len c, .int .i64 k, .int .i64 n, .int .u64 v] w fun e w' => e = .returned (.tuple #[]) ∧ ∃ cs : List UInt8, IsPut bs cs k n v ∧ Own w' g 5 (u8s cs) ∧ w.grownBy w' (some g) ∧ w'.heap.size = w.heap.size := by
  subst hlen
  exact store_any bs g c k n v w h hn hk hl
theorem made_u8s (n : Nat) : madeCells #[.int .u8 0] n = (u8s (List.replicate n 0)).toArray := by
  apply Array.ext
  · simp [size_madeCells, u8s]
  · intro i h1 h2
    simp [madeCells, u8s, Nat.mod_one]
theorem own_made (w : World) (n : Nat) : Own (w.alloc (.cells (madeCells #[.int .u8 0] n) 5)) w.heap.size 5 (u8s (List.replicate n 0)) := by
  rw [made_u8s]
  exact Own.new w 5 _
theorem Tryz.info_u8 : (Tryz.prog.info? 5).map (fun i => (i.zero, i.size, i.bytes)) = some (some (.int .u8 0), 1, 1) := by kernel_rfl
theorem u8s_oneCell (bs : List UInt8) : ∀ v ∈ u8s bs, v.oneCell' = true := by
  intro v hv
  simp only [u8s, List.mem_map] at hv
  obtain ⟨x, _, rfl⟩ := hv
  rfl
theorem Ro.src {w : World} {B : Nat} {a : Option Addr} {vs : List Value} (h : Ro w B a vs) (h0 : 0 < vs.length) : ∃ ad, a = some ad ∧ ∀ j v, vs[j]? = some v → w.cell? (ad.add j) = some v := by
  obtain ⟨b, off, rfl, hb, hc⟩ := h.at_ (by intro e; subst e; simp at h0)
  refine ⟨_, rfl, fun j v hv => ?_⟩
  have hj : j < vs.length := (List.getElem?_eq_some_iff.1 hv).1
  have := hc j hj
  have e : (⟨b, off, none⟩ : Addr).add j = ⟨b, off + j, none⟩ := by unfold Addr.add; split <;> simp_all
  rw [e, this]
  simp [List.getD, hv]

end Go.Proofs.YtcadnlilijkneaaGreat
