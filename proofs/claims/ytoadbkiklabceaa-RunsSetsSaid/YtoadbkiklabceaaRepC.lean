/-
  Contract of slices.Replace at a row of runs of the call's own, whole. No claim of its own.
-/
import Derived.Test.YtoadbkiklabceaaRepB
namespace Go.Proofs.Ytoadbkiklabceaa
open Go.RowKit Go.Deep
set_option linter.unusedVariables false
set_option linter.unusedSimpArgs false

theorem drop_end (L : List Rn) (j : Nat) (h : j = L.length) (A V : List Rn) : A ++ (V ++ L.drop j) = A ++ V := by rw [h, List.drop_length, List.append_nil]
set_option maxHeartbeats 1000000 in
set_option maxRecDepth 100000 in
/-- slices.Replace at a row of the call's own by a row that lies apart -/
theorem replace_any (w : World) (base : Nat) (v : Value) (L : List Rn) (hown : Lr w base 28 v L) (v2 : Value) (V : List Rn) (base2 : Nat) (hV : Lr w base2 28 v2 V) (hne : v.ownBlock = none ∨ v.ownBlock ≠ v2.ownBlock) (i j : Nat) (hij : i ≤ j) (hj : j ≤ L.length) (hb : L.length + V.length ≤ 4000000) (hbase : base ≤ w.heap.size) :
    Calls Try.prog 41 #[v, .int .i64 i, .int .i64 j, v2] w (RepPost w base v (L.take i ++ (V ++ L.drop j))) := by
  by_cases hij2 : i = j
  · subst hij2
    have HI := insert_any w base v L hown v2 V base2 hV hne i (by omega) hb hbase
    obtain ⟨a, c, hv, hro, hc, hc2, hnil, _⟩ := hown.form
    obtain ⟨a2, c2, hv2⟩ := hV.shape
    have HII := Lib.hid HI
    obtain ⟨n, HN⟩ : ∃ n, Hid (L.length = n) := ⟨_, Lib.hid rfl⟩
    rw [HN.out] at hv hj hc
    have HV := Lib.hid hv
    rw [hv, hv2] at HII
    rw [hv, hv2]
    have h0 : (0 : Int) ≤ (i : Int) := by omega
    clear HI hv hv2 hnil hro hne hV hown
    go_enter Try.func41, Try.ntmps41
    go_wp2_with (go_at_call 54; refine HII.out.mono ?_; rintro e w' ⟨v1, rfl, h1, h2, h3⟩)
    all_goals go_ret
    all_goals first
      | exact RepPost.mk h1 h2 h3
      | (have hcn : c = i := by assumption
         subst hcn
         exact RepPost.mk h1 h2 h3)
  · have hn1 : v ≠ .slice none 0 0 := by
      rintro rfl
      obtain ⟨e, _⟩ := hown.ro
      omega
    obtain ⟨g, c, cur, rfl, hg, ho, hle, hcm, hcl, ht⟩ := hown.open_ hn1
    have hcm2 := hcm
    unfold maxLen at hcm2
    obtain ⟨a2, c2, e2⟩ := hV.shape
    by_cases hje : j = L.length
    · rw [drop_end L j hje]
      subst e2
      have hro := hV.ro.2
      rcases Nat.lt_or_ge (i + V.length) L.length with hl | hl
      · rw [hje]; exact replace_end_less w base g c L cur hg ho hcl ht (by omega) hle a2 c2 _ V hro i (by omega) hl hb
      · rw [hje]; exact replace_end_more w base g c L cur hg ho hcl ht hcm hle a2 c2 _ V hro i (by omega) hl hb hbase
    · by_cases hs : i + V.length ≤ j
      · subst e2
        refine replace_small w base g c L cur hg ho hcl ht (by omega) hle a2 c2 V (fun hn => ?_) i j (by omega) (by omega) hs hb
        have hn2 : Value.slice a2 V.length c2 ≠ .slice none 0 0 := by
          intro e
          rw [e] at hV
          obtain ⟨e3, _⟩ := hV.ro
          exact hn (List.eq_nil_of_length_eq_zero e3.symm)
        obtain ⟨g2, c3, cur2, hv2, hg2, ho2, hle2, hcm2, hcl2, ht2⟩ := hV.open_ hn2
        simp only [Value.slice.injEq] at hv2
        exact ⟨g2, hv2.1, ho2.src ⟨cur2.drop (V.length * 2), by rw [← ht2, List.take_append_drop]; rfl⟩⟩
      · have hn2 : v2 ≠ .slice none 0 0 := by
          rintro rfl
          obtain ⟨e, _⟩ := hV.ro
          omega
        obtain ⟨g2, c3, cur2, rfl, hg2, ho2, hle2, hcm2, hcl2, ht2⟩ := hV.open_ hn2
        have hne2 : g ≠ g2 := by
          rcases hne with h | h
          · simp [Value.ownBlock] at h
          · intro e; exact h (by simp [Value.ownBlock, e])
        rcases Nat.lt_or_ge c (i + V.length + (L.length - j)) with hr | hr
        · exact replace_grow w base g c L cur hg ho hcl ht (by omega) hle g2 c3 V cur2 ho2 ht2 i j (by omega) (by omega) hr hb hbase
        · exact replace_wide w base g c L cur hg ho hcl ht (by omega) hle g2 c3 V cur2 ho2 ht2 hne2 i j (by omega) (by omega) (by omega) hr hb
end Go.Proofs.Ytoadbkiklabceaa
