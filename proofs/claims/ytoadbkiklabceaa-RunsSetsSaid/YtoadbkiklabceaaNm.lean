/-
  Contract of the document's Norm: a list of runs put in order. No claim of its own.
-/
import Derived.Test.YtoadbkiklabceaaNmM
import Derived.Test.YtoadbkiklabceaaSam
import Derived.Deep.CutBlock
import Derived.Deep.CutRange
namespace Go.Proofs.Ytoadbkiklabceaa
open Go.RowKit Go.Shelf Go.Deep
set_option linter.unusedVariables false
set_option linter.unusedSimpArgs false

/-- append of one run: what else is kept, and whose block it is -/
theorem wpList_app1N {P : Program} {ops : Array Oper} {rest : List Oper} {o : Oper} {a : Act} {W : World} {Q : Exit → Act → World → Prop} (hgd : o.guard = none) (s x : Operand) (t : TypeId)
    (ho : o.op = .call { callee := .builtin .append, args := #[s, x], argTypes := #[t, t] })
    (base : Nat) (e : TypeId) (z : Value) (bytes : Nat) (ht : P.underlying t = some (.slice e)) (hinfo : (P.info? e).map (fun i => (i.zero, i.size, i.bytes)) = some (some z, 2, bytes)) (hzs : z.cells.size = 2)
    (y : Rn) (v : Value) (L : List Rn) (hs : a.eval s = v) (hown : Lr W base e v L) (g : Nat) (hx : a.eval x = .slice (some ⟨g, 0, none⟩) 1 1) (hgW : g = W.heap.size)
    (hlen : (L.length + 1) * bytes ≤ 140737488355328) (hlen2 : L.length + 1 ≤ 140737488355328) (hbase : base ≤ W.heap.size)
    (h : ∀ v' w', Hid (Lr w' base e v' (L ++ [y])) → Hid (W.grownBy w' v.ownBlock ∧ Nb W v v') → wpList P ops Q rest (a.put o.dst v') w') : wpList P ops Q (o :: rest) a (W.alloc (.cells #[.int .u64 (y.1 : Int), .int .u64 (y.2 : Int)] e)) := by
  subst hgW
  refine wpList_appS hgd s x t ho base e z bytes ht hinfo hzs v L hs (hown.alloc _) (some ⟨W.heap.size, 0, none⟩) (W.heap.size + 1) 1 1 [y] hx rfl ((Own.new W e (rcs [y])).ro _ (by omega)) hlen hlen2 (by simp; omega) fun v' w' h2 h3 h4 => h v' w' h2 ⟨?_, h4.mono (by simp)⟩
  have h5 : W.grownBy (W.alloc (.cells #[.int .u64 (y.1 : Int), .int .u64 (y.2 : Int)] e)) none := ⟨rfl, rfl, rfl, by simp, fun k hk _ => Below.heap_alloc W _ k hk⟩
  exact grown_trans (grown_row h5) h3
theorem Lr.far {w w' : World} {base : Nat} {e : TypeId} {u v v' : Value} {I : List Rn} (h : Lr w base e u I) (hg : w.grownBy w' v.ownBlock) (hn : Nb w v v') (hne : u.ownBlock = none ∨ u.ownBlock ≠ v.ownBlock) :
    Lr w' base e u I ∧ (u.ownBlock = none ∨ u.ownBlock ≠ v'.ownBlock) := by
  refine ⟨h.kept hg hne, ?_⟩
  rcases hne with hne | hne
  · exact .inl hne
  · rcases hn with hn | hn
    · exact .inr (by rw [hn]; exact hne)
    · cases hu : u.ownBlock with
      | none => exact .inl rfl
      | some b =>
        refine .inr fun e => ?_
        have h1 := hn b e.symm
        have h2 := (h.lt b hu).2
        omega
theorem row_el {w : World} {g n : Nat} {t : TypeId} {cur : List Value} {J : List Rn} (ho : Own w g t cur) (ht : cur.take (n * 2) = rcs J) (hn : J.length = n) {i : Nat} (hi : i < n) :
    w.cell? ⟨g, i * 2, none⟩ = some (.int .u64 ((el J i).1 : Int)) ∧ w.cell? ⟨g, i * 2 + 1, none⟩ = some (.int .u64 ((el J i).2 : Int)) := by
  have hg := rcs_get J i
  rw [el_get (by omega)] at hg
  rw [ho.cell, ho.cell]
  have e : ∀ q, q < n * 2 → cur[q]? = (rcs J)[q]? := fun q hq => by rw [← ht, List.getElem?_take, if_pos hq]
  rw [e _ (by omega), e _ (by omega), hg.1, hg.2]
  exact ⟨rfl, rfl⟩
theorem Lr.open1 {w : World} {base N : Nat} {e : TypeId} {v : Value} {I : List Rn} {x : Rn} (h : Lr w base e v (I ++ [x])) (hN : I.length + 1 = N) :
    ∃ g c cur, v = .slice (some ⟨g, 0, none⟩) N c ∧ base ≤ g ∧ Own w g e cur ∧ N ≤ c ∧ c ≤ maxLen ∧ cur.length = c * 2 ∧ cur.take (N * 2) = rcs (I ++ [x]) := by
  obtain ⟨g, c, cur, h1, h2, h3, h4, h5, h6, h7⟩ := h.open_ (by
    rintro rfl
    obtain ⟨a5, c5, h5, _⟩ := h.form
    injection h5 with _ h5 _
    simp at h5)
  rw [List.length_append, List.length_singleton, hN] at h1 h4 h7
  exact ⟨g, c, cur, h1, h2, h3, h4, h5, h6, h7⟩
set_option maxHeartbeats 2000000 in
set_option maxRecDepth 100000 in
theorem Norm_any (w : World) (a : Option Addr) (L : List Rn) (c B0 : Nat) (hro : Ro w B0 a (rcs L)) (hB0 : B0 ≤ w.heap.size) (hl : L.length ≤ 1000000) :
    Calls Try.prog 29 #[.slice a L.length c] w fun e w' => ∃ v M, e = .returned v ∧ Lr w' w.heap.size 31 v M ∧ NF M ∧ (∀ q, mem M q = mem L q) ∧ M.length ≤ L.length ∧ Below w.heap.size w w' := by
  obtain ⟨n, HN⟩ : ∃ n, Hid (L.length = n) := ⟨_, Lib.hid rfl⟩
  rw [HN.out] at hl ⊢
  have HR := Lib.hid (hro.mono hB0)
  clear hro
  go_enter Try.func29, Try.ntmps29
  go_wp2_with fail
  go_loopw [3, 4] (fun s3 i wr => ∃ (k : Nat) (I : List Rn), i = .int .i64 k ∧ k ≤ n ∧ Srt I ∧ (∀ q, mem I q = mem (L.take k) q) ∧ I.length ≤ k ∧ Lr wr w.heap.size 31 s3 I ∧ Below w.heap.size w wr) (fun _ i _ => n - (intOf i).toNat)
  case atStart => exact ⟨0, [], rfl, Nat.zero_le _, Srt.nil, fun q => by simp, Nat.le_refl _, Lr.nil _ _ _, Below.refl _ _⟩
  case round =>
    obtain ⟨k, I, rfl, hk, hsrt, hmem, hIl, hr, hb⟩ := hrel
    by_cases hlt : k < n
    · have hkL : k < L.length := by rw [HN.out]; exact hlt
      obtain ⟨g, off, rfl, hg, hcl⟩ := HR.out.rn (by omega)
      obtain ⟨h1, h2⟩ := hcl k hkL
      have hx1 := (hb.cell (p := ⟨g, off + k * 2, none⟩) hg).trans h1
      have hx2 := (hb.cell (p := ⟨g, off + k * 2 + 1, none⟩) hg).trans h2
      have HT := Lib.hid (fun q => show mem (L.take (k + 1)) q = (mem (L.take k) q || inR (el L k) q) by rw [take_el hkL, mem_append]; simp)
      have HMM := Lib.hid hmem
      have HSR := Lib.hid hsrt
      generalize el L k = x at *
      have hd1 : decide (k < n) = true := by simpa using hlt
      have hk0 : (0 : Int) ≤ (k : Int) := by omega
      have hk1 : (k : Int) < (n : Int) := by omega
      have hkb : (k : Int) ≤ 4000000 := by omega
      have HKM := Lib.hid (show n - (k + 1) < n - k by omega)
      have hgr : g < wr.heap.size := Nat.lt_of_lt_of_le hg hb.size
      have HRr := Lib.hid hr
      have HB := Lib.hid hb
      clear hcl h1 h2 hr hb hmem hsrt
      by_cases he : x.2 ≤ x.1
      · have hde : decide (x.2 ≤ x.1) = true := by simpa using he
        have HE := Lib.hid (fun q => inR_empty he q)
        clear he
        go_wp2_with fail
        go_region
        go_wp2_with fail
        go_roundw
        case rel => exact ⟨k + 1, I, by go_num, by omega, HSR.out, fun q => by rw [HT.out, HMM.out, HE.out]; simp, by omega, HRr.out, HB.out.drew⟩
        case measure => have := HKM.out; simp [intOf]; omega
      · have hne : x.1 < x.2 := by omega
        have hde : decide (x.2 ≤ x.1) = false := by simpa using he
        have HNE := Lib.hid hne
        clear he hne
        go_wp2_with fail
        go_region
        have hy1 : wr.drew.cell? ⟨g, off + k * 2, none⟩ = some (.int .u64 (x.1 : Int)) := hx1
        have hy2 : wr.drew.cell? ⟨g, off + k * 2 + 1, none⟩ = some (.int .u64 (x.2 : Int)) := hx2
        have HBq := Lib.hid (show Below w.heap.size w wr.drew from HB.out.drew)
        have HRq := Lib.hid (show Lr wr.drew w.heap.size 31 u3 I from HRr.out)
        clear hx1 hx2 HB HRr hgr
        generalize wr.drew = wq at *
        obtain ⟨m, HM⟩ : ∃ m, Hid (I.length = m) := ⟨_, Lib.hid rfl⟩
        obtain ⟨N1, HN1⟩ : ∃ N1, Hid (m + 1 = N1) := ⟨_, Lib.hid rfl⟩
        have hkn : k + 1 ≤ n := hlt
        have hmk : m ≤ k := by have := HM.out; omega
        have hN1 : (1 : Int) ≤ (N1 : Int) := by have := HN1.out; omega
        have hN2 : (N1 : Int) ≤ 1000001 := by have := HN1.out; omega
        have hwN : IntKind.i64.wrap ((N1 : Int) - 1) = (m : Int) := by rw [IntKind.wrap_i64]; have := HN1.out; omega
        have hwM : (N1 : Int) - 1 = (m : Int) := by have := HN1.out; omega
        go_wp2_with (at_builtin; refine wpList_app1R rfl _ _ 26 rfl w.heap.size 31 zR 16 Try.underlying26 Try.infoF rfl x _ I (by rfl) HRq.out _ (by rfl) rfl (by omega) (by omega) w HBq.out (Nat.le_refl _) ?_; intro v4 w4 H4 HB4; obtain ⟨g4, c4, cur4, rfl, hb4, ho4, hle4, hm4, hs4, ht4⟩ := H4.out.open1 (N := N1) (by rw [HM.out, HN1.out]); have HS4 := Lib.hid (And.intro ho4 (And.intro hs4 ht4)); clear ho4 hs4 ht4 H4)
        have HEX := Lib.hid (show ∀ (j : Nat) (cur : List Value) (W : World), j ≤ m → (∀ y ∈ I.drop j, x.1 ≤ y.1) → Own W g4 31 cur → cur.length = c4 * 2 → cur.take (N1 * 2) = rcs (insAt I x j) → Below w.heap.size w W → (j = 0 ∨ (el I (j - 1)).1 ≤ x.1) →
            Srt (insAt I x j) ∧ (∀ q, mem (insAt I x j) q = mem (L.take (k + 1)) q) ∧ (insAt I x j).length ≤ k + 1 ∧ Lr W w.heap.size 31 (.slice (some ⟨g4, 0, none⟩) N1 c4) (insAt I x j) ∧ Below w.heap.size w W from fun j cur W hj hlow ho hcl htk hb h0 => by
          have hlen : (insAt I x j).length = N1 := by rw [insAt_len, HM.out, HN1.out]
          refine ⟨srt_insAt HSR.out HNE.out (by rw [HM.out]; exact hj) hlow h0, fun q => by rw [mem_insAt, HT.out, HMM.out], by rw [hlen]; have := HN1.out; omega, ?_, hb⟩
          have := Lr.mk (base := w.heap.size) (L := insAt I x j) hb4 ho (by rw [hlen]; exact hle4) hm4 hcl (by rw [hlen]; exact htk)
          rwa [hlen] at this)
        go_loopw [5] (fun s5 wr => ∃ (j : Nat) (cur : List Value), s5 = .int .i64 j ∧ j ≤ m ∧ (∀ y ∈ I.drop j, x.1 ≤ y.1) ∧ Own wr g4 31 cur ∧ cur.length = c4 * 2 ∧ cur.take (N1 * 2) = rcs (insAt I x j) ∧ Below w.heap.size w wr) (fun s5 _ => (intOf s5).toNat)
        case atStart =>
          refine ⟨m, cur4, by first | rfl | go_num, Nat.le_refl _, ?_, HS4.out.1, HS4.out.2.1, ?_, HB4.out⟩
          · rw [List.drop_of_length_le (by rw [HM.out]; omega)]; simp
          · rw [HS4.out.2.2, ← HM.out, insAt_end]
        case round =>
          obtain ⟨j, cur, rfl, hj, hlow, ho, hcl, htk, hb⟩ := hrel
          rcases Nat.eq_zero_or_pos j with hj0 | hj0
          · have hdj : decide (0 < j) = false := by simp; omega
            have HR2 := Lib.hid (HEX.out j cur wr.drew hj hlow ho hcl htk hb.drew (.inl hj0))
            clear hlow ho hcl htk hb hj0
            go_wp2_with fail
            go_region
            go_wp2_with fail
            go_roundw
            case rel => exact ⟨k + 1, insAt I x j, by go_num, hkn, HR2.out⟩
            case measure => have := HKM.out; simp [intOf]; omega
          · obtain ⟨i, rfl⟩ : ∃ i, j = i + 1 := ⟨j - 1, by omega⟩
            have hdj : decide (0 < i + 1) = true := by simp
            obtain ⟨q1, q2⟩ := row_el ho htk (by rw [insAt_len, HM.out, HN1.out]) (i := i + 1) (by have := HN1.out; omega)
            obtain ⟨q3, q4⟩ := row_el ho htk (by rw [insAt_len, HM.out, HN1.out]) (i := i) (by have := HN1.out; omega)
            rw [el_insAt _ _ (by rw [HM.out]; exact hj)] at q1 q2
            rw [el_insAt_pre _ _ (by rw [HM.out]; exact hj) (by omega)] at q3 q4
            obtain ⟨j2, hj2⟩ : ∃ j2, j2 = i + 1 := ⟨_, rfl⟩
            rw [← hj2] at q1 q2 hj hlow htk hdj ⊢
            have HSW := Lib.hid (fun (h : x.1 < (el I i).1) => @below_step I x i (by rw [HM.out]; omega) (by rw [← hj2]; exact hlow) h)
            have HW2 := Lib.hid (@insAt_swap I x i (by rw [HM.out]; omega))
            rw [← hj2] at HW2
            have HRq := Lib.hid (fun (h : (el I i).1 ≤ x.1) => HEX.out j2 cur wr.drew hj hlow ho hcl htk hb.drew (.inr (by rw [hj2]; exact h)))
            have HO := Lib.hid (And.intro ho (And.intro hcl htk))
            have HBr := Lib.hid hb
            have hw3 : IntKind.i64.wrap ((j2 : Int) - 1) = (i : Int) := by rw [IntKind.wrap_i64]; omega
            have hi0 : (0 : Int) ≤ (i : Int) := by omega
            have hi1 : (i : Int) < (N1 : Int) := by have := HN1.out; omega
            have hj1 : (j2 : Int) < (N1 : Int) := by have := HN1.out; omega
            have hj00 : (0 : Int) ≤ (j2 : Int) := by omega
            have hji := Lib.hid (show i < j2 by omega)
            have HJ2 := Lib.hid hj2
            have hgl := ho.lt
            clear hlow ho hcl htk hb hj0 hj2
            generalize el I i = y at *
            by_cases hsw : x.1 < y.1
            · have hds : decide (x.1 < y.1) = true := by simpa using hsw
              have HSW2 := Lib.hid (HSW.out hsw)
              clear hsw HSW HRq
              go_wp2_with fail
              go_region
              go_upto_region 11 with fail
              obtain ⟨R, HRR⟩ : ∃ R, Hid (wr.heap.size = R) := ⟨_, Lib.hid rfl⟩
              obtain ⟨w5, HW5⟩ : ∃ w5, Hid ((wr.alloc (.cells #[.int .u64 (x.1 : Int), .int .u64 (x.2 : Int)] 31)).drew = w5) := ⟨_, Lib.hid rfl⟩
              have ho5 : Own w5 g4 31 cur := by rw [← HW5.out]; exact HO.out.1.alloc _
              have hx5 : Own w5 R 31 [.int .u64 (x.1 : Int), .int .u64 (x.2 : Int)] := by rw [← HW5.out, ← HRR.out]; exact Own.new wr _ _
              have hb5 : Below w.heap.size w w5 := by rw [← HW5.out]; exact (HBr.out.alloc HBr.out.size _).drew
              have hgR : g4 ≠ R := by have := HRR.out; omega
              have q5 : w5.cell? ⟨g4, i * 2, none⟩ = some (.int .u64 (y.1 : Int)) := by rw [← HW5.out]; exact (World.cell?_alloc_lt _ _ _ hgl).trans q3
              have q6 : w5.cell? ⟨g4, i * 2 + 1, none⟩ = some (.int .u64 (y.2 : Int)) := by rw [← HW5.out]; exact (World.cell?_alloc_lt _ _ _ hgl).trans q4
              have q7 : w5.cell? ⟨g4, j2 * 2, none⟩ = some (.int .u64 (x.1 : Int)) := by rw [← HW5.out]; exact (World.cell?_alloc_lt _ _ _ hgl).trans q1
              have q8 : w5.cell? ⟨g4, j2 * 2 + 1, none⟩ = some (.int .u64 (x.2 : Int)) := by rw [← HW5.out]; exact (World.cell?_alloc_lt _ _ _ hgl).trans q2
              have f1 := ho5.frozen (j2 * 2)
              have f2 := ho5.frozen (j2 * 2 + 1)
              rw [HW5.out, HRR.out]
              have HO5 := Lib.hid (And.intro ho5 (And.intro hx5 hb5))
              clear ho5 hx5 hb5 q1 q2 q3 q4 hgl HBr
              have HC5 := Lib.hid (And.intro HO.out.2.1 HO.out.2.2)
              clear HO
              go_upto_region 12 with fail
              obtain ⟨w6, HW6⟩ : ∃ w6, Hid ((w5.setCell ⟨g4, j2 * 2, none⟩ (.int .u64 (y.1 : Int))).setCell ⟨g4, j2 * 2 + 1, none⟩ (.int .u64 (y.2 : Int)) = w6) := ⟨_, Lib.hid rfl⟩
              have ho6 : Own w6 g4 31 ((cur.set (j2 * 2) (.int .u64 (y.1 : Int))).set (j2 * 2 + 1) (.int .u64 (y.2 : Int))) := by rw [← HW6.out]; exact (HO5.out.1.set _ _).set _ _
              have hx6 : Own w6 R 31 [.int .u64 (x.1 : Int), .int .u64 (x.2 : Int)] := by rw [← HW6.out]; exact (HO5.out.2.1.far (fun e => hgR e.symm) _).far (fun e => hgR e.symm) _
              have hb6 : Below w.heap.size w w6 := by rw [← HW6.out]; exact (HO5.out.2.2.setCell hb4 _).setCell hb4 _
              have hij := hji.out
              have r1 : w6.cell? ⟨g4, i * 2, none⟩ = some (.int .u64 (y.1 : Int)) := by rw [ho6.cell, List.getElem?_set_ne (by omega), List.getElem?_set_ne (by omega), ← HO5.out.1.cell]; exact q5
              have r2 : w6.cell? ⟨g4, i * 2 + 1, none⟩ = some (.int .u64 (y.2 : Int)) := by rw [ho6.cell, List.getElem?_set_ne (by omega), List.getElem?_set_ne (by omega), ← HO5.out.1.cell]; exact q6
              have r3 : w6.cell? ⟨R, 0, none⟩ = some (.int .u64 (x.1 : Int)) := by rw [hx6.cell]; rfl
              have r4 : w6.cell? ⟨R, 1, none⟩ = some (.int .u64 (x.2 : Int)) := by rw [hx6.cell]; rfl
              have f5 := ho6.frozen (i * 2)
              have f6 := ho6.frozen (i * 2 + 1)
              rw [HW6.out]
              have HO6 := Lib.hid (And.intro ho6 hb6)
              clear ho6 hx6 hb6 q5 q6 q7 q8 f1 f2 hij
              go_wp2_with fail
              go_roundw
              case rel =>
                refine ⟨i, _, rfl, by have := hji.out; omega, HSW2.out, (HO6.out.1.set _ _).set _ _, ?_, ?_, (HO6.out.2.setCell hb4 _).setCell hb4 _⟩
                · simp only [List.length_set]; exact HC5.out.1
                · simp only [List.take_set]
                  rw [HC5.out.2, ← rcs_set, ← rcs_set, HW2.out]
              case measure => have := hji.out; simp [intOf]; omega
            · have hds : decide (x.1 < y.1) = false := by simpa using hsw
              have HR2 := Lib.hid (HRq.out (by omega))
              clear hsw HSW HRq
              go_wp2_with fail
              go_region
              go_wp2_with fail
              go_roundw
              case rel => exact ⟨k + 1, insAt I x j2, by go_num, hkn, HR2.out⟩
              case measure => have := HKM.out; simp [intOf]; omega
    · have ht : L.take k = L := List.take_of_length_le (by rw [HN.out]; omega)
      rw [ht] at hmem
      obtain ⟨a3, c3, rfl, hro3, hlc3, hc3, _, hbk3⟩ := hr.form
      obtain ⟨m, HM⟩ : ∃ m, Hid (I.length = m) := ⟨_, Lib.hid rfl⟩
      rw [HM.out] at hr hIl hlc3 ⊢
      have hmn : m ≤ n := by omega
      have hd1 : decide (k < n) = false := by simpa using hlt
      have HMM := Lib.hid hmem
      have HSR := Lib.hid hsrt
      have HRI := Lib.hid hr
      have HB := Lib.hid hb
      clear hmem hsrt hr hb hro3 hbk3 ht hlt
      go_wp2_with fail
      go_loopw [7, 8] (fun s7 s8 wr => ∃ (k : Nat) (O : List Rn), s8 = .int .i64 k ∧ k ≤ m ∧ Mrg I k O ∧ Lr wr w.heap.size 31 s7 O ∧ Lr wr w.heap.size 31 (.slice a3 m c3) I ∧ ((Value.slice a3 m c3).ownBlock = none ∨ (Value.slice a3 m c3).ownBlock ≠ s7.ownBlock) ∧ Below w.heap.size w wr) (fun _ s8 _ => m - (intOf s8).toNat)
      case atStart =>
        refine ⟨0, [], rfl, Nat.zero_le _, Mrg.start I, Lr.nil _ _ _, HRI.out, ?_, HB.out⟩
        cases hv : (Value.slice a3 m c3).ownBlock with
        | none => exact .inl rfl
        | some b => exact .inr (by simp [Value.ownBlock])
      case round =>
        obtain ⟨k, O, rfl, hk, hmg, hro, hri, hne, hb⟩ := hrel
        by_cases hlt : k < m
        · have hd1 : decide (k < m) = true := by simpa using hlt
          have hkI : k < I.length := by rw [HM.out]; exact hlt
          obtain ⟨p, HP⟩ : ∃ p, Hid (O.length = p) := ⟨_, Lib.hid rfl⟩
          have hpl := hmg.len
          rw [HP.out] at hpl
          obtain ⟨a7, c7, rfl, hro7, hlc7, hc7, _, hbk7⟩ := hro.form
          obtain ⟨a3', c3', hq3, hri3, _, _, _, hbi3⟩ := hri.form
          rw [HM.out] at hq3
          injection hq3 with hq3 _ hq4
          subst hq3 hq4
          obtain ⟨g3, o3, rfl, hg3, hcl3⟩ := hri3.rn (by omega)
          obtain ⟨rfl, _, _, _, _⟩ := hbi3 _ _ _ rfl
          obtain ⟨hx1, hx2⟩ := hcl3 k hkI
          rw [Nat.zero_add] at hx1 hx2
          rw [HP.out] at hlc7
          have HMJ := Lib.hid (fun h0 h => hmg.join HSR.out hkI h0 h)
          have HMN := Lib.hid (fun h => hmg.next HSR.out hkI h)
          rw [HP.out] at HMJ HMN hro hne ⊢
          have HRO := Lib.hid hro
          have HRI2 := Lib.hid hri
          have HNE := Lib.hid hne
          have HBr := Lib.hid hb
          have hk0 : (0 : Int) ≤ (k : Int) := by omega
          have hk1 : (k : Int) < (m : Int) := by omega
          have hkb : (k : Int) ≤ 4000000 := by omega
          have hpb : (p : Int) ≤ 4000000 := by omega
          have hp0 : (0 : Int) ≤ (p : Int) := by omega
          have HKM := Lib.hid (show m - (k + 1) < m - k by omega)
          have hkm1 : k + 1 ≤ m := hlt
          rcases Nat.eq_zero_or_pos p with hpz | hpz
          · have hwp : IntKind.i64.wrap ((p : Int) - 1) = -1 := by rw [hpz]; rfl
            have hwq : (p : Int) - 1 = -1 := by omega
            have HMN2 := Lib.hid (HMN.out (.inl hpz))
            clear hro hri hne hb hcl3 hri3 hbi3 hro7 hbk7 HMN HMJ hlt hpz
            generalize el I k = x at *
            go_wp2_with fail
            go_region
            have hy1 : wr.drew.cell? ⟨g3, k * 2, none⟩ = some (.int .u64 (x.1 : Int)) := hx1
            have hy2 : wr.drew.cell? ⟨g3, k * 2 + 1, none⟩ = some (.int .u64 (x.2 : Int)) := hx2
            have HBq := Lib.hid (show Below w.heap.size w wr.drew from HBr.out.drew)
            have HROq := Lib.hid (show Lr wr.drew w.heap.size 31 (.slice a7 p c7) O from HRO.out)
            have HRIq := Lib.hid (show Lr wr.drew w.heap.size 31 (.slice (some ⟨g3, 0, none⟩) m c3) I from HRI2.out)
            clear hx1 hx2 HBr HRO HRI2 hg3
            generalize wr.drew = wq at *
            go_wp2_with (at_builtin; refine wpList_app1N rfl _ _ 26 rfl w.heap.size 31 zR 16 Try.underlying26 Try.infoF rfl x _ O (by rfl) HROq.out _ (by rfl) rfl (by rw [HP.out]; omega) (by rw [HP.out]; omega) HBq.out.size ?_; intro v4 w4 H4 H5)
            have hbb := belowG H5.out.1 (B := w.heap.size) (fun q hq => (HROq.out.lt q hq).1) HBq.out.size
            have HFF := HRIq.out.far H5.out.1 H5.out.2 HNE.out
            go_roundw
            case rel => exact ⟨k + 1, O ++ [x], by go_num, hkm1, HMN2.out, H4.out, HFF.1, HFF.2, HBq.out.trans hbb⟩
            case measure => have := HKM.out; simp [intOf]; omega
          · obtain ⟨p1, hp1⟩ : ∃ p1, p = p1 + 1 := ⟨p - 1, by omega⟩
            have hpp : p - 1 = p1 := by omega
            have hwp : IntKind.i64.wrap ((p : Int) - 1) = (p1 : Int) := by rw [IntKind.wrap_i64]; omega
            have hwq : (p : Int) - 1 = (p1 : Int) := by omega
            have hp10 : (0 : Int) ≤ (p1 : Int) := by omega
            have hp11 : (p1 : Int) < (p : Int) := by omega
            have hp12 : decide ((0 : Int) ≤ (p1 : Int)) = true := by simp
            rw [hpp] at HMJ HMN
            have hpO : p1 < O.length := by have := HP.out; omega
            obtain ⟨g7, o7, rfl, hg7, hcl7⟩ := hro7.rn (by omega)
            obtain ⟨rfl, _, _, _, _⟩ := hbk7 _ _ _ rfl
            obtain ⟨hl1, hl2⟩ := hcl7 p1 hpO
            rw [Nat.zero_add] at hl1 hl2
            have HST := Lib.hid (fun t : Nat => show rcs (O.take p1 ++ [((el O p1).1, t)]) = (rcs O).set (p1 * 2 + 1) (.int .u64 (t : Int)) by
              rw [← rcs_set2]
              have h := set_last O ((el O p1).1, t) (by omega)
              rw [HP.out, hpp] at h
              rw [h])
            have HP1 := Lib.hid hp1
            clear hro hri hne hb hcl3 hri3 hbi3 hro7 hbk7 hlt hcl7
            generalize el I k = x at *
            generalize el O p1 = l at *
            by_cases hj : x.1 ≤ l.2
            · have hdj : decide (x.1 ≤ l.2) = true := by simpa using hj
              have HMJ2 := Lib.hid (HMJ.out hpz hj)
              clear HMJ HMN hj hpz hp1 hpp
              obtain ⟨g7', c7', cur7, hv7, hb7, ho7, hle7, hm7, hs7, ht7⟩ := HRO.out.open_ (by simp)
              rw [HP.out] at hv7 hle7 ht7
              injection hv7 with hv7 _ hv8
              injection hv7 with hv7
              injection hv7 with hv7 _ _
              subst hv7 hv8
              have hf7 := ho7.frozen (p1 * 2 + 1)
              have HO7 := Lib.hid (And.intro ho7 (And.intro hs7 ht7))
              clear ho7 hs7 ht7
              go_wp2_with fail
              go_region
              go_wp2_with fail
              go_region
              have hmx : (max (l.2 : Int) (x.2 : Int)) = ((max l.2 x.2 : Nat) : Int) := by omega
              have hgr := grown_drew (grown_drew (only_set (World.grownBy.refl wr (some g7)) (p1 * 2 + 1) (.int .u64 ((max l.2 x.2 : Nat) : Int))))
              have hon := HO7.out.1.set (p1 * 2 + 1) (.int .u64 ((max l.2 x.2 : Nat) : Int))
              have hlen : (O.take p1 ++ [(l.1, max l.2 x.2)]).length = p := by
                rw [List.length_append, List.length_take, HP.out, List.length_singleton]; have := HP1.out; omega
              have hln := Lr.mk (base := w.heap.size) (L := O.take p1 ++ [(l.1, max l.2 x.2)]) hb7 hon (by rw [hlen]; exact hle7) hm7 (by rw [List.length_set]; exact HO7.out.2.1) (by rw [hlen, List.take_set, HO7.out.2.2, HST.out])
              rw [hlen] at hln
              have hIn := HRI2.out.kept hgr (by have := HNE.out; simpa [Value.ownBlock] using this)
              have hbn := belowG hgr (B := w.heap.size) (fun q hq => by injection hq with hq; omega) HBr.out.size
              rw [hmx]
              go_wp2_with fail
              go_roundw
              case rel => exact ⟨k + 1, _, by go_num, hkm1, HMJ2.out, hln, hIn, HNE.out, HBr.out.trans hbn⟩
              case measure => have := HKM.out; simp [intOf]; omega
            · have hdj : decide (x.1 ≤ l.2) = false := by simpa using hj
              have HMN2 := Lib.hid (HMN.out (.inr (by omega)))
              clear HMJ HMN hj hpz hp1 hpp
              go_wp2_with fail
              go_region
              have hy1 : wr.drew.cell? ⟨g3, k * 2, none⟩ = some (.int .u64 (x.1 : Int)) := hx1
              have hy2 : wr.drew.cell? ⟨g3, k * 2 + 1, none⟩ = some (.int .u64 (x.2 : Int)) := hx2
              have HBq := Lib.hid (show Below w.heap.size w wr.drew from HBr.out.drew)
              have HROq := Lib.hid (show Lr wr.drew w.heap.size 31 (.slice (some ⟨g7, 0, none⟩) p c7) O from HRO.out)
              have HRIq := Lib.hid (show Lr wr.drew w.heap.size 31 (.slice (some ⟨g3, 0, none⟩) m c3) I from HRI2.out)
              clear hx1 hx2 hl1 hl2 HBr HRO HRI2 hg3 hg7
              generalize wr.drew = wq at *
              go_wp2_with (at_builtin; refine wpList_app1N rfl _ _ 26 rfl w.heap.size 31 zR 16 Try.underlying26 Try.infoF rfl x _ O (by rfl) HROq.out _ (by rfl) rfl (by rw [HP.out]; omega) (by rw [HP.out]; omega) HBq.out.size ?_; intro v4 w4 H4 H5)
              have hbb := belowG H5.out.1 (B := w.heap.size) (fun q hq => (HROq.out.lt q hq).1) HBq.out.size
              have HFF := HRIq.out.far H5.out.1 H5.out.2 HNE.out
              go_roundw
              case rel => exact ⟨k + 1, O ++ [x], by go_num, hkm1, HMN2.out, H4.out, HFF.1, HFF.2, HBq.out.trans hbb⟩
              case measure => have := HKM.out; simp [intOf]; omega
        · have hd1 : decide (k < m) = false := by simpa using hlt
          have hkm : k = m := by omega
          subst hkm
          have HMG := Lib.hid hmg
          have HRO := Lib.hid hro
          have HB2 := Lib.hid hb
          have hol := hmg.len
          clear hmg hro hb hri
          go_wp2_with fail
          go_ret
          exact ⟨u7, O, rfl, HRO.out, HMG.out.nf, fun q => by rw [HMG.out.mem, List.take_of_length_le (by rw [HM.out]; omega), HMM.out], by omega, HB2.out⟩
end Go.Proofs.Ytoadbkiklabceaa
