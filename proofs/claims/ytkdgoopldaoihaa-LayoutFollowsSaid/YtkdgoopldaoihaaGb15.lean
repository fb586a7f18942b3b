/-
  The document's Decode of a layout, by its contract. Lemmas, no claim of their own.
-/
import Derived.Test.YtkdgoopldaoihaaGb13
import Derived.Test.YtkdgoopldaoihaaGb10
import Derived.Test.YtkdgoopldaoihaaGb14
namespace Go.Proofs.Ytkdgoopldaoihaa
open Go.RowKit Go.Deep
set_option linter.unusedVariables false
set_option linter.unusedSimpArgs false

theorem cnt_wrap (u1 u : Nat) (h : u1 + 1 = u) (h4 : u ≤ 4) : IntKind.i64.wrap ((u1 : Int) + 1) = (u : Int) ∧ wrap64 ((u1 : Int) + 1) = (u : Int) := by
  constructor
  · rw [IntWalk.i64_in _ (by omega)]; omega
  · unfold wrap64; omega
/-- a cursor of layouts: all that was read was there, just if it stands within the bytes -/
def Cur9 (w : World) (B s : Nat) (bs : List UInt8) (k : Nat) : Prop := Cur w 64 B s bs k (decide (k ≤ 8 * bs.length))
theorem Cur9.chg {w w' : World} {B s : Nat} {bs : List UInt8} {k : Nat} {l : List Nat} (h : Cur9 w B s bs k) (hc : Chg l w w') (hs : s ∉ l) (hl : ∀ x ∈ l, B ≤ x) : Cur9 w' B s bs k := Cur.chg h hc hs hl
theorem Cur9.new0 {w w' : World} {B s : Nat} {bs : List UInt8} {k : Nat} (h : Cur9 w B s bs k) (hc : Chg [] w w') : Cur9 w' B s bs k := h.chg hc (by simp) (by simp)
theorem Cur9.notT {w : World} {t : TypeId} {B s : Nat} {bs : List UInt8} {k : Nat} (h : Cur9 w B s bs k) (ht : t ≠ 64) : ∀ x ∈ [s], ∀ cur, w.heap[x]? ≠ some (.cells cur t (0, 0)) := by
  obtain ⟨⟨a, c, h1, h2⟩, h3⟩ := h
  exact h1.notT' ht
theorem rnum9_c (bs : List UInt8) (B s k m : Nat) (w : World) (h : Cur9 w B s bs k) (hk : k ≤ 1000000) (hm : m ≤ 62) :
    Calls Try.prog 34 #[.pointer (some ⟨s, 0, none⟩), .int .i64 (m : Int)] w fun e w' => e = .returned (.int .i64 (tkN bs k m : Nat)) ∧ Cur9 w' B s bs (k + m) ∧ Chg [s] w w' := by
  refine (rnum9_any bs B s k m _ w h hk hm).mono ?_
  rintro e w' ⟨rfl, h1, h2⟩
  refine ⟨rfl, ?_, h2⟩
  have e : (decide (k ≤ 8 * bs.length) && decide (k + m ≤ 8 * bs.length)) = decide (k + m ≤ 8 * bs.length) := by
    by_cases h : k + m ≤ 8 * bs.length
    · rw [decide_eq_true h, decide_eq_true (by omega)]; rfl
    · rw [decide_eq_false h, Bool.and_false]
  rw [e] at h1
  exact h1
set_option maxHeartbeats 8000000 in
set_option maxRecDepth 100000 in
theorem dldec_any (bs : List UInt8) (n : Nat) (a : Option Addr) (c B : Nat) (w : World) (hn : bs.length = n) (hro : Ro w B a (u8s bs)) (hB : B ≤ w.heap.size) (hl : n ≤ 1000000) :
    Calls Try.prog 10 #[.slice a n c] w (DLG w bs) := by
  obtain ⟨W, HWW⟩ : ∃ W, Hid (w.alloc (.cells #[.int .u64 0, .slice none 0 0, .int .i64 0] 25) = W) := ⟨_, Lib.hid rfl⟩
  obtain ⟨W2, HW2⟩ : ∃ W2, Hid (W.alloc (.cells #[.slice a n c, .int .i64 0, .bool true] 64) = W2) := ⟨_, Lib.hid rfl⟩
  have hWc : Chg [] w W := by rw [← HWW.out]; exact (Chg.refl [] w).alloc _
  have hWc2 : Chg [] w W2 := by rw [← HW2.out]; exact hWc.alloc _
  have hs : W.heap.size = w.heap.size + 1 := by rw [← HWW.out]; simp
  have o1 : Own W w.heap.size 25 [.int .u64 0, .slice none 0 0, .int .i64 0] := by rw [← HWW.out]; exact Own.new w _ _
  have HO1 : Hid (Own W2 w.heap.size 25 [.int .u64 0, .slice none 0 0, .int .i64 0]) := Lib.hid (by rw [← HW2.out]; exact o1.alloc _)
  have HSRC : Hid (Cur9 W2 B (w.heap.size + 1) bs 0) := Lib.hid ⟨⟨a, c, by rw [hn, ← hs, ← HW2.out]; exact Own.new W _ _, hro.below hWc2.low hB⟩, by omega, by omega⟩
  have HC2 : Hid (Chg [w.heap.size + 1] w W2) := Lib.hid (hWc2.nil1 _)
  have HRO := Lib.hid hro
  have HBW := Lib.hid hB
  have HN := Lib.hid hn
  have HS := Lib.hid hs
  clear hWc hWc2 hs o1 hro hB hn
  obtain ⟨s, hs⟩ : ∃ s, w.heap.size + 1 = s := ⟨_, rfl⟩
  have HSE := Lib.hid hs
  rw [hs] at HSRC HC2 HS
  clear hs
  obtain ⟨ep, hep⟩ : ∃ f, tkN bs 0 21 = f := ⟨_, rfl⟩
  obtain ⟨q, hq⟩ : ∃ f, tkN bs 21 5 = f := ⟨_, rfl⟩
  have hq5 : q < 32 := by have := tkN_lt bs 21 5; omega
  have hep5 : ep < 2097152 := by have := tkN_lt bs 0 21; omega
  obtain ⟨n1, hn1⟩ : ∃ f, tkN bs 26 2 = f := ⟨_, rfl⟩
  obtain ⟨nn, hnn⟩ : ∃ n, n1 + 1 = n := ⟨_, rfl⟩
  have hn4 : nn ≤ 4 := by have := tkN_lt bs 26 2; omega
  have HP : Hid (pLy bs = ⟨ep, (rep (pSg bs) nn 28).1, (q : Int)⟩) := Lib.hid (by unfold pLy; rw [hn1, hnn, hep, hq])
  have HEND : Hid (eLy bs = (rep (pSg bs) nn 28).2) := Lib.hid (by unfold eLy; rw [hn1, hnn])
  have hn4' : (nn : Int) ≤ 4 := by omega
  have en1 : (n1 : Int) + 1 = (nn : Int) := by omega
  have en2 : IntKind.i64.wrap ((n1 : Int) + 1) = (nn : Int) := by rw [IntWalk.i64_in _ (by omega)]; omega
  have en3 : wrap64 ((n1 : Int) + 1) = (nn : Int) := by unfold wrap64; omega
  have eep : IntKind.u64.wrap (ep : Int) = (ep : Int) := wrap_u64_nat ep (by omega)
  have HT1 := Lib.hid (rnum9_c bs B s 0 21 W2 HSRC.out (by omega) (by omega))
  rw [hep] at HT1
  have HT2 := Lib.hid (fun W' (h : Cur9 W' B s bs 21) => rnum9_c bs B s 21 5 W' h (by omega) (by omega))
  rw [hq] at HT2
  have HT3 := Lib.hid (fun W' (h : Cur9 W' B s bs 26) => rnum9_c bs B s 26 2 W' h (by omega) (by omega))
  rw [hn1] at HT3
  clear hep hq hn1 hnn
  go_enter Try.func10, Try.ntmps10
  go_upto_region 1 with fail
  rw [HWW.out]
  go_upto_region 2 with fail
  rw [HW2.out, HS.out]
  go_wp2_with fail
  refine HT1.out.mono ?_
  rintro e w1 ⟨rfl, h1, h2⟩
  go_upto_region 3 with fail
  obtain ⟨p, hp⟩ : ∃ p, w1.heap.size = p := ⟨_, rfl⟩
  obtain ⟨W3, hW3⟩ : ∃ W3, w1.alloc (.cells #[.int .u64 (ep : Int), .slice none 0 0, .int .i64 0] 25) = W3 := ⟨_, rfl⟩
  have HS3 : Hid (Cur9 W3 B s bs 21) := Lib.hid (by rw [← hW3]; exact h1.new0 ((Chg.refl [] w1).alloc _))
  have HC3 : Hid (Chg [s] w W3) := Lib.hid (by rw [← hW3]; exact (HC2.out.trans h2).alloc _)
  have HO3 : Hid (Own W3 w.heap.size 25 [.int .u64 0, .slice none 0 0, .int .i64 0]) := Lib.hid (by rw [← hW3]; exact (HO1.out.chg h2 (by have := HSE.out; simp; omega)).alloc _)
  have HP3 : Hid (Own W3 p 25 [.int .u64 (ep : Int), .slice none 0 0, .int .i64 0]) := Lib.hid (by rw [← hW3, ← hp]; exact Own.new w1 _ _)
  have HPW : Hid (s < p) := Lib.hid (by rw [← hp]; have := h2.size; have := HSRC.out.lt; omega)
  rw [hW3, hp]
  clear h1 h2 hW3 hp
  go_wp2_with fail
  refine (HT2.out W3 HS3.out).mono ?_
  rintro e w4 ⟨rfl, h1, h2⟩
  have HS4 := Lib.hid h1
  have HC4 := Lib.hid (HC3.out.trans h2)
  have HO4 := Lib.hid (HO3.out.chg h2 (by have := HSE.out; simp; omega))
  have HP4 := Lib.hid (HP3.out.chg h2 (by have := HPW.out; simp; omega))
  have d2 := HP4.out.cell 2
  have f2 := HP4.out.frozen 2
  have hz := HP4.out.lt
  simp at d2
  clear h1 h2
  go_upto_region 4 with fail
  obtain ⟨W5, hW5⟩ : ∃ W5, w4.setCell ⟨p, 2, none⟩ (.int .i64 (q : Int)) = W5 := ⟨_, rfl⟩
  have s5 : Chg [p] w4 W5 := by rw [← hW5]; exact (Chg.refl [p] w4).setCell (by simp) _
  have HS5 := Lib.hid (HS4.out.chg s5 (by have := HPW.out; simp; omega) (by have := HPW.out; have := HSE.out; have := HBW.out; simp; omega))
  have HC5 := Lib.hid (HC4.out.then s5 (fun x hx => by simp only [List.mem_singleton] at hx; subst hx; exact .inr (by have := HPW.out; have := HSE.out; omega)))
  have HO5 := Lib.hid (HO4.out.chg s5 (by have := HPW.out; have := HSE.out; simp; omega))
  have HP5 : Hid (Own W5 p 25 [.int .u64 (ep : Int), .slice none 0 0, .int .i64 (q : Int)]) := Lib.hid (by rw [← hW5]; exact HP4.out.set 2 _)
  rw [hW5]
  clear s5 hW5 d2 f2 hz
  go_wp2_with fail
  refine (HT3.out W5 HS5.out).mono ?_
  rintro e w5 ⟨rfl, h1, h2⟩
  have HS6 : Hid (Cur9 w5 B s bs (rep (pSg bs) 0 28).2) := Lib.hid h1
  have HC6 := Lib.hid (HC5.out.trans h2)
  have HO6 := Lib.hid (HO5.out.chg h2 (by have := HSE.out; simp; omega))
  have HP6 := Lib.hid (HP5.out.chg h2 (by have := HPW.out; simp; omega))
  clear h1 h2
  clear en1 eep hep5 hq5
  go_wp2_with fail
  clear en2 en3
  go_loopw [7] (fun i wr => ∃ (j : Nat) (al : Option Addr) (cl : Nat) (Ts : List SgT), j ≤ nn ∧ i = .int .i64 (j : Int) ∧ Hid (Ts.length = j) ∧ Hid (sgx Ts = (rep (pSg bs) j 28).1) ∧ Hid (Own wr p 25 [.int .u64 (ep : Int), .slice al j cl, .int .i64 (q : Int)]) ∧ Hid (Own wr w.heap.size 25 [.int .u64 0, .slice none 0 0, .int .i64 0]) ∧ Hid (Sl wr w.heap.size (.slice al j cl) Ts) ∧ Hid (GwS wr w.heap.size Ts) ∧ Hid (Cur9 wr B s bs (rep (pSg bs) j 28).2) ∧ Hid (Chg [s] w wr)) (fun i _ => nn - (intOf i).toNat)
  case atStart => exact ⟨0, none, 0, [], Nat.zero_le _, rfl, Lib.hid rfl, Lib.hid rfl, HP6, HO6, Lib.hid (Sl.nil _ _), Lib.hid (fun c hc => by cases hc), HS6, HC6⟩
  case round =>
    obtain ⟨j, al, cl, Ts, hj, rfl, HTL, HTX, HPj, HRj, HLj, HGj, HXj, HCj⟩ := hrel
    rename World => w6
    by_cases hlt : j < nn
    · have hj0 : (0 : Int) ≤ (j : Int) := by omega
      have hj1 : (j : Int) < (nn : Int) := by omega
      have HR : Hid (rep (pSg bs) (j + 1) 28 = ((rep (pSg bs) j 28).1 ++ [(pSg bs (rep (pSg bs) j 28).2).1], (pSg bs (rep (pSg bs) j 28).2).2)) := Lib.hid rfl
      have HQ : Hid ((rep (pSg bs) j 28).2 ≤ 800000) := Lib.hid (by have := rep_at (p := pSg bs) (d := 110) (fun k => (pSg_at bs k).1) j 28; omega)
      generalize rep (pSg bs) j 28 = r at *
      obtain ⟨xs, k⟩ := r
      simp only at HR HTX HXj HQ
      obtain ⟨f, hf⟩ : ∃ f, tkN bs k 20 = f := ⟨_, rfl⟩
      obtain ⟨m1, hm1⟩ : ∃ f, tkN bs (k + 20) 2 = f := ⟨_, rfl⟩
      obtain ⟨m, hm⟩ : ∃ n, m1 + 1 = n := ⟨_, rfl⟩
      have hm4 : m ≤ 4 := by have := tkN_lt bs (k + 20) 2; omega
      have hf5 : f < 1048576 := by have := tkN_lt bs k 20; omega
      have HPS : Hid (pSg bs k = ((f, (rep (pCh bs) m (k + 20 + 2)).1), (rep (pCh bs) m (k + 20 + 2)).2)) := Lib.hid (by unfold pSg; rw [hm1, hm, hf])
      have em1 : (m1 : Int) + 1 = (m : Int) := by omega
      have em2 : IntKind.i64.wrap ((m1 : Int) + 1) = (m : Int) := by rw [IntWalk.i64_in _ (by omega)]; omega
      have em3 : wrap64 ((m1 : Int) + 1) = (m : Int) := by unfold wrap64; omega
      have ef : IntKind.u64.wrap (f : Int) = (f : Int) := wrap_u64_nat f (by omega)
      have hm4' : (m : Int) ≤ 4 := Int.ofNat_le.2 hm4
      have HTf := Lib.hid (rnum9_c bs B s k 20 w6 HXj.out (by have := HQ.out; omega) (by omega))
      rw [hf] at HTf
      have HTm := Lib.hid (fun W' (h : Cur9 W' B s bs (k + 20)) => rnum9_c bs B s (k + 20) 2 W' h (by have := HQ.out; omega) (by omega))
      rw [hm1] at HTm
      clear hf hm1 hm
      go_wp2_with fail
      refine HTf.out.mono ?_
      rintro e w7 ⟨rfl, h1, h2⟩
      go_upto_region 9 with fail
      obtain ⟨ps, hps⟩ : ∃ p, w7.heap.size = p := ⟨_, rfl⟩
      obtain ⟨W8, hW8⟩ : ∃ W3, w7.alloc (.cells #[.int .u64 (f : Int), .slice none 0 0] 49) = W3 := ⟨_, rfl⟩
      have HS8 : Hid (Cur9 W8 B s bs (k + 20)) := Lib.hid (by rw [← hW8]; exact h1.new0 ((Chg.refl [] w7).alloc _))
      have HC8 : Hid (Chg [s] w6 W8) := Lib.hid (by rw [← hW8]; exact h2.alloc _)
      have HP8 : Hid (Own W8 ps 49 [.int .u64 (f : Int), .slice none 0 0]) := Lib.hid (by rw [← hW8, ← hps]; exact Own.new w7 _ _)
      have HPW8 : Hid (w6.heap.size ≤ ps) := Lib.hid (by rw [← hps]; exact h2.size)
      have HS6L : Hid (s < w6.heap.size) := Lib.hid HXj.out.lt
      rw [hW8, hps]
      clear h1 h2 hW8 hps
      go_wp2_with fail
      refine (HTm.out W8 HS8.out).mono ?_
      rintro e w9 ⟨rfl, h1, h2⟩
      have HS9 : Hid (Cur9 w9 B s bs (rep (pCh bs) 0 (k + 20 + 2)).2) := Lib.hid h1
      have HC9 := Lib.hid (HC8.out.trans h2)
      have HP9 := Lib.hid (HP8.out.chg h2 (by have := HPW8.out; have := HS6L.out; simp; omega))
      clear h1 h2 em1 ef hf5
      go_wp2_with fail
      clear em2 em3
      go_loopw [10] (fun i wr => ∃ (z : Nat) (al : Option Addr) (cl : Nat) (Cs : List ChT), z ≤ m ∧ i = .int .i64 (z : Int) ∧ Hid (Cs.length = z) ∧ Hid (chx Cs = (rep (pCh bs) z (k + 20 + 2)).1) ∧ Hid (Own wr ps 49 [.int .u64 (f : Int), .slice al z cl]) ∧ Hid (Lst wr w6.heap.size 36 (.slice al z cl) (chv Cs)) ∧ Hid (GwC wr w6.heap.size Cs) ∧ Hid (Cur9 wr B s bs (rep (pCh bs) z (k + 20 + 2)).2) ∧ Hid (Chg [s] w6 wr)) (fun i _ => m - (intOf i).toNat)
      case atStart => exact ⟨0, none, 0, [], Nat.zero_le _, rfl, Lib.hid rfl, Lib.hid rfl, HP9, Lib.hid (Lst.nil _ _ _), Lib.hid (fun c hc => by cases hc), HS9, HC9⟩
      case round =>
        obtain ⟨z, al2, cl2, Cs, hz, rfl, HCL, HCX, HPz, HLz, HGz, HXz, HCz⟩ := hrel
        rename World => w10
        by_cases hlt2 : z < m
        · have hz0 : (0 : Int) ≤ (z : Int) := Int.natCast_nonneg z
          have hz1 : (z : Int) < (m : Int) := Int.ofNat_lt.2 hlt2
          have HR2 : Hid (rep (pCh bs) (z + 1) (k + 20 + 2) = ((rep (pCh bs) z (k + 20 + 2)).1 ++ [(pCh bs (rep (pCh bs) z (k + 20 + 2)).2).1], (pCh bs (rep (pCh bs) z (k + 20 + 2)).2).2)) := Lib.hid rfl
          have HQ2 : Hid ((rep (pCh bs) z (k + 20 + 2)).2 ≤ 900000) := Lib.hid (by have := rep_at (p := pCh bs) (d := 22) (fun k => (pCh_at bs k).1) z (k + 20 + 2); have := HQ.out; omega)
          generalize rep (pCh bs) z (k + 20 + 2) = r2 at *
          obtain ⟨ys, k2⟩ := r2
          simp only at HR2 HCX HXz HQ2
          obtain ⟨u1, hu1⟩ : ∃ f, tkN bs k2 2 = f := ⟨_, rfl⟩
          obtain ⟨u, hu⟩ : ∃ n, u1 + 1 = n := ⟨_, rfl⟩
          have hu4 : u ≤ 4 := hu ▸ hu1 ▸ (tkN_lt bs k2 2 : tkN bs k2 2 < 4)
          have HPC : Hid (pCh bs k2 = rep (pU bs) u (k2 + 2)) := Lib.hid (by unfold pCh; rw [hu1, hu])
          have eu2 : IntKind.i64.wrap ((u1 : Int) + 1) = (u : Int) := (cnt_wrap u1 u hu hu4).1
          have eu3 : wrap64 ((u1 : Int) + 1) = (u : Int) := (cnt_wrap u1 u hu hu4).2
          have hu4' : (u : Int) ≤ 4 := Int.ofNat_le.2 hu4
          have HTu := Lib.hid (rnum9_c bs B s k2 2 w10 HXz.out (by have := HQ2.out; omega) (by omega))
          rw [hu1] at HTu
          clear hu1 hu
          go_wp2_with fail
          refine HTu.out.mono ?_
          rintro e w11 ⟨rfl, h1, h2⟩
          have HS11 : Hid (Cur9 w11 B s bs (rep (pU bs) 0 (k2 + 2)).2) := Lib.hid h1
          have HC11 := Lib.hid h2
          have HSL : Hid (s < w10.heap.size) := Lib.hid HXz.out.lt
          have HBS : Hid (B ≤ s) := Lib.hid HXz.out.2.1
          clear h1 h2
          go_wp2_with fail
          clear eu2 eu3
          go_loopw [11, 13] (fun v i wr => ∃ (y : Nat) (al : Option Addr) (cl : Nat), y ≤ u ∧ i = .int .i64 (y : Int) ∧ v = .slice al y cl ∧ Hid (Lst wr w10.heap.size 3 (.slice al y cl) (i64s (rep (pU bs) y (k2 + 2)).1)) ∧ Hid (Cur9 wr B s bs (rep (pU bs) y (k2 + 2)).2) ∧ Hid (Chg [s] w10 wr)) (fun _ i _ => u - (intOf i).toNat)
          case atStart => exact ⟨0, none, 0, Nat.zero_le _, rfl, rfl, Lib.hid (Lst.nil _ _ _), HS11, HC11⟩
          case round =>
            obtain ⟨y, al3, cl3, hy, rfl, rfl, HLy, HXy, HCy⟩ := hrel
            rename World => w12
            by_cases hlt3 : y < u
            · have hy0 : (0 : Int) ≤ (y : Int) := Int.natCast_nonneg y
              have hy1 : (y : Int) < (u : Int) := Int.ofNat_lt.2 hlt3
              have HR3 : Hid (rep (pU bs) (y + 1) (k2 + 2) = ((rep (pU bs) y (k2 + 2)).1 ++ [(pU bs (rep (pU bs) y (k2 + 2)).2).1], (pU bs (rep (pU bs) y (k2 + 2)).2).2)) := Lib.hid rfl
              have HLn : Hid ((i64s (rep (pU bs) y (k2 + 2)).1).length = y) := Lib.hid (by simp [i64s, rep_length])
              have HQ3 : Hid ((rep (pU bs) y (k2 + 2)).2 ≤ 1000000) := Lib.hid (by have := pU_at bs y (k2 + 2); have := HQ2.out; omega)
              generalize rep (pU bs) y (k2 + 2) = r3 at *
              obtain ⟨zs, k3⟩ := r3
              simp only [pU] at HR3 HLy HXy HLn HQ3
              have HT5 := Lib.hid (rnum9_c bs B s k3 5 w12 HXy.out HQ3.out (by omega))
              generalize tkN bs k3 5 = v at *
              go_wp2_with fail
              refine HT5.out.mono ?_
              rintro e w13 ⟨rfl, h1, h2⟩
              have H1 := Lib.hid h1
              have HC13 := Lib.hid (HCy.out.trans h2)
              have HL13 := Lib.hid (HLy.out.chg h2 (HXy.out.notT (by decide)))
              clear h1 h2
              go_wp2_with (at_builtin; refine wpList_app1g rfl (.tmp 54) (.tmp 57) 36 rfl w10.heap.size 3 (.int .i64 0) 8 Try.underlying36 Try.info_i64 rfl (.int .i64 (v : Int)) rfl (.slice al3 y cl3) (i64s zs) rfl HL13.out rfl (by have := HLn.out; omega) (by have := HLn.out; omega) HC13.out.size ?_)
              intro v' w14 hl8 hc8
              have hrow := fun x (hx : x ∈ rowOf (.slice al3 y cl3)) => (HL13.out.row x hx).1
              have hns : s ∉ rowOf (.slice al3 y cl3) := fun hx => by have := hrow s hx; have := HSL.out; omega
              have HX8 := Lib.hid (H1.out.chg hc8 hns (fun x hx => by have := hrow x hx; have := HSL.out; have := HBS.out; omega))
              have HC8' : Hid (Chg [s] w10 w14) := Lib.hid (HC13.out.then hc8 (fun x hx => .inr (hrow x hx)))
              have HL8 : Hid (Lst w14 w10.heap.size 3 v' (i64s (zs ++ [(v : Int)]))) := Lib.hid (by have := hl8.out; simpa [i64s] using this)
              have HLen : Hid ((i64s (zs ++ [(v : Int)])).length = y + 1) := Lib.hid (by have := HLn.out; simp [i64s] at this ⊢; omega)
              clear hrow hns hl8 hc8
              obtain ⟨a8, c8, hv8, _, _, _⟩ := HL8.out.form
              rw [HLen.out] at hv8
              subst hv8
              go_wp2_with fail
              go_roundw
              case rel => exact ⟨y + 1, a8, c8, hlt3, by go_num, rfl, by rw [HR3.out]; exact HL8, by rw [HR3.out]; exact HX8, HC8'⟩
              case measure => simp [intOf]; omega
            · obtain rfl : y = u := Nat.le_antisymm hy (Nat.not_lt.1 hlt3)
              rw [← HPC.out] at HLy HXy
              have HLU : Hid ((pCh bs k2).1.length = y) := Lib.hid (by rw [HPC.out, rep_length])
              generalize pCh bs k2 = yy at *
              obtain ⟨us, k4⟩ := yy
              simp only at HR2 HLy HXy HLU
              have c1 : w12.cell? ⟨ps, 1, none⟩ = some (.slice al2 z cl2) := by simpa using (HPz.out.chg HCy.out (by have := HPW8.out; have := HS6L.out; simp; omega)).cell 1
              have f1 := (HPz.out.chg HCy.out (by have := HPW8.out; have := HS6L.out; simp; omega)).frozen 1
              have hz1' := (HPz.out.chg HCy.out (by have := HPW8.out; have := HS6L.out; simp; omega)).lt
              have k3' := HLz.out.chg HCy.out (HXz.out.notT (by decide))
              have HK3 := Lib.hid k3'
              have HLC : Hid ((chv Cs).length = z) := Lib.hid (by rw [chv_length]; exact HCL.out)
              clear k3'
              go_upto_region 19 with fail
              go_wp2_with (at_builtin; refine wpList_app1g rfl (.tmp 60) (.tmp 62) 41 rfl w6.heap.size 36 (.slice none 0 0) 24 Try.underlying41 Try.info_ch rfl (.slice al3 y cl3) rfl (.slice al2 z cl2) (chv Cs) rfl HK3.out rfl (by have := HLC.out; omega) (by have := HLC.out; omega) (Nat.le_trans HCz.out.size HCy.out.size) ?_)
              intro v' w14 hl8 hc8
              have k1 := HPz.out.chg HCy.out (by have := HPW8.out; have := HS6L.out; simp; omega)
              have k4' := HGz.out.chg HCy.out (HXz.out.notT (by decide))
              have hrow := fun x (hx : x ∈ rowOf (.slice al2 z cl2)) => (HK3.out.row x hx).1
              have hns : s ∉ rowOf (.slice al2 z cl2) := fun hx => by have := hrow s hx; have := HS6L.out; omega
              have K1 := Lib.hid (k1.chg hc8 (HK3.out.ownT k1 (by decide)))
              have KX := Lib.hid (HXy.out.chg hc8 hns (fun x hx => by have := hrow x hx; have := HS6L.out; have := HBS.out; omega))
              have KC : Hid (Chg [s] w6 w14) := Lib.hid ((HCz.out.trans HCy.out).then hc8 (fun x hx => .inr (hrow x hx)))
              have g1 : Lst w12 w6.heap.size 3 (.slice al3 y cl3) (i64s us) := HLy.out.base HCz.out.size
              have KG : Hid (GwC w14 w6.heap.size (Cs ++ [⟨al3, cl3, us⟩])) := Lib.hid (by
                intro c hc
                rcases List.mem_append.1 hc with hc | hc
                · exact (k4' c hc).chg hc8 (Lst.otherT (k4' c hc) HK3.out (by decide))
                · simp only [List.mem_singleton] at hc
                  subst hc
                  have := g1.chg hc8 (Lst.otherT g1 HK3.out (by decide))
                  show Lst w14 w6.heap.size 3 (.slice al3 us.length cl3) (i64s us)
                  rw [HLU.out]
                  exact this)
              have KL : Hid (Lst w14 w6.heap.size 36 v' (chv (Cs ++ [⟨al3, cl3, us⟩]))) := Lib.hid (by
                have := hl8.out
                have e : chv (Cs ++ [⟨al3, cl3, us⟩]) = chv Cs ++ [.slice al3 y cl3] := by simp [chv, ChT.val, HLU.out]
                rw [e]
                exact this)
              have HLen : Hid ((chv (Cs ++ [⟨al3, cl3, us⟩])).length = z + 1) := Lib.hid (by have := HCL.out; simp; omega)
              obtain ⟨a9, c9, hv9, _, _, _⟩ := KL.out.form
              rw [HLen.out] at hv9
              subst hv9
              have c1' := K1.out.cell 1
              have f1' := K1.out.frozen 1
              have hz1'' := K1.out.lt
              simp at c1'
              clear k1 k4' hrow hns g1 hl8 hc8 c1 f1 hz1'
              go_wp2_with fail
              go_roundw
              case rel =>
                have sc : Chg [ps] w14 (w14.setCell ⟨ps, 1, none⟩ (.slice a9 (z + 1) c9)) := (Chg.refl _ w14).setCell (by simp) _
                refine ⟨z + 1, a9, c9, Cs ++ [⟨al3, cl3, us⟩], hlt2, by go_num, Lib.hid (by rw [List.length_append, HCL.out]; rfl), Lib.hid (by rw [HR2.out, ← HCX.out]; simp [chx]), Lib.hid (by have := K1.out.set 1 (.slice a9 (z + 1) c9); simpa using this), Lib.hid (KL.out.chg sc (K1.out.notT' (by decide))), Lib.hid (KG.out.chg sc (K1.out.notT' (by decide))), Lib.hid (by rw [HR2.out]; exact KX.out.chg sc (by have := HPW8.out; have := HS6L.out; simp; omega) (fun x hx => by simp only [List.mem_singleton] at hx; subst hx; have := HPW8.out; have := HS6L.out; have := HBS.out; omega)), Lib.hid (KC.out.then sc (fun x hx => by simp only [List.mem_singleton] at hx; subst hx; exact .inr HPW8.out))⟩
              case measure => simp [intOf]; omega
        · obtain rfl : z = m := Nat.le_antisymm hz (Nat.not_lt.1 hlt2)
          rw [HPS.out] at HR
          simp only at HR
          have HXk := Lib.hid HXz.out
          have d1 : w10.cell? ⟨p, 1, none⟩ = some (.slice al j cl) := by simpa using (HPj.out.chg HCz.out (by have := HPW.out; simp; omega)).cell 1
          have d3 := HPz.out.cell 0
          have d4 := HPz.out.cell 1
          have hz4 := HPz.out.lt
          simp at d3 d4
          have k3 := HLj.out.chg HCz.out (HXj.out.notT (by decide))
          have HK3 := Lib.hid k3
          clear k3
          have HSZ : Hid (w.heap.size ≤ w10.heap.size) := Lib.hid (Nat.le_trans HCj.out.size HCz.out.size)
          go_upto_region 20 with fail
          go_wp2_with (at_builtin; refine wpList_appSg rfl (.tmp 66) (.tmp 68) rfl w.heap.size (.slice al j cl) Ts rfl (HK3.out.alloc _) w10.heap.size ⟨f, al2, cl2, Cs⟩ 49 (by simp only [sgv]; rw [HCL.out]; exact Own.new w10 _ _) rfl (by have := HTL.out; omega) (by have := HSZ.out; simp; omega) ?_)
          intro v' w14 hl8 hg8
          obtain ⟨W11, hW11⟩ : ∃ W11, w10.alloc (.cells #[.int .u64 (f : Int), .slice al2 z cl2] 49) = W11 := ⟨_, rfl⟩
          have ka : Chg [] w10 W11 := by rw [← hW11]; exact (Chg.refl [] w10).alloc _
          rw [hW11] at hg8
          have hc8 : Chg (rowOf (.slice al j cl)) W11 w14 := grown_chg hg8
          have k1 := (HPj.out.chg HCz.out (by have := HPW.out; simp; omega)).chg ka (by simp)
          have k2 := (HRj.out.chg HCz.out (by have := HSE.out; simp; omega)).chg ka (by simp)
          have k4 := (HGj.out.chg HCz.out (HXj.out.notT (by decide)) (HXj.out.notT (by decide))).chg ka (by simp) (by simp)
          have kl := HK3.out.chg ka (by simp)
          have kx := HXz.out.new0 ka
          have hns : s ∉ rowOf (.slice al j cl) := fun hx => by
            obtain ⟨⟨a', c', g1, _⟩, _⟩ := kx
            exact (g1.out_row kl (by decide)) hx
          have K1 := Lib.hid (k1.chg hc8 (k1.out_row kl (by decide)))
          have K2 := Lib.hid (k2.chg hc8 (k2.out_row kl (by decide)))
          have HBw : Hid (B ≤ w.heap.size) := HBW
          have KX := Lib.hid (kx.chg hc8 hns (fun x hx => by have := (HK3.out.row x hx).1; have := HBW.out; omega))
          have KC : Hid (Chg [s] w w14) := Lib.hid (((HCj.out.trans HCz.out).trans (ka.nil1 [s])).then hc8 (fun x hx => .inr (HK3.out.row x hx).1))
          have g1 := ((HLz.out.base HCj.out.size).chg ka (by simp))
          have g2 := ((HGz.out.base HCj.out.size).chg ka (by simp))
          have KG : Hid (GwS w14 w.heap.size (Ts ++ [⟨f, al2, cl2, Cs⟩])) := Lib.hid (by
            intro c hc
            rcases List.mem_append.1 hc with hc | hc
            · exact ⟨(k4 c hc).1.chg hc8 (kl.notT (by decide)), (k4 c hc).2.chg hc8 (kl.notT (by decide))⟩
            · simp only [List.mem_singleton] at hc
              subst hc
              refine ⟨?_, g2.chg hc8 (kl.notT (by decide))⟩
              simp only [HCL.out]
              exact g1.chg hc8 (kl.notT (by decide)))
          obtain ⟨a9, c9, hv9, _, _⟩ := hl8.out.form
          have HLen : Hid ((Ts ++ [(⟨f, al2, cl2, Cs⟩ : SgT)]).length = j + 1) := Lib.hid (by have := HTL.out; simp; omega)
          rw [HLen.out] at hv9
          subst hv9
          have KL := hl8
          have c1' := K1.out.cell 1
          have f1' := K1.out.frozen 1
          have hz1'' := K1.out.lt
          simp at c1'
          clear ka hg8 hW11 hc8 k1 k2 k4 kl kx hns g1 g2 hl8 d1 d3 d4 hz4
          go_wp2_with fail
          go_roundw
          case rel =>
            have sc : Chg [p] w14 (w14.setCell ⟨p, 1, none⟩ (.slice a9 (j + 1) c9)) := (Chg.refl _ w14).setCell (by simp) _
            refine ⟨j + 1, a9, c9, Ts ++ [⟨f, al2, cl2, Cs⟩], hlt, by go_num, Lib.hid (by rw [List.length_append, HTL.out]; rfl), Lib.hid (by rw [HR.out, ← HTX.out, ← HCX.out]; simp [sgx, SgT.x]), Lib.hid (by have := K1.out.set 1 (.slice a9 (j + 1) c9); simpa using this), Lib.hid (K2.out.chg sc (by have := HPW.out; have := HSE.out; simp; omega)), Lib.hid (KL.out.chg sc (K1.out.notT' (by decide))), Lib.hid (KG.out.chg sc (K1.out.notT' (by decide)) (K1.out.notT' (by decide))), Lib.hid (by rw [HR.out]; exact KX.out.chg sc (by have := HPW.out; simp; omega) (fun x hx => by simp only [List.mem_singleton] at hx; subst hx; have := HPW.out; have := HSE.out; have := HBW.out; omega)), Lib.hid (KC.out.then sc (fun x hx => by simp only [List.mem_singleton] at hx; subst hx; exact .inr (by have := HPW.out; have := HSE.out; omega)))⟩
          case measure => simp [intOf]; omega
    · obtain rfl : j = nn := Nat.le_antisymm hj (Nat.not_lt.1 hlt)
      have hx : (⟨ep, al, cl, Ts, (q : Int)⟩ : LyT).x = pLy bs := by
        rw [HP.out]
        show (⟨ep, sgx Ts, (q : Int)⟩ : Ly) = _
        rw [HTX.out]
      have HX := Lib.hid hx
      have HFIT := Lib.hid (fit_of hx)
      have HEN := Lib.hid (dlenc_u ⟨ep, al, cl, Ts, (q : Int)⟩ w6.heap.size w6 ⟨HLj.out.ro (n := j), HGj.out.inn⟩ (Nat.le_refl _) HFIT.out.1)
      rw [hx] at HEN
      simp only [LyT.val, HTL.out] at HEN
      rw [← HEND.out] at HXj
      have HNoB := Lib.hid (@noLE_of bs)
      have HALL := Lib.hid (fun h h2 => decide_eq_true (eLy_all (bs := bs) h h2))
      have hk9 := HXj.out
      obtain ⟨y, hy⟩ : ∃ y, pLy bs = y := ⟨_, rfl⟩
      have HY := Lib.hid hy
      rw [hy] at HEN HX HNoB HALL
      obtain ⟨okb, hok⟩ : ∃ o, decide (eLy bs ≤ 8 * bs.length) = o := ⟨_, rfl⟩
      rw [hok] at HALL
      have HCU : Hid (Cur w6 64 B s bs (eLy bs) okb) := Lib.hid (by rw [← hok]; exact hk9)
      obtain ⟨r, hr⟩ : ∃ r, lright y = r := ⟨_, rfl⟩
      have HR := Lib.hid hr
      rw [hr] at HEN
      obtain ⟨gc, hgc⟩ : ∃ g : Int, (if r then 0 else 91) = g := ⟨_, rfl⟩
      have hg9 : (gc != 0) = !r := by rw [← hgc]; cases r <;> rfl
      rw [hgc] at HEN
      clear hk9 hok hx hy hr hgc
      have d0 := HPj.out.cell 0
      have d1 := HPj.out.cell 1
      have d2 := HPj.out.cell 2
      have hzp := HPj.out.lt
      simp at d0 d1 d2
      go_upto_region 21 with fail
      go_wp2_with fail
      refine HEN.out.mono ?_
      rintro e w7 ⟨x, cs, rfl, hcs, hlx, hb7⟩
      have hlow : Chg [] w6 w7 := ⟨hb7.os, hb7.tape, hb7.output, hb7.size, fun k hk _ => hb7.block k hk⟩
      obtain ⟨⟨ac, cc, hcu, hrob⟩, _⟩ := HCU.out.chg hlow (by simp) (by simp)
      have HP7 := Lib.hid (HPj.out.chg hlow (by simp))
      have HR7 := Lib.hid (HRj.out.chg hlow (by simp))
      have HL7 := Lib.hid (HLj.out.chg hlow (by simp))
      have HG7 := Lib.hid (HGj.out.chg hlow (by simp) (by simp))
      have HC7 := Lib.hid (HCj.out.trans (hlow.nil1 [s]))
      have HB7 : Hid (Below w.heap.size w w7) := Lib.hid (HC7.out.below (Nat.le_refl _) (by have := HSE.out; simp; omega))
      obtain ⟨ax, kx, hvx, hrx, _, _⟩ := hlx.form
      rw [u8s_length] at hvx
      obtain ⟨nc, hnc⟩ : ∃ nc, cs.length = nc := ⟨_, rfl⟩
      rw [hnc] at hvx
      subst hvx
      have v1 := conv_ro (c := kx) hrx hnc
      have v2 := conv_ro (c := c) (HRO.out.below HB7.out HBW.out) HN.out
      have HCS := Lib.hid hcs
      have HCL7 : Hid (w.heap.size ≤ w7.heap.size) := Lib.hid HC7.out.size
      have t2 := hcu.cell 2
      have r0 := HR7.out.cell 0
      have r1 := HR7.out.cell 1
      have r2 := HR7.out.cell 2
      have f0 := HR7.out.frozen 0
      have f1 := HR7.out.frozen 1
      have f2 := HR7.out.frozen 2
      have e0 := HP7.out.cell 0
      have e1 := HP7.out.cell 1
      have e2 := HP7.out.cell 2
      have hz7 := HR7.out.lt
      have hz8 := HP7.out.lt
      have hz9 := hcu.lt
      simp at t2 r0 r1 r2 e0 e1 e2
      clear hcs hlx hb7 hlow hcu hrob d0 d1 d2 hzp hrx hnc
      have HBAD : Hid (∀ W', Below w.heap.size w W' → (∀ x, lright x = true → ¬ IsLE x bs) → DLG w bs (.returned (.tuple #[.agg #[.int .u64 0, .slice none 0 0, .int .i64 0], .int .i64 91])) W') := Lib.hid (fun W' h1 h2 => ⟨h1, .inr ⟨rfl, h2⟩⟩)
      cases okb with
      | false =>
        go_wp2_with fail
        refine bodyPost_ret (v := .tuple #[.agg #[.int .u64 0, .slice none 0 0, .int .i64 0], .int .i64 91]) (by simp [results, Try.results10, go_sem, r0, r1, r2, hz7]) rfl ?_
        exact HBAD.out _ (((HB7.out.setCell (Nat.le_refl _) _).setCell (Nat.le_refl _) _).setCell (Nat.le_refl _) _) (HNoB.out (fun h h2 => by have := HALL.out h h2; cases this))
      | true =>
        cases r with
        | false =>
          go_wp2_with fail
          refine bodyPost_ret (v := .tuple #[.agg #[.int .u64 0, .slice none 0 0, .int .i64 0], .int .i64 91]) (by simp [results, Try.results10, go_sem, r0, r1, r2, hz7]) rfl ?_
          exact HBAD.out _ (((HB7.out.setCell (Nat.le_refl _) _).setCell (Nat.le_refl _) _).setCell (Nat.le_refl _) _) (HNoB.out (fun h h2 => by rw [HR.out] at h; cases h))
        | true =>
          have HEE : Hid (IsLE y cs) := Lib.hid (by rcases HCS.out with ⟨_, h⟩ | ⟨h, _⟩; exact h; cases h)
          by_cases heq : cs = bs
          · have hs : (cs == bs) = true := by simp [heq]
            have HEQ := Lib.hid heq
            clear heq
            go_wp2_with fail
            refine bodyPost_ret (v := .tuple #[.agg #[.int .u64 (ep : Int), .slice al j cl, .int .i64 (q : Int)], .int .i64 0]) (by simp [results, Try.results10, go_sem, r0, r1, r2, e0, e1, e2, hz7]) rfl ?_
            refine ⟨((HB7.out.setCell (Nat.le_refl _) _).setCell (Nat.le_refl _) _).setCell (Nat.le_refl _) _, .inl ⟨⟨ep, al, cl, Ts, (q : Int)⟩, by simp only [LyT.val, HTL.out], by rw [HY.out]; exact HR.out, by rw [HY.out, ← HEQ.out]; exact HEE.out, by rw [HY.out]; exact HX.out, ?_⟩⟩
            have sc : Chg [w.heap.size] w7 (((w7.setCell ⟨w.heap.size, 0, none⟩ (.int .u64 (ep : Int))).setCell ⟨w.heap.size, 1, none⟩ (.slice al j cl)).setCell ⟨w.heap.size, 2, none⟩ (.int .i64 (q : Int))) := (((Chg.refl _ w7).setCell (by simp) _).setCell (by simp) _).setCell (by simp) _
            have g1 := HL7.out.chg sc (HR7.out.notT' (by decide))
            have g2 := HG7.out.chg sc (HR7.out.notT' (by decide)) (HR7.out.notT' (by decide))
            refine ⟨⟨g1.ro, g2.inn⟩, HFIT.out.1, ?_, g2⟩
            simp only [HTL.out]
            exact g1
          · have hs : (cs == bs) = false := by simp [heq]
            have HEQ := Lib.hid heq
            clear heq
            go_wp2_with fail
            refine bodyPost_ret (v := .tuple #[.agg #[.int .u64 0, .slice none 0 0, .int .i64 0], .int .i64 91]) (by simp [results, Try.results10, go_sem, r0, r1, r2, hz7]) rfl ?_
            exact HBAD.out _ (((HB7.out.setCell (Nat.le_refl _) _).setCell (Nat.le_refl _) _).setCell (Nat.le_refl _) _) (HNoB.out (fun _ h => HEQ.out (HEE.out.unique h)))
end Go.Proofs.Ytkdgoopldaoihaa
