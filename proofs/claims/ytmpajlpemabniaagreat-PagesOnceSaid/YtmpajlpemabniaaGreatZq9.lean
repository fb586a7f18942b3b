/-
  Contract of Add (package runs). No claim of its own.
-/
import Derived.Test.YtmpajlpemabniaaGreatZq8
namespace Go.Proofs.YtmpajlpemabniaaGreat
open Go.RowKit Go.Shelf Go.Deep
set_option linter.unusedVariables false
set_option linter.unusedSimpArgs false
def rowOf (v : Value) : List Nat := v.ownBlock.toList
theorem mem_rowOf {v : Value} {g : Nat} : g ∈ rowOf v ↔ v.ownBlock = some g := by unfold rowOf; cases v.ownBlock <;> simp [eq_comm]
theorem St.setV {w : World} {p : Nat} {v : Value} {L : List Rn} (h : St w p v L) : SetV w (.pointer (some ⟨p, 0, none⟩)) (p :: rowOf v) L :=
  .inr ⟨p, v, rfl, h, by simp, fun g hg => by simp [mem_rowOf, hg]⟩
theorem St.ltF {w : World} {p : Nat} {v : Value} {L : List Rn} (h : St w p v L) : ∀ k ∈ p :: rowOf v, k < w.heap.size := by
  intro k hk
  rcases List.mem_cons.1 hk with rfl | hk
  · exact h.own.lt
  · exact (h.row.lt k (mem_rowOf.1 hk)).2
theorem Lr.ne_own {w : World} {b p : Nat} {v : Value} {L : List Rn} {cs : List Value} (h : Lr w b 86 v L) (ho : Own w p 199 cs) : v.ownBlock ≠ some p := by
  intro e
  rcases h.2 with ⟨hn, _⟩ | ⟨g, cap, cur, hv, hb, hgg, rest⟩
  · subst hn; cases e
  · subst hv
    have e2 : g = p := by simpa [Value.ownBlock] using e
    subst e2
    unfold Own at ho
    rw [hgg] at ho
    simp at ho
theorem st_store {W W' : World} {p : Nat} {v v1 : Value} {L L' : List Rn} (hs : St W p v L) (hr : Lr W' 0 86 v1 L') (hg : W.grownBy W' v.ownBlock) (hN : NF L') (hf : ∀ r ∈ L', r.2 ≤ top64) (hl : L'.length ≤ 1000000) :
    St (W'.setCell ⟨p, 0, none⟩ v1) p v1 L' ∧ Chg (p :: rowOf v) W (W'.setCell ⟨p, 0, none⟩ v1) := by
  have ho : Own W' p 199 [v] := hs.own.grown hg (fun e => hs.apart e.symm)
  have hne := hr.ne_own ho
  refine ⟨⟨ho.set 0 v1, hr.kept (only_set (World.grownBy.refl W' _) 0 v1) (.inr hne), hN, hf, hl⟩, ?_⟩
  exact (((Chg.refl (p :: rowOf v) W).grown hg (fun k e => .inl (by simp [mem_rowOf, e])))).setCell (p := ⟨p, 0, none⟩) (.inl (by simp)) _
def putL (L : List Rn) (r : Rn) : List Rn := if r.1 < r.2 then addL L r else L
def AddPost (w : World) (p : Nat) (v : Value) (L M : List Rn) (n : Nat) (e : Ending) (w' : World) : Prop :=
  ∃ v', e = .returned (.int .u64 (n : Int)) ∧ St w' p v' M ∧ Chg (p :: rowOf v) w w' ∧ Nb w v v'
theorem AddPost.mk {w w' : World} {p : Nat} {v v' : Value} {L M : List Rn} {n : Nat} (h1 : St w' p v' M) (h2 : Chg (p :: rowOf v) w w') (h3 : Nb w v v') : AddPost w p v L M n (.returned (.int .u64 (n : Int))) w' := ⟨v', rfl, h1, h2, h3⟩
theorem Nb.mono {w w1 : World} {a b : Value} (h : Nb w1 a b) (hs : w.heap.size ≤ w1.heap.size) : Nb w a b := by
  rcases h with h | h
  · exact .inl h
  · exact .inr fun k hk => Nat.le_trans hs (h k hk)
theorem AddPost.mk2 {w w' : World} {p : Nat} {v v' : Value} {L M : List Rn} {n : Nat} {x : Int} (h0 : x = (n : Int)) (h1 : St w' p v' M) (h2 : Chg (p :: rowOf v) w w') (h3 : Nb w v v') : AddPost w p v L M n (.returned (.int .u64 x)) w' := ⟨v', by rw [h0], h1, h2, h3⟩
theorem add_empty (w : World) (p : Nat) (v : Value) (L : List Rn) (hs : St w p v L) (r : Rn) (hr : r.2 ≤ r.1) :
    Calls Tryz.prog 92 #[.pointer (some ⟨p, 0, none⟩), rv r] w (AddPost w p v L L 0) := by
  have hd : decide (r.2 ≤ r.1) = true := by simpa using hr
  have HE := Lib.hid (fun W => empty_any r W)
  rw [hd] at HE
  have HS := Lib.hid hs
  clear hs hr hd
  go_enter Tryz.func92, Tryz.ntmps92
  go_wp2_with (go_at_call 141; refine (HE.out _).mono ?_; rintro e w1 ⟨rfl, rfl⟩)
  go_ret
  have hC : Chg [] w ((w.alloc (rb r 86)).alloc (rb r 86)) := ((Chg.refl [] w).alloc _).alloc _
  exact AddPost.mk (HS.out.kept hC) (hC.mono (by simp)) (Nb.refl _ _)
def joinK (L : List Rn) (r : Rn) (i k : Nat) : Rn := ((L.drop i).take k).foldl joinR r
theorem joinK_zero (L : List Rn) (r : Rn) (i : Nat) : joinK L r i 0 = r := by simp [joinK]
theorem joinK_succ {L : List Rn} (r : Rn) {i k : Nat} (h : i + k < L.length) : joinK L r i (k + 1) = joinR (joinK L r i k) (el L (i + k)) := by
  unfold joinK
  have hd : k < (L.drop i).length := by rw [List.length_drop]; omega
  rw [List.take_succ_eq_append_getElem hd, List.foldl_append]
  simp [el, List.getD, h]
set_option maxHeartbeats 2000000 in
set_option maxRecDepth 100000 in
theorem add_some (w : World) (p : Nat) (v : Value) (L : List Rn) (hs : St w p v L) (r : Rn) (hr : r.1 < r.2) (hf : Fit r) (hl : L.length ≤ 999999) :
    Calls Tryz.prog 92 #[.pointer (some ⟨p, 0, none⟩), rv r] w (AddPost w p v L (addL L r) (cnt (addL L r) - cnt L)) := by
  have hd : decide (r.2 ≤ r.1) = false := by simp; omega
  have HE := Lib.hid (fun W => empty_any r W)
  rw [hd] at HE
  have hrt : r.2 ≤ top64 := by have := hf.2; unfold top64; omega
  have hca := cnt_add hs.nf hr hs.fit hrt
  have hpl := cnt_parts_le hs.nf (r := r) (Nat.le_of_lt hr)
  have hlen := length_any r hf (Nat.le_of_lt hr)
  have HLN := Lib.hid (fun W => hlen W)
  have HCN := Lib.hid (show ∀ W, Below w.heap.size w W → Calls Tryz.prog 142 #[.pointer (some ⟨p, 0, none⟩), rv r] W fun e w' => e = .returned (.int .u64 ((cnt (parts L r) : Nat) : Int)) ∧ Below W.heap.size W w' from fun W h =>
    count_any _ L r W (p :: rowOf v) ((hs.kept (low_chg h)).setV) (hs.kept (low_chg h)).ltF hf (by have := hf.2; omega))
  have HI1 := Lib.hid (show ∀ W, Below w.heap.size w W → Calls Tryz.prog 143 #[.pointer (some ⟨p, 0, none⟩), .func (.func 151) #[] #[], .int .u64 r.1] W fun e w' => e = .returned (.int .i64 (L.countP (bEF r.1) : Nat)) ∧ Below W.heap.size W w' from fun W h => endsFrom_ix p r.1 v L W (hs.kept (low_chg h)))
  have HI2 := Lib.hid (show ∀ W, Below w.heap.size w W → Calls Tryz.prog 143 #[.pointer (some ⟨p, 0, none⟩), .func (.func 152) #[] #[], .int .u64 r.2] W fun e w' => e = .returned (.int .i64 (L.countP (bBA r.2) : Nat)) ∧ Below W.heap.size W w' from fun W h => beginsAbove_ix p r.2 v L W (hs.kept (low_chg h)))
  have hij := le_EF_BA hs.nf hr
  have hjn : L.countP (bBA r.2) ≤ L.length := List.countP_le_length
  obtain ⟨i, HI⟩ : ∃ i, Hid (L.countP (bEF r.1) = i) := ⟨_, Lib.hid rfl⟩
  obtain ⟨j, HJ⟩ : ∃ j, Hid (L.countP (bBA r.2) = j) := ⟨_, Lib.hid rfl⟩
  obtain ⟨n, HN⟩ : ∃ n, Hid (L.length = n) := ⟨_, Lib.hid rfl⟩
  obtain ⟨cp, HCP⟩ : ∃ cp, Hid (cnt (parts L r) = cp) := ⟨_, Lib.hid rfl⟩
  rw [HI.out] at HI1 hij
  rw [HJ.out] at HI2 hij hjn
  rw [HN.out] at hjn hl
  rw [HCP.out] at HCN hpl hca
  have hwd : IntKind.u64.wrap (((r.2 - r.1 : Nat) : Int) - (cp : Int)) = ((r.2 - r.1 - cp : Nat) : Int) := by rw [IntKind.wrap_u64]; have := hf.2; omega
  have HWD := Lib.hid hwd
  have HCA := Lib.hid (show r.2 - r.1 - cp = cnt (addL L r) - cnt L by omega)
  have HS := Lib.hid hs
  have HFIN := Lib.hid (show NF (addL L r) ∧ (∀ x ∈ addL L r, x.2 ≤ top64) ∧ (addL L r).length ≤ 1000000 from ⟨(addL_ok hs.nf hr).1, addL_bound hs.nf hr hs.fit hrt, by have := addL_len' hs.nf hr; have := HN.out; omega⟩)
  clear hs hd hlen hca hwd
  obtain ⟨d, HD⟩ : ∃ d, Hid (r.2 - r.1 = d) := ⟨_, Lib.hid rfl⟩
  rw [HD.out] at HLN HWD HCA hpl
  obtain ⟨q, HQ⟩ : ∃ q, Hid (d - cp = q) := ⟨_, Lib.hid rfl⟩
  rw [HQ.out] at HWD HCA
  clear hpl
  go_enter Tryz.func92, Tryz.ntmps92
  go_wp2_with (go_at_call 141; refine (HE.out _).mono ?_; rintro e w1 ⟨rfl, rfl⟩)
  obtain ⟨R, HR⟩ : ∃ R, Hid (w.heap.size = R) := ⟨_, Lib.hid rfl⟩
  obtain ⟨X, HX⟩ : ∃ X, Hid ((w.alloc (.cells #[.int .u64 (r.1 : Int), .int .u64 (r.2 : Int)] 86)).alloc (rb r 86) = X) := ⟨_, Lib.hid rfl⟩
  rw [HX.out]
  have hob : Own X R 86 [.int .u64 (r.1 : Int), .int .u64 (r.2 : Int)] := by rw [← HX.out, ← HR.out]; exact (Own.new w 86 [.int .u64 (r.1 : Int), .int .u64 (r.2 : Int)]).alloc _
  have hbX : Below w.heap.size w X := by rw [← HX.out]; exact ((Below.refl _ w).alloc (Nat.le_refl _) _).alloc (by simp) _
  have hX1 := hob.cell 0
  have hX2 := hob.cell 1
  simp at hX1 hX2
  rw [HR.out]
  have hwd := HWD.out
  have hst : X.drew.cell? ⟨R, 0, none⟩ = some (.int .u64 (r.1 : Int)) ∧ X.drew.cell? ⟨R, 1, none⟩ = some (.int .u64 (r.2 : Int)) ∧ Below w.heap.size w X.drew ∧ Own X.drew R 86 [.int .u64 (r.1 : Int), .int .u64 (r.2 : Int)] := ⟨hX1, hX2, hbX.drew, hob⟩
  go_region_held3 (fun w' => w'.cell? ⟨R, 0, none⟩ = some (.int .u64 (r.1 : Int)) ∧ w'.cell? ⟨R, 1, none⟩ = some (.int .u64 (r.2 : Int)) ∧ Below w.heap.size w w' ∧ Own w' R 86 [.int .u64 (r.1 : Int), .int .u64 (r.2 : Int)])
    (first
      | assumption
      | exact hst
      | (have hH := ‹World.cell? _ ⟨R, 0, none⟩ = _ ∧ _›; exact ⟨(hb9.cell (World.block_lt_of_cell? _ _ hH.1)).trans hH.1, (hb9.cell (World.block_lt_of_cell? _ _ hH.2.1)).trans hH.2.1, hH.2.2.1.trans (hb9.mono hH.2.2.1.size), hH.2.2.2.below hb9 hH.2.2.2.lt⟩))
    (first
      | (go_at_call 150; have hH := ‹World.cell? _ ⟨R, 0, none⟩ = _ ∧ _›; refine (HLN.out _).mono ?_; clear hH; rintro e w9 ⟨rfl, hb9⟩)
      | (go_at_call 142; have hH := ‹World.cell? _ ⟨R, 0, none⟩ = _ ∧ _›; refine (HCN.out _ hH.2.2.1).mono ?_; clear hH; rintro e w9 ⟨rfl, hb9⟩))
  have hH := ‹World.cell? w9 ⟨R, 0, none⟩ = _ ∧ _›
  have hst : w9.drew.cell? ⟨R, 0, none⟩ = some (.int .u64 (r.1 : Int)) ∧ w9.drew.cell? ⟨R, 1, none⟩ = some (.int .u64 (r.2 : Int)) ∧ Below w.heap.size w w9.drew ∧ Own w9.drew R 86 [.int .u64 (r.1 : Int), .int .u64 (r.2 : Int)] := ⟨hH.1, hH.2.1, hH.2.2.1.drew, hH.2.2.2⟩
  clear hH hX1 hX2 hob hbX hwd
  rename World => wA
  clear hb9
  go_wp2_with fail
  go_region_held3 (fun w' => w'.cell? ⟨R, 0, none⟩ = some (.int .u64 (r.1 : Int)) ∧ w'.cell? ⟨R, 1, none⟩ = some (.int .u64 (r.2 : Int)) ∧ Below w.heap.size w w' ∧ Own w' R 86 [.int .u64 (r.1 : Int), .int .u64 (r.2 : Int)])
    (first
      | assumption
      | exact hst
      | (have hH := ‹World.cell? _ ⟨R, 0, none⟩ = _ ∧ _›; exact ⟨(hb9.cell (World.block_lt_of_cell? _ _ hH.1)).trans hH.1, (hb9.cell (World.block_lt_of_cell? _ _ hH.2.1)).trans hH.2.1, hH.2.2.1.trans (hb9.mono hH.2.2.1.size), hH.2.2.2.below hb9 hH.2.2.2.lt⟩))
    (first
      | (go_at_call 143; have hH := ‹World.cell? _ ⟨R, 0, none⟩ = _ ∧ _›; (with_reducible refine (HI1.out _ hH.2.2.1).mono ?_); clear hH; rintro e w9 ⟨rfl, hb9⟩)
      | (go_at_call 143; have hH := ‹World.cell? _ ⟨R, 0, none⟩ = _ ∧ _›; (with_reducible refine (HI2.out _ hH.2.2.1).mono ?_); clear hH; rintro e w9 ⟨rfl, hb9⟩))
  have hH := ‹World.cell? w9 ⟨R, 0, none⟩ = _ ∧ _›
  have hbw9 := hH.2.2.1
  have hob9 := hH.2.2.2
  clear hH hst hb9
  obtain ⟨a, c, hv, hro, hlc, hc63, hnil, hbk⟩ := HS.out.row.form
  rw [HN.out] at hv hlc
  have hpl : p < w.heap.size := HS.out.own.lt
  have hpc0 := HS.out.cell
  rw [hv] at hpc0
  have HPC := Lib.hid hpc0
  have HRO := Lib.hid hro
  have HBK := Lib.hid hbk
  have HV := Lib.hid hv
  have hpc := (hbw9.cell (p := ⟨p, 0, none⟩) hpl).trans hpc0
  have hi0 : (0 : Int) ≤ (i : Int) := by omega
  have hi1 : (i : Int) ≤ (j : Int) := by omega
  have hi2 : (j : Int) ≤ (c : Int) := by omega
  have hi3 : i ≤ j := hij
  have hi4 : j ≤ c := by omega
  have hcs : (c = i) = True ∨ (c = i) = False := by by_cases h : c = i <;> simp [h]
  have HB9 := Lib.hid hbw9
  have HO9 := Lib.hid hob9
  have hRw : w.heap.size ≤ R := by have := HR.out; omega
  clear hpc0 hro hbk hv hnil hbw9 hob9
  have HJK := Lib.hid (show addL L r = L.take i ++ ([joinK L r i (j - i)] ++ L.drop j) by unfold addL joinK; rw [HI.out, HJ.out])
  by_cases hiltj : i = j
  case' pos =>
    have hji : j = i := hiltj.symm
    clear hiltj
    have hzz : decide (0 < j - i) = false := by simp; omega
    subst hji
    have hoW := HO9.out
    have hbW := HB9.out
    have ejk : joinK L r j (j - j) = r := by rw [Nat.sub_self, joinK_zero]
    rw [← ejk] at hoW
    have hE := Lib.hid ejk
    clear ejk
    rcases hcs with hcs | hcs
    all_goals
      go_wp2_with fail
      refine wp_loop_rounds 1 ?_
      rw [rounds_succ]
      have hstW := HS.out.kept (low_chg hbW)
      have hpcW := (hbW.cell (p := ⟨p, 0, none⟩) hpl).trans HPC.out
      have hJ := HJK.out
      generalize joinK L r j (j - j) = y at *
      have hy := hE.out
      subst hy
      have hj1 := hoW.cell 0
      have hj2 := hoW.cell 1
      simp at hj1 hj2
      have hmx : Tryz.prog.follows .mixedOrders = true := by kernel_rfl
      have hpW : p < w9.heap.size := hstW.own.lt
      have hRW : R < w9.heap.size := hoW.lt
      have hri0 : (0 : Int) ≤ (j : Int) := by omega
      have HREP := Lib.hid (show ∀ (w9 : World), St w9 p v L → Calls Tryz.prog 147 #[v, .int .i64 j, .int .i64 j, .slice (some ⟨w9.heap.size, 0, none⟩) 1 1] (w9.alloc (.cells #[.int .u64 (y.1 : Int), .int .u64 (y.2 : Int)] 86)) (RepPost (w9.alloc (.cells #[.int .u64 (y.1 : Int), .int .u64 (y.2 : Int)] 86)) 0 v (addL L y)) from fun w9 hsW => by
        have h1 := replace_any (w9.alloc (.cells #[.int .u64 (y.1 : Int), .int .u64 (y.2 : Int)] 86)) 0 v L (hsW.row.alloc _) (.slice (some ⟨w9.heap.size, 0, none⟩) 1 1) [y] 0 (Lr.lit w9 0 86 [y] (Nat.zero_le _) (by simp [maxLen])) (.inr (by
          intro e
          have := (hsW.row.lt w9.heap.size (by rw [e]; rfl)).2
          omega)) j j hij (by rw [HN.out]; exact hjn) (by rw [HN.out]; simp; omega) (Nat.zero_le _)
        rw [hJ]
        exact h1)
      rw [HV.out] at HREP
      have HSW := Lib.hid (hstW.kept ((Chg.refl [] w9).drew))
      rw [HV.out] at HSW
      clear hstW hJ 
      go_wp2_with fail
      go_region_with_o (go_at_call 147; refine (HREP.out w9.drew HSW.out).mono ?_; rintro e w3 ⟨v1, rfl, h1, h2, h3⟩; obtain ⟨a1, c1, rfl⟩ := h1.shape; have ho3 := ((HSW.out.own.alloc (.cells #[.int .u64 (y.1 : Int), .int .u64 (y.2 : Int)] 86)).grown h2 (fun e => HSW.out.apart e.symm)); have hp3 := ho3.cell 0; have hp4 := ho3.frozen 0; simp at hp3)
      all_goals go_wp2_with fail
      all_goals go_ret
      all_goals
        obtain ⟨s1, s2⟩ := st_store (HSW.out.kept ((Chg.refl [] _).alloc (.cells #[.int .u64 (y.1 : Int), .int .u64 (y.2 : Int)] 86))) h1 h2 HFIN.out.1 HFIN.out.2.1 HFIN.out.2.2
        have hw1 : Chg [] w (w9.drew.alloc (.cells #[.int .u64 (y.1 : Int), .int .u64 (y.2 : Int)] 86)) := ((low_chg hbW).drew).alloc _
        have hfin := (hw1.mono (l' := p :: rowOf v) (by simp)).then s2 (by rw [← HV.out]; exact fun x hx => .inl hx)
        have hnb := h3.mono hw1.size
        rw [← HV.out] at hnb
        show AddPost w p v L (addL L y) (cnt (addL L y) - cnt L) (.returned (.int .u64 (q : Int))) _
        exact AddPost.mk2 (x := (q : Int)) (congrArg _ HCA.out) s1 hfin hnb
  case' neg =>
    have hcs2 : (c = i) = False := by simp; omega
    clear hcs
    obtain ⟨g, off, rfl, hgl, hcl⟩ := HRO.out.rn (by rw [HN.out]; omega)
    obtain ⟨rfl, _, _, _, _⟩ := HBK.out _ _ _ rfl
    have HCL := Lib.hid hcl
    clear hcl
    go_wp2_with fail
    go_loopw [38] (fun ix wr => ∃ k : Nat, ix = .int .i64 k ∧ k ≤ j - i ∧ Own wr R 86 [.int .u64 ((joinK L r i k).1 : Int), .int .u64 ((joinK L r i k).2 : Int)] ∧ Below w.heap.size w wr) (fun ix _ => j - i - (intOf ix).toNat)
    case atStart => exact ⟨0, rfl, Nat.zero_le _, by rw [joinK_zero]; exact HO9.out, HB9.out⟩
    case round =>
      obtain ⟨k, rfl, hk, hoW, hbW⟩ := hrel
      by_cases hlt : k < j - i
      · have hL : i + k < L.length := by rw [HN.out]; omega
        have hcc := HCL.out (i + k) hL
        rw [show 0 + (i + k) * 2 = i * 2 + k * 2 by omega] at hcc
        have hx1 := (hbW.cell (p := ⟨g, i * 2 + k * 2, none⟩) hgl).trans hcc.1
        have hx2 := (hbW.cell (p := ⟨g, i * 2 + k * 2 + 1, none⟩) hgl).trans hcc.2
        have HST := Lib.hid (joinK_succ r hL)
        generalize el L (i + k) = x at hx1 hx2 HST
        have hj1 := hoW.cell 0
        have hj2 := hoW.cell 1
        simp at hj1 hj2
        have hRW := hoW.lt
        have hdt : decide (k < j - i) = true := by simpa using hlt
        have hk0 : (0 : Int) ≤ (k : Int) := by omega
        have hk1 : (k : Int) < ((j - i : Nat) : Int) := by omega
        generalize joinK L r i k = y at *
        have HJ2 := Lib.hid (fun W => rjoined_any y x W)
        clear hcc hpc
        go_wp2_with (go_at_call 153; refine (HJ2.out _).mono ?_; rintro e w2 ⟨rfl, hb2⟩; have hb2' : Below wr.heap.size wr w2 := ((Below.refl _ wr).alloc (Nat.le_refl _) _).trans (hb2.mono (by simp)); have ho2 := hoW.below hb2' hRW; have hq1 := ho2.cell 0; have hq2 := ho2.cell 1; have hq3 := ho2.frozen 0; have hq4 := ho2.frozen 1; simp at hq1 hq2; clear hb2)
        go_roundw
        case rel =>
          refine ⟨k + 1, by go_num, by omega, ?_, ?_⟩
          · rw [HST.out]; exact (ho2.set 0 (.int .u64 ((joinR y x).1 : Int))).set 1 (.int .u64 ((joinR y x).2 : Int))
          · exact ((hbW.trans (hb2'.mono hbW.size)).setCell (p := ⟨R, 0, none⟩) hRw _).setCell (p := ⟨R, 1, none⟩) hRw _
        case measure => simp [intOf]; omega
      · obtain rfl : k = j - i := by omega
        have hdt : decide (j - i < j - i) = false := by simp
        have hstW := HS.out.kept (low_chg hbW)
        have hpcW := (hbW.cell (p := ⟨p, 0, none⟩) hpl).trans HPC.out
        have hJ := HJK.out
        generalize joinK L r i (j - i) = y at *
        have hj1 := hoW.cell 0
        have hj2 := hoW.cell 1
        simp at hj1 hj2
        have hmx : Tryz.prog.follows .mixedOrders = true := by kernel_rfl
        have hpW : p < wr.heap.size := hstW.own.lt
        have hRW : R < wr.heap.size := hoW.lt
        have hri0 : (0 : Int) ≤ (i : Int) := by omega
        have HREP := Lib.hid (show ∀ (wr : World), St wr p v L → Calls Tryz.prog 147 #[v, .int .i64 i, .int .i64 j, .slice (some ⟨wr.heap.size, 0, none⟩) 1 1] (wr.alloc (.cells #[.int .u64 (y.1 : Int), .int .u64 (y.2 : Int)] 86)) (RepPost (wr.alloc (.cells #[.int .u64 (y.1 : Int), .int .u64 (y.2 : Int)] 86)) 0 v (addL L r)) from fun wr hsW => by
          have h1 := replace_any (wr.alloc (.cells #[.int .u64 (y.1 : Int), .int .u64 (y.2 : Int)] 86)) 0 v L (hsW.row.alloc _) (.slice (some ⟨wr.heap.size, 0, none⟩) 1 1) [y] 0 (Lr.lit wr 0 86 [y] (Nat.zero_le _) (by simp [maxLen])) (.inr (by
            intro e
            have := (hsW.row.lt wr.heap.size (by rw [e]; rfl)).2
            omega)) i j hij (by rw [HN.out]; exact hjn) (by rw [HN.out]; simp; omega) (Nat.zero_le _)
          rw [hJ]
          exact h1)
        rw [HV.out] at HREP
        have HSW := Lib.hid (hstW.kept ((Chg.refl [] wr).drew))
        rw [HV.out] at HSW
        clear hstW hJ 
        go_wp2_with fail
        go_region_with_o (go_at_call 147; refine (HREP.out wr.drew HSW.out).mono ?_; rintro e w3 ⟨v1, rfl, h1, h2, h3⟩; obtain ⟨a1, c1, rfl⟩ := h1.shape; have ho3 := ((HSW.out.own.alloc (.cells #[.int .u64 (y.1 : Int), .int .u64 (y.2 : Int)] 86)).grown h2 (fun e => HSW.out.apart e.symm)); have hp3 := ho3.cell 0; have hp4 := ho3.frozen 0; simp at hp3)
        all_goals go_wp2_with fail
        all_goals go_ret
        all_goals
          obtain ⟨s1, s2⟩ := st_store (HSW.out.kept ((Chg.refl [] _).alloc (.cells #[.int .u64 (y.1 : Int), .int .u64 (y.2 : Int)] 86))) h1 h2 HFIN.out.1 HFIN.out.2.1 HFIN.out.2.2
          have hw1 : Chg [] w (wr.drew.alloc (.cells #[.int .u64 (y.1 : Int), .int .u64 (y.2 : Int)] 86)) := ((low_chg hbW).drew).alloc _
          have hfin := (hw1.mono (l' := p :: rowOf v) (by simp)).then s2 (by rw [← HV.out]; exact fun x hx => .inl hx)
          have hnb := h3.mono hw1.size
          rw [← HV.out] at hnb
          show AddPost w p v L (addL L r) (cnt (addL L r) - cnt L) (.returned (.int .u64 (q : Int))) _
          exact AddPost.mk2 (x := (q : Int)) (congrArg _ HCA.out) s1 hfin hnb
theorem wpList_app1R {P : Program} {ops : Array Oper} {rest : List Oper} {o : Oper} {a : Act} {W : World} {Q : Exit → Act → World → Prop} (hgd : o.guard = none) (s x : Operand) (t : TypeId)
    (ho : o.op = .call { callee := .builtin .append, args := #[s, x], argTypes := #[t, t] })
    (base : Nat) (e : TypeId) (z : Value) (bytes : Nat) (ht : P.underlying t = some (.slice e)) (hinfo : (P.info? e).map (fun i => (i.zero, i.size, i.bytes)) = some (some z, 2, bytes)) (hzs : z.cells.size = 2)
    (y : Rn) (v : Value) (L : List Rn) (hs : a.eval s = v) (hown : Lr W base e v L) (g : Nat) (hx : a.eval x = .slice (some ⟨g, 0, none⟩) 1 1) (hgW : g = W.heap.size)
    (hlen : (L.length + 1) * bytes ≤ 140737488355328) (hlen2 : L.length + 1 ≤ 140737488355328) (w0 : World) (hb : Below base w0 W) (hb0 : base ≤ w0.heap.size)
    (h : ∀ v' w', Hid (Lr w' base e v' (L ++ [y])) → Hid (Below base w0 w') → wpList P ops Q rest (a.put o.dst v') w') : wpList P ops Q (o :: rest) a (W.alloc (.cells #[.int .u64 (y.1 : Int), .int .u64 (y.2 : Int)] e)) := by
  have hbase : base ≤ W.heap.size := Nat.le_trans hb0 hb.size
  subst hgW
  refine wpList_appS hgd s x t ho base e z bytes ht hinfo hzs v L hs (hown.alloc _) (some ⟨W.heap.size, 0, none⟩) (W.heap.size + 1) 1 1 [y] hx rfl ((Own.new W e (rcs [y])).ro _ (by omega)) hlen hlen2 (by simp; omega) fun v' w' h2 h3 _ => h v' w' h2 ?_
  have hba := hb.alloc hbase (.cells #[.int .u64 (y.1 : Int), .int .u64 (y.2 : Int)] e)
  exact hba.grown h3 (Nat.le_trans hb0 hba.size) fun k e => by have := (hown.lt k e).1; omega
theorem ix_pair (a b c d : Nat) (w : World) : (Instr.index 215 (.agg #[.int .u64 (a : Int), .int .u64 (b : Int), .int .u64 (c : Int), .int .u64 (d : Int)]) (.int .i64 0)).run Tryz.prog w = .ok (.agg #[.int .u64 (a : Int), .int .u64 (b : Int)]) w ∧
    (Instr.index 215 (.agg #[.int .u64 (a : Int), .int .u64 (b : Int), .int .u64 (c : Int), .int .u64 (d : Int)]) (.int .i64 1)).run Tryz.prog w = .ok (.agg #[.int .u64 (c : Int), .int .u64 (d : Int)]) w := by
  constructor <;> simp [Instr.index, run_underlying Tryz.underlying215, asIntOf, Tryz.sizeOf86, Tryz.isAgg86, go_sem]
theorem outs_if (r x : Rn) : outs r x = (if x.1 < r.1 then [(x.1, r.1)] else []) ++ (if r.2 < x.2 then [(r.2, x.2)] else []) := by
  unfold outs
  by_cases h1 : x.1 < r.1 <;> by_cases h2 : r.2 < x.2 <;> simp [List.filter_cons, ne, h1, h2]
theorem outs_of {r x : Rn} {b1 b2 : Bool} (h1 : decide (r.1 ≤ x.1) = b1) (h2 : decide (x.2 ≤ r.2) = b2) : outs r x = (bif b1 then [] else [(x.1, r.1)]) ++ (bif b2 then [] else [(r.2, x.2)]) := by
  rw [outs_if]
  cases b1 <;> cases b2 <;> simp at h1 h2 <;> first | (rw [if_pos h1, if_pos h2]; rfl) | (rw [if_pos h1, if_neg (by omega)]; rfl) | (rw [if_neg (by omega), if_pos h2]; rfl) | (rw [if_neg (by omega), if_neg (by omega)]; rfl)
def cutL (L : List Rn) (r : Rn) : List Rn := if r.1 < r.2 then dropL L r else L
theorem drop_empty (w : World) (p : Nat) (v : Value) (L : List Rn) (hs : St w p v L) (r : Rn) (hr : r.2 ≤ r.1) :
    Calls Tryz.prog 90 #[.pointer (some ⟨p, 0, none⟩), rv r] w (AddPost w p v L L 0) := by
  have hd : decide (r.2 ≤ r.1) = true := by simpa using hr
  have HE := Lib.hid (fun W => empty_any r W)
  rw [hd] at HE
  have HS := Lib.hid hs
  clear hs hr hd
  go_enter Tryz.func90, Tryz.ntmps90
  go_wp2_with (go_at_call 141; refine (HE.out _).mono ?_; rintro e w1 ⟨rfl, rfl⟩)
  go_ret
  have hC : Chg [] w ((w.alloc (rb r 86)).alloc (rb r 86)) := ((Chg.refl [] w).alloc _).alloc _
  exact AddPost.mk (HS.out.kept hC) (hC.mono (by simp)) (Nb.refl _ _)
def flatK (L : List Rn) (r : Rn) (i k : Nat) : List Rn := ((L.drop i).take k).flatMap (outs r)
theorem flatK_zero (L : List Rn) (r : Rn) (i : Nat) : flatK L r i 0 = [] := by simp [flatK]
theorem flatK_succ {L : List Rn} (r : Rn) {i k : Nat} (h : i + k < L.length) : flatK L r i (k + 1) = flatK L r i k ++ outs r (el L (i + k)) := by
  unfold flatK
  have hd : k < (L.drop i).length := by rw [List.length_drop]; omega
  rw [List.take_succ_eq_append_getElem hd, List.flatMap_append]
  simp [el, List.getD, h]
theorem flatK_len (L : List Rn) (r : Rn) (i k : Nat) : (flatK L r i k).length ≤ 2 * k := by
  unfold flatK
  have h : ∀ B : List Rn, (B.flatMap (outs r)).length ≤ 2 * B.length := by
    intro B
    induction B with
    | nil => simp
    | cons x B ih => have := outs_len r x; simp only [List.flatMap_cons, List.length_append, List.length_cons]; omega
  have := h ((L.drop i).take k)
  have h2 : ((L.drop i).take k).length ≤ k := by rw [List.length_take]; omega
  omega
set_option maxHeartbeats 4000000 in
set_option maxRecDepth 100000 in
theorem drop_some (w : World) (p : Nat) (v : Value) (L : List Rn) (hs : St w p v L) (r : Rn) (hr : r.1 < r.2) (hf : Fit r) (hl : L.length ≤ 999999) :
    Calls Tryz.prog 90 #[.pointer (some ⟨p, 0, none⟩), rv r] w (AddPost w p v L (dropL L r) (cnt L - cnt (dropL L r))) := by
  have hd : decide (r.2 ≤ r.1) = false := by simp; omega
  have HE := Lib.hid (fun W => empty_any r W)
  rw [hd] at HE
  have HEE := Lib.hid (fun y W => empty_any y W)
  have hrt : r.2 ≤ top64 := by have := hf.2; unfold top64; omega
  have hca := cnt_drop hs.nf hr hs.fit hrt
  have hpl := cnt_parts_le hs.nf (r := r) (Nat.le_of_lt hr)
  have HCN := Lib.hid (show ∀ W, Below w.heap.size w W → Calls Tryz.prog 142 #[.pointer (some ⟨p, 0, none⟩), rv r] W fun e w' => e = .returned (.int .u64 ((cnt (parts L r) : Nat) : Int)) ∧ Below W.heap.size W w' from fun W h =>
    count_any _ L r W (p :: rowOf v) ((hs.kept (low_chg h)).setV) (hs.kept (low_chg h)).ltF hf (by have := hf.2; omega))
  have HI1 := Lib.hid (show ∀ W, Below w.heap.size w W → Calls Tryz.prog 143 #[.pointer (some ⟨p, 0, none⟩), .func (.func 144) #[] #[], .int .u64 r.1] W fun e w' => e = .returned (.int .i64 (L.countP (bEA r.1) : Nat)) ∧ Below W.heap.size W w' from fun W h => endsAbove_ix p r.1 v L W (hs.kept (low_chg h)))
  have HI2 := Lib.hid (show ∀ W, Below w.heap.size w W → Calls Tryz.prog 143 #[.pointer (some ⟨p, 0, none⟩), .func (.func 145) #[] #[], .int .u64 r.2] W fun e w' => e = .returned (.int .i64 (L.countP (bBF r.2) : Nat)) ∧ Below W.heap.size W w' from fun W h => beginsFrom_ix p r.2 v L W (hs.kept (low_chg h)))
  have hij := le_EA_BF hs.nf hr
  have hjn : L.countP (bBF r.2) ≤ L.length := List.countP_le_length
  obtain ⟨i, HI⟩ : ∃ i, Hid (L.countP (bEA r.1) = i) := ⟨_, Lib.hid rfl⟩
  obtain ⟨j, HJ⟩ : ∃ j, Hid (L.countP (bBF r.2) = j) := ⟨_, Lib.hid rfl⟩
  obtain ⟨n, HN⟩ : ∃ n, Hid (L.length = n) := ⟨_, Lib.hid rfl⟩
  obtain ⟨cp, HCP⟩ : ∃ cp, Hid (cnt (parts L r) = cp) := ⟨_, Lib.hid rfl⟩
  rw [HI.out] at HI1 hij
  rw [HJ.out] at HI2 hij hjn
  rw [HN.out] at hjn hl
  rw [HCP.out] at HCN hpl hca
  have HCA := Lib.hid (show cp = cnt L - cnt (dropL L r) by omega)
  have HS := Lib.hid hs
  have HFIN := Lib.hid (show NF (dropL L r) ∧ (∀ x ∈ dropL L r, x.2 ≤ top64) ∧ (dropL L r).length ≤ 1000000 from ⟨(dropL_ok hs.nf hr).1, dropL_bound hs.nf hr hs.fit, by have := dropL_len hs.nf hr; have := HN.out; omega⟩)
  clear hs hd hca hpl
  go_enter Tryz.func90, Tryz.ntmps90
  go_wp2_with (first
    | (go_at_call 141; refine (HE.out _).mono ?_; rintro e w1 ⟨rfl, rfl⟩)
    | (go_at_call 142; refine (HCN.out _ (((Below.refl _ w).alloc (Nat.le_refl _) _).alloc (by simp) _)).mono ?_; rintro e wC ⟨rfl, hbC⟩))
  obtain ⟨R, HR⟩ : ∃ R, Hid (w.heap.size = R) := ⟨_, Lib.hid rfl⟩
  have hbX : Below w.heap.size w wC := (((Below.refl _ w).alloc (Nat.le_refl _) _).alloc (by simp) _).trans (hbC.mono (by simp; omega))
  have hob : Own wC R 86 [.int .u64 (r.1 : Int), .int .u64 (r.2 : Int)] := by rw [← HR.out]; exact ((Own.new w 86 [.int .u64 (r.1 : Int), .int .u64 (r.2 : Int)]).alloc (rb r 86)).below hbC (by simp; omega)
  clear hbC
  have hX1 := hob.cell 0
  have hX2 := hob.cell 1
  simp at hX1 hX2
  rw [HR.out]
  have hst : wC.drew.cell? ⟨R, 0, none⟩ = some (.int .u64 (r.1 : Int)) ∧ wC.drew.cell? ⟨R, 1, none⟩ = some (.int .u64 (r.2 : Int)) ∧ Below w.heap.size w wC.drew ∧ Own wC.drew R 86 [.int .u64 (r.1 : Int), .int .u64 (r.2 : Int)] := ⟨hX1, hX2, hbX.drew, hob⟩
  clear hX1 hX2 hob hbX
  go_region_held3 (fun w' => w'.cell? ⟨R, 0, none⟩ = some (.int .u64 (r.1 : Int)) ∧ w'.cell? ⟨R, 1, none⟩ = some (.int .u64 (r.2 : Int)) ∧ Below w.heap.size w w' ∧ Own w' R 86 [.int .u64 (r.1 : Int), .int .u64 (r.2 : Int)])
    (first
      | assumption
      | exact hst
      | (have hH := ‹World.cell? _ ⟨R, 0, none⟩ = _ ∧ _›; exact ⟨(hb9.cell (World.block_lt_of_cell? _ _ hH.1)).trans hH.1, (hb9.cell (World.block_lt_of_cell? _ _ hH.2.1)).trans hH.2.1, hH.2.2.1.trans (hb9.mono hH.2.2.1.size), hH.2.2.2.below hb9 hH.2.2.2.lt⟩))
    (first
      | (go_at_call 143; have hH := ‹World.cell? _ ⟨R, 0, none⟩ = _ ∧ _›; (with_reducible refine (HI1.out _ hH.2.2.1).mono ?_); clear hH; rintro e w9 ⟨rfl, hb9⟩)
      | (go_at_call 143; have hH := ‹World.cell? _ ⟨R, 0, none⟩ = _ ∧ _›; (with_reducible refine (HI2.out _ hH.2.2.1).mono ?_); clear hH; rintro e w9 ⟨rfl, hb9⟩))
  have hH := ‹World.cell? w9 ⟨R, 0, none⟩ = _ ∧ _›
  have hbw9 := hH.2.2.1
  have hob9 := hH.2.2.2
  clear hH hst hb9
  obtain ⟨a, c, hv, hro, hlc, hc63, hnil, hbk⟩ := HS.out.row.form
  rw [HN.out] at hv hlc
  have hpl : p < w.heap.size := HS.out.own.lt
  have hpc0 := HS.out.cell
  rw [hv] at hpc0
  have HPC := Lib.hid hpc0
  have HRO := Lib.hid hro
  have HBK := Lib.hid hbk
  have HV := Lib.hid hv
  have hpc := (hbw9.cell (p := ⟨p, 0, none⟩) hpl).trans hpc0
  have hi0 : (0 : Int) ≤ (i : Int) := by omega
  have hi1 : (i : Int) ≤ (j : Int) := by omega
  have hi2 : (j : Int) ≤ (c : Int) := by omega
  have hi3 : i ≤ j := hij
  have hi4 : j ≤ c := by omega
  have hcs : (c = i) = True ∨ (c = i) = False := by by_cases h : c = i <;> simp [h]
  have HB9 := Lib.hid hbw9
  have HO9 := Lib.hid hob9
  have hRw : w.heap.size ≤ R := by have := HR.out; omega
  have hR9 : R < w9.heap.size := hob9.lt
  have HNE : ∀ (W : World) (hst : St W p v L) (v8 : Value) {V : List Rn} (h8 : Lr W (R + 1) 86 v8 V), v.ownBlock = none ∨ v.ownBlock ≠ v8.ownBlock := fun W hst v8 V h8 => by
    rcases hvb : v.ownBlock with _ | g
    · exact .inl rfl
    · refine .inr (fun e => ?_)
      have h1 := (HS.out.row.lt g hvb).2
      have h2 := (h8.lt g e.symm).1
      omega
  have HJK := Lib.hid (show dropL L r = L.take i ++ (flatK L r i (j - i) ++ L.drop j) by unfold dropL flatK; rw [HI.out, HJ.out])
  clear hpc0 hro hbk hv hnil hbw9 hob9
  by_cases hiltj : i = j
  case' pos =>
    have hji : j = i := hiltj.symm
    clear hiltj
    have hzz : decide (0 < j - i) = false := by simp; omega
    have HL8 : Lr w9 (R + 1) 86 (.slice none 0 0) (flatK L r i (j - i)) := by rw [show j - i = 0 by omega, flatK_zero]; exact Lr.nil _ _ _
    have HL := Lib.hid HL8
    clear HL8
    subst hji
    rcases hcs with hcs | hcs
    all_goals
      go_wp2_with fail
      refine wp_loop_rounds 1 ?_
      rw [rounds_succ]
      have hbW := HB9.out
      have hstW := HS.out.kept (low_chg hbW)
      have hpcW := (hbW.cell (p := ⟨p, 0, none⟩) hpl).trans HPC.out
      have hfpW := hstW.own.frozen 0
      have hpW : p < w9.heap.size := hstW.own.lt
      have HREP := Lib.hid (show Calls Tryz.prog 147 #[v, .int .i64 j, .int .i64 j, (.slice none 0 0)] w9 (RepPost w9 0 v (dropL L r)) from by
        have h1 := replace_any w9 0 v L hstW.row (.slice none 0 0) (flatK L r j (j - j)) (R + 1) HL.out (HNE w9 hstW (.slice none 0 0) HL.out) j j hij (by rw [HN.out]; exact hjn) (by rw [HN.out]; have := flatK_len L r j (j - j); omega) (Nat.zero_le _)
        rw [HJK.out]
        exact h1)
      rw [HV.out] at HREP hstW
      have HSW := Lib.hid hstW
      clear hstW
      go_wp2_with (go_at_call 147; refine HREP.out.mono ?_; rintro e w3 ⟨v1, rfl, h1, h2, h3⟩; obtain ⟨a1, c1, rfl⟩ := h1.shape; have ho3 := (HSW.out.own.grown h2 (fun e => HSW.out.apart e.symm)); have hp3 := ho3.cell 0; have hp4 := ho3.frozen 0; simp at hp3)
      go_ret
      obtain ⟨s1, s2⟩ := st_store HSW.out h1 h2 HFIN.out.1 HFIN.out.2.1 HFIN.out.2.2
      have hw1 : Chg [] w w9 := low_chg hbW
      have hfin := (hw1.mono (l' := p :: rowOf v) (by simp)).then s2 (by rw [← HV.out]; exact fun x hx => .inl hx)
      have hnb := h3.mono hw1.size
      rw [← HV.out] at hnb
      show AddPost w p v L (dropL L r) (cnt L - cnt (dropL L r)) (.returned (.int .u64 (cp : Int))) _
      exact AddPost.mk2 (x := (cp : Int)) (congrArg _ HCA.out) s1 hfin hnb
  case' neg =>
    have hcs2 : (c = i) = False := by simp; omega
    clear hcs
    obtain ⟨g, off, rfl, hgl, hcl⟩ := HRO.out.rn (by rw [HN.out]; omega)
    obtain ⟨rfl, _, _, _, _⟩ := HBK.out _ _ _ rfl
    have HCL := Lib.hid hcl
    clear hcl
    go_wp2_with fail
    go_loopw [8, 38] (fun v8 ix wr => ∃ k : Nat, ix = .int .i64 k ∧ k ≤ j - i ∧ Lr wr (R + 1) 86 v8 (flatK L r i k) ∧ Below (R + 1) w9 wr) (fun _ ix _ => j - i - (intOf ix).toNat)
    case atStart => exact ⟨0, rfl, Nat.zero_le _, by rw [flatK_zero]; exact Lr.nil _ _ _, Below.refl _ _⟩
    case round =>
      obtain ⟨k, rfl, hk, h8, hb9⟩ := hrel
      have hbW : Below w.heap.size w wr := HB9.out.trans (hb9.mono (by omega))
      by_cases hlt : k < j - i
      · have hL : i + k < L.length := by rw [HN.out]; omega
        have hcc := HCL.out (i + k) hL
        rw [show 0 + (i + k) * 2 = i * 2 + k * 2 by omega] at hcc
        have hx1 := (hbW.cell (p := ⟨g, i * 2 + k * 2, none⟩) hgl).trans hcc.1
        have hx2 := (hbW.cell (p := ⟨g, i * 2 + k * 2 + 1, none⟩) hgl).trans hcc.2
        have HST := Lib.hid (flatK_succ r hL)
        generalize el L (i + k) = x at hx1 hx2 HST
        have hoW := HO9.out.below hb9 (by omega)
        have hj1 := hoW.cell 0
        have hj2 := hoW.cell 1
        simp at hj1 hj2
        have hRW := hoW.lt
        have hdt : decide (k < j - i) = true := by simpa using hlt
        have hk0 : (0 : Int) ≤ (k : Int) := by omega
        have hk1 : (k : Int) < ((j - i : Nat) : Int) := by omega
        have HJ2 := Lib.hid (fun W => without_any x r W)
        have hlen8 := flatK_len L r i k
        have H8 := Lib.hid h8
        have HB := Lib.hid hb9
        clear hcc hpc h8 hb9 hoW
        go_wp2_with (go_at_call 146; refine (HJ2.out _).mono ?_; rintro e w2 ⟨rfl, hb2⟩; have hb2' : Below wr.heap.size wr w2 := ((Below.refl _ wr).alloc (Nat.le_refl _) _).trans (hb2.mono (by simp)); clear hb2)
        have H82 := Lib.hid (H8.out.below hb2' (Nat.le_refl _))
        have HB2 := Lib.hid (HB.out.trans (hb2'.mono (by omega)))
        refine wp_loop_rounds 3 ?_
        rw [rounds_succ]
        have HE1 := Lib.hid (fun W => HEE.out (x.1, r.1) W)
        have HE2 := Lib.hid (fun W => HEE.out (r.2, x.2) W)
        dsimp only at HE1 HE2
        have hc1 : decide (r.1 ≤ x.1) = true ∨ decide (r.1 ≤ x.1) = false := by cases decide (r.1 ≤ x.1) <;> simp
        have hc2 : decide (x.2 ≤ r.2) = true ∨ decide (x.2 ≤ r.2) = false := by cases decide (x.2 ≤ r.2) <;> simp
        have hR2 : R + 1 ≤ w2.heap.size := by have := HB2.out.size; omega
        have hix1 := fun W => (ix_pair x.1 r.1 r.2 x.2 W).1
        have hix2 := fun W => (ix_pair x.1 r.1 r.2 x.2 W).2
        rcases hc1 with hc1 | hc1
        all_goals rw [hc1] at HE1
        all_goals rcases hc2 with hc2 | hc2
        all_goals rw [hc2] at HE2
        · have HO2 := Lib.hid (show outs r x = [] from outs_of hc1 hc2)
          go_wp2_with (go_at_call 141; (with_reducible refine (HE1.out _).mono ?_); rintro e w4 ⟨rfl, rfl⟩)
          rw [rounds_succ]
          go_wp2_with (go_at_call 141; (with_reducible refine (HE2.out _).mono ?_); rintro e w4 ⟨rfl, rfl⟩)
          rw [rounds_succ]
          go_wp2_with fail
          go_roundw
          case rel =>
            refine ⟨k + 1, by go_num, by omega, ?_, ((((HB2.out.alloc (by omega) _).alloc (by simp; omega) _).alloc (by simp; omega) _).alloc (by simp; omega) _)⟩
            rw [HST.out, HO2.out]
            rw [List.append_nil]
            exact ((((H82.out.alloc _).alloc _).alloc _).alloc _)
          case measure => simp [intOf]; omega
        · have HO2 := Lib.hid (show outs r x = [(r.2, x.2)] from outs_of hc1 hc2)
          go_wp2_with (go_at_call 141; (with_reducible refine (HE1.out _).mono ?_); rintro e w4 ⟨rfl, rfl⟩)
          rw [rounds_succ]
          go_wp2_with (first | (go_at_call 141; (with_reducible refine (HE2.out _).mono ?_); rintro e w4 ⟨rfl, rfl⟩) | (at_builtin; refine wpList_app1R rfl _ _ 82 rfl (R + 1) 86 zR 16 Tryz.underlying82 Tryz.infoR rfl (r.2, x.2) _ _ (by rfl) ((((H82.out.alloc _).alloc _).alloc _).alloc _) _ (by rfl) (by simp) (by omega) (by omega) w9 ((((HB2.out.alloc (by omega) _).alloc (by simp; omega) _).alloc (by simp; omega) _).alloc (by simp; omega) _) (by omega) ?_; intro v11 w11 H11 HB11))
          rw [rounds_succ]
          go_wp2_with fail
          go_roundw
          case rel =>
            refine ⟨k + 1, by go_num, by omega, ?_, HB11.out⟩
            rw [HST.out, HO2.out]
            exact H11.out
          case measure => simp [intOf]; omega
        · have HO2 := Lib.hid (show outs r x = [(x.1, r.1)] from outs_of hc1 hc2)
          go_wp2_with (first | (go_at_call 141; (with_reducible refine (HE1.out _).mono ?_); rintro e w4 ⟨rfl, rfl⟩) | (at_builtin; refine wpList_app1R rfl _ _ 82 rfl (R + 1) 86 zR 16 Tryz.underlying82 Tryz.infoR rfl (x.1, r.1) _ _ (by rfl) ((H82.out.alloc _).alloc _) _ (by rfl) (by simp) (by omega) (by omega) w9 ((HB2.out.alloc (by omega) _).alloc (by simp; omega) _) (by omega) ?_; intro v9 w10 H9 HB10))
          have hR10 : R + 1 ≤ w10.heap.size := by have := HB10.out.size; omega
          rw [rounds_succ]
          have hlen9 : (flatK L r i k ++ [(x.1, r.1)]).length ≤ 2 * k + 1 := by rw [List.length_append]; simp; omega
          go_wp2_with (go_at_call 141; (with_reducible refine (HE2.out _).mono ?_); rintro e w4 ⟨rfl, rfl⟩)
          rw [rounds_succ]
          go_wp2_with fail
          go_roundw
          case rel =>
            refine ⟨k + 1, by go_num, by omega, ?_, ((HB10.out.alloc (by omega) _).alloc (by simp; omega) _)⟩
            rw [HST.out, HO2.out]
            exact ((H9.out.alloc _).alloc _)
          case measure => simp [intOf]; omega
        · have HO2 := Lib.hid (show outs r x = [(x.1, r.1), (r.2, x.2)] from outs_of hc1 hc2)
          go_wp2_with (first | (go_at_call 141; (with_reducible refine (HE1.out _).mono ?_); rintro e w4 ⟨rfl, rfl⟩) | (at_builtin; refine wpList_app1R rfl _ _ 82 rfl (R + 1) 86 zR 16 Tryz.underlying82 Tryz.infoR rfl (x.1, r.1) _ _ (by rfl) ((H82.out.alloc _).alloc _) _ (by rfl) (by simp) (by omega) (by omega) w9 ((HB2.out.alloc (by omega) _).alloc (by simp; omega) _) (by omega) ?_; intro v9 w10 H9 HB10))
          have hR10 : R + 1 ≤ w10.heap.size := by have := HB10.out.size; omega
          rw [rounds_succ]
          have hlen9 : (flatK L r i k ++ [(x.1, r.1)]).length ≤ 2 * k + 1 := by rw [List.length_append]; simp; omega
          go_wp2_with (first | (go_at_call 141; (with_reducible refine (HE2.out _).mono ?_); rintro e w4 ⟨rfl, rfl⟩) | (at_builtin; refine wpList_app1R rfl _ _ 82 rfl (R + 1) 86 zR 16 Tryz.underlying82 Tryz.infoR rfl (r.2, x.2) _ _ (by rfl) ((H9.out.alloc _).alloc _) _ (by rfl) (by simp) (by omega) (by omega) w9 ((HB10.out.alloc (by omega) _).alloc (by simp; omega) _) (by omega) ?_; intro v11 w11 H11 HB11))
          rw [rounds_succ]
          go_wp2_with fail
          go_roundw
          case rel =>
            refine ⟨k + 1, by go_num, by omega, ?_, HB11.out⟩
            rw [HST.out, HO2.out]
            have := H11.out
            rwa [List.append_assoc] at this
          case measure => simp [intOf]; omega
      · obtain rfl : k = j - i := by omega
        have hdt : decide (j - i < j - i) = false := by simp
        have hbW := hbW
        have hstW := HS.out.kept (low_chg hbW)
        have hpcW := (hbW.cell (p := ⟨p, 0, none⟩) hpl).trans HPC.out
        have hfpW := hstW.own.frozen 0
        have hpW : p < wr.heap.size := hstW.own.lt
        have HREP := Lib.hid (show Calls Tryz.prog 147 #[v, .int .i64 i, .int .i64 j, u8] wr (RepPost wr 0 v (dropL L r)) from by
          have h1 := replace_any wr 0 v L hstW.row u8 (flatK L r i (j - i)) (R + 1) h8 (HNE wr hstW u8 h8) i j hij (by rw [HN.out]; exact hjn) (by rw [HN.out]; have := flatK_len L r i (j - i); omega) (Nat.zero_le _)
          rw [HJK.out]
          exact h1)
        rw [HV.out] at HREP hstW
        have HSW := Lib.hid hstW
        clear hstW
        go_wp2_with (go_at_call 147; refine HREP.out.mono ?_; rintro e w3 ⟨v1, rfl, h1, h2, h3⟩; obtain ⟨a1, c1, rfl⟩ := h1.shape; have ho3 := (HSW.out.own.grown h2 (fun e => HSW.out.apart e.symm)); have hp3 := ho3.cell 0; have hp4 := ho3.frozen 0; simp at hp3)
        go_ret
        obtain ⟨s1, s2⟩ := st_store HSW.out h1 h2 HFIN.out.1 HFIN.out.2.1 HFIN.out.2.2
        have hw1 : Chg [] w wr := low_chg hbW
        have hfin := (hw1.mono (l' := p :: rowOf v) (by simp)).then s2 (by rw [← HV.out]; exact fun x hx => .inl hx)
        have hnb := h3.mono hw1.size
        rw [← HV.out] at hnb
        show AddPost w p v L (dropL L r) (cnt L - cnt (dropL L r)) (.returned (.int .u64 (cp : Int))) _
        exact AddPost.mk2 (x := (cp : Int)) (congrArg _ HCA.out) s1 hfin hnb
theorem add_any (w : World) (p : Nat) (v : Value) (L : List Rn) (hs : St w p v L) (r : Rn) (hf : Fit r) (hl : L.length ≤ 999999) :
    Calls Tryz.prog 92 #[.pointer (some ⟨p, 0, none⟩), rv r] w (AddPost w p v L (putL L r) (cnt (putL L r) - cnt L)) := by
  unfold putL
  by_cases h : r.1 < r.2
  · rw [if_pos h]; exact add_some w p v L hs r h hf hl
  · rw [if_neg h, Nat.sub_self]; exact add_empty w p v L hs r (by omega)
theorem drop_any (w : World) (p : Nat) (v : Value) (L : List Rn) (hs : St w p v L) (r : Rn) (hf : Fit r) (hl : L.length ≤ 999999) :
    Calls Tryz.prog 90 #[.pointer (some ⟨p, 0, none⟩), rv r] w (AddPost w p v L (cutL L r) (cnt L - cnt (cutL L r))) := by
  unfold cutL
  by_cases h : r.1 < r.2
  · rw [if_pos h]; exact drop_some w p v L hs r h hf hl
  · rw [if_neg h, Nat.sub_self]; exact drop_empty w p v L hs r (by omega)
theorem putL_ok {L : List Rn} (h : NF L) (r : Rn) : NF (putL L r) ∧ ∀ n, mem (putL L r) n = (mem L n || inR r n) := by
  unfold putL
  by_cases hr : r.1 < r.2
  · rw [if_pos hr]; exact addL_ok h hr
  · rw [if_neg hr]; exact ⟨h, fun n => by rw [inR_empty (by omega)]; simp⟩
theorem cutL_ok {L : List Rn} (h : NF L) (r : Rn) : NF (cutL L r) ∧ ∀ n, mem (cutL L r) n = (mem L n && !inR r n) := by
  unfold cutL
  by_cases hr : r.1 < r.2
  · rw [if_pos hr]; exact dropL_ok h hr
  · rw [if_neg hr]; exact ⟨h, fun n => by rw [inR_empty (by omega)]; simp⟩
theorem putL_len {L : List Rn} (h : NF L) (r : Rn) : (putL L r).length ≤ L.length + 1 := by
  unfold putL
  by_cases hr : r.1 < r.2
  · rw [if_pos hr]; exact addL_len' h hr
  · rw [if_neg hr]; omega
theorem cutL_len {L : List Rn} (h : NF L) (r : Rn) : (cutL L r).length ≤ L.length + 1 := by
  unfold cutL
  by_cases hr : r.1 < r.2
  · rw [if_pos hr]; exact dropL_len h hr
  · rw [if_neg hr]; omega
theorem New.ltB {w : World} {B p : Nat} {v : Value} {L : List Rn} (h : New w B p v L) : B ≤ w.heap.size := by have := h.st.own.lt; have := h.lowp; omega
theorem New.blocks {w : World} {B p : Nat} {v : Value} {L : List Rn} (h : New w B p v L) : ∀ k ∈ p :: rowOf v, B ≤ k := by
  intro k hk
  rcases List.mem_cons.1 hk with rfl | hk
  · exact h.lowp
  · exact h.lowg k (mem_rowOf.1 hk)
theorem New.post {w w' w0 : World} {B p n : Nat} {v : Value} {L M : List Rn} {e : Ending} (h : New w B p v L) (hb : Below B w0 w) (hp : AddPost w p v L M n e w') :
    ∃ v', e = .returned (.int .u64 (n : Int)) ∧ New w' B p v' M ∧ Below B w0 w' ∧ w.heap.size ≤ w'.heap.size := by
  obtain ⟨v', he, hs, hc, hn⟩ := hp
  refine ⟨v', he, ⟨hs, h.lowp, fun g hg => ?_⟩, below_chg hb hc h.ltB h.blocks, hc.size⟩
  rcases hn with hn | hn
  · exact h.lowg g (hn ▸ hg)
  · exact Nat.le_trans h.ltB (hn g hg)
theorem New.keep {w w' : World} {B p : Nat} {v : Value} {L : List Rn} (h : New w B p v L) (hb : Below w.heap.size w w') : New w' B p v L := ⟨h.st.kept (low_chg hb), h.lowp, h.lowg⟩
end Go.Proofs.YtmpajlpemabniaaGreat
