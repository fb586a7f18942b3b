/-
  Contract of Add (package runs). No claim of its own.
-/
import Derived.Test.YtmpajlpemabniaaGreatJ8
namespace Go.Proofs.YtmpajlpemabniaaGreat
open Go.RowKit Go.Shelf Go.Deep
set_option linter.unusedVariables false
set_option linter.unusedSimpArgs false

/-- the row's block -/
def rowOf (v : Value) : List Nat := v.ownBlock.toList
theorem mem_rowOf {v : Value} {g : Nat} : g ∈ rowOf v ↔ v.ownBlock = some g := by unfold rowOf; cases v.ownBlock <;> simp [eq_comm]
theorem St.setV {w : World} {p : Nat} {v : Value} {L : List Rn} (h : St w p v L) : SetV w (.pointer (some ⟨p, 0, none⟩)) (p :: rowOf v) L :=
  .inr ⟨p, v, rfl, h, by simp, fun g hg => by simp [mem_rowOf, hg]⟩
theorem St.ltF {w : World} {p : Nat} {v : Value} {L : List Rn} (h : St w p v L) : ∀ k ∈ p :: rowOf v, k < w.heap.size := by
  intro k hk
  rcases List.mem_cons.1 hk with rfl | hk
  · exact h.own.lt
  · exact (h.row.lt k (mem_rowOf.1 hk)).2
theorem Lr.ne_own {w : World} {b p : Nat} {v : Value} {L : List Rn} {cs : List Value} (h : Lr w b 86 v L) (ho : Own w p 199 cs) : v.ownBlock ≠ some p := by
  intro e
  rcases h.2 with ⟨hn, _⟩ | ⟨g, cap, cur, hv, hb, hgg, rest⟩
  · subst hn; cases e
  · subst hv
    have e2 : g = p := by simpa [Value.ownBlock] using e
    subst e2
    unfold Own at ho
    rw [hgg] at ho
    simp at ho
/-- the new row is laid into the struct -/
theorem st_store {W W' : World} {p : Nat} {v v1 : Value} {L L' : List Rn} (hs : St W p v L) (hr : Lr W' 0 86 v1 L') (hg : W.grownBy W' v.ownBlock) (hN : NF L') (hf : ∀ r ∈ L', r.2 ≤ top64) (hl : L'.length ≤ 1000000) :
    St (W'.setCell ⟨p, 0, none⟩ v1) p v1 L' ∧ Chg (p :: rowOf v) W (W'.setCell ⟨p, 0, none⟩ v1) := by
  have ho : Own W' p 199 [v] := hs.own.grown hg (fun e => hs.apart e.symm)
  have hne := hr.ne_own ho
  refine ⟨⟨ho.set 0 v1, hr.kept (only_set (World.grownBy.refl W' _) 0 v1) (.inr hne), hN, hf, hl⟩, ?_⟩
  exact (((Chg.refl (p :: rowOf v) W).grown hg (fun k e => .inl (by simp [mem_rowOf, e])))).setCell (p := ⟨p, 0, none⟩) (.inl (by simp)) _
/-- what is in when r has been put in -/
def putL (L : List Rn) (r : Rn) : List Rn := if r.1 < r.2 then addL L r else L
def AddPost (w : World) (p : Nat) (v : Value) (L M : List Rn) (n : Nat) (e : Ending) (w' : World) : Prop :=
  ∃ v', e = .returned (.int .u64 (n : Int)) ∧ St w' p v' M ∧ Chg (p :: rowOf v) w w' ∧ Nb w v v'
theorem AddPost.mk {w w' : World} {p : Nat} {v v' : Value} {L M : List Rn} {n : Nat} (h1 : St w' p v' M) (h2 : Chg (p :: rowOf v) w w') (h3 : Nb w v v') : AddPost w p v L M n (.returned (.int .u64 (n : Int))) w' := ⟨v', rfl, h1, h2, h3⟩
theorem Nb.mono {w w1 : World} {a b : Value} (h : Nb w1 a b) (hs : w.heap.size ≤ w1.heap.size) : Nb w a b := by
  rcases h with h | h
  · exact .inl h
  · exact .inr fun k hk => Nat.le_trans hs (h k hk)
theorem AddPost.mk2 {w w' : World} {p : Nat} {v v' : Value} {L M : List Rn} {n : Nat} {x : Int} (h0 : x = (n : Int)) (h1 : St w' p v' M) (h2 : Chg (p :: rowOf v) w w') (h3 : Nb w v v') : AddPost w p v L M n (.returned (.int .u64 x)) w' := ⟨v', by rw [h0], h1, h2, h3⟩
theorem add_empty (w : World) (p : Nat) (v : Value) (L : List Rn) (hs : St w p v L) (r : Rn) (hr : r.2 ≤ r.1) :
    Calls Tryz.prog 92 #[.pointer (some ⟨p, 0, none⟩), rv r] w (AddPost w p v L L 0) := by
  have hd : decide (r.2 ≤ r.1) = true := by simpa using hr
  have HE := Lib.hid (fun W => empty_any r W)
  rw [hd] at HE
  have HS := Lib.hid hs
  clear hs hr hd
  go_enter Tryz.func92, Tryz.ntmps92
  go_wp2_with (go_at_call 141; refine (HE.out _).mono ?_; rintro e w1 ⟨rfl, rfl⟩)
  go_ret
  have hC : Chg [] w ((w.alloc (rb r 86)).alloc (rb r 86)) := ((Chg.refl [] w).alloc _).alloc _
  exact AddPost.mk (HS.out.kept hC) (hC.mono (by simp)) (Nb.refl _ _)
/-- what the loop has joined -/
def joinK (L : List Rn) (r : Rn) (i k : Nat) : Rn := ((L.drop i).take k).foldl joinR r
theorem joinK_zero (L : List Rn) (r : Rn) (i : Nat) : joinK L r i 0 = r := by simp [joinK]
theorem joinK_succ {L : List Rn} (r : Rn) {i k : Nat} (h : i + k < L.length) : joinK L r i (k + 1) = joinR (joinK L r i k) (el L (i + k)) := by
  unfold joinK
  have hd : k < (L.drop i).length := by rw [List.length_drop]; omega
  rw [List.take_succ_eq_append_getElem hd, List.foldl_append]
  simp [el, List.getD, h]
theorem joinR_fit {x y : Rn} (h1 : Fit x) (h2 : Fit y) : Fit (joinR x y) := by
  unfold Fit at *; simp only [joinR]; omega
set_option maxHeartbeats 2000000 in
set_option maxRecDepth 100000 in
theorem add_some (w : World) (p : Nat) (v : Value) (L : List Rn) (hs : St w p v L) (r : Rn) (hr : r.1 < r.2) (hf : Fit r) (hl : L.length ≤ 999999) :
    Calls Tryz.prog 92 #[.pointer (some ⟨p, 0, none⟩), rv r] w (AddPost w p v L (addL L r) (cnt (addL L r) - cnt L)) := by
  have hd : decide (r.2 ≤ r.1) = false := by simp; omega
  have HE := Lib.hid (fun W => empty_any r W)
  rw [hd] at HE
  have hrt : r.2 ≤ top64 := by have := hf.2; unfold top64; omega
  have hca := cnt_add hs.nf hr hs.fit hrt
  have hpl := cnt_parts_le hs.nf (r := r) (Nat.le_of_lt hr)
  have hlen := length_any r hf (Nat.le_of_lt hr)
  have HLN := Lib.hid (fun W => hlen W)
  have HCN := Lib.hid (show ∀ W, Below w.heap.size w W → Calls Tryz.prog 142 #[.pointer (some ⟨p, 0, none⟩), rv r] W fun e w' => e = .returned (.int .u64 ((cnt (parts L r) : Nat) : Int)) ∧ Below W.heap.size W w' from fun W h =>
    count_any _ L r W (p :: rowOf v) ((hs.kept (low_chg h)).setV) (hs.kept (low_chg h)).ltF hf (by have := hf.2; omega))
  have HI1 := Lib.hid (show ∀ W, Below w.heap.size w W → Calls Tryz.prog 143 #[.pointer (some ⟨p, 0, none⟩), .func (.func 151) #[] #[], .int .u64 r.1] W fun e w' => e = .returned (.int .i64 (L.countP (bEF r.1) : Nat)) ∧ Below W.heap.size W w' from fun W h => endsFrom_ix p r.1 v L W (hs.kept (low_chg h)))
  have HI2 := Lib.hid (show ∀ W, Below w.heap.size w W → Calls Tryz.prog 143 #[.pointer (some ⟨p, 0, none⟩), .func (.func 152) #[] #[], .int .u64 r.2] W fun e w' => e = .returned (.int .i64 (L.countP (bBA r.2) : Nat)) ∧ Below W.heap.size W w' from fun W h => beginsAbove_ix p r.2 v L W (hs.kept (low_chg h)))
  have hij := le_EF_BA hs.nf hr
  have hjn : L.countP (bBA r.2) ≤ L.length := List.countP_le_length
  obtain ⟨i, HI⟩ : ∃ i, Hid (L.countP (bEF r.1) = i) := ⟨_, Lib.hid rfl⟩
  obtain ⟨j, HJ⟩ : ∃ j, Hid (L.countP (bBA r.2) = j) := ⟨_, Lib.hid rfl⟩
  obtain ⟨n, HN⟩ : ∃ n, Hid (L.length = n) := ⟨_, Lib.hid rfl⟩
  obtain ⟨cp, HCP⟩ : ∃ cp, Hid (cnt (parts L r) = cp) := ⟨_, Lib.hid rfl⟩
  rw [HI.out] at HI1 hij
  rw [HJ.out] at HI2 hij hjn
  rw [HN.out] at hjn hl
  rw [HCP.out] at HCN hpl hca
  have hwd : IntKind.u64.wrap (((r.2 - r.1 : Nat) : Int) - (cp : Int)) = ((r.2 - r.1 - cp : Nat) : Int) := by rw [IntKind.wrap_u64]; have := hf.2; omega
  have HWD := Lib.hid hwd
  have HCA := Lib.hid (show r.2 - r.1 - cp = cnt (addL L r) - cnt L by omega)
  have HS := Lib.hid hs
  have HFIN := Lib.hid (show NF (addL L r) ∧ (∀ x ∈ addL L r, x.2 ≤ top64) ∧ (addL L r).length ≤ 1000000 from ⟨(addL_ok hs.nf hr).1, addL_bound hs.nf hr hs.fit hrt, by have := addL_len' hs.nf hr; have := HN.out; omega⟩)
  clear hs hd hlen hca hwd
  obtain ⟨d, HD⟩ : ∃ d, Hid (r.2 - r.1 = d) := ⟨_, Lib.hid rfl⟩
  rw [HD.out] at HLN HWD HCA hpl
  obtain ⟨q, HQ⟩ : ∃ q, Hid (d - cp = q) := ⟨_, Lib.hid rfl⟩
  rw [HQ.out] at HWD HCA
  clear hpl
  go_enter Tryz.func92, Tryz.ntmps92
  go_wp2_with (go_at_call 141; refine (HE.out _).mono ?_; rintro e w1 ⟨rfl, rfl⟩)
  obtain ⟨R, HR⟩ : ∃ R, Hid (w.heap.size = R) := ⟨_, Lib.hid rfl⟩
  obtain ⟨X, HX⟩ : ∃ X, Hid ((w.alloc (.cells #[.int .u64 (r.1 : Int), .int .u64 (r.2 : Int)] 86)).alloc (rb r 86) = X) := ⟨_, Lib.hid rfl⟩
  rw [HX.out]
  have hob : Own X R 86 [.int .u64 (r.1 : Int), .int .u64 (r.2 : Int)] := by rw [← HX.out, ← HR.out]; exact (Own.new w 86 [.int .u64 (r.1 : Int), .int .u64 (r.2 : Int)]).alloc _
  have hbX : Below w.heap.size w X := by rw [← HX.out]; exact ((Below.refl _ w).alloc (Nat.le_refl _) _).alloc (by simp) _
  have hX1 := hob.cell 0
  have hX2 := hob.cell 1
  simp at hX1 hX2
  rw [HR.out]
  have hwd := HWD.out
  have hst : X.drew.cell? ⟨R, 0, none⟩ = some (.int .u64 (r.1 : Int)) ∧ X.drew.cell? ⟨R, 1, none⟩ = some (.int .u64 (r.2 : Int)) ∧ Below w.heap.size w X.drew ∧ Own X.drew R 86 [.int .u64 (r.1 : Int), .int .u64 (r.2 : Int)] := ⟨hX1, hX2, hbX.drew, hob⟩
  go_region_held3 (fun w' => w'.cell? ⟨R, 0, none⟩ = some (.int .u64 (r.1 : Int)) ∧ w'.cell? ⟨R, 1, none⟩ = some (.int .u64 (r.2 : Int)) ∧ Below w.heap.size w w' ∧ Own w' R 86 [.int .u64 (r.1 : Int), .int .u64 (r.2 : Int)])
    (first
      | assumption
      | exact hst
      | (have hH := ‹World.cell? _ ⟨R, 0, none⟩ = _ ∧ _›; exact ⟨(hb9.cell (World.block_lt_of_cell? _ _ hH.1)).trans hH.1, (hb9.cell (World.block_lt_of_cell? _ _ hH.2.1)).trans hH.2.1, hH.2.2.1.trans (hb9.mono hH.2.2.1.size), hH.2.2.2.below hb9 hH.2.2.2.lt⟩))
    (first
      | (go_at_call 150; have hH := ‹World.cell? _ ⟨R, 0, none⟩ = _ ∧ _›; refine (HLN.out _).mono ?_; clear hH; rintro e w9 ⟨rfl, hb9⟩)
      | (go_at_call 142; have hH := ‹World.cell? _ ⟨R, 0, none⟩ = _ ∧ _›; refine (HCN.out _ hH.2.2.1).mono ?_; clear hH; rintro e w9 ⟨rfl, hb9⟩))
  have hH := ‹World.cell? w9 ⟨R, 0, none⟩ = _ ∧ _›
  have hst : w9.drew.cell? ⟨R, 0, none⟩ = some (.int .u64 (r.1 : Int)) ∧ w9.drew.cell? ⟨R, 1, none⟩ = some (.int .u64 (r.2 : Int)) ∧ Below w.heap.size w w9.drew ∧ Own w9.drew R 86 [.int .u64 (r.1 : Int), .int .u64 (r.2 : Int)] := ⟨hH.1, hH.2.1, hH.2.2.1.drew, hH.2.2.2⟩
  clear hH hX1 hX2 hob hbX hwd
  rename World => wA
  clear hb9
  go_wp2_with fail
  go_region_held3 (fun w' => w'.cell? ⟨R, 0, none⟩ = some (.int .u64 (r.1 : Int)) ∧ w'.cell? ⟨R, 1, none⟩ = some (.int .u64 (r.2 : Int)) ∧ Below w.heap.size w w' ∧ Own w' R 86 [.int .u64 (r.1 : Int), .int .u64 (r.2 : Int)])
    (first
      | assumption
      | exact hst
      | (have hH := ‹World.cell? _ ⟨R, 0, none⟩ = _ ∧ _›; exact ⟨(hb9.cell (World.block_lt_of_cell? _ _ hH.1)).trans hH.1, (hb9.cell (World.block_lt_of_cell? _ _ hH.2.1)).trans hH.2.1, hH.2.2.1.trans (hb9.mono hH.2.2.1.size), hH.2.2.2.below hb9 hH.2.2.2.lt⟩))
    (first
      | (go_at_call 143; have hH := ‹World.cell? _ ⟨R, 0, none⟩ = _ ∧ _›; (with_reducible refine (HI1.out _ hH.2.2.1).mono ?_); clear hH; rintro e w9 ⟨rfl, hb9⟩)
      | (go_at_call 143; have hH := ‹World.cell? _ ⟨R, 0, none⟩ = _ ∧ _›; (with_reducible refine (HI2.out _ hH.2.2.1).mono ?_); clear hH; rintro e w9 ⟨rfl, hb9⟩))
  have hH := ‹World.cell? w9 ⟨R, 0, none⟩ = _ ∧ _›
  have hbw9 := hH.2.2.1
  have hob9 := hH.2.2.2
  clear hH hst hb9
  obtain ⟨a, c, hv, hro, hlc, hc63, hnil, hbk⟩ := HS.out.row.form
  rw [HN.out] at hv hlc
  have hpl : p < w.heap.size := HS.out.own.lt
  have hpc0 := HS.out.cell
  rw [hv] at hpc0
  have HPC := Lib.hid hpc0
  have HRO := Lib.hid hro
  have HBK := Lib.hid hbk
  have HV := Lib.hid hv
  have hpc := (hbw9.cell (p := ⟨p, 0, none⟩) hpl).trans hpc0
  have hi0 : (0 : Int) ≤ (i : Int) := by omega
  have hi1 : (i : Int) ≤ (j : Int) := by omega
  have hi2 : (j : Int) ≤ (c : Int) := by omega
  have hi3 : i ≤ j := hij
  have hi4 : j ≤ c := by omega
  have hcs : (c = i) = True ∨ (c = i) = False := by by_cases h : c = i <;> simp [h]
  have HB9 := Lib.hid hbw9
  have HO9 := Lib.hid hob9
  have hRw : w.heap.size ≤ R := by have := HR.out; omega
  clear hpc0 hro hbk hv hnil hbw9 hob9
  have HJK := Lib.hid (show addL L r = L.take i ++ ([joinK L r i (j - i)] ++ L.drop j) by unfold addL joinK; rw [HI.out, HJ.out])
  by_cases hiltj : i = j
  case' pos =>
    have hji : j = i := hiltj.symm
    clear hiltj
    have hzz : decide (0 < j - i) = false := by simp; omega
    subst hji
    have hoW := HO9.out
    have hbW := HB9.out
    have ejk : joinK L r j (j - j) = r := by rw [Nat.sub_self, joinK_zero]
    rw [← ejk] at hoW
    have hE := Lib.hid ejk
    clear ejk
    rcases hcs with hcs | hcs
    all_goals
      go_wp2_with fail
      refine wp_loop_rounds 1 ?_
      rw [rounds_succ]
      have hstW := HS.out.kept (low_chg hbW)
      have hpcW := (hbW.cell (p := ⟨p, 0, none⟩) hpl).trans HPC.out
      have hJ := HJK.out
      generalize joinK L r j (j - j) = y at *
      have hy := hE.out
      subst hy
      have hj1 := hoW.cell 0
      have hj2 := hoW.cell 1
      simp at hj1 hj2
      have hmx : Tryz.prog.follows .mixedOrders = true := by kernel_rfl
      have hpW : p < w9.heap.size := hstW.own.lt
      have hRW : R < w9.heap.size := hoW.lt
      have hri0 : (0 : Int) ≤ (j : Int) := by omega
      have HREP := Lib.hid (show ∀ (w9 : World), St w9 p v L → Calls Tryz.prog 147 #[v, .int .i64 j, .int .i64 j, .slice (some ⟨w9.heap.size, 0, none⟩) 1 1] (w9.alloc (.cells #[.int .u64 (y.1 : Int), .int .u64 (y.2 : Int)] 86)) (RepPost (w9.alloc (.cells #[.int .u64 (y.1 : Int), .int .u64 (y.2 : Int)] 86)) 0 v (addL L y)) from fun w9 hsW => by
        have h1 := replace_any (w9.alloc (.cells #[.int .u64 (y.1 : Int), .int .u64 (y.2 : Int)] 86)) 0 v L (hsW.row.alloc _) (.slice (some ⟨w9.heap.size, 0, none⟩) 1 1) [y] 0 (Lr.lit w9 0 86 [y] (Nat.zero_le _) (by simp [maxLen])) (.inr (by
          intro e
          have := (hsW.row.lt w9.heap.size (by rw [e]; rfl)).2
          omega)) j j hij (by rw [HN.out]; exact hjn) (by rw [HN.out]; simp; omega) (Nat.zero_le _)
        rw [hJ]
        exact h1)
      rw [HV.out] at HREP
      have HSW := Lib.hid (hstW.kept ((Chg.refl [] w9).drew))
      rw [HV.out] at HSW
      clear hstW hJ 
      go_wp2_with fail
      go_region_with_o (go_at_call 147; refine (HREP.out w9.drew HSW.out).mono ?_; rintro e w3 ⟨v1, rfl, h1, h2, h3⟩; obtain ⟨a1, c1, rfl⟩ := h1.shape; have ho3 := ((HSW.out.own.alloc (.cells #[.int .u64 (y.1 : Int), .int .u64 (y.2 : Int)] 86)).grown h2 (fun e => HSW.out.apart e.symm)); have hp3 := ho3.cell 0; have hp4 := ho3.frozen 0; simp at hp3)
      all_goals go_wp2_with fail
      all_goals go_ret
      all_goals
        obtain ⟨s1, s2⟩ := st_store (HSW.out.kept ((Chg.refl [] _).alloc (.cells #[.int .u64 (y.1 : Int), .int .u64 (y.2 : Int)] 86))) h1 h2 HFIN.out.1 HFIN.out.2.1 HFIN.out.2.2
        have hw1 : Chg [] w (w9.drew.alloc (.cells #[.int .u64 (y.1 : Int), .int .u64 (y.2 : Int)] 86)) := ((low_chg hbW).drew).alloc _
        have hfin := (hw1.mono (l' := p :: rowOf v) (by simp)).then s2 (by rw [← HV.out]; exact fun x hx => .inl hx)
        have hnb := h3.mono hw1.size
        rw [← HV.out] at hnb
        show AddPost w p v L (addL L y) (cnt (addL L y) - cnt L) (.returned (.int .u64 (q : Int))) _
        exact AddPost.mk2 (x := (q : Int)) (congrArg _ HCA.out) s1 hfin hnb
  case' neg =>
    have hcs2 : (c = i) = False := by simp; omega
    clear hcs
    obtain ⟨g, off, rfl, hgl, hcl⟩ := HRO.out.rn (by rw [HN.out]; omega)
    obtain ⟨rfl, _, _, _, _⟩ := HBK.out _ _ _ rfl
    have HCL := Lib.hid hcl
    clear hcl
    go_wp2_with fail
    go_loopw [38] (fun ix wr => ∃ k : Nat, ix = .int .i64 k ∧ k ≤ j - i ∧ Own wr R 86 [.int .u64 ((joinK L r i k).1 : Int), .int .u64 ((joinK L r i k).2 : Int)] ∧ Below w.heap.size w wr) (fun ix _ => j - i - (intOf ix).toNat)
    case atStart => exact ⟨0, rfl, Nat.zero_le _, by rw [joinK_zero]; exact HO9.out, HB9.out⟩
    case round =>
      obtain ⟨k, rfl, hk, hoW, hbW⟩ := hrel
      by_cases hlt : k < j - i
      · have hL : i + k < L.length := by rw [HN.out]; omega
        have hcc := HCL.out (i + k) hL
        rw [show 0 + (i + k) * 2 = i * 2 + k * 2 by omega] at hcc
        have hx1 := (hbW.cell (p := ⟨g, i * 2 + k * 2, none⟩) hgl).trans hcc.1
        have hx2 := (hbW.cell (p := ⟨g, i * 2 + k * 2 + 1, none⟩) hgl).trans hcc.2
        have HST := Lib.hid (joinK_succ r hL)
        generalize el L (i + k) = x at hx1 hx2 HST
        have hj1 := hoW.cell 0
        have hj2 := hoW.cell 1
        simp at hj1 hj2
        have hRW := hoW.lt
        have hdt : decide (k < j - i) = true := by simpa using hlt
        have hk0 : (0 : Int) ≤ (k : Int) := by omega
        have hk1 : (k : Int) < ((j - i : Nat) : Int) := by omega
        generalize joinK L r i k = y at *
        have HJ2 := Lib.hid (fun W => rjoined_any y x W)
        clear hcc hpc
        go_wp2_with (go_at_call 153; refine (HJ2.out _).mono ?_; rintro e w2 ⟨rfl, hb2⟩; have hb2' : Below wr.heap.size wr w2 := ((Below.refl _ wr).alloc (Nat.le_refl _) _).trans (hb2.mono (by simp)); have ho2 := hoW.below hb2' hRW; have hq1 := ho2.cell 0; have hq2 := ho2.cell 1; have hq3 := ho2.frozen 0; have hq4 := ho2.frozen 1; simp at hq1 hq2; clear hb2)
        go_roundw
        case rel =>
          refine ⟨k + 1, by go_num, by omega, ?_, ?_⟩
          · rw [HST.out]; exact (ho2.set 0 (.int .u64 ((joinR y x).1 : Int))).set 1 (.int .u64 ((joinR y x).2 : Int))
          · exact ((hbW.trans (hb2'.mono hbW.size)).setCell (p := ⟨R, 0, none⟩) hRw _).setCell (p := ⟨R, 1, none⟩) hRw _
        case measure => simp [intOf]; omega
      · obtain rfl : k = j - i := by omega
        have hdt : decide (j - i < j - i) = false := by simp
        have hstW := HS.out.kept (low_chg hbW)
        have hpcW := (hbW.cell (p := ⟨p, 0, none⟩) hpl).trans HPC.out
        have hJ := HJK.out
        generalize joinK L r i (j - i) = y at *
        have hj1 := hoW.cell 0
        have hj2 := hoW.cell 1
        simp at hj1 hj2
        have hmx : Tryz.prog.follows .mixedOrders = true := by kernel_rfl
        have hpW : p < wr.heap.size := hstW.own.lt
        have hRW : R < wr.heap.size := hoW.lt
        have hri0 : (0 : Int) ≤ (i : Int) := by omega
        have HREP := Lib.hid (show ∀ (wr : World), St wr p v L → Calls Tryz.prog 147 #[v, .int .i64 i, .int .i64 j, .slice (some ⟨wr.heap.size, 0, none⟩) 1 1] (wr.alloc (.cells #[.int .u64 (y.1 : Int), .int .u64 (y.2 : Int)] 86)) (RepPost (wr.alloc (.cells #[.int .u64 (y.1 : Int), .int .u64 (y.2 : Int)] 86)) 0 v (addL L r)) from fun wr hsW => by
          have h1 := replace_any (wr.alloc (.cells #[.int .u64 (y.1 : Int), .int .u64 (y.2 : Int)] 86)) 0 v L (hsW.row.alloc _) (.slice (some ⟨wr.heap.size, 0, none⟩) 1 1) [y] 0 (Lr.lit wr 0 86 [y] (Nat.zero_le _) (by simp [maxLen])) (.inr (by
            intro e
            have := (hsW.row.lt wr.heap.size (by rw [e]; rfl)).2
            omega)) i j hij (by rw [HN.out]; exact hjn) (by rw [HN.out]; simp; omega) (Nat.zero_le _)
          rw [hJ]
          exact h1)
        rw [HV.out] at HREP
        have HSW := Lib.hid (hstW.kept ((Chg.refl [] wr).drew))
        rw [HV.out] at HSW
        clear hstW hJ 
        go_wp2_with fail
        go_region_with_o (go_at_call 147; refine (HREP.out wr.drew HSW.out).mono ?_; rintro e w3 ⟨v1, rfl, h1, h2, h3⟩; obtain ⟨a1, c1, rfl⟩ := h1.shape; have ho3 := ((HSW.out.own.alloc (.cells #[.int .u64 (y.1 : Int), .int .u64 (y.2 : Int)] 86)).grown h2 (fun e => HSW.out.apart e.symm)); have hp3 := ho3.cell 0; have hp4 := ho3.frozen 0; simp at hp3)
        all_goals go_wp2_with fail
        all_goals go_ret
        all_goals
          obtain ⟨s1, s2⟩ := st_store (HSW.out.kept ((Chg.refl [] _).alloc (.cells #[.int .u64 (y.1 : Int), .int .u64 (y.2 : Int)] 86))) h1 h2 HFIN.out.1 HFIN.out.2.1 HFIN.out.2.2
          have hw1 : Chg [] w (wr.drew.alloc (.cells #[.int .u64 (y.1 : Int), .int .u64 (y.2 : Int)] 86)) := ((low_chg hbW).drew).alloc _
          have hfin := (hw1.mono (l' := p :: rowOf v) (by simp)).then s2 (by rw [← HV.out]; exact fun x hx => .inl hx)
          have hnb := h3.mono hw1.size
          rw [← HV.out] at hnb
          show AddPost w p v L (addL L r) (cnt (addL L r) - cnt L) (.returned (.int .u64 (q : Int))) _
          exact AddPost.mk2 (x := (q : Int)) (congrArg _ HCA.out) s1 hfin hnb
end Go.Proofs.YtmpajlpemabniaaGreat
