/-
  Contract of package disk's Flush. No claim of its own.
-/
import Derived.Test.YtcadnlilijkneaaGreatGb6
import Derived.Test.YtcadnlilijkneaaGreatGb27
namespace Go.Proofs.YtcadnlilijkneaaGreat
open Go.RowKit Go.Maps Go.WideAt Go.ChangeMaps Go.MapKept Go.WideElems
set_option linter.unusedVariables false
set_option linter.unusedSimpArgs false

def mixF (F : Nat → Sec) (m : Nat → Option Sec) (left : Lit → Bool) (i : Nat) : Sec := if left (ik i) = true then F i else now F m i
structure FlAt (w0 wr : World) (p g b r n : Nat) (F : Nat → Sec) (m : Nat → Option Sec) (D : DataW Unit) (left : Lit → Bool) (cnt : Nat) : Prop where
  rg : wr.ranges Tryz.prog 3 secR b r n D left cnt
  chg : Chg [g] w0 wr
  sub : ∀ kl, left kl = true → has D kl = true
  rng : ∀ i, i < n → wr.rangeAt g (i * 64) (u8s (mixF F m left i))
  the : wr.there g 0 (n * 64)
theorem invK64 : ∀ key kl, keyOf Tryz.prog 3 key = some kl → ∃ x : Int, key = Value.int .i64 x := fun key kl h => by
  obtain ⟨x, rfl, _⟩ := Maps.keyOf_int_inv Tryz.underlying3 h; exact ⟨x, rfl⟩
theorem invVS : ∀ v y, secR v = some y → ∃ S : {S : Sec // S.length = 64}, v = sv S.1 := fun v y h => by
  obtain ⟨S, hS, rfl, _⟩ := secR_inv h; exact ⟨⟨S, hS⟩, rfl⟩
theorem mixF_len {w : World} {p g b n : Nat} {F : Nat → Sec} {m : Nat → Option Sec} (hd : Dsk w p g b n F m) (left : Lit → Bool) (i : Nat) : (mixF F m left i).length = 64 := by
  unfold mixF
  split
  · exact hd.lenF i
  · exact hd.lenN i
theorem flAt_start {w w0 : World} {p g b n : Nat} {F : Nat → Sec} {m : Nat → Option Sec} {D : DataW Unit} (hd : Dsk w p g b n F m) (hm : MapOf m D) (hrg : w0.ranges Tryz.prog 3 secR b w.heap.size n D (has D) (size D)) (hg : w.grownBy w0 none) : FlAt w w0 p g b w.heap.size n F m D (has D) (size D) := by
  have hc : Chg [g] w w0 := (Chg.refl [g] w).grown hg (by simp)
  have hc0 : Chg [] w w0 := (Chg.refl [] w).grown hg (by simp)
  refine ⟨hrg, hc, fun _ h => h, fun i hi => ?_, hc0.there hd.the (by simp)⟩
  have e : mixF F m (has D) i = F i := by
    unfold mixF
    split
    · rfl
    · rename_i h
      cases hmi : m i with
      | none => simp [now, hmi]
      | some S => exact absurd (hm.some_ i S hmi).1 h
  rw [e]
  exact hc0.range (hd.rng i hi) (by simp)
theorem flAt_step {w wr w1 w2 : World} {p g b r n : Nat} {F : Nat → Sec} {m : Nat → Option Sec} {D : DataW Unit} {left : Lit → Bool} {cnt cnt1 x : Nat} {S : Sec} (hd : Dsk w p g b n F m) (h : FlAt w wr p g b r n F m D left cnt) (hr : w.heap.size ≤ r) (hx : x < n) (hS : m x = some S)
    (hrg : w1.ranges Tryz.prog 3 secR b r n D (fun z => left z && !z.sameKey (ik x)) cnt1) (hg1 : wr.grownBy w1 (some r)) (hc : Chg [] w1 w2) (hgr : g ≠ r) :
    FlAt w (w2.setCells g (x * 64) (u8s S)) p g b r n F m D (fun z => left z && !z.sameKey (ik x)) cnt1 := by
  have hSl : S.length = 64 := (hd.lenM x S hS).1
  have hC1 : Chg [r] wr w1 := (Chg.refl [r] wr).grown hg1 (by simp)
  have hC2 : Chg [r] wr w2 := hC1.then hc (by simp)
  have hgb := hd.gb
  have hCs : Chg [g] w1 (w2.setCells g (x * 64) (u8s S)) := (hc.mono (by simp)).setCells (by simp) _ _
  have hrlt := h.rg.lt
  have hblt := hd.ltb
  have htw : w2.there g (x * 64) 64 := fun j hj => by
    have := hC2.there h.the (by simp; exact hgr) (x * 64 + j) (by omega)
    simpa using this
  refine ⟨?_, ?_, fun kl hkl => h.sub kl (by simp only [Bool.and_eq_true] at hkl; exact hkl.1), fun i hi => ?_, ?_⟩
  · exact hrg.kept (Chg.grownBy hCs) (by simp; exact fun e => hgb e.symm) (by simp; exact fun e => hgr e.symm)
  · have h2 : Chg [g] w w2 := h.chg.then hC2 (by simp; exact .inr hr)
    exact h2.setCells (by simp) _ _
  · by_cases e : i = x
    · subst e
      have e2 : mixF F m (fun z => left z && !z.sameKey (ik i)) i = S := by
        unfold mixF
        rw [if_neg (by simp [WideAt.sameKey_self (ik_isKey i)])]
        simp [now, hS]
      rw [e2]
      exact World.rangeAt_setCells_same _ _ _ _ (by rw [u8s_length, hSl]; exact htw)
    · have e2 : mixF F m (fun z => left z && !z.sameKey (ik x)) i = mixF F m left i := by
        unfold mixF
        have : (ik i).sameKey (ik x) = false := sameKey_ne (fun e3 => e (ik_inj e3))
        simp only [this, Bool.not_false, Bool.and_true]
      rw [e2]
      refine World.rangeAt_setCells_apart (hC2.range (h.rng i hi) (by simp; exact hgr)) _ _ _ (.inr ?_)
      rw [u8s_length, u8s_length, mixF_len hd, hSl]
      omega
  · exact World.there_setCells (hC2.there h.the (by simp; exact hgr)) _ _ _
theorem flAt_end {w wr w2 : World} {p g b r n : Nat} {F : Nat → Sec} {m : Nat → Option Sec} {D : DataW Unit} {left : Lit → Bool} {cnt : Nat} (hd : Dsk w p g b n F m) (h : FlAt w wr p g b r n F m D left cnt) (hl : ∀ kl, left kl = false)
    (ho : w2.ownsMap Tryz.prog 3 secR b 0 (.map [])) (hc : Chg [b] wr w2) : Dsk w2 p g b n (now F m) (fun _ => none) ∧ Chg [g, b] w w2 := by
  have hC : Chg [g, b] w w2 := (h.chg.mono (by simp)).then hc (by simp)
  obtain ⟨c, hf⟩ := hd.flu
  refine ⟨⟨⟨c, hC.cell hf (by simp; exact ⟨hd.pg, hd.pb⟩)⟩, hC.cell hd.dir (by simp; exact ⟨hd.pg, hd.pb⟩), hd.one, hd.top, hd.lenN, (fun i S h => by cases h), fun i hi => ?_, hc.there h.the (by simp; exact hd.gb), ⟨.map [], ho.mono (Nat.zero_le _), MapOf.empty⟩, hd.pg, hd.pb, hd.gb⟩, hC⟩
  have := h.rng i hi
  unfold mixF at this
  rw [if_neg (by simp [hl])] at this
  exact hc.range this (by simp; exact hd.gb)
set_option maxRecDepth 100000 in
theorem flush_ok (w : World) {p g b n : Nat} {F : Nat → Sec} {m : Nat → Option Sec} (hd : Dsk w p g b n F m) :
    Calls Tryz.prog 244 #[.pointer (some ⟨p, 0, none⟩)] w fun e w' => e = .returned (.int .i64 0) ∧ Dsk w' p g b n (now F m) (fun _ => none) ∧ Chg [g, b] w w' := by
  obtain ⟨D, ho, hm⟩ := hd.own
  obtain ⟨c, hflu⟩ := hd.flu
  have hdir := hd.dir
  have ht := hd.top
  have hgw := hd.ltg
  have HD := Lib.hid hd
  have HM := Lib.hid hm
  clear hm hd
  go_enter Tryz.func244, Tryz.ntmps244
  go_wp2_with (first
    | (at_range; refine wpList_range_own _ rfl _ 185 rfl 3 107 intkey Tryz.underlying185 _ b n _ rfl ho ?_; intro w0 hrg0 hg0 hs0)
    | go_in)
  go_frame
  go_loopw [3] (fun _ wr => ∃ (left : Lit → Bool) (cnt : Nat), FlAt w wr p g b w.heap.size n F m D left cnt) (fun _ wr => wr.rangeLeft b w.heap.size)
  case atStart =>
    exact ⟨_, _, flAt_start HD.out HM.out hrg0 hg0⟩
  case round =>
    obtain ⟨left, cnt, hR⟩ := hrel
    have hrg := hR.rg
    have hdirR := hR.chg.cell hdir (by simp; exact HD.out.pg)
    have hfluR := hR.chg.cell hflu (by simp; exact HD.out.pg)
    clear hrg0 hg0 hs0
    go_wp2_with (first
      | (at_next; refine wpList_next_ranges _ rfl _ rfl 3 intkey secR (Value.int .i64) (fun S : {S : Sec // S.length = 64} => sv S.1) invK64 invVS b w.heap.size n _ _ _ rfl hrg ?_ ?_)
      | go_in)
    · intro hc0 hl0
      obtain ⟨w2, hclr, ho2, hc2⟩ := owns_clear 185 Tryz.underlying185 hrg.owns 0
      have HE := Lib.hid (flAt_end HD.out hR hl0 ho2 hc2)
      clear ho2 hc2 hl0 hR
      go_wp2
      go_ret
      exact ⟨rfl, HE.out⟩
    · intro x S hSl kl y py w1 cnt1 hkey hlk hv hat hrg1 hlt hg1 hs1 hen
      obtain ⟨j, rfl, rfl, hmj, hj⟩ : ∃ j : Nat, x = (j : Int) ∧ kl = ik j ∧ m j = some S ∧ j < n := by
        obtain ⟨j, rfl⟩ := HM.out.keys kl (hR.sub kl hlk)
        obtain ⟨x', ex, ek, _⟩ := Maps.keyOf_int_inv Tryz.underlying3 hkey
        simp only [Value.int.injEq, true_and] at ex
        subst ex
        have ex2 : x = (j : Int) := by simp only [ik, Lit.int.injEq, true_and] at ek; exact ek.symm
        refine ⟨j, ex2, rfl, ?_⟩
        cases hmj : m j with
        | none => have := hR.sub _ hlk; rw [HM.out.none_ j hmj] at this; cases this
        | some T =>
          have h1 := (HM.out.some_ j T hmj).2 .nil
          rw [hat, ] at h1
          rw [secR_sv hSl] at hv
          simp only [Option.some.injEq, Prod.mk.injEq] at hv
          rw [← hv.1] at h1
          exact ⟨by rw [secD_inj h1], (HD.out.lenM j T hmj).2⟩
      have hT := there_box w1 zsec 107 zsec_len
      obtain ⟨w2, hw2⟩ : ∃ w2, w2 = (w1.alloc (.cells (u8s zsec).toArray 107)).setCells w1.heap.size 0 (u8s S) := ⟨_, rfl⟩
      have hC2 : Chg [] w1 w2 := by rw [hw2]; exact ((Chg.refl [] w1).alloc _).setCells (Or.inr (Nat.le_refl _)) _ _
      have hC2d : Chg [] w1 w2.drew := hC2.drew
      have hr2 : w2.rangeAt w1.heap.size 0 (u8s S) := by rw [hw2]; exact World.rangeAt_setCells_same _ _ _ _ (by rw [u8s_length, hSl]; exact hT)
      have HS := Lib.hid (flAt_step HD.out hR (Nat.le_refl _) hj hmj hrg1 hg1 hC2d (by omega))
      have hC1 : Chg [w.heap.size] wr w2 := ((Chg.refl [w.heap.size] wr).grown hg1 (by simp)).then hC2 (by simp)
      have hplt := HD.out.ltp
      have hflu2 : w2.drew.cell? ⟨p, 0, none⟩ = some (.slice (some ⟨g, 0, none⟩) n c) := by simpa using hC1.cell hfluR (by simp; omega)
      have hT2 : w2.drew.there g (j * 64) 64 := fun k hk => by
        have := hC1.drew.there hR.the (by simp; omega) (j * 64 + k) (by omega)
        simpa using this
      have hr2d : w2.drew.rangeAt w1.heap.size 0 (u8s S) := (World.rangeAt_drew _ _ _ _).2 hr2
      have hCs : Chg [w.heap.size, g] wr (w2.drew.setCells g (j * 64) (u8s S)) := ((hC1.drew.mono (by simp)).setCells (by simp) _ _)
      have hflu3 : (w2.drew.setCells g (j * 64) (u8s S)).cell? ⟨p, 0, none⟩ = some (.slice (some ⟨g, 0, none⟩) n c) := hCs.cell hfluR (by simp; exact ⟨by omega, HD.out.pg⟩)
      have hT3 : (w2.drew.setCells g (j * 64) (u8s S)).there g (j * 64) 64 := World.there_setCells hT2 _ _ _
      have hszw := hR.chg.size
      have hr3 : (w2.drew.setCells g (j * 64) (u8s S)).rangeAt w1.heap.size 0 (u8s S) := World.rangeAt_setCells_apart hr2d _ _ _ (.inl (by omega))
      have hj0 : (0 : Int) ≤ (j : Int) := by omega
      have hj1 : (j : Int) < (n : Int) := by omega
      have hSl2 : (u8s S).length = 64 := by rw [u8s_length, hSl]
      have hT2' : w2.drew.there g (j * 64) (u8s S).length := by rw [hSl2]; exact hT2
      have hT3' : (w2.drew.setCells g (j * 64) (u8s S)).there g (j * 64) (u8s S).length := by rw [hSl2]; exact hT3
      have hu := Tryz.underlying107
      have hinf : (Tryz.prog.info? 107).map (·.size) = some (u8s S).length := by rw [u8s_length, hSl]; exact info37
      have hone := u8s_one S
      clear hSl2
      have HM2 := Lib.hid (show (w2.drew.setCells g (j * 64) (u8s S)).rangeLeft b w.heap.size < wr.rangeLeft b w.heap.size by rw [HS.out.rg.left_eq, hrg.left_eq]; exact hlt)
      have HW2 := Lib.hid hw2.symm
      clear hw2 hat hrg1 hkey hmj hlk hg1 hv hR hrg hC1 hCs hC2 hC2d ho hs1
      go_wp2_with (first
        | (refine wpList_alloc37 rfl rfl ?_)
        | (refine wpList_store37 rfl _ _ rfl w1.heap.size 0 S rfl rfl hT hSl ?_; rw [HW2.out])
        | fail)
      go_region_held3 (fun w' => w'.cell? ⟨p, 0, none⟩ = some (.slice (some ⟨g, 0, none⟩) n c) ∧ w'.rangeAt w1.heap.size 0 (u8s S) ∧ w'.there g (j * 64) (u8s S).length) (first | assumption | (exact ⟨hflu2, hr2d, hT2'⟩) | (exact ⟨hflu3, hr3, hT3'⟩)) (fail)
      go_wp2
      go_roundw
      case rel => exact ⟨_, cnt1, HS.out⟩
      case measure => exact HM2.out
end Go.Proofs.YtcadnlilijkneaaGreat
namespace Go.Proofs.YtcadnlilijkneaaGreat
open Go.RowKit Go.Shelf Go.Deep Go.Maps
set_option linter.unusedVariables false
set_option linter.unusedSimpArgs false

section
variable {w : World} {l : List Nat} {q p n h h' : Nat} {L L' : List Rec} {k : Nat} {vF vE vF' vE' : Value}
set_option maxHeartbeats 4000000 in
set_option maxRecDepth 100000 in
theorem writeSuper_any {g b : Nat} {F : Nat → Sec} {m : Nat → Option Sec} (t : TpV w l q p n h h' L L' k vF vE vF' vE') (hd : Dsk w p g b n F m) (hbl : b ∉ l) :
    Calls Tryz.prog 245 #[.pointer (some ⟨q, 0, none⟩)] w fun e w' => e = .returned (.int .i64 0) ∧ Hid (Dsk w' p g b n F (upd m 0 (supS h' L'.length (frs L').length))) ∧ Chg [b] w w' := by
  have hn := hd.top
  have hn1 := hd.one
  have hle := t.len_le hn
  have hh' := t.half'
  obtain ⟨aF', cF', rfl⟩ := t.fr'.sl8
  obtain ⟨aE', cE', rfl⟩ := t.en'.slE
  obtain ⟨N, HN⟩ : ∃ N, Hid ((frs L').length = N) := ⟨_, Lib.hid rfl⟩
  obtain ⟨NL, HNL⟩ : ∃ N, Hid (L'.length = N) := ⟨_, Lib.hid rfl⟩
  rw [HN.out, HNL.out] at t hle ⊢
  have hbq : q ≠ b := fun e => hbl (by rw [← e]; exact t.memq)
  have c0 := t.own.cell 0
  have c4 := t.own.cell 4
  have c5 := t.own.cell 5
  have c6 := t.own.cell 6
  simp at c0 c4 c5 c6
  have HC := Lib.hid (And.intro c0 (And.intro c4 (And.intro c5 c6)))
  obtain ⟨T, HTT⟩ : ∃ T, Hid (supS h' NL N = T) := ⟨_, Lib.hid rfl⟩
  have hSU := fun W => super_any W h' aF' aE' N cF' NL cE' hh' (by omega) (by omega)
  have hSC := fun W => sector_any W h' NL N (by omega) (by omega) (by omega)
  have hWR : ∀ W6, Chg [] w W6 → Calls Tryz.prog 275 #[.pointer (some ⟨p, 0, none⟩), .int .i64 0, sv T] W6 fun e w' => e = .returned (.int .i64 0) ∧ Hid (Dsk w' p g b n F (upd m 0 T)) ∧ Chg [b] W6 w' := fun W6 hc6 => by
    have h6 := write_ok W6 (hd.kept hc6) 0 (by omega) T (by rw [← HTT.out]; exact supS_len _ _ _)
    exact h6.mono fun e w' h => ⟨h.1, Lib.hid h.2.1, h.2.2⟩
  simp only [HTT.out] at hSC ⊢
  have HSU := Lib.hid hSU
  have HSC := Lib.hid hSC
  have HWR := Lib.hid hWR
  clear t hd hbl c0 c4 c5 c6 hSU hSC hWR
  go_enter Tryz.func245, Tryz.ntmps245
  go_wp2_with fail
  refine wp_region_held_drew (S := (fun w' => w'.cell? ⟨q, 0, none⟩ = some (.pointer (some ⟨p, 0, none⟩)) ∧ w'.cell? ⟨q, 4, none⟩ = some (.int .i64 (h' : Int)) ∧ w'.cell? ⟨q, 5, none⟩ = some (.slice aF' N cF') ∧ w'.cell? ⟨q, 6, none⟩ = some (.slice aE' NL cE'))) (by kernel_rfl) HC.out (fun hHeld => ?_)
  refine wpAnyH_take (i := 0) (v := ?_) rfl (by kernel_rfl) (by kernel_rfl) (by kernel_rfl) (fun _ _ _ h => h) (Or.inl ⟨by kernel_rfl, ?_⟩) hHeld ?_
  rotate_left
  · (intro w hSw; first | (go_simp; done) | (go_simp; with_reducible rfl))
  (try simp only [Act.put, List.getElem_toArray, List.getElem_cons_succ, List.getElem_cons_zero, List.setIfInBounds_toArray, List.set_cons_zero, List.set_cons_succ])
  refine wpAnyH_take (i := 1) (v := ?_) rfl (by kernel_rfl) (by kernel_rfl) (by kernel_rfl) (fun _ _ _ h => h) (Or.inl ⟨by kernel_rfl, ?_⟩) hHeld ?_
  rotate_left
  · (intro w hSw; first | (go_simp; done) | (go_simp; with_reducible rfl))
  (try simp only [Act.put, List.getElem_toArray, List.getElem_cons_succ, List.getElem_cons_zero, List.setIfInBounds_toArray, List.set_cons_zero, List.set_cons_succ])
  refine wpAnyH_take (i := 2) (v := ?_) rfl (by kernel_rfl) (by kernel_rfl) (by kernel_rfl) (fun _ _ _ h => h) (Or.inl ⟨by kernel_rfl, ?_⟩) hHeld ?_
  rotate_left
  · (intro w hSw; first | (go_simp; done) | (go_simp; with_reducible rfl))
  (try simp only [Act.put, List.getElem_toArray, List.getElem_cons_succ, List.getElem_cons_zero, List.setIfInBounds_toArray, List.set_cons_zero, List.set_cons_succ])
  refine wpAnyH_take (i := 3) (v := ?_) rfl (by kernel_rfl) (by kernel_rfl) (by kernel_rfl) (fun _ _ _ h => h) (Or.inl ⟨by kernel_rfl, ?_⟩) hHeld ?_
  rotate_left
  · (intro w hSw; first | (go_simp; done) | (go_simp; with_reducible rfl))
  (try simp only [Act.put, List.getElem_toArray, List.getElem_cons_succ, List.getElem_cons_zero, List.setIfInBounds_toArray, List.set_cons_zero, List.set_cons_succ])
  refine wpAnyH_take (i := 4) (v := ?_) rfl (by kernel_rfl) (by kernel_rfl) (by kernel_rfl) (fun _ _ _ h => h) (Or.inl ⟨by kernel_rfl, ?_⟩) hHeld ?_
  rotate_left
  · (intro w hSw; first | (go_simp; done) | (go_simp; with_reducible rfl))
  (try simp only [Act.put, List.getElem_toArray, List.getElem_cons_succ, List.getElem_cons_zero, List.setIfInBounds_toArray, List.set_cons_zero, List.set_cons_succ])
  refine wpAnyH_take (i := 5) (v := ?_) rfl (by kernel_rfl) (by kernel_rfl) (by kernel_rfl) (fun _ _ _ h => h) (Or.inl ⟨by kernel_rfl, ?_⟩) hHeld ?_
  rotate_left
  · (intro w hSw; first | (go_simp; done) | (go_simp; with_reducible rfl))
  (try simp only [Act.put, List.getElem_toArray, List.getElem_cons_succ, List.getElem_cons_zero, List.setIfInBounds_toArray, List.set_cons_zero, List.set_cons_succ])
  refine wpAnyH_take (i := 6) (v := ?_) rfl (by kernel_rfl) (by kernel_rfl) (by kernel_rfl) (fun _ _ _ h => h) (Or.inl ⟨by kernel_rfl, ?_⟩) hHeld ?_
  rotate_left
  · (intro w hSw; first | (go_simp; done) | (go_simp; with_reducible rfl))
  (try simp only [Act.put, List.getElem_toArray, List.getElem_cons_succ, List.getElem_cons_zero, List.setIfInBounds_toArray, List.set_cons_zero, List.set_cons_succ])
  refine wpAnyH_take (i := 7) (v := ?_) rfl (by kernel_rfl) (by kernel_rfl) (by kernel_rfl) (fun _ _ _ h => h) (Or.inl ⟨by kernel_rfl, ?_⟩) hHeld ?_
  rotate_left
  · (intro w hSw; first | (go_simp; done) | (go_simp; with_reducible rfl))
  (try simp only [Act.put, List.getElem_toArray, List.getElem_cons_succ, List.getElem_cons_zero, List.setIfInBounds_toArray, List.set_cons_zero, List.set_cons_succ])
  refine wpAnyH_ready (rs := [8]) (by kernel_rfl) (by simp) (AllReadyH.cons rfl (fun K hK => ?_) AllReadyH.nil)
  have hH := hHeld
  (go_simp; go_at_call 121; refine (HSU.out _).mono ?_; rintro e w7 ⟨rfl, hc7⟩)
  refine hK.out _ _ (by exact ⟨hc7.cell hH.1 (by simp), hc7.cell hH.2.1 (by simp), hc7.cell hH.2.2.1 (by simp), hc7.cell hH.2.2.2 (by simp)⟩) (fun hHq1 => ?_)
  clear hK K hH 
  (try simp only [Act.put, List.getElem_toArray, List.getElem_cons_succ, List.getElem_cons_zero, List.setIfInBounds_toArray, List.set_cons_zero, List.set_cons_succ])
  refine wpAnyH_ready (rs := [9]) (by kernel_rfl) (by simp) (AllReadyH.cons rfl (fun K hK => ?_) AllReadyH.nil)
  have hH := hHq1
  (go_simp; go_at_call 177; refine (HSC.out _).mono ?_; rintro e w8 ⟨rfl, hc8⟩)
  refine hK.out _ _ (by exact ⟨hc8.cell hH.1 (by simp), hc8.cell hH.2.1 (by simp), hc8.cell hH.2.2.1 (by simp), hc8.cell hH.2.2.2 (by simp)⟩) (fun hHq2 => ?_)
  clear hK K hH hHq1
  (try simp only [Act.put, List.getElem_toArray, List.getElem_cons_succ, List.getElem_cons_zero, List.setIfInBounds_toArray, List.set_cons_zero, List.set_cons_succ])
  refine wpAnyH_ready (rs := [10]) (by kernel_rfl) (by simp) (AllReadyH.cons rfl (fun K hK => ?_) AllReadyH.nil)
  have hH := hHq2
  (go_simp; go_at_call 275; refine (HWR.out _ ((((Chg.refl [] w).drew).trans hc7).trans hc8)).mono ?_; rintro e w9 ⟨rfl, hd9, hc9⟩)
  refine hK.out _ _ (by exact ⟨hc9.cell hH.1 (by simpa using hbq), hc9.cell hH.2.1 (by simpa using hbq), hc9.cell hH.2.2.1 (by simpa using hbq), hc9.cell hH.2.2.2 (by simpa using hbq)⟩) (fun hHq3 => ?_)
  clear hK K hH hHq2
  (try simp only [Act.put, List.getElem_toArray, List.getElem_cons_succ, List.getElem_cons_zero, List.setIfInBounds_toArray, List.set_cons_zero, List.set_cons_succ])
  refine wpAnyH_take (i := 11) (v := ?_) rfl (by kernel_rfl) (by kernel_rfl) (by kernel_rfl) (fun _ _ _ h => h) (Or.inl ⟨by kernel_rfl, ?_⟩) hHq3 ?_
  rotate_left
  · (intro w hSw; first | (go_simp; done) | (go_simp; with_reducible rfl))
  (try simp only [Act.put, List.getElem_toArray, List.getElem_cons_succ, List.getElem_cons_zero, List.setIfInBounds_toArray, List.set_cons_zero, List.set_cons_succ])
  refine wpAnyH_done (by kernel_rfl) ?_ _
  have hEnd := hHq3
  clear hEnd hHeld hHq3
  go_wp2_with fail
  go_ret
  exact ⟨rfl, hd9, (((((Chg.refl [] w).drew).trans hc7).trans hc8).mono (by simp)).trans hc9⟩
theorem TpV.ne_p {g b : Nat} {F : Nat → Sec} {m : Nat → Option Sec} (t : TpV w l q p n h h' L L' k vF vE vF' vE') (hd : Dsk w p g b n F m) : q ≠ p := by
  rintro rfl
  obtain ⟨c, hc⟩ := hd.flu
  have h1 := t.own.cell 0
  rw [hc] at h1
  simp at h1
theorem settle_any {g b : Nat} {F : Nat → Sec} {m : Nat → Option Sec} (t : TpV w l q p n h h' L L' k vF vE vF' vE') (hd : Dsk w p g b n F m) (hbl : b ∉ l) (hgl : g ∉ l) :
    Calls Tryz.prog 246 #[.pointer (some ⟨q, 0, none⟩)] w fun e w' => e = .returned (.int .i64 0) ∧ Hid (Dsk w' p g b n (now F m) (fun _ => none) ∧ Own w' q 215 [.pointer (some ⟨p, 0, none⟩), .int .i64 (h' : Int), vF', vE', .int .i64 (h' : Int), vF', vE', .int .i64 (k : Int)] ∧ ∃ w1, Chg [g, b] w w1 ∧ Chg [q] w1 w') := by
  have hq0 := t.own.cell 0
  simp at hq0
  have HF := Lib.hid (flush_ok w hd)
  have HT := Lib.hid t
  have hqp := t.ne_p hd
  obtain ⟨aF', cF', rfl⟩ := t.fr'.sl8
  obtain ⟨aE', cE', rfl⟩ := t.en'.slE
  have HL := Lib.hid (And.intro hbl hgl)
  clear t hd hbl hgl
  go_enter Tryz.func246, Tryz.ntmps246
  go_wp2_with fail
  refine HF.out.mono ?_
  rintro e w2 ⟨rfl, hd2, hc2⟩
  have hqg : q ∉ [g, b] := fun hm => by
    have h1 := HT.out.memq
    simp at hm
    rcases hm with rfl | rfl
    · exact HL.out.2 h1
    · exact HL.out.1 h1
  have ho2 := HT.out.own.chg hc2 hqg
  have c1 := ho2.cell 1
  have c2 := ho2.cell 2
  have c3 := ho2.cell 3
  have c4 := ho2.cell 4
  have c5 := ho2.cell 5
  have c6 := ho2.cell 6
  have f1 := ho2.frozen 1
  have f2 := ho2.frozen 2
  have f3 := ho2.frozen 3
  simp at c1 c2 c3 c4 c5 c6
  have HO := Lib.hid ho2
  have HD2 := Lib.hid (And.intro hd2 (And.intro hc2 (And.intro hqp hqg)))
  clear ho2 hd2 hc2 hqg hq0 hqp
  go_wp2_with fail
  go_ret
  obtain ⟨hd2, hc2, hqp, hqg⟩ := HD2.out
  simp at hqg
  have hcq : Chg [q] w2 _ := ((((Chg.refl [q] w2).setCell (p := ⟨q, 1, none⟩) (by simp) (.int .i64 (h' : Int))).setCell (p := ⟨q, 2, none⟩) (by simp) (.slice aF' (frs L').length cF')).setCell (p := ⟨q, 3, none⟩) (by simp) (.slice aE' L'.length cE'))
  exact ⟨rfl, Lib.hid ⟨hd2.keep hcq (by simpa using fun e => hqp e.symm) (by simpa using fun e => hqg.1 e.symm) (by simpa using fun e => hqg.2 e.symm), ((HO.out.set 1 _).set 2 _).set 3 _, w2, hc2, hcq⟩⟩
def mv (f x : Nat) : Value := .func (.func f) #[.pointer (some ⟨x, 0, none⟩)] #[]
theorem steps_any (t : TpV w l q p n h h' L L' k vF vE vF' vE') :
    Calls Tryz.prog 201 #[.pointer (some ⟨q, 0, none⟩)] w fun e w' => e = .returned (.slice (some ⟨w.heap.size, 0, none⟩) 4 4) ∧ w' = w.alloc (.cells #[mv 243 q, mv 244 p, mv 245 q, mv 246 q] 54) := by
  have hq0 := t.own.cell 0
  simp at hq0
  clear t
  unfold mv
  go_enter Tryz.func201, Tryz.ntmps201
  go_wp2
  go_ret
  exact ⟨rfl, rfl⟩
end
end Go.Proofs.YtcadnlilijkneaaGreat
namespace Go.Proofs.YtcadnlilijkneaaGreat
open Go.RowKit Go.Shelf Go.Deep Go.Maps
set_option linter.unusedVariables false
set_option linter.unusedSimpArgs false

def idle (h h' : Nat) (L L' : List Rec) : Prop := h = h' ∧ L'.length = L.length
instance (h h' : Nat) (L L' : List Rec) : Decidable (idle h h' L L') := by unfold idle; infer_instance
section
variable {w : World} {l : List Nat} {q p n h h' : Nat} {L L' : List Rec} {k : Nat} {vF vE vF' vE' : Value}
theorem TpV.tick {W : World} {k' : Nat} (t : TpV w l q p n h h' L L' k vF vE vF' vE') (hW : Chg [q] w W)
    (ho : Own W q 215 [.pointer (some ⟨p, 0, none⟩), .int .i64 (h : Int), vF, vE, .int .i64 (h' : Int), vF', vE', .int .i64 (k' : Int)]) (hk : k' ≤ 3) (hb : ¬ idle h h' L L') : TpV W l q p n h h' L L' k' vF vE vF' vE' :=
  have h8 : ∀ u zs, Lst w 0 5 u zs → Lst W 0 5 u zs := fun u zs hu => hu.other hW (fun g hg _ => by simp at hg; subst hg; exact ⟨_, _, _, t.own, ne_tp_u8⟩)
  have hI : ∀ u zs, Lst w 0 3 u zs → Lst W 0 3 u zs := fun u zs hu => hu.other hW (fun g hg _ => by simp at hg; subst hg; exact ⟨_, _, _, t.own, ne_tp_int⟩)
  ⟨ho, h8 _ _ t.fr, hI _ _ t.en, h8 _ _ t.fr', hI _ _ t.en', t.alF, t.alE, t.memq, t.memv, t.half, t.half', hk, t.ok, t.ok', t.room, t.room', t.pre, fun _ => by
    by_cases e : h = h'
    · right
      obtain ⟨W2, hW2⟩ := t.pre e
      have h1 : L'.length = L.length + W2.length := by rw [hW2, List.length_append]
      have h2 : L'.length ≠ L.length := fun h3 => hb ⟨e, h3⟩
      omega
    · exact .inl e⟩
theorem TpV.settled {w1 w2 W : World} {m : List Nat} (t : TpV w l q p n h h' L L' k vF vE vF' vE') (h1 : Chg m w w1) (hm : ∀ x ∈ m, x ∉ l) (h2 : Chg [q] w1 w2) (h3 : Chg [q] w2 W)
    (ho : Own W q 215 [.pointer (some ⟨p, 0, none⟩), .int .i64 (h' : Int), vF', vE', .int .i64 (h' : Int), vF', vE', .int .i64 ((0 : Nat) : Int)]) : TpV W l q p n h' h' L' L' 0 vF' vE' vF' vE' :=
  have t1 := t.chg h1 hm
  have hW : Chg [q] w1 W := h2.trans h3
  have h8 : ∀ u zs, Lst w1 0 5 u zs → Lst W 0 5 u zs := fun u zs hu => hu.other hW (fun g hg _ => by simp at hg; subst hg; exact ⟨_, _, _, t1.own, ne_tp_u8⟩)
  have hI : ∀ u zs, Lst w1 0 3 u zs → Lst W 0 3 u zs := fun u zs hu => hu.other hW (fun g hg _ => by simp at hg; subst hg; exact ⟨_, _, _, t1.own, ne_tp_int⟩)
  ⟨ho, h8 _ _ t1.fr', hI _ _ t1.en', h8 _ _ t1.fr', hI _ _ t1.en', fun _ _ _ => Nat.le_refl _, fun _ _ _ => Nat.le_refl _, t.memq, fun x hx => t.memv x (by
    rcases hx with hx | hx | hx | hx
    · exact .inr (.inr (.inl hx))
    · exact .inr (.inr (.inr hx))
    · exact .inr (.inr (.inl hx))
    · exact .inr (.inr (.inr hx))), t.half', t.half', by omega, t.ok', t.ok', t.room', t.room', fun _ => ⟨[], by simp⟩, fun e => by omega⟩
theorem steps_cells (t : TpV w l q p n h h' L L' k vF vE vF' vE') :
    Calls Tryz.prog 201 #[.pointer (some ⟨q, 0, none⟩)] w fun e w' => ∃ s, e = .returned (.slice (some ⟨s, 0, none⟩) 4 4) ∧ w.heap.size ≤ s ∧ Hid (Own w' s 54 [mv 243 q, mv 244 p, mv 245 q, mv 246 q]) ∧ Chg [] w w' :=
  (steps_any t).mono fun e w' ⟨he, hw⟩ => by
    subst hw
    exact ⟨_, he, Nat.le_refl _, Lib.hid (Own.new w _ [_, _, _, _]), (Chg.refl [] w).alloc _⟩
set_option maxHeartbeats 1000000 in
theorem step_idle (t : TpV w l q p n h h' L L' k vF vE vF' vE') (hn : n ≤ 1024) (hi : idle h h' L L') :
    Calls Tryz.prog 146 #[.pointer (some ⟨q, 0, none⟩)] w fun e w' => e = .returned (.tuple #[.bool true, .int .i64 0]) ∧ Chg [] w w' := by
  have hr := replacing_any t
  rw [decide_eq_false (show ¬ h ≠ h' from fun x => x hi.1)] at hr
  have HR := Lib.hid hr
  have hw := fun W (hW : Chg [] w W) => waiting_tape (t.kept hW) hn
  have e0 : waitN h h' L L' = 0 := by unfold waitN; rw [if_pos hi.1, hi.2]; omega
  simp only [e0] at hw
  have HW := Lib.hid hw
  clear t hr hw hi e0
  go_enter Tryz.func146, Tryz.ntmps146
  go_wp2_with (first
    | (go_at_call 142; refine HR.out.mono ?_; rintro e w1 ⟨rfl, hq1⟩; have HC1 := Lib.hid ((Chg.refl [] w).qt hq1); clear hq1)
    | (go_at_call 200; refine (HW.out _ HC1.out).mono ?_; rintro e w2 ⟨rfl, hc2⟩; have HC2 := Lib.hid (HC1.out.trans hc2); clear hc2)
    | fail)
  go_ret2
  exact ⟨rfl, HC2.out⟩
set_option maxHeartbeats 2000000 in
set_option maxRecDepth 100000 in
theorem step_0 {g b : Nat} {F : Nat → Sec} {m : Nat → Option Sec} (t : TpV w l q p n h h' L L' 0 vF vE vF' vE') (hd : Dsk w p g b n F m) (hbl : b ∉ l) (hgl : g ∉ l) (hi : ¬ idle h h' L L') :
    Calls Tryz.prog 146 #[.pointer (some ⟨q, 0, none⟩)] w fun e w' => e = .returned (.tuple #[.bool false, .int .i64 0]) ∧ Hid (Dsk w' p g b n F (wfM n h h' L L' m) ∧ TpV w' l q p n h h' L L' 1 vF vE vF' vE') ∧ Chg (l ++ [g, b]) w w' := by
  have hn := hd.top
  have hqp := t.ne_p hd
  have HBL := Lib.hid (And.intro hbl hgl)
  have HT := Lib.hid t
  have HD := Lib.hid hd
  have HI := Lib.hid hi
  have hw := fun W (hW : Chg [] w W) => waiting_tape (t.kept hW) hn
  have HS := Lib.hid (fun W (hW : Chg [] w W) => steps_cells (t.kept hW))
  have hr := replacing_any t
  have hqm : q ∈ l := t.memq
  have hqg : q ≠ g := fun e => hgl (e ▸ hqm)
  have hqb : q ≠ b := fun e => hbl (e ▸ hqm)
  have HQ := Lib.hid (And.intro hqp (And.intro hqg hqb))
  obtain ⟨x, HX⟩ : ∃ x, Hid (waitN h h' L L' = x) := ⟨_, Lib.hid rfl⟩
  simp only [HX.out] at hw
  have HW := Lib.hid hw
  have HX0 := Lib.hid (show h = h' → 0 < x from fun e => by
    rw [← HX.out]
    unfold waitN
    rw [if_pos e]
    obtain ⟨W2, hW2⟩ := t.pre e
    have h1 : L'.length = L.length + W2.length := by rw [hW2, List.length_append]
    have h2 : L'.length ≠ L.length := fun h3 => hi ⟨e, h3⟩
    omega)
  have h4 : (0 : Int) ≤ 4 := by omega
  clear t hd hi hw hqm hqg hqb hqp hbl hgl
  by_cases hh : h = h'
  case' pos =>
    rw [decide_eq_false (show ¬ h ≠ h' from fun x => x hh)] at hr
    have hx0 := HX0.out hh
    have hxd : decide (x = 0) = false := by simp; omega
    have hxe : ((x : Int) == 0) = false := by simp; omega
  case' neg =>
    rw [decide_eq_true (show h ≠ h' from hh)] at hr
  all_goals
    have HR := Lib.hid hr
    clear hr hh
    go_enter Tryz.func146, Tryz.ntmps146
    go_wp2_with (first
      | (go_at_call 142; refine HR.out.mono ?_; rintro e w1 ⟨rfl, hq1⟩; have HC1 := Lib.hid ((Chg.refl [] w).qt hq1); clear hq1)
      | (go_at_call 200; refine (HW.out _ HC1.out).mono ?_; rintro e w2 ⟨rfl, hc2⟩; have HC0 := HC1; clear HC1; have HC1 := Lib.hid (HC0.out.trans hc2); clear hc2 HC0)
      | (go_at_call 201; refine (HS.out _ HC1.out).mono ?_; rintro e w3 ⟨s, rfl, hs3, HO3, hc3⟩; have HC3 := Lib.hid (HC1.out.trans hc3); have c3 := HO3.out.cell 0; unfold mv at c3; simp at c3; have cq := (HT.out.own.chg HC3.out (by simp)).cell 7; simp at cq; clear hc3 hs3)
      | fail)
    have HCALL := Lib.hid (writeFrames_any (HT.out.kept HC3.out) (HD.out.kept HC3.out) HBL.out.1)
    refine HCALL.out.mono ?_
    rintro e w4 ⟨rfl, hd4, hc4⟩
    have ho4 := (HT.out.own.chg HC3.out (by simp)).chg hc4 (by simpa using HQ.out.2.2)
    have c7 := ho4.cell 7
    have f7 := ho4.frozen 7
    simp at c7
    have HO4 := Lib.hid ho4
    have HC4 := Lib.hid hc4
    clear ho4 hc4 c3 cq
    go_wp2_with fail
    go_ret2
    have hst : Chg [q] w4 (w4.setCell ⟨q, 7, none⟩ (.int .i64 1)) := (Chg.refl _ _).setCell (by simp) _
    have t4 := ((HT.out.kept HC3.out).chg HC4.out (fun y hy => by simp at hy; subst hy; exact HBL.out.1)).tick (k' := 1) hst (HO4.out.set 7 (.int .i64 1)) (by omega) HI.out
    have hQ := HQ.out
    refine ⟨rfl, Lib.hid ⟨hd4.out.keep hst (by simpa using fun e => hQ.1 e.symm) (by simpa using fun e => hQ.2.1 e.symm) (by simpa using fun e => hQ.2.2 e.symm), t4⟩, ?_⟩
    refine ((HC3.out.mono (by simp)).trans (HC4.out.mono (fun y hy => .inl ?_))).trans (hst.mono (fun y hy => .inl ?_))
    · simp at hy ⊢
      first | exact .inr (.inr hy) | (rcases hy with rfl | rfl <;> simp)
    · simp at hy ⊢
      subst hy
      exact .inl HT.out.memq
set_option maxHeartbeats 2000000 in
set_option maxRecDepth 100000 in
theorem step_1 {g b : Nat} {F : Nat → Sec} {m : Nat → Option Sec} (t : TpV w l q p n h h' L L' 1 vF vE vF' vE') (hd : Dsk w p g b n F m) (hbl : b ∉ l) (hgl : g ∉ l) (hi : ¬ idle h h' L L') :
    Calls Tryz.prog 146 #[.pointer (some ⟨q, 0, none⟩)] w fun e w' => e = .returned (.tuple #[.bool false, .int .i64 0]) ∧ Hid (Dsk w' p g b n (now F m) (fun _ => none) ∧ TpV w' l q p n h h' L L' 2 vF vE vF' vE') ∧ Chg (l ++ [g, b]) w w' := by
  have hn := hd.top
  have hqp := t.ne_p hd
  have HBL := Lib.hid (And.intro hbl hgl)
  have HT := Lib.hid t
  have HD := Lib.hid hd
  have HI := Lib.hid hi
  have hw := fun W (hW : Chg [] w W) => waiting_tape (t.kept hW) hn
  have HS := Lib.hid (fun W (hW : Chg [] w W) => steps_cells (t.kept hW))
  have hr := replacing_any t
  have hqm : q ∈ l := t.memq
  have hqg : q ≠ g := fun e => hgl (e ▸ hqm)
  have hqb : q ≠ b := fun e => hbl (e ▸ hqm)
  have HQ := Lib.hid (And.intro hqp (And.intro hqg hqb))
  obtain ⟨x, HX⟩ : ∃ x, Hid (waitN h h' L L' = x) := ⟨_, Lib.hid rfl⟩
  simp only [HX.out] at hw
  have HW := Lib.hid hw
  have HX0 := Lib.hid (show h = h' → 0 < x from fun e => by
    rw [← HX.out]
    unfold waitN
    rw [if_pos e]
    obtain ⟨W2, hW2⟩ := t.pre e
    have h1 : L'.length = L.length + W2.length := by rw [hW2, List.length_append]
    have h2 : L'.length ≠ L.length := fun h3 => hi ⟨e, h3⟩
    omega)
  have h4 : (0 : Int) ≤ 4 := by omega
  clear t hd hi hw hqm hqg hqb hqp hbl hgl
  by_cases hh : h = h'
  case' pos =>
    rw [decide_eq_false (show ¬ h ≠ h' from fun x => x hh)] at hr
    have hx0 := HX0.out hh
    have hxd : decide (x = 0) = false := by simp; omega
    have hxe : ((x : Int) == 0) = false := by simp; omega
  case' neg =>
    rw [decide_eq_true (show h ≠ h' from hh)] at hr
  all_goals
    have HR := Lib.hid hr
    clear hr hh
    go_enter Tryz.func146, Tryz.ntmps146
    go_wp2_with (first
      | (go_at_call 142; refine HR.out.mono ?_; rintro e w1 ⟨rfl, hq1⟩; have HC1 := Lib.hid ((Chg.refl [] w).qt hq1); clear hq1)
      | (go_at_call 200; refine (HW.out _ HC1.out).mono ?_; rintro e w2 ⟨rfl, hc2⟩; have HC0 := HC1; clear HC1; have HC1 := Lib.hid (HC0.out.trans hc2); clear hc2 HC0)
      | (go_at_call 201; refine (HS.out _ HC1.out).mono ?_; rintro e w3 ⟨s, rfl, hs3, HO3, hc3⟩; have HC3 := Lib.hid (HC1.out.trans hc3); have c3 := HO3.out.cell 1; unfold mv at c3; simp at c3; have cq := (HT.out.own.chg HC3.out (by simp)).cell 7; simp at cq; clear hc3 hs3)
      | fail)
    have HCALL := Lib.hid (flush_ok w3 (HD.out.kept HC3.out))
    refine HCALL.out.mono ?_
    rintro e w4 ⟨rfl, hd4x, hc4⟩
    have hd4 := Lib.hid hd4x
    have ho4 := (HT.out.own.chg HC3.out (by simp)).chg hc4 (by simp; exact ⟨HQ.out.2.1, HQ.out.2.2⟩)
    have c7 := ho4.cell 7
    have f7 := ho4.frozen 7
    simp at c7
    have HO4 := Lib.hid ho4
    have HC4 := Lib.hid hc4
    clear ho4 hc4 hd4x c3 cq
    go_wp2_with fail
    go_ret2
    have hst : Chg [q] w4 (w4.setCell ⟨q, 7, none⟩ (.int .i64 2)) := (Chg.refl _ _).setCell (by simp) _
    have t4 := ((HT.out.kept HC3.out).chg HC4.out (fun y hy => by simp at hy; rcases hy with rfl | rfl; exact HBL.out.2; exact HBL.out.1)).tick (k' := 2) hst (HO4.out.set 7 (.int .i64 2)) (by omega) HI.out
    have hQ := HQ.out
    refine ⟨rfl, Lib.hid ⟨hd4.out.keep hst (by simpa using fun e => hQ.1 e.symm) (by simpa using fun e => hQ.2.1 e.symm) (by simpa using fun e => hQ.2.2 e.symm), t4⟩, ?_⟩
    refine ((HC3.out.mono (by simp)).trans (HC4.out.mono (fun y hy => .inl ?_))).trans (hst.mono (fun y hy => .inl ?_))
    · simp at hy ⊢
      first | exact .inr (.inr hy) | (rcases hy with rfl | rfl <;> simp)
    · simp at hy ⊢
      subst hy
      exact .inl HT.out.memq
set_option maxHeartbeats 2000000 in
set_option maxRecDepth 100000 in
theorem step_2 {g b : Nat} {F : Nat → Sec} {m : Nat → Option Sec} (t : TpV w l q p n h h' L L' 2 vF vE vF' vE') (hd : Dsk w p g b n F m) (hbl : b ∉ l) (hgl : g ∉ l) (hi : ¬ idle h h' L L') :
    Calls Tryz.prog 146 #[.pointer (some ⟨q, 0, none⟩)] w fun e w' => e = .returned (.tuple #[.bool false, .int .i64 0]) ∧ Hid (Dsk w' p g b n F (upd m 0 (supS h' L'.length (frs L').length)) ∧ TpV w' l q p n h h' L L' 3 vF vE vF' vE') ∧ Chg (l ++ [g, b]) w w' := by
  have hn := hd.top
  have hqp := t.ne_p hd
  have HBL := Lib.hid (And.intro hbl hgl)
  have HT := Lib.hid t
  have HD := Lib.hid hd
  have HI := Lib.hid hi
  have hw := fun W (hW : Chg [] w W) => waiting_tape (t.kept hW) hn
  have HS := Lib.hid (fun W (hW : Chg [] w W) => steps_cells (t.kept hW))
  have hr := replacing_any t
  have hqm : q ∈ l := t.memq
  have hqg : q ≠ g := fun e => hgl (e ▸ hqm)
  have hqb : q ≠ b := fun e => hbl (e ▸ hqm)
  have HQ := Lib.hid (And.intro hqp (And.intro hqg hqb))
  obtain ⟨x, HX⟩ : ∃ x, Hid (waitN h h' L L' = x) := ⟨_, Lib.hid rfl⟩
  simp only [HX.out] at hw
  have HW := Lib.hid hw
  have HX0 := Lib.hid (show h = h' → 0 < x from fun e => by
    rw [← HX.out]
    unfold waitN
    rw [if_pos e]
    obtain ⟨W2, hW2⟩ := t.pre e
    have h1 : L'.length = L.length + W2.length := by rw [hW2, List.length_append]
    have h2 : L'.length ≠ L.length := fun h3 => hi ⟨e, h3⟩
    omega)
  have h4 : (0 : Int) ≤ 4 := by omega
  clear t hd hi hw hqm hqg hqb hqp hbl hgl
  by_cases hh : h = h'
  case' pos =>
    rw [decide_eq_false (show ¬ h ≠ h' from fun x => x hh)] at hr
    have hx0 := HX0.out hh
    have hxd : decide (x = 0) = false := by simp; omega
    have hxe : ((x : Int) == 0) = false := by simp; omega
  case' neg =>
    rw [decide_eq_true (show h ≠ h' from hh)] at hr
  all_goals
    have HR := Lib.hid hr
    clear hr hh
    go_enter Tryz.func146, Tryz.ntmps146
    go_wp2_with (first
      | (go_at_call 142; refine HR.out.mono ?_; rintro e w1 ⟨rfl, hq1⟩; have HC1 := Lib.hid ((Chg.refl [] w).qt hq1); clear hq1)
      | (go_at_call 200; refine (HW.out _ HC1.out).mono ?_; rintro e w2 ⟨rfl, hc2⟩; have HC0 := HC1; clear HC1; have HC1 := Lib.hid (HC0.out.trans hc2); clear hc2 HC0)
      | (go_at_call 201; refine (HS.out _ HC1.out).mono ?_; rintro e w3 ⟨s, rfl, hs3, HO3, hc3⟩; have HC3 := Lib.hid (HC1.out.trans hc3); have c3 := HO3.out.cell 2; unfold mv at c3; simp at c3; have cq := (HT.out.own.chg HC3.out (by simp)).cell 7; simp at cq; clear hc3 hs3)
      | fail)
    have HCALL := Lib.hid (writeSuper_any (HT.out.kept HC3.out) (HD.out.kept HC3.out) HBL.out.1)
    refine HCALL.out.mono ?_
    rintro e w4 ⟨rfl, hd4, hc4⟩
    have ho4 := (HT.out.own.chg HC3.out (by simp)).chg hc4 (by simpa using HQ.out.2.2)
    have c7 := ho4.cell 7
    have f7 := ho4.frozen 7
    simp at c7
    have HO4 := Lib.hid ho4
    have HC4 := Lib.hid hc4
    clear ho4 hc4 c3 cq
    go_wp2_with fail
    go_ret2
    have hst : Chg [q] w4 (w4.setCell ⟨q, 7, none⟩ (.int .i64 3)) := (Chg.refl _ _).setCell (by simp) _
    have t4 := ((HT.out.kept HC3.out).chg HC4.out (fun y hy => by simp at hy; subst hy; exact HBL.out.1)).tick (k' := 3) hst (HO4.out.set 7 (.int .i64 3)) (by omega) HI.out
    have hQ := HQ.out
    refine ⟨rfl, Lib.hid ⟨hd4.out.keep hst (by simpa using fun e => hQ.1 e.symm) (by simpa using fun e => hQ.2.1 e.symm) (by simpa using fun e => hQ.2.2 e.symm), t4⟩, ?_⟩
    refine ((HC3.out.mono (by simp)).trans (HC4.out.mono (fun y hy => .inl ?_))).trans (hst.mono (fun y hy => .inl ?_))
    · simp at hy ⊢
      first | exact .inr (.inr hy) | (rcases hy with rfl | rfl <;> simp)
    · simp at hy ⊢
      subst hy
      exact .inl HT.out.memq
set_option maxHeartbeats 2000000 in
set_option maxRecDepth 100000 in
theorem step_3 {g b : Nat} {F : Nat → Sec} {m : Nat → Option Sec} (t : TpV w l q p n h h' L L' 3 vF vE vF' vE') (hd : Dsk w p g b n F m) (hbl : b ∉ l) (hgl : g ∉ l) (hi : ¬ idle h h' L L') :
    Calls Tryz.prog 146 #[.pointer (some ⟨q, 0, none⟩)] w fun e w' => e = .returned (.tuple #[.bool true, .int .i64 0]) ∧ Hid (Dsk w' p g b n (now F m) (fun _ => none) ∧ TpV w' l q p n h' h' L' L' 0 vF' vE' vF' vE') ∧ Chg (l ++ [g, b]) w w' := by
  have hn := hd.top
  have hqp := t.ne_p hd
  have HBL := Lib.hid (And.intro hbl hgl)
  have HT := Lib.hid t
  have HD := Lib.hid hd
  have HI := Lib.hid hi
  have hw := fun W (hW : Chg [] w W) => waiting_tape (t.kept hW) hn
  have HS := Lib.hid (fun W (hW : Chg [] w W) => steps_cells (t.kept hW))
  have hr := replacing_any t
  have hqm : q ∈ l := t.memq
  have hqg : q ≠ g := fun e => hgl (e ▸ hqm)
  have hqb : q ≠ b := fun e => hbl (e ▸ hqm)
  have HQ := Lib.hid (And.intro hqp (And.intro hqg hqb))
  obtain ⟨x, HX⟩ : ∃ x, Hid (waitN h h' L L' = x) := ⟨_, Lib.hid rfl⟩
  simp only [HX.out] at hw
  have HW := Lib.hid hw
  have HX0 := Lib.hid (show h = h' → 0 < x from fun e => by
    rw [← HX.out]
    unfold waitN
    rw [if_pos e]
    obtain ⟨W2, hW2⟩ := t.pre e
    have h1 : L'.length = L.length + W2.length := by rw [hW2, List.length_append]
    have h2 : L'.length ≠ L.length := fun h3 => hi ⟨e, h3⟩
    omega)
  have h4 : (0 : Int) ≤ 4 := by omega
  clear t hd hi hw hqm hqg hqb hqp hbl hgl
  by_cases hh : h = h'
  case' pos =>
    rw [decide_eq_false (show ¬ h ≠ h' from fun x => x hh)] at hr
    have hx0 := HX0.out hh
    have hxd : decide (x = 0) = false := by simp; omega
    have hxe : ((x : Int) == 0) = false := by simp; omega
  case' neg =>
    rw [decide_eq_true (show h ≠ h' from hh)] at hr
  all_goals
    have HR := Lib.hid hr
    clear hr hh
    go_enter Tryz.func146, Tryz.ntmps146
    go_wp2_with (first
      | (go_at_call 142; refine HR.out.mono ?_; rintro e w1 ⟨rfl, hq1⟩; have HC1 := Lib.hid ((Chg.refl [] w).qt hq1); clear hq1)
      | (go_at_call 200; refine (HW.out _ HC1.out).mono ?_; rintro e w2 ⟨rfl, hc2⟩; have HC0 := HC1; clear HC1; have HC1 := Lib.hid (HC0.out.trans hc2); clear hc2 HC0)
      | (go_at_call 201; refine (HS.out _ HC1.out).mono ?_; rintro e w3 ⟨s, rfl, hs3, HO3, hc3⟩; have HC3 := Lib.hid (HC1.out.trans hc3); have c3 := HO3.out.cell 3; unfold mv at c3; simp at c3; have cq := (HT.out.own.chg HC3.out (by simp)).cell 7; simp at cq; clear hc3 hs3)
      | fail)
    have HCALL := Lib.hid (settle_any (HT.out.kept HC3.out) (HD.out.kept HC3.out) HBL.out.1 HBL.out.2)
    refine HCALL.out.mono ?_
    rintro e w4 ⟨rfl, H4⟩
    have c7 := H4.out.2.1.cell 7
    have f7 := H4.out.2.1.frozen 7
    simp at c7
    clear c3 cq
    go_wp2_with fail
    go_ret2
    obtain ⟨hd4, ho4, w5, hc5, hc6⟩ := H4.out
    have hst : Chg [q] w4 (w4.setCell ⟨q, 7, none⟩ (.int .i64 0)) := (Chg.refl _ _).setCell (by simp) _
    have t4 := (HT.out.kept HC3.out).settled hc5 (fun y hy => by simp at hy; rcases hy with rfl | rfl; exact HBL.out.2; exact HBL.out.1) hc6 hst (ho4.set 7 (.int .i64 0))
    have hQ := HQ.out
    refine ⟨rfl, Lib.hid ⟨hd4.keep hst (by simpa using fun e => hQ.1 e.symm) (by simpa using fun e => hQ.2.1 e.symm) (by simpa using fun e => hQ.2.2 e.symm), t4⟩, ?_⟩
    have hqm := HT.out.memq
    refine (((HC3.out.mono (by simp)).trans (hc5.mono (fun y hy => .inl ?_))).trans (hc6.mono (fun y hy => .inl ?_))).trans (hst.mono (fun y hy => .inl ?_))
    · simp at hy ⊢
      exact .inr hy
    · simp at hy ⊢
      subst hy
      exact .inl hqm
    · simp at hy ⊢
      subst hy
      exact .inl hqm
end
end Go.Proofs.YtcadnlilijkneaaGreat
