/-
  The fewest records of a state, as bytes in memory. No claim of its own.
-/
import Derived.Test.YtmpajlpemabniaaGreatZq36
namespace Go.Proofs.YtmpajlpemabniaaGreat
open Go.RowKit Go.Maps Go.Shelf Go.Deep
set_option linter.unusedVariables false
set_option linter.unusedSimpArgs false
noncomputable def parts8 (S : PS) : List (List Rc) := [one0 1 S.ep, one0 5 S.op, one0 3 S.mr, S.T.map tRc, (addrs S.m).map (cRc S.m)]
noncomputable def pre8 (S : PS) (k : Nat) : List Rc := ((parts8 S).take k).flatten
noncomputable def part8 (S : PS) (k : Nat) : List Rc := (parts8 S).getD k []
theorem pre8_succ (S : PS) {k : Nat} (hk : k < 5) : pre8 S (k + 1) = pre8 S k ++ part8 S k := by
  have h : k < (parts8 S).length := hk
  unfold pre8 part8
  rw [List.take_succ_eq_append_getElem h, List.flatten_append, List.getD_eq_getElem?_getD, List.getElem?_eq_getElem h]
  simp
theorem pre8_all (S : PS) : pre8 S 5 = allR' S := by
  unfold pre8 parts8 allR'
  simp
theorem part8_mem (S : PS) {k : Nat} {r : Rc} (h : r ∈ part8 S k) : r ∈ allR' S := by
  by_cases hk : k < 5
  · rw [← pre8_all]
    have h1 : part8 S k ∈ parts8 S := by
      unfold part8
      have h2 : k < (parts8 S).length := hk
      rw [List.getD_eq_getElem?_getD, List.getElem?_eq_getElem h2]
      exact List.getElem_mem h2
    unfold pre8
    rw [List.take_of_length_le (by simp [parts8])]
    exact List.mem_flatten.2 ⟨_, h1, h⟩
  · unfold part8 at h
    rw [List.getD_eq_getElem?_getD, List.getElem?_eq_none (by simp [parts8]; omega)] at h
    cases h
theorem okN_all {S : PS} (g : Gd S) : ∀ r ∈ allR' S, okN r := by
  intro r hr
  unfold allR' at hr
  simp only [List.mem_append, List.mem_map] at hr
  rcases hr with (((h | h) | h) | ⟨x, hx, rfl⟩) | ⟨a, ha, rfl⟩
  · unfold one0 at h
    split at h
    · cases h
    · simp at h; subst h; exact okN_num (by omega) g.ep
  · unfold one0 at h
    split at h
    · cases h
    · simp at h; subst h; exact okN_num (by omega) g.op
  · unfold one0 at h
    split at h
    · cases h
    · simp at h; subst h; exact okN_num (by omega) g.mr
  · have h1 := g.hi x hx
    have h2 := g.nf.nonempty x hx
    exact ⟨by simp [tRc], by simp [tRc], by show x.1 < (if (4 : Nat) = 2 then 1048576 else 2097152); rw [if_neg (by omega)]; omega, fun _ => (by show x.2 < 2097152; omega), fun k => absurd rfl k, by simp [tRc], fun _ => rfl⟩
  · obtain ⟨h1, h2⟩ := mem_addrs.1 ha
    obtain ⟨c, hc⟩ := Option.isSome_iff_exists.1 h2
    have h4 := (g.cell a c hc).2.1
    exact ⟨by simp [cRc], by simp [cRc], by simp [cRc]; omega, by simp [cRc], fun _ => rfl, fun _ => by simp only [cRc, hc]; exact h4, fun k => absurd rfl k⟩
def mkN (k : Nat) : Nat := if k = 0 then 185 else if k = 1 then 186 else if k = 2 then 187 else if k = 3 then 188 else 189
theorem callFunc_enter {f : FuncId} {fn : Func} {c : Code} (hf : Tryz.prog.funcs[f]? = some fn) (hname : (fn.name == "runtime.NumGoroutine") = false) (hb : fn.body = some c) (args : Array Value) (w : World) :
    (callFunc f args).run Tryz.prog w = .ok (.enter f args) w := by
  have h1 : fn.name ≠ "runtime.NumGoroutine" := by simpa using hname
  simp [callFunc, hf, h1, hb]
theorem mkN_run {k : Nat} (hk : k < 5) (args : Array Value) (w : World) : (callFunc (mkN k) args).run Tryz.prog w = .ok (.enter (mkN k) args) w := by
  have h5 : k = 0 ∨ k = 1 ∨ k = 2 ∨ k = 3 ∨ k = 4 := by omega
  rcases h5 with rfl | rfl | rfl | rfl | rfl
  · exact callFunc_enter Tryz.func185 (by kernel_rfl) rfl args w
  · exact callFunc_enter Tryz.func186 (by kernel_rfl) rfl args w
  · exact callFunc_enter Tryz.func187 (by kernel_rfl) rfl args w
  · exact callFunc_enter Tryz.func188 (by kernel_rfl) rfl args w
  · exact callFunc_enter Tryz.func189 (by kernel_rfl) rfl args w
theorem part8_any (w : World) {q p : Nat} {v : Value} {b : Nat} {C : List Nat} {S : PS} (h : Sta w q p v b C S) {k : Nat} (hk : k < 5) :
    Calls Tryz.prog (mkN k) #[.pointer (some ⟨q, 0, none⟩)] w (RecP w w C (part8 S k)) := by
  have h5 : k = 0 ∨ k = 1 ∨ k = 2 ∨ k = 3 ∨ k = 4 := by omega
  rcases h5 with rfl | rfl | rfl | rfl | rfl
  · exact epochRecords_any w h
  · exact openedRecords_any w h
  · exact markRecords_any w h
  · exact trimmedRecords_any w h
  · exact cellRecords_any w h
structure SbN (w0 w : World) (v : Value) (y : SB) : Prop where
  ro : Ro w w.heap.size y.a (u8s y.bs)
  len : y.bs.length ≤ 300
  new : ∀ ad, y.a = some ad → w0.heap.size ≤ ad.block
  off : y.bs ≠ [] → ∀ ad, y.a = some ad → ad.block ∉ bl v
theorem SbN.kept {w0 w w' : World} {v : Value} {y : SB} (h : SbN w0 w v y) (hc : Chg [] w w') : SbN w0 w' v y := ⟨h.ro.chg3 hc (fun _ _ _ => by simp), h.len, h.new, h.off⟩
theorem SbN.app {w0 w w' : World} {e : TypeId} {v v' : Value} {xs us : List Value} {y : SB} (h : SbN w0 w v y) (k : AppK w w' e v v' xs us) : SbN w0 w' v' y := by
  refine ⟨h.ro.chg3 k.chg (fun h0 ad e => h.off (fun e0 => h0 (by rw [e0]; rfl)) ad e), h.len, h.new, fun h0 ad e hb => ?_⟩
  rcases k.bl _ hb with h1 | h1
  · exact h.off h0 ad e h1
  · obtain ⟨b, off, e2, hb2, _⟩ := h.ro.at_ (by intro e9; have := congrArg List.length e9; simp at this; exact h0 this)
    rw [e] at e2
    injection e2 with e2
    subst e2
    simp only at h1
    omega
theorem rt_form {wr : World} {a : Option Addr} {L : List RT} {B : Nat} (h : Ro wr B a (rts L)) {i : Nat} (hi : i < L.length) :
    ∃ b off, a = some ⟨b, off, none⟩ ∧ b < B ∧ wr.cell? ⟨b, off + i * 6, none⟩ = some (.int .u64 ((L[i]).r.k : Int)) ∧ wr.cell? ⟨b, off + i * 6 + 1, none⟩ = some (.int .u64 ((L[i]).r.n : Int)) ∧ wr.cell? ⟨b, off + i * 6 + 2, none⟩ = some (.int .u64 ((L[i]).r.t : Int)) ∧ wr.cell? ⟨b, off + i * 6 + 3, none⟩ = some (.int .i64 (L[i]).A.x.k) ∧ wr.cell? ⟨b, off + i * 6 + 4, none⟩ = some (.slice (L[i]).A.a (L[i]).A.x.d.length (L[i]).A.c) ∧ wr.cell? ⟨b, off + i * 6 + 5, none⟩ = some (.slice (L[i]).A.a2 (L[i]).A.x.b.length (L[i]).A.c2) := by
  obtain ⟨b, off, h1, h2, h3⟩ := h.rt hi
  have h4 := h3 i hi
  exact ⟨b, off, h1, h2, h4 0 (by omega), h4 1 (by omega), h4 2 (by omega), h4 3 (by omega), h4 4 (by omega), h4 5 (by omega)⟩
theorem Tryz.info_bys : (Tryz.prog.info? 39).map (fun i => (i.zero, i.size, i.bytes)) = some (some (.slice none 0 0), 1, 24) := by kernel_rfl
set_option maxHeartbeats 2000000 in
set_option maxRecDepth 100000 in
theorem recs8_any (w : World) {q p : Nat} {v : Value} {b : Nat} {C : List Nat} {S : PS} (h : Sta w q p v b C S) (hlr : (all S).length ≤ 100000) :
    Calls Tryz.prog 125 #[.pointer (some ⟨q, 0, none⟩)] w fun e w' => ∃ a xs c, e = .returned (.slice a (xs : List SB).length c) ∧ recs xs = all S ∧ Hid (RoL w' w'.heap.size a xs ∧ (∀ x, a = some x → w.heap.size ≤ x.block) ∧ ∀ y ∈ xs, ∀ x, y.a = some x → w.heap.size ≤ x.block) ∧ Chg [] w w' := by
  have HPA : Hid (∀ W, Chg [] w W → ∀ k, k < 5 → Calls Tryz.prog (mkN k) #[.pointer (some ⟨q, 0, none⟩)] W (RecP W W C (part8 S k))) := Lib.hid (fun W hW k hk => part8_any W (h.kept hW) hk)
  have HOK := Lib.hid (okN_all h.gd)
  have HLR : Hid ((allR' S).length ≤ 100000) := Lib.hid (by unfold all at hlr; rwa [List.length_map] at hlr)
  have HPL : Hid (∀ k, k ≤ 5 → (pre8 S k).length ≤ 100000) := Lib.hid (fun k hk => by
    refine Nat.le_trans ?_ HLR.out
    have h9 : allR' S = pre8 S k ++ ((parts8 S).drop k).flatten := by
      rw [← pre8_all]
      unfold pre8
      rw [← List.flatten_append, List.take_append_drop, List.take_of_length_le (by simp [parts8])]
    rw [h9, List.length_append]
    omega)
  obtain ⟨w1, HW1⟩ : ∃ W, Hid (w.alloc (.cells #[.func (.func 185) #[] #[], .func (.func 186) #[] #[], .func (.func 187) #[] #[], .func (.func 188) #[] #[], .func (.func 189) #[] #[]] 244) = W) := ⟨_, Lib.hid rfl⟩
  have HC1 : Hid (Chg [] w w1) := Lib.hid (by rw [← HW1.out]; exact (Chg.refl [] w).alloc _)
  have HMK : Hid (∀ k, k < 5 → w1.cell? ⟨w.heap.size, k, none⟩ = some (.func (.func (mkN k)) #[] #[])) := Lib.hid (fun k hk => by
    rw [← HW1.out]
    have h9 := Own.new w 244 [.func (.func 185) #[] #[], .func (.func 186) #[] #[], .func (.func 187) #[] #[], .func (.func 188) #[] #[], .func (.func 189) #[] #[]]
    have h5 : k = 0 ∨ k = 1 ∨ k = 2 ∨ k = 3 ∨ k = 4 := by omega
    rcases h5 with rfl | rfl | rfl | rfl | rfl <;> exact (h9.cell _).trans rfl)
  have HAPC := Lib.hid (fun x hx => (h.ap x hx).1)
  clear h hlr
  go_enter Tryz.func125, Tryz.ntmps125
  go_upto_region 2 with fail
  rw [HW1.out]
  go_wp2_with fail
  go_loopw [4, 12] (fun v4 i wr => ∃ (k : Nat) (ys : List SB), i = .int .i64 k ∧ k ≤ 5 ∧ Hid (recs ys = (pre8 S k).map encR) ∧ Hid (Lst wr 0 39 v4 (ys.map SB.val)) ∧ Hid (∀ x ∈ bl v4, w1.heap.size ≤ x) ∧ Hid (∀ y ∈ ys, SbN w1 wr v4 y) ∧ Hid (Chg [] w1 wr)) (fun _ i _ => 5 - (intOf i).toNat)
  case atStart => exact ⟨0, [], rfl, Nat.zero_le _, Lib.hid (by simp [pre8, recs]), Lib.hid (Lst.nil _ _ _), Lib.hid (fun x hx => by simp [bl, Value.ownBlock] at hx), Lib.hid (fun y hy => by cases hy), Lib.hid (Chg.refl [] w1)⟩
  case round =>
    obtain ⟨k, ys, rfl, hk, HM, HL, HB, HX, HC⟩ := hrel
    by_cases hlt : k < 5
    · have hmk := HC.out.cell (HMK.out k hlt) (by simp)
      obtain ⟨m, hm⟩ : ∃ m, Hid (mkN k = m) := ⟨_, Lib.hid rfl⟩
      have HCW := Lib.hid (HC1.out.trans HC.out)
      have HPK := Lib.hid (HPA.out wr HCW.out k hlt)
      have hrn := mkN_run hlt #[.pointer (some ⟨q, 0, none⟩)] wr
      rw [hm.out] at hmk HPK hrn
      have hd1 : decide (k < 5) = true := by simpa using hlt
      have hd2 : decide ((k : Int) < 5) = true := by simp; omega
      have hk0 : (0 : Int) ≤ (k : Int) := by omega
      have hk1 : (k : Int) < 5 := by omega
      have HSUC := Lib.hid (pre8_succ S hlt)
      have HLT := Lib.hid hlt
      rename World => wa
      go_wp2_with fail
      refine HPK.out.mono ?_
      rintro e w3 ⟨v5, xs, rfl, hxm, hxl, hxo, hc3⟩
      obtain ⟨a5, c5, e5, hro5, _⟩ := hxl.out.form
      obtain ⟨bo, hbo⟩ : ∃ x, Hid (bl u4 = x) := ⟨_, Lib.hid rfl⟩
      have HBO : Hid (∀ x ∈ bo, w1.heap.size ≤ x ∧ x < wa.heap.size) := Lib.hid (fun x hx => by rw [← hbo.out] at hx; exact ⟨HB.out x hx, HL.out.bl_lt x hx⟩)
      have HG5 : Hid (∀ x, a5 = some x → wa.heap.size ≤ x.block) := Lib.hid (fun x e => by
        rcases hxl.out.2 with ⟨h1, _⟩ | ⟨g, cap, cur, h1, hb, _⟩
        · rw [e5] at h1; injection h1 with h1; rw [h1] at e; cases e
        · rw [e5] at h1; injection h1 with h1; rw [h1] at e; injection e with e; subst e; exact hb)
      subst e5
      obtain ⟨N, hN⟩ : ∃ x, Hid (xs.length = x) := ⟨_, Lib.hid rfl⟩
      have hpl := HPL.out (k + 1) hlt
      rw [HSUC.out, ← hxm, List.length_append, List.length_map, hN.out] at hpl
      have HYL : Hid (ys.length = (pre8 S k).length) := Lib.hid (by have := congrArg List.length HM.out; rwa [recs_len, List.length_map] at this)
      rw [← HYL.out] at hpl
      have HPL2 := Lib.hid hpl
      have HRO5 := Lib.hid hro5
      have HXM := Lib.hid hxm
      have HC3 := Lib.hid (HC.out.trans hc3)
      have HS3 := Lib.hid hc3.size
      have HL3 := Lib.hid (HL.out.kept0 hc3)
      have HX3 : Hid (∀ y ∈ ys, SbN w1 w3 u4 y) := Lib.hid (fun y hy => (HX.out y hy).kept hc3)
      have HBS : Hid (∀ x ∈ bl u4, x ∈ bo ∨ w3.heap.size ≤ x) := Lib.hid (fun x hx => .inl (by rw [← hbo.out]; exact hx))
      have hNb : N ≤ 100000 := by omega
      rw [hN.out]
      clear hxm hro5 hc3 hmk hpl HC HL HX HB HYL hbo
      go_wp2_with fail
      go_loopw [4, 20] (fun v j wr => ∃ (i : Nat) (zs : List SB), j = .int .i64 i ∧ i ≤ N ∧ Hid (recs zs = (pre8 S k ++ (part8 S k).take i).map encR) ∧ Hid (zs.length = ys.length + i) ∧ Hid (Lst wr 0 39 v (zs.map SB.val)) ∧ Hid (∀ x ∈ bl v, x ∈ bo ∨ w3.heap.size ≤ x) ∧ Hid (∀ y ∈ zs, SbN w1 wr v y) ∧ Hid (Chg bo w3 wr)) (fun _ j _ => N - (intOf j).toNat)
      case atStart => exact ⟨0, ys, rfl, Nat.zero_le _, Lib.hid (by rw [HM.out]; simp), Lib.hid rfl, HL3, HBS, HX3, Lib.hid (Chg.refl bo w3)⟩
      case round =>
        obtain ⟨i, zs, rfl, hi, HMz, HZl, HLz, HBz, HXz, HCz⟩ := hrel
        rename World => wr2
        by_cases hil : i < N
        · have hiL : i < xs.length := by rw [hN.out]; exact hil
          obtain ⟨gx, off, ea, hgx, x0, x1, x2, x3, x4, x5⟩ := rt_form HRO5.out hiL
          subst ea
          have hgo : gx ∉ bo := fun hx => by have h1 := HG5.out _ rfl; have h2 := (HBO.out _ hx).2; simp only at h1; omega
          have y0 := HCz.out.cell x0 hgo
          have y1 := HCz.out.cell x1 hgo
          have y2 := HCz.out.cell x2 hgo
          have y3 := HCz.out.cell x3 hgo
          have y4 := HCz.out.cell x4 hgo
          have y5 := HCz.out.cell x5 hgo
          have hmem : xs[i] ∈ xs := List.getElem_mem hiL
          have hokX : okN (xs[i]).r := HOK.out _ (part8_mem S (k := k) (by rw [← HXM.out]; exact List.mem_map_of_mem hmem))
          have hXO := hxo.out _ hmem
          have HTK : Hid ((part8 S k).take (i + 1) = (part8 S k).take i ++ [(xs[i]).r]) := Lib.hid (by
            rw [← HXM.out, List.take_succ_eq_append_getElem (by simpa using hiL)]
            simp)
          generalize xs[i] = X at *
          have HEN : Hid (∀ W, Chg bo w3 W → Calls Tryz.prog 122 #[rcv (X.r.k : Int) X.r.n X.r.t X.A] W fun e w' => ∃ a c, e = .returned (.slice a (encR X.r).length c) ∧ Ro w' w'.heap.size a (u8s (encR X.r)) ∧ (∀ ad, a = some ad → W.heap.size ≤ ad.block) ∧ Chg [] W w') := Lib.hid (fun W hW =>
            encoded_any W X.r X.A hokX (fun e => by
              have h9 := (hXO e).2.chg hW (fun x hx h9 => by have h1 := HAPC.out x hx; have h2 := (HBO.out x h9).1; have h3 := HC1.out.size; omega)
              exact ⟨(hXO e).1, h9.d, h9.b⟩))
          have HEL := Lib.hid (encR_ok hokX).2
          have hd3 : decide (i < N) = true := by simpa using hil
          have hi0 : (0 : Int) ≤ (i : Int) := by omega
          have hi1 : (i : Int) < (N : Int) := by omega
          have hib : (i : Int) ≤ 4000000 := by omega
          have HKM := Lib.hid (show N - (i + 1) < N - i by omega)
          clear x0 x1 x2 x3 x4 x5 hmem hokX hXO hgo
          obtain ⟨⟨k', n', t', c'⟩, ⟨⟨ck, cd, cb⟩, a1, c1, a2, c2⟩⟩ := X
          unfold rcv at HEN
          simp only at HEN HEL HTK y0 y1 y2 y3 y4 y5
          obtain ⟨en, hen⟩ : ∃ x, Hid (encR ⟨k', n', t', c'⟩ = x) := ⟨_, Lib.hid rfl⟩
          rw [hen.out] at HEN HEL
          generalize cd.length = dn at HEN y4
          generalize cb.length = bn at HEN y5
          go_wp2_with (first
            | (go_at_call 122; refine (HEN.out _ (HCz.out.alloc _)).mono ?_; rintro e w4 ⟨a4, c4, rfl, hr4, hn4, hc4⟩
               have HC4 := Lib.hid ((HCz.out.alloc _).trans (hc4.mono (by simp)))
               have HY4 := Lib.hid (show SbN w1 w4 u4 ⟨a4, en, c4⟩ from ⟨hr4, HEL.out, fun ad e => by have h1 := hn4 ad e; rw [World.size_alloc] at h1; have h2 := HCz.out.size; have h3 := HC3.out.size; omega, fun _ ad e hb => by have h1 := hn4 ad e; rw [World.size_alloc] at h1; have h2 := HLz.out.bl_lt _ hb; omega⟩)
               have HX4 := Lib.hid (fun y hy => ((HXz.out y hy).kept ((Chg.refl [] wr2).alloc _)).kept hc4)
               have HL4 := Lib.hid ((HLz.out.alloc _).kept0 hc4)
               clear hr4 hn4 hc4)
            | (at_builtin; refine wpList_appK1 rfl (.tmp 24) (.tmp 27) 108 rfl 39 (.slice none 0 0) 24 Tryz.underlying108 Tryz.info_bys rfl (.slice a4 en.length c4) rfl _ (zs.map SB.val) rfl HL4.out _ rfl rfl (by rw [List.length_map, HZl.out]; have := HPL2.out; omega) (by rw [List.length_map, HZl.out]; have := HPL2.out; omega) ?_; intro v6 w6 HA6)
            | fail)
          go_roundw
          case rel =>
            refine ⟨i + 1, zs ++ [⟨a4, en, c4⟩], by go_num, by omega, Lib.hid ?_, Lib.hid (by rw [List.length_append, HZl.out]; simp; omega), Lib.hid ?_, Lib.hid (fun x hx => ?_), Lib.hid (fun y hy => ?_), Lib.hid (HC4.out.then HA6.out.chg (fun x hx => HBz.out x hx))⟩
            · rw [recs_snoc, HMz.out, HTK.out, ← hen.out]
              simp
            · have := HA6.out.lst
              rw [List.map_append]
              exact this
            · rcases HA6.out.bl x hx with h1 | h1
              · exact HBz.out x h1
              · exact .inr (Nat.le_trans HC4.out.size h1)
            · rcases List.mem_append.1 hy with hy | hy
              · exact (HX4.out y hy).app HA6.out
              · simp at hy; subst hy; exact HY4.out.app HA6.out
          case measure => have := HKM.out; simp [intOf]; omega
        · obtain rfl : i = N := by omega
          have hd3 : decide (i < i) = false := by simp
          go_wp2_with fail
          go_roundw
          case rel =>
            refine ⟨k + 1, zs, by go_num, by have := HLT.out; omega, Lib.hid ?_, HLz, Lib.hid (fun x hx => ?_), HXz, Lib.hid (HC3.out.then HCz.out (fun x hx => .inr (HBO.out x hx).1))⟩
            · rw [HMz.out, HSUC.out, List.take_of_length_le (by rw [← HXM.out, List.length_map, hN.out]; exact Nat.le_refl _)]
            · rcases HBz.out x hx with h1 | h1
              · exact (HBO.out x h1).1
              · exact Nat.le_trans HC3.out.size h1
          case measure => have := HLT.out; simp [intOf]; omega
    · obtain rfl : k = 5 := by omega
      go_wp2_with fail
      go_ret
      have hl := HL.out
      obtain ⟨a, c, e9, hro, _, _⟩ := hl.form
      subst e9
      have e10 : (ys.map SB.val).length = ys.length := by simp
      rw [e10]
      refine ⟨a, ys, c, rfl, by rw [HM.out, pre8_all]; rfl, Lib.hid ⟨⟨hro, fun x hx => ⟨(HX.out x hx).ro, Nat.le_trans (HX.out x hx).len (by omega)⟩⟩, fun x e => ?_, fun y hy x e => Nat.le_trans HC1.out.size ((HX.out y hy).new x e)⟩, HC1.out.trans HC.out⟩
      rcases hl.2 with ⟨h1, _⟩ | ⟨g, cap, cur, h1, _⟩
      · injection h1 with h1; rw [h1] at e; cases e
      · injection h1 with h1
        rw [h1] at e
        injection e with e
        subst e
        exact Nat.le_trans HC1.out.size (HB.out _ (by simp [bl, Value.ownBlock, h1]))
end Go.Proofs.YtmpajlpemabniaaGreat
