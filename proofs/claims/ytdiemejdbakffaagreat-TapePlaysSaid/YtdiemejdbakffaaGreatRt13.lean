/-
  Contract of the document's Open (tape). No claim of its own.
-/
import Derived.Test.YtdiemejdbakffaaGreatRt12
namespace Go.Proofs.YtdiemejdbakffaaGreat
open Go.RowKit Go.Deep Go.Shelf Go.Maps
set_option linter.unusedVariables false
set_option linter.unusedSimpArgs false

theorem exec_load40 {w : World} {a : Act} {o : Oper} {x : Operand} (ho : o.op = .load 50 x) (b off : Nat) (hx : a.eval x = .pointer (some ⟨b, off, none⟩)) (S : Sec) (hr : w.rangeAt b off (u8s S)) (hS : S.length = 64) : Sem.run Tryz.prog (execOp a.eval o) w = .ok (.value (sv S)) w := by
  unfold execOp
  simp only [ho, hx, Instr.loadAt, Instr.sureAddr, Sem.run_bind, Sem.run_pure, Result.andThen_ok, load40 hr hS]
theorem eq40 (S T : Sec) (hS : S.length = 64) (hT : T.length = 64) (w : World) : (Op.equalIn 10000 50 (.agg (u8s S).toArray) (.agg (u8s T).toArray)).run Tryz.prog w = .ok (decide (S = T)) w :=
  run_equal_sec w 9998 50 5 Tryz.underlying50 Tryz.underlying5 (Tryz.sizeOf5 w) S T hS hT
theorem ro_part {w : World} {b B k m : Nat} {S : Sec} (h : w.rangeAt b 0 (u8s S)) (hb : b < B) (hS : S.length = 64) (hk : 0 < k) (hk2 : k < 64) : Ro w B (some ⟨b, k, none⟩) (u8s ((S.drop k).take m)) := by
  have h1 := ((ro_range h hb).drop k 64 (by rw [u8s_length, hS]; exact Nat.le_refl _)).take m
  rw [if_neg (by omega)] at h1
  have h2 : Ro w B (some ⟨b, k, none⟩) (((u8s S).drop k).take m) := by simpa [Addr.add, show ¬ k = 0 from by omega] using h1
  rw [show ((u8s S).drop k).take m = u8s ((S.drop k).take m) from by simp [u8s, List.map_drop, List.map_take]] at h2
  exact h2
theorem block_of_range {w : World} {b : Nat} {S : Sec} (h : w.rangeAt b 0 (u8s S)) (hS : S.length = 64) : b < w.heap.size := by
  have h1 := h 0 ((u8s S)[0]'(by rw [u8s_length, hS]; decide)) (List.getElem?_eq_getElem _)
  exact World.block_lt_of_cell? w _ h1
theorem lst_cap {w : World} {base : Nat} {e : TypeId} {a : Option Addr} {n c : Nat} {xs : List Value} (h : Lst w base e (.slice a n c) xs) : c ≤ 9223372036854775807 := by
  rcases h.2 with ⟨h0, _⟩ | ⟨g, cap, cur, h0, _, _, _, hm, _⟩
  · injection h0 with _ _ h3
    omega
  · injection h0 with _ _ h3
    have : maxLen = 9223372036854775807 := rfl
    omega
theorem ropen_few (w : World) {q gn go gd n : Nat} {R O : Nat → Sec} {D : Nat → Bool} (hd : Rdk w q gn go gd n R O D) (hn : n < 3) :
    Calls Tryz.prog 8 #[.pointer (some ⟨q, 0, none⟩)] w fun e w' => e = .returned (.tuple #[.pointer none, .int .i64 1]) ∧ w = w' := by
  have c0 := hd.c0
  have d1 : decide ((n : Int) < 3) = true := by simp; omega
  clear hd hn
  go_enter Tryz.func8, Tryz.ntmps8
  go_wp2_with fail
  go_ret2
  exact ⟨rfl, rfl⟩
/-- what Open tells of the document's disk -/
def ROpenT (w : World) (q n : Nat) (R : Nat → Sec) (e : Ending) (w' : World) : Prop :=
  (∃ h L u aL cL xs, Opens n R h L ∧ e = .returned (.tuple #[.pointer (some ⟨u, 0, none⟩), .int .i64 0]) ∧ w.heap.size ≤ u ∧ Hid (Own w' u 81 [.pointer (some ⟨q, 0, none⟩), .int .i64 (h : Int), .slice aL xs.length cL, .slice none 0 0, .bool false, .int .i64 0]) ∧ Hid (RL w' (u + 1) (.slice aL xs.length cL) xs ∧ recs xs = L) ∧ Chg [] w w') ∨
  ((∀ h L, ¬ Opens n R h L) ∧ e = .returned (.tuple #[.pointer none, .int .i64 63]) ∧ Chg [] w w')
set_option maxHeartbeats 8000000 in
set_option maxRecDepth 100000 in
theorem ropen_any (w : World) {q gn go gd n : Nat} {R O : Nat → Sec} {D : Nat → Bool} (hd : Rdk w q gn go gd n R O D) (hn : 3 ≤ n) :
    Calls Tryz.prog 8 #[.pointer (some ⟨q, 0, none⟩)] w (ROpenT w q n R) := by
  have d1 : decide ((n : Int) < 3) = false := by simp; omega
  have hn0 : (0 : Int) < (n : Int) := by omega
  have hnn : 0 < n := by omega
  have htop := hd.top
  obtain ⟨S0, HS0⟩ : ∃ X, Hid (R 0 = X) := ⟨_, Lib.hid rfl⟩
  have hS0 : S0.length = 64 := by rw [← HS0.out]; exact hd.lenN 0
  obtain ⟨X, HX⟩ : ∃ W, Hid (w.alloc (.cells #[.pointer (some ⟨q, 0, none⟩), .int .i64 0, .slice none 0 0, .slice none 0 0, .bool false, .int .i64 0] 81) = W) := ⟨_, Lib.hid rfl⟩
  have hC : Chg [] w X := by rw [← HX.out]; exact (Chg.refl [] w).alloc _
  have hsz : X.heap.size = w.heap.size + 1 := by rw [← HX.out]; simp
  have hO : Own X w.heap.size 81 [.pointer (some ⟨q, 0, none⟩), .int .i64 0, .slice none 0 0, .slice none 0 0, .bool false, .int .i64 0] := by rw [← HX.out]; exact Own.new w 81 _
  have hro0 : X.rangeAt gn 0 (u8s S0) := by
    have := (hd.kept hC).rn.rng 0 (by omega)
    rw [HS0.out] at this
    simpa using this
  have c0 := (hd.kept hC).c0
  have c0w := hd.c0
  have HD := Lib.hid hd
  have HO := Lib.hid hO
  have HC := Lib.hid hC
  clear hd hO hC
  go_enter Tryz.func8, Tryz.ntmps8
  go_upto_region 4 with fail
  simp only [HX.out]
  go_wp2_with (first
    | (refine wpList_load40 rfl _ rfl gn 0 rfl S0 hro0 hS0 ?_)
    | (refine wpList_alloc40 rfl rfl ?_)
    | (refine wpList_laid40 rfl _ _ rfl S0 rfl rfl rfl hS0 ?_; intro w6 hrW ht6 hcW; have HR6 := Lib.hid hrW; have HC6 := Lib.hid hcW; clear hrW ht6 hcW hro0 c0)
    | fail)
  obtain ⟨bs, hbs⟩ : ∃ b, b = w.heap.size + 1 := ⟨_, rfl⟩
  have hbX : X.heap.size = bs := by omega
  rw [hbX] at HR6
  rw [← hbs]
  have HBS := Lib.hid hbs
  clear hbs hsz
  have hb6 : bs < w6.heap.size := block_of_range HR6.out hS0
  have ho1 := of_any w6 (some ⟨bs, 1, none⟩) ((S0.drop 1).take 4) 63 w6.heap.size (ro_part HR6.out hb6 hS0 (by omega) (by omega)) (by rw [List.length_take, List.length_drop, hS0]; rfl)
  rw [show nb ((S0.drop 1).take 4) = supR S0 from rfl] at ho1
  obtain ⟨r, HRR⟩ : ∃ x, Hid (supR S0 = x) := ⟨_, Lib.hid rfl⟩
  obtain ⟨b, HBB⟩ : ∃ x, Hid (supB S0 = x) := ⟨_, Lib.hid rfl⟩
  have hr : r < 4294967296 := by rw [← HRR.out]; exact supR_lt hS0
  have hb : b < 4294967296 := by rw [← HBB.out]; exact supB_lt hS0
  rw [HRR.out] at ho1
  have HO1 := Lib.hid ho1
  clear ho1
  refine HO1.out.mono ?_
  rintro e w7 ⟨rfl, hq7⟩
  have HR7 := Lib.hid (show w7.rangeAt bs 0 (u8s S0) from ((Chg.refl [] w6).qt hq7).range HR6.out (by simp))
  have hb7 : bs < w7.heap.size := block_of_range HR7.out hS0
  have ho2 := of_any w7 (some ⟨bs, 5, none⟩) ((S0.drop 5).take 4) 59 w7.heap.size (ro_part HR7.out hb7 hS0 (by omega) (by omega)) (by rw [List.length_take, List.length_drop, hS0]; rfl)
  rw [show nb ((S0.drop 5).take 4) = supB S0 from rfl, HBB.out] at ho2
  have HO2 := Lib.hid ho2
  have HC7 := Lib.hid (show Chg [] X w7 from HC6.out.qt hq7)
  clear ho2 hq7 HO1
  dsimp only
  go_wp2_with fail
  refine HO2.out.mono ?_
  rintro e w8 ⟨rfl, hq8⟩
  have HR8 := Lib.hid (show w8.rangeAt bs 0 (u8s S0) from ((Chg.refl [] w7).qt hq8).range HR7.out (by simp))
  have HC8 := Lib.hid (show Chg [] X w8 from HC7.out.qt hq8)
  clear hq8 HO2 HR7 HR6 HC7 HC6 hb6 hb7
  dsimp only
  obtain ⟨h0, HH0⟩ : ∃ x, Hid (supH S0 = x) := ⟨_, Lib.hid rfl⟩
  have hh0 : h0 < 256 := by rw [← HH0.out]; exact supH_lt S0
  have cb0 : w8.cell? ⟨bs, 0, none⟩ = some (.int .u8 (h0 : Int)) := by
    have h1 := HR8.out 0 (.int .u8 (((S0.getD 0 0).toNat : Nat) : Int)) (by
      have : (u8s S0)[0]? = some (.int .u8 ((S0.getD 0 0).toNat : Int)) := by
        unfold u8s
        rw [List.getElem?_map, List.getElem?_eq_getElem (show 0 < S0.length by omega)]
        simp [List.getD, show 0 < S0.length by omega]
      exact this)
    rw [← HH0.out]
    unfold supH
    simpa using h1
  obtain ⟨s, HS⟩ : ∃ s, Hid (hsec n = s) := ⟨_, Lib.hid rfl⟩
  have hs : s ≤ 512 := by rw [← HS.out]; unfold hsec; omega
  obtain ⟨s64, hs64⟩ : ∃ x, x = s * 64 := ⟨_, rfl⟩
  have m0 : IntKind.i64.wrap (64 * (s : Int)) = (s64 : Int) := by rw [IntKind.wrap_i64]; omega
  have m1 : IntKind.i64.wrap (h0 : Int) = (h0 : Int) := by rw [IntKind.wrap_i64]; omega
  have HS64 := Lib.hid hs64
  have HSE := Lib.hid (show ∀ W, Chg [] w8 W → Calls Tryz.prog 34 #[.pointer (some ⟨w.heap.size, 0, none⟩)] W fun e w' => e = .returned (.int .i64 (s : Int)) ∧ W = w' from fun W hW => by
    have h := rsectors_any W (u := w.heap.size) ((HO.out.chg (HC8.out.trans hW) (by simp)).cell 0) (HD.out.kept ((HC.out.trans HC8.out).trans hW))
    rw [HS.out] at h
    exact h)
  obtain ⟨S1, HS1⟩ : ∃ x, Hid (supS h0 r b = x) := ⟨_, Lib.hid rfl⟩
  have hS1 : S1.length = 64 := by rw [← HS1.out]; exact supS_len _ _ _
  have HSU := Lib.hid (show ∀ W, Calls Tryz.prog 33 #[.int .i64 (h0 : Int), .int .i64 (r : Int), .int .i64 (b : Int)] W fun e w' => e = .returned (sv S1) ∧ Chg [] W w' from fun W => by
    have h := rsuper_any W h0 r b hh0 hr hb
    rw [HS1.out] at h
    exact h)
  have hst : (fun W : World => W.cell? ⟨bs, 0, none⟩ = some (.int .u8 (h0 : Int)) ∧ W.rangeAt bs 0 (u8s S0)) w8.drew := ⟨cb0, (Chg.refl [] w8).drew.range HR8.out (by simp)⟩
  clear hs64 hbX c0w
  go_upto_region 7 with fail
  go_cut [48] from 29 to 48 (fun v wx => ∃ T : Bool, v = .bool T ∧ (T = false ↔ (h0 ≤ 1 ∧ S0 = S1 ∧ b ≤ s64)) ∧ Chg [] w8 wx)
  case first =>
    by_cases g1 : h0 ≤ 1
    · have e1 : decide ((1 : Int) < (h0 : Int)) = false := by simp; omega
      have e1' : decide (1 < h0) = false := by simp; omega
      by_cases g2 : S0 = S1
      · have HEQ : ∀ w, (Op.equalIn 10000 50 (.agg (u8s S0).toArray) (.agg (u8s S1).toArray)).run Tryz.prog w = .ok true w := fun w => by rw [eq40 S0 S1 hS0 hS1, decide_eq_true g2]
        have G2 := Lib.hid g2
        clear g2
        by_cases g3 : b ≤ s64
        · have e3 : decide ((s64 : Int) < (b : Int)) = false := by simp; omega
          have e3' : decide (s64 < b) = false := by simp; omega
          go_wp2_with fail
          refine wp_region_held_drew (S := (fun W : World => W.cell? ⟨bs, 0, none⟩ = some (.int .u8 (h0 : Int)) ∧ W.rangeAt bs 0 (u8s S0))) (by kernel_rfl) hst (fun hHeld => ?_)
          refine wpAnyH_take (i := 0) (v := ?_) rfl (by kernel_rfl) (by kernel_rfl) (by kernel_rfl) (fun _ _ _ h => h) (Or.inl ⟨by kernel_rfl, ?_⟩) hHeld ?_
          rotate_left
          · (intro w hSw; first | (go_simp; done) | (go_simp; with_reducible rfl))
          (try simp only [Act.put, List.getElem_toArray, List.getElem_cons_succ, List.getElem_cons_zero, List.setIfInBounds_toArray, List.set_cons_zero, List.set_cons_succ])
          refine wpAnyH_take (i := 1) (v := ?_) rfl (by kernel_rfl) (by kernel_rfl) (by kernel_rfl) (fun _ _ _ h => h) (Or.inl ⟨by kernel_rfl, ?_⟩) hHeld ?_
          rotate_left
          · (intro w hSw; first | (go_simp; done) | (go_simp; with_reducible rfl))
          (try simp only [Act.put, List.getElem_toArray, List.getElem_cons_succ, List.getElem_cons_zero, List.setIfInBounds_toArray, List.set_cons_zero, List.set_cons_succ])
          refine wpAnyH_take (i := 2) (v := ?_) rfl (by kernel_rfl) (by kernel_rfl) (by kernel_rfl) (fun _ _ _ h => h) (Or.inl ⟨by kernel_rfl, ?_⟩) hHeld ?_
          rotate_left
          · (intro w hSw; first | (go_simp; done) | (go_simp; with_reducible rfl))
          (try simp only [Act.put, List.getElem_toArray, List.getElem_cons_succ, List.getElem_cons_zero, List.setIfInBounds_toArray, List.set_cons_zero, List.set_cons_succ])
          refine wpAnyH_take (i := 3) (v := ?_) rfl (by kernel_rfl) (by kernel_rfl) (by kernel_rfl) (fun _ _ _ h => h) (Or.inl ⟨by kernel_rfl, ?_⟩) hHeld ?_
          rotate_left
          · (intro w hSw; first | (go_simp; done) | (go_simp; with_reducible rfl))
          (try simp only [Act.put, List.getElem_toArray, List.getElem_cons_succ, List.getElem_cons_zero, List.setIfInBounds_toArray, List.set_cons_zero, List.set_cons_succ])
          refine wpAnyH_take (i := 4) (v := sv S0) rfl (by kernel_rfl) (by kernel_rfl) (by kernel_rfl) (fun _ _ _ h => h) (Or.inl ⟨by kernel_rfl, ?_⟩) hHeld ?_
          · (intro w hSw; exact exec_load40 rfl _ 0 rfl S0 hSw.2 hS0)
          (try simp only [Act.put, List.getElem_toArray, List.getElem_cons_succ, List.getElem_cons_zero, List.setIfInBounds_toArray, List.set_cons_zero, List.set_cons_succ])
          refine wpAnyH_take (i := 5) (v := ?_) rfl (by kernel_rfl) (by kernel_rfl) (by kernel_rfl) (fun _ _ _ h => h) (Or.inl ⟨by kernel_rfl, ?_⟩) hHeld ?_
          rotate_left
          · (intro w hSw; first | (go_simp; done) | (go_simp; with_reducible rfl))
          (try simp only [Act.put, List.getElem_toArray, List.getElem_cons_succ, List.getElem_cons_zero, List.setIfInBounds_toArray, List.set_cons_zero, List.set_cons_succ])
          refine wpAnyH_take (i := 6) (v := ?_) rfl (by kernel_rfl) (by kernel_rfl) (by kernel_rfl) (fun _ _ _ h => h) (Or.inl ⟨by kernel_rfl, ?_⟩) hHeld ?_
          rotate_left
          · (intro w hSw; first | (go_simp; done) | (go_simp; with_reducible rfl))
          (try simp only [Act.put, List.getElem_toArray, List.getElem_cons_succ, List.getElem_cons_zero, List.setIfInBounds_toArray, List.set_cons_zero, List.set_cons_succ])
          refine wpAnyH_take (i := 7) (v := ?_) rfl (by kernel_rfl) (by kernel_rfl) (by kernel_rfl) (fun _ _ _ h => h) (Or.inl ⟨by kernel_rfl, ?_⟩) hHeld ?_
          rotate_left
          · (intro w hSw; first | (go_simp; done) | (go_simp; with_reducible rfl))
          (try simp only [Act.put, List.getElem_toArray, List.getElem_cons_succ, List.getElem_cons_zero, List.setIfInBounds_toArray, List.set_cons_zero, List.set_cons_succ])
          refine wpAnyH_take (i := 8) (v := ?_) rfl (by kernel_rfl) (by kernel_rfl) (by kernel_rfl) (fun _ _ _ h => h) (Or.inl ⟨by kernel_rfl, ?_⟩) hHeld ?_
          rotate_left
          · (intro w hSw; first | (go_simp; done) | (go_simp; with_reducible rfl))
          (try simp only [Act.put, List.getElem_toArray, List.getElem_cons_succ, List.getElem_cons_zero, List.setIfInBounds_toArray, List.set_cons_zero, List.set_cons_succ])
          refine wpAnyH_take (i := 9) (v := ?_) rfl (by kernel_rfl) (by kernel_rfl) (by kernel_rfl) (fun _ _ _ h => h) (Or.inl ⟨by kernel_rfl, ?_⟩) hHeld ?_
          rotate_left
          · (intro w hSw; first | (go_simp; done) | (go_simp; with_reducible rfl))
          (try simp only [Act.put, List.getElem_toArray, List.getElem_cons_succ, List.getElem_cons_zero, List.setIfInBounds_toArray, List.set_cons_zero, List.set_cons_succ])
          refine wpAnyH_ready (rs := [10]) (by kernel_rfl) (by simp) (AllReadyH.cons rfl (fun K hK => ?_) AllReadyH.nil)
          have hH := hHeld
          (go_simp; go_at_call 33; refine (HSU.out _).mono ?_; rintro e w10 ⟨rfl, hc10⟩)
          refine hK.out _ _ (by exact ⟨hc10.cell hH.1 (by simp), hc10.range hH.2 (by simp)⟩) (fun hHq1 => ?_)
          clear hK K hH 
          (try simp only [Act.put, List.getElem_toArray, List.getElem_cons_succ, List.getElem_cons_zero, List.setIfInBounds_toArray, List.set_cons_zero, List.set_cons_succ])
          refine wpAnyH_take (i := 11) (v := ?_) rfl (by kernel_rfl) (by kernel_rfl) (by kernel_rfl) (fun _ _ _ h => h) (Or.inl ⟨by kernel_rfl, ?_⟩) hHq1 ?_
          rotate_left
          · (intro w hSw; first | (go_simp; done) | (go_simp; with_reducible rfl))
          (try simp only [Act.put, List.getElem_toArray, List.getElem_cons_succ, List.getElem_cons_zero, List.setIfInBounds_toArray, List.set_cons_zero, List.set_cons_succ])
          refine wpAnyH_take (i := 12) (v := ?_) rfl (by kernel_rfl) (by kernel_rfl) (by kernel_rfl) (fun _ _ _ h => h) (Or.inl ⟨by kernel_rfl, ?_⟩) hHq1 ?_
          rotate_left
          · (intro w hSw; first | (go_simp; done) | (go_simp; with_reducible rfl))
          (try simp only [Act.put, List.getElem_toArray, List.getElem_cons_succ, List.getElem_cons_zero, List.setIfInBounds_toArray, List.set_cons_zero, List.set_cons_succ])
          refine wpAnyH_take (i := 13) (v := ?_) rfl (by kernel_rfl) (by kernel_rfl) (by kernel_rfl) (fun _ _ _ h => h) (Or.inl ⟨by kernel_rfl, ?_⟩) hHq1 ?_
          rotate_left
          · (intro w hSw; first | (go_simp; done) | (go_simp; with_reducible rfl))
          (try simp only [Act.put, List.getElem_toArray, List.getElem_cons_succ, List.getElem_cons_zero, List.setIfInBounds_toArray, List.set_cons_zero, List.set_cons_succ])
          refine wpAnyH_take (i := 14) (v := ?_) rfl (by kernel_rfl) (by kernel_rfl) (by kernel_rfl) (fun _ _ _ h => h) (Or.inl ⟨by kernel_rfl, ?_⟩) hHq1 ?_
          rotate_left
          · (intro w hSw; first | (go_simp; done) | (go_simp; with_reducible rfl))
          (try simp only [Act.put, List.getElem_toArray, List.getElem_cons_succ, List.getElem_cons_zero, List.setIfInBounds_toArray, List.set_cons_zero, List.set_cons_succ])
          refine wpAnyH_take (i := 15) (v := ?_) rfl (by kernel_rfl) (by kernel_rfl) (by kernel_rfl) (fun _ _ _ h => h) (Or.inl ⟨by kernel_rfl, ?_⟩) hHq1 ?_
          rotate_left
          · (intro w hSw; first | (go_simp; done) | (go_simp; with_reducible rfl))
          (try simp only [Act.put, List.getElem_toArray, List.getElem_cons_succ, List.getElem_cons_zero, List.setIfInBounds_toArray, List.set_cons_zero, List.set_cons_succ])
          refine wpAnyH_ready (rs := [16]) (by kernel_rfl) (by simp) (AllReadyH.cons rfl (fun K hK => ?_) AllReadyH.nil)
          have hH := hHq1
          (go_simp; go_at_call 34; refine (HSE.out _ ((Chg.refl [] w8).drew.trans hc10)).mono ?_; rintro e w' ⟨rfl, rfl⟩)
          refine hK.out _ _ (by exact hH) (fun hHq2 => ?_)
          clear hK K hH hHq1
          (try simp only [Act.put, List.getElem_toArray, List.getElem_cons_succ, List.getElem_cons_zero, List.setIfInBounds_toArray, List.set_cons_zero, List.set_cons_succ])
          refine wpAnyH_take (i := 17) (v := ?_) rfl (by kernel_rfl) (by kernel_rfl) (by kernel_rfl) (fun _ _ _ h => h) (Or.inl ⟨by kernel_rfl, ?_⟩) hHq2 ?_
          rotate_left
          · (intro w hSw; first | (go_simp; done) | (go_simp; with_reducible rfl))
          (try simp only [Act.put, List.getElem_toArray, List.getElem_cons_succ, List.getElem_cons_zero, List.setIfInBounds_toArray, List.set_cons_zero, List.set_cons_succ])
          refine wpAnyH_take (i := 18) (v := ?_) rfl (by kernel_rfl) (by kernel_rfl) (by kernel_rfl) (fun _ _ _ h => h) (Or.inl ⟨by kernel_rfl, ?_⟩) hHq2 ?_
          rotate_left
          · (intro w hSw; first | (go_simp; done) | (go_simp; with_reducible rfl))
          (try simp only [Act.put, List.getElem_toArray, List.getElem_cons_succ, List.getElem_cons_zero, List.setIfInBounds_toArray, List.set_cons_zero, List.set_cons_succ])
          refine wpAnyH_take (i := 19) (v := ?_) rfl (by kernel_rfl) (by kernel_rfl) (by kernel_rfl) (fun _ _ _ h => h) (Or.inl ⟨by kernel_rfl, ?_⟩) hHq2 ?_
          rotate_left
          · (intro w hSw; first | (go_simp; done) | (go_simp; with_reducible rfl))
          (try simp only [Act.put, List.getElem_toArray, List.getElem_cons_succ, List.getElem_cons_zero, List.setIfInBounds_toArray, List.set_cons_zero, List.set_cons_succ])
          refine wpAnyH_done (by kernel_rfl) ?_ _
          have hEnd := hHq2
          clear hEnd
          go_wp2_with fail
          go_meet
          case rel => exact ⟨false, rfl, ⟨fun _ => ⟨g1, G2.out, g3⟩, fun _ => rfl⟩, (Chg.refl [] w8).drew.trans hc10⟩
        · have e3 : decide ((s64 : Int) < (b : Int)) = true := by simp; omega
          have e3' : decide (s64 < b) = true := by simp; omega
          go_wp2_with fail
          refine wp_region_held_drew (S := (fun W : World => W.cell? ⟨bs, 0, none⟩ = some (.int .u8 (h0 : Int)) ∧ W.rangeAt bs 0 (u8s S0))) (by kernel_rfl) hst (fun hHeld => ?_)
          refine wpAnyH_take (i := 0) (v := ?_) rfl (by kernel_rfl) (by kernel_rfl) (by kernel_rfl) (fun _ _ _ h => h) (Or.inl ⟨by kernel_rfl, ?_⟩) hHeld ?_
          rotate_left
          · (intro w hSw; first | (go_simp; done) | (go_simp; with_reducible rfl))
          (try simp only [Act.put, List.getElem_toArray, List.getElem_cons_succ, List.getElem_cons_zero, List.setIfInBounds_toArray, List.set_cons_zero, List.set_cons_succ])
          refine wpAnyH_take (i := 1) (v := ?_) rfl (by kernel_rfl) (by kernel_rfl) (by kernel_rfl) (fun _ _ _ h => h) (Or.inl ⟨by kernel_rfl, ?_⟩) hHeld ?_
          rotate_left
          · (intro w hSw; first | (go_simp; done) | (go_simp; with_reducible rfl))
          (try simp only [Act.put, List.getElem_toArray, List.getElem_cons_succ, List.getElem_cons_zero, List.setIfInBounds_toArray, List.set_cons_zero, List.set_cons_succ])
          refine wpAnyH_take (i := 2) (v := ?_) rfl (by kernel_rfl) (by kernel_rfl) (by kernel_rfl) (fun _ _ _ h => h) (Or.inl ⟨by kernel_rfl, ?_⟩) hHeld ?_
          rotate_left
          · (intro w hSw; first | (go_simp; done) | (go_simp; with_reducible rfl))
          (try simp only [Act.put, List.getElem_toArray, List.getElem_cons_succ, List.getElem_cons_zero, List.setIfInBounds_toArray, List.set_cons_zero, List.set_cons_succ])
          refine wpAnyH_take (i := 3) (v := ?_) rfl (by kernel_rfl) (by kernel_rfl) (by kernel_rfl) (fun _ _ _ h => h) (Or.inl ⟨by kernel_rfl, ?_⟩) hHeld ?_
          rotate_left
          · (intro w hSw; first | (go_simp; done) | (go_simp; with_reducible rfl))
          (try simp only [Act.put, List.getElem_toArray, List.getElem_cons_succ, List.getElem_cons_zero, List.setIfInBounds_toArray, List.set_cons_zero, List.set_cons_succ])
          refine wpAnyH_take (i := 4) (v := sv S0) rfl (by kernel_rfl) (by kernel_rfl) (by kernel_rfl) (fun _ _ _ h => h) (Or.inl ⟨by kernel_rfl, ?_⟩) hHeld ?_
          · (intro w hSw; exact exec_load40 rfl _ 0 rfl S0 hSw.2 hS0)
          (try simp only [Act.put, List.getElem_toArray, List.getElem_cons_succ, List.getElem_cons_zero, List.setIfInBounds_toArray, List.set_cons_zero, List.set_cons_succ])
          refine wpAnyH_take (i := 5) (v := ?_) rfl (by kernel_rfl) (by kernel_rfl) (by kernel_rfl) (fun _ _ _ h => h) (Or.inl ⟨by kernel_rfl, ?_⟩) hHeld ?_
          rotate_left
          · (intro w hSw; first | (go_simp; done) | (go_simp; with_reducible rfl))
          (try simp only [Act.put, List.getElem_toArray, List.getElem_cons_succ, List.getElem_cons_zero, List.setIfInBounds_toArray, List.set_cons_zero, List.set_cons_succ])
          refine wpAnyH_take (i := 6) (v := ?_) rfl (by kernel_rfl) (by kernel_rfl) (by kernel_rfl) (fun _ _ _ h => h) (Or.inl ⟨by kernel_rfl, ?_⟩) hHeld ?_
          rotate_left
          · (intro w hSw; first | (go_simp; done) | (go_simp; with_reducible rfl))
          (try simp only [Act.put, List.getElem_toArray, List.getElem_cons_succ, List.getElem_cons_zero, List.setIfInBounds_toArray, List.set_cons_zero, List.set_cons_succ])
          refine wpAnyH_take (i := 7) (v := ?_) rfl (by kernel_rfl) (by kernel_rfl) (by kernel_rfl) (fun _ _ _ h => h) (Or.inl ⟨by kernel_rfl, ?_⟩) hHeld ?_
          rotate_left
          · (intro w hSw; first | (go_simp; done) | (go_simp; with_reducible rfl))
          (try simp only [Act.put, List.getElem_toArray, List.getElem_cons_succ, List.getElem_cons_zero, List.setIfInBounds_toArray, List.set_cons_zero, List.set_cons_succ])
          refine wpAnyH_take (i := 8) (v := ?_) rfl (by kernel_rfl) (by kernel_rfl) (by kernel_rfl) (fun _ _ _ h => h) (Or.inl ⟨by kernel_rfl, ?_⟩) hHeld ?_
          rotate_left
          · (intro w hSw; first | (go_simp; done) | (go_simp; with_reducible rfl))
          (try simp only [Act.put, List.getElem_toArray, List.getElem_cons_succ, List.getElem_cons_zero, List.setIfInBounds_toArray, List.set_cons_zero, List.set_cons_succ])
          refine wpAnyH_take (i := 9) (v := ?_) rfl (by kernel_rfl) (by kernel_rfl) (by kernel_rfl) (fun _ _ _ h => h) (Or.inl ⟨by kernel_rfl, ?_⟩) hHeld ?_
          rotate_left
          · (intro w hSw; first | (go_simp; done) | (go_simp; with_reducible rfl))
          (try simp only [Act.put, List.getElem_toArray, List.getElem_cons_succ, List.getElem_cons_zero, List.setIfInBounds_toArray, List.set_cons_zero, List.set_cons_succ])
          refine wpAnyH_ready (rs := [10]) (by kernel_rfl) (by simp) (AllReadyH.cons rfl (fun K hK => ?_) AllReadyH.nil)
          have hH := hHeld
          (go_simp; go_at_call 33; refine (HSU.out _).mono ?_; rintro e w10 ⟨rfl, hc10⟩)
          refine hK.out _ _ (by exact ⟨hc10.cell hH.1 (by simp), hc10.range hH.2 (by simp)⟩) (fun hHq1 => ?_)
          clear hK K hH 
          (try simp only [Act.put, List.getElem_toArray, List.getElem_cons_succ, List.getElem_cons_zero, List.setIfInBounds_toArray, List.set_cons_zero, List.set_cons_succ])
          refine wpAnyH_take (i := 11) (v := ?_) rfl (by kernel_rfl) (by kernel_rfl) (by kernel_rfl) (fun _ _ _ h => h) (Or.inl ⟨by kernel_rfl, ?_⟩) hHq1 ?_
          rotate_left
          · (intro w hSw; first | (go_simp; done) | (go_simp; with_reducible rfl))
          (try simp only [Act.put, List.getElem_toArray, List.getElem_cons_succ, List.getElem_cons_zero, List.setIfInBounds_toArray, List.set_cons_zero, List.set_cons_succ])
          refine wpAnyH_take (i := 12) (v := ?_) rfl (by kernel_rfl) (by kernel_rfl) (by kernel_rfl) (fun _ _ _ h => h) (Or.inl ⟨by kernel_rfl, ?_⟩) hHq1 ?_
          rotate_left
          · (intro w hSw; first | (go_simp; done) | (go_simp; with_reducible rfl))
          (try simp only [Act.put, List.getElem_toArray, List.getElem_cons_succ, List.getElem_cons_zero, List.setIfInBounds_toArray, List.set_cons_zero, List.set_cons_succ])
          refine wpAnyH_take (i := 13) (v := ?_) rfl (by kernel_rfl) (by kernel_rfl) (by kernel_rfl) (fun _ _ _ h => h) (Or.inl ⟨by kernel_rfl, ?_⟩) hHq1 ?_
          rotate_left
          · (intro w hSw; first | (go_simp; done) | (go_simp; with_reducible rfl))
          (try simp only [Act.put, List.getElem_toArray, List.getElem_cons_succ, List.getElem_cons_zero, List.setIfInBounds_toArray, List.set_cons_zero, List.set_cons_succ])
          refine wpAnyH_take (i := 14) (v := ?_) rfl (by kernel_rfl) (by kernel_rfl) (by kernel_rfl) (fun _ _ _ h => h) (Or.inl ⟨by kernel_rfl, ?_⟩) hHq1 ?_
          rotate_left
          · (intro w hSw; first | (go_simp; done) | (go_simp; with_reducible rfl))
          (try simp only [Act.put, List.getElem_toArray, List.getElem_cons_succ, List.getElem_cons_zero, List.setIfInBounds_toArray, List.set_cons_zero, List.set_cons_succ])
          refine wpAnyH_take (i := 15) (v := ?_) rfl (by kernel_rfl) (by kernel_rfl) (by kernel_rfl) (fun _ _ _ h => h) (Or.inl ⟨by kernel_rfl, ?_⟩) hHq1 ?_
          rotate_left
          · (intro w hSw; first | (go_simp; done) | (go_simp; with_reducible rfl))
          (try simp only [Act.put, List.getElem_toArray, List.getElem_cons_succ, List.getElem_cons_zero, List.setIfInBounds_toArray, List.set_cons_zero, List.set_cons_succ])
          refine wpAnyH_ready (rs := [16]) (by kernel_rfl) (by simp) (AllReadyH.cons rfl (fun K hK => ?_) AllReadyH.nil)
          have hH := hHq1
          (go_simp; go_at_call 34; refine (HSE.out _ ((Chg.refl [] w8).drew.trans hc10)).mono ?_; rintro e w' ⟨rfl, rfl⟩)
          refine hK.out _ _ (by exact hH) (fun hHq2 => ?_)
          clear hK K hH hHq1
          (try simp only [Act.put, List.getElem_toArray, List.getElem_cons_succ, List.getElem_cons_zero, List.setIfInBounds_toArray, List.set_cons_zero, List.set_cons_succ])
          refine wpAnyH_take (i := 17) (v := ?_) rfl (by kernel_rfl) (by kernel_rfl) (by kernel_rfl) (fun _ _ _ h => h) (Or.inl ⟨by kernel_rfl, ?_⟩) hHq2 ?_
          rotate_left
          · (intro w hSw; first | (go_simp; done) | (go_simp; with_reducible rfl))
          (try simp only [Act.put, List.getElem_toArray, List.getElem_cons_succ, List.getElem_cons_zero, List.setIfInBounds_toArray, List.set_cons_zero, List.set_cons_succ])
          refine wpAnyH_take (i := 18) (v := ?_) rfl (by kernel_rfl) (by kernel_rfl) (by kernel_rfl) (fun _ _ _ h => h) (Or.inl ⟨by kernel_rfl, ?_⟩) hHq2 ?_
          rotate_left
          · (intro w hSw; first | (go_simp; done) | (go_simp; with_reducible rfl))
          (try simp only [Act.put, List.getElem_toArray, List.getElem_cons_succ, List.getElem_cons_zero, List.setIfInBounds_toArray, List.set_cons_zero, List.set_cons_succ])
          refine wpAnyH_take (i := 19) (v := ?_) rfl (by kernel_rfl) (by kernel_rfl) (by kernel_rfl) (fun _ _ _ h => h) (Or.inl ⟨by kernel_rfl, ?_⟩) hHq2 ?_
          rotate_left
          · (intro w hSw; first | (go_simp; done) | (go_simp; with_reducible rfl))
          (try simp only [Act.put, List.getElem_toArray, List.getElem_cons_succ, List.getElem_cons_zero, List.setIfInBounds_toArray, List.set_cons_zero, List.set_cons_succ])
          refine wpAnyH_done (by kernel_rfl) ?_ _
          have hEnd := hHq2
          clear hEnd
          go_wp2_with fail
          go_meet
          case rel => exact ⟨true, rfl, ⟨(fun h => nomatch h), fun h => absurd h.2.2 g3⟩, (Chg.refl [] w8).drew.trans hc10⟩
      · have HEQ : ∀ w, (Op.equalIn 10000 50 (.agg (u8s S0).toArray) (.agg (u8s S1).toArray)).run Tryz.prog w = .ok false w := fun w => by rw [eq40 S0 S1 hS0 hS1, decide_eq_false g2]
        have G2 := Lib.hid g2
        clear g2
        go_wp2_with fail
        refine wp_region_held_drew (S := (fun W : World => W.cell? ⟨bs, 0, none⟩ = some (.int .u8 (h0 : Int)) ∧ W.rangeAt bs 0 (u8s S0))) (by kernel_rfl) hst (fun hHeld => ?_)
        refine wpAnyH_take (i := 0) (v := ?_) rfl (by kernel_rfl) (by kernel_rfl) (by kernel_rfl) (fun _ _ _ h => h) (Or.inl ⟨by kernel_rfl, ?_⟩) hHeld ?_
        rotate_left
        · (intro w hSw; first | (go_simp; done) | (go_simp; with_reducible rfl))
        (try simp only [Act.put, List.getElem_toArray, List.getElem_cons_succ, List.getElem_cons_zero, List.setIfInBounds_toArray, List.set_cons_zero, List.set_cons_succ])
        refine wpAnyH_take (i := 1) (v := ?_) rfl (by kernel_rfl) (by kernel_rfl) (by kernel_rfl) (fun _ _ _ h => h) (Or.inl ⟨by kernel_rfl, ?_⟩) hHeld ?_
        rotate_left
        · (intro w hSw; first | (go_simp; done) | (go_simp; with_reducible rfl))
        (try simp only [Act.put, List.getElem_toArray, List.getElem_cons_succ, List.getElem_cons_zero, List.setIfInBounds_toArray, List.set_cons_zero, List.set_cons_succ])
        refine wpAnyH_take (i := 2) (v := ?_) rfl (by kernel_rfl) (by kernel_rfl) (by kernel_rfl) (fun _ _ _ h => h) (Or.inl ⟨by kernel_rfl, ?_⟩) hHeld ?_
        rotate_left
        · (intro w hSw; first | (go_simp; done) | (go_simp; with_reducible rfl))
        (try simp only [Act.put, List.getElem_toArray, List.getElem_cons_succ, List.getElem_cons_zero, List.setIfInBounds_toArray, List.set_cons_zero, List.set_cons_succ])
        refine wpAnyH_take (i := 3) (v := ?_) rfl (by kernel_rfl) (by kernel_rfl) (by kernel_rfl) (fun _ _ _ h => h) (Or.inl ⟨by kernel_rfl, ?_⟩) hHeld ?_
        rotate_left
        · (intro w hSw; first | (go_simp; done) | (go_simp; with_reducible rfl))
        (try simp only [Act.put, List.getElem_toArray, List.getElem_cons_succ, List.getElem_cons_zero, List.setIfInBounds_toArray, List.set_cons_zero, List.set_cons_succ])
        refine wpAnyH_take (i := 4) (v := sv S0) rfl (by kernel_rfl) (by kernel_rfl) (by kernel_rfl) (fun _ _ _ h => h) (Or.inl ⟨by kernel_rfl, ?_⟩) hHeld ?_
        · (intro w hSw; exact exec_load40 rfl _ 0 rfl S0 hSw.2 hS0)
        (try simp only [Act.put, List.getElem_toArray, List.getElem_cons_succ, List.getElem_cons_zero, List.setIfInBounds_toArray, List.set_cons_zero, List.set_cons_succ])
        refine wpAnyH_take (i := 5) (v := ?_) rfl (by kernel_rfl) (by kernel_rfl) (by kernel_rfl) (fun _ _ _ h => h) (Or.inl ⟨by kernel_rfl, ?_⟩) hHeld ?_
        rotate_left
        · (intro w hSw; first | (go_simp; done) | (go_simp; with_reducible rfl))
        (try simp only [Act.put, List.getElem_toArray, List.getElem_cons_succ, List.getElem_cons_zero, List.setIfInBounds_toArray, List.set_cons_zero, List.set_cons_succ])
        refine wpAnyH_take (i := 6) (v := ?_) rfl (by kernel_rfl) (by kernel_rfl) (by kernel_rfl) (fun _ _ _ h => h) (Or.inl ⟨by kernel_rfl, ?_⟩) hHeld ?_
        rotate_left
        · (intro w hSw; first | (go_simp; done) | (go_simp; with_reducible rfl))
        (try simp only [Act.put, List.getElem_toArray, List.getElem_cons_succ, List.getElem_cons_zero, List.setIfInBounds_toArray, List.set_cons_zero, List.set_cons_succ])
        refine wpAnyH_take (i := 7) (v := ?_) rfl (by kernel_rfl) (by kernel_rfl) (by kernel_rfl) (fun _ _ _ h => h) (Or.inl ⟨by kernel_rfl, ?_⟩) hHeld ?_
        rotate_left
        · (intro w hSw; first | (go_simp; done) | (go_simp; with_reducible rfl))
        (try simp only [Act.put, List.getElem_toArray, List.getElem_cons_succ, List.getElem_cons_zero, List.setIfInBounds_toArray, List.set_cons_zero, List.set_cons_succ])
        refine wpAnyH_take (i := 8) (v := ?_) rfl (by kernel_rfl) (by kernel_rfl) (by kernel_rfl) (fun _ _ _ h => h) (Or.inl ⟨by kernel_rfl, ?_⟩) hHeld ?_
        rotate_left
        · (intro w hSw; first | (go_simp; done) | (go_simp; with_reducible rfl))
        (try simp only [Act.put, List.getElem_toArray, List.getElem_cons_succ, List.getElem_cons_zero, List.setIfInBounds_toArray, List.set_cons_zero, List.set_cons_succ])
        refine wpAnyH_take (i := 9) (v := ?_) rfl (by kernel_rfl) (by kernel_rfl) (by kernel_rfl) (fun _ _ _ h => h) (Or.inl ⟨by kernel_rfl, ?_⟩) hHeld ?_
        rotate_left
        · (intro w hSw; first | (go_simp; done) | (go_simp; with_reducible rfl))
        (try simp only [Act.put, List.getElem_toArray, List.getElem_cons_succ, List.getElem_cons_zero, List.setIfInBounds_toArray, List.set_cons_zero, List.set_cons_succ])
        refine wpAnyH_ready (rs := [10]) (by kernel_rfl) (by simp) (AllReadyH.cons rfl (fun K hK => ?_) AllReadyH.nil)
        have hH := hHeld
        (go_simp; go_at_call 33; refine (HSU.out _).mono ?_; rintro e w10 ⟨rfl, hc10⟩)
        refine hK.out _ _ (by exact ⟨hc10.cell hH.1 (by simp), hc10.range hH.2 (by simp)⟩) (fun hHq1 => ?_)
        clear hK K hH 
        (try simp only [Act.put, List.getElem_toArray, List.getElem_cons_succ, List.getElem_cons_zero, List.setIfInBounds_toArray, List.set_cons_zero, List.set_cons_succ])
        refine wpAnyH_take (i := 11) (v := ?_) rfl (by kernel_rfl) (by kernel_rfl) (by kernel_rfl) (fun _ _ _ h => h) (Or.inl ⟨by kernel_rfl, ?_⟩) hHq1 ?_
        rotate_left
        · (intro w hSw; first | (go_simp; done) | (go_simp; with_reducible rfl))
        (try simp only [Act.put, List.getElem_toArray, List.getElem_cons_succ, List.getElem_cons_zero, List.setIfInBounds_toArray, List.set_cons_zero, List.set_cons_succ])
        refine wpAnyH_take (i := 12) (v := ?_) rfl (by kernel_rfl) (by kernel_rfl) (by kernel_rfl) (fun _ _ _ h => h) (Or.inl ⟨by kernel_rfl, ?_⟩) hHq1 ?_
        rotate_left
        · (intro w hSw; first | (go_simp; done) | (go_simp; with_reducible rfl))
        (try simp only [Act.put, List.getElem_toArray, List.getElem_cons_succ, List.getElem_cons_zero, List.setIfInBounds_toArray, List.set_cons_zero, List.set_cons_succ])
        refine wpAnyH_take (i := 13) (v := ?_) rfl (by kernel_rfl) (by kernel_rfl) (by kernel_rfl) (fun _ _ _ h => h) (Or.inl ⟨by kernel_rfl, ?_⟩) hHq1 ?_
        rotate_left
        · (intro w hSw; first | (go_simp; done) | (go_simp; with_reducible rfl))
        (try simp only [Act.put, List.getElem_toArray, List.getElem_cons_succ, List.getElem_cons_zero, List.setIfInBounds_toArray, List.set_cons_zero, List.set_cons_succ])
        refine wpAnyH_take (i := 14) (v := undef) rfl (by kernel_rfl) (by kernel_rfl) (by kernel_rfl) (fun _ _ _ h => h) (Or.inr ⟨by kernel_rfl, rfl⟩) hHq1 ?_
        (try simp only [Act.put, List.getElem_toArray, List.getElem_cons_succ, List.getElem_cons_zero, List.setIfInBounds_toArray, List.set_cons_zero, List.set_cons_succ])
        refine wpAnyH_take (i := 15) (v := undef) rfl (by kernel_rfl) (by kernel_rfl) (by kernel_rfl) (fun _ _ _ h => h) (Or.inr ⟨by kernel_rfl, rfl⟩) hHq1 ?_
        (try simp only [Act.put, List.getElem_toArray, List.getElem_cons_succ, List.getElem_cons_zero, List.setIfInBounds_toArray, List.set_cons_zero, List.set_cons_succ])
        refine wpAnyH_take (i := 16) (v := undef) rfl (by kernel_rfl) (by kernel_rfl) (by kernel_rfl) (fun _ _ _ h => h) (Or.inr ⟨by kernel_rfl, rfl⟩) hHq1 ?_
        (try simp only [Act.put, List.getElem_toArray, List.getElem_cons_succ, List.getElem_cons_zero, List.setIfInBounds_toArray, List.set_cons_zero, List.set_cons_succ])
        refine wpAnyH_take (i := 17) (v := undef) rfl (by kernel_rfl) (by kernel_rfl) (by kernel_rfl) (fun _ _ _ h => h) (Or.inr ⟨by kernel_rfl, rfl⟩) hHq1 ?_
        (try simp only [Act.put, List.getElem_toArray, List.getElem_cons_succ, List.getElem_cons_zero, List.setIfInBounds_toArray, List.set_cons_zero, List.set_cons_succ])
        refine wpAnyH_take (i := 18) (v := undef) rfl (by kernel_rfl) (by kernel_rfl) (by kernel_rfl) (fun _ _ _ h => h) (Or.inr ⟨by kernel_rfl, rfl⟩) hHq1 ?_
        (try simp only [Act.put, List.getElem_toArray, List.getElem_cons_succ, List.getElem_cons_zero, List.setIfInBounds_toArray, List.set_cons_zero, List.set_cons_succ])
        refine wpAnyH_take (i := 19) (v := ?_) rfl (by kernel_rfl) (by kernel_rfl) (by kernel_rfl) (fun _ _ _ h => h) (Or.inl ⟨by kernel_rfl, ?_⟩) hHq1 ?_
        rotate_left
        · (intro w hSw; first | (go_simp; done) | (go_simp; with_reducible rfl))
        (try simp only [Act.put, List.getElem_toArray, List.getElem_cons_succ, List.getElem_cons_zero, List.setIfInBounds_toArray, List.set_cons_zero, List.set_cons_succ])
        refine wpAnyH_done (by kernel_rfl) ?_ _
        have hEnd := hHq1
        clear hEnd
        go_wp2_with fail
        go_meet
        case rel => exact ⟨true, rfl, ⟨(fun h => nomatch h), fun h => absurd h.2.1 G2.out⟩, (Chg.refl [] w8).drew.trans hc10⟩
    · have e1 : decide ((1 : Int) < (h0 : Int)) = true := by simp; omega
      have e1' : decide (1 < h0) = true := by simp; omega
      go_wp2_with fail
      refine wp_region_held_drew (S := (fun W : World => W.cell? ⟨bs, 0, none⟩ = some (.int .u8 (h0 : Int)) ∧ W.rangeAt bs 0 (u8s S0))) (by kernel_rfl) hst (fun hHeld => ?_)
      refine wpAnyH_take (i := 0) (v := ?_) rfl (by kernel_rfl) (by kernel_rfl) (by kernel_rfl) (fun _ _ _ h => h) (Or.inl ⟨by kernel_rfl, ?_⟩) hHeld ?_
      rotate_left
      · (intro w hSw; first | (go_simp; done) | (go_simp; with_reducible rfl))
      (try simp only [Act.put, List.getElem_toArray, List.getElem_cons_succ, List.getElem_cons_zero, List.setIfInBounds_toArray, List.set_cons_zero, List.set_cons_succ])
      refine wpAnyH_take (i := 1) (v := ?_) rfl (by kernel_rfl) (by kernel_rfl) (by kernel_rfl) (fun _ _ _ h => h) (Or.inl ⟨by kernel_rfl, ?_⟩) hHeld ?_
      rotate_left
      · (intro w hSw; first | (go_simp; done) | (go_simp; with_reducible rfl))
      (try simp only [Act.put, List.getElem_toArray, List.getElem_cons_succ, List.getElem_cons_zero, List.setIfInBounds_toArray, List.set_cons_zero, List.set_cons_succ])
      refine wpAnyH_take (i := 2) (v := ?_) rfl (by kernel_rfl) (by kernel_rfl) (by kernel_rfl) (fun _ _ _ h => h) (Or.inl ⟨by kernel_rfl, ?_⟩) hHeld ?_
      rotate_left
      · (intro w hSw; first | (go_simp; done) | (go_simp; with_reducible rfl))
      (try simp only [Act.put, List.getElem_toArray, List.getElem_cons_succ, List.getElem_cons_zero, List.setIfInBounds_toArray, List.set_cons_zero, List.set_cons_succ])
      refine wpAnyH_take (i := 3) (v := ?_) rfl (by kernel_rfl) (by kernel_rfl) (by kernel_rfl) (fun _ _ _ h => h) (Or.inl ⟨by kernel_rfl, ?_⟩) hHeld ?_
      rotate_left
      · (intro w hSw; first | (go_simp; done) | (go_simp; with_reducible rfl))
      (try simp only [Act.put, List.getElem_toArray, List.getElem_cons_succ, List.getElem_cons_zero, List.setIfInBounds_toArray, List.set_cons_zero, List.set_cons_succ])
      refine wpAnyH_take (i := 4) (v := undef) rfl (by kernel_rfl) (by kernel_rfl) (by kernel_rfl) (fun _ _ _ h => h) (Or.inr ⟨by kernel_rfl, rfl⟩) hHeld ?_
      (try simp only [Act.put, List.getElem_toArray, List.getElem_cons_succ, List.getElem_cons_zero, List.setIfInBounds_toArray, List.set_cons_zero, List.set_cons_succ])
      refine wpAnyH_take (i := 5) (v := undef) rfl (by kernel_rfl) (by kernel_rfl) (by kernel_rfl) (fun _ _ _ h => h) (Or.inr ⟨by kernel_rfl, rfl⟩) hHeld ?_
      (try simp only [Act.put, List.getElem_toArray, List.getElem_cons_succ, List.getElem_cons_zero, List.setIfInBounds_toArray, List.set_cons_zero, List.set_cons_succ])
      refine wpAnyH_take (i := 6) (v := undef) rfl (by kernel_rfl) (by kernel_rfl) (by kernel_rfl) (fun _ _ _ h => h) (Or.inr ⟨by kernel_rfl, rfl⟩) hHeld ?_
      (try simp only [Act.put, List.getElem_toArray, List.getElem_cons_succ, List.getElem_cons_zero, List.setIfInBounds_toArray, List.set_cons_zero, List.set_cons_succ])
      refine wpAnyH_take (i := 7) (v := undef) rfl (by kernel_rfl) (by kernel_rfl) (by kernel_rfl) (fun _ _ _ h => h) (Or.inr ⟨by kernel_rfl, rfl⟩) hHeld ?_
      (try simp only [Act.put, List.getElem_toArray, List.getElem_cons_succ, List.getElem_cons_zero, List.setIfInBounds_toArray, List.set_cons_zero, List.set_cons_succ])
      refine wpAnyH_take (i := 8) (v := undef) rfl (by kernel_rfl) (by kernel_rfl) (by kernel_rfl) (fun _ _ _ h => h) (Or.inr ⟨by kernel_rfl, rfl⟩) hHeld ?_
      (try simp only [Act.put, List.getElem_toArray, List.getElem_cons_succ, List.getElem_cons_zero, List.setIfInBounds_toArray, List.set_cons_zero, List.set_cons_succ])
      refine wpAnyH_take (i := 9) (v := undef) rfl (by kernel_rfl) (by kernel_rfl) (by kernel_rfl) (fun _ _ _ h => h) (Or.inr ⟨by kernel_rfl, rfl⟩) hHeld ?_
      (try simp only [Act.put, List.getElem_toArray, List.getElem_cons_succ, List.getElem_cons_zero, List.setIfInBounds_toArray, List.set_cons_zero, List.set_cons_succ])
      refine wpAnyH_take (i := 10) (v := undef) rfl (by kernel_rfl) (by kernel_rfl) (by kernel_rfl) (fun _ _ _ h => h) (Or.inr ⟨by kernel_rfl, rfl⟩) hHeld ?_
      (try simp only [Act.put, List.getElem_toArray, List.getElem_cons_succ, List.getElem_cons_zero, List.setIfInBounds_toArray, List.set_cons_zero, List.set_cons_succ])
      refine wpAnyH_take (i := 11) (v := undef) rfl (by kernel_rfl) (by kernel_rfl) (by kernel_rfl) (fun _ _ _ h => h) (Or.inr ⟨by kernel_rfl, rfl⟩) hHeld ?_
      (try simp only [Act.put, List.getElem_toArray, List.getElem_cons_succ, List.getElem_cons_zero, List.setIfInBounds_toArray, List.set_cons_zero, List.set_cons_succ])
      refine wpAnyH_take (i := 12) (v := ?_) rfl (by kernel_rfl) (by kernel_rfl) (by kernel_rfl) (fun _ _ _ h => h) (Or.inl ⟨by kernel_rfl, ?_⟩) hHeld ?_
      rotate_left
      · (intro w hSw; first | (go_simp; done) | (go_simp; with_reducible rfl))
      (try simp only [Act.put, List.getElem_toArray, List.getElem_cons_succ, List.getElem_cons_zero, List.setIfInBounds_toArray, List.set_cons_zero, List.set_cons_succ])
      refine wpAnyH_take (i := 13) (v := ?_) rfl (by kernel_rfl) (by kernel_rfl) (by kernel_rfl) (fun _ _ _ h => h) (Or.inl ⟨by kernel_rfl, ?_⟩) hHeld ?_
      rotate_left
      · (intro w hSw; first | (go_simp; done) | (go_simp; with_reducible rfl))
      (try simp only [Act.put, List.getElem_toArray, List.getElem_cons_succ, List.getElem_cons_zero, List.setIfInBounds_toArray, List.set_cons_zero, List.set_cons_succ])
      refine wpAnyH_take (i := 14) (v := undef) rfl (by kernel_rfl) (by kernel_rfl) (by kernel_rfl) (fun _ _ _ h => h) (Or.inr ⟨by kernel_rfl, rfl⟩) hHeld ?_
      (try simp only [Act.put, List.getElem_toArray, List.getElem_cons_succ, List.getElem_cons_zero, List.setIfInBounds_toArray, List.set_cons_zero, List.set_cons_succ])
      refine wpAnyH_take (i := 15) (v := undef) rfl (by kernel_rfl) (by kernel_rfl) (by kernel_rfl) (fun _ _ _ h => h) (Or.inr ⟨by kernel_rfl, rfl⟩) hHeld ?_
      (try simp only [Act.put, List.getElem_toArray, List.getElem_cons_succ, List.getElem_cons_zero, List.setIfInBounds_toArray, List.set_cons_zero, List.set_cons_succ])
      refine wpAnyH_take (i := 16) (v := undef) rfl (by kernel_rfl) (by kernel_rfl) (by kernel_rfl) (fun _ _ _ h => h) (Or.inr ⟨by kernel_rfl, rfl⟩) hHeld ?_
      (try simp only [Act.put, List.getElem_toArray, List.getElem_cons_succ, List.getElem_cons_zero, List.setIfInBounds_toArray, List.set_cons_zero, List.set_cons_succ])
      refine wpAnyH_take (i := 17) (v := undef) rfl (by kernel_rfl) (by kernel_rfl) (by kernel_rfl) (fun _ _ _ h => h) (Or.inr ⟨by kernel_rfl, rfl⟩) hHeld ?_
      (try simp only [Act.put, List.getElem_toArray, List.getElem_cons_succ, List.getElem_cons_zero, List.setIfInBounds_toArray, List.set_cons_zero, List.set_cons_succ])
      refine wpAnyH_take (i := 18) (v := undef) rfl (by kernel_rfl) (by kernel_rfl) (by kernel_rfl) (fun _ _ _ h => h) (Or.inr ⟨by kernel_rfl, rfl⟩) hHeld ?_
      (try simp only [Act.put, List.getElem_toArray, List.getElem_cons_succ, List.getElem_cons_zero, List.setIfInBounds_toArray, List.set_cons_zero, List.set_cons_succ])
      refine wpAnyH_take (i := 19) (v := ?_) rfl (by kernel_rfl) (by kernel_rfl) (by kernel_rfl) (fun _ _ _ h => h) (Or.inl ⟨by kernel_rfl, ?_⟩) hHeld ?_
      rotate_left
      · (intro w hSw; first | (go_simp; done) | (go_simp; with_reducible rfl))
      (try simp only [Act.put, List.getElem_toArray, List.getElem_cons_succ, List.getElem_cons_zero, List.setIfInBounds_toArray, List.set_cons_zero, List.set_cons_succ])
      refine wpAnyH_done (by kernel_rfl) ?_ _
      have hEnd := hHeld
      clear hEnd
      go_wp2_with fail
      go_meet
      case rel => exact ⟨true, rfl, ⟨(fun h => nomatch h), fun h => absurd h.1 g1⟩, (Chg.refl [] w8).drew⟩
  case rest =>
    obtain ⟨T, rfl, hT, hcw⟩ := hcut
    have HCW := Lib.hid (HC8.out.trans hcw)
    have cbw := hcw.cell cb0 (by simp)
    have HOW := Lib.hid (HO.out.chg HCW.out (by simp))
    have HB64 := Lib.hid (show s64 ≤ 32768 from by have := HS64.out; omega)
    have HINV := Lib.hid (show ∀ h L, Opens n R h L → h = h0 ∧ L.length = r ∧ (frs L).length = b ∧ h0 ≤ 1 ∧ S0 = S1 ∧ b ≤ s64 from fun h L o => by
      have h1 := o.room
      have h2 := frs_ge o.ok
      have h3 : hsec n * 64 ≤ 512 * 64 := Nat.mul_le_mul_right _ (by rw [HS.out]; exact hs)
      have h4 := sup_of o.half (show L.length < 4294967296 by omega) (show (frs L).length < 4294967296 by omega)
      have h5 : S0 = supS h L.length (frs L).length := by rw [← HS0.out]; exact o.sup
      rw [← h5, HH0.out, HRR.out, HBB.out] at h4
      refine ⟨h4.1.symm, h4.2.1.symm, h4.2.2.symm, by rw [h4.1]; exact o.half, by rw [← HS1.out, h5, h4.1, h4.2.1, h4.2.2], ?_⟩
      have h6 := HS64.out
      rw [HS.out] at h1
      omega)
    clear hcw cb0 hst HSE HSU HR8 HC8 HO
    cases T with
    | true =>
      have HNO := Lib.hid (show ∀ h L, ¬ Opens n R h L from fun h L o => by
        have h1 := HINV.out h L o
        exact absurd (hT.2 h1.2.2.2) (by simp))
      clear hT
      go_wp2_with fail
      go_ret2
      exact .inr ⟨HNO.out, rfl, HC.out.trans HCW.out⟩
    | false =>
      obtain ⟨g1, g2, g3⟩ := hT.1 rfl
      have HG2 := Lib.hid g2
      clear hT g2
      have i1 := HOW.out.cell 1
      have x1 := HOW.out.frozen 1
      obtain ⟨w9, HW9⟩ : ∃ W, Hid (wc.setCell ⟨w.heap.size, 1, none⟩ (.int .i64 (h0 : Int)) = W) := ⟨_, Lib.hid rfl⟩
      have ho9 : Own w9 w.heap.size 81 [.pointer (some ⟨q, 0, none⟩), .int .i64 (h0 : Int), .slice none 0 0, .slice none 0 0, .bool false, .int .i64 0] := by rw [← HW9.out]; exact HOW.out.set 1 _
      have hc9 : Chg [] w w9 := by rw [← HW9.out]; exact (HC.out.trans HCW.out).setCell (.inr (Nat.le_refl _)) _
      have HO9 := Lib.hid ho9
      have HC9 := Lib.hid hc9
      have j1 : w9.cell? ⟨w.heap.size, 1, none⟩ = some (.int .i64 (h0 : Int)) := ho9.cell 1
      have HHF := Lib.hid (rhalf_any w9 (u := w.heap.size) h0 (ho9.cell 0) (HD.out.kept hc9) g1)
      clear ho9 hc9
      go_upto_region 10 with fail
      simp only [HW9.out]
      go_wp2_with fail
      refine HHF.out.mono ?_
      rintro e w10 ⟨vH, rfl, h10⟩
      obtain ⟨aH, cH, rfl⟩ := h10.lst.sl8
      have hhl : (halfB n R h0).length = s64 := by unfold halfB; rw [cat_len HD.out.lenN, HS.out, HS64.out]
      obtain ⟨BH, HBH⟩ : ∃ x, Hid (halfB n R h0 = x) := ⟨_, Lib.hid rfl⟩
      rw [HBH.out] at h10 hhl ⊢
      have hcap : s64 ≤ cH ∧ cH ≤ 9223372036854775807 := by
        obtain ⟨_, _, e5, _, h6, _⟩ := h10.lst.form
        injection e5 with _ _ e6
        rw [← e6, u8s_length, hhl] at h6
        exact ⟨h6, lst_cap h10.lst⟩
      have htl : (BH.take b).length = b := by rw [List.length_take, hhl]; omega
      have hpa := parse_any w10 aH (BH.take b) cH r (by have := h10.ro.take b; rw [show (u8s BH).take b = u8s (BH.take b) from by simp [u8s, List.map_take]] at this; exact this) (by rw [htl]; omega) hcap.2 (by rw [htl]; have := HB64.out; omega)
      rw [htl] at hpa
      have HPA := Lib.hid hpa
      rw [hhl]
      have H10 := Lib.hid h10
      have z1 : (b : Int) ≤ (s64 : Int) := by omega
      have z2 : (s64 : Int) ≤ (cH : Int) := by omega
      have z3 : (b : Int) ≤ (cH : Int) := by omega
      have HG3 := Lib.hid g3
      have HG1 := Lib.hid g1
      dsimp only
      clear hpa h10 hcap hhl HHF j1 g3 g1 i1 x1 cbw htl
      go_wp2_with fail
      refine HPA.out.mono ?_
      rintro e w11 ⟨a', xs, c', ok, rfl, hc11, hp1, hp2⟩
      have HC11 := Lib.hid ((HC9.out.trans H10.out.chg).trans hc11)
      have HO11 := Lib.hid (HO9.out.chg (H10.out.chg.trans hc11) (by simp))
      dsimp only
      cases ok with
      | false =>
        have HNP := Lib.hid (hp2 rfl)
        clear hp1 hp2 HPA hc11
        go_wp2_with fail
        go_ret2
        refine .inr ⟨fun h L o => ?_, rfl, HC11.out⟩
        obtain ⟨e1, e2, e3, _⟩ := HINV.out h L o
        refine HNP.out ⟨L, o.ok, ?_, e2⟩
        have h5 := o.bytes
        rw [e3, e1, HBH.out] at h5
        exact h5.symm
      | true =>
        obtain ⟨hrl, hok, hfr, hln⟩ := hp1 rfl
        have HRL := Lib.hid (And.intro hrl (And.intro hok (And.intro hfr hln)))
        have i2 := HO11.out.cell 2
        have x2 := HO11.out.frozen 2
        clear hp1 hp2 HPA hc11 hrl hok hfr
        obtain ⟨lx, HLX⟩ : ∃ x, Hid (xs.length = x) := ⟨_, Lib.hid rfl⟩
        rw [HLX.out] at hln ⊢
        have HLN := Lib.hid hln
        clear hln
        go_wp2_with fail
        go_ret2
        refine .inl ⟨h0, recs xs, w.heap.size, a', c', xs, ?_, rfl, Nat.le_refl _, Lib.hid ?_, Lib.hid ⟨?_, rfl⟩, HC11.out.setCell (.inr (Nat.le_refl _)) _⟩
        · have hlen : (frs (recs xs)).length = b := by
            have h5 := HG3.out
            have h6 : BH.length = s64 := by
              rw [← HBH.out]
              unfold halfB
              rw [cat_len HD.out.lenN, HS.out, HS64.out]
            rw [HRL.out.2.2.1, List.length_take]
            omega
          exact ⟨HG1.out, HRL.out.2.1, by rw [hlen, HS.out]; have := HS64.out; have := HG3.out; omega, by rw [HS0.out, HG2.out, ← HS1.out, hlen, recs_len, HLX.out, HLN.out], by rw [hlen, HBH.out]; exact HRL.out.2.2.1.symm⟩
        · have := HO11.out.set 2 (.slice a' lx c')
          rw [HLX.out]
          exact this
        · have h6 : w.heap.size < w10.heap.size := Nat.lt_of_lt_of_le HO9.out.lt H10.out.chg.size
          have h7 := (HRL.out.1.chg (l := [w.heap.size]) ((Chg.refl [w.heap.size] w11).setCell (p := ⟨w.heap.size, 2, none⟩) (by simp) (.slice a' lx c')) (by simpa using h6)).base (B := w.heap.size + 1) (by omega)
          exact h7
end Go.Proofs.YtdiemejdbakffaaGreat
