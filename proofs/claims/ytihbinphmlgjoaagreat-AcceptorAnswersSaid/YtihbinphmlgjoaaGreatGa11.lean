/-
  Append to a slice of one's own: what other slices read behind it, and whose block it is. Lemmas only, no claim of their own.
-/
import Derived.Test.YtihbinphmlgjoaaGreatGa10
import Derived.Test.YtihbinphmlgjoaaGreatGa4
import Derived.Lib.SmallJoins
import Derived.Deep.CutBlock
import Derived.Deep.RegionHeld3
import Derived.StillTailTactics
import Derived.BigQuiet
import Derived.Deep.QuietTactic
namespace Go.Proofs.YtihbinphmlgjoaaGreat
open Go.RowKit
set_option linter.unusedVariables false
set_option linter.unusedSimpArgs false

/-- the block of a slice of one's own -/
def bl (v : Value) : List Nat := v.ownBlock.toList
theorem mem_bl {v : Value} {g : Nat} : g ∈ bl v ↔ v.ownBlock = some g := by unfold bl; cases v.ownBlock <;> simp [eq_comm]
/-- ys are appended to v, which is xs: v' is that; whose block it is; what reads as before -/
structure AppK (w w' : World) (e : TypeId) (v v' : Value) (xs ys : List Value) : Prop where
  lst : Lst w' 0 e v' (xs ++ ys)
  same : v'.ownBlock = v.ownBlock ∨ ∀ g, v'.ownBlock = some g → w.heap.size ≤ g
  keep : ∀ u zs, Lst w 0 e u zs → (∀ g, u.ownBlock = some g → v.ownBlock = some g → zs.length ≤ xs.length) → Lst w' 0 e u zs
  chg : Chg (bl v) w w'
theorem Lst.chg {w w' : World} {base : Nat} {e : TypeId} {v : Value} {xs : List Value} {l : List Nat} (h : Lst w base e v xs) (hc : Chg l w w') (hg : ∀ g, v.ownBlock = some g → g ∉ l) : Lst w' base e v xs := by
  refine ⟨h.1, ?_⟩
  rcases h.2 with hn | ⟨g, cap, cur, rfl, hb, hgg, rest⟩
  · exact .inl hn
  · exact .inr ⟨g, cap, cur, rfl, hb, (hc.block g (Array.getElem?_eq_some_iff.1 hgg).1 (hg g rfl)).trans hgg, rest⟩
theorem Lst.kept0 {w w' : World} {base : Nat} {e : TypeId} {v : Value} {xs : List Value} (h : Lst w base e v xs) (hc : Chg [] w w') : Lst w' base e v xs := h.chg hc (by simp)
/-- slices of other elements lie in other blocks -/
theorem Lst.off {w : World} {e t : TypeId} {u v : Value} {xs ys : List Value} (h : Lst w 0 e u xs) (k : Lst w 0 t v ys) (hne : e ≠ t) : ∀ g, u.ownBlock = some g → g ∉ bl v := by
  intro g hg hv
  rw [mem_bl] at hv
  rcases h.2 with ⟨rfl, _⟩ | ⟨g1, c1, r1, rfl, _, h1, _⟩
  · simp [Value.ownBlock] at hg
  · rcases k.2 with ⟨rfl, _⟩ | ⟨g2, c2, r2, rfl, _, h2, _⟩
    · simp [Value.ownBlock] at hv
    · simp only [Value.ownBlock, Option.some.injEq] at hg hv
      subst hg
      subst hv
      rw [h1] at h2
      cases h2
      exact hne rfl
theorem Lst.bl_lt {w : World} {e : TypeId} {v : Value} {xs : List Value} (h : Lst w 0 e v xs) : ∀ g ∈ bl v, g < w.heap.size := fun g hg => (h.lt g (mem_bl.1 hg)).2
theorem grown_chg {w w' : World} {v : Value} (h : w.grownBy w' v.ownBlock) : Chg (bl v) w w' := ⟨h.os, h.tape, h.output, h.size, fun k hk hn => h.block k hk (fun e => hn (mem_bl.2 e.symm))⟩
theorem AppK.refl {w : World} {e : TypeId} {v : Value} {xs : List Value} (h : Lst w 0 e v xs) : AppK w w e v v xs [] := ⟨by rw [List.append_nil]; exact h, .inl rfl, fun _ _ h _ => h, Chg.refl _ _⟩
theorem AppK.bl {w w' : World} {e : TypeId} {v v' : Value} {xs ys : List Value} (h : AppK w w' e v v' xs ys) : ∀ x ∈ bl v', x ∈ Proofs.YtihbinphmlgjoaaGreat.bl v ∨ w.heap.size ≤ x := fun x hx => by
  rcases h.same with hs | hs
  · left; rw [mem_bl] at hx ⊢; rw [← hs]; exact hx
  · right; exact hs x (mem_bl.1 hx)
theorem AppK.trans {w w1 w2 : World} {e : TypeId} {v v1 v2 : Value} {xs ys zs : List Value} (h0 : Lst w 0 e v xs) (h : AppK w w1 e v v1 xs ys) (k : AppK w1 w2 e v1 v2 (xs ++ ys) zs) : AppK w w2 e v v2 xs (ys ++ zs) := by
  refine ⟨by rw [← List.append_assoc]; exact k.lst, ?_, fun u us hu hl => ?_, h.chg.then k.chg h.bl⟩
  · rcases k.same with k1 | k1
    · rw [k1]; exact h.same
    · exact .inr fun g hg => Nat.le_trans h.chg.size (k1 g hg)
  · have h1 := h.keep u us hu hl
    refine k.keep u us h1 fun g hg hv => ?_
    rcases h.same with hs | hs
    · rw [hs] at hv
      have := hl g hg hv
      rw [List.length_append]; omega
    · have h2 := hs g hv
      have h3 := (hu.lt g hg).2
      omega
/-- what came before it may have made memory -/
theorem AppK.pre {w w1 w2 : World} {e : TypeId} {v v' : Value} {xs ys : List Value} (hc : Chg [] w w1) (h : AppK w1 w2 e v v' xs ys) : AppK w w2 e v v' xs ys :=
  ⟨h.lst, h.same.imp id fun k g hg => Nat.le_trans hc.size (k g hg), fun u us hu hl => h.keep u us (hu.kept0 hc) hl, (hc.mono (by simp)).trans h.chg⟩
/-- other blocks may turn behind it -/
theorem AppK.post {w w1 w2 : World} {e : TypeId} {v v' : Value} {xs ys : List Value} (h : AppK w w1 e v v' xs ys) {l : List Nat} (hc : Chg l w1 w2) (hl : ∀ g, (∃ c, w1.heap[g]? = some (.cells c e (0, 0))) → g ∉ l) :
    Lst w2 0 e v' (xs ++ ys) ∧ (∀ u zs, Lst w 0 e u zs → (∀ g, u.ownBlock = some g → v.ownBlock = some g → zs.length ≤ xs.length) → Lst w2 0 e u zs) := by
  have hx : ∀ u zs, Lst w1 0 e u zs → Lst w2 0 e u zs := fun u zs hu => hu.chg hc fun g hg => hl g (by
    rcases hu.2 with ⟨rfl, _⟩ | ⟨g1, c1, r1, rfl, _, h1, _⟩
    · simp [Value.ownBlock] at hg
    · simp only [Value.ownBlock, Option.some.injEq] at hg
      subst hg
      exact ⟨_, h1⟩)
  exact ⟨hx _ _ h.lst, fun u zs hu hk => hx _ _ (h.keep u zs hu hk)⟩
section
variable {P : Program} {w : World}
theorem run_appK (t ty e : TypeId) (z : Value) (bytes : Nat) (ht : P.underlying t = some (.slice e)) (hinfo : (P.info? e).map (fun i => (i.zero, i.size, i.bytes)) = some (some z, 1, bytes)) (hzs : z.cells.size = 1)
    (v : Value) (xs : List Value) (hown : Lst w 0 e v xs) (A : Option Addr) (B m c : Nat) (news : List Value) (hm : news.length = m) (hro : Ro w B A news) (h1 : ∀ u ∈ news, u.oneCell' = true)
    (hlen : (xs.length + m) * bytes ≤ 140737488355328) (hlen2 : xs.length + m ≤ 140737488355328) :
    ∃ v' w', (Builtin.append_ #[t, t] ty #[v, .slice A m c]).run P w = .ok v' w' ∧ AppK w w' e v v' xs news := by
  obtain ⟨i, hi, hzz⟩ := Option.map_eq_some_iff.1 hinfo
  simp only [Prod.mk.injEq] at hzz
  obtain ⟨hz, hsz, hby⟩ := hzz
  subst hm
  rcases A with _ | ad
  · have hn : news = [] := by
      rcases hro with h | ⟨b, off, h, _⟩
      · exact h
      · cases h
    subst hn
    have hrun := run_app_none (P := P) (w := w) 0 t ty e i ht hi v xs hown c
    exact ⟨v, w, hrun, AppK.refl hown⟩
  · have hcells : ∀ j u, news[j]? = some u → w.cell? (ad.add j) = some u := by
      intro j u hu
      have hj : j < news.length := (List.getElem?_eq_some_iff.1 hu).1
      rcases hro with h | ⟨b, off, h, hb, hc⟩
      · subst h; simp at hj
      · injection h with h
        subst h
        rw [add_off, hc j hj]
        simp [List.getD, hu]
    have hmax : xs.length + news.length ≤ maxLen := by unfold maxLen; omega
    have hnl : news.length = news.length * i.size := by rw [hsz, Nat.mul_one]
    by_cases hroom : ∃ g cap, v = .slice (some ⟨g, 0, none⟩) xs.length cap ∧ xs.length + news.length ≤ cap
    · obtain ⟨g, cap, rfl, hrm⟩ := hroom
      rcases hown.2 with ⟨h0, _⟩ | ⟨g1, cap1, cur, h0, hb, hg, hnc, hcm, hcs, htake⟩
      · cases h0
      · injection h0 with h01 h02 h03
        injection h01 with h01
        injection h01 with h01 _ _
        subst h01 h03
        have hcs2 : cur.size = cap := by simpa using hcs
        have hr := run_append_room (P := P) w t ty e i ht hi g xs.length cap cur hg ad news.length c news hnl hcells h1 hrm (by rw [hsz, hcs2]; omega)
        rw [hsz, Nat.mul_one] at hr
        have hh := setRow_heap w g cur (cur.toList.take xs.length ++ news ++ cur.toList.drop (xs.length + news.length)).toArray e (0, 0) hg
        have hoth : ∀ k, k ≠ g → (w.setRow g (cur.toList.take xs.length ++ news ++ cur.toList.drop (xs.length + news.length)).toArray).heap[k]? = w.heap[k]? := fun k hk => setRow_other w g k _ hk
        have hnsz : (cur.toList.take xs.length ++ news ++ cur.toList.drop (xs.length + news.length)).length = cap := by
          simp only [List.length_append, List.length_take, List.length_drop, Array.length_toList]; omega
        have hgr : w.grownBy (w.setRow g (cur.toList.take xs.length ++ news ++ cur.toList.drop (xs.length + news.length)).toArray) (some g) := ⟨rfl, rfl, rfl, by simp, fun k _ hk => setRow_other w g k _ (fun e => hk (by simp [e]))⟩
        refine ⟨_, _, hr, ⟨⟨by simp, .inr ⟨g, cap, _, by simp, Nat.zero_le _, hh, by simp; omega, hcm, by simp; simpa using hnsz, ?_⟩⟩, .inl rfl, fun u zs hu hl => ?_, grown_chg (v := .slice (some ⟨g, 0, none⟩) xs.length cap) hgr⟩⟩
        · have ht2 : cur.toList.take xs.length = xs := by simpa using htake
          simp only [List.toList_toArray, Nat.mul_one, ht2]
          exact List.take_left
        · rcases hu.2 with ⟨rfl, hu0⟩ | ⟨g2, cap2, cur2, rfl, hb2, hg2, hnc2, hcm2, hcs2', htake2⟩
          · exact ⟨hu.1, .inl ⟨rfl, hu0⟩⟩
          · by_cases e2 : g2 = g
            · subst e2
              rw [hg] at hg2
              cases hg2
              have hle := hl g2 rfl rfl
              refine ⟨hu.1, .inr ⟨g2, cap2, _, rfl, Nat.zero_le _, hh, hnc2, hcm2, by rw [List.size_toArray, hnsz, ← hcs2, hcs2'], ?_⟩⟩
              simp only [Nat.mul_one] at htake2
              simp only [List.toList_toArray, Nat.mul_one, List.append_assoc]
              rw [List.take_append_of_le_length (by simp; omega), List.take_take, Nat.min_eq_left hle, htake2]
            · exact ⟨hu.1, .inr ⟨g2, cap2, cur2, rfl, hb2, (hoth g2 e2).trans hg2, hnc2, hcm2, hcs2', htake2⟩⟩
    · obtain ⟨v', w', hr, h2, h3, h4⟩ := run_append_own (P := P) w 0 t ty e i z 1 bytes ht hi hz hsz hby hzs (by omega) v xs.length xs hown ad news.length c news (by omega) hcells h1 hmax hlen (Nat.zero_le _)
      have fin : ∀ (o : Obj) (n2 c2 : Nat), (Builtin.append_ #[t, t] ty #[v, .slice (some ad) news.length c]).run P w = .ok (.slice (some ⟨w.heap.size, 0, none⟩) n2 c2) (w.drew.alloc o) → ∃ v' w', (Builtin.append_ #[t, t] ty #[v, .slice (some ad) news.length c]).run P w = .ok v' w' ∧ AppK w w' e v v' xs news := by
        intro o n2 c2 hr2
        rw [hr] at hr2
        injection hr2 with e1 e2
        subst e1
        subst e2
        have hC : Chg [] w (w.drew.alloc o) := ((Chg.refl [] w).drew).alloc o
        exact ⟨_, _, hr, ⟨by unfold Lst; rw [List.length_append]; exact h2, .inr (by intro g hg; simp only [Value.ownBlock, Option.some.injEq] at hg; omega), fun u zs hu _ => hu.kept0 hC, hC.mono (by simp)⟩⟩
      rcases hown.2 with ⟨rfl, h0⟩ | ⟨g, cap, cur, rfl, hb, hg, hnc, hcm, hcs, htake⟩
      · have hx : xs = [] := List.eq_nil_of_length_eq_zero h0
        subst hx
        by_cases hm : news.length = 0
        · have hn : news = [] := List.eq_nil_of_length_eq_zero hm
          subst hn
          refine ⟨.slice none 0 0, w, ?_, AppK.refl hown⟩
          simp [Builtin.append_, run_underlying ht, sizeOf, typeInfo, hi, Builtin.lenOf, Builtin.firstCells, loadCells, loadCellsFrom]
        · exact fin _ _ _ (run_append_nil (P := P) w t ty e i z ht hi hz ad news.length c news hnl hcells (by omega) (by simp at hlen2; omega) (by rw [hby]; simp only [List.length_nil, Nat.zero_add] at hlen; omega))
      · have hnr : cap < xs.length + news.length := by
          refine Nat.lt_of_not_le fun hle => hroom ⟨g, cap, rfl, hle⟩
        have holds : ∀ j u, xs[j]? = some u → w.cell? ((⟨g, 0, none⟩ : Addr).add j) = some u := World.ownsRow.cells hown (g := g) rfl
        exact fin _ _ _ (run_append_grow (P := P) w t ty e i z ht hi hz ⟨g, 0, none⟩ xs.length cap xs (by rw [hsz, Nat.mul_one]) holds ad news.length c news hnl hcells hnr (by omega) (by rw [hby]; exact growslice_fits (by omega) hlen))
end
section
variable {P : Program} {w : World} {ops : Array Oper} {rest : List Oper} {o : Oper} {a : Act} {Q : Exit → Act → World → Prop}
theorem wp_appK {K : Act → World → Prop} (s x : Operand) (t : TypeId)
    (ho : o.op = .call { callee := .builtin .append, args := #[s, x], argTypes := #[t, t] })
    (e : TypeId) (z : Value) (bytes : Nat) (ht : P.underlying t = some (.slice e)) (hinfo : (P.info? e).map (fun i => (i.zero, i.size, i.bytes)) = some (some z, 1, bytes)) (hzs : z.cells.size = 1)
    (v : Value) (xs : List Value) (hs : a.eval s = v) (hown : Lst w 0 e v xs)
    (A : Option Addr) (B m c : Nat) (news : List Value) (hx : a.eval x = .slice A m c) (hm : news.length = m) (hro : Ro w B A news) (h1 : ∀ u ∈ news, u.oneCell' = true)
    (hlen : (xs.length + m) * bytes ≤ 140737488355328) (hlen2 : xs.length + m ≤ 140737488355328)
    (h : ∀ v' w', Hid (AppK w w' e v v' xs news) → K (a.put o.dst v') w') : o.wp P a w K Q := by
  obtain ⟨v', w', hr, hk⟩ := run_appK (P := P) t o.type e z bytes ht hinfo hzs v xs hown A B m c news hm hro h1 hlen hlen2
  unfold Oper.wp execOp
  simp only [ho, resolve, invoke, builtin, Sem.run_bind, Sem.run_pure, Result.andThen_ok, List.map_toArray, List.map_cons, List.map_nil, hs, hx, hr]
  exact h v' w' (Lib.hid hk)
theorem wpList_appK (hgd : o.guard = none) (s x : Operand) (t : TypeId)
    (ho : o.op = .call { callee := .builtin .append, args := #[s, x], argTypes := #[t, t] })
    (e : TypeId) (z : Value) (bytes : Nat) (ht : P.underlying t = some (.slice e)) (hinfo : (P.info? e).map (fun i => (i.zero, i.size, i.bytes)) = some (some z, 1, bytes)) (hzs : z.cells.size = 1)
    (v : Value) (xs : List Value) (hs : a.eval s = v) (hown : Lst w 0 e v xs)
    (A : Option Addr) (B m c : Nat) (news : List Value) (hx : a.eval x = .slice A m c) (hm : news.length = m) (hro : Ro w B A news) (h1 : ∀ u ∈ news, u.oneCell' = true)
    (hlen : (xs.length + m) * bytes ≤ 140737488355328) (hlen2 : xs.length + m ≤ 140737488355328)
    (h : ∀ v' w', Hid (AppK w w' e v v' xs news) → wpList P ops Q rest (a.put o.dst v') w') : wpList P ops Q (o :: rest) a w :=
  wpList_plain hgd fun _ hK => wp_appK s x t ho e z bytes ht hinfo hzs v xs hs hown A B m c news hx hm hro h1 hlen hlen2 fun v' w' h2 => hK _ _ (h v' w' h2)
/-- append of one value -/
theorem wpList_appK1 (hgd : o.guard = none) (s x : Operand) (t : TypeId)
    (ho : o.op = .call { callee := .builtin .append, args := #[s, x], argTypes := #[t, t] })
    (e : TypeId) (z : Value) (bytes : Nat) (ht : P.underlying t = some (.slice e)) (hinfo : (P.info? e).map (fun i => (i.zero, i.size, i.bytes)) = some (some z, 1, bytes)) (hzs : z.cells.size = 1)
    (u : Value) (h1 : u.oneCell' = true) (v : Value) (xs : List Value) (hs : a.eval s = v) (hown : Lst w 0 e v xs)
    (g : Nat) (hx : a.eval x = .slice (some ⟨g, 0, none⟩) 1 1) (hg : g = w.heap.size)
    (hlen : (xs.length + 1) * bytes ≤ 140737488355328) (hlen2 : xs.length + 1 ≤ 140737488355328)
    (h : ∀ v' w', Hid (AppK w w' e v v' xs [u]) → wpList P ops Q rest (a.put o.dst v') w') : wpList P ops Q (o :: rest) a (w.alloc (.cells #[u] e)) := by
  subst hg
  exact wpList_appK hgd s x t ho e z bytes ht hinfo hzs v xs hs (hown.alloc _) (some ⟨w.heap.size, 0, none⟩) (w.heap.size + 1) 1 1 [u] hx rfl (ro_one w e u) (by simpa using h1) hlen hlen2
    fun v' w' h2 => h v' w' (Lib.hid (AppK.pre ((Chg.refl [] w).alloc _) h2.out))
end
end Go.Proofs.YtihbinphmlgjoaaGreat
namespace Go.Proofs.YtihbinphmlgjoaaGreat
open Go.RowKit
set_option linter.unusedVariables false
set_option linter.unusedSimpArgs false

theorem num_step (m x : Nat) (hm : m < 16777216) (hx : x < 256) : bits BinOp.or IntKind.u32 ((m : Int) * 256) (x : Int) = ((m * 256 + x : Nat) : Int) := by
  rw [show ((m : Int) * 256) = ((m * 256 : Nat) : Int) from by omega, u32_or_nat _ _ (by omega) (by omega), nat_join 8 _ _ (by omega) (by omega)]
theorem nb_step (bs : List UInt8) (k : Nat) (hk : k < bs.length) : nb (bs.take (k + 1)) = nb (bs.take k) * 256 + (bs.getD k 0).toNat := by
  rw [take_snoc bs k hk, nb_snoc]
  simp [List.getD, hk]
theorem number_any (w : World) (a : Option Addr) (bs : List UInt8) (c B : Nat) (hro : Ro w B a (u8s bs)) (hl : bs.length ≤ 4) :
    Calls Tryz.prog 107 #[.slice a bs.length c] w fun e w' => e = .returned (.int .u32 ((nb bs : Nat) : Int)) ∧ w = w' := by
  obtain ⟨n, HN⟩ : ∃ n, Hid (bs.length = n) := ⟨_, Lib.hid rfl⟩
  rw [HN.out] at hl ⊢
  have HR := Lib.hid hro
  clear hro
  go_enter Tryz.func107, Tryz.ntmps107
  go_wp2
  go_loop [3, 8] (fun v i => ∃ k : Nat, k ≤ n ∧ i = .int .i64 k ∧ v = .int .u32 ((nb (bs.take k) : Nat) : Int)) (fun _ i => n - (intOf i).toNat)
  case atStart => exact ⟨0, Nat.zero_le _, rfl, rfl⟩
  case round =>
    obtain ⟨k, hk, rfl, rfl⟩ := hrel
    by_cases hlt : k < n
    · obtain ⟨b, off, rfl, hb, hc⟩ := HR.out.u8 (by rw [HN.out]; omega)
      have hcell := hc k (by rw [HN.out]; omega)
      have hd : decide (k < n) = true := by simpa using hlt
      have hk1 : (k : Int) < (n : Int) := by omega
      obtain ⟨m, HM⟩ : ∃ m, Hid (nb (bs.take k) = m) := ⟨_, Lib.hid rfl⟩
      obtain ⟨x, HX⟩ : ∃ x, Hid ((bs.getD k 0).toNat = x) := ⟨_, Lib.hid rfl⟩
      rw [HM.out]
      rw [HX.out] at hcell
      clear hc
      have hm4 : m < 16777216 := by
        rw [← HM.out]
        have h1 := nb_lt k (bs.take k) (by rw [List.length_take, HN.out]; omega)
        have h2 : (256 : Nat) ^ k ≤ 256 ^ 3 := Nat.pow_le_pow_right (by omega) (by omega)
        have h3 : (256 : Nat) ^ 3 = 16777216 := by decide
        omega
      have hx8 : x < 256 := by rw [← HX.out]; exact UInt8.toNat_lt _
      have HE := Lib.hid (show bits BinOp.or IntKind.u32 ((m : Int) * 256) (x : Int) = ((nb (bs.take (k + 1)) : Nat) : Int) by rw [num_step m x hm4 hx8, nb_step bs k (by rw [HN.out]; exact hlt), HM.out, HX.out])
      go_wp2
      go_round
      case rel => exact ⟨k + 1, by omega, by go_num, by rw [HE.out]⟩
      case measure => simp [intOf]; omega
    · have hkn : k = n := by omega
      have HK := Lib.hid (show bs.take k = bs by rw [hkn, ← HN.out, List.take_length])
      have hd : decide (k < n) = false := by simpa using hlt
      clear hkn
      rw [HK.out]
      go_wp2
      go_ret
      exact ⟨rfl, rfl⟩
theorem isRecord_any (w : World) (a : Option Addr) (n c : Nat) :
    Calls Tryz.prog 86 #[.slice a n c] w fun e w' => e = .returned (.bool (decide (1 ≤ n ∧ n ≤ 300))) ∧ w = w' := by
  by_cases h1 : 1 ≤ n
  · by_cases h2 : n ≤ 300
    · rw [decide_eq_true (show 1 ≤ n ∧ n ≤ 300 from ⟨h1, h2⟩)]
      have e1 : decide ((1 : Int) ≤ (n : Int)) = true := by simp; omega
      have e2 : decide ((n : Int) ≤ 300) = true := by simp; omega
      go_enter Tryz.func86, Tryz.ntmps86
      go_wp2
      go_ret
      exact ⟨rfl, rfl⟩
    · rw [decide_eq_false (show ¬ (1 ≤ n ∧ n ≤ 300) from fun h => h2 h.2)]
      have e1 : decide ((1 : Int) ≤ (n : Int)) = true := by simp; omega
      have e2 : decide ((n : Int) ≤ 300) = false := by simp; omega
      go_enter Tryz.func86, Tryz.ntmps86
      go_wp2
      go_ret
      exact ⟨rfl, rfl⟩
  · rw [decide_eq_false (show ¬ (1 ≤ n ∧ n ≤ 300) from fun h => h1 h.1)]
    have e1 : decide ((1 : Int) ≤ (n : Int)) = false := by simp; omega
    go_enter Tryz.func86, Tryz.ntmps86
    go_wp2
    go_ret
    exact ⟨rfl, rfl⟩
theorem frameSize_any (w : World) (a : Option Addr) (n c : Nat) (hn : n ≤ 140737488355328) :
    Calls Tryz.prog 89 #[.slice a n c] w fun e w' => e = .returned (.int .i64 ((2 + n : Nat) : Int)) ∧ w = w' := by
  go_enter Tryz.func89, Tryz.ntmps89
  go_wp2
  go_ret
  exact ⟨ret_int (by omega), rfl⟩
/-- a content's parts as a value -/
abbrev cv (h : Nat) (vF vE : Value) : Value := .agg #[.int .i64 (h : Int), vF, vE]
theorem records_any (w : World) (h : Nat) (vF : Value) (a : Option Addr) (n c : Nat) :
    Calls Tryz.prog 65 #[cv h vF (.slice a n c)] w fun e w' => e = .returned (.int .i64 (n : Int)) ∧ Chg [] w w' := by
  go_enter Tryz.func65, Tryz.ntmps65
  go_wp2
  go_ret
  exact ⟨rfl, (Chg.refl [] w).alloc _⟩
end Go.Proofs.YtihbinphmlgjoaaGreat
namespace Go.Proofs.YtihbinphmlgjoaaGreat
open Go.RowKit
set_option linter.unusedVariables false
set_option linter.unusedSimpArgs false

theorem infoU8 : (Tryz.prog.info? 5).map (fun i => (i.zero, i.size, i.bytes)) = some (some (.int .u8 0), 1, 1) := by kernel_rfl
theorem infoInt : (Tryz.prog.info? 3).map (fun i => (i.zero, i.size, i.bytes)) = some (some (.int .i64 0), 1, 8) := by kernel_rfl
theorem be_take (k n j z : Nat) (h : z + j + 1 = k) : (be k n).take (j + 1) = (be k n).take j ++ [UInt8.ofNat (n / 256 ^ z)] := by
  rw [take_snoc _ _ (by simp; omega)]
  congr 2
  have e : k - 1 - j = z := by omega
  simp [be, e]
theorem byte_at (n z : Nat) : (n : Int) / 2 ^ (8 * z) % 256 = (((UInt8.ofNat (n / 256 ^ z)).toNat : Nat) : Int) := by
  rw [show (256 : Nat) ^ z = 2 ^ (8 * z) from by rw [Nat.pow_mul]]
  simp
set_option maxRecDepth 100000 in
theorem putNumber_any (w : World) (v : Value) (xs : List Value) (n k : Nat) (hv : Lst w 0 5 v xs) (hx : xs.length + 8 ≤ 100000000) (hn : n < 4294967296) (hk : k ≤ 4) :
    Calls Tryz.prog 132 #[v, .int .u32 (n : Int), .int .i64 (k : Int)] w fun e w' => ∃ v', e = .returned v' ∧ Hid (AppK w w' 5 v v' xs (u8s (be k n))) := by
  have HV := Lib.hid hv
  clear hv
  go_enter Tryz.func132, Tryz.ntmps132
  go_wp2
  go_loopw [0, 7] (fun b i wr => ∃ j : Nat, j ≤ k ∧ i = .int .i64 ((k : Int) - 1 - (j : Int)) ∧ Hid (AppK w wr 5 v b xs (u8s ((be k n).take j)))) (fun _ i _ => (intOf i + 1).toNat)
  case atStart => exact ⟨0, Nat.zero_le _, by go_num, Lib.hid (AppK.refl HV.out)⟩
  case round =>
    obtain ⟨j, hj, rfl, HR⟩ := hrel
    by_cases hlt : j < k
    · obtain ⟨z, hz⟩ : ∃ z : Nat, z + j + 1 = k := ⟨k - 1 - j, by omega⟩
      have e : (k : Int) - 1 - (j : Int) = (z : Int) := by omega
      rw [e]
      clear e
      have hd : decide ((0 : Int) ≤ (z : Int)) = true := by simp
      have HB := Lib.hid (byte_at n z)
      have HT := Lib.hid (be_take k n j z hz)
      have hlj : ((be k n).take j).length ≤ 4 := by rw [List.length_take, be_len]; omega
      go_wp2_with (first
        | (at_builtin; refine wpList_appK1 rfl _ _ 44 rfl 5 (.int .u8 0) 1 Tryz.underlying44 infoU8 rfl _ rfl u0 _ (by rfl) HR.out.lst _ (by rfl) (by simp) (by simp; omega) (by simp; omega) ?_; intro v4 w4 H4)
        | fail)
      go_roundw
      case rel => exact ⟨j + 1, by omega, by go_num, Lib.hid (by
        have h := AppK.trans HV.out HR.out H4.out
        rw [HT.out, HB.out] at *
        simpa [u8s] using h)⟩
      case measure => simp [intOf] <;> omega
    · have hjk : j = k := by omega
      have e : (k : Int) - 1 - (j : Int) = -1 := by omega
      have HK := Lib.hid (show (be k n).take j = be k n by rw [hjk, List.take_of_length_le (by simp)])
      rw [HK.out] at HR
      rw [e]
      clear e hjk
      go_wp2
      go_ret
      exact ⟨_, rfl, HR⟩

/-- what a superblock tells, as a value -/
abbrev pv (h r b : Nat) : Value := .agg #[.int .u8 (h : Int), .int .u32 (r : Int), .int .u32 (b : Int)]
set_option maxRecDepth 100000 in
theorem sector_any (w : World) (h r b : Nat) (hh : h < 256) (hr : r < 4294967296) (hb : b < 4294967296) :
    Calls Tryz.prog 108 #[pv h r b] w fun e w' => e = .returned (sv (supS h r b)) ∧ Chg [] w w' := by
  have HX := Lib.hid (show h = (UInt8.ofNat h).toNat by simp; omega)
  obtain ⟨W0, HW0⟩ : ∃ W0, Hid (W0 = (w.alloc (.cells #[.int .u8 (h : Int), .int .u32 (r : Int), .int .u32 (b : Int)] 142)).alloc (.cells (u8s zsec).toArray 53)) := ⟨_, Lib.hid rfl⟩
  have hC0 : Chg [] w W0 := by rw [HW0.out]; exact ((Chg.refl [] w).alloc _).alloc _
  have hs0 : W0.heap.size = w.heap.size + 1 + 1 := by rw [HW0.out]; simp
  have hT0 : W0.there (w.heap.size + 1) 0 64 := by
    have := there_box (w.alloc (.cells #[.int .u8 (h : Int), .int .u32 (r : Int), .int .u32 (b : Int)] 142)) zsec 53 zsec_len
    rw [World.size_alloc] at this
    rw [HW0.out]; exact this
  have hcb : W0.cell? ⟨w.heap.size, 2, none⟩ = some (.int .u32 (b : Int)) := by
    rw [HW0.out]
    have h1 := (Own.new w 142 [.int .u8 (h : Int), .int .u32 (r : Int), .int .u32 (b : Int)]).alloc (.cells (u8s zsec).toArray 53)
    rw [h1.cell]
    rfl
  have hcr : W0.cell? ⟨w.heap.size, 1, none⟩ = some (.int .u32 (r : Int)) := by
    rw [HW0.out]
    have h1 := (Own.new w 142 [.int .u8 (h : Int), .int .u32 (r : Int), .int .u32 (b : Int)]).alloc (.cells (u8s zsec).toArray 53)
    rw [h1.cell]
    rfl
  have hch : W0.cell? ⟨w.heap.size, 0, none⟩ = some (.int .u8 (h : Int)) := by
    rw [HW0.out]
    have h1 := (Own.new w 142 [.int .u8 (h : Int), .int .u32 (r : Int), .int .u32 (b : Int)]).alloc (.cells (u8s zsec).toArray 53)
    rw [h1.cell]
    rfl
  have hlit := Lst.lit W0 0 5 #[.int .u8 (h : Int)] (by omega) (by unfold maxLen; simp)
  have HL := Lib.hid hlit
  have H1 := Lib.hid (putNumber_any (W0.alloc (.cells #[.int .u8 (h : Int)] 5)) _ _ r 4 hlit (by simp) hr (by omega))
  rw [hs0] at H1
  have HS0 := Lib.hid hs0
  have HLL := Lib.hid hlit
  clear hlit hs0 HL
  have H1' := H1
  rw [HW0.out] at H1'
  go_enter Tryz.func108, Tryz.ntmps108
  go_wp2_with (first
    | (refine wpList_alloc37 rfl rfl ?_)
    | fail)
  refine H1'.out.mono ?_
  rintro e w4 ⟨v4, rfl, H4⟩
  clear H1 H1'
  rw [← HW0.out] at H4
  have hs0 := HS0.out
  have hB4 : ∀ x ∈ bl v4, W0.heap.size ≤ x := fun x hx => by
    rcases H4.out.bl x hx with h1 | h1
    · rw [mem_bl] at h1; simp only [Value.ownBlock, Option.some.injEq] at h1; omega
    · simp at h1; omega
  have hC4 : Chg [] W0 w4 := ((Chg.refl [] W0).alloc _).then H4.out.chg (fun x hx => .inr (by
    rw [mem_bl] at hx; simp only [Value.ownBlock, Option.some.injEq] at hx; omega))
  have hcb4 := hC4.cell hcb (by simp)
  have HB4 := Lib.hid hB4
  have H2 := Lib.hid (putNumber_any w4 v4 _ b 4 H4.out.lst (by simp) hb (by omega))
  clear hB4 hs0 HX
  go_wp2_with fail
  refine H2.out.mono ?_
  rintro e w5 ⟨v5, rfl, H5⟩
  have hC5 : Chg [] W0 w5 := hC4.then H5.out.chg (fun x hx => .inr (HB4.out x hx))
  have hl5 := H5.out.lst
  have hu : [Value.int .u8 (h : Int)] ++ u8s (be 4 r) ++ u8s (be 4 b) = u8s (UInt8.ofNat h :: (be 4 r ++ be 4 b)) := by
    have : (UInt8.ofNat h).toNat = h := by simp; omega
    simp [u8s, this]
  rw [hu] at hl5
  obtain ⟨a5, c5, rfl, hro5, hc5, _⟩ := hl5.form
  have H6 := Lib.hid (fill_any w5 a5 (UInt8.ofNat h :: (be 4 r ++ be 4 b)) c5 w5.heap.size hro5 (Nat.le_refl _))
  rw [u8s_length] at hc5 ⊢
  have HC5 := Lib.hid hC5
  have hT5 := hC5.there hT0 (by simp)
  clear hu hl5 hro5 H2 H4 H5 hC4 hC5 hcb4 hcb hcr hch hT0
  go_wp2_with fail
  refine H6.out.mono ?_
  rintro e w6 ⟨rfl, hC6⟩
  have hT6 := hC6.there hT5 (by simp)
  go_wp2_with (first
    | (refine wpList_store37 rfl _ _ rfl (w.heap.size + 1) 0 (supS h r b) rfl rfl hT6 (supS_len h r b) ?_)
    | fail)
  refine bodyPost_ret (results_cell (j := 2) (t := 53) (p := ⟨w.heap.size + 1, 0, none⟩) Tryz.results108 rfl (load37 (S := supS h r b) (World.rangeAt_setCells_same _ _ _ _ (by rw [u8s_length, supS_len]; exact hT6)) (supS_len h r b))) rfl ⟨rfl, ?_⟩
  exact ((hC0.trans HC5.out).trans hC6).setCells (Or.inr (by omega)) _ _
end Go.Proofs.YtihbinphmlgjoaaGreat
namespace Go.Proofs.YtihbinphmlgjoaaGreat
open Go.RowKit
set_option linter.unusedVariables false
set_option linter.unusedSimpArgs false

theorem far3 {w : World} {B b o i j k : Nat} {x y z v : Value} (h : w.cell? ⟨b, o, none⟩ = some v) (hne : b ≠ B) : (((w.setCell ⟨B, i, none⟩ x).setCell ⟨B, j, none⟩ y).setCell ⟨B, k, none⟩ z).cell? ⟨b, o, none⟩ = some v := by
  rw [World.cell?_setCell_far _ _ _ _ (Ne.symm hne), World.cell?_setCell_far _ _ _ _ (Ne.symm hne), World.cell?_setCell_far _ _ _ _ (Ne.symm hne)]
  exact h
theorem chg_below {w w' : World} (h : Chg [] w w') : Below w.heap.size w w' := h.low
set_option maxHeartbeats 4000000 in
set_option maxRecDepth 100000 in
theorem super_any (w : World) (h : Nat) (aF aE : Option Addr) (n cF r cE : Nat) (hh : h ≤ 1) (hr : r < 4294967296) (hn : n < 4294967296) :
    Calls Tryz.prog 64 #[cv h (.slice aF n cF) (.slice aE r cE)] w fun e w' => e = .returned (pv h r n) ∧ Chg [] w w' := by
  have HR := Lib.hid (fun W => (records_any W h (.slice aF n cF) aE r cE).mono fun e w' (h : _ ∧ _) => (⟨h.1, h.2.low⟩ : _ ∧ Below W.heap.size W w'))
  obtain ⟨X, HX⟩ : ∃ X, Hid ((w.alloc (.cells #[.int .i64 (h : Int), .slice aF n cF, .slice aE r cE] 137)).alloc (.cells #[.int .u8 0, .int .u32 0, .int .u32 0] 142) = X) := ⟨_, Lib.hid rfl⟩
  have hO : Own X w.heap.size 137 [.int .i64 (h : Int), .slice aF n cF, .slice aE r cE] := by rw [← HX.out]; exact (Own.new w _ _).alloc _
  have hP : Own X (w.heap.size + 1) 142 [.int .u8 0, .int .u32 0, .int .u32 0] := by rw [← HX.out]; have := Own.new (w.alloc (.cells #[.int .i64 (h : Int), .slice aF n cF, .slice aE r cE] 137)) 142 [.int .u8 0, .int .u32 0, .int .u32 0]; rwa [World.size_alloc] at this
  have hsX : X.heap.size = w.heap.size + 2 := by rw [← HX.out]; simp
  have c0 := hO.cell 0
  have c1 := hO.cell 1
  have c2 := hO.cell 2
  simp at c0 c1 c2
  have HO := Lib.hid hO
  have HP := Lib.hid hP
  have HSX := Lib.hid hsX
  clear hO hP hsX
  have HC := Lib.hid (And.intro c0 (And.intro c1 c2))
  clear c0 c1 c2
  go_enter Tryz.func64, Tryz.ntmps64
  go_wp2_with fail
  simp only [HX.out]
  refine wp_region_held_drew (S := (fun w' => w'.cell? ⟨w.heap.size, 0, none⟩ = some (.int .i64 (h : Int)) ∧ w'.cell? ⟨w.heap.size, 1, none⟩ = some (.slice aF n cF) ∧ w'.cell? ⟨w.heap.size, 2, none⟩ = some (.slice aE r cE))) (by kernel_rfl) HC.out (fun hHeld => ?_)
  have e1 : IntKind.u8.wrap (h : Int) = (h : Int) := by rw [IntKind.wrap_u8]; omega
  have e2 : IntKind.u32.wrap (r : Int) = (r : Int) := by rw [IntKind.wrap_u32]; omega
  have e3 : IntKind.u32.wrap (n : Int) = (n : Int) := by rw [IntKind.wrap_u32]; omega
  refine wpAnyH_take (i := 0) (v := ?_) rfl (by kernel_rfl) (by kernel_rfl) (by kernel_rfl) (fun _ _ _ h => h) (Or.inl ⟨by kernel_rfl, ?_⟩) hHeld ?_
  rotate_left
  · (intro w hSw; first | (go_simp; done) | (go_simp; with_reducible rfl))
  (try simp only [Act.put, List.getElem_toArray, List.getElem_cons_succ, List.getElem_cons_zero, List.setIfInBounds_toArray, List.set_cons_zero, List.set_cons_succ])
  refine wpAnyH_take (i := 1) (v := ?_) rfl (by kernel_rfl) (by kernel_rfl) (by kernel_rfl) (fun _ _ _ h => h) (Or.inl ⟨by kernel_rfl, ?_⟩) hHeld ?_
  rotate_left
  · (intro w hSw; first | (go_simp; done) | (go_simp; with_reducible rfl))
  (try simp only [Act.put, List.getElem_toArray, List.getElem_cons_succ, List.getElem_cons_zero, List.setIfInBounds_toArray, List.set_cons_zero, List.set_cons_succ])
  refine wpAnyH_take (i := 2) (v := ?_) rfl (by kernel_rfl) (by kernel_rfl) (by kernel_rfl) (fun _ _ _ h => h) (Or.inl ⟨by kernel_rfl, ?_⟩) hHeld ?_
  rotate_left
  · (intro w hSw; first | (go_simp; done) | (go_simp; with_reducible rfl))
  (try simp only [Act.put, List.getElem_toArray, List.getElem_cons_succ, List.getElem_cons_zero, List.setIfInBounds_toArray, List.set_cons_zero, List.set_cons_succ])
  refine wpAnyH_take (i := 3) (v := ?_) rfl (by kernel_rfl) (by kernel_rfl) (by kernel_rfl) (fun _ _ _ h => h) (Or.inl ⟨by kernel_rfl, ?_⟩) hHeld ?_
  rotate_left
  · (intro w hSw; first | (go_simp; done) | (go_simp; with_reducible rfl))
  (try simp only [Act.put, List.getElem_toArray, List.getElem_cons_succ, List.getElem_cons_zero, List.setIfInBounds_toArray, List.set_cons_zero, List.set_cons_succ])
  refine wpAnyH_take (i := 6) (v := ?_) rfl (by kernel_rfl) (by kernel_rfl) (by kernel_rfl) (fun _ _ _ h => h) (Or.inl ⟨by kernel_rfl, ?_⟩) hHeld ?_
  rotate_left
  · (intro w hSw; first | (go_simp; done) | (go_simp; with_reducible rfl))
  (try simp only [Act.put, List.getElem_toArray, List.getElem_cons_succ, List.getElem_cons_zero, List.setIfInBounds_toArray, List.set_cons_zero, List.set_cons_succ])
  refine wpAnyH_take (i := 7) (v := ?_) rfl (by kernel_rfl) (by kernel_rfl) (by kernel_rfl) (fun _ _ _ h => h) (Or.inl ⟨by kernel_rfl, ?_⟩) hHeld ?_
  rotate_left
  · (intro w hSw; first | (go_simp; done) | (go_simp; with_reducible rfl))
  (try simp only [Act.put, List.getElem_toArray, List.getElem_cons_succ, List.getElem_cons_zero, List.setIfInBounds_toArray, List.set_cons_zero, List.set_cons_succ])
  refine wpAnyH_take (i := 8) (v := ?_) rfl (by kernel_rfl) (by kernel_rfl) (by kernel_rfl) (fun _ _ _ h => h) (Or.inl ⟨by kernel_rfl, ?_⟩) hHeld ?_
  rotate_left
  · (intro w hSw; first | (go_simp; done) | (go_simp; with_reducible rfl))
  (try simp only [Act.put, List.getElem_toArray, List.getElem_cons_succ, List.getElem_cons_zero, List.setIfInBounds_toArray, List.set_cons_zero, List.set_cons_succ])
  refine wpAnyH_take (i := 9) (v := ?_) rfl (by kernel_rfl) (by kernel_rfl) (by kernel_rfl) (fun _ _ _ h => h) (Or.inl ⟨by kernel_rfl, ?_⟩) hHeld ?_
  rotate_left
  · (intro w hSw; first | (go_simp; done) | (go_simp; with_reducible rfl))
  (try simp only [Act.put, List.getElem_toArray, List.getElem_cons_succ, List.getElem_cons_zero, List.setIfInBounds_toArray, List.set_cons_zero, List.set_cons_succ])
  refine wpAnyH_ready (rs := [4]) (by kernel_rfl) (by simp) (AllReadyH.cons rfl (fun K hK => ?_) AllReadyH.nil)
  have hH := hHeld
  (go_simp; go_at_call 65; refine (HR.out _).mono ?_; rintro e w9 ⟨rfl, hb9⟩)
  refine hK.out _ _ (by exact ⟨(hb9.cell (World.block_lt_of_cell? _ _ hH.1)).trans hH.1, (hb9.cell (World.block_lt_of_cell? _ _ hH.2.1)).trans hH.2.1, (hb9.cell (World.block_lt_of_cell? _ _ hH.2.2)).trans hH.2.2⟩) (fun hHq1 => ?_)
  clear hK K hH 
  have hP9 := Own.below (w := X.drew) HP.out hb9 HP.out.lt; have s0 := hP9.cell 0; have s1 := hP9.cell 1; have s2 := hP9.cell 2; have f0 := hP9.frozen 0; have f1 := hP9.frozen 1; have f2 := hP9.frozen 2; simp at s0 s1 s2
  (try simp only [Act.put, List.getElem_toArray, List.getElem_cons_succ, List.getElem_cons_zero, List.setIfInBounds_toArray, List.set_cons_zero, List.set_cons_succ])
  refine wpAnyH_take (i := 5) (v := ?_) rfl (by kernel_rfl) (by kernel_rfl) (by kernel_rfl) (fun _ _ _ h => h) (Or.inl ⟨by kernel_rfl, ?_⟩) hHq1 ?_
  rotate_left
  · (intro w hSw; first | (go_simp; done) | (go_simp; with_reducible rfl))
  (try simp only [Act.put, List.getElem_toArray, List.getElem_cons_succ, List.getElem_cons_zero, List.setIfInBounds_toArray, List.set_cons_zero, List.set_cons_succ])
  refine wpAnyH_take (i := 10) (v := ?_) rfl (by kernel_rfl) (by kernel_rfl) (by kernel_rfl) (fun _ _ _ h => h) (Or.inl ⟨by kernel_rfl, ?_⟩) hHq1 ?_
  rotate_left
  · (intro w hSw; first | (go_simp; done) | (go_simp; with_reducible rfl))
  (try simp only [Act.put, List.getElem_toArray, List.getElem_cons_succ, List.getElem_cons_zero, List.setIfInBounds_toArray, List.set_cons_zero, List.set_cons_succ])
  refine wpAnyH_ready (rs := [11]) (by kernel_rfl) (by simp) (AllReadyH.cons rfl (fun K hK => ?_) AllReadyH.nil)
  have hH := hHq1
  (go_simp; skip)
  refine hK.out _ _ (by exact ⟨far3 hH.1 (by omega), far3 hH.2.1 (by omega), far3 hH.2.2 (by omega)⟩) (fun hHq2 => ?_)
  clear hK K hH hHq1
  (try simp only [Act.put, List.getElem_toArray, List.getElem_cons_succ, List.getElem_cons_zero, List.setIfInBounds_toArray, List.set_cons_zero, List.set_cons_succ])
  refine wpAnyH_done (by kernel_rfl) ?_ _
  have hEnd := hHq2
  have hCX : Chg [] w X := by rw [← HX.out]; exact ((Chg.refl [] w).alloc _).alloc _
  have hC9 : Chg [] X w9 := ((Chg.refl [] X).drew).of_below hb9
  clear hEnd hHeld hHq2 HR HX e1 e2 e3
  go_wp2_with fail
  refine bodyPost_ret (v := pv h r n) (by simp [results, Tryz.results64, go_sem, s0, s1, s2, f0, f1, f2]) rfl ⟨rfl, ?_⟩
  exact ((((hCX.trans hC9).setCell (p := ⟨w.heap.size + 1, 0, none⟩) (Or.inr (by simp)) _).setCell (p := ⟨w.heap.size + 1, 1, none⟩) (Or.inr (by simp)) _).setCell (p := ⟨w.heap.size + 1, 2, none⟩) (Or.inr (by simp)) _)
end Go.Proofs.YtihbinphmlgjoaaGreat
namespace Go.Proofs.YtihbinphmlgjoaaGreat
open Go.RowKit
set_option linter.unusedVariables false
set_option linter.unusedSimpArgs false

theorem number2_any (w : World) (a : Option Addr) (bs : List UInt8) (c B : Nat) (hro : Ro w B a (u8s bs)) (hl : 2 ≤ bs.length) (m : Nat) (hm : nb (bs.take 2) = m) :
    Calls Tryz.prog 107 #[.slice a 2 c] w fun e w' => e = .returned (.int .u32 (m : Int)) ∧ w = w' := by
  have e : (bs.take 2).length = 2 := by rw [List.length_take]; omega
  have h := number_any w a (bs.take 2) c B (by have := hro.take 2; simpa [u8s, List.map_take] using this) (by omega)
  rw [e, hm] at h
  exact h
instance (bs : List UInt8) : Decidable (begs bs) := decidable_of_iff _ (begs_iff bs).symm
/-- in a region that reads alone: a callee that leaves the world as it is -/
theorem quiet1 {P : Program} {f : FuncId} {args : Array Value} {w : World} {n : Nat} {v : Value} (h : Calls P f args (w.drewN n) fun e w' => e = .returned v ∧ w.drewN n = w') : Calls P f args (w.drewN n) fun e w'' => e = .returned v ∧ ∃ m, w'' = w.drewN m :=
  h.mono fun _ _ h => ⟨h.1, n, h.2.symm⟩
theorem quiet2 {P : Program} {f : FuncId} {args : Array Value} {w : World} {a n : Nat} {v : Value} (h : Calls P f args (w.drewN (a + n)) fun e w' => e = .returned v ∧ w.drewN (a + n) = w') : Calls P f args (w.drewN (a + n)) fun e w'' => e = .returned v ∧ ∃ m, w'' = w.drewN (a + m) :=
  h.mono fun _ _ h => ⟨h.1, n, h.2.symm⟩
/-- what firstRecord tells -/
def FirstT (bs : List UInt8) (w : World) (e : Ending) (w' : World) : Prop :=
  ∃ a' n' c' t, e = .returned (.tuple #[.slice a' n' c', .bool t]) ∧ Hid (t = decide (begs bs)) ∧ Hid (t = true → n' = nb (bs.take 2)) ∧ Qt w w'
theorem FirstT.no {bs : List UInt8} {w w' : World} {e : Ending} (h : ¬ begs bs) (a' : Option Addr) (n' c' : Nat) (he : e = .returned (.tuple #[.slice a' n' c', .bool false])) (hw : Qt w w') : FirstT bs w e w' :=
  ⟨a', n', c', false, he, Lib.hid (by simp [h]), Lib.hid (by simp), hw⟩
theorem FirstT.yes {bs : List UInt8} {w w' : World} {e : Ending} {m : Nat} (hm : nb (bs.take 2) = m) (hl : 2 ≤ bs.length) (h2 : m ≤ bs.length - 2) (a' : Option Addr) (c' : Nat) (he : e = .returned (.tuple #[.slice a' m c', .bool (decide (1 ≤ m ∧ m ≤ 300))])) (hw : Qt w w') : FirstT bs w e w' :=
  ⟨a', m, c', _, he, Lib.hid (by
    rw [decide_eq_decide, begs_iff, hm]
    exact ⟨fun h => ⟨hl, h2, h.1, h.2⟩, fun h => ⟨h.2.2.1, h.2.2.2⟩⟩), Lib.hid (fun _ => hm.symm), hw⟩
set_option maxHeartbeats 1000000 in
set_option maxRecDepth 100000 in
theorem firstRecord_any (w : World) (a : Option Addr) (bs : List UInt8) (c B : Nat) (hro : Ro w B a (u8s bs)) (hc : bs.length ≤ c) (h63 : c ≤ 9223372036854775807) :
    Calls Tryz.prog 111 #[.slice a bs.length c] w (FirstT bs w) := by
  obtain ⟨n, HN⟩ : ∃ n, Hid (bs.length = n) := ⟨_, Lib.hid rfl⟩
  rw [HN.out] at hc ⊢
  by_cases h2 : n < 2
  · have HB := Lib.hid (show ¬ begs bs by rw [begs_iff, HN.out]; omega)
    have hd : decide ((n : Int) < 2) = true := by simp; omega
    clear hro
    go_enter Tryz.func111, Tryz.ntmps111
    go_wp2
    go_ret2
    exact FirstT.no HB.out _ _ _ rfl (Qt.refl _)
  · obtain ⟨b, off, rfl, hb, _⟩ := hro.u8 (by rw [HN.out]; omega)
    obtain ⟨m, HM⟩ : ∃ m, Hid (nb (bs.take 2) = m) := ⟨_, Lib.hid rfl⟩
    have hm16 : m < 65536 := by rw [← HM.out]; have := nb_lt 2 (bs.take 2) (by rw [List.length_take, HN.out]; omega); simpa using this
    have HC := Lib.hid (fun W (h : Qt w W) => number2_any W _ bs c B (hro.qt h) (by rw [HN.out]; omega) m HM.out)
    have hd : decide ((n : Int) < 2) = false := by simp; omega
    have HR := Lib.hid (show 2 ≤ n by omega)
    have hci : (c = 2) = True ∨ (c = 2) = False := by by_cases h : c = 2 <;> simp [h]
    have hm0 : (0 : Int) ≤ (m : Int) := by omega
    have hn2 : (2 : Int) ≤ (n : Int) := by omega
    have hc2 : (2 : Int) ≤ (c : Int) := by omega
    have hnc : (n : Int) ≤ (c : Int) := by omega
    clear hro h2
    rcases hci with hci | hci
    all_goals
      go_enter Tryz.func111, Tryz.ntmps111
      go_wp2_with fail
      go_quiet ((go_at_call 107; exact quiet1 (HC.out _ ⟨_, rfl⟩)))
      by_cases hgt : n - 2 < m
      case' pos =>
        have HNB := Lib.hid (show ¬ begs bs by rw [begs_iff, HN.out, HM.out]; omega)
        have hd2 : decide ((n : Int) - 2 < (m : Int)) = true := by simp; omega
        go_wp2
        go_ret2
        exact FirstT.no HNB.out _ _ _ rfl (Qt.drewN _ _)
      case' neg =>
        have hd2 : decide ((n : Int) - 2 < (m : Int)) = false := by simp; omega
        have hmn : (m : Int) ≤ (n : Int) - 2 := by omega
        go_wp2_with fail
        go_quiet ((go_at_call 86; exact quiet2 (isRecord_any _ _ m _)))
        go_wp2
        go_ret2
        exact FirstT.yes HM.out (by rw [HN.out]; exact HR.out) (by rw [HN.out]; omega) _ _ rfl (((Qt.refl _).add _).add _)
end Go.Proofs.YtihbinphmlgjoaaGreat
namespace Go.Proofs.YtihbinphmlgjoaaGreat
open Go.RowKit
set_option linter.unusedVariables false
set_option linter.unusedSimpArgs false

theorem Lst.shape {w : World} {base : Nat} {e : TypeId} {v : Value} {xs : List Value} (h : Lst w base e v xs) : ∃ a n c, v = .slice a n c := by
  obtain ⟨a, c, rfl, _⟩ := h.form
  exact ⟨a, _, c, rfl⟩
theorem step_rec {A : List Rec} {bs rest : List UInt8} (hA : okL A) (h : bs = frs A ++ rest) (hb : begs rest) :
    ∃ r X, okR r ∧ bs = frs (A ++ [r]) ++ X ∧ nb (rest.take 2) = r.length ∧ (frs (A ++ [r])).length = (frs A).length + (2 + r.length) := by
  obtain ⟨r, X, hr, rfl⟩ := hb
  refine ⟨r, X, hr, by rw [h, frs_snoc, List.append_assoc], begs_len hr rfl, by rw [frs_snoc_len]; omega⟩
/-- what contentOf tells -/
def ContT (h : Nat) (v : Value) (bs : List UInt8) (w : World) (e : Ending) (w' : World) : Prop :=
  (∃ L vE, okL L ∧ bs = frs L ∧ e = .returned (.tuple #[cv h v vE, .bool true]) ∧ Lst w' 0 3 vE (i64s (ens L)) ∧ (∀ g ∈ bl vE, w.heap.size ≤ g) ∧ Chg [] w w') ∨
  ((∀ L, okL L → bs ≠ frs L) ∧ e = .returned (.tuple #[cv 0 (.slice none 0 0) (.slice none 0 0), .bool false]) ∧ Chg [] w w')
/-- contentOf under way: A is read, rest lies ahead -/
structure CoAt (w wr : World) (h : Nat) (v vE : Value) (bs : List UInt8) (A : List Rec) (rest : List UInt8) : Prop where
  ok : okL A
  eq : bs = frs A ++ rest
  own : Own wr (w.heap.size + 1) 137 [.int .i64 (h : Int), v, vE]
  res : Own wr w.heap.size 137 [.int .i64 0, .slice none 0 0, .slice none 0 0]
  lst : Lst wr 0 3 vE (i64s (ens A))
  low : ∀ g ∈ bl vE, w.heap.size + 2 ≤ g
  chg : Chg [] w wr
theorem CoAt.start (w : World) (h : Nat) (v : Value) (bs : List UInt8) : CoAt w ((w.alloc (.cells #[.int .i64 0, .slice none 0 0, .slice none 0 0] 137)).alloc (.cells #[.int .i64 (h : Int), v, .slice none 0 0] 137)) h v (.slice none 0 0) bs [] bs := by
  have h1 := Own.new (w.alloc (.cells #[.int .i64 0, .slice none 0 0, .slice none 0 0] 137)) 137 [.int .i64 (h : Int), v, .slice none 0 0]
  rw [World.size_alloc] at h1
  exact ⟨okL_nil, rfl, h1, (Own.new w 137 [.int .i64 0, .slice none 0 0, .slice none 0 0]).alloc _, Lst.nil _ _ _, by intro g hg; simp [mem_bl, Value.ownBlock] at hg, ((Chg.refl [] w).alloc _).alloc _⟩
theorem CoAt.qt {w wr wr' : World} {h : Nat} {v vE : Value} {bs : List UInt8} {A : List Rec} {rest : List UInt8} (k : CoAt w wr h v vE bs A rest) (q : Qt wr wr') : CoAt w wr' h v vE bs A rest :=
  ⟨k.ok, k.eq, k.own.qt q, k.res.qt q, k.lst.qt q, k.low, k.chg.qt q⟩
theorem contentOf_any (w : World) (h : Nat) (a : Option Addr) (bs : List UInt8) (c B : Nat) (hro : Ro w B a (u8s bs)) (hB : B ≤ w.heap.size) (hh : h ≤ 1) (hc : bs.length ≤ c) (h63 : c ≤ 9223372036854775807) (hl : bs.length ≤ 1000000) :
    Calls Tryz.prog 63 #[.int .i64 (h : Int), .slice a bs.length c] w (ContT h (.slice a bs.length c) bs w) := by
  obtain ⟨n, HN⟩ : ∃ n, Hid (bs.length = n) := ⟨_, Lib.hid rfl⟩
  rw [HN.out] at hc hl ⊢
  have HRO := Lib.hid (hro.mono hB)
  clear hro hB
  go_enter Tryz.func63, Tryz.ntmps63
  go_wp2_with fail
  go_loopw [7] (fun at_ wr => ∃ A rest vE, at_ = .int .i64 (((frs A).length : Nat) : Int) ∧ Hid (CoAt w wr h (.slice a n c) vE bs A rest)) (fun at_ _ => n - (intOf at_).toNat)
  case atStart => exact ⟨[], bs, _, rfl, Lib.hid (CoAt.start w h _ bs)⟩
  case round =>
    obtain ⟨A, rest, vE, rfl, HR⟩ := hrel
    have hlen : (frs A).length + rest.length = n := by rw [← HN.out, HR.out.eq, List.length_append]
    have hdrop : bs.drop (frs A).length = rest := by rw [HR.out.eq]; exact List.drop_left
    obtain ⟨k, HK⟩ : ∃ k, Hid ((frs A).length = k) := ⟨_, Lib.hid rfl⟩
    rw [HK.out] at hlen hdrop ⊢
    by_cases hlt : k < n
    · have hd : decide (k < n) = true := by simpa using hlt
      have hkc : (c = k) = False := by simp; omega
      have hk1 : (k : Int) < (n : Int) := by omega
      have hkc2 : (k : Int) ≤ (c : Int) := by omega
      have hnc : (n : Int) ≤ (c : Int) := by omega
      have hro2 := HRO.out.below HR.out.chg.low (Nat.le_refl _)
      have hro3 := hro2.drop k c (by rw [u8s_length, HN.out]; exact hc)
      rw [if_neg (by omega), show (u8s bs).drop k = u8s rest by rw [← hdrop]; simp [u8s, List.map_drop]] at hro3
      have hF := firstRecord_any wr _ rest (c - k) w.heap.size hro3 (by omega) (by omega)
      rw [show rest.length = n - k by omega] at hF
      have HF := Lib.hid hF
      have HH := Lib.hid (And.intro hlen hdrop)
      clear hlen hdrop hro2 hro3 hF
      go_wp2_with fail
      refine HF.out.mono ?_
      rintro e w2 ⟨a2, n2, c2, t, rfl, Ht, Hn, hq⟩
      have HR2 := Lib.hid (HR.out.qt hq)
      have o0 := HR2.out.own.cell 0
      have o1 := HR2.out.own.cell 1
      have o2 := HR2.out.own.cell 2
      have p0 := HR2.out.res.cell 0
      have p1 := HR2.out.res.cell 1
      have p2 := HR2.out.res.cell 2
      have f0 := HR2.out.own.frozen 0
      have f1 := HR2.out.own.frozen 1
      have f2 := HR2.out.own.frozen 2
      have g0 := HR2.out.res.frozen 0
      have g1 := HR2.out.res.frozen 1
      have g2 := HR2.out.res.frozen 2
      simp at o0 o1 o2 p0 p1 p2
      have HQ := Lib.hid hq
      clear hq HF
      cases t with
      | false =>
        clear o0 o1 o2 f0 f1 f2
        have HB := Lib.hid (show ¬ begs rest by have := Ht.out; simpa using this.symm)
        go_wp2_with fail
        refine bodyPost_ret (v := .tuple #[cv 0 (.slice none 0 0) (.slice none 0 0), .bool false]) (by simp [results, Tryz.results63, go_sem, p0, p1, p2, g0, g1, g2]) rfl (.inr ⟨?_, rfl, ?_⟩)
        · intro L hL hbs
          have hne : rest ≠ [] := by rintro rfl; have := HH.out.1; simp at this; omega
          exact HB.out (frs_begs HR.out.ok hL (HR.out.eq.symm.trans hbs) hne)
        · exact ((HR2.out.chg.setCell (p := ⟨w.heap.size, 0, none⟩) (Or.inr (Nat.le_refl _)) _).setCell (p := ⟨w.heap.size, 1, none⟩) (Or.inr (Nat.le_refl _)) _).setCell (p := ⟨w.heap.size, 2, none⟩) (Or.inr (Nat.le_refl _)) _
      | true =>
        clear p0 p1 p2 g0 g1 g2
        obtain ⟨r, X, hr, hbs, hnb, hlr⟩ := step_rec HR.out.ok HR.out.eq (show begs rest by have := Ht.out; simpa using this.symm)
        have hn2 : n2 = r.length := (Hn.out rfl).trans hnb
        have hle := congrArg List.length hbs
        rw [List.length_append, HN.out, hlr, HK.out] at hle
        rw [hn2]
        have hr63 : r.length ≤ 300 := hr.2
        have HFS := Lib.hid (frameSize_any w2 a2 r.length c2 (by omega))
        have HS := Lib.hid (And.intro hr (And.intro hbs hlr))
        have hle2 : k + (2 + r.length) ≤ n := by omega
        clear hn2 hnb hbs hlr hr hle Hn Ht
        obtain ⟨m, HM⟩ : ∃ m, Hid (r.length = m) := ⟨_, Lib.hid rfl⟩
        rw [HM.out] at hr63 HFS hle2 ⊢
        obtain ⟨s, HSS⟩ : ∃ s, Hid (2 + m = s) := ⟨_, Lib.hid rfl⟩
        rw [HSS.out] at HFS hle2
        have hs0 : (0 : Int) ≤ (s : Int) := by omega
        have hks : (k : Int) + (s : Int) ≤ (n : Int) := by omega
        have HLE := Lib.hid (show (i64s (ens A)).length ≤ 1000000 by
          rw [i64s_length, ens_len]
          have := frs_ge HR.out.ok
          have := HK.out
          omega)
        have hX : ∀ v4 w4, AppK w2 w4 3 vE v4 (i64s (ens A)) [.int .i64 ((k : Int) + (s : Int))] → Hid (CoAt w (w4.setCell ⟨w.heap.size + 1, 2, none⟩ v4) h (.slice a n c) v4 bs (A ++ [r]) X) ∧ w4.cell? ⟨w.heap.size + 1, 2, none⟩ = some vE ∧ w4.frozen? ⟨w.heap.size + 1, 2, none⟩ = false := by
          intro v4 w4 H4
          have hlow := HR2.out.low
          have hne : ∀ x ∈ bl vE, x ≠ w.heap.size + 1 ∧ x ≠ w.heap.size := fun x hx => by have := hlow x hx; omega
          have hO := HR2.out.own.chg H4.chg (fun hx => (hne _ hx).1 rfl)
          have hRs := HR2.out.res.chg H4.chg (fun hx => (hne _ hx).2 rfl)
          have hsz := HR2.out.chg.size
          have hlt1 := HR2.out.own.lt
          have hl4 : ∀ g ∈ bl v4, w.heap.size + 2 ≤ g := fun g hg => by
            rcases H4.bl g hg with h1 | h1
            · exact hlow g h1
            · omega
          have hc4 : Chg [] w w4 := HR2.out.chg.then H4.chg (fun x hx => .inr (by have := hlow x hx; omega))
          refine ⟨Lib.hid ⟨HR.out.ok.snoc HS.out.1, HS.out.2.1, hO.set 2 v4, hRs.far (by simp) _, ?_, hl4, hc4.setCell (Or.inr (by simp)) _⟩, by rw [hO.cell]; rfl, hO.frozen 2⟩
          have hl := H4.lst
          have e : i64s (ens (A ++ [r])) = i64s (ens A) ++ [.int .i64 ((k : Int) + (s : Int))] := by
            have h1 := HS.out.2.2
            have h2 := HK.out
            have h3 := HSS.out
            have h4 := HM.out
            rw [ens_snoc, h1]
            simp only [i64s, List.map_append, List.map_cons, List.map_nil]
            congr 3
            omega
          rw [e]
          exact hl.chg (l := [w.heap.size + 1]) ((Chg.refl _ _).setCell (by simp) _) (fun g hg hm => by
            have := hl4 g (mem_bl.2 hg)
            simp at hm
            omega)
        have HX := Lib.hid hX
        clear hX o0 o1 f0 f1 f2
        go_wp2_with fail
        refine HFS.out.mono ?_
        rintro e w3 ⟨rfl, rfl⟩
        go_wp2_with (first
          | (at_builtin; refine wpList_appK1 rfl _ _ 77 rfl 3 (.int .i64 0) 8 Tryz.underlying77 infoInt rfl _ rfl vE _ (by rfl) HR2.out.lst _ (by rfl) (by simp) (by have := HLE.out; omega) (by have := HLE.out; omega) ?_; intro v4 w4 H4; obtain ⟨H5, c5, f5⟩ := HX.out v4 w4 H4.out; obtain ⟨a4, n4, c4, rfl⟩ := H4.out.lst.shape; clear H4 HX)
          | fail)
        go_roundw
        case rel => exact ⟨A ++ [r], X, _, by have h1 := HS.out.2.2; have h2 := HK.out; have h3 := HSS.out; have h4 := HM.out; congr 1; omega, H5⟩
        case measure => have := HSS.out; simp [intOf]; omega
    · obtain ⟨aE, nE, cE, rfl⟩ := HR.out.lst.shape
      have hkn : k = n := by omega
      have hrest : rest = [] := List.eq_nil_of_length_eq_zero (by omega)
      have HE := Lib.hid (show bs = frs A by rw [HR.out.eq, hrest, List.append_nil])
      have o0 := HR.out.own.cell 0
      have o1 := HR.out.own.cell 1
      have o2 := HR.out.own.cell 2
      have p0 := HR.out.res.cell 0
      have p1 := HR.out.res.cell 1
      have p2 := HR.out.res.cell 2
      have g0 := HR.out.res.frozen 0
      have g1 := HR.out.res.frozen 1
      have g2 := HR.out.res.frozen 2
      simp at o0 o1 o2 p0 p1 p2
      have hd : decide (k < n) = false := by simpa using hlt
      clear hlen hdrop hrest hkn
      go_wp2_with fail
      refine bodyPost_ret (v := .tuple #[cv h (.slice a n c) (.slice aE nE cE), .bool true]) (by simp [results, Tryz.results63, go_sem, p0, p1, p2, g0, g1, g2, o0, o1, o2]) rfl (.inl ⟨A, _, HR.out.ok, HE.out, rfl, ?_, ?_, ?_⟩)
      · exact HR.out.lst.chg (l := [w.heap.size]) ((((Chg.refl _ _).setCell (by simp) _).setCell (by simp) _).setCell (by simp) _) (fun g hg hm => by
          have := HR.out.low g (mem_bl.2 hg)
          simp at hm
          omega)
      · exact fun g hg => Nat.le_trans (by omega) (HR.out.low g hg)
      · exact ((HR.out.chg.setCell (p := ⟨w.heap.size, 0, none⟩) (Or.inr (Nat.le_refl _)) _).setCell (p := ⟨w.heap.size, 1, none⟩) (Or.inr (Nat.le_refl _)) _).setCell (p := ⟨w.heap.size, 2, none⟩) (Or.inr (Nat.le_refl _)) _
end Go.Proofs.YtihbinphmlgjoaaGreat
