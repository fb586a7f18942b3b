/-
  Append to a slice of one's own: what other slices read behind it, and whose block it is. Lemmas only, no claim of their own.
-/
import Derived.Test.YtdiemejdbakffaaTpM
import Derived.Test.YtdiemejdbakffaaDkD
namespace Go.Proofs.Ytdiemejdbakffaa
open Go.RowKit
set_option linter.unusedVariables false
set_option linter.unusedSimpArgs false

/-- the block of a slice of one's own -/
def bl (v : Value) : List Nat := v.ownBlock.toList
theorem mem_bl {v : Value} {g : Nat} : g ∈ bl v ↔ v.ownBlock = some g := by unfold bl; cases v.ownBlock <;> simp [eq_comm]
/-- ys are appended to v, which is xs: v' is that; whose block it is; what reads as before -/
structure AppK (w w' : World) (e : TypeId) (v v' : Value) (xs ys : List Value) : Prop where
  lst : Lst w' 0 e v' (xs ++ ys)
  same : v'.ownBlock = v.ownBlock ∨ ∀ g, v'.ownBlock = some g → w.heap.size ≤ g
  keep : ∀ u zs, Lst w 0 e u zs → (∀ g, u.ownBlock = some g → v.ownBlock = some g → zs.length ≤ xs.length) → Lst w' 0 e u zs
  chg : Chg (bl v) w w'
theorem Lst.chg {w w' : World} {base : Nat} {e : TypeId} {v : Value} {xs : List Value} {l : List Nat} (h : Lst w base e v xs) (hc : Chg l w w') (hg : ∀ g, v.ownBlock = some g → g ∉ l) : Lst w' base e v xs := by
  refine ⟨h.1, ?_⟩
  rcases h.2 with hn | ⟨g, cap, cur, rfl, hb, hgg, rest⟩
  · exact .inl hn
  · exact .inr ⟨g, cap, cur, rfl, hb, (hc.block g (Array.getElem?_eq_some_iff.1 hgg).1 (hg g rfl)).trans hgg, rest⟩
theorem Lst.kept0 {w w' : World} {base : Nat} {e : TypeId} {v : Value} {xs : List Value} (h : Lst w base e v xs) (hc : Chg [] w w') : Lst w' base e v xs := h.chg hc (by simp)
/-- slices of other elements lie in other blocks -/
theorem Lst.off {w : World} {e t : TypeId} {u v : Value} {xs ys : List Value} (h : Lst w 0 e u xs) (k : Lst w 0 t v ys) (hne : e ≠ t) : ∀ g, u.ownBlock = some g → g ∉ bl v := by
  intro g hg hv
  rw [mem_bl] at hv
  rcases h.2 with ⟨rfl, _⟩ | ⟨g1, c1, r1, rfl, _, h1, _⟩
  · simp [Value.ownBlock] at hg
  · rcases k.2 with ⟨rfl, _⟩ | ⟨g2, c2, r2, rfl, _, h2, _⟩
    · simp [Value.ownBlock] at hv
    · simp only [Value.ownBlock, Option.some.injEq] at hg hv
      subst hg
      subst hv
      rw [h1] at h2
      cases h2
      exact hne rfl
theorem Lst.bl_lt {w : World} {e : TypeId} {v : Value} {xs : List Value} (h : Lst w 0 e v xs) : ∀ g ∈ bl v, g < w.heap.size := fun g hg => (h.lt g (mem_bl.1 hg)).2
theorem grown_chg {w w' : World} {v : Value} (h : w.grownBy w' v.ownBlock) : Chg (bl v) w w' := ⟨h.os, h.tape, h.output, h.size, fun k hk hn => h.block k hk (fun e => hn (mem_bl.2 e.symm))⟩
theorem AppK.refl {w : World} {e : TypeId} {v : Value} {xs : List Value} (h : Lst w 0 e v xs) : AppK w w e v v xs [] := ⟨by rw [List.append_nil]; exact h, .inl rfl, fun _ _ h _ => h, Chg.refl _ _⟩
theorem AppK.bl {w w' : World} {e : TypeId} {v v' : Value} {xs ys : List Value} (h : AppK w w' e v v' xs ys) : ∀ x ∈ bl v', x ∈ Proofs.Ytdiemejdbakffaa.bl v ∨ w.heap.size ≤ x := fun x hx => by
  rcases h.same with hs | hs
  · left; rw [mem_bl] at hx ⊢; rw [← hs]; exact hx
  · right; exact hs x (mem_bl.1 hx)
theorem AppK.trans {w w1 w2 : World} {e : TypeId} {v v1 v2 : Value} {xs ys zs : List Value} (h0 : Lst w 0 e v xs) (h : AppK w w1 e v v1 xs ys) (k : AppK w1 w2 e v1 v2 (xs ++ ys) zs) : AppK w w2 e v v2 xs (ys ++ zs) := by
  refine ⟨by rw [← List.append_assoc]; exact k.lst, ?_, fun u us hu hl => ?_, h.chg.then k.chg h.bl⟩
  · rcases k.same with k1 | k1
    · rw [k1]; exact h.same
    · exact .inr fun g hg => Nat.le_trans h.chg.size (k1 g hg)
  · have h1 := h.keep u us hu hl
    refine k.keep u us h1 fun g hg hv => ?_
    rcases h.same with hs | hs
    · rw [hs] at hv
      have := hl g hg hv
      rw [List.length_append]; omega
    · have h2 := hs g hv
      have h3 := (hu.lt g hg).2
      omega
/-- what came before it may have made memory -/
theorem AppK.pre {w w1 w2 : World} {e : TypeId} {v v' : Value} {xs ys : List Value} (hc : Chg [] w w1) (h : AppK w1 w2 e v v' xs ys) : AppK w w2 e v v' xs ys :=
  ⟨h.lst, h.same.imp id fun k g hg => Nat.le_trans hc.size (k g hg), fun u us hu hl => h.keep u us (hu.kept0 hc) hl, (hc.mono (by simp)).trans h.chg⟩
/-- other blocks may turn behind it -/
theorem AppK.post {w w1 w2 : World} {e : TypeId} {v v' : Value} {xs ys : List Value} (h : AppK w w1 e v v' xs ys) {l : List Nat} (hc : Chg l w1 w2) (hl : ∀ g, (∃ c, w1.heap[g]? = some (.cells c e (0, 0))) → g ∉ l) :
    Lst w2 0 e v' (xs ++ ys) ∧ (∀ u zs, Lst w 0 e u zs → (∀ g, u.ownBlock = some g → v.ownBlock = some g → zs.length ≤ xs.length) → Lst w2 0 e u zs) := by
  have hx : ∀ u zs, Lst w1 0 e u zs → Lst w2 0 e u zs := fun u zs hu => hu.chg hc fun g hg => hl g (by
    rcases hu.2 with ⟨rfl, _⟩ | ⟨g1, c1, r1, rfl, _, h1, _⟩
    · simp [Value.ownBlock] at hg
    · simp only [Value.ownBlock, Option.some.injEq] at hg
      subst hg
      exact ⟨_, h1⟩)
  exact ⟨hx _ _ h.lst, fun u zs hu hk => hx _ _ (h.keep u zs hu hk)⟩
section
variable {P : Program} {w : World}
theorem run_appK (t ty e : TypeId) (z : Value) (bytes : Nat) (ht : P.underlying t = some (.slice e)) (hinfo : (P.info? e).map (fun i => (i.zero, i.size, i.bytes)) = some (some z, 1, bytes)) (hzs : z.cells.size = 1)
    (v : Value) (xs : List Value) (hown : Lst w 0 e v xs) (A : Option Addr) (B m c : Nat) (news : List Value) (hm : news.length = m) (hro : Ro w B A news) (h1 : ∀ u ∈ news, u.oneCell' = true)
    (hlen : (xs.length + m) * bytes ≤ 140737488355328) (hlen2 : xs.length + m ≤ 140737488355328) :
    ∃ v' w', (Builtin.append_ #[t, t] ty #[v, .slice A m c]).run P w = .ok v' w' ∧ AppK w w' e v v' xs news := by
  obtain ⟨i, hi, hzz⟩ := Option.map_eq_some_iff.1 hinfo
  simp only [Prod.mk.injEq] at hzz
  obtain ⟨hz, hsz, hby⟩ := hzz
  subst hm
  rcases A with _ | ad
  · have hn : news = [] := by
      rcases hro with h | ⟨b, off, h, _⟩
      · exact h
      · cases h
    subst hn
    have hrun := run_app_none (P := P) (w := w) 0 t ty e i ht hi v xs hown c
    exact ⟨v, w, hrun, AppK.refl hown⟩
  · have hcells : ∀ j u, news[j]? = some u → w.cell? (ad.add j) = some u := by
      intro j u hu
      have hj : j < news.length := (List.getElem?_eq_some_iff.1 hu).1
      rcases hro with h | ⟨b, off, h, hb, hc⟩
      · subst h; simp at hj
      · injection h with h
        subst h
        rw [add_off, hc j hj]
        simp [List.getD, hu]
    have hmax : xs.length + news.length ≤ maxLen := by unfold maxLen; omega
    have hnl : news.length = news.length * i.size := by rw [hsz, Nat.mul_one]
    by_cases hroom : ∃ g cap, v = .slice (some ⟨g, 0, none⟩) xs.length cap ∧ xs.length + news.length ≤ cap
    · obtain ⟨g, cap, rfl, hrm⟩ := hroom
      rcases hown.2 with ⟨h0, _⟩ | ⟨g1, cap1, cur, h0, hb, hg, hnc, hcm, hcs, htake⟩
      · cases h0
      · injection h0 with h01 h02 h03
        injection h01 with h01
        injection h01 with h01 _ _
        subst h01 h03
        have hcs2 : cur.size = cap := by simpa using hcs
        have hr := run_append_room (P := P) w t ty e i ht hi g xs.length cap cur hg ad news.length c news hnl hcells h1 hrm (by rw [hsz, hcs2]; omega)
        rw [hsz, Nat.mul_one] at hr
        have hh := setRow_heap w g cur (cur.toList.take xs.length ++ news ++ cur.toList.drop (xs.length + news.length)).toArray e (0, 0) hg
        have hoth : ∀ k, k ≠ g → (w.setRow g (cur.toList.take xs.length ++ news ++ cur.toList.drop (xs.length + news.length)).toArray).heap[k]? = w.heap[k]? := fun k hk => setRow_other w g k _ hk
        have hnsz : (cur.toList.take xs.length ++ news ++ cur.toList.drop (xs.length + news.length)).length = cap := by
          simp only [List.length_append, List.length_take, List.length_drop, Array.length_toList]; omega
        have hgr : w.grownBy (w.setRow g (cur.toList.take xs.length ++ news ++ cur.toList.drop (xs.length + news.length)).toArray) (some g) := ⟨rfl, rfl, rfl, by simp, fun k _ hk => setRow_other w g k _ (fun e => hk (by simp [e]))⟩
        refine ⟨_, _, hr, ⟨⟨by simp, .inr ⟨g, cap, _, by simp, Nat.zero_le _, hh, by simp; omega, hcm, by simp; simpa using hnsz, ?_⟩⟩, .inl rfl, fun u zs hu hl => ?_, grown_chg (v := .slice (some ⟨g, 0, none⟩) xs.length cap) hgr⟩⟩
        · have ht2 : cur.toList.take xs.length = xs := by simpa using htake
          simp only [List.toList_toArray, Nat.mul_one, ht2]
          exact List.take_left
        · rcases hu.2 with ⟨rfl, hu0⟩ | ⟨g2, cap2, cur2, rfl, hb2, hg2, hnc2, hcm2, hcs2', htake2⟩
          · exact ⟨hu.1, .inl ⟨rfl, hu0⟩⟩
          · by_cases e2 : g2 = g
            · subst e2
              rw [hg] at hg2
              cases hg2
              have hle := hl g2 rfl rfl
              refine ⟨hu.1, .inr ⟨g2, cap2, _, rfl, Nat.zero_le _, hh, hnc2, hcm2, by rw [List.size_toArray, hnsz, ← hcs2, hcs2'], ?_⟩⟩
              simp only [Nat.mul_one] at htake2
              simp only [List.toList_toArray, Nat.mul_one, List.append_assoc]
              rw [List.take_append_of_le_length (by simp; omega), List.take_take, Nat.min_eq_left hle, htake2]
            · exact ⟨hu.1, .inr ⟨g2, cap2, cur2, rfl, hb2, (hoth g2 e2).trans hg2, hnc2, hcm2, hcs2', htake2⟩⟩
    · obtain ⟨v', w', hr, h2, h3, h4⟩ := run_append_own (P := P) w 0 t ty e i z 1 bytes ht hi hz hsz hby hzs (by omega) v xs.length xs hown ad news.length c news (by omega) hcells h1 hmax hlen (Nat.zero_le _)
      have fin : ∀ (o : Obj) (n2 c2 : Nat), (Builtin.append_ #[t, t] ty #[v, .slice (some ad) news.length c]).run P w = .ok (.slice (some ⟨w.heap.size, 0, none⟩) n2 c2) (w.drew.alloc o) → ∃ v' w', (Builtin.append_ #[t, t] ty #[v, .slice (some ad) news.length c]).run P w = .ok v' w' ∧ AppK w w' e v v' xs news := by
        intro o n2 c2 hr2
        rw [hr] at hr2
        injection hr2 with e1 e2
        subst e1
        subst e2
        have hC : Chg [] w (w.drew.alloc o) := ((Chg.refl [] w).drew).alloc o
        exact ⟨_, _, hr, ⟨by unfold Lst; rw [List.length_append]; exact h2, .inr (by intro g hg; simp only [Value.ownBlock, Option.some.injEq] at hg; omega), fun u zs hu _ => hu.kept0 hC, hC.mono (by simp)⟩⟩
      rcases hown.2 with ⟨rfl, h0⟩ | ⟨g, cap, cur, rfl, hb, hg, hnc, hcm, hcs, htake⟩
      · have hx : xs = [] := List.eq_nil_of_length_eq_zero h0
        subst hx
        by_cases hm : news.length = 0
        · have hn : news = [] := List.eq_nil_of_length_eq_zero hm
          subst hn
          refine ⟨.slice none 0 0, w, ?_, AppK.refl hown⟩
          simp [Builtin.append_, run_underlying ht, sizeOf, typeInfo, hi, Builtin.lenOf, Builtin.firstCells, loadCells, loadCellsFrom]
        · exact fin _ _ _ (run_append_nil (P := P) w t ty e i z ht hi hz ad news.length c news hnl hcells (by omega) (by simp at hlen2; omega) (by rw [hby]; simp only [List.length_nil, Nat.zero_add] at hlen; omega))
      · have hnr : cap < xs.length + news.length := by
          refine Nat.lt_of_not_le fun hle => hroom ⟨g, cap, rfl, hle⟩
        have holds : ∀ j u, xs[j]? = some u → w.cell? ((⟨g, 0, none⟩ : Addr).add j) = some u := World.ownsRow.cells hown (g := g) rfl
        exact fin _ _ _ (run_append_grow (P := P) w t ty e i z ht hi hz ⟨g, 0, none⟩ xs.length cap xs (by rw [hsz, Nat.mul_one]) holds ad news.length c news hnl hcells hnr (by omega) (by rw [hby]; exact growslice_fits (by omega) hlen))
end
section
variable {P : Program} {w : World} {ops : Array Oper} {rest : List Oper} {o : Oper} {a : Act} {Q : Exit → Act → World → Prop}
theorem wp_appK {K : Act → World → Prop} (s x : Operand) (t : TypeId)
    (ho : o.op = .call { callee := .builtin .append, args := #[s, x], argTypes := #[t, t] })
    (e : TypeId) (z : Value) (bytes : Nat) (ht : P.underlying t = some (.slice e)) (hinfo : (P.info? e).map (fun i => (i.zero, i.size, i.bytes)) = some (some z, 1, bytes)) (hzs : z.cells.size = 1)
    (v : Value) (xs : List Value) (hs : a.eval s = v) (hown : Lst w 0 e v xs)
    (A : Option Addr) (B m c : Nat) (news : List Value) (hx : a.eval x = .slice A m c) (hm : news.length = m) (hro : Ro w B A news) (h1 : ∀ u ∈ news, u.oneCell' = true)
    (hlen : (xs.length + m) * bytes ≤ 140737488355328) (hlen2 : xs.length + m ≤ 140737488355328)
    (h : ∀ v' w', Hid (AppK w w' e v v' xs news) → K (a.put o.dst v') w') : o.wp P a w K Q := by
  obtain ⟨v', w', hr, hk⟩ := run_appK (P := P) t o.type e z bytes ht hinfo hzs v xs hown A B m c news hm hro h1 hlen hlen2
  unfold Oper.wp execOp
  simp only [ho, resolve, invoke, builtin, Sem.run_bind, Sem.run_pure, Result.andThen_ok, List.map_toArray, List.map_cons, List.map_nil, hs, hx, hr]
  exact h v' w' (Lib.hid hk)
theorem wpList_appK (hgd : o.guard = none) (s x : Operand) (t : TypeId)
    (ho : o.op = .call { callee := .builtin .append, args := #[s, x], argTypes := #[t, t] })
    (e : TypeId) (z : Value) (bytes : Nat) (ht : P.underlying t = some (.slice e)) (hinfo : (P.info? e).map (fun i => (i.zero, i.size, i.bytes)) = some (some z, 1, bytes)) (hzs : z.cells.size = 1)
    (v : Value) (xs : List Value) (hs : a.eval s = v) (hown : Lst w 0 e v xs)
    (A : Option Addr) (B m c : Nat) (news : List Value) (hx : a.eval x = .slice A m c) (hm : news.length = m) (hro : Ro w B A news) (h1 : ∀ u ∈ news, u.oneCell' = true)
    (hlen : (xs.length + m) * bytes ≤ 140737488355328) (hlen2 : xs.length + m ≤ 140737488355328)
    (h : ∀ v' w', Hid (AppK w w' e v v' xs news) → wpList P ops Q rest (a.put o.dst v') w') : wpList P ops Q (o :: rest) a w :=
  wpList_plain hgd fun _ hK => wp_appK s x t ho e z bytes ht hinfo hzs v xs hs hown A B m c news hx hm hro h1 hlen hlen2 fun v' w' h2 => hK _ _ (h v' w' h2)
/-- append of one value -/
theorem wpList_appK1 (hgd : o.guard = none) (s x : Operand) (t : TypeId)
    (ho : o.op = .call { callee := .builtin .append, args := #[s, x], argTypes := #[t, t] })
    (e : TypeId) (z : Value) (bytes : Nat) (ht : P.underlying t = some (.slice e)) (hinfo : (P.info? e).map (fun i => (i.zero, i.size, i.bytes)) = some (some z, 1, bytes)) (hzs : z.cells.size = 1)
    (u : Value) (h1 : u.oneCell' = true) (v : Value) (xs : List Value) (hs : a.eval s = v) (hown : Lst w 0 e v xs)
    (g : Nat) (hx : a.eval x = .slice (some ⟨g, 0, none⟩) 1 1) (hg : g = w.heap.size)
    (hlen : (xs.length + 1) * bytes ≤ 140737488355328) (hlen2 : xs.length + 1 ≤ 140737488355328)
    (h : ∀ v' w', Hid (AppK w w' e v v' xs [u]) → wpList P ops Q rest (a.put o.dst v') w') : wpList P ops Q (o :: rest) a (w.alloc (.cells #[u] e)) := by
  subst hg
  exact wpList_appK hgd s x t ho e z bytes ht hinfo hzs v xs hs (hown.alloc _) (some ⟨w.heap.size, 0, none⟩) (w.heap.size + 1) 1 1 [u] hx rfl (ro_one w e u) (by simpa using h1) hlen hlen2
    fun v' w' h2 => h v' w' (Lib.hid (AppK.pre ((Chg.refl [] w).alloc _) h2.out))
end
end Go.Proofs.Ytdiemejdbakffaa
