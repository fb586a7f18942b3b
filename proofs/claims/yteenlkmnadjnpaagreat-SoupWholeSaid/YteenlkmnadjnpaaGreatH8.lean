/-
  Package soup: its kinds in order, one of them; a copy put in, one taken out. No claim of its own.
-/
import Derived.Test.YteenlkmnadjnpaaGreatH7
import Derived.Test.YteenlkmnadjnpaaGreatH2
import Derived.Test.YteenlkmnadjnpaaGreatH6
import Derived.Deep.Cut
import Derived.Test.YteenlkmnadjnpaaGreatH5
namespace Go.Proofs.YteenlkmnadjnpaaGreat
open Go.RowKit Go.Maps Go.Sort Go.Shelf Go.Deep
set_option linter.unusedVariables false
set_option linter.unusedSimpArgs false

theorem sortsA (m : Nat) : AnyZ.SortsIn Tryz.prog sortedA_ren Fence.wide m :=
  ⟨fun blk off cap ss W hH hblk hsz => callsIn_wide.2 (AnyM.slices_Sort_string sortA blk off cap ss W hH hblk hsz),
   fun p cap W => callsIn_wide.2 (AnyM.slices_Sort_string_none sortA p cap W)⟩
theorem keys_dd {w : World} {b n : Nat} {D : DataW Value} {L : List Ky} (ho : w.ownsMap Tryz.prog 9 idR b n D) (hm : MapSD (cntV L) D) (hs : Srt L) : (dd L).Perm (strKeys D) := by
  obtain ⟨es, hD, hpw, _⟩ := ho.entries skeyed
  subst hD
  refine perm_strKeys hpw (fun p hp => ?_) (dd_nodup hs) fun x => ?_
  · have : Go.Maps.has (.map es) p.1 = true := List.any_eq_true.2 ⟨p, hp, WideAt.sameKey_self ((ho.entries skeyed).elim fun es' h => by obtain ⟨e, _, hk⟩ := h; cases e; exact hk p hp)⟩
    obtain ⟨a, ha⟩ := hm.keys p.1 this
    exact ⟨a, ha⟩
  · rw [hm.has, cntV_some, dd_mem]
set_option maxHeartbeats 1000000 in
theorem keys_any {w : World} {p b d : Nat} {S : SpS} (h : Sp w p b d S) :
    Calls Tryz.prog 85 #[.pointer (some ⟨p, 0, none⟩)] w fun e w' => ∃ v : Value, e = .returned v ∧ Lst w' w.heap.size 9 v ((dd S.L).map sv) ∧ Below w.heap.size w w' := by
  obtain ⟨D, hown, hm⟩ := h.tm.own
  have HP := Lib.hid (keys_dd hown hm h.srt)
  have HSD := Lib.hid (dd_strict h.srt)
  have c0 := h.own.cell 0
  simp at c0
  have hz := h.own.lt
  have hsize : size D ≤ S.L.length := hown.size_le
  have hl := h.len
  have hmax : size D ≤ maxLen := by unfold maxLen; omega
  have hbytes : size D * 16 ≤ 140737488355328 := by omega
  refine (callsIn_wide (n := 6)).1 ?_
  have hbl := hown.lt
  have hseq : SeqGives Fence.wide 2 Tryz.prog 158 #[.pointer (some ⟨w.heap.size, 0, none⟩)] encStr (fun ss => ss.Perm (strKeys D)) (size D) (w.alloc (.cells #[.map (some b)] 120)) :=
    AnyZ.keys_gives (ρ := keysA_ren) { keysA with } Fence.wide _ trivial rfl (by omega) w.heap.size b S.L.length D _ (by simp) (by simp) (by
      obtain ⟨es, clock, hb, Ft, hs, hD⟩ := hown
      exact ⟨es, clock, (Below.heap_alloc _ _ b hbl).trans hb, Ft, hs, hD⟩)
  have cK : ∀ mb W, CallsIn Fence.wide 5 Tryz.prog 133 #[.map mb] W fun e w' => e = .returned (.func (.func 158) #[] #[.pointer (some ⟨W.heap.size, 0, none⟩)]) ∧ w' = W.alloc (.cells #[.map mb] 120) := fun mb W => AnyZ.keys_in keysA Fence.wide 5 trivial rfl mb W
  have cS := AnyZ.sorted_in sortedA Fence.wide 5 trivial trivial trivial trivial rfl (by omega) (sortsA _) (enters_of Tryz.func157 (by kernel_rfl) rfl) 158 #[.pointer (some ⟨w.heap.size, 0, none⟩)] trivial (enters_of Tryz.func158 (by kernel_rfl) rfl) _ _ hmax hbytes _ hseq
  change CallsIn _ _ Tryz.prog 132 _ _ _ at cS
  have hfK : Fence.wide.fn 133 := trivial
  have hfS : Fence.wide.fn 132 := trivial
  clear hm h hsize hown hl
  refine callsIn_of_wp Tryz.func85 rfl trivial ?_ rfl
  simp only [Tryz.ntmps85, List.size_toArray, List.length_cons, List.length_nil, Nat.reduceAdd, Nat.reduceSub, Array.replicate_succ, Array.replicate_zero, List.push_toArray, List.append_toArray, List.nil_append, List.cons_append]
  gi_wp2_with (first
    | (gi_at_call 133; refine (cK _ _).mono ?_; rintro e w' ⟨rfl, rfl⟩)
    | (gi_at_call 132; refine cS.mono ?_; rintro e w' ⟨v, ss, rfl, hS, hrow, hnil, hb⟩))
  go_ret
  have hp : ss.Perm (dd S.L) := hS.trans HP.out.symm
  have e1 : ss.mergeSort leB = dd S.L := by
    rw [mergeSort_of_perm hp]
    refine List.mergeSort_of_pairwise ?_
    exact HSD.out.imp fun {a b} hab => by simp [leB, List.le_of_lt hab]
  have e2 : ss.length = ((dd S.L).map sv).length := by rw [List.length_map]; exact hp.length_eq
  have e3 : (dd S.L).map encStr = (dd S.L).map sv := rfl
  change w'.ownsRow _ _ _ _ _ ((ss.mergeSort leB).map encStr) at hrow
  rw [e1, e3, e2] at hrow
  exact ⟨v, rfl, ownsRow_base_a hrow (by simp), ((Below.refl _ w).alloc (Nat.le_refl _) _).trans (hb.mono (by simp))⟩
theorem keys_nil (w : World) : Calls Tryz.prog 85 #[.pointer none] w fun e w' => e = .returned (.slice none 0 0) ∧ w = w' := by
  go_enter Tryz.func85, Tryz.ntmps85
  go_wp2
  go_ret
  exact ⟨rfl, rfl⟩
/-- the i-th kind, or none -/
def keyAt (L : List Ky) (i : Int) : Option Ky := if i < 0 then none else (dd L)[i.toNat]?
/-- what key tells -/
def keyR (L : List Ky) (i : Int) : Value := match keyAt L i with
  | some k => .tuple #[sv k, .int .i64 0]
  | none => .tuple #[.string ⟨#[]⟩, .int .i64 1]
set_option maxHeartbeats 2000000 in
theorem key_any {w : World} {p b d : Nat} {S : SpS} (h : Sp w p b d S) (i : Int) :
    Calls Tryz.prog 88 #[.pointer (some ⟨p, 0, none⟩), .int .i64 i] w fun e w' => e = .returned (keyR S.L i) ∧ Chg [] w w' := by
  have HK := Lib.hid (keys_any h)
  have HLN : Hid ((dd S.L).length ≤ 400) := Lib.hid (by
    have h1 := nodup_sub_le (dd_nodup h.srt) (fun x hx => dd_mem.1 hx)
    have := h.len
    omega)
  clear h
  unfold keyR keyAt
  generalize dd S.L = K at *
  obtain ⟨r, hr⟩ : ∃ r, (match (if i < 0 then none else K[i.toNat]?) with | some k => Value.tuple #[sv k, .int .i64 0] | none => .tuple #[.string ⟨#[]⟩, .int .i64 1]) = r := ⟨_, rfl⟩
  rw [hr]
  have HR := Lib.hid hr
  obtain ⟨n, hn⟩ : ∃ n, K.length = n := ⟨_, rfl⟩
  have HN := Lib.hid hn
  have hn4 := HLN.out
  rw [hn] at hn4
  clear hn hr
  go_enter Tryz.func88, Tryz.ntmps88
  go_wp2_with fail
  refine HK.out.mono ?_
  rintro e w1 ⟨v, rfl, hl, hb⟩
  have HB := Lib.hid ((Chg.refl [] w).of_below hb)
  obtain ⟨a, c, rfl, hro, hc, _⟩ := hl.form
  rw [List.length_map, HN.out]
  have HRO := Lib.hid hro
  clear hl hb hro hc
  by_cases h0 : i < 0
  · have e0 : decide (i < 0) = true := by simpa using h0
    have HE := HR.out
    rw [if_pos h0] at HE
    have HE2 := Lib.hid HE
    clear h0 HE
    go_wp2_with fail
    go_ret2
    exact ⟨HE2.out ▸ rfl, HB.out⟩
  · have e0 : decide (i < 0) = false := by simpa using h0
    have HE := HR.out
    rw [if_neg h0] at HE
    by_cases h1 : i < (n : Int)
    · obtain ⟨j, rfl⟩ : ∃ j : Nat, i = (j : Int) := ⟨i.toNat, by omega⟩
      have hj : j < n := by omega
      have e1 : decide ((n : Int) ≤ (j : Int)) = false := by simp; omega
      have e1' : decide (n ≤ j) = false := by simp; omega
      have hjK : j < K.length := by rw [HN.out]; exact hj
      have hne : K.map sv ≠ [] := fun e => by rw [List.map_eq_nil_iff] at e; rw [e] at hjK; simp at hjK
      obtain ⟨bb, off, rfl, hbb, hcell⟩ := HRO.out.at_ hne
      have h9 := hcell j (by rw [List.length_map]; exact hjK)
      have e9 : (K.map sv).getD j undef = sv K[j] := by simp [List.getD, hjK]
      rw [e9] at h9
      have hgk : K[((j : Int)).toNat]? = some K[j] := by simp [hjK]
      rw [hgk] at HE
      generalize K[j] = k at *
      have HE2 := Lib.hid HE
      have hj0 : (0 : Int) ≤ (j : Int) := by omega
      have hj1 : (j : Int) < (n : Int) := by omega
      clear hcell hne hjK h0 h1 hj hgk e9 HE
      go_wp2_with fail
      go_ret2
      exact ⟨HE2.out ▸ rfl, HB.out⟩
    · have hg : K[i.toNat]? = none := List.getElem?_eq_none (by rw [HN.out]; omega)
      rw [hg] at HE
      have HE2 := Lib.hid HE
      have e1 : decide ((n : Int) ≤ i) = true := by simp; omega
      clear h0 h1 hg HE
      go_wp2_with fail
      go_ret2
      exact ⟨HE2.out ▸ rfl, HB.out⟩
theorem key_nil (i : Int) (w : World) : Calls Tryz.prog 88 #[.pointer none, .int .i64 i] w fun e w' => e = .returned (.tuple #[.string ⟨#[]⟩, .int .i64 1]) ∧ w = w' := by
  have HK := Lib.hid keys_nil
  go_enter Tryz.func88, Tryz.ntmps88
  go_wp2_with fail
  refine (HK.out w).mono ?_
  rintro e w1 ⟨rfl, rfl⟩
  by_cases h0 : i < 0
  · have e0 : decide (i < 0) = true := by simpa using h0
    clear h0
    go_wp2_with fail
    go_ret2
    exact ⟨rfl, rfl⟩
  · have e0 : decide (i < 0) = false := by simpa using h0
    have e1 : decide ((0 : Int) ≤ i) = true := by simp; omega
    clear h0
    go_wp2_with fail
    go_ret2
    exact ⟨rfl, rfl⟩
end Go.Proofs.YteenlkmnadjnpaaGreat
namespace Go.Proofs.YteenlkmnadjnpaaGreat
open Go.RowKit Go.Maps Go.Sort Go.Shelf Go.Deep
set_option linter.unusedVariables false
set_option linter.unusedSimpArgs false

/-- one more, or lost -/
def SpS.add (S : SpS) (k : Ky) : SpS := if 400 ≤ S.L.length then { S with lost := S.lost + 1 } else { S with L := ins k S.L }
def SpS.addE (S : SpS) : Int := if 400 ≤ S.L.length then 111 else 0
def SpS.rem (S : SpS) (k : Ky) : SpS := { S with L := S.L.erase k }
theorem cntV_ins (L : List Ky) (k a : Ky) : cntV (ins k L) a = updS (cntV L) k (some (L.count k + 1)) a := by
  unfold cntV updS
  rw [ins_count]
  by_cases h : a = k
  · subst h
    rw [if_pos rfl, if_pos rfl, if_neg (by omega)]
  · rw [if_neg h]
    have h2 : ¬ k = a := fun e => h e.symm
    simp [h2, cntV]
theorem cntV_erase {L : List Ky} {k : Ky} (a : Ky) (hk : L.count k ≠ 1) (hk0 : k ∈ L) : cntV (L.erase k) a = updS (cntV L) k (some (L.count k - 1)) a := by
  unfold cntV updS
  rw [List.count_erase]
  have h1 : L.count k ≠ 0 := fun e => List.count_eq_zero.1 e hk0
  by_cases h : a = k
  · subst h
    rw [if_pos rfl]
    simp only [beq_self_eq_true, if_true]
    rw [if_neg (by omega)]
  · rw [if_neg h]
    have : (k == a) = false := by rw [beq_eq_false_iff_ne]; exact fun e => h e.symm
    simp [this]
theorem cntV_erase1 {L : List Ky} {k : Ky} (v : Option Nat) (a : Ky) (hk : L.count k = 1) : cntV (L.erase k) a = updS (updS (cntV L) k v) k none a := by
  unfold cntV updS
  rw [List.count_erase]
  by_cases h : a = k
  · subst h
    simp [hk]
  · rw [if_neg h, if_neg h]
    have : (k == a) = false := by rw [beq_eq_false_iff_ne]; exact fun e => h e.symm
    simp [this]
set_option maxHeartbeats 2000000 in
theorem add_any {w : World} {p b d : Nat} {S : SpS} (h : Sp w p b d S) (k : Ky) (hk : MOk k) (hlo : S.lost ≤ 1000000) :
    Calls Tryz.prog 87 #[.pointer (some ⟨p, 0, none⟩), sv k] w fun e w' => e = .returned (.int .i64 S.addE) ∧ Sp w' p b d (S.add k) ∧ Chg [p, b] w w' := by
  have HLN := Lib.hid (Len_any h)
  have HS := Lib.hid h
  have HK := Lib.hid hk
  have hkl : k.length ≤ maxLen := by have := hk.len; unfold maxLen; omega
  have HKL := Lib.hid hkl
  have hlen := h.len
  have HLE := Lib.hid hlen
  by_cases h4 : 400 ≤ S.L.length
  · have hE : S.addE = 111 := if_pos h4
    have hA : S.add k = { S with lost := S.lost + 1 } := if_pos h4
    rw [hE, hA]
    have h4' : S.L.length = 400 := by omega
    rw [h4'] at HLN
    obtain ⟨lo, hlo2⟩ : ∃ lo, S.lost = lo := ⟨_, rfl⟩
    have HLO := Lib.hid hlo2
    rw [hlo2] at hlo ⊢
    have hlw : IntKind.i64.wrap ((lo : Int) + 1) = ((lo + 1 : Nat) : Int) := by rw [IntWalk.i64_in _ (by omega)]; omega
    clear h hk hkl hlen h4 h4' hE hA hlo2 hlo
    go_enter Tryz.func87, Tryz.ntmps87
    go_wp2_with fail
    refine HLN.out.mono ?_
    rintro e w1 ⟨rfl, hc⟩
    have HC := Lib.hid hc
    have hS1 := HS.out.kept hc
    have c2 := hS1.own.cell 2
    have f2 := hS1.own.frozen 2
    have hz := hS1.own.lt
    simp [HLO.out] at c2
    have HS1 := Lib.hid hS1
    clear hc hS1
    go_wp2_with fail
    go_ret
    have hc2 : Chg [p] w1 (w1.setCell ⟨p, 2, none⟩ (.int .i64 ((lo + 1 : Nat) : Int))) := (Chg.refl _ w1).setCell (by simp) _
    refine ⟨rfl, ⟨?_, HS1.out.tm.chg hc2 (by have := HS1.out.ne; simp; omega), HS1.out.dn.chg hc2 (by have := HS1.out.ne; simp; omega), HS1.out.srt, HS1.out.len, HS1.out.enc, HS1.out.ne⟩, ?_⟩
    · exact HS1.out.own.set 2 _
    · exact (HC.out.mono (by simp)).then hc2 (fun x hx => by simp at hx; subst hx; exact .inl (by simp))
  · have hE : S.addE = 0 := if_neg h4
    have hA : S.add k = { S with L := ins k S.L } := if_neg h4
    rw [hE, hA]
    obtain ⟨n, hn⟩ : ∃ n, S.L.length = n := ⟨_, rfl⟩
    rw [hn] at h4 HLN
    have HN := Lib.hid hn
    have h41 : decide ((400 : Int) ≤ (n : Int)) = false := by simp; omega
    have h42 : decide (400 ≤ n) = false := by simp; omega
    have hn4 : n < 400 := by omega
    have HN4 := Lib.hid hn4
    obtain ⟨ct, hct⟩ : ∃ ct, S.L.count k = ct := ⟨_, rfl⟩
    have hct2 : ct ≤ 400 := by rw [← hct]; have := List.count_le_length (a := k) (l := S.L); omega
    have HCT := Lib.hid hct
    obtain ⟨c1, hc1⟩ : ∃ c1 : Int, ((ct + 1 : Nat) : Int) = c1 := ⟨_, rfl⟩
    have HC1 := Lib.hid hc1
    have hlw : IntKind.i64.wrap ((ct : Int) + 1) = c1 := by rw [IntWalk.i64_in _ (by omega)]; omega
    clear h hk hkl hlen h4 hE hA hlo hct hct2 hn hn4 hc1
    go_enter Tryz.func87, Tryz.ntmps87
    go_wp2_with fail
    refine HLN.out.mono ?_
    rintro e w1 ⟨rfl, hc⟩
    have HC := Lib.hid hc
    have hS1 := HS.out.kept hc
    have c0 := hS1.own.cell 0
    have hz := hS1.own.lt
    simp at c0
    have hlk := hS1.tm.look (t := 120) (e := 3) Tryz.underlying120 (by kernel_rfl) HKL.out
    rw [cntV_get, HCT.out] at hlk
    obtain ⟨w2, hput, htm, hc2⟩ := hS1.tm.put (t := 120) (e := 3) Tryz.underlying120 HKL.out (by have := HLE.out; omega) (ct + 1) (ins k S.L) (fun x hx => ins_mem.2 hx)
    rw [HC1.out] at hput
    have HS1 := Lib.hid hS1
    have HTM := Lib.hid htm
    have HC2 := Lib.hid hc2
    clear hc hS1 htm hc2
    go_wp2_with fail
    go_ret
    refine ⟨rfl, ⟨HS1.out.own.chg HC2.out (by have := HS1.out.ne; simp; omega), HTM.out.congr (fun a => by rw [cntV_ins, HCT.out]), HS1.out.dn.chg HC2.out (by have := HS1.out.ne; simp; omega), HS1.out.srt.ins, ?_, ?_, HS1.out.ne⟩, ?_⟩
    · show (ins k S.L).length ≤ 400
      have := HN4.out; have := HN.out; rw [ins_len]; omega
    · intro x hx
      rcases ins_mem.1 hx with rfl | hx
      · exact HK.out
      · exact HS1.out.enc x hx
    · exact (HC.out.mono (by simp)).then HC2.out (fun x hx => by simp at hx; subst hx; exact .inl (by simp))
set_option maxHeartbeats 4000000 in
theorem remove_any {w : World} {p b d : Nat} {S : SpS} (h : Sp w p b d S) (k : Ky) (hk : k ∈ S.L) :
    Calls Tryz.prog 89 #[.pointer (some ⟨p, 0, none⟩), sv k] w fun e w' => e = .returned (.tuple #[]) ∧ Sp w' p b d (S.rem k) ∧ Chg [p, b] w w' := by
  have hkl : k.length ≤ maxLen := by have := (h.enc k hk).len; unfold maxLen; omega
  have hlen := h.len
  have c0 := h.own.cell 0
  have hz := h.own.lt
  simp at c0
  have hlk := h.tm.look (t := 120) (e := 3) Tryz.underlying120 (by kernel_rfl) hkl
  rw [cntV_get] at hlk
  have h0 : S.L.count k ≠ 0 := fun e => List.count_eq_zero.1 e hk
  obtain ⟨ct, hct⟩ : ∃ ct, S.L.count k = ct + 1 := ⟨S.L.count k - 1, by omega⟩
  have hct2 : ct ≤ 400 := by have := List.count_le_length (a := k) (l := S.L); omega
  rw [hct] at hlk
  have hlw : IntKind.i64.wrap (((ct + 1 : Nat) : Int) - 1) = (ct : Int) := by rw [IntWalk.i64_in _ (by omega)]; omega
  obtain ⟨c1, hc1⟩ : ∃ c1 : Int, ((ct + 1 : Nat) : Int) = c1 := ⟨_, rfl⟩
  rw [hc1] at hlk hlw
  by_cases hz0 : ct = 0
  · subst hz0
    obtain ⟨w1, hput, htm, hch⟩ := h.tm.put (t := 120) (e := 3) Tryz.underlying120 hkl (by omega) 0 S.L (fun x hx => by rcases hx with rfl | hx; exact hk; exact hx)
    have ho1 : Own w1 p 123 _ := h.own.chg hch (by have := h.ne; simp; omega)
    have d0 := ho1.cell 0
    simp at d0
    have hz1 := ho1.lt
    have hlk1 := htm.look (t := 120) (e := 3) Tryz.underlying120 (by kernel_rfl) hkl
    rw [show (updS (cntV S.L) k (some 0) k).getD 0 = 0 by simp [updS]] at hlk1
    change _ = Result.ok (Value.int .i64 0) _ at hlk1
    change _ = (0 : Int) at hlw
    replace hput : (Instr.mapUpdate 120 (.map (some b)) (sv k) (.int .i64 0)).run Tryz.prog w = .ok () w1 := hput
    obtain ⟨w2, hdel, htm2, hch2⟩ := htm.del (t := 120) (e := 3) Tryz.underlying120 hkl 0 (S.L.erase k) (fun x hx hx2 => (List.mem_erase_of_ne hx).2 hx2)
    have HS := Lib.hid h
    have HT := Lib.hid htm2
    have HC := Lib.hid (hch.trans hch2)
    have HCT := Lib.hid hct
    clear h htm htm2 hch hch2 ho1 hct hkl hlen h0 hk hc1 hct2
    go_enter Tryz.func89, Tryz.ntmps89
    go_wp2_with fail
    go_end0
    refine ⟨rfl, ⟨HS.out.own.chg HC.out (by have := HS.out.ne; simp; omega), HT.out.congr (fun a => cntV_erase1 _ a HCT.out), HS.out.dn.chg HC.out (by have := HS.out.ne; simp; omega), HS.out.srt.erase, ?_, fun x hx => HS.out.enc x (List.mem_of_mem_erase hx), HS.out.ne⟩, HC.out.mono (fun x hx => by simp at hx; subst hx; exact .inl (by simp))⟩
    exact Nat.le_trans (List.length_erase_le) HS.out.len
  · obtain ⟨w1, hput, htm, hch⟩ := h.tm.put (t := 120) (e := 3) Tryz.underlying120 hkl (by omega) ct (S.L.erase k) (fun x hx => by
      have hke : k ∈ S.L.erase k := List.count_pos_iff.1 (by rw [List.count_erase_self]; omega)
      by_cases e : x = k
      · rw [e]; exact hke
      · rcases hx with hx | hx
        · exact absurd hx e
        · exact (List.mem_erase_of_ne e).2 hx)
    have ho1 : Own w1 p 123 _ := h.own.chg hch (by have := h.ne; simp; omega)
    have d0 := ho1.cell 0
    simp at d0
    have hz1 := ho1.lt
    have hlk1 := htm.look (t := 120) (e := 3) Tryz.underlying120 (by kernel_rfl) hkl
    rw [show (updS (cntV S.L) k (some ct) k).getD 0 = ct by simp [updS]] at hlk1
    have HS := Lib.hid h
    have HT := Lib.hid htm
    have HC := Lib.hid hch
    have HCT := Lib.hid (And.intro hct (And.intro hk hz0))
    have e0 : ((ct : Int) == 0) = false := by rw [beq_eq_false_iff_ne]; omega
    clear h htm hch ho1 hct hkl hlen h0 hk hc1 hct2 hz0
    go_enter Tryz.func89, Tryz.ntmps89
    go_wp2_with fail
    go_end0
    refine ⟨rfl, ⟨HS.out.own.chg HC.out (by have := HS.out.ne; simp; omega), HT.out.congr (fun a => by
      have e := cntV_erase (L := S.L) (k := k) a (by have := HCT.out; omega) HCT.out.2.1
      rw [HCT.out.1] at e
      exact e), HS.out.dn.chg HC.out (by have := HS.out.ne; simp; omega), HS.out.srt.erase, ?_, fun x hx => HS.out.enc x (List.mem_of_mem_erase hx), HS.out.ne⟩, HC.out.mono (fun x hx => by simp at hx; subst hx; exact .inl (by simp))⟩
    exact Nat.le_trans (List.length_erase_le) HS.out.len
end Go.Proofs.YteenlkmnadjnpaaGreat
namespace Go.Proofs.YteenlkmnadjnpaaGreat
open Go.RowKit Go.Deep Go.Shelf
set_option linter.unusedVariables false
set_option linter.unusedSimpArgs false

set_option maxHeartbeats 2000000 in
theorem equalInts_any (w : World) (a b : Option Addr) (A B : List Int) (c d n m B0 : Nat) (hn : A.length = n) (hm : B.length = m) (ha : Ro w B0 a (i64s A)) (hb : Ro w B0 b (i64s B)) (hl : n ≤ 9223372036854775807) (hl2 : m ≤ 9223372036854775807) :
    Calls Tryz.prog 174 #[.slice a n c, .slice b m d] w fun e w' => e = .returned (.bool (decide (A = B))) ∧ Qt w w' := by
  have HN := Lib.hid hn
  have HM := Lib.hid hm
  have HA := Lib.hid ha
  have HB := Lib.hid hb
  clear ha hb hn hm
  go_enter Tryz.func174, Tryz.ntmps174
  by_cases hnm : n = m
  · subst hnm
    go_wp2_with fail
    go_loopw [13] (fun i wr => ∃ k : Nat, i = .int .i64 k ∧ k ≤ n ∧ Hid (∀ j, j < k → A.getD j 0 = B.getD j 0) ∧ Qt w wr) (fun i _ => n - (intOf i).toNat)
    case atStart => exact ⟨0, rfl, Nat.zero_le _, Lib.hid (by omega), Qt.refl _⟩
    case round =>
      obtain ⟨k, rfl, hk, HT, hq⟩ := hrel
      by_cases hlt : k < n
      · have hkA : k < A.length := by rw [HN.out]; exact hlt
        have hkB : k < B.length := by rw [HM.out]; exact hlt
        obtain ⟨g, off, rfl, hg, hcl⟩ := (HA.out.qt hq).i64 (by omega)
        obtain ⟨g', off', rfl, hg', hcl'⟩ := (HB.out.qt hq).i64 (by omega)
        have h1 := hcl k hkA
        have h4 := hcl' k hkB
        clear hcl hcl'
        obtain ⟨x, hx⟩ : ∃ x, A.getD k 0 = x := ⟨_, rfl⟩
        obtain ⟨y, hy⟩ : ∃ y, B.getD k 0 = y := ⟨_, rfl⟩
        rw [hx] at h1
        rw [hy] at h4
        have HX := Lib.hid hx
        have HY := Lib.hid hy
        have hk0 : (0 : Int) ≤ (k : Int) := by omega
        have hk1 : (k : Int) < (n : Int) := by omega
        have HQ := Lib.hid hq
        clear hq hx hy
        by_cases hxy : x = y
        · have hne : (x != y) = false := by rw [bne_eq_false_iff_eq]; exact hxy
          have HE := Lib.hid hxy
          clear hxy
          go_wp2_with fail
          go_region
          go_wp2_with fail
          go_roundw
          case rel =>
            refine ⟨k + 1, by go_num, by omega, Lib.hid fun j hj => ?_, by first | exact HQ.out | exact HQ.out.trans ⟨1, rfl⟩⟩
            by_cases e : j = k
            · subst e; rw [HX.out, HY.out]; exact HE.out
            · exact HT.out j (by omega)
          case measure => simp [intOf]; omega
        · have hne : (x != y) = true := by rw [bne_iff_ne]; exact hxy
          have HF : Hid (decide (A = B) = false) := Lib.hid (by
            simp only [decide_eq_false_iff_not]
            rintro rfl
            exact hxy (HX.out.symm.trans HY.out))
          clear hxy
          go_wp2_with fail
          go_region
          go_wp2_with fail
          go_ret
          exact ⟨by rw [HF.out]; rfl, by first | exact HQ.out | exact HQ.out.trans ⟨1, rfl⟩⟩
      · obtain rfl : k = n := by omega
        have HF : Hid (decide (A = B) = true) := Lib.hid (by
          simp only [decide_eq_true_eq]
          apply List.ext_getElem (by rw [HN.out, HM.out])
          intro i h1 h2
          have := HT.out i (by rw [HN.out] at h1; exact h1)
          simpa [List.getD, h1, h2] using this)
        go_wp2_with fail
        go_ret
        exact ⟨by rw [HF.out]; rfl, hq⟩
  · have hd0 : ((n : Int) != (m : Int)) = true := by rw [bne_iff_ne]; omega
    have HF := Lib.hid (show decide (A = B) = false by simp only [decide_eq_false_iff_not]; rintro rfl; exact hnm (HN.out.symm.trans HM.out))
    go_wp2_with fail
    go_ret
    exact ⟨by rw [HF.out]; rfl, Qt.refl _⟩

theorem chx_ext {A B : List ChT} (h : A.length = B.length) (he : ∀ j, j < A.length → (ct A j).u = (ct B j).u) : chx A = chx B := by
  apply List.ext_getElem (by simpa using h)
  intro i h1 h2
  have h1' : i < A.length := by simpa using h1
  have h2' : i < B.length := by simpa using h2
  have := he i h1'
  simpa [chx, ct, List.getD, h1', h2'] using this
theorem sgx_ext {A B : List SgT} (h : A.length = B.length) (he : ∀ j, j < A.length → (st A j).x = (st B j).x) : sgx A = sgx B := by
  apply List.ext_getElem (by simpa using h)
  intro i h1 h2
  have h1' : i < A.length := by simpa using h1
  have h2' : i < B.length := by simpa using h2
  have := he i h1'
  simpa [sgx, st, List.getD, h1', h2'] using this

set_option maxHeartbeats 2000000 in
theorem eqChs_any (A B : List ChT) (a b : Option Addr) (c d B0 : Nat) (w : World) (ha : Ro w B0 a (chv A)) (hb : Ro w B0 b (chv B)) (hia : ChIn w B0 A) (hib : ChIn w B0 B) (hfa : ChFit A) (hfb : ChFit B) (hB : B0 ≤ w.heap.size) :
    Calls Tryz.prog 173 #[.slice a A.length c, .slice b B.length d, .func (.func 174) #[] #[]] w fun e w' => e = .returned (.bool (decide (chx A = chx B))) ∧ Below w.heap.size w w' := by
  have eg : ∀ args w, (callFunc 174 args).run Tryz.prog w = .ok (.enter 174 args) w := enters_of Tryz.func174 (by kernel_rfl) rfl
  have HA := Lib.hid (And.intro ha hia)
  have HBb := Lib.hid (And.intro hb hib)
  have HFA := Lib.hid hfa.2
  have HFB := Lib.hid hfb.2
  have hl1 := hfa.1
  have HS := Lib.hid hB
  obtain ⟨n, hn⟩ : ∃ n, A.length = n := ⟨_, rfl⟩
  obtain ⟨m, hm⟩ : ∃ m, B.length = m := ⟨_, rfl⟩
  have hl2 := hfb.1
  rw [hn] at hl1 ⊢
  rw [hm] at hl2 ⊢
  have HN := Lib.hid hn
  have HM := Lib.hid hm
  obtain ⟨t, HT⟩ : ∃ t, Hid (decide (chx A = chx B) = t) := ⟨_, Lib.hid rfl⟩
  rw [HT.out]
  clear ha hb hia hib hfa hfb hB hn hm
  go_enter Tryz.func173, Tryz.ntmps173
  by_cases hnm : n = m
  · subst hnm
    go_wp2_with fail
    go_loopw [17] (fun i wr => ∃ k : Nat, i = .int .i64 k ∧ k ≤ n ∧ Hid (∀ j, j < k → (ct A j).u = (ct B j).u) ∧ Hid (Below w.heap.size w wr)) (fun i _ => n - (intOf i).toNat)
    case atStart => exact ⟨0, rfl, Nat.zero_le _, Lib.hid (by omega), Lib.hid (Below.refl _ _)⟩
    case round =>
      obtain ⟨k, rfl, hk, HE, HBk⟩ := hrel
      rename World => w6
      by_cases hlt : k < n
      · have hkA : k < A.length := by rw [HN.out]; exact hlt
        have hkB : k < B.length := by rw [HM.out]; exact hlt
        obtain ⟨g, off, rfl, hg, hcl⟩ := (HA.out.1.below HBk.out HS.out).ch (show 0 < A.length by omega)
        obtain ⟨g', off', rfl, hg', hcl'⟩ := (HBb.out.1.below HBk.out HS.out).ch (show 0 < B.length by omega)
        have h1 := hcl k hkA
        have h4 := hcl' k hkB
        have HCA := Lib.hid ((HA.out.2 _ (ct_mem hkA)).below HBk.out HS.out)
        have HCB := Lib.hid ((HBb.out.2 _ (ct_mem hkB)).below HBk.out HS.out)
        have HQA := Lib.hid (HFA.out _ (ct_mem hkA))
        have HQB := Lib.hid (HFB.out _ (ct_mem hkB))
        clear hcl hcl'
        obtain ⟨x, hx⟩ : ∃ x, ct A k = x := ⟨_, rfl⟩
        obtain ⟨y, hy⟩ : ∃ y, ct B k = y := ⟨_, rfl⟩
        rw [hx] at h1 HCA HQA
        rw [hy] at h4 HCB HQB
        have HX := Lib.hid hx
        have HY := Lib.hid hy
        obtain ⟨xa, xc, xu⟩ := x
        obtain ⟨ya, yc, yu⟩ := y
        simp only at h1 h4 HCA HCB HQA HQB
        have hk0 : (0 : Int) ≤ (k : Int) := by omega
        have hk1 : (k : Int) < (n : Int) := by omega
        have HEQ : Hid (∀ W, Qt w6 W → Calls Tryz.prog 174 #[.slice xa xu.length xc, .slice ya yu.length yc] W fun e w' => e = .returned (.bool (decide (xu = yu))) ∧ Qt W w') := Lib.hid fun W hW => equalInts_any W xa ya xu yu xc yc _ _ B0 rfl rfl (HCA.out.qt hW) (HCB.out.qt hW) HQA.out HQB.out
        obtain ⟨r, hr⟩ : ∃ r, decide (xu = yu) = r := ⟨_, rfl⟩
        rw [hr] at HEQ
        have HR := Lib.hid hr
        clear hx hy hr
        generalize xu.length = xn at *
        generalize yu.length = yn at *
        go_wp2_with fail
        refine (HEQ.out _ (Qt.refl _)).mono ?_
        rintro e w7 ⟨rfl, hq⟩
        have HB7 : Hid (Below w.heap.size w w7) := Lib.hid (hq.below HBk.out)
        clear hq
        cases r with
        | true =>
          go_wp2_with fail
          go_roundw
          case rel =>
            refine ⟨k + 1, by go_num, by omega, Lib.hid fun j hj => ?_, HB7⟩
            by_cases e : j = k
            · subst e; rw [HX.out, HY.out]; simpa using HR.out
            · exact HE.out j (by omega)
          case measure => simp [intOf]; omega
        | false =>
          obtain rfl : t = false := by
            rw [← HT.out]
            simp only [decide_eq_false_iff_not]
            intro h
            have := congrArg (fun l => cx l k) h
            simp only [cx_chx, HX.out, HY.out] at this
            have h2 := HR.out
            simp only [decide_eq_false_iff_not] at h2
            exact h2 this
          go_wp2_with fail
          go_ret
          exact ⟨rfl, HB7.out⟩
      · obtain rfl : k = n := by omega
        obtain rfl : t = true := by
          rw [← HT.out]
          simp only [decide_eq_true_eq]
          exact chx_ext (by rw [HN.out, HM.out]) (by rw [HN.out]; exact HE.out)
        go_wp2_with fail
        go_ret
        exact ⟨rfl, HBk.out⟩
  · have hd0 : ((n : Int) != (m : Int)) = true := by rw [bne_iff_ne]; omega
    obtain rfl : t = false := by
      rw [← HT.out]
      simp only [decide_eq_false_iff_not]
      intro h
      have := congrArg List.length h
      simp only [chx_length, HN.out, HM.out] at this
      exact hnm this
    go_wp2_with fail
    go_ret
    exact ⟨rfl, Below.refl _ _⟩
set_option maxHeartbeats 2000000 in
theorem sameSeg_any (A B : SgT) (B0 : Nat) (w : World) (ha : Ro w B0 A.a (chv A.ch)) (hb : Ro w B0 B.a (chv B.ch)) (hia : ChIn w B0 A.ch) (hib : ChIn w B0 B.ch) (hfa : ChFit A.ch) (hfb : ChFit B.ch) (hB : B0 ≤ w.heap.size) :
    Calls Tryz.prog 153 #[A.val, B.val] w fun e w' => e = .returned (.bool (decide (A.x = B.x))) ∧ Below w.heap.size w w' := by
  obtain ⟨f, a, c, L⟩ := A
  obtain ⟨f', a', c', L'⟩ := B
  simp only [SgT.val] at *
  obtain ⟨W, HWW⟩ : ∃ W, Hid ((w.alloc (.cells #[.int .u64 (f : Int), .slice a L.length c] 135)).alloc (.cells #[.int .u64 (f' : Int), .slice a' L'.length c'] 135) = W) := ⟨_, Lib.hid rfl⟩
  have hWc : Chg [] w W := by rw [← HWW.out]; exact ((Chg.refl [] w).alloc _).alloc _
  have hWb : Below w.heap.size w W := hWc.low
  have o1 : Own W w.heap.size 135 [.int .u64 (f : Int), .slice a L.length c] := by rw [← HWW.out]; exact (Own.new w _ _).alloc _
  have o2 : Own W (w.heap.size + 1) 135 [.int .u64 (f' : Int), .slice a' L'.length c'] := by
    rw [← HWW.out]
    have := Own.new (w.alloc (.cells #[.int .u64 (f : Int), .slice a L.length c] 135)) 135 [.int .u64 (f' : Int), .slice a' L'.length c']
    simpa using this
  have HE := Lib.hid (eqChs_any L L' a a' c c' B0 W (ha.below hWb hB) (hb.below hWb hB) (hia.below hWb hB) (hib.below hWb hB) hfa hfb (Nat.le_trans hB hWb.size))
  obtain ⟨r, hr⟩ : ∃ r, decide (chx L = chx L') = r := ⟨_, rfl⟩
  rw [hr] at HE
  have HX : Hid (decide (SgT.x ⟨f, a, c, L⟩ = SgT.x ⟨f', a', c', L'⟩) = (decide (f = f') && r)) := Lib.hid (by
    rw [← hr]
    simp only [SgT.x, Prod.mk.injEq, Bool.decide_and])
  rw [HX.out]
  have HB := Lib.hid hWb
  have c0 := o1.cell 0
  have c1 := o1.cell 1
  have d0 := o2.cell 0
  have d1 := o2.cell 1
  simp at c0 c1 d0 d1
  generalize L.length = n at *
  generalize L'.length = n' at *
  clear hWc hWb o1 o2 hr ha hb hia hib hfa hfb hB
  by_cases e : f = f'
  · subst e
    have e0 : decide (f = f) = true := by simp
    rw [e0, Bool.true_and]
    clear e0
    go_enter Tryz.func153, Tryz.ntmps153
    go_upto_region 1 with fail
    rw [HWW.out]
    go_wp2_with fail
    refine HE.out.mono ?_
    rintro e w1 ⟨rfl, hb⟩
    have HB1 := Lib.hid (HB.out.trans (hb.mono HB.out.size))
    clear hb
    go_wp2_with fail
    go_ret
    exact ⟨rfl, HB1.out⟩
  · have e0 : decide (f = f') = false := by simpa using e
    have e1 : ((f : Int) == (f' : Int)) = false := by rw [beq_eq_false_iff_ne]; omega
    rw [e0, Bool.false_and]
    clear e0 e
    go_enter Tryz.func153, Tryz.ntmps153
    go_upto_region 1 with fail
    rw [HWW.out]
    go_wp2_with fail
    go_ret
    exact ⟨rfl, HB.out⟩

set_option maxHeartbeats 2000000 in
theorem eqSgs_any (A B : List SgT) (a b : Option Addr) (c d B0 : Nat) (w : World) (ha : Ro w B0 a (sgv A)) (hb : Ro w B0 b (sgv B)) (hia : SgIn w B0 A) (hib : SgIn w B0 B) (hfa : SgFit A) (hfb : SgFit B) (hB : B0 ≤ w.heap.size) :
    Calls Tryz.prog 152 #[.slice a A.length c, .slice b B.length d, .func (.func 153) #[] #[]] w fun e w' => e = .returned (.bool (decide (sgx A = sgx B))) ∧ Below w.heap.size w w' := by
  have eg : ∀ args w, (callFunc 153 args).run Tryz.prog w = .ok (.enter 153 args) w := enters_of Tryz.func153 (by kernel_rfl) rfl
  have HA := Lib.hid (And.intro ha hia)
  have HBb := Lib.hid (And.intro hb hib)
  have HFA := Lib.hid hfa.2
  have HFB := Lib.hid hfb.2
  have hl1 := hfa.1
  have HS := Lib.hid hB
  obtain ⟨n, hn⟩ : ∃ n, A.length = n := ⟨_, rfl⟩
  obtain ⟨m, hm⟩ : ∃ m, B.length = m := ⟨_, rfl⟩
  have hl2 := hfb.1
  rw [hn] at hl1 ⊢
  rw [hm] at hl2 ⊢
  have HN := Lib.hid hn
  have HM := Lib.hid hm
  obtain ⟨t, HT⟩ : ∃ t, Hid (decide (sgx A = sgx B) = t) := ⟨_, Lib.hid rfl⟩
  rw [HT.out]
  clear ha hb hia hib hfa hfb hB hn hm
  go_enter Tryz.func152, Tryz.ntmps152
  by_cases hnm : n = m
  · subst hnm
    go_wp2_with fail
    go_loopw [17] (fun i wr => ∃ k : Nat, i = .int .i64 k ∧ k ≤ n ∧ Hid (∀ j, j < k → (st A j).x = (st B j).x) ∧ Hid (Below w.heap.size w wr)) (fun i _ => n - (intOf i).toNat)
    case atStart => exact ⟨0, rfl, Nat.zero_le _, Lib.hid (by omega), Lib.hid (Below.refl _ _)⟩
    case round =>
      obtain ⟨k, rfl, hk, HE, HBk⟩ := hrel
      rename World => w6
      by_cases hlt : k < n
      · have hkA : k < A.length := by rw [HN.out]; exact hlt
        have hkB : k < B.length := by rw [HM.out]; exact hlt
        obtain ⟨g, off, rfl, hg, hcl⟩ := (HA.out.1.below HBk.out HS.out).sg (show 0 < A.length by omega)
        obtain ⟨g', off', rfl, hg', hcl'⟩ := (HBb.out.1.below HBk.out HS.out).sg (show 0 < B.length by omega)
        obtain ⟨h1, h2⟩ := hcl k hkA
        obtain ⟨h4, h5⟩ := hcl' k hkB
        have HCA := Lib.hid (HA.out.2 _ (st_mem hkA))
        have HCB := Lib.hid (HBb.out.2 _ (st_mem hkB))
        have HQA := Lib.hid (HFA.out _ (st_mem hkA))
        have HQB := Lib.hid (HFB.out _ (st_mem hkB))
        clear hcl hcl'
        obtain ⟨x, hx⟩ : ∃ x, st A k = x := ⟨_, rfl⟩
        obtain ⟨y, hy⟩ : ∃ y, st B k = y := ⟨_, rfl⟩
        rw [hx] at h1 h2 HCA HQA
        rw [hy] at h4 h5 HCB HQB
        have HX := Lib.hid hx
        have HY := Lib.hid hy
        have HEQ : Hid (∀ W, Below w.heap.size w W → Calls Tryz.prog 153 #[x.val, y.val] W fun e w' => e = .returned (.bool (decide (x.x = y.x))) ∧ Below W.heap.size W w') := Lib.hid fun W hW => sameSeg_any x y B0 W (HCA.out.1.below hW HS.out) (HCB.out.1.below hW HS.out) (HCA.out.2.below hW HS.out) (HCB.out.2.below hW HS.out) HQA.out HQB.out (Nat.le_trans HS.out hW.size)
        obtain ⟨r, hr⟩ : ∃ r, decide (x.x = y.x) = r := ⟨_, rfl⟩
        rw [hr] at HEQ
        have HR := Lib.hid hr
        obtain ⟨xf, xa, xc, xu⟩ := x
        obtain ⟨yf, ya, yc, yu⟩ := y
        simp only [SgT.val] at h1 h2 h4 h5 HEQ
        have hk0 : (0 : Int) ≤ (k : Int) := by omega
        have hk1 : (k : Int) < (n : Int) := by omega
        clear hx hy hr
        generalize xu.length = xn at *
        generalize yu.length = yn at *
        have HK2 : Hid (w.heap.size ≤ w6.heap.size) := Lib.hid HBk.out.size
        have hgz := hg
        have hgz' : g' < w6.heap.size := by have := HS.out; have := HK2.out; omega
        have hgz2 : g < w6.heap.size := by have := HS.out; have := HK2.out; omega
        have h4' : (w6.alloc (.cells #[.int .u64 (xf : Int), .slice xa xn xc] 135)).cell? ⟨g', off' + k * 2, none⟩ = some (.int .u64 (yf : Int)) := (((Chg.refl [] w6).alloc _).cell h4 (by simp))
        have h5' : (w6.alloc (.cells #[.int .u64 (xf : Int), .slice xa xn xc] 135)).cell? ⟨g', off' + k * 2 + 1, none⟩ = some (.slice ya yn yc) := (((Chg.refl [] w6).alloc _).cell h5 (by simp))
        go_wp2_with fail
        refine (HEQ.out _ ((HBk.out.alloc HBk.out.size _).alloc (by have := HK2.out; simp; omega) _)).mono ?_
        rintro e w7 ⟨rfl, hq⟩
        have HB7 : Hid (Below w.heap.size w w7) := Lib.hid (((HBk.out.alloc HBk.out.size _).alloc (by have := HK2.out; simp; omega) _).trans (hq.mono (by have := HK2.out; simp; omega)))
        clear hq h4' h5'
        cases r with
        | true =>
          go_wp2_with fail
          go_roundw
          case rel =>
            refine ⟨k + 1, by go_num, by omega, Lib.hid fun j hj => ?_, HB7⟩
            by_cases e : j = k
            · subst e; rw [HX.out, HY.out]; simpa using HR.out
            · exact HE.out j (by omega)
          case measure => simp [intOf]; omega
        | false =>
          obtain rfl : t = false := by
            rw [← HT.out]
            simp only [decide_eq_false_iff_not]
            intro h
            have := congrArg (fun l => sx l k) h
            simp only [sx_sgx, HX.out, HY.out] at this
            have h2 := HR.out
            simp only [decide_eq_false_iff_not] at h2
            exact h2 this
          go_wp2_with fail
          go_ret
          exact ⟨rfl, HB7.out⟩
      · obtain rfl : k = n := by omega
        obtain rfl : t = true := by
          rw [← HT.out]
          simp only [decide_eq_true_eq]
          exact sgx_ext (by rw [HN.out, HM.out]) (by rw [HN.out]; exact HE.out)
        go_wp2_with fail
        go_ret
        exact ⟨rfl, HBk.out⟩
  · have hd0 : ((n : Int) != (m : Int)) = true := by rw [bne_iff_ne]; omega
    obtain rfl : t = false := by
      rw [← HT.out]
      simp only [decide_eq_false_iff_not]
      intro h
      have := congrArg List.length h
      simp only [sgx_length, HN.out, HM.out] at this
      exact hnm this
    go_wp2_with fail
    go_ret
    exact ⟨rfl, Below.refl _ _⟩

set_option maxHeartbeats 2000000 in
theorem lsame_any (A B : LyT) (B0 : Nat) (w : World) (ha : LyIn w B0 A) (hb : LyIn w B0 B) (hfa : SgFit A.sg) (hfb : SgFit B.sg) (hB : B0 ≤ w.heap.size) :
    Calls Tryz.prog 126 #[A.val, B.val] w fun e w' => e = .returned (.bool (lalike A.x B.x)) ∧ Below w.heap.size w w' := by
  obtain ⟨f, a, c, L, q⟩ := A
  obtain ⟨f', a', c', L', q'⟩ := B
  simp only [LyT.val] at *
  obtain ⟨W, HWW⟩ : ∃ W, Hid ((w.alloc (.cells #[.int .u64 (f : Int), .slice a L.length c, .int .i64 q] 38)).alloc (.cells #[.int .u64 (f' : Int), .slice a' L'.length c', .int .i64 q'] 38) = W) := ⟨_, Lib.hid rfl⟩
  have hWc : Chg [] w W := by rw [← HWW.out]; exact ((Chg.refl [] w).alloc _).alloc _
  have hWb : Below w.heap.size w W := hWc.low
  have o1 : Own W w.heap.size 38 [.int .u64 (f : Int), .slice a L.length c, .int .i64 q] := by rw [← HWW.out]; exact (Own.new w _ _).alloc _
  have o2 : Own W (w.heap.size + 1) 38 [.int .u64 (f' : Int), .slice a' L'.length c', .int .i64 q'] := by
    rw [← HWW.out]
    have := Own.new (w.alloc (.cells #[.int .u64 (f : Int), .slice a L.length c, .int .i64 q] 38)) 38 [.int .u64 (f' : Int), .slice a' L'.length c', .int .i64 q']
    simpa using this
  have HE := Lib.hid (eqSgs_any L L' a a' c c' B0 W (ha.1.below hWb hB) (hb.1.below hWb hB) (ha.2.below hWb hB) (hb.2.below hWb hB) hfa hfb (Nat.le_trans hB hWb.size))
  obtain ⟨r, hr⟩ : ∃ r, decide (sgx L = sgx L') = r := ⟨_, rfl⟩
  rw [hr] at HE
  have HX : Hid (lalike (LyT.x ⟨f, a, c, L, q⟩) (LyT.x ⟨f', a', c', L', q'⟩) = (decide (f = f') && (decide (q = q') && r))) := Lib.hid (by
    rw [← hr]
    rfl)
  rw [HX.out]
  have HB := Lib.hid hWb
  have c0 := o1.cell 0
  have c1 := o1.cell 1
  have c2 := o1.cell 2
  have d0 := o2.cell 0
  have d1 := o2.cell 1
  have d2 := o2.cell 2
  simp at c0 c1 c2 d0 d1 d2
  generalize L.length = n at *
  generalize L'.length = n' at *
  clear hWc hWb o1 o2 hr ha hb hfa hfb hB
  by_cases e : f = f'
  · subst e
    have e0 : decide (f = f) = true := by simp
    rw [e0, Bool.true_and]
    clear e0
    by_cases e : q = q'
    · subst e
      have e0 : decide (q = q) = true := by simp
      rw [e0, Bool.true_and]
      clear e0
      go_enter Tryz.func126, Tryz.ntmps126
      go_upto_region 1 with fail
      rw [HWW.out]
      go_wp2_with fail
      refine HE.out.mono ?_
      rintro e w1 ⟨rfl, hb⟩
      have HB1 := Lib.hid (HB.out.trans (hb.mono HB.out.size))
      clear hb
      go_wp2_with fail
      go_ret
      exact ⟨rfl, HB1.out⟩
    · have e0 : decide (q = q') = false := by simpa using e
      have e1 : (q == q') = false := by rw [beq_eq_false_iff_ne]; exact e
      rw [e0, Bool.false_and]
      clear e0 e
      go_enter Tryz.func126, Tryz.ntmps126
      go_upto_region 1 with fail
      rw [HWW.out]
      go_wp2_with fail
      go_ret
      exact ⟨rfl, HB.out⟩
  · have e0 : decide (f = f') = false := by simpa using e
    have e1 : ((f : Int) == (f' : Int)) = false := by rw [beq_eq_false_iff_ne]; omega
    rw [e0, Bool.false_and]
    clear e0 e
    go_enter Tryz.func126, Tryz.ntmps126
    go_upto_region 1 with fail
    rw [HWW.out]
    go_wp2_with fail
    go_ret
    exact ⟨rfl, HB.out⟩
end Go.Proofs.YteenlkmnadjnpaaGreat
namespace Go.Proofs.YteenlkmnadjnpaaGreat
open Go.RowKit Go.Deep Go.Shelf
set_option linter.unusedVariables false
set_option linter.unusedSimpArgs false

set_option maxHeartbeats 1000000 in
theorem index_backL (S : Nat → World → Prop) (p : Nat → Bool) (g : Nat) (lb : Array Value) (eg : ∀ args w, (callFunc g args).run Tryz.prog w = .ok (.enter g args) w)
    (L : List Bk) (a : Option Addr) (c B : Nat) (w : World) (hl : L.length ≤ 9223372036854775807)
    (hro : ∀ k W, S k W → Ro W B a (bcs L)) (h0 : S 0 w)
    (hf : ∀ k W, k < L.length → S k W → Calls Tryz.prog g (#[bkv (bk L k)] ++ lb) W fun e w' => e = .returned (.bool (p k)) ∧ S (k + 1) w') :
    Calls Tryz.prog 150 #[.slice a L.length c, .func (.func g) #[] lb] w fun e w' => e = .returned (.int .i64 (fx p L.length)) ∧ ∃ k, S k w' := by
  obtain ⟨n, HN⟩ : ∃ n, Hid (L.length = n) := ⟨_, Lib.hid rfl⟩
  have HR := Lib.hid hro
  have HF := Lib.hid hf
  have H0 := Lib.hid h0
  clear hro hf h0
  rw [HN.out] at hl ⊢
  go_enter Tryz.func150, Tryz.ntmps150
  go_wp2_with fail
  go_loopw [8] (fun i wr => ∃ k : Nat, k ≤ n ∧ i = .int .i64 (k : Int) ∧ Hid (S k wr) ∧ Hid (∀ j, j < k → p j = false)) (fun i _ => n - (intOf i).toNat)
  case atStart => exact ⟨0, Nat.zero_le _, rfl, H0, Lib.hid (by omega)⟩
  case round =>
    obtain ⟨k, hk, rfl, HS, HP⟩ := hrel
    by_cases hlt : k < n
    · have hkL : k < L.length := by rw [HN.out]; exact hlt
      obtain ⟨b, off, rfl, hb, hc⟩ := (HR.out k wr HS.out).bk (by omega)
      obtain ⟨c1, c2, c3⟩ := hc k hkL
      have HC := Lib.hid (HF.out k wr hkL HS.out)
      clear hc
      have hk0 : (0 : Int) ≤ (k : Int) := by omega
      have hk1 : (k : Int) < (n : Int) := by omega
      generalize bk L k = x at *
      cases hq : p k with
      | true =>
        have HQ := Lib.hid hq
        clear hq
        go_wp2_with fail
        refine HC.out.mono ?_
        rintro e w' ⟨rfl, hs⟩
        rw [HQ.out]
        have HS2 := Lib.hid hs
        clear hs
        go_wp2_with fail
        go_ret
        exact ⟨ret_int (fx_hit p n k hlt HQ.out HP.out).symm, _, HS2.out⟩
      | false =>
        have HQ := Lib.hid hq
        clear hq
        go_wp2_with fail
        refine HC.out.mono ?_
        rintro e w' ⟨rfl, hs⟩
        rw [HQ.out]
        have HS2 := Lib.hid hs
        clear hs
        go_wp2_with fail
        go_roundw
        case rel =>
          refine ⟨k + 1, by omega, by go_num, HS2, Lib.hid fun j hj => ?_⟩
          by_cases e : j = k
          · subst e; exact HQ.out
          · exact HP.out j (by omega)
        case measure => simp [intOf]; omega
    · obtain rfl : k = n := by omega
      go_wp2_with fail
      go_ret
      exact ⟨ret_int (fx_miss p k HP.out).symm, _, HS.out⟩

set_option maxHeartbeats 1000000 in
theorem contains_backL (S : Nat → World → Prop) (p : Nat → Bool) (g : Nat) (lb : Array Value) (eg : ∀ args w, (callFunc g args).run Tryz.prog w = .ok (.enter g args) w)
    (L : List Bk) (a : Option Addr) (c B : Nat) (w : World) (hl : L.length ≤ 9223372036854775807)
    (hro : ∀ k W, S k W → Ro W B a (bcs L)) (h0 : S 0 w)
    (hf : ∀ k W, k < L.length → S k W → Calls Tryz.prog g (#[bkv (bk L k)] ++ lb) W fun e w' => e = .returned (.bool (p k)) ∧ S (k + 1) w') :
    Calls Tryz.prog 123 #[.slice a L.length c, .func (.func g) #[] lb] w fun e w' => e = .returned (.bool (anyN p L.length)) ∧ ∃ k, S k w' := by
  have HC := Lib.hid (index_backL S p g lb eg L a c B w hl hro h0 hf)
  clear hro h0 hf
  obtain ⟨z, hz⟩ : ∃ z, z = fx p L.length := ⟨_, rfl⟩
  unfold anyN
  rw [← hz] at HC ⊢
  clear hz
  go_enter Tryz.func123, Tryz.ntmps123
  go_wp2_with fail
  refine HC.out.mono ?_
  rintro e w' ⟨rfl, hs⟩
  have HS := Lib.hid hs
  clear hs
  go_wp2_with fail
  go_ret
  exact ⟨rfl, HS.out⟩

theorem below_any (n l : Int) (w : World) :
    Calls Tryz.prog 66 #[.int .i64 n, .int .i64 l] w fun e w' => e = .returned (.bool (blw n l)) ∧ w' = w := by
  unfold blw
  by_cases h0 : 0 ≤ n
  · have e0 : decide (0 ≤ n) = true := by simpa using h0
    rw [e0, Bool.true_and]
    go_enter Tryz.func66, Tryz.ntmps66
    go_wp2_with fail
    go_ret
    exact ⟨rfl, rfl⟩
  · have e0 : decide (0 ≤ n) = false := by simpa using h0
    rw [e0, Bool.false_and]
    have h1 : n < 0 := by omega
    clear h0
    go_enter Tryz.func66, Tryz.ntmps66
    go_wp2_with fail
    go_ret
    exact ⟨rfl, rfl⟩
theorem isReq_any (k : Int) (w : World) :
    Calls Tryz.prog 120 #[.int .i64 k] w fun e w' => e = .returned (.bool (isReq k)) ∧ w' = w := by
  unfold isReq
  by_cases h0 : 1 ≤ k
  · have e0 : decide (1 ≤ k) = true := by simpa using h0
    rw [e0, Bool.true_and]
    go_enter Tryz.func120, Tryz.ntmps120
    go_wp2_with fail
    go_ret
    exact ⟨rfl, rfl⟩
  · have e0 : decide (1 ≤ k) = false := by simpa using h0
    rw [e0, Bool.false_and]
    go_enter Tryz.func120, Tryz.ntmps120
    go_wp2_with fail
    go_ret
    exact ⟨rfl, rfl⟩
theorem rkinds_any (k f : Int) (w : World) :
    Calls Tryz.prog 64 #[.int .i64 k, .int .i64 f] w fun e w' => e = .returned (.bool (kindsOk k f)) ∧ w' = w := by
  unfold kindsOk
  have H1 := Lib.hid (isReq_any k w)
  have H2 := Lib.hid (isReq_any f w)
  by_cases h : k = 14
  · subst h
    rw [if_pos rfl]
    generalize isReq f = t at *
    go_enter Tryz.func64, Tryz.ntmps64
    go_wp2_with fail
    refine H2.out.mono ?_
    rintro e w' ⟨rfl, rfl⟩
    go_wp2_with fail
    go_ret
    exact ⟨rfl, rfl⟩
  · rw [if_neg h]
    have e0 : (k == 14) = false := by rw [beq_eq_false_iff_ne]; exact h
    generalize isReq k = t at *
    clear h
    cases t with
    | true =>
      go_enter Tryz.func64, Tryz.ntmps64
      go_wp2_with fail
      refine H1.out.mono ?_
      rintro e w' ⟨rfl, rfl⟩
      go_wp2_with fail
      go_ret
      exact ⟨ret_bool (by rw [Bool.true_and]; rfl), rfl⟩
    | false =>
      go_enter Tryz.func64, Tryz.ntmps64
      go_wp2_with fail
      refine H1.out.mono ?_
      rintro e w' ⟨rfl, rfl⟩
      go_wp2_with fail
      go_ret
      exact ⟨rfl, rfl⟩
theorem rplace_any (p : Int × Int) (w : World) :
    Calls Tryz.prog 65 #[.agg #[.int .i64 p.1, .int .i64 p.2]] w fun e w' => e = .returned (.bool (plOk p)) ∧ Below w.heap.size w w' := by
  obtain ⟨r, n⟩ := p
  simp only
  have HB := Lib.hid ((Below.refl w.heap.size w).alloc (Nat.le_refl _) (.cells #[.int .i64 r, .int .i64 n] 25))
  have HK := Lib.hid (fun l => below_any n l (w.alloc (.cells #[.int .i64 r, .int .i64 n] 25)))
  unfold plOk plMost
  simp only
  by_cases h1 : r = 1
  · subst h1
    rw [if_pos (by simp)]
    have HK32 := Lib.hid (HK.out 32)
    generalize blw n 32 = t at *
    clear HK
    go_enter Tryz.func65, Tryz.ntmps65
    go_wp2_with fail
    refine HK32.out.mono ?_
    rintro e w' ⟨rfl, rfl⟩
    go_wp2_with fail
    go_ret
    exact ⟨rfl, HB.out⟩
  by_cases h2 : r = 2
  · subst h2
    rw [if_pos (by simp)]
    clear h1
    have HK32 := Lib.hid (HK.out 32)
    generalize blw n 32 = t at *
    clear HK
    go_enter Tryz.func65, Tryz.ntmps65
    go_wp2_with fail
    refine HK32.out.mono ?_
    rintro e w' ⟨rfl, rfl⟩
    go_wp2_with fail
    go_ret
    exact ⟨rfl, HB.out⟩
  by_cases h3 : r = 3
  · subst h3
    rw [if_neg (by omega), if_pos rfl]
    clear h1 h2
    have HK3 := Lib.hid (HK.out 3)
    generalize blw n 3 = t at *
    clear HK
    go_enter Tryz.func65, Tryz.ntmps65
    go_wp2_with fail
    refine HK3.out.mono ?_
    rintro e w' ⟨rfl, rfl⟩
    go_wp2_with fail
    go_ret
    exact ⟨rfl, HB.out⟩
  by_cases h4 : r = 4
  · subst h4
    rw [if_neg (by omega), if_neg (by omega), if_pos rfl]
    clear h1 h2 h3
    have HK4 := Lib.hid (HK.out 4)
    generalize blw n 4 = t at *
    clear HK
    go_enter Tryz.func65, Tryz.ntmps65
    go_wp2_with fail
    refine HK4.out.mono ?_
    rintro e w' ⟨rfl, rfl⟩
    go_wp2_with fail
    go_ret
    exact ⟨rfl, HB.out⟩
  · rw [if_neg (by omega), if_neg h3, if_neg h4]
    have e0 : blw n 0 = false := by unfold blw; by_cases h : 0 ≤ n <;> simp [h] <;> omega
    have e1 : (r == 1) = false := by rw [beq_eq_false_iff_ne]; exact h1
    have e2 : (r == 2) = false := by rw [beq_eq_false_iff_ne]; exact h2
    have e3 : (r == 3) = false := by rw [beq_eq_false_iff_ne]; exact h3
    have e4 : (r == 4) = false := by rw [beq_eq_false_iff_ne]; exact h4
    rw [e0]
    clear h1 h2 h3 h4 e0
    go_enter Tryz.func65, Tryz.ntmps65
    go_wp2_with fail
    go_ret
    exact ⟨rfl, HB.out⟩
theorem rballot_any (p : Int × Int) (w : World) :
    Calls Tryz.prog 67 #[.agg #[.int .i64 p.1, .int .i64 p.2]] w fun e w' => e = .returned (.bool (baOk p)) ∧ Below w.heap.size w w' := by
  obtain ⟨r, n⟩ := p
  simp only
  have HB := Lib.hid ((Below.refl w.heap.size w).alloc (Nat.le_refl _) (.cells #[.int .i64 r, .int .i64 n] 35))
  have HK := Lib.hid (below_any r 65536 (w.alloc (.cells #[.int .i64 r, .int .i64 n] 35)))
  have HL := Lib.hid (below_any n 4 (w.alloc (.cells #[.int .i64 r, .int .i64 n] 35)))
  unfold baOk
  simp only
  generalize blw r 65536 = t at *
  generalize blw n 4 = u at *
  cases t with
  | true =>
    go_enter Tryz.func67, Tryz.ntmps67
    go_wp2_with fail
    refine HK.out.mono ?_
    rintro e w' ⟨rfl, rfl⟩
    go_wp2_with fail
    refine HL.out.mono ?_
    rintro e w' ⟨rfl, rfl⟩
    go_wp2_with fail
    go_ret
    exact ⟨rfl, HB.out⟩
  | false =>
    go_enter Tryz.func67, Tryz.ntmps67
    go_wp2_with fail
    refine HK.out.mono ?_
    rintro e w' ⟨rfl, rfl⟩
    go_wp2_with fail
    go_ret
    exact ⟨rfl, HB.out⟩
theorem mis1_any (s m : Int) (g : Nat) (w : World) (h : Own w g 3 [.int .i64 m]) :
    Calls Tryz.prog 149 #[.int .i64 s, .pointer (some ⟨g, 0, none⟩)] w fun e w' => e = .returned (.bool (mis m s)) ∧ w' = w.setCell ⟨g, 0, none⟩ (.int .i64 (wrap64 (s + 1))) := by
  have hc := h.cell 0
  have hf := h.frozen 0
  have hz := h.lt
  simp at hc
  unfold mis
  clear h
  by_cases h0 : s < m
  · have e0 : decide (s < m) = true := by simpa using h0
    rw [e0, Bool.true_or]
    go_enter Tryz.func149, Tryz.ntmps149
    go_wp2_with fail
    go_ret
    exact ⟨rfl, rfl⟩
  · have e0 : decide (s < m) = false := by simpa using h0
    rw [e0, Bool.false_or]
    go_enter Tryz.func149, Tryz.ntmps149
    go_wp2_with fail
    go_ret
    exact ⟨rfl, rfl⟩
theorem misplaced_any (w : World) :
    Calls Tryz.prog 122 #[] w fun e w' => e = .returned (.func (.func 149) #[] #[.pointer (some ⟨w.heap.size, 0, none⟩)]) ∧ w' = w.alloc (.cells #[.int .i64 0] 3) := by
  go_enter Tryz.func122, Tryz.ntmps122
  go_wp2_with fail
  go_ret
  exact ⟨rfl, rfl⟩

set_option maxHeartbeats 1000000 in
theorem rstreams_any (L : List Int) (a : Option Addr) (c B : Nat) (w : World) (hro : Ro w B a (i64s L)) (hB : B ≤ w.heap.size) (hl : L.length ≤ 9223372036854775807) :
    Calls Tryz.prog 68 #[.slice a L.length c] w fun e w' => e = .returned (.bool (stOk L)) ∧ Below w.heap.size w w' := by
  have eg : ∀ args w, (callFunc 149 args).run Tryz.prog w = .ok (.enter 149 args) w := enters_of Tryz.func149 (by kernel_rfl) rfl
  obtain ⟨t, ht⟩ : ∃ t, t = anyN (fun k => mis (leastI L k) (L.getD k 0)) L.length := ⟨_, rfl⟩
  have HC : Hid (L.length ≤ 4 → Calls Tryz.prog 121 #[.slice a L.length c, .func (.func 149) #[] #[.pointer (some ⟨w.heap.size, 0, none⟩)]] (w.alloc (.cells #[.int .i64 0] 3)) fun e w' => e = .returned (.bool t) ∧ Below w.heap.size w w') := by
    apply Lib.hid
    intro h4
    refine (contains_int (fun k W => Own W w.heap.size 3 [.int .i64 (leastI L k)] ∧ Below w.heap.size w W) (fun W => Below w.heap.size w W) (fun k => mis (leastI L k) (L.getD k 0)) 149 #[.pointer (some ⟨w.heap.size, 0, none⟩)] eg L a c B _ (by omega) (fun k W' h => hro.below h.2 hB) ⟨Own.new w _ _, (Below.refl _ _).alloc (Nat.le_refl _) _⟩ (fun k W' hk h => ?_)).mono ?_
    · obtain ⟨o1, o2⟩ := h
      refine (mis1_any (L.getD k 0) (leastI L k) w.heap.size W' o1).mono ?_
      rintro e w' ⟨rfl, rfl⟩
      refine ⟨rfl, fun _ => o2.setCell (Nat.le_refl _) _, fun _ => ⟨?_, o2.setCell (Nat.le_refl _) _⟩⟩
      have := o1.set 0 (.int .i64 (wrap64 (L.getD k 0 + 1)))
      simpa [leastI] using this
    · rintro e w' ⟨rfl, h⟩
      rw [ht]
      exact ⟨rfl, by rcases h with h | h; exact h; exact h.2⟩
  unfold stOk
  rw [← ht]
  generalize L.length = n at *
  clear ht hro
  by_cases h4 : n ≤ 4
  · have e0 : decide (n ≤ 4) = true := by simpa using h4
    have HM := Lib.hid (misplaced_any w)
    have HC4 := Lib.hid (HC.out h4)
    rw [e0, Bool.true_and]
    go_enter Tryz.func68, Tryz.ntmps68
    go_wp2_with fail
    refine HM.out.mono ?_
    rintro e w' ⟨rfl, rfl⟩
    go_wp2_with fail
    refine HC4.out.mono ?_
    rintro e w' ⟨rfl, hb⟩
    have HB := Lib.hid hb
    clear hb
    go_wp2_with fail
    go_ret
    exact ⟨rfl, HB.out⟩
  · have e0 : decide (n ≤ 4) = false := by simpa using h4
    rw [e0, Bool.false_and]
    clear HC
    go_enter Tryz.func68, Tryz.ntmps68
    go_wp2_with fail
    go_ret
    exact ⟨rfl, Below.refl _ _⟩

set_option maxHeartbeats 1000000 in
theorem mb1_any (b : Bk) (m : Int) (g p : Nat) (w : World) (h : Own w g 3 [.int .i64 m]) (hp : w.cell? ⟨p, 0, none⟩ = some (.func (.func 149) #[] #[.pointer (some ⟨g, 0, none⟩)])) (hpg : g < p) :
    Calls Tryz.prog 124 #[bkv b, .pointer (some ⟨p, 0, none⟩)] w fun e w' => e = .returned (.bool (mbad m b)) ∧ Own w' g 3 [.int .i64 (wrap64 (b.1 + 1))] ∧ w'.cell? ⟨p, 0, none⟩ = some (.func (.func 149) #[] #[.pointer (some ⟨g, 0, none⟩)]) ∧ Below g w w' := by
  have eg : ∀ args w, (callFunc 149 args).run Tryz.prog w = .ok (.enter 149 args) w := enters_of Tryz.func149 (by kernel_rfl) rfl
  obtain ⟨W, HWW⟩ : ∃ W, Hid (w.alloc (.cells #[.int .i64 b.1, .int .u64 (b.2.1 : Int), .int .u64 (b.2.2 : Int)] 96) = W) := ⟨_, Lib.hid rfl⟩
  have hWc : Chg [] w W := by rw [← HWW.out]; exact (Chg.refl [] w).alloc _
  have HO : Hid (Own W w.heap.size 96 [.int .i64 b.1, .int .u64 (b.2.1 : Int), .int .u64 (b.2.2 : Int)]) := Lib.hid (by rw [← HWW.out]; exact Own.new w _ _)
  have HG : Hid (Own W g 3 [.int .i64 m]) := Lib.hid (h.chg hWc (by simp))
  have HP := Lib.hid (hWc.cell hp (by simp))
  have HGZ := Lib.hid h.lt
  have HPZ := Lib.hid (World.block_lt_of_cell? _ _ hp)
  have HPG := Lib.hid hpg
  have HM := Lib.hid (mis1_any b.1 m g W HG.out)
  have HB := Lib.hid (hWc.low.mono (Nat.le_of_lt h.lt))
  unfold mbad
  obtain ⟨t, HT⟩ : ∃ t, Hid (mis m b.1 = t) := ⟨_, Lib.hid rfl⟩
  obtain ⟨u, HU⟩ : ∃ u, Hid (right ⟨1, [], [b]⟩ = u) := ⟨_, Lib.hid rfl⟩
  rw [HT.out] at HM ⊢
  rw [HU.out]
  have c0 := HP.out
  have d0 := HO.out.cell 0
  have d1 := HO.out.cell 1
  have d2 := HO.out.cell 2
  simp at d0 d1 d2
  clear h hp hWc hpg
  obtain ⟨s, q, r⟩ := b
  simp only at *
  cases t with
  | true =>
    go_enter Tryz.func124, Tryz.ntmps124
    go_upto_region 1 with fail
    rw [HWW.out]
    go_wp2_with fail
    refine HM.out.mono ?_
    rintro e w' ⟨rfl, rfl⟩
    go_wp2_with fail
    go_ret
    exact ⟨rfl, by simpa using HG.out.set 0 _, (Chg.cell (l := [g]) ((Chg.refl [g] W).setCell (by simp) _) HP.out (by have := HPG.out; simp; omega)), HB.out.setCell (Nat.le_refl _) _⟩
  | false =>
    go_enter Tryz.func124, Tryz.ntmps124
    go_upto_region 1 with fail
    rw [HWW.out]
    go_wp2_with fail
    refine HM.out.mono ?_
    rintro e w' ⟨rfl, rfl⟩
    have hsc : Chg [g] W (W.setCell ⟨g, 0, none⟩ (.int .i64 (wrap64 (s + 1)))) := (Chg.refl [g] W).setCell (by simp) _
    have HO2 := Lib.hid (HO.out.chg hsc (by have := HGZ.out; simp; omega))
    have HG2 : Hid (Own (W.setCell ⟨g, 0, none⟩ (.int .i64 (wrap64 (s + 1)))) g 3 [.int .i64 (wrap64 (s + 1))]) := Lib.hid (by simpa using HG.out.set 0 (.int .i64 (wrap64 (s + 1))))
    have HP2 := Lib.hid (hsc.cell HP.out (by have := HPG.out; simp; omega))
    have HB2 : Hid (Below g w (W.setCell ⟨g, 0, none⟩ (.int .i64 (wrap64 (s + 1))))) := Lib.hid (HB.out.setCell (Nat.le_refl _) _)
    have HG3 := Lib.hid HG2.out.lt
    generalize W.setCell ⟨g, 0, none⟩ (.int .i64 (wrap64 (s + 1))) = W2 at *
    clear hsc c0 d0 d1 d2
    have d0 := HO2.out.cell 0
    have d1 := HO2.out.cell 1
    have d2 := HO2.out.cell 2
    simp at d0 d1 d2
    have HRO : Hid (Ro (W2.alloc (.cells #[.int .i64 s, .int .u64 (q : Int), .int .u64 (r : Int)] 96)) (W2.heap.size + 1) (some ⟨W2.heap.size, 0, none⟩) (bcs [(s, q, r)])) := Lib.hid ((Own.new W2 96 [.int .i64 s, .int .u64 (q : Int), .int .u64 (r : Int)]).ro _ (by omega))
    have HR := Lib.hid (right_any ⟨1, [], [(s, q, r)]⟩ none 0 (some ⟨W2.heap.size, 0, none⟩) 1 (W2.heap.size + 1) _ HRO.out (by simp) (by simp) (by simp))
    rw [HU.out] at HR
    simp only [List.length_cons, List.length_nil, Nat.zero_add] at HR
    go_wp2_with fail
    refine HR.out.mono ?_
    rintro e w3 ⟨rfl, hb⟩
    have HB3 := Lib.hid hb
    clear hb d0 d1 d2
    go_wp2_with fail
    go_ret
    have hb2 : Below W2.heap.size W2 w3 := ((Below.refl _ _).alloc (Nat.le_refl _) _).trans (HB3.out.mono (by simp))
    exact ⟨rfl, HG2.out.below hb2 HG3.out, cell_keep hb2 HP2.out (World.block_lt_of_cell? _ _ HP2.out), HB2.out.trans (hb2.mono (by have := HG3.out; omega))⟩

set_option maxHeartbeats 1000000 in
theorem rbacks_any (L : List Bk) (a : Option Addr) (c B : Nat) (w : World) (hro : Ro w B a (bcs L)) (hB : B ≤ w.heap.size) (hl : L.length ≤ 9223372036854775807) :
    Calls Tryz.prog 69 #[.slice a L.length c] w fun e w' => e = .returned (.bool (mbOk L)) ∧ Below w.heap.size w w' := by
  have eg : ∀ args w, (callFunc 124 args).run Tryz.prog w = .ok (.enter 124 args) w := enters_of Tryz.func124 (by kernel_rfl) rfl
  obtain ⟨t, ht⟩ : ∃ t, t = anyN (fun k => mbad (least L k) (bk L k)) L.length := ⟨_, rfl⟩
  obtain ⟨FV, hFV⟩ : ∃ FV : Value, FV = .func (.func 149) #[] #[.pointer (some ⟨w.heap.size, 0, none⟩)] := ⟨_, rfl⟩
  obtain ⟨W, HWW⟩ : ∃ W, Hid ((w.alloc (.cells #[.int .i64 0] 3)).alloc (.cells #[.func (.func 149) #[] #[.pointer (some ⟨w.heap.size, 0, none⟩)]] 165) = W) := ⟨_, Lib.hid rfl⟩
  have hWc : Chg [] w W := by rw [← HWW.out]; exact ((Chg.refl [] w).alloc _).alloc _
  have o1 : Own W w.heap.size 3 [.int .i64 0] := by rw [← HWW.out]; exact (Own.new w _ _).alloc _
  have o2 : Own W (w.heap.size + 1) 165 [.func (.func 149) #[] #[.pointer (some ⟨w.heap.size, 0, none⟩)]] := by
    rw [← HWW.out]
    have := Own.new (w.alloc (.cells #[.int .i64 0] 3)) 165 [.func (.func 149) #[] #[.pointer (some ⟨w.heap.size, 0, none⟩)]]
    simpa using this
  have c2 := o2.cell 0
  simp at c2
  have HC : Hid (Calls Tryz.prog 123 #[.slice a L.length c, .func (.func 124) #[] #[.pointer (some ⟨w.heap.size + 1, 0, none⟩)]] W fun e w' => e = .returned (.bool t) ∧ Below w.heap.size w w') := by
    apply Lib.hid
    refine (contains_backL (fun k W => Own W w.heap.size 3 [.int .i64 (least L k)] ∧ W.cell? ⟨w.heap.size + 1, 0, none⟩ = some (.func (.func 149) #[] #[.pointer (some ⟨w.heap.size, 0, none⟩)]) ∧ Below w.heap.size w W) (fun k => mbad (least L k) (bk L k)) 124 #[.pointer (some ⟨w.heap.size + 1, 0, none⟩)] eg L a c B _ hl (fun k W' h => hro.below h.2.2 hB) ⟨o1, c2, hWc.low⟩ (fun k W' hk h => ?_)).mono ?_
    · obtain ⟨o1, o2, o3⟩ := h
      refine (mb1_any (bk L k) (least L k) w.heap.size (w.heap.size + 1) W' o1 o2 (Nat.lt_succ_self _)).mono ?_
      rintro e w' ⟨rfl, o4, o5, o6⟩
      exact ⟨rfl, by simpa [least] using o4, o5, o3.trans o6⟩
    · rintro e w' ⟨rfl, k, hk⟩
      rw [ht]
      exact ⟨rfl, hk.2.2⟩
  unfold mbOk
  rw [← ht]
  have HM := Lib.hid (misplaced_any w)
  generalize L.length = n at *
  clear ht hro hWc o1 o2 c2 hFV
  go_enter Tryz.func69, Tryz.ntmps69
  go_wp2_with fail
  refine HM.out.mono ?_
  rintro e w' ⟨rfl, rfl⟩
  go_upto_region 2 with fail
  rw [HWW.out]
  go_wp2_with fail
  refine HC.out.mono ?_
  rintro e w' ⟨rfl, hb⟩
  have HB := Lib.hid hb
  clear hb
  go_wp2_with fail
  go_ret
  exact ⟨rfl, HB.out⟩
end Go.Proofs.YteenlkmnadjnpaaGreat
