/-
  copyOf of package layout, by its contract; rows that lie apart from others. No claim of its own.
-/
import Derived.Test.YtdpaofedepnnbaaLyO
namespace Go.Proofs.Ytdpaofedepnnbaa
open Go.RowKit Go.Deep Go.Shelf
set_option linter.unusedVariables false
set_option linter.unusedSimpArgs false

/-- one element of a row of the call's own is set -/
theorem Lst.set {w : World} {base : Nat} {e : TypeId} {g n c : Nat} {xs : List Value} (h : Lst w base e (.slice (some ⟨g, 0, none⟩) n c) xs) (i : Nat) (hi : i < xs.length) (u : Value) : Lst (w.setCell ⟨g, i, none⟩ u) base e (.slice (some ⟨g, 0, none⟩) n c) (xs.set i u) := by
  refine ⟨by simp, ?_⟩
  rcases h.2 with ⟨hv, _⟩ | ⟨g', cap, cur, hv, h2, h3, h4, h5, h6, h7⟩
  · cases hv
  · injection hv with hv hn hc
    injection hv with hv
    injection hv with hv _ _
    subst hv hc
    refine .inr ⟨g, c, cur.set! i u, by rw [hn]; simp, h2, ?_, by simpa using h4, h5, by simpa using h6, ?_⟩
    · have : Own w g e cur.toList := by unfold Own; simpa using h3
      have := this.set i u
      unfold Own at this
      rw [this]
      congr 2
      apply Array.ext'
      simp
    · rw [List.length_set, Array.set!_eq_setIfInBounds, Array.toList_setIfInBounds, List.take_set, h7]
theorem Lst.frozen {w : World} {base : Nat} {e : TypeId} {g n c : Nat} {xs : List Value} (h : Lst w base e (.slice (some ⟨g, 0, none⟩) n c) xs) (i : Nat) : w.frozen? ⟨g, i, none⟩ = false := by
  rcases h.2 with ⟨hv, _⟩ | ⟨g', cap, cur, hv, h2, h3, _⟩
  · cases hv
  · injection hv with hv hn hc
    injection hv with hv
    injection hv with hv _ _
    subst hv
    simp [World.frozen?, h3]

theorem Try.zeroCh : True := trivial
set_option maxHeartbeats 400000 in
theorem cloneC_any (a : Option Addr) (c B : Nat) (L : List ChT) (w : World) (hro : Ro w B a (chv L)) (h0 : 0 < L.length) (hl : L.length ≤ 1000000) :
    Calls Try.prog 141 #[.slice a L.length c] w fun e w' => ∃ g n' c', e = .returned (.slice (some ⟨g, 0, none⟩) L.length c') ∧ Lst w' w.heap.size 36 (.slice (some ⟨g, 0, none⟩) L.length c') (chv L) ∧ Below w.heap.size w w' ∧ n' = g := by
  obtain ⟨i, hi, hz⟩ := Option.map_eq_some_iff.1 Try.info_ch
  simp only [Prod.mk.injEq] at hz
  obtain ⟨b, off, rfl, hb, hc⟩ := hro.ch h0
  refine (AnyE.slices_Clone cloneC i (.slice none 0 0) 1 24 hi hz.1 hz.2.1 hz.2.2 rfl (by omega) (fun w => Try.sizeOf36 w) b off L.length c (chv L) w (by simp) (by unfold maxLen; omega) (by omega) (fun j u hj => ?_) (chv_one L)).mono ?_
  · have hj' : j < L.length := by simpa using (List.getElem?_eq_some_iff.1 hj).1
    rw [hc j hj', ← hj]
    simp [chv, ct, List.getD, hj', ChT.val]
  · rintro e w' ⟨v, rfl, h1, _, h2⟩
    have hl : Lst w' w.heap.size 36 v (chv L) := by unfold Lst; rw [chv_length]; exact h1
    rcases hl.2 with ⟨_, hn⟩ | ⟨g, cap, cur, hv, hrest⟩
    · rw [chv_length] at hn; omega
    · rw [chv_length] at hv
      rw [hv] at hl
      exact ⟨g, g, cap, by rw [hv], hl, h2, rfl⟩

set_option maxHeartbeats 2000000 in
theorem copyOf_any (L : List ChT) (a : Option Addr) (c B : Nat) (w : World) (hro : Ro w B a (chv L)) (hin : ChIn w B L) (hB : B ≤ w.heap.size) (h0 : 0 < L.length) (hl : L.length ≤ 1000000) (hf : ∀ T ∈ L, 0 < T.u.length ∧ T.u.length ≤ 1000000) :
    Calls Try.prog 103 #[.slice a L.length c] w fun e w' => ∃ g c' Ts, e = .returned (.slice (some ⟨g, 0, none⟩) L.length c') ∧ chx Ts = chx L ∧ Lst w' w.heap.size 36 (.slice (some ⟨g, 0, none⟩) L.length c') (chv Ts) ∧ (∀ T ∈ Ts, Lst w' w.heap.size 3 T.val (i64s T.u)) ∧ Below w.heap.size w w' := by
  have HCC := Lib.hid (cloneC_any a c B L w hro h0 hl)
  have HCI := Lib.hid (fun (T : ChT) (hT : T ∈ L) (W : World) (hb : Below w.heap.size w W) => clone_int T.a T.c B T.u W ((hin T hT).below hb hB) (hf T hT).1 (hf T hT).2)
  generalize hN : L.length = n at *
  have HN := Lib.hid hN
  have hn1 : (n : Int) ≤ 1000000 := by omega
  have H0 := Lib.hid h0
  clear hro hin hf hN hB h0
  go_enter Try.func103, Try.ntmps103
  go_wp2_with fail
  refine HCC.out.mono ?_
  rintro e w1 ⟨g, _, c', rfl, hl1, hb1, -⟩
  have HL1 := Lib.hid hl1
  have HB1 := Lib.hid hb1
  clear hl1 hb1
  go_wp2_with fail
  go_loopw [10] (fun i wr => ∃ (k : Nat) (Ts : List ChT), k ≤ n ∧ i = .int .i64 (k : Int) ∧ Hid (Ts.length = k) ∧ Hid (chx Ts = (chx L).take k) ∧ Hid (Lst wr w.heap.size 36 (.slice (some ⟨g, 0, none⟩) n c') (chv (Ts ++ L.drop k))) ∧ Hid (∀ T ∈ Ts, Lst wr w.heap.size 3 T.val (i64s T.u)) ∧ Hid (Below w.heap.size w wr)) (fun i _ => n - (intOf i).toNat)
  case atStart => exact ⟨0, [], Nat.zero_le _, rfl, Lib.hid rfl, Lib.hid (by simp [chx]), Lib.hid (by simpa using HL1.out), Lib.hid (by simp), HB1⟩
  case round =>
    obtain ⟨k, Ts, hk, rfl, HK, HX, HLk, HTk, HBk⟩ := hrel
    by_cases hlt : k < n
    · have hkL : k < L.length := by rw [HN.out]; exact hlt
      have hk0 : (0 : Int) ≤ (k : Int) := by omega
      have hk1 : (k : Int) < (n : Int) := by omega
      have hlen : (chv (Ts ++ L.drop k)).length = n := by rw [chv_length, List.length_append, List.length_drop, HK.out, HN.out]; omega
      have hdk : L.drop k = ct L k :: L.drop (k + 1) := by
        rw [List.drop_eq_getElem_cons hkL]
        congr 1
        simp [ct, List.getD, hkL]
      obtain ⟨_, _, he, hr, _⟩ := HLk.out.form
      injection he with he hx1 hx2
      clear hx1 hx2
      rcases hr with hr | ⟨b2, off2, g1, g2, g3⟩
      · rw [hr] at hlen; simp at hlen; omega
      · rw [← he] at g1
        injection g1 with g1
        injection g1 with g1 go _
        subst g1 go
        have e1 := g3 k (by omega)
        have ek : (chv (Ts ++ L.drop k)).getD k undef = (ct L k).val := by
          unfold chv
          rw [hdk, List.map_append, List.map_cons]
          simp [List.getD, List.getElem?_append_right, HK.out]
        rw [ek, Nat.zero_add] at e1
        have HC := Lib.hid (HCI.out (ct L k) (ct_mem hkL) wr HBk.out)
        have HXK : Hid ((chx L).take (k + 1) = (chx L).take k ++ [(ct L k).u]) := Lib.hid (by rw [cx_take (by simpa using hkL), cx_chx])
        have HSET : Hid (∀ T : ChT, (chv (Ts ++ L.drop k)).set k T.val = chv ((Ts ++ [T]) ++ L.drop (k + 1))) := Lib.hid (fun T => by
          unfold chv
          rw [hdk, List.map_append, List.map_cons, List.set_append, if_neg (by simp [HK.out])]
          simp [HK.out])
        have HLEN := Lib.hid hlen
        clear g3 he hlen hdk ek
        generalize ct L k = T0 at *
        obtain ⟨ta, tc, tu⟩ := T0
        simp only [ChT.val] at e1 HC
        generalize tu.length = tn at *
        go_wp2_with fail
        refine HC.out.mono ?_
        rintro e w2 ⟨v2, rfl, hl2, hb2⟩
        obtain ⟨a2, c2, hv2, _, _⟩ := hl2.form
        rw [i64s_length] at hv2
        have HV2 : Hid (v2 = ChT.val ⟨a2, c2, tu⟩) := Lib.hid hv2
        have HL2 : Hid (Lst w2 w.heap.size 3 (ChT.val ⟨a2, c2, tu⟩) (i64s tu)) := Lib.hid (by rw [← HV2.out]; exact hl2.base HBk.out.size)
        have HB2 : Hid (Below w.heap.size w w2) := Lib.hid (HBk.out.trans (hb2.mono HBk.out.size))
        have HLk2 : Hid (Lst w2 w.heap.size 36 (.slice (some ⟨g, 0, none⟩) n c') (chv (Ts ++ L.drop k))) := Lib.hid (HLk.out.below hb2 (Nat.le_refl _))
        have HTk2 : Hid (∀ T ∈ Ts, Lst w2 w.heap.size 3 T.val (i64s T.u)) := Lib.hid (fun T hT => (HTk.out T hT).below hb2 (Nat.le_refl _))
        have f1 := HLk2.out.frozen k
        have hy := cell_keep hb2 e1 (World.block_lt_of_cell? _ _ e1)
        have hz2 := World.block_lt_of_cell? _ _ hy
        simp only at hz2
        clear hl2 hb2
        subst hv2
        go_wp2_with fail
        go_roundw
        case rel =>
          refine ⟨k + 1, Ts ++ [⟨a2, c2, tu⟩], by omega, by go_num, Lib.hid (by rw [List.length_append, HK.out]; rfl), Lib.hid ?_, Lib.hid ?_, Lib.hid ?_, Lib.hid (HB2.out.setCell ?_ _)⟩
          · rw [HXK.out, ← HX.out]; simp [chx]
          · rw [← HSET.out]
            exact HLk2.out.set k (by rw [HLEN.out]; exact hlt) _
          · intro T hT
            have h1 : Lst w2 w.heap.size 3 T.val (i64s T.u) := by
              rcases List.mem_append.1 hT with h | h
              · exact HTk2.out T h
              · simp only [List.mem_singleton] at h
                subst h
                exact HL2.out
            refine h1.chg ((Chg.refl [g] w2).setCell (by simp) _) (fun x hx cur he => ?_)
            simp only [List.mem_singleton] at hx
            subst hx
            have := HLk2.out.row x (by simp [rowOf, Value.ownBlock])
            obtain ⟨_, cur', h2⟩ := this
            rw [he] at h2
            injection h2 with h2
            injection h2 with _ h2 _
            exact absurd h2 (by decide)
          · exact (HLk2.out.row g (by simp [rowOf, Value.ownBlock])).1
        case measure => simp [intOf]; omega
    · obtain rfl : k = n := by omega
      have hLk := HLk.out
      rw [List.drop_of_length_le (by rw [HN.out]; exact Nat.le_refl _), List.append_nil] at hLk
      have HLk2 := Lib.hid hLk
      have HX2 : Hid (chx Ts = chx L) := Lib.hid (by rw [HX.out, List.take_of_length_le (by rw [chx_length, HN.out]; exact Nat.le_refl _)])
      clear hLk
      go_wp2_with fail
      go_ret
      exact ⟨g, c', Ts, rfl, HX2.out, HLk2.out, HTk.out, HBk.out⟩
end Go.Proofs.Ytdpaofedepnnbaa
