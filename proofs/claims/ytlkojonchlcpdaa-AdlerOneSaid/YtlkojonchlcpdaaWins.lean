/-
  Package adler's windows handed out; Windows by its contract. No condition but the ranges that each theorem names.
-/
import Derived.Test.YtlkojonchlcpdaaWin
import Derived.Test.YtlkojonchlcpdaaList
import Derived.Test.YtlkojonchlcpdaaRound
import Derived.Deep.RegionHeld
namespace Go.Proofs.Ytlkojonchlcpdaa
open Go.RowKit Go.Shelf
attribute [local go_sem] Oper.semAt_some

/-- how many windows of n bytes len bytes have -/
def winN (n : Int) (len : Nat) : Nat := if 0 ≤ n ∧ n ≤ len then len - n.toNat + 1 else 0

theorem winN_le (n : Int) (len : Nat) : winN n len ≤ len + 1 := by unfold winN; split <;> omega

set_option maxRecDepth 100000 in
set_option maxHeartbeats 2000000 in
theorem windows0_in (n : Int) (len : Nat) (A : Option Addr) (c l m gn gb : Nat) (W : World) (hn : n < 0 ∨ (len : Int) < n)
    (hgn : Own W gn 3 [.int .i64 n]) (hgb : Own W gb 22 [.slice A len c]) (J : Bool → List Nat → World → Prop) (h0 : J true [] W) :
    CallsIn Fence.wide m Try.prog 31 #[.func (.yield l) #[] #[], .pointer (some ⟨gn, 0, none⟩), .pointer (some ⟨gb, 0, none⟩)] W fun e W' => (∃ v, e = .returned v) ∧ J true [] W' := by
  have hcn := hgn.cell 0
  have hcb := hgb.cell 0
  simp at hcn hcb
  refine callsIn_of_wp Try.func31 rfl trivial ?_ rfl
  simp only [Try.ntmps31, List.size_toArray, List.length_cons, List.length_nil, Nat.reduceAdd, Nat.reduceSub, Array.replicate_succ, Array.replicate_zero, List.push_toArray, List.append_toArray, List.nil_append, List.cons_append]
  by_cases h1 : n < 0
  · gi_wp2_with fail
    refine bodyPost_ret (results_none rfl _ _ _) rfl ?_
    exact ⟨⟨_, rfl⟩, h0⟩
  · have h2 : (len : Int) < n := by omega
    gi_wp2_with fail
    refine bodyPost_ret (results_none rfl _ _ _) rfl ?_
    exact ⟨⟨_, rfl⟩, h0⟩

/-- the iterator's contract -/
theorem windows_gives (bs : List UInt8) (n : Int) (len : Nat) (A : Option Addr) (c n₀ gn gb : Nat) (w : World) (hlen : bs.length = len) (hcap : len ≤ c) (hmax : c ≤ 9223372036854775807) (hnil : A = none → c = 0) (hro : Ro w n₀ A (u8s bs)) (hn0 : n₀ ≤ w.heap.size)
    (hgn : Own w gn 3 [.int .i64 n]) (hgb : Own w gb 22 [.slice A len c]) :
    Gives Try.prog 31 #[.pointer (some ⟨gn, 0, none⟩), .pointer (some ⟨gb, 0, none⟩)] 43 (winEncs bs n.toNat) (Kept n₀ winTypes)
      (fun pre k => k = pre.length ∧ k < winN n len) (fun b xs => ∃ k, xs = List.range k ∧ k ≤ winN n len ∧ (b = true → k = winN n len)) w := by
  intro m l J W hW hJ hY h0
  have hgn' := hgn.below hW hgn.lt
  have hgb' := hgb.below hW hgb.lt
  by_cases hn : 0 ≤ n ∧ n ≤ len
  · obtain ⟨h1, h2⟩ := hn
    obtain ⟨n, rfl⟩ := Int.eq_ofNat_of_zero_le h1
    have e : winN (n : Int) len = len - n + 1 := by unfold winN; rw [if_pos ⟨h1, h2⟩]; simp
    rw [e] at hY ⊢
    refine (windows1_in bs n len A c n₀ l m gn gb W hlen (by omega) hcap hmax hnil (hro.below hW (by omega)) (by have := hW.size; omega) hgn' hgb' J hJ (fun pre k W1 hj hk => hY pre k W1 hj ⟨hk.1, by omega⟩) h0).mono ?_
    rintro e W' ⟨hv, b, xs, ⟨k, hk⟩, hj⟩
    exact ⟨hv, b, xs, ⟨k, hk⟩, hj⟩
  · have e : winN n len = 0 := by unfold winN; rw [if_neg hn]
    rw [e]
    refine (windows0_in n len A c l m gn gb W (by omega) hgn' hgb' J h0).mono ?_
    rintro e W' ⟨hv, hj⟩
    exact ⟨hv, true, [], ⟨0, rfl, Nat.le_refl _, fun _ => rfl⟩, hj⟩

set_option maxHeartbeats 400000 in
theorem windows_any (n : Int) (A : Option Addr) (len c : Nat) (w : World) :
    Calls Try.prog 29 #[.slice A len c, .int .i64 n] w fun e w' => e = .returned (.func (.func 31) #[] #[.pointer (some ⟨w.heap.size + 1, 0, none⟩), .pointer (some ⟨w.heap.size, 0, none⟩)]) ∧
      w' = (w.alloc (.cells #[.slice A len c] 22)).alloc (.cells #[.int .i64 n] 3) := by
  go_enter Try.func29, Try.ntmps29
  go_wp2
  go_ret
  exact ⟨rfl, rfl⟩

theorem Lst.turn {B : Nat} {t e : TypeId} {X Y : World} {base : Nat} {v : Value} {xs : List Value} (h : Lst X base e v xs) (hT : Turn B t X Y) (he : e ≠ t) : Lst Y base e v xs := by
  obtain ⟨row, hg, hr⟩ := hT
  refine h.kept hg ?_
  rcases h.2 with ⟨rfl, _⟩ | ⟨g, cap, cur, rfl, _, hgb, _⟩
  · exact .inl rfl
  · refine .inr fun e' => ?_
    obtain ⟨_, o, ho, hc⟩ := hr g (by simpa [Value.ownBlock] using e'.symm)
    rw [hgb] at ho
    cases ho
    rcases hc with hc | ⟨cs, fr, hc⟩
    · cases hc
    · injection hc with _ hc; exact he hc

theorem Lst.apart {W : World} {base g : Nat} {e t : TypeId} {v : Value} {xs cs : List Value} (h : Lst W base e v xs) (ho : Own W g t cs) (ht : t ≠ e) : some g ≠ v.ownBlock := by
  rcases h.2 with ⟨rfl, _⟩ | ⟨g', cap, cur, rfl, _, hgb, _⟩
  · simp [Value.ownBlock]
  · intro e'
    obtain rfl : g = g' := by simpa [Value.ownBlock] using e'
    rw [show W.heap[g]? = _ from ho] at hgb
    injection hgb with hgb
    injection hgb with _ hgb
    exact ht hgb
theorem Lst.row_cells {W : World} {base : Nat} {e : TypeId} {v : Value} {xs : List Value} (h : Lst W base e v xs) : ∀ (j : Nat) (o : Obj), v.ownBlock = some j → W.heap[j]? = some o → o.isCells = true := by
  intro j o hj ho
  rcases h.2 with ⟨rfl, _⟩ | ⟨g', cap, cur, rfl, _, hgb, _⟩
  · simp [Value.ownBlock] at hj
  · obtain rfl : g' = j := by simpa [Value.ownBlock] using hj
    rw [hgb] at ho
    cases ho
    rfl
theorem Kept.of_below {n₀ : Nat} {T : List TypeId} {W W' : World} (h : Below W.heap.size W W') (hn : n₀ ≤ W.heap.size) : Kept n₀ T W W' := ⟨h.mono hn, fun _ _ _ _ ho => ho.below h ho.lt⟩
theorem Kept.set {n₀ L : Nat} {t : TypeId} {cs : List Value} {T : List TypeId} {W : World} (h : Own W L t cs) (ht : t ∉ T) (hn : n₀ ≤ L) (i : Nat) (u : Value) : Kept n₀ T W (W.setCell ⟨L, i, none⟩ u) :=
  ⟨(Below.refl _ _).setCell (p := ⟨L, i, none⟩) hn _, fun g t' cs' ht' ho => ho.far (p := ⟨L, i, none⟩) (fun e => by
    obtain rfl : g = L := e
    have := (show W.heap[g]? = _ from h).symm.trans (show W.heap[g]? = _ from ho)
    injection this with this
    injection this with _ this
    exact ht (this ▸ ht')) _⟩
theorem Kept.app {n₀ base : Nat} {e : TypeId} {v : Value} {xs : List Value} {T : List TypeId} {W W' : World} (h : Lst W base e v xs) (he : e ∉ T) (hn : n₀ ≤ base) (hW : n₀ ≤ W.heap.size) (hg : W.grownBy W' v.ownBlock) : Kept n₀ T W W' :=
  ⟨grown_below (Below.refl n₀ W) h hg hn hW, fun g t cs ht ho => ho.grown hg (h.apart ho (fun e' => he (e' ▸ ht)))⟩
theorem keepsFrom_below {B : Nat} {W W' : World} (h : Below W.heap.size W W') : KeepsFrom B W W' := ⟨h.size, fun k o _ hk _ => (h.block k (Array.getElem?_eq_some_iff.1 hk).1).trans hk⟩

def u32s (l : List Nat) : List Value := l.map fun (x : Nat) => .int .u32 (x : Int)
@[simp] theorem u32s_length (l : List Nat) : (u32s l).length = l.length := by simp [u32s]
theorem Try.info_u32 : (Try.prog.info? 23).map (fun i => (i.zero, i.size, i.bytes)) = some (some (.int .u32 0), 1, 4) := by kernel_rfl
/-- the sums of all windows -/
def winL (bs : List UInt8) (n : Int) : List Nat := (List.range (winN n bs.length)).map (winS bs n.toNat)

set_option maxRecDepth 100000 in
set_option maxHeartbeats 2000000 in
theorem adWindows_any (bs : List UInt8) (n : Int) (len : Nat) (A : Option Addr) (c : Nat) (w : World) (hlen : bs.length = len) (hcap : len ≤ c) (hmax : c ≤ 9223372036854775807) (hnil : A = none → c = 0) (hro : Ro w w.heap.size A (u8s bs)) (hl : len ≤ 1000000) :
    Calls Try.prog 18 #[.slice A len c, .int .i64 n] w fun e w' => ∃ v, e = .returned v ∧ Lst w' w.heap.size 23 v (u32s (winL bs n)) ∧ Below w.heap.size w w' := by
  refine (callsIn_wide (n := 3)).1 ?_
  refine callsIn_of_wp_marks Try.func18 rfl trivial ?_ rfl
  simp only [Try.ntmps18, List.size_toArray, List.length_cons, List.length_nil, Nat.reduceAdd, Nat.reduceSub, Array.replicate_succ, Array.replicate_zero, List.push_toArray, List.append_toArray, List.nil_append, List.cons_append]
  gi_wp2_with fail
  refine ⟨trivial, ?_⟩
  refine (callsIn_wide.2 (windows_any n A len c _)).mono ?_
  rintro e w1 ⟨rfl, rfl⟩
  gi_wp2_with fail
  obtain ⟨W0, hW0⟩ : ∃ W0, ((w.alloc (.cells #[.slice none 0 0] 31)).alloc (.cells #[.slice A len c] 22)).alloc (.cells #[.int .i64 n] 3) = W0 := ⟨_, rfl⟩
  have hs0 : W0.heap.size = w.heap.size + 3 := by rw [← hW0]; simp
  have hB0 : Below w.heap.size w W0 := by rw [← hW0]; exact (((Below.refl _ w).alloc (Nat.le_refl _) _).alloc (by simp) _).alloc (by simp; omega) _
  have hoL : Own W0 w.heap.size 31 [.slice none 0 0] := by rw [← hW0]; exact ((Own.new w _ _).alloc _).alloc _
  have hob : Own W0 (w.heap.size + 1) 22 [.slice A len c] := by
    rw [← hW0]
    have := (Own.new (w.alloc (.cells #[.slice none 0 0] 31)) 22 [.slice A len c]).alloc (.cells #[.int .i64 n] 3)
    rwa [World.size_alloc] at this
  have hon : Own W0 (w.heap.size + 1 + 1) 3 [.int .i64 n] := by
    rw [← hW0]
    have := Own.new ((w.alloc (.cells #[.slice none 0 0] 31)).alloc (.cells #[.slice A len c] 22)) 3 [.int .i64 n]
    rwa [World.size_alloc, World.size_alloc] at this
  rw [hW0]
  clear hW0
  have HL := Lib.hid hlen
  have HS0 := Lib.hid hs0
  have hgv := windows_gives bs n len A c w.heap.size (w.heap.size + 1 + 1) (w.heap.size + 1) W0 hlen hcap hmax hnil (hro.below hB0 (Nat.le_refl _)) (by omega) hon hob
  have HG := Lib.hid hgv
  clear hlen hs0 hgv
  refine wp_gives (gf := 31) (lb := #[.pointer (some ⟨w.heap.size + 1 + 1, 0, none⟩), .pointer (some ⟨w.heap.size + 1, 0, none⟩)]) rfl (enters_of Try.func31 (by kernel_rfl) rfl) HG.out (Below.refl _ _) (fun _ => rfl)
    (fun _ _ _ h k => h.trans k) (fun W l o o' hl h ho => Kept.put (by have := HS0.out; omega) h ho)
    (fun cd xs W => cd = none ∧ ∃ v, Own W w.heap.size 31 [v] ∧ Lst W w.heap.size 23 v (u32s (xs.map (winS bs n.toNat))) ∧ Below w.heap.size w W) ?hI ?h0
    (fun pre k a' W => ∃ B2, a' = { tmps := #[.slice A len c, .int .i64 n, undef, undef, .slice none 0 0, .pointer (some ⟨w.heap.size, 0, none⟩), undef, .pointer (some ⟨B2, 0, none⟩), .slice A len c, .int .i64 n, .func (.func 31) #[] #[.pointer (some ⟨w.heap.size + 1 + 1, 0, none⟩), .pointer (some ⟨w.heap.size + 1, 0, none⟩)], .int .i64 (k : Int), .agg #[.int .i64 ((winS bs n.toNat k % 65536 : Nat) : Int), .int .i64 ((winS bs n.toNat k / 65536 : Nat) : Int)], undef, undef, undef, undef, undef, undef], defers := [] } ∧
      Own W B2 43 [.int .i64 ((winS bs n.toNat k % 65536 : Nat) : Int), .int .i64 ((winS bs n.toNat k / 65536 : Nat) : Int)] ∧ ∃ v, Own W w.heap.size 31 [v] ∧ Lst W w.heap.size 23 v (u32s (pre.map (winS bs n.toNat))) ∧ Below w.heap.size w W) ?hM ?assign ?body ?fin
  case hI =>
    rintro cd xs X Y ⟨rfl, v, ho, hl2, hb⟩ hT
    exact ⟨rfl, v, hT.own ho (.inr (by decide)), hl2.turn hT (by decide), hT.below hb (by have := HS0.out; omega) (Nat.le_refl _)⟩
  case h0 => exact ⟨rfl, _, hoL, Lst.nil _ _ _, hB0⟩
  case hM =>
    rintro pre k a' X l o o' ⟨B2, rfl, ho2, v, ho, hl2, hb⟩ hl hX hoc
    have hT := Turn.put (B := W0.heap.size) 0 o' hX hoc hl
    exact ⟨B2, rfl, hT.own ho2 (.inr (by decide)), v, hT.own ho (.inr (by decide)), hl2.turn hT (by decide), hT.below hb (by have := HS0.out; omega) (Nat.le_refl _)⟩
  case assign =>
    intro l pre k W hI hG
    refine assign_by fun K hK => ?_
    obtain ⟨_, v, ho, hl2, hb⟩ := hI
    unfold winEncs
    generalize winS bs n.toNat k % 65536 = p at hK ⊢
    generalize winS bs n.toNat k / 65536 = q at hK ⊢
    have HK := Lib.hid hK
    clear hK hG
    gi_wp2_with fail
    exact HK.out _ _ ⟨(KeepsOthers.alloc _ _).from _, Kept.alloc _ _ _ _ hb.size, W.heap.size, rfl, Own.new W _ _, v, ho.alloc _, hl2.alloc _, hb.alloc hb.size _⟩
  case body =>
    rintro l pre k a' W hG ⟨B2, rfl, ho2, v, ho, hl2, hb⟩
    have hm : Try.prog.follows .mixedOrders = true := by kernel_rfl
    have hpl : pre.length ≤ 1000001 := by have := winN_le n len; have := hG.1; have := hG.2; omega
    have hsum := fun w => hsum_any (winS bs n.toNat k % 65536) (winS bs n.toNat k / 65536) w (by omega) (by have := winS_lt bs n.toNat k; omega)
    rw [show 65536 * (winS bs n.toNat k / 65536) + winS bs n.toNat k % 65536 = winS bs n.toNat k by omega] at hsum
    generalize winS bs n.toNat k % 65536 = p at hsum ho2 ⊢
    generalize winS bs n.toNat k / 65536 = q at hsum ho2 ⊢
    generalize hx : winS bs n.toNat k = x at hsum
    have HX := Lib.hid hx
    have HS := Lib.hid hsum
    clear hx hsum
    have h20 := ho2.cell 0
    have h21 := ho2.cell 1
    simp at h20 h21
    obtain ⟨a3, c3, hv, _, _, _⟩ := hl2.form
    subst hv
    have hL0 := ho.cell 0
    simp at hL0
    have hbB := ho2.lt
    refine wpIn_block ?_
    refine round_anyU [5] (fun W' => W'.cell? ⟨w.heap.size, 0, none⟩ = some (.slice a3 pre.length c3) ∧ W'.cell? ⟨B2, 0, none⟩ = some (.int .i64 (p : Int)) ∧ W'.cell? ⟨B2, 1, none⟩ = some (.int .i64 (q : Int))) hm ?_ (by kernel_rfl) ?_
    · rintro ⟨_, _, c, hc, _⟩
      cases hc
    refine AnyU.take 0 (.slice a3 pre.length c3) rfl (by kernel_rfl) (by kernel_rfl) (by kernel_rfl) (by kernel_rfl) (by kernel_rfl) (fun _ _ _ h => h) (by rfl) (fun w' hw' => ?_) ⟨hL0, h20, h21⟩ ?_
    · obtain ⟨g0, g1, g2⟩ := hw'
      go_simp
    simp only [Act.put, List.setIfInBounds_toArray, List.set_cons_zero, List.set_cons_succ]
    refine AnyU.take 1 (.agg #[.int .i64 (p : Int), .int .i64 (q : Int)]) rfl (by kernel_rfl) (by kernel_rfl) (by kernel_rfl) (by kernel_rfl) (by kernel_rfl) (fun _ _ _ h => h) (by rfl) (fun w' hw' => ?_) ⟨hL0, h20, h21⟩ ?_
    · obtain ⟨g0, g1, g2⟩ := hw'
      go_simp
    simp only [Act.put, List.setIfInBounds_toArray, List.set_cons_zero, List.set_cons_succ]
    refine AnyU.step 2 rfl (by kernel_rfl) (fun K hK => ?_)
    have HK := Lib.hid hK
    clear hK
    go_simp
    refine (HS.out _).mono ?_
    rintro e w5 ⟨rfl, hb5⟩
    have hbW : Below W.heap.size W w5 := (Below.refl _ W).drew.trans hb5
    have hb5' := hb.trans (hbW.mono hb.size)
    have hL5 := (hbW.cell (p := ⟨w.heap.size, 0, none⟩) ho.lt).trans hL0
    have h205 := (hbW.cell (p := ⟨B2, 0, none⟩) hbB).trans h20
    have h215 := (hbW.cell (p := ⟨B2, 1, none⟩) hbB).trans h21
    have ho5 := ho.below hbW ho.lt
    have ho25 := ho2.below hbW hbB
    have hl25 := hl2.below hbW (Nat.le_refl _)
    dsimp only
    refine HK.out _ _ (fun _ => ⟨hL5, h205, h215⟩) ?_
    clear HK K
    refine AnyU.step 3 rfl (by kernel_rfl) (fun K hK => ?_)
    have HK := Lib.hid hK
    clear hK
    go_simp
    have ht0 : ((w5.alloc (.cells #[.int .u32 (x : Int)] 23)).cell? ⟨w.heap.size, 0, none⟩) = some (.slice a3 pre.length c3) := (World.cell?_alloc_lt _ _ _ ho5.lt).trans hL5
    have ht1 : ((w5.alloc (.cells #[.int .u32 (x : Int)] 23)).cell? ⟨B2, 0, none⟩) = some (.int .i64 (p : Int)) := (World.cell?_alloc_lt _ _ _ ho25.lt).trans h205
    have ht2 : ((w5.alloc (.cells #[.int .u32 (x : Int)] 23)).cell? ⟨B2, 1, none⟩) = some (.int .i64 (q : Int)) := (World.cell?_alloc_lt _ _ _ ho25.lt).trans h215
    refine HK.out _ _ (fun _ => ⟨ht0, ht1, ht2⟩) ?_
    clear HK K
    refine AnyU.step 4 rfl (by kernel_rfl) (fun K hK => ?_)
    have HK := Lib.hid hK
    clear hK
    rw [if_pos (by rfl)]
    refine wp_app (.tmp 13) (.tmp 16) 31 (by rfl) w.heap.size 23 (.int .u32 0) 4 Try.underlying31 Try.info_u32 rfl (.slice a3 (u32s (pre.map (winS bs n.toNat))).length c3) (u32s (pre.map (winS bs n.toNat))) (by simp; rfl) (hl25.alloc _)
      (some ⟨w5.heap.size, 0, none⟩) (w5.heap.size + 1) 1 1 [.int .u32 (x : Int)] (by rfl) rfl (ro_one w5 _ _) (by simp [Value.oneCell']) (by simp; omega) (by simp; omega) (by simp; have := hb5'.size; omega) ?_
    intro v6 w6 hl6 hg6
    have hoA := ho5.alloc (.cells #[.int .u32 (x : Int)] 23)
    have hoB := ho25.alloc (.cells #[.int .u32 (x : Int)] 23)
    have hlA := hl25.alloc (.cells #[.int .u32 (x : Int)] 23)
    have ho6 := hoA.grown hg6 (hlA.apart hoA (by decide))
    have ho26 := hoB.grown hg6 (hlA.apart hoB (by decide))
    obtain ⟨a6, c6, hv6, _, _, _⟩ := hl6.out.form
    subst hv6
    have hk6 : Kept w.heap.size winTypes W w6 := ((Kept.of_below hbW hb.size).trans (Kept.alloc _ _ _ _ hb5'.size)).trans (Kept.app hlA (by decide) (Nat.le_refl _) (by simp; have := hb5'.size; omega) hg6)
    have hf6 : KeepsFrom W0.heap.size W w6 := ((keepsFrom_below hbW).trans ((KeepsOthers.alloc _ _).from _)).trans ((KeepsOthers.of_grownBy hg6 hlA.row_cells).from _)
    have hc6 := ho6.cell 0
    have hc62 := ho26.cell 0
    have hc63 := ho26.cell 1
    have hf60 := ho6.frozen 0
    simp at hc6 hc62 hc63
    refine HK.out _ _ (fun _ => ⟨hc6, hc62, hc63⟩) ?_
    clear HK K
    simp only [Act.put, List.getElem_toArray, List.getElem_cons_succ, List.getElem_cons_zero, List.setIfInBounds_toArray, List.set_cons_zero, List.set_cons_succ]
    refine AnyU.step 5 rfl (by kernel_rfl) (fun K hK => ?_)
    have HK := Lib.hid hK
    clear hK
    have HL6 := hl6
    clear hl6
    go_simp
    refine HK.out _ _ (fun h => by cases h) (AnyU.done (by kernel_rfl) ?_)
    have hg7 : w6.grownBy (w6.setCell ⟨w.heap.size, 0, none⟩ (.slice a6 (pre.length + 1) c6)) (some w.heap.size) := only_set (only_refl _ _) 0 _
    have hl7 := HL6.out.kept hg7 (.inr (HL6.out.apart ho6 (by decide)).symm)
    have hlen6 : (u32s (pre.map (winS bs n.toNat)) ++ [Value.int .u32 (x : Int)]).length = pre.length + 1 := by simp
    have hk7 := hk6.trans (Kept.set ho6 (by decide) (Nat.le_refl _) 0 (.slice a6 (pre.length + 1) c6))
    refine ⟨none, rfl, hf6.trans ((KeepsOthers.setCell _ _ _).from _), (fun _ => hk7), rfl, .slice a6 (pre.length + 1) c6, ho6.set 0 _, ?_, hb.trans hk7.1⟩
    rw [hlen6] at hl7
    have e : u32s ((pre ++ [k]).map (winS bs n.toNat)) = u32s (pre.map (winS bs n.toNat)) ++ [.int .u32 (x : Int)] := by rw [List.map_append]; simp [u32s, HX.out]
    rw [e]
    exact hl7
  case fin =>
    rintro D cd xs W hD ⟨m, rfl, _, hm⟩ ⟨rfl, v, ho, hl2, hb⟩ hK
    obtain rfl := hm rfl
    have hL0 := ho.cell 0
    simp at hL0
    dsimp only
    gi_wp2_with fail
    have hT := Turn.put (B := W0.heap.size) 43 (.deferred none) hK rfl hD
    have e : winL bs n = (List.range (winN n len)).map (winS bs n.toNat) := by unfold winL; rw [HL.out]
    refine ⟨by simp, .inl ⟨_, _, rfl, run_takeDeferred hK, ?_⟩⟩
    exact ⟨_, results_tmp rfl _ _ _, v, rfl, by rw [e]; exact hl2.turn hT (by decide), hT.below hb (by have := HS0.out; omega) (Nat.le_refl _)⟩
end Go.Proofs.Ytlkojonchlcpdaa
