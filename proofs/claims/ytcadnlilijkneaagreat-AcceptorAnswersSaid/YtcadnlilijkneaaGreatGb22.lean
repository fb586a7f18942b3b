/-
  Contracts of package tape: contentOf. No claim of their own.
-/
import Derived.Test.YtcadnlilijkneaaGreatGb21
namespace Go.Proofs.YtcadnlilijkneaaGreat
open Go.RowKit
set_option linter.unusedVariables false
set_option linter.unusedSimpArgs false

theorem Lst.shape {w : World} {base : Nat} {e : TypeId} {v : Value} {xs : List Value} (h : Lst w base e v xs) : ∃ a n c, v = .slice a n c := by
  obtain ⟨a, c, rfl, _⟩ := h.form
  exact ⟨a, _, c, rfl⟩
theorem step_rec {A : List Rec} {bs rest : List UInt8} (hA : okL A) (h : bs = frs A ++ rest) (hb : begs rest) :
    ∃ r X, okR r ∧ bs = frs (A ++ [r]) ++ X ∧ nb (rest.take 2) = r.length ∧ (frs (A ++ [r])).length = (frs A).length + (2 + r.length) := by
  obtain ⟨r, X, hr, rfl⟩ := hb
  refine ⟨r, X, hr, by rw [h, frs_snoc, List.append_assoc], begs_len hr rfl, by rw [frs_snoc_len]; omega⟩
def ContT (h : Nat) (v : Value) (bs : List UInt8) (w : World) (e : Ending) (w' : World) : Prop :=
  (∃ L vE, okL L ∧ bs = frs L ∧ e = .returned (.tuple #[cv h v vE, .bool true]) ∧ Lst w' 0 3 vE (i64s (ens L)) ∧ (∀ g ∈ bl vE, w.heap.size ≤ g) ∧ Chg [] w w') ∨
  ((∀ L, okL L → bs ≠ frs L) ∧ e = .returned (.tuple #[cv 0 (.slice none 0 0) (.slice none 0 0), .bool false]) ∧ Chg [] w w')
structure CoAt (w wr : World) (h : Nat) (v vE : Value) (bs : List UInt8) (A : List Rec) (rest : List UInt8) : Prop where
  ok : okL A
  eq : bs = frs A ++ rest
  own : Own wr (w.heap.size + 1) 213 [.int .i64 (h : Int), v, vE]
  res : Own wr w.heap.size 213 [.int .i64 0, .slice none 0 0, .slice none 0 0]
  lst : Lst wr 0 3 vE (i64s (ens A))
  low : ∀ g ∈ bl vE, w.heap.size + 2 ≤ g
  chg : Chg [] w wr
theorem CoAt.start (w : World) (h : Nat) (v : Value) (bs : List UInt8) : CoAt w ((w.alloc (.cells #[.int .i64 0, .slice none 0 0, .slice none 0 0] 213)).alloc (.cells #[.int .i64 (h : Int), v, .slice none 0 0] 213)) h v (.slice none 0 0) bs [] bs := by
  have h1 := Own.new (w.alloc (.cells #[.int .i64 0, .slice none 0 0, .slice none 0 0] 213)) 213 [.int .i64 (h : Int), v, .slice none 0 0]
  rw [World.size_alloc] at h1
  exact ⟨okL_nil, rfl, h1, (Own.new w 213 [.int .i64 0, .slice none 0 0, .slice none 0 0]).alloc _, Lst.nil _ _ _, by intro g hg; simp [mem_bl, Value.ownBlock] at hg, ((Chg.refl [] w).alloc _).alloc _⟩
theorem CoAt.qt {w wr wr' : World} {h : Nat} {v vE : Value} {bs : List UInt8} {A : List Rec} {rest : List UInt8} (k : CoAt w wr h v vE bs A rest) (q : Qt wr wr') : CoAt w wr' h v vE bs A rest :=
  ⟨k.ok, k.eq, k.own.qt q, k.res.qt q, k.lst.qt q, k.low, k.chg.qt q⟩
theorem contentOf_any (w : World) (h : Nat) (a : Option Addr) (bs : List UInt8) (c B : Nat) (hro : Ro w B a (u8s bs)) (hB : B ≤ w.heap.size) (hh : h ≤ 1) (hc : bs.length ≤ c) (h63 : c ≤ 9223372036854775807) (hl : bs.length ≤ 1000000) :
    Calls Tryz.prog 120 #[.int .i64 (h : Int), .slice a bs.length c] w (ContT h (.slice a bs.length c) bs w) := by
  obtain ⟨n, HN⟩ : ∃ n, Hid (bs.length = n) := ⟨_, Lib.hid rfl⟩
  rw [HN.out] at hc hl ⊢
  have HRO := Lib.hid (hro.mono hB)
  clear hro hB
  go_enter Tryz.func120, Tryz.ntmps120
  go_wp2_with fail
  go_loopw [7] (fun at_ wr => ∃ A rest vE, at_ = .int .i64 (((frs A).length : Nat) : Int) ∧ Hid (CoAt w wr h (.slice a n c) vE bs A rest)) (fun at_ _ => n - (intOf at_).toNat)
  case atStart => exact ⟨[], bs, _, rfl, Lib.hid (CoAt.start w h _ bs)⟩
  case round =>
    obtain ⟨A, rest, vE, rfl, HR⟩ := hrel
    have hlen : (frs A).length + rest.length = n := by rw [← HN.out, HR.out.eq, List.length_append]
    have hdrop : bs.drop (frs A).length = rest := by rw [HR.out.eq]; exact List.drop_left
    obtain ⟨k, HK⟩ : ∃ k, Hid ((frs A).length = k) := ⟨_, Lib.hid rfl⟩
    rw [HK.out] at hlen hdrop ⊢
    by_cases hlt : k < n
    · have hd : decide (k < n) = true := by simpa using hlt
      have hkc : (c = k) = False := by simp; omega
      have hk1 : (k : Int) < (n : Int) := by omega
      have hkc2 : (k : Int) ≤ (c : Int) := by omega
      have hnc : (n : Int) ≤ (c : Int) := by omega
      have hro2 := HRO.out.below HR.out.chg.low (Nat.le_refl _)
      have hro3 := hro2.drop k c (by rw [u8s_length, HN.out]; exact hc)
      rw [if_neg (by omega), show (u8s bs).drop k = u8s rest by rw [← hdrop]; simp [u8s, List.map_drop]] at hro3
      have hF := firstRecord_any wr _ rest (c - k) w.heap.size hro3 (by omega) (by omega)
      rw [show rest.length = n - k by omega] at hF
      have HF := Lib.hid hF
      have HH := Lib.hid (And.intro hlen hdrop)
      clear hlen hdrop hro2 hro3 hF
      go_wp2_with fail
      refine HF.out.mono ?_
      rintro e w2 ⟨a2, n2, c2, t, rfl, Ht, Hn, hq⟩
      have HR2 := Lib.hid (HR.out.qt hq)
      have o0 := HR2.out.own.cell 0
      have o1 := HR2.out.own.cell 1
      have o2 := HR2.out.own.cell 2
      have p0 := HR2.out.res.cell 0
      have p1 := HR2.out.res.cell 1
      have p2 := HR2.out.res.cell 2
      have f0 := HR2.out.own.frozen 0
      have f1 := HR2.out.own.frozen 1
      have f2 := HR2.out.own.frozen 2
      have g0 := HR2.out.res.frozen 0
      have g1 := HR2.out.res.frozen 1
      have g2 := HR2.out.res.frozen 2
      simp at o0 o1 o2 p0 p1 p2
      have HQ := Lib.hid hq
      clear hq HF
      cases t with
      | false =>
        clear o0 o1 o2 f0 f1 f2
        have HB := Lib.hid (show ¬ begs rest by have := Ht.out; simpa using this.symm)
        go_wp2_with fail
        refine bodyPost_ret (v := .tuple #[cv 0 (.slice none 0 0) (.slice none 0 0), .bool false]) (by simp [results, Tryz.results120, go_sem, p0, p1, p2, g0, g1, g2]) rfl (.inr ⟨?_, rfl, ?_⟩)
        · intro L hL hbs
          have hne : rest ≠ [] := by rintro rfl; have := HH.out.1; simp at this; omega
          exact HB.out (frs_begs HR.out.ok hL (HR.out.eq.symm.trans hbs) hne)
        · exact ((HR2.out.chg.setCell (p := ⟨w.heap.size, 0, none⟩) (Or.inr (Nat.le_refl _)) _).setCell (p := ⟨w.heap.size, 1, none⟩) (Or.inr (Nat.le_refl _)) _).setCell (p := ⟨w.heap.size, 2, none⟩) (Or.inr (Nat.le_refl _)) _
      | true =>
        clear p0 p1 p2 g0 g1 g2
        obtain ⟨r, X, hr, hbs, hnb, hlr⟩ := step_rec HR.out.ok HR.out.eq (show begs rest by have := Ht.out; simpa using this.symm)
        have hn2 : n2 = r.length := (Hn.out rfl).trans hnb
        have hle := congrArg List.length hbs
        rw [List.length_append, HN.out, hlr, HK.out] at hle
        rw [hn2]
        have hr63 : r.length ≤ 300 := hr.2
        have HFS := Lib.hid (frameSize_any w2 a2 r.length c2 (by omega))
        have HS := Lib.hid (And.intro hr (And.intro hbs hlr))
        have hle2 : k + (2 + r.length) ≤ n := by omega
        clear hn2 hnb hbs hlr hr hle Hn Ht
        obtain ⟨m, HM⟩ : ∃ m, Hid (r.length = m) := ⟨_, Lib.hid rfl⟩
        rw [HM.out] at hr63 HFS hle2 ⊢
        obtain ⟨s, HSS⟩ : ∃ s, Hid (2 + m = s) := ⟨_, Lib.hid rfl⟩
        rw [HSS.out] at HFS hle2
        have hs0 : (0 : Int) ≤ (s : Int) := by omega
        have hks : (k : Int) + (s : Int) ≤ (n : Int) := by omega
        have HLE := Lib.hid (show (i64s (ens A)).length ≤ 1000000 by
          rw [i64s_length, ens_len]
          have := frs_ge HR.out.ok
          have := HK.out
          omega)
        have hX : ∀ v4 w4, AppK w2 w4 3 vE v4 (i64s (ens A)) [.int .i64 ((k : Int) + (s : Int))] → Hid (CoAt w (w4.setCell ⟨w.heap.size + 1, 2, none⟩ v4) h (.slice a n c) v4 bs (A ++ [r]) X) ∧ w4.cell? ⟨w.heap.size + 1, 2, none⟩ = some vE ∧ w4.frozen? ⟨w.heap.size + 1, 2, none⟩ = false := by
          intro v4 w4 H4
          have hlow := HR2.out.low
          have hne : ∀ x ∈ bl vE, x ≠ w.heap.size + 1 ∧ x ≠ w.heap.size := fun x hx => by have := hlow x hx; omega
          have hO := HR2.out.own.chg H4.chg (fun hx => (hne _ hx).1 rfl)
          have hRs := HR2.out.res.chg H4.chg (fun hx => (hne _ hx).2 rfl)
          have hsz := HR2.out.chg.size
          have hlt1 := HR2.out.own.lt
          have hl4 : ∀ g ∈ bl v4, w.heap.size + 2 ≤ g := fun g hg => by
            rcases H4.bl g hg with h1 | h1
            · exact hlow g h1
            · omega
          have hc4 : Chg [] w w4 := HR2.out.chg.then H4.chg (fun x hx => .inr (by have := hlow x hx; omega))
          refine ⟨Lib.hid ⟨HR.out.ok.snoc HS.out.1, HS.out.2.1, hO.set 2 v4, hRs.far (by simp) _, ?_, hl4, hc4.setCell (Or.inr (by simp)) _⟩, by rw [hO.cell]; rfl, hO.frozen 2⟩
          have hl := H4.lst
          have e : i64s (ens (A ++ [r])) = i64s (ens A) ++ [.int .i64 ((k : Int) + (s : Int))] := by
            have h1 := HS.out.2.2
            have h2 := HK.out
            have h3 := HSS.out
            have h4 := HM.out
            rw [ens_snoc, h1]
            simp only [i64s, List.map_append, List.map_cons, List.map_nil]
            congr 3
            omega
          rw [e]
          exact hl.chg (l := [w.heap.size + 1]) ((Chg.refl _ _).setCell (by simp) _) (fun g hg hm => by
            have := hl4 g (mem_bl.2 hg)
            simp at hm
            omega)
        have HX := Lib.hid hX
        clear hX o0 o1 f0 f1 f2
        go_wp2_with fail
        refine HFS.out.mono ?_
        rintro e w3 ⟨rfl, rfl⟩
        go_wp2_with (first
          | (at_builtin; refine wpList_appK1 rfl _ _ 46 rfl 3 (.int .i64 0) 8 Tryz.underlying46 infoInt rfl _ rfl vE _ (by rfl) HR2.out.lst _ (by rfl) (by simp) (by have := HLE.out; omega) (by have := HLE.out; omega) ?_; intro v4 w4 H4; obtain ⟨H5, c5, f5⟩ := HX.out v4 w4 H4.out; obtain ⟨a4, n4, c4, rfl⟩ := H4.out.lst.shape; clear H4 HX)
          | fail)
        go_roundw
        case rel => exact ⟨A ++ [r], X, _, by have h1 := HS.out.2.2; have h2 := HK.out; have h3 := HSS.out; have h4 := HM.out; congr 1; omega, H5⟩
        case measure => have := HSS.out; simp [intOf]; omega
    · obtain ⟨aE, nE, cE, rfl⟩ := HR.out.lst.shape
      have hkn : k = n := by omega
      have hrest : rest = [] := List.eq_nil_of_length_eq_zero (by omega)
      have HE := Lib.hid (show bs = frs A by rw [HR.out.eq, hrest, List.append_nil])
      have o0 := HR.out.own.cell 0
      have o1 := HR.out.own.cell 1
      have o2 := HR.out.own.cell 2
      have p0 := HR.out.res.cell 0
      have p1 := HR.out.res.cell 1
      have p2 := HR.out.res.cell 2
      have g0 := HR.out.res.frozen 0
      have g1 := HR.out.res.frozen 1
      have g2 := HR.out.res.frozen 2
      simp at o0 o1 o2 p0 p1 p2
      have hd : decide (k < n) = false := by simpa using hlt
      clear hlen hdrop hrest hkn
      go_wp2_with fail
      refine bodyPost_ret (v := .tuple #[cv h (.slice a n c) (.slice aE nE cE), .bool true]) (by simp [results, Tryz.results120, go_sem, p0, p1, p2, g0, g1, g2, o0, o1, o2]) rfl (.inl ⟨A, _, HR.out.ok, HE.out, rfl, ?_, ?_, ?_⟩)
      · exact HR.out.lst.chg (l := [w.heap.size]) ((((Chg.refl _ _).setCell (by simp) _).setCell (by simp) _).setCell (by simp) _) (fun g hg hm => by
          have := HR.out.low g (mem_bl.2 hg)
          simp at hm
          omega)
      · exact fun g hg => Nat.le_trans (by omega) (HR.out.low g hg)
      · exact ((HR.out.chg.setCell (p := ⟨w.heap.size, 0, none⟩) (Or.inr (Nat.le_refl _)) _).setCell (p := ⟨w.heap.size, 1, none⟩) (Or.inr (Nat.le_refl _)) _).setCell (p := ⟨w.heap.size, 2, none⟩) (Or.inr (Nat.le_refl _)) _
end Go.Proofs.YtcadnlilijkneaaGreat
namespace Go.Proofs.YtcadnlilijkneaaGreat
open Go.RowKit
set_option linter.unusedVariables false
set_option linter.unusedSimpArgs false

theorem Ro.chgs {l : List Nat} {w w' : World} {B : Nat} {a : Option Addr} {vs : List Value} (h : Ro w B a vs) (hc : Chg l w w') (hl : ∀ x, a = some x → x.block ∉ l) : Ro w' B a vs := by
  rcases h with h | ⟨b, off, rfl, hb, hcl⟩
  · exact .inl h
  · exact .inr ⟨b, off, rfl, hb, fun i hi => hc.cell (hcl i hi) (hl _ rfl)⟩
structure WithK (w w' : World) (vF vE vF' vE' : Value) (L : List Rec) (r : Rec) : Prop where
  fr : Lst w' 0 5 vF' (u8s (frs (L ++ [r])))
  en : Lst w' 0 3 vE' (i64s (ens (L ++ [r])))
  sameF : ∀ x ∈ bl vF', x ∈ bl vF ∨ w.heap.size ≤ x
  sameE : ∀ x ∈ bl vE', x ∈ bl vE ∨ w.heap.size ≤ x
  keepF : ∀ u zs, Lst w 0 5 u zs → (∀ g, u.ownBlock = some g → vF.ownBlock = some g → zs.length ≤ (frs L).length) → Lst w' 0 5 u zs
  keepE : ∀ u zs, Lst w 0 3 u zs → (∀ g, u.ownBlock = some g → vE.ownBlock = some g → zs.length ≤ L.length) → Lst w' 0 3 u zs
  chg : Chg (bl vF ++ bl vE) w w'
theorem ne_u8_int : 5 ≠ 3 := by decide
theorem Lst.typ {w : World} {e : TypeId} {v : Value} {xs : List Value} (h : Lst w 0 e v xs) {g : Nat} (hg : v.ownBlock = some g) : ∃ c, w.heap[g]? = some (.cells c e (0, 0)) := by
  rcases h.2 with ⟨rfl, _⟩ | ⟨g1, c1, r1, rfl, _, h1, _⟩
  · simp [Value.ownBlock] at hg
  · simp only [Value.ownBlock, Option.some.injEq] at hg
    subst hg
    exact ⟨_, h1⟩
theorem Lst.other {w w' : World} {e : TypeId} {v : Value} {xs : List Value} (h : Lst w 0 e v xs) {l : List Nat} (hc : Chg l w w') (hl : ∀ g ∈ l, g < w.heap.size → ∃ c t m, w.heap[g]? = some (.cells c t m) ∧ t ≠ e) : Lst w' 0 e v xs :=
  h.chg hc fun g hg hm => by
    obtain ⟨c, hh⟩ := h.typ hg
    obtain ⟨c2, t2, m2, h2, h3⟩ := hl g hm (h.lt g hg).2
    rw [hh] at h2
    cases h2
    exact h3 rfl
theorem ne_ct_u8 : 213 ≠ 5 := by decide
theorem ne_ct_int : 213 ≠ 3 := by decide
theorem with_fin {w X w2 w4 W : World} {vF vE v2 v4 : Value} {L : List Rec} {r : Rec} {cs ds : List Value} {N : Nat} {x : Value} (hF : Lst w 0 5 vF (u8s (frs L))) (hE : Lst w 0 3 vE (i64s (ens L))) (hCX : Chg [] w X) (hs : X.heap.size = w.heap.size + 2)
    (hO : Own X w.heap.size 213 cs) (hP : Own X (w.heap.size + 1) 213 ds) (K3 : AppK X w2 5 vF v2 (u8s (frs L)) (u8s (frame r)))
    (K4 : AppK (w2.setCell ⟨w.heap.size, 1, none⟩ x) w4 3 vE v4 (i64s (ens L)) [.int .i64 (N : Int)]) (hN : (frs (L ++ [r])).length = N) (hW : Chg [w.heap.size, w.heap.size + 1] w4 W) : WithK w W vF vE v2 v4 L r := by
  have hFl := hF.bl_lt
  have hEl := hE.bl_lt
  have hFX := hF.kept0 hCX
  have hO2 := hO.chg K3.chg (fun hx => by have := hFl _ hx; omega)
  have hP2 := hP.chg K3.chg (fun hx => by have := hFl _ hx; omega)
  have hs2 : X.heap.size ≤ w2.heap.size := K3.chg.size
  have hset : Chg [w.heap.size] w2 (w2.setCell ⟨w.heap.size, 1, none⟩ x) := (Chg.refl _ _).setCell (by simp) _
  have hO3 := hO2.set 1 x
  have hP3 := hP2.far (p := ⟨w.heap.size, 1, none⟩) (by simp) x
  have hO4 := hO3.chg K4.chg (fun hx => by have := hEl _ hx; omega)
  have hP4 := hP3.chg K4.chg (fun hx => by have := hEl _ hx; omega)
  -- slices of bytes from w2 on
  have hU : ∀ u zs, Lst w2 0 5 u zs → Lst W 0 5 u zs := by
    intro u zs hu
    have h1 : Lst (w2.setCell ⟨w.heap.size, 1, none⟩ x) 0 5 u zs := hu.other hset (fun g hg _ => by simp at hg; subst hg; exact ⟨_, _, _, hO2, ne_ct_u8⟩)
    have hE2 := (hE.kept0 hCX).other K3.chg (fun g hg _ => by obtain ⟨c, hc⟩ := hFX.typ (mem_bl.1 hg); exact ⟨_, _, _, hc, ne_u8_int⟩)
    have hE3 := hE2.other hset (fun g hg _ => by simp at hg; subst hg; exact ⟨_, _, _, hO2, ne_ct_int⟩)
    have h2 := h1.other K4.chg (fun g hg _ => by obtain ⟨c, hc⟩ := hE3.typ (mem_bl.1 hg); exact ⟨_, _, _, hc, ne_u8_int.symm⟩)
    exact h2.other hW (fun g hg _ => by
      simp at hg
      rcases hg with rfl | rfl
      · exact ⟨_, _, _, hO4, ne_ct_u8⟩
      · exact ⟨_, _, _, hP4, ne_ct_u8⟩)
  have hI : ∀ u zs, Lst w4 0 3 u zs → Lst W 0 3 u zs := fun u zs hu => hu.other hW (fun g hg _ => by
      simp at hg
      rcases hg with rfl | rfl
      · exact ⟨_, _, _, hO4, ne_ct_int⟩
      · exact ⟨_, _, _, hP4, ne_ct_int⟩)
  have e1 : u8s (frs L) ++ u8s (frame r) = u8s (frs (L ++ [r])) := by rw [frs_snoc]; simp [u8s]
  have e2 : i64s (ens L) ++ [.int .i64 (N : Int)] = i64s (ens (L ++ [r])) := by rw [ens_snoc, hN]; simp [i64s]
  refine ⟨?_, ?_, ?_, ?_, ?_, ?_, ?_⟩
  · have := K3.lst
    rw [e1] at this
    exact hU _ _ this
  · have := K4.lst
    rw [e2] at this
    exact hI _ _ this
  · intro y hy
    rcases K3.bl y hy with h | h
    · exact .inl h
    · right; omega
  · intro y hy
    rcases K4.bl y hy with h | h
    · exact .inl h
    · rw [set_size] at h; right; omega
  · intro u zs hu hl
    exact hU _ _ (K3.keep u zs (hu.kept0 hCX) (fun g h1 h2 => by rw [u8s_length]; exact hl g h1 h2))
  · intro u zs hu hl
    have h1 := (hu.kept0 hCX).other K3.chg (fun g hg _ => by obtain ⟨c, hc⟩ := hFX.typ (mem_bl.1 hg); exact ⟨_, _, _, hc, ne_u8_int⟩)
    have h2 := h1.other hset (fun g hg _ => by simp at hg; subst hg; exact ⟨_, _, _, hO2, ne_ct_int⟩)
    exact hI _ _ (K4.keep u zs h2 (fun g h1 h2 => by rw [i64s_length, ens_len]; exact hl g h1 h2))
  · have h1 : Chg (bl vF ++ bl vE) w w2 := (hCX.mono (by simp)).trans (K3.chg.mono (fun y hy => .inl (by simp [hy])))
    have h2 := h1.then hset (fun y hy => by simp at hy; subst hy; right; exact Nat.le_refl _)
    have h3 := h2.then K4.chg (fun y hy => .inl (by simp [hy]))
    exact h3.then hW (fun y hy => by simp at hy; right; omega)
set_option maxHeartbeats 1000000 in
set_option maxRecDepth 100000 in
theorem with_any (w : World) (h : Nat) (aF aE : Option Addr) (nF cF nE cE : Nat) (L : List Rec) (a : Option Addr) (r : Rec) (c B : Nat) (hF : Lst w 0 5 (.slice aF nF cF) (u8s (frs L))) (hE : Lst w 0 3 (.slice aE nE cE) (i64s (ens L)))
    (hro : Ro w B a (u8s r)) (hB : B ≤ w.heap.size) (hsep : ∀ x, a = some x → x.block ∉ bl (.slice aF nF cF)) (hr : okR r) (hok : okL L) (hl : (frs L).length ≤ 1000000) :
    Calls Tryz.prog 145 #[cv h (.slice aF nF cF) (.slice aE nE cE), .slice a r.length c] w fun e w' => ∃ vF' vE', e = .returned (cv h vF' vE') ∧ Hid (WithK w w' (.slice aF nF cF) (.slice aE nE cE) vF' vE' L r) := by
  obtain ⟨n, HN⟩ : ∃ n, Hid (r.length = n) := ⟨_, Lib.hid rfl⟩
  have hr1 := hr.1
  have hr3 := hr.2
  rw [HN.out] at hr1 hr3 ⊢
  obtain ⟨X, HX⟩ : ∃ X, Hid ((w.alloc (.cells #[.int .i64 (h : Int), .slice aF nF cF, .slice aE nE cE] 213)).alloc (.cells #[.int .i64 0, .slice none 0 0, .slice none 0 0] 213) = X) := ⟨_, Lib.hid rfl⟩
  have hCX : Chg [] w X := by rw [← HX.out]; exact ((Chg.refl [] w).alloc _).alloc _
  have hO : Own X w.heap.size 213 [.int .i64 (h : Int), .slice aF nF cF, .slice aE nE cE] := by rw [← HX.out]; exact (Own.new w _ _).alloc _
  have hP : Own X (w.heap.size + 1) 213 [.int .i64 0, .slice none 0 0, .slice none 0 0] := by rw [← HX.out]; have := Own.new (w.alloc (.cells #[.int .i64 (h : Int), .slice aF nF cF, .slice aE nE cE] 213)) 213 [.int .i64 0, .slice none 0 0, .slice none 0 0]; rwa [World.size_alloc] at this
  have hsX : X.heap.size = w.heap.size + 2 := by rw [← HX.out]; simp
  have H1 := Lib.hid (putNumber_any X (.slice aF nF cF) _ n 2 (hF.kept0 hCX) (by simp; omega) (by omega) (by omega))
  have HO := Lib.hid hO
  have HP := Lib.hid hP
  have HS := Lib.hid hsX
  have HF := Lib.hid hF
  have HE := Lib.hid hE
  have HRO := Lib.hid (hro.mono hB)
  have HCX := Lib.hid hCX
  have HSP := Lib.hid hsep
  have e1 : IntKind.u32.wrap (n : Int) = (n : Int) := by rw [IntKind.wrap_u32]; omega
  clear hO hP hsX hF hE hro hsep hCX
  go_enter Tryz.func145, Tryz.ntmps145
  go_wp2_with fail
  simp only [HX.out]
  refine H1.out.mono ?_
  rintro e w1 ⟨v1, rfl, K1⟩
  have hsz := HS.out
  have hFX := HF.out.kept0 HCX.out
  have hroX := HRO.out.chgs HCX.out (fun x _ => by simp)
  have hro1 := hroX.chgs K1.out.chg HSP.out
  have HRO1 := Lib.hid (hro1.mono (Nat.le_trans HCX.out.size K1.out.chg.size))
  have hFlt := HF.out.bl_lt
  have hne : w.heap.size ∉ bl (.slice aF nF cF) ∧ w.heap.size + 1 ∉ bl (.slice aF nF cF) := ⟨fun hx => by have := hFlt _ hx; omega, fun hx => by have := hFlt _ hx; omega⟩
  have hA : ∀ v2 w2, AppK w1 w2 5 v1 v2 (u8s (frs L) ++ u8s (be 2 n)) (u8s r) → ∃ a2 c2, v2 = .slice a2 (frs (L ++ [r])).length c2 ∧ Hid (AppK X w2 5 (.slice aF nF cF) v2 (u8s (frs L)) (u8s (frame r))) ∧
      w2.cell? ⟨w.heap.size, 0, none⟩ = some (.int .i64 (h : Int)) ∧ w2.cell? ⟨w.heap.size, 1, none⟩ = some (.slice aF nF cF) ∧ w2.cell? ⟨w.heap.size, 2, none⟩ = some (.slice aE nE cE) ∧ w2.frozen? ⟨w.heap.size, 1, none⟩ = false ∧ Hid (Own w2 w.heap.size 213 [.int .i64 (h : Int), .slice aF nF cF, .slice aE nE cE]) ∧
      Hid (∀ u, Lst (w2.setCell ⟨w.heap.size, 1, none⟩ u) 0 3 (.slice aE nE cE) (i64s (ens L))) := by
    intro v2 w2 K2
    have K3 := AppK.trans hFX K1.out K2
    have e : u8s (be 2 n) ++ u8s r = u8s (frame r) := by rw [← HN.out]; simp [u8s, frame]
    rw [e] at K3
    have hl2 := K3.lst
    have e2 : u8s (frs L) ++ u8s (frame r) = u8s (frs (L ++ [r])) := by rw [frs_snoc]; simp [u8s]
    rw [e2] at hl2
    obtain ⟨a2, c2, rfl, _⟩ := hl2.form
    rw [u8s_length] at K3 ⊢
    have hO2 := HO.out.chg K3.chg hne.1
    refine ⟨a2, c2, rfl, Lib.hid K3, by rw [hO2.cell]; rfl, by rw [hO2.cell]; rfl, by rw [hO2.cell]; rfl, hO2.frozen 1, Lib.hid hO2, Lib.hid fun u => ?_⟩
    have hcw : Chg (bl (.slice aF nF cF) ++ [w.heap.size]) w (w2.setCell ⟨w.heap.size, 1, none⟩ u) := ((HCX.out.mono (by simp)).trans (K3.chg.mono (fun x hx => .inl (by simp [hx])))).setCell (by simp) _
    refine HE.out.chg hcw fun g hg hm => ?_
    rcases List.mem_append.1 hm with hm | hm
    · exact HE.out.off HF.out ne_u8_int.symm g hg hm
    · have := (HE.out.lt g hg).2
      simp at hm
      omega
  have HA := Lib.hid hA
  have hlE : (i64s (ens L)).length ≤ 1000000 := by rw [i64s_length, ens_len]; have := frs_ge hok; omega
  have HL2 := Lib.hid (show (frs (L ++ [r])).length = (frs L).length + 2 + n by rw [frs_snoc_len, HN.out])
  obtain ⟨N, HNN⟩ : ∃ N, Hid ((frs (L ++ [r])).length = N) := ⟨_, Lib.hid rfl⟩
  have HLE := Lib.hid hlE
  clear hA hFX hroX hro1 hFlt hne hlE hsz
  have hB4 : ∀ x v4 w4, AppK x w4 3 (.slice aE nE cE) v4 (i64s (ens L)) [.int .i64 (N : Int)] → (∃ a4 n4 c4, v4 = .slice a4 n4 c4) ∧ (∀ b cs, b = w.heap.size ∨ b = w.heap.size + 1 → Own x b 213 cs → Own w4 b 213 cs) := by
    intro x v4 w4 K4
    refine ⟨K4.lst.shape, fun b cs hb ho => ho.chg K4.chg fun hx => ?_⟩
    have := HE.out.bl_lt _ hx
    omega
  have HB4 := Lib.hid hB4
  clear hB4
  go_wp2_with (first
    | (at_builtin; refine wpList_appK rfl _ _ 42 rfl 5 (.int .u8 0) 1 Tryz.underlying42 infoU8 rfl v1 _ (by rfl) K1.out.lst a w1.heap.size n c (u8s r) (by rfl) (by rw [u8s_length, HN.out]) HRO1.out (u8s_one r) (by simp; omega) (by simp; omega) ?_; intro v2 w2 K2; obtain ⟨a2, c2, rfl, K3, o0, o1, o2, f1, HO2, HE2⟩ := HA.out v2 w2 K2.out; clear K2 HA; rw [HNN.out] at K3 ⊢)
    | (at_builtin; refine wpList_appK1 rfl _ _ 46 rfl 3 (.int .i64 0) 8 Tryz.underlying46 infoInt rfl _ rfl (.slice aE nE cE) _ (by rfl) (HE2.out _) _ (by rfl) (by simp) (by have := HLE.out; omega) (by have := HLE.out; omega) ?_; intro v4 w4 K4; obtain ⟨⟨a4, n4, c4, rfl⟩, hk4⟩ := HB4.out _ v4 w4 K4.out; have hO4 := hk4 _ _ (.inl rfl) (HO2.out.set 1 _); have hP4 := hk4 _ _ (.inr rfl) ((HP.out.chg K3.out.chg (fun hx => by have h1 := HF.out.bl_lt _ hx; omega)).far (p := ⟨w.heap.size, 1, none⟩) (by simp) _); have q0 := hO4.cell 0; have q1 := hO4.cell 1; have q2 := hO4.cell 2; have g2 := hO4.frozen 2; have p0 := hP4.cell 0; have p1 := hP4.cell 1; have p2 := hP4.cell 2; have k0 := hP4.frozen 0; have k1 := hP4.frozen 1; have k2 := hP4.frozen 2; simp at q0 q1 q2 p0 p1 p2; clear hk4 hO4 hP4 HB4 o0 o1 o2 f1)
    | fail)
  have HW := Lib.hid (fun W hW => with_fin HF.out HE.out HCX.out HS.out HO.out HP.out K3.out K4.out HNN.out (W := W) hW)
  clear HF HE HCX HS HO HP K3 K4 HE2 HO2 HL2 HLE HRO1 K1 H1
  refine bodyPost_ret (v := cv h (.slice a2 N c2) (.slice a4 n4 c4)) (by simp [results, Tryz.results145, go_sem, q0, q1, q2, g2, p0, p1, p2, k0, k1, k2]) rfl ⟨_, _, rfl, Lib.hid (HW.out _ ?_)⟩
  exact ((((Chg.refl _ w4).setCell (by simp) _).setCell (by simp) _).setCell (by simp) _).setCell (by simp) _

theorem Lst.rowU8 {w : World} {aF : Option Addr} {nF cF : Nat} {bs : List UInt8} (h : Lst w 0 5 (.slice aF nF cF) (u8s bs)) (hp : 0 < bs.length) : ∃ g, aF = some ⟨g, 0, none⟩ ∧ nF = bs.length ∧ bs.length ≤ cF ∧ cF ≤ maxLen ∧ g < w.heap.size ∧ ∀ i, i < bs.length → w.cell? ⟨g, i, none⟩ = some (.int .u8 ((bs.getD i 0).toNat : Nat)) := by
  rcases h.2 with ⟨h0, h1⟩ | ⟨g, cap, cur, h0, hb, hg, hnc, hcm, hcs, htake⟩
  · rw [u8s_length] at h1; omega
  · injection h0 with h1 h2 h3
    subst h1 h2 h3
    rw [u8s_length] at hnc ⊢
    refine ⟨g, rfl, rfl, hnc, hcm, (Array.getElem?_eq_some_iff.1 hg).1, fun i hi => ?_⟩
    rw [cell_of_row w g i cur _ (0, 0) hg]
    have h4 : (u8s bs)[i]? = some (.int .u8 ((bs.getD i 0).toNat : Nat)) := by simp [u8s, List.getD, hi]
    rw [← h4, ← htake, List.getElem?_take, if_pos (by rw [u8s_length]; omega)]
    simp
end Go.Proofs.YtcadnlilijkneaaGreat
namespace Go.Proofs.YtcadnlilijkneaaGreat
open Go.RowKit
set_option linter.unusedVariables false
set_option linter.unusedSimpArgs false

end Go.Proofs.YtcadnlilijkneaaGreat
