/-
  Contracts of package tape: contentOf. No claim of their own.
-/
import Derived.Test.YtdiemejdbakffaaGreatJ3
namespace Go.Proofs.YtdiemejdbakffaaGreat
open Go.RowKit
set_option linter.unusedVariables false
set_option linter.unusedSimpArgs false

theorem Lst.shape {w : World} {base : Nat} {e : TypeId} {v : Value} {xs : List Value} (h : Lst w base e v xs) : ∃ a n c, v = .slice a n c := by
  obtain ⟨a, c, rfl, _⟩ := h.form
  exact ⟨a, _, c, rfl⟩
theorem step_rec {A : List Rec} {bs rest : List UInt8} (hA : okL A) (h : bs = frs A ++ rest) (hb : begs rest) :
    ∃ r X, okR r ∧ bs = frs (A ++ [r]) ++ X ∧ nb (rest.take 2) = r.length ∧ (frs (A ++ [r])).length = (frs A).length + (2 + r.length) := by
  obtain ⟨r, X, hr, rfl⟩ := hb
  refine ⟨r, X, hr, by rw [h, frs_snoc, List.append_assoc], begs_len hr rfl, by rw [frs_snoc_len]; omega⟩
/-- what contentOf tells -/
def ContT (h : Nat) (v : Value) (bs : List UInt8) (w : World) (e : Ending) (w' : World) : Prop :=
  (∃ L vE, okL L ∧ bs = frs L ∧ e = .returned (.tuple #[cv h v vE, .bool true]) ∧ Lst w' 0 3 vE (i64s (ens L)) ∧ (∀ g ∈ bl vE, w.heap.size ≤ g) ∧ Chg [] w w') ∨
  ((∀ L, okL L → bs ≠ frs L) ∧ e = .returned (.tuple #[cv 0 (.slice none 0 0) (.slice none 0 0), .bool false]) ∧ Chg [] w w')
/-- contentOf under way: A is read, rest lies ahead -/
structure CoAt (w wr : World) (h : Nat) (v vE : Value) (bs : List UInt8) (A : List Rec) (rest : List UInt8) : Prop where
  ok : okL A
  eq : bs = frs A ++ rest
  own : Own wr (w.heap.size + 1) 68 [.int .i64 (h : Int), v, vE]
  res : Own wr w.heap.size 68 [.int .i64 0, .slice none 0 0, .slice none 0 0]
  lst : Lst wr 0 3 vE (i64s (ens A))
  low : ∀ g ∈ bl vE, w.heap.size + 2 ≤ g
  chg : Chg [] w wr
theorem Own.chg {l : List Nat} {a w : World} {g : Nat} {t : TypeId} {cs : List Value} (ho : Own a g t cs) (h : Chg l a w) (hg : g ∉ l) : Own w g t cs := (h.block g ho.lt hg).trans ho
theorem CoAt.start (w : World) (h : Nat) (v : Value) (bs : List UInt8) : CoAt w ((w.alloc (.cells #[.int .i64 0, .slice none 0 0, .slice none 0 0] 68)).alloc (.cells #[.int .i64 (h : Int), v, .slice none 0 0] 68)) h v (.slice none 0 0) bs [] bs := by
  have h1 := Own.new (w.alloc (.cells #[.int .i64 0, .slice none 0 0, .slice none 0 0] 68)) 68 [.int .i64 (h : Int), v, .slice none 0 0]
  rw [World.size_alloc] at h1
  exact ⟨okL_nil, rfl, h1, (Own.new w 68 [.int .i64 0, .slice none 0 0, .slice none 0 0]).alloc _, Lst.nil _ _ _, by intro g hg; simp [mem_bl, Value.ownBlock] at hg, ((Chg.refl [] w).alloc _).alloc _⟩
theorem CoAt.qt {w wr wr' : World} {h : Nat} {v vE : Value} {bs : List UInt8} {A : List Rec} {rest : List UInt8} (k : CoAt w wr h v vE bs A rest) (q : Qt wr wr') : CoAt w wr' h v vE bs A rest :=
  ⟨k.ok, k.eq, k.own.qt q, k.res.qt q, k.lst.qt q, k.low, k.chg.qt q⟩
theorem contentOf_any (w : World) (h : Nat) (a : Option Addr) (bs : List UInt8) (c B : Nat) (hro : Ro w B a (u8s bs)) (hB : B ≤ w.heap.size) (hh : h ≤ 1) (hc : bs.length ≤ c) (h63 : c ≤ 9223372036854775807) (hl : bs.length ≤ 1000000) :
    Calls Tryz.prog 30 #[.int .i64 (h : Int), .slice a bs.length c] w (ContT h (.slice a bs.length c) bs w) := by
  obtain ⟨n, HN⟩ : ∃ n, Hid (bs.length = n) := ⟨_, Lib.hid rfl⟩
  rw [HN.out] at hc hl ⊢
  have HRO := Lib.hid (hro.mono hB)
  clear hro hB
  go_enter Tryz.func30, Tryz.ntmps30
  go_wp2_with fail
  go_loopw [7] (fun at_ wr => ∃ A rest vE, at_ = .int .i64 (((frs A).length : Nat) : Int) ∧ Hid (CoAt w wr h (.slice a n c) vE bs A rest)) (fun at_ _ => n - (intOf at_).toNat)
  case atStart => exact ⟨[], bs, _, rfl, Lib.hid (CoAt.start w h _ bs)⟩
  case round =>
    obtain ⟨A, rest, vE, rfl, HR⟩ := hrel
    have hlen : (frs A).length + rest.length = n := by rw [← HN.out, HR.out.eq, List.length_append]
    have hdrop : bs.drop (frs A).length = rest := by rw [HR.out.eq]; exact List.drop_left
    obtain ⟨k, HK⟩ : ∃ k, Hid ((frs A).length = k) := ⟨_, Lib.hid rfl⟩
    rw [HK.out] at hlen hdrop ⊢
    by_cases hlt : k < n
    · have hd : decide (k < n) = true := by simpa using hlt
      have hkc : (c = k) = False := by simp; omega
      have hk1 : (k : Int) < (n : Int) := by omega
      have hkc2 : (k : Int) ≤ (c : Int) := by omega
      have hnc : (n : Int) ≤ (c : Int) := by omega
      have hro2 := HRO.out.below HR.out.chg.low (Nat.le_refl _)
      have hro3 := hro2.drop k c (by rw [u8s_length, HN.out]; exact hc)
      rw [if_neg (by omega), show (u8s bs).drop k = u8s rest by rw [← hdrop]; simp [u8s, List.map_drop]] at hro3
      have hF := firstRecord_any wr _ rest (c - k) w.heap.size hro3 (by omega) (by omega)
      rw [show rest.length = n - k by omega] at hF
      have HF := Lib.hid hF
      have HH := Lib.hid (And.intro hlen hdrop)
      clear hlen hdrop hro2 hro3 hF
      go_wp2_with fail
      refine HF.out.mono ?_
      rintro e w2 ⟨a2, n2, c2, t, rfl, Ht, Hn, hq⟩
      have HR2 := Lib.hid (HR.out.qt hq)
      have o0 := HR2.out.own.cell 0
      have o1 := HR2.out.own.cell 1
      have o2 := HR2.out.own.cell 2
      have p0 := HR2.out.res.cell 0
      have p1 := HR2.out.res.cell 1
      have p2 := HR2.out.res.cell 2
      have f0 := HR2.out.own.frozen 0
      have f1 := HR2.out.own.frozen 1
      have f2 := HR2.out.own.frozen 2
      have g0 := HR2.out.res.frozen 0
      have g1 := HR2.out.res.frozen 1
      have g2 := HR2.out.res.frozen 2
      simp at o0 o1 o2 p0 p1 p2
      have HQ := Lib.hid hq
      clear hq HF
      cases t with
      | false =>
        clear o0 o1 o2 f0 f1 f2
        have HB := Lib.hid (show ¬ begs rest by have := Ht.out; simpa using this.symm)
        go_wp2_with fail
        refine bodyPost_ret (v := .tuple #[cv 0 (.slice none 0 0) (.slice none 0 0), .bool false]) (by simp [results, Tryz.results30, go_sem, p0, p1, p2, g0, g1, g2]) rfl (.inr ⟨?_, rfl, ?_⟩)
        · intro L hL hbs
          have hne : rest ≠ [] := by rintro rfl; have := HH.out.1; simp at this; omega
          exact HB.out (frs_begs HR.out.ok hL (HR.out.eq.symm.trans hbs) hne)
        · exact ((HR2.out.chg.setCell (p := ⟨w.heap.size, 0, none⟩) (Or.inr (Nat.le_refl _)) _).setCell (p := ⟨w.heap.size, 1, none⟩) (Or.inr (Nat.le_refl _)) _).setCell (p := ⟨w.heap.size, 2, none⟩) (Or.inr (Nat.le_refl _)) _
      | true =>
        clear p0 p1 p2 g0 g1 g2
        obtain ⟨r, X, hr, hbs, hnb, hlr⟩ := step_rec HR.out.ok HR.out.eq (show begs rest by have := Ht.out; simpa using this.symm)
        have hn2 : n2 = r.length := (Hn.out rfl).trans hnb
        have hle := congrArg List.length hbs
        rw [List.length_append, HN.out, hlr, HK.out] at hle
        rw [hn2]
        have hr63 : r.length ≤ 300 := hr.2
        have HFS := Lib.hid (frameSize_any w2 a2 r.length c2 (by omega))
        have HS := Lib.hid (And.intro hr (And.intro hbs hlr))
        have hle2 : k + (2 + r.length) ≤ n := by omega
        clear hn2 hnb hbs hlr hr hle Hn Ht
        obtain ⟨m, HM⟩ : ∃ m, Hid (r.length = m) := ⟨_, Lib.hid rfl⟩
        rw [HM.out] at hr63 HFS hle2 ⊢
        obtain ⟨s, HSS⟩ : ∃ s, Hid (2 + m = s) := ⟨_, Lib.hid rfl⟩
        rw [HSS.out] at HFS hle2
        have hs0 : (0 : Int) ≤ (s : Int) := by omega
        have hks : (k : Int) + (s : Int) ≤ (n : Int) := by omega
        have HLE := Lib.hid (show (i64s (ens A)).length ≤ 1000000 by
          rw [i64s_length, ens_len]
          have := frs_ge HR.out.ok
          have := HK.out
          omega)
        have hX : ∀ v4 w4, AppK w2 w4 3 vE v4 (i64s (ens A)) [.int .i64 ((k : Int) + (s : Int))] → Hid (CoAt w (w4.setCell ⟨w.heap.size + 1, 2, none⟩ v4) h (.slice a n c) v4 bs (A ++ [r]) X) ∧ w4.cell? ⟨w.heap.size + 1, 2, none⟩ = some vE ∧ w4.frozen? ⟨w.heap.size + 1, 2, none⟩ = false := by
          intro v4 w4 H4
          have hlow := HR2.out.low
          have hne : ∀ x ∈ bl vE, x ≠ w.heap.size + 1 ∧ x ≠ w.heap.size := fun x hx => by have := hlow x hx; omega
          have hO := HR2.out.own.chg H4.chg (fun hx => (hne _ hx).1 rfl)
          have hRs := HR2.out.res.chg H4.chg (fun hx => (hne _ hx).2 rfl)
          have hsz := HR2.out.chg.size
          have hlt1 := HR2.out.own.lt
          have hl4 : ∀ g ∈ bl v4, w.heap.size + 2 ≤ g := fun g hg => by
            rcases H4.bl g hg with h1 | h1
            · exact hlow g h1
            · omega
          have hc4 : Chg [] w w4 := HR2.out.chg.then H4.chg (fun x hx => .inr (by have := hlow x hx; omega))
          refine ⟨Lib.hid ⟨HR.out.ok.snoc HS.out.1, HS.out.2.1, hO.set 2 v4, hRs.far (by simp) _, ?_, hl4, hc4.setCell (Or.inr (by simp)) _⟩, by rw [hO.cell]; rfl, hO.frozen 2⟩
          have hl := H4.lst
          have e : i64s (ens (A ++ [r])) = i64s (ens A) ++ [.int .i64 ((k : Int) + (s : Int))] := by
            have h1 := HS.out.2.2
            have h2 := HK.out
            have h3 := HSS.out
            have h4 := HM.out
            rw [ens_snoc, h1]
            simp only [i64s, List.map_append, List.map_cons, List.map_nil]
            congr 3
            omega
          rw [e]
          exact hl.chg (l := [w.heap.size + 1]) ((Chg.refl _ _).setCell (by simp) _) (fun g hg hm => by
            have := hl4 g (mem_bl.2 hg)
            simp at hm
            omega)
        have HX := Lib.hid hX
        clear hX o0 o1 f0 f1 f2
        go_wp2_with fail
        refine HFS.out.mono ?_
        rintro e w3 ⟨rfl, rfl⟩
        go_wp2_with (first
          | (at_builtin; refine wpList_appK1 rfl _ _ 66 rfl 3 (.int .i64 0) 8 Tryz.underlying66 infoInt rfl _ rfl vE _ (by rfl) HR2.out.lst _ (by rfl) (by simp) (by have := HLE.out; omega) (by have := HLE.out; omega) ?_; intro v4 w4 H4; obtain ⟨H5, c5, f5⟩ := HX.out v4 w4 H4.out; obtain ⟨a4, n4, c4, rfl⟩ := H4.out.lst.shape; clear H4 HX)
          | fail)
        go_roundw
        case rel => exact ⟨A ++ [r], X, _, by have h1 := HS.out.2.2; have h2 := HK.out; have h3 := HSS.out; have h4 := HM.out; congr 1; omega, H5⟩
        case measure => have := HSS.out; simp [intOf]; omega
    · obtain ⟨aE, nE, cE, rfl⟩ := HR.out.lst.shape
      have hkn : k = n := by omega
      have hrest : rest = [] := List.eq_nil_of_length_eq_zero (by omega)
      have HE := Lib.hid (show bs = frs A by rw [HR.out.eq, hrest, List.append_nil])
      have o0 := HR.out.own.cell 0
      have o1 := HR.out.own.cell 1
      have o2 := HR.out.own.cell 2
      have p0 := HR.out.res.cell 0
      have p1 := HR.out.res.cell 1
      have p2 := HR.out.res.cell 2
      have g0 := HR.out.res.frozen 0
      have g1 := HR.out.res.frozen 1
      have g2 := HR.out.res.frozen 2
      simp at o0 o1 o2 p0 p1 p2
      have hd : decide (k < n) = false := by simpa using hlt
      clear hlen hdrop hrest hkn
      go_wp2_with fail
      refine bodyPost_ret (v := .tuple #[cv h (.slice a n c) (.slice aE nE cE), .bool true]) (by simp [results, Tryz.results30, go_sem, p0, p1, p2, g0, g1, g2, o0, o1, o2]) rfl (.inl ⟨A, _, HR.out.ok, HE.out, rfl, ?_, ?_, ?_⟩)
      · exact HR.out.lst.chg (l := [w.heap.size]) ((((Chg.refl _ _).setCell (by simp) _).setCell (by simp) _).setCell (by simp) _) (fun g hg hm => by
          have := HR.out.low g (mem_bl.2 hg)
          simp at hm
          omega)
      · exact fun g hg => Nat.le_trans (by omega) (HR.out.low g hg)
      · exact ((HR.out.chg.setCell (p := ⟨w.heap.size, 0, none⟩) (Or.inr (Nat.le_refl _)) _).setCell (p := ⟨w.heap.size, 1, none⟩) (Or.inr (Nat.le_refl _)) _).setCell (p := ⟨w.heap.size, 2, none⟩) (Or.inr (Nat.le_refl _)) _
end Go.Proofs.YtdiemejdbakffaaGreat
