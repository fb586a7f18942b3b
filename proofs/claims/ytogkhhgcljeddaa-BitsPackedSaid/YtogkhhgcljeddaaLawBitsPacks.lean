/-
  The statement BitsPacks: the walk of its Go text, by the contracts of what it calls.
-/
import Derived.Test.YtogkhhgcljeddaaLawBitsTells
namespace Go.Proofs.Ytogkhhgcljeddaa
open Go.RowKit Go.Deep

def PackRes (l : List Int) (vs : List Nat) (p : Bool) (cs : List UInt8) : Prop := (p = true ∧ PackOk l vs ∧ IsPack l vs cs) ∨ (p = false ∧ ¬ PackOk l vs ∧ cs = [])
theorem PackRes.unique {l : List Int} {vs : List Nat} {p q : Bool} {a b : List UInt8} (ha : PackRes l vs p a) (hb : PackRes l vs q b) : p = q ∧ a = b := by
  rcases ha with ⟨rfl, h1, h2⟩ | ⟨rfl, h1, rfl⟩ <;> rcases hb with ⟨rfl, k1, k2⟩ | ⟨rfl, k1, rfl⟩
  · exact ⟨rfl, h2.unique k2⟩
  · exact absurd h1 k1
  · exact absurd k1 h1
  · exact ⟨rfl, rfl⟩
def UnpRes (l : List Int) (bs : List UInt8) (p : Bool) (vs : List Nat) : Prop := (p = true ∧ UnpOk l bs ∧ IsUnp l bs vs) ∨ (p = false ∧ ¬ UnpOk l bs ∧ vs = [])
theorem UnpRes.unique {l : List Int} {bs : List UInt8} {p q : Bool} {a b : List Nat} (ha : UnpRes l bs p a) (hb : UnpRes l bs q b) : p = q ∧ a = b := by
  rcases ha with ⟨rfl, h1, h2⟩ | ⟨rfl, h1, rfl⟩ <;> rcases hb with ⟨rfl, k1, k2⟩ | ⟨rfl, k1, rfl⟩
  · exact ⟨rfl, h2.unique k2⟩
  · exact absurd h1 k1
  · exact absurd k1 h1
  · exact ⟨rfl, rfl⟩

theorem pack_res (l : List Int) (vs : List Nat) (len len2 : Nat) (a a2 : Option Addr) (c c2 B : Nat) (w : World) (hl : l.length = len) (hv : vs.length = len2) (h : Ro w B a (i64s l)) (h2 : Ro w B a2 (u64s vs)) (hB : B ≤ w.heap.size) (h60 : len ≤ 60) :
    Calls Try.prog 20 #[.slice a len c, .slice a2 len2 c2] w fun e w' => ∃ ax cx p cs len3, e = .returned (.tuple #[.slice ax len3 cx, .bool p]) ∧ cs.length = len3 ∧ PackRes l vs p cs ∧ Ro w' w'.heap.size ax (u8s cs) ∧ Below w.heap.size w w' := by
  subst hl; subst hv
  by_cases hok : PackOk l vs
  · refine (pack_yes l vs a a2 c c2 B w h h2 hB (by omega) hok).mono ?_
    rintro e w' ⟨g, cs, rfl, _, hp, hown, hbel⟩
    exact ⟨_, _, true, cs, _, rfl, rfl, .inl ⟨rfl, hok, hp⟩, hown.ro _ hown.lt, hbel⟩
  · refine (pack_no l vs a a2 c c2 B w h h2 (by omega) hok).mono ?_
    rintro e w' ⟨rfl, hbel⟩
    exact ⟨none, 0, false, [], 0, rfl, rfl, .inr ⟨rfl, hok, rfl⟩, .inl rfl, hbel⟩
theorem refPack_res (l : List Int) (vs : List Nat) (len len2 : Nat) (a a2 : Option Addr) (c c2 B : Nat) (w : World) (hl : l.length = len) (hv : vs.length = len2) (h : Ro w B a (i64s l)) (h2 : Ro w B a2 (u64s vs)) (hB : B ≤ w.heap.size) (h60 : len ≤ 60) (h64 : ∀ i, vs.getD i 0 < 18446744073709551616) :
    Calls Try.prog 21 #[.slice a len c, .slice a2 len2 c2] w fun e w' => ∃ ax cx p cs len3, e = .returned (.tuple #[.slice ax len3 cx, .bool p]) ∧ cs.length = len3 ∧ PackRes l vs p cs ∧ Ro w' w'.heap.size ax (u8s cs) ∧ Below w.heap.size w w' := by
  subst hl; subst hv
  by_cases hok : PackOk l vs
  · refine (refPack_yes l vs a a2 c c2 B w h h2 hB (by omega) hok h64).mono ?_
    rintro e w' ⟨x, cs, rfl, hp, hown, hbel⟩
    obtain ⟨ax, cx, hxe, hro, _, _⟩ := hown.form
    exact ⟨ax, cx, true, cs, _, by rw [hxe], by rw [u8s_length], .inl ⟨rfl, hok, hp⟩, hro, hbel⟩
  · refine (refPack_no l vs a a2 c c2 B w h h2 hB (by omega) hok h64).mono ?_
    rintro e w' ⟨rfl, hbel⟩
    exact ⟨none, 0, false, [], 0, rfl, rfl, .inr ⟨rfl, hok, rfl⟩, .inl rfl, hbel⟩
theorem unpack_res (l : List Int) (bs : List UInt8) (len len2 : Nat) (a a2 : Option Addr) (c c2 B : Nat) (w : World) (hl : l.length = len) (hb : bs.length = len2) (h : Ro w B a (i64s l)) (h2 : Ro w B a2 (u8s bs)) (hB : B ≤ w.heap.size) (h60 : len ≤ 60) (h300 : len2 ≤ 1000) :
    Calls Try.prog 22 #[.slice a len c, .slice a2 len2 c2] w fun e w' => ∃ ax cx p vs len3, e = .returned (.tuple #[.slice ax len3 cx, .bool p]) ∧ vs.length = len3 ∧ UnpRes l bs p vs ∧ Ro w' w'.heap.size ax (u64s vs) ∧ Below w.heap.size w w' := by
  subst hl; subst hb
  by_cases hok : UnpOk l bs
  · refine (unpack_yes l bs a a2 c c2 B w h h2 hB (by omega) hok).mono ?_
    rintro e w' ⟨g, vs, rfl, _, hp, hown, hbel⟩
    exact ⟨_, _, true, vs, _, rfl, hp.1, .inl ⟨rfl, hok, hp⟩, hown.ro _ hown.lt, hbel⟩
  · refine (unpack_no l bs a a2 c c2 B w h h2 (by omega) (by omega) hok).mono ?_
    rintro e w' ⟨rfl, hbel⟩
    exact ⟨none, 0, false, [], 0, rfl, rfl, .inr ⟨rfl, hok, rfl⟩, .inl rfl, hbel⟩
theorem refUnpack_res (l : List Int) (bs : List UInt8) (len len2 : Nat) (a a2 : Option Addr) (c c2 B : Nat) (w : World) (hl : l.length = len) (hb : bs.length = len2) (h : Ro w B a (i64s l)) (h2 : Ro w B a2 (u8s bs)) (hB : B ≤ w.heap.size) (h60 : len ≤ 60) (h300 : len2 ≤ 1000) :
    Calls Try.prog 23 #[.slice a len c, .slice a2 len2 c2] w fun e w' => ∃ ax cx p vs len3, e = .returned (.tuple #[.slice ax len3 cx, .bool p]) ∧ vs.length = len3 ∧ UnpRes l bs p vs ∧ Ro w' w'.heap.size ax (u64s vs) ∧ Below w.heap.size w w' := by
  subst hl; subst hb
  refine (refUnpack_any l bs a a2 c c2 B w h h2 hB (by omega) h300).mono ?_
  rintro e w' ⟨⟨hok, x, vs, rfl, hp, hown⟩ | ⟨hok, rfl⟩, hbel⟩
  · obtain ⟨ax, cx, hxe, hro, _, _⟩ := hown.form
    exact ⟨ax, cx, true, vs, _, by rw [hxe], by rw [u64s_length], .inl ⟨rfl, hok, hp⟩, hro, hbel⟩
  · exact ⟨none, 0, false, [], 0, rfl, rfl, .inr ⟨rfl, hok, rfl⟩, .inl rfl, hbel⟩

set_option maxRecDepth 100000 in
set_option maxHeartbeats 2000000 in
theorem bitsPacks_walk (a0 a1 a2 : Option Addr) (len0 len1 len2 c0 c1 c2 : Nat) (l : List Int) (vs : List Nat) (bs : List UInt8) (w : World) (hl0 : l.length = len0) (hl1 : vs.length = len1) (hl2 : bs.length = len2)
    (h0 : Ro w w.heap.size a0 (i64s l)) (h1 : Ro w w.heap.size a1 (u64s vs)) (h2 : Ro w w.heap.size a2 (u8s bs)) (h64 : ∀ i, vs.getD i 0 < 18446744073709551616) (m0 : len0 ≤ 9223372036854775807) (m1 : len1 ≤ 9223372036854775807) (m2 : len2 ≤ 9223372036854775807) :
    Calls Try.prog 4 #[.slice a0 len0 c0, .slice a1 len1 c1, .slice a2 len2 c2] w fun e w' => e = .returned (.bool true) ∧ Below w.heap.size w w' := by
  by_cases g : 60 < len0 ∨ 60 < len1 ∨ 300 < len2
  · by_cases g0 : (60 : Int) < (len0 : Int)
    · go_enter Try.func4, Try.ntmps4
      go_wp2_with fail
      refine (alive_any _).mono ?_
      rintro e w' ⟨rfl, hb⟩
      go_wp2_with fail
      go_ret
      exact ⟨rfl, hb⟩
    by_cases g1 : (60 : Int) < (len1 : Int)
    · go_enter Try.func4, Try.ntmps4
      go_wp2_with fail
      refine (alive_any _).mono ?_
      rintro e w' ⟨rfl, hb⟩
      go_wp2_with fail
      go_ret
      exact ⟨rfl, hb⟩
    have g2 : (300 : Int) < (len2 : Int) := by omega
    go_enter Try.func4, Try.ntmps4
    go_wp2_with fail
    refine (alive_any _).mono ?_
    rintro e w' ⟨rfl, hb⟩
    go_wp2_with fail
    go_ret
    exact ⟨rfl, hb⟩
  have g0 : len0 ≤ 60 := by omega
  have g1 : len1 ≤ 60 := by omega
  have g2 : len2 ≤ 300 := by omega
  have HL0 := Lib.hid hl0
  have HL1 := Lib.hid hl1
  have HL2 := Lib.hid hl2
  have H64 := Lib.hid h64
  clear hl0 hl1 hl2 h64 g
  go_enter Try.func4, Try.ntmps4
  go_wp2_with fail
  refine (pack_res l vs len0 len1 a0 a1 c0 c1 w.heap.size w HL0.out HL1.out h0 h1 (Nat.le_refl _) g0).mono ?_
  rintro e w1 ⟨ax, cx, p, cs, lx, rfl, hlx, hres, hrox, hb1⟩
  have h01 := h0.below hb1 (Nat.le_refl _)
  have h11 := h1.below hb1 (Nat.le_refl _)
  have HLX := Lib.hid hlx
  clear hlx
  go_wp2_with fail
  refine (refPack_res l vs len0 len1 a0 a1 c0 c1 w.heap.size w1 HL0.out HL1.out h01 h11 hb1.size g0 H64.out).mono ?_
  rintro e w2 ⟨ay, cy, q, cs', ly, rfl, hly, hres', hroy, hb2⟩
  obtain ⟨rfl, rfl⟩ := hres.unique hres'
  obtain rfl : lx = ly := HLX.out.symm.trans hly
  have hb02 := hb1.trans (hb2.mono hb1.size)
  have hrox2 := hrox.below hb2 (Nat.le_refl _)
  have HLY := Lib.hid hly
  clear hly hres hres' hrox
  go_wp2_with fail
  refine (unpack_res l bs len0 len2 a0 a2 c0 c2 w.heap.size w2 HL0.out HL2.out (h0.below hb02 (Nat.le_refl _)) (h2.below hb02 (Nat.le_refl _)) hb02.size g0 (by omega)).mono ?_
  rintro e w3 ⟨az, cz, r, us, lz, rfl, hlz, hrez, hroz, hb3⟩
  have hb03 := hb02.trans (hb3.mono hb02.size)
  have hrox3 := hrox2.below hb3 hb2.size
  have hroy3 := hroy.below hb3 (Nat.le_refl _)
  have HLZ := Lib.hid hlz
  clear hlz
  go_wp2_with fail
  refine (refUnpack_res l bs len0 len2 a0 a2 c0 c2 w.heap.size w3 HL0.out HL2.out (h0.below hb03 (Nat.le_refl _)) (h2.below hb03 (Nat.le_refl _)) hb03.size g0 (by omega)).mono ?_
  rintro e w4 ⟨at', ct, s, us', lt, rfl, hlt, hret, hrot, hb4⟩
  obtain ⟨rfl, rfl⟩ := hrez.unique hret
  obtain rfl : lz = lt := HLZ.out.symm.trans hlt
  have hb04 := hb03.trans (hb4.mono hb03.size)
  have hrox4 := hrox3.below hb4 (by have := hb2.size; have := hb3.size; omega)
  have hroy4 := hroy3.below hb4 hb3.size
  have hroz4 := hroz.below hb4 (Nat.le_refl _)
  have hl60 : lz ≤ 60 := by
    rw [← hlt]
    rcases hret with ⟨_, _, hi⟩ | ⟨_, _, hi⟩
    · rw [hi.1, HL0.out]; exact g0
    · rw [hi]; simp
  have HLT := Lib.hid hlt
  clear hlt hret hrez hroz
  go_wp2_with fail
  refine (alive_any _).mono ?_
  rintro e w5 ⟨rfl, hb5⟩
  have hb05 := hb04.trans (hb5.mono hb04.size)
  have hcvx := conv_ro (c := cx) (hrox4.below hb5 (by have := hb2.size; have := hb3.size; have := hb4.size; omega)) HLX.out
  have hcvy := conv_ro (c := cy) (hroy4.below hb5 (by have := hb3.size; have := hb4.size; omega)) HLX.out
  go_wp2_with fail
  refine (same_yes us lz HLT.out az at' cz ct w4.heap.size w5 ((hroz4.mono hb4.size).below hb5 (Nat.le_refl _)) (hrot.below hb5 (Nat.le_refl _)) (by omega)).mono ?_
  rintro e w6 ⟨rfl, hq⟩
  go_wp2_with fail
  go_ret
  exact ⟨rfl, hq.below hb05⟩

theorem bitsPacks_row (w : World) {a0 a1 a2 : Option Addr} {len0 cap0 len1 cap1 len2 cap2 : Nat} {z0 z1 z2 : List Int} (w0 : IsRow .i64 w a0 len0 cap0 z0) (w1 : IsRow .u64 w a1 len1 cap1 z1) (w2 : IsRow .u8 w a2 len2 cap2 z2) :
    Calls Try.prog 4 #[.slice a0 len0 cap0, .slice a1 len1 cap1, .slice a2 len2 cap2] w fun e w' => e = .returned (.bool true) ∧ Below w.heap.size w w' := by
  obtain ⟨l, h0, _, _, hr0, _⟩ := w0.i64s
  obtain ⟨vs, h1, _, _, hr1, h64⟩ := w1.u64s
  obtain ⟨bs, h2, _, _, hr2⟩ := w2.u8s
  exact bitsPacks_walk a0 a1 a2 len0 len1 len2 cap0 cap1 cap2 l vs bs w h0 h1 h2 hr0 hr1 hr2 h64 w0.len_le w1.len_le w2.len_le
end Go.Proofs.Ytogkhhgcljeddaa
