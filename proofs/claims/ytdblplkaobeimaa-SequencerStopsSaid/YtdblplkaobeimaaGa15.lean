/-
  What the laws of package sequencer ask: a Begin of a new sequencer, messages of another epoch. No claim of its own.
-/
import Derived.Test.YtdblplkaobeimaaGa12
import Derived.Test.YtdblplkaobeimaaGa6
namespace Go.Proofs.Ytdblplkaobeimaa
open Go.RowKit Go.Deep Go.Shelf
set_option linter.unusedVariables false
set_option linter.unusedSimpArgs false

theorem Epoch_same (S : SqS) (p : Nat) (w : World) (ho : Sqn w p S) :
    Calls Try.prog 10 #[.pointer (some ⟨p, 0, none⟩)] w fun e w' => e = .returned (.int .u64 (S.e : Int)) ∧ w' = w := by
  have s0 := ho.c1
  have hp := ho.lt
  clear ho
  go_enter Try.func10, Try.ntmps10
  go_wp2_with fail
  go_ret
  exact ⟨rfl, rfl⟩
theorem Tail_same (S : SqS) (p : Nat) (w : World) (ho : Sqn w p S) :
    Calls Try.prog 12 #[.pointer (some ⟨p, 0, none⟩)] w fun e w' => e = .returned (.int .u64 (S.t : Int)) ∧ w' = w := by
  have s0 := ho.c2
  have hp := ho.lt
  clear ho
  go_enter Try.func12, Try.ntmps12
  go_wp2_with fail
  go_ret
  exact ⟨rfl, rfl⟩
/-- a message is loaded whole at an operation whose guard is met -/
theorem wpList_loadMgQ {ops : Array Oper} {rest : List Oper} {o : Oper} {a : Act} {w : World} {Q : Exit → Act → World → Prop} (x : Operand) (ho : o.op = .load 40 x) (b : Nat) (hx : a.eval x = .pointer (some ⟨b, 0, none⟩)) (A : MgT) (hr : Own w b 40 A.cs) (hw : Region.wanted o (yielded ops a.tmps) = true)
    (h : wpList Try.prog ops Q rest (a.put o.dst (.agg A.cs.toArray)) w) : wpList Try.prog ops Q (o :: rest) a w :=
  wpList_step fun K hK => by
    rw [if_pos hw]
    exact wp_load_mid _ x ho b 0 hx A.cs _ hr.range Try.underlying40 rfl infoMg (hK _ _ h)
/-- a Token, or a Tail, of an epoch -/
def tkM (k : Int) (fr : Int × Int) (n : Int) (ep : Nat) (a : Option Addr) (st : List Int) (c : Nat) : MgT := ⟨k, fr, (2, n), 0, 0, ep, 0, 0, noC, none, 0, none, 0, st, a, c, [], none, 0, (0, 0), (0, 0), ⟨0, none, 0, [], 0⟩⟩
theorem tkM_right {k : Int} {fr : Int × Int} {n : Int} {ep : Nat} {a : Option Addr} {st : List Int} {c : Nat} (hk : k = 9 ∨ k = 7) (hf : plOk fr = true) (hn : 0 ≤ n ∧ n < 32) (he : ep ≤ 1048576) : mright (tkM k fr n ep a st c).x = stOk st := by
  have k1 : kindsOk k 0 = true := by rcases hk with rfl | rfl <;> rfl
  have k2 : plOk (2, n) = true := blw_iff.2 hn
  have r1 : (mbOk [] && (mcOk noC && mlOk (LyT.x ⟨0, none, 0, [], 0⟩))) = true := by kernel_rfl
  have r2 : blw 0 1048576 = true := rfl
  have r3 : blw 0 256 = true := rfl
  have r4 : baOk (0, 0) = true := rfl
  show (kindsOk k 0 && (plOk fr && (plOk (2, n) && (blw 0 1048576 && (decide (ep ≤ 1048576) && (decide (0 ≤ 1048576) && (blw 0 256 && (baOk (0, 0) && (baOk (0, 0) && (stOk st && (mbOk [] && (mcOk noC && mlOk (LyT.x ⟨0, none, 0, [], 0⟩))))))))))))) = stOk st
  rw [k1, hf, k2, r2, r3, r4, r1, decide_eq_true he]
  simp
theorem tkM_in {w : World} {B : Nat} {k : Int} {fr : Int × Int} {n : Int} {ep : Nat} {a : Option Addr} {st : List Int} {c : Nat} (h : Ro w B a (i64s st)) : MgIn w B (tkM k fr n ep a st c) := ⟨Ro.nil _ _ _, Ro.nil _ _ _, h, Ro.nil _ _ _, noly_in _ _⟩
theorem tkM_fit {k : Int} {fr : Int × Int} {n : Int} {ep : Nat} {a : Option Addr} {st : List Int} {c : Nat} (h : st.length ≤ 9223372036854775807) : MgFit (tkM k fr n ep a st c) := ⟨by simp [tkM, noC], by simp [tkM, noC], h, by simp [tkM], noly_fit, (fun b hb => by cases hb), (fun b hb => by cases hb)⟩
/-- the message, sent to sequencer 0 -/
def toQ (A : MgT) : MgT := { A with «to» := (2, 0) }
theorem toQ_right {A : MgT} (h : mright A.x = true) : mright (toQ A).x = true := by
  have hm := h
  unfold mright at hm ⊢
  simp only [Bool.and_eq_true] at hm ⊢
  obtain ⟨g1, g2, g3, g4⟩ := hm
  exact ⟨g1, g2, (show plOk (2, 0) = true by decide), g4⟩
/-- the answers to what is of another epoch -/
theorem Serve_late (S : SqS) (hSL : S.L.length = 16) (hST : S.t ≤ 1048576) (hn : 0 ≤ S.n ∧ S.n < 32) (p : Nat) (k : Int) (hk : k = 9 ∨ k = 7) (fr : Int × Int) (hf : plOk fr = true) (ep : Nat) (he : ep ≤ 1048576) (hne : ep ≠ S.e) (w : World) (ho : Sqn w p S) :
    Calls Try.prog 9 #[.pointer (some ⟨p, 0, none⟩), .agg (tkM k fr S.n ep none [] 0).cs.toArray] w fun e w' => e = .returned (.tuple #[.agg (refT S (tkM k fr S.n ep none [] 0)).cs.toArray, .bool true]) ∧ Sqn w' p S ∧ Chg [p] w w' := by
  refine (Serve_any S hSL hST p (tkM k fr S.n ep none [] 0) w ho (tkM_in (Ro.nil _ _ _)) (tkM_fit (by simp)) (.inl rfl)).mono ?_
  have hr : mright (tkM k fr S.n ep none [] 0).x = true := (tkM_right hk hf hn he).trans rfl
  have hB : svB S (tkM k fr S.n ep none [] 0) = true := by
    unfold svB
    rw [hr, decide_eq_true (show (tkM k fr S.n ep none [] 0).to.1 = 2 ∧ (tkM k fr S.n ep none [] 0).to.2 = S.n from ⟨rfl, rfl⟩), decide_eq_true (show (tkM k fr S.n ep none [] 0).k = 10 ∨ (tkM k fr S.n ep none [] 0).k = 7 ∨ (tkM k fr S.n ep none [] 0).k = 9 from by rcases hk with rfl | rfl; exact .inr (.inr rfl); exact .inr (.inl rfl))]
    rfl
  have hN : S.now (tkM k fr S.n ep none [] 0).ep = false := by
    show (decide (ep = S.e) && decide (ep ≠ 0)) = false
    rw [decide_eq_false hne]; rfl
  have h10 : (tkM k fr S.n ep none [] 0).k ≠ 10 := by
    rcases hk with rfl | rfl
    · show (9 : Int) ≠ 10; decide
    · show (7 : Int) ≠ 10; decide
  rintro e w' ⟨a1, c1, a2, c2, rfl, h1, -, h2⟩
  refine ⟨?_, ?_, h2⟩
  · unfold svT
    rw [hB, if_pos rfl, if_neg h10, hN]
    rcases hk with rfl | rfl
    · rw [if_neg (show (tkM 9 fr S.n ep none [] 0).k ≠ 7 by show (9 : Int) ≠ 7; decide)]; rfl
    · rw [if_pos (show (tkM 7 fr S.n ep none [] 0).k = 7 from rfl)]
      unfold endT
      rw [hN]; rfl
  · unfold svS at h1
    rw [hB, if_pos rfl, if_neg h10, hN] at h1
    simpa using h1
/-- the state behind a first Begin -/
def fstS (A : MgT) : SqS := ⟨0, A.ep, A.ad, lastsM A.bk 16⟩
/-- a first Begin -/
theorem Serve_first (p : Nat) (A : MgT) (w : World) (ho : Sqn w p (newS 0)) (hr : mright A.x = true) (hk : A.k = 10) (he : A.ep ≠ 0) (hin : MgIn w w.heap.size A) (hf : MgFit A) (hx : RoX w [p] A.sa (i64s A.st)) :
    Calls Try.prog 9 #[.pointer (some ⟨p, 0, none⟩), .agg (toQ A).cs.toArray] w fun e w' => e = .returned (.tuple #[.agg (ansT (toQ A) (if before ⟨0, [], A.bk⟩ A.ad then 0 else 151)).cs.toArray, .bool true]) ∧ Sqn w' p (if before ⟨0, [], A.bk⟩ A.ad then fstS A else newS 0) ∧ Chg [p] w w' := by
  have hin' : MgIn w w.heap.size (toQ A) := ⟨hin.d, hin.b, hin.st, hin.bk, hin.ly⟩
  have hf' : MgFit (toQ A) := ⟨hf.d, hf.b, hf.st, hf.bk, hf.ly, hf.fb, hf.fk⟩
  refine (Serve_any (newS 0) (by simp [newS]) (by simp [newS]) p (toQ A) w ho hin' hf' hx).mono ?_
  have hB : svB (newS 0) (toQ A) = true := by
    unfold svB
    rw [toQ_right hr, decide_eq_true (show (toQ A).to.1 = 2 ∧ (toQ A).to.2 = (newS 0).n from ⟨rfl, rfl⟩), decide_eq_true (show (toQ A).k = 10 ∨ (toQ A).k = 7 ∨ (toQ A).k = 9 from .inl hk)]
    rfl
  have h10 : (toQ A).k = 10 := hk
  have hep : ¬ (toQ A).ep ≤ (newS 0).e := by show ¬ A.ep ≤ 0; omega
  rintro e w' ⟨a1, c1, a2, c2, rfl, h1, -, h2⟩
  refine ⟨?_, ?_, h2⟩
  · unfold svT begT
    rw [hB, if_pos rfl, if_pos h10, if_neg hep]
    show _ = Ending.returned (.tuple #[.agg (ansT (toQ A) (if before ⟨0, [], (toQ A).bk⟩ (toQ A).ad then 0 else 151)).cs.toArray, .bool true])
    split <;> rfl
  · unfold svS begS at h1
    rw [hB, if_pos rfl, if_pos h10, if_neg hep] at h1
    exact h1
/-- the same Begin again -/
theorem Serve_again (p : Nat) (A : MgT) (w : World) (ho : Sqn w p (fstS A)) (hr : mright A.x = true) (hk : A.k = 10) (hin : MgIn w w.heap.size A) (hf : MgFit A) (hx : RoX w [p] A.sa (i64s A.st)) :
    Calls Try.prog 9 #[.pointer (some ⟨p, 0, none⟩), .agg (toQ A).cs.toArray] w fun e w' => e = .returned (.tuple #[.agg (refT (fstS A) (toQ A)).cs.toArray, .bool true]) ∧ Sqn w' p (fstS A) ∧ Chg [p] w w' := by
  have hin' : MgIn w w.heap.size (toQ A) := ⟨hin.d, hin.b, hin.st, hin.bk, hin.ly⟩
  have hf' : MgFit (toQ A) := ⟨hf.d, hf.b, hf.st, hf.bk, hf.ly, hf.fb, hf.fk⟩
  have had : A.ad ≤ 1048576 := (mright_all hr).ad
  refine (Serve_any (fstS A) (by simp [fstS]) had p (toQ A) w ho hin' hf' hx).mono ?_
  have hB : svB (fstS A) (toQ A) = true := by
    unfold svB
    rw [toQ_right hr, decide_eq_true (show (toQ A).to.1 = 2 ∧ (toQ A).to.2 = (fstS A).n from ⟨rfl, rfl⟩), decide_eq_true (show (toQ A).k = 10 ∨ (toQ A).k = 7 ∨ (toQ A).k = 9 from .inl hk)]
    rfl
  have h10 : (toQ A).k = 10 := hk
  have hep : (toQ A).ep ≤ (fstS A).e := Nat.le_refl A.ep
  rintro e w' ⟨a1, c1, a2, c2, rfl, h1, -, h2⟩
  refine ⟨?_, ?_, h2⟩
  · unfold svT begT
    rw [hB, if_pos rfl, if_pos h10, if_pos hep]
  · unfold svS begS at h1
    rw [hB, if_pos rfl, if_pos h10, if_pos hep] at h1
    exact h1
end Go.Proofs.Ytdblplkaobeimaa
