/-
  Unpack of package bits by its contracts.
-/
import Derived.Test.YtdpaofedepnnbaaBitsC
import Derived.Test.YtdpaofedepnnbaaUnpMath
namespace Go.Proofs.Ytdpaofedepnnbaa
set_option linter.unusedVariables false
set_option linter.unusedSimpArgs false
open Go.RowKit Go.Deep

theorem Try.info_u64 : (Try.prog.info? 22).map (fun i => (i.zero, i.size, i.bytes)) = some (some (.int .u64 0), 1, 8) := by kernel_rfl
theorem made_u64s (n : Nat) : madeCells #[.int .u64 0] n = (u64s (List.replicate n 0)).toArray := by
  apply Array.ext
  · simp [size_madeCells, u64s]
  · intro i h1 h2
    simp [madeCells, u64s, Nat.mod_one]
theorem own_made64 (w : World) (n : Nat) : Own (w.alloc (.cells (madeCells #[.int .u64 0] n) 22)) w.heap.size 22 (u64s (List.replicate n 0)) := by
  rw [made_u64s]
  exact Own.new w 22 _

theorem load_len (bs : List UInt8) (len : Nat) (a : Option Addr) (c B : Nat) (k n : Int) (w : World) (hlen : bs.length = len) (h : Ro w B a (u8s bs)) (hk0 : 0 ≤ k) (hn0 : 0 ≤ n) (hn : n ≤ 64) (hk : k + n ≤ 8 * len) (hl : len ≤ 1000000) :
    Calls Try.prog 149 #[.slice a len c, .int .i64 k, .int .i64 n] w fun e w' => e = .returned (.int .u64 (num bs k.toNat n.toNat : Nat)) ∧ w = w' := by
  subst hlen
  obtain ⟨k, rfl⟩ := Int.eq_ofNat_of_zero_le hk0
  obtain ⟨n, rfl⟩ := Int.eq_ofNat_of_zero_le hn0
  exact load_any bs a c B k n w h (by omega) (by omega) hl

end Go.Proofs.Ytdpaofedepnnbaa
