/-
  Unpack of package bits by its contracts.
-/
import Derived.Test.YtcadnlilijkneaaGreatGb10
import Derived.Test.YtcadnlilijkneaaGreatGb11
namespace Go.Proofs.YtcadnlilijkneaaGreat
open Go.RowKit Go.Deep
set_option linter.unusedVariables false
set_option linter.unusedSimpArgs false

theorem Tryz.info_u64 : (Tryz.prog.info? 23).map (fun i => (i.zero, i.size, i.bytes)) = some (some (.int .u64 0), 1, 8) := by kernel_rfl
end Go.Proofs.YtcadnlilijkneaaGreat
