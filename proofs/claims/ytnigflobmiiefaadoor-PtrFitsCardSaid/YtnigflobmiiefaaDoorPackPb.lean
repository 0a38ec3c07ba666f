/- PackPb -/
import Derived.Test.YtnigflobmiiefaaDoorPackSmall
import Derived.Laws.CopyOwn
import Derived.ProofKit
import Derived.OpenShut
/- pack.PutBytes, Clean, Fill, Halves. -/
namespace Go.Proofs.YtnigflobmiiefaaDoor
open Go.RowKit
set_option linter.unusedVariables false
set_option linter.unusedSimpArgs false
attribute [local go_sem high] sliced_cut
attribute [local go_sem] cutA_zero Nat.sub_zero
theorem ofNat_byte (n : Nat) (h : n < 256) : byteV (BitVec.ofNat 8 n) = .int .u8 n := by unfold byteV; rw [bI_ofNat n h]
end Go.Proofs.YtnigflobmiiefaaDoor
