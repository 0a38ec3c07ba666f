/- PackHalves -/
import Derived.Test.YtjcommodiihcdaaDoorPackPage
/- pack.Halves. -/
namespace Go.Proofs.YtjcommodiihcdaaDoor
open Go.RowKit
set_option linter.unusedVariables false
set_option linter.unusedSimpArgs false
attribute [local go_sem high] sliced_cut
attribute [local go_sem] cutA_zero Nat.sub_zero
theorem half_row (old now : List (BitVec 8)) (h1 : old.length = 256) (h2 : now.length = 256) :
    ((pageA old).toList.take 0 ++ ((now.take 128).map byteV ++ (pageA old).toList.drop (0 + ((now.take 128).map byteV).length))).toArray = pageA (PackM.halves old now) := by
  have e : ((now.take 128).map byteV).length = 128 := by rw [List.length_map, List.length_take]; omega
  rw [e, List.take_zero, List.nil_append, Nat.zero_add]
  unfold pageA PackM.halves
  rw [List.map_append, List.map_drop]
end Go.Proofs.YtjcommodiihcdaaDoor
