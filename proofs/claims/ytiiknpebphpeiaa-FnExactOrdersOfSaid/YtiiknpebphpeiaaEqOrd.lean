/-
  Two orders compared.
-/
import Derived.Test.YtiiknpebphpeiaaRows
import Derived.Test.YtiiknpebphpeiaaArr
import Derived.Test.YtiiknpebphpeiaaDieW
import Derived.Test.YtiiknpebphpeiaaSortW
import Derived.Test.YtiiknpebphpeiaaDicesW
import Derived.Test.YtiiknpebphpeiaaPoolW
import Derived.Test.YtiiknpebphpeiaaAll6
import Derived.Test.YtiiknpebphpeiaaIntsW
import Derived.Test.YtiiknpebphpeiaaRollN
import Derived.Test.YtiiknpebphpeiaaRollS
import Derived.Test.YtiiknpebphpeiaaFour
import Derived.Test.YtiiknpebphpeiaaOrdM
import Derived.Test.YtiiknpebphpeiaaOrdT
import Derived.Test.YtiiknpebphpeiaaOpenD
import Derived.WalkKit
import Derived.WalkLawsBesides
import Derived.WalkSpells
import Derived.ProofKit
import Derived.OpenShut
import Derived.Deep.RegionWith
import Derived.Deep.QuietTactic
import Derived.BigQuiet
namespace Go.Proofs.Ytiiknpebphpeiaa
open Go.ChangeShapes Go.WideShapes Go.ChangeAt Go.RowKit
open Go.ChangeMaps (open_string shut_string)

namespace EqOrd
open Dice Arr OpenD DieW SortW DicesW PoolW All6 IntsW RollW Four OrdM OrdT


set_option maxHeartbeats 1000000 in
theorem eqOrd_any (f : Nat → Int) (w : World) : Calls Try.prog 22 #[v4 f, v4 f] w fun e w' => e = .returned (.bool true) ∧ Below w.heap.size w w' := by
  have He := Lib.hid (fun w => eqA4_any f w)
  have h1 := (At.new4 w f 26 rfl).past (fourO f 26)
  have h2 := At.new4 (w.alloc (fourO f 26)) f 26 (b := w.heap.size + 1) (by rw [size_alloc])
  have hB := na (na (n0 w) (fourO f 26)) (fourO f 26)
  obtain ⟨c0, c1, c2, c3⟩ := At.four h1
  obtain ⟨d0, d1, d2, d3⟩ := At.four h2
  go_enter Try.func22, Try.ntmps22
  go_wp2_with fail
  refine (He.out _).mono ?_
  rintro e w1 ⟨rfl, hb⟩
  go_wp2_with fail
  go_ret
  exact ⟨rfl, nx hB hb⟩


end EqOrd
end Go.Proofs.Ytiiknpebphpeiaa
