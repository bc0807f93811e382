/-
  Three closed facts of the whole program.
-/
import Derived.Test.YtiiknpebphpeiaaRows
import Derived.JoinedOf
import Derived.KernelRfl
import Derived.WalkKit
import Derived.WalkLawsBesides
import Derived.WalkSpells
import Derived.ProofKit
import Derived.OpenShut
import Derived.Deep.RegionWith
import Derived.Deep.QuietTactic
import Derived.BigQuiet
namespace Go.Proofs.Ytiiknpebphpeiaa
open Go.ChangeShapes Go.WideShapes Go.ChangeAt Go.RowKit
open Go.ChangeMaps (open_string shut_string)

namespace FactP


theorem enters : Try.prog.mayEnter = true := by kernel_rfl
theorem lifts : (false == Try.prog.liftsFinal) = true := by kernel_rfl
theorem makes : (Try.prog.make == some Rows.fnExactOrderOfRow.make) = true := by kernel_rfl


end FactP
end Go.Proofs.Ytiiknpebphpeiaa
