/-
  A region that only reads, walked once: whole dice.
-/
import Derived.Test.YtagieilahejobaaRows
import Derived.Test.YtagieilahejobaaArr
import Derived.Test.YtagieilahejobaaDieW
import Derived.Test.YtagieilahejobaaSortW
import Derived.Test.YtagieilahejobaaOpenD
import Derived.WalkKit
import Derived.WalkLawsBesides
import Derived.WalkSpells
import Derived.ProofKit
import Derived.OpenShut
import Derived.Deep.RegionWith
import Derived.Deep.QuietTactic
import Derived.BigQuiet
namespace Go.Proofs.Ytagieilahejobaa
open Go.ChangeShapes Go.WideShapes Go.ChangeAt Go.RowKit
open Go.ChangeMaps (open_string shut_string)

namespace QuietD
open Dice Arr DieW SortW


section
variable {C : World → Prop} {K : Act → Prop} {a : Act} {o : Oper}
theorem size6 : (Try.prog.info? 22).map (·.size) = some 6 := by kernel_rfl
/-- A whole die read, in every world of the class. -/
theorem quiet_ld6 (x : Operand) (ho : o.op = .load 22 x) {b : Nat} {f : Nat → Int} (hx : a.eval x = .pointer (some ⟨b, 0, none⟩)) (hC : ∀ w, C w → At w b 6 f)
    (hk : K (a.put o.dst (dv f))) : o.quiet Try.prog a C K :=
  ⟨dv f, fun w hw => by
    unfold Oper.quietAt execOp
    simp only [ho, hx, Instr.loadAt, Instr.sureAddr, Sem.run_bind, Sem.run_pure, Result.andThen_ok, (hC w hw).loadVar Try.underlying22 size6]
    exact ⟨rfl, rfl⟩, hk⟩
end


end QuietD
end Go.Proofs.Ytagieilahejobaa
