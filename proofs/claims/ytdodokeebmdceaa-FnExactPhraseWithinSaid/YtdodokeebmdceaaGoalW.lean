/-
  Goals, both sides.
-/
import Derived.Test.YtdodokeebmdceaaRows
import Derived.Test.YtdodokeebmdceaaArr
import Derived.Test.YtdodokeebmdceaaDieW
import Derived.Test.YtdodokeebmdceaaFracW
import Derived.Test.YtdodokeebmdceaaOpenD
import Derived.WalkKit
import Derived.WalkLawsBesides
import Derived.WalkSpells
import Derived.ProofKit
import Derived.OpenShut
import Derived.Deep.RegionWith
import Derived.Deep.QuietTactic
import Derived.BigQuiet
namespace Go.Proofs.Ytdodokeebmdceaa
open Go.ChangeShapes Go.WideShapes Go.ChangeAt Go.RowKit
open Go.ChangeMaps (open_string shut_string)

namespace GoalW
open Dice Arr FracW DieW


theorem At.newG (x y : Int) (w : World) (t : TypeId) : At (w.alloc (.cells #[.int .i64 x, .int .i64 y] t)) w.heap.size 2 (fr x y) :=
  At.new w _ t 2 _ fun k hk => by
    obtain rfl | rfl : k = 0 ∨ k = 1 := by omega
    all_goals rfl
theorem At.newGb (w : World) (x y : Int) (t : TypeId) {p : Nat} (hp : p = w.heap.size) : At (w.alloc (.cells #[.int .i64 x, .int .i64 y] t)) p 2 (fr x y) := by
  subst hp
  exact At.newG x y w t


end GoalW
end Go.Proofs.Ytdodokeebmdceaa
