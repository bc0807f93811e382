/-
  A fraction cut, as a value and in memory.
-/
import Derived.Test.YtlpjmfmalejlpaaRows
import Derived.Test.YtlpjmfmalejlpaaFracW
import Derived.Test.YtlpjmfmalejlpaaOpenD
import Derived.WalkKit
import Derived.WalkLawsBesides
import Derived.WalkSpells
import Derived.ProofKit
import Derived.OpenShut
import Derived.Deep.RegionWith
import Derived.Deep.QuietTactic
import Derived.BigQuiet
namespace Go.Proofs.Ytlpjmfmalejlpaa
open Go.ChangeShapes Go.WideShapes Go.ChangeAt Go.RowKit
open Go.ChangeMaps (open_string shut_string)

namespace CutW
open Dice Arr FracW

theorem fin2' {w : World} {b : Nat} {f : Nat → Int} (h : At w b 2 f) (x y : Int) : At ((w.setCell ⟨b, 0, none⟩ (.int .i64 x)).setCell ⟨b, 1, none⟩ (.int .i64 y)) b 2 (fr x y) :=
  ((h.set (i := 0) (by omega) x).set (i := 1) (by omega) y).congr fun k hk => by
    obtain rfl | rfl : k = 0 ∨ k = 1 := by omega
    all_goals rfl
/-- A fraction without a common divisor. -/
def cutV (m b : Nat) : Value := v2 (m / Nat.gcd m b : Nat) (b / Nat.gcd m b : Nat)


end CutW
end Go.Proofs.Ytlpjmfmalejlpaa
