/-
  How many outcomes are as asked.
-/
import Derived.Test.YtbcaahaaaodhkaaRows
import Derived.Test.YtbcaahaaaodhkaaPatV
import Derived.Test.YtbcaahaaaodhkaaPatC
import Derived.Test.YtbcaahaaaodhkaaRollR
import Derived.Test.YtbcaahaaaodhkaaFracW
import Derived.Test.YtbcaahaaaodhkaaCutW
import Derived.Test.YtbcaahaaaodhkaaPatsI
import Derived.Test.YtbcaahaaaodhkaaPatS
import Derived.Test.YtbcaahaaaodhkaaPlS
import Derived.Test.YtbcaahaaaodhkaaPatI
import Derived.Test.YtbcaahaaaodhkaaPlI
import Derived.Test.YtbcaahaaaodhkaaFour
import Derived.Test.YtbcaahaaaodhkaaPatM
import Derived.Test.YtbcaahaaaodhkaaSortDn
import Derived.Test.YtbcaahaaaodhkaaPlaces
import Derived.Test.YtbcaahaaaodhkaaRollWM
import Derived.Test.YtbcaahaaaodhkaaIntsM
import Derived.Test.YtbcaahaaaodhkaaPoolW
import Derived.Test.YtbcaahaaaodhkaaAll6
import Derived.Test.YtbcaahaaaodhkaaDicesW
import Derived.Test.YtbcaahaaaodhkaaOpenD
import Derived.WalkKit
import Derived.WalkLawsBesides
import Derived.WalkSpells
import Derived.ProofKit
import Derived.OpenShut
import Derived.Deep.RegionWith
import Derived.Deep.QuietTactic
import Derived.BigQuiet
namespace Go.Proofs.Ytbcaahaaaodhkaa
open Go.ChangeShapes Go.WideShapes Go.ChangeAt Go.RowKit
open Go.ChangeMaps (open_string shut_string)

namespace WaysC
open Dice Arr OpenD DieW SortW DicesW PoolW All6 IntsW RollW Places PatM SortDn PlI Four PatI PatsI PlS PatS PatV PatC

/-- How many of the first N outcomes are as asked. -/
def wN (ok : Nat → Bool) : Nat → Nat
  | 0 => 0
  | N + 1 => wN ok N + (if ok N then 1 else 0)
theorem wN_le (ok : Nat → Bool) (N : Nat) : wN ok N ≤ N := by
  induction N with
  | zero => exact Nat.le_refl _
  | succ N ih => unfold wN; split <;> omega
theorem wN_yes {ok : Nat → Bool} {N : Nat} (h : ok N = true) : wN ok (N + 1) = wN ok N + 1 := by
  show wN ok N + (if ok N then 1 else 0) = _
  rw [if_pos h]
theorem wN_no {ok : Nat → Bool} {N : Nat} (h : ok N = false) : wN ok (N + 1) = wN ok N := by
  show wN ok N + (if ok N then 1 else 0) = _
  rw [if_neg (by rw [h]; simp)]
  rfl
/-- Whether the pattern of an outcome is g, and whether it is better. -/
def isG (P : Nat → Nat → Int) (n : Nat) (g : Nat → Int) (i : Nat) : Bool := decide (agree (pat (rollF P i n) n) g 4)
noncomputable def isB (P : Nat → Nat → Int) (n : Nat) (g : Nat → Int) (i : Nat) : Bool := bef g (pat (rollF P i n) n)



end WaysC
end Go.Proofs.Ytbcaahaaaodhkaa
