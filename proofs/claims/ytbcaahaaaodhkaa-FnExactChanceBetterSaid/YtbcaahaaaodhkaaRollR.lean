/-
  What the faces of a roll are, and how often numbers come.
-/
import Derived.Test.YtbcaahaaaodhkaaRows
import Derived.Test.YtbcaahaaaodhkaaPlaces
import Derived.Test.YtbcaahaaaodhkaaRollWM
import Derived.Test.YtbcaahaaaodhkaaIntsM
import Derived.Test.YtbcaahaaaodhkaaPoolW
import Derived.Test.YtbcaahaaaodhkaaAll6
import Derived.Test.YtbcaahaaaodhkaaDicesW
import Derived.Test.YtbcaahaaaodhkaaSortW
import Derived.Test.YtbcaahaaaodhkaaOpenD
import Derived.WalkKit
import Derived.WalkLawsBesides
import Derived.WalkSpells
import Derived.ProofKit
import Derived.OpenShut
import Derived.Deep.RegionWith
import Derived.Deep.QuietTactic
import Derived.BigQuiet
namespace Go.Proofs.Ytbcaahaaaodhkaa
open Go.ChangeShapes Go.WideShapes Go.ChangeAt Go.RowKit
open Go.ChangeMaps (open_string shut_string)

namespace RollR
open Dice Arr OpenD DieW SortW DicesW PoolW All6 IntsW RollW Places

theorem die_range' {P : Nat → Nat → Int} {n : Nat} (h : pooled P n) : ∀ i, i < n → ∀ k, k < 6 → 0 ≤ P i k ∧ P i k ≤ 30 := fun i hi k hk => ⟨((of_decide_eq_true (h i hi) : upto (P i) 6) k hk).1, ((of_decide_eq_true (h i hi) : upto (P i) 6) k hk).2.1⟩
theorem roll_range {P : Nat → Nat → Int} {n : Nat} (h : pooled P n) (i : Nat) : ∀ j, j < n → 0 ≤ rollF P i n j ∧ rollF P i n j ≤ 30 := fun j hj => die_range' h j hj _ (Nat.mod_lt _ (by omega))
theorem cnt_next {s : Nat → Int} {N q : Nat} (h : s N = (q : Int)) : cnt s (N + 1) = put (cnt s N) q (cnt s N q + 1) := by
  show put (cnt s N) (s N).toNat (cnt s N (s N).toNat + 1) = _
  rw [h, Int.toNat_natCast]


end RollR
end Go.Proofs.Ytbcaahaaaodhkaa
