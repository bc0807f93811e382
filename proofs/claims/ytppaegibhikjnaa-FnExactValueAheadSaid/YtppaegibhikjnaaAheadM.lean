/-
  What ValueAhead answers, without the program.
-/
import Derived.Test.YtppaegibhikjnaaRows
import Derived.Test.YtppaegibhikjnaaVFacts
import Derived.Test.YtppaegibhikjnaaAgainM
import Derived.Test.YtppaegibhikjnaaPowW
import Derived.Test.YtppaegibhikjnaaOwnL
import Derived.Test.YtppaegibhikjnaaAll6
import Derived.Test.YtppaegibhikjnaaAll9
import Derived.Test.YtppaegibhikjnaaSumsS
import Derived.Test.YtppaegibhikjnaaRolledI
import Derived.Test.YtppaegibhikjnaaArr
import Derived.Test.YtppaegibhikjnaaDieW
import Derived.Test.YtppaegibhikjnaaFracW
import Derived.Test.YtppaegibhikjnaaSortW
import Derived.Test.YtppaegibhikjnaaDicesW
import Derived.Test.YtppaegibhikjnaaPoolW
import Derived.Test.YtppaegibhikjnaaGoalW
import Derived.Test.YtppaegibhikjnaaScoreM
import Derived.Test.YtppaegibhikjnaaScoreW
import Derived.Test.YtppaegibhikjnaaIntsW
import Derived.Test.YtppaegibhikjnaaRollN
import Derived.Test.YtppaegibhikjnaaPairA
import Derived.Test.YtppaegibhikjnaaGameW
import Derived.Test.YtppaegibhikjnaaScoreI
import Derived.Test.YtppaegibhikjnaaGridL
import Derived.Test.YtppaegibhikjnaaCutW
import Derived.Test.YtppaegibhikjnaaIntsW
import Derived.Test.YtppaegibhikjnaaRollN
import Derived.Test.YtppaegibhikjnaaValM
import Derived.Test.YtppaegibhikjnaaOpenD
import Derived.WalkKit
import Derived.Deep.WholeRow
import Derived.Deep.AppendLies
import Derived.FnLit
import Derived.WalkLawsBesides
import Derived.WalkSpells
import Derived.ProofKit
import Derived.OpenShut
import Derived.Deep.RegionWith
import Derived.Deep.QuietTactic
import Derived.BigQuiet
namespace Go.Proofs.Ytppaegibhikjnaa
open Go.ChangeShapes Go.WideShapes Go.ChangeAt Go.RowKit
open Go.ChangeMaps (open_string shut_string)

namespace AheadM
open Dice Arr AgainM PowW OwnL All6 All9 SumsS RolledI FracW OpenD DieW SortW PoolW DicesW GoalW ScoreM ScoreW IntsW RollW PairA GameW ScoreI VFacts GridL CutW ValM


def outA (n : Nat) (P : Nat → Nat → Int) (k b r : Int) : Value := if gameOk n P k b r 0 then cutV (psum (values n (sco n P k b) r.toNat) (all6 n)).toNat (all6 (n * (r.toNat + 1))) else v2 0 0
theorem outA_no {n : Nat} {P : Nat → Nat → Int} {k b r : Int} (h : gameOk n P k b r 0 = false) : outA n P k b r = v2 0 0 := by unfold outA; rw [h]; rfl
theorem outA_yes {n : Nat} {P : Nat → Nat → Int} {k b : Int} {r : Nat} (h : gameOk n P k b r 0 = true) : outA n P k b r = cutV (psum (values n (sco n P k b) r) (all6 n)).toNat (all6 (n * (r + 1))) := by unfold outA; rw [h]; rfl
theorem outA_form (n : Nat) (P : Nat → Nat → Int) (k b r : Int) : ∃ x y : Int, outA n P k b r = v2 x y := by
  unfold outA
  split
  · exact ⟨_, _, rfl⟩
  · exact ⟨_, _, rfl⟩
/-- The sums of the first values. -/
theorem vsum_bound {n : Nat} {P : Nat → Nat → Int} (hn : n ≤ 3) (hp : pooled P n) (k b : Int) {r : Nat} (hr : r ≤ 2) : ∀ N, N ≤ all6 n → 0 ≤ psum (values n (sco n P k b) r) N ∧ psum (values n (sco n P k b) r) N ≤ 906992640 := fun N hN => by
  obtain ⟨h1, h2⟩ := within_vals hn hp k b hr
  have hT : all6 n ≤ 216 := (pow_three hn).1
  have := psum_bound (f := values n (sco n P k b) r) (B := 4199040) N (fun j hj => by
    have := h1 j (show j < 6 ^ n from by have h6 : all6 n = 6 ^ n := rfl; omega)
    omega)
  have h3 : N * 4199040 ≤ 216 * 4199040 := Nat.mul_le_mul_right _ (by omega)
  omega
theorem vals_bound {n : Nat} {P : Nat → Nat → Int} (hn : n ≤ 3) (hp : pooled P n) (k b : Int) {r : Nat} (hr : r ≤ 2) {N : Nat} (hN : N < all6 n) : 0 ≤ values n (sco n P k b) r N ∧ values n (sco n P k b) r N ≤ 4199040 := by
  obtain ⟨h1, h2⟩ := within_vals hn hp k b hr
  have := h1 N (show N < 6 ^ n from hN)
  omega


end AheadM
end Go.Proofs.Ytppaegibhikjnaa
