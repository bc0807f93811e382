/-
  What ValueOf and its like answer, without the program.
-/
import Derived.Test.YtppaegibhikjnaaRows
import Derived.Test.YtppaegibhikjnaaVFacts
import Derived.Test.YtppaegibhikjnaaAgainM
import Derived.Test.YtppaegibhikjnaaPowW
import Derived.Test.YtppaegibhikjnaaOwnL
import Derived.Test.YtppaegibhikjnaaAll6
import Derived.Test.YtppaegibhikjnaaAll9
import Derived.Test.YtppaegibhikjnaaSumsS
import Derived.Test.YtppaegibhikjnaaRolledI
import Derived.Test.YtppaegibhikjnaaArr
import Derived.Test.YtppaegibhikjnaaDieW
import Derived.Test.YtppaegibhikjnaaFracW
import Derived.Test.YtppaegibhikjnaaSortW
import Derived.Test.YtppaegibhikjnaaDicesW
import Derived.Test.YtppaegibhikjnaaPoolW
import Derived.Test.YtppaegibhikjnaaGoalW
import Derived.Test.YtppaegibhikjnaaScoreM
import Derived.Test.YtppaegibhikjnaaScoreW
import Derived.Test.YtppaegibhikjnaaIntsW
import Derived.Test.YtppaegibhikjnaaRollN
import Derived.Test.YtppaegibhikjnaaPairA
import Derived.Test.YtppaegibhikjnaaGameW
import Derived.Test.YtppaegibhikjnaaScoreI
import Derived.Test.YtppaegibhikjnaaGridL
import Derived.Test.YtppaegibhikjnaaCutW
import Derived.Test.YtppaegibhikjnaaIntsW
import Derived.Test.YtppaegibhikjnaaRollN
import Derived.Test.YtppaegibhikjnaaOpenD
import Derived.WalkKit
import Derived.Deep.WholeRow
import Derived.Deep.AppendLies
import Derived.FnLit
import Derived.WalkLawsBesides
import Derived.WalkSpells
import Derived.ProofKit
import Derived.OpenShut
import Derived.Deep.RegionWith
import Derived.Deep.QuietTactic
import Derived.BigQuiet
namespace Go.Proofs.Ytppaegibhikjnaa
open Go.ChangeShapes Go.WideShapes Go.ChangeAt Go.RowKit
open Go.ChangeMaps (open_string shut_string)

namespace ValM
open Dice Arr AgainM PowW OwnL All6 All9 SumsS RolledI FracW OpenD DieW SortW PoolW DicesW GoalW ScoreM ScoreW IntsW RollW PairA GameW ScoreI VFacts GridL CutW


/-- Whether there is a value: a game, and an outcome with the number. -/
def okVal (n : Nat) (P : Nat → Nat → Int) (k b N r l : Int) : Bool := gameOk n P k b r l && decide (0 ≤ N ∧ N < (all6 n : Nat))
theorem of_val {n : Nat} {P : Nat → Nat → Int} {k b N r l : Int} (h : okVal n P k b N r l = true) : gameOk n P k b r l = true ∧ 0 ≤ N ∧ N < (all6 n : Nat) := by
  unfold okVal at h
  rw [Bool.and_eq_true] at h
  exact ⟨h.1, of_decide_eq_true h.2⟩
theorem game_pool {n : Nat} {P : Nat → Nat → Int} {k b r l : Int} (h : gameOk n P k b r l = true) : isPool n P = true := by
  obtain ⟨h1, h3, hp⟩ := of_many (of_game h).1
  exact pool_yes h1 (by omega) hp
theorem okR_game {n : Nat} {P : Nat → Nat → Int} {k b N r l : Int} (h : gameOk n P k b r l = true) : okR n P N = okVal n P k b N r l := by
  unfold okR okVal
  rw [game_pool h, h]
theorem val_no_game {n : Nat} {P : Nat → Nat → Int} {k b r l : Int} (N : Int) (h : gameOk n P k b r l = false) : okVal n P k b N r l = false := by unfold okVal; rw [h]; rfl
theorem val_no_roll {n : Nat} {P : Nat → Nat → Int} (k b r l : Int) {N : Int} (h : okR n P N = false) : okVal n P k b N r l = false := by
  cases hg : gameOk n P k b r l
  · exact val_no_game N hg
  · rw [← okR_game hg]
    exact h
/-- A value as a fraction. -/
def valV (n : Nat) (P : Nat → Nat → Int) (k b : Int) (r N : Nat) : Value := cutV (values n (sco n P k b) r N).toNat (all6 (n * r))
def outV (n : Nat) (P : Nat → Nat → Int) (k b N r : Int) : Value := if okVal n P k b N r 0 then valV n P k b r.toNat N.toNat else v2 0 0
theorem outV_no {n : Nat} {P : Nat → Nat → Int} {k b N r : Int} (h : okVal n P k b N r 0 = false) : outV n P k b N r = v2 0 0 := by unfold outV; rw [h]; rfl
theorem outV_yes {n : Nat} {P : Nat → Nat → Int} {k b : Int} {N r : Nat} (h : okVal n P k b N r 0 = true) : outV n P k b N r = valV n P k b r N := by unfold outV; rw [h]; rfl
theorem outV_form (n : Nat) (P : Nat → Nat → Int) (k b N r : Int) : ∃ x y : Int, outV n P k b N r = v2 x y := by
  unfold outV
  split
  · exact ⟨_, _, rfl⟩
  · exact ⟨_, _, rfl⟩
theorem vals_nat {n : Nat} {P : Nat → Nat → Int} (hn : n ≤ 3) (hp : pooled P n) (k b : Int) {r : Nat} (hr : r ≤ 2) {N : Nat} (hN : N < all6 n) : ∃ m : Nat, values n (sco n P k b) r N = m ∧ m ≤ 4199040 := by
  obtain ⟨h1, h2⟩ := within_vals hn hp k b hr
  have := h1 N hN
  exact ⟨(values n (sco n P k b) r N).toNat, by omega, by omega⟩
theorem parts_le {n r : Nat} (hn : n ≤ 3) (hr : r ≤ 3) : 1 ≤ all6 (n * r) ∧ all6 (n * r) ≤ 10077696 := by
  have : n * r ≤ 9 := Nat.mul_le_mul hn hr
  obtain ⟨h1, h2⟩ := all6_le9 this
  exact ⟨h2, h1⟩


end ValM
end Go.Proofs.Ytppaegibhikjnaa
