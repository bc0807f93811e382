/-
  How many outcomes are kept and how many dice are rolled, without the program.
-/
import Derived.Test.YtppaegibhikjnaaRows
import Derived.Test.YtppaegibhikjnaaVFacts
import Derived.Test.YtppaegibhikjnaaAgainM
import Derived.Test.YtppaegibhikjnaaPowW
import Derived.Test.YtppaegibhikjnaaOwnL
import Derived.Test.YtppaegibhikjnaaAll6
import Derived.Test.YtppaegibhikjnaaAll9
import Derived.Test.YtppaegibhikjnaaSumsS
import Derived.Test.YtppaegibhikjnaaRolledI
import Derived.Test.YtppaegibhikjnaaArr
import Derived.Test.YtppaegibhikjnaaDieW
import Derived.Test.YtppaegibhikjnaaFracW
import Derived.Test.YtppaegibhikjnaaSortW
import Derived.Test.YtppaegibhikjnaaDicesW
import Derived.Test.YtppaegibhikjnaaPoolW
import Derived.Test.YtppaegibhikjnaaGoalW
import Derived.Test.YtppaegibhikjnaaScoreM
import Derived.Test.YtppaegibhikjnaaScoreW
import Derived.Test.YtppaegibhikjnaaIntsW
import Derived.Test.YtppaegibhikjnaaRollN
import Derived.Test.YtppaegibhikjnaaPairA
import Derived.Test.YtppaegibhikjnaaGameW
import Derived.Test.YtppaegibhikjnaaScoreI
import Derived.Test.YtppaegibhikjnaaGridL
import Derived.Test.YtppaegibhikjnaaCutW
import Derived.Test.YtppaegibhikjnaaIntsW
import Derived.Test.YtppaegibhikjnaaRollN
import Derived.Test.YtppaegibhikjnaaValM
import Derived.Test.YtppaegibhikjnaaOpenD
import Derived.WalkKit
import Derived.Deep.WholeRow
import Derived.Deep.AppendLies
import Derived.FnLit
import Derived.WalkLawsBesides
import Derived.WalkSpells
import Derived.ProofKit
import Derived.OpenShut
import Derived.Deep.RegionWith
import Derived.Deep.QuietTactic
import Derived.BigQuiet
namespace Go.Proofs.Ytppaegibhikjnaa
open Go.ChangeShapes Go.WideShapes Go.ChangeAt Go.RowKit
open Go.ChangeMaps (open_string shut_string)

namespace KeptM
open Dice Arr AgainM PowW OwnL All6 All9 SumsS RolledI FracW OpenD DieW SortW PoolW DicesW GoalW ScoreM ScoreW IntsW RollW PairA GameW ScoreI VFacts GridL CutW ValM


/-- How many of the first m numbers are 0. -/
def nkept (p : Nat → Nat) : Nat → Nat
  | 0 => 0
  | m + 1 => if p m = 0 then nkept p m + 1 else nkept p m
theorem nkept_le (p : Nat → Nat) : ∀ m, nkept p m ≤ m
  | 0 => Nat.le_refl _
  | m + 1 => by
    have := nkept_le p m
    unfold nkept
    split <;> omega
/-- How many of the first n dice are in a set; how many dice are in all of the first m sets. -/
def nbits (s : Nat) : Nat → Nat
  | 0 => 0
  | i + 1 => nbits s i + bit s i
theorem nbits_le (s : Nat) : ∀ i, nbits s i ≤ i
  | 0 => Nat.le_refl _
  | i + 1 => by
    have := nbits_le s i
    have := bit_lt s i
    unfold nbits
    omega
def nrolled (n : Nat) (p : Nat → Nat) : Nat → Nat
  | 0 => 0
  | m + 1 => nrolled n p m + nbits (p m) n
theorem nrolled_le (n : Nat) (p : Nat → Nat) : ∀ m, nrolled n p m ≤ m * n
  | 0 => by simp [nrolled]
  | m + 1 => by
    have h1 := nrolled_le n p m
    have h2 := nbits_le (p m) n
    have h3 : (m + 1) * n = m * n + n := by rw [Nat.add_mul, Nat.one_mul]
    unfold nrolled
    omega
/-- The least best sets of all outcomes. -/
def planF (n : Nat) (P : Nat → Nat → Int) (k b : Int) (r : Nat) (m : Nat) : Nat := plan n (values n (sco n P k b) (r - 1)) m
def outK (n : Nat) (P : Nat → Nat → Int) (k b r : Int) : Int := if gameOk n P k b r 1 then ((nkept (planF n P k b r.toNat) (all6 n) : Nat) : Int) else 0
def outM (n : Nat) (P : Nat → Nat → Int) (k b r : Int) : Value := if gameOk n P k b r 1 then cutV (nrolled n (planF n P k b r.toNat) (all6 n)) (all6 n) else v2 0 0
theorem outK_no {n : Nat} {P : Nat → Nat → Int} {k b r : Int} (h : gameOk n P k b r 1 = false) : outK n P k b r = 0 := by unfold outK; rw [h]; rfl
theorem outK_yes {n : Nat} {P : Nat → Nat → Int} {k b : Int} {r : Nat} (h : gameOk n P k b r 1 = true) : outK n P k b r = ((nkept (planF n P k b r) (all6 n) : Nat) : Int) := by unfold outK; rw [h]; rfl
theorem outM_no {n : Nat} {P : Nat → Nat → Int} {k b r : Int} (h : gameOk n P k b r 1 = false) : outM n P k b r = v2 0 0 := by unfold outM; rw [h]; rfl
theorem outM_yes {n : Nat} {P : Nat → Nat → Int} {k b : Int} {r : Nat} (h : gameOk n P k b r 1 = true) : outM n P k b r = cutV (nrolled n (planF n P k b r) (all6 n)) (all6 n) := by unfold outM; rw [h]; rfl
theorem outM_form (n : Nat) (P : Nat → Nat → Int) (k b r : Int) : ∃ x y : Int, outM n P k b r = v2 x y := by
  unfold outM
  split
  · exact ⟨_, _, rfl⟩
  · exact ⟨_, _, rfl⟩
theorem plan_small {n : Nat} {P : Nat → Nat → Int} {k b : Int} {r : Nat} (h : gameOk n P k b r 1 = true) {m : Nat} (hm : m < all6 n) : planF n P k b r m < 2 ^ n := by
  obtain ⟨hmm, _, hr1, hr2⟩ := of_game h
  obtain ⟨_, h3, hp⟩ := of_many hmm
  exact plan_lt (within_vals h3 hp k b (r := r - 1) (by omega)).1 hm
theorem worth_game {n : Nat} {P : Nat → Nat → Int} {k b : Int} {r : Nat} (h : gameOk n P k b r 1 = true) {m : Nat} (hm : m < all6 n) (s : Nat) : 0 ≤ worth n (values n (sco n P k b) (r - 1)) m s := by
  obtain ⟨hmm, _, hr1, hr2⟩ := of_game h
  obtain ⟨_, h3, hp⟩ := of_many hmm
  exact (within_worth (within_vals h3 hp k b (r := r - 1) (by omega)).1 hm s).1


end KeptM
end Go.Proofs.Ytppaegibhikjnaa
