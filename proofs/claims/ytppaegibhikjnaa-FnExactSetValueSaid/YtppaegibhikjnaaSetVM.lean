/-
  What SetValue answers, without the program.
-/
import Derived.Test.YtppaegibhikjnaaRows
import Derived.Test.YtppaegibhikjnaaVFacts
import Derived.Test.YtppaegibhikjnaaAgainM
import Derived.Test.YtppaegibhikjnaaPowW
import Derived.Test.YtppaegibhikjnaaOwnL
import Derived.Test.YtppaegibhikjnaaAll6
import Derived.Test.YtppaegibhikjnaaAll9
import Derived.Test.YtppaegibhikjnaaSumsS
import Derived.Test.YtppaegibhikjnaaRolledI
import Derived.Test.YtppaegibhikjnaaArr
import Derived.Test.YtppaegibhikjnaaDieW
import Derived.Test.YtppaegibhikjnaaFracW
import Derived.Test.YtppaegibhikjnaaSortW
import Derived.Test.YtppaegibhikjnaaDicesW
import Derived.Test.YtppaegibhikjnaaPoolW
import Derived.Test.YtppaegibhikjnaaGoalW
import Derived.Test.YtppaegibhikjnaaScoreM
import Derived.Test.YtppaegibhikjnaaScoreW
import Derived.Test.YtppaegibhikjnaaIntsW
import Derived.Test.YtppaegibhikjnaaRollN
import Derived.Test.YtppaegibhikjnaaPairA
import Derived.Test.YtppaegibhikjnaaGameW
import Derived.Test.YtppaegibhikjnaaScoreI
import Derived.Test.YtppaegibhikjnaaGridL
import Derived.Test.YtppaegibhikjnaaCutW
import Derived.Test.YtppaegibhikjnaaIntsW
import Derived.Test.YtppaegibhikjnaaRollN
import Derived.Test.YtppaegibhikjnaaValM
import Derived.Test.YtppaegibhikjnaaOpenD
import Derived.WalkKit
import Derived.Deep.WholeRow
import Derived.Deep.AppendLies
import Derived.FnLit
import Derived.WalkLawsBesides
import Derived.WalkSpells
import Derived.ProofKit
import Derived.OpenShut
import Derived.Deep.RegionWith
import Derived.Deep.QuietTactic
import Derived.BigQuiet
namespace Go.Proofs.Ytppaegibhikjnaa
open Go.ChangeShapes Go.WideShapes Go.ChangeAt Go.RowKit
open Go.ChangeMaps (open_string shut_string)

namespace SetVM
open Dice Arr AgainM PowW OwnL All6 All9 SumsS RolledI FracW OpenD DieW SortW PoolW DicesW GoalW ScoreM ScoreW IntsW RollW PairA GameW ScoreI VFacts GridL CutW ValM


/-- Whether there is a value of a set. -/
def okSet (n : Nat) (P : Nat → Nat → Int) (k b N s r : Int) : Bool := okVal n P k b N r 1 && decide (0 ≤ s ∧ s < ((2 ^ n : Nat) : Int))
def setV (n : Nat) (P : Nat → Nat → Int) (k b : Int) (r N s : Nat) : Value := cutV (worth n (values n (sco n P k b) (r - 1)) N s).toNat (all6 (n * r))
def outSV (n : Nat) (P : Nat → Nat → Int) (k b N s r : Int) : Value := if okSet n P k b N s r then setV n P k b r.toNat N.toNat s.toNat else v2 0 0
theorem outSV_no {n : Nat} {P : Nat → Nat → Int} {k b N s r : Int} (h : okSet n P k b N s r = false) : outSV n P k b N s r = v2 0 0 := by unfold outSV; rw [h]; rfl
theorem outSV_yes {n : Nat} {P : Nat → Nat → Int} {k b : Int} {N s r : Nat} (h : okSet n P k b N s r = true) : outSV n P k b N s r = setV n P k b r N s := by unfold outSV; rw [h]; rfl
theorem outSV_form (n : Nat) (P : Nat → Nat → Int) (k b N s r : Int) : ∃ x y : Int, outSV n P k b N s r = v2 x y := by
  unfold outSV
  split
  · exact ⟨_, _, rfl⟩
  · exact ⟨_, _, rfl⟩
theorem of_set {n : Nat} {P : Nat → Nat → Int} {k b N s r : Int} (h : okSet n P k b N s r = true) : okVal n P k b N r 1 = true ∧ 0 ≤ s ∧ s < ((2 ^ n : Nat) : Int) := by
  unfold okSet at h
  rw [Bool.and_eq_true] at h
  exact ⟨h.1, of_decide_eq_true h.2⟩
theorem worth_nat {n : Nat} {P : Nat → Nat → Int} {k b : Int} {N r : Nat} (h : okVal n P k b N r 1 = true) (s : Nat) : ∃ m : Nat, worth n (values n (sco n P k b) (r - 1)) N s = m ∧ m ≤ 906992640 := by
  obtain ⟨hg, hN0, hN⟩ := of_val h
  obtain ⟨hm, _, hr1, hr2⟩ := of_game hg
  obtain ⟨_, h3, hp⟩ := of_many hm
  obtain ⟨v1, v2⟩ := within_vals h3 hp k b (r := r - 1) (by omega)
  have := sums_bound (s := s) h3 v1 v2 n (Nat.le_refl _) N (show N < 6 ^ n from by have h6 : all6 n = 6 ^ n := rfl; omega)
  refine ⟨(worth n (values n (sco n P k b) (r - 1)) N s).toNat, ?_, ?_⟩
  · show sums n s _ n N = _
    have e : worth n (values n (sco n P k b) (r - 1)) N s = sums n s (values n (sco n P k b) (r - 1)) n N := rfl
    rw [e]
    omega
  · have e : worth n (values n (sco n P k b) (r - 1)) N s = sums n s (values n (sco n P k b) (r - 1)) n N := rfl
    rw [e]
    omega


end SetVM
end Go.Proofs.Ytppaegibhikjnaa
