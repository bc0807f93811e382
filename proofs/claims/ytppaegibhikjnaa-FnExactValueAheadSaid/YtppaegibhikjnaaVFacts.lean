/-
  Scores of outcomes and bounds of their values.
-/
import Derived.Test.YtppaegibhikjnaaRows
import Derived.Test.YtppaegibhikjnaaAgainM
import Derived.Test.YtppaegibhikjnaaPowW
import Derived.Test.YtppaegibhikjnaaOwnL
import Derived.Test.YtppaegibhikjnaaAll6
import Derived.Test.YtppaegibhikjnaaAll9
import Derived.Test.YtppaegibhikjnaaSumsS
import Derived.Test.YtppaegibhikjnaaArr
import Derived.Test.YtppaegibhikjnaaDieW
import Derived.Test.YtppaegibhikjnaaFracW
import Derived.Test.YtppaegibhikjnaaSortW
import Derived.Test.YtppaegibhikjnaaDicesW
import Derived.Test.YtppaegibhikjnaaPoolW
import Derived.Test.YtppaegibhikjnaaGoalW
import Derived.Test.YtppaegibhikjnaaScoreM
import Derived.Test.YtppaegibhikjnaaScoreW
import Derived.Test.YtppaegibhikjnaaIntsW
import Derived.Test.YtppaegibhikjnaaRollN
import Derived.Test.YtppaegibhikjnaaPairA
import Derived.Test.YtppaegibhikjnaaGameW
import Derived.Test.YtppaegibhikjnaaScoreI
import Derived.Test.YtppaegibhikjnaaOpenD
import Derived.WalkKit
import Derived.WalkLawsBesides
import Derived.WalkSpells
import Derived.ProofKit
import Derived.OpenShut
import Derived.Deep.RegionWith
import Derived.Deep.QuietTactic
import Derived.BigQuiet
namespace Go.Proofs.Ytppaegibhikjnaa
open Go.ChangeShapes Go.WideShapes Go.ChangeAt Go.RowKit
open Go.ChangeMaps (open_string shut_string)

namespace VFacts
open Dice Arr AgainM PowW OwnL All6 All9 SumsS FracW OpenD DieW SortW PoolW DicesW GoalW ScoreM ScoreW IntsW RollW PairA GameW ScoreI


/-- The score of the outcome with a number. -/
def sco (n : Nat) (P : Nat → Nat → Int) (k b : Int) (N : Nat) : Int := scoreV k b (rollF P N n) n
theorem face_ok {n : Nat} {P : Nat → Nat → Int} (hp : pooled P n) (N : Nat) : ∀ j, j < n → 0 ≤ rollF P N n j ∧ rollF P N n j ≤ 30 := fun j hj => by
  have h := hp j hj
  have := (of_decide_eq_true h : upto (P j) 6) (N / 6 ^ (n - 1 - j) % 6) (Nat.mod_lt _ (by omega))
  unfold rollF
  omega
theorem within_sco {n : Nat} {P : Nat → Nat → Int} (hn : n ≤ 3) (hp : pooled P n) (k b : Int) : within n 90 (sco n P k b) := fun N _ => scoreV_bound hn (face_ok hp N)
theorem within_vals {n : Nat} {P : Nat → Nat → Int} (hn : n ≤ 3) (hp : pooled P n) (k b : Int) {r : Nat} (hr : r ≤ 2) : within n (6 ^ (n * r) * 90) (values n (sco n P k b) r) ∧ 6 ^ (n * r) * 90 ≤ 4199040 :=
  ⟨within_values (within_sco hn hp k b) r, by have := pow_six hn hr; omega⟩
theorem At.keptO {w w' : World} {b n : Nat} {row : Option Nat} {f : Nat → Int} (h : At w b n f) (hg : w.grownBy w' row) (hb : some b ≠ row) : At w' b n f :=
  ⟨Nat.lt_of_lt_of_le h.lt hg.size, fun k hk => (World.cell?_of_block (w := w) (hg.block b h.lt hb)).trans (h.cell k hk), fun k => (World.frozen?_of_block (w := w) (hg.block b h.lt hb)).trans (h.free k)⟩
theorem own_not {w : World} {B b e size n : Nat} {v : Value} {xs : List Value} (h : w.ownsRow B e size v n xs) (hb : b < B) : some b ≠ v.ownBlock := fun e => by
  have := (h.lt b e.symm).1
  omega
theorem top_one {F : Nat → Int} (h : 0 ≤ F 0) : top F 1 = (0, F 0) := by
  show (if (-1 : Int) < F 0 then (0, F 0) else (0, -1)) = _
  rw [if_pos (by omega)]
theorem top_max (F : Nat → Int) (k : Nat) : (top F (k + 1)).2 = if F k < (top F k).2 then (top F k).2 else F k := by
  show (if (top F k).2 < F k then (k, F k) else top F k).2 = _
  by_cases h1 : (top F k).2 < F k
  · rw [if_pos h1, if_neg (by omega)]
  · rw [if_neg h1]
    by_cases h2 : F k < (top F k).2
    · rw [if_pos h2]
    · rw [if_neg h2]
      omega


end VFacts
end Go.Proofs.Ytppaegibhikjnaa
