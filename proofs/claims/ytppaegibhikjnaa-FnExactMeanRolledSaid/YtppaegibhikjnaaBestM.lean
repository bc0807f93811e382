/-
  The best sets as a list.
-/
import Derived.Test.YtppaegibhikjnaaRows
import Derived.Test.YtppaegibhikjnaaVFacts
import Derived.Test.YtppaegibhikjnaaAgainM
import Derived.Test.YtppaegibhikjnaaPowW
import Derived.Test.YtppaegibhikjnaaOwnL
import Derived.Test.YtppaegibhikjnaaAll6
import Derived.Test.YtppaegibhikjnaaAll9
import Derived.Test.YtppaegibhikjnaaSumsS
import Derived.Test.YtppaegibhikjnaaRolledI
import Derived.Test.YtppaegibhikjnaaArr
import Derived.Test.YtppaegibhikjnaaDieW
import Derived.Test.YtppaegibhikjnaaFracW
import Derived.Test.YtppaegibhikjnaaSortW
import Derived.Test.YtppaegibhikjnaaDicesW
import Derived.Test.YtppaegibhikjnaaPoolW
import Derived.Test.YtppaegibhikjnaaGoalW
import Derived.Test.YtppaegibhikjnaaScoreM
import Derived.Test.YtppaegibhikjnaaScoreW
import Derived.Test.YtppaegibhikjnaaIntsW
import Derived.Test.YtppaegibhikjnaaRollN
import Derived.Test.YtppaegibhikjnaaPairA
import Derived.Test.YtppaegibhikjnaaGameW
import Derived.Test.YtppaegibhikjnaaScoreI
import Derived.Test.YtppaegibhikjnaaGridL
import Derived.Test.YtppaegibhikjnaaCutW
import Derived.Test.YtppaegibhikjnaaIntsW
import Derived.Test.YtppaegibhikjnaaRollN
import Derived.Test.YtppaegibhikjnaaValM
import Derived.Test.YtppaegibhikjnaaOpenD
import Derived.WalkKit
import Derived.Deep.WholeRow
import Derived.Deep.AppendLies
import Derived.FnLit
import Derived.WalkLawsBesides
import Derived.WalkSpells
import Derived.ProofKit
import Derived.OpenShut
import Derived.Deep.RegionWith
import Derived.Deep.QuietTactic
import Derived.BigQuiet
namespace Go.Proofs.Ytppaegibhikjnaa
open Go.ChangeShapes Go.WideShapes Go.ChangeAt Go.RowKit
open Go.ChangeMaps (open_string shut_string)

namespace BestM
open Dice Arr AgainM PowW OwnL All6 All9 SumsS RolledI FracW OpenD DieW SortW PoolW DicesW GoalW ScoreM ScoreW IntsW RollW PairA GameW ScoreI VFacts GridL CutW ValM


/-- All places of the greatest of the first k numbers. -/
def slist (F : Nat → Int) (k : Nat) : List Nat := spots F (AgainM.top F k).2 k
theorem top_succ (F : Nat → Int) (k : Nat) : AgainM.top F (k + 1) = if (AgainM.top F k).2 < F k then (k, F k) else AgainM.top F k := rfl
theorem slist_new {F : Nat → Int} {k : Nat} (h : (AgainM.top F k).2 < F k) : (AgainM.top F (k + 1)).2 = F k ∧ slist F (k + 1) = [k] := by
  have e : AgainM.top F (k + 1) = (k, F k) := by rw [top_succ, if_pos h]
  unfold slist
  rw [e]
  refine ⟨rfl, ?_⟩
  show spots F (F k) (k + 1) = _
  rw [spots_succ, if_pos rfl, spots_new h]
  rfl
theorem slist_same {F : Nat → Int} {k : Nat} (h : F k = (AgainM.top F k).2) : (AgainM.top F (k + 1)).2 = (AgainM.top F k).2 ∧ slist F (k + 1) = slist F k ++ [k] := by
  have e : AgainM.top F (k + 1) = AgainM.top F k := by rw [top_succ, if_neg (by omega)]
  unfold slist
  rw [e]
  exact ⟨rfl, by rw [spots_succ, if_pos h]⟩
theorem slist_less {F : Nat → Int} {k : Nat} (h : F k < (AgainM.top F k).2) : (AgainM.top F (k + 1)).2 = (AgainM.top F k).2 ∧ slist F (k + 1) = slist F k := by
  have e : AgainM.top F (k + 1) = AgainM.top F k := by rw [top_succ, if_neg (by omega)]
  unfold slist
  rw [e]
  exact ⟨rfl, by rw [spots_succ, if_neg (by omega)]⟩
theorem slist_len (F : Nat → Int) (k : Nat) : (slist F k).length ≤ k := spots_len _ _ _
theorem slist_head {F : Nat → Int} (h : ∀ k, 0 ≤ F k) : ∀ k, 1 ≤ (slist F (k + 1)).length ∧ (slist F (k + 1)).getD 0 0 = (AgainM.top F (k + 1)).1
  | 0 => by
    have h0 : (AgainM.top F 0).2 < F 0 := by have := h 0; show (-1 : Int) < _; omega
    rw [(slist_new h0).2, top_succ, if_pos h0]
    exact ⟨Nat.le_refl _, rfl⟩
  | k + 1 => by
    obtain ⟨h1, h2⟩ := slist_head h k
    rcases Int.lt_trichotomy (AgainM.top F (k + 1)).2 (F (k + 1)) with hl | he | hg
    · rw [(slist_new hl).2, top_succ, if_pos hl]
      exact ⟨Nat.le_refl _, rfl⟩
    · rw [(slist_same he.symm).2, top_succ, if_neg (by omega)]
      refine ⟨by simp, ?_⟩
      rw [← h2, List.getD_eq_getElem?_getD, List.getD_eq_getElem?_getD, List.getElem?_append_left (by omega)]
    · rw [(slist_less hg).2, top_succ, if_neg (by omega)]
      exact ⟨h1, h2⟩
/-- A list of numbers as cells. -/
def nv (l : List Nat) : List Value := l.map fun (x : Nat) => (.int .i64 (x : Int) : Value)
def nf (l : List Nat) : Nat → Int := fun i => ((l.getD i 0 : Nat) : Int)
theorem nv_vals (l : List Nat) : nv l = vals l.length (nf l) := by
  refine List.ext_getElem? fun i => ?_
  by_cases hi : i < l.length
  · rw [vals_get hi]
    simp [nv, nf, hi]
  · rw [List.getElem?_eq_none (by simp [nv]; omega), List.getElem?_eq_none (by rw [vals_len]; omega)]
theorem nv_snoc (l : List Nat) (x : Nat) : nv l ++ [.int .i64 (x : Int)] = nv (l ++ [x]) := by simp [nv]
/-- A list that is one's own, as a list in memory. -/
theorem ints_own {w : World} {B : Nat} {v : Value} {l : List Nat} (h : w.ownsRow B 3 1 v l.length (nv l)) : ∃ A c, v = .slice A l.length c ∧ Ints B w A l.length (nf l) := by
  rw [nv_vals] at h
  by_cases hl : l.length = 0
  · rcases h.2 with ⟨rfl, h0⟩ | ⟨g, cap, cur, rfl, hb, _⟩
    · exact ⟨none, 0, by rw [hl], .inl hl⟩
    · exact ⟨_, _, rfl, .inl hl⟩
  · obtain ⟨g, c, rfl, hb, _⟩ := own_form h (fun e => by
      rcases h.2 with ⟨_, h0⟩ | ⟨g, cap, cur, he, _⟩
      · exact absurd h0 hl
      · rw [e] at he
        cases he)
    exact ⟨_, _, rfl, .inr ⟨g, rfl, hb, At.of_own h⟩⟩


end BestM
end Go.Proofs.Ytppaegibhikjnaa
