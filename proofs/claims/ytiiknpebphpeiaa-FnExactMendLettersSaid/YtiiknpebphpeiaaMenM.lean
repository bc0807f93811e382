/-
  MendLetters: the exchanges.
-/
import Derived.Test.YtiiknpebphpeiaaRows
import Derived.Test.YtiiknpebphpeiaaArr
import Derived.Test.YtiiknpebphpeiaaDieW
import Derived.Test.YtiiknpebphpeiaaSortW
import Derived.Test.YtiiknpebphpeiaaFour
import Derived.Test.YtiiknpebphpeiaaOrdM
import Derived.Test.YtiiknpebphpeiaaOrdK
import Derived.Test.YtiiknpebphpeiaaOrdW
import Derived.Test.YtiiknpebphpeiaaDicesW
import Derived.Test.YtiiknpebphpeiaaPoolW
import Derived.Test.YtiiknpebphpeiaaOwnL
import Derived.Test.YtiiknpebphpeiaaOpenI
import Derived.Test.YtiiknpebphpeiaaLtrM
import Derived.Test.YtiiknpebphpeiaaIntsW
import Derived.Test.YtiiknpebphpeiaaIntL
import Derived.Test.YtiiknpebphpeiaaIntsE
import Derived.Test.YtiiknpebphpeiaaLtrS
import Derived.Test.YtiiknpebphpeiaaLtrP
import Derived.Test.YtiiknpebphpeiaaLtrI
import Derived.Test.YtiiknpebphpeiaaLtrK
import Derived.Test.YtiiknpebphpeiaaLtrO
import Derived.Test.YtiiknpebphpeiaaLtrW
import Derived.Test.YtiiknpebphpeiaaShelfCR
import Derived.Test.YtiiknpebphpeiaaLevW
import Derived.Test.YtiiknpebphpeiaaTurnW
import Derived.Test.YtiiknpebphpeiaaAll6
import Derived.Test.YtiiknpebphpeiaaRollN
import Derived.Test.YtiiknpebphpeiaaRollS
import Derived.Test.YtiiknpebphpeiaaOrdT
import Derived.Test.YtiiknpebphpeiaaOrdO
import Derived.Test.YtiiknpebphpeiaaOrdI
import Derived.Test.YtiiknpebphpeiaaOrdS
import Derived.Test.YtiiknpebphpeiaaAnyR
import Derived.Test.YtiiknpebphpeiaaMapO
import Derived.Test.YtiiknpebphpeiaaShelfMax
import Derived.Test.YtiiknpebphpeiaaOrdN
import Derived.Test.YtiiknpebphpeiaaOrdL
import Derived.Test.YtiiknpebphpeiaaCntI
import Derived.Test.YtiiknpebphpeiaaWayI
import Derived.Test.YtiiknpebphpeiaaWayJ
import Derived.Test.YtiiknpebphpeiaaWayS
import Derived.Test.YtiiknpebphpeiaaWayT
import Derived.Test.YtiiknpebphpeiaaOpenD
import Derived.WalkKit
import Derived.WalkLawsBesides
import Derived.WalkSpells
import Derived.ProofKit
import Derived.OpenShut
import Derived.Deep.RegionWith
import Derived.Deep.QuietTactic
import Derived.BigQuiet
namespace Go.Proofs.Ytiiknpebphpeiaa
open Go.ChangeShapes Go.WideShapes Go.ChangeAt Go.RowKit
open Go.ChangeMaps (open_string shut_string)

namespace MenM
open Dice Arr OpenD DieW SortW DicesW PoolW All6 IntsW RollW Four OwnL OrdM OrdT OrdW OrdO OrdI OrdK OrdS AnyR MapO OrdN OrdL CntI WayI WayJ WayS WayT OpenG LtrM LtrS LtrP LtrI LtrK LtrO LevW LtrW TurnW


def mxs (F : Nat → Int) : Nat → Int
  | 0 => F 0
  | i + 1 => max (mxs F i) (F i)
def mns (F : Nat → Int) : Nat → Int
  | 0 => F 0
  | i + 1 => min (mns F i) (F i)
theorem mxs_in {F : Nat → Int} (h : ∀ i, 0 ≤ F i ∧ F i ≤ 1296) : ∀ i, (0 ≤ mxs F i ∧ mxs F i ≤ 1296) ∧ (0 ≤ mns F i ∧ mns F i ≤ 1296)
  | 0 => ⟨h 0, h 0⟩
  | i + 1 => by
    have := mxs_in h i
    have := h i
    show (0 ≤ max _ _ ∧ max _ _ ≤ 1296) ∧ (0 ≤ min _ _ ∧ min _ _ ≤ 1296)
    omega
theorem mxs_of (F : Nat → Int) (m : Nat) : ∀ k, k + 1 ≤ m → Lib.maxOf ((zl F m).take (k + 1)) = mxs F (k + 1) ∧ Lib.minOf ((zl F m).take (k + 1)) = mns F (k + 1)
  | 0, h => by
    rw [Lib.maxOf_one, Lib.minOf_one, zl_get (by omega)]
    show _ = max (F 0) (F 0) ∧ _ = min (F 0) (F 0)
    omega
  | k + 1, h => by
    obtain ⟨e1, e2⟩ := mxs_of F m k (by omega)
    rw [Lib.maxOf_step _ _ (by omega) (by rw [zl_len]; omega), Lib.minOf_step _ _ (by omega) (by rw [zl_len]; omega), zl_get (by omega), e1, e2]
    exact ⟨rfl, rfl⟩
/-- The difference between the greatest and the least number of ways. -/
def spW (n : Nat) (f : Nat → Int) : Int := mxs (fL n f) (ordL (n / 6)).length - mns (fL n f) (ordL (n / 6)).length
theorem fL_in {m : Nat} (f : Nat → Int) (h4 : m ≤ 4) (i : Nat) : 0 ≤ fL (6 * m) f i ∧ fL (6 * m) f i ≤ 1296 := by
  rw [fL_yes]
  show 0 ≤ ((cnt (gO (lq f (6 * m)) m) (all6 m) _ : Nat) : Int) ∧ _
  have := cnt_small (lq f (6 * m)) h4 ((ordL m).getD i (0, 0, 0, 0))
  constructor
  · omega
  · show ((cnt (gO (lq f (6 * m)) m) (all6 m) ((ordL m).getD i (0, 0, 0, 0)) : Nat) : Int) ≤ 1296
    omega
theorem spW_in {m : Nat} (f : Nat → Int) (h4 : m ≤ 4) : -1296 ≤ spW (6 * m) f ∧ spW (6 * m) f ≤ 1296 := by
  have := mxs_in (fL_in f h4) (ordL (6 * m / 6)).length
  unfold spW
  omega
/-- Two letters exchanged. -/
def swl (f : Nat → Int) (i : Nat) : Nat → Int := put (put f i (f (i + 1))) (i + 1) (f i)
theorem cl_congr {f g : Nat → Int} {p : Int} : ∀ i, (∀ j, j < i → f j = g j) → cl f i p = cl g i p
  | 0, _ => rfl
  | i + 1, h => by
    show (if f i = p then cl f i p + 1 else cl f i p) = (if g i = p then cl g i p + 1 else cl g i p)
    rw [h i (by omega), cl_congr i (fun j hj => h j (by omega))]
theorem swl_lo (f : Nat → Int) {i j : Nat} (h : j < i) : swl f i j = f j := by unfold swl; rw [put_other _ (by omega), put_other _ (by omega)]
theorem swl_hi (f : Nat → Int) {i j : Nat} (h : i + 1 < j) : swl f i j = f j := by unfold swl; rw [put_other _ (by omega), put_other _ (by omega)]
theorem swl_a (f : Nat → Int) (i : Nat) : swl f i i = f (i + 1) := by unfold swl; rw [put_other _ (by omega), put_same]
theorem swl_b (f : Nat → Int) (i : Nat) : swl f i (i + 1) = f i := by unfold swl; rw [put_same]
theorem cl_swl (f : Nat → Int) (i : Nat) (p : Int) : ∀ d, cl (swl f i) (i + 2 + d) p = cl f (i + 2 + d) p
  | 0 => by
    have e := cl_congr (f := swl f i) (g := f) (p := p) i (fun j hj => swl_lo f hj)
    simp only [cl, swl_a, swl_b, e]
    by_cases a : f i = p <;> by_cases b : f (i + 1) = p <;> simp [a, b]
  | d + 1 => by
    have ih := cl_swl f i p d
    rw [← Nat.add_assoc]
    show (if swl f i (i + 2 + d) = p then cl (swl f i) (i + 2 + d) p + 1 else cl (swl f i) (i + 2 + d) p) = (if f (i + 2 + d) = p then cl f (i + 2 + d) p + 1 else cl f (i + 2 + d) p)
    rw [swl_hi f (by omega), ih]
theorem ok_swl {f : Nat → Int} {n i : Nat} (h : Ok f n) (hi : i + 1 < n) : Ok (swl f i) n := by
  obtain ⟨m, hm, h1, h4, hr, hc⟩ := h
  refine ⟨m, hm, h1, h4, fun j hj => ?_, fun p hp => ?_⟩
  · by_cases a : j = i
    · subst a; rw [swl_a]; exact hr _ hi
    · by_cases b : j = i + 1
      · subst b; rw [swl_b]; exact hr _ (by omega)
      · by_cases c : j < i
        · rw [swl_lo f c]; exact hr j hj
        · rw [swl_hi f (by omega)]; exact hr j hj
  · have := cl_swl f i p (n - (i + 2))
    rw [show i + 2 + (n - (i + 2)) = n by omega] at this
    rw [this]
    exact hc p hp
/-- The best after i exchanges. -/
def be (n : Nat) (f : Nat → Int) : Nat → (Nat → Int) × Int
  | 0 => (f, spW n f)
  | i + 1 => if spW n (swl f i) < (be n f i).2 then (swl f i, spW n (swl f i)) else be n f i
theorem be_yes {n : Nat} {f : Nat → Int} {i : Nat} (h : spW n (swl f i) < (be n f i).2) : be n f (i + 1) = (swl f i, spW n (swl f i)) := if_pos h
theorem be_no {n : Nat} {f : Nat → Int} {i : Nat} (h : ¬ spW n (swl f i) < (be n f i).2) : be n f (i + 1) = be n f i := if_neg h


end MenM
end Go.Proofs.Ytiiknpebphpeiaa
