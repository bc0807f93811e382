/-
  The text of dice, without any program.
-/
import Derived.Test.YtllcjgladjcoaacDoorRows
import Derived.Test.YtllcjgladjcoaacDoorNumW
import Derived.Test.YtllcjgladjcoaacDoorJoin
import Derived.Test.YtllcjgladjcoaacDoorTexts
import Derived.Test.YtllcjgladjcoaacDoorDice
import Derived.Test.YtllcjgladjcoaacDoorOpenD
import Derived.WalkKit
import Derived.WalkLawsBesides
import Derived.WalkSpells
import Derived.ProofKit
import Derived.OpenShut
import Derived.Deep.RegionWith
import Derived.Deep.QuietTactic
import Derived.BigQuiet
namespace Go.Proofs.YtllcjgladjcoaacDoor
open Go.ChangeShapes Go.WideShapes Go.ChangeAt Go.RowKit
open Go.ChangeMaps (open_string shut_string)

namespace PText
open Texts Joined Dice

/-- The texts of the first k faces, joined by points. -/
def fl (d : Nat → Int) (k : Nat) : List (List UInt8) := (List.range k).map fun j => Lib.itoa (d j)
def dt (d : Nat → Int) (k : Nat) : List UInt8 := jn 46 (fl d k)
def txt (d : Nat → Int) : List UInt8 := dt d 6
/-- The texts of the first k dice, joined by blanks. -/
def tl (P : Nat → Nat → Int) (k : Nat) : List (List UInt8) := (List.range k).map fun i => txt (P i)
def pt (P : Nat → Nat → Int) (k : Nat) : List UInt8 := jn 32 (tl P k)
theorem fl_succ (d : Nat → Int) (k : Nat) : fl d (k + 1) = fl d k ++ [Lib.itoa (d k)] := by simp [fl, List.range_succ]
theorem fl_len (d : Nat → Int) (k : Nat) : (fl d k).length = k := by simp [fl]
theorem tl_succ (P : Nat → Nat → Int) (k : Nat) : tl P (k + 1) = tl P k ++ [txt (P k)] := by simp [tl, List.range_succ]
theorem tl_len (P : Nat → Nat → Int) (k : Nat) : (tl P k).length = k := by simp [tl]
theorem dt_one (d : Nat → Int) : dt d 1 = Lib.itoa (d 0) := jn_one 46 _
theorem ne_nil {α : Type} {l : List α} (h : 0 < l.length) : l ≠ [] := fun e => by rw [e] at h; exact absurd h (Nat.lt_irrefl 0)
theorem dt_succ (d : Nat → Int) {k : Nat} (hk : 0 < k) : dt d (k + 1) = dt d k ++ (46 :: Lib.itoa (d k)) := by
  unfold dt
  rw [fl_succ, jn_snoc 46 (ne_nil (by rw [fl_len]; exact hk))]
theorem pt_zero (P : Nat → Nat → Int) : pt P 0 = [] := jn_nil 32
theorem pt_one (P : Nat → Nat → Int) : pt P 1 = txt (P 0) := jn_one 32 _
theorem pt_succ (P : Nat → Nat → Int) {k : Nat} (hk : 0 < k) : pt P (k + 1) = pt P k ++ (32 :: txt (P k)) := by
  unfold pt
  rw [tl_succ, jn_snoc 32 (ne_nil (by rw [tl_len]; exact hk))]
theorem digits_small {n : Int} (h0 : 0 ≤ n) (h1 : n ≤ 30) : (Lib.itoa n).length ≤ 21 := Lib.itoa_length_le n (by omega) (by omega)
theorem dt_len (d : Nat → Int) (h : ∀ k, k < 6 → 0 ≤ d k ∧ d k ≤ 30) : ∀ k, 0 < k → k ≤ 6 → (dt d k).length ≤ 22 * k := by
  intro k
  induction k with
  | zero => intro h0; omega
  | succ k ih =>
    intro _ hk
    have hd := digits_small (h k (by omega)).1 (h k (by omega)).2
    by_cases h0 : k = 0
    · subst h0
      rw [dt_one]
      omega
    · have := ih (by omega) (by omega)
      rw [dt_succ d (by omega), List.length_append, List.length_cons]
      omega
theorem txt_len (d : Nat → Int) (h : ∀ k, k < 6 → 0 ≤ d k ∧ d k ≤ 30) : (txt d).length ≤ 132 := dt_len d h 6 (by omega) (by omega)
theorem pt_len (P : Nat → Nat → Int) : ∀ n, (∀ i, i < n → ∀ k, k < 6 → 0 ≤ P i k ∧ P i k ≤ 30) → (pt P n).length ≤ 133 * n := by
  intro n
  induction n with
  | zero => intro _; rw [pt_zero]; exact Nat.le_refl _
  | succ n ih =>
    intro h
    have hd := txt_len (P n) (h n (by omega))
    have := ih fun i hi => h i (by omega)
    by_cases h0 : n = 0
    · subst h0
      rw [pt_one]
      omega
    · rw [pt_succ P (by omega), List.length_append, List.length_cons]
      omega


end PText
end Go.Proofs.YtllcjgladjcoaacDoor
