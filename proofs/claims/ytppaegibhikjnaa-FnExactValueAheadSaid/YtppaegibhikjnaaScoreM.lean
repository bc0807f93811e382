/-
  Scores of rolls, without any program.
-/
import Derived.WalkKit
import Derived.Lib.Slices
import Derived.Test.YtppaegibhikjnaaAgainM
namespace Go.Proofs.Ytppaegibhikjnaa
namespace ScoreM
open AgainM

/-- The greatest face, and whether all are the same. -/
def mx (f : Nat → Int) : Nat → Int
  | 0 => 0
  | k + 1 => if f k < mx f k then mx f k else f k
def alk (f : Nat → Int) : Nat → Bool
  | 0 => true
  | k + 1 => alk f k && f k == f 0
/-- The score that a valid goal gives to a roll. -/
def scoreV (k b : Int) (f : Nat → Int) (n : Nat) : Int :=
  if k = 1 then psum f n else if k = 2 then (if b ≤ psum f n then 1 else 0) else if k = 3 then (if psum f n = b then 1 else 0) else if k = 4 then mx f n else (if alk f n then 1 else 0)
theorem mx_bound {f : Nat → Int} {B : Nat} : ∀ k, (∀ j, j < k → 0 ≤ f j ∧ f j ≤ B) → 0 ≤ mx f k ∧ mx f k ≤ B
  | 0, _ => by simp [mx]
  | k + 1, h => by
    have h1 := mx_bound k (fun j hj => h j (by omega))
    have h2 := h k (by omega)
    unfold mx
    split <;> omega
theorem scoreV_bound {k b : Int} {f : Nat → Int} {n : Nat} (hn : n ≤ 3) (h : ∀ j, j < n → 0 ≤ f j ∧ f j ≤ 30) : 0 ≤ scoreV k b f n ∧ scoreV k b f n ≤ 90 := by
  have h1 := psum_bound (B := 30) n h
  have h2 := mx_bound (B := 30) n h
  unfold scoreV
  repeat' split
  all_goals omega
def ints (F : Nat → Int) (n : Nat) : List Int := (List.range n).map F
theorem ints_len (F : Nat → Int) (n : Nat) : (ints F n).length = n := by simp [ints]
theorem ints_get {F : Nat → Int} {n k : Nat} (h : k < n) : (ints F n).getD k 0 = F k := by simp [ints, h]
theorem max_mx {F : Nat → Int} {n : Nat} (h1 : 1 ≤ n) (h3 : n ≤ 3) (h : ∀ j, j < n → 0 ≤ F j ∧ F j ≤ 30) : Lib.maxOf ((ints F n).take n) = mx F n := by
  have h0 := h 0 (by omega)
  obtain rfl | rfl | rfl : n = 1 ∨ n = 2 ∨ n = 3 := by omega
  · rw [Lib.maxOf_one, ints_get (by omega)]
    show F 0 = if F 0 < 0 then 0 else F 0
    exact (if_neg (by omega)).symm
  · rw [Lib.maxOf_step _ 1 (by omega) (by rw [ints_len]; omega), Lib.maxOf_one, ints_get (by omega), ints_get (by omega)]
    show max (F 0) (F 1) = if F 1 < (if F 0 < 0 then 0 else F 0) then (if F 0 < 0 then 0 else F 0) else F 1
    rw [if_neg (show ¬ F 0 < 0 by omega)]
    split <;> omega
  · rw [Lib.maxOf_step _ 2 (by omega) (by rw [ints_len]; omega), Lib.maxOf_step _ 1 (by omega) (by rw [ints_len]; omega), Lib.maxOf_one, ints_get (by omega), ints_get (by omega), ints_get (by omega)]
    show max (max (F 0) (F 1)) (F 2) = if F 2 < (if F 1 < (if F 0 < 0 then 0 else F 0) then (if F 0 < 0 then 0 else F 0) else F 1) then (if F 1 < (if F 0 < 0 then 0 else F 0) then (if F 0 < 0 then 0 else F 0) else F 1) else F 2
    rw [if_neg (show ¬ F 0 < 0 by omega)]
    by_cases h01 : F 1 < F 0
    · rw [if_pos h01]
      split <;> omega
    · rw [if_neg h01]
      split <;> omega
theorem min_max {F : Nat → Int} {n : Nat} (h1 : 1 ≤ n) (h3 : n ≤ 3) : (Lib.minOf ((ints F n).take n) == Lib.maxOf ((ints F n).take n)) = alk F n := by
  obtain rfl | rfl | rfl : n = 1 ∨ n = 2 ∨ n = 3 := by omega
  · rw [Lib.maxOf_one, Lib.minOf_one, ints_get (by omega)]
    simp [alk]
  · rw [Lib.maxOf_step _ 1 (by omega) (by rw [ints_len]; omega), Lib.maxOf_one, Lib.minOf_step _ 1 (by omega) (by rw [ints_len]; omega), Lib.minOf_one, ints_get (by omega), ints_get (by omega)]
    simp only [alk]
    rw [Bool.eq_iff_iff]
    simp
    omega
  · rw [Lib.maxOf_step _ 2 (by omega) (by rw [ints_len]; omega), Lib.maxOf_step _ 1 (by omega) (by rw [ints_len]; omega), Lib.maxOf_one, Lib.minOf_step _ 2 (by omega) (by rw [ints_len]; omega), Lib.minOf_step _ 1 (by omega) (by rw [ints_len]; omega), Lib.minOf_one, ints_get (by omega), ints_get (by omega), ints_get (by omega)]
    simp only [alk]
    rw [Bool.eq_iff_iff]
    simp
    omega

end ScoreM
end Go.Proofs.Ytppaegibhikjnaa
