/-
  Sums of numbers and of numbers of dice, without any program.
-/
import Derived.Test.YtddnlbahelgadaaArr
import Derived.Test.YtddnlbahelgadaaOpenD
namespace Go.Proofs.Ytddnlbahelgadaa
open Go.RowKit
namespace SumsW
open Dice Arr

/-- Sums of the first numbers. -/
def pre (d : Nat → Int) : Nat → Int
  | 0 => 0
  | k + 1 => pre d k + d k
def sq (d : Nat → Int) (k : Nat) : Int := d k * d k
def S (d : Nat → Int) : Int := pre d 6
/-- A number of each die, added up. -/
def tot (F : (Nat → Int) → Int) (P : Nat → Nat → Int) : Nat → Int
  | 0 => 0
  | n + 1 => tot F P n + F (P n)
theorem pre_bound {d : Nat → Int} {m : Int} (h : ∀ k, k < 6 → 0 ≤ d k ∧ d k ≤ m) : ∀ k, k ≤ 6 → 0 ≤ pre d k ∧ pre d k ≤ k * m := by
  intro k
  induction k with
  | zero => intro _; simp [pre]
  | succ k ih =>
    intro hk
    have h1 := ih (by omega)
    have h2 := h k (by omega)
    have e : ((k + 1 : Nat) : Int) * m = k * m + m := by rw [Int.natCast_add, Int.add_mul]; simp
    rw [e]
    unfold pre
    omega

theorem tot_bound {F : (Nat → Int) → Int} {P : Nat → Nat → Int} {n : Nat} (h : ∀ i, i < n → 0 ≤ F (P i) ∧ F (P i) ≤ 100000) : ∀ k, k ≤ n → 0 ≤ tot F P k ∧ tot F P k ≤ k * 100000 := by
  intro k
  induction k with
  | zero => intro _; simp [tot]
  | succ k ih =>
    intro hk
    have h1 := ih (by omega)
    have h2 := h k (by omega)
    unfold tot
    omega
theorem sq_bound {x : Int} (h : 0 ≤ x ∧ x ≤ 30) : 0 ≤ x * x ∧ x * x ≤ 900 := by
  have h1 := Int.mul_nonneg h.1 h.1
  have h2 : x * x ≤ 30 * 30 := Int.mul_le_mul h.2 h.2 h.1 (by omega)
  omega
theorem sq_bound' {x : Int} (h : 0 ≤ x ∧ x ≤ (6 : Nat) * 30) : 0 ≤ x * x ∧ x * x ≤ 32400 := by
  have h1 := Int.mul_nonneg h.1 h.1
  have h2 : x * x ≤ 180 * 180 := Int.mul_le_mul (by omega) (by omega) h.1 (by omega)
  omega


end SumsW
end Go.Proofs.Ytddnlbahelgadaa
