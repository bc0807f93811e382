/-
  How often one table's number is greater than another one's, or the same; without any program.
-/
import Derived.Test.YtllcjgladjcoaabTable
namespace Go.Proofs.Ytllcjgladjcoaab
open Go.RowKit
namespace Over
open Dice Arr SumsW Table

/-- The ways of the first x sums against less ones. -/
def over (f g : Nat → Int) : Nat → Int
  | 0 => 0
  | x + 1 => over f g x + f x * pre g x
/-- The ways of the first x sums against the same ones. -/
def level (f g : Nat → Int) : Nat → Int
  | 0 => 0
  | x + 1 => level f g x + f x * g x
theorem mul_bound {a b : Int} (ha : 0 ≤ a) (hb : 0 ≤ b) (h : b ≤ 1296) : 0 ≤ a * b ∧ a * b ≤ 1296 * a :=
  ⟨Int.mul_nonneg ha hb, by rw [Int.mul_comm 1296 a]; exact Int.mul_le_mul_of_nonneg_left h ha⟩
theorem pre_small {g : Nat → Int} {m : Nat} (hg : Tab g m) (hm : m ≤ 4) {y : Nat} (hy : y ≤ 121) : 0 ≤ pre g y ∧ pre g y ≤ 1296 := by
  have h1 := pre_mono hg.nn hy
  have h2 := hg.sum
  have h3 := pow_le hm
  have h4 := pre_nn hg.nn y
  omega
theorem over_bound {f g : Nat → Int} {n m : Nat} (hf : Tab f n) (hg : Tab g m) (hm : m ≤ 4) : ∀ x, x ≤ 121 → 0 ≤ over f g x ∧ over f g x ≤ 1296 * pre f x := by
  intro x
  induction x with
  | zero => intro _; simp [over, pre]
  | succ x ih =>
    intro hx
    have h1 := ih (by omega)
    have h2 := pre_small hg hm (y := x) (by omega)
    have h3 := mul_bound (hf.nn x) h2.1 h2.2
    have e := pre_succ f x
    rw [over, e]
    omega
theorem level_bound {f g : Nat → Int} {n m : Nat} (hf : Tab f n) (hg : Tab g m) (hm : m ≤ 4) : ∀ x, x ≤ 121 → 0 ≤ level f g x ∧ level f g x ≤ 1296 * pre f x := by
  intro x
  induction x with
  | zero => intro _; simp [level, pre]
  | succ x ih =>
    intro hx
    have h1 := ih (by omega)
    have h2 := hg.small hm x (by omega)
    have h3 := mul_bound (hf.nn x) h2.1 h2.2
    have e := pre_succ f x
    rw [level, e]
    omega
theorem over_part {f g : Nat → Int} {n m : Nat} (hf : Tab f n) (hg : Tab g m) (hn : n ≤ 4) (hm : m ≤ 4) {x y : Nat} (hx : x < 121) (hy : y ≤ 121) : 0 ≤ over f g x ∧ 0 ≤ f x * pre g y ∧ over f g x + f x * pre g y ≤ 1679616 := by
  have h1 := over_bound hf hg hm x (by omega)
  have h2 := pre_small hg hm hy
  have h3 := mul_bound (hf.nn x) h2.1 h2.2
  have h4 := (pre_small hf hn (y := x + 1) (by omega)).2
  have e := pre_succ f x
  omega
theorem level_part {f g : Nat → Int} {n m : Nat} (hf : Tab f n) (hg : Tab g m) (hn : n ≤ 4) (hm : m ≤ 4) {x : Nat} (hx : x < 121) : 0 ≤ level f g x ∧ 0 ≤ f x * g x ∧ level f g x + f x * g x ≤ 1679616 := by
  have h1 := level_bound hf hg hm x (by omega)
  have h2 := hg.small hm x hx
  have h3 := mul_bound (hf.nn x) h2.1 h2.2
  have h4 := (pre_small hf hn (y := x + 1) (by omega)).2
  have e := pre_succ f x
  omega
theorem over_whole {f g : Nat → Int} {n m : Nat} (hf : Tab f n) (hg : Tab g m) (hn : n ≤ 4) (hm : m ≤ 4) {x : Nat} (hx : x ≤ 121) : 0 ≤ over f g x ∧ over f g x ≤ 1679616 := by
  have h1 := over_bound hf hg hm x hx
  have h4 := (pre_small hf hn hx).2
  omega
theorem level_whole {f g : Nat → Int} {n m : Nat} (hf : Tab f n) (hg : Tab g m) (hn : n ≤ 4) (hm : m ≤ 4) {x : Nat} (hx : x ≤ 121) : 0 ≤ level f g x ∧ level f g x ≤ 1679616 := by
  have h1 := level_bound hf hg hm x hx
  have h4 := (pre_small hf hn hx).2
  omega
theorem over_step (f g : Nat → Int) (x y : Nat) : over f g x + f x * pre g (y + 1) = over f g x + f x * pre g y + f x * g y := by
  rw [pre_succ, Int.mul_add]
  omega

theorem cut_zero (x : Nat) : (if 0 < x then 0 else x) = 0 := by split <;> omega
theorem cut_lt {x y : Nat} (h : y < x) : (if y + 1 < x then y + 1 else x) = y + 1 := by split <;> omega
theorem cut_ge {x y : Nat} (h : ¬ y < x) : (if y + 1 < x then y + 1 else x) = x := by rw [if_neg (by omega)]

end Over
end Go.Proofs.Ytllcjgladjcoaab
