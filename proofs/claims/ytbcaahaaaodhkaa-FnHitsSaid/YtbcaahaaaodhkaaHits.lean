/-
  Numbers of dice that hit a bound, without any program.
-/
import Derived.Test.YtbcaahaaaodhkaaArr
namespace Go.Proofs.Ytbcaahaaaodhkaa
open Go.RowKit
namespace Hits
open Arr

/-- How many of the first k faces are at least b. -/
def hitN (d : Nat → Int) (b : Int) : Nat → Nat
  | 0 => 0
  | k + 1 => hitN d b k + (if b ≤ d k then 1 else 0)
theorem hitN_le (d : Nat → Int) (b : Int) (k : Nat) : hitN d b k ≤ k := by
  induction k with
  | zero => exact Nat.le_refl _
  | succ k ih => unfold hitN; split <;> omega
theorem hitN_yes {d : Nat → Int} {b : Int} {k : Nat} (h : b ≤ d k) : hitN d b (k + 1) = hitN d b k + 1 := by
  show hitN d b k + (if b ≤ d k then 1 else 0) = _
  rw [if_pos h]
theorem hitN_no {d : Nat → Int} {b : Int} {k : Nat} (h : ¬ b ≤ d k) : hitN d b (k + 1) = hitN d b k := by
  show hitN d b k + (if b ≤ d k then 1 else 0) = _
  rw [if_neg h]
  rfl
/-- What is made of the first k numbers of a table when a die with h hits comes. -/
def hs (f : Nat → Int) (h k : Nat) : Nat → Int := fun j => (if j < k then f j * (6 - (h : Int)) else 0) + (if 1 ≤ j ∧ j ≤ k then f (j - 1) * (h : Int) else 0)
theorem hs_in {f : Nat → Int} {h k j : Nat} (h1 : 1 ≤ j) (h2 : j < k) : hs f h k j = f j * (6 - (h : Int)) + f (j - 1) * (h : Int) := by
  unfold hs
  rw [if_pos h2, if_pos (⟨h1, by omega⟩ : 1 ≤ j ∧ j ≤ k)]
theorem hs_first {f : Nat → Int} {h k : Nat} (h2 : 0 < k) : hs f h k 0 = f 0 * (6 - (h : Int)) := by
  unfold hs
  rw [if_pos h2, if_neg (by omega : ¬ (1 ≤ 0 ∧ 0 ≤ k)), Int.add_zero]
theorem hs_last {f : Nat → Int} {h k : Nat} : hs f h (k + 1) (k + 1) = f k * (h : Int) := by
  unfold hs
  rw [if_neg (by omega : ¬ k + 1 < k + 1), if_pos (by omega : 1 ≤ k + 1 ∧ k + 1 ≤ k + 1), Int.zero_add]
  rfl
theorem hs_out {f : Nat → Int} {h k j : Nat} (h1 : k < j) : hs f h k j = 0 := by
  unfold hs
  rw [if_neg (by omega : ¬ j < k), if_neg (by omega : ¬ (1 ≤ j ∧ j ≤ k))]
  rfl
theorem hs_none {f : Nat → Int} {h j : Nat} : hs f h 0 j = 0 := by
  unfold hs
  rw [if_neg (by omega : ¬ j < 0), if_neg (by omega : ¬ (1 ≤ j ∧ j ≤ 0))]
  rfl
theorem hs_zero (f : Nat → Int) (h : Nat) : hs f h 0 = fun _ => 0 := funext fun _ => hs_none
theorem hs_put (f : Nat → Int) (h k : Nat) : put (put (hs f h k) k (hs f h k k + f k * (6 - (h : Int)))) (k + 1) (hs f h k (k + 1) + f k * (h : Int)) = hs f h (k + 1) := by
  funext j
  by_cases h1 : j = k + 1
  · subst h1
    rw [put_same, hs_out (by omega), hs_last, Int.zero_add]
  rw [put_other _ h1]
  by_cases h2 : j = k
  · subst h2
    rw [put_same]
    rcases j with _ | j
    · rw [hs_none, hs_first (by omega), Int.zero_add]
    · rw [hs_last, hs_in (by omega) (by omega), Int.add_comm]
      rfl
  rw [put_other _ h2]
  by_cases h3 : j < k
  · rcases j with _ | j
    · rw [hs_first (by omega), hs_first (by omega)]
    · rw [hs_in (by omega) (by omega), hs_in (by omega) (by omega)]
  · rw [hs_out (by omega), hs_out (by omega)]
theorem part_bound {x m : Int} {h : Nat} (h0 : 0 ≤ x) (hm : x ≤ m) (hh : h ≤ 6) : 0 ≤ x * (6 - (h : Int)) ∧ x * (6 - (h : Int)) ≤ 6 * m ∧ 0 ≤ x * (h : Int) ∧ x * (h : Int) ≤ 6 * m := by
  obtain rfl | rfl | rfl | rfl | rfl | rfl | rfl : h = 0 ∨ h = 1 ∨ h = 2 ∨ h = 3 ∨ h = 4 ∨ h = 5 ∨ h = 6 := by omega
  all_goals omega
theorem mix_bound {x y m : Int} {h : Nat} (h0 : 0 ≤ x) (hm : x ≤ m) (h1 : 0 ≤ y) (hm1 : y ≤ m) (hh : h ≤ 6) : 0 ≤ x * (6 - (h : Int)) + y * (h : Int) ∧ x * (6 - (h : Int)) + y * (h : Int) ≤ 6 * m := by
  obtain rfl | rfl | rfl | rfl | rfl | rfl | rfl : h = 0 ∨ h = 1 ∨ h = 2 ∨ h = 3 ∨ h = 4 ∨ h = 5 ∨ h = 6 := by omega
  all_goals omega
/-- A table of i dice: no number is less than 0 or greater than m, and those above i are 0. -/
structure HTab (f : Nat → Int) (i : Nat) (m : Int) : Prop where
  nn : ∀ j, 0 ≤ f j ∧ f j ≤ m
  sup : ∀ j, i < j → f j = 0
theorem HTab.hs_bound {f : Nat → Int} {i : Nat} {m : Int} (t : HTab f i m) {h : Nat} (hh : h ≤ 6) (k j : Nat) : 0 ≤ hs f h k j ∧ hs f h k j ≤ 6 * m := by
  have a := t.nn j
  have b := t.nn (j - 1)
  have p := part_bound a.1 a.2 hh
  have q := part_bound b.1 b.2 hh
  have r := mix_bound a.1 a.2 b.1 b.2 hh
  unfold hs
  split <;> split <;> omega
theorem HTab.cut {f : Nat → Int} {i : Nat} {m : Int} (t : HTab f i m) (h : Nat) {k : Nat} (hk : i < k) : hs f h k = hs f h (i + 1) := by
  funext j
  by_cases h1 : j < i + 1
  · rcases j with _ | j
    · rw [hs_first (by omega), hs_first (by omega)]
    · rw [hs_in (by omega) (by omega), hs_in (by omega) (by omega)]
  by_cases h2 : j = i + 1
  · subst h2
    rw [hs_last]
    by_cases h3 : i + 1 < k
    · rw [hs_in (by omega) h3, t.sup (i + 1) (by omega)]
      simp
    · obtain rfl : k = i + 1 := by omega
      rw [hs_last]
  · rw [hs_out (by omega : i + 1 < j)]
    unfold hs
    rw [t.sup j (by omega), t.sup (j - 1) (by omega)]
    simp
theorem HTab.next {f : Nat → Int} {i : Nat} {m : Int} (t : HTab f i m) {h : Nat} (hh : h ≤ 6) : HTab (hs f h (i + 1)) (i + 1) (6 * m) := by
  exact ⟨fun j => t.hs_bound hh _ j, fun j hj => hs_out hj⟩
def one5 : Nat → Int := fun j => if j = 0 then 1 else 0
/-- The table of the first i dice. -/
def HT (P : Nat → Nat → Int) (b : Int) : Nat → Nat → Int
  | 0 => one5
  | i + 1 => hs (HT P b i) (hitN (P i) b 6) (i + 1)
theorem tab_HT (P : Nat → Nat → Int) (b : Int) (i : Nat) : HTab (HT P b i) i ((6 ^ i : Nat) : Int) := by
  induction i with
  | zero => exact ⟨fun j => by show 0 ≤ one5 j ∧ one5 j ≤ 1; unfold one5; split <;> omega, fun j hj => by show one5 j = 0; unfold one5; rw [if_neg (by omega)]⟩
  | succ i ih =>
    have := ih.next (hitN_le (P i) b 6)
    have e : ((6 ^ (i + 1) : Nat) : Int) = 6 * ((6 ^ i : Nat) : Int) := by rw [Nat.pow_succ]; omega
    rw [e]
    exact this
theorem six_pow {i : Nat} (h : i ≤ 4) : 6 ^ i ≤ 1296 ∧ 1 ≤ 6 ^ i := by
  obtain rfl | rfl | rfl | rfl | rfl : i = 0 ∨ i = 1 ∨ i = 2 ∨ i = 3 ∨ i = 4 := by omega
  all_goals decide
theorem HT_small (P : Nat → Nat → Int) (b : Int) {i : Nat} (h : i ≤ 4) : HTab (HT P b i) i 1296 := by
  have h1 := tab_HT P b i
  have h2 := six_pow h
  exact ⟨fun j => by have := h1.nn j; omega, h1.sup⟩
/-- The numbers of a table from k on, up to n. -/
def upto (f : Nat → Int) (k : Nat) : Nat → Int
  | 0 => 0
  | n + 1 => upto f k n + f (k + n)
theorem upto_bound {f : Nat → Int} {m : Int} (h : ∀ j, 0 ≤ f j ∧ f j ≤ m) (k n : Nat) : 0 ≤ upto f k n ∧ upto f k n ≤ n * m := by
  induction n with
  | zero => simp [upto]
  | succ n ih =>
    have := h (k + n)
    unfold upto
    have e : ((n + 1 : Nat) : Int) * m = n * m + m := by rw [Int.natCast_add, Int.add_mul]; simp
    omega

end Hits
end Go.Proofs.Ytbcaahaaaodhkaa
