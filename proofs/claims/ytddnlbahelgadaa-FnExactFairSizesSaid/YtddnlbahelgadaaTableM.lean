/-
  Tables of sums as functions of numbers, without any program.
-/
import Derived.Test.YtddnlbahelgadaaSumsM
namespace Go.Proofs.Ytddnlbahelgadaa
open Go.RowKit
namespace Table
open Dice Arr SumsW

theorem pre_succ (g : Nat → Int) (n : Nat) : pre g (n + 1) = pre g n + g n := rfl
def bump (g : Nat → Int) (j : Nat) (v : Int) : Nat → Int := put g j (g j + v)
/-- The faces of a die added to a sum, k of them. -/
def inner (f d : Nat → Int) (s : Nat) : Nat → (Nat → Int) → Nat → Int
  | 0, g => g
  | k + 1, g => bump (inner f d s k g) (s + (d k).toNat) (f s)
def outer (f d : Nat → Int) : Nat → Nat → Int
  | 0 => fun _ => 0
  | s + 1 => inner f d s 6 (outer f d s)
theorem bump_zero (g : Nat → Int) (j : Nat) : bump g j 0 = g := by
  funext k
  unfold bump put
  split
  · rename_i h; rw [h]; omega
  · rfl
theorem inner_zero {f d : Nat → Int} {s : Nat} (h : f s = 0) (k : Nat) (g : Nat → Int) : inner f d s k g = g := by
  induction k with
  | zero => rfl
  | succ k ih => rw [inner, h, bump_zero, ih]
theorem pre_put (g : Nat → Int) (j : Nat) (v : Int) (n : Nat) : pre (put g j v) n = pre g n + (if j < n then v - g j else 0) := by
  induction n with
  | zero => simp [pre]
  | succ n ih =>
    unfold pre
    rw [ih]
    by_cases hj : j < n
    · rw [if_pos hj, if_pos (by omega), put_other v (by omega)]
      omega
    · by_cases hjn : j = n
      · subst hjn
        rw [if_neg hj, if_pos (by omega), put_same]
        omega
      · rw [if_neg hj, if_neg (by omega), put_other v (by omega)]
        omega
theorem pre_bump (g : Nat → Int) {j n : Nat} {v : Int} (h : j < n ∨ v = 0) : pre (bump g j v) n = pre g n + v := by
  unfold bump
  rw [pre_put]
  split <;> omega
theorem le_pre {g : Nat → Int} (h : ∀ j, 0 ≤ g j) : ∀ n j, j < n → g j ≤ pre g n ∧ 0 ≤ pre g n := by
  intro n
  induction n with
  | zero => intro j hj; omega
  | succ n ih =>
    intro j hj
    unfold pre
    have h0 := h n
    have hp : 0 ≤ pre g n := by
      cases n with
      | zero => simp [pre]
      | succ m => exact (ih 0 (by omega)).2
    by_cases hjn : j = n
    · subst hjn
      omega
    · have := ih j (by omega)
      omega

/-- A table of i dice. -/
structure Tab (f : Nat → Int) (i : Nat) : Prop where
  nn : ∀ j, 0 ≤ f j
  sup : ∀ j, f j ≠ 0 → j ≤ 30 * i
  sum : pre f 121 = 6 ^ i
/-- Behind s whole sums and k faces of the next one. -/
structure Mid (f d g : Nat → Int) (i s k : Nat) : Prop where
  nn : ∀ j, 0 ≤ g j
  sup : ∀ j, g j ≠ 0 → j ≤ 30 * i + 30
  sum : pre g 121 = 6 * pre f s + k * f s
theorem Mid.start (f d : Nat → Int) (i : Nat) : Mid f d (outer f d 0) i 0 0 := ⟨fun j => by simp [outer], fun j h => by simp [outer] at h, by
  show pre (fun _ => 0) 121 = 6 * pre f 0 + 0 * f 0
  have : ∀ n, pre (fun _ => 0) n = 0 := fun n => by
    induction n with
    | zero => rfl
    | succ n ih => rw [pre, ih]; rfl
  rw [this]
  simp [pre]⟩
theorem index_lt {f d : Nat → Int} {i s k : Nat} (ht : Tab f i) (hi : i ≤ 3) (hd : ∀ k, k < 6 → 0 ≤ d k ∧ d k ≤ 30) (hk : k < 6) (h0 : f s ≠ 0) : s + (d k).toNat < 121 ∧ s + (d k).toNat ≤ 30 * i + 30 := by
  have h1 := ht.sup s h0
  have h2 := hd k hk
  omega
theorem Mid.face {f d g : Nat → Int} {i s k : Nat} (h : Mid f d g i s k) (ht : Tab f i) (hi : i ≤ 3) (hd : ∀ k, k < 6 → 0 ≤ d k ∧ d k ≤ 30) (hk : k < 6) : Mid f d (bump g (s + (d k).toNat) (f s)) i s (k + 1) := by
  by_cases h0 : f s = 0
  · rw [h0, bump_zero]
    exact ⟨h.nn, h.sup, by rw [h.sum, h0]; simp⟩
  · have hx := index_lt ht hi hd hk h0
    refine ⟨fun j => ?_, fun j hj => ?_, ?_⟩
    · unfold bump put
      have := h.nn j
      have := h.nn (s + (d k).toNat)
      have := ht.nn s
      split <;> omega
    · unfold bump put at hj
      split at hj
      · omega
      · exact h.sup j hj
    · rw [pre_bump g (Or.inl hx.1), h.sum, Int.natCast_add, Int.add_mul]
      simp
      omega
theorem Mid.next {f d g : Nat → Int} {i s : Nat} (h : Mid f d g i s 6) : Mid f d g i (s + 1) 0 :=
  ⟨h.nn, h.sup, by rw [h.sum, pre_succ]; simp; omega⟩
theorem Mid.skip {f d g : Nat → Int} {i s : Nat} (h : Mid f d g i s 0) (h0 : f s = 0) : Mid f d g i (s + 1) 0 :=
  ⟨h.nn, h.sup, by rw [h.sum, pre_succ, h0]; simp⟩
theorem mid_inner {f d : Nat → Int} {i s : Nat} (ht : Tab f i) (hi : i ≤ 3) (hd : ∀ k, k < 6 → 0 ≤ d k ∧ d k ≤ 30) {g : Nat → Int} (h : Mid f d g i s 0) : ∀ k, k ≤ 6 → Mid f d (inner f d s k g) i s k := by
  intro k
  induction k with
  | zero => intro _; exact h
  | succ k ih => intro hk; exact (ih (by omega)).face ht hi hd (by omega)
theorem mid_outer {f d : Nat → Int} {i : Nat} (ht : Tab f i) (hi : i ≤ 3) (hd : ∀ k, k < 6 → 0 ≤ d k ∧ d k ≤ 30) : ∀ s, Mid f d (outer f d s) i s 0 := by
  intro s
  induction s with
  | zero => exact Mid.start f d i
  | succ s ih => exact (mid_inner ht hi hd ih 6 (Nat.le_refl _)).next
theorem Tab.more {f d : Nat → Int} {i : Nat} (ht : Tab f i) (hi : i ≤ 3) (hd : ∀ k, k < 6 → 0 ≤ d k ∧ d k ≤ 30) : Tab (outer f d 121) (i + 1) := by
  have h := mid_outer ht hi hd 121
  exact ⟨h.nn, fun j hj => by have := h.sup j hj; omega, by rw [h.sum, ht.sum, Int.pow_succ]; simp; omega⟩
/-- The sums below some bound. -/
theorem pow_le {i : Nat} (hi : i ≤ 4) : (6 : Int) ^ i ≤ 1296 := by
  obtain rfl | rfl | rfl | rfl | rfl : i = 0 ∨ i = 1 ∨ i = 2 ∨ i = 3 ∨ i = 4 := by omega
  all_goals decide
theorem pre_mono {f : Nat → Int} (h : ∀ j, 0 ≤ f j) {m n : Nat} (hm : m ≤ n) : pre f m ≤ pre f n := by
  induction n with
  | zero => obtain rfl : m = 0 := by omega
            exact Int.le_refl _
  | succ n ih =>
    by_cases hmn : m = n + 1
    · subst hmn; exact Int.le_refl _
    · have h1 := ih (by omega)
      have h2 := h n
      have e := pre_succ f n
      omega
theorem pre_nn {f : Nat → Int} (h : ∀ j, 0 ≤ f j) (n : Nat) : 0 ≤ pre f n := by
  have := pre_mono h (Nat.zero_le n)
  simpa [pre] using this
/-- No number of a table or of what is being made of it is great. -/
theorem Tab.small {f : Nat → Int} {i : Nat} (h : Tab f i) (hi : i ≤ 4) (j : Nat) (hj : j < 121) : 0 ≤ f j ∧ f j ≤ 1296 := by
  have h1 := le_pre h.nn 121 j hj
  have h2 := h.sum
  have h3 := pow_le hi
  have := h.nn j
  omega
theorem Mid.small {f d g : Nat → Int} {i s k : Nat} (h : Mid f d g i s k) (ht : Tab f i) (hi : i ≤ 3) (hk : k ≤ 6) (hs : s < 121) (j : Nat) (hj : j < 121) : 0 ≤ g j ∧ g j ≤ 7776 := by
  have h1 := le_pre h.nn 121 j hj
  have h2 := h.sum
  have h3 := pow_le (i := i) (by omega)
  have h4 := ht.sum
  have h5 : pre f s + f s ≤ pre f 121 := by
    have := pre_mono ht.nn (show s + 1 ≤ 121 by omega)
    rw [pre_succ] at this
    exact this
  have h6 := h.nn j
  have h7 := ht.nn s
  have h8 : (k : Int) * f s ≤ 6 * f s := Int.mul_le_mul_of_nonneg_right (by omega) h7
  omega

def one : Nat → Int := fun j => if j = 0 then 1 else 0
theorem tab_one : Tab one 0 := by
  refine ⟨fun j => by unfold one; split <;> omega, fun j hj => by unfold one at hj; split at hj <;> omega, ?_⟩
  have : ∀ n, pre one (n + 1) = 1 := fun n => by
    induction n with
    | zero => rfl
    | succ n ih => rw [pre, ih]; rfl
  exact this 120
/-- The table of the first i dice. -/
def T (P : Nat → Nat → Int) : Nat → Nat → Int
  | 0 => one
  | i + 1 => outer (T P i) (P i) 121
theorem tab_T {P : Nat → Nat → Int} {n : Nat} (hn : n ≤ 4) (h : ∀ i, i < n → ∀ k, k < 6 → 0 ≤ P i k ∧ P i k ≤ 30) : ∀ i, i ≤ n → Tab (T P i) i := by
  intro i
  induction i with
  | zero => intro _; exact tab_one
  | succ i ih => intro hi; exact (ih (by omega)).more (by omega) (h i (by omega))

end Table
end Go.Proofs.Ytddnlbahelgadaa
