/-
  Overlaps of phrases, in the parts of their ways; without any program.
-/
import Derived.WalkKit
import Derived.Test.YtdodokeebmdceaaFracM
namespace Go.Proofs.Ytdodokeebmdceaa
namespace PhrM
open FracM

/-- The product of the first k numbers. -/
def pr (v : Nat → Nat) : Nat → Nat
  | 0 => 1
  | k + 1 => pr v k * v k
theorem pr_pos {v : Nat → Nat} : ∀ {k : Nat}, (∀ i, i < k → 1 ≤ v i) → 1 ≤ pr v k
  | 0, _ => Nat.le_refl _
  | k + 1, h => Nat.mul_pos (pr_pos fun i hi => h i (by omega)) (h k (by omega))
theorem pr_le {v : Nat → Nat} (h : ∀ i, v i ≤ 6) : ∀ k, pr v k ≤ 6 ^ k
  | 0 => Nat.le_refl _
  | k + 1 => by
    rw [Nat.pow_succ]
    exact Nat.mul_le_mul (pr_le h k) (h k)
theorem pr_congr {v u : Nat → Nat} : ∀ {k : Nat}, (∀ i, i < k → v i = u i) → pr v k = pr u k
  | 0, _ => rfl
  | k + 1, h => by
    show pr v k * v k = pr u k * u k
    rw [pr_congr fun i hi => h i (by omega), h k (by omega)]
theorem pr_split (v : Nat → Nat) (k : Nat) : ∀ j, pr v k * pr (fun i => v (k + i)) j = pr v (k + j)
  | 0 => by show pr v k * 1 = _; rw [Nat.mul_one]; rfl
  | j + 1 => by
    show pr v k * (pr (fun i => v (k + i)) j * v (k + j)) = pr v (k + j) * v (k + j)
    rw [← Nat.mul_assoc, pr_split v k j]
/-- The overlap up to k, in parts of the ways of the first k numbers. -/
def ss (v : Nat → Nat) (mt : Nat → Bool) : Nat → Nat
  | 0 => 0
  | k + 1 => ss v mt k * v k + if mt (k + 1) then 6 ^ (k + 1) else 0
/-- The overlap up to k, in parts of the ways of all m numbers. -/
def nn (v : Nat → Nat) (mt : Nat → Bool) (m : Nat) : Nat → Nat
  | 0 => 0
  | k + 1 => nn v mt m k + if mt (k + 1) then 6 ^ (k + 1) * pr (fun i => v (k + 1 + i)) (m - (k + 1)) else 0
theorem six_le {k : Nat} (h : k ≤ 6) : 6 ^ k ≤ 46656 := Nat.le_trans (Nat.pow_le_pow_right (by omega) h) (by decide)
theorem nn_le {v : Nat → Nat} {mt : Nat → Bool} {m : Nat} (h : ∀ i, v i ≤ 6) (hm : m ≤ 6) : ∀ k, k ≤ m → nn v mt m k ≤ k * 46656
  | 0, _ => by simp [nn]
  | k + 1, hk => by
    have ih := nn_le (mt := mt) h hm k (by omega)
    have h1 : 6 ^ (k + 1) * pr (fun i => v (k + 1 + i)) (m - (k + 1)) ≤ 6 ^ (k + 1) * 6 ^ (m - (k + 1)) := Nat.mul_le_mul_left _ (pr_le (fun i => h _) _)
    rw [← Nat.pow_add] at h1
    have h3 := Nat.le_trans h1 (six_le (k := k + 1 + (m - (k + 1))) (by omega))
    clear h1
    show nn v mt m k + (if mt (k + 1) then 6 ^ (k + 1) * pr (fun i => v (k + 1 + i)) (m - (k + 1)) else 0) ≤ _
    generalize 6 ^ (k + 1) * pr (fun i => v (k + 1 + i)) (m - (k + 1)) = X at *
    rw [Nat.add_mul, Nat.one_mul]
    generalize k * 46656 = Y at *
    generalize nn v mt m k = Z at *
    split
    · exact Nat.add_le_add ih h3
    · exact Nat.le_trans ih (Nat.le_add_right _ _)
theorem nn_le6 {v : Nat → Nat} {mt : Nat → Bool} {m : Nat} (h : ∀ i, v i ≤ 6) (hm : m ≤ 6) (k : Nat) (hk : k ≤ m) : nn v mt m k ≤ 279936 :=
  Nat.le_trans (nn_le h hm k hk) (Nat.le_trans (Nat.mul_le_mul_right _ (Nat.le_trans hk hm)) (by decide))
theorem ss_le {v : Nat → Nat} {mt : Nat → Bool} (h : ∀ i, v i ≤ 6) : ∀ k, k ≤ 6 → ss v mt k ≤ k * 6 ^ k
  | 0, _ => by simp [ss]
  | k + 1, hk => by
    have ih := ss_le (mt := mt) h k (by omega)
    have h1 : ss v mt k * v k ≤ k * 6 ^ k * 6 := Nat.mul_le_mul ih (h k)
    have h2 : k * 6 ^ k * 6 = k * 6 ^ (k + 1) := by rw [Nat.pow_succ, Nat.mul_assoc]
    have h3 : (k + 1) * 6 ^ (k + 1) = k * 6 ^ (k + 1) + 6 ^ (k + 1) := by rw [Nat.add_mul, Nat.one_mul]
    rw [h2] at h1
    rw [h3]
    show ss v mt k * v k + (if mt (k + 1) then _ else 0) ≤ _
    generalize k * 6 ^ (k + 1) = X at *
    generalize 6 ^ (k + 1) = Q at *
    split <;> omega
theorem ss_le6 {v : Nat → Nat} {mt : Nat → Bool} (h : ∀ i, v i ≤ 6) (k : Nat) (hk : k ≤ 6) : ss v mt k ≤ 279936 :=
  Nat.le_trans (ss_le h k hk) (Nat.le_trans (Nat.mul_le_mul hk (six_le hk)) (by decide))
theorem nn_ss {v : Nat → Nat} {mt : Nat → Bool} {m : Nat} : ∀ k, k ≤ m → nn v mt m k * pr v k = ss v mt k * pr v m
  | 0, _ => by simp [nn, ss]
  | k + 1, hk => by
    have ih := nn_ss (v := v) (mt := mt) (m := m) k (by omega)
    have h1 : pr v (k + 1) * pr (fun i => v (k + 1 + i)) (m - (k + 1)) = pr v m := by
      rw [pr_split v (k + 1) (m - (k + 1)), show k + 1 + (m - (k + 1)) = m by omega]
    have e1 : pr v (k + 1) = pr v k * v k := rfl
    show (nn v mt m k + _) * pr v (k + 1) = (ss v mt k * v k + _) * pr v m
    rw [Nat.add_mul, Nat.add_mul]
    congr 1
    · rw [e1, ← Nat.mul_assoc, ih]
      grind
    · split
      · rw [← h1]
        grind
      · rw [Nat.zero_mul, Nat.zero_mul]
theorem same_cut {v : Nat → Nat} {mt : Nat → Bool} {m k : Nat} (hk : k ≤ m) (hv : ∀ i, i < m → 1 ≤ v i) :
    num (nn v mt m k) (pr v m) = num (ss v mt k) (pr v k) ∧ den (nn v mt m k) (pr v m) = den (ss v mt k) (pr v k) :=
  cut_eq (pr_pos hv) (pr_pos fun i hi => hv i (by omega)) (nn_ss k hk)
theorem ss_skip {v : Nat → Nat} {mt : Nat → Bool} {k : Nat} (h : mt (k + 1) = false) (hv : ∀ i, i < k + 1 → 1 ≤ v i) :
    num (ss v mt (k + 1)) (pr v (k + 1)) = num (ss v mt k) (pr v k) ∧ den (ss v mt (k + 1)) (pr v (k + 1)) = den (ss v mt k) (pr v k) :=
  cut_eq (pr_pos hv) (pr_pos fun i hi => hv i (by omega)) (by
    show (ss v mt k * v k + _) * pr v k = ss v mt k * (pr v k * v k)
    rw [if_neg (by rw [h]; decide), Nat.add_zero]
    grind)
theorem ss_hit {v : Nat → Nat} {mt : Nat → Bool} {k : Nat} (h : mt (k + 1) = true) (hv : ∀ i, i < k + 1 → 1 ≤ v i) :
    let P := pr v (k + 1); let a := num (ss v mt k) (pr v k); let b := den (ss v mt k) (pr v k); let c := num (6 ^ (k + 1)) P; let e := den (6 ^ (k + 1)) P
    num (a * e + c * b) (b * e) = num (ss v mt (k + 1)) P ∧ den (a * e + c * b) (b * e) = den (ss v mt (k + 1)) P := by
  have hp := pr_pos hv
  have hp0 : 1 ≤ pr v k := pr_pos fun i hi => hv i (by omega)
  have h1 : num (ss v mt k * v k) (pr v (k + 1)) = num (ss v mt k) (pr v k) ∧ den (ss v mt k * v k) (pr v (k + 1)) = den (ss v mt k) (pr v k) :=
    cut_eq hp hp0 (by show ss v mt k * v k * pr v k = ss v mt k * (pr v k * v k); grind)
  have h2 := plus_cut (a := ss v mt k * v k) (c := 6 ^ (k + 1)) hp hp
  rw [h1.1, h1.2] at h2
  have h3 := same_den (a := ss v mt k * v k) (c := 6 ^ (k + 1)) hp
  have h4 : ss v mt k * v k + 6 ^ (k + 1) = ss v mt (k + 1) := by
    show _ = ss v mt k * v k + _
    rw [if_pos h]
  rw [h4] at h3
  exact ⟨h2.1.trans h3.1, h2.2.trans h3.2⟩
theorem one_next {v : Nat → Nat} {k : Nat} (hv : ∀ i, i < k + 1 → 1 ≤ v i) :
    let a := num (6 ^ k) (pr v k); let b := den (6 ^ k) (pr v k)
    num (a * 6) (b * v k) = num (6 ^ (k + 1)) (pr v (k + 1)) ∧ den (a * 6) (b * v k) = den (6 ^ (k + 1)) (pr v (k + 1)) := by
  have hp0 : 1 ≤ pr v k := pr_pos fun i hi => hv i (by omega)
  have hvk := hv k (by omega)
  have hd := den_pos (a := 6 ^ k) hp0
  refine cut_eq (Nat.mul_pos hd hvk) (pr_pos hv) ?_
  have h1 := num_mul (6 ^ k) (pr v k)
  have h2 := den_mul (6 ^ k) (pr v k)
  generalize num (6 ^ k) (pr v k) = x at *
  generalize den (6 ^ k) (pr v k) = y at *
  generalize Nat.gcd (6 ^ k) (pr v k) = g at *
  show x * 6 * (pr v k * v k) = 6 ^ (k + 1) * (y * v k)
  rw [Nat.pow_succ, ← h1, ← h2]
  grind
end PhrM
end Go.Proofs.Ytdodokeebmdceaa
