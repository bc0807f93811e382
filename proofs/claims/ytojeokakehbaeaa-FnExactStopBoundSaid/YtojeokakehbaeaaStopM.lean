/-
  Stops of one die: the greatest means, in parts of all outcomes; without any program.
-/
import Derived.WalkKit
import Derived.Test.YtojeokakehbaeaaFracM
namespace Go.Proofs.Ytojeokakehbaeaa
namespace StopM
open FracM

/-- Sums of the first numbers. -/
def nsum (f : Nat → Nat) : Nat → Nat
  | 0 => 0
  | k + 1 => nsum f k + f k
theorem nsum_le {f : Nat → Nat} {B : Nat} : ∀ k, (∀ j, j < k → f j ≤ B) → nsum f k ≤ k * B
  | 0, _ => by simp [nsum]
  | k + 1, h => by
    have h1 := nsum_le k (fun j hj => h j (by omega))
    have h2 := h k (by omega)
    have h3 : (k + 1) * B = k * B + B := by rw [Nat.add_mul, Nat.one_mul]
    show nsum f k + f k ≤ _
    omega
/-- What is ahead with k throws left, in parts of 6 to the power of k. -/
def part (f : Nat → Nat) (A W : Nat) (j : Nat) : Nat := if f j * W < A then A else f j * W
def ahead (f : Nat → Nat) : Nat → Nat
  | 0 => 0
  | k + 1 => nsum (part f (ahead f k) (6 ^ k)) 6
theorem part_le {f : Nat → Nat} {A W m j : Nat} (h : f j ≤ m) (hA : A ≤ m * W) : part f A W j ≤ m * W := by
  unfold part
  split
  · exact hA
  · exact Nat.mul_le_mul_right W h
theorem ahead_le {f : Nat → Nat} {m : Nat} (h : ∀ j, j < 6 → f j ≤ m) : ∀ k, ahead f k ≤ m * 6 ^ k
  | 0 => Nat.zero_le _
  | k + 1 => by
    have ih := ahead_le h k
    have := nsum_le (f := part f (ahead f k) (6 ^ k)) 6 (fun j hj => part_le (h j hj) ih)
    have e : m * 6 ^ (k + 1) = 6 * (m * 6 ^ k) := by rw [Nat.pow_succ]; grind
    show nsum _ 6 ≤ _
    rw [e]
    exact this
theorem pow_pos (k : Nat) : 0 < 6 ^ k := Nat.pos_of_ne_zero (by simp)
theorem pow_le {k : Nat} (h : k ≤ 6) : 6 ^ k ≤ 46656 := Nat.le_trans (Nat.pow_le_pow_right (by omega) h) (by decide)
/-- The face at which one stops, as a fraction. -/
theorem face_cut {f : Nat → Nat} {A W j : Nat} (hW : 0 < W) : (num (part f A W j) W, den (part f A W j) W) = if f j * den A W < num A W then (num A W, den A W) else (f j, 1) := by
  have h := less_cut (a := f j) (b := 1) (c := A) (d := W) (by omega) hW
  rw [(num_one (f j)).1, (num_one (f j)).2, Nat.mul_one, Nat.mul_one] at h
  unfold part
  by_cases hl : f j * W < A
  · rw [if_pos hl, if_pos (h.2 hl)]
  · rw [if_neg hl, if_neg (fun x => hl (h.1 x))]
    have := cut_eq (a := f j * W) (b := W) (c := f j) (d := 1) hW (by omega) (by omega)
    rw [this.1, this.2, (num_one (f j)).1, (num_one (f j)).2]
theorem sixth {x W : Nat} (hW : 0 < W) : num (num x W * 1) (den x W * 6) = num x (W * 6) ∧ den (num x W * 1) (den x W * 6) = den x (W * 6) := by
  have h := times_cut (a := x) (b := W) (c := 1) (d := 6) hW (by omega)
  have e1 : num 1 6 = 1 := by decide
  have e2 : den 1 6 = 6 := by decide
  rw [e1, e2, Nat.mul_one x] at h
  exact h
theorem add_same {x y m : Nat} (hm : 0 < m) : num (num x m * den y m + num y m * den x m) (den x m * den y m) = num (x + y) m ∧ den (num x m * den y m + num y m * den x m) (den x m * den y m) = den (x + y) m := by
  have h := plus_cut (a := x) (b := m) (c := y) (d := m) hm hm
  have g := same_den (a := x) (c := y) hm
  exact ⟨h.1.trans g.1, h.2.trans g.2⟩
theorem zero_cut {m : Nat} (hm : 0 < m) : num 0 m = 0 ∧ den 0 m = 1 := by
  unfold num den
  rw [Nat.gcd_zero_left, Nat.div_self hm]
  exact ⟨Nat.zero_div _, rfl⟩
/-- One stops at the greatest face, at the latest. -/
theorem stops {f : Nat → Nat} (h : ∀ j, j < 6 → f j ≤ f 5) (n : Nat) : ¬ f 5 * den (ahead f n) (6 ^ n) < num (ahead f n) (6 ^ n) := by
  have h1 := ahead_le h n
  have g := less_cut (a := f 5) (b := 1) (c := ahead f n) (d := 6 ^ n) (by omega) (pow_pos n)
  rw [(num_one (f 5)).1, (num_one (f 5)).2, Nat.mul_one, Nat.mul_one] at g
  intro x
  have := g.1 x
  omega
/-- The first place for which something is so. -/
def first (p : Nat → Bool) : Nat → Nat
  | 0 => 0
  | n + 1 => if p 0 then 0 else 1 + first (fun k => p (k + 1)) n

end StopM
end Go.Proofs.Ytojeokakehbaeaa
