/-
  Fractions without a common divisor: sums, products and order; without any program.
-/
import Derived.WalkKit
namespace Go.Proofs.Ytlpjmfmalejlpaa
namespace FracM

/-- Numerator and denominator of a fraction that is cut. -/
def num (a b : Nat) : Nat := a / Nat.gcd a b
def den (a b : Nat) : Nat := b / Nat.gcd a b
theorem gcd_pos {a b : Nat} (hb : 0 < b) : 0 < Nat.gcd a b := Nat.gcd_pos_of_pos_right a hb
theorem num_mul (a b : Nat) : Nat.gcd a b * num a b = a := Nat.mul_div_cancel' (Nat.gcd_dvd_left a b)
theorem den_mul (a b : Nat) : Nat.gcd a b * den a b = b := Nat.mul_div_cancel' (Nat.gcd_dvd_right a b)
theorem num_le (a b : Nat) : num a b ≤ a := Nat.div_le_self _ _
theorem den_le (a b : Nat) : den a b ≤ b := Nat.div_le_self _ _
theorem den_pos {a b : Nat} (hb : 0 < b) : 0 < den a b := by
  apply Nat.pos_of_ne_zero
  intro h
  have := den_mul a b
  rw [h] at this
  omega
theorem coprime {a b : Nat} (hb : 0 < b) : Nat.Coprime (num a b) (den a b) := Nat.coprime_div_gcd_div_gcd (gcd_pos hb)
theorem cross_cut (a b c d : Nat) (hb : 0 < b) (hd : 0 < d) : a * d = c * b ↔ num a b * den c d = num c d * den a b := by
  have h1 := num_mul a b
  have h2 := den_mul a b
  have h3 := num_mul c d
  have h4 := den_mul c d
  have g1 := gcd_pos (a := a) hb
  have g2 := gcd_pos (a := c) hd
  generalize Nat.gcd a b = g at *
  generalize Nat.gcd c d = k at *
  generalize num a b = x at *
  generalize den a b = y at *
  generalize num c d = u at *
  generalize den c d = v at *
  subst h1 h2 h3 h4
  have e1 : g * x * (k * v) = g * k * (x * v) := by grind
  have e2 : k * u * (g * y) = g * k * (u * y) := by grind
  rw [e1, e2]
  exact ⟨fun h => Nat.eq_of_mul_eq_mul_left (Nat.mul_pos g1 g2) h, fun h => by rw [h]⟩
/-- Two fractions of one value are cut to the same one. -/
theorem cut_eq {a b c d : Nat} (hb : 0 < b) (hd : 0 < d) (h : a * d = c * b) : num a b = num c d ∧ den a b = den c d := by
  have hx := (cross_cut a b c d hb hd).1 h
  have c1 := coprime (a := a) hb
  have c2 := coprime (a := c) hd
  have p1 := den_pos (a := a) hb
  have p2 := den_pos (a := c) hd
  generalize num a b = x at *
  generalize den a b = y at *
  generalize num c d = u at *
  generalize den c d = v at *
  have d1 : x ∣ u := c1.dvd_of_dvd_mul_right (by rw [← hx]; exact Nat.dvd_mul_right x v)
  have d2 : u ∣ x := c2.dvd_of_dvd_mul_right (by rw [hx]; exact Nat.dvd_mul_right u y)
  have e : x = u := Nat.dvd_antisymm d1 d2
  subst e
  refine ⟨rfl, ?_⟩
  have d3 : y ∣ v := c1.symm.dvd_of_dvd_mul_left (by rw [hx]; exact Nat.dvd_mul_left y x)
  have d4 : v ∣ y := c2.symm.dvd_of_dvd_mul_left (by rw [← hx]; exact Nat.dvd_mul_left v x)
  exact Nat.dvd_antisymm d3 d4
theorem plus_eq (a b c d : Nat) : (num a b * den c d + num c d * den a b) * (b * d) = (a * d + c * b) * (den a b * den c d) := by
  have h1 := num_mul a b
  have h2 := den_mul a b
  have h3 := num_mul c d
  have h4 := den_mul c d
  generalize Nat.gcd a b = g at *
  generalize Nat.gcd c d = k at *
  generalize num a b = x at *
  generalize den a b = y at *
  generalize num c d = u at *
  generalize den c d = v at *
  subst h1 h2 h3 h4
  grind
theorem times_eq (a b c d : Nat) : (num a b * num c d) * (b * d) = (a * c) * (den a b * den c d) := by
  have h1 := num_mul a b
  have h2 := den_mul a b
  have h3 := num_mul c d
  have h4 := den_mul c d
  generalize Nat.gcd a b = g at *
  generalize Nat.gcd c d = k at *
  generalize num a b = x at *
  generalize den a b = y at *
  generalize num c d = u at *
  generalize den c d = v at *
  subst h1 h2 h3 h4
  grind
theorem plus_cut {a b c d : Nat} (hb : 0 < b) (hd : 0 < d) : num (num a b * den c d + num c d * den a b) (den a b * den c d) = num (a * d + c * b) (b * d) ∧ den (num a b * den c d + num c d * den a b) (den a b * den c d) = den (a * d + c * b) (b * d) :=
  cut_eq (Nat.mul_pos (den_pos hb) (den_pos hd)) (Nat.mul_pos hb hd) (plus_eq a b c d)
theorem times_cut {a b c d : Nat} (hb : 0 < b) (hd : 0 < d) : num (num a b * num c d) (den a b * den c d) = num (a * c) (b * d) ∧ den (num a b * num c d) (den a b * den c d) = den (a * c) (b * d) :=
  cut_eq (Nat.mul_pos (den_pos hb) (den_pos hd)) (Nat.mul_pos hb hd) (times_eq a b c d)
theorem less_cut {a b c d : Nat} (hb : 0 < b) (hd : 0 < d) : num a b * den c d < num c d * den a b ↔ a * d < c * b := by
  have h1 := num_mul a b
  have h2 := den_mul a b
  have h3 := num_mul c d
  have h4 := den_mul c d
  have g1 := gcd_pos (a := a) hb
  have g2 := gcd_pos (a := c) hd
  generalize Nat.gcd a b = g at *
  generalize Nat.gcd c d = k at *
  generalize num a b = x at *
  generalize den a b = y at *
  generalize num c d = u at *
  generalize den c d = v at *
  subst h1 h2 h3 h4
  have e1 : g * x * (k * v) = g * k * (x * v) := by grind
  have e2 : k * u * (g * y) = g * k * (u * y) := by grind
  rw [e1, e2]
  exact (Nat.mul_lt_mul_left (Nat.mul_pos g1 g2)).symm
/-- Fractions of one denominator. -/
theorem same_den {a c m : Nat} (hm : 0 < m) : num (a * m + c * m) (m * m) = num (a + c) m ∧ den (a * m + c * m) (m * m) = den (a + c) m :=
  cut_eq (Nat.mul_pos hm hm) hm (by rw [← Nat.add_mul]; grind)
theorem num_one (a : Nat) : num a 1 = a ∧ den a 1 = 1 := by simp [num, den]
theorem den_le_num {a b : Nat} : num a b ≤ a ∧ den a b ≤ b := ⟨num_le a b, den_le a b⟩

end FracM
end Go.Proofs.Ytlpjmfmalejlpaa
