/-
  Which of two phrases comes first: whole numbers and fractions; without any program.
-/
import Derived.WalkKit
import Derived.Test.YtdodokeebmdceaaArr
import Derived.Test.YtdodokeebmdceaaFracM
import Derived.Test.YtdodokeebmdceaaWgtM
import Derived.Test.YtdodokeebmdceaaPhrM
import Derived.Test.YtdodokeebmdceaaPhrV
import Derived.Test.YtdodokeebmdceaaOvI
import Derived.Test.YtdodokeebmdceaaOverM
namespace Go.Proofs.Ytdodokeebmdceaa
namespace FirstM
open Dice Arr FracM WgtM PhrM PhrV OvI OverM

theorem pr_head (v : Nat → Nat) (k : Nat) : pr v (k + 1) = v 0 * pr (fun i => v (1 + i)) k := by
  have h := pr_split v 1 k
  rw [show 1 + k = k + 1 by omega] at h
  rw [← h]
  show pr v 0 * v 0 * _ = _
  show 1 * v 0 * _ = _
  rw [Nat.one_mul]
theorem pr_rev : ∀ (m : Nat) (v : Nat → Nat), pr (fun i => v (m - 1 - i)) m = pr v m
  | 0, _ => rfl
  | m + 1, v => by
    rw [pr_head (fun i => v (m + 1 - 1 - i)) m]
    show v (m + 1 - 1 - 0) * pr (fun i => v (m + 1 - 1 - (1 + i))) m = pr v m * v m
    rw [pr_congr (v := fun i => v (m + 1 - 1 - (1 + i))) (u := fun i => v (m - 1 - i)) (fun i hi => by show v _ = v _; congr 1; omega), pr_rev m v, Nat.mul_comm]
    rfl
/-- A list from behind. -/
def rev (m : Nat) (f : Nat → Int) (i : Nat) : Int := f (m - 1 - i)
theorem mt_rev {fa fb : Nat → Int} {n m j : Nat} (hn : j ≤ n) (hm : j ≤ m) : mtc (rev n fa) (rev m fb) n j = mt fb fa m j := by
  unfold mtc OvI.mt rev
  rw [decide_eq_decide]
  constructor
  · intro h i hi
    have := h (j - 1 - i) (by omega)
    simp only at this
    show fb (m - j + i) = fa i
    rw [show n - 1 - (n - j + (j - 1 - i)) = i by omega, show m - 1 - (j - 1 - i) = m - j + i by omega] at this
    exact this.symm
  · intro h i hi
    have := h (j - 1 - i) (by omega)
    simp only at this
    show fa (n - 1 - (n - j + i)) = fb (m - 1 - i)
    rw [show n - 1 - (n - j + i) = j - 1 - i by omega, ← this]
    congr 1
    omega
def eb (d fb : Nat → Int) (m j : Nat) : Nat := 6 ^ j * pr (fun i => wv d (rev m fb) (j + i)) (m - j)
theorem eb_step {d fb : Nat → Int} {m j : Nat} (h : j < m) : wgt d (rev m fb j) 6 * eb d fb m (j + 1) = 6 * eb d fb m j := by
  unfold eb
  have h1 := pr_head (fun i => wv d (rev m fb) (j + i)) (m - (j + 1))
  rw [show m - (j + 1) + 1 = m - j by omega] at h1
  rw [h1, Nat.pow_succ]
  have h2 : pr (fun i => wv d (rev m fb) (j + (1 + i))) (m - (j + 1)) = pr (fun i => wv d (rev m fb) (j + 1 + i)) (m - (j + 1)) := pr_congr fun i _ => by show wv d (rev m fb) _ = wv d (rev m fb) _; congr 1; omega
  show wgt d (rev m fb j) 6 * (6 ^ j * 6 * pr (fun i => wv d (rev m fb) (j + 1 + i)) (m - (j + 1))) = 6 * (6 ^ j * (wv d (rev m fb) (j + 0) * pr (fun i => wv d (rev m fb) (j + (1 + i))) (m - (j + 1))))
  rw [h2]
  show wgt d (rev m fb j) 6 * _ = 6 * (6 ^ j * (wgt d (rev m fb j) 6 * _))
  generalize wgt d (rev m fb j) 6 = a
  generalize pr (fun i => wv d (rev m fb) (j + 1 + i)) (m - (j + 1)) = b
  generalize 6 ^ j = c
  grind
theorem wv_rev (d fb : Nat → Int) (m : Nat) : pr (wv d (rev m fb)) m = pr (wv d fb) m := pr_rev m (wv d fb)
/-- One overlap by parts of the other phrase. -/
theorem link {d fa fb : Nat → Int} {n m : Nat} : ∀ N, N ≤ n → N ≤ m → (∀ i, i < n → 1 ≤ wv d fa i) →
    nn (wv d fa) (mt fb fa m) n N * pr (wv d fb) m = pr (wv d fa) n * hs (mt fb fa m) (eb d fb m) N
  | 0, _, _, _ => by simp [nn, hs]
  | N + 1, hn, hm, hv => by
    have ih := link (d := d) (fa := fa) (fb := fb) (n := n) (m := m) N (by omega) (by omega) hv
    show (nn (wv d fa) (mt fb fa m) n N + _) * _ = _ * (hs (mt fb fa m) (eb d fb m) N + _)
    rw [Nat.add_mul, Nat.mul_add, ih]
    congr 1
    cases h : mt fb fa m (N + 1)
    · simp
    · simp only [↓reduceIte]
      have ha : agree (fun i => fb (m - (N + 1) + i)) fa (N + 1) := of_decide_eq_true h
      have h1 := pr_split (wv d fa) (N + 1) (n - (N + 1))
      rw [show N + 1 + (n - (N + 1)) = n by omega] at h1
      have h2 := pr_split (wv d (rev m fb)) (N + 1) (m - (N + 1))
      rw [show N + 1 + (m - (N + 1)) = m by omega, wv_rev] at h2
      have h3 : pr (wv d (rev m fb)) (N + 1) = pr (wv d fa) (N + 1) := by
        have r := pr_rev (N + 1) (wv d fa)
        rw [← r]
        refine pr_congr fun i hi => ?_
        show wgt d (fb (m - 1 - i)) 6 = wgt d (fa (N + 1 - 1 - i)) 6
        have := ha (N - i) (by omega)
        simp only at this
        rw [show N + 1 - 1 - i = N - i by omega, ← this]
        congr 2
        omega
      rw [h3] at h2
      unfold eb
      generalize pr (wv d fa) (N + 1) = z at *
      generalize pr (fun i => wv d fa (N + 1 + i)) (n - (N + 1)) = x at *
      generalize pr (fun i => wv d (rev m fb) (N + 1 + i)) (m - (N + 1)) = y at *
      rw [← h1, ← h2]
      generalize 6 ^ (N + 1) = c
      grind
theorem pos {d fa fb : Nat → Int} {n m : Nat} (_ : 1 ≤ n) (hm : 1 ≤ m) (ha : ∀ i, i < n → 1 ≤ wv d fa i) (hb : ∀ i, i < m → 1 ≤ wv d fb i) (hno : m ≤ n → mt fb fa m m = false) :
    nn (wv d fa) (mt fb fa m) n (min m n) * pr (wv d fb) m < nn (wv d fb) (mt fb fb m) m m * pr (wv d fa) n := by
  have hpa := pr_pos (v := wv d fa) ha
  have hpb := pr_pos (v := wv d fb) hb
  have l1 := link (d := d) (fa := fa) (fb := fb) (n := n) (m := m) (min m n) (by omega) (by omega) ha
  have l2 := link (d := d) (fa := fb) (fb := fb) (n := m) (m := m) m (Nat.le_refl _) (Nat.le_refl _) hb
  have l2' : nn (wv d fb) (mt fb fb m) m m = hs (mt fb fb m) (eb d fb m) m := Nat.eq_of_mul_eq_mul_right hpb (by rw [l2, Nat.mul_comm])
  rw [l1, l2', Nat.mul_comm (hs _ _ m)]
  refine Nat.mul_lt_mul_of_pos_left ?_ hpa
  have e1 : hs (mt fb fa m) (eb d fb m) (min m n) = hs (mtc (rev n fa) (rev m fb) n) (eb d fb m) (min m n) := hs_congr fun j _ hj => (mt_rev (by omega) (by omega)).symm
  have e2 : hs (mt fb fb m) (eb d fb m) m = hs (mtc (rev m fb) (rev m fb) m) (eb d fb m) m := hs_congr fun j _ hj => (mt_rev hj hj).symm
  rw [e1, e2]
  refine less (d := d) hm (fun j hj => eb_step hj) ?_ (fun j hj => ?_) (by omega) (by omega) fun hN => ?_
  · show 1 ≤ 6 ^ 0 * pr _ (m - 0)
    have : pr (fun i => wv d (rev m fb) (0 + i)) (m - 0) = pr (wv d fb) m := by
      rw [← wv_rev d fb m]
      exact pr_congr fun i _ => by show wv d (rev m fb) _ = _; rw [Nat.zero_add]
    rw [this, Nat.pow_zero, Nat.one_mul]
    exact hpb
  · exact hb (m - 1 - j) (by omega)
  · rw [mt_rev (by omega) (Nat.le_refl _)]
    exact hno (by omega)
/-- Fractions. -/
theorem minus_cut {a b c d : Nat} (hb : 0 < b) (hd : 0 < d) (h : c * b ≤ a * d) : num c d * den a b ≤ num a b * den c d ∧
    num (num a b * den c d - num c d * den a b) (den a b * den c d) = num (a * d - c * b) (b * d) ∧ den (num a b * den c d - num c d * den a b) (den a b * den c d) = den (a * d - c * b) (b * d) := by
  have p1 := den_pos (a := a) hb
  have p2 := den_pos (a := c) hd
  have h1 := num_mul a b
  have h2 := den_mul a b
  have h3 := num_mul c d
  have h4 := den_mul c d
  have g1 := FracM.gcd_pos (a := a) hb
  have g2 := FracM.gcd_pos (a := c) hd
  generalize num a b = x at *
  generalize den a b = y at *
  generalize num c d = u at *
  generalize den c d = v at *
  generalize Nat.gcd a b = g at *
  generalize Nat.gcd c d = k at *
  subst h1 h2 h3 h4
  have hk : u * y ≤ x * v := by
    refine Nat.le_of_mul_le_mul_left (c := g * k) ?_ (Nat.mul_pos g1 g2)
    calc g * k * (u * y) = k * u * (g * y) := by grind
      _ ≤ g * x * (k * v) := h
      _ = g * k * (x * v) := by grind
  refine ⟨hk, cut_eq (Nat.mul_pos p1 p2) (Nat.mul_pos hb hd) ?_⟩
  have e : g * x * (k * v) - k * u * (g * y) = g * k * (x * v - u * y) := by
    rw [Nat.mul_sub]
    congr 1 <;> grind
  rw [e]
  grind
theorem ratio_cut {A T Z : Nat} (hZ : 0 < Z) (hT : 0 < T) : 0 < num T Z ∧ num (num A Z * den T Z) (den A Z * num T Z) = num A T ∧ den (num A Z * den T Z) (den A Z * num T Z) = den A T := by
  have h1 := num_mul A Z
  have h2 := den_mul A Z
  have h3 := num_mul T Z
  have h4 := den_mul T Z
  have p1 := den_pos (a := A) hZ
  have c1 : num A Z * Z = A * den A Z := by rw [← num_mul A Z, ← den_mul A Z] <;> skip; grind
  have hn : 0 < num T Z := by
    refine Nat.pos_of_ne_zero fun h => ?_
    rw [h, Nat.mul_zero] at h3
    omega
  have c2 : den T Z * T = Z * num T Z := by grind
  refine ⟨hn, cut_eq (Nat.mul_pos p1 hn) hT ?_⟩
  generalize num A Z = x at *
  generalize den A Z = y at *
  generalize num T Z = u at *
  generalize den T Z = v at *
  calc x * v * T = x * (v * T) := by grind
    _ = x * (Z * u) := by rw [c2]
    _ = (x * Z) * u := by grind
    _ = A * y * u := by rw [c1]
    _ = A * (y * u) := by grind
end FirstM
end Go.Proofs.Ytdodokeebmdceaa
