/-
  Runs to a goal: how the ways of sums go on from roll to roll; without any program.
-/
import Derived.WalkKit
import Derived.Test.YtcffglnfdnanhaaFracM
import Derived.Test.YtcffglnfdnanhaaStopM
namespace Go.Proofs.Ytcffglnfdnanhaa
namespace RunM
open FracM StopM

/-- The ways of the next roll, behind the first m pairs of a sum and a face. -/
def nxt (d f : Nat → Nat) : Nat → Nat → Nat
  | 0, _ => 0
  | m + 1, t => nxt d f m t + if m / 6 + d (m % 6) = t then f (m / 6) else 0
/-- The ways that get to the goal. -/
def thr (d f : Nat → Nat) (g : Nat) : Nat → Nat
  | 0 => 0
  | m + 1 => thr d f g m + if g ≤ m / 6 + d (m % 6) then f (m / 6) else 0
theorem nsum_hit (e v : Nat) (a : Nat → Nat) : ∀ g, nsum (fun t => a t + if e = t then v else 0) g = nsum a g + if e < g then v else 0
  | 0 => by simp [nsum]
  | g + 1 => by
    have ih := nsum_hit e v a g
    show nsum _ g + (a g + if e = g then v else 0) = nsum a g + a g + _
    rw [ih]
    by_cases h1 : e < g
    · rw [if_pos h1, if_neg (by omega), if_pos (by omega)]
      omega
    · by_cases h2 : e = g
      · rw [if_neg h1, if_pos h2, if_pos (by omega)]
        omega
      · rw [if_neg h1, if_neg h2, if_neg (by omega)]
        omega
theorem nsum_congr {a b : Nat → Nat} : ∀ g, (∀ t, t < g → a t = b t) → nsum a g = nsum b g
  | 0, _ => rfl
  | g + 1, h => by
    show nsum a g + a g = nsum b g + b g
    rw [nsum_congr g (fun t ht => h t (by omega)), h g (by omega)]
theorem nsum_mul (c : Nat) (a : Nat → Nat) : ∀ g, nsum (fun t => c * a t) g = c * nsum a g
  | 0 => rfl
  | g + 1 => by
    show nsum _ g + c * a g = c * (nsum a g + a g)
    rw [nsum_mul c a g, Nat.mul_add]
theorem nsum_add (a b : Nat → Nat) : ∀ g, nsum (fun t => a t + b t) g = nsum a g + nsum b g
  | 0 => rfl
  | g + 1 => by
    show nsum _ g + (a g + b g) = nsum a g + a g + (nsum b g + b g)
    rw [nsum_add a b g]
    omega
theorem nsum_ge (a : Nat → Nat) {s : Nat} : ∀ g, s < g → a s ≤ nsum a g
  | 0, h => by omega
  | g + 1, h => by
    show a s ≤ nsum a g + a g
    by_cases hs : s = g
    · subst hs; omega
    · have := nsum_ge a (s := s) g (by omega)
      omega
theorem nsum_mono (a : Nat → Nat) {m n : Nat} (h : m ≤ n) : nsum a m ≤ nsum a n := by
  induction n with
  | zero => have : m = 0 := by omega
            subst this; exact Nat.le_refl _
  | succ n ih =>
    by_cases hm : m = n + 1
    · subst hm; exact Nat.le_refl _
    · have := ih (by omega)
      show nsum a m ≤ nsum a n + a n
      omega
theorem nsum_zero {a : Nat → Nat} : ∀ g, (∀ t, t < g → a t = 0) → nsum a g = 0
  | 0, _ => rfl
  | g + 1, h => by
    show nsum a g + a g = 0
    rw [nsum_zero g (fun t ht => h t (by omega)), h g (by omega)]
theorem nxt_thr (d f : Nat → Nat) (g : Nat) : ∀ m, nsum (nxt d f m) g + thr d f g m = nsum (fun j => f (j / 6)) m
  | 0 => by
    show nsum _ g + 0 = 0
    rw [nsum_zero (a := nxt d f 0) g (fun _ _ => rfl)]
  | m + 1 => by
    have ih := nxt_thr d f g m
    have e : nsum (nxt d f (m + 1)) g = nsum (nxt d f m) g + if m / 6 + d (m % 6) < g then f (m / 6) else 0 := nsum_hit _ _ _ g
    show nsum _ g + (thr d f g m + if g ≤ m / 6 + d (m % 6) then f (m / 6) else 0) = nsum (fun j => f (j / 6)) m + f (m / 6)
    rw [e]
    by_cases h : m / 6 + d (m % 6) < g
    · rw [if_pos h, if_neg (by omega)]; omega
    · rw [if_neg h, if_pos (by omega)]; omega
theorem nsum_six (f : Nat → Nat) : ∀ g, nsum (fun j => f (j / 6)) (6 * g) = 6 * nsum f g
  | 0 => rfl
  | g + 1 => by
    have ih := nsum_six f g
    have e : 6 * (g + 1) = 6 * g + 1 + 1 + 1 + 1 + 1 + 1 := by omega
    rw [e]
    show nsum (fun j => f (j / 6)) (6 * g) + f (6 * g / 6) + f ((6 * g + 1) / 6) + f ((6 * g + 2) / 6) + f ((6 * g + 3) / 6) + f ((6 * g + 4) / 6) + f ((6 * g + 5) / 6) = 6 * (nsum f g + f g)
    rw [ih, show 6 * g / 6 = g by omega, show (6 * g + 1) / 6 = g by omega, show (6 * g + 2) / 6 = g by omega, show (6 * g + 3) / 6 = g by omega, show (6 * g + 4) / 6 = g by omega, show (6 * g + 5) / 6 = g by omega]
    omega
theorem nxt_mul (d f : Nat → Nat) (c : Nat) : ∀ m t, nxt d (fun s => c * f s) m t = c * nxt d f m t
  | 0, _ => rfl
  | m + 1, t => by
    show nxt d _ m t + _ = c * (nxt d f m t + _)
    rw [nxt_mul d f c m t, Nat.mul_add]
    split <;> simp
theorem thr_mul (d f : Nat → Nat) (c g : Nat) : ∀ m, thr d (fun s => c * f s) g m = c * thr d f g m
  | 0 => rfl
  | m + 1 => by
    show thr d _ g m + _ = c * (thr d f g m + _)
    rw [thr_mul d f c g m, Nat.mul_add]
    split <;> simp
theorem nxt_congr {d f f' : Nat → Nat} : ∀ m t, (∀ s, s < (m + 5) / 6 → f s = f' s) → nxt d f m t = nxt d f' m t
  | 0, _, _ => rfl
  | m + 1, t, h => by
    show nxt d f m t + _ = nxt d f' m t + _
    rw [nxt_congr m t (fun s hs => h s (by omega)), h (m / 6) (by omega)]
theorem thr_congr {d f f' : Nat → Nat} {g : Nat} : ∀ m, (∀ s, s < (m + 5) / 6 → f s = f' s) → thr d f g m = thr d f' g m
  | 0, _ => rfl
  | m + 1, h => by
    show thr d f g m + _ = thr d f' g m + _
    rw [thr_congr m (fun s hs => h s (by omega)), h (m / 6) (by omega)]
theorem nxt_le (d f : Nat → Nat) {m m' : Nat} (t : Nat) (h : m ≤ m') : nxt d f m t ≤ nxt d f m' t := by
  induction m' with
  | zero => have : m = 0 := by omega
            subst this; exact Nat.le_refl _
  | succ n ih =>
    by_cases hm : m = n + 1
    · subst hm; exact Nat.le_refl _
    · have := ih (by omega)
      show nxt d f m t ≤ nxt d f n t + _
      omega
theorem thr_le (d f : Nat → Nat) (g : Nat) {m m' : Nat} (h : m ≤ m') : thr d f g m ≤ thr d f g m' := by
  induction m' with
  | zero => have : m = 0 := by omega
            subst this; exact Nat.le_refl _
  | succ n ih =>
    by_cases hm : m = n + 1
    · subst hm; exact Nat.le_refl _
    · have := ih (by omega)
      show thr d f g m ≤ thr d f g n + _
      omega
/-- The ways of k rolls to have a sum that is less than the goal. -/
def P (d : Nat → Nat) (g : Nat) : Nat → Nat → Nat
  | 0, s => if s = 0 then 1 else 0
  | k + 1, s => nxt d (P d g k) (6 * g) s
/-- The ways of k + 1 rolls to get to the goal with the last one. -/
def T (d : Nat → Nat) (g k : Nat) : Nat := thr d (P d g k) g (6 * g)
def U (d : Nat → Nat) (g k : Nat) : Nat := nsum (P d g k) g
theorem U_zero (d : Nat → Nat) : ∀ {g : Nat}, 1 ≤ g → U d g 0 = 1 := by
  intro g hg
  have h : ∀ n, nsum (fun s => if s = 0 then 1 else 0) (n + 1) = 1 := by
    intro n
    induction n with
    | zero => rfl
    | succ n ih =>
      show nsum _ (n + 1) + (if n + 1 = 0 then 1 else 0) = 1
      rw [ih, if_neg (by omega)]
  obtain ⟨n, rfl⟩ : ∃ n, g = n + 1 := ⟨g - 1, by omega⟩
  exact h n
theorem U_step (d : Nat → Nat) (g k : Nat) : U d g (k + 1) + T d g k = 6 * U d g k := by
  have h := nxt_thr d (P d g k) g (6 * g)
  rw [nsum_six] at h
  exact h
theorem U_le (d : Nat → Nat) {g : Nat} (hg : 1 ≤ g) : ∀ k, U d g k ≤ 6 ^ k
  | 0 => by rw [U_zero d hg]; exact Nat.le_refl _
  | k + 1 => by
    have h1 := U_step d g k
    have h2 := U_le d hg k
    rw [Nat.pow_succ]
    omega
theorem T_le (d : Nat → Nat) {g : Nat} (hg : 1 ≤ g) (k : Nat) : T d g k ≤ 6 ^ (k + 1) := by
  have h1 := U_step d g k
  have h2 := U_le d hg k
  rw [Nat.pow_succ]
  omega
theorem P_le (d : Nat → Nat) {g s : Nat} (hg : 1 ≤ g) (hs : s < g) (k : Nat) : P d g k s ≤ 6 ^ k := Nat.le_trans (nsum_ge (P d g k) g hs) (U_le d hg k)
theorem nxt_none {d f : Nat → Nat} {k t : Nat} (hd : ∀ j, j < 6 → 1 ≤ d j) (hf : ∀ s, s < k → f s = 0) (ht : t < k + 1) : ∀ m, nxt d f m t = 0
  | 0 => rfl
  | m + 1 => by
    show nxt d f m t + _ = 0
    rw [nxt_none hd hf ht m]
    split
    · rename_i h
      have := hd (m % 6) (Nat.mod_lt _ (by omega))
      rw [hf _ (by omega)]
    · rfl
theorem P_none {d : Nat → Nat} (hd : ∀ j, j < 6 → 1 ≤ d j) (g : Nat) : ∀ k s, s < k → P d g k s = 0
  | 0, _, h => by omega
  | k + 1, s, h => nxt_none hd (P_none hd g k) h _
theorem U_none {d : Nat → Nat} (hd : ∀ j, j < 6 → 1 ≤ d j) (g : Nat) : U d g g = 0 := nsum_zero g fun t ht => P_none hd g g t ht
/-- What is told in parts of all outcomes of g rolls. -/
def part7 (d : Nat → Nat) (g j : Nat) : Nat := T d g j * 6 ^ (g - 1 - j)
theorem part7_sum (d : Nat → Nat) {g : Nat} (hg : 1 ≤ g) : ∀ n, n ≤ g → nsum (part7 d g) n + U d g n * 6 ^ (g - n) = 6 ^ g
  | 0, _ => by
    show 0 + U d g 0 * 6 ^ (g - 0) = 6 ^ g
    rw [U_zero d hg, Nat.sub_zero]
    omega
  | n + 1, h => by
    have ih := part7_sum d hg n (by omega)
    have hs := U_step d g n
    have e : 6 ^ (g - n) = 6 ^ (g - 1 - n) * 6 := by rw [← Nat.pow_succ]; congr 1; omega
    have e2 : g - (n + 1) = g - 1 - n := by omega
    show nsum (part7 d g) n + T d g n * 6 ^ (g - 1 - n) + U d g (n + 1) * 6 ^ (g - (n + 1)) = 6 ^ g
    rw [e2]
    rw [e] at ih
    generalize 6 ^ (g - 1 - n) = c at *
    have e3 : T d g n * c + U d g (n + 1) * c = (6 * U d g n) * c := by rw [← hs]; grind
    have e4 : U d g n * (c * 6) = (6 * U d g n) * c := by grind
    omega
theorem part7_all {d : Nat → Nat} (hd : ∀ j, j < 6 → 1 ≤ d j) {g : Nat} (hg : 1 ≤ g) : nsum (part7 d g) g = 6 ^ g := by
  have h := part7_sum d hg g (Nat.le_refl _)
  rw [U_none hd, Nat.zero_mul] at h
  exact h
theorem part7_le (d : Nat → Nat) {g n : Nat} (hg : 1 ≤ g) (hn : n ≤ g) : nsum (part7 d g) n ≤ 6 ^ g := by
  have h := part7_sum d hg n hn
  omega
theorem part7_one (d : Nat → Nat) {g j : Nat} (hg : 1 ≤ g) (hj : j < g) : part7 d g j ≤ 6 ^ g := Nat.le_trans (nsum_ge _ g hj) (part7_le d hg (Nat.le_refl _))
theorem pow_six {a : Nat} (h : a ≤ 8) : 6 ^ a ≤ 1679616 ∧ 1 ≤ 6 ^ a := ⟨Nat.le_trans (Nat.pow_le_pow_right (by omega) h) (by decide), Nat.one_le_pow _ _ (by omega)⟩
/-- What the program tells, in parts of all outcomes of eight rolls. -/
def ends (d : Nat → Nat) (g j : Nat) : Nat := 6 ^ (7 - j) * T d g j
theorem ends_part (d : Nat → Nat) {g j : Nat} (hg : g ≤ 8) (hj : j < g) : ends d g j = 6 ^ (8 - g) * part7 d g j := by
  unfold ends part7
  have e : 7 - j = (8 - g) + (g - 1 - j) := by omega
  rw [e, Nat.pow_add]
  generalize 6 ^ (8 - g) = a
  generalize 6 ^ (g - 1 - j) = b
  generalize T d g j = c
  grind
theorem pow8 {g : Nat} (hg : g ≤ 8) : 6 ^ (8 - g) * 6 ^ g = 1679616 := by
  rw [← Nat.pow_add, show 8 - g + g = 8 by omega]
theorem ends_sum (d : Nat → Nat) {g n : Nat} (hg : g ≤ 8) (hn : n ≤ g) : nsum (ends d g) n = 6 ^ (8 - g) * nsum (part7 d g) n := by
  rw [← nsum_mul]
  exact nsum_congr n fun t ht => ends_part d hg (by omega)
theorem ends_le (d : Nat → Nat) {g n : Nat} (h1 : 1 ≤ g) (hg : g ≤ 8) (hn : n ≤ g) : nsum (ends d g) n ≤ 1679616 := by
  rw [ends_sum d hg hn, ← pow8 hg]
  exact Nat.mul_le_mul_left _ (part7_le d h1 hn)
theorem ends_one (d : Nat → Nat) {g j : Nat} (h1 : 1 ≤ g) (hg : g ≤ 8) (hj : j < g) : ends d g j ≤ 1679616 := Nat.le_trans (nsum_ge _ g hj) (ends_le d h1 hg (Nat.le_refl _))
/-- One chance of the table. -/
theorem run_cut (d : Nat → Nat) {g j : Nat} (hg : g ≤ 8) (hj : j < g) : num (ends d g j) 1679616 = num (T d g j) (6 ^ (j + 1)) ∧ den (ends d g j) 1679616 = den (T d g j) (6 ^ (j + 1)) := by
  refine cut_eq (by decide) (Nat.pos_of_ne_zero (by simp)) ?_
  unfold ends
  have e : 1679616 = 6 ^ (7 - j) * 6 ^ (j + 1) := by rw [← Nat.pow_add, show 7 - j + (j + 1) = 8 by omega]
  rw [e]
  generalize 6 ^ (7 - j) = a
  generalize 6 ^ (j + 1) = b
  generalize T d g j = c
  grind
/-- The mean, in parts. -/
def top (d : Nat → Nat) (g : Nat) (n : Nat) : Nat := nsum (fun j => (j + 1) * T d g j * 6 ^ (g - 1 - j)) n
def rolls (d : Nat → Nat) (g : Nat) (n : Nat) : Nat := nsum (fun j => (j + 1) * ends d g j) n
theorem top_part (d : Nat → Nat) (g j : Nat) : (j + 1) * T d g j * 6 ^ (g - 1 - j) = (j + 1) * part7 d g j := by
  unfold part7
  rw [Nat.mul_assoc]
theorem rolls_top (d : Nat → Nat) {g n : Nat} (hg : g ≤ 8) (hn : n ≤ g) : rolls d g n = 6 ^ (8 - g) * top d g n := by
  unfold rolls top
  rw [← nsum_mul]
  refine nsum_congr n fun t ht => ?_
  show (t + 1) * ends d g t = 6 ^ (8 - g) * ((t + 1) * T d g t * 6 ^ (g - 1 - t))
  rw [ends_part d hg (by omega), top_part]
  generalize 6 ^ (8 - g) = a
  generalize part7 d g t = b
  grind
theorem mean_cut (d : Nat → Nat) {g : Nat} (hg : g ≤ 8) : num (rolls d g g) 1679616 = num (top d g g) (6 ^ g) ∧ den (rolls d g g) 1679616 = den (top d g g) (6 ^ g) := by
  refine cut_eq (by decide) (Nat.pos_of_ne_zero (by simp)) ?_
  rw [rolls_top d hg (Nat.le_refl _), ← pow8 hg]
  generalize 6 ^ (8 - g) = a
  generalize 6 ^ g = b
  generalize top d g g = c
  grind
theorem top_le (d : Nat → Nat) {g n : Nat} (h1 : 1 ≤ g) (hg : g ≤ 8) (hn : n ≤ g) : top d g n ≤ 8 * 6 ^ g := by
  have h : ∀ n, n ≤ g → top d g n ≤ 8 * nsum (part7 d g) n := by
    intro n
    induction n with
    | zero => intro _; exact Nat.zero_le _
    | succ n ih =>
      intro hn
      have := ih (by omega)
      show top d g n + (n + 1) * T d g n * 6 ^ (g - 1 - n) ≤ 8 * (nsum (part7 d g) n + part7 d g n)
      rw [top_part]
      have h3 : (n + 1) * part7 d g n ≤ 8 * part7 d g n := Nat.mul_le_mul_right _ (by omega)
      omega
  exact Nat.le_trans (h n hn) (Nat.mul_le_mul_left 8 (part7_le d h1 hn))
theorem rolls_le (d : Nat → Nat) {g n : Nat} (h1 : 1 ≤ g) (hg : g ≤ 8) (hn : n ≤ g) : rolls d g n ≤ 13436928 := by
  rw [rolls_top d hg hn]
  have h := Nat.mul_le_mul_left (6 ^ (8 - g)) (top_le d h1 hg hn)
  have e : 6 ^ (8 - g) * (8 * 6 ^ g) = 13436928 := by
    have := pow8 hg
    generalize 6 ^ (8 - g) = a at *
    generalize 6 ^ g = b at *
    have e : a * (8 * b) = 8 * (a * b) := by grind
    rw [e, this]
  omega

/-- Races: rounds of the first player before one of the second, and the same. -/
def same (a b : Nat → Nat) (n : Nat) : Nat := nsum (fun j => a j * b j) n
def bef (a b : Nat → Nat) (g n : Nat) : Nat := nsum (fun j => a j * (nsum b g - nsum b (j + 1))) n
def wins (a b : Nat → Nat) (all n : Nat) : Nat := nsum (fun j => a j * (all - nsum b j)) n
theorem bef_same (a b : Nat → Nat) {g : Nat} : ∀ n, n ≤ g → bef a b g n + same a b n = wins a b (nsum b g) n
  | 0, _ => rfl
  | n + 1, h => by
    have ih := bef_same a b (g := g) n (by omega)
    have hm := nsum_mono b (show n + 1 ≤ g from h)
    have e : nsum b (n + 1) = nsum b n + b n := rfl
    show bef a b g n + a n * (nsum b g - nsum b (n + 1)) + (same a b n + a n * b n) = wins a b (nsum b g) n + a n * (nsum b g - nsum b n)
    have e2 : nsum b g - nsum b n = (nsum b g - nsum b (n + 1)) + b n := by omega
    rw [e2, Nat.mul_add]
    omega
theorem wins_ends (d e : Nat → Nat) {g : Nat} (hg : g ≤ 8) (n : Nat) (hn : n ≤ g) : wins (ends d g) (ends e g) 1679616 n = 6 ^ (8 - g) * 6 ^ (8 - g) * wins (part7 d g) (part7 e g) (6 ^ g) n := by
  unfold wins
  rw [← nsum_mul]
  refine nsum_congr n fun t ht => ?_
  show ends d g t * (1679616 - nsum (ends e g) t) = _ * (part7 d g t * (6 ^ g - nsum (part7 e g) t))
  rw [ends_part d hg (by omega), ends_sum e hg (by omega), ← pow8 hg, ← Nat.mul_sub]
  generalize 6 ^ (8 - g) = a
  generalize part7 d g t = b
  generalize 6 ^ g - nsum (part7 e g) t = c
  grind
theorem same_ends (d e : Nat → Nat) {g : Nat} (hg : g ≤ 8) (n : Nat) (hn : n ≤ g) : same (ends d g) (ends e g) n = 6 ^ (8 - g) * 6 ^ (8 - g) * same (part7 d g) (part7 e g) n := by
  unfold same
  rw [← nsum_mul]
  refine nsum_congr n fun t ht => ?_
  show ends d g t * ends e g t = _ * (part7 d g t * part7 e g t)
  rw [ends_part d hg (by omega), ends_part e hg (by omega)]
  generalize 6 ^ (8 - g) = a
  generalize part7 d g t = b
  generalize part7 e g t = c
  grind
theorem pow16 {g : Nat} (hg : g ≤ 8) : 6 ^ (8 - g) * 6 ^ (8 - g) * 6 ^ (2 * g) = 2821109907456 := by
  rw [← Nat.pow_add, ← Nat.pow_add, show 8 - g + (8 - g) + 2 * g = 16 by omega]
theorem cut16 {x y g : Nat} (hg : g ≤ 8) (h : x = 6 ^ (8 - g) * 6 ^ (8 - g) * y) : num x 2821109907456 = num y (6 ^ (2 * g)) ∧ den x 2821109907456 = den y (6 ^ (2 * g)) := by
  refine cut_eq (by decide) (Nat.pos_of_ne_zero (by simp)) ?_
  rw [h, ← pow16 hg]
  generalize 6 ^ (8 - g) * 6 ^ (8 - g) = a
  generalize 6 ^ (2 * g) = b
  grind
theorem first_cut {d e : Nat → Nat} (he : ∀ j, j < 6 → 1 ≤ e j) {g : Nat} (h1 : 1 ≤ g) (hg : g ≤ 8) : num (wins (ends d g) (ends e g) 1679616 g) 2821109907456 = num (bef (part7 d g) (part7 e g) g g + same (part7 d g) (part7 e g) g) (6 ^ (2 * g)) ∧
    den (wins (ends d g) (ends e g) 1679616 g) 2821109907456 = den (bef (part7 d g) (part7 e g) g g + same (part7 d g) (part7 e g) g) (6 ^ (2 * g)) := by
  refine cut16 hg ?_
  rw [bef_same _ _ g (Nat.le_refl _), part7_all he h1]
  exact wins_ends d e hg g (Nat.le_refl _)
theorem same_cut (d e : Nat → Nat) {g : Nat} (hg : g ≤ 8) : num (same (ends d g) (ends e g) g) 2821109907456 = num (same (part7 d g) (part7 e g) g) (6 ^ (2 * g)) ∧
    den (same (ends d g) (ends e g) g) 2821109907456 = den (same (part7 d g) (part7 e g) g) (6 ^ (2 * g)) := cut16 hg (same_ends d e hg g (Nat.le_refl _))
theorem wins_le {a b : Nat → Nat} {all n g : Nat} (h : ∀ n, n ≤ g → nsum a n ≤ all) (hn : n ≤ g) : wins a b all n ≤ all * all := by
  have h1 : ∀ n, n ≤ g → wins a b all n ≤ all * nsum a n := by
    intro n
    induction n with
    | zero => intro _; exact Nat.zero_le _
    | succ n ih =>
      intro hn
      have := ih (by omega)
      have h2 : a n * (all - nsum b n) ≤ a n * all := Nat.mul_le_mul_left _ (Nat.sub_le _ _)
      show wins a b all n + a n * (all - nsum b n) ≤ all * (nsum a n + a n)
      rw [Nat.mul_add, Nat.mul_comm all (a n)]
      omega
  exact Nat.le_trans (h1 n hn) (Nat.mul_le_mul_left _ (h n hn))
theorem same_le {a b : Nat → Nat} {all n g : Nat} (h : ∀ n, n ≤ g → nsum a n ≤ all) (hb : ∀ j, j < g → b j ≤ all) (hn : n ≤ g) : same a b n ≤ all * all := by
  have h1 : ∀ n, n ≤ g → same a b n ≤ all * nsum a n := by
    intro n
    induction n with
    | zero => intro _; exact Nat.zero_le _
    | succ n ih =>
      intro hn
      have := ih (by omega)
      have h2 : a n * b n ≤ a n * all := Nat.mul_le_mul_left _ (hb n (by omega))
      show same a b n + a n * b n ≤ all * (nsum a n + a n)
      rw [Nat.mul_add, Nat.mul_comm all (a n)]
      omega
  exact Nat.le_trans (h1 n hn) (Nat.mul_le_mul_left _ (h n hn))

end RunM
end Go.Proofs.Ytcffglnfdnanhaa
