/-
  Letters of pools; without any program.
-/
import Derived.Test.YtiiknpebphpeiaaRows
import Derived.Test.YtiiknpebphpeiaaArr
import Derived.WalkKit
import Derived.WalkLawsBesides
import Derived.WalkSpells
import Derived.ProofKit
import Derived.OpenShut
import Derived.Deep.RegionWith
import Derived.Deep.QuietTactic
import Derived.BigQuiet
namespace Go.Proofs.Ytiiknpebphpeiaa
open Go.ChangeShapes Go.WideShapes Go.ChangeAt Go.RowKit
open Go.ChangeMaps (open_string shut_string)

namespace LtrM
open Dice Arr


/-- How often p comes among the first i letters. -/
def cl (f : Nat → Int) : Nat → Int → Nat
  | 0, _ => 0
  | i + 1, p => if f i = p then cl f i p + 1 else cl f i p
theorem cl_hit {f : Nat → Int} {i : Nat} {p : Int} (h : f i = p) : cl f (i + 1) p = cl f i p + 1 := if_pos h
theorem cl_miss {f : Nat → Int} {i : Nat} {p : Int} (h : ¬ f i = p) : cl f (i + 1) p = cl f i p := if_neg h
theorem cl_le (f : Nat → Int) (p : Int) : ∀ i, cl f i p ≤ i
  | 0 => Nat.le_refl _
  | i + 1 => by
    have := cl_le f p i
    by_cases h : f i = p
    · rw [cl_hit h]; omega
    · rw [cl_miss h]; omega
theorem cl_mono (f : Nat → Int) (p : Int) (i : Nat) : ∀ d, cl f i p ≤ cl f (i + d) p
  | 0 => Nat.le_refl _
  | d + 1 => by
    have := cl_mono f p i d
    rw [← Nat.add_assoc]
    by_cases h : f (i + d) = p
    · rw [cl_hit h]; omega
    · rw [cl_miss h]; omega
theorem cl_sum {f : Nat → Int} : ∀ i, (∀ j, j < i → 0 ≤ f j ∧ f j < 4) → cl f i 0 + cl f i 1 + cl f i 2 + cl f i 3 = i
  | 0, _ => rfl
  | i + 1, h => by
    have ih := cl_sum i (fun j hj => h j (by omega))
    obtain ⟨h0, h4⟩ := h i (by omega)
    obtain e | e | e | e : f i = 0 ∨ f i = 1 ∨ f i = 2 ∨ f i = 3 := by omega
    all_goals
      simp only [cl, e]
      simp
      omega
theorem cl_none {f : Nat → Int} {p : Int} : ∀ i, (∀ j, j < i → f j ≠ p) → cl f i p = 0
  | 0, _ => rfl
  | i + 1, h => by rw [cl_miss (h i (by omega)), cl_none i (fun j hj => h j (by omega))]
theorem cl_six {f : Nat → Int} {p : Int} : ∀ i, (∀ j, j < i → cl f j (f j) < 6) → cl f i p ≤ 6
  | 0, _ => Nat.zero_le _
  | i + 1, h => by
    have ih := cl_six (p := p) i (fun j hj => h j (by omega))
    by_cases e : f i = p
    · have := h i (by omega)
      rw [e] at this
      rw [cl_hit e]; omega
    · rw [cl_miss e]; exact ih
/-- What letters are. -/
def Ok (f : Nat → Int) (L : Nat) : Prop := ∃ n, L = 6 * n ∧ 1 ≤ n ∧ n ≤ 4 ∧ (∀ j, j < L → 0 ≤ f j ∧ f j < (n : Int)) ∧ ∀ p : Nat, p < n → cl f L p = 6
theorem ok_of {f : Nat → Int} {n : Nat} (h1 : 1 ≤ n) (h4 : n ≤ 4) (hr : ∀ j, j < 6 * n → 0 ≤ f j ∧ f j < (n : Int)) (h6 : ∀ j, j < 6 * n → cl f j (f j) < 6) : Ok f (6 * n) := by
  refine ⟨n, rfl, h1, h4, hr, fun p hp => ?_⟩
  have hs := cl_sum (6 * n) (fun j hj => ⟨(hr j hj).1, by have := (hr j hj).2; omega⟩)
  have g0 := cl_six (p := 0) (6 * n) h6
  have g1 := cl_six (p := 1) (6 * n) h6
  have g2 := cl_six (p := 2) (6 * n) h6
  have g3 := cl_six (p := 3) (6 * n) h6
  have o1 : n ≤ 1 → cl f (6 * n) 1 = 0 := fun h => cl_none _ (fun j hj => by have := (hr j hj).2; omega)
  have o2 : n ≤ 2 → cl f (6 * n) 2 = 0 := fun h => cl_none _ (fun j hj => by have := (hr j hj).2; omega)
  have o3 : n ≤ 3 → cl f (6 * n) 3 = 0 := fun h => cl_none _ (fun j hj => by have := (hr j hj).2; omega)
  obtain ⟨q, hq⟩ : ∃ q : Int, q = (p : Int) := ⟨_, rfl⟩
  rw [← hq]
  have hp' : q = 0 ∨ q = 1 ∨ q = 2 ∨ q = 3 := by omega
  obtain rfl | rfl | rfl | rfl := hp'
  · by_cases a1 : n ≤ 1 <;> by_cases a2 : n ≤ 2 <;> by_cases a3 : n ≤ 3 <;> (simp only [a1, a2, a3, true_implies, false_implies] at o1 o2 o3) <;> omega
  · by_cases a1 : n ≤ 1 <;> by_cases a2 : n ≤ 2 <;> by_cases a3 : n ≤ 3 <;> (simp only [a1, a2, a3, true_implies, false_implies] at o1 o2 o3) <;> omega
  · by_cases a1 : n ≤ 1 <;> by_cases a2 : n ≤ 2 <;> by_cases a3 : n ≤ 3 <;> (simp only [a1, a2, a3, true_implies, false_implies] at o1 o2 o3) <;> omega
  · by_cases a1 : n ≤ 1 <;> by_cases a2 : n ≤ 2 <;> by_cases a3 : n ≤ 3 <;> (simp only [a1, a2, a3, true_implies, false_implies] at o1 o2 o3) <;> omega
theorem ok_lt {f : Nat → Int} {L : Nat} (h : Ok f L) {j : Nat} (hj : j < L) : cl f j (f j) < 6 := by
  obtain ⟨n, hL, h1, h4, hr, hc⟩ := h
  obtain ⟨g0, g1⟩ := hr j hj
  obtain ⟨x, hx⟩ : ∃ x : Nat, f j = x := ⟨(f j).toNat, by omega⟩
  have e := hc x (by omega)
  have e2 := cl_mono f x (j + 1) (L - (j + 1))
  rw [show j + 1 + (L - (j + 1)) = L by omega, cl_hit hx] at e2
  rw [hx]
  omega
/-- The cells of the pool after i letters. -/
def pw (f : Nat → Int) : Nat → Nat → Int
  | 0 => fun _ => 0
  | i + 1 => put (pw f i) ((f i).toNat * 6 + cl f i (f i)) ((i + 1 : Nat) : Int)
theorem pw_next {f : Nat → Int} {i x : Nat} (h : f i = x) : pw f (i + 1) = put (pw f i) (x * 6 + cl f i x) ((i + 1 : Nat) : Int) := by
  show put (pw f i) ((f i).toNat * 6 + cl f i (f i)) _ = _
  rw [h, Int.toNat_natCast]
/-- The dice of letters. -/
def lp (f : Nat → Int) (L : Nat) (i k : Nat) : Int := pw f L (i * 6 + k)
/-- The counts after one more letter. -/
theorem cl_put {f C : Nat → Int} {i x m : Nat} (hx : f i = x) (h : ∀ p : Nat, p < m → C p = (cl f i p : Nat)) : ∀ p : Nat, p < m → put C x ((cl f i x : Nat) + 1 : Int) p = (cl f (i + 1) p : Nat) := fun p hp => by
  by_cases e : p = x
  · subst e
    rw [put_same, cl_hit hx]
    push_cast; rfl
  · rw [put_other _ e, h p hp, cl_miss (by rw [hx]; omega)]


end LtrM
end Go.Proofs.Ytiiknpebphpeiaa
