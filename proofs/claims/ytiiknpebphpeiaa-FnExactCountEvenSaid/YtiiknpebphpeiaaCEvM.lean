/-
  Lists of bits; without any program.
-/
import Derived.Test.YtiiknpebphpeiaaRows
import Derived.Test.YtiiknpebphpeiaaArr
import Derived.WalkKit
import Derived.WalkLawsBesides
import Derived.WalkSpells
import Derived.ProofKit
import Derived.OpenShut
import Derived.Deep.RegionWith
import Derived.Deep.QuietTactic
import Derived.BigQuiet
namespace Go.Proofs.Ytiiknpebphpeiaa
open Go.ChangeShapes Go.WideShapes Go.ChangeAt Go.RowKit
open Go.ChangeMaps (open_string shut_string)

namespace CEvM
open Dice Arr


/-- A bit, the ones among the first bits, and the pairs. -/
def bt (c i : Nat) : Nat := c / 2 ^ i % 2
def on (c : Nat) : Nat → Nat
  | 0 => 0
  | i + 1 => if bt c i = 1 then on c i + 1 else on c i
def bh (c : Nat) : Nat → Nat
  | 0 => 0
  | i + 1 => if bt c i = 1 then bh c i else bh c i + on c i
theorem on_le (c : Nat) : ∀ i, on c i ≤ i
  | 0 => Nat.le_refl _
  | i + 1 => by
    have := on_le c i
    show (if bt c i = 1 then on c i + 1 else on c i) ≤ i + 1
    by_cases h : bt c i = 1
    · rw [if_pos h]; omega
    · rw [if_neg h]; omega
theorem bh_le (c : Nat) : ∀ i, bh c i ≤ i * i
  | 0 => Nat.le_refl _
  | i + 1 => by
    have h1 := bh_le c i
    have h2 := on_le c i
    show (if bt c i = 1 then bh c i else bh c i + on c i) ≤ (i + 1) * (i + 1)
    rw [Nat.add_mul, Nat.mul_add]
    by_cases h : bt c i = 1
    · rw [if_pos h]; omega
    · rw [if_neg h]; omega
theorem on_more {c m : Nat} (h : c < 2 ^ m) : ∀ t, on c (m + t) = on c m
  | 0 => rfl
  | t + 1 => by
    have hb : bt c (m + t) = 0 := by
      unfold bt
      rw [Nat.div_eq_of_lt (Nat.lt_of_lt_of_le h (Nat.pow_le_pow_right (by omega) (by omega)))]
    show (if bt c (m + t) = 1 then on c (m + t) + 1 else on c (m + t)) = on c m
    rw [if_neg (by omega), on_more h t]
/-- How many of the first C lists are even. -/
def ev (k : Nat) : Nat → Nat
  | 0 => 0
  | c + 1 => if on c (2 * k) = k ∧ 2 * bh c (2 * k) = k * k then ev k c + 1 else ev k c
theorem ev_le (k : Nat) : ∀ c, ev k c ≤ c
  | 0 => Nat.le_refl _
  | c + 1 => by
    have := ev_le k c
    show (if _ then _ else _) ≤ c + 1
    by_cases h : on c (2 * k) = k ∧ 2 * bh c (2 * k) = k * k
    · rw [if_pos h]; omega
    · rw [if_neg h]; omega
theorem ev_yes {k c : Nat} (h : on c (2 * k) = k ∧ 2 * bh c (2 * k) = k * k) : ev k (c + 1) = ev k c + 1 := if_pos h
theorem ev_no {k c : Nat} (h : ¬ (on c (2 * k) = k ∧ 2 * bh c (2 * k) = k * k)) : ev k (c + 1) = ev k c := if_neg h


end CEvM
end Go.Proofs.Ytiiknpebphpeiaa
