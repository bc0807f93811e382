/-
  Common contracts of the tables of places.
-/
import Derived.Test.YtlpkonobnipdeaaRows
import Derived.Test.YtlpkonobnipdeaaPlI
import Derived.Test.YtlpkonobnipdeaaSortDn
import Derived.Test.YtlpkonobnipdeaaPlaces
import Derived.Test.YtlpkonobnipdeaaRollWM
import Derived.Test.YtlpkonobnipdeaaIntsM
import Derived.Test.YtlpkonobnipdeaaPoolW
import Derived.Test.YtlpkonobnipdeaaAll6
import Derived.Test.YtlpkonobnipdeaaDicesW
import Derived.Test.YtlpkonobnipdeaaOpenD
import Derived.WalkKit
import Derived.WalkLawsBesides
import Derived.WalkSpells
import Derived.ProofKit
import Derived.OpenShut
import Derived.Deep.RegionWith
import Derived.Deep.WholeRow
import Derived.Deep.QuietTactic
import Derived.BigQuiet
namespace Go.Proofs.Ytlpkonobnipdeaa
open Go.ChangeShapes Go.WideShapes Go.ChangeAt Go.RowKit
open Go.ChangeMaps (open_string shut_string)

namespace PlcC
open Dice Arr OpenD DieW SortW DicesW PoolW All6 IntsW RollW Places SortDn PlI

theorem die_range' {P : Nat → Nat → Int} {n : Nat} (h : pooled P n) : ∀ i, i < n → ∀ k, k < 6 → 0 ≤ P i k ∧ P i k ≤ 30 := fun i hi k hk => ⟨((of_decide_eq_true (h i hi) : upto (P i) 6) k hk).1, ((of_decide_eq_true (h i hi) : upto (P i) 6) k hk).2.1⟩
theorem roll_range {P : Nat → Nat → Int} {n : Nat} (h : pooled P n) (i : Nat) : ∀ j, j < n → 0 ≤ rollF P i n j ∧ rollF P i n j ≤ 30 := fun j hj => die_range' h j hj _ (Nat.mod_lt _ (by omega))
/-- How many outcomes have each sum of the first k places; each number at the place k + 1. -/
def sumOf (P : Nat → Nat → Int) (n k i : Nat) : Int := top (rollF P i n) n k
def numOf (P : Nat → Nat → Int) (n k i : Nat) : Int := ds (rollF P i n) n k
theorem cnt_next {s : Nat → Int} {N q : Nat} (h : s N = (q : Int)) : cnt s (N + 1) = put (cnt s N) q (cnt s N q + 1) := by
  show put (cnt s N) (s N).toNat (cnt s N (s N).toNat + 1) = _
  rw [h, Int.toNat_natCast]
theorem top_next (f : Nat → Int) (n k : Nat) : top f n (k + 1) = top f n k + ds f n k := rfl
/-- Whether so many places, or such a place, can be asked. -/
def okK (n : Nat) (P : Nat → Nat → Int) (k : Int) : Bool := isPool n P && decide (1 ≤ k ∧ k ≤ n)

theorem isPlace_any (n : Nat) (k : Int) (w : World) :
    Calls Try.prog 133 #[.int .i64 n, .int .i64 k] w fun e w' => e = .returned (.bool (decide (1 ≤ k ∧ k ≤ n))) ∧ Below w.heap.size w w' := by
  by_cases h1 : 1 ≤ k
  · have d1 : decide (1 ≤ k) = true := decide_eq_true h1
    by_cases h2 : k ≤ n
    · have d2 : decide (k ≤ (n : Int)) = true := decide_eq_true h2
      have hr : Hid (decide (1 ≤ k ∧ k ≤ (n : Int)) = true) := decide_eq_true ⟨h1, h2⟩
      clear h1 h2
      go_enter Try.func133, Try.ntmps133
      go_wp2_with fail
      go_ret
      exact ⟨by rw [hr.out]; rfl, n0 _⟩
    · have d2 : decide (k ≤ (n : Int)) = false := decide_eq_false h2
      have hr : Hid (decide (1 ≤ k ∧ k ≤ (n : Int)) = false) := decide_eq_false (fun h => h2 h.2)
      clear h1 h2
      go_enter Try.func133, Try.ntmps133
      go_wp2_with fail
      go_ret
      exact ⟨by rw [hr.out]; rfl, n0 _⟩
  · have d1 : decide (1 ≤ k) = false := decide_eq_false h1
    have hr : Hid (decide (1 ≤ k ∧ k ≤ (n : Int)) = false) := decide_eq_false (fun h => h1 h.1)
    clear h1
    go_enter Try.func133, Try.ntmps133
    go_wp2_with fail
    go_ret
    exact ⟨by rw [hr.out]; rfl, n0 _⟩

theorem l4Keeps_any (A : Option Addr) (n c : Nat) (P : Nat → Nat → Int) (k : Int) (w : World) (h : Row w A n P) (hn : n ≤ maxLen) :
    Calls Try.prog 130 #[.slice A n c, .int .i64 k] w fun e w' => e = .returned (.bool (okK n P k)) ∧ Below w.heap.size w w' := by
  have hp := fun w h => l2Pool_any A n c P w h hn
  have hin := fun w => l1In_any k 1 n w
  unfold okK
  cases hq : isPool n P
  · rw [hq] at hp
    rw [Bool.false_and]
    have Hp := Lib.hid hp; clear hp hq hin
    go_enter Try.func130, Try.ntmps130
    go_wp2_with fail
    refine (Hp.out _ h).mono ?_
    rintro e w1 ⟨rfl, hb⟩
    go_wp2_with fail
    go_ret
    exact ⟨rfl, hb⟩
  · rw [hq] at hp
    rw [Bool.true_and]
    have Hp := Lib.hid hp; clear hp hq
    generalize decide (1 ≤ k ∧ k ≤ (n : Int)) = v at *
    have Hin := Lib.hid hin; clear hin
    go_enter Try.func130, Try.ntmps130
    go_wp2_with fail
    refine (Hp.out _ h).mono ?_
    rintro e w1 ⟨rfl, hb⟩
    go_wp2_with fail
    refine (Hin.out _).mono ?_
    rintro e w9 ⟨rfl, hw9⟩
    have hw9 := hw9.symm
    subst hw9
    go_wp2_with fail
    go_ret
    exact ⟨rfl, hb⟩



end PlcC
end Go.Proofs.Ytlpkonobnipdeaa
