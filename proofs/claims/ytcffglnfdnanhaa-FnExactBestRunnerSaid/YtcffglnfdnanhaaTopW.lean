/-
  The first place of the greatest one of some numbers.
-/
import Derived.Test.YtcffglnfdnanhaaRows
import Derived.Test.YtcffglnfdnanhaaShelfMax
import Derived.Test.YtcffglnfdnanhaaDieW
import Derived.Test.YtcffglnfdnanhaaOpenD
import Derived.WalkKit
import Derived.WalkLawsBesides
import Derived.WalkSpells
import Derived.ProofKit
import Derived.OpenShut
import Derived.Deep.RegionWith
import Derived.Deep.QuietTactic
import Derived.BigQuiet
namespace Go.Proofs.Ytcffglnfdnanhaa
open Go.ChangeShapes Go.WideShapes Go.ChangeAt Go.RowKit
open Go.ChangeMaps (open_string shut_string)

namespace TopW
open Dice Arr

/-- The first place of the greatest of the first n numbers, and this number. -/
def top (F : Nat → Int) : Nat → Nat × Int
  | 0 => (0, -1)
  | n + 1 => if (top F n).2 < F n then (n, F n) else top F n
theorem top_spec {F : Nat → Int} (h : ∀ k, 0 ≤ F k) : ∀ n, (top F (n + 1)).1 < n + 1 ∧ F (top F (n + 1)).1 = (top F (n + 1)).2 ∧ (∀ j, j < (top F (n + 1)).1 → F j < (top F (n + 1)).2) ∧ ∀ j, j < n + 1 → F j ≤ (top F (n + 1)).2 := by
  intro n
  induction n with
  | zero =>
    have h0 := h 0
    have e : top F 1 = (0, F 0) := by
      show (if (-1 : Int) < F 0 then (0, F 0) else (0, -1)) = _
      rw [if_pos (by omega)]
    rw [e]
    refine ⟨by omega, rfl, fun j hj => by omega, fun j hj => ?_⟩
    obtain rfl : j = 0 := by omega
    exact Int.le_refl _
  | succ n ih =>
    obtain ⟨h1, h2, h3, h4⟩ := ih
    have e : top F (n + 1 + 1) = if (top F (n + 1)).2 < F (n + 1) then (n + 1, F (n + 1)) else top F (n + 1) := rfl
    by_cases hlt : (top F (n + 1)).2 < F (n + 1)
    · rw [e, if_pos hlt]
      refine ⟨by omega, rfl, fun j hj => ?_, fun j hj => ?_⟩
      · have := h4 j hj
        show F j < F (n + 1)
        omega
      · show F j ≤ F (n + 1)
        by_cases hjn : j = n + 1
        · subst hjn; exact Int.le_refl _
        · have := h4 j (by omega)
          omega
    · rw [e, if_neg hlt]
      refine ⟨by omega, h2, h3, fun j hj => ?_⟩
      by_cases hjn : j = n + 1
      · subst hjn; omega
      · exact h4 j (by omega)
def ints (F : Nat → Int) (n : Nat) : List Int := (List.range n).map F
theorem ints_len (F : Nat → Int) (n : Nat) : (ints F n).length = n := by simp [ints]
theorem ints_get {F : Nat → Int} {n k : Nat} (h : k < n) : (ints F n).getD k 0 = F k := by simp [ints, h]
theorem max_top {F : Nat → Int} (h : ∀ k, 0 ≤ F k) (N : Nat) : ∀ n, n + 1 ≤ N → Lib.maxOf ((ints F N).take (n + 1)) = (top F (n + 1)).2 := by
  intro n
  induction n with
  | zero =>
    intro hn
    rw [Lib.maxOf_one, ints_get (by omega)]
    exact (top_spec h 0).2.1.symm.trans (by have := (top_spec h 0).1; congr 1; omega) |>.symm
  | succ n ih =>
    intro hn
    rw [Lib.maxOf_step _ _ (by omega) (by rw [ints_len]; omega), ih (by omega), ints_get (by omega)]
    have e : top F (n + 1 + 1) = if (top F (n + 1)).2 < F (n + 1) then (n + 1, F (n + 1)) else top F (n + 1) := rfl
    rw [e]
    by_cases hlt : (top F (n + 1)).2 < F (n + 1)
    · rw [if_pos hlt]
      show max _ _ = F (n + 1)
      omega
    · rw [if_neg hlt]
      omega
theorem idx_top {F : Nat → Int} (h : ∀ k, 0 ≤ F k) (n : Nat) : Lib.idxOf ((ints F (n + 1)).take (n + 1)) (top F (n + 1)).2 = ((top F (n + 1)).1 : Int) := by
  obtain ⟨h1, h2, h3, _⟩ := top_spec h n
  exact Lib.idxOf_hit _ (n + 1) _ _ h1 (by rw [ints_len]; omega) (by rw [ints_get h1]; exact h2) (fun j hj => by rw [ints_get (by omega)]; have := h3 j hj; omega)

set_option maxHeartbeats 1000000 in
theorem firstMost_any (F : Nat → Int) (h : ∀ k, 0 ≤ F k) (g n c : Nat) (hn : n ≤ 1000) (w : World) (hA : At w g (n + 1) F) :
    Calls Try.prog 79 #[.slice (some ⟨g, 0, none⟩) (n + 1) c] w fun e w' => e = .returned (.tuple #[.int .i64 (top F (n + 1)).1, .int .i64 (top F (n + 1)).2]) ∧ w' = w := by
  have hc : ∀ j, j < (ints F (n + 1)).length → w.cell? ⟨g, 0 + j, none⟩ = some (.int .i64 ((ints F (n + 1)).getD j 0)) := fun j hj => by
    rw [ints_len] at hj
    rw [Nat.zero_add, ints_get hj]
    exact hA.cell j hj
  have h1 := Try.slices_Max_int g 0 (n + 1) c (ints F (n + 1)) w (by omega) (by rw [ints_len]; omega) (by omega) hc
  have h2 := Try.slices_Index_int g 0 (n + 1) c (ints F (n + 1)) (top F (n + 1)).2 w (by rw [ints_len]; omega) (by omega) hc
  rw [max_top h (n + 1) n (by omega)] at h1
  rw [idx_top h n] at h2
  have H1 := Lib.hid h1; clear h1
  have H2 := Lib.hid h2; clear h2
  clear hc hA h
  generalize (top F (n + 1)).2 = y at *
  generalize (top F (n + 1)).1 = x at *
  go_enter Try.func79, Try.ntmps79
  go_wp2_with fail
  refine H1.out.mono ?_
  rintro e w1 ⟨rfl, rfl⟩
  go_wp2_with fail
  refine H2.out.mono ?_
  rintro e w1 ⟨rfl, rfl⟩
  go_wp2_with fail
  go_ret2
  exact ⟨rfl, rfl⟩


end TopW
end Go.Proofs.Ytcffglnfdnanhaa
