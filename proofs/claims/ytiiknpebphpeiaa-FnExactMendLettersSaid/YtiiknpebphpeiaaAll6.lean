/-
  Contracts of the functions that count the outcomes of a pool.
-/
import Derived.Test.YtiiknpebphpeiaaRows
import Derived.WalkKit
import Derived.WalkLawsBesides
import Derived.WalkSpells
import Derived.Lib.Hide
namespace Go.Proofs.Ytiiknpebphpeiaa
open Go.RowKit

namespace All6
/-- Six to the power of n. -/
def all6 (n : Nat) : Nat := 6 ^ n
theorem all6_le {n : Nat} (h : n ≤ 4) : all6 n ≤ 1296 ∧ 1 ≤ all6 n := by
  unfold all6
  obtain rfl | rfl | rfl | rfl | rfl : n = 0 ∨ n = 1 ∨ n = 2 ∨ n = 3 ∨ n = 4 := by omega
  all_goals decide
theorem all6_succ (n : Nat) : all6 (n + 1) = all6 n * 6 := by unfold all6; rw [Nat.pow_succ]

set_option maxHeartbeats 1000000 in
theorem l2All_any (n : Nat) (w : World) (h : n ≤ 4) :
    Calls Try.prog 80 #[.int .i64 n] w fun e w' => e = .returned (.int .i64 (all6 n : Nat)) ∧ w' = w := by
  go_enter Try.func80, Try.ntmps80
  go_wp2_with fail
  go_loop [3, 4] (fun o i => ∃ k : Nat, k ≤ n ∧ i = .int .i64 k ∧ o = .int .i64 (all6 k : Nat)) (fun _ i => n - (intOf i).toNat)
  case atStart => exact ⟨0, by omega, rfl, rfl⟩
  case round =>
    obtain ⟨k, hk, rfl, rfl⟩ := hrel
    by_cases hlt : k < n
    · have h1 := all6_le (n := k) (by omega)
      have Hs := Lib.hid (all6_succ k)
      go_wp2_with fail
      go_round
      case rel => exact ⟨k + 1, by omega, by go_num, by rw [Hs.out, Int.natCast_mul]; rfl⟩
      case measure => simp [intOf]; omega
    · obtain rfl : k = n := by omega
      go_wp2_with fail
      go_ret
      exact ⟨rfl, rfl⟩
set_option maxHeartbeats 1000000 in
theorem outcomes_any (n : Nat) (w : World) (h : n ≤ 4) :
    Calls Try.prog 94 #[.int .i64 n] w fun e w' => e = .returned (.int .i64 (all6 n : Nat)) ∧ w' = w := by
  go_enter Try.func94, Try.ntmps94
  go_wp2_with fail
  go_loop [3, 5] (fun o i => ∃ k : Nat, k ≤ n ∧ i = .int .i64 k ∧ o = .int .i64 (all6 k : Nat)) (fun _ i => n - (intOf i).toNat)
  case atStart => exact ⟨0, by omega, rfl, rfl⟩
  case round =>
    obtain ⟨k, hk, rfl, rfl⟩ := hrel
    by_cases hlt : k < n
    · have h1 := all6_le (n := k) (by omega)
      have Hs := Lib.hid (all6_succ k)
      go_wp2_with fail
      go_round
      case rel => exact ⟨k + 1, by omega, by go_num, by rw [Hs.out, Int.natCast_mul]; rfl⟩
      case measure => simp [intOf]; omega
    · obtain rfl : k = n := by omega
      go_wp2_with fail
      go_ret
      exact ⟨rfl, rfl⟩

end All6
end Go.Proofs.Ytiiknpebphpeiaa
