/-
  Contracts of the two functions that reckon the checksum (a loop over the bytes), for every text.
-/
import Derived.Test.YthmeagmabidniaaDoorRows
import Derived.Test.YthmeagmabidniaaDoorStrs
import Derived.WalkKit
import Derived.WalkLawsBesides
import Derived.Lib.Hide
namespace Go.Proofs.YthmeagmabidniaaDoor
open Go.RowKit

namespace SumW
open Strs

theorem ret2_int {k : IntKind} {a b : Int} {x : Value} (h : a = b) : Ending.returned (.tuple #[.int k a, x]) = .returned (.tuple #[.int k b, x]) := by rw [h]
theorem ret_int {k : IntKind} {a b : Int} (h : a = b) : Ending.returned (.int k a) = .returned (.int k b) := by rw [h]

set_option maxHeartbeats 400000 in
theorem l1Sum_any (s : ByteArray) (w : World) (hs : s.size ≤ maxLen) :
    Calls Tryd.prog 43 #[.string s] w fun e w' => e = .returned (.int .i64 (chk s.data.toList)) ∧ w = w' := by
  unfold maxLen at hs
  go_enter Tryd.func43, Tryd.ntmps43
  go_wp2
  go_loop [3, 4] (fun n i => ∃ k : Nat, k ≤ s.size ∧ i = .int .i64 k ∧ n = .int .i64 (chk (s.data.toList.take k))) (fun _ i => s.size - (intOf i).toNat)
  case atStart => exact ⟨0, Nat.zero_le _, rfl, rfl⟩
  case round =>
    obtain ⟨k, hk, rfl, rfl⟩ := hrel
    have hd := chk_bounds (s.data.toList.take k)
    by_cases hlt : k < s.size
    · have HS := Lib.hid (chk_take s k hlt)
      have hb : ((s[k]).toNat : Int) < 256 := by have := (s[k]).toNat_lt; omega
      go_wp2
      all_goals
        go_round
        case rel => exact ⟨k + 1, by omega, by go_num, by rw [HS.out]⟩
        case measure => simp [intOf]; omega
    · go_wp2
      go_ret
      exact ⟨ret_int (by rw [List.take_of_length_le (by simp; omega)]), rfl⟩

set_option maxHeartbeats 400000 in
theorem implSum_any (s : ByteArray) (w : World) (hs : s.size ≤ maxLen) :
    Calls Tryd.prog 31 #[.string s] w fun e w' => e = .returned (.tuple (if s.size ≤ 4000 then #[.int .i64 (chk s.data.toList), .bool true] else #[.int .i64 0, .bool false])) ∧ w = w' := by
  unfold maxLen at hs
  by_cases h4 : s.size ≤ 4000
  · rw [if_pos h4]
    go_enter Tryd.func31, Tryd.ntmps31
    go_wp2
    go_loop [4, 5, 11] (fun n _ i => ∃ k : Nat, k ≤ s.size ∧ i = .int .i64 k ∧ n = .int .i64 (chk (s.data.toList.take k))) (fun _ _ i => s.size - (intOf i).toNat)
    case atStart => exact ⟨0, Nat.zero_le _, rfl, rfl⟩
    case round =>
      obtain ⟨k, hk, rfl, rfl⟩ := hrel
      have hd := chk_bounds (s.data.toList.take k)
      by_cases hlt : k < s.size
      · have HS := Lib.hid (chk_take s k hlt)
        have hb : ((s[k]).toNat : Int) < 256 := by have := (s[k]).toNat_lt; omega
        go_wp2
        all_goals
          go_round
          case rel => exact ⟨k + 1, by omega, by go_num, by rw [HS.out]⟩
          case measure => simp [intOf]; omega
      · go_wp2
        go_ret2
        exact ⟨ret2_int (by rw [List.take_of_length_le (by simp; omega)]), rfl⟩
  · rw [if_neg h4]
    go_enter Tryd.func31, Tryd.ntmps31
    go_wp2
    go_ret2
    exact ⟨rfl, rfl⟩


end SumW
end Go.Proofs.YthmeagmabidniaaDoor
