/-
  Six to the power of a place, the place of a die in an outcome, whether a die is in a set: contracts of both sides.
-/
import Derived.Test.YtppaegibhikjnaaRows
import Derived.Test.YtppaegibhikjnaaAgainM
import Derived.Test.YtppaegibhikjnaaAll6
import Derived.Test.YtppaegibhikjnaaAll9
import Derived.Test.YtppaegibhikjnaaOpenD
import Derived.WalkKit
import Derived.WalkLawsBesides
import Derived.WalkSpells
import Derived.ProofKit
import Derived.OpenShut
import Derived.Deep.RegionWith
import Derived.Deep.QuietTactic
import Derived.BigQuiet
namespace Go.Proofs.Ytppaegibhikjnaa
open Go.ChangeShapes Go.WideShapes Go.ChangeAt Go.RowKit
open Go.ChangeMaps (open_string shut_string)

namespace PowW
open Dice Arr AgainM All6 All9


theorem stp_le {n i : Nat} (hn : n ≤ 3) (hi : i < n) : stp n i ≤ 36 ∧ 1 ≤ stp n i := by
  refine ⟨?_, stp_pos n i⟩
  unfold stp
  exact Nat.le_trans (Nat.pow_le_pow_right (by omega) (show n - 1 - i ≤ 2 by omega)) (by decide)
theorem all_stp (n i : Nat) : all6 (n - 1 - i) = stp n i := rfl

set_option maxHeartbeats 1000000 in
theorem power_any (n i : Nat) (w : World) (hn : n ≤ 3) (hi : i < n) :
    Calls Try.prog 103 #[.int .i64 n, .int .i64 i] w fun e w' => e = .returned (.int .i64 (stp n i : Nat)) ∧ w' = w := by
  have Ho := Lib.hid (fun w => l2All_any (n - 1 - i) w (by omega))
  have e1 : ((n : Int) - 1 - (i : Int)) = ((n - 1 - i : Nat) : Int) := by omega
  go_enter Try.func103, Try.ntmps103
  go_wp2_with fail
  refine (Ho.out _).mono ?_
  rintro e w2 ⟨rfl, rfl⟩
  go_wp2_with fail
  go_ret
  exact ⟨rfl, rfl⟩

set_option maxHeartbeats 1000000 in
theorem digit_any (n N i : Nat) (w : World) (hn : n ≤ 3) (hi : i < n) (hN : N < 216) :
    Calls Try.prog 104 #[.int .i64 n, .int .i64 N, .int .i64 i] w fun e w' => e = .returned (.int .i64 (digit n N i : Nat)) ∧ w' = w := by
  have Ho := Lib.hid (fun w => power_any n i w hn hi)
  have hs := stp_le hn hi
  have hd : Hid (digit n N i = N / stp n i % 6) := rfl
  have hle : N / stp n i ≤ N := Nat.div_le_self _ _
  generalize stp n i = s at *
  have e1 : ((N : Int).tdiv (s : Int)) = ((N / s : Nat) : Int) := rfl
  have e2 : (((N / s : Nat) : Int).tmod 6) = ((N / s % 6 : Nat) : Int) := rfl
  generalize N / s = q at *
  go_enter Try.func104, Try.ntmps104
  go_wp2_with fail
  refine (Ho.out _).mono ?_
  rintro e w2 ⟨rfl, rfl⟩
  go_wp2_with fail
  go_ret
  rw [hd.out]
  exact ⟨rfl, rfl⟩

/-- A bit of a number, as the machine tells it. -/
theorem bits_bit {s i : Nat} (hs : s < 8) (hi : i < 3) : bits BinOp.and IntKind.i64 ((s : Int) / 2 ^ i) 1 = ((bit s i : Nat) : Int) := by
  have h : ∀ s : Fin 8, ∀ i : Fin 3, bits BinOp.and IntKind.i64 ((s.val : Int) / 2 ^ i.val) 1 = ((bit s.val i.val : Nat) : Int) := by decide +kernel
  exact h ⟨s, hs⟩ ⟨i, hi⟩
theorem bit_lt (s i : Nat) : bit s i < 2 := Nat.mod_lt _ (by omega)

set_option maxHeartbeats 1000000 in
theorem inSet_any (s i : Nat) (w : World) (hs : s < 8) (hi : i < 3) :
    Calls Try.prog 88 #[.int .i64 s, .int .i64 i] w fun e w' => e = .returned (.bool (((bit s i : Nat) : Int) == 1)) ∧ w' = w := by
  have hb := bits_bit hs hi
  go_enter Try.func88, Try.ntmps88
  go_wp2_with fail
  go_ret
  exact ⟨rfl, rfl⟩

/-- Two to the power of a number, as the machine shifts it. -/
theorem shl_two {n : Nat} (hn : n ≤ 3) : wrap64 ((2 : Int) ^ n) = ((2 ^ n : Nat) : Int) ∧ 2 ^ n ≤ 8 ∧ 1 ≤ 2 ^ n := by
  obtain rfl | rfl | rfl | rfl : n = 0 ∨ n = 1 ∨ n = 2 ∨ n = 3 := by omega
  all_goals decide +kernel
set_option maxHeartbeats 1000000 in
theorem setOf_any (n T : Nat) (s : Int) (w : World) (hn : n ≤ 3) (hT : T = 2 ^ n) :
    Calls Try.prog 77 #[.int .i64 n, .int .i64 s] w fun e w' => e = .returned (.bool (decide (0 ≤ s ∧ s < (T : Int)))) ∧ w' = w := by
  have hp := (shl_two hn).1
  rw [← hT] at hp
  clear hT
  by_cases h0 : 0 ≤ s
  · rw [show decide (0 ≤ s ∧ s < (T : Int)) = decide (s < (T : Int)) from by
      congr 1
      exact propext ⟨fun h => h.2, fun h => ⟨h0, h⟩⟩]
    go_enter Try.func77, Try.ntmps77
    go_wp2_with fail
    go_ret
    exact ⟨rfl, rfl⟩
  · rw [show decide (0 ≤ s ∧ s < (T : Int)) = false from decide_eq_false (fun h => h0 h.1)]
    go_enter Try.func77, Try.ntmps77
    go_wp2_with fail
    go_ret
    exact ⟨rfl, rfl⟩


end PowW
end Go.Proofs.Ytppaegibhikjnaa
