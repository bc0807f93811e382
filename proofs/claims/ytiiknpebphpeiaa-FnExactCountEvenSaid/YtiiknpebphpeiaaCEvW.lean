/-
  CountEven on both sides.
-/
import Derived.Test.YtiiknpebphpeiaaRows
import Derived.Test.YtiiknpebphpeiaaArr
import Derived.Test.YtiiknpebphpeiaaDieW
import Derived.Test.YtiiknpebphpeiaaSortW
import Derived.Test.YtiiknpebphpeiaaCEvM
import Derived.Test.YtiiknpebphpeiaaOpenD
import Derived.WalkKit
import Derived.WalkLawsBesides
import Derived.WalkSpells
import Derived.ProofKit
import Derived.OpenShut
import Derived.Deep.RegionWith
import Derived.Deep.QuietTactic
import Derived.BigQuiet
namespace Go.Proofs.Ytiiknpebphpeiaa
open Go.ChangeShapes Go.WideShapes Go.ChangeAt Go.RowKit
open Go.ChangeMaps (open_string shut_string)

namespace CEvW
open Dice Arr DieW SortW CEvM


def s1 (x : Int) : Int := IntKind.u64.wrap (bits BinOp.and IntKind.u64 (x / 2) 6148914691236517205 + bits BinOp.and IntKind.u64 x 6148914691236517205)
def s2 (x : Int) : Int := IntKind.u64.wrap (bits BinOp.and IntKind.u64 (x / 4) 3689348814741910323 + bits BinOp.and IntKind.u64 x 3689348814741910323)
def s3 (x : Int) : Int := bits BinOp.and IntKind.u64 (IntKind.u64.wrap (x / 16 + x)) 1085102592571150095
def s4 (x : Int) : Int := IntKind.u64.wrap (x + x / 256)
def s5 (x : Int) : Int := IntKind.u64.wrap (x + x / 65536)
def s6 (x : Int) : Int := IntKind.u64.wrap (x + x / 4294967296)
def s7 (x : Int) : Int := bits BinOp.and IntKind.i64 (wrap64 x) 127
theorem qq : ∀ a b : Fin 64, s7 (s6 (s5 (s4 (s3 (s2 (s1 ((64 * a.val + b.val : Nat) : Int))))))) = (on (64 * a.val + b.val) 12 : Nat) := by decide +kernel
theorem pop_eq {x : Nat} (h : x < 4096) : s7 (s6 (s5 (s4 (s3 (s2 (s1 (x : Int))))))) = (on x 12 : Nat) := by
  have := qq ⟨x / 64, by omega⟩ ⟨x % 64, by omega⟩
  rw [show 64 * (x / 64) + x % 64 = x by omega] at this
  exact this
set_option maxRecDepth 100000 in
set_option maxHeartbeats 4000000 in
theorem ones64_any (x : Nat) (w : World) (hx : x < 4096) :
    Calls Try.prog 105 #[.int .u64 x] w fun e w' => e = .returned (.int .i64 (on x 12 : Nat)) ∧ w' = w := by
  have hp := pop_eq hx
  go_enter Try.func105, Try.ntmps105
  go_wp2_with fail
  go_ret
  refine ⟨congrArg Ending.returned (congrArg (Value.int .i64) ?_), rfl⟩
  rw [← hp]
  rfl

set_option maxHeartbeats 2000000 in
theorem ones_any (x : Nat) (w : World) (hx : x < 4096) :
    Calls Try.prog 88 #[.int .u64 x] w fun e w' => e = .returned (.int .i64 (on x 12 : Nat)) ∧ w' = w := by
  have Ho := Lib.hid (fun w => ones64_any x w hx)
  go_enter Try.func88, Try.ntmps88
  go_wp2_with fail
  refine (Ho.out _).mono ?_
  rintro e w2 ⟨rfl, rfl⟩
  go_wp2_with fail
  go_ret
  exact ⟨rfl, rfl⟩
theorem and_i : ∀ a b : Fin 64, bits BinOp.and IntKind.i64 ((64 * a.val + b.val : Nat) : Int) 1 = (((64 * a.val + b.val) % 2 : Nat) : Int) := by decide +kernel
theorem and_u : ∀ a b : Fin 64, bits BinOp.and IntKind.u64 ((64 * a.val + b.val : Nat) : Int) 1 = (((64 * a.val + b.val) % 2 : Nat) : Int) := by decide +kernel
theorem bit_i {c : Nat} (h : c < 4096) (i : Nat) : bits BinOp.and IntKind.i64 ((c : Int) / 2 ^ i) 1 = ((bt c i : Nat) : Int) := by
  have e : (c : Int) / 2 ^ i = ((c / 2 ^ i : Nat) : Int) := by push_cast; rfl
  have hl : c / 2 ^ i < 4096 := Nat.lt_of_le_of_lt (Nat.div_le_self _ _) h
  have h1 := and_i ⟨c / 2 ^ i / 64, by omega⟩ ⟨c / 2 ^ i % 64, by omega⟩
  simp only [show 64 * (c / 2 ^ i / 64) + c / 2 ^ i % 64 = c / 2 ^ i by omega] at h1
  rw [e, h1]
  rfl
theorem bit_u {c : Nat} (h : c < 4096) (i : Nat) : bits BinOp.and IntKind.u64 ((c : Int) / 2 ^ i) 1 = ((bt c i : Nat) : Int) := by
  have e : (c : Int) / 2 ^ i = ((c / 2 ^ i : Nat) : Int) := by push_cast; rfl
  have hl : c / 2 ^ i < 4096 := Nat.lt_of_le_of_lt (Nat.div_le_self _ _) h
  have h1 := and_u ⟨c / 2 ^ i / 64, by omega⟩ ⟨c / 2 ^ i % 64, by omega⟩
  simp only [show 64 * (c / 2 ^ i / 64) + c / 2 ^ i % 64 = c / 2 ^ i by omega] at h1
  rw [e, h1]
  rfl
theorem on_hit {c i : Nat} (h : bt c i = 1) : on c (i + 1) = on c i + 1 ∧ bh c (i + 1) = bh c i := ⟨if_pos h, if_pos h⟩
theorem on_miss {c i : Nat} (h : bt c i ≠ 1) : on c (i + 1) = on c i ∧ bh c (i + 1) = bh c i + on c i := ⟨if_neg h, if_neg h⟩

set_option maxRecDepth 20000 in
set_option maxHeartbeats 4000000 in
theorem pairs_any (c m : Nat) (w : World) (hc : c < 4096) (hm : m ≤ 12) :
    Calls Try.prog 89 #[.int .u64 c, .int .i64 m] w fun e w' => e = .returned (.int .i64 (bh c m : Nat)) ∧ w' = w := by
  go_enter Try.func89, Try.ntmps89
  go_wp2_with fail
  go_loopw [5, 6, 9] (fun pv ov iv wr => ∃ i : Nat, i ≤ m ∧ iv = .int .i64 i ∧ pv = .int .i64 (bh c i : Nat) ∧ ov = .int .i64 (on c i : Nat) ∧ wr = w) (fun _ _ iv _ => m - (intOf iv).toNat)
  case atStart => exact ⟨0, Nat.zero_le _, rfl, rfl, rfl, rfl⟩
  case round =>
    obtain ⟨i, hi, rfl, rfl, rfl, rfl⟩ := hrel
    by_cases hlt : i < m
    · have hit : decide ((i : Int) < (m : Int)) = true := decide_eq_true (by omega)
      have hitN : decide (i < m) = true := decide_eq_true hlt
      have hb := bit_u hc i
      have h1 := on_le c i
      have h2 : bh c i ≤ 144 := Nat.le_trans (bh_le c i) (Nat.mul_le_mul (show i ≤ 12 by omega) (show i ≤ 12 by omega))
      by_cases hbt : bt c i = 1
      · obtain ⟨e1, e2⟩ := on_hit hbt
        have hd : (((bt c i : Nat) : Int) == 1) = true := by rw [hbt]; rfl
        have E1 := Lib.hid e1; clear e1
        have E2 := Lib.hid e2; clear e2
        clear hbt
        generalize bt c i = t at *
        generalize on c i = a at *
        generalize bh c i = b at *
        go_wp2_with fail
        go_roundw
        case rel => exact ⟨i + 1, by omega, by go_num, by rw [E2.out], by rw [E1.out]; go_num, by first | rfl | trivial⟩
        case measure => simp [intOf]; omega
      · obtain ⟨e1, e2⟩ := on_miss hbt
        have hd : (((bt c i : Nat) : Int) == 1) = false := by simp; omega
        have E1 := Lib.hid e1; clear e1
        have E2 := Lib.hid e2; clear e2
        clear hbt
        generalize bt c i = t at *
        generalize on c i = a at *
        generalize bh c i = b at *
        go_wp2_with fail
        go_roundw
        case rel => exact ⟨i + 1, by omega, by go_num, by rw [E2.out]; go_num, by rw [E1.out], by first | rfl | trivial⟩
        case measure => simp [intOf]; omega
    · obtain rfl : i = m := by omega
      have hit : decide ((i : Int) < (i : Int)) = false := decide_eq_false (by omega)
      have hitN : decide (i < i) = false := decide_eq_false (by omega)
      go_wp2_with fail
      go_ret
      exact ⟨rfl, rfl⟩


end CEvW
end Go.Proofs.Ytiiknpebphpeiaa
