/-
  RoomForBits, both sides.
-/
import Derived.Test.YtlpjmfmalejlpaaRows
import Derived.Test.YtlpjmfmalejlpaaArr
import Derived.Test.YtlpjmfmalejlpaaDieW
import Derived.Test.YtlpjmfmalejlpaaAll6
import Derived.Test.YtlpjmfmalejlpaaMadW
import Derived.Test.YtlpjmfmalejlpaaShelfBL
import Derived.Test.YtlpjmfmalejlpaaOpenD
import Derived.WalkKit
import Derived.WalkLawsBesides
import Derived.WalkSpells
import Derived.ProofKit
import Derived.OpenShut
import Derived.Deep.RegionWith
import Derived.Deep.QuietTactic
import Derived.BigQuiet
namespace Go.Proofs.Ytlpjmfmalejlpaa
open Go.ChangeShapes Go.WideShapes Go.ChangeAt Go.RowKit
open Go.ChangeMaps (open_string shut_string)

namespace RoomW
open Dice Arr DieW All6 MadW

def lgn (n : Nat) : Nat := Lib.bitLen (6 ^ n) - 1
theorem lg_fin : ∀ n : Fin 21, 1 ≤ Lib.bitLen (6 ^ n.val) ∧ 2 ^ (Lib.bitLen (6 ^ n.val) - 1) ≤ 6 ^ n.val ∧ 6 ^ n.val < 2 ^ (Lib.bitLen (6 ^ n.val) - 1 + 1) ∧ Lib.bitLen (6 ^ n.val) ≤ 52 ∧ 1 ≤ 6 ^ n.val ∧ 6 ^ n.val ≤ 3656158440062976 := by decide +kernel
theorem lg_all {n : Nat} (h : n ≤ 20) : Lib.bitLen (6 ^ n) = lgn n + 1 ∧ 2 ^ lgn n ≤ 6 ^ n ∧ 6 ^ n < 2 ^ (lgn n + 1) ∧ lgn n ≤ 51 ∧ 1 ≤ 6 ^ n ∧ 6 ^ n ≤ 3656158440062976 := by
  obtain ⟨h1, h2, h3, h4, h5, h6⟩ := lg_fin ⟨n, by omega⟩
  refine ⟨?_, h2, h3, ?_, h5, h6⟩
  · unfold lgn
    have : 1 ≤ Lib.bitLen (6 ^ n) := h1
    omega
  · unfold lgn
    have : Lib.bitLen (6 ^ n) ≤ 52 := h4
    omega
def okR (n : Int) : Bool := decide (0 ≤ n ∧ n ≤ 20)
def rb (n : Int) : Int := if okR n then (lgn n.toNat : Nat) else 0
theorem wrapX (r : Nat) (h : r ≤ 9000000000000000000) : wrap64 (r : Int) = (r : Int) := by unfold wrap64; omega
theorem all6_leX {n : Nat} (h : n ≤ 20) : all6 n ≤ 3656158440062976 ∧ 1 ≤ all6 n := ⟨(lg_all h).2.2.2.2.2, (lg_all h).2.2.2.2.1⟩

set_option maxHeartbeats 1000000 in
theorem l2AllX (n : Nat) (w : World) (h : n ≤ 20) :
    Calls Try.prog 39 #[.int .i64 n] w fun e w' => e = .returned (.int .i64 (all6 n : Nat)) ∧ w' = w := by
  go_enter Try.func39, Try.ntmps39
  go_wp2_with fail
  go_loop [3, 4] (fun o i => ∃ k : Nat, k ≤ n ∧ i = .int .i64 k ∧ o = .int .i64 (all6 k : Nat)) (fun _ i => n - (intOf i).toNat)
  case atStart => exact ⟨0, by omega, rfl, rfl⟩
  case round =>
    obtain ⟨k, hk, rfl, rfl⟩ := hrel
    by_cases hlt : k < n
    · have h1 := all6_leX (n := k) (by omega)
      have h2 := all6_leX (n := k + 1) (by omega)
      have Hs := Lib.hid (all6_succ k)
      rw [Hs.out] at h2
      go_wp2_with fail
      go_round
      case rel => exact ⟨k + 1, by omega, by go_num, by rw [Hs.out, Int.natCast_mul]; rfl⟩
      case measure => simp [intOf]; omega
    · obtain rfl : k = n := by omega
      go_wp2_with fail
      go_ret
      exact ⟨rfl, rfl⟩

set_option maxHeartbeats 1000000 in
theorem outcomesX (n : Nat) (w : World) (h : n ≤ 20) :
    Calls Try.prog 36 #[.int .i64 n] w fun e w' => e = .returned (.int .i64 (all6 n : Nat)) ∧ w' = w := by
  go_enter Try.func36, Try.ntmps36
  go_wp2_with fail
  go_loop [3, 5] (fun o i => ∃ k : Nat, k ≤ n ∧ i = .int .i64 k ∧ o = .int .i64 (all6 k : Nat)) (fun _ i => n - (intOf i).toNat)
  case atStart => exact ⟨0, by omega, rfl, rfl⟩
  case round =>
    obtain ⟨k, hk, rfl, rfl⟩ := hrel
    by_cases hlt : k < n
    · have h1 := all6_leX (n := k) (by omega)
      have h2 := all6_leX (n := k + 1) (by omega)
      have Hs := Lib.hid (all6_succ k)
      rw [Hs.out] at h2
      go_wp2_with fail
      go_round
      case rel => exact ⟨k + 1, by omega, by go_num, by rw [Hs.out, Int.natCast_mul]; rfl⟩
      case measure => simp [intOf]; omega
    · obtain rfl : k = n := by omega
      go_wp2_with fail
      go_ret
      exact ⟨rfl, rfl⟩

set_option maxRecDepth 100000 in
set_option maxHeartbeats 4000000 in
theorem specR_any (n : Int) (w : World) :
    Calls Try.prog 25 #[.int .i64 n] w fun e w' => e = .returned (.tuple #[.int .i64 (rb n), .bool (okR n)]) ∧ w' = w := by
  by_cases h : 0 ≤ n ∧ n ≤ 20
  case neg =>
    have hok : okR n = false := decide_eq_false h
    have hin := fun w => l1In_any n 0 20 w
    rw [decide_eq_false h] at hin
    have Hin := Lib.hid hin; clear hin h
    rw [show rb n = 0 by simp [rb, hok], hok]
    go_enter Try.func25, Try.ntmps25
    go_wp2_with fail
    refine (Hin.out _).mono ?_
    rintro e w1 ⟨rfl, hw⟩
    have hw := hw.symm
    subst hw
    go_wp2_with fail
    refine bodyPost_ret (results_tmp2 rfl _ _ _) rfl ?_
    exact ⟨rfl, rfl⟩
  have hok : okR n = true := decide_eq_true h
  have hin := fun w => l1In_any n 0 20 w
  rw [decide_eq_true h] at hin
  have Hin := Lib.hid hin; clear hin
  obtain ⟨n, rfl⟩ : ∃ a : Nat, n = a := ⟨n.toNat, by omega⟩
  rw [show rb n = (lgn n : Nat) by simp [rb, hok], hok]
  have Hall := Lib.hid (fun w => l2AllX n w (by omega))
  obtain ⟨_, g2, g3, g4, g5, g6⟩ := lg_all (n := n) (by omega)
  rw [show 6 ^ n = all6 n from rfl] at g2 g3 g5 g6
  generalize all6 n = s at *
  generalize lgn n = L at *
  have hp : Hid (∀ k, k ≤ L → 2 ^ k ≤ 2 ^ L) := fun k hk => Nat.pow_le_pow_right (by omega) hk
  have Hg2 := Lib.hid g2; clear g2
  have Hg3 := Lib.hid g3; clear g3
  clear hok h
  go_enter Try.func25, Try.ntmps25
  go_wp2_with fail
  refine (Hin.out _).mono ?_
  rintro e w1 ⟨rfl, hw⟩
  have hw := hw.symm
  subst hw
  go_wp2_with fail
  refine (Hall.out _).mono ?_
  rintro e w2 ⟨rfl, hw⟩
  have hw := hw.symm
  subst hw
  go_wp2_with fail
  go_loop [4] (fun kv => ∃ k : Nat, k ≤ L ∧ kv = .int .i64 k) (fun kv => L - (intOf kv).toNat)
  case atStart => exact ⟨0, by omega, rfl⟩
  case round =>
    obtain ⟨k, hk, rfl⟩ := hrel
    have E1 : Hid ((2 : Int) * 2 ^ k = ((2 ^ (k + 1) : Nat) : Int)) := by show _ = _; push_cast; rw [Int.pow_succ]; omega
    by_cases hlt : k < L
    · have hle : 2 ^ (k + 1) ≤ s := Nat.le_trans (hp.out (k + 1) (by omega)) Hg2.out
      generalize 2 ^ (k + 1) = P at *
      have hw := wrapX P (by omega)
      have hd : decide (wrap64 ((2 : Int) * 2 ^ k) ≤ (s : Int)) = true := by rw [E1.out, hw]; exact decide_eq_true (by omega)
      clear hw
      have hk2 : k ≤ 51 := by omega
      go_wp2_with fail
      go_round
      case rel => exact ⟨k + 1, by omega, by go_num⟩
      case measure => simp [intOf]; omega
    · obtain rfl : k = L := by omega
      have hgt := Hg3.out
      have hle2 : 2 ^ (k + 1) ≤ 2 * s := by rw [Nat.pow_succ]; have := Hg2.out; omega
      generalize 2 ^ (k + 1) = P at *
      have hw := wrapX P (by omega)
      have hd : decide (wrap64 ((2 : Int) * 2 ^ k) ≤ (s : Int)) = false := by rw [E1.out, hw]; exact decide_eq_false (by omega)
      clear hw
      go_wp2_with fail
      refine bodyPost_ret (results_tmp2 rfl _ _ _) rfl ?_
      exact ⟨rfl, rfl⟩

set_option maxRecDepth 100000 in
set_option maxHeartbeats 4000000 in
theorem implR_any (n : Int) (w : World) :
    Calls Try.prog 24 #[.int .i64 n] w fun e w' => e = .returned (.tuple #[.int .i64 (rb n), .bool (okR n)]) ∧ w' = w := by
  by_cases h : 0 ≤ n ∧ n ≤ 20
  case neg =>
    have hok : okR n = false := decide_eq_false h
    rw [show rb n = 0 by simp [rb, hok], hok]
    clear hok
    by_cases hlo : n < 0
    · have d1 : decide (n < 0) = true := decide_eq_true (by omega)
      clear h hlo
      go_enter Try.func24, Try.ntmps24
      go_wp2_with fail
      refine bodyPost_ret (results_tmp2 rfl _ _ _) rfl ?_
      exact ⟨rfl, rfl⟩
    have d1 : decide (n < 0) = false := decide_eq_false (by omega)
    have d2 : decide (20 < n) = true := decide_eq_true (by omega)
    clear h hlo
    go_enter Try.func24, Try.ntmps24
    go_wp2_with fail
    refine bodyPost_ret (results_tmp2 rfl _ _ _) rfl ?_
    exact ⟨rfl, rfl⟩
  have hok : okR n = true := decide_eq_true h
  obtain ⟨n, rfl⟩ : ∃ a : Nat, n = a := ⟨n.toNat, by omega⟩
  rw [show rb n = (lgn n : Nat) by simp [rb, hok], hok]
  have d1 : decide ((n : Int) < 0) = false := decide_eq_false (by omega)
  have d2 : decide ((20 : Int) < (n : Int)) = false := decide_eq_false (by omega)
  have n2 : decide (20 < n) = false := decide_eq_false (by omega)
  have Hall := Lib.hid (fun w => outcomesX n w (by omega))
  obtain ⟨g1, g2, g3, g4, g5, g6⟩ := lg_all (n := n) (by omega)
  have hbl := fun w => Try.bits_Len (all6 n : Nat) w (by omega) (by show ((6 ^ n : Nat) : Int) ≤ _; omega)
  rw [show ((all6 n : Nat) : Int).toNat = 6 ^ n from Int.toNat_natCast _, g1] at hbl
  rw [show 6 ^ n = all6 n from rfl] at g2 g3 g5 g6
  have Hbl := Lib.hid hbl; clear hbl g1 g2 g3
  generalize all6 n = s at *
  generalize lgn n = L at *
  have hw := wrapX s (by omega)
  have hsub : ((L + 1 : Nat) : Int) - 1 = (L : Int) := by omega
  clear hok h
  go_enter Try.func24, Try.ntmps24
  go_wp2_with fail
  refine (Hall.out _).mono ?_
  rintro e w1 ⟨rfl, hw⟩
  have hw := hw.symm
  subst hw
  go_wp2_with fail
  refine (Hbl.out _).mono ?_
  rintro e w2 ⟨rfl, hw⟩
  have hw := hw.symm
  subst hw
  go_wp2_with fail
  refine bodyPost_ret (results_tmp2 rfl _ _ _) rfl ?_
  exact ⟨rfl, rfl⟩


end RoomW
end Go.Proofs.Ytlpjmfmalejlpaa
