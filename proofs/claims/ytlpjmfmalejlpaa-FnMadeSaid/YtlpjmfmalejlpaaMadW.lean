/-
  How many of all numbers of throws are taken: both sides.
-/
import Derived.Test.YtlpjmfmalejlpaaRows
import Derived.Test.YtlpjmfmalejlpaaArr
import Derived.Test.YtlpjmfmalejlpaaDieW
import Derived.Test.YtlpjmfmalejlpaaFracW
import Derived.Test.YtlpjmfmalejlpaaFracL
import Derived.Test.YtlpjmfmalejlpaaAll6
import Derived.Test.YtlpjmfmalejlpaaAllL
import Derived.Test.YtlpjmfmalejlpaaOpenD
import Derived.WalkKit
import Derived.WalkLawsBesides
import Derived.WalkSpells
import Derived.ProofKit
import Derived.OpenShut
import Derived.Deep.RegionWith
import Derived.Deep.QuietTactic
import Derived.BigQuiet
namespace Go.Proofs.Ytlpjmfmalejlpaa
open Go.ChangeShapes Go.WideShapes Go.ChangeAt Go.RowKit
open Go.ChangeMaps (open_string shut_string)

namespace MadW
open Dice Arr DieW FracW FracL All6 AllL

def okT (m n : Int) : Bool := decide (1 ≤ m ∧ m ≤ 1000) && (decide (1 ≤ n ∧ n ≤ 6) && decide (m ≤ ((all6 n.toNat : Nat) : Int)))
def tk (m n : Nat) : Nat := all6 n / m * m
def tT (m n : Int) : Int := if okT m n then ((tk m.toNat n.toNat : Nat) : Int) else 0
theorem okT_1 {m n : Int} (h : ¬ (1 ≤ m ∧ m ≤ 1000)) : okT m n = false := by simp only [okT, decide_eq_false h, Bool.false_and]
theorem okT_2 {m n : Int} (h : ¬ (1 ≤ n ∧ n ≤ 6)) : okT m n = false := by simp only [okT, decide_eq_false h, Bool.false_and, Bool.and_false]
theorem okT_3 {m n : Nat} (h : ¬ m ≤ all6 n) : okT m n = false := by
  have h' : ¬ ((m : Int) ≤ ((all6 (n : Int).toNat : Nat) : Int)) := by rw [Int.toNat_natCast]; omega
  simp only [okT, decide_eq_false h', Bool.and_false]
theorem okT_yes {m n : Nat} (h1 : 1 ≤ m ∧ m ≤ 1000) (h2 : 1 ≤ n ∧ n ≤ 6) (h : m ≤ all6 n) : okT m n = true := by
  have h' : (m : Int) ≤ ((all6 (n : Int).toNat : Nat) : Int) := by rw [Int.toNat_natCast]; omega
  have h1' : 1 ≤ (m : Int) ∧ (m : Int) ≤ 1000 := by omega
  have h2' : 1 ≤ (n : Int) ∧ (n : Int) ≤ 6 := by omega
  simp only [okT, decide_eq_true h', decide_eq_true h1', decide_eq_true h2', Bool.and_true]
theorem of_okT {m n : Int} (h : okT m n = true) : ∃ a b : Nat, m = a ∧ n = b ∧ 1 ≤ a ∧ a ≤ 1000 ∧ 1 ≤ b ∧ b ≤ 6 ∧ a ≤ all6 b := by
  simp only [okT, Bool.and_eq_true, decide_eq_true_eq] at h
  obtain ⟨h1, h2, h3⟩ := h
  exact ⟨m.toNat, n.toNat, by omega, by omega, by omega, by omega, by omega, by omega, by omega⟩
theorem tT_no {m n : Int} (h : okT m n = false) : tT m n = 0 := by simp [tT, h]
theorem tT_yes {m n : Nat} (h : okT m n = true) : tT m n = (tk m n : Nat) := by simp [tT, h]
theorem tk_le (m n : Nat) : tk m n ≤ all6 n := Nat.div_mul_le_self _ _
theorem tk_pos {m n : Nat} (h1 : 1 ≤ m) (h : m ≤ all6 n) : 1 ≤ tk m n := by
  unfold tk
  have := Nat.div_pos h (by omega)
  exact Nat.mul_pos this (by omega)
theorem wrap64_small (r : Nat) (h : r ≤ 1000000000000000) : wrap64 (r : Int) = (r : Int) := by unfold wrap64; omega
theorem all6_six {n : Nat} (h : n ≤ 6) : all6 n ≤ 46656 := by
  unfold all6
  exact Nat.le_trans (Nat.pow_le_pow_right (by omega) h) (by decide)

set_option maxRecDepth 100000 in
set_option maxHeartbeats 4000000 in
theorem good_any (m n : Int) (w : World) :
    Calls Try.prog 29 #[.int .i64 m, .int .i64 n] w fun e w' => e = .returned (.bool (okT m n)) ∧ w' = w := by
  by_cases h1 : 1 ≤ m ∧ m ≤ 1000
  case neg =>
    rw [okT_1 h1]
    have hin1 := fun w => l1In_any (m) 1 1000 w
    rw [decide_eq_false h1] at hin1
    have Hin1 := Lib.hid hin1; clear hin1
    clear h1
    go_enter Try.func29, Try.ntmps29
    go_wp2_with fail
    refine (Hin1.out _).mono ?_
    rintro e w1 ⟨rfl, hw⟩
    have hw := hw.symm
    subst hw
    go_wp2_with fail
    go_ret
    exact ⟨rfl, rfl⟩
  by_cases h2 : 1 ≤ n ∧ n ≤ 6
  case neg =>
    rw [okT_2 h2]
    have hin1 := fun w => l1In_any (m) 1 1000 w
    rw [decide_eq_true h1] at hin1
    have Hin1 := Lib.hid hin1; clear hin1
    have hin2 := fun w => l1In_any (n) 1 6 w
    rw [decide_eq_false h2] at hin2
    have Hin2 := Lib.hid hin2; clear hin2
    clear h1 h2
    go_enter Try.func29, Try.ntmps29
    go_wp2_with fail
    refine (Hin1.out _).mono ?_
    rintro e w1 ⟨rfl, hw⟩
    have hw := hw.symm
    subst hw
    go_wp2_with fail
    refine (Hin2.out _).mono ?_
    rintro e w2 ⟨rfl, hw⟩
    have hw := hw.symm
    subst hw
    go_wp2_with fail
    go_ret
    exact ⟨rfl, rfl⟩
  obtain ⟨m, rfl⟩ : ∃ a : Nat, m = a := ⟨m.toNat, by omega⟩
  obtain ⟨n, rfl⟩ : ∃ a : Nat, n = a := ⟨n.toNat, by omega⟩
  have hs6 := all6_six (n := n) (by omega)
  by_cases h3 : m ≤ all6 n
  case neg =>
    rw [okT_3 h3]
    have hin1 := fun w => l1In_any ((m : Int)) 1 1000 w
    rw [decide_eq_true h1] at hin1
    have Hin1 := Lib.hid hin1; clear hin1
    have hin2 := fun w => l1In_any ((n : Int)) 1 6 w
    rw [decide_eq_true h2] at hin2
    have Hin2 := Lib.hid hin2; clear hin2
    have Hall := Lib.hid (fun w => l2AllL n w (by omega))
    generalize all6 n = s at *
    have hd : decide ((m : Int) ≤ (s : Int)) = false := decide_eq_false (by omega)
    have hdN : decide (m ≤ s) = false := decide_eq_false (by omega)
    go_enter Try.func29, Try.ntmps29
    go_wp2_with fail
    refine (Hin1.out _).mono ?_
    rintro e w1 ⟨rfl, hw⟩
    have hw := hw.symm
    subst hw
    go_wp2_with fail
    refine (Hin2.out _).mono ?_
    rintro e w2 ⟨rfl, hw⟩
    have hw := hw.symm
    subst hw
    go_wp2_with fail
    refine (Hall.out _).mono ?_
    rintro e w3 ⟨rfl, hw⟩
    have hw := hw.symm
    subst hw
    go_wp2_with fail
    go_ret
    exact ⟨rfl, rfl⟩
  rw [okT_yes (by omega) (by omega) h3]
  have hin1 := fun w => l1In_any ((m : Int)) 1 1000 w
  rw [decide_eq_true h1] at hin1
  have Hin1 := Lib.hid hin1; clear hin1
  have hin2 := fun w => l1In_any ((n : Int)) 1 6 w
  rw [decide_eq_true h2] at hin2
  have Hin2 := Lib.hid hin2; clear hin2
  have Hall := Lib.hid (fun w => l2AllL n w (by omega))
  generalize all6 n = s at *
  have hd : decide ((m : Int) ≤ (s : Int)) = true := decide_eq_true (by omega)
  have hdN : decide (m ≤ s) = true := decide_eq_true (by omega)
  go_enter Try.func29, Try.ntmps29
  go_wp2_with fail
  refine (Hin1.out _).mono ?_
  rintro e w1 ⟨rfl, hw⟩
  have hw := hw.symm
  subst hw
  go_wp2_with fail
  refine (Hin2.out _).mono ?_
  rintro e w2 ⟨rfl, hw⟩
  have hw := hw.symm
  subst hw
  go_wp2_with fail
  refine (Hall.out _).mono ?_
  rintro e w3 ⟨rfl, hw⟩
  have hw := hw.symm
  subst hw
  go_wp2_with fail
  go_ret
  exact ⟨rfl, rfl⟩

set_option maxRecDepth 100000 in
set_option maxHeartbeats 4000000 in
theorem taken_any (m n : Nat) (w : World) (hm : 1 ≤ m) (hn : n ≤ 6) :
    Calls Try.prog 31 #[.int .i64 m, .int .i64 n] w fun e w' => e = .returned (.int .i64 (tk m n : Nat)) ∧ w' = w := by
  have hs6 := all6_six hn
  have Hall := Lib.hid (fun w => l2AllL n w (by omega))
  unfold tk
  generalize all6 n = s at *
  have hm1 : (m : Int) ≠ 0 := by omega
  have hqw := quo_wrapL (x := m) (show s ≤ 1000000000000000 by omega)
  have Hqw := Lib.hid hqw; clear hqw
  have hmul : ((s / m : Nat) : Int) * (m : Int) = ((s / m * m : Nat) : Int) := by push_cast; rfl
  have hle : s / m * m ≤ s := Nat.div_mul_le_self _ _
  go_enter Try.func31, Try.ntmps31
  go_wp2_with fail
  refine (Hall.out _).mono ?_
  rintro e w1 ⟨rfl, hw⟩
  have hw := hw.symm
  subst hw
  go_wp2_with fail
  simp only [Hqw.out.1]
  generalize s / m = q at *
  go_wp2_with fail
  have hw64 := wrap64_small (q * m) (by omega)
  simp only [hmul, hw64]
  go_ret
  exact ⟨rfl, rfl⟩

set_option maxRecDepth 100000 in
set_option maxHeartbeats 4000000 in
theorem specT_any (m n : Int) (w : World) :
    Calls Try.prog 13 #[.int .i64 m, .int .i64 n] w fun e w' => e = .returned (.tuple #[.int .i64 (tT m n), .bool (okT m n)]) ∧ w' = w := by
  have hg := fun w => good_any m n w
  cases hok : okT m n
  · rw [hok] at hg
    rw [tT_no hok]
    have Hg := Lib.hid hg; clear hg hok
    go_enter Try.func13, Try.ntmps13
    go_wp2_with fail
    refine (Hg.out _).mono ?_
    rintro e w1 ⟨rfl, hw⟩
    have hw := hw.symm
    subst hw
    go_wp2_with fail
    refine bodyPost_ret (results_tmp2 rfl _ _ _) rfl ?_
    exact ⟨rfl, rfl⟩
  obtain ⟨m, n, rfl, rfl, h1, h2, h3, h4, h5⟩ := of_okT hok
  rw [hok] at hg
  rw [tT_yes hok]
  have Ht := Lib.hid (fun w => taken_any m n w h1 h4)
  have Hg := Lib.hid hg; clear hg hok
  generalize tk m n = r at *
  clear h5
  go_enter Try.func13, Try.ntmps13
  go_wp2_with fail
  refine (Hg.out _).mono ?_
  rintro e w1 ⟨rfl, hw⟩
  have hw := hw.symm
  subst hw
  go_wp2_with fail
  refine (Ht.out _).mono ?_
  rintro e w2 ⟨rfl, hw⟩
  have hw := hw.symm
  subst hw
  go_wp2_with fail
  refine bodyPost_ret (results_tmp2 rfl _ _ _) rfl ?_
  exact ⟨rfl, rfl⟩

set_option maxRecDepth 100000 in
set_option maxHeartbeats 4000000 in
theorem implT_any (m n : Int) (w : World) :
    Calls Try.prog 12 #[.int .i64 m, .int .i64 n] w fun e w' => e = .returned (.tuple #[.int .i64 (tT m n), .bool (okT m n)]) ∧ w' = w := by
  by_cases h1 : 1 ≤ m ∧ m ≤ 1000
  case neg =>
    rw [okT_1 h1]
    by_cases hlo : m < 1
    · rw [tT_no (okT_1 h1)]
      have d1 : decide (m < 1) = true := decide_eq_true (by omega)
      clear h1 hlo
      go_enter Try.func12, Try.ntmps12
      go_wp2_with fail
      refine bodyPost_ret (results_tmp2 rfl _ _ _) rfl ?_
      exact ⟨rfl, rfl⟩
    rw [tT_no (okT_1 h1)]
    have d1 : decide (m < 1) = false := decide_eq_false (by omega)
    have d2 : decide (1000 < m) = true := decide_eq_true (by omega)
    clear h1 hlo
    go_enter Try.func12, Try.ntmps12
    go_wp2_with fail
    refine bodyPost_ret (results_tmp2 rfl _ _ _) rfl ?_
    exact ⟨rfl, rfl⟩
  by_cases h2 : 1 ≤ n ∧ n ≤ 6
  case neg =>
    rw [okT_2 h2]
    rw [tT_no (okT_2 h2)]
    have d1 : decide (m < 1) = false := decide_eq_false (by omega)
    have d2 : decide (1000 < m) = false := decide_eq_false (by omega)
    by_cases hlo : n < 1
    · have d3 : decide (n < 1) = true := decide_eq_true (by omega)
      clear h1 h2 hlo
      go_enter Try.func12, Try.ntmps12
      go_wp2_with fail
      refine bodyPost_ret (results_tmp2 rfl _ _ _) rfl ?_
      exact ⟨rfl, rfl⟩
    have d3 : decide (n < 1) = false := decide_eq_false (by omega)
    have d4 : decide (6 < n) = true := decide_eq_true (by omega)
    clear h1 h2 hlo
    go_enter Try.func12, Try.ntmps12
    go_wp2_with fail
    refine bodyPost_ret (results_tmp2 rfl _ _ _) rfl ?_
    exact ⟨rfl, rfl⟩
  obtain ⟨m, rfl⟩ : ∃ a : Nat, m = a := ⟨m.toNat, by omega⟩
  obtain ⟨n, rfl⟩ : ∃ a : Nat, n = a := ⟨n.toNat, by omega⟩
  have hs6 := all6_six (n := n) (by omega)
  by_cases h3 : m ≤ all6 n
  case neg =>
    rw [okT_3 h3]
    rw [tT_no (okT_3 h3)]
    have Hall := Lib.hid (fun w => outcomesL n w (by omega))
    have d1 : decide ((m : Int) < 1) = false := decide_eq_false (by omega)
    have d2 : decide ((1000 : Int) < (m : Int)) = false := decide_eq_false (by omega)
    have d3 : decide ((n : Int) < 1) = false := decide_eq_false (by omega)
    have d4 : decide ((6 : Int) < (n : Int)) = false := decide_eq_false (by omega)
    have n1 : decide (m < 1) = false := decide_eq_false (by omega)
    have n2 : decide (1000 < m) = false := decide_eq_false (by omega)
    have n3 : decide (n < 1) = false := decide_eq_false (by omega)
    have n4 : decide (6 < n) = false := decide_eq_false (by omega)
    generalize all6 n = s at *
    have d5 : decide ((s : Int) < (m : Int)) = true := decide_eq_true (by omega)
    have n5 : decide (s < m) = true := decide_eq_true (by omega)
    go_enter Try.func12, Try.ntmps12
    go_wp2_with fail
    refine (Hall.out _).mono ?_
    rintro e w1 ⟨rfl, hw⟩
    have hw := hw.symm
    subst hw
    go_wp2_with fail
    refine bodyPost_ret (results_tmp2 rfl _ _ _) rfl ?_
    exact ⟨rfl, rfl⟩
  rw [okT_yes (by omega) (by omega) h3]
  rw [tT_yes (okT_yes (by omega) (by omega) h3)]
  have Hall := Lib.hid (fun w => outcomesL n w (by omega))
  have d1 : decide ((m : Int) < 1) = false := decide_eq_false (by omega)
  have d2 : decide ((1000 : Int) < (m : Int)) = false := decide_eq_false (by omega)
  have d3 : decide ((n : Int) < 1) = false := decide_eq_false (by omega)
  have d4 : decide ((6 : Int) < (n : Int)) = false := decide_eq_false (by omega)
  have n1 : decide (m < 1) = false := decide_eq_false (by omega)
  have n2 : decide (1000 < m) = false := decide_eq_false (by omega)
  have n3 : decide (n < 1) = false := decide_eq_false (by omega)
  have n4 : decide (6 < n) = false := decide_eq_false (by omega)
  unfold tk
  generalize all6 n = s at *
  have d5 : decide ((s : Int) < (m : Int)) = false := decide_eq_false (by omega)
  have n5 : decide (s < m) = false := decide_eq_false (by omega)
  have hm1 : (m : Int) ≠ 0 := by omega
  have hqw := quo_wrapL (x := m) (show s ≤ 1000000000000000 by omega)
  have Hqw := Lib.hid hqw; clear hqw
  have hmul : ((s / m : Nat) : Int) * (m : Int) = ((s / m * m : Nat) : Int) := by push_cast; rfl
  have hle : s / m * m ≤ s := Nat.div_mul_le_self _ _
  go_enter Try.func12, Try.ntmps12
  go_wp2_with fail
  refine (Hall.out _).mono ?_
  rintro e w1 ⟨rfl, hw⟩
  have hw := hw.symm
  subst hw
  go_wp2_with fail
  refine (Hall.out _).mono ?_
  rintro e w2 ⟨rfl, hw⟩
  have hw := hw.symm
  subst hw
  go_wp2_with fail
  simp only [Hqw.out.1]
  generalize s / m = q at *
  go_wp2_with fail
  have hw64 := wrap64_small (q * m) (by omega)
  simp only [hmul, hw64]
  refine bodyPost_ret (results_tmp2 rfl _ _ _) rfl ?_
  exact ⟨rfl, rfl⟩


end MadW
end Go.Proofs.Ytlpjmfmalejlpaa
