/-
  StopBound of the program.
-/
import Derived.Test.YtojeokakehbaeaaRows
import Derived.Test.YtojeokakehbaeaaArr
import Derived.Test.YtojeokakehbaeaaAnyR
import Derived.Test.YtojeokakehbaeaaDieW
import Derived.Test.YtojeokakehbaeaaFracW
import Derived.Test.YtojeokakehbaeaaSortW
import Derived.Test.YtojeokakehbaeaaOpenD
import Derived.Test.YtojeokakehbaeaaOwnL
import Derived.Test.YtojeokakehbaeaaMarkG
import Derived.Test.YtojeokakehbaeaaFracM
import Derived.Test.YtojeokakehbaeaaStopM
import Derived.Test.YtojeokakehbaeaaCutW
import Derived.Test.YtojeokakehbaeaaGoalW
import Derived.Test.YtojeokakehbaeaaFracB
import Derived.Test.YtojeokakehbaeaaMeansL
import Derived.Test.YtojeokakehbaeaaStopI
import Derived.Test.YtojeokakehbaeaaOpenD
import Derived.WalkKit
import Derived.WalkLawsBesides
import Derived.WalkSpells
import Derived.ProofKit
import Derived.OpenShut
import Derived.Deep.RegionWith
import Derived.Deep.QuietTactic
import Derived.BigQuiet
namespace Go.Proofs.Ytojeokakehbaeaa
open Go.ChangeShapes Go.WideShapes Go.ChangeAt Go.RowKit
open Go.ChangeMaps (open_string shut_string)

namespace BoundI
open Dice Arr OpenD DieW SortW FracW MarkG FracM OwnL CutW GoalW FracB MeansL StopI


theorem exK {p : Nat → Prop} [DecidablePred p] : ∀ m, ¬ p m → ∃ k, k ≤ m ∧ (∀ j, j < k → p j) ∧ ¬ p k
  | 0, h => ⟨0, Nat.le_refl _, fun j hj => by omega, h⟩
  | m + 1, h => by
    by_cases hm : ∃ j, j ≤ m ∧ ¬ p j
    · obtain ⟨j, h1, h2⟩ := hm
      by_cases hp : p m
      · -- the least of them lies below m
        have key : ∀ n, (∃ j, j ≤ n ∧ ¬ p j) → ∃ k, k ≤ n ∧ (∀ j, j < k → p j) ∧ ¬ p k := fun n => by
          induction n with
          | zero => rintro ⟨j, h1, h2⟩; obtain rfl : j = 0 := by omega
                    exact ⟨0, Nat.le_refl _, fun j hj => by omega, h2⟩
          | succ n ih =>
            rintro ⟨j, h1, h2⟩
            by_cases hx : ∃ j, j ≤ n ∧ ¬ p j
            · obtain ⟨k, q1, q2, q3⟩ := ih hx
              exact ⟨k, by omega, q2, q3⟩
            · have hall : ∀ i, i ≤ n → p i := fun i hi => Decidable.byContradiction fun q => hx ⟨i, hi, q⟩
              obtain rfl : j = n + 1 := by
                refine Decidable.byContradiction fun q => h2 (hall j (by omega))
              exact ⟨n + 1, Nat.le_refl _, fun i hi => hall i (by omega), h2⟩
        obtain ⟨k, q1, q2, q3⟩ := key m ⟨j, h1, h2⟩
        exact ⟨k, by omega, q2, q3⟩
      · obtain ⟨k, q1, q2, q3⟩ := exK (p := p) m hp
        exact ⟨k, by omega, q2, q3⟩
    · have hall : ∀ i, i ≤ m → p i := fun i hi => Decidable.byContradiction fun q => hm ⟨i, hi, q⟩
      exact ⟨m + 1, Nat.le_refl _, fun i hi => hall i (by omega), h⟩
def okB (d : Nat → Int) (n : Int) : Bool := isDie d && decide (0 ≤ n ∧ n ≤ 5)
theorem b_1 {d : Nat → Int} {n : Int} (h : isDie d = false) : okB d n = false := by simp [okB, h]
theorem b_2 {d : Nat → Int} {n : Int} (h : ¬ (0 ≤ n ∧ n ≤ 5)) : okB d n = false := by simp only [okB, decide_eq_false h, Bool.and_false]
theorem b_3 {d : Nat → Int} {n : Int} (hd : isDie d = true) (h : 0 ≤ n ∧ n ≤ 5) : okB d n = true := by simp [okB, hd, h]
theorem len_n {d : Nat → Int} {n : Nat} (hd : isDie d = true) (h1 : 1 ≤ n) (h5 : n ≤ 5) : lenM d n = n := by
  have h := ok_yes (d := d) (n := (n : Int)) hd (by omega) (by omega)
  simp [lenM, h]
theorem sf_at {f : Nat → Nat} {n : Nat} (h : 1 ≤ n) : sf f ((n - 1) * 2) = ((num (StopM.ahead f n) (6 ^ n) : Nat) : Int) ∧ sf f ((n - 1) * 2 + 1) = ((den (StopM.ahead f n) (6 ^ n) : Nat) : Int) := by
  have h1 := sf_lo f (n - 1)
  have h2 := sf_hi f (n - 1)
  rw [show n - 1 + 1 = n by omega] at h1 h2
  exact ⟨h1, h2⟩

set_option maxHeartbeats 2000000 in
theorem clos_any (u X Y P : Nat) (b : Nat) (w : World) (h0 : w.cell? ⟨b, 0, none⟩ = some (.int .i64 (X : Int))) (h1 : w.cell? ⟨b, 1, none⟩ = some (.int .i64 (Y : Int))) (hP : u * Y = P) (hl : P ≤ 1000000000000) :
    Calls Try.prog 14 #[.int .i64 (u : Int), .pointer (some ⟨b, 0, none⟩)] w fun e w' => e = .returned (.bool (decide (X ≤ P))) ∧ w' = w := by
  have hm : (u : Int) * (Y : Int) = (P : Int) := by rw [← hP]; push_cast; rfl
  clear hP
  go_enter Try.func14, Try.ntmps14
  go_wp2_with fail
  go_ret
  refine ⟨?_, rfl⟩
  first
    | rfl
    | (congr 2; simp)

set_option maxHeartbeats 2000000 in
theorem index_any (d : Nat → Int) (f : Nat → Nat) (X Y k b c : Nat) (w : World) (hA : At w b 6 d) (hd : ∀ j, j < 6 → d j = (f j : Int) ∧ f j ≤ 30) (h0 : w.cell? ⟨c, 0, none⟩ = some (.int .i64 (X : Int))) (h1 : w.cell? ⟨c, 1, none⟩ = some (.int .i64 (Y : Int))) (hY : Y ≤ 46656) (hk : k < 6) (hlt : ∀ j, j < k → f j * Y < X) (hge : X ≤ f k * Y) :
    Calls Try.prog 13 #[.slice (some ⟨b, 0, none⟩) 6 6, .func (Fn.func 14) #[] #[.pointer (some ⟨c, 0, none⟩)]] w fun e w' => e = .returned (.int .i64 (k : Int)) ∧ w' = w := by
  have Hcl := Lib.hid (fun (u P : Nat) (h : u * Y = P) (hl : P ≤ 1000000000000) => clos_any u X Y P c w h0 h1 h hl)
  clear h0 h1
  have Hd := Lib.hid hd; clear hd
  have Hlt := Lib.hid hlt; clear hlt
  have Hge := Lib.hid hge; clear hge
  go_enter Try.func13, Try.ntmps13
  go_wp2_with fail
  go_loop [8] (fun iv => ∃ i : Nat, i ≤ k ∧ iv = .int .i64 i) (fun iv => 6 - (intOf iv).toNat)
  case atStart => exact ⟨0, by omega, rfl⟩
  case round =>
    obtain ⟨i, hi, rfl⟩ := hrel
    have ci := hA.cell i (by omega)
    obtain ⟨hdi, hf⟩ := Hd.out i (by omega)
    rw [hdi] at ci
    have hlt6 : decide ((i : Int) < 6) = true := decide_eq_true (by omega)
    have hmul : f i * Y ≤ 30 * 46656 := Nat.mul_le_mul hf hY
    by_cases hik : i < k
    · have hc := Hcl.out (f i) _ rfl (Nat.le_trans hmul (by decide))
      rw [decide_eq_false (show ¬ X ≤ f i * Y by have := Hlt.out i hik; omega)] at hc
      have HC := Lib.hid hc; clear hc hmul hdi
      generalize f i = u at *
      go_wp2_with fail
      refine HC.out.mono ?_
      rintro e w1 ⟨rfl, hw1⟩
      have hw1 := hw1.symm
      subst hw1
      go_wp2_with fail
      go_round
      case rel => exact ⟨i + 1, by omega, by go_num⟩
      case measure => simp [intOf]; omega
    · obtain rfl : i = k := by omega
      have hc := Hcl.out (f i) _ rfl (Nat.le_trans hmul (by decide))
      rw [decide_eq_true Hge.out] at hc
      have HC := Lib.hid hc; clear hc hmul hdi
      generalize f i = u at *
      go_wp2_with fail
      refine HC.out.mono ?_
      rintro e w1 ⟨rfl, hw1⟩
      have hw1 := hw1.symm
      subst hw1
      go_wp2_with fail
      go_ret
      exact ⟨rfl, rfl⟩

set_option maxRecDepth 100000 in
set_option maxHeartbeats 4000000 in
theorem implB_no1 (d : Nat → Int) (n : Int) (w : World) (hd : isDie d = false) :
    Calls Try.prog 6 #[dv d, .int .i64 n] w fun e w' => e = .returned (.tuple #[.int .i64 0, .bool false]) ∧ Below w.heap.size w w' := by
  have hc := fun w => implIsDie_any d w
  unfold dv at hc
  have Hc := Lib.hid hc; clear hc
  rw [hd] at Hc
  clear hd
  unfold dv
  have hB0 := na (n0 w) (sixO d 22)
  have hD0 := At.new6 w d 22 rfl
  obtain ⟨e0, e1, e2, e3, e4, e5⟩ := hD0.six
  go_enter Try.func6, Try.ntmps6
  go_wp2_with fail
  refine (Hc.out _).mono ?_
  rintro e w1 ⟨rfl, hb1⟩
  have hB1 := nx hB0 hb1
  have hD1 := hD0.up hb1
  clear e0 e1 e2 e3 e4 e5 hB0 hD0
  go_wp2_with fail
  refine bodyPost_ret (results_tmp2 rfl _ _ _) rfl ?_
  exact ⟨rfl, hB1⟩

set_option maxRecDepth 100000 in
set_option maxHeartbeats 4000000 in
theorem implB_no2 (d : Nat → Int) (n : Int) (w : World) (hd : isDie d = true) (h : n < 0) :
    Calls Try.prog 6 #[dv d, .int .i64 n] w fun e w' => e = .returned (.tuple #[.int .i64 0, .bool false]) ∧ Below w.heap.size w w' := by
  have hc := fun w => implIsDie_any d w
  unfold dv at hc
  have Hc := Lib.hid hc; clear hc
  rw [hd] at Hc
  clear hd
  have g1 : decide (n < 0) = true := decide_eq_true h
  unfold dv
  have hB0 := na (n0 w) (sixO d 22)
  have hD0 := At.new6 w d 22 rfl
  obtain ⟨e0, e1, e2, e3, e4, e5⟩ := hD0.six
  go_enter Try.func6, Try.ntmps6
  go_wp2_with fail
  refine (Hc.out _).mono ?_
  rintro e w1 ⟨rfl, hb1⟩
  have hB1 := nx hB0 hb1
  have hD1 := hD0.up hb1
  clear e0 e1 e2 e3 e4 e5 hB0 hD0
  go_wp2_with fail
  refine bodyPost_ret (results_tmp2 rfl _ _ _) rfl ?_
  exact ⟨rfl, hB1⟩

set_option maxRecDepth 100000 in
set_option maxHeartbeats 4000000 in
theorem implB_no3 (d : Nat → Int) (n : Int) (w : World) (hd : isDie d = true) (h0 : ¬ n < 0) (h : 6 ≤ n) :
    Calls Try.prog 6 #[dv d, .int .i64 n] w fun e w' => e = .returned (.tuple #[.int .i64 0, .bool false]) ∧ Below w.heap.size w w' := by
  have hc := fun w => implIsDie_any d w
  unfold dv at hc
  have Hc := Lib.hid hc; clear hc
  rw [hd] at Hc
  clear hd
  have g1 : decide (n < 0) = false := decide_eq_false h0
  have g2 : decide (6 ≤ n) = true := decide_eq_true h
  unfold dv
  have hB0 := na (n0 w) (sixO d 22)
  have hD0 := At.new6 w d 22 rfl
  obtain ⟨e0, e1, e2, e3, e4, e5⟩ := hD0.six
  go_enter Try.func6, Try.ntmps6
  go_wp2_with fail
  refine (Hc.out _).mono ?_
  rintro e w1 ⟨rfl, hb1⟩
  have hB1 := nx hB0 hb1
  have hD1 := hD0.up hb1
  clear e0 e1 e2 e3 e4 e5 hB0 hD0
  go_wp2_with fail
  refine bodyPost_ret (results_tmp2 rfl _ _ _) rfl ?_
  exact ⟨rfl, hB1⟩

set_option maxRecDepth 100000 in
set_option maxHeartbeats 4000000 in
theorem implB_zero (d : Nat → Int) (w : World) (hd : isDie d = true) :
    Calls Try.prog 6 #[dv d, .int .i64 0] w fun e w' => e = .returned (.tuple #[.int .i64 (d 0), .bool true]) ∧ Below w.heap.size w w' := by
  have hc := fun w => implIsDie_any d w
  unfold dv at hc
  have Hc := Lib.hid hc; clear hc
  rw [hd] at Hc
  clear hd
  unfold dv
  have hB0 := na (n0 w) (sixO d 22)
  have hD0 := At.new6 w d 22 rfl
  obtain ⟨e0, e1, e2, e3, e4, e5⟩ := hD0.six
  go_enter Try.func6, Try.ntmps6
  go_wp2_with fail
  refine (Hc.out _).mono ?_
  rintro e w1 ⟨rfl, hb1⟩
  have hB1 := nx hB0 hb1
  have hD1 := hD0.up hb1
  clear e0 e1 e2 e3 e4 e5 hB0 hD0
  obtain ⟨e0, e1, e2, e3, e4, e5⟩ := hD1.six
  go_wp2_with fail
  refine bodyPost_ret (results_tmp2 rfl _ _ _) rfl ?_
  exact ⟨rfl, hB1⟩

set_option maxRecDepth 100000 in
set_option maxHeartbeats 4000000 in
theorem implB_yes (d : Nat → Int) (n : Nat) (w : World) (k : Nat) (hd : isDie d = true) (h1 : 1 ≤ n) (h5 : n ≤ 5) (hk : k < 6) (hlt : ∀ j, j < k → face d j * den (StopM.ahead (face d) n) (6 ^ n) < num (StopM.ahead (face d) n) (6 ^ n)) (hge : num (StopM.ahead (face d) n) (6 ^ n) ≤ face d k * den (StopM.ahead (face d) n) (6 ^ n)) :
    Calls Try.prog 6 #[dv d, .int .i64 n] w fun e w' => e = .returned (.tuple #[.int .i64 (d k), .bool true]) ∧ Below w.heap.size w w' := by
  have hc := fun w => implIsDie_any d w
  unfold dv at hc
  have Hc := Lib.hid hc; clear hc
  rw [hd] at Hc
  have hst := fun w => implStop_any d n w
  have hln := len_n hd h1 h5
  rw [hln, ok_yes hd (by omega) (by omega)] at hst
  have hsf := sf_at (f := face d) h1
  have hfd : ∀ j, j < 6 → d j = (face d j : Int) ∧ face d j ≤ 30 := fun j hj => face_eq hd hj
  have hdn := Nat.le_trans (den_le (StopM.ahead (face d) n) (6 ^ n)) (StopM.pow_le (show n ≤ 6 by omega))
  have hix := fun (b c : Nat) (w : World) (hA : At w b 6 d) (h0 : w.cell? ⟨c, 0, none⟩ = some (.int .i64 (num (StopM.ahead (face d) n) (6 ^ n) : Nat))) (h1 : w.cell? ⟨c, 1, none⟩ = some (.int .i64 (den (StopM.ahead (face d) n) (6 ^ n) : Nat))) => index_any d (face d) _ _ k b c w hA hfd h0 h1 hdn hk hlt hge
  clear hlt hge hdn hfd hln hd
  generalize num (StopM.ahead (face d) n) (6 ^ n) = X at *
  generalize den (StopM.ahead (face d) n) (6 ^ n) = Y at *
  generalize sf (face d) = F at *
  unfold dv at hst
  have Hst := Lib.hid hst; clear hst
  have Hix := Lib.hid hix; clear hix
  have g1 : decide ((n : Int) < 0) = false := decide_eq_false (by omega)
  have g2 : decide (6 ≤ (n : Int)) = false := decide_eq_false (by omega)
  have g2N : decide (6 ≤ n) = false := decide_eq_false (by omega)
  have g3 : ((n : Int) == 0) = false := by simp; omega
  have g4 : ¬ n = 0 := by omega
  have hmf : ∀ (fn : Fn) (first cap : Array Value) (w : World), (Instr.makeFunc fn first cap).run Try.prog w = .ok (.func fn first cap) w := fun _ _ _ _ => rfl
  unfold dv
  have hB0 := na (n0 w) (sixO d 22)
  have hD0 := At.new6 w d 22 rfl
  obtain ⟨e0, e1, e2, e3, e4, e5⟩ := hD0.six
  go_enter Try.func6, Try.ntmps6
  go_wp2_with fail
  refine (Hc.out _).mono ?_
  rintro e w1 ⟨rfl, hb1⟩
  have hB1 := nx hB0 hb1
  have hD1 := hD0.up hb1
  clear e0 e1 e2 e3 e4 e5 hB0 hD0
  obtain ⟨e0, e1, e2, e3, e4, e5⟩ := hD1.six
  go_wp2_with fail
  refine (Hst.out _).mono ?_
  rintro e w2 ⟨A, c, rfl, hP, hb2⟩
  have hB2 := nx hB1 hb2
  have hD2 := hD1.up hb2
  clear e0 e1 e2 e3 e4 e5 hb1 hb2 hB1 hD1
  obtain ⟨b, rfl, _, hL⟩ := hP.at_ (show 0 < n by omega)
  obtain ⟨i, hi⟩ : ∃ i, i = n - 1 := ⟨_, rfl⟩
  have c0 := hL.cell (i * 2) (by omega)
  have c1 := hL.cell (i * 2 + 1) (by omega)
  rw [hi, hsf.1, ← hi] at c0
  rw [hi, hsf.2, ← hi] at c1
  have hld := load_off2 c0 c1
  have hsub : (n : Int) - 1 = (i : Int) := by omega
  have hin : (i : Int) < (n : Int) := by omega
  have hinN : i < n := by omega
  have Hi := Lib.hid hi; clear hi hsf
  have hO := At.newGb w2 (X : Int) (Y : Int) 33 rfl
  have hB3 := na hB2 (.cells #[.int .i64 (X : Int), .int .i64 (Y : Int)] 33)
  have hD3 := hD2.past (.cells #[.int .i64 (X : Int), .int .i64 (Y : Int)] 33)
  go_wp2_with fail
  refine (Hix.out _ _ _ hD3 (hO.cell 0 (by omega)) (hO.cell 1 (by omega))).mono ?_
  rintro e w4 ⟨rfl, hw4⟩
  have hw4 := hw4.symm
  subst hw4
  have ck := hD3.cell k hk
  have hk6 : (k : Int) < 6 := by omega
  clear c0 c1 hld
  go_wp2_with fail
  refine bodyPost_ret (results_tmp2 rfl _ _ _) rfl ?_
  exact ⟨rfl, hB3⟩


end BoundI
end Go.Proofs.Ytojeokakehbaeaa
