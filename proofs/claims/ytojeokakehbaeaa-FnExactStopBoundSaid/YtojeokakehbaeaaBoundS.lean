/-
  StopBound of the model, and both together.
-/
import Derived.Test.YtojeokakehbaeaaRows
import Derived.Test.YtojeokakehbaeaaArr
import Derived.Test.YtojeokakehbaeaaAnyR
import Derived.Test.YtojeokakehbaeaaDieW
import Derived.Test.YtojeokakehbaeaaFracW
import Derived.Test.YtojeokakehbaeaaSortW
import Derived.Test.YtojeokakehbaeaaOpenD
import Derived.Test.YtojeokakehbaeaaOwnL
import Derived.Test.YtojeokakehbaeaaMarkG
import Derived.Test.YtojeokakehbaeaaFracM
import Derived.Test.YtojeokakehbaeaaStopM
import Derived.Test.YtojeokakehbaeaaCutW
import Derived.Test.YtojeokakehbaeaaGoalW
import Derived.Test.YtojeokakehbaeaaFracB
import Derived.Test.YtojeokakehbaeaaMeansL
import Derived.Test.YtojeokakehbaeaaStopI
import Derived.Test.YtojeokakehbaeaaStopS
import Derived.Test.YtojeokakehbaeaaBoundI
import Derived.Test.YtojeokakehbaeaaOpenD
import Derived.StillTail
import Derived.StillTactics
import Derived.StillTailTactics
import Derived.BigRegion
import Derived.WalkKit
import Derived.WalkLawsBesides
import Derived.WalkSpells
import Derived.ProofKit
import Derived.OpenShut
import Derived.Deep.RegionWith
import Derived.Deep.QuietTactic
import Derived.BigQuiet
namespace Go.Proofs.Ytojeokakehbaeaa
open Go.ChangeShapes Go.WideShapes Go.ChangeAt Go.RowKit
open Go.ChangeMaps (open_string shut_string)

namespace BoundS
open Dice Arr OpenD DieW SortW FracW MarkG FracM OwnL CutW GoalW FracB MeansL StopI StopS BoundI


set_option maxRecDepth 100000 in
set_option maxHeartbeats 4000000 in
theorem specB_no1 (d : Nat → Int) (n : Int) (w : World) (hd : isDie d = false) :
    Calls Try.prog 4 #[dv d, .int .i64 n] w fun e w' => e = .returned (.tuple #[.int .i64 0, .bool false]) ∧ Below w.heap.size w w' := by
  have hc := fun w => l2Die_any d w
  unfold dv at hc
  have Hc := Lib.hid hc; clear hc
  rw [hd] at Hc
  clear hd
  unfold dv
  have hB0 := na (n0 w) (sixO d 22)
  have hD0 := At.new6 w d 22 rfl
  obtain ⟨e0, e1, e2, e3, e4, e5⟩ := hD0.six
  go_enter Try.func4, Try.ntmps4
  go_wp2_with fail
  refine (Hc.out _).mono ?_
  rintro e w1 ⟨rfl, hb1⟩
  have hB1 := nx hB0 hb1
  have hD1 := hD0.up hb1
  clear e0 e1 e2 e3 e4 e5 hB0 hD0
  go_wp2_with fail
  refine bodyPost_ret (results_tmp2 rfl _ _ _) rfl ?_
  exact ⟨rfl, hB1⟩

set_option maxRecDepth 100000 in
set_option maxHeartbeats 4000000 in
theorem specB_no2 (d : Nat → Int) (n : Int) (w : World) (hd : isDie d = true) (h : ¬ (0 ≤ n ∧ n ≤ 5)) :
    Calls Try.prog 4 #[dv d, .int .i64 n] w fun e w' => e = .returned (.tuple #[.int .i64 0, .bool false]) ∧ Below w.heap.size w w' := by
  have hc := fun w => l2Die_any d w
  unfold dv at hc
  have Hc := Lib.hid hc; clear hc
  rw [hd] at Hc
  clear hd
  have hgo := fun w => l1In_any n 0 5 w
  rw [decide_eq_false h] at hgo
  have Hg := Lib.hid hgo; clear hgo
  unfold dv
  have hB0 := na (n0 w) (sixO d 22)
  have hD0 := At.new6 w d 22 rfl
  obtain ⟨e0, e1, e2, e3, e4, e5⟩ := hD0.six
  go_enter Try.func4, Try.ntmps4
  go_wp2_with fail
  refine (Hc.out _).mono ?_
  rintro e w1 ⟨rfl, hb1⟩
  have hB1 := nx hB0 hb1
  have hD1 := hD0.up hb1
  clear e0 e1 e2 e3 e4 e5 hB0 hD0
  go_wp2_with fail
  refine (Hg.out _).mono ?_
  rintro e w2 ⟨rfl, hw2⟩
  have hw2 := hw2.symm
  subst hw2
  go_wp2_with fail
  refine bodyPost_ret (results_tmp2 rfl _ _ _) rfl ?_
  exact ⟨rfl, hB1⟩

set_option maxRecDepth 100000 in
set_option maxHeartbeats 4000000 in
theorem specB_zero (d : Nat → Int) (w : World) (hd : isDie d = true) :
    Calls Try.prog 4 #[dv d, .int .i64 0] w fun e w' => e = .returned (.tuple #[.int .i64 (d 0), .bool true]) ∧ Below w.heap.size w w' := by
  have hc := fun w => l2Die_any d w
  unfold dv at hc
  have Hc := Lib.hid hc; clear hc
  rw [hd] at Hc
  clear hd
  have hgo := fun w => l1In_any 0 0 5 w
  rw [decide_eq_true (show (0 : Int) ≤ 0 ∧ (0 : Int) ≤ 5 by omega)] at hgo
  have Hg := Lib.hid hgo; clear hgo
  unfold dv
  have hB0 := na (n0 w) (sixO d 22)
  have hD0 := At.new6 w d 22 rfl
  obtain ⟨e0, e1, e2, e3, e4, e5⟩ := hD0.six
  go_enter Try.func4, Try.ntmps4
  go_wp2_with fail
  refine (Hc.out _).mono ?_
  rintro e w1 ⟨rfl, hb1⟩
  have hB1 := nx hB0 hb1
  have hD1 := hD0.up hb1
  clear e0 e1 e2 e3 e4 e5 hB0 hD0
  go_wp2_with fail
  refine (Hg.out _).mono ?_
  rintro e w2 ⟨rfl, hw2⟩
  have hw2 := hw2.symm
  subst hw2
  obtain ⟨e0, e1, e2, e3, e4, e5⟩ := hD1.six
  go_wp2_with fail
  refine bodyPost_ret (results_tmp2 rfl _ _ _) rfl ?_
  exact ⟨rfl, hB1⟩

set_option maxRecDepth 100000 in
set_option maxHeartbeats 4000000 in
theorem specB_yes (d : Nat → Int) (n : Nat) (w : World) (k : Nat) (hd : isDie d = true) (h1 : 1 ≤ n) (h5 : n ≤ 5) (hk : k < 6) (hlt : ∀ j, j < k → face d j * den (StopM.ahead (face d) n) (6 ^ n) < num (StopM.ahead (face d) n) (6 ^ n)) (hge : num (StopM.ahead (face d) n) (6 ^ n) ≤ face d k * den (StopM.ahead (face d) n) (6 ^ n)) :
    Calls Try.prog 4 #[dv d, .int .i64 n] w fun e w' => e = .returned (.tuple #[.int .i64 (d k), .bool true]) ∧ Below w.heap.size w w' := by
  have hc := fun w => l2Die_any d w
  unfold dv at hc
  have Hc := Lib.hid hc; clear hc
  rw [hd] at Hc
  have hgo := fun w => l1In_any (n : Int) 0 5 w
  rw [decide_eq_true (show (0 : Int) ≤ (n : Int) ∧ (n : Int) ≤ 5 by omega)] at hgo
  have Hg := Lib.hid hgo; clear hgo
  have hst := fun w => specStop_any d n w
  have hln := len_n hd h1 h5
  rw [hln, ok_yes hd (by omega) (by omega)] at hst
  have hsf := sf_at (f := face d) h1
  have hfd : ∀ j, j < 6 → d j = (face d j : Int) ∧ face d j ≤ 30 := fun j hj => face_eq hd hj
  have hls : ∀ j, j < 6 → ∀ w, Calls Try.prog 10 #[v2 (face d j : Nat) 1, v2 (num (StopM.ahead (face d) n) (6 ^ n) : Nat) (den (StopM.ahead (face d) n) (6 ^ n) : Nat)] w fun e w' => e = .returned (.bool (decide (face d j * den (StopM.ahead (face d) n) (6 ^ n) < num (StopM.ahead (face d) n) (6 ^ n)))) ∧ Below w.heap.size w w' := fun j hj w => less_stop (StopM.pow_pos n) (hfd j hj).2 (ahead_small (fun j hj => (hfd j hj).2) (by omega)) (StopM.pow_le (by omega)) w
  clear hln hd
  generalize num (StopM.ahead (face d) n) (6 ^ n) = X at *
  generalize den (StopM.ahead (face d) n) (6 ^ n) = Y at *
  generalize sf (face d) = F at *
  unfold dv at hst
  have Hst := Lib.hid hst; clear hst
  have Hls := Lib.hid hls; clear hls
  have Hfd := Lib.hid hfd; clear hfd
  have Hlt := Lib.hid hlt; clear hlt
  have Hge := Lib.hid hge; clear hge
  have g3 : ((n : Int) == 0) = false := by simp; omega
  have g4 : ¬ n = 0 := by omega
  unfold dv
  have hB0 := na (n0 w) (sixO d 22)
  have hD0 := At.new6 w d 22 rfl
  obtain ⟨e0, e1, e2, e3, e4, e5⟩ := hD0.six
  go_enter Try.func4, Try.ntmps4
  go_wp2_with fail
  refine (Hc.out _).mono ?_
  rintro e w1 ⟨rfl, hb1⟩
  have hB1 := nx hB0 hb1
  have hD1 := hD0.up hb1
  clear e0 e1 e2 e3 e4 e5 hB0 hD0
  go_wp2_with fail
  refine (Hg.out _).mono ?_
  rintro e w2 ⟨rfl, hw2⟩
  have hw2 := hw2.symm
  subst hw2
  obtain ⟨e0, e1, e2, e3, e4, e5⟩ := hD1.six
  go_wp2_with fail
  refine (Hst.out _).mono ?_
  rintro e w2 ⟨A, c, rfl, hP, hb2⟩
  have hB2 := nx hB1 hb2
  have hD2 := hD1.up hb2
  clear e0 e1 e2 e3 e4 e5 hb1 hb2 hB1 hD1
  obtain ⟨b, rfl, _, hL⟩ := hP.at_ (show 0 < n by omega)
  obtain ⟨i, hi⟩ : ∃ i, i = n - 1 := ⟨_, rfl⟩
  have e0' : F (i * 2) = (X : Int) := by rw [hi]; exact hsf.1
  have e1' : F (i * 2 + 1) = (Y : Int) := by rw [hi]; exact hsf.2
  have hsub : (n : Int) - 1 = (i : Int) := by omega
  have hin : (i : Int) < (n : Int) := by omega
  have hinN : i < n := by omega
  have hwi : IntKind.i64.wrap (i : Int) = (i : Int) := by simp [IntKind.wrap, IntKind.signed, IntKind.bits]; omega
  have E0 := Lib.hid e0'
  have E1 := Lib.hid e1'
  have Hi := Lib.hid hi
  clear hi hsf e0' e1' hP
  go_wp2_with fail
  go_loopw [8] (fun jv wr => ∃ j : Nat, j ≤ k ∧ jv = .int .i64 j ∧ At wr w.heap.size 6 d ∧ At wr b (n * 2) F ∧ Below w.heap.size w wr) (fun jv _ => 6 - (intOf jv).toNat)
  case atStart => exact ⟨0, by omega, rfl, hD2, hL, hB2⟩
  case round =>
    clear hD2 hL hB2
    obtain ⟨j, hj, rfl, hD, hL, hB⟩ := hrel
    have hj6 : (j : Int) < 6 := by omega
    have cj := hD.drew.cell j (by omega)
    rw [(Hfd.out j (by omega)).1] at cj
    have c0 := hL.drew.cell (i * 2) (by omega)
    have c1 := hL.drew.cell (i * 2 + 1) (by omega)
    rw [E0.out] at c0
    rw [E1.out] at c1
    have hld := load_off2 c0 c1
    have hD' := hD.drew
    have hL' := hL.drew
    have hB' := hB.drew
    have hls := Hls.out j (by omega)
    have Hx := Lib.hid (Hfd.out k hk).1
    by_cases hjk : j < k
    · rw [decide_eq_true (Hlt.out j hjk)] at hls
      have HL := Lib.hid hls; clear hls hD hL hB
      generalize face d j = u at *
      go_wp2_with fail
      refine wp_region_still_tail 9 (by kernel_rfl) (by kernel_rfl) ?_
      simp only [List.take_succ_cons, List.take_zero, List.drop_succ_cons, List.drop_zero]
      repeat still_step
      refine wpStill_nil ?_
      change wpList _ _ _ _ _ wr.drew
      generalize wr.drew = W5 at *
      clear cj c0 c1 hld
      go_wp2_with fail
      refine (HL.out _).mono ?_
      rintro e w3 ⟨rfl, hb3⟩
      have hD3 := hD'.up hb3
      have hL3 := hL'.up hb3
      have hB3 := nx hB' hb3
      go_wp2_with fail
      go_roundw
      case rel => exact ⟨j + 1, by omega, by go_num, hD3, hL3, hB3⟩
      case measure => simp [intOf]; omega
    · obtain rfl : j = k := by omega
      rw [decide_eq_false (show ¬ face d j * Y < X by have := Hge.out; omega)] at hls
      have HL := Lib.hid hls; clear hls hD hL hB
      have hF : Hid (d j = (face d j : Int)) := Hx.out
      clear Hx
      generalize face d j = u at *
      go_wp2_with fail
      refine wp_region_still_tail 9 (by kernel_rfl) (by kernel_rfl) ?_
      simp only [List.take_succ_cons, List.take_zero, List.drop_succ_cons, List.drop_zero]
      repeat still_step
      refine wpStill_nil ?_
      change wpList _ _ _ _ _ wr.drew
      generalize wr.drew = W5 at *
      clear cj c0 c1 hld
      go_wp2_with fail
      refine (HL.out _).mono ?_
      rintro e w3 ⟨rfl, hb3⟩
      have hD3 := hD'.up hb3
      have hB3 := nx hB' hb3
      have ck := hD3.cell j hk
      go_wp2_with fail
      refine bodyPost_ret (results_tmp2 rfl _ _ _) rfl ?_
      exact ⟨rfl, hB3⟩

theorem both (d : Nat → Int) (n : Int) : ∃ (x : Int) (z : Bool), (∀ w, Calls Try.prog 4 #[dv d, .int .i64 n] w fun e w' => e = .returned (.tuple #[.int .i64 x, .bool z]) ∧ Below w.heap.size w w') ∧ ∀ w, Calls Try.prog 6 #[dv d, .int .i64 n] w fun e w' => e = .returned (.tuple #[.int .i64 x, .bool z]) ∧ Below w.heap.size w w' := by
  cases hd : isDie d
  · exact ⟨0, false, fun w => specB_no1 d n w hd, fun w => implB_no1 d n w hd⟩
  by_cases h0 : n < 0
  · exact ⟨0, false, fun w => specB_no2 d n w hd (by omega), fun w => implB_no2 d n w hd h0⟩
  by_cases h6 : 6 ≤ n
  · exact ⟨0, false, fun w => specB_no2 d n w hd (by omega), fun w => implB_no3 d n w hd h0 h6⟩
  by_cases hz : n = 0
  · subst hz
    exact ⟨d 0, true, fun w => specB_zero d w hd, fun w => implB_zero d w hd⟩
  obtain ⟨n, rfl⟩ : ∃ m : Nat, n = m := ⟨n.toNat, by omega⟩
  have hu : upto d 6 := of_decide_eq_true hd
  have hs : ∀ j, j < 6 → face d j ≤ face d 5 := by
    have u1 := hu 1 (by omega)
    have u2 := hu 2 (by omega)
    have u3 := hu 3 (by omega)
    have u4 := hu 4 (by omega)
    have u5 := hu 5 (by omega)
    simp only [Nat.reduceSub] at u1 u2 u3 u4 u5
    intro j hj
    unfold face
    obtain rfl | rfl | rfl | rfl | rfl | rfl : j = 0 ∨ j = 1 ∨ j = 2 ∨ j = 3 ∨ j = 4 ∨ j = 5 := by omega
    all_goals omega
  have h5 := StopM.stops hs n
  obtain ⟨k, hk, hlt, hge⟩ := exK (p := fun k => face d k * den (StopM.ahead (face d) n) (6 ^ n) < num (StopM.ahead (face d) n) (6 ^ n)) 5 h5
  exact ⟨d k, true, fun w => specB_yes d n w k hd (by omega) (by omega) (by omega) hlt (Nat.le_of_not_lt hge), fun w => implB_yes d n w k hd (by omega) (by omega) (by omega) hlt (Nat.le_of_not_lt hge)⟩


end BoundS
end Go.Proofs.Ytojeokakehbaeaa
