/-
  The score of a roll, by the program; ScoreOf, both sides.
-/
import Derived.Test.YtppaegibhikjnaaRows
import Derived.Test.YtppaegibhikjnaaArr
import Derived.Test.YtppaegibhikjnaaDieW
import Derived.Test.YtppaegibhikjnaaFracW
import Derived.Test.YtppaegibhikjnaaOwnL
import Derived.Test.YtppaegibhikjnaaAll6
import Derived.Test.YtppaegibhikjnaaGoalW
import Derived.Test.YtppaegibhikjnaaScoreM
import Derived.Test.YtppaegibhikjnaaShelfMax
import Derived.Test.YtppaegibhikjnaaAgainM
import Derived.Test.YtppaegibhikjnaaPairA
import Derived.Test.YtppaegibhikjnaaScoreW
import Derived.Test.YtppaegibhikjnaaIntsW
import Derived.Test.YtppaegibhikjnaaDicesW
import Derived.Test.YtppaegibhikjnaaOpenD
import Derived.WalkKit
import Derived.WalkLawsBesides
import Derived.WalkSpells
import Derived.ProofKit
import Derived.OpenShut
import Derived.Deep.RegionWith
import Derived.Deep.QuietTactic
import Derived.BigQuiet
namespace Go.Proofs.Ytppaegibhikjnaa
open Go.ChangeShapes Go.WideShapes Go.ChangeAt Go.RowKit
open Go.ChangeMaps (open_string shut_string)

namespace ScoreI
open Dice Arr FracW OwnL All6 DieW PoolW SortW GoalW ScoreM AgainM PairA ScoreW IntsW DicesW


theorem cells_ints {w : World} {g n : Nat} {f : Nat → Int} (h : At w g n f) : ∀ j, j < (ints f n).length → w.cell? ⟨g, 0 + j, none⟩ = some (.int .i64 ((ints f n).getD j 0)) := fun j hj => by
  rw [ints_len] at hj
  rw [Nat.zero_add, ints_get hj]
  exact h.cell j hj
theorem max_any (f : Nat → Int) (g n c : Nat) (w : World) (h1 : 1 ≤ n) (h3 : n ≤ 3) (hf : ∀ j, j < n → 0 ≤ f j ∧ f j ≤ 30) (h : At w g n f) :
    Calls Try.prog 57 #[.slice (some ⟨g, 0, none⟩) n c] w fun e w' => e = .returned (.int .i64 (mx f n)) ∧ w' = w := by
  have := Try.slices_Max_int g 0 n c (ints f n) w (by omega) (by rw [ints_len]; omega) (by omega) (cells_ints h)
  rw [max_mx h1 h3 hf] at this
  exact this
theorem min_any (f : Nat → Int) (g n c : Nat) (w : World) (h1 : 1 ≤ n) (h3 : n ≤ 3) (h : At w g n f) :
    Calls Try.prog 56 #[.slice (some ⟨g, 0, none⟩) n c] w fun e w' => e = .returned (.int .i64 (Lib.minOf ((ints f n).take n))) ∧ w' = w :=
  Try.slices_Min_int g 0 n c (ints f n) w (by omega) (by rw [ints_len]; omega) (by omega) (cells_ints h)
theorem mini_mx {f : Nat → Int} {n : Nat} (h1 : 1 ≤ n) (h3 : n ≤ 3) (hf : ∀ j, j < n → 0 ≤ f j ∧ f j ≤ 30) : (Lib.minOf ((ints f n).take n) == mx f n) = alk f n := by
  rw [← max_mx h1 h3 hf]
  exact min_max h1 h3

set_option maxHeartbeats 4000000 in
theorem score_any (k b : Int) (f : Nat → Int) (g n c : Nat) (w : World) (h1 : 1 ≤ n) (h3 : n ≤ 3) (hk : k = 1 ∨ k = 2 ∨ k = 3 ∨ k = 4 ∨ k = 5) (hf : ∀ j, j < n → 0 ≤ f j ∧ f j ≤ 30) (hA : At w g n f) :
    Calls Try.prog 58 #[v2 k b, .slice (some ⟨g, 0, none⟩) n c] w fun e w' => e = .returned (.int .i64 (scoreV k b f n)) ∧ Below w.heap.size w w' := by
  have hA0 := hA.past (.cells #[.int .i64 k, .int .i64 b] 25)
  have hb0 := na (n0 w) (.cells #[.int .i64 k, .int .i64 b] 25)
  have Hsum := Lib.hid (fun w h => sumOfRoll_any f g n c w h3 hf h)
  have Hmax := Lib.hid (fun w h => max_any f g n c w h1 h3 hf h)
  have Hmin := Lib.hid (fun w h => min_any f g n c w h1 h3 h)
  have hal := mini_mx h1 h3 hf
  clear hA hf
  obtain rfl | rfl | rfl | rfl | rfl := hk
  · go_enter Try.func58, Try.ntmps58
    go_wp2_with fail
    refine (Hsum.out _ hA0).mono ?_
    rintro e w5 ⟨rfl, rfl⟩
    go_wp2_with fail
    go_ret
    exact ⟨by rw [score1]; rfl, hb0⟩
  · go_enter Try.func58, Try.ntmps58
    go_wp2_with fail
    go_region_with (go_at_call 91; refine (Hsum.out _ (by first | exact hA0 | exact hA0.drew)).mono ?_; rintro e w5 ⟨rfl, hw5⟩; have hw5 := hw5.symm; subst hw5)
    all_goals
      go_wp2_with fail
      all_goals
        go_ret
        refine ⟨?_, hb0.drew⟩
        rw [score2]
        first | rfl | (simp; done) | (simp; omega) | simp_all
  · go_enter Try.func58, Try.ntmps58
    go_wp2_with fail
    go_region_with (go_at_call 91; refine (Hsum.out _ (by first | exact hA0 | exact hA0.drew)).mono ?_; rintro e w5 ⟨rfl, hw5⟩; have hw5 := hw5.symm; subst hw5)
    all_goals
      go_wp2_with fail
      all_goals
        go_ret
        refine ⟨?_, hb0.drew⟩
        rw [score3]
        first | rfl | (simp; done) | (simp; omega) | simp_all
  · go_enter Try.func58, Try.ntmps58
    go_wp2_with fail
    refine (Hmax.out _ hA0).mono ?_
    rintro e w5 ⟨rfl, rfl⟩
    go_wp2_with fail
    go_ret
    exact ⟨by rw [score4]; rfl, hb0⟩
  · go_enter Try.func58, Try.ntmps58
    go_wp2_with fail
    refine (Hmin.out _ hA0).mono ?_
    rintro e w5 ⟨rfl, hw5⟩
    have hw5 := hw5.symm
    subst hw5
    go_wp2_with fail
    refine (Hmax.out _ hA0).mono ?_
    rintro e w5 ⟨rfl, hw5⟩
    have hw5 := hw5.symm
    subst hw5
    generalize Lib.minOf ((ints f n).take n) = m at *
    go_wp2_with fail
    all_goals
      go_ret
      refine ⟨?_, hb0⟩
      rw [score5]
      first | rfl | (simp; done) | (simp; omega) | simp_all

/-- Whether the numbers are faces of a roll. -/
def rollOk (f : Nat → Int) (n : Nat) : Bool := decide (1 ≤ n ∧ n ≤ 3) && decide (∀ j, j < n → 0 ≤ f j ∧ f j ≤ 30)
theorem goal_kinds {k b : Int} (h : goalOk k b = true) : k = 1 ∨ k = 2 ∨ k = 3 ∨ k = 4 ∨ k = 5 := by
  unfold goalOk at h
  split at h
  · omega
  · have := of_decide_eq_true h
    omega
/-- What ScoreOf answers. -/
def okS (k b : Int) (f : Nat → Int) (n : Nat) : Bool := goalOk k b && rollOk f n
def outS (k b : Int) (f : Nat → Int) (n : Nat) : Int := if okS k b f n then scoreV k b f n else 0
theorem s_yes {k b : Int} {f : Nat → Int} {n : Nat} (hg : goalOk k b = true) (h1 : 1 ≤ n) (h3 : n ≤ 3) (hf : ∀ j, j < n → 0 ≤ f j ∧ f j ≤ 30) : okS k b f n = true ∧ outS k b f n = scoreV k b f n := by
  have : okS k b f n = true := by
    unfold okS rollOk
    rw [hg, decide_eq_true ⟨h1, h3⟩, decide_eq_true hf]
    rfl
  exact ⟨this, by unfold outS; rw [this]; rfl⟩
theorem s_no {k b : Int} {f : Nat → Int} {n : Nat} (h : okS k b f n = false) : outS k b f n = 0 := by unfold outS; rw [h]; rfl
theorem s_goal {k b : Int} (f : Nat → Int) (n : Nat) (h : goalOk k b = false) : okS k b f n = false := by unfold okS; rw [h]; rfl
theorem s_len (k b : Int) (f : Nat → Int) {n : Nat} (h : n < 1 ∨ 3 < n) : okS k b f n = false := by
  unfold okS rollOk
  rw [decide_eq_false (by omega), Bool.false_and, Bool.and_false]
theorem s_face (k b : Int) {f : Nat → Int} {n j : Nat} (hj : j < n) (h : ¬ (0 ≤ f j ∧ f j ≤ 30)) : okS k b f n = false := by
  unfold okS rollOk
  rw [decide_eq_false (fun x : ∀ j, j < n → 0 ≤ f j ∧ f j ≤ 30 => h (x j hj)), Bool.and_false, Bool.and_false]
theorem range_ok {f : Nat → Int} {n : Nat} (h1 : 1 ≤ n) (h3 : n ≤ 3) : (0 ≤ Lib.minOf ((ints f n).take n) ∧ Lib.maxOf ((ints f n).take n) ≤ 30) ↔ ∀ j, j < n → 0 ≤ f j ∧ f j ≤ 30 := by
  obtain rfl | rfl | rfl : n = 1 ∨ n = 2 ∨ n = 3 := by omega
  · rw [Lib.maxOf_one, Lib.minOf_one, ints_get (by omega)]
    exact ⟨fun h j hj => by obtain rfl : j = 0 := by omega
                            exact h, fun h => h 0 (by omega)⟩
  · rw [Lib.maxOf_step _ 1 (by omega) (by rw [ints_len]; omega), Lib.maxOf_one, Lib.minOf_step _ 1 (by omega) (by rw [ints_len]; omega), Lib.minOf_one, ints_get (by omega), ints_get (by omega)]
    constructor
    · intro h j hj
      obtain rfl | rfl : j = 0 ∨ j = 1 := by omega
      all_goals omega
    · intro h
      have := h 0 (by omega)
      have := h 1 (by omega)
      omega
  · rw [Lib.maxOf_step _ 2 (by omega) (by rw [ints_len]; omega), Lib.maxOf_step _ 1 (by omega) (by rw [ints_len]; omega), Lib.maxOf_one, Lib.minOf_step _ 2 (by omega) (by rw [ints_len]; omega), Lib.minOf_step _ 1 (by omega) (by rw [ints_len]; omega), Lib.minOf_one, ints_get (by omega), ints_get (by omega), ints_get (by omega)]
    constructor
    · intro h j hj
      obtain rfl | rfl | rfl : j = 0 ∨ j = 1 ∨ j = 2 := by omega
      all_goals omega
    · intro h
      have := h 0 (by omega)
      have := h 1 (by omega)
      have := h 2 (by omega)
      omega
theorem max_any' (f : Nat → Int) (g n c : Nat) (w : World) (h1 : 1 ≤ n) (h3 : n ≤ 3) (h : At w g n f) :
    Calls Try.prog 57 #[.slice (some ⟨g, 0, none⟩) n c] w fun e w' => e = .returned (.int .i64 (Lib.maxOf ((ints f n).take n))) ∧ w' = w :=
  Try.slices_Max_int g 0 n c (ints f n) w (by omega) (by rw [ints_len]; omega) (by omega) (cells_ints h)

set_option maxHeartbeats 4000000 in
theorem implScoreOf_any (k b : Int) (f : Nat → Int) (B : Nat) (A : Option Addr) (n c : Nat) (w : World) (hA : Ints B w A n f) :
    Calls Try.prog 20 #[v2 k b, .slice A n c] w fun e w' => e = .returned (.tuple #[.int .i64 (outS k b f n), .bool (okS k b f n)]) ∧ Below w.heap.size w w' := by
  have hp := At.newG k b w 25
  have hA0 := hA.up (na (n0 w) (.cells #[.int .i64 k, .int .i64 b] 25))
  have hb0 := na (n0 w) (.cells #[.int .i64 k, .int .i64 b] 25)
  clear hA
  have hig := implIsGoal_any k b
  cases hg : goalOk k b
  · rw [hg] at hig
    have Hg := Lib.hid hig; clear hig
    rw [s_no (s_goal f n hg), s_goal f n hg]
    clear hg
    go_enter Try.func20, Try.ntmps20
    go_wp2_with fail
    refine (Hg.out _).mono ?_
    rintro e w2 ⟨rfl, hb2⟩
    go_wp2_with fail
    go_ret2
    exact ⟨rfl, nx hb0 hb2⟩
  · rw [hg] at hig
    have Hg := Lib.hid hig; clear hig
    by_cases hlen : n < 1 ∨ 3 < n
    · rw [s_no (s_len k b f hlen), s_len k b f hlen]
      have h13 : (n = 0) ∨ (1 ≤ n ∧ 3 < n) := by omega
      clear hg hlen
      rcases h13 with rfl | ⟨hl1, hl2⟩
      · go_enter Try.func20, Try.ntmps20
        go_wp2_with fail
        refine (Hg.out _).mono ?_
        rintro e w2 ⟨rfl, hb2⟩
        go_wp2_with fail
        go_ret2
        exact ⟨rfl, nx hb0 hb2⟩
      · have d1 : decide ((n : Int) < 1) = false := decide_eq_false (by omega)
        have d2 : decide ((3 : Int) < (n : Int)) = true := decide_eq_true (by omega)
        go_enter Try.func20, Try.ntmps20
        go_wp2_with fail
        refine (Hg.out _).mono ?_
        rintro e w2 ⟨rfl, hb2⟩
        go_wp2_with fail
        go_ret2
        exact ⟨rfl, nx hb0 hb2⟩
    · have h1 : 1 ≤ n := by omega
      have h3 : n ≤ 3 := by omega
      clear hlen
      have d1 : decide ((n : Int) < 1) = false := decide_eq_false (by omega)
      have d2 : decide ((3 : Int) < (n : Int)) = false := decide_eq_false (by omega)
      obtain ⟨g, rfl, _, hA1⟩ := hA0.at_ (show 0 < n by omega)
      have Hmax := Lib.hid (fun w h => max_any' f g n c w h1 h3 h)
      have Hmin := Lib.hid (fun w h => min_any f g n c w h1 h3 h)
      by_cases hf : ∀ j, j < n → 0 ≤ f j ∧ f j ≤ 30
      · obtain ⟨e1, e2⟩ := s_yes hg h1 h3 hf
        rw [e1, e2]
        obtain ⟨r1, r2⟩ := (range_ok h1 h3).2 hf
        have Hsc := Lib.hid (fun w h => score_any k b f g n c w h1 h3 (goal_kinds hg) hf h)
        clear e1 e2 hg hf
        generalize Lib.minOf ((ints f n).take n) = mi at *
        generalize Lib.maxOf ((ints f n).take n) = ma at *
        have d3 : decide (mi < 0) = false := decide_eq_false (by omega)
        have d4 : decide (30 < ma) = false := decide_eq_false (by omega)
        go_enter Try.func20, Try.ntmps20
        go_wp2_with fail
        refine (Hg.out _).mono ?_
        rintro e w2 ⟨rfl, hb2⟩
        have hB2 := nx hb0 hb2
        have hA2 := hA1.up hb2
        have hp2 := hp.up hb2
        clear hb2 hA1 hb0 hA0 hp
        go_wp2_with fail
        refine (Hmin.out _ hA2).mono ?_
        rintro e w5 ⟨rfl, hw5⟩
        have hw5 := hw5.symm
        subst hw5
        go_wp2_with fail
        refine (Hmax.out _ hA2).mono ?_
        rintro e w5 ⟨rfl, hw5⟩
        have hw5 := hw5.symm
        subst hw5
        have q0 := hp2.cell 0 (by omega)
        have q1 := hp2.cell 1 (by omega)
        rw [show fr k b 0 = k from rfl] at q0
        rw [show fr k b 1 = b from rfl] at q1
        go_wp2_with fail
        refine (Hsc.out _ hA2).mono ?_
        rintro e w6 ⟨rfl, hb6⟩
        go_wp2_with fail
        go_ret2
        exact ⟨rfl, nx hB2 hb6⟩
      · have hno : okS k b f n = false := by
          unfold okS rollOk
          rw [decide_eq_false hf, Bool.and_false, Bool.and_false]
        rw [s_no hno, hno]
        have hr : ¬ (0 ≤ Lib.minOf ((ints f n).take n) ∧ Lib.maxOf ((ints f n).take n) ≤ 30) := fun h => hf ((range_ok h1 h3).1 h)
        clear hno hg hf
        generalize Lib.minOf ((ints f n).take n) = mi at *
        generalize Lib.maxOf ((ints f n).take n) = ma at *
        by_cases h0 : mi < 0
        · have d3 : decide (mi < 0) = true := decide_eq_true h0
          go_enter Try.func20, Try.ntmps20
          go_wp2_with fail
          refine (Hg.out _).mono ?_
          rintro e w2 ⟨rfl, hb2⟩
          have hB2 := nx hb0 hb2
          have hA2 := hA1.up hb2
          go_wp2_with fail
          refine (Hmin.out _ hA2).mono ?_
          rintro e w5 ⟨rfl, hw5⟩
          have hw5 := hw5.symm
          subst hw5
          go_wp2_with fail
          go_ret2
          exact ⟨rfl, hB2⟩
        · have d3 : decide (mi < 0) = false := decide_eq_false h0
          have d4 : decide (30 < ma) = true := decide_eq_true (by omega)
          go_enter Try.func20, Try.ntmps20
          go_wp2_with fail
          refine (Hg.out _).mono ?_
          rintro e w2 ⟨rfl, hb2⟩
          have hB2 := nx hb0 hb2
          have hA2 := hA1.up hb2
          go_wp2_with fail
          refine (Hmin.out _ hA2).mono ?_
          rintro e w5 ⟨rfl, hw5⟩
          have hw5 := hw5.symm
          subst hw5
          go_wp2_with fail
          refine (Hmax.out _ hA2).mono ?_
          rintro e w5 ⟨rfl, hw5⟩
          have hw5 := hw5.symm
          subst hw5
          go_wp2_with fail
          go_ret2
          exact ⟨rfl, hB2⟩

set_option maxHeartbeats 4000000 in
theorem specScoreOf_any (k b : Int) (f : Nat → Int) (B : Nat) (A : Option Addr) (n c : Nat) (w : World) (hA : Ints B w A n f) :
    Calls Try.prog 18 #[v2 k b, .slice A n c] w fun e w' => e = .returned (.tuple #[.int .i64 (outS k b f n), .bool (okS k b f n)]) ∧ Below w.heap.size w w' := by
  have hp := At.newG k b w 25
  have hA0 := hA.up (na (n0 w) (.cells #[.int .i64 k, .int .i64 b] 25))
  have hb0 := na (n0 w) (.cells #[.int .i64 k, .int .i64 b] 25)
  clear hA
  have Hin := Lib.hid (fun (x a b : Int) (w : World) => l1In_any x a b w)
  have hig := l6Goal_any k b
  cases hg : goalOk k b
  · rw [hg] at hig
    have Hg := Lib.hid hig; clear hig
    rw [s_no (s_goal f n hg), s_goal f n hg]
    clear hg
    go_enter Try.func18, Try.ntmps18
    go_wp2_with fail
    refine (Hg.out _).mono ?_
    rintro e w2 ⟨rfl, hb2⟩
    go_wp2_with fail
    go_ret2
    exact ⟨rfl, nx hb0 hb2⟩
  · rw [hg] at hig
    have Hg := Lib.hid hig; clear hig
    have Hl := Lib.hid (Hin.out n 1 3)
    by_cases hlen : n < 1 ∨ 3 < n
    · rw [s_no (s_len k b f hlen), s_len k b f hlen]
      rw [decide_eq_false (by omega)] at Hl
      clear hg hlen
      go_enter Try.func18, Try.ntmps18
      go_wp2_with fail
      refine (Hg.out _).mono ?_
      rintro e w2 ⟨rfl, hb2⟩
      go_wp2_with fail
      refine (Hl.out _).mono ?_
      rintro e w3 ⟨rfl, rfl⟩
      go_wp2_with fail
      go_ret2
      exact ⟨rfl, nx hb0 hb2⟩
    · have h1 : 1 ≤ n := by omega
      have h3 : n ≤ 3 := by omega
      rw [decide_eq_true (by omega)] at Hl
      clear hlen
      obtain ⟨g, rfl, _, hA1⟩ := hA0.at_ (show 0 < n by omega)
      have Hsc := Lib.hid (fun w hf h => l6Score_any k b f g n c w h3 (goal_kinds hg) hf h)
      have Hyes := Lib.hid (fun hf => s_yes (k := k) (b := b) (f := f) hg h1 h3 hf)
      have Hno := Lib.hid (fun j hj h => s_face k b (f := f) (n := n) (j := j) hj h)
      clear hg
      go_enter Try.func18, Try.ntmps18
      go_wp2_with fail
      refine (Hg.out _).mono ?_
      rintro e w2 ⟨rfl, hb2⟩
      have hB2 := nx hb0 hb2
      have hA2 := hA1.up hb2
      have hp2 := hp.up hb2
      clear hb2 hA1 hb0 hA0 hp
      go_wp2_with fail
      refine (Hl.out _).mono ?_
      rintro e w3 ⟨rfl, hw3⟩
      have hw3 := hw3.symm
      subst hw3
      go_wp2_with fail
      go_loopw [6] (fun iv wr => ∃ i : Nat, i ≤ n ∧ iv = .int .i64 i ∧ Hid (∀ j, j < i → 0 ≤ f j ∧ f j ≤ 30) ∧ wr = w2) (fun iv _ => n - (intOf iv).toNat)
      case atStart => exact ⟨0, by omega, rfl, fun j hj => by omega, rfl⟩
      case round =>
        obtain ⟨i, hi, rfl, hdone, hwr⟩ := hrel
        have hwr := hwr.symm
        subst hwr
        by_cases hlt : i < n
        · have hit : decide ((i : Int) < (n : Int)) = true := decide_eq_true (by omega)
          have ci := hA2.cell i hlt
          have Hf := Lib.hid (Hin.out (f i) 0 30)
          by_cases hfi : 0 ≤ f i ∧ f i ≤ 30
          · rw [decide_eq_true hfi] at Hf
            go_wp2_with fail
            refine (Hf.out _).mono ?_
            rintro e w3 ⟨rfl, hw3⟩
            have hw3 := hw3.symm
            subst hw3
            go_wp2_with fail
            go_roundw
            case rel => exact ⟨i + 1, by omega, by go_num, fun j hj => by
              by_cases hji : j = i
              · subst hji; exact hfi
              · exact hdone.out j (by omega), by first | rfl | trivial⟩
            case measure => simp [intOf]; omega
          · rw [decide_eq_false hfi] at Hf
            have hno := Hno.out i hlt hfi
            go_wp2_with fail
            refine (Hf.out _).mono ?_
            rintro e w3 ⟨rfl, hw3⟩
            have hw3 := hw3.symm
            subst hw3
            go_wp2_with fail
            go_ret2
            exact ⟨by rw [s_no hno, hno]; rfl, hB2⟩
        · obtain rfl : i = n := by omega
          have hit : decide ((i : Int) < (i : Int)) = false := decide_eq_false (by omega)
          have q0 := hp2.cell 0 (by omega)
          have q1 := hp2.cell 1 (by omega)
          rw [show fr k b 0 = k from rfl] at q0
          rw [show fr k b 1 = b from rfl] at q1
          go_wp2_with fail
          refine (Hsc.out _ hdone.out hA2).mono ?_
          rintro e w6 ⟨rfl, hb6⟩
          go_wp2_with fail
          go_ret2
          obtain ⟨e1, e2⟩ := Hyes.out hdone.out
          exact ⟨by rw [e1, e2]; rfl, nx hB2 hb6⟩


end ScoreI
end Go.Proofs.Ytppaegibhikjnaa
