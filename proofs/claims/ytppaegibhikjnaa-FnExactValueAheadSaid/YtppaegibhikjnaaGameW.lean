/-
  Whether a game is valid, both sides.
-/
import Derived.Test.YtppaegibhikjnaaRows
import Derived.Test.YtppaegibhikjnaaArr
import Derived.Test.YtppaegibhikjnaaAll6
import Derived.Test.YtppaegibhikjnaaAll9
import Derived.Test.YtppaegibhikjnaaDieW
import Derived.Test.YtppaegibhikjnaaFracW
import Derived.Test.YtppaegibhikjnaaSortW
import Derived.Test.YtppaegibhikjnaaDicesW
import Derived.Test.YtppaegibhikjnaaPoolW
import Derived.Test.YtppaegibhikjnaaGoalW
import Derived.Test.YtppaegibhikjnaaOwnL
import Derived.Test.YtppaegibhikjnaaPairA
import Derived.Test.YtppaegibhikjnaaOpenD
import Derived.WalkKit
import Derived.WalkLawsBesides
import Derived.WalkSpells
import Derived.ProofKit
import Derived.OpenShut
import Derived.Deep.RegionWith
import Derived.Deep.QuietTactic
import Derived.BigQuiet
namespace Go.Proofs.Ytppaegibhikjnaa
open Go.ChangeShapes Go.WideShapes Go.ChangeAt Go.RowKit
open Go.ChangeMaps (open_string shut_string)

namespace GameW
open Dice Arr FracW OpenD OwnL All6 All9 DieW SortW PoolW DicesW GoalW PairA


/-- Whether a pool of n dice can be rolled for a goal, with at least l and at most two rerolls. -/
def gameOk (n : Nat) (P : Nat → Nat → Int) (k b r l : Int) : Bool := many 3 n P && (goalOk k b && decide (l ≤ r ∧ r ≤ 2))
theorem of_game {n : Nat} {P : Nat → Nat → Int} {k b r l : Int} (h : gameOk n P k b r l = true) : many 3 n P = true ∧ goalOk k b = true ∧ l ≤ r ∧ r ≤ 2 := by
  unfold gameOk at h
  simp only [Bool.and_eq_true, decide_eq_true_eq] at h
  exact ⟨h.1, h.2.1, h.2.2.1, h.2.2.2⟩
theorem pool_many (n : Nat) (P : Nat → Nat → Int) : (isPool n P && decide (n ≤ 3)) = many 3 n P := by
  unfold isPool many
  by_cases h3 : n ≤ 3
  · rw [decide_eq_true h3, Bool.and_true]
    congr 1
    exact decide_eq_decide.2 ⟨fun h => ⟨h.1, h3⟩, fun h => ⟨h.1, by omega⟩⟩
  · rw [decide_eq_false h3, decide_eq_false (fun h : 1 ≤ n ∧ n ≤ 3 => h3 h.2), Bool.and_false, Bool.false_and]

set_option maxHeartbeats 4000000 in
theorem l6Good_any (A : Option Addr) (n c : Nat) (P : Nat → Nat → Int) (k b r : Int) (w : World) (h : Row w A n P) (hn : n ≤ maxLen) :
    Calls Try.prog 59 #[.slice A n c, v2 k b, .int .i64 r] w fun e w' => e = .returned (.bool (gameOk n P k b r 0)) ∧ Below w.heap.size w w' := by
  have hp := fun w h => l2Pool_any A n c P w h hn
  have hP := At.newG k b w 25
  have H := Lib.hid (h.up (na (n0 w) (.cells #[.int .i64 k, .int .i64 b] 25))); clear h
  have hB := na (n0 w) (.cells #[.int .i64 k, .int .i64 b] 25)
  have Hin := Lib.hid (fun (x a b : Int) (w : World) => l1In_any x a b w)
  have hg := l6Goal_any k b
  have hgame : Hid (gameOk n P k b r 0 = ((isPool n P && decide (n ≤ 3)) && (goalOk k b && decide (0 ≤ r ∧ r ≤ 2)))) := by
    unfold Hid gameOk
    rw [pool_many]
  generalize isPool n P = x at *
  generalize goalOk k b = y at *
  have Hp := Lib.hid hp; clear hp
  have Hg := Lib.hid hg; clear hg
  have q0 := hP.cell 0 (by omega)
  have q1 := hP.cell 1 (by omega)
  rw [show fr k b 0 = k from rfl] at q0
  rw [show fr k b 1 = b from rfl] at q1
  clear hn
  by_cases h3 : n ≤ 3
  · have hle : decide ((n : Int) ≤ 3) = true := decide_eq_true (by omega)
    have hf : Hid (decide (n ≤ 3) = true) := decide_eq_true h3
    cases x
    all_goals cases y
    all_goals
      go_enter Try.func59, Try.ntmps59
      go_wp2_with (first | (go_at_call 85; refine (Hp.out _ H.out).mono ?_; rintro e w1 ⟨rfl, hb1⟩; have hB1 := hB.trans (hb1.mono hB.size); have hP1 := hP.up hb1; have q2 := hP1.cell 0 (by omega); have q3 := hP1.cell 1 (by omega); rw [show fr k b 0 = k from rfl] at q2; rw [show fr k b 1 = b from rfl] at q3) | (go_at_call 53; refine (Hg.out _).mono ?_; rintro e w2 ⟨rfl, hb2⟩; have hB2 := nx hB1 hb2) | (go_at_call 54; refine (Hin.out _ _ _ _).mono ?_; rintro e w3 ⟨rfl, rfl⟩))
      go_ret
      rw [hgame.out, hf.out]
      first | exact ⟨rfl, by assumption⟩ | exact ⟨by simp, by assumption⟩
  · have hle : decide ((n : Int) ≤ 3) = false := decide_eq_false (by omega)
    have hf : Hid (decide (n ≤ 3) = false) := decide_eq_false h3
    cases x
    all_goals
      go_enter Try.func59, Try.ntmps59
      go_wp2_with (go_at_call 85; refine (Hp.out _ H.out).mono ?_; rintro e w1 ⟨rfl, hb1⟩; have hB1 := hB.trans (hb1.mono hB.size))
      go_ret
      rw [hgame.out, hf.out]
      first | exact ⟨rfl, by assumption⟩ | exact ⟨by simp, by assumption⟩

set_option maxHeartbeats 2000000 in
theorem l6Number_any (A : Option Addr) (n c : Nat) (N : Int) (w : World) (h3 : n ≤ 3) :
    Calls Try.prog 60 #[.slice A n c, .int .i64 N] w fun e w' => e = .returned (.bool (decide (0 ≤ N ∧ N < (all6 n : Nat)))) ∧ w' = w := by
  have Ho := Lib.hid (fun w => l2All_any n w (by omega))
  have h6 := all6_le (n := n) (by omega)
  have Hin := Lib.hid (fun (w : World) => l1In_any N 0 ((all6 n : Nat) - 1) w)
  rw [show decide ((0 : Int) ≤ N ∧ N ≤ ((all6 n : Nat) : Int) - 1) = decide (0 ≤ N ∧ N < (all6 n : Nat)) from decide_eq_decide.2 ⟨fun h => by omega, fun h => by omega⟩] at Hin
  generalize decide (0 ≤ N ∧ N < (all6 n : Nat)) = d at *
  generalize all6 n = T at *
  go_enter Try.func60, Try.ntmps60
  go_wp2_with fail
  refine (Ho.out _).mono ?_
  rintro e w2 ⟨rfl, hw2⟩
  have hw2 := hw2.symm
  subst hw2
  go_wp2_with fail
  refine (Hin.out _).mono ?_
  rintro e w2 ⟨rfl, hw2⟩
  have hw2 := hw2.symm
  subst hw2
  go_wp2_with fail
  go_ret
  exact ⟨rfl, rfl⟩
set_option maxHeartbeats 2000000 in
theorem l6Parts_any (A : Option Addr) (n c r : Nat) (w : World) (h3 : n ≤ 3) (hr : r ≤ 3) :
    Calls Try.prog 63 #[.slice A n c, .int .i64 r] w fun e w' => e = .returned (.int .i64 (all6 (n * r) : Nat)) ∧ w' = w := by
  have hnr : n * r ≤ 9 := Nat.mul_le_mul (Nat.le_trans h3 (Nat.le_refl 3)) hr
  have Ho := Lib.hid (fun w => l2All9 (n * r) w hnr)
  have e1 : (n : Int) * (r : Int) = ((n * r : Nat) : Int) := by push_cast; rfl
  generalize n * r = m at *
  go_enter Try.func63, Try.ntmps63
  go_wp2_with fail
  refine (Ho.out _).mono ?_
  rintro e w2 ⟨rfl, hw2⟩
  have hw2 := hw2.symm
  subst hw2
  go_wp2_with fail
  go_ret
  exact ⟨rfl, rfl⟩

set_option maxHeartbeats 4000000 in
theorem isGame_any (A : Option Addr) (n c : Nat) (P : Nat → Nat → Int) (k b r l : Int) (w : World) (h : Row w A n P) (hn : n ≤ maxLen) :
    Calls Try.prog 65 #[.slice A n c, v2 k b, .int .i64 r, .int .i64 l] w fun e w' => e = .returned (.bool (gameOk n P k b r l)) ∧ Below w.heap.size w w' := by
  have hp := fun w h => areDice_any 3 (by omega) A n c P w h hn
  have hP := At.newG k b w 25
  have H := Lib.hid (h.up (na (n0 w) (.cells #[.int .i64 k, .int .i64 b] 25))); clear h
  have hB := na (n0 w) (.cells #[.int .i64 k, .int .i64 b] 25)
  have hg := implIsGoal_any k b
  have hgame : Hid (gameOk n P k b r l = (many 3 n P && (goalOk k b && decide (l ≤ r ∧ r ≤ 2)))) := rfl
  generalize many 3 n P = x at *
  generalize goalOk k b = y at *
  have Hp := Lib.hid hp; clear hp
  have Hg := Lib.hid hg; clear hg
  clear hn
  by_cases hl : l ≤ r
  · have hl1 : decide (l ≤ r) = true := decide_eq_true hl
    have hd : Hid (decide (l ≤ r ∧ r ≤ 2) = decide (r ≤ 2)) := decide_eq_decide.2 ⟨fun h => h.2, fun h => ⟨hl, h⟩⟩
    cases x
    all_goals cases y
    all_goals
      go_enter Try.func65, Try.ntmps65
      go_wp2_with (first | (go_at_call 94; refine (Hp.out _ H.out).mono ?_; rintro e w1 ⟨rfl, hb1⟩; have hB1 := hB.trans (hb1.mono hB.size); have hP1 := hP.up hb1; have q2 := hP1.cell 0 (by omega); have q3 := hP1.cell 1 (by omega); rw [show fr k b 0 = k from rfl] at q2; rw [show fr k b 1 = b from rfl] at q3) | (go_at_call 17; refine (Hg.out _).mono ?_; rintro e w2 ⟨rfl, hb2⟩; have hB2 := nx hB1 hb2))
      go_ret
      rw [hgame.out, hd.out]
      first | exact ⟨rfl, by assumption⟩ | exact ⟨by simp, by assumption⟩
  · have hl1 : decide (l ≤ r) = false := decide_eq_false hl
    have hd : Hid (decide (l ≤ r ∧ r ≤ 2) = false) := decide_eq_false (fun h => hl h.1)
    cases x
    all_goals cases y
    all_goals
      go_enter Try.func65, Try.ntmps65
      go_wp2_with (first | (go_at_call 94; refine (Hp.out _ H.out).mono ?_; rintro e w1 ⟨rfl, hb1⟩; have hB1 := hB.trans (hb1.mono hB.size); have hP1 := hP.up hb1; have q2 := hP1.cell 0 (by omega); have q3 := hP1.cell 1 (by omega); rw [show fr k b 0 = k from rfl] at q2; rw [show fr k b 1 = b from rfl] at q3) | (go_at_call 17; refine (Hg.out _).mono ?_; rintro e w2 ⟨rfl, hb2⟩; have hB2 := nx hB1 hb2))
      go_ret
      rw [hgame.out, hd.out]
      first | exact ⟨rfl, by assumption⟩ | exact ⟨by simp, by assumption⟩


end GameW
end Go.Proofs.Ytppaegibhikjnaa
