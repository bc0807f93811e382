/-
  The score of a roll, both sides.
-/
import Derived.Test.YtppaegibhikjnaaRows
import Derived.Test.YtppaegibhikjnaaArr
import Derived.Test.YtppaegibhikjnaaDieW
import Derived.Test.YtppaegibhikjnaaFracW
import Derived.Test.YtppaegibhikjnaaOwnL
import Derived.Test.YtppaegibhikjnaaAll6
import Derived.Test.YtppaegibhikjnaaGoalW
import Derived.Test.YtppaegibhikjnaaScoreM
import Derived.Test.YtppaegibhikjnaaShelfMax
import Derived.Test.YtppaegibhikjnaaAgainM
import Derived.Test.YtppaegibhikjnaaPairA
import Derived.Test.YtppaegibhikjnaaOpenD
import Derived.WalkKit
import Derived.WalkLawsBesides
import Derived.WalkSpells
import Derived.ProofKit
import Derived.OpenShut
import Derived.Deep.RegionWith
import Derived.Deep.QuietTactic
import Derived.BigQuiet
namespace Go.Proofs.Ytppaegibhikjnaa
open Go.ChangeShapes Go.WideShapes Go.ChangeAt Go.RowKit
open Go.ChangeMaps (open_string shut_string)

namespace ScoreW
open Dice Arr FracW OwnL All6 DieW PoolW SortW GoalW ScoreM AgainM PairA


theorem l6One_any (x : Bool) (w : World) : Calls Try.prog 90 #[.bool x] w fun e w' => e = .returned (.int .i64 (if x then 1 else 0)) ∧ w' = w := by
  cases x
  all_goals
    go_enter Try.func90, Try.ntmps90
    go_wp2
    go_ret
    exact ⟨rfl, rfl⟩

theorem sums3 {f : Nat → Int} {n : Nat} (h3 : n ≤ 3) (h : ∀ j, j < n → 0 ≤ f j ∧ f j ≤ 30) {i : Nat} (hi : i ≤ n) : 0 ≤ psum f i ∧ psum f i ≤ 90 := by
  have := psum_bound (f := f) (B := 30) i (fun j hj => h j (by omega))
  omega
theorem score1 (b : Int) (f : Nat → Int) (n : Nat) : scoreV 1 b f n = psum f n := by simp [scoreV]
theorem score2 (b : Int) (f : Nat → Int) (n : Nat) : scoreV 2 b f n = if decide (b ≤ psum f n) then 1 else 0 := by simp [scoreV]
theorem score3 (b : Int) (f : Nat → Int) (n : Nat) : scoreV 3 b f n = if (psum f n == b) then 1 else 0 := by simp [scoreV]
theorem score4 (b : Int) (f : Nat → Int) (n : Nat) : scoreV 4 b f n = mx f n := by simp [scoreV]
theorem score5 (b : Int) (f : Nat → Int) (n : Nat) : scoreV 5 b f n = if alk f n then 1 else 0 := by simp [scoreV]

set_option maxHeartbeats 4000000 in
theorem l6Score_any (k b : Int) (f : Nat → Int) (g n c : Nat) (w : World) (h3 : n ≤ 3) (hk : k = 1 ∨ k = 2 ∨ k = 3 ∨ k = 4 ∨ k = 5) (hf : ∀ j, j < n → 0 ≤ f j ∧ f j ≤ 30) (hA : At w g n f) :
    Calls Try.prog 55 #[v2 k b, .slice (some ⟨g, 0, none⟩) n c] w fun e w' => e = .returned (.int .i64 (scoreV k b f n)) ∧ Below w.heap.size w w' := by
  have hp := At.newG k b w 25
  have hA0 := hA.past (.cells #[.int .i64 k, .int .i64 b] 25)
  have hb0 := na (n0 w) (.cells #[.int .i64 k, .int .i64 b] 25)
  have Hs := Lib.hid (fun i hi => sums3 (i := i) h3 hf hi)
  have Hf := Lib.hid hf; clear hf
  have Hone := Lib.hid (fun (x : Bool) (w : World) => l6One_any x w)
  have Hmost := Lib.hid (fun a b w => most_any a b w)
  clear hA
  go_enter Try.func55, Try.ntmps55
  go_wp2_with fail
  go_loopw [5, 6, 7, 8] (fun sv tv av iv wr => ∃ i : Nat, i ≤ n ∧ iv = .int .i64 i ∧ sv = .int .i64 (psum f i) ∧ tv = .int .i64 (mx f i) ∧ av = .bool (alk f i) ∧ At wr w.heap.size 2 (fr k b) ∧ At wr g n f ∧ Below w.heap.size w wr) (fun _ _ _ iv _ => n - (intOf iv).toNat)
  case atStart => exact ⟨0, by omega, rfl, rfl, rfl, rfl, hp, hA0, hb0⟩
  case round =>
    clear hp hA0 hb0
    obtain ⟨i, hi, rfl, rfl, rfl, rfl, hp, hA, hb⟩ := hrel
    by_cases hlt : i < n
    · have hit : decide ((i : Int) < (n : Int)) = true := decide_eq_true (by omega)
      have ci := hA.cell i hlt
      have c0 := hA.cell 0 (by omega)
      have s1 := Hs.out i hi
      have f1 := Hf.out i hlt
      have e1 : Hid (psum f (i + 1) = psum f i + f i) := rfl
      have e2 : Hid (mx f (i + 1) = if f i < mx f i then mx f i else f i) := rfl
      have e3 : Hid (alk f (i + 1) = (alk f i && f i == f 0)) := rfl
      have Hm := Lib.hid (Hmost.out (mx f i) (f i))
      rw [← e2.out] at Hm
      generalize psum f i = s at *
      generalize mx f i = m at *
      generalize alk f i = a at *
      cases a
      all_goals
        go_wp2_with fail
        refine (Hm.out _).mono ?_
        rintro e w6 ⟨rfl, hw6⟩
        have hw6 := hw6.symm
        subst hw6
        go_wp2_with fail
        go_region
        all_goals
          go_wp2_with fail
          go_roundw
          case rel => exact ⟨i + 1, by omega, by go_num, by rw [e1.out], rfl, by rw [e3.out]; rfl, hp.drew, hA.drew, hb.drew⟩
          case measure => simp [intOf]; omega
    · obtain rfl : i = n := by omega
      have hit : decide ((i : Int) < (i : Int)) = false := decide_eq_false (by omega)
      have q0 := hp.cell 0 (by omega)
      have q1 := hp.cell 1 (by omega)
      rw [show fr k b 0 = k from rfl] at q0
      rw [show fr k b 1 = b from rfl] at q1
      clear Hs Hf Hmost
      obtain rfl | rfl | rfl | rfl | rfl := hk
      · skip
        go_wp2_with fail
        all_goals
          go_ret
          refine ⟨?_, hb⟩
          rw [score1]
          first | rfl | (simp; done) | (simp; omega) | simp_all
      · skip
        have Ho := Lib.hid (Hone.out (decide (b ≤ psum f i)))
        go_wp2_with fail
        refine (Ho.out _).mono ?_
        rintro e w6 ⟨rfl, rfl⟩
        go_wp2_with fail
        all_goals
          go_ret
          refine ⟨?_, hb⟩
          rw [score2]
          first | rfl | (simp; done) | (simp; omega) | simp_all
      · skip
        have Ho := Lib.hid (Hone.out (psum f i == b))
        go_wp2_with fail
        refine (Ho.out _).mono ?_
        rintro e w6 ⟨rfl, rfl⟩
        go_wp2_with fail
        all_goals
          go_ret
          refine ⟨?_, hb⟩
          rw [score3]
          first | rfl | (simp; done) | (simp; omega) | simp_all
      · skip
        go_wp2_with fail
        all_goals
          go_ret
          refine ⟨?_, hb⟩
          rw [score4]
          first | rfl | (simp; done) | (simp; omega) | simp_all
      · skip
        have Ho := Lib.hid (Hone.out (alk f i))
        go_wp2_with fail
        refine (Ho.out _).mono ?_
        rintro e w6 ⟨rfl, rfl⟩
        go_wp2_with fail
        all_goals
          go_ret
          refine ⟨?_, hb⟩
          rw [score5]
          first | rfl | (simp; done) | (simp; omega) | simp_all

set_option maxHeartbeats 2000000 in
theorem sumOfRoll_any (f : Nat → Int) (g n c : Nat) (w : World) (h3 : n ≤ 3) (hf : ∀ j, j < n → 0 ≤ f j ∧ f j ≤ 30) (hA : At w g n f) :
    Calls Try.prog 91 #[.slice (some ⟨g, 0, none⟩) n c] w fun e w' => e = .returned (.int .i64 (psum f n)) ∧ w' = w := by
  have Hs := Lib.hid (fun i hi => sums3 (i := i) h3 hf hi)
  have Hf := Lib.hid hf; clear hf
  go_enter Try.func91, Try.ntmps91
  go_wp2_with fail
  go_loop [3, 8] (fun sv iv => ∃ i : Nat, i ≤ n ∧ iv = .int .i64 i ∧ sv = .int .i64 (psum f i)) (fun _ iv => n - (intOf iv).toNat)
  case atStart => exact ⟨0, by omega, rfl, rfl⟩
  case round =>
    obtain ⟨i, hi, rfl, rfl⟩ := hrel
    by_cases hlt : i < n
    · have hit : decide ((i : Int) < (n : Int)) = true := decide_eq_true (by omega)
      have ci := hA.cell i hlt
      have s1 := Hs.out i hi
      have f1 := Hf.out i hlt
      have e1 : Hid (psum f (i + 1) = psum f i + f i) := rfl
      generalize psum f i = s at *
      go_wp2_with fail
      go_round
      case rel => exact ⟨i + 1, by omega, by go_num, by rw [e1.out]⟩
      case measure => simp [intOf]; omega
    · obtain rfl : i = n := by omega
      have hit : decide ((i : Int) < (i : Int)) = false := decide_eq_false (by omega)
      go_wp2_with fail
      go_ret
      exact ⟨rfl, rfl⟩


end ScoreW
end Go.Proofs.Ytppaegibhikjnaa
