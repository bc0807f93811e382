/-
  CountKept and MeanRolled, by the specification.
-/
import Derived.Test.YtppaegibhikjnaaRows
import Derived.Test.YtppaegibhikjnaaVFacts
import Derived.Test.YtppaegibhikjnaaAgainM
import Derived.Test.YtppaegibhikjnaaPowW
import Derived.Test.YtppaegibhikjnaaOwnL
import Derived.Test.YtppaegibhikjnaaAll6
import Derived.Test.YtppaegibhikjnaaAll9
import Derived.Test.YtppaegibhikjnaaSumsS
import Derived.Test.YtppaegibhikjnaaRolledI
import Derived.Test.YtppaegibhikjnaaArr
import Derived.Test.YtppaegibhikjnaaDieW
import Derived.Test.YtppaegibhikjnaaFracW
import Derived.Test.YtppaegibhikjnaaSortW
import Derived.Test.YtppaegibhikjnaaDicesW
import Derived.Test.YtppaegibhikjnaaPoolW
import Derived.Test.YtppaegibhikjnaaGoalW
import Derived.Test.YtppaegibhikjnaaScoreM
import Derived.Test.YtppaegibhikjnaaScoreW
import Derived.Test.YtppaegibhikjnaaIntsW
import Derived.Test.YtppaegibhikjnaaRollN
import Derived.Test.YtppaegibhikjnaaPairA
import Derived.Test.YtppaegibhikjnaaGameW
import Derived.Test.YtppaegibhikjnaaScoreI
import Derived.Test.YtppaegibhikjnaaGridL
import Derived.Test.YtppaegibhikjnaaCutW
import Derived.Test.YtppaegibhikjnaaIntsW
import Derived.Test.YtppaegibhikjnaaRollN
import Derived.Test.YtppaegibhikjnaaValM
import Derived.Test.YtppaegibhikjnaaKeptM
import Derived.Test.YtppaegibhikjnaaValsS
import Derived.Test.YtppaegibhikjnaaBestM
import Derived.Test.YtppaegibhikjnaaBestS
import Derived.Test.YtppaegibhikjnaaPlanS
import Derived.Test.YtppaegibhikjnaaOpenD
import Derived.WalkKit
import Derived.Deep.WholeRow
import Derived.Deep.AppendLies
import Derived.FnLit
import Derived.WalkLawsBesides
import Derived.WalkSpells
import Derived.ProofKit
import Derived.OpenShut
import Derived.Deep.RegionWith
import Derived.Deep.QuietTactic
import Derived.BigQuiet
namespace Go.Proofs.Ytppaegibhikjnaa
open Go.ChangeShapes Go.WideShapes Go.ChangeAt Go.RowKit
open Go.ChangeMaps (open_string shut_string)

namespace KeptS
open Dice Arr AgainM PowW OwnL All6 All9 SumsS RolledI FracW OpenD DieW SortW PoolW DicesW GoalW ScoreM ScoreW IntsW RollW PairA GameW ScoreI VFacts GridL CutW ValM KeptM BestS PlanS


set_option maxRecDepth 100000 in
set_option maxHeartbeats 8000000 in
theorem specKept_any (A : Option Addr) (n c : Nat) (P : Nat → Nat → Int) (k b r : Int) (w : World) (h : Row w A n P) (hn : n ≤ maxLen) :
    Calls Try.prog 39 #[.slice A n c, v2 k b, .int .i64 r] w fun e w' => e = .returned (.tuple #[.int .i64 (outK n P k b r), .bool (gameOk n P k b r 1)]) ∧ Below w.heap.size w w' := by
  have hga := fun w h => l6Good_any A n c P k b r w h hn
  have hP0 := At.newG k b w 25
  have hB := na (n0 w) (.cells #[.int .i64 k, .int .i64 b] 25)
  have H := Lib.hid (h.up hB); clear h
  cases hg : gameOk n P k b r 0
  · have hno : gameOk n P k b r 1 = false := by rw [game_one, hg]; rfl
    rw [outK_no hno, hno]
    rw [hg] at hga
    have Hga := Lib.hid hga; clear hga
    clear hg hno
    go_enter Try.func39, Try.ntmps39
    go_wp2_with fail
    refine (Hga.out _ H.out).mono ?_
    rintro e w1 ⟨rfl, hb1⟩
    go_wp2_with fail
    go_ret2
    exact ⟨rfl, hB.trans (hb1.mono hB.size)⟩
  · rw [hg] at hga
    have Hga := Lib.hid hga; clear hga
    by_cases hr : r < 1
    · have hno : gameOk n P k b r 1 = false := by rw [game_one, hg, decide_eq_false (by omega)]; rfl
      rw [outK_no hno, hno]
      have hd : decide (r < 1) = true := decide_eq_true hr
      clear hg hno
      go_enter Try.func39, Try.ntmps39
      go_wp2_with fail
      refine (Hga.out _ H.out).mono ?_
      rintro e w1 ⟨rfl, hb1⟩
      go_wp2_with fail
      go_ret2
      exact ⟨rfl, hB.trans (hb1.mono hB.size)⟩
    · have hd : decide (r < 1) = false := decide_eq_false hr
      have hg1 : gameOk n P k b r 1 = true := by rw [game_one, hg, decide_eq_true (by omega)]; rfl
      have h3 := (of_many (of_game hg).1).2.1
      obtain ⟨r, rfl⟩ : ∃ m : Nat, r = m := ⟨r.toNat, by omega⟩
      have Hpl := Lib.hid (fun w h => l6Plan_any A n c r P k b w h hg1)
      have hT : all6 n ≤ 216 := (pow_three h3).1
      rw [outK_yes hg1, hg1]
      clear hg hg1 hr
      generalize planF n P k b r = pl at *
      generalize all6 n = T at *
      have Hkl := Lib.hid (nkept_le pl)
      go_enter Try.func39, Try.ntmps39
      go_wp2_with fail
      refine (Hga.out _ H.out).mono ?_
      rintro e w1 ⟨rfl, hb1⟩
      have hB1 := hB.trans (hb1.mono hB.size)
      have hP1 := hP0.up hb1
      have q0 := hP1.cell 0 (by omega)
      have q1 := hP1.cell 1 (by omega)
      rw [show fr k b 0 = k from rfl] at q0
      rw [show fr k b 1 = b from rfl] at q1
      go_wp2_with fail
      refine (Hpl.out _ (H.out.up hb1)).mono ?_
      rintro e w2 ⟨g, c', rfl, hgg, hA, hb2⟩
      have hB2 := nx hB1 hb2
      clear q0 q1 hP1 hP0 hB hb1 hb2
      go_wp2_with fail
      go_loop [8, 10] (fun sv iv => ∃ m : Nat, m ≤ T ∧ iv = .int .i64 m ∧ sv = .int .i64 ((nkept pl m : Nat) : Int)) (fun _ iv => T - (intOf iv).toNat)
      case atStart => exact ⟨0, by omega, rfl, rfl⟩
      case round =>
        obtain ⟨m, hm, rfl, rfl⟩ := hrel
        by_cases hlt : m < T
        · have hit : decide ((m : Int) < (T : Int)) = true := decide_eq_true (by omega)
          have cm := hA.cell m hlt
          have hkl := Hkl.out m
          have hs : Hid (nkept pl (m + 1) = if pl m = 0 then nkept pl m + 1 else nkept pl m) := rfl
          by_cases h0 : pl m = 0
          · have hd : (((pl m : Nat) : Int) == 0) = true := by rw [h0]; rfl
            have hs2 : Hid (nkept pl (m + 1) = nkept pl m + 1) := by
              have := hs.out
              rw [if_pos h0] at this
              exact this
            have H0 := Lib.hid h0; clear h0
            generalize pl m = pm at *
            generalize nkept pl m = nk at *
            go_wp2_with fail
            go_round
            case rel => exact ⟨m + 1, by omega, by go_num, by rw [hs2.out]; go_num⟩
            case measure => simp [intOf]; omega
          · have hd : (((pl m : Nat) : Int) == 0) = false := beq_eq_false_iff_ne.2 (by omega)
            have hs2 : Hid (nkept pl (m + 1) = nkept pl m) := by
              have := hs.out
              rw [if_neg h0] at this
              exact this
            have H0 := Lib.hid h0; clear h0
            generalize pl m = pm at *
            generalize nkept pl m = nk at *
            go_wp2_with fail
            go_round
            case rel => exact ⟨m + 1, by omega, by go_num, by rw [hs2.out]⟩
            case measure => simp [intOf]; omega
        · obtain rfl : m = T := by omega
          have hit : decide ((m : Int) < (m : Int)) = false := decide_eq_false (by omega)
          go_wp2_with fail
          go_ret2
          exact ⟨rfl, hB2⟩


end KeptS
end Go.Proofs.Ytppaegibhikjnaa
