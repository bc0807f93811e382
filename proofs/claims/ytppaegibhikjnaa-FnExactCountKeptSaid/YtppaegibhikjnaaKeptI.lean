/-
  CountKept and MeanRolled, by the program.
-/
import Derived.Test.YtppaegibhikjnaaRows
import Derived.Test.YtppaegibhikjnaaVFacts
import Derived.Test.YtppaegibhikjnaaAgainM
import Derived.Test.YtppaegibhikjnaaPowW
import Derived.Test.YtppaegibhikjnaaOwnL
import Derived.Test.YtppaegibhikjnaaAll6
import Derived.Test.YtppaegibhikjnaaAll9
import Derived.Test.YtppaegibhikjnaaSumsS
import Derived.Test.YtppaegibhikjnaaRolledI
import Derived.Test.YtppaegibhikjnaaArr
import Derived.Test.YtppaegibhikjnaaDieW
import Derived.Test.YtppaegibhikjnaaFracW
import Derived.Test.YtppaegibhikjnaaSortW
import Derived.Test.YtppaegibhikjnaaDicesW
import Derived.Test.YtppaegibhikjnaaPoolW
import Derived.Test.YtppaegibhikjnaaGoalW
import Derived.Test.YtppaegibhikjnaaScoreM
import Derived.Test.YtppaegibhikjnaaScoreW
import Derived.Test.YtppaegibhikjnaaIntsW
import Derived.Test.YtppaegibhikjnaaRollN
import Derived.Test.YtppaegibhikjnaaPairA
import Derived.Test.YtppaegibhikjnaaGameW
import Derived.Test.YtppaegibhikjnaaScoreI
import Derived.Test.YtppaegibhikjnaaGridL
import Derived.Test.YtppaegibhikjnaaCutW
import Derived.Test.YtppaegibhikjnaaIntsW
import Derived.Test.YtppaegibhikjnaaRollN
import Derived.Test.YtppaegibhikjnaaValM
import Derived.Test.YtppaegibhikjnaaKeptM
import Derived.Test.YtppaegibhikjnaaSetsI
import Derived.Test.YtppaegibhikjnaaTopW
import Derived.Test.YtppaegibhikjnaaRest1
import Derived.Test.YtppaegibhikjnaaShelfMax
import Derived.Test.YtppaegibhikjnaaBestI6
import Derived.Test.YtppaegibhikjnaaOpenD
import Derived.WalkKit
import Derived.Deep.WholeRow
import Derived.Deep.AppendLies
import Derived.FnLit
import Derived.WalkLawsBesides
import Derived.WalkSpells
import Derived.ProofKit
import Derived.OpenShut
import Derived.Deep.RegionWith
import Derived.Deep.QuietTactic
import Derived.BigQuiet
namespace Go.Proofs.Ytppaegibhikjnaa
open Go.ChangeShapes Go.WideShapes Go.ChangeAt Go.RowKit
open Go.ChangeMaps (open_string shut_string)

namespace KeptI
open Dice Arr AgainM PowW OwnL All6 All9 SumsS RolledI FracW OpenD DieW SortW PoolW DicesW GoalW ScoreM ScoreW IntsW RollW PairA GameW ScoreI VFacts GridL Rest0 CutW ValM KeptM SetsI Rest1 BestI6


set_option maxRecDepth 100000 in
set_option maxHeartbeats 8000000 in
theorem implKept_any (A : Option Addr) (n c : Nat) (P : Nat → Nat → Int) (k b r : Int) (w : World) (h : Row w A n P) (hn : n ≤ maxLen) :
    Calls Try.prog 40 #[.slice A n c, v2 k b, .int .i64 r] w fun e w' => e = .returned (.tuple #[.int .i64 (outK n P k b r), .bool (gameOk n P k b r 1)]) ∧ Below w.heap.size w w' := by
  have hB := na (n0 w) (.cells #[.int .i64 k, .int .i64 b] 25)
  have H := Lib.hid (h.up hB); clear h
  cases hg : gameOk n P k b r 1
  · have Hal := Lib.hid (fun w h => setsAllNo_any A n c P k b r w h hn hg)
    rw [outK_no hg]
    clear hg
    go_enter Try.func40, Try.ntmps40
    go_wp2_with fail
    refine (Hal.out _ H.out).mono ?_
    rintro e w1 ⟨rfl, hb1⟩
    go_wp2_with fail
    go_ret2
    exact ⟨rfl, hB.trans (hb1.mono hB.size)⟩
  · obtain ⟨hm, _, hr1, hr2⟩ := of_game hg
    obtain ⟨_, h3, _⟩ := of_many hm
    obtain ⟨r, rfl⟩ : ∃ m : Nat, r = m := ⟨r.toNat, by omega⟩
    have hT : all6 n ≤ 216 := (pow_three h3).1
    obtain ⟨_, hM8, hM1⟩ := shl_two h3
    have Hal := Lib.hid (fun w h => setsAll_any A n c r P k b w h hg)
    have Hfi := Lib.hid (fun m (hm : m < all6 n) g c w h => first_any (worth n (values n (sco n P k b) (r - 1)) m) g (2 ^ n) c w (worth_game hg hm) hM1 (by omega) h)
    have Hpl := Lib.hid (fun m (hm : m < all6 n) => plan_small hg hm)
    have hpl : Hid (∀ m, (AgainM.top (worth n (values n (sco n P k b) (r - 1)) m) (2 ^ n)).1 = planF n P k b r m) := fun _ => rfl
    rw [outK_yes hg]
    clear hg hm hr1 hr2
    generalize planF n P k b r = pl at *
    generalize worth n (values n (sco n P k b) (r - 1)) = F at *
    generalize all6 n = T at *
    have Hkl := Lib.hid (nkept_le pl)
    clear h3
    generalize 2 ^ n = M at *
    go_enter Try.func40, Try.ntmps40
    go_wp2_with fail
    refine (Hal.out _ H.out).mono ?_
    rintro e w1 ⟨gw, B, v, rfl, hgw, hBw, hG, hb1⟩
    have hB1 := hB.trans (hb1.mono hB.size)
    clear hB hb1
    go_wp2_with fail
    go_loop [10, 26] (fun sv iv => ∃ m : Nat, m ≤ T ∧ iv = .int .i64 m ∧ sv = .int .i64 ((nkept pl m : Nat) : Int)) (fun _ iv => T - (intOf iv).toNat)
    case atStart => exact ⟨0, by omega, rfl, rfl⟩
    case round =>
      obtain ⟨m, hm, rfl, rfl⟩ := hrel
      by_cases hlt : m < T
      · have hit : decide ((m : Int) < (T : Int)) = true := decide_eq_true (by omega)
        obtain ⟨g, c', e1, _, hA⟩ := hG.at_ hlt hM1
        have cm := hG.cell m hlt
        rw [e1] at cm
        have Hf1 := Lib.hid (Hfi.out m hlt g c' w1 hA)
        rw [hpl.out m] at Hf1
        have hkl := Hkl.out m
        have hs : Hid (nkept pl (m + 1) = if pl m = 0 then nkept pl m + 1 else nkept pl m) := rfl
        generalize (AgainM.top (F m) M).2 = y at *
        by_cases h0 : pl m = 0
        · have hd : (((pl m : Nat) : Int) == 0) = true := by rw [h0]; rfl
          have hs2 : Hid (nkept pl (m + 1) = nkept pl m + 1) := by
            have := hs.out
            rw [if_pos h0] at this
            exact this
          have H0 := Lib.hid h0; clear h0
          generalize pl m = pm at *
          generalize nkept pl m = nk at *
          go_wp2_with fail
          refine Hf1.out.mono ?_
          rintro e w5 ⟨rfl, hw5⟩
          have hw5 := hw5.symm
          subst hw5
          go_wp2_with fail
          go_round
          case rel => exact ⟨m + 1, by omega, by go_num, by rw [hs2.out]; go_num⟩
          case measure => simp [intOf]; omega
        · have hd : (((pl m : Nat) : Int) == 0) = false := beq_eq_false_iff_ne.2 (by omega)
          have hs2 : Hid (nkept pl (m + 1) = nkept pl m) := by
            have := hs.out
            rw [if_neg h0] at this
            exact this
          have H0 := Lib.hid h0; clear h0
          generalize pl m = pm at *
          generalize nkept pl m = nk at *
          go_wp2_with fail
          refine Hf1.out.mono ?_
          rintro e w5 ⟨rfl, hw5⟩
          have hw5 := hw5.symm
          subst hw5
          go_wp2_with fail
          go_round
          case rel => exact ⟨m + 1, by omega, by go_num, by rw [hs2.out]⟩
          case measure => simp [intOf]; omega
      · obtain rfl : m = T := by omega
        have hit : decide ((m : Int) < (m : Int)) = false := decide_eq_false (by omega)
        go_wp2_with fail
        go_ret2
        exact ⟨rfl, hB1⟩


end KeptI
end Go.Proofs.Ytppaegibhikjnaa
