/-
  MeanRolled, by the specification.
-/
import Derived.Test.YtppaegibhikjnaaRows
import Derived.Test.YtppaegibhikjnaaVFacts
import Derived.Test.YtppaegibhikjnaaAgainM
import Derived.Test.YtppaegibhikjnaaPowW
import Derived.Test.YtppaegibhikjnaaOwnL
import Derived.Test.YtppaegibhikjnaaAll6
import Derived.Test.YtppaegibhikjnaaAll9
import Derived.Test.YtppaegibhikjnaaSumsS
import Derived.Test.YtppaegibhikjnaaRolledI
import Derived.Test.YtppaegibhikjnaaArr
import Derived.Test.YtppaegibhikjnaaDieW
import Derived.Test.YtppaegibhikjnaaFracW
import Derived.Test.YtppaegibhikjnaaSortW
import Derived.Test.YtppaegibhikjnaaDicesW
import Derived.Test.YtppaegibhikjnaaPoolW
import Derived.Test.YtppaegibhikjnaaGoalW
import Derived.Test.YtppaegibhikjnaaScoreM
import Derived.Test.YtppaegibhikjnaaScoreW
import Derived.Test.YtppaegibhikjnaaIntsW
import Derived.Test.YtppaegibhikjnaaRollN
import Derived.Test.YtppaegibhikjnaaPairA
import Derived.Test.YtppaegibhikjnaaGameW
import Derived.Test.YtppaegibhikjnaaScoreI
import Derived.Test.YtppaegibhikjnaaGridL
import Derived.Test.YtppaegibhikjnaaCutW
import Derived.Test.YtppaegibhikjnaaIntsW
import Derived.Test.YtppaegibhikjnaaRollN
import Derived.Test.YtppaegibhikjnaaValM
import Derived.Test.YtppaegibhikjnaaKeptM
import Derived.Test.YtppaegibhikjnaaValsS
import Derived.Test.YtppaegibhikjnaaBestM
import Derived.Test.YtppaegibhikjnaaBestS
import Derived.Test.YtppaegibhikjnaaPlanS
import Derived.Test.YtppaegibhikjnaaOpenD
import Derived.WalkKit
import Derived.Deep.WholeRow
import Derived.Deep.AppendLies
import Derived.FnLit
import Derived.WalkLawsBesides
import Derived.WalkSpells
import Derived.ProofKit
import Derived.OpenShut
import Derived.Deep.RegionWith
import Derived.Deep.QuietTactic
import Derived.BigQuiet
namespace Go.Proofs.Ytppaegibhikjnaa
open Go.ChangeShapes Go.WideShapes Go.ChangeAt Go.RowKit
open Go.ChangeMaps (open_string shut_string)

namespace RollS6
open Dice Arr AgainM PowW OwnL All6 All9 SumsS RolledI FracW OpenD DieW SortW PoolW DicesW GoalW ScoreM ScoreW IntsW RollW PairA GameW ScoreI VFacts GridL CutW ValM KeptM BestS PlanS


set_option maxRecDepth 100000 in
set_option maxHeartbeats 8000000 in
theorem specRolled_any (A : Option Addr) (n c : Nat) (P : Nat → Nat → Int) (k b r : Int) (w : World) (h : Row w A n P) (hn : n ≤ maxLen) :
    Calls Try.prog 37 #[.slice A n c, v2 k b, .int .i64 r] w fun e w' => e = .returned (.tuple #[outM n P k b r, .bool (gameOk n P k b r 1)]) ∧ Below w.heap.size w w' := by
  have hga := fun w h => l6Good_any A n c P k b r w h hn
  have hR0 := At.new2 (w.alloc (.cells #[.int .i64 k, .int .i64 b] 25)) 36
  have hP0 := (At.newG k b w 25).past (.cells #[.int .i64 0, .int .i64 0] 36)
  have hB := na (na (n0 w) (.cells #[.int .i64 k, .int .i64 b] 25)) (.cells #[.int .i64 0, .int .i64 0] 36)
  have H := Lib.hid (h.up hB); clear h
  rw [size_alloc] at hR0
  have q0 := hP0.cell 0 (by omega)
  have q1 := hP0.cell 1 (by omega)
  rw [show fr k b 0 = k from rfl] at q0
  rw [show fr k b 1 = b from rfl] at q1
  cases hg : gameOk n P k b r 0
  · have hno : gameOk n P k b r 1 = false := by rw [game_one, hg]; rfl
    rw [outM_no hno, hno]
    rw [hg] at hga
    have Hga := Lib.hid hga; clear hga
    clear hg hno
    go_enter Try.func37, Try.ntmps37
    go_wp2_with fail
    generalize (w.alloc (.cells #[.int .i64 k, .int .i64 b] 25)).alloc (.cells #[.int .i64 0, .int .i64 0] 36) = W at *
    refine (Hga.out _ H.out).mono ?_
    rintro e w1 ⟨rfl, hb1⟩
    have hB1 := hB.trans (hb1.mono hB.size)
    have hR1 := hR0.up hb1
    clear q0 q1
    have c0 := hR1.cell 0 (by omega)
    have c1 := hR1.cell 1 (by omega)
    have z0 := hR1.free 0
    have z1 := hR1.free 1
    go_wp2_with fail
    refine ret_cell_tmp (b := w.heap.size + 1) (n := 2) (f := fr 0 0) Try.results37 rfl rfl Try.underlying36 (by kernel_rfl) (fin2' hR1 0 0) rfl ⟨rfl, ?_⟩
    exact (hB1.setCell (p := ⟨w.heap.size + 1, 0, none⟩) (Nat.le_succ _) _).setCell (p := ⟨w.heap.size + 1, 1, none⟩) (Nat.le_succ _) _
  · rw [hg] at hga
    have Hga := Lib.hid hga; clear hga
    by_cases hr : r < 1
    · have hno : gameOk n P k b r 1 = false := by rw [game_one, hg, decide_eq_false (by omega)]; rfl
      rw [outM_no hno, hno]
      have hd : decide (r < 1) = true := decide_eq_true hr
      clear hg hno
      go_enter Try.func37, Try.ntmps37
      go_wp2_with fail
      generalize (w.alloc (.cells #[.int .i64 k, .int .i64 b] 25)).alloc (.cells #[.int .i64 0, .int .i64 0] 36) = W at *
      refine (Hga.out _ H.out).mono ?_
      rintro e w1 ⟨rfl, hb1⟩
      have hB1 := hB.trans (hb1.mono hB.size)
      have hR1 := hR0.up hb1
      clear q0 q1
      have c0 := hR1.cell 0 (by omega)
      have c1 := hR1.cell 1 (by omega)
      have z0 := hR1.free 0
      have z1 := hR1.free 1
      go_wp2_with fail
      refine ret_cell_tmp (b := w.heap.size + 1) (n := 2) (f := fr 0 0) Try.results37 rfl rfl Try.underlying36 (by kernel_rfl) (fin2' hR1 0 0) rfl ⟨rfl, ?_⟩
      exact (hB1.setCell (p := ⟨w.heap.size + 1, 0, none⟩) (Nat.le_succ _) _).setCell (p := ⟨w.heap.size + 1, 1, none⟩) (Nat.le_succ _) _
    · have hd : decide (r < 1) = false := decide_eq_false hr
      have hg1 : gameOk n P k b r 1 = true := by rw [game_one, hg, decide_eq_true (by omega)]; rfl
      have h3 := (of_many (of_game hg).1).2.1
      obtain ⟨r, rfl⟩ : ∃ m : Nat, r = m := ⟨r.toNat, by omega⟩
      have Hpl := Lib.hid (fun w h => l6Plan_any A n c r P k b w h hg1)
      obtain ⟨hT, hT1, _⟩ := pow_three h3
      have hM8 := (shl_two h3).2.1
      have hT' : all6 n ≤ 216 := hT
      have hT1' : 1 ≤ all6 n := hT1
      have Hps := Lib.hid (fun m (hm : m < all6 n) => Nat.lt_of_lt_of_le (plan_small hg1 hm) hM8)
      have Hnl := Lib.hid (fun m => Nat.le_trans (nrolled_le n (planF n P k b r) m) (Nat.mul_le_mul_left m h3))
      have hfr := fun w => cut_any (nrolled n (planF n P k b r) (all6 n)) (all6 n) w (by have := Hnl.out (all6 n); omega) (by omega) hT1'
      have Hfr := Lib.hid hfr; clear hfr
      rw [outM_yes hg1, hg1]
      unfold cutV
      clear hg hg1 hr hT hT1 hM8
      generalize planF n P k b r = pl at *
      generalize all6 n = T at *
      obtain ⟨m0, hm0⟩ : ∃ m0, m0 = nrolled n pl T := ⟨_, rfl⟩
      rw [← hm0] at Hfr ⊢
      have Hm0 := Lib.hid hm0; clear hm0
      go_enter Try.func37, Try.ntmps37
      go_wp2_with fail
      generalize (w.alloc (.cells #[.int .i64 k, .int .i64 b] 25)).alloc (.cells #[.int .i64 0, .int .i64 0] 36) = W at *
      refine (Hga.out _ H.out).mono ?_
      rintro e w1 ⟨rfl, hb1⟩
      have hB1 := hB.trans (hb1.mono hB.size)
      have hP1 := hP0.up hb1
      have hR1 := hR0.up hb1
      clear q0 q1
      have q0 := hP1.cell 0 (by omega)
      have q1 := hP1.cell 1 (by omega)
      rw [show fr k b 0 = k from rfl] at q0
      rw [show fr k b 1 = b from rfl] at q1
      go_wp2_with fail
      refine (Hpl.out _ (H.out.up hb1)).mono ?_
      rintro e w2 ⟨g, c', rfl, hgg, hA, hb2⟩
      have hB2 := nx hB1 hb2
      have hR2 := hR1.up hb2
      clear q0 q1 hP1 hP0 hB hb1 hb2 hB1 hR1 hR0
      go_wp2_with fail
      go_loop [8, 10] (fun sv iv => ∃ m : Nat, m ≤ T ∧ iv = .int .i64 m ∧ sv = .int .i64 ((nrolled n pl m : Nat) : Int)) (fun _ iv => T - (intOf iv).toNat)
      case atStart => exact ⟨0, by omega, rfl, rfl⟩
      case round =>
        obtain ⟨m, hm, rfl, rfl⟩ := hrel
        by_cases hlt : m < T
        · have hit : decide ((m : Int) < (T : Int)) = true := decide_eq_true (by omega)
          have cm := hA.cell m hlt
          have hp8 := Hps.out m hlt
          have hkl := Hnl.out m
          have hs : Hid (nrolled n pl (m + 1) = nrolled n pl m + nbits (pl m) n) := rfl
          generalize pl m = pm at *
          generalize nrolled n pl m = nk at *
          go_wp2_with fail
          go_loop [8, 11] (fun sv iv => ∃ i : Nat, i ≤ n ∧ iv = .int .i64 i ∧ sv = .int .i64 ((nk + nbits pm i : Nat) : Int)) (fun _ iv => n - (intOf iv).toNat)
          case atStart => exact ⟨0, by omega, rfl, rfl⟩
          case round =>
            obtain ⟨i, hi, rfl, rfl⟩ := hrel
            by_cases hin : i < n
            · have hjt : decide ((i : Int) < (n : Int)) = true := decide_eq_true (by omega)
              have hbb := bits_bit hp8 (show i < 3 by omega)
              have hb2 := bit_lt pm i
              have hnb := nbits_le pm i
              have hs2 : Hid (nbits pm (i + 1) = nbits pm i + bit pm i) := rfl
              generalize bit pm i = bt at *
              obtain ⟨a, ha⟩ : ∃ a, a = nk + nbits pm i := ⟨_, rfl⟩
              rw [← ha]
              have ha2 : a ≤ 1000 := by omega
              have Ha := Lib.hid ha; clear ha
              go_wp2_with fail
              go_round
              case rel => exact ⟨i + 1, by omega, by go_num, by rw [hs2.out, show nk + (nbits pm i + bt) = a + bt by rw [Ha.out]; omega]; go_num⟩
              case measure => simp [intOf]; omega
            · obtain rfl : i = n := by omega
              have hjt : decide ((i : Int) < (i : Int)) = false := decide_eq_false (by omega)
              go_wp2_with fail
              go_round
              case rel => exact ⟨m + 1, by omega, by go_num, by rw [hs.out]⟩
              case measure => simp [intOf]; omega
        · obtain rfl : m = T := by omega
          have hit : decide ((m : Int) < (m : Int)) = false := decide_eq_false (by omega)
          rw [← Hm0.out]
          go_wp2_with fail
          refine (Hfr.out _).mono ?_
          rintro e w6 ⟨rfl, hb6⟩
          have hB6 := nx hB2 hb6
          have hR6 := hR2.up hb6
          have c0 := hR6.cell 0 (by omega)
          have c1 := hR6.cell 1 (by omega)
          have z0 := hR6.free 0
          have z1 := hR6.free 1
          go_wp2_with fail
          refine ret_cell_tmp (b := w.heap.size + 1) (n := 2) (f := fr ((m0 : Int) / (Nat.gcd m0 m : Nat)) ((m : Int) / (Nat.gcd m0 m : Nat))) Try.results37 rfl rfl Try.underlying36 (by kernel_rfl) (fin2' hR6 _ _) rfl ⟨rfl, ?_⟩
          exact (hB6.setCell (p := ⟨w.heap.size + 1, 0, none⟩) (Nat.le_succ _) _).setCell (p := ⟨w.heap.size + 1, 1, none⟩) (Nat.le_succ _) _



end RollS6
end Go.Proofs.Ytppaegibhikjnaa
