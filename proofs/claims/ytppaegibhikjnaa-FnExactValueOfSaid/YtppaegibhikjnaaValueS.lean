/-
  ValueOf, by the specification.
-/
import Derived.Test.YtppaegibhikjnaaRows
import Derived.Test.YtppaegibhikjnaaVFacts
import Derived.Test.YtppaegibhikjnaaAgainM
import Derived.Test.YtppaegibhikjnaaPowW
import Derived.Test.YtppaegibhikjnaaOwnL
import Derived.Test.YtppaegibhikjnaaAll6
import Derived.Test.YtppaegibhikjnaaAll9
import Derived.Test.YtppaegibhikjnaaSumsS
import Derived.Test.YtppaegibhikjnaaRolledI
import Derived.Test.YtppaegibhikjnaaArr
import Derived.Test.YtppaegibhikjnaaDieW
import Derived.Test.YtppaegibhikjnaaFracW
import Derived.Test.YtppaegibhikjnaaSortW
import Derived.Test.YtppaegibhikjnaaDicesW
import Derived.Test.YtppaegibhikjnaaPoolW
import Derived.Test.YtppaegibhikjnaaGoalW
import Derived.Test.YtppaegibhikjnaaScoreM
import Derived.Test.YtppaegibhikjnaaScoreW
import Derived.Test.YtppaegibhikjnaaIntsW
import Derived.Test.YtppaegibhikjnaaRollN
import Derived.Test.YtppaegibhikjnaaPairA
import Derived.Test.YtppaegibhikjnaaGameW
import Derived.Test.YtppaegibhikjnaaScoreI
import Derived.Test.YtppaegibhikjnaaGridL
import Derived.Test.YtppaegibhikjnaaCutW
import Derived.Test.YtppaegibhikjnaaIntsW
import Derived.Test.YtppaegibhikjnaaRollN
import Derived.Test.YtppaegibhikjnaaValM
import Derived.Test.YtppaegibhikjnaaValsS
import Derived.Test.YtppaegibhikjnaaOpenD
import Derived.WalkKit
import Derived.Deep.WholeRow
import Derived.Deep.AppendLies
import Derived.FnLit
import Derived.Deep.RegionHeld3
import Derived.WalkLawsBesides
import Derived.WalkSpells
import Derived.ProofKit
import Derived.OpenShut
import Derived.Deep.RegionWith
import Derived.Deep.QuietTactic
import Derived.BigQuiet
namespace Go.Proofs.Ytppaegibhikjnaa
open Go.ChangeShapes Go.WideShapes Go.ChangeAt Go.RowKit
open Go.ChangeMaps (open_string shut_string)

namespace ValueS
open Dice Arr AgainM PowW OwnL All6 All9 SumsS RolledI FracW OpenD DieW SortW PoolW DicesW GoalW ScoreM ScoreW IntsW RollW PairA GameW ScoreI VFacts GridL CutW ValM ValsS


set_option maxRecDepth 100000 in
set_option maxHeartbeats 8000000 in
theorem specValueNo_any (A : Option Addr) (n c : Nat) (P : Nat → Nat → Int) (k b N r : Int) (w : World) (h : Row w A n P) (hn : n ≤ maxLen) (hok : okVal n P k b N r 0 = false) :
    Calls Try.prog 23 #[.slice A n c, v2 k b, .int .i64 N, .int .i64 r] w fun e w' => e = .returned (.tuple #[v2 0 0, .bool false]) ∧ Below w.heap.size w w' := by
  have hga := fun w h => l6Good_any A n c P k b r w h hn
  have hR0 := At.new2 (w.alloc (.cells #[.int .i64 k, .int .i64 b] 25)) 36
  have hP0 := (At.newG k b w 25).past (.cells #[.int .i64 0, .int .i64 0] 36)
  have hB := na (na (n0 w) (.cells #[.int .i64 k, .int .i64 b] 25)) (.cells #[.int .i64 0, .int .i64 0] 36)
  have H := Lib.hid (h.up hB); clear h
  rw [size_alloc] at hR0
  have q0 := hP0.cell 0 (by omega)
  have q1 := hP0.cell 1 (by omega)
  rw [show fr k b 0 = k from rfl] at q0
  rw [show fr k b 1 = b from rfl] at q1
  cases hg : gameOk n P k b r 0
  · rw [hg] at hga
    have Hga := Lib.hid hga; clear hga
    clear hok hg
    go_enter Try.func23, Try.ntmps23
    go_wp2_with fail
    generalize (w.alloc (.cells #[.int .i64 k, .int .i64 b] 25)).alloc (.cells #[.int .i64 0, .int .i64 0] 36) = W at *
    refine (Hga.out _ H.out).mono ?_
    rintro e w1 ⟨rfl, hb1⟩
    have hB1 := hB.trans (hb1.mono hB.size)
    have hR1 := hR0.up hb1
    have c0 := hR1.cell 0 (by omega)
    have c1 := hR1.cell 1 (by omega)
    have z0 := hR1.free 0
    have z1 := hR1.free 1
    clear q0 q1
    go_wp2_with fail
    refine ret_cell_tmp (b := w.heap.size + 1) (n := 2) (f := fr 0 0) Try.results23 rfl rfl Try.underlying36 (by kernel_rfl) (fin2' hR1 0 0) rfl ⟨rfl, ?_⟩
    exact (hB1.setCell (p := ⟨w.heap.size + 1, 0, none⟩) (Nat.le_succ _) _).setCell (p := ⟨w.heap.size + 1, 1, none⟩) (Nat.le_succ _) _
  · rw [hg] at hga
    have Hga := Lib.hid hga; clear hga
    have h3 := (of_many (of_game hg).1).2.1
    have hnu := fun w => l6Number_any A n c N w h3
    have hdec : decide (0 ≤ N ∧ N < (all6 n : Nat)) = false := by
      unfold okVal at hok
      rw [hg, Bool.true_and] at hok
      exact hok
    rw [hdec] at hnu
    have Hnu := Lib.hid hnu; clear hnu
    clear hok hg hdec
    go_enter Try.func23, Try.ntmps23
    go_wp2_with fail
    generalize (w.alloc (.cells #[.int .i64 k, .int .i64 b] 25)).alloc (.cells #[.int .i64 0, .int .i64 0] 36) = W at *
    refine (Hga.out _ H.out).mono ?_
    rintro e w1 ⟨rfl, hb1⟩
    have hB1 := hB.trans (hb1.mono hB.size)
    have hR1 := hR0.up hb1
    have c0 := hR1.cell 0 (by omega)
    have c1 := hR1.cell 1 (by omega)
    have z0 := hR1.free 0
    have z1 := hR1.free 1
    clear q0 q1
    go_wp2_with fail
    refine (Hnu.out _).mono ?_
    rintro e w5 ⟨rfl, hw5⟩
    have hw5 := hw5.symm
    subst hw5
    go_wp2_with fail
    refine ret_cell_tmp (b := w.heap.size + 1) (n := 2) (f := fr 0 0) Try.results23 rfl rfl Try.underlying36 (by kernel_rfl) (fin2' hR1 0 0) rfl ⟨rfl, ?_⟩
    exact (hB1.setCell (p := ⟨w.heap.size + 1, 0, none⟩) (Nat.le_succ _) _).setCell (p := ⟨w.heap.size + 1, 1, none⟩) (Nat.le_succ _) _

set_option maxRecDepth 100000 in
set_option maxHeartbeats 16000000 in
theorem specValueYes_any (A : Option Addr) (n c N r : Nat) (P : Nat → Nat → Int) (k b : Int) (w : World) (h : Row w A n P) (hok : okVal n P k b N r 0 = true) :
    Calls Try.prog 23 #[.slice A n c, v2 k b, .int .i64 N, .int .i64 r] w fun e w' => e = .returned (.tuple #[valV n P k b r N, .bool true]) ∧ Below w.heap.size w w' := by
  obtain ⟨hg, hN0, hN⟩ := of_val hok
  obtain ⟨hm, hgo, _, hr2⟩ := of_game hg
  obtain ⟨h1, h3, hp⟩ := of_many hm
  have hk := goal_kinds hgo
  have hga := fun w h => l6Good_any A n c P k b r w h (by unfold maxLen; omega)
  rw [hg] at hga
  have Hga := Lib.hid hga; clear hga
  have hnu := fun w => l6Number_any A n c N w h3
  rw [decide_eq_true ⟨hN0, hN⟩] at hnu
  have Hnu := Lib.hid hnu; clear hnu
  have Hsc := Lib.hid (fun w h => scores_any A n c P k b r w h h3 hp hk (by omega))
  have Hpa := Lib.hid (fun w => l6Parts_any A n c r w h3 (by omega))
  obtain ⟨m, hm1, hm2⟩ := vals_nat h3 hp k b (r := r) (by omega) (show N < all6 n by omega)
  have hNl : N < all6 n := by omega
  have hT : all6 n ≤ 216 := (pow_three h3).1
  obtain ⟨hq1, hq2⟩ := parts_le (r := r) h3 (by omega)
  have Hfr := Lib.hid (fun w => cut_any m (all6 (n * r)) w (by omega) (by omega) hq1)
  have hvv : valV n P k b r N = cutV m (all6 (n * r)) := by unfold valV; rw [hm1, Int.toNat_natCast]
  rw [hvv]
  unfold cutV
  have Hm1 := Lib.hid hm1; clear hm1
  clear hvv hok hgo hm hg hp hk hq1 hN0 hN
  generalize all6 (n * r) = q at *
  generalize values n (sco n P k b) r = V at *
  generalize all6 n = T at *
  have hR0 := At.new2 (w.alloc (.cells #[.int .i64 k, .int .i64 b] 25)) 36
  have hP0 := (At.newG k b w 25).past (.cells #[.int .i64 0, .int .i64 0] 36)
  have hB := na (na (n0 w) (.cells #[.int .i64 k, .int .i64 b] 25)) (.cells #[.int .i64 0, .int .i64 0] 36)
  have H := Lib.hid (h.up hB); clear h
  rw [size_alloc] at hR0
  have q0 := hP0.cell 0 (by omega)
  have q1 := hP0.cell 1 (by omega)
  rw [show fr k b 0 = k from rfl] at q0
  rw [show fr k b 1 = b from rfl] at q1
  go_enter Try.func23, Try.ntmps23
  go_wp2_with fail
  generalize (w.alloc (.cells #[.int .i64 k, .int .i64 b] 25)).alloc (.cells #[.int .i64 0, .int .i64 0] 36) = W at *
  refine (Hga.out _ H.out).mono ?_
  rintro e w1 ⟨rfl, hb1⟩
  have hB1 := hB.trans (hb1.mono hB.size)
  have hR1 := hR0.up hb1
  have hP1 := hP0.up hb1
  have hr1 := H.out.up hb1
  clear q0 q1 hR0 hP0 hB hb1 H
  go_wp2_with fail
  refine (Hnu.out _).mono ?_
  rintro e w5 ⟨rfl, hw5⟩
  have hw5 := hw5.symm
  subst hw5
  have q0 := hP1.drew.cell 0 (by omega)
  have q1 := hP1.drew.cell 1 (by omega)
  rw [show fr k b 0 = k from rfl] at q0
  rw [show fr k b 1 = b from rfl] at q1
  have Hrow : Hid (Row w1.drew A n P) := hr1
  have HR := Lib.hid hR1.drew; clear hR1
  have HP := Lib.hid hP1.drew; clear hP1
  have HB := Lib.hid hB1.drew; clear hB1
  clear hr1
  have hi0 : (0 : Int) ≤ (N : Int) := by omega
  have hi1 : (N : Int) < (T : Int) := by omega
  go_wp2_with fail
  go_region_with (first | (go_at_call 62; refine (Hsc.out _ Hrow.out).mono ?_; rintro e w6 ⟨g6, c6, rfl, hg6, hA6, hb6⟩; have q2 := (HP.out.up hb6).cell 0 (by omega); have q3 := (HP.out.up hb6).cell 1 (by omega); rw [show fr k b 0 = k from rfl] at q2; rw [show fr k b 1 = b from rfl] at q3; have x6 := hA6.cell N (by omega); rw [Hm1.out] at x6) | (go_at_call 63; refine (Hpa.out _).mono ?_; rintro e w7 ⟨rfl, hw7⟩; have hw7 := hw7.symm; subst hw7) | (go_at_call 61; refine (Hfr.out _).mono ?_; rintro e w8 ⟨rfl, hb8⟩; have q4 := ((HP.out.up hb6).up hb8).cell 0 (by omega); have q5 := ((HP.out.up hb6).up hb8).cell 1 (by omega); rw [show fr k b 0 = k from rfl] at q4; rw [show fr k b 1 = b from rfl] at q5; have hR8 := (HR.out.up hb6).up hb8; have c0 := hR8.cell 0 (by omega); have c1 := hR8.cell 1 (by omega); have z0 := hR8.free 0; have z1 := hR8.free 1; have hB8 := nx (nx HB.out hb6) hb8))
  all_goals
    go_wp2_with fail
    refine ret_cell_tmp (b := w.heap.size + 1) (n := 2) (f := fr ((m : Int) / (Nat.gcd m q : Nat)) ((q : Int) / (Nat.gcd m q : Nat))) Try.results23 rfl rfl Try.underlying36 (by kernel_rfl) (fin2' hR8 _ _) rfl ⟨rfl, ?_⟩
    exact (hB8.setCell (p := ⟨w.heap.size + 1, 0, none⟩) (Nat.le_succ _) _).setCell (p := ⟨w.heap.size + 1, 1, none⟩) (Nat.le_succ _) _
theorem specValue_any (A : Option Addr) (n c : Nat) (P : Nat → Nat → Int) (k b N r : Int) (w : World) (h : Row w A n P) (hn : n ≤ maxLen) :
    Calls Try.prog 23 #[.slice A n c, v2 k b, .int .i64 N, .int .i64 r] w fun e w' => e = .returned (.tuple #[outV n P k b N r, .bool (okVal n P k b N r 0)]) ∧ Below w.heap.size w w' := by
  cases hok : okVal n P k b N r 0
  · rw [outV_no hok]
    exact specValueNo_any A n c P k b N r w h hn hok
  · obtain ⟨hg, hN0, _⟩ := of_val hok
    obtain ⟨_, _, hr0, hr2⟩ := of_game hg
    obtain ⟨N, rfl⟩ : ∃ m : Nat, N = m := ⟨N.toNat, by omega⟩
    obtain ⟨r, rfl⟩ : ∃ m : Nat, r = m := ⟨r.toNat, by omega⟩
    rw [outV_yes hok]
    exact specValueYes_any A n c N r P k b w h hok


end ValueS
end Go.Proofs.Ytppaegibhikjnaa
