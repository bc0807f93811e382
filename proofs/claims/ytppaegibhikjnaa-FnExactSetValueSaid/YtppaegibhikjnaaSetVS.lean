/-
  SetValue, by the specification.
-/
import Derived.Test.YtppaegibhikjnaaRows
import Derived.Test.YtppaegibhikjnaaVFacts
import Derived.Test.YtppaegibhikjnaaAgainM
import Derived.Test.YtppaegibhikjnaaPowW
import Derived.Test.YtppaegibhikjnaaOwnL
import Derived.Test.YtppaegibhikjnaaAll6
import Derived.Test.YtppaegibhikjnaaAll9
import Derived.Test.YtppaegibhikjnaaSumsS
import Derived.Test.YtppaegibhikjnaaRolledI
import Derived.Test.YtppaegibhikjnaaArr
import Derived.Test.YtppaegibhikjnaaDieW
import Derived.Test.YtppaegibhikjnaaFracW
import Derived.Test.YtppaegibhikjnaaSortW
import Derived.Test.YtppaegibhikjnaaDicesW
import Derived.Test.YtppaegibhikjnaaPoolW
import Derived.Test.YtppaegibhikjnaaGoalW
import Derived.Test.YtppaegibhikjnaaScoreM
import Derived.Test.YtppaegibhikjnaaScoreW
import Derived.Test.YtppaegibhikjnaaIntsW
import Derived.Test.YtppaegibhikjnaaRollN
import Derived.Test.YtppaegibhikjnaaPairA
import Derived.Test.YtppaegibhikjnaaGameW
import Derived.Test.YtppaegibhikjnaaScoreI
import Derived.Test.YtppaegibhikjnaaGridL
import Derived.Test.YtppaegibhikjnaaCutW
import Derived.Test.YtppaegibhikjnaaIntsW
import Derived.Test.YtppaegibhikjnaaRollN
import Derived.Test.YtppaegibhikjnaaValM
import Derived.Test.YtppaegibhikjnaaSetVM
import Derived.Test.YtppaegibhikjnaaValsS
import Derived.Test.YtppaegibhikjnaaBestS
import Derived.Test.YtppaegibhikjnaaOpenD
import Derived.WalkKit
import Derived.Deep.WholeRow
import Derived.Deep.AppendLies
import Derived.FnLit
import Derived.WalkLawsBesides
import Derived.WalkSpells
import Derived.ProofKit
import Derived.OpenShut
import Derived.Deep.RegionWith
import Derived.Deep.QuietTactic
import Derived.BigQuiet
namespace Go.Proofs.Ytppaegibhikjnaa
open Go.ChangeShapes Go.WideShapes Go.ChangeAt Go.RowKit
open Go.ChangeMaps (open_string shut_string)

namespace SetVS
open Dice Arr AgainM PowW OwnL All6 All9 SumsS RolledI FracW OpenD DieW SortW PoolW DicesW GoalW ScoreM ScoreW IntsW RollW PairA GameW ScoreI VFacts GridL CutW ValM SetVM ValsS BestS


set_option maxRecDepth 100000 in
set_option maxHeartbeats 16000000 in
theorem specSetValue_any (A : Option Addr) (n c : Nat) (P : Nat → Nat → Int) (k b N s r : Int) (w : World) (h : Row w A n P) (hn : n ≤ maxLen) :
    Calls Try.prog 41 #[.slice A n c, v2 k b, .int .i64 N, .int .i64 s, .int .i64 r] w fun e w' => e = .returned (.tuple #[outSV n P k b N s r, .bool (okSet n P k b N s r)]) ∧ Below w.heap.size w w' := by
  have hga := fun w h => l6Good_any A n c P k b r w h hn
  have hR0 := At.new2 (w.alloc (.cells #[.int .i64 k, .int .i64 b] 25)) 36
  have hP0 := (At.newG k b w 25).past (.cells #[.int .i64 0, .int .i64 0] 36)
  have hB := na (na (n0 w) (.cells #[.int .i64 k, .int .i64 b] 25)) (.cells #[.int .i64 0, .int .i64 0] 36)
  have H := Lib.hid (h.up hB); clear h
  rw [size_alloc] at hR0
  have q0 := hP0.cell 0 (by omega)
  have q1 := hP0.cell 1 (by omega)
  rw [show fr k b 0 = k from rfl] at q0
  rw [show fr k b 1 = b from rfl] at q1
  cases hg : gameOk n P k b r 0
  · have hok : okSet n P k b N s r = false := by unfold okSet; rw [val_no_game N (by rw [game_one, hg]; rfl)]; rfl
    rw [outSV_no hok, hok]
    rw [hg] at hga
    have Hga := Lib.hid hga; clear hga
    clear hok hg
    go_enter Try.func41, Try.ntmps41
    go_wp2_with fail
    generalize (w.alloc (.cells #[.int .i64 k, .int .i64 b] 25)).alloc (.cells #[.int .i64 0, .int .i64 0] 36) = W at *
    refine (Hga.out _ H.out).mono ?_
    rintro e w1 ⟨rfl, hb1⟩
    have hB1 := hB.trans (hb1.mono hB.size)
    have hR1 := hR0.up hb1
    clear q0 q1
    have c0 := hR1.cell 0 (by omega)
    have c1 := hR1.cell 1 (by omega)
    have z0 := hR1.free 0
    have z1 := hR1.free 1
    go_wp2_with fail
    refine ret_cell_tmp (b := w.heap.size + 1) (n := 2) (f := fr 0 0) Try.results41 rfl rfl Try.underlying36 (by kernel_rfl) (fin2' hR1 0 0) rfl ⟨rfl, ?_⟩
    exact (hB1.setCell (p := ⟨w.heap.size + 1, 0, none⟩) (Nat.le_succ _) _).setCell (p := ⟨w.heap.size + 1, 1, none⟩) (Nat.le_succ _) _
  · rw [hg] at hga
    have Hga := Lib.hid hga; clear hga
    by_cases hr : r < 1
    · have hok : okSet n P k b N s r = false := by unfold okSet; rw [val_no_game N (by rw [game_one, hg, decide_eq_false (by omega)]; rfl)]; rfl
      rw [outSV_no hok, hok]
      have hd : decide (r < 1) = true := decide_eq_true hr
      clear hok hg
      go_enter Try.func41, Try.ntmps41
      go_wp2_with fail
      generalize (w.alloc (.cells #[.int .i64 k, .int .i64 b] 25)).alloc (.cells #[.int .i64 0, .int .i64 0] 36) = W at *
      refine (Hga.out _ H.out).mono ?_
      rintro e w1 ⟨rfl, hb1⟩
      have hB1 := hB.trans (hb1.mono hB.size)
      have hR1 := hR0.up hb1
      clear q0 q1
      have c0 := hR1.cell 0 (by omega)
      have c1 := hR1.cell 1 (by omega)
      have z0 := hR1.free 0
      have z1 := hR1.free 1
      go_wp2_with fail
      refine ret_cell_tmp (b := w.heap.size + 1) (n := 2) (f := fr 0 0) Try.results41 rfl rfl Try.underlying36 (by kernel_rfl) (fin2' hR1 0 0) rfl ⟨rfl, ?_⟩
      exact (hB1.setCell (p := ⟨w.heap.size + 1, 0, none⟩) (Nat.le_succ _) _).setCell (p := ⟨w.heap.size + 1, 1, none⟩) (Nat.le_succ _) _
    · have hd : decide (r < 1) = false := decide_eq_false hr
      have hg1 : gameOk n P k b r 1 = true := by rw [game_one, hg, decide_eq_true (by omega)]; rfl
      have h3 := (of_many (of_game hg).1).2.1
      have Hnu := Lib.hid (fun w => l6Number_any A n c N w h3)
      cases hN : decide (0 ≤ N ∧ N < (all6 n : Nat))
      · have hok : okSet n P k b N s r = false := by unfold okSet okVal; rw [hN, Bool.and_false]; rfl
        rw [outSV_no hok, hok]
        rw [hN] at Hnu
        clear hok hg hg1 hN
        go_enter Try.func41, Try.ntmps41
        go_wp2_with fail
        generalize (w.alloc (.cells #[.int .i64 k, .int .i64 b] 25)).alloc (.cells #[.int .i64 0, .int .i64 0] 36) = W at *
        refine (Hga.out _ H.out).mono ?_
        rintro e w1 ⟨rfl, hb1⟩
        have hB1 := hB.trans (hb1.mono hB.size)
        have hR1 := hR0.up hb1
        clear q0 q1
        go_wp2_with fail
        refine (Hnu.out _).mono ?_
        rintro e w5 ⟨rfl, hw5⟩
        have hw5 := hw5.symm
        subst hw5
        have c0 := hR1.cell 0 (by omega)
        have c1 := hR1.cell 1 (by omega)
        have z0 := hR1.free 0
        have z1 := hR1.free 1
        go_wp2_with fail
        refine ret_cell_tmp (b := w.heap.size + 1) (n := 2) (f := fr 0 0) Try.results41 rfl rfl Try.underlying36 (by kernel_rfl) (fin2' hR1 0 0) rfl ⟨rfl, ?_⟩
        exact (hB1.setCell (p := ⟨w.heap.size + 1, 0, none⟩) (Nat.le_succ _) _).setCell (p := ⟨w.heap.size + 1, 1, none⟩) (Nat.le_succ _) _
      · have hz : okVal n P k b N r 1 = true := by unfold okVal; rw [hg1, hN]; rfl
        rw [hN] at Hnu
        obtain ⟨hsh, hM8, hM1⟩ := shl_two h3
        have hin := fun w => l1In_any s 0 (((2 ^ n : Nat) : Int) - 1) w
        rw [show decide ((0 : Int) ≤ s ∧ s ≤ ((2 ^ n : Nat) : Int) - 1) = decide (0 ≤ s ∧ s < ((2 ^ n : Nat) : Int)) from decide_eq_decide.2 ⟨fun h => by omega, fun h => by omega⟩] at hin
        cases hs : decide (0 ≤ s ∧ s < ((2 ^ n : Nat) : Int))
        · have hok : okSet n P k b N s r = false := by unfold okSet; rw [hs, Bool.and_false]
          rw [outSV_no hok, hok]
          rw [hs] at hin
          have Hin := Lib.hid hin; clear hin
          clear hok hg hg1 hN hz hs
          generalize 2 ^ n = M at *
          go_enter Try.func41, Try.ntmps41
          go_wp2_with fail
          generalize (w.alloc (.cells #[.int .i64 k, .int .i64 b] 25)).alloc (.cells #[.int .i64 0, .int .i64 0] 36) = W at *
          refine (Hga.out _ H.out).mono ?_
          rintro e w1 ⟨rfl, hb1⟩
          have hB1 := hB.trans (hb1.mono hB.size)
          have hR1 := hR0.up hb1
          clear q0 q1
          go_wp2_with fail
          refine (Hnu.out _).mono ?_
          rintro e w5 ⟨rfl, hw5⟩
          have hw5 := hw5.symm
          subst hw5
          go_wp2_with fail
          refine (Hin.out _).mono ?_
          rintro e w5 ⟨rfl, hw5⟩
          have hw5 := hw5.symm
          subst hw5
          have c0 := hR1.cell 0 (by omega)
          have c1 := hR1.cell 1 (by omega)
          have z0 := hR1.free 0
          have z1 := hR1.free 1
          go_wp2_with fail
          refine ret_cell_tmp (b := w.heap.size + 1) (n := 2) (f := fr 0 0) Try.results41 rfl rfl Try.underlying36 (by kernel_rfl) (fin2' hR1 0 0) rfl ⟨rfl, ?_⟩
          exact (hB1.setCell (p := ⟨w.heap.size + 1, 0, none⟩) (Nat.le_succ _) _).setCell (p := ⟨w.heap.size + 1, 1, none⟩) (Nat.le_succ _) _
        · have hyes : okSet n P k b N s r = true := by unfold okSet; rw [hz, hs]; rfl
          obtain ⟨hs0, hs1⟩ := of_decide_eq_true hs
          obtain ⟨hN0, hN1⟩ := of_decide_eq_true hN
          obtain ⟨hm, hgo, _, hr2⟩ := of_game hg1
          obtain ⟨h1, _, hp⟩ := of_many hm
          have hk := goal_kinds hgo
          rw [hs] at hin
          have Hin := Lib.hid hin; clear hin
          obtain ⟨s, rfl⟩ : ∃ m : Nat, s = m := ⟨s.toNat, by omega⟩
          obtain ⟨N, rfl⟩ : ∃ m : Nat, N = m := ⟨N.toNat, by omega⟩
          obtain ⟨r, rfl⟩ : ∃ m : Nat, r = m := ⟨r.toNat, by omega⟩
          rw [outSV_yes hyes, hyes]
          obtain ⟨m, hm1, hm2⟩ := worth_nat hz s
          rw [show worth n (values n (sco n P k b) (r - 1)) N s = sums n s (values n (sco n P k b) (r - 1)) n N from rfl] at hm1
          obtain ⟨hq1, hq2⟩ := parts_le (r := r) h3 (by omega)
          have Hpa := Lib.hid (fun w => l6Parts_any A n c r w h3 (by omega))
          have Hfr := Lib.hid (fun w => cut_any m (all6 (n * r)) w (by omega) (by omega) hq1)
          have hvv : setV n P k b r N s = cutV m (all6 (n * r)) := by
            unfold setV
            rw [show worth n (values n (sco n P k b) (r - 1)) N s = sums n s (values n (sco n P k b) (r - 1)) n N from rfl, hm1, Int.toNat_natCast]
          rw [hvv]
          unfold cutV
          have Hsc := Lib.hid (fun w h => scores_any A n c P k b (r - 1) w h h3 hp hk (by omega))
          have Hsu := Lib.hid (fun g c w h => sumsV_any n P k b h3 hp (r - 1) (by omega) s (by omega) g c w h)
          have hT : all6 n ≤ 216 := (pow_three h3).1
          have e1 : IntKind.i64.wrap ((r : Int) - 1) = ((r - 1 : Nat) : Int) := by
            rw [show ((r : Int) - 1) = ((r - 1 : Nat) : Int) by omega]
            exact wrap_same _ (by omega) (by omega)
          have Hm1 := Lib.hid hm1; clear hm1
          have hNT : N < all6 n := by omega
          clear hvv hz hyes hs hg hg1 hm hgo hk hp hs0 hs1 hq1 hN hN0 hN1
          generalize sums n s (values n (sco n P k b) (r - 1)) n = F at *
          generalize values n (sco n P k b) (r - 1) = V at *
          generalize all6 (n * r) = q at *
          generalize all6 n = T at *
          generalize 2 ^ n = M at *
          have hi0 : (0 : Int) ≤ (N : Int) := by omega
          have hi1 : (N : Int) < (T : Int) := by omega
          go_enter Try.func41, Try.ntmps41
          go_wp2_with fail
          generalize (w.alloc (.cells #[.int .i64 k, .int .i64 b] 25)).alloc (.cells #[.int .i64 0, .int .i64 0] 36) = W at *
          refine (Hga.out _ H.out).mono ?_
          rintro e w1 ⟨rfl, hb1⟩
          have HB := Lib.hid (hB.trans (hb1.mono hB.size)).drew
          have HR := Lib.hid (hR0.up hb1).drew
          have HP := Lib.hid (hP0.up hb1).drew
          have HW := Lib.hid (H.out.up hb1.drew : Row w1.drew A n P)
          clear q0 q1 hB hR0 hP0 hb1
          go_wp2_with fail
          refine (Hnu.out _).mono ?_
          rintro e w5 ⟨rfl, hw5⟩
          have hw5 := hw5.symm
          subst hw5
          go_wp2_with fail
          refine (Hin.out _).mono ?_
          rintro e w5 ⟨rfl, hw5⟩
          have hw5 := hw5.symm
          subst hw5
          have q0 := HP.out.cell 0 (by omega)
          have q1 := HP.out.cell 1 (by omega)
          rw [show fr k b 0 = k from rfl] at q0
          rw [show fr k b 1 = b from rfl] at q1
          go_wp2_with fail
          go_region_with (first | (go_at_call 62; refine (Hsc.out _ HW.out).mono ?_; rintro e w6 ⟨g6, c6, rfl, hg6, hA6, hb6⟩) | (go_at_call 76; refine (Hsu.out _ _ _ hA6).mono ?_; rintro e w9 ⟨g9, c9, rfl, hg9, hA9, hb9⟩; have x9 := hA9.cell N hNT; rw [Hm1.out] at x9) | (go_at_call 63; refine (Hpa.out _).mono ?_; rintro e w7 ⟨rfl, hw7⟩; have hw7 := hw7.symm; subst hw7) | (go_at_call 61; refine (Hfr.out _).mono ?_; rintro e w8 ⟨rfl, hb8⟩; have hR8 := ((HR.out.up hb6).up hb9).up hb8; have c0 := hR8.cell 0 (by omega); have c1 := hR8.cell 1 (by omega); have z0 := hR8.free 0; have z1 := hR8.free 1; have hB8 := nx (nx (nx HB.out hb6) hb9) hb8))
          all_goals
            go_wp2_with fail
            refine ret_cell_tmp (b := w.heap.size + 1) (n := 2) (f := fr ((m : Int) / (Nat.gcd m q : Nat)) ((q : Int) / (Nat.gcd m q : Nat))) Try.results41 rfl rfl Try.underlying36 (by kernel_rfl) (fin2' hR8 _ _) rfl ⟨rfl, ?_⟩
            exact (hB8.setCell (p := ⟨w.heap.size + 1, 0, none⟩) (Nat.le_succ _) _).setCell (p := ⟨w.heap.size + 1, 1, none⟩) (Nat.le_succ _) _



end SetVS
end Go.Proofs.Ytppaegibhikjnaa
