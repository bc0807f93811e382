/-
  SetValue, by the program.
-/
import Derived.Test.YtppaegibhikjnaaRows
import Derived.Test.YtppaegibhikjnaaVFacts
import Derived.Test.YtppaegibhikjnaaAgainM
import Derived.Test.YtppaegibhikjnaaPowW
import Derived.Test.YtppaegibhikjnaaOwnL
import Derived.Test.YtppaegibhikjnaaAll6
import Derived.Test.YtppaegibhikjnaaAll9
import Derived.Test.YtppaegibhikjnaaSumsS
import Derived.Test.YtppaegibhikjnaaRolledI
import Derived.Test.YtppaegibhikjnaaArr
import Derived.Test.YtppaegibhikjnaaDieW
import Derived.Test.YtppaegibhikjnaaFracW
import Derived.Test.YtppaegibhikjnaaSortW
import Derived.Test.YtppaegibhikjnaaDicesW
import Derived.Test.YtppaegibhikjnaaPoolW
import Derived.Test.YtppaegibhikjnaaGoalW
import Derived.Test.YtppaegibhikjnaaScoreM
import Derived.Test.YtppaegibhikjnaaScoreW
import Derived.Test.YtppaegibhikjnaaIntsW
import Derived.Test.YtppaegibhikjnaaRollN
import Derived.Test.YtppaegibhikjnaaPairA
import Derived.Test.YtppaegibhikjnaaGameW
import Derived.Test.YtppaegibhikjnaaScoreI
import Derived.Test.YtppaegibhikjnaaGridL
import Derived.Test.YtppaegibhikjnaaCutW
import Derived.Test.YtppaegibhikjnaaIntsW
import Derived.Test.YtppaegibhikjnaaRollN
import Derived.Test.YtppaegibhikjnaaValM
import Derived.Test.YtppaegibhikjnaaSetVM
import Derived.Test.YtppaegibhikjnaaSetsI
import Derived.Test.YtppaegibhikjnaaOpenD
import Derived.WalkKit
import Derived.Deep.WholeRow
import Derived.Deep.AppendLies
import Derived.FnLit
import Derived.WalkLawsBesides
import Derived.WalkSpells
import Derived.ProofKit
import Derived.OpenShut
import Derived.Deep.RegionWith
import Derived.Deep.QuietTactic
import Derived.BigQuiet
namespace Go.Proofs.Ytppaegibhikjnaa
open Go.ChangeShapes Go.WideShapes Go.ChangeAt Go.RowKit
open Go.ChangeMaps (open_string shut_string)

namespace SetVI
open Dice Arr AgainM PowW OwnL All6 All9 SumsS RolledI FracW OpenD DieW SortW PoolW DicesW GoalW ScoreM ScoreW IntsW RollW PairA GameW ScoreI VFacts GridL Rest0 CutW ValM SetVM SetsI


set_option maxRecDepth 100000 in
set_option maxHeartbeats 8000000 in
theorem implSetValue_any (A : Option Addr) (n c : Nat) (P : Nat → Nat → Int) (k b N s r : Int) (w : World) (h : Row w A n P) (hn : n ≤ maxLen) :
    Calls Try.prog 42 #[.slice A n c, v2 k b, .int .i64 N, .int .i64 s, .int .i64 r] w fun e w' => e = .returned (.tuple #[outSV n P k b N s r, .bool (okSet n P k b N s r)]) ∧ Below w.heap.size w w' := by
  have hR0 := At.new2 (w.alloc (.cells #[.int .i64 k, .int .i64 b] 25)) 36
  have hP0 := (At.newG k b w 25).past (.cells #[.int .i64 0, .int .i64 0] 36)
  have hB := na (na (n0 w) (.cells #[.int .i64 k, .int .i64 b] 25)) (.cells #[.int .i64 0, .int .i64 0] 36)
  have H := Lib.hid (h.up hB); clear h
  rw [size_alloc] at hR0
  have q0 := hP0.cell 0 (by omega)
  have q1 := hP0.cell 1 (by omega)
  rw [show fr k b 0 = k from rfl] at q0
  rw [show fr k b 1 = b from rfl] at q1
  cases hz : okVal n P k b N r 1
  · have hno : okSet n P k b N s r = false := by unfold okSet; rw [hz]; rfl
    have Hsr := Lib.hid (fun w h => setsRollNo_any A n c P k b N r w h hn hz)
    rw [outSV_no hno, hno]
    clear hz hno
    go_enter Try.func42, Try.ntmps42
    go_wp2_with fail
    generalize (w.alloc (.cells #[.int .i64 k, .int .i64 b] 25)).alloc (.cells #[.int .i64 0, .int .i64 0] 36) = W at *
    refine (Hsr.out _ H.out).mono ?_
    rintro e w1 ⟨rfl, hb1⟩
    have hB1 := hB.trans (hb1.mono hB.size)
    have hR1 := hR0.up hb1
    have c0 := hR1.cell 0 (by omega)
    have c1 := hR1.cell 1 (by omega)
    have z0 := hR1.free 0
    have z1 := hR1.free 1
    clear q0 q1
    go_wp2_with fail
    refine ret_cell_tmp (b := w.heap.size + 1) (n := 2) (f := fr 0 0) Try.results42 rfl rfl Try.underlying36 (by kernel_rfl) (fin2' hR1 0 0) rfl ⟨rfl, ?_⟩
    exact (hB1.setCell (p := ⟨w.heap.size + 1, 0, none⟩) (Nat.le_succ _) _).setCell (p := ⟨w.heap.size + 1, 1, none⟩) (Nat.le_succ _) _
  · obtain ⟨hg, hN0, _⟩ := of_val hz
    obtain ⟨hm, _, hr1, hr2⟩ := of_game hg
    have h3 := (of_many hm).2.1
    have hso := fun w => setOf_any n (2 ^ n) s w h3 rfl
    obtain ⟨N, rfl⟩ : ∃ m : Nat, N = m := ⟨N.toNat, by omega⟩
    obtain ⟨r, rfl⟩ : ∃ m : Nat, r = m := ⟨r.toNat, by omega⟩
    have Hsr := Lib.hid (fun w h => setsRoll_any A n c N r P k b w h hz)
    cases hs : decide (0 ≤ s ∧ s < ((2 ^ n : Nat) : Int))
    · have hno : okSet n P k b N s r = false := by unfold okSet; rw [hs, Bool.and_false]
      rw [hs] at hso
      have Hso := Lib.hid hso; clear hso
      rw [outSV_no hno, hno]
      clear hz hno hs hg hm
      go_enter Try.func42, Try.ntmps42
      go_wp2_with fail
      generalize (w.alloc (.cells #[.int .i64 k, .int .i64 b] 25)).alloc (.cells #[.int .i64 0, .int .i64 0] 36) = W at *
      refine (Hsr.out _ H.out).mono ?_
      rintro e w1 ⟨g, c', rfl, hA, hb1⟩
      have hB1 := hB.trans (hb1.mono hB.size)
      have hR1 := hR0.up hb1
      clear q0 q1
      go_wp2_with fail
      refine (Hso.out _).mono ?_
      rintro e w5 ⟨rfl, hw5⟩
      have hw5 := hw5.symm
      subst hw5
      have c0 := hR1.cell 0 (by omega)
      have c1 := hR1.cell 1 (by omega)
      have z0 := hR1.free 0
      have z1 := hR1.free 1
      go_wp2_with fail
      refine ret_cell_tmp (b := w.heap.size + 1) (n := 2) (f := fr 0 0) Try.results42 rfl rfl Try.underlying36 (by kernel_rfl) (fin2' hR1 0 0) rfl ⟨rfl, ?_⟩
      exact (hB1.setCell (p := ⟨w.heap.size + 1, 0, none⟩) (Nat.le_succ _) _).setCell (p := ⟨w.heap.size + 1, 1, none⟩) (Nat.le_succ _) _
    · have hyes : okSet n P k b N s r = true := by unfold okSet; rw [hz, hs]; rfl
      obtain ⟨hs0, hs1⟩ := of_decide_eq_true hs
      rw [hs] at hso
      have Hso := Lib.hid hso; clear hso
      obtain ⟨s, rfl⟩ : ∃ m : Nat, s = m := ⟨s.toNat, by omega⟩
      rw [outSV_yes hyes, hyes]
      obtain ⟨m, hm1, hm2⟩ := worth_nat hz s
      obtain ⟨hq1, hq2⟩ := parts_le (r := r) h3 (by omega)
      have hnr : n * r ≤ 9 := Nat.mul_le_mul h3 (show r ≤ 3 by omega)
      have Hou := Lib.hid (fun w => outcomes9 (n * r) w hnr)
      have Hfr := Lib.hid (fun w => fraction_any m (all6 (n * r)) w (by omega) (by omega) hq1)
      have hvv : setV n P k b r N s = cutV m (all6 (n * r)) := by unfold setV; rw [hm1, Int.toNat_natCast]
      rw [hvv]
      unfold cutV
      have emul : (r : Int) * (n : Int) = ((n * r : Nat) : Int) := by push_cast; exact Int.mul_comm _ _
      have Hm1 := Lib.hid hm1; clear hm1
      have hsM : s < 2 ^ n := by omega
      have hM8 := (shl_two h3).2.1
      clear hvv hz hyes hs hg hm hs0 hs1 hq1
      generalize worth n (values n (sco n P k b) (r - 1)) N = F at *
      generalize all6 (n * r) = q at *
      have hi0 : (0 : Int) ≤ (s : Int) := by omega
      generalize n * r = nr at *
      have hwr := wrap_same (nr : Int) (by omega) (by omega)
      have h3' := Lib.hid h3; clear h3
      generalize 2 ^ n = M at *
      have hi1 : (s : Int) < (M : Int) := by omega
      go_enter Try.func42, Try.ntmps42
      go_wp2_with fail
      generalize (w.alloc (.cells #[.int .i64 k, .int .i64 b] 25)).alloc (.cells #[.int .i64 0, .int .i64 0] 36) = W at *
      refine (Hsr.out _ H.out).mono ?_
      rintro e w1 ⟨g, c', rfl, hA, hb1⟩
      have HB1 := Lib.hid (hB.trans (hb1.mono hB.size)).drew
      have HR1 := Lib.hid (hR0.up hb1).drew
      have cs := hA.drew.cell s (by omega)
      rw [Hm1.out] at cs
      clear q0 q1 hR0 hP0 hB hb1 hA
      go_wp2_with fail
      refine (Hso.out _).mono ?_
      rintro e w5 ⟨rfl, hw5⟩
      have hw5 := hw5.symm
      subst hw5
      go_wp2_with fail
      go_region_with (first | (go_at_call 68; refine (Hou.out _).mono ?_; rintro e w7 ⟨rfl, hw7⟩; have hw7 := hw7.symm; subst hw7) | (go_at_call 67; refine (Hfr.out _).mono ?_; rintro e w8 ⟨rfl, hb8⟩; have hR8 := HR1.out.up hb8; have c0 := hR8.cell 0 (by omega); have c1 := hR8.cell 1 (by omega); have z0 := hR8.free 0; have z1 := hR8.free 1; have hB8 := nx HB1.out hb8))
      all_goals
        go_wp2_with fail
        refine ret_cell_tmp (b := w.heap.size + 1) (n := 2) (f := fr ((m : Int) / (Nat.gcd m q : Nat)) ((q : Int) / (Nat.gcd m q : Nat))) Try.results42 rfl rfl Try.underlying36 (by kernel_rfl) (fin2' hR8 _ _) rfl ⟨rfl, ?_⟩
        exact (hB8.setCell (p := ⟨w.heap.size + 1, 0, none⟩) (Nat.le_succ _) _).setCell (p := ⟨w.heap.size + 1, 1, none⟩) (Nat.le_succ _) _



end SetVI
end Go.Proofs.Ytppaegibhikjnaa
