/-
  ValueOf, by the program.
-/
import Derived.Test.YtppaegibhikjnaaRows
import Derived.Test.YtppaegibhikjnaaVFacts
import Derived.Test.YtppaegibhikjnaaAgainM
import Derived.Test.YtppaegibhikjnaaPowW
import Derived.Test.YtppaegibhikjnaaOwnL
import Derived.Test.YtppaegibhikjnaaAll6
import Derived.Test.YtppaegibhikjnaaAll9
import Derived.Test.YtppaegibhikjnaaSumsS
import Derived.Test.YtppaegibhikjnaaRolledI
import Derived.Test.YtppaegibhikjnaaArr
import Derived.Test.YtppaegibhikjnaaDieW
import Derived.Test.YtppaegibhikjnaaFracW
import Derived.Test.YtppaegibhikjnaaSortW
import Derived.Test.YtppaegibhikjnaaDicesW
import Derived.Test.YtppaegibhikjnaaPoolW
import Derived.Test.YtppaegibhikjnaaGoalW
import Derived.Test.YtppaegibhikjnaaScoreM
import Derived.Test.YtppaegibhikjnaaScoreW
import Derived.Test.YtppaegibhikjnaaIntsW
import Derived.Test.YtppaegibhikjnaaRollN
import Derived.Test.YtppaegibhikjnaaPairA
import Derived.Test.YtppaegibhikjnaaGameW
import Derived.Test.YtppaegibhikjnaaScoreI
import Derived.Test.YtppaegibhikjnaaGridL
import Derived.Test.YtppaegibhikjnaaCutW
import Derived.Test.YtppaegibhikjnaaIntsW
import Derived.Test.YtppaegibhikjnaaRollN
import Derived.Test.YtppaegibhikjnaaValM
import Derived.Test.YtppaegibhikjnaaRest0
import Derived.Test.YtppaegibhikjnaaRest1
import Derived.Test.YtppaegibhikjnaaRest2
import Derived.Test.YtppaegibhikjnaaSets1
import Derived.Test.YtppaegibhikjnaaSets2
import Derived.Test.YtppaegibhikjnaaOpenD
import Derived.WalkKit
import Derived.Deep.WholeRow
import Derived.Deep.AppendLies
import Derived.FnLit
import Derived.WalkLawsBesides
import Derived.WalkSpells
import Derived.ProofKit
import Derived.OpenShut
import Derived.Deep.RegionWith
import Derived.Deep.QuietTactic
import Derived.BigQuiet
namespace Go.Proofs.Ytppaegibhikjnaa
open Go.ChangeShapes Go.WideShapes Go.ChangeAt Go.RowKit
open Go.ChangeMaps (open_string shut_string)

namespace ValueI
open Dice Arr AgainM PowW OwnL All6 All9 SumsS RolledI FracW OpenD DieW SortW PoolW DicesW GoalW ScoreM ScoreW IntsW RollW PairA GameW ScoreI VFacts GridL Rest0 CutW ValM Rest1 Rest2


set_option maxRecDepth 100000 in
set_option maxHeartbeats 8000000 in
theorem value0_any (A : Option Addr) (n c N : Nat) (P : Nat → Nat → Int) (k b : Int) (w : World) (h : Row w A n P) (hok : okVal n P k b N 0 0 = true) :
    Calls Try.prog 25 #[.slice A n c, v2 k b, .int .i64 N, .int .i64 0] w fun e w' => e = .returned (.tuple #[valV n P k b 0 N, .bool true]) ∧ Below w.heap.size w w' := by
  obtain ⟨hg, hN0, hN⟩ := of_val hok
  obtain ⟨hm, hgo, _, _⟩ := of_game hg
  obtain ⟨h1, h3, hp⟩ := of_many hm
  have hk := goal_kinds hgo
  have hro := fun w h => implRoll_any A n c (N : Int) P w h (by unfold maxLen; omega)
  rw [okR_game hg, hok] at hro
  have Hro := Lib.hid hro; clear hro
  have hga := fun w h => isGame_any A n c P k b 0 0 w h (by unfold maxLen; omega)
  rw [hg] at hga
  have Hga := Lib.hid hga; clear hga
  have Hre := Lib.hid (fun w h => rest0_any A n c P k b w h h1 h3 hp hk)
  obtain ⟨m, hm1, hm2⟩ := vals_nat h3 hp k b (r := 0) (by omega) (show N < all6 n by omega)
  have hNl : N < all6 n := by omega
  obtain ⟨hq1, hq2⟩ := parts_le (r := 0) h3 (by omega)
  have Hou := Lib.hid (fun w => outcomes9 (n * 0) w (by omega))
  have Hfr := Lib.hid (fun w => fraction_any m (all6 (n * 0)) w (by omega) (by omega) hq1)
  have hvv : valV n P k b 0 N = cutV m (all6 (n * 0)) := by unfold valV; rw [hm1, Int.toNat_natCast]
  rw [hvv]
  unfold cutV
  have emul : (0 : Int) * (n : Int) = ((n * 0 : Nat) : Int) := by push_cast; omega
  clear hvv hok hgo hm hg hp hk hq1
  generalize n * 0 = nr at *
  generalize all6 nr = q at *
  have hR0 := At.new2 (w.alloc (.cells #[.int .i64 k, .int .i64 b] 25)) 36
  have hP0 := (At.newG k b w 25).past (.cells #[.int .i64 0, .int .i64 0] 36)
  have hB := na (na (n0 w) (.cells #[.int .i64 k, .int .i64 b] 25)) (.cells #[.int .i64 0, .int .i64 0] 36)
  have H := Lib.hid (h.up hB); clear h
  rw [size_alloc] at hR0
  have hmf : ∀ (fn : Fn) (first cap : Array Value) (w : World), (Instr.makeFunc fn first cap).run Try.prog w = .ok (.func fn first cap) w := fun _ _ _ _ => rfl
  go_enter Try.func25, Try.ntmps25
  go_wp2_with fail
  generalize (w.alloc (.cells #[.int .i64 k, .int .i64 b] 25)).alloc (.cells #[.int .i64 0, .int .i64 0] 36) = W at *
  refine (Hro.out _ H.out).mono ?_
  rintro e w1 ⟨A', c', rfl, _, hb1⟩
  have hB1 := hB.trans (hb1.mono hB.size)
  have hR1 := hR0.up hb1
  have hP1 := hP0.up hb1
  have hr1 := H.out.up hb1
  have q0 := hP1.cell 0 (by omega)
  have q1 := hP1.cell 1 (by omega)
  rw [show fr k b 0 = k from rfl] at q0
  rw [show fr k b 1 = b from rfl] at q1
  clear hR0 hP0 hB hb1 H
  go_wp2_with fail
  refine (Hga.out _ hr1).mono ?_
  rintro e w2 ⟨rfl, hb2⟩
  have hB2 := nx hB1 hb2
  have hR2 := hR1.up hb2
  have hP2 := hP1.up hb2
  have hr2 := hr1.up hb2
  clear q0 q1 hR1 hP1 hr1 hB1 hb2
  have q0 := hP2.cell 0 (by omega)
  have q1 := hP2.cell 1 (by omega)
  rw [show fr k b 0 = k from rfl] at q0
  rw [show fr k b 1 = b from rfl] at q1
  go_wp2_with fail
  refine (Hre.out _ hr2).mono ?_
  rintro e w3 ⟨bp, bs, rfl, hb3, Hcall⟩
  have hB3 := nx hB2 hb3
  have hR3 := hR2.up hb3
  have Hc1 := Lib.hid (Hcall.out N w3 hNl (n0 w3))
  rw [hm1] at Hc1
  clear q0 q1 hR2 hP2 hr2 hB2 hb3 Hcall
  go_wp2_with fail
  refine Hc1.out.mono ?_
  rintro e w4 ⟨rfl, hb4⟩
  have hB4 := nx hB3 hb4
  have hR4 := hR3.up hb4
  clear hB3 hR3 hb4
  go_wp2_with fail
  refine (Hou.out _).mono ?_
  rintro e w5 ⟨rfl, hw5⟩
  have hw5 := hw5.symm
  subst hw5
  go_wp2_with fail
  refine (Hfr.out _).mono ?_
  rintro e w6 ⟨rfl, hb6⟩
  have hB6 := nx hB4 hb6
  have hR6 := hR4.up hb6
  have c0 := hR6.cell 0 (by omega)
  have c1 := hR6.cell 1 (by omega)
  have z0 := hR6.free 0
  have z1 := hR6.free 1
  clear hB4 hR4 hb6
  go_wp2_with fail
  refine ret_cell_tmp (b := w.heap.size + 1) (n := 2) (f := fr ((m : Int) / (Nat.gcd m q : Nat)) ((q : Int) / (Nat.gcd m q : Nat))) Try.results25 rfl rfl Try.underlying36 (by kernel_rfl) (fin2' hR6 _ _) rfl ⟨rfl, ?_⟩
  exact (hB6.setCell (p := ⟨w.heap.size + 1, 0, none⟩) (Nat.le_succ _) _).setCell (p := ⟨w.heap.size + 1, 1, none⟩) (Nat.le_succ _) _

set_option maxRecDepth 100000 in
set_option maxHeartbeats 8000000 in
theorem value1_any (A : Option Addr) (n c N : Nat) (P : Nat → Nat → Int) (k b : Int) (w : World) (h : Row w A n P) (hok : okVal n P k b N 1 0 = true) :
    Calls Try.prog 25 #[.slice A n c, v2 k b, .int .i64 N, .int .i64 1] w fun e w' => e = .returned (.tuple #[valV n P k b 1 N, .bool true]) ∧ Below w.heap.size w w' := by
  obtain ⟨hg, hN0, hN⟩ := of_val hok
  obtain ⟨hm, hgo, _, _⟩ := of_game hg
  obtain ⟨h1, h3, hp⟩ := of_many hm
  have hk := goal_kinds hgo
  have hro := fun w h => implRoll_any A n c (N : Int) P w h (by unfold maxLen; omega)
  rw [okR_game hg, hok] at hro
  have Hro := Lib.hid hro; clear hro
  have hga := fun w h => isGame_any A n c P k b 1 0 w h (by unfold maxLen; omega)
  rw [hg] at hga
  have Hga := Lib.hid hga; clear hga
  have Hre := Lib.hid (fun w h => rest1_any A n c P k b w h h1 h3 hp hk)
  obtain ⟨m, hm1, hm2⟩ := vals_nat h3 hp k b (r := 1) (by omega) (show N < all6 n by omega)
  have hNl : N < all6 n := by omega
  obtain ⟨hq1, hq2⟩ := parts_le (r := 1) h3 (by omega)
  have Hou := Lib.hid (fun w => outcomes9 (n * 1) w (by omega))
  have Hfr := Lib.hid (fun w => fraction_any m (all6 (n * 1)) w (by omega) (by omega) hq1)
  have hvv : valV n P k b 1 N = cutV m (all6 (n * 1)) := by unfold valV; rw [hm1, Int.toNat_natCast]
  rw [hvv]
  unfold cutV
  have emul : (1 : Int) * (n : Int) = ((n * 1 : Nat) : Int) := by push_cast; omega
  clear hvv hok hgo hm hg hp hk hq1
  generalize n * 1 = nr at *
  generalize all6 nr = q at *
  have hR0 := At.new2 (w.alloc (.cells #[.int .i64 k, .int .i64 b] 25)) 36
  have hP0 := (At.newG k b w 25).past (.cells #[.int .i64 0, .int .i64 0] 36)
  have hB := na (na (n0 w) (.cells #[.int .i64 k, .int .i64 b] 25)) (.cells #[.int .i64 0, .int .i64 0] 36)
  have H := Lib.hid (h.up hB); clear h
  rw [size_alloc] at hR0
  have hmf : ∀ (fn : Fn) (first cap : Array Value) (w : World), (Instr.makeFunc fn first cap).run Try.prog w = .ok (.func fn first cap) w := fun _ _ _ _ => rfl
  go_enter Try.func25, Try.ntmps25
  go_wp2_with fail
  generalize (w.alloc (.cells #[.int .i64 k, .int .i64 b] 25)).alloc (.cells #[.int .i64 0, .int .i64 0] 36) = W at *
  refine (Hro.out _ H.out).mono ?_
  rintro e w1 ⟨A', c', rfl, _, hb1⟩
  have hB1 := hB.trans (hb1.mono hB.size)
  have hR1 := hR0.up hb1
  have hP1 := hP0.up hb1
  have hr1 := H.out.up hb1
  have q0 := hP1.cell 0 (by omega)
  have q1 := hP1.cell 1 (by omega)
  rw [show fr k b 0 = k from rfl] at q0
  rw [show fr k b 1 = b from rfl] at q1
  clear hR0 hP0 hB hb1 H
  go_wp2_with fail
  refine (Hga.out _ hr1).mono ?_
  rintro e w2 ⟨rfl, hb2⟩
  have hB2 := nx hB1 hb2
  have hR2 := hR1.up hb2
  have hP2 := hP1.up hb2
  have hr2 := hr1.up hb2
  clear q0 q1 hR1 hP1 hr1 hB1 hb2
  have q0 := hP2.cell 0 (by omega)
  have q1 := hP2.cell 1 (by omega)
  rw [show fr k b 0 = k from rfl] at q0
  rw [show fr k b 1 = b from rfl] at q1
  go_wp2_with fail
  refine (Hre.out _ hr2).mono ?_
  rintro e w3 ⟨bw, rfl, hb3, Hcall⟩
  have hB3 := nx hB2 hb3
  have hR3 := hR2.up hb3
  have Hc1 := Lib.hid (Hcall.out N w3 hNl (n0 w3))
  rw [hm1] at Hc1
  clear q0 q1 hR2 hP2 hr2 hB2 hb3 Hcall
  go_wp2_with fail
  refine Hc1.out.mono ?_
  rintro e w4 ⟨rfl, hb4⟩
  have hB4 := nx hB3 hb4
  have hR4 := hR3.up hb4
  clear hB3 hR3 hb4
  go_wp2_with fail
  refine (Hou.out _).mono ?_
  rintro e w5 ⟨rfl, hw5⟩
  have hw5 := hw5.symm
  subst hw5
  go_wp2_with fail
  refine (Hfr.out _).mono ?_
  rintro e w6 ⟨rfl, hb6⟩
  have hB6 := nx hB4 hb6
  have hR6 := hR4.up hb6
  have c0 := hR6.cell 0 (by omega)
  have c1 := hR6.cell 1 (by omega)
  have z0 := hR6.free 0
  have z1 := hR6.free 1
  clear hB4 hR4 hb6
  go_wp2_with fail
  refine ret_cell_tmp (b := w.heap.size + 1) (n := 2) (f := fr ((m : Int) / (Nat.gcd m q : Nat)) ((q : Int) / (Nat.gcd m q : Nat))) Try.results25 rfl rfl Try.underlying36 (by kernel_rfl) (fin2' hR6 _ _) rfl ⟨rfl, ?_⟩
  exact (hB6.setCell (p := ⟨w.heap.size + 1, 0, none⟩) (Nat.le_succ _) _).setCell (p := ⟨w.heap.size + 1, 1, none⟩) (Nat.le_succ _) _

set_option maxRecDepth 100000 in
set_option maxHeartbeats 8000000 in
theorem value2_any (A : Option Addr) (n c N : Nat) (P : Nat → Nat → Int) (k b : Int) (w : World) (h : Row w A n P) (hok : okVal n P k b N 2 0 = true) :
    Calls Try.prog 25 #[.slice A n c, v2 k b, .int .i64 N, .int .i64 2] w fun e w' => e = .returned (.tuple #[valV n P k b 2 N, .bool true]) ∧ Below w.heap.size w w' := by
  obtain ⟨hg, hN0, hN⟩ := of_val hok
  obtain ⟨hm, hgo, _, _⟩ := of_game hg
  obtain ⟨h1, h3, hp⟩ := of_many hm
  have hk := goal_kinds hgo
  have hro := fun w h => implRoll_any A n c (N : Int) P w h (by unfold maxLen; omega)
  rw [okR_game hg, hok] at hro
  have Hro := Lib.hid hro; clear hro
  have hga := fun w h => isGame_any A n c P k b 2 0 w h (by unfold maxLen; omega)
  rw [hg] at hga
  have Hga := Lib.hid hga; clear hga
  have Hre := Lib.hid (fun w h => rest2_any A n c P k b w h h1 h3 hp hk)
  obtain ⟨m, hm1, hm2⟩ := vals_nat h3 hp k b (r := 2) (by omega) (show N < all6 n by omega)
  have hNl : N < all6 n := by omega
  obtain ⟨hq1, hq2⟩ := parts_le (r := 2) h3 (by omega)
  have Hou := Lib.hid (fun w => outcomes9 (n * 2) w (by omega))
  have Hfr := Lib.hid (fun w => fraction_any m (all6 (n * 2)) w (by omega) (by omega) hq1)
  have hvv : valV n P k b 2 N = cutV m (all6 (n * 2)) := by unfold valV; rw [hm1, Int.toNat_natCast]
  rw [hvv]
  unfold cutV
  have emul : (2 : Int) * (n : Int) = ((n * 2 : Nat) : Int) := by push_cast; omega
  clear hvv hok hgo hm hg hp hk hq1
  generalize n * 2 = nr at *
  generalize all6 nr = q at *
  have hR0 := At.new2 (w.alloc (.cells #[.int .i64 k, .int .i64 b] 25)) 36
  have hP0 := (At.newG k b w 25).past (.cells #[.int .i64 0, .int .i64 0] 36)
  have hB := na (na (n0 w) (.cells #[.int .i64 k, .int .i64 b] 25)) (.cells #[.int .i64 0, .int .i64 0] 36)
  have H := Lib.hid (h.up hB); clear h
  rw [size_alloc] at hR0
  have hmf : ∀ (fn : Fn) (first cap : Array Value) (w : World), (Instr.makeFunc fn first cap).run Try.prog w = .ok (.func fn first cap) w := fun _ _ _ _ => rfl
  go_enter Try.func25, Try.ntmps25
  go_wp2_with fail
  generalize (w.alloc (.cells #[.int .i64 k, .int .i64 b] 25)).alloc (.cells #[.int .i64 0, .int .i64 0] 36) = W at *
  refine (Hro.out _ H.out).mono ?_
  rintro e w1 ⟨A', c', rfl, _, hb1⟩
  have hB1 := hB.trans (hb1.mono hB.size)
  have hR1 := hR0.up hb1
  have hP1 := hP0.up hb1
  have hr1 := H.out.up hb1
  have q0 := hP1.cell 0 (by omega)
  have q1 := hP1.cell 1 (by omega)
  rw [show fr k b 0 = k from rfl] at q0
  rw [show fr k b 1 = b from rfl] at q1
  clear hR0 hP0 hB hb1 H
  go_wp2_with fail
  refine (Hga.out _ hr1).mono ?_
  rintro e w2 ⟨rfl, hb2⟩
  have hB2 := nx hB1 hb2
  have hR2 := hR1.up hb2
  have hP2 := hP1.up hb2
  have hr2 := hr1.up hb2
  clear q0 q1 hR1 hP1 hr1 hB1 hb2
  have q0 := hP2.cell 0 (by omega)
  have q1 := hP2.cell 1 (by omega)
  rw [show fr k b 0 = k from rfl] at q0
  rw [show fr k b 1 = b from rfl] at q1
  go_wp2_with fail
  refine (Hre.out _ hr2).mono ?_
  rintro e w3 ⟨bw, rfl, hb3, Hcall⟩
  have hB3 := nx hB2 hb3
  have hR3 := hR2.up hb3
  have Hc1 := Lib.hid (Hcall.out N w3 hNl (n0 w3))
  rw [hm1] at Hc1
  clear q0 q1 hR2 hP2 hr2 hB2 hb3 Hcall
  go_wp2_with fail
  refine Hc1.out.mono ?_
  rintro e w4 ⟨rfl, hb4⟩
  have hB4 := nx hB3 hb4
  have hR4 := hR3.up hb4
  clear hB3 hR3 hb4
  go_wp2_with fail
  refine (Hou.out _).mono ?_
  rintro e w5 ⟨rfl, hw5⟩
  have hw5 := hw5.symm
  subst hw5
  go_wp2_with fail
  refine (Hfr.out _).mono ?_
  rintro e w6 ⟨rfl, hb6⟩
  have hB6 := nx hB4 hb6
  have hR6 := hR4.up hb6
  have c0 := hR6.cell 0 (by omega)
  have c1 := hR6.cell 1 (by omega)
  have z0 := hR6.free 0
  have z1 := hR6.free 1
  clear hB4 hR4 hb6
  go_wp2_with fail
  refine ret_cell_tmp (b := w.heap.size + 1) (n := 2) (f := fr ((m : Int) / (Nat.gcd m q : Nat)) ((q : Int) / (Nat.gcd m q : Nat))) Try.results25 rfl rfl Try.underlying36 (by kernel_rfl) (fin2' hR6 _ _) rfl ⟨rfl, ?_⟩
  exact (hB6.setCell (p := ⟨w.heap.size + 1, 0, none⟩) (Nat.le_succ _) _).setCell (p := ⟨w.heap.size + 1, 1, none⟩) (Nat.le_succ _) _


end ValueI
end Go.Proofs.Ytppaegibhikjnaa
