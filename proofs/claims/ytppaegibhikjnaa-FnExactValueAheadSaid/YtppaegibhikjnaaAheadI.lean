/-
  ValueAhead, by the program.
-/
import Derived.Test.YtppaegibhikjnaaRows
import Derived.Test.YtppaegibhikjnaaVFacts
import Derived.Test.YtppaegibhikjnaaAgainM
import Derived.Test.YtppaegibhikjnaaPowW
import Derived.Test.YtppaegibhikjnaaOwnL
import Derived.Test.YtppaegibhikjnaaAll6
import Derived.Test.YtppaegibhikjnaaAll9
import Derived.Test.YtppaegibhikjnaaSumsS
import Derived.Test.YtppaegibhikjnaaRolledI
import Derived.Test.YtppaegibhikjnaaArr
import Derived.Test.YtppaegibhikjnaaDieW
import Derived.Test.YtppaegibhikjnaaFracW
import Derived.Test.YtppaegibhikjnaaSortW
import Derived.Test.YtppaegibhikjnaaDicesW
import Derived.Test.YtppaegibhikjnaaPoolW
import Derived.Test.YtppaegibhikjnaaGoalW
import Derived.Test.YtppaegibhikjnaaScoreM
import Derived.Test.YtppaegibhikjnaaScoreW
import Derived.Test.YtppaegibhikjnaaIntsW
import Derived.Test.YtppaegibhikjnaaRollN
import Derived.Test.YtppaegibhikjnaaPairA
import Derived.Test.YtppaegibhikjnaaGameW
import Derived.Test.YtppaegibhikjnaaScoreI
import Derived.Test.YtppaegibhikjnaaGridL
import Derived.Test.YtppaegibhikjnaaCutW
import Derived.Test.YtppaegibhikjnaaIntsW
import Derived.Test.YtppaegibhikjnaaRollN
import Derived.Test.YtppaegibhikjnaaValM
import Derived.Test.YtppaegibhikjnaaAheadM
import Derived.Test.YtppaegibhikjnaaRest0
import Derived.Test.YtppaegibhikjnaaRest1
import Derived.Test.YtppaegibhikjnaaRest2
import Derived.Test.YtppaegibhikjnaaOpenD
import Derived.WalkKit
import Derived.Deep.WholeRow
import Derived.Deep.AppendLies
import Derived.FnLit
import Derived.WalkLawsBesides
import Derived.WalkSpells
import Derived.ProofKit
import Derived.OpenShut
import Derived.Deep.RegionWith
import Derived.Deep.QuietTactic
import Derived.BigQuiet
namespace Go.Proofs.Ytppaegibhikjnaa
open Go.ChangeShapes Go.WideShapes Go.ChangeAt Go.RowKit
open Go.ChangeMaps (open_string shut_string)

namespace AheadI
open Dice Arr AgainM PowW OwnL All6 All9 SumsS RolledI FracW OpenD DieW SortW PoolW DicesW GoalW ScoreM ScoreW IntsW RollW PairA GameW ScoreI VFacts GridL Rest0 CutW ValM AheadM Rest1 Rest2


set_option maxRecDepth 100000 in
set_option maxHeartbeats 8000000 in
theorem ahead0_any (A : Option Addr) (n c : Nat) (P : Nat → Nat → Int) (k b : Int) (w : World) (h : Row w A n P) (hg : gameOk n P k b 0 0 = true) :
    Calls Try.prog 36 #[.slice A n c, v2 k b, .int .i64 0] w fun e w' => e = .returned (.tuple #[cutV (psum (values n (sco n P k b) 0) (all6 n)).toNat (all6 (n)), .bool true]) ∧ Below w.heap.size w w' := by
  obtain ⟨hm, hgo, _, _⟩ := of_game hg
  obtain ⟨h1, h3, hp⟩ := of_many hm
  have hk := goal_kinds hgo
  have hga := fun w h => isGame_any A n c P k b 0 0 w h (by unfold maxLen; omega)
  rw [hg] at hga
  have Hga := Lib.hid hga; clear hga
  have Hre := Lib.hid (fun w h => rest0_any A n c P k b w h h1 h3 hp hk)
  have Hvb := Lib.hid (fun N (hN : N < all6 n) => vals_bound h3 hp k b (r := 0) (by omega) hN)
  have Hvs := Lib.hid (fun N (hN : N ≤ all6 n) => vsum_bound h3 hp k b (r := 0) (by omega) N hN)
  have hT : all6 n ≤ 216 := (pow_three h3).1
  have hn9 : n ≤ 9 := by omega
  obtain ⟨hq1, hq2⟩ : 1 ≤ all6 n ∧ all6 n ≤ 10077696 := ⟨(pow_three h3).2.1, by omega⟩
  have Hou := Lib.hid (fun w => outcomes9 (n) w hn9)
  have Hon := Lib.hid (fun w => outcomes9 n w (by omega))
  have hvs := Hvs.out (all6 n) (Nat.le_refl _)
  obtain ⟨m, hm1⟩ : ∃ m : Nat, psum (values n (sco n P k b) 0) (all6 n) = m := ⟨(psum (values n (sco n P k b) 0) (all6 n)).toNat, by omega⟩
  rw [hm1] at hvs
  have Hfr := Lib.hid (fun w => fraction_any m (all6 (n)) w (by omega) (by omega) hq1)
  rw [hm1, Int.toNat_natCast]
  unfold cutV
  have Hm1 := Lib.hid hm1; clear hm1
  clear hm hg hp hk hq1 hgo
  generalize values n (sco n P k b) 0 = V at *
  generalize all6 n = T at *
  have hR0 := At.new2 (w.alloc (.cells #[.int .i64 k, .int .i64 b] 25)) 36
  have hP0 := (At.newG k b w 25).past (.cells #[.int .i64 0, .int .i64 0] 36)
  have hB := na (na (n0 w) (.cells #[.int .i64 k, .int .i64 b] 25)) (.cells #[.int .i64 0, .int .i64 0] 36)
  have H := Lib.hid (h.up hB); clear h
  rw [size_alloc] at hR0
  have q0 := hP0.cell 0 (by omega)
  have q1 := hP0.cell 1 (by omega)
  rw [show fr k b 0 = k from rfl] at q0
  rw [show fr k b 1 = b from rfl] at q1
  have hmf : ∀ (fn : Fn) (first cap : Array Value) (w : World), (Instr.makeFunc fn first cap).run Try.prog w = .ok (.func fn first cap) w := fun _ _ _ _ => rfl
  go_enter Try.func36, Try.ntmps36
  go_wp2_with fail
  generalize (w.alloc (.cells #[.int .i64 k, .int .i64 b] 25)).alloc (.cells #[.int .i64 0, .int .i64 0] 36) = W at *
  refine (Hga.out _ H.out).mono ?_
  rintro e w2 ⟨rfl, hb2⟩
  have hB2 := hB.trans (hb2.mono hB.size)
  have hR2 := hR0.up hb2
  have hP2 := hP0.up hb2
  have hr2 := H.out.up hb2
  clear q0 q1
  have q0 := hP2.cell 0 (by omega)
  have q1 := hP2.cell 1 (by omega)
  rw [show fr k b 0 = k from rfl] at q0
  rw [show fr k b 1 = b from rfl] at q1
  go_wp2_with fail
  refine (Hre.out _ hr2).mono ?_
  rintro e w3 ⟨bp, bs, rfl, hb3, Hcall⟩
  have hB3 := nx hB2 hb3
  have hR3 := hR2.up hb3
  clear q0 q1 hR2 hP2 hr2 hB2 hb3 hb2 hR0 hP0 hB H
  go_wp2_with fail
  refine (Hon.out _).mono ?_
  rintro e w5 ⟨rfl, hw5⟩
  have hw5 := hw5.symm
  subst hw5
  go_wp2_with fail
  have hB0 : Below w3.heap.size w3 w3 := n0 w3
  go_loopw [9, 25] (fun sv iv wr => ∃ N : Nat, N ≤ T ∧ iv = .int .i64 N ∧ sv = .int .i64 (psum V N) ∧ Below w3.heap.size w3 wr) (fun _ iv _ => T - (intOf iv).toNat)
  case atStart => exact ⟨0, by omega, rfl, rfl, hB0⟩
  case round =>
    obtain ⟨N, hN, rfl, rfl, hBr⟩ := hrel
    by_cases hlt : N < T
    · have hit : decide ((N : Int) < (T : Int)) = true := decide_eq_true (by omega)
      have Hcn := Lib.hid (Hcall.out N wr hlt hBr)
      have v1 := Hvb.out N hlt
      have v2' := Hvs.out N (by omega)
      have hs : Hid (psum V (N + 1) = psum V N + V N) := rfl
      generalize V N = x at *
      generalize psum V N = y at *
      go_wp2_with fail
      refine Hcn.out.mono ?_
      rintro e w6 ⟨rfl, hb6⟩
      go_wp2_with fail
      go_roundw
      case rel => exact ⟨N + 1, by omega, by go_num, by rw [hs.out], nx hBr hb6⟩
      case measure => simp [intOf]; omega
    · obtain rfl : N = T := by omega
      have hit : decide ((N : Int) < (N : Int)) = false := decide_eq_false (by omega)
      have hB4 := nx hB3 hBr
      have hR4 := hR3.up hBr
      rw [Hm1.out]
      go_wp2_with fail
      refine (Hou.out _).mono ?_
      rintro e w5 ⟨rfl, hw5⟩
      have hw5 := hw5.symm
      subst hw5
      skip
      go_wp2_with fail
      refine (Hfr.out _).mono ?_
      rintro e w7 ⟨rfl, hb7⟩
      have hB7 := nx hB4 hb7
      have hR7 := hR4.up hb7
      have c0 := hR7.cell 0 (by omega)
      have c1 := hR7.cell 1 (by omega)
      have z0 := hR7.free 0
      have z1 := hR7.free 1
      go_wp2_with fail
      refine ret_cell_tmp (b := w.heap.size + 1) (n := 2) (f := fr ((m : Int) / (Nat.gcd m N : Nat)) ((N : Int) / (Nat.gcd m N : Nat))) Try.results36 rfl rfl Try.underlying36 (by kernel_rfl) (fin2' hR7 _ _) rfl ⟨rfl, ?_⟩
      exact (hB7.setCell (p := ⟨w.heap.size + 1, 0, none⟩) (Nat.le_succ _) _).setCell (p := ⟨w.heap.size + 1, 1, none⟩) (Nat.le_succ _) _

set_option maxRecDepth 100000 in
set_option maxHeartbeats 8000000 in
theorem ahead1_any (A : Option Addr) (n c : Nat) (P : Nat → Nat → Int) (k b : Int) (w : World) (h : Row w A n P) (hg : gameOk n P k b 1 0 = true) :
    Calls Try.prog 36 #[.slice A n c, v2 k b, .int .i64 1] w fun e w' => e = .returned (.tuple #[cutV (psum (values n (sco n P k b) 1) (all6 n)).toNat (all6 (n * 2)), .bool true]) ∧ Below w.heap.size w w' := by
  obtain ⟨hm, hgo, _, _⟩ := of_game hg
  obtain ⟨h1, h3, hp⟩ := of_many hm
  have hk := goal_kinds hgo
  have hga := fun w h => isGame_any A n c P k b 1 0 w h (by unfold maxLen; omega)
  rw [hg] at hga
  have Hga := Lib.hid hga; clear hga
  have Hre := Lib.hid (fun w h => rest1_any A n c P k b w h h1 h3 hp hk)
  have Hvb := Lib.hid (fun N (hN : N < all6 n) => vals_bound h3 hp k b (r := 1) (by omega) hN)
  have Hvs := Lib.hid (fun N (hN : N ≤ all6 n) => vsum_bound h3 hp k b (r := 1) (by omega) N hN)
  have hT : all6 n ≤ 216 := (pow_three h3).1
  have hn9 : n * 2 ≤ 9 := by omega
  obtain ⟨hq1, hq2⟩ := parts_le (r := 2) h3 (by omega)
  have Hou := Lib.hid (fun w => outcomes9 (n * 2) w hn9)
  have Hon := Lib.hid (fun w => outcomes9 n w (by omega))
  have hvs := Hvs.out (all6 n) (Nat.le_refl _)
  obtain ⟨m, hm1⟩ : ∃ m : Nat, psum (values n (sco n P k b) 1) (all6 n) = m := ⟨(psum (values n (sco n P k b) 1) (all6 n)).toNat, by omega⟩
  rw [hm1] at hvs
  have Hfr := Lib.hid (fun w => fraction_any m (all6 (n * 2)) w (by omega) (by omega) hq1)
  rw [hm1, Int.toNat_natCast]
  unfold cutV
  have Hm1 := Lib.hid hm1; clear hm1
  clear hm hg hp hk hq1 hgo
  have emul : (2 : Int) * (n : Int) = ((n * 2 : Nat) : Int) := by push_cast; omega
  generalize n * 2 = nr at *
  generalize values n (sco n P k b) 1 = V at *
  generalize hq : all6 nr = q at *
  have Hq := Lib.hid hq; clear hq
  generalize all6 n = T at *
  have hR0 := At.new2 (w.alloc (.cells #[.int .i64 k, .int .i64 b] 25)) 36
  have hP0 := (At.newG k b w 25).past (.cells #[.int .i64 0, .int .i64 0] 36)
  have hB := na (na (n0 w) (.cells #[.int .i64 k, .int .i64 b] 25)) (.cells #[.int .i64 0, .int .i64 0] 36)
  have H := Lib.hid (h.up hB); clear h
  rw [size_alloc] at hR0
  have q0 := hP0.cell 0 (by omega)
  have q1 := hP0.cell 1 (by omega)
  rw [show fr k b 0 = k from rfl] at q0
  rw [show fr k b 1 = b from rfl] at q1
  have hmf : ∀ (fn : Fn) (first cap : Array Value) (w : World), (Instr.makeFunc fn first cap).run Try.prog w = .ok (.func fn first cap) w := fun _ _ _ _ => rfl
  go_enter Try.func36, Try.ntmps36
  go_wp2_with fail
  generalize (w.alloc (.cells #[.int .i64 k, .int .i64 b] 25)).alloc (.cells #[.int .i64 0, .int .i64 0] 36) = W at *
  refine (Hga.out _ H.out).mono ?_
  rintro e w2 ⟨rfl, hb2⟩
  have hB2 := hB.trans (hb2.mono hB.size)
  have hR2 := hR0.up hb2
  have hP2 := hP0.up hb2
  have hr2 := H.out.up hb2
  clear q0 q1
  have q0 := hP2.cell 0 (by omega)
  have q1 := hP2.cell 1 (by omega)
  rw [show fr k b 0 = k from rfl] at q0
  rw [show fr k b 1 = b from rfl] at q1
  go_wp2_with fail
  refine (Hre.out _ hr2).mono ?_
  rintro e w3 ⟨bw, rfl, hb3, Hcall⟩
  have hB3 := nx hB2 hb3
  have hR3 := hR2.up hb3
  clear q0 q1 hR2 hP2 hr2 hB2 hb3 hb2 hR0 hP0 hB H
  go_wp2_with fail
  refine (Hon.out _).mono ?_
  rintro e w5 ⟨rfl, hw5⟩
  have hw5 := hw5.symm
  subst hw5
  go_wp2_with fail
  have hB0 : Below w3.heap.size w3 w3 := n0 w3
  go_loopw [9, 25] (fun sv iv wr => ∃ N : Nat, N ≤ T ∧ iv = .int .i64 N ∧ sv = .int .i64 (psum V N) ∧ Below w3.heap.size w3 wr) (fun _ iv _ => T - (intOf iv).toNat)
  case atStart => exact ⟨0, by omega, rfl, rfl, hB0⟩
  case round =>
    obtain ⟨N, hN, rfl, rfl, hBr⟩ := hrel
    by_cases hlt : N < T
    · have hit : decide ((N : Int) < (T : Int)) = true := decide_eq_true (by omega)
      have Hcn := Lib.hid (Hcall.out N wr hlt hBr)
      have v1 := Hvb.out N hlt
      have v2' := Hvs.out N (by omega)
      have hs : Hid (psum V (N + 1) = psum V N + V N) := rfl
      generalize V N = x at *
      generalize psum V N = y at *
      go_wp2_with fail
      refine Hcn.out.mono ?_
      rintro e w6 ⟨rfl, hb6⟩
      go_wp2_with fail
      go_roundw
      case rel => exact ⟨N + 1, by omega, by go_num, by rw [hs.out], nx hBr hb6⟩
      case measure => simp [intOf]; omega
    · obtain rfl : N = T := by omega
      have hit : decide ((N : Int) < (N : Int)) = false := decide_eq_false (by omega)
      have hB4 := nx hB3 hBr
      have hR4 := hR3.up hBr
      rw [Hm1.out]
      go_wp2_with fail
      refine (Hou.out _).mono ?_
      rintro e w5 ⟨rfl, hw5⟩
      have hw5 := hw5.symm
      subst hw5
      skip
      go_wp2_with fail
      refine (Hfr.out _).mono ?_
      rintro e w7 ⟨rfl, hb7⟩
      have hB7 := nx hB4 hb7
      have hR7 := hR4.up hb7
      have c0 := hR7.cell 0 (by omega)
      have c1 := hR7.cell 1 (by omega)
      have z0 := hR7.free 0
      have z1 := hR7.free 1
      go_wp2_with fail
      refine ret_cell_tmp (b := w.heap.size + 1) (n := 2) (f := fr ((m : Int) / (Nat.gcd m q : Nat)) ((q : Int) / (Nat.gcd m q : Nat))) Try.results36 rfl rfl Try.underlying36 (by kernel_rfl) (fin2' hR7 _ _) rfl ⟨rfl, ?_⟩
      exact (hB7.setCell (p := ⟨w.heap.size + 1, 0, none⟩) (Nat.le_succ _) _).setCell (p := ⟨w.heap.size + 1, 1, none⟩) (Nat.le_succ _) _

set_option maxRecDepth 100000 in
set_option maxHeartbeats 8000000 in
theorem ahead2_any (A : Option Addr) (n c : Nat) (P : Nat → Nat → Int) (k b : Int) (w : World) (h : Row w A n P) (hg : gameOk n P k b 2 0 = true) :
    Calls Try.prog 36 #[.slice A n c, v2 k b, .int .i64 2] w fun e w' => e = .returned (.tuple #[cutV (psum (values n (sco n P k b) 2) (all6 n)).toNat (all6 (n * 3)), .bool true]) ∧ Below w.heap.size w w' := by
  obtain ⟨hm, hgo, _, _⟩ := of_game hg
  obtain ⟨h1, h3, hp⟩ := of_many hm
  have hk := goal_kinds hgo
  have hga := fun w h => isGame_any A n c P k b 2 0 w h (by unfold maxLen; omega)
  rw [hg] at hga
  have Hga := Lib.hid hga; clear hga
  have Hre := Lib.hid (fun w h => rest2_any A n c P k b w h h1 h3 hp hk)
  have Hvb := Lib.hid (fun N (hN : N < all6 n) => vals_bound h3 hp k b (r := 2) (by omega) hN)
  have Hvs := Lib.hid (fun N (hN : N ≤ all6 n) => vsum_bound h3 hp k b (r := 2) (by omega) N hN)
  have hT : all6 n ≤ 216 := (pow_three h3).1
  have hn9 : n * 3 ≤ 9 := by omega
  obtain ⟨hq1, hq2⟩ := parts_le (r := 3) h3 (by omega)
  have Hou := Lib.hid (fun w => outcomes9 (n * 3) w hn9)
  have Hon := Lib.hid (fun w => outcomes9 n w (by omega))
  have hvs := Hvs.out (all6 n) (Nat.le_refl _)
  obtain ⟨m, hm1⟩ : ∃ m : Nat, psum (values n (sco n P k b) 2) (all6 n) = m := ⟨(psum (values n (sco n P k b) 2) (all6 n)).toNat, by omega⟩
  rw [hm1] at hvs
  have Hfr := Lib.hid (fun w => fraction_any m (all6 (n * 3)) w (by omega) (by omega) hq1)
  rw [hm1, Int.toNat_natCast]
  unfold cutV
  have Hm1 := Lib.hid hm1; clear hm1
  clear hm hg hp hk hq1 hgo
  have emul : (3 : Int) * (n : Int) = ((n * 3 : Nat) : Int) := by push_cast; omega
  generalize n * 3 = nr at *
  generalize values n (sco n P k b) 2 = V at *
  generalize hq : all6 nr = q at *
  have Hq := Lib.hid hq; clear hq
  generalize all6 n = T at *
  have hR0 := At.new2 (w.alloc (.cells #[.int .i64 k, .int .i64 b] 25)) 36
  have hP0 := (At.newG k b w 25).past (.cells #[.int .i64 0, .int .i64 0] 36)
  have hB := na (na (n0 w) (.cells #[.int .i64 k, .int .i64 b] 25)) (.cells #[.int .i64 0, .int .i64 0] 36)
  have H := Lib.hid (h.up hB); clear h
  rw [size_alloc] at hR0
  have q0 := hP0.cell 0 (by omega)
  have q1 := hP0.cell 1 (by omega)
  rw [show fr k b 0 = k from rfl] at q0
  rw [show fr k b 1 = b from rfl] at q1
  have hmf : ∀ (fn : Fn) (first cap : Array Value) (w : World), (Instr.makeFunc fn first cap).run Try.prog w = .ok (.func fn first cap) w := fun _ _ _ _ => rfl
  go_enter Try.func36, Try.ntmps36
  go_wp2_with fail
  generalize (w.alloc (.cells #[.int .i64 k, .int .i64 b] 25)).alloc (.cells #[.int .i64 0, .int .i64 0] 36) = W at *
  refine (Hga.out _ H.out).mono ?_
  rintro e w2 ⟨rfl, hb2⟩
  have hB2 := hB.trans (hb2.mono hB.size)
  have hR2 := hR0.up hb2
  have hP2 := hP0.up hb2
  have hr2 := H.out.up hb2
  clear q0 q1
  have q0 := hP2.cell 0 (by omega)
  have q1 := hP2.cell 1 (by omega)
  rw [show fr k b 0 = k from rfl] at q0
  rw [show fr k b 1 = b from rfl] at q1
  go_wp2_with fail
  refine (Hre.out _ hr2).mono ?_
  rintro e w3 ⟨bw, rfl, hb3, Hcall⟩
  have hB3 := nx hB2 hb3
  have hR3 := hR2.up hb3
  clear q0 q1 hR2 hP2 hr2 hB2 hb3 hb2 hR0 hP0 hB H
  go_wp2_with fail
  refine (Hon.out _).mono ?_
  rintro e w5 ⟨rfl, hw5⟩
  have hw5 := hw5.symm
  subst hw5
  go_wp2_with fail
  have hB0 : Below w3.heap.size w3 w3 := n0 w3
  go_loopw [9, 25] (fun sv iv wr => ∃ N : Nat, N ≤ T ∧ iv = .int .i64 N ∧ sv = .int .i64 (psum V N) ∧ Below w3.heap.size w3 wr) (fun _ iv _ => T - (intOf iv).toNat)
  case atStart => exact ⟨0, by omega, rfl, rfl, hB0⟩
  case round =>
    obtain ⟨N, hN, rfl, rfl, hBr⟩ := hrel
    by_cases hlt : N < T
    · have hit : decide ((N : Int) < (T : Int)) = true := decide_eq_true (by omega)
      have Hcn := Lib.hid (Hcall.out N wr hlt hBr)
      have v1 := Hvb.out N hlt
      have v2' := Hvs.out N (by omega)
      have hs : Hid (psum V (N + 1) = psum V N + V N) := rfl
      generalize V N = x at *
      generalize psum V N = y at *
      go_wp2_with fail
      refine Hcn.out.mono ?_
      rintro e w6 ⟨rfl, hb6⟩
      go_wp2_with fail
      go_roundw
      case rel => exact ⟨N + 1, by omega, by go_num, by rw [hs.out], nx hBr hb6⟩
      case measure => simp [intOf]; omega
    · obtain rfl : N = T := by omega
      have hit : decide ((N : Int) < (N : Int)) = false := decide_eq_false (by omega)
      have hB4 := nx hB3 hBr
      have hR4 := hR3.up hBr
      rw [Hm1.out]
      go_wp2_with fail
      refine (Hou.out _).mono ?_
      rintro e w5 ⟨rfl, hw5⟩
      have hw5 := hw5.symm
      subst hw5
      skip
      go_wp2_with fail
      refine (Hfr.out _).mono ?_
      rintro e w7 ⟨rfl, hb7⟩
      have hB7 := nx hB4 hb7
      have hR7 := hR4.up hb7
      have c0 := hR7.cell 0 (by omega)
      have c1 := hR7.cell 1 (by omega)
      have z0 := hR7.free 0
      have z1 := hR7.free 1
      go_wp2_with fail
      refine ret_cell_tmp (b := w.heap.size + 1) (n := 2) (f := fr ((m : Int) / (Nat.gcd m q : Nat)) ((q : Int) / (Nat.gcd m q : Nat))) Try.results36 rfl rfl Try.underlying36 (by kernel_rfl) (fin2' hR7 _ _) rfl ⟨rfl, ?_⟩
      exact (hB7.setCell (p := ⟨w.heap.size + 1, 0, none⟩) (Nat.le_succ _) _).setCell (p := ⟨w.heap.size + 1, 1, none⟩) (Nat.le_succ _) _

set_option maxRecDepth 100000 in
set_option maxHeartbeats 8000000 in
theorem aheadNo_any (A : Option Addr) (n c : Nat) (P : Nat → Nat → Int) (k b r : Int) (w : World) (h : Row w A n P) (hn : n ≤ maxLen) (hg : gameOk n P k b r 0 = false) :
    Calls Try.prog 36 #[.slice A n c, v2 k b, .int .i64 r] w fun e w' => e = .returned (.tuple #[v2 0 0, .bool false]) ∧ Below w.heap.size w w' := by
  have hga := fun w h => isGame_any A n c P k b r 0 w h hn
  rw [hg] at hga
  have Hga := Lib.hid hga; clear hga
  clear hg
  have hR0 := At.new2 (w.alloc (.cells #[.int .i64 k, .int .i64 b] 25)) 36
  have hP0 := (At.newG k b w 25).past (.cells #[.int .i64 0, .int .i64 0] 36)
  have hB := na (na (n0 w) (.cells #[.int .i64 k, .int .i64 b] 25)) (.cells #[.int .i64 0, .int .i64 0] 36)
  have H := Lib.hid (h.up hB); clear h
  rw [size_alloc] at hR0
  have q0 := hP0.cell 0 (by omega)
  have q1 := hP0.cell 1 (by omega)
  rw [show fr k b 0 = k from rfl] at q0
  rw [show fr k b 1 = b from rfl] at q1
  go_enter Try.func36, Try.ntmps36
  go_wp2_with fail
  generalize (w.alloc (.cells #[.int .i64 k, .int .i64 b] 25)).alloc (.cells #[.int .i64 0, .int .i64 0] 36) = W at *
  refine (Hga.out _ H.out).mono ?_
  rintro e w1 ⟨rfl, hb1⟩
  have hB1 := hB.trans (hb1.mono hB.size)
  have hR1 := hR0.up hb1
  clear q0 q1
  have c0 := hR1.cell 0 (by omega)
  have c1 := hR1.cell 1 (by omega)
  have z0 := hR1.free 0
  have z1 := hR1.free 1
  go_wp2_with fail
  refine ret_cell_tmp (b := w.heap.size + 1) (n := 2) (f := fr 0 0) Try.results36 rfl rfl Try.underlying36 (by kernel_rfl) (fin2' hR1 0 0) rfl ⟨rfl, ?_⟩
  exact (hB1.setCell (p := ⟨w.heap.size + 1, 0, none⟩) (Nat.le_succ _) _).setCell (p := ⟨w.heap.size + 1, 1, none⟩) (Nat.le_succ _) _

theorem implAhead_any (A : Option Addr) (n c : Nat) (P : Nat → Nat → Int) (k b r : Int) (w : World) (h : Row w A n P) (hn : n ≤ maxLen) :
    Calls Try.prog 36 #[.slice A n c, v2 k b, .int .i64 r] w fun e w' => e = .returned (.tuple #[outA n P k b r, .bool (gameOk n P k b r 0)]) ∧ Below w.heap.size w w' := by
  cases hg : gameOk n P k b r 0
  · rw [outA_no hg]
    exact aheadNo_any A n c P k b r w h hn hg
  · obtain ⟨_, _, hr0, hr2⟩ := of_game hg
    obtain ⟨r, rfl⟩ : ∃ m : Nat, r = m := ⟨r.toNat, by omega⟩
    rw [outA_yes hg]
    obtain rfl | rfl | rfl : r = 0 ∨ r = 1 ∨ r = 2 := by omega
    · have := ahead0_any A n c P k b w h hg
      rw [show n * (0 + 1) = n by omega]
      exact this
    · exact ahead1_any A n c P k b w h hg
    · exact ahead2_any A n c P k b w h hg


end AheadI
end Go.Proofs.Ytppaegibhikjnaa
