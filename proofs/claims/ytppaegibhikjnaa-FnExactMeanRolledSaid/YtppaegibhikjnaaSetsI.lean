/-
  What all sets are worth, by the program: setsOfAll, setsOfRoll.
-/
import Derived.Test.YtppaegibhikjnaaRows
import Derived.Test.YtppaegibhikjnaaVFacts
import Derived.Test.YtppaegibhikjnaaAgainM
import Derived.Test.YtppaegibhikjnaaPowW
import Derived.Test.YtppaegibhikjnaaOwnL
import Derived.Test.YtppaegibhikjnaaAll6
import Derived.Test.YtppaegibhikjnaaAll9
import Derived.Test.YtppaegibhikjnaaSumsS
import Derived.Test.YtppaegibhikjnaaRolledI
import Derived.Test.YtppaegibhikjnaaArr
import Derived.Test.YtppaegibhikjnaaDieW
import Derived.Test.YtppaegibhikjnaaFracW
import Derived.Test.YtppaegibhikjnaaSortW
import Derived.Test.YtppaegibhikjnaaDicesW
import Derived.Test.YtppaegibhikjnaaPoolW
import Derived.Test.YtppaegibhikjnaaGoalW
import Derived.Test.YtppaegibhikjnaaScoreM
import Derived.Test.YtppaegibhikjnaaScoreW
import Derived.Test.YtppaegibhikjnaaIntsW
import Derived.Test.YtppaegibhikjnaaRollN
import Derived.Test.YtppaegibhikjnaaPairA
import Derived.Test.YtppaegibhikjnaaGameW
import Derived.Test.YtppaegibhikjnaaScoreI
import Derived.Test.YtppaegibhikjnaaGridL
import Derived.Test.YtppaegibhikjnaaCutW
import Derived.Test.YtppaegibhikjnaaIntsW
import Derived.Test.YtppaegibhikjnaaRollN
import Derived.Test.YtppaegibhikjnaaValM
import Derived.Test.YtppaegibhikjnaaRest0
import Derived.Test.YtppaegibhikjnaaRest1
import Derived.Test.YtppaegibhikjnaaRest2
import Derived.Test.YtppaegibhikjnaaSets1
import Derived.Test.YtppaegibhikjnaaSets2
import Derived.Test.YtppaegibhikjnaaOpenD
import Derived.WalkKit
import Derived.Deep.WholeRow
import Derived.Deep.AppendLies
import Derived.FnLit
import Derived.WalkLawsBesides
import Derived.WalkSpells
import Derived.ProofKit
import Derived.OpenShut
import Derived.Deep.RegionWith
import Derived.Deep.QuietTactic
import Derived.BigQuiet
namespace Go.Proofs.Ytppaegibhikjnaa
open Go.ChangeShapes Go.WideShapes Go.ChangeAt Go.RowKit
open Go.ChangeMaps (open_string shut_string)

namespace SetsI
open Dice Arr AgainM PowW OwnL All6 All9 SumsS RolledI FracW OpenD DieW SortW PoolW DicesW GoalW ScoreM ScoreW IntsW RollW PairA GameW ScoreI VFacts GridL Rest0 CutW ValM Sets1 Sets2


set_option maxHeartbeats 8000000 in
theorem setsAll1_any (A : Option Addr) (n c : Nat) (P : Nat → Nat → Int) (k b : Int) (w : World) (h : Row w A n P) (hg : gameOk n P k b 1 1 = true) :
    Calls Try.prog 74 #[.slice A n c, v2 k b, .int .i64 1] w fun e w' => ∃ gw B v, e = .returned (.tuple #[.slice (some ⟨gw, 0, none⟩) (all6 n) (all6 n), .bool true]) ∧ w.heap.size ≤ gw ∧ w.heap.size < B ∧ Grid w' B gw (all6 n) (fun _ => 2 ^ n) (worth n (values n (sco n P k b) 0)) v ∧ Below w.heap.size w w' := by
  obtain ⟨hm, hgo, _, _⟩ := of_game hg
  obtain ⟨h1, h3, hp⟩ := of_many hm
  have hk := goal_kinds hgo
  have hga := fun w h => isGame_any A n c P k b 1 1 w h (by unfold maxLen; omega)
  rw [hg] at hga
  have Hga := Lib.hid hga; clear hga
  have Hse := Lib.hid (fun w h => sets1_any A n c P k b w h h1 h3 hp hk)
  have hP0 := At.newG k b w 25
  have hB := na (n0 w) (.cells #[.int .i64 k, .int .i64 b] 25)
  have H := Lib.hid (h.up hB); clear h
  clear hm hgo hp hk hg
  generalize worth n (values n (sco n P k b) 0) = F at *
  have hmf : ∀ (fn : Fn) (first cap : Array Value) (w : World), (Instr.makeFunc fn first cap).run Try.prog w = .ok (.func fn first cap) w := fun _ _ _ _ => rfl
  go_enter Try.func74, Try.ntmps74
  go_wp2_with fail
  generalize w.alloc (.cells #[.int .i64 k, .int .i64 b] 25) = W at *
  refine (Hga.out _ H.out).mono ?_
  rintro e w1 ⟨rfl, hb1⟩
  have hB1 := hB.trans (hb1.mono hB.size)
  have hP1 := hP0.up hb1
  have hr1 := H.out.up hb1
  have q0 := hP1.cell 0 (by omega)
  have q1 := hP1.cell 1 (by omega)
  rw [show fr k b 0 = k from rfl] at q0
  rw [show fr k b 1 = b from rfl] at q1
  clear hP0 hB hb1 H
  go_wp2_with fail
  refine (Hse.out _ hr1).mono ?_
  rintro e w2 ⟨gw, B, v, rfl, hgw, hBw, hG, hb2⟩
  go_wp2_with fail
  go_ret2
  have := hB1.size
  exact ⟨gw, B, v, rfl, by omega, by omega, hG, nx hB1 hb2⟩

set_option maxHeartbeats 8000000 in
theorem setsAll2_any (A : Option Addr) (n c : Nat) (P : Nat → Nat → Int) (k b : Int) (w : World) (h : Row w A n P) (hg : gameOk n P k b 2 1 = true) :
    Calls Try.prog 74 #[.slice A n c, v2 k b, .int .i64 2] w fun e w' => ∃ gw B v, e = .returned (.tuple #[.slice (some ⟨gw, 0, none⟩) (all6 n) (all6 n), .bool true]) ∧ w.heap.size ≤ gw ∧ w.heap.size < B ∧ Grid w' B gw (all6 n) (fun _ => 2 ^ n) (worth n (values n (sco n P k b) 1)) v ∧ Below w.heap.size w w' := by
  obtain ⟨hm, hgo, _, _⟩ := of_game hg
  obtain ⟨h1, h3, hp⟩ := of_many hm
  have hk := goal_kinds hgo
  have hga := fun w h => isGame_any A n c P k b 2 1 w h (by unfold maxLen; omega)
  rw [hg] at hga
  have Hga := Lib.hid hga; clear hga
  have Hse := Lib.hid (fun w h => sets2_any A n c P k b w h h1 h3 hp hk)
  have hP0 := At.newG k b w 25
  have hB := na (n0 w) (.cells #[.int .i64 k, .int .i64 b] 25)
  have H := Lib.hid (h.up hB); clear h
  clear hm hgo hp hk hg
  generalize worth n (values n (sco n P k b) 1) = F at *
  have hmf : ∀ (fn : Fn) (first cap : Array Value) (w : World), (Instr.makeFunc fn first cap).run Try.prog w = .ok (.func fn first cap) w := fun _ _ _ _ => rfl
  go_enter Try.func74, Try.ntmps74
  go_wp2_with fail
  generalize w.alloc (.cells #[.int .i64 k, .int .i64 b] 25) = W at *
  refine (Hga.out _ H.out).mono ?_
  rintro e w1 ⟨rfl, hb1⟩
  have hB1 := hB.trans (hb1.mono hB.size)
  have hP1 := hP0.up hb1
  have hr1 := H.out.up hb1
  have q0 := hP1.cell 0 (by omega)
  have q1 := hP1.cell 1 (by omega)
  rw [show fr k b 0 = k from rfl] at q0
  rw [show fr k b 1 = b from rfl] at q1
  clear hP0 hB hb1 H
  go_wp2_with fail
  refine (Hse.out _ hr1).mono ?_
  rintro e w2 ⟨gw, B, v, rfl, hgw, hBw, hG, hb2⟩
  go_wp2_with fail
  go_ret2
  have := hB1.size
  exact ⟨gw, B, v, rfl, by omega, by omega, hG, nx hB1 hb2⟩

theorem setsAll_any (A : Option Addr) (n c r : Nat) (P : Nat → Nat → Int) (k b : Int) (w : World) (h : Row w A n P) (hg : gameOk n P k b r 1 = true) :
    Calls Try.prog 74 #[.slice A n c, v2 k b, .int .i64 r] w fun e w' => ∃ gw B v, e = .returned (.tuple #[.slice (some ⟨gw, 0, none⟩) (all6 n) (all6 n), .bool true]) ∧ w.heap.size ≤ gw ∧ w.heap.size < B ∧ Grid w' B gw (all6 n) (fun _ => 2 ^ n) (worth n (values n (sco n P k b) (r - 1))) v ∧ Below w.heap.size w w' := by
  obtain ⟨_, _, h1, h2⟩ := of_game hg
  obtain rfl | rfl : r = 1 ∨ r = 2 := by omega
  · exact setsAll1_any A n c P k b w h hg
  · exact setsAll2_any A n c P k b w h hg
set_option maxHeartbeats 8000000 in
theorem setsAllNo_any (A : Option Addr) (n c : Nat) (P : Nat → Nat → Int) (k b r : Int) (w : World) (h : Row w A n P) (hn : n ≤ maxLen) (hg : gameOk n P k b r 1 = false) :
    Calls Try.prog 74 #[.slice A n c, v2 k b, .int .i64 r] w fun e w' => e = .returned (.tuple #[.slice none 0 0, .bool false]) ∧ Below w.heap.size w w' := by
  have hga := fun w h => isGame_any A n c P k b r 1 w h hn
  rw [hg] at hga
  have Hga := Lib.hid hga; clear hga
  have hB := na (n0 w) (.cells #[.int .i64 k, .int .i64 b] 25)
  have H := Lib.hid (h.up hB); clear h hg
  go_enter Try.func74, Try.ntmps74
  go_wp2_with fail
  refine (Hga.out _ H.out).mono ?_
  rintro e w1 ⟨rfl, hb1⟩
  go_wp2_with fail
  go_ret2
  exact ⟨rfl, hB.trans (hb1.mono hB.size)⟩
set_option maxHeartbeats 8000000 in
theorem setsRoll_any (A : Option Addr) (n c N r : Nat) (P : Nat → Nat → Int) (k b : Int) (w : World) (h : Row w A n P) (hok : okVal n P k b N r 1 = true) :
    Calls Try.prog 70 #[.slice A n c, v2 k b, .int .i64 N, .int .i64 r] w fun e w' => ∃ g c', e = .returned (.tuple #[.slice (some ⟨g, 0, none⟩) (2 ^ n) c', .bool true]) ∧ At w' g (2 ^ n) (worth n (values n (sco n P k b) (r - 1)) N) ∧ Below w.heap.size w w' := by
  obtain ⟨hg, hN0, hN⟩ := of_val hok
  have h3 := (of_many (of_game hg).1).2.1
  have hT : all6 n ≤ 216 := (pow_three h3).1
  have hM1 := (shl_two h3).2.2
  have Hal := Lib.hid (fun w h => setsAll_any A n c r P k b w h hg)
  have hP0 := At.newG k b w 25
  have hB := na (n0 w) (.cells #[.int .i64 k, .int .i64 b] 25)
  have H := Lib.hid (h.up hB); clear h
  have q0 := hP0.cell 0 (by omega)
  have q1 := hP0.cell 1 (by omega)
  rw [show fr k b 0 = k from rfl] at q0
  rw [show fr k b 1 = b from rfl] at q1
  clear hok hg
  generalize worth n (values n (sco n P k b) (r - 1)) = F at *
  generalize all6 n = T at *
  clear h3
  generalize 2 ^ n = M at *
  have hd1 : decide ((N : Int) < 0) = false := decide_eq_false (by omega)
  have hd2 : decide ((T : Int) ≤ (N : Int)) = false := decide_eq_false (by omega)
  go_enter Try.func70, Try.ntmps70
  go_wp2_with fail
  generalize w.alloc (.cells #[.int .i64 k, .int .i64 b] 25) = W at *
  refine (Hal.out _ H.out).mono ?_
  rintro e w1 ⟨gw, B, v, rfl, hgw, hBw, hG, hb1⟩
  have hB1 := hB.trans (hb1.mono hB.size)
  obtain ⟨g, c', e1, _, hA⟩ := hG.at_ (N := N) (by omega) hM1
  have c1 := hG.cell N (by omega)
  rw [e1] at c1
  clear hG e1 q0 q1
  go_wp2_with fail
  go_ret2
  exact ⟨g, c', rfl, hA, hB1⟩
set_option maxHeartbeats 8000000 in
theorem setsRollNo_any (A : Option Addr) (n c : Nat) (P : Nat → Nat → Int) (k b N r : Int) (w : World) (h : Row w A n P) (hn : n ≤ maxLen) (hok : okVal n P k b N r 1 = false) :
    Calls Try.prog 70 #[.slice A n c, v2 k b, .int .i64 N, .int .i64 r] w fun e w' => e = .returned (.tuple #[.slice none 0 0, .bool false]) ∧ Below w.heap.size w w' := by
  have hP0 := At.newG k b w 25
  have hB := na (n0 w) (.cells #[.int .i64 k, .int .i64 b] 25)
  have H := Lib.hid (h.up hB); clear h
  have q0 := hP0.cell 0 (by omega)
  have q1 := hP0.cell 1 (by omega)
  rw [show fr k b 0 = k from rfl] at q0
  rw [show fr k b 1 = b from rfl] at q1
  cases hg : gameOk n P k b r 1
  · have Hal := Lib.hid (fun w h => setsAllNo_any A n c P k b r w h hn hg)
    clear hok hg
    go_enter Try.func70, Try.ntmps70
    go_wp2_with fail
    refine (Hal.out _ H.out).mono ?_
    rintro e w1 ⟨rfl, hb1⟩
    go_wp2_with fail
    go_ret2
    exact ⟨rfl, hB.trans (hb1.mono hB.size)⟩
  · have h3 := (of_many (of_game hg).1).2.1
    have hT : all6 n ≤ 216 := (pow_three h3).1
    obtain ⟨_, _, hr1, hr2⟩ := of_game hg
    obtain ⟨r, rfl⟩ : ∃ m : Nat, r = m := ⟨r.toNat, by omega⟩
    have Hal := Lib.hid (fun w h => setsAll_any A n c r P k b w h hg)
    have hdec : ¬ (0 ≤ N ∧ N < (all6 n : Nat)) := by
      unfold okVal at hok
      rw [hg, Bool.true_and] at hok
      exact of_decide_eq_false hok
    clear hok hg
    generalize worth n (values n (sco n P k b) (r - 1)) = F at *
    generalize all6 n = T at *
    by_cases h0 : N < 0
    · have hd1 : decide (N < 0) = true := decide_eq_true h0
      go_enter Try.func70, Try.ntmps70
      go_wp2_with fail
      refine (Hal.out _ H.out).mono ?_
      rintro e w1 ⟨gw, B, v, rfl, hgw, hBw, hG, hb1⟩
      go_wp2_with fail
      go_ret2
      exact ⟨rfl, hB.trans (hb1.mono hB.size)⟩
    · have hd1 : decide (N < 0) = false := decide_eq_false h0
      have hd2 : decide ((T : Int) ≤ N) = true := decide_eq_true (by omega)
      go_enter Try.func70, Try.ntmps70
      go_wp2_with fail
      refine (Hal.out _ H.out).mono ?_
      rintro e w1 ⟨gw, B, v, rfl, hgw, hBw, hG, hb1⟩
      go_wp2_with fail
      go_ret2
      exact ⟨rfl, hB.trans (hb1.mono hB.size)⟩


end SetsI
end Go.Proofs.Ytppaegibhikjnaa
