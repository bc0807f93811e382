/-
  BestSets and BestSet, by the specification.
-/
import Derived.Test.YtppaegibhikjnaaRows
import Derived.Test.YtppaegibhikjnaaVFacts
import Derived.Test.YtppaegibhikjnaaAgainM
import Derived.Test.YtppaegibhikjnaaPowW
import Derived.Test.YtppaegibhikjnaaOwnL
import Derived.Test.YtppaegibhikjnaaAll6
import Derived.Test.YtppaegibhikjnaaAll9
import Derived.Test.YtppaegibhikjnaaSumsS
import Derived.Test.YtppaegibhikjnaaRolledI
import Derived.Test.YtppaegibhikjnaaArr
import Derived.Test.YtppaegibhikjnaaDieW
import Derived.Test.YtppaegibhikjnaaFracW
import Derived.Test.YtppaegibhikjnaaSortW
import Derived.Test.YtppaegibhikjnaaDicesW
import Derived.Test.YtppaegibhikjnaaPoolW
import Derived.Test.YtppaegibhikjnaaGoalW
import Derived.Test.YtppaegibhikjnaaScoreM
import Derived.Test.YtppaegibhikjnaaScoreW
import Derived.Test.YtppaegibhikjnaaIntsW
import Derived.Test.YtppaegibhikjnaaRollN
import Derived.Test.YtppaegibhikjnaaPairA
import Derived.Test.YtppaegibhikjnaaGameW
import Derived.Test.YtppaegibhikjnaaScoreI
import Derived.Test.YtppaegibhikjnaaGridL
import Derived.Test.YtppaegibhikjnaaCutW
import Derived.Test.YtppaegibhikjnaaIntsW
import Derived.Test.YtppaegibhikjnaaRollN
import Derived.Test.YtppaegibhikjnaaValM
import Derived.Test.YtppaegibhikjnaaBestM
import Derived.Test.YtppaegibhikjnaaValsS
import Derived.Test.YtppaegibhikjnaaBestS
import Derived.Test.YtppaegibhikjnaaOpenD
import Derived.WalkKit
import Derived.Deep.WholeRow
import Derived.Deep.AppendLies
import Derived.FnLit
import Derived.WalkLawsBesides
import Derived.WalkSpells
import Derived.ProofKit
import Derived.OpenShut
import Derived.Deep.RegionWith
import Derived.Deep.QuietTactic
import Derived.BigQuiet
namespace Go.Proofs.Ytppaegibhikjnaa
open Go.ChangeShapes Go.WideShapes Go.ChangeAt Go.RowKit
open Go.ChangeMaps (open_string shut_string)

namespace BestT
open Dice Arr AgainM PowW OwnL All6 All9 SumsS RolledI FracW OpenD DieW SortW PoolW DicesW GoalW ScoreM ScoreW IntsW RollW PairA GameW ScoreI VFacts GridL CutW ValM BestM ValsS BestS


/-- All best sets, or none where nothing is valid. -/
def bl (n : Nat) (P : Nat → Nat → Int) (k b N r : Int) : List Nat := if okVal n P k b N r 1 then slist (worth n (values n (sco n P k b) (r.toNat - 1)) N.toNat) (2 ^ n) else []
theorem bl_no {n : Nat} {P : Nat → Nat → Int} {k b N r : Int} (h : okVal n P k b N r 1 = false) : bl n P k b N r = [] := by unfold bl; rw [h]; rfl
theorem bl_yes {n : Nat} {P : Nat → Nat → Int} {k b : Int} {N r : Nat} (h : okVal n P k b N r 1 = true) : bl n P k b N r = slist (worth n (values n (sco n P k b) (r - 1)) N) (2 ^ n) := by unfold bl; rw [h]; rfl
theorem bl_small (n : Nat) (P : Nat → Nat → Int) (k b N r : Int) : (bl n P k b N r).length ≤ 8 := by
  cases h : okVal n P k b N r 1
  · rw [bl_no h]
    exact Nat.zero_le _
  · have h3 := (of_many (of_game (of_val h).1).1).2.1
    unfold bl
    rw [h]
    exact Nat.le_trans (slist_len _ _) (shl_two h3).2.1
theorem worth_all {n : Nat} {P : Nat → Nat → Int} {k b : Int} {N r : Nat} (h : okVal n P k b N r 1 = true) : ∀ s, 0 ≤ worth n (values n (sco n P k b) (r - 1)) N s := fun s => by
  obtain ⟨hg, hN0, hN⟩ := of_val h
  obtain ⟨hm, _, hr1, hr2⟩ := of_game hg
  obtain ⟨_, h3, hp⟩ := of_many hm
  exact nonneg_vals n P k b h3 hp (r - 1) (by omega) N (by omega) s
theorem bl_head {n : Nat} {P : Nat → Nat → Int} {k b : Int} {N r : Nat} (h : okVal n P k b N r 1 = true) : 1 ≤ (bl n P k b N r).length ∧ (bl n P k b N r).getD 0 0 = (AgainM.top (worth n (values n (sco n P k b) (r - 1)) N) (2 ^ n)).1 := by
  have h3 := (of_many (of_game (of_val h).1).1).2.1
  rw [bl_yes h]
  obtain ⟨m, hm⟩ : ∃ m, 2 ^ n = m + 1 := ⟨2 ^ n - 1, by have := (shl_two h3).2.2; omega⟩
  rw [hm]
  exact slist_head (worth_all h) m

set_option maxRecDepth 100000 in
set_option maxHeartbeats 8000000 in
theorem specBestSets_any (A : Option Addr) (n c : Nat) (P : Nat → Nat → Int) (k b N r : Int) (w : World) (h : Row w A n P) (hn : n ≤ maxLen) :
    Calls Try.prog 30 #[.slice A n c, v2 k b, .int .i64 N, .int .i64 r] w fun e w' => ∃ A' c', e = .returned (.tuple #[.slice A' (bl n P k b N r).length c', .bool (okVal n P k b N r 1)]) ∧ Ints w.heap.size w' A' (bl n P k b N r).length (nf (bl n P k b N r)) ∧ Below w.heap.size w w' := by
  have hga := fun w h => l6Good_any A n c P k b r w h hn
  have hP0 := At.newG k b w 25
  have hB := na (n0 w) (.cells #[.int .i64 k, .int .i64 b] 25)
  have H := Lib.hid (h.up hB); clear h
  have q0 := hP0.cell 0 (by omega)
  have q1 := hP0.cell 1 (by omega)
  rw [show fr k b 0 = k from rfl] at q0
  rw [show fr k b 1 = b from rfl] at q1
  cases hg : gameOk n P k b r 0
  · have hok : okVal n P k b N r 1 = false := val_no_game N (by rw [game_one, hg]; rfl)
    rw [bl_no hok, hok]
    rw [hg] at hga
    have Hga := Lib.hid hga; clear hga
    clear hok hg
    go_enter Try.func30, Try.ntmps30
    go_wp2_with fail
    refine (Hga.out _ H.out).mono ?_
    rintro e w1 ⟨rfl, hb1⟩
    go_wp2_with fail
    go_ret2
    exact ⟨_, _, rfl, .inl rfl, na (hB.trans (hb1.mono hB.size)) _⟩
  · rw [hg] at hga
    have Hga := Lib.hid hga; clear hga
    by_cases hr : r < 1
    · have hok : okVal n P k b N r 1 = false := val_no_game N (by rw [game_one, hg, decide_eq_false (by omega)]; rfl)
      rw [bl_no hok, hok]
      have hd : decide (r < 1) = true := decide_eq_true hr
      clear hok hg
      go_enter Try.func30, Try.ntmps30
      go_wp2_with fail
      refine (Hga.out _ H.out).mono ?_
      rintro e w1 ⟨rfl, hb1⟩
      go_wp2_with fail
      go_ret2
      exact ⟨_, _, rfl, .inl rfl, na (hB.trans (hb1.mono hB.size)) _⟩
    · have hd : decide (r < 1) = false := decide_eq_false hr
      have hg1 : gameOk n P k b r 1 = true := by rw [game_one, hg, decide_eq_true (by omega)]; rfl
      have h3 := (of_many (of_game hg).1).2.1
      have Hnu := Lib.hid (fun w => l6Number_any A n c N w h3)
      cases hN : decide (0 ≤ N ∧ N < (all6 n : Nat))
      · have hok : okVal n P k b N r 1 = false := by unfold okVal; rw [hN, Bool.and_false]
        rw [bl_no hok, hok]
        rw [hN] at Hnu
        clear hok hg hg1 hN
        go_enter Try.func30, Try.ntmps30
        go_wp2_with fail
        refine (Hga.out _ H.out).mono ?_
        rintro e w1 ⟨rfl, hb1⟩
        go_wp2_with fail
        refine (Hnu.out _).mono ?_
        rintro e w5 ⟨rfl, hw5⟩
        have hw5 := hw5.symm
        subst hw5
        go_wp2_with fail
        go_ret2
        exact ⟨_, _, rfl, .inl rfl, na (hB.trans (hb1.mono hB.size)) _⟩
      · have hok : okVal n P k b N r 1 = true := by unfold okVal; rw [hg1, hN]; rfl
        rw [hN] at Hnu
        obtain ⟨hN0, hN1⟩ := of_decide_eq_true hN
        obtain ⟨_, _, _, hr2⟩ := of_game hg1
        obtain ⟨N, rfl⟩ : ∃ m : Nat, N = m := ⟨N.toNat, by omega⟩
        obtain ⟨r, rfl⟩ : ∃ m : Nat, r = m := ⟨r.toNat, by omega⟩
        have hbe := fun w h => l6Best_any A n c N r P k b w h hok
        rw [← bl_yes hok] at hbe
        have Hbe := Lib.hid hbe; clear hbe
        rw [hok]
        clear hok hg hg1 hN hN0 hN1
        generalize bl n P k b N r = L at *
        go_enter Try.func30, Try.ntmps30
        go_wp2_with fail
        refine (Hga.out _ H.out).mono ?_
        rintro e w1 ⟨rfl, hb1⟩
        have hB1 := hB.trans (hb1.mono hB.size)
        have hP1 := hP0.up hb1
        clear q0 q1
        go_wp2_with fail
        refine (Hnu.out _).mono ?_
        rintro e w5 ⟨rfl, hw5⟩
        have hw5 := hw5.symm
        subst hw5
        have q0 := hP1.cell 0 (by omega)
        have q1 := hP1.cell 1 (by omega)
        rw [show fr k b 0 = k from rfl] at q0
        rw [show fr k b 1 = b from rfl] at q1
        go_wp2_with fail
        refine (Hbe.out _ (H.out.up hb1)).mono ?_
        rintro e w2 ⟨v, B, rfl, hBB, hv, hO, hb2⟩
        obtain ⟨A', c', rfl, hI⟩ := ints_own hO
        go_wp2_with fail
        go_ret2
        have := hB1.size
        exact ⟨_, _, rfl, hI.mono (by omega), nx hB1 hb2⟩

set_option maxRecDepth 100000 in
set_option maxHeartbeats 8000000 in
theorem specBestSet_any (A : Option Addr) (n c : Nat) (P : Nat → Nat → Int) (k b N r : Int) (w : World) (h : Row w A n P) (hn : n ≤ maxLen) :
    Calls Try.prog 28 #[.slice A n c, v2 k b, .int .i64 N, .int .i64 r] w fun e w' => e = .returned (.tuple #[.int .i64 (nf (bl n P k b N r) 0), .bool (okVal n P k b N r 1)]) ∧ Below w.heap.size w w' := by
  have hbs := fun w h => specBestSets_any A n c P k b N r w h hn
  have hhead : okVal n P k b N r 1 = true → 1 ≤ (bl n P k b N r).length := fun hok => by
    obtain ⟨hg, hN0, _⟩ := of_val hok
    obtain ⟨_, _, hr1, _⟩ := of_game hg
    obtain ⟨N, rfl⟩ : ∃ m : Nat, N = m := ⟨N.toNat, by omega⟩
    obtain ⟨r, rfl⟩ : ∃ m : Nat, r = m := ⟨r.toNat, by omega⟩
    exact (bl_head hok).1
  have hzero : okVal n P k b N r 1 = false → nf (bl n P k b N r) 0 = 0 := fun h => by rw [bl_no h]; rfl
  have Hbs := Lib.hid hbs; clear hbs
  have hB := na (n0 w) (.cells #[.int .i64 k, .int .i64 b] 25)
  have H := Lib.hid (h.up hB); clear h
  generalize bl n P k b N r = L at *
  cases hz : okVal n P k b N r 1
  · rw [hz] at Hbs
    rw [hzero hz]
    clear hhead hzero hz
    go_enter Try.func28, Try.ntmps28
    go_wp2_with fail
    refine (Hbs.out _ H.out).mono ?_
    rintro e w1 ⟨A', c', rfl, hI, hb1⟩
    go_wp2_with fail
    go_ret2
    exact ⟨rfl, hB.trans (hb1.mono hB.size)⟩
  · rw [hz] at Hbs
    have h1 := hhead hz
    clear hhead hzero hz
    generalize nf L = f at *
    generalize L.length = len at *
    go_enter Try.func28, Try.ntmps28
    go_wp2_with fail
    refine (Hbs.out _ H.out).mono ?_
    rintro e w1 ⟨A', c', rfl, hI, hb1⟩
    obtain ⟨g, rfl, _, hA⟩ := hI.at_ (show 0 < len by omega)
    have c0 := hA.cell 0 (by omega)
    go_wp2_with fail
    go_ret2
    exact ⟨rfl, hB.trans (hb1.mono hB.size)⟩


end BestT
end Go.Proofs.Ytppaegibhikjnaa
