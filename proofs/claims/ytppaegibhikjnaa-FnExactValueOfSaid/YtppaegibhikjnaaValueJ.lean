/-
  ValueOf, by the program: for every argument.
-/
import Derived.Test.YtppaegibhikjnaaRows
import Derived.Test.YtppaegibhikjnaaVFacts
import Derived.Test.YtppaegibhikjnaaAgainM
import Derived.Test.YtppaegibhikjnaaPowW
import Derived.Test.YtppaegibhikjnaaOwnL
import Derived.Test.YtppaegibhikjnaaAll6
import Derived.Test.YtppaegibhikjnaaAll9
import Derived.Test.YtppaegibhikjnaaSumsS
import Derived.Test.YtppaegibhikjnaaRolledI
import Derived.Test.YtppaegibhikjnaaArr
import Derived.Test.YtppaegibhikjnaaDieW
import Derived.Test.YtppaegibhikjnaaFracW
import Derived.Test.YtppaegibhikjnaaSortW
import Derived.Test.YtppaegibhikjnaaDicesW
import Derived.Test.YtppaegibhikjnaaPoolW
import Derived.Test.YtppaegibhikjnaaGoalW
import Derived.Test.YtppaegibhikjnaaScoreM
import Derived.Test.YtppaegibhikjnaaScoreW
import Derived.Test.YtppaegibhikjnaaIntsW
import Derived.Test.YtppaegibhikjnaaRollN
import Derived.Test.YtppaegibhikjnaaPairA
import Derived.Test.YtppaegibhikjnaaGameW
import Derived.Test.YtppaegibhikjnaaScoreI
import Derived.Test.YtppaegibhikjnaaGridL
import Derived.Test.YtppaegibhikjnaaCutW
import Derived.Test.YtppaegibhikjnaaIntsW
import Derived.Test.YtppaegibhikjnaaRollN
import Derived.Test.YtppaegibhikjnaaValM
import Derived.Test.YtppaegibhikjnaaValueI
import Derived.Test.YtppaegibhikjnaaOpenD
import Derived.WalkKit
import Derived.Deep.WholeRow
import Derived.Deep.AppendLies
import Derived.FnLit
import Derived.WalkLawsBesides
import Derived.WalkSpells
import Derived.ProofKit
import Derived.OpenShut
import Derived.Deep.RegionWith
import Derived.Deep.QuietTactic
import Derived.BigQuiet
namespace Go.Proofs.Ytppaegibhikjnaa
open Go.ChangeShapes Go.WideShapes Go.ChangeAt Go.RowKit
open Go.ChangeMaps (open_string shut_string)

namespace ValueJ
open Dice Arr AgainM PowW OwnL All6 All9 SumsS RolledI FracW OpenD DieW SortW PoolW DicesW GoalW ScoreM ScoreW IntsW RollW PairA GameW ScoreI VFacts GridL Rest0 CutW ValM ValueI


set_option maxRecDepth 100000 in
set_option maxHeartbeats 8000000 in
theorem valueNo_any (A : Option Addr) (n c : Nat) (P : Nat → Nat → Int) (k b N r : Int) (w : World) (h : Row w A n P) (hn : n ≤ maxLen) (hok : okVal n P k b N r 0 = false) :
    Calls Try.prog 25 #[.slice A n c, v2 k b, .int .i64 N, .int .i64 r] w fun e w' => e = .returned (.tuple #[v2 0 0, .bool false]) ∧ Below w.heap.size w w' := by
  have hro := fun w h => implRoll_any A n c N P w h hn
  have hga := fun w h => isGame_any A n c P k b r 0 w h hn
  have hR0 := At.new2 (w.alloc (.cells #[.int .i64 k, .int .i64 b] 25)) 36
  have hP0 := (At.newG k b w 25).past (.cells #[.int .i64 0, .int .i64 0] 36)
  have hB := na (na (n0 w) (.cells #[.int .i64 k, .int .i64 b] 25)) (.cells #[.int .i64 0, .int .i64 0] 36)
  have H := Lib.hid (h.up hB); clear h
  rw [size_alloc] at hR0
  cases hr : okR n P N
  · rw [hr] at hro
    have Hro := Lib.hid hro; clear hro
    clear hga hok hr
    go_enter Try.func25, Try.ntmps25
    go_wp2_with fail
    generalize (w.alloc (.cells #[.int .i64 k, .int .i64 b] 25)).alloc (.cells #[.int .i64 0, .int .i64 0] 36) = W at *
    refine (Hro.out _ H.out).mono ?_
    rintro e w1 ⟨A', c', rfl, _, hb1⟩
    have hB1 := hB.trans (hb1.mono hB.size)
    have hR1 := hR0.up hb1
    have c0 := hR1.cell 0 (by omega)
    have c1 := hR1.cell 1 (by omega)
    have z0 := hR1.free 0
    have z1 := hR1.free 1
    go_wp2_with fail
    refine ret_cell_tmp (b := w.heap.size + 1) (n := 2) (f := fr 0 0) Try.results25 rfl rfl Try.underlying36 (by kernel_rfl) (fin2' hR1 0 0) rfl ⟨rfl, ?_⟩
    exact (hB1.setCell (p := ⟨w.heap.size + 1, 0, none⟩) (Nat.le_succ _) _).setCell (p := ⟨w.heap.size + 1, 1, none⟩) (Nat.le_succ _) _
  · rw [hr] at hro
    have Hro := Lib.hid hro; clear hro
    have hg : gameOk n P k b r 0 = false := by
      cases hg : gameOk n P k b r 0
      · rfl
      · rw [okR_game (N := N) hg, hok] at hr
        cases hr
    rw [hg] at hga
    have Hga := Lib.hid hga; clear hga
    clear hok hr hg
    go_enter Try.func25, Try.ntmps25
    go_wp2_with fail
    generalize (w.alloc (.cells #[.int .i64 k, .int .i64 b] 25)).alloc (.cells #[.int .i64 0, .int .i64 0] 36) = W at *
    refine (Hro.out _ H.out).mono ?_
    rintro e w1 ⟨A', c', rfl, _, hb1⟩
    have hB1 := hB.trans (hb1.mono hB.size)
    have hR1 := hR0.up hb1
    have hP1 := hP0.up hb1
    have q0 := hP1.cell 0 (by omega)
    have q1 := hP1.cell 1 (by omega)
    rw [show fr k b 0 = k from rfl] at q0
    rw [show fr k b 1 = b from rfl] at q1
    go_wp2_with fail
    refine (Hga.out _ (H.out.up hb1)).mono ?_
    rintro e w2 ⟨rfl, hb2⟩
    have hB2 := nx hB1 hb2
    have hR2 := hR1.up hb2
    have c0 := hR2.cell 0 (by omega)
    have c1 := hR2.cell 1 (by omega)
    have z0 := hR2.free 0
    have z1 := hR2.free 1
    clear q0 q1
    go_wp2_with fail
    refine ret_cell_tmp (b := w.heap.size + 1) (n := 2) (f := fr 0 0) Try.results25 rfl rfl Try.underlying36 (by kernel_rfl) (fin2' hR2 0 0) rfl ⟨rfl, ?_⟩
    exact (hB2.setCell (p := ⟨w.heap.size + 1, 0, none⟩) (Nat.le_succ _) _).setCell (p := ⟨w.heap.size + 1, 1, none⟩) (Nat.le_succ _) _

theorem implValue_any (A : Option Addr) (n c : Nat) (P : Nat → Nat → Int) (k b N r : Int) (w : World) (h : Row w A n P) (hn : n ≤ maxLen) :
    Calls Try.prog 25 #[.slice A n c, v2 k b, .int .i64 N, .int .i64 r] w fun e w' => e = .returned (.tuple #[outV n P k b N r, .bool (okVal n P k b N r 0)]) ∧ Below w.heap.size w w' := by
  cases hok : okVal n P k b N r 0
  · rw [outV_no hok]
    exact valueNo_any A n c P k b N r w h hn hok
  · obtain ⟨hg, hN0, _⟩ := of_val hok
    obtain ⟨_, _, hr0, hr2⟩ := of_game hg
    obtain ⟨N, rfl⟩ : ∃ m : Nat, N = m := ⟨N.toNat, by omega⟩
    obtain ⟨r, rfl⟩ : ∃ m : Nat, r = m := ⟨r.toNat, by omega⟩
    rw [outV_yes hok]
    obtain rfl | rfl | rfl : r = 0 ∨ r = 1 ∨ r = 2 := by omega
    · exact value0_any A n c N P k b w h hok
    · exact value1_any A n c N P k b w h hok
    · exact value2_any A n c N P k b w h hok


end ValueJ
end Go.Proofs.Ytppaegibhikjnaa
