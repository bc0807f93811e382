/-
  Ways at places in the program.
-/
import Derived.Test.YtiiknpebphpeiaaRows
import Derived.Test.YtiiknpebphpeiaaArr
import Derived.Test.YtiiknpebphpeiaaDieW
import Derived.Test.YtiiknpebphpeiaaSortW
import Derived.Test.YtiiknpebphpeiaaDicesW
import Derived.Test.YtiiknpebphpeiaaPoolW
import Derived.Test.YtiiknpebphpeiaaAll6
import Derived.Test.YtiiknpebphpeiaaIntsW
import Derived.Test.YtiiknpebphpeiaaRollN
import Derived.Test.YtiiknpebphpeiaaRollS
import Derived.Test.YtiiknpebphpeiaaFour
import Derived.Test.YtiiknpebphpeiaaOrdM
import Derived.Test.YtiiknpebphpeiaaOrdT
import Derived.Test.YtiiknpebphpeiaaOrdW
import Derived.Test.YtiiknpebphpeiaaOrdO
import Derived.Test.YtiiknpebphpeiaaOrdI
import Derived.Test.YtiiknpebphpeiaaOrdK
import Derived.Test.YtiiknpebphpeiaaOrdS
import Derived.Test.YtiiknpebphpeiaaOwnL
import Derived.Test.YtiiknpebphpeiaaAnyR
import Derived.Test.YtiiknpebphpeiaaMapO
import Derived.Test.YtiiknpebphpeiaaShelfMax
import Derived.Test.YtiiknpebphpeiaaOrdN
import Derived.Test.YtiiknpebphpeiaaOrdL
import Derived.Test.YtiiknpebphpeiaaCntI
import Derived.Test.YtiiknpebphpeiaaWayI
import Derived.Test.YtiiknpebphpeiaaWayJ
import Derived.Test.YtiiknpebphpeiaaWayS
import Derived.Test.YtiiknpebphpeiaaWayT
import Derived.Test.YtiiknpebphpeiaaLevW
import Derived.Test.YtiiknpebphpeiaaAtM
import Derived.Test.YtiiknpebphpeiaaAtI
import Derived.Test.YtiiknpebphpeiaaAtS
import Derived.Test.YtiiknpebphpeiaaOpenD
import Derived.WalkKit
import Derived.WalkLawsBesides
import Derived.WalkSpells
import Derived.ProofKit
import Derived.OpenShut
import Derived.Deep.RegionWith
import Derived.Deep.QuietTactic
import Derived.BigQuiet
namespace Go.Proofs.Ytiiknpebphpeiaa
open Go.ChangeShapes Go.WideShapes Go.ChangeAt Go.RowKit
open Go.ChangeMaps (open_string shut_string)

namespace AtJ
open Dice Arr OpenD DieW SortW DicesW PoolW All6 IntsW RollW Four OwnL OrdM OrdT OrdW OrdO OrdI OrdK OrdS AnyR MapO OrdN OrdL CntI WayI WayJ WayS WayT LevW AtM AtI AtS


set_option maxRecDepth 20000 in
set_option maxHeartbeats 4000000 in
theorem implX_any (A : Option Addr) (n c : Nat) (p k : Int) (P : Nat → Nat → Int) (w : World) (h : Row w A n P) (hn : n ≤ maxLen) :
    Calls Try.prog 38 #[.slice A n c, .int .i64 p, .int .i64 k] w fun e w' => e = .returned (.tuple #[.int .i64 (vX n P p k), .bool (okX n P p k)]) ∧ Below w.heap.size w w' := by
  have Ha := Lib.hid (fun w h => implAt_any A n c k P w h hn)
  have H := Lib.hid h; clear h
  by_cases hk : okP n P k = true
  case neg =>
    have hk : okP n P k = false := by simpa using hk
    have e1 : okX n P p k = false := by
      unfold okP at hk
      unfold okX
      cases hq : isPool n P
      · rfl
      · rw [hq, Bool.true_and, decide_eq_false_iff_not] at hk
        rw [decide_eq_false (p := 0 ≤ k ∧ k ≤ (n : Int) - 1) (by omega), Bool.and_false]
        rfl
    have e2 : mA n P k = 0 := by unfold mA; rw [hk]; rfl
    rw [vX_no e1, e1]
    rw [hk, e2] at Ha
    have Ha := Lib.hid Ha
    clear e1 e2 hk
    go_enter Try.func38, Try.ntmps38
    go_wp2_with fail
    refine (Ha.out _ H.out).mono ?_
    rintro e w1 ⟨A', c', rfl, _, hb⟩
    go_wp2_with fail
    go_ret2
    exact ⟨rfl, hb⟩
  have e2 : mA n P k = n := by unfold mA; rw [hk]; rfl
  have hk2 := hk
  unfold okP at hk2
  rw [Bool.and_eq_true, decide_eq_true_eq] at hk2
  obtain ⟨hq, hk0⟩ := hk2
  rw [hk, e2] at Ha
  have Ha := Lib.hid Ha
  obtain ⟨j, rfl⟩ : ∃ j : Nat, k = j := ⟨k.toNat, by omega⟩
  have HE : Hid (∀ i : Nat, fA n P (j : Int) i = (sumL (fun q => if qa q j = (i : Int) then cnt (gO P n) (all6 n) q else 0) (ordL n) : Nat)) := fun i => rfl
  by_cases hp : 0 ≤ p ∧ p ≤ (n : Int) - 1
  case neg =>
    have e1 : okX n P p (j : Int) = false := by unfold okX; rw [hq, decide_eq_false hp]; rfl
    rw [vX_no e1, e1]
    clear e1 hk hq
    by_cases hp0 : p < 0
    · have hd : decide (p < 0) = true := decide_eq_true hp0
      clear hp
      go_enter Try.func38, Try.ntmps38
      go_wp2_with fail
      refine (Ha.out _ H.out).mono ?_
      rintro e w1 ⟨A', c', rfl, _, hb⟩
      go_wp2_with fail
      go_ret2
      exact ⟨rfl, hb⟩
    · have hd : decide (p < 0) = false := decide_eq_false hp0
      have hd2 : decide ((n : Int) ≤ p) = true := decide_eq_true (by omega)
      clear hp
      go_enter Try.func38, Try.ntmps38
      go_wp2_with fail
      refine (Ha.out _ H.out).mono ?_
      rintro e w1 ⟨A', c', rfl, _, hb⟩
      go_wp2_with fail
      go_ret2
      exact ⟨rfl, hb⟩
  have e1 : okX n P p (j : Int) = true := by unfold okX; rw [hq, decide_eq_true hp, decide_eq_true (show 0 ≤ (j : Int) ∧ (j : Int) ≤ (n : Int) - 1 by omega)]; rfl
  rw [vX_yes e1, e1]
  obtain ⟨i, rfl⟩ : ∃ i : Nat, p = i := ⟨p.toNat, by omega⟩
  have hin : i < n := by omega
  have hd : decide ((i : Int) < 0) = false := decide_eq_false (by omega)
  have hd2 : decide ((n : Int) ≤ (i : Int)) = false := decide_eq_false (by omega)
  have hd2N : decide (n ≤ i) = false := decide_eq_false (by omega)
  have HEi := Lib.hid (HE.out i)
  generalize (sumL (fun q => if qa q j = (i : Int) then cnt (gO P n) (all6 n) q else 0) (ordL n) : Nat) = R at *
  clear e1 hk hq hp
  go_enter Try.func38, Try.ntmps38
  go_wp2_with fail
  refine (Ha.out _ H.out).mono ?_
  rintro e w1 ⟨A', c', rfl, hI, hb⟩
  obtain ⟨b, rfl, _, hA⟩ := hI.at_ (show 0 < n by omega)
  have ci := hA.cell i hin
  rw [HEi.out] at ci
  go_wp2_with fail
  go_ret2
  exact ⟨rfl, hb⟩


end AtJ
end Go.Proofs.Ytiiknpebphpeiaa
