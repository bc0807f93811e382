/-
  The bounds of a pool, both sides.
-/
import Derived.Test.YtjdijbidpcjjdaaRows
import Derived.Test.YtjdijbidpcjjdaaSumsB
import Derived.Test.YtjdijbidpcjjdaaSumsM
import Derived.Test.YtjdijbidpcjjdaaDicesW
import Derived.Test.YtjdijbidpcjjdaaOpenD
import Derived.WalkKit
import Derived.WalkLawsBesides
import Derived.WalkSpells
import Derived.ProofKit
import Derived.OpenShut
import Derived.Deep.RegionWith
import Derived.Deep.QuietTactic
import Derived.BigQuiet
namespace Go.Proofs.Ytjdijbidpcjjdaa
open Go.ChangeShapes Go.WideShapes Go.ChangeAt Go.RowKit
open Go.ChangeMaps (open_string shut_string)

namespace BndsX
open Dice Arr OpenD DieW SortW DicesW PoolW FracW SumsW SumsB

def lo (d : Nat → Int) : Int := d 0
def hiF (d : Nat → Int) : Int := d 5
theorem lo_bound {d : Nat → Int} (h : isDie d = true) : 0 ≤ lo d ∧ lo d ≤ 100000 := by
  have := (of_decide_eq_true h : upto d 6) 0 (by omega)
  unfold lo
  omega
theorem hi_bound {d : Nat → Int} (h : isDie d = true) : 0 ≤ hiF d ∧ hiF d ≤ 100000 := by
  have := (of_decide_eq_true h : upto d 6) 5 (by omega)
  unfold hiF
  omega
set_option maxHeartbeats 2000000 in
theorem impl_any (A : Option Addr) (n c : Nat) (P : Nat → Nat → Int) (w : World) (h : Row w A n P) (hn : n ≤ maxLen) :
    Calls Try.prog 56 #[.slice A n c] w fun e w' => e = .returned (.tuple (if isPool n P then #[.int .i64 (tot lo P n), .int .i64 (tot hiF P n), .bool true] else #[.int .i64 0, .int .i64 0, .bool false])) ∧ Below w.heap.size w w' := by
  have hp := fun w h => implIsPool_any A n c P w h hn
  cases hq : isPool n P
  · rw [hq] at hp
    simp only [Bool.false_eq_true, ↓reduceIte]
    have Hp := Lib.hid hp; clear hp hq
    go_enter Try.func56, Try.ntmps56
    go_wp2_with fail
    refine (Hp.out _ h).mono ?_
    rintro e w1 ⟨rfl, hb⟩
    go_wp2_with fail
    go_ret3
    exact ⟨rfl, hb⟩
  · obtain ⟨h1, h4, hd⟩ := of_pool hq
    rw [hq] at hp
    simp only [↓reduceIte]
    have hl := fun w h => addUp_least lo A n c P w h h4 (fun i hi => lo_bound (hd i hi)) fun i hi w => least_any (P i) w
    have hg := fun w h => addUp_greatest hiF A n c P w h h4 (fun i hi => hi_bound (hd i hi)) fun i hi w => greatest_any (P i) w
    have Hp := Lib.hid hp; clear hp hq
    have Hl := Lib.hid hl; clear hl
    have Hg := Lib.hid hg; clear hg
    have H := Lib.hid h; clear h
    clear hd hn
    go_enter Try.func56, Try.ntmps56
    go_wp2_with fail
    refine (Hp.out _ H.out).mono ?_
    rintro e w1 ⟨rfl, hb1⟩
    go_wp2_with fail
    refine (Hl.out _ (H.out.up hb1)).mono ?_
    rintro e w2 ⟨rfl, hb2⟩
    have hB2 := nx hb1 hb2
    go_wp2_with fail
    refine (Hg.out _ (H.out.up hB2)).mono ?_
    rintro e w3 ⟨rfl, hb3⟩
    go_wp2_with fail
    go_ret3
    exact ⟨rfl, nx hB2 hb3⟩

set_option maxHeartbeats 2000000 in
theorem spec_any (A : Option Addr) (n c : Nat) (P : Nat → Nat → Int) (w : World) (h : Row w A n P) (hn : n ≤ maxLen) :
    Calls Try.prog 55 #[.slice A n c] w fun e w' => e = .returned (.tuple (if isPool n P then #[.int .i64 (tot lo P n), .int .i64 (tot hiF P n), .bool true] else #[.int .i64 0, .int .i64 0, .bool false])) ∧ Below w.heap.size w w' := by
  have hp := fun w h => l2Pool_any A n c P w h hn
  cases hq : isPool n P
  · rw [hq] at hp
    simp only [Bool.false_eq_true, ↓reduceIte]
    have Hp := Lib.hid hp; clear hp hq
    go_enter Try.func55, Try.ntmps55
    go_wp2_with fail
    refine (Hp.out _ h).mono ?_
    rintro e w1 ⟨rfl, hb⟩
    go_wp2_with fail
    go_ret3
    exact ⟨rfl, hb⟩
  · obtain ⟨h1, h4, hd⟩ := of_pool hq
    rw [hq] at hp
    simp only [↓reduceIte]
    have Hp := Lib.hid hp; clear hp hq
    have H := Lib.hid h; clear h
    have Hlo := Lib.hid (tot_bound (F := lo) (P := P) (n := n) fun i hi => lo_bound (hd i hi))
    have Hhi := Lib.hid (tot_bound (F := hiF) (P := P) (n := n) fun i h => hi_bound (hd i h))
    have Hd := Lib.hid hd; clear hd
    clear hn
    go_enter Try.func55, Try.ntmps55
    go_wp2_with fail
    refine (Hp.out _ H.out).mono ?_
    rintro e w1 ⟨rfl, hb1⟩
    go_wp2_with fail
    go_loopw [5, 6, 7] (fun a b iv wr => ∃ i : Nat, i ≤ n ∧ iv = .int .i64 i ∧ a = .int .i64 (tot lo P i) ∧ b = .int .i64 (tot hiF P i) ∧ Below w.heap.size w wr) (fun _ _ iv _ => n - (intOf iv).toNat)
    case atStart => exact ⟨0, by omega, rfl, rfl, rfl, hb1⟩
    case round =>
      clear hb1
      obtain ⟨i, hi, rfl, rfl, rfl, hb⟩ := hrel
      by_cases hlt : i < n
      · obtain ⟨bk, o, rfl, hbk, hc⟩ := (H.out.below (Nat.le_refl _) hb).at_ hlt
        have k0 := hc 0 (by omega)
        have k5 := hc 5 (by omega)
        simp only [← Nat.add_assoc, Nat.add_zero] at k0 k5
        have b1 := Hlo.out i hi
        have b2 := Hhi.out i hi
        have u0 := (of_decide_eq_true (Hd.out i hlt) : upto (P i) 6) 0 (by omega)
        have u5 := (of_decide_eq_true (Hd.out i hlt) : upto (P i) 6) 5 (by omega)
        have e1 : tot lo P (i + 1) = tot lo P i + P i 0 := rfl
        have e2 : tot hiF P (i + 1) = tot hiF P i + P i 5 := rfl
        have E1 := Lib.hid e1; clear e1
        have E2 := Lib.hid e2; clear e2
        clear hc
        go_wp2_with fail
        go_roundw
        case rel => exact ⟨i + 1, by omega, by go_num, by rw [E1.out], by rw [E2.out], hb⟩
        case measure => simp [intOf]; omega
      · obtain rfl : i = n := by omega
        go_wp2_with fail
        go_ret3
        exact ⟨rfl, hb⟩

end BndsX
end Go.Proofs.Ytjdijbidpcjjdaa
