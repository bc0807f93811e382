/-
  Weights of numbers, in the program and in its model.
-/
import Derived.Test.YtdodokeebmdceaaRows
import Derived.Test.YtdodokeebmdceaaArr
import Derived.Test.YtdodokeebmdceaaDieW
import Derived.Test.YtdodokeebmdceaaOwnL
import Derived.Test.YtdodokeebmdceaaWgtM
import Derived.Test.YtdodokeebmdceaaOpenD
import Derived.Lib.Hide
import Derived.WalkKit
import Derived.WalkLawsBesides
import Derived.WalkSpells
import Derived.ProofKit
import Derived.OpenShut
import Derived.Deep.RegionWith
import Derived.Deep.QuietTactic
import Derived.BigQuiet
namespace Go.Proofs.Ytdodokeebmdceaa
open Go.ChangeShapes Go.WideShapes Go.ChangeAt Go.RowKit
open Go.ChangeMaps (open_string shut_string)

namespace WgtW
open Dice Arr DieW OwnL WgtM


theorem wdv (d : Nat → Int) : dv d = .agg (vals 6 d).toArray := rfl
set_option maxHeartbeats 2000000 in
theorem implW_any (d : Nat → Int) (x : Int) (w : World) :
    Calls Try.prog 53 #[dv d, .int .i64 x] w fun e w' => e = .returned (.int .i64 (wgt d x 6 : Nat)) ∧ Below w.heap.size w w' := by
  have hix0 := fun (w : World) (k : Nat) (hk : k < 6) => run_index_vals (P := Try.prog) w 22 3 6 Try.underlying22 Try.underlying3 Try.sizeOf3 d hk
  simp only [← wdv] at hix0
  unfold dv at hix0
  have Hix := Lib.hid hix0; clear hix0
  unfold dv
  have hB0 := na (n0 w) (sixO d 22)
  have hD0 := At.new6 w d 22 rfl
  obtain ⟨e0, e1, e2, e3, e4, e5⟩ := hD0.six
  go_enter Try.func53, Try.ntmps53
  go_wp2_with fail
  go_loopw [5, 9] (fun s i wr => ∃ k : Nat, k ≤ 6 ∧ i = .int .i64 k ∧ s = .int .i64 (wgt d x k : Nat) ∧ Below w.heap.size w wr) (fun _ i _ => 6 - (intOf i).toNat)
  case atStart => exact ⟨0, by omega, rfl, rfl, hB0⟩
  case round =>
    clear hB0 hD0 e0 e1 e2 e3 e4 e5
    obtain ⟨k, hk, rfl, rfl, hb⟩ := hrel
    by_cases hlt : k < 6
    · have hix := fun w => Hix.out w k hlt
      have hwl := wgt_le d x k
      by_cases hx : d k = x
      · have hdc : (d k == x) = true := by simpa using hx
        have hw1 := Lib.hid (wgt_hit hx)
        have Hx := Lib.hid hx; clear hx
        generalize hq : wgt d x k = q at *
        have Hq := Lib.hid hq; clear hq
        go_wp2_with fail
        go_roundw
        case rel => exact ⟨k + 1, by omega, by go_num, by rw [hw1.out]; go_num, hb⟩
        case measure => simp [intOf]; omega
      · have hdc : (d k == x) = false := by simpa using hx
        have hw1 := Lib.hid (wgt_miss hx)
        have Hx := Lib.hid hx; clear hx
        go_wp2_with fail
        go_roundw
        case rel => exact ⟨k + 1, by omega, by go_num, by rw [hw1.out], hb⟩
        case measure => simp [intOf]; omega
    · obtain rfl : k = 6 := by omega
      have hwl := wgt_le d x 6
      go_wp2_with fail
      go_ret
      exact ⟨rfl, hb⟩

set_option maxHeartbeats 2000000 in
theorem specW_any (d : Nat → Int) (x : Int) (w : World) :
    Calls Try.prog 55 #[dv d, .int .i64 x] w fun e w' => e = .returned (.int .i64 (wgt d x 6 : Nat)) ∧ Below w.heap.size w w' := by
  unfold dv
  have hB0 := na (n0 w) (sixO d 22)
  have hD0 := At.new6 w d 22 rfl
  go_enter Try.func55, Try.ntmps55
  go_wp2_with fail
  go_loopw [5, 6] (fun s i wr => ∃ k : Nat, k ≤ 6 ∧ i = .int .i64 k ∧ s = .int .i64 (wgt d x k : Nat) ∧ At wr w.heap.size 6 d ∧ Below w.heap.size w wr) (fun _ i _ => 6 - (intOf i).toNat)
  case atStart => exact ⟨0, by omega, rfl, rfl, hD0, hB0⟩
  case round =>
    clear hB0 hD0
    obtain ⟨k, hk, rfl, rfl, hD, hb⟩ := hrel
    by_cases hlt : k < 6
    · have ck := hD.cell k hlt
      have hwl := wgt_le d x k
      by_cases hx : d k = x
      · have hdc : (d k == x) = true := by simpa using hx
        have hw1 := Lib.hid (wgt_hit hx)
        have Hx := Lib.hid hx; clear hx
        generalize hq : wgt d x k = q at *
        have Hq := Lib.hid hq; clear hq
        go_wp2_with fail
        go_roundw
        case rel => exact ⟨k + 1, by omega, by go_num, by rw [hw1.out]; go_num, hD, hb⟩
        case measure => simp [intOf]; omega
      · have hdc : (d k == x) = false := by simpa using hx
        have hw1 := Lib.hid (wgt_miss hx)
        have Hx := Lib.hid hx; clear hx
        go_wp2_with fail
        go_roundw
        case rel => exact ⟨k + 1, by omega, by go_num, by rw [hw1.out], hD, hb⟩
        case measure => simp [intOf]; omega
    · obtain rfl : k = 6 := by omega
      have hwl := wgt_le d x 6
      go_wp2_with fail
      go_ret
      exact ⟨rfl, hb⟩

theorem greatest_any (d : Nat → Int) (w : World) :
    Calls Try.prog 51 #[dv d] w fun e w' => e = .returned (.int .i64 (d 5)) ∧ Below w.heap.size w w' := by
  unfold dv
  go_enter Try.func51, Try.ntmps51
  go_wp2_with fail
  go_ret
  exact ⟨rfl, na (n0 w) _⟩

/-- The sum of the first k faces. -/
def sumF (f : Nat → Nat) : Nat → Nat
  | 0 => 0
  | k + 1 => sumF f k + f k
theorem sumF_le {f : Nat → Nat} (h : ∀ j, j < 6 → f j ≤ 30) : ∀ k, k ≤ 6 → sumF f k ≤ 30 * k
  | 0, _ => Nat.le_refl _
  | k + 1, hk => by
    have h1 := sumF_le h k (by omega)
    have h2 := h k (by omega)
    show sumF f k + f k ≤ _
    omega
set_option maxHeartbeats 2000000 in
theorem sumOf_any (d : Nat → Int) (f : Nat → Nat) (w : World) (h : facesZ d f) :
    Calls Try.prog 57 #[dv d] w fun e w' => e = .returned (.int .i64 (sumF f 6 : Nat)) ∧ Below w.heap.size w w' := by
  have hix0 := fun (w : World) (k : Nat) (hk : k < 6) => run_index_vals (P := Try.prog) w 53 3 6 Try.underlying53 Try.underlying3 Try.sizeOf3 d hk
  simp only [← wdv] at hix0
  unfold dv at hix0
  have Hix := Lib.hid hix0; clear hix0
  have Hb := Lib.hid (sumF_le fun j hj => (h j hj).2.2)
  unfold dv
  go_enter Try.func57, Try.ntmps57
  go_wp2_with fail
  have H := Lib.hid h; clear h
  go_loopw [3, 7] (fun s i wr => ∃ k : Nat, k ≤ 6 ∧ i = .int .i64 k ∧ s = .int .i64 (sumF f k : Nat) ∧ Below w.heap.size w wr) (fun _ i _ => 6 - (intOf i).toNat)
  case atStart => exact ⟨0, by omega, rfl, rfl, na (n0 w) _⟩
  case round =>
    obtain ⟨k, hk, rfl, rfl, hb⟩ := hrel
    by_cases hlt : k < 6
    · have hix := fun w => Hix.out w k hlt
      have b1 := Hb.out k hk
      obtain ⟨b2, _, b3⟩ := H.out k hlt
      have e1 : sumF f (k + 1) = sumF f k + f k := rfl
      have E1 := Lib.hid e1; clear e1
      rw [b2] at hix
      clear b2
      generalize sumF f k = q at *
      go_wp2_with fail
      go_roundw
      case rel => exact ⟨k + 1, by omega, by go_num, by rw [E1.out]; go_num, hb⟩
      case measure => simp [intOf]; omega
    · obtain rfl : k = 6 := by omega
      have b1 := Hb.out 6 hk
      go_wp2_with fail
      go_ret
      exact ⟨rfl, hb⟩


end WgtW
end Go.Proofs.Ytdodokeebmdceaa
