/-
  A table, each entry so many times.
-/
import Derived.Test.YtjdijbidpcjjdaaRows
import Derived.Test.YtjdijbidpcjjdaaTableSM
import Derived.Test.YtjdijbidpcjjdaaTableIM
import Derived.Test.YtjdijbidpcjjdaaTableWM
import Derived.Test.YtjdijbidpcjjdaaTableM
import Derived.Test.YtjdijbidpcjjdaaSumsM
import Derived.Test.YtjdijbidpcjjdaaDicesW
import Derived.Test.YtjdijbidpcjjdaaPoolW
import Derived.Test.YtjdijbidpcjjdaaAll6
import Derived.Test.YtjdijbidpcjjdaaSortW
import Derived.Test.YtjdijbidpcjjdaaOpenD
import Derived.WalkKit
import Derived.WalkLawsBesides
import Derived.WalkSpells
import Derived.ProofKit
import Derived.OpenShut
import Derived.Deep.RegionWith
import Derived.Deep.WholeRow
import Derived.Deep.QuietTactic
import Derived.BigQuiet
namespace Go.Proofs.Ytjdijbidpcjjdaa
open Go.ChangeShapes Go.WideShapes Go.ChangeAt Go.RowKit
open Go.ChangeMaps (open_string shut_string)

namespace ScaleW
open Dice Arr OpenD DieW SortW DicesW PoolW SumsW Table TableW TableI TableS All6

/-- The first k entries, each so many times. -/
def scaleTo (f : Nat → Int) (t k : Nat) : Nat → Int := fun j => if j < k then f j * t else f j
theorem scale_zero (f : Nat → Int) (t : Nat) : scaleTo f t 0 = f := by funext j; simp [scaleTo]
theorem scale_next (f : Nat → Int) (t k : Nat) : put (scaleTo f t k) k (f k * t) = scaleTo f t (k + 1) := by
  funext j
  unfold put scaleTo
  by_cases h : j = k
  · subst h; simp
  · simp only [h, if_false]
    by_cases h2 : j < k
    · simp [h2, show j < k + 1 by omega]
    · simp [h2, show ¬ j < k + 1 by omega]
theorem scale_at (f : Nat → Int) (t k : Nat) : scaleTo f t k k = f k := by simp [scaleTo]

set_option maxRecDepth 100000 in
set_option maxHeartbeats 4000000 in
theorem scaled_any (f : Nat → Int) (t : Nat) (w : World) (hf : ∀ j, j < 121 → 0 ≤ f j ∧ f j ≤ 1296) (ht : t ≤ 1296) :
    Calls Try.prog 64 #[tv f, .int .i64 t] w fun e w' => e = .returned (tv (scaleTo f t 121)) ∧ Below w.heap.size w w' := by
  have hA := (tv_new w f).past (.cells Try.zeroCells54 54)
  have hR := fresh (w.alloc (.cells (vals 121 f).toArray 54)) (b := w.heap.size + 1) (by rw [size_alloc])
  have hB := na (na (n0 w) (.cells (vals 121 f).toArray 54)) (.cells Try.zeroCells54 54)
  have Hf := Lib.hid hf; clear hf
  rw [← scale_zero f t] at hA
  go_enter Try.func64, Try.ntmps64
  go_wp2_with fail
  go_loopw [6] (fun iv wr => ∃ k : Nat, k ≤ 121 ∧ iv = .int .i64 k ∧ Below w.heap.size w wr ∧ At wr w.heap.size 121 (scaleTo f t k) ∧ At wr (w.heap.size + 1) 121 (fun _ => 0)) (fun iv _ => 121 - (intOf iv).toNat)
  case atStart => exact ⟨0, by omega, rfl, hB, hA, hR⟩
  case round =>
    clear hA hR hB
    obtain ⟨k, hk, rfl, hb, hA, hR⟩ := hrel
    by_cases hlt : k < 121
    · have ck := hA.cell k hlt
      rw [scale_at] at ck
      have zk := hA.free k
      have hfk := Hf.out k hlt
      have hm : 0 ≤ f k * (t : Int) ∧ f k * (t : Int) ≤ 1679616 := ⟨Int.mul_nonneg hfk.1 (by omega), Int.le_trans (Int.mul_le_mul hfk.2 (show (t : Int) ≤ 1296 by omega) (by omega) (by omega)) (by decide)⟩
      go_wp2_with fail
      go_roundw
      case rel => exact ⟨k + 1, by omega, by go_num, hb.setCell (p := ⟨w.heap.size, k, none⟩) (Nat.le_refl _) _, by rw [← scale_next]; exact hA.set hlt _, hR.other (by omega) _ _⟩
      case measure => simp [intOf]; omega
    · obtain rfl : k = 121 := by omega
      obtain ⟨w4, hst, hA4, hB4, hK4⟩ := store_ex hR (scaleTo f t 121)
      have hbl4 := hb.trans (hB4 _ (by omega))
      clear hK4 hB4
      go_wp2_with (refine ld rfl _ rfl rfl hA ?_)
      exact ret_cell (b := w.heap.size + 1) (n := 121) (f := scaleTo f t 121) Try.results64 rfl Try.underlying54 size_run hA4 rfl ⟨rfl, hbl4⟩


end ScaleW
end Go.Proofs.Ytjdijbidpcjjdaa
