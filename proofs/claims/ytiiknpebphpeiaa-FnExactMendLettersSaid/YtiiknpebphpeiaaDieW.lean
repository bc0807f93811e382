/-
  Contracts of the small functions over one die.
-/
import Derived.Test.YtiiknpebphpeiaaRows
import Derived.Test.YtiiknpebphpeiaaDice
import Derived.Test.YtiiknpebphpeiaaArr
import Derived.WalkKit
import Derived.WalkLawsBesides
import Derived.WalkSpells
import Derived.Lib.Hide
import Derived.Deep.RegionWith
import Derived.Deep.QuietTactic
import Derived.BigQuiet
namespace Go.Proofs.Ytiiknpebphpeiaa
open Go.RowKit

namespace DieW
open Dice Arr

set_option maxHeartbeats 1000000 in
theorem toA6_any (d : Nat → Int) (w : World) :
    Calls Try.prog 63 #[dv d] w fun e w' => e = .returned (dv d) ∧ Below w.heap.size w w' := by
  unfold dv
  go_enter Try.func63, Try.ntmps63
  go_wp2_with fail
  go_loopw [4] (fun i wr => ∃ (k : Nat) (f r : Nat → Int), k ≤ 6 ∧ i = .int .i64 k ∧ Below w.heap.size w wr ∧ At wr w.heap.size 6 d ∧ At wr (w.heap.size + 1) 6 r ∧ At wr (w.heap.size + 2) 6 f ∧ ∀ j, j < k → f j = d j) (fun i _ => 6 - (intOf i).toNat)
  case atStart =>
    have hw := Below.refl w.heap.size w
    refine ⟨0, fun _ => 0, fun _ => 0, by omega, rfl, ?_, ?_, ?_, ?_, fun j hj => by omega⟩
    · exact ((hw.alloc (Nat.le_refl _) _).alloc (by rw [size_alloc]; omega) _).alloc (by rw [size_alloc, size_alloc]; omega) _
    · exact ((At.new6 w d _ rfl).past _).past _
    · exact (At.new6 _ (fun _ => 0) _ (by rw [size_alloc])).past _
    · exact At.new6 _ (fun _ => 0) _ (by rw [size_alloc, size_alloc])
  case round =>
    obtain ⟨k, f, r, hk, rfl, hb, hd, hr, hf, he⟩ := hrel
    by_cases hlt : k < 6
    · have c1 := hd.cell k hlt
      have c2 := hf.cell k hlt
      have z2 := hf.free k
      go_wp2_with fail
      go_roundw
      case rel =>
        refine ⟨k + 1, put f k (d k), r, by omega, by go_num, hb.setCell (by show w.heap.size ≤ w.heap.size + 2; omega) _, hd.other (by omega) _ _, hr.other (by omega) _ _, hf.set hlt _, fun j hj => ?_⟩
        by_cases hjk : j = k
        · subst hjk
          exact put_same _ _ _
        · rw [put_other _ hjk]
          exact he j (by omega)
      case measure => simp [intOf]; omega
    · obtain rfl : k = 6 := by omega
      have hf' := hf.congr he
      obtain ⟨e0, e1, e2, e3, e4, e5⟩ := hf'.six
      obtain ⟨r0, r1, r2, r3, r4, r5⟩ := hr.six
      obtain ⟨z0, z1, z2, z3, z4, z5⟩ := hr.free6
      go_wp2_with fail
      refine ret_cell (b := w.heap.size + 1) (n := 6) (f := d) Try.results63 rfl Try.underlying61 (by kernel_rfl) (hr.stored d) rfl ⟨rfl, ?_⟩
      exact hb.trans (setCells_below (w := wr) (p := w.heap.size + 1) (B := w.heap.size) (by omega) (vals 6 d) 0)

set_option maxHeartbeats 1000000 in
theorem eqA6_any (d g : Nat → Int) (w : World) :
    Calls Try.prog 67 #[dv d, dv g] w fun e w' => e = .returned (.bool (decide (agree d g 6))) ∧ Below w.heap.size w w' := by
  unfold dv
  go_enter Try.func67, Try.ntmps67
  go_wp2_with fail
  go_loopw [5] (fun i wr => ∃ k : Nat, k ≤ 6 ∧ i = .int .i64 k ∧ Below w.heap.size w wr ∧ At wr w.heap.size 6 d ∧ At wr (w.heap.size + 1) 6 g ∧ ∀ j, j < k → d j = g j) (fun i _ => 6 - (intOf i).toNat)
  case atStart =>
    have hw := Below.refl w.heap.size w
    refine ⟨0, by omega, rfl, ?_, ?_, ?_, fun j hj => by omega⟩
    · exact (hw.alloc (Nat.le_refl _) _).alloc (by rw [size_alloc]; omega) _
    · exact (At.new6 w d _ rfl).past _
    · exact At.new6 _ g _ (by rw [size_alloc])
  case round =>
    obtain ⟨k, hk, rfl, hb, hd, hg, he⟩ := hrel
    by_cases hlt : k < 6
    · have c1 := hd.cell k hlt
      have c2 := hg.cell k hlt
      by_cases hdg : d k = g k
      · go_wp2_with fail
        go_region
        go_wp2_with fail
        go_roundw
        case rel =>
          refine ⟨k + 1, by omega, by go_num, hb.drew, hd.drew, hg.drew, fun j hj => ?_⟩
          by_cases hjk : j = k
          · subst hjk
            exact hdg
          · exact he j (by omega)
        case measure => simp [intOf]; omega
      · have hno : decide (agree d g 6) = false := decide_eq_false fun h => hdg (h k hlt)
        go_wp2_with fail
        go_region
        go_wp2_with fail
        go_ret
        exact ⟨by rw [hno]; rfl, hb.drew⟩
    · obtain rfl : k = 6 := by omega
      have hyes : decide (agree d g 6) = true := decide_eq_true he
      go_wp2_with fail
      go_ret
      exact ⟨by rw [hyes]; rfl, hb⟩

theorem l1In_any (x a b : Int) (w : World) :
    Calls Try.prog 68 #[.int .i64 x, .int .i64 a, .int .i64 b] w fun e w' => e = .returned (.bool (decide (a ≤ x ∧ x ≤ b))) ∧ w' = w := by
  by_cases h1 : a ≤ x
  · by_cases h2 : x ≤ b
    all_goals
      go_enter Try.func68, Try.ntmps68
      go_wp2
      go_ret
      exact ⟨by simp [h1, h2], rfl⟩
  · go_enter Try.func68, Try.ntmps68
    go_wp2
    go_ret
    exact ⟨by simp; omega, rfl⟩

set_option maxHeartbeats 1000000 in
theorem l2Die_any (d : Nat → Int) (w : World) :
    Calls Try.prog 97 #[dv d] w fun e w' => e = .returned (.bool (isDie d)) ∧ Below w.heap.size w w' := by
  unfold dv
  have hin := Lib.hid (fun (x a b : Int) (w : World) => l1In_any x a b w)
  go_enter Try.func97, Try.ntmps97
  go_wp2_with fail
  go_loopw [3] (fun i wr => ∃ k : Nat, k ≤ 6 ∧ i = .int .i64 k ∧ Below w.heap.size w wr ∧ At wr w.heap.size 6 d ∧ upto d k) (fun i _ => 6 - (intOf i).toNat)
  case atStart => exact ⟨0, by omega, rfl, (Below.refl w.heap.size w).alloc (Nat.le_refl _) _, At.new6 w d _ rfl, fun j hj => by omega⟩
  case round =>
    obtain ⟨k, hk, rfl, hb, hd, hu⟩ := hrel
    by_cases hlt : k < 6
    · have c1 := hd.cell k hlt
      by_cases hr : 0 ≤ d k ∧ d k ≤ 30
      · have hrd : decide (0 ≤ d k ∧ d k ≤ 30) = true := decide_eq_true hr
        cases k with
        | zero =>
          have hz : decide ((0 : Int) < 0) = false := rfl
          go_wp2_with fail
          go_quiet ((go_at_call 68; exact Calls.quiet_of_same (hin.out _ _ _ _)))
          go_wp2_with fail
          go_roundw
          case rel =>
            refine ⟨1, by omega, by go_num, ?_, ?_, fun j hj => ?_⟩
            · exact below_drewN hb _
            · exact hd.drewN _
            · obtain rfl : j = 0 := by omega
              exact ⟨hr.1, hr.2, .inl rfl⟩
          case measure => simp [intOf]
        | succ m =>
          have c0 := hd.cell m (by omega)
          by_cases hle : d m ≤ d (m + 1)
          · have hz : decide (d (m + 1) < d m) = false := decide_eq_false (by omega)
            go_wp2_with fail
            go_quiet ((go_at_call 68; exact Calls.quiet_of_same (hin.out _ _ _ _)))
            go_wp2_with fail
            go_roundw
            case rel =>
              refine ⟨m + 2, by omega, by go_num, ?_, ?_, fun j hj => ?_⟩
              · exact below_drewN hb _
              · exact hd.drewN _
              · by_cases hjm : j = m + 1
                · subst hjm
                  exact ⟨hr.1, hr.2, .inr hle⟩
                · exact hu j (by omega)
            case measure => simp [intOf]; omega
          · have hz : decide (d (m + 1) < d m) = true := decide_eq_true (by omega)
            have hno : isDie d = false := decide_eq_false fun h => by
              have := (h (m + 1) hlt).2.2
              simp only [Nat.add_one_sub_one] at this
              omega
            go_wp2_with fail
            go_quiet ((go_at_call 68; exact Calls.quiet_of_same (hin.out _ _ _ _)))
            go_wp2_with fail
            go_ret
            exact ⟨by rw [hno]; rfl, below_drewN hb _⟩
      · have hrd : decide (0 ≤ d k ∧ d k ≤ 30) = false := decide_eq_false hr
        have hno : isDie d = false := decide_eq_false fun h => hr ⟨(h k hlt).1, (h k hlt).2.1⟩
        go_wp2_with fail
        go_quiet ((go_at_call 68; exact Calls.quiet_of_same (hin.out _ _ _ _)))
        go_wp2_with fail
        go_ret
        exact ⟨by rw [hno]; rfl, below_drewN hb _⟩
    · obtain rfl : k = 6 := by omega
      have hyes : isDie d = true := decide_eq_true hu
      go_wp2_with fail
      go_ret
      exact ⟨by rw [hyes]; rfl, hb⟩

end DieW
end Go.Proofs.Ytiiknpebphpeiaa
