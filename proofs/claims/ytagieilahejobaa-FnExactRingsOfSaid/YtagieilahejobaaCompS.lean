/-
  The comparison of two dice, by the specification.
-/
import Derived.Test.YtagieilahejobaaRows
import Derived.Test.YtagieilahejobaaDuel
import Derived.Test.YtagieilahejobaaDieW
import Derived.Test.YtagieilahejobaaSortW
import Derived.Test.YtagieilahejobaaOpenD
import Derived.WalkKit
import Derived.WalkLawsBesides
import Derived.WalkSpells
import Derived.ProofKit
import Derived.OpenShut
import Derived.Deep.RegionWith
import Derived.Deep.QuietTactic
import Derived.BigQuiet
namespace Go.Proofs.Ytagieilahejobaa
open Go.ChangeShapes Go.WideShapes Go.ChangeAt Go.RowKit
open Go.ChangeMaps (open_string shut_string)

namespace CompS
open Dice Arr DieW SortW Duel


set_option maxHeartbeats 2000000 in
theorem l3Compare_any (x y : Nat → Int) (w : World) :
    Calls Try.prog 52 #[dv x, dv y] w fun e w' => e = .returned (tri (cw x y 36)) ∧ Below w.heap.size w w' := by
  have hX := (((At.new6 w x 22 rfl).past (sixO y 22)).past (.cells #[.int .i64 0, .int .i64 0, .int .i64 0] 23)).past (.cells #[.int .i64 0, .int .i64 0, .int .i64 0] 23)
  have hY := ((At.new6 (w.alloc (sixO x 22)) y 22 (b := w.heap.size + 1) (by rw [size_alloc])).past (.cells #[.int .i64 0, .int .i64 0, .int .i64 0] 23)).past (.cells #[.int .i64 0, .int .i64 0, .int .i64 0] 23)
  have hR := (At.new3 ((w.alloc (sixO x 22)).alloc (sixO y 22)) 23 (b := w.heap.size + 2) (by rw [size_alloc, size_alloc])).past (.cells #[.int .i64 0, .int .i64 0, .int .i64 0] 23)
  have hO := At.new3 (((w.alloc (sixO x 22)).alloc (sixO y 22)).alloc (.cells #[.int .i64 0, .int .i64 0, .int .i64 0] 23)) 23 (b := w.heap.size + 3) (by rw [size_alloc, size_alloc, size_alloc])
  have hB := na (na (na (na (n0 w) (sixO x 22)) (sixO y 22)) (.cells #[.int .i64 0, .int .i64 0, .int .i64 0] 23)) (.cells #[.int .i64 0, .int .i64 0, .int .i64 0] 23)
  unfold dv
  go_enter Try.func52, Try.ntmps52
  go_wp2_with fail
  go_loopw [6] (fun iv wr => ∃ i : Nat, i ≤ 6 ∧ iv = .int .i64 i ∧ Below w.heap.size w wr ∧ At wr w.heap.size 6 x ∧ At wr (w.heap.size + 1) 6 y ∧ At wr (w.heap.size + 2) 3 (fun _ => 0) ∧ At wr (w.heap.size + 3) 3 (cw x y (6 * i))) (fun iv _ => 6 - (intOf iv).toNat)
  case atStart => exact ⟨0, by omega, rfl, hB, hX, hY, hR, hO⟩
  case round =>
    clear hX hY hR hO hB
    obtain ⟨i, hi, rfl, hB, hX, hY, hR, hO⟩ := hrel
    by_cases hlt : i < 6
    · have hit : decide ((i : Int) < 6) = true := decide_eq_true (by omega)
      have ci := hX.cell i hlt
      go_wp2_with fail
      go_loopw [7] (fun kv wr => ∃ k : Nat, k ≤ 6 ∧ kv = .int .i64 k ∧ Below w.heap.size w wr ∧ At wr w.heap.size 6 x ∧ At wr (w.heap.size + 1) 6 y ∧ At wr (w.heap.size + 2) 3 (fun _ => 0) ∧ At wr (w.heap.size + 3) 3 (cw x y (6 * i + k))) (fun kv _ => 6 - (intOf kv).toNat)
      case atStart => exact ⟨0, by omega, rfl, hB, hX, hY, hR, hO⟩
      case round =>
        clear hX hY hR hO hB ci
        obtain ⟨k, hk, rfl, hB, hX, hY, hR, hO⟩ := hrel
        by_cases hlk : k < 6
        · have hkt : decide ((k : Int) < 6) = true := decide_eq_true (by omega)
          have ci := hX.cell i hlt
          have ck := hY.cell k hlk
          obtain ⟨o0, o1, o2⟩ := three hO
          obtain ⟨z0, z1, z2⟩ := free3 hO
          have Hc := Lib.hid (cw_at x y i hlk)
          have b0 := cw_bound x y (6 * i + k) 0
          have b1 := cw_bound x y (6 * i + k) 1
          have b2 := cw_bound x y (6 * i + k) 2
          by_cases h0 : y k < x i
          · have d0 : decide (y k < x i) = true := decide_eq_true h0
            have hcl : Hid (cls (x i) (y k) = 0) := by show cls _ _ = 0; unfold cls; rw [if_pos h0]
            go_wp2_with fail
            go_region
            all_goals
              go_wp2_with fail
              go_roundw
              case rel => exact ⟨k + 1, by omega, by go_num, hB.drew.setCell (p := ⟨w.heap.size + 3, 0, none⟩) (by show w.heap.size ≤ w.heap.size + 3; omega) _, hX.drew.other (by omega) _ _, hY.drew.other (by omega) _ _, hR.drew.other (by omega) _ _, by rw [Hc.out, hcl.out]; exact hO.drew.set (by omega) _⟩
              case measure => simp [intOf]; omega
          · have d0 : decide (y k < x i) = false := decide_eq_false h0
            by_cases h1 : x i = y k
            · have d1 : decide (x i = y k) = true := decide_eq_true h1
              have hcl : Hid (cls (x i) (y k) = 1) := by show cls _ _ = 1; unfold cls; rw [if_neg h0, if_pos h1]
              go_wp2_with fail
              go_region
              all_goals
                go_wp2_with fail
                go_region
                all_goals
                  go_wp2_with fail
                  go_roundw
                  case rel => exact ⟨k + 1, by omega, by go_num, hB.drew.drew.setCell (p := ⟨w.heap.size + 3, 1, none⟩) (by show w.heap.size ≤ w.heap.size + 3; omega) _, hX.drew.drew.other (by omega) _ _, hY.drew.drew.other (by omega) _ _, hR.drew.drew.other (by omega) _ _, by rw [Hc.out, hcl.out]; exact hO.drew.drew.set (by omega) _⟩
                  case measure => simp [intOf]; omega
            · have d1 : decide (x i = y k) = false := decide_eq_false h1
              have hcl : Hid (cls (x i) (y k) = 2) := by show cls _ _ = 2; unfold cls; rw [if_neg h0, if_neg h1]
              go_wp2_with fail
              go_region
              all_goals
                go_wp2_with fail
                go_region
                all_goals
                  go_wp2_with fail
                  go_roundw
                  case rel => exact ⟨k + 1, by omega, by go_num, hB.drew.drew.setCell (p := ⟨w.heap.size + 3, 2, none⟩) (by show w.heap.size ≤ w.heap.size + 3; omega) _, hX.drew.drew.other (by omega) _ _, hY.drew.drew.other (by omega) _ _, hR.drew.drew.other (by omega) _ _, by rw [Hc.out, hcl.out]; exact hO.drew.drew.set (by omega) _⟩
                  case measure => simp [intOf]; omega
        · obtain rfl : k = 6 := by omega
          have hkt : decide (((6 : Nat) : Int) < 6) = false := rfl
          go_wp2_with fail
          go_roundw
          case rel => exact ⟨i + 1, by omega, by go_num, hB, hX, hY, hR, by rw [show 6 * (i + 1) = 6 * i + 6 by omega]; exact hO⟩
          case measure => simp [intOf]; omega
    · obtain rfl : i = 6 := by omega
      obtain ⟨o0, o1, o2⟩ := three hO
      obtain ⟨r0, r1, r2⟩ := three hR
      obtain ⟨z0, z1, z2⟩ := free3 hR
      go_wp2_with fail
      refine ret_cell (b := w.heap.size + 2) (n := 3) (f := cw x y 36) Try.results52 rfl Try.underlying23 (by kernel_rfl) (hR.stored _) rfl ⟨rfl, ?_⟩
      exact hB.trans (setCells_below (w := wr) (p := w.heap.size + 2) (B := w.heap.size) (by omega) (vals 3 (cw x y 36)) 0)


end CompS
end Go.Proofs.Ytagieilahejobaa
