/-
  The contract of the model's sort by exchanges.
-/
import Derived.Test.YtbcaahaaaodhkaaRows
import Derived.Test.YtbcaahaaaodhkaaDice
import Derived.Test.YtbcaahaaaodhkaaArr
import Derived.Test.YtbcaahaaaodhkaaDieW
import Derived.WalkKit
import Derived.WalkLawsBesides
import Derived.WalkSpells
import Derived.Lib.Hide
import Derived.Deep.RegionWith
import Derived.Deep.QuietTactic
import Derived.BigQuiet
namespace Go.Proofs.Ytbcaahaaaodhkaa
open Go.RowKit

namespace BubW
open Dice Arr DieW

set_option maxHeartbeats 2000000 in
theorem l2Sorted_any (d : Nat → Int) (w : World) :
    Calls Try.prog 136 #[dv d] w fun e w' => e = .returned (dv (srt d)) ∧ Below w.heap.size w w' := by
  unfold dv
  go_enter Try.func136, Try.ntmps136
  go_wp2_with fail
  go_loopw [3] (fun iv wr => ∃ (i : Nat) (f r : Nat → Int), i ≤ 6 ∧ iv = .int .i64 i ∧ Below w.heap.size w wr ∧ At wr w.heap.size 6 f ∧ At wr (w.heap.size + 1) 6 r ∧ Hid (Bub d f i 0)) (fun iv _ => 6 - (intOf iv).toNat)
  case atStart =>
    refine ⟨0, d, fun _ => 0, by omega, rfl, ((Below.refl w.heap.size w).alloc (Nat.le_refl _) _).alloc (by rw [size_alloc]; omega) _, (At.new6 w d _ rfl).past _, At.new6 _ (fun _ => 0) _ (by rw [size_alloc]), Bub.start d⟩
  case round =>
    obtain ⟨i, f0, r0, hi, rfl, hb0, hf0, hr0, hB0⟩ := hrel
    by_cases hlt : i < 6
    · have hit : decide ((i : Int) < 6) = true := decide_eq_true (by omega)
      go_wp2_with fail
      go_loopw [4] (fun kv wr => ∃ (k : Nat) (f r : Nat → Int), k ≤ 5 ∧ kv = .int .i64 k ∧ Below w.heap.size w wr ∧ At wr w.heap.size 6 f ∧ At wr (w.heap.size + 1) 6 r ∧ Hid (Bub d f i k)) (fun kv _ => 5 - (intOf kv).toNat)
      case atStart => exact ⟨0, f0, r0, by omega, rfl, hb0, hf0, hr0, hB0⟩
      case round =>
        obtain ⟨k, f, r, hk, rfl, hb, hf, hr, hB⟩ := hrel
        by_cases hk5 : k < 5
        · have hlt1 : k + 1 < 6 := by omega
          have c1 := hf.cell k (by omega)
          have c2 := hf.cell (k + 1) (by omega)
          have z1 := hf.free k
          have z2 := hf.free (k + 1)
          have hB' : Hid (Bub d (swp f k) i (k + 1)) := hB.out.step hk5
          by_cases hs : f (k + 1) < f k
          · have hsd : decide (f (k + 1) < f k) = true := decide_eq_true hs
            go_wp2_with fail
            go_quiet (fail)
            go_wp2_with fail
            go_roundw
            case rel =>
              have e : ∀ j, j < 6 → put (put f k (f (k + 1))) (k + 1) (f k) j = swp f k j := fun j _ => by
                simp only [put, swp, hs, ↓reduceIte]
                by_cases h1 : j = k
                · rw [if_neg (by omega), if_pos h1, if_pos h1]
                · rw [if_neg h1, if_neg h1]
              exact ⟨k + 1, swp f k, r, by omega, by go_num, ((below_drewN hb _).setCell (Nat.le_refl _) _).setCell (Nat.le_refl _) _, (((hf.drewN _).set (by omega) _).set hlt1 _).congr e, ((hr.drewN _).other (by omega) _ _).other (by omega) _ _, hB'⟩
            case measure => simp [intOf]; omega
          · have hsd : decide (f (k + 1) < f k) = false := decide_eq_false hs
            have e : Hid (∀ j, j < 6 → f j = swp f k j) := fun j _ => by simp only [swp, hs, ↓reduceIte]
            go_wp2_with fail
            go_quiet (fail)
            go_wp2_with fail
            go_roundw
            case rel => exact ⟨k + 1, swp f k, r, by omega, by go_num, below_drewN hb _, (hf.congr e.out).drewN _, hr.drewN _, hB'⟩
            case measure => simp [intOf]; omega
        · obtain rfl : k = 5 := by omega
          go_wp2_with fail
          go_roundw
          case rel => exact ⟨i + 1, f, r, by omega, by go_num, hb, hf, hr, hB.out.next (by omega)⟩
          case measure => simp [intOf]; omega
    · obtain rfl : i = 6 := by omega
      have hf' := hf0.congr hB0.out.sorted
      obtain ⟨e0, e1, e2, e3, e4, e5⟩ := hf'.six
      obtain ⟨r0, r1, r2, r3, r4, r5⟩ := hr0.six
      obtain ⟨z0, z1, z2, z3, z4, z5⟩ := hr0.free6
      go_wp2_with fail
      refine ret_cell (b := w.heap.size + 1) (n := 6) (f := srt d) Try.results136 rfl Try.underlying72 (by kernel_rfl) (hr0.stored (srt d)) rfl ⟨rfl, ?_⟩
      exact hb0.trans (setCells_below (w := wr) (p := w.heap.size + 1) (B := w.heap.size) (by omega) (vals 6 (srt d)) 0)

end BubW
end Go.Proofs.Ytbcaahaaaodhkaa
