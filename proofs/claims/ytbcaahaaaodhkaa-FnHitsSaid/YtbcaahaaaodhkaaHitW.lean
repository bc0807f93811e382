/-
  Contracts of the functions that count hits.
-/
import Derived.Test.YtbcaahaaaodhkaaRows
import Derived.Test.YtbcaahaaaodhkaaHits
import Derived.Test.YtbcaahaaaodhkaaFive
import Derived.Test.YtbcaahaaaodhkaaArr
import Derived.Test.YtbcaahaaaodhkaaDieW
import Derived.Test.YtbcaahaaaodhkaaSortW
import Derived.Test.YtbcaahaaaodhkaaOpenD
import Derived.WalkKit
import Derived.WalkLawsBesides
import Derived.WalkSpells
import Derived.ProofKit
import Derived.OpenShut
import Derived.Deep.RegionWith
import Derived.Deep.QuietTactic
import Derived.BigQuiet
namespace Go.Proofs.Ytbcaahaaaodhkaa
open Go.ChangeShapes Go.WideShapes Go.ChangeAt Go.RowKit
open Go.ChangeMaps (open_string shut_string)

namespace HitW
open Dice Arr DieW SortW Hits Five

set_option maxHeartbeats 4000000 in
theorem withHits_any (f d : Nat → Int) (i : Nat) (b : Int) (w : World) (ht : HTab f i 1296) :
    Calls Try.prog 73 #[v5 f, dv d, .int .i64 b] w fun e w' => e = .returned (v5 (hs f (hitN d b 6) 4)) ∧ Below w.heap.size w w' := by
  have hh := hitN_le d b 6
  obtain ⟨h, hE⟩ : ∃ h, hitN d b 6 = h := ⟨_, rfl⟩
  rw [hE] at hh ⊢
  have HE := Lib.hid hE; clear hE
  have hix0 := fun (w : World) (k : Nat) (hk : k < 6) => run_index_vals (P := Try.prog) w 72 3 6 Try.underlying72 Try.underlying3 Try.sizeOf3 d hk
  simp only [← dv_vals] at hix0
  unfold dv at hix0
  have Hix0 := Lib.hid hix0; clear hix0
  have hA := ((At.new5 w f 45 rfl).past (sixO d 72)).past (fiveO (fun _ => 0) 45)
  have hD := (At.new6 (w.alloc (fiveO f 45)) d 72 (b := w.heap.size + 1) (by rw [size_alloc])).past (fiveO (fun _ => 0) 45)
  have hR := At.new5 ((w.alloc (fiveO f 45)).alloc (sixO d 72)) (fun _ => 0) 45 (b := w.heap.size + 2) (by rw [size_alloc, size_alloc])
  have hB := na (na (na (n0 w) (fiveO f 45)) (sixO d 72)) (fiveO (fun _ => 0) 45)
  have hS : (((w.alloc (fiveO f 45)).alloc (sixO d 72)).alloc (fiveO (fun _ => 0) 45)).heap.size = w.heap.size + 3 := by rw [size_alloc, size_alloc, size_alloc]
  unfold dv
  go_enter Try.func73, Try.ntmps73
  go_wp2_with fail
  generalize ((w.alloc (fiveO f 45)).alloc (sixO d 72)).alloc (fiveO (fun _ => 0) 45) = W at hA hD hR hB hS ⊢
  have HS := Lib.hid hS; clear hS
  clear hD
  go_loopw [7, 14] (fun hv iv wr => ∃ k : Nat, k ≤ 6 ∧ iv = .int .i64 k ∧ hv = .int .i64 (hitN d b k : Nat) ∧ wr = W) (fun _ iv _ => 6 - (intOf iv).toNat)
  case atStart => exact ⟨0, by omega, rfl, rfl, rfl⟩
  case round =>
    obtain ⟨k, hk, rfl, rfl, rfl⟩ := hrel
    by_cases hlt : k < 6
    · have hixk := fun w => Hix0.out w k hlt
      have hle := hitN_le d b k
      by_cases hh : b ≤ d k
      · have hd1 : decide (b ≤ d k) = true := decide_eq_true hh
        have He := Lib.hid (hitN_yes hh)
        generalize hitN d b k = h0 at *
        go_wp2_with fail
        go_roundw
        case rel => exact ⟨k + 1, by omega, by go_num, by rw [He.out]; go_num, by first | rfl | trivial⟩
        case measure => simp [intOf]; omega
      · have hd1 : decide (b ≤ d k) = false := decide_eq_false hh
        have He := Lib.hid (hitN_no hh)
        generalize hitN d b k = h0 at *
        go_wp2_with fail
        go_roundw
        case rel => exact ⟨k + 1, by omega, by go_num, by rw [He.out], by first | rfl | trivial⟩
        case measure => simp [intOf]; omega
    · obtain rfl : k = 6 := by omega
      clear hlt hk
      obtain ⟨W0, rfl⟩ : ∃ W0, W0 = wr := ⟨wr, rfl⟩
      rw [HE.out]
      have hA1 := hA.past (fiveO (fun _ => 0) 45)
      have hR1 := hR.past (fiveO (fun _ => 0) 45)
      have hM1 := (At.new5 W0 (fun _ => 0) 45 (b := w.heap.size + 3) HS.out.symm).congr (g := hs f h 0) fun _ _ => hs_none.symm
      have hB1 := na hB (fiveO (fun _ => 0) 45)
      have hlt3 := hM1.lt
      have hS := HS.out
      go_wp2_with fail
      generalize W0.alloc (fiveO (fun _ => 0) 45) = W1 at *
      clear hA hR hB hS
      go_loopw [25] (fun iv wr => ∃ k : Nat, k ≤ 4 ∧ iv = .int .i64 k ∧ Below w.heap.size w wr ∧ At wr w.heap.size 5 f ∧ At wr (w.heap.size + 2) 5 (fun _ => 0) ∧ At wr (w.heap.size + 3) 5 (hs f h k)) (fun iv _ => 4 - (intOf iv).toNat)
      case atStart => exact ⟨0, by omega, rfl, hB1, hA1, hR1, hM1⟩
      case round =>
        clear hB1 hA1 hR1 hM1
        obtain ⟨k, hk, rfl, hB, hA, hR, hM⟩ := hrel
        by_cases hlt : k < 4
        · have c0 := hA.cell k (by omega)
          have c1 := hM.cell k (by omega)
          have c2 := hM.cell (k + 1) (by omega)
          have z1 := hM.free k
          have z2 := hM.free (k + 1)
          have b1 := ht.hs_bound hh k k
          have b2 := ht.hs_bound hh k (k + 1)
          have b3 := part_bound (ht.nn k).1 (ht.nn k).2 hh
          have hP := Lib.hid (hs_put f h k)
          go_wp2_with fail
          go_roundw
          case rel =>
            refine ⟨k + 1, by omega, by go_num, (hB.setCell (p := ⟨w.heap.size + 3, k, none⟩) (by show w.heap.size ≤ w.heap.size + 3; omega) _).setCell (p := ⟨w.heap.size + 3, k + 1, none⟩) (by show w.heap.size ≤ w.heap.size + 3; omega) _, (hA.other (by omega) _ _).other (by omega) _ _, (hR.other (by omega) _ _).other (by omega) _ _, ?_⟩
            rw [← hP.out]
            exact (hM.set (i := k) (by omega) _).set (i := k + 1) (by omega) _
          case measure => simp [intOf]; omega
        · obtain rfl : k = 4 := by omega
          obtain ⟨e0, e1, e2, e3, e4⟩ := At.five hM
          obtain ⟨r0, r1, r2, r3, r4⟩ := At.five hR
          obtain ⟨z0, z1, z2, z3, z4⟩ := At.freefive hR
          go_wp2_with fail
          refine ret_cell (b := w.heap.size + 2) (n := 5) (f := hs f h 4) Try.results73 rfl Try.underlying45 (by kernel_rfl) (hR.stored (hs f h 4)) rfl ⟨rfl, ?_⟩
          exact hB.trans (setCells_below (w := wr) (p := w.heap.size + 2) (B := w.heap.size) (by omega) (vals 5 (hs f h 4)) 0)


end HitW
end Go.Proofs.Ytbcaahaaaodhkaa
