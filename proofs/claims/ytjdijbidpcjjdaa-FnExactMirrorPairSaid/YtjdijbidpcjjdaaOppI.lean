/-
  The opposite die, both sides.
-/
import Derived.Test.YtjdijbidpcjjdaaRows
import Derived.Test.YtjdijbidpcjjdaaSortW
import Derived.Test.YtjdijbidpcjjdaaOpenD
import Derived.WalkKit
import Derived.WalkLawsBesides
import Derived.WalkSpells
import Derived.ProofKit
import Derived.OpenShut
import Derived.Deep.RegionWith
import Derived.Deep.QuietTactic
import Derived.BigQuiet
namespace Go.Proofs.Ytjdijbidpcjjdaa
open Go.ChangeShapes Go.WideShapes Go.ChangeAt Go.RowKit
open Go.ChangeMaps (open_string shut_string)

namespace OppI
open Dice Arr DieW SortW

/-- The opposite numbers. -/
def opp (d : Nat → Int) (k : Nat) : Int := d 0 + d 5 - d (5 - k)

set_option maxHeartbeats 2000000 in
theorem specOpp_any (d : Nat → Int) (w : World) : Calls Try.prog 57 #[dv d] w fun e w' => e = .returned (.tuple (if isDie d then #[dv (opp d), .bool true] else #[dv fun _ => 0, .bool false])) ∧ Below w.heap.size w w' := by
  have hc := l2Die_any d
  unfold dv at hc
  have Hc := Lib.hid hc; clear hc
  unfold dv
  cases hf : isDie d
  · rw [hf] at Hc
    simp only [Bool.false_eq_true, ↓reduceIte]
    clear hf
    go_enter Try.func57, Try.ntmps57
    go_wp2_with fail
    refine (Hc.out _).mono ?_
    rintro e w1 ⟨rfl, hb1⟩
    have hbl : Below w.heap.size w w1 := nx (na (na (n0 w) _) _) hb1
    have hr := (At.new6 (w.alloc (sixO d 22)) (fun _ => 0) 22 (b := w.heap.size + 1) (by rw [size_alloc])).up hb1
    obtain ⟨r0, r1, r2, r3, r4, r5⟩ := hr.six
    obtain ⟨z0, z1, z2, z3, z4, z5⟩ := hr.free6
    clear hb1
    go_wp2_with fail
    refine ret_cell_tmp (b := w.heap.size + 1) (n := 6) (f := fun _ => 0) Try.results57 rfl rfl Try.underlying22 (by kernel_rfl) (hr.stored (fun _ => 0)) rfl ⟨rfl, ?_⟩
    exact hbl.trans (setCells_below (w := w1) (p := w.heap.size + 1) (B := w.heap.size) (by omega) (vals 6 (fun _ => 0)) 0)

  · have hu : upto d 6 := of_decide_eq_true hf
    rw [hf] at Hc
    simp only [↓reduceIte]
    clear hf
    go_enter Try.func57, Try.ntmps57
    go_wp2_with fail
    refine (Hc.out _).mono ?_
    rintro e w1 ⟨rfl, hb1⟩
    have hbl : Below w.heap.size w w1 := nx (na (na (n0 w) _) _) hb1
    have hr1 := (At.new6 (w.alloc (sixO d 22)) (fun _ => 0) 22 (b := w.heap.size + 1) (by rw [size_alloc])).up hb1
    have hd1 := ((At.new6 w d 22 rfl).past (sixO (fun _ => 0) 22)).up hb1
    clear hb1
    have hlt1 := hr1.lt
    go_wp2_with fail
    go_loopw [5] (fun i wr => ∃ (k : Nat) (f : Nat → Int), k ≤ 6 ∧ i = .int .i64 k ∧ Below w.heap.size w wr ∧ At wr w.heap.size 6 d ∧ At wr (w.heap.size + 1) 6 (fun _ => 0) ∧ At wr w1.heap.size 6 f ∧ w.heap.size + 1 < w1.heap.size ∧ Hid (∀ j, j < k → f j = opp d j)) (fun i _ => 6 - (intOf i).toNat)
    case atStart => exact ⟨0, fun _ => 0, by omega, rfl, na hbl _, hd1.past _, hr1.past _, At.new6 w1 (fun _ => 0) _ rfl, hlt1, fun j hj => by omega⟩
    case round =>
      obtain ⟨k, f, hk, rfl, hb, hd, hr, hf, hs, he⟩ := hrel
      by_cases hlt : k < 6
      · have c0 := hd.cell 0 (by omega)
        have c5 := hd.cell 5 (by omega)
        have ck := hd.cell (5 - k) (by omega)
        have co := hf.cell k hlt
        have zo := hf.free k
        have b0 := hu 0 (by omega)
        have b5 := hu 5 (by omega)
        have bk := hu (5 - k) (by omega)
        have hix : ((5 : Int) - (k : Int)).toNat = 5 - k := by omega
        go_wp2_with fail
        go_region
        all_goals
          go_wp2_with fail
          go_roundw
          case rel => exact ⟨k + 1, put f k (opp d k), by omega, by go_num, (hb.setCell (p := ⟨w1.heap.size, k, none⟩) (by show w.heap.size ≤ w1.heap.size; omega) _).drew, (hd.other (by omega) _ _).drew, (hr.other (by omega) _ _).drew, (hf.set hlt _).drew, hs, put_fill he.out⟩
          case measure => simp [intOf]; omega
      · obtain rfl : k = 6 := by omega
        have hf' : At wr w1.heap.size 6 (opp d) := hf.congr fun k hk => he.out k hk
        obtain ⟨e0, e1, e2, e3, e4, e5⟩ := hf'.six
        obtain ⟨r0, r1, r2, r3, r4, r5⟩ := hr.six
        obtain ⟨z0, z1, z2, z3, z4, z5⟩ := hr.free6
        go_wp2_with fail
  
        refine ret_cell_tmp (b := w.heap.size + 1) (n := 6) (f := opp d) Try.results57 rfl rfl Try.underlying22 (by kernel_rfl) (hr.stored (opp d)) rfl ⟨rfl, ?_⟩
        exact hb.trans (setCells_below (w := wr) (p := w.heap.size + 1) (B := w.heap.size) (by omega) (vals 6 (opp d)) 0)
set_option maxHeartbeats 2000000 in
theorem implOpp_any (d : Nat → Int) (w : World) : Calls Try.prog 58 #[dv d] w fun e w' => e = .returned (.tuple (if isDie d then #[dv (opp d), .bool true] else #[dv fun _ => 0, .bool false])) ∧ Below w.heap.size w w' := by
  have hc := implIsDie_any d
  unfold dv at hc
  have Hc := Lib.hid hc; clear hc
  unfold dv
  cases hf : isDie d
  · rw [hf] at Hc
    simp only [Bool.false_eq_true, ↓reduceIte]
    clear hf
    go_enter Try.func58, Try.ntmps58
    go_wp2_with fail
    refine (Hc.out _).mono ?_
    rintro e w1 ⟨rfl, hb1⟩
    have hbl : Below w.heap.size w w1 := nx (na (na (n0 w) _) _) hb1
    have hr := (At.new6 (w.alloc (sixO d 22)) (fun _ => 0) 22 (b := w.heap.size + 1) (by rw [size_alloc])).up hb1
    obtain ⟨r0, r1, r2, r3, r4, r5⟩ := hr.six
    obtain ⟨z0, z1, z2, z3, z4, z5⟩ := hr.free6
    clear hb1
    go_wp2_with fail
    refine ret_cell_tmp (b := w.heap.size + 1) (n := 6) (f := fun _ => 0) Try.results58 rfl rfl Try.underlying22 (by kernel_rfl) (hr.stored (fun _ => 0)) rfl ⟨rfl, ?_⟩
    exact hbl.trans (setCells_below (w := w1) (p := w.heap.size + 1) (B := w.heap.size) (by omega) (vals 6 (fun _ => 0)) 0)

  · have hu : upto d 6 := of_decide_eq_true hf
    rw [hf] at Hc
    simp only [↓reduceIte]
    clear hf
    go_enter Try.func58, Try.ntmps58
    go_wp2_with fail
    refine (Hc.out _).mono ?_
    rintro e w1 ⟨rfl, hb1⟩
    have hbl : Below w.heap.size w w1 := nx (na (na (n0 w) _) _) hb1
    have hr1 := (At.new6 (w.alloc (sixO d 22)) (fun _ => 0) 22 (b := w.heap.size + 1) (by rw [size_alloc])).up hb1
    have hd1 := ((At.new6 w d 22 rfl).past (sixO (fun _ => 0) 22)).up hb1
    clear hb1
    have hlt1 := hr1.lt
    obtain ⟨x0, x1, x2, x3, x4, x5⟩ := hd1.six
    have hltd := hd1.lt
    have hix0 := fun (w : World) (k : Nat) (hk : k < 6) => run_index_vals (P := Try.prog) w 22 3 6 Try.underlying22 Try.underlying3 Try.sizeOf3 d hk
    simp only [← dv_vals] at hix0
    unfold dv at hix0
    have Hix := Lib.hid hix0; clear hix0
    go_wp2_with fail
    go_loopw [12] (fun i wr => ∃ (k : Nat) (f : Nat → Int), k ≤ 6 ∧ i = .int .i64 k ∧ Below w.heap.size w wr ∧ At wr w.heap.size 6 d ∧ At wr (w.heap.size + 1) 6 (fun _ => 0) ∧ At wr w1.heap.size 6 f ∧ w.heap.size + 1 < w1.heap.size ∧ Hid (∀ j, j < k → f (5 - j) = opp d (5 - j))) (fun i _ => 6 - (intOf i).toNat)
    case atStart => exact ⟨0, fun _ => 0, by omega, rfl, na hbl _, hd1.past _, hr1.past _, At.new6 w1 (fun _ => 0) _ rfl, hlt1, fun j hj => by omega⟩
    case round =>
      clear x0 x1 x2 x3 x4 x5
      obtain ⟨k, f, hk, rfl, hb, hd, hr, hf, hs, he⟩ := hrel
      by_cases hlt : k < 6
      · have c0 := hd.cell 0 (by omega)
        have c5 := hd.cell 5 (by omega)
        have co := hf.cell (5 - k) (by omega)
        have zo := hf.free (5 - k)
        have b0 := hu 0 (by omega)
        have b5 := hu 5 (by omega)
        have bk := hu k (by omega)
        have hix := fun w => Hix.out w k hlt
        have h5k : ((5 : Int) - (k : Int)).toNat = 5 - k := by omega
        go_wp2_with fail
        go_roundw
        case rel =>
          refine ⟨k + 1, put f (5 - k) (d 0 + d 5 - d k), by omega, by go_num, hb.setCell (p := ⟨w1.heap.size, 5 - k, none⟩) (by show w.heap.size ≤ w1.heap.size; omega) _, hd.other (by omega) _ _, hr.other (by omega) _ _, hf.set (by omega) _, hs, ?_⟩
          intro j hj
          by_cases hjk : j = k
          · subst hjk
            rw [put_same]
            unfold opp
            rw [show 5 - (5 - j) = j by omega]
          · rw [put_other _ (by omega)]
            exact he.out j (by omega)
        case measure => simp [intOf]; omega
      · obtain rfl : k = 6 := by omega
        have hf' : At wr w1.heap.size 6 (opp d) := hf.congr fun k hk => by have := he.out (5 - k) (by omega); rwa [show 5 - (5 - k) = k by omega] at this
        obtain ⟨e0, e1, e2, e3, e4, e5⟩ := hf'.six
        obtain ⟨r0, r1, r2, r3, r4, r5⟩ := hr.six
        obtain ⟨z0, z1, z2, z3, z4, z5⟩ := hr.free6
        go_wp2_with fail
  
        refine ret_cell_tmp (b := w.heap.size + 1) (n := 6) (f := opp d) Try.results58 rfl rfl Try.underlying22 (by kernel_rfl) (hr.stored (opp d)) rfl ⟨rfl, ?_⟩
        exact hb.trans (setCells_below (w := wr) (p := w.heap.size + 1) (B := w.heap.size) (by omega) (vals 6 (opp d)) 0)

end OppI
end Go.Proofs.Ytjdijbidpcjjdaa
