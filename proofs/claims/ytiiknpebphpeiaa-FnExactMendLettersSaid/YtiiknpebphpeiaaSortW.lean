/-
  Contracts of the functions that sort six numbers and tell a die, in the program and in its model.
-/
import Derived.Test.YtiiknpebphpeiaaRows
import Derived.Test.YtiiknpebphpeiaaDieW
import Derived.Test.YtiiknpebphpeiaaShelfSort
import Derived.Lib.RowBridge
import Derived.Lib.SortBridge
import Derived.Laws.StructEq
namespace Go.Proofs.Ytiiknpebphpeiaa
open Go.RowKit

namespace SortW
open Dice Arr DieW

theorem At.grown {w : World} {b n : Nat} {f : Nat → Int} (h : At w b n f) (os : Array Obj) : At (Go.Sort.grow w os) b n f :=
  ⟨Nat.lt_of_lt_of_le h.lt (by rw [Go.Sort.size_grow]; omega), fun k hk => by rw [Go.Sort.cell?_grow w os _ h.lt]; exact h.cell k hk, fun k => by rw [Go.Sort.frozen?_grow w os _ h.lt]; exact h.free k⟩
theorem below_grow (w : World) (os : Array Obj) {B : Nat} (hB : B ≤ w.heap.size) : Below B w (Go.Sort.grow w os) :=
  ⟨rfl, rfl, rfl, by rw [Go.Sort.size_grow]; omega, fun k hk => Go.Sort.heap_grow_old w os (by omega)⟩
theorem vals_srt (d : Nat → Int) : (sl d).map (Value.int .i64) = vals 6 (srt d) := by
  rw [← L_srt]
  rfl

/-- The library's sort on six numbers. -/
theorem sort6_any (d : Nat → Int) (b : Nat) (w : World) (h : At w b 6 d) :
    Calls Try.prog 125 #[.slice (some ⟨b, 0, none⟩) 6 6] w fun e w' => e = .returned (.tuple #[]) ∧ At w' b 6 (srt d) ∧ (∀ B, B ≤ b → Below B w w') ∧ (∀ p n f, p ≠ b → At w p n f → At w' p n f) := by
  have hH := Lib.holds_of_ints (w := w) (b := b) (off := 0) (n := 6) (zs := L d) (Nat.le_refl 6) (fun j hj => by rw [Nat.zero_add, L_get hj]; exact h.cell j hj) (fun j _ => h.free _)
  have ht : (L d).take 6 = L d := rfl
  rw [ht] at hH
  refine (Try.slices_Sort_int b 0 6 (L d) w hH h.lt (show 6 < 4611686018427387904 by omega)).mono ?_
  rintro e w' ⟨he, q, os, hw⟩
  have hw2 : w' = Go.Sort.grow ((w.drewN q).setCells b 0 (vals 6 (srt d))) os := by
    rw [hw, Lib.sorted_world _ w b 0 q _ _ os hH (by simp [L]), ← vals_srt]
    rfl
  subst hw2
  refine ⟨he, At.grown ((h.drewN q).stored (srt d)) os, fun B hB => ?_, fun p n f hp hf => At.grown ((hf.drewN q).keep hp _ _) os⟩
  have h1 : Below B w ((w.drewN q).setCells b 0 (vals 6 (srt d))) := (below_drewN (Below.refl B w) q).trans (setCells_below hB _ _)
  exact h1.trans (below_grow _ os (Nat.le_trans hB (Nat.le_trans (Nat.le_of_lt h.lt) h1.size)))

set_option maxHeartbeats 2000000 in
theorem implSortDie_any (d : Nat → Int) (w : World) :
    Calls Try.prog 113 #[dv d] w fun e w' => e = .returned (.tuple (if fits d then #[dv (srt d), .bool true] else #[dv fun _ => 0, .bool false])) ∧ Below w.heap.size w w' := by
  have hsort := Lib.hid (fun b w h => sort6_any d b w h)
  unfold dv
  by_cases h0 : srt d 0 < 0
  · have hd0 : decide (srt d 0 < 0) = true := decide_eq_true h0
    have hf : fits d = false := by unfold fits; rw [hd0]; rfl
    rw [hf]
    clear hf
    simp only [Bool.false_eq_true, ↓reduceIte]
    go_enter Try.func113, Try.ntmps113
    go_wp2_with fail
    refine (hsort.out w.heap.size _ ((At.new6 w d _ rfl).past _)).mono ?_
    rintro e w1 ⟨rfl, hs, hb, hk⟩
    have hr := hk (w.heap.size + 1) 6 (fun _ => 0) (by omega) (At.new6 _ (fun _ => 0) _ (by rw [size_alloc]))
    have hbl : Below w.heap.size w w1 := (((Below.refl w.heap.size w).alloc (Nat.le_refl _) _).alloc (by rw [size_alloc]; omega) _).trans (hb _ (Nat.le_refl _))
    clear hb hk hsort
    obtain ⟨e0, e1, e2, e3, e4, e5⟩ := hs.six
    obtain ⟨r0, r1, r2, r3, r4, r5⟩ := hr.six
    obtain ⟨z0, z1, z2, z3, z4, z5⟩ := hr.free6
    go_wp2_with fail
    refine ret_cell_tmp (b := w.heap.size + 1) (n := 6) (f := fun _ => 0) Try.results113 rfl rfl Try.underlying61 (by kernel_rfl) (hr.stored (fun _ => 0)) rfl ⟨rfl, ?_⟩
    exact hbl.trans (setCells_below (w := w1) (p := w.heap.size + 1) (B := w.heap.size) (by omega) (vals 6 (fun _ => 0)) 0)
  have hd0 : decide (srt d 0 < 0) = false := decide_eq_false h0
  by_cases h5 : 30 < srt d 5
  · have hd5 : decide (30 < srt d 5) = true := decide_eq_true h5
    have hf : fits d = false := by unfold fits; rw [hd0, hd5]; rfl
    rw [hf]
    clear hf
    simp only [Bool.false_eq_true, ↓reduceIte]
    go_enter Try.func113, Try.ntmps113
    go_wp2_with fail
    refine (hsort.out w.heap.size _ ((At.new6 w d _ rfl).past _)).mono ?_
    rintro e w1 ⟨rfl, hs, hb, hk⟩
    have hr := hk (w.heap.size + 1) 6 (fun _ => 0) (by omega) (At.new6 _ (fun _ => 0) _ (by rw [size_alloc]))
    have hbl : Below w.heap.size w w1 := (((Below.refl w.heap.size w).alloc (Nat.le_refl _) _).alloc (by rw [size_alloc]; omega) _).trans (hb _ (Nat.le_refl _))
    clear hb hk hsort
    obtain ⟨e0, e1, e2, e3, e4, e5⟩ := hs.six
    obtain ⟨r0, r1, r2, r3, r4, r5⟩ := hr.six
    obtain ⟨z0, z1, z2, z3, z4, z5⟩ := hr.free6
    go_wp2_with fail
    refine ret_cell_tmp (b := w.heap.size + 1) (n := 6) (f := fun _ => 0) Try.results113 rfl rfl Try.underlying61 (by kernel_rfl) (hr.stored (fun _ => 0)) rfl ⟨rfl, ?_⟩
    exact hbl.trans (setCells_below (w := w1) (p := w.heap.size + 1) (B := w.heap.size) (by omega) (vals 6 (fun _ => 0)) 0)
  · have hd5 : decide (30 < srt d 5) = false := decide_eq_false h5
    have hf : fits d = true := by unfold fits; rw [hd0, hd5]; rfl
    rw [hf]
    clear hf
    simp only [↓reduceIte]
    go_enter Try.func113, Try.ntmps113
    go_wp2_with fail
    refine (hsort.out w.heap.size _ ((At.new6 w d _ rfl).past _)).mono ?_
    rintro e w1 ⟨rfl, hs, hb, hk⟩
    have hr := hk (w.heap.size + 1) 6 (fun _ => 0) (by omega) (At.new6 _ (fun _ => 0) _ (by rw [size_alloc]))
    have hbl : Below w.heap.size w w1 := (((Below.refl w.heap.size w).alloc (Nat.le_refl _) _).alloc (by rw [size_alloc]; omega) _).trans (hb _ (Nat.le_refl _))
    clear hb hk hsort
    obtain ⟨e0, e1, e2, e3, e4, e5⟩ := hs.six
    obtain ⟨r0, r1, r2, r3, r4, r5⟩ := hr.six
    obtain ⟨z0, z1, z2, z3, z4, z5⟩ := hr.free6
    go_wp2_with fail
    refine ret_cell_tmp (b := w.heap.size + 1) (n := 6) (f := srt d) Try.results113 rfl rfl Try.underlying61 (by kernel_rfl) (hr.stored (srt d)) rfl ⟨rfl, ?_⟩
    exact hbl.trans (setCells_below (w := w1) (p := w.heap.size + 1) (B := w.heap.size) (by omega) (vals 6 (srt d)) 0)

theorem past1 {w w1 : World} {o : Obj} (hb : Below (w.alloc o).heap.size (w.alloc o) w1) : Below w.heap.size w w1 :=
  ((Below.refl w.heap.size w).alloc (Nat.le_refl _) o).trans (hb.mono (by rw [size_alloc]; omega))
theorem dv_vals (d : Nat → Int) : dv d = .agg (vals 6 d).toArray := rfl
set_option maxHeartbeats 2000000 in
theorem implIsDie_any (d : Nat → Int) (w : World) :
    Calls Try.prog 109 #[dv d] w fun e w' => e = .returned (.bool (isDie d)) ∧ Below w.heap.size w w' := by
  have hsd := implSortDie_any d
  cases hf : fits d
  · have hno : isDie d = false := by rw [isDie_eq, hf]; rfl
    rw [hf] at hsd
    simp only [Bool.false_eq_true, ↓reduceIte] at hsd
    rw [hno]
    clear hf hno
    unfold dv at hsd
    have Hsd := Lib.hid hsd; clear hsd
    unfold dv
    go_enter Try.func109, Try.ntmps109
    go_wp2_with fail
    refine (Hsd.out _).mono ?_
    rintro e w1 ⟨rfl, hb⟩
    go_wp2_with fail
    go_ret
    exact ⟨rfl, (past1 hb).alloc (Nat.le_trans (by rw [size_alloc]; omega) hb.size) _⟩
  · have hno : isDie d = decide (agree (srt d) d 6) := by rw [isDie_eq, hf]; rfl
    rw [hf] at hsd
    simp only [↓reduceIte] at hsd
    rw [hno]
    clear hf hno
    have heq := fun w => run_eql_vals (P := Try.prog) w 61 3 6 Try.underlying61 Try.underlying3 Try.sizeOf3 (srt d) d
    simp only [← dv_vals] at heq
    unfold dv at hsd heq
    have Hsd := Lib.hid hsd; clear hsd
    unfold dv
    go_enter Try.func109, Try.ntmps109
    go_wp2_with fail
    refine (Hsd.out _).mono ?_
    rintro e w1 ⟨rfl, hb⟩
    have hd := ((At.new6 w d 61 rfl)).up hb
    obtain ⟨e0, e1, e2, e3, e4, e5⟩ := hd.six
    have hlt := hd.lt
    go_wp2_with fail
    go_ret
    exact ⟨rfl, (past1 hb).alloc (Nat.le_trans (by rw [size_alloc]; omega) hb.size) _⟩

end SortW
end Go.Proofs.Ytiiknpebphpeiaa
