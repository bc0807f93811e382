/-
  Sorting a part of an array down.
-/
import Derived.Test.YtbcaahaaaodhkaaRows
import Derived.Test.YtbcaahaaaodhkaaPlaces
import Derived.Test.YtbcaahaaaodhkaaShelfSort
import Derived.Test.YtbcaahaaaodhkaaArr
import Derived.Test.YtbcaahaaaodhkaaDieW
import Derived.Test.YtbcaahaaaodhkaaSortW
import Derived.Test.YtbcaahaaaodhkaaOpenD
import Derived.WalkKit
import Derived.WalkLawsBesides
import Derived.WalkSpells
import Derived.ProofKit
import Derived.OpenShut
import Derived.Deep.RegionWith
import Derived.Deep.QuietTactic
import Derived.BigQuiet
namespace Go.Proofs.Ytbcaahaaaodhkaa
open Go.ChangeShapes Go.WideShapes Go.ChangeAt Go.RowKit
open Go.ChangeMaps (open_string shut_string)

namespace SortDn
open Arr SortW Places

/-- Some cells of an array written anew. -/
def lay (F : Nat → Int) (off n : Nat) (ys : List Int) : Nat → Int := fun j => if off ≤ j ∧ j < off + n then ys.getD (j - off) 0 else F j
theorem At.lay {w : World} {b m : Nat} {F : Nat → Int} (h : At w b m F) {off n : Nat} {ys : List Int} (hy : ys.length = n) (ho : off + n ≤ m) : At (w.setCells b off (ys.map (Value.int .i64))) b m (lay F off n ys) := by
  refine ⟨Nat.lt_of_lt_of_le h.lt (setCells_below (B := 0) (Nat.zero_le _) _ _).size, fun k hk => ?_, fun k => by rw [World.frozen?_setCells]; exact h.free k⟩
  by_cases hin : off ≤ k ∧ k < off + n
  · have h1 := World.cell?_setCells_in b (ys.map (Value.int .i64)) off w (fun j hj => by rw [List.length_map, hy] at hj; rw [h.cell (off + j) (by omega)]; rfl) (k - off) (by rw [List.length_map, hy]; omega)
    rw [show off + (k - off) = k by omega] at h1
    rw [h1]
    show _ = some (Value.int .i64 (if off ≤ k ∧ k < off + n then ys.getD (k - off) 0 else F k))
    rw [if_pos hin, List.getElem_map, List.getD_eq_getElem?_getD, List.getElem?_eq_getElem (by rw [hy]; omega)]
    rfl
  · rw [World.cell?_setCells_out b _ off w ⟨b, k, none⟩ (fun _ _ => by rw [List.length_map, hy]; show k < off ∨ off + n ≤ k; omega)]
    show _ = some (Value.int .i64 (if off ≤ k ∧ k < off + n then ys.getD (k - off) 0 else F k))
    rw [if_neg hin]
    exact h.cell k hk
theorem lay_lay (F : Nat → Int) (off n : Nat) (ys zs : List Int) : lay (lay F off n ys) off n zs = lay F off n zs := by
  funext j
  unfold lay
  split
  · rfl
  · rfl
theorem holds_part {w : World} {b m : Nat} {F : Nat → Int} (h : At w b m F) {off n : Nat} {ys : List Int} (hy : ys.length = n) (ho : off + n ≤ m) (he : ∀ j, j < n → F (off + j) = ys.getD j 0) : Go.Sort.Holds (Value.int .i64) w b off ys.toArray := by
  have hH := Lib.holds_of_ints (w := w) (b := b) (off := off) (n := n) (zs := ys) (Nat.le_of_eq hy.symm) (fun j hj => by rw [← he j (by omega)]; exact h.cell _ (by omega)) (fun j _ => h.free _)
  rw [List.take_of_length_le (Nat.le_of_eq hy)] at hH
  exact hH
/-- A part of an array brought into descending order. -/
def seg (F : Nat → Int) (off n : Nat) : Nat → Int := fun j => if off ≤ j ∧ j < off + n then ds (fun i => F (off + i)) n (j - off) else F j
theorem seg_lay (F : Nat → Int) (off n : Nat) : lay F off n (dn (Lf (fun i => F (off + i)) n)) = seg F off n := rfl
theorem seg_in {F : Nat → Int} {off n k : Nat} (h : k < n) : seg F off n (off + k) = ds (fun i => F (off + i)) n k := by
  unfold seg
  rw [if_pos (by omega), Nat.add_sub_cancel_left]
theorem seg_out {F : Nat → Int} {off n j : Nat} (h : ¬ (off ≤ j ∧ j < off + n)) : seg F off n j = F j := by
  unfold seg
  rw [if_neg h]
theorem sorted_at {w : World} {b m : Nat} {F : Nat → Int} (h : At w b m F) {off n : Nat} {ys : List Int} (hy : ys.length = n) (ho : off + n ≤ m) (q : Nat) (os : Array Obj) :
    At (Go.Sort.grow ((w.drewN q).setCells b off (ys.map (Value.int .i64))) os) b m (lay F off n ys) ∧ (∀ B, B ≤ b → Below B w (Go.Sort.grow ((w.drewN q).setCells b off (ys.map (Value.int .i64))) os)) ∧ (∀ p n f, p ≠ b → At w p n f → At (Go.Sort.grow ((w.drewN q).setCells b off (ys.map (Value.int .i64))) os) p n f) := by
  refine ⟨At.grown (At.lay (h.drewN q) hy ho) os, fun B hB => ?_, fun p n f hp hf => At.grown ((hf.drewN q).keep hp _ _) os⟩
  have h1 : Below B w ((w.drewN q).setCells b off (ys.map (Value.int .i64))) := (below_drewN (Below.refl B w) q).trans (setCells_below hB _ _)
  exact h1.trans (below_grow _ os (Nat.le_trans hB (Nat.le_trans (Nat.le_of_lt h.lt) h1.size)))
theorem grow_none (w : World) : Go.Sort.grow w #[] = w := by simp [Go.Sort.grow]
/-- The library's sort on a part of an array. -/
theorem sortPart_any (b off n c m : Nat) (F : Nat → Int) (w : World) (h : At w b m F) (ho : off + n ≤ m) (hn : n < 4611686018427387904) :
    Calls Try.prog 112 #[.slice (some ⟨b, off, none⟩) n c] w fun e w' => e = .returned (.tuple #[]) ∧ At w' b m (lay F off n ((Lf (fun i => F (off + i)) n).mergeSort fun x y => decide (x ≤ y))) ∧ (∀ B, B ≤ b → Below B w w') ∧ (∀ p n f, p ≠ b → At w p n f → At w' p n f) := by
  have hl := Lf_length (fun i => F (off + i)) n
  have hH := holds_part h hl ho (fun j hj => (Lf_getD (f := fun i => F (off + i)) hj).symm)
  have hc := Try.slices_Sort_int b off c (Lf (fun i => F (off + i)) n) w hH h.lt (by rw [hl]; exact hn)
  rw [hl] at hc
  refine hc.mono ?_
  rintro e w' ⟨he, q, os, hw⟩
  rw [Lib.sorted_world _ w b off q _ _ os hH (by rw [List.length_mergeSort]; simp)] at hw
  subst hw
  have := sorted_at h (ys := (Lf (fun i => F (off + i)) n).mergeSort fun x y => decide (x ≤ y)) (by rw [List.length_mergeSort, hl]) ho q os
  exact ⟨he, this.1, this.2.1, this.2.2⟩
theorem reversePart_any (b off n c m : Nat) (F : Nat → Int) (ys : List Int) (w : World) (hy : ys.length = n) (h : At w b m (lay F off n ys)) (ho : off + n ≤ m) (hn : n < 4611686018427387904) :
    Calls Try.prog 113 #[.slice (some ⟨b, off, none⟩) n c] w fun e w' => e = .returned (.tuple #[]) ∧ At w' b m (lay F off n ys.reverse) ∧ (∀ B, B ≤ b → Below B w w') ∧ (∀ p n f, p ≠ b → At w p n f → At w' p n f) := by
  have hH := holds_part h hy ho (fun j hj => by unfold lay; rw [if_pos (by omega), Nat.add_sub_cancel_left])
  have hc := Try.slices_Reverse_int b off c ys w hH (by omega)
  rw [hy] at hc
  refine hc.mono ?_
  rintro e w' ⟨he, q, hw⟩
  have hs := Lib.sorted_world (Value.int .i64) w b off q _ ys.reverse #[] hH (by simp)
  rw [grow_none, grow_none] at hs
  rw [hs] at hw
  subst hw
  have := sorted_at h (ys := ys.reverse) (by rw [List.length_reverse, hy]) ho q #[]
  rw [grow_none, lay_lay] at this
  exact ⟨he, this.1, this.2.1, this.2.2⟩

set_option maxHeartbeats 1000000 in
theorem sortDown_any (b off n c m : Nat) (F : Nat → Int) (w : World) (h : At w b m F) (ho : off + n ≤ m) (hn : n < 4611686018427387904) :
    Calls Try.prog 86 #[.slice (some ⟨b, off, none⟩) n c] w fun e w' => e = .returned (.tuple #[]) ∧ At w' b m (seg F off n) ∧ (∀ B, B ≤ b → Below B w w') ∧ (∀ p n f, p ≠ b → At w p n f → At w' p n f) := by
  have H1 := Lib.hid (sortPart_any b off n c m F w h ho hn)
  have H2 := Lib.hid (fun w h => reversePart_any b off n c m F ((Lf (fun i => F (off + i)) n).mergeSort fun x y => decide (x ≤ y)) w (by rw [List.length_mergeSort, Lf_length]) h ho hn)
  clear h
  go_enter Try.func86, Try.ntmps86
  go_wp2_with fail
  refine H1.out.mono ?_
  rintro e w1 ⟨rfl, hA1, hB1, hK1⟩
  go_wp2_with fail
  refine (H2.out _ hA1).mono ?_
  rintro e w2 ⟨rfl, hA2, hB2, hK2⟩
  rw [dn_rev, seg_lay] at hA2
  go_wp2_with fail
  go_end0
  exact ⟨rfl, hA2, fun B hB => (hB1 B hB).trans (hB2 B hB), fun p n f hp hf => hK2 p n f hp (hK1 p n f hp hf)⟩


end SortDn
end Go.Proofs.Ytbcaahaaaodhkaa
