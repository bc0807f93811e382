/-
  slices.Repeat of one number.
-/
import Derived.Test.YtjdijbidpcjjdaaRows
import Derived.Test.YtjdijbidpcjjdaaShelfMul
import Derived.Test.YtjdijbidpcjjdaaBndsX
import Derived.Test.YtjdijbidpcjjdaaSumsB
import Derived.Test.YtjdijbidpcjjdaaTableSM
import Derived.Test.YtjdijbidpcjjdaaTableIM
import Derived.Test.YtjdijbidpcjjdaaTableWM
import Derived.Test.YtjdijbidpcjjdaaTableM
import Derived.Test.YtjdijbidpcjjdaaSumsM
import Derived.Test.YtjdijbidpcjjdaaFracW
import Derived.Test.YtjdijbidpcjjdaaCutW
import Derived.Test.YtjdijbidpcjjdaaAll6
import Derived.Test.YtjdijbidpcjjdaaPoolW
import Derived.Test.YtjdijbidpcjjdaaDicesW
import Derived.Test.YtjdijbidpcjjdaaSortW
import Derived.Test.YtjdijbidpcjjdaaDieW
import Derived.Test.YtjdijbidpcjjdaaOpenD
import Derived.Test.YtjdijbidpcjjdaaArr
import Derived.WalkKit
import Derived.WalkLawsBesides
import Derived.WalkSpells
import Derived.ProofKit
import Derived.OpenShut
import Derived.Deep.RegionWith
import Derived.Deep.WholeRow
import Derived.Deep.QuietTactic
import Derived.BigQuiet
namespace Go.Proofs.Ytjdijbidpcjjdaa
open Go.ChangeShapes Go.WideShapes Go.ChangeAt Go.RowKit
open Go.ChangeMaps (open_string shut_string)

namespace RepW
open Dice Arr OpenD DieW SortW DicesW PoolW FracW CutW SumsW Table TableW TableI TableS All6

theorem made_ints (n j : Nat) (h : j < n) : (madeCells (Value.int .i64 0).cells n).toList[j]? = some (.int .i64 0) := by
  have e2 : (madeCells (Value.int .i64 0).cells n) = (Array.range n).map fun _ => Value.int .i64 0 := by
    unfold madeCells
    congr 1
    funext k
    show (#[Value.int .i64 0] : Array Value)[k % 1]! = _
    rw [Nat.mod_one]
    rfl
  rw [e2]
  simp [h]
theorem info_int5 : (Try.prog.info? 3).map (fun i => (i.zero, i.size, i.bytes)) = some (some (.int .i64 0), 1, 8) := by kernel_rfl
theorem run_cpx {w : World} {b n k b2 m2 c2 : Nat} {G f : Nat → Int} (hA : At w b k G) (hn : n ≤ k) (hS : At w b2 m2 f) {m : Nat} (hm : m = Nat.min m2 (k - n)) (c : Nat) :
    (Builtin.copy_ #[58, 58] 3 #[.slice (some ⟨b, n, none⟩) (k - n) c, .slice (some ⟨b2, 0, none⟩) m2 c2]).run Try.prog w = .ok (.int .i64 m) (w.setCells b n (vals m f)) := by
  have hle1 : m ≤ m2 := by rw [hm]; exact Nat.min_le_left _ _
  have hle2 : m ≤ k - n := by rw [hm]; exact Nat.min_le_right _ _
  have hrun := run_copy_cells (P := Try.prog) w 58 58 3 3 b n (k - n) c ⟨b2, 0, none⟩ m2 c2 (vals m f) Try.underlying58 (by kernel_rfl) (by rw [vals_len]; exact hm)
    (fun j v hj => by
      have hlt : j < m := by rw [← vals_len m f]; exact (List.getElem?_eq_some_iff.1 hj).1
      rw [vals_get hlt] at hj
      rw [addr_add, hS.cell j (by omega)]
      exact hj)
    (fun j hj => by rw [vals_len] at hj; rw [hA.cell (n + j) (by omega)]; rfl) (fun j _ => hA.free _) (vals_one m f)
  rw [vals_len] at hrun
  exact hrun
/-- A part of an array overwritten. -/
theorem At.part {w : World} {b k n m : Nat} {G : Nat → Int} (h : At w b k G) (f : Nat → Int) (hm : n + m ≤ k) : At (w.setCells b n (vals m f)) b k (fun j => if n ≤ j ∧ j < n + m then f (j - n) else G j) := by
  refine ⟨Nat.lt_of_lt_of_le h.lt (Lib.below_setCells_w (B := 0) (Nat.zero_le b) _ _ _).size, fun j hj => ?_, fun j => by rw [World.frozen?_setCells]; exact h.free j⟩
  by_cases hin : n ≤ j ∧ j < n + m
  · rw [if_pos hin]
    have := World.cell?_setCells_in b (vals m f) n w (fun j hj => by rw [vals_len] at hj; rw [h.cell (n + j) (by omega)]; rfl) (j - n) (by rw [vals_len]; omega)
    rw [show n + (j - n) = j by omega] at this
    rw [this]
    have h2 := vals_get (f := f) (n := m) (k := j - n) (by omega)
    rw [List.getElem?_eq_getElem (by rw [vals_len]; omega)] at h2
    exact h2
  · rw [if_neg hin, World.cell?_setCells_out b (vals m f) n w ⟨b, j, none⟩ (fun _ _ => by rw [vals_len]; show j < n ∨ n + m ≤ j; omega)]
    exact h.cell j hj

set_option maxHeartbeats 4000000 in
theorem repeat_any (b : Nat) (v : Int) (k : Nat) (hk : k ≤ 6) (w : World) (h : At w b 1 (fun _ => v)) :
    Calls Try.prog 53 #[.slice (some ⟨b, 0, none⟩) 1 1, .int .i64 k] w fun e w' => e = .returned (.slice (some ⟨w.heap.size, 0, none⟩) k k) ∧ At w' w.heap.size k (fun _ => v) ∧ Below w.heap.size w w' := by
  have hm := fun w => Try.bits_Mul 1 k (by omega) (by omega) w
  rw [Nat.one_mul, Nat.div_eq_of_lt (by omega), Nat.mod_eq_of_lt (by omega)] at hm
  have Hm := Lib.hid hm; clear hm
  obtain ⟨i0, hi, hz0, hz1, hz2⟩ := info_parts info_int5
  obtain ⟨w1, hr, hown1, hg1⟩ := run_make_full (P := Try.prog) w w.heap.size 58 3 i0 _ 1 Try.underlying58 hi hz0 hz1 .i64 .i64 k (by rw [hz2]; omega) (by unfold maxLen; omega) (Nat.le_refl _)
  have hb1 : Below w.heap.size w w1 := (Below.refl _ _).grown hg1 (Nat.le_refl _) (fun _ e => by cases e)
  have hA1 : At w1 w.heap.size k (fun _ => 0) := ⟨(hown1.lt _ rfl).2, fun j hj => by rw [hown1.cellAt j (by omega)]; exact made_ints _ _ (by omega), fun j => hown1.frozenAt j⟩
  have hX1 := h.up hb1
  have hlb := h.lt
  clear hi hz0 hz1 hz2 hg1 hown1 h
  have hcp := run_cpx (n := 0) (c2 := 1) hA1 (Nat.zero_le _) hX1 (m := Nat.min 1 (k - 0)) rfl k
  have hA2 := At.part hA1 (n := 0) (m := Nat.min 1 (k - 0)) (fun _ => v) (by have : Nat.min 1 (k - 0) ≤ k - 0 := Nat.min_le_right 1 (k - 0); omega)
  have hB2 := hb1.trans (setCells_below (w := w1) (p := w.heap.size) (B := w.heap.size) (Nat.le_refl _) (vals (Nat.min 1 (k - 0)) fun _ => v) 0)
  have hmin : Nat.min 1 (k - 0) ≤ k ∧ Nat.min 1 (k - 0) ≤ 1 ∧ (1 ≤ k → Nat.min 1 (k - 0) = 1) := ⟨by have : Nat.min 1 (k - 0) ≤ k - 0 := Nat.min_le_right 1 (k - 0); omega, Nat.min_le_left _ _, fun h => Nat.min_eq_left (by omega)⟩
  rw [Nat.sub_zero] at hcp hA2 hB2 hmin
  generalize Nat.min 1 k = m0 at *
  have hkn : decide ((k : Int) < 0) = false := decide_eq_false (by omega)
  have hgt : decide ((9223372036854775807 : Int) < (k : Int)) = false := decide_eq_false (by omega)
  go_enter Try.func53, Try.ntmps53
  go_wp2_with fail
  refine (Hm.out _).mono ?_
  rintro e w2 ⟨rfl, hw2⟩
  have hw2 := hw2.symm
  subst hw2
  go_wp2_with fail
  generalize w1.setCells w.heap.size 0 (vals m0 fun _ => v) = W at *
  clear hcp hr hA1 hX1 hb1 hkn hgt
  go_loopw [8] (fun i wr => ∃ (m : Nat) (G : Nat → Int), m ≤ k ∧ (1 ≤ k → 1 ≤ m) ∧ i = .int .i64 m ∧ Below w.heap.size w wr ∧ At wr w.heap.size k G ∧ Hid (∀ j, j < m → G j = v)) (fun i _ => k - (intOf i).toNat)
  case atStart => exact ⟨m0, _, hmin.1, fun h => by have := hmin.2.2 h; omega, rfl, hB2, hA2, fun j hj => by simp only [Nat.zero_le, Nat.zero_add, hj, and_self, if_true]⟩
  case round =>
    clear hA2 hB2
    obtain ⟨m, G, hmk, hm1, rfl, hB, hA, he⟩ := hrel
    by_cases hlt : m < k
    · have hlt1 : decide ((m : Int) < (k : Int)) = true := decide_eq_true (by omega)
      have h1m := hm1 (by omega)
      have hS : At wr.drew w.heap.size m G := ⟨hA.drew.lt, fun j hj => hA.drew.cell j (by omega), hA.drew.free⟩
      have hcp := run_cpx (n := m) (c2 := k) hA.drew (by omega) hS (m := Nat.min m (k - m)) rfl (k - m)
      have q1 : Nat.min m (k - m) ≤ m := Nat.min_le_left _ _
      have q2 : Nat.min m (k - m) ≤ k - m := Nat.min_le_right _ _
      have q3 : 1 ≤ Nat.min m (k - m) := Nat.le_min.2 ⟨h1m, by omega⟩
      have hA3 := At.part hA.drew (n := m) (m := Nat.min m (k - m)) G (by omega)
      have hB3 := hB.drew.trans (setCells_below (w := wr.drew) (p := w.heap.size) (B := w.heap.size) (Nat.le_refl _) (vals (Nat.min m (k - m)) G) m)
      generalize Nat.min m (k - m) = m2 at *
      clear hA hB hS
      go_wp2_with fail
      go_region
      all_goals
        go_wp2_with fail
        go_roundw
        case rel =>
          refine ⟨m + m2, _, by omega, fun _ => by omega, by go_num, hB3, hA3, fun j hj => ?_⟩
          by_cases hj2 : m ≤ j ∧ j < m + m2
          · simp only [hj2, and_self, if_true]
            exact he.out _ (by omega)
          · rw [if_neg hj2]
            exact he.out j (by omega)
        case measure => simp [intOf]; omega
    · obtain rfl : m = k := by omega
      have hlt1 : decide ((m : Int) < (m : Int)) = false := decide_eq_false (by omega)
      go_wp2_with fail
      go_ret
      exact ⟨rfl, hA.congr he.out, hB⟩

end RepW
end Go.Proofs.Ytjdijbidpcjjdaa
