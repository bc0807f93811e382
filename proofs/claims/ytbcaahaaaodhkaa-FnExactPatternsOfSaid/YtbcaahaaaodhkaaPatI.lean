/-
  The pattern of a list of places, by the program.
-/
import Derived.Test.YtbcaahaaaodhkaaRows
import Derived.Test.YtbcaahaaaodhkaaSortDn
import Derived.Test.YtbcaahaaaodhkaaFour
import Derived.Test.YtbcaahaaaodhkaaPatM
import Derived.Test.YtbcaahaaaodhkaaPlaces
import Derived.Test.YtbcaahaaaodhkaaOpenD
import Derived.WalkKit
import Derived.WalkLawsBesides
import Derived.WalkSpells
import Derived.ProofKit
import Derived.OpenShut
import Derived.Deep.RegionWith
import Derived.Deep.QuietTactic
import Derived.BigQuiet
namespace Go.Proofs.Ytbcaahaaaodhkaa
open Go.ChangeShapes Go.WideShapes Go.ChangeAt Go.RowKit
open Go.ChangeMaps (open_string shut_string)

namespace PatI
open Dice Arr DieW SortW Places PatM SortDn Four

/-- The group before the place k. -/
def gb (p : Nat → Int) (k : Nat) : Nat := gi p (k - 1)
theorem gt_step (p : Nat → Int) (k : Nat) : gt p (k + 1) = put (gt p k) (gi p k) (gt p k (gi p k) + 1) := rfl

set_option maxHeartbeats 8000000 in
theorem patternOf_any (b off n c m : Nat) (F : Nat → Int) (w : World) (h : At w b m F) (ho : off + n ≤ m) (h4 : n ≤ 4) :
    Calls Try.prog 87 #[.slice (some ⟨b, off, none⟩) n c] w fun e w' => e = .returned (v4 (ds (gt (fun j => F (off + j)) n) 4)) ∧ Below w.heap.size w w' := by
  obtain ⟨p, hp⟩ : ∃ p : Nat → Int, p = fun j => F (off + j) := ⟨_, rfl⟩
  rw [← hp]
  have hF : ∀ j, F (off + j) = p j := fun j => by rw [hp]
  have hlb := h.lt
  have Hc := Lib.hid (fun (w' : World) (hw : Below w.heap.size w w') (j : Nat) (hj : j < n) => show w'.cell? ⟨b, off + j, none⟩ = some (.int .i64 (p j)) by rw [← hF j]; exact (h.below hlb hw).cell (off + j) (by omega))
  clear h hp hF
  have hR := (At.new4 w (fun _ => 0) 23 rfl).past (fourO (fun _ => 0) 23)
  have hM := At.new4 (w.alloc (fourO (fun _ => 0) 23)) (fun _ => 0) 23 (b := w.heap.size + 1) (by rw [size_alloc])
  have hB := na (na (n0 w) (fourO (fun _ => 0) 23)) (fourO (fun _ => 0) 23)
  have Hs := Lib.hid (fun w' h => sortDown_any (w.heap.size + 1) 0 4 4 4 (gt p n) w' h (by omega) (by omega))
  go_enter Try.func87, Try.ntmps87
  go_wp2_with fail
  go_loopw [4, 9] (fun gv iv wr => ∃ k : Nat, k ≤ n ∧ iv = .int .i64 k ∧ gv = .int .i64 (gb p k : Nat) ∧ Below w.heap.size w wr ∧ At wr w.heap.size 4 (fun _ => 0) ∧ At wr (w.heap.size + 1) 4 (gt p k)) (fun _ iv _ => n - (intOf iv).toNat)
  case atStart => exact ⟨0, by omega, rfl, rfl, hB, hR, hM⟩
  case round =>
    clear hB hR hM
    obtain ⟨k, hk, rfl, rfl, hB, hR, hM⟩ := hrel
    by_cases hlt : k < n
    · have c1 := Hc.out wr hB k hlt
      have hgb := gt_bound p k (gi p k)
      have hgl := gi_le p k
      have cg := hM.cell (gi p k) (by omega)
      have zg := hM.free (gi p k)
      have hgk : gi p k < 4 := by omega
      have Hst := Lib.hid (gt_step p k)
      by_cases hk0 : k = 0
      · have hd0 : decide (0 < k) = false := decide_eq_false (by omega)
        have hd0' : decide ((0 : Int) < (k : Int)) = false := decide_eq_false (by omega)
        have e0 : gb p k = 0 := by rw [hk0]; rfl
        have e1 : gi p k = 0 := by rw [hk0]; rfl
        have e2 : gb p (k + 1) = 0 := e1
        rw [e0]
        clear hk0
        rw [e1] at cg zg hgb hgk
        rw [e1] at hgl
        have hMs := hM.set (i := 0) (by omega) (gt p k 0 + 1)
        have Hst' := Lib.hid (show gt p (k + 1) = put (gt p k) 0 (gt p k 0 + 1) by rw [Hst.out, e1])
        clear e1 Hst
        go_wp2_with fail
        go_roundw
        case rel => exact ⟨k + 1, by omega, by go_num, by rw [e2] <;> rfl, hB.setCell (p := ⟨w.heap.size + 1, 0, none⟩) (by show w.heap.size ≤ w.heap.size + 1; omega) _, hR.other (by omega) _ _, by rw [Hst'.out]; exact hMs⟩
        case measure => simp [intOf]; omega
      · obtain ⟨j, rfl⟩ : ∃ j, k = j + 1 := ⟨k - 1, by omega⟩
        have hd0 : decide ((0 : Int) < ((j + 1 : Nat) : Int)) = true := decide_eq_true (by omega)
        have c2 := Hc.out wr hB j (by omega)
        have e0 : gb p (j + 1) = gi p j := rfl
        have e2 : gb p (j + 1 + 1) = gi p (j + 1) := rfl
        have hj1 : ((j + 1 : Nat) : Int) - 1 = (j : Int) := by omega
        rw [e0]
        by_cases hs : p (j + 1) = p j
        · have e1 := gi_same hs
          rw [e1] at cg zg hgb hgk hgl e2
          have hMs := hM.set hgk (gt p (j + 1) (gi p j) + 1)
          have Hst' := Lib.hid (show gt p (j + 1 + 1) = put (gt p (j + 1)) (gi p j) (gt p (j + 1) (gi p j) + 1) by rw [Hst.out, e1])
          have hd1 : (p (j + 1) == p j) = true := by simpa using hs
          clear Hst e1
          rw [hs] at c1
          generalize gi p j = g at *
          go_wp2_with fail
          go_roundw
          case rel => exact ⟨j + 1 + 1, by omega, by go_num, by rw [e2], hB.setCell (p := ⟨w.heap.size + 1, g, none⟩) (by show w.heap.size ≤ w.heap.size + 1; omega) _, hR.other (by omega) _ _, by rw [Hst'.out]; exact hMs⟩
          case measure => simp [intOf]; omega
        · have e1 := gi_next hs
          rw [e1] at cg zg hgb hgk hgl e2
          have hMs := hM.set hgk (gt p (j + 1) (gi p j + 1) + 1)
          have Hst' := Lib.hid (show gt p (j + 1 + 1) = put (gt p (j + 1)) (gi p j + 1) (gt p (j + 1) (gi p j + 1) + 1) by rw [Hst.out, e1])
          have hd1 : (p (j + 1) == p j) = false := by simpa using hs
          clear Hst e1
          generalize gi p j = g at *
          go_wp2_with fail
          go_roundw
          case rel => exact ⟨j + 1 + 1, by omega, by go_num, by rw [e2]; first | rfl | go_num, hB.setCell (p := ⟨w.heap.size + 1, g + 1, none⟩) (by show w.heap.size ≤ w.heap.size + 1; omega) _, hR.other (by omega) _ _, by rw [Hst'.out]; exact hMs⟩
          case measure => simp [intOf]; omega
    · obtain rfl : k = n := by omega
      go_wp2_with fail
      have hlt2 := hM.lt
      go_wp2_with fail
      refine (Hs.out _ hM).mono ?_
      rintro e w2 ⟨rfl, hM2, hB2, hK2⟩
      have hB3 := hB.trans (hB2 w.heap.size (by omega))
      have hR2 := hK2 _ _ _ (by omega) hR
      have hM3 := hM2.congr (g := ds (gt p k) 4) fun i hi => by
        have := seg_in (F := gt p k) (off := 0) hi
        rw [Nat.zero_add] at this
        rw [this]
        exact ds_congr (fun j _ => by rw [Nat.zero_add]) i
      clear hM hM2 hB hB2 hK2 hR
      obtain ⟨e0, e1, e2, e3⟩ := At.four hM3
      obtain ⟨r0, r1, r2, r3⟩ := At.four hR2
      obtain ⟨z0, z1, z2, z3⟩ := At.freefour hR2
      go_wp2_with fail
      refine ret_cell (b := w.heap.size) (n := 4) (f := ds (gt p k) 4) Try.results87 rfl Try.underlying23 (by kernel_rfl) (hR2.stored (ds (gt p k) 4)) rfl ⟨rfl, ?_⟩
      exact hB3.trans (setCells_below (w := w2) (p := w.heap.size) (B := w.heap.size) (Nat.le_refl _) (vals 4 (ds (gt p k) 4)) 0)


end PatI
end Go.Proofs.Ytbcaahaaaodhkaa
