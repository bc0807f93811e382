/-
  The comparison of two dice, with its sign.
-/
import Derived.Test.YtjdijbidpcjjdaaRows
import Derived.Test.YtjdijbidpcjjdaaLessW
import Derived.Test.YtjdijbidpcjjdaaSortW
import Derived.Test.YtjdijbidpcjjdaaOpenD
import Derived.WalkKit
import Derived.WalkLawsBesides
import Derived.WalkSpells
import Derived.ProofKit
import Derived.OpenShut
import Derived.Deep.RegionWith
import Derived.Deep.QuietTactic
import Derived.BigQuiet
namespace Go.Proofs.Ytjdijbidpcjjdaa
open Go.ChangeShapes Go.WideShapes Go.ChangeAt Go.RowKit
open Go.ChangeMaps (open_string shut_string)

namespace SgnW
open Dice Arr DieW SortW LessW

/-- The sign of a comparison. -/
noncomputable def sg (a b : Nat → Int) : Int := if bef a b then -1 else if bef b a then 1 else 0
theorem bef_asym {a b : Nat → Int} (h : bef a b = true) : bef b a = false := by
  unfold bef at h
  obtain ⟨k, hk, he, hl⟩ := @of_decide_eq_true _ (Classical.propDecidable _) h
  exact bef_no (fun j hj => (he j hj).symm) hl
theorem sg_lt {a b : Nat → Int} {k : Nat} (hk : k < 6) (h : ∀ j, j < k → a j = b j) (hl : a k < b k) : sg a b = -1 := by
  unfold sg; rw [bef_yes hk h hl]; rfl
theorem sg_gt {a b : Nat → Int} {k : Nat} (hk : k < 6) (h : ∀ j, j < k → a j = b j) (hl : b k < a k) : sg a b = 1 := by
  unfold sg; rw [bef_no h hl, bef_yes hk (fun j hj => (h j hj).symm) hl]; rfl
theorem sg_eq {a b : Nat → Int} (h : ∀ j, j < 6 → a j = b j) : sg a b = 0 := by
  unfold sg; rw [bef_same h, bef_same (fun j hj => (h j hj).symm)]; rfl
theorem sg_le (a b : Nat → Int) : decide (sg a b ≤ 0) = !bef b a := by
  unfold sg
  cases h : bef a b
  · cases h' : bef b a
    · decide
    · decide
  · rw [bef_asym h]; decide
theorem sg_pos (a b : Nat → Int) : decide (0 < sg a b) = bef b a := by
  unfold sg
  cases h : bef a b
  · cases h' : bef b a
    · decide
    · decide
  · rw [bef_asym h]; decide
theorem sg_neg (a b : Nat → Int) : decide (sg a b < 0) = bef a b := by
  unfold sg
  cases h : bef a b
  · cases h' : bef b a
    · decide
    · decide
  · rfl

set_option maxHeartbeats 1000000 in
theorem compare_any (a b : Nat → Int) (p q : Nat) (w : World) (ha : At w p 6 a) (hb : At w q 6 b) :
    Calls Try.prog 62 #[.slice (some ⟨p, 0, none⟩) 6 6, .slice (some ⟨q, 0, none⟩) 6 6] w fun e w' => e = .returned (.int .i64 (sg a b)) ∧ Below w.heap.size w w' := by
  have Hc := Lib.hid cmp_any
  go_enter Try.func62, Try.ntmps62
  go_wp2_with fail
  go_loopw [11] (fun i wr => ∃ k : Nat, k ≤ 6 ∧ i = .int .i64 k ∧ Below w.heap.size w wr ∧ At wr p 6 a ∧ At wr q 6 b ∧ Hid (∀ j, j < k → a j = b j)) (fun i _ => 6 - (intOf i).toNat)
  case atStart => exact ⟨0, by omega, rfl, n0 w, ha, hb, fun j hj => by omega⟩
  case round =>
    clear ha hb
    obtain ⟨k, hk, rfl, hbl, ha, hb, he⟩ := hrel
    by_cases hlt : k < 6
    · have c1 := ha.cell k hlt
      have c2 := hb.cell k hlt
      have Hck := Lib.hid (Hc.out (a k) (b k))
      by_cases hl : a k < b k
      · have hr := Lib.hid (sg_lt hlt he.out hl)
        have e3 : cmp3 (a k) (b k) = -1 := by unfold cmp3; rw [if_pos hl]
        rw [e3] at Hck
        go_wp2_with fail
        refine (Hck.out _).mono ?_
        rintro e w2 ⟨rfl, rfl⟩
        go_wp2_with fail
        go_ret
        exact ⟨by rw [hr.out]; rfl, hbl⟩
      · by_cases hg : b k < a k
        · have hr := Lib.hid (sg_gt hlt he.out hg)
          have e3 : cmp3 (a k) (b k) = 1 := by unfold cmp3; rw [if_neg hl, if_pos hg]
          rw [e3] at Hck
          go_wp2_with fail
          refine (Hck.out _).mono ?_
          rintro e w2 ⟨rfl, rfl⟩
          go_wp2_with fail
          go_ret
          exact ⟨by rw [hr.out]; rfl, hbl⟩
        · have e3 : cmp3 (a k) (b k) = 0 := by unfold cmp3; rw [if_neg hl, if_neg hg]
          rw [e3] at Hck
          go_wp2_with fail
          refine (Hck.out _).mono ?_
          rintro e w2 ⟨rfl, rfl⟩
          go_wp2_with fail
          go_roundw
          case rel =>
            refine ⟨k + 1, by omega, by go_num, hbl, ha, hb, fun j hj => ?_⟩
            by_cases hjk : j = k
            · subst hjk; omega
            · exact he.out j (by omega)
          case measure => simp [intOf]; omega
    · obtain rfl : k = 6 := by omega
      have hr := Lib.hid (sg_eq he.out)
      go_wp2_with fail
      go_ret
      exact ⟨by rw [hr.out]; rfl, hbl⟩

set_option maxHeartbeats 1000000 in
theorem compareDice_any (a b : Nat → Int) (w : World) :
    Calls Try.prog 40 #[dv a, dv b] w fun e w' => e = .returned (.int .i64 (sg a b)) ∧ Below w.heap.size w w' := by
  have Hc := Lib.hid (fun W ha hb => compare_any a b w.heap.size (w.heap.size + 1) W ha hb)
  have hA := (At.new6 w a 22 rfl).past (sixO b 22)
  have hB := At.new6 (w.alloc (sixO a 22)) b 22 (b := w.heap.size + 1) (by rw [size_alloc])
  have hB0 := na (na (n0 w) (sixO a 22)) (sixO b 22)
  unfold dv
  go_enter Try.func40, Try.ntmps40
  go_wp2_with fail
  generalize (w.alloc (sixO a 22)).alloc (sixO b 22) = W at hA hB hB0 ⊢
  go_region_with (go_at_call 62; refine (Hc.out _ hA.drew hB.drew).mono ?_; rintro e w1 ⟨rfl, hb⟩; have hbl := nx hB0.drew hb)
  all_goals
    go_wp2_with fail
    go_ret
    exact ⟨rfl, hbl⟩


end SgnW
end Go.Proofs.Ytjdijbidpcjjdaa
