/-
  Contracts of the functions that compare two dice.
-/
import Derived.Test.YtjdijbidpcjjdaaRows
import Derived.Test.YtjdijbidpcjjdaaSortW
import Derived.Test.YtjdijbidpcjjdaaOpenD
import Derived.WalkKit
import Derived.WalkLawsBesides
import Derived.WalkSpells
import Derived.ProofKit
import Derived.OpenShut
import Derived.Deep.RegionWith
import Derived.Deep.QuietTactic
import Derived.BigQuiet
namespace Go.Proofs.Ytjdijbidpcjjdaa
open Go.ChangeShapes Go.WideShapes Go.ChangeAt Go.RowKit
open Go.ChangeMaps (open_string shut_string)

namespace LessW
open Dice Arr DieW SortW

/-- The first difference decides. -/
def Bef (a b : Nat → Int) : Prop := ∃ k, k < 6 ∧ (∀ j, j < k → a j = b j) ∧ a k < b k
noncomputable def bef (a b : Nat → Int) : Bool := @decide (Bef a b) (Classical.propDecidable _)
theorem bef_yes {a b : Nat → Int} {k : Nat} (hk : k < 6) (h : ∀ j, j < k → a j = b j) (hl : a k < b k) : bef a b = true := by
  unfold bef
  exact @decide_eq_true _ (Classical.propDecidable _) ⟨k, hk, h, hl⟩
theorem bef_no {a b : Nat → Int} {k : Nat} (h : ∀ j, j < k → a j = b j) (hl : b k < a k) : bef a b = false := by
  unfold bef
  refine @decide_eq_false _ (Classical.propDecidable _) ?_
  rintro ⟨m, hm, he, hlt⟩
  rcases Nat.lt_trichotomy m k with h1 | h1 | h1
  · have := h m h1; omega
  · subst h1; omega
  · have := he k h1; omega
theorem bef_same {a b : Nat → Int} (h : ∀ j, j < 6 → a j = b j) : bef a b = false := by
  unfold bef
  refine @decide_eq_false _ (Classical.propDecidable _) ?_
  rintro ⟨m, hm, _, hlt⟩
  have := h m hm
  omega

set_option maxHeartbeats 1000000 in
theorem before_any (a b : Nat → Int) (w : World) :
    Calls Try.prog 61 #[dv a, dv b] w fun e w' => e = .returned (.bool (bef a b)) ∧ Below w.heap.size w w' := by
  unfold dv
  go_enter Try.func61, Try.ntmps61
  go_wp2_with fail
  go_loopw [5] (fun i wr => ∃ k : Nat, k ≤ 6 ∧ i = .int .i64 k ∧ Below w.heap.size w wr ∧ At wr w.heap.size 6 a ∧ At wr (w.heap.size + 1) 6 b ∧ Hid (∀ j, j < k → a j = b j)) (fun i _ => 6 - (intOf i).toNat)
  case atStart =>
    refine ⟨0, by omega, rfl, na (na (n0 w) _) _, (At.new6 w a _ rfl).past _, At.new6 _ b _ (by rw [size_alloc]), fun j hj => by omega⟩
  case round =>
    obtain ⟨k, hk, rfl, hb, ha, hg, he⟩ := hrel
    by_cases hlt : k < 6
    · have c1 := ha.cell k hlt
      have c2 := hg.cell k hlt
      by_cases hab : a k = b k
      · go_wp2_with fail
        go_region
        go_wp2_with fail
        go_roundw
        case rel =>
          refine ⟨k + 1, by omega, by go_num, hb.drew, ha.drew, hg.drew, fun j hj => ?_⟩
          by_cases hjk : j = k
          · subst hjk; exact hab
          · exact he.out j (by omega)
        case measure => simp [intOf]; omega
      · by_cases hl : a k < b k
        · have hr := Lib.hid (bef_yes hlt he.out hl)
          have hld : decide (a k < b k) = true := decide_eq_true hl
          go_wp2_with fail
          go_region
          go_wp2_with fail
          go_region
          go_wp2_with fail
          go_ret
          exact ⟨by rw [hr.out]; rfl, hb.drew.drew⟩
        · have hr := Lib.hid (bef_no he.out (show b k < a k by omega))
          have hld : decide (a k < b k) = false := decide_eq_false hl
          go_wp2_with fail
          go_region
          go_wp2_with fail
          go_region
          go_wp2_with fail
          go_ret
          exact ⟨by rw [hr.out]; rfl, hb.drew.drew⟩
    · obtain rfl : k = 6 := by omega
      have hr := Lib.hid (bef_same he.out)
      go_wp2_with fail
      go_ret
      exact ⟨by rw [hr.out]; rfl, hb⟩

def cmp3 (x y : Int) : Int := if x < y then -1 else if y < x then 1 else 0
set_option maxHeartbeats 1000000 in
theorem cmp_any (x y : Int) (w : World) :
    Calls Try.prog 74 #[.int .i64 x, .int .i64 y] w fun e w' => e = .returned (.int .i64 (cmp3 x y)) ∧ w' = w := by
  unfold cmp3
  by_cases h1 : x < y
  · rw [if_pos h1]
    go_enter Try.func74, Try.ntmps74
    go_wp2
    go_ret
    exact ⟨rfl, rfl⟩
  · rw [if_neg h1]
    by_cases h2 : y < x
    · rw [if_pos h2]
      go_enter Try.func74, Try.ntmps74
      go_wp2
      go_ret
      exact ⟨rfl, rfl⟩
    · rw [if_neg h2]
      go_enter Try.func74, Try.ntmps74
      go_wp2
      go_ret
      exact ⟨rfl, rfl⟩

set_option maxHeartbeats 1000000 in
theorem compare_any (a b : Nat → Int) (p q : Nat) (w : World) (ha : At w p 6 a) (hb : At w q 6 b) :
    Calls Try.prog 62 #[.slice (some ⟨p, 0, none⟩) 6 6, .slice (some ⟨q, 0, none⟩) 6 6] w fun e w' => (∃ c : Int, e = .returned (.int .i64 c) ∧ decide (c < 0) = bef a b) ∧ Below w.heap.size w w' := by
  have Hc := Lib.hid cmp_any
  go_enter Try.func62, Try.ntmps62
  go_wp2_with fail
  go_loopw [11] (fun i wr => ∃ k : Nat, k ≤ 6 ∧ i = .int .i64 k ∧ Below w.heap.size w wr ∧ At wr p 6 a ∧ At wr q 6 b ∧ Hid (∀ j, j < k → a j = b j)) (fun i _ => 6 - (intOf i).toNat)
  case atStart => exact ⟨0, by omega, rfl, n0 w, ha, hb, fun j hj => by omega⟩
  case round =>
    clear ha hb
    obtain ⟨k, hk, rfl, hbl, ha, hb, he⟩ := hrel
    by_cases hlt : k < 6
    · have c1 := ha.cell k hlt
      have c2 := hb.cell k hlt
      have Hck := Lib.hid (Hc.out (a k) (b k))
      by_cases hl : a k < b k
      · have hr := Lib.hid (bef_yes hlt he.out hl)
        have e3 : cmp3 (a k) (b k) = -1 := by unfold cmp3; rw [if_pos hl]
        rw [e3] at Hck
        go_wp2_with fail
        refine (Hck.out _).mono ?_
        rintro e w2 ⟨rfl, rfl⟩
        go_wp2_with fail
        go_ret
        exact ⟨⟨-1, rfl, by rw [hr.out]; rfl⟩, hbl⟩
      · by_cases hg : b k < a k
        · have hr := Lib.hid (bef_no he.out hg)
          have e3 : cmp3 (a k) (b k) = 1 := by unfold cmp3; rw [if_neg hl, if_pos hg]
          rw [e3] at Hck
          go_wp2_with fail
          refine (Hck.out _).mono ?_
          rintro e w2 ⟨rfl, rfl⟩
          go_wp2_with fail
          go_ret
          exact ⟨⟨1, rfl, by rw [hr.out]; rfl⟩, hbl⟩
        · have e3 : cmp3 (a k) (b k) = 0 := by unfold cmp3; rw [if_neg hl, if_neg hg]
          rw [e3] at Hck
          go_wp2_with fail
          refine (Hck.out _).mono ?_
          rintro e w2 ⟨rfl, rfl⟩
          go_wp2_with fail
          go_roundw
          case rel =>
            refine ⟨k + 1, by omega, by go_num, hbl, ha, hb, fun j hj => ?_⟩
            by_cases hjk : j = k
            · subst hjk; omega
            · exact he.out j (by omega)
          case measure => simp [intOf]; omega
    · obtain rfl : k = 6 := by omega
      have hr := Lib.hid (bef_same he.out)
      go_wp2_with fail
      go_ret
      exact ⟨⟨0, rfl, by rw [hr.out]; rfl⟩, hbl⟩

set_option maxHeartbeats 1000000 in
theorem compareDice_any (a b : Nat → Int) (w : World) :
    Calls Try.prog 40 #[dv a, dv b] w fun e w' => (∃ c : Int, e = .returned (.int .i64 c) ∧ decide (c < 0) = bef a b) ∧ Below w.heap.size w w' := by
  have Hc := Lib.hid (fun W ha hb => compare_any a b w.heap.size (w.heap.size + 1) W ha hb)
  have hA := (At.new6 w a 22 rfl).past (sixO b 22)
  have hB := At.new6 (w.alloc (sixO a 22)) b 22 (b := w.heap.size + 1) (by rw [size_alloc])
  have hB0 := na (na (n0 w) (sixO a 22)) (sixO b 22)
  unfold dv
  go_enter Try.func40, Try.ntmps40
  go_wp2_with fail
  generalize (w.alloc (sixO a 22)).alloc (sixO b 22) = W at hA hB hB0 ⊢
  go_region_with (go_at_call 62; refine (Hc.out _ hA.drew hB.drew).mono ?_; rintro e w1 ⟨⟨c, rfl, hc⟩, hb⟩; have hbl := nx hB0.drew hb; have HC := Lib.hid hc; clear hc)
  all_goals
    go_wp2_with fail
    go_ret
    exact ⟨⟨_, rfl, HC.out⟩, hbl⟩


end LessW
end Go.Proofs.Ytjdijbidpcjjdaa
