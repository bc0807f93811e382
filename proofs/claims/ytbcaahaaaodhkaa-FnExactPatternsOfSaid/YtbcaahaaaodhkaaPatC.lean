/-
  Patterns compared, both sides, and copied.
-/
import Derived.Test.YtbcaahaaaodhkaaRows
import Derived.Test.YtbcaahaaaodhkaaFour
import Derived.Test.YtbcaahaaaodhkaaPatM
import Derived.Test.YtbcaahaaaodhkaaPlaces
import Derived.Test.YtbcaahaaaodhkaaSortW
import Derived.Test.YtbcaahaaaodhkaaDieW
import Derived.Test.YtbcaahaaaodhkaaOpenD
import Derived.WalkKit
import Derived.WalkLawsBesides
import Derived.WalkSpells
import Derived.ProofKit
import Derived.OpenShut
import Derived.Deep.RegionWith
import Derived.Deep.QuietTactic
import Derived.BigQuiet
namespace Go.Proofs.Ytbcaahaaaodhkaa
open Go.ChangeShapes Go.WideShapes Go.ChangeAt Go.RowKit
open Go.ChangeMaps (open_string shut_string)

namespace PatC
open Dice Arr DieW SortW Places Four

/-- The first difference decides. -/
def Bef (a b : Nat → Int) : Prop := ∃ k, k < 4 ∧ (∀ j, j < k → a j = b j) ∧ a k < b k
noncomputable def bef (a b : Nat → Int) : Bool := @decide (Bef a b) (Classical.propDecidable _)
theorem bef_yes {a b : Nat → Int} {k : Nat} (hk : k < 4) (h : ∀ j, j < k → a j = b j) (hl : a k < b k) : bef a b = true := by
  unfold bef
  exact @decide_eq_true _ (Classical.propDecidable _) ⟨k, hk, h, hl⟩
theorem bef_no {a b : Nat → Int} {k : Nat} (h : ∀ j, j < k → a j = b j) (hl : b k < a k) : bef a b = false := by
  unfold bef
  refine @decide_eq_false _ (Classical.propDecidable _) ?_
  rintro ⟨m, hm, he, hlt⟩
  rcases Nat.lt_trichotomy m k with h1 | h1 | h1
  · have := h m h1; omega
  · subst h1; omega
  · have := he k h1; omega
theorem bef_same {a b : Nat → Int} (h : ∀ j, j < 4 → a j = b j) : bef a b = false := by
  unfold bef
  refine @decide_eq_false _ (Classical.propDecidable _) ?_
  rintro ⟨m, hm, _, hlt⟩
  have := h m hm
  omega

set_option maxHeartbeats 1000000 in
theorem toA4_any (g : Nat → Int) (w : World) :
    Calls Try.prog 13 #[v4 g] w fun e w' => e = .returned (v4 g) ∧ Below w.heap.size w w' := by
  have hX := ((At.new4 w g 23 rfl).past (fourO (fun _ => 0) 23)).past (fourO (fun _ => 0) 23)
  have hR := (At.new4 (w.alloc (fourO g 23)) (fun _ => 0) 23 (b := w.heap.size + 1) (by rw [size_alloc])).past (fourO (fun _ => 0) 23)
  have hO := At.new4 ((w.alloc (fourO g 23)).alloc (fourO (fun _ => 0) 23)) (fun _ => 0) 23 (b := w.heap.size + 2) (by rw [size_alloc, size_alloc])
  have hB := na (na (na (n0 w) (fourO g 23)) (fourO (fun _ => 0) 23)) (fourO (fun _ => 0) 23)
  go_enter Try.func13, Try.ntmps13
  go_wp2_with fail
  go_loopw [4] (fun iv wr => ∃ (k : Nat) (f : Nat → Int), k ≤ 4 ∧ iv = .int .i64 k ∧ Below w.heap.size w wr ∧ At wr w.heap.size 4 g ∧ At wr (w.heap.size + 1) 4 (fun _ => 0) ∧ At wr (w.heap.size + 2) 4 f ∧ Hid (∀ j, j < k → f j = g j)) (fun iv _ => 4 - (intOf iv).toNat)
  case atStart => exact ⟨0, _, by omega, rfl, hB, hX, hR, hO, fun j hj => by omega⟩
  case round =>
    clear hX hR hO hB
    obtain ⟨k, f, hk, rfl, hB, hX, hR, hO, he⟩ := hrel
    by_cases hlt : k < 4
    · have hkt : decide ((k : Int) < 4) = true := decide_eq_true (by omega)
      have c1 := hX.cell k hlt
      have c2 := hO.cell k hlt
      have z2 := hO.free k
      go_wp2_with fail
      go_roundw
      case rel => exact ⟨k + 1, _, by omega, by go_num, hB.setCell (p := ⟨w.heap.size + 2, k, none⟩) (by show w.heap.size ≤ w.heap.size + 2; omega) _, hX.other (by omega) _ _, hR.other (by omega) _ _, hO.set hlt _, put_fill he.out⟩
      case measure => simp [intOf]; omega
    · obtain rfl : k = 4 := by omega
      have hO2 := hO.congr he.out
      have hkt : decide (((4 : Nat) : Int) < 4) = false := decide_eq_false (by omega)
      obtain ⟨e0, e1, e2, e3⟩ := At.four hO2
      obtain ⟨r0, r1, r2, r3⟩ := At.four hR
      obtain ⟨z0, z1, z2, z3⟩ := At.freefour hR
      go_wp2_with fail
      refine ret_cell (b := w.heap.size + 1) (n := 4) (f := g) Try.results13 rfl Try.underlying23 (by kernel_rfl) (hR.stored g) rfl ⟨rfl, ?_⟩
      exact hB.trans (setCells_below (w := wr) (p := w.heap.size + 1) (B := w.heap.size) (by omega) (vals 4 g) 0)

set_option maxHeartbeats 1000000 in
theorem l4Less_any (a b : Nat → Int) (w : World) :
    Calls Try.prog 61 #[v4 a, v4 b] w fun e w' => e = .returned (.bool (bef a b)) ∧ Below w.heap.size w w' := by
  go_enter Try.func61, Try.ntmps61
  go_wp2_with fail
  go_loopw [5] (fun i wr => ∃ k : Nat, k ≤ 4 ∧ i = .int .i64 k ∧ Below w.heap.size w wr ∧ At wr w.heap.size 4 a ∧ At wr (w.heap.size + 1) 4 b ∧ Hid (∀ j, j < k → a j = b j)) (fun i _ => 4 - (intOf i).toNat)
  case atStart =>
    refine ⟨0, by omega, rfl, na (na (n0 w) _) _, (At.new4 w a _ rfl).past _, At.new4 _ b _ (by rw [size_alloc]), fun j hj => by omega⟩
  case round =>
    obtain ⟨k, hk, rfl, hb, ha, hg, he⟩ := hrel
    by_cases hlt : k < 4
    · have hkt : decide ((k : Int) < 4) = true := decide_eq_true (by omega)
      have c1 := ha.cell k hlt
      have c2 := hg.cell k hlt
      by_cases hab : a k = b k
      · have hd1 : (a k == b k) = true := by simpa using hab
        go_wp2_with fail
        go_quiet (fail)
        go_wp2_with fail
        go_roundw
        case rel =>
          refine ⟨k + 1, by omega, by go_num, below_drewN hb _, ha.drewN _, hg.drewN _, fun j hj => ?_⟩
          by_cases hjk : j = k
          · subst hjk; exact hab
          · exact he.out j (by omega)
        case measure => simp [intOf]; omega
      · have hd1 : (a k == b k) = false := by simpa using hab
        by_cases hl : a k < b k
        · have hr := Lib.hid (bef_yes hlt he.out hl)
          have hld : decide (a k < b k) = true := decide_eq_true hl
          go_wp2_with fail
          go_region
          go_wp2_with fail
          go_region
          go_wp2_with fail
          go_ret
          exact ⟨by rw [hr.out] <;> rfl, hb.drew.drew⟩
        · have hr := Lib.hid (bef_no he.out (show b k < a k by omega))
          have hld : decide (a k < b k) = false := decide_eq_false hl
          go_wp2_with fail
          go_region
          go_wp2_with fail
          go_region
          go_wp2_with fail
          go_ret
          exact ⟨by rw [hr.out] <;> rfl, hb.drew.drew⟩
    · obtain rfl : k = 4 := by omega
      have hr := Lib.hid (bef_same he.out)
      go_wp2_with fail
      go_ret
      exact ⟨by rw [hr.out] <;> rfl, hb⟩

def cmp3 (x y : Int) : Int := if x < y then -1 else if y < x then 1 else 0
set_option maxHeartbeats 1000000 in
theorem cmp_any (x y : Int) (w : World) :
    Calls Try.prog 118 #[.int .i64 x, .int .i64 y] w fun e w' => e = .returned (.int .i64 (cmp3 x y)) ∧ w' = w := by
  unfold cmp3
  by_cases h1 : x < y
  · rw [if_pos h1]
    go_enter Try.func118, Try.ntmps118
    go_wp2
    go_ret
    exact ⟨rfl, rfl⟩
  · rw [if_neg h1]
    by_cases h2 : y < x
    · rw [if_pos h2]
      go_enter Try.func118, Try.ntmps118
      go_wp2
      go_ret
      exact ⟨rfl, rfl⟩
    · rw [if_neg h2]
      go_enter Try.func118, Try.ntmps118
      go_wp2
      go_ret
      exact ⟨rfl, rfl⟩

set_option maxHeartbeats 1000000 in
theorem compare_any (a b : Nat → Int) (p q : Nat) (w : World) (ha : At w p 4 a) (hb : At w q 4 b) :
    Calls Try.prog 104 #[.slice (some ⟨p, 0, none⟩) 4 4, .slice (some ⟨q, 0, none⟩) 4 4] w fun e w' => (∃ c : Int, e = .returned (.int .i64 c) ∧ decide (0 < c) = bef b a) ∧ Below w.heap.size w w' := by
  have Hc := Lib.hid cmp_any
  go_enter Try.func104, Try.ntmps104
  go_wp2_with fail
  go_loopw [11] (fun i wr => ∃ k : Nat, k ≤ 4 ∧ i = .int .i64 k ∧ Below w.heap.size w wr ∧ At wr p 4 a ∧ At wr q 4 b ∧ Hid (∀ j, j < k → b j = a j)) (fun i _ => 4 - (intOf i).toNat)
  case atStart => exact ⟨0, by omega, rfl, n0 w, ha, hb, fun j hj => by omega⟩
  case round =>
    clear ha hb
    obtain ⟨k, hk, rfl, hbl, ha, hb, he⟩ := hrel
    by_cases hlt : k < 4
    · have c1 := ha.cell k hlt
      have c2 := hb.cell k hlt
      have Hck := Lib.hid (Hc.out (a k) (b k))
      by_cases hl : a k < b k
      · have hr := Lib.hid (bef_no he.out hl)
        have e3 : cmp3 (a k) (b k) = -1 := by unfold cmp3; rw [if_pos hl]
        rw [e3] at Hck
        go_wp2_with fail
        refine (Hck.out _).mono ?_
        rintro e w2 ⟨rfl, rfl⟩
        go_wp2_with fail
        go_ret
        exact ⟨⟨-1, rfl, by rw [hr.out]; rfl⟩, hbl⟩
      · by_cases hl2 : b k < a k
        · have hr := Lib.hid (bef_yes hlt he.out hl2)
          have e3 : cmp3 (a k) (b k) = 1 := by unfold cmp3; rw [if_neg hl, if_pos hl2]
          rw [e3] at Hck
          go_wp2_with fail
          refine (Hck.out _).mono ?_
          rintro e w2 ⟨rfl, rfl⟩
          go_wp2_with fail
          go_ret
          exact ⟨⟨1, rfl, by rw [hr.out]; rfl⟩, hbl⟩
        · have e3 : cmp3 (a k) (b k) = 0 := by unfold cmp3; rw [if_neg hl, if_neg hl2]
          rw [e3] at Hck
          go_wp2_with fail
          refine (Hck.out _).mono ?_
          rintro e w2 ⟨rfl, rfl⟩
          go_wp2_with fail
          go_roundw
          case rel =>
            refine ⟨k + 1, by omega, by go_num, hbl, ha, hb, fun j hj => ?_⟩
            by_cases hjk : j = k
            · subst hjk; omega
            · exact he.out j (by omega)
          case measure => simp [intOf]; omega
    · obtain rfl : k = 4 := by omega
      have hr := Lib.hid (bef_same he.out)
      go_wp2_with fail
      go_ret
      exact ⟨⟨0, rfl, by rw [hr.out]; rfl⟩, hbl⟩

set_option maxHeartbeats 1000000 in
theorem compPat_any (a b : Nat → Int) (w : World) :
    Calls Try.prog 63 #[v4 a, v4 b] w fun e w' => (∃ c : Int, e = .returned (.int .i64 c) ∧ decide (0 < c) = bef b a) ∧ Below w.heap.size w w' := by
  have ha := (At.new4 w a 23 rfl).past (fourO b 23)
  have hb := At.new4 (w.alloc (fourO a 23)) b 23 (b := w.heap.size + 1) (by rw [size_alloc])
  have hB := na (na (n0 w) (fourO a 23)) (fourO b 23)
  have Hc := Lib.hid (fun p q w ha hb => compare_any a b p q w ha hb)
  go_enter Try.func63, Try.ntmps63
  go_wp2_with fail
  generalize (w.alloc (fourO a 23)).alloc (fourO b 23) = W at *
  go_region_with (go_at_call 104; refine (Hc.out _ _ _ ha.drew hb.drew).mono ?_; rintro e w2 ⟨⟨c, rfl, hc⟩, hb2⟩; have hbl := nx hB.drew hb2)
  all_goals
    go_wp2_with fail
    go_ret
    exact ⟨⟨c, rfl, hc⟩, hbl⟩


end PatC
end Go.Proofs.Ytbcaahaaaodhkaa
