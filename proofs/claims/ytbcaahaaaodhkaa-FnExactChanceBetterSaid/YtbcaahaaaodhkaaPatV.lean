/-
  Whether an array is a pattern of so many dice, both sides.
-/
import Derived.Test.YtbcaahaaaodhkaaRows
import Derived.Test.YtbcaahaaaodhkaaSortDn
import Derived.Test.YtbcaahaaaodhkaaFour
import Derived.Test.YtbcaahaaaodhkaaPatM
import Derived.Test.YtbcaahaaaodhkaaPlaces
import Derived.Test.YtbcaahaaaodhkaaSortW
import Derived.Test.YtbcaahaaaodhkaaDieW
import Derived.Test.YtbcaahaaaodhkaaOpenD
import Derived.WalkKit
import Derived.WalkLawsBesides
import Derived.WalkSpells
import Derived.ProofKit
import Derived.OpenShut
import Derived.Deep.RegionWith
import Derived.Deep.QuietTactic
import Derived.BigQuiet
namespace Go.Proofs.Ytbcaahaaaodhkaa
open Go.ChangeShapes Go.WideShapes Go.ChangeAt Go.RowKit
open Go.ChangeMaps (open_string shut_string)

namespace PatV
open Dice Arr DieW SortW Places PatM SortDn Four

theorem of_agree {g : Nat → Int} {n : Nat} (h : agree g (ds g 4) 4) (h3 : 0 ≤ g 3) (h0 : g 0 ≤ n) : ∀ i, i < 4 → 0 ≤ g i ∧ g i ≤ n := fun i hi => by
  have a := ds_le g (n := 4) (i := i) (j := 3) (by omega) (by omega)
  have b := ds_le g (n := 4) (i := 0) (j := i) (by omega) hi
  rw [← h i hi, ← h 3 (by omega)] at a
  rw [← h i hi, ← h 0 (by omega)] at b
  omega

set_option maxRecDepth 20000 in
set_option maxHeartbeats 1000000 in
theorem isPattern_any (n : Nat) (g : Nat → Int) (w : World) (hn : n ≤ 1048576) :
    Calls Try.prog 58 #[.int .i64 n, v4 g] w fun e w' => e = .returned (.bool (valid n g)) ∧ Below w.heap.size w w' := by
  have hX := (At.new4 w g 23 rfl).past (fourO g 23)
  have hM := At.new4 (w.alloc (fourO g 23)) g 23 (b := w.heap.size + 1) (by rw [size_alloc])
  have hB := na (na (n0 w) (fourO g 23)) (fourO g 23)
  have Hs := Lib.hid (fun w' h => sortDown_any (w.heap.size + 1) 0 4 4 4 g w' h (by omega) (by omega))
  have heq : ∀ w, (Op.equalIn 10000 23 (v4 g) (v4 (ds g 4))).run Try.prog w = .ok (decide (agree g (ds g 4) 4)) w := fun w => run_equalIn_vals (P := Try.prog) w 9998 23 3 4 Try.underlying23 Try.underlying3 Try.sizeOf3 g (ds g 4)
  have hve := valid_eq n g
  have hoa := @of_agree g n
  go_enter Try.func58, Try.ntmps58
  go_wp2_with fail
  refine (Hs.out _ hM).mono ?_
  rintro e w2 ⟨rfl, hM2, hB2, hK2⟩
  have hbl := hB.trans (hB2 w.heap.size (by omega))
  have hX2 := hK2 _ _ _ (by omega) hX
  have hM3 := hM2.congr (g := ds g 4) fun i hi => by
    have := seg_in (F := g) (off := 0) hi
    rw [Nat.zero_add] at this
    rw [this]
    exact ds_congr (fun j _ => by rw [Nat.zero_add]) i
  clear hM hM2 hB hB2 hK2 hX
  obtain ⟨e0, e1, e2, e3⟩ := At.four hM3
  obtain ⟨x0, x1, x2, x3⟩ := At.four hX2
  cases hag : decide (agree g (ds g 4) 4)
  · rw [hag] at heq hve
    simp only [Bool.false_and] at hve
    have Hv := Lib.hid hve
    clear hve hag hoa
    go_wp2_with fail
    go_ret
    exact ⟨by rw [Hv.out] <;> rfl, hbl⟩
  rw [hag] at heq hve
  have hoa := hoa (of_decide_eq_true hag)
  clear hag
  by_cases h3 : g 3 < 0
  · rw [decide_eq_true h3] at hve
    simp only [Bool.true_or, Bool.not_true, Bool.and_false, Bool.false_and] at hve
    have Hv := Lib.hid hve
    have d3 : decide (g 3 < 0) = true := decide_eq_true h3
    clear hve hoa h3
    go_wp2_with fail
    go_ret
    exact ⟨by rw [Hv.out] <;> rfl, hbl⟩
  have d3 : decide (g 3 < 0) = false := decide_eq_false h3
  by_cases h0 : (n : Int) < g 0
  · rw [decide_eq_true h0] at hve
    simp only [Bool.or_true, Bool.not_true, Bool.and_false, Bool.false_and] at hve
    have Hv := Lib.hid hve
    have d0 : decide ((n : Int) < g 0) = true := decide_eq_true h0
    clear hve hoa h3 h0
    go_wp2_with fail
    go_ret
    exact ⟨by rw [Hv.out] <;> rfl, hbl⟩
  have d0 : decide ((n : Int) < g 0) = false := decide_eq_false h0
  have hoa := hoa (by omega) (by omega)
  have b0 := hoa 0 (by omega)
  have b1 := hoa 1 (by omega)
  have b2 := hoa 2 (by omega)
  have b3 := hoa 3 (by omega)
  rw [d3, d0] at hve
  simp only [Bool.or_self, Bool.not_false, Bool.and_self, Bool.true_and] at hve
  clear hoa h3 h0
  cases hsm : decide (g 0 + g 1 + g 2 + g 3 = (n : Int))
  · rw [hsm] at hve
    have Hv := Lib.hid hve
    have hsb : (g 0 + g 1 + g 2 + g 3 == (n : Int)) = false := by simpa using of_decide_eq_false hsm
    clear hve hsm
    go_wp2_with fail
    go_ret
    exact ⟨by rw [Hv.out] <;> rfl, hbl⟩
  · rw [hsm] at hve
    have Hv := Lib.hid hve
    have hsb : (g 0 + g 1 + g 2 + g 3 == (n : Int)) = true := by simpa using of_decide_eq_true hsm
    clear hve hsm
    go_wp2_with fail
    go_ret
    exact ⟨by rw [Hv.out] <;> rfl, hbl⟩

theorem valid_no {g : Nat → Int} {n : Nat} (h : ¬ desc g n 4) : valid n g = false := by
  unfold valid
  rw [decide_eq_false h, Bool.false_and]
theorem pre_desc {g : Nat → Int} {n : Nat} : ∀ k, desc g n k → 0 ≤ pre g k ∧ pre g k ≤ n * k := by
  intro k
  induction k with
  | zero => intro _; exact ⟨Int.le_refl _, by simp [pre]⟩
  | succ k ih =>
    intro h
    have h1 := ih (fun i hi => h i (by omega))
    have h2 := h k (by omega)
    have e : (n : Int) * ((k + 1 : Nat) : Int) = (n : Int) * (k : Int) + n := by rw [Int.natCast_add, Int.mul_add]; simp
    rw [e]
    show 0 ≤ pre g k + g k ∧ pre g k + g k ≤ _
    omega
theorem pre_four (g : Nat → Int) : pre g 4 = g 0 + g 1 + g 2 + g 3 := by
  show 0 + g 0 + g 1 + g 2 + g 3 = _
  omega

set_option maxHeartbeats 4000000 in
theorem l4Valid_any (n : Nat) (g : Nat → Int) (w : World) (hn : n ≤ 1048576) :
    Calls Try.prog 53 #[v4 g, .int .i64 n] w fun e w' => e = .returned (.bool (valid n g)) ∧ Below w.heap.size w w' := by
  have Hin := Lib.hid (fun (x a b : Int) (w : World) => l1In_any x a b w)
  have hX := At.new4 w g 23 rfl
  have hB := na (n0 w) (fourO g 23)
  go_enter Try.func53, Try.ntmps53
  go_wp2_with fail
  go_loopw [5, 6] (fun sv iv wr => ∃ k : Nat, k ≤ 4 ∧ iv = .int .i64 k ∧ sv = .int .i64 (pre g k) ∧ Below w.heap.size w wr ∧ At wr w.heap.size 4 g ∧ Hid (desc g n k)) (fun _ iv _ => 4 - (intOf iv).toNat)
  case atStart => exact ⟨0, by omega, rfl, rfl, hB, hX, fun i hi => by omega⟩
  case round =>
    clear hB hX
    obtain ⟨k, hk, rfl, rfl, hb, hX, hD⟩ := hrel
    have hpd := pre_desc k hD.out
    by_cases hlt : k < 4
    · have hkt : decide ((k : Int) < 4) = true := decide_eq_true (by omega)
      have ck := hX.cell k hlt
      have hpe : Hid (pre g (k + 1) = pre g k + g k) := rfl
      have hnk : (n : Int) * (k : Int) ≤ 1048576 * 4 := Int.mul_le_mul (by omega) (by omega) (by omega) (by omega)
      by_cases hr : 0 ≤ g k ∧ g k ≤ n
      · have hrd : decide (0 ≤ g k ∧ g k ≤ (n : Int)) = true := decide_eq_true hr
        have hps : 0 ≤ pre g k ∧ pre g k ≤ 4194304 := ⟨hpd.1, by omega⟩
        clear hpd hnk
        by_cases hk0 : k = 0
        · have hD2 : Hid (desc g n (k + 1)) := fun i hi => by
            obtain rfl : i = k := by omega
            exact ⟨hr.1, hr.2, .inl hk0⟩
          have hz : decide ((0 : Int) < (k : Int)) = false := decide_eq_false (by omega)
          have hz2 : decide (0 < k) = false := decide_eq_false (by omega)
          clear hk0
          generalize pre g k = s at *
          go_wp2_with fail
          go_quiet ((go_at_call 77; exact Calls.quiet_of_same (Hin.out _ _ _ _)))
          go_wp2_with fail
          go_roundw
          case rel => exact ⟨k + 1, by omega, by go_num, by rw [hpe.out] <;> first | rfl | go_num, below_drewN hb _, hX.drewN _, hD2⟩
          case measure => simp [intOf]; omega
        · obtain ⟨m, rfl⟩ : ∃ m, k = m + 1 := ⟨k - 1, by omega⟩
          have c0 := hX.cell m (by omega)
          have hmi : (m : Int) + 1 < 4 := by omega
          by_cases hle : g (m + 1) ≤ g m
          · have hD2 : Hid (desc g n (m + 1 + 1)) := fun i hi => by
              by_cases him : i = m + 1
              · subst him
                exact ⟨hr.1, hr.2, .inr hle⟩
              · exact hD.out i (by omega)
            have hz : decide (g m < g (m + 1)) = false := decide_eq_false (by omega)
            generalize pre g (m + 1) = s at *
            go_wp2_with fail
            go_quiet ((go_at_call 77; exact Calls.quiet_of_same (Hin.out _ _ _ _)))
            go_wp2_with fail
            go_roundw
            case rel => exact ⟨m + 1 + 1, by omega, by go_num, by rw [hpe.out] <;> first | rfl | go_num, below_drewN hb _, hX.drewN _, hD2⟩
            case measure => simp [intOf]; omega
          · have hz : decide (g m < g (m + 1)) = true := decide_eq_true (by omega)
            have hno := Lib.hid (valid_no (g := g) (n := n) fun h => by
              have := (h (m + 1) hlt).2.2
              simp only [Nat.add_one_sub_one] at this
              omega)
            generalize pre g (m + 1) = s at *
            go_wp2_with fail
            go_quiet ((go_at_call 77; exact Calls.quiet_of_same (Hin.out _ _ _ _)))
            go_wp2_with fail
            go_ret
            exact ⟨by rw [hno.out] <;> rfl, below_drewN hb _⟩
      · have hrd : decide (0 ≤ g k ∧ g k ≤ (n : Int)) = false := decide_eq_false hr
        have hno := Lib.hid (valid_no (g := g) (n := n) fun h => hr ⟨(h k hlt).1, (h k hlt).2.1⟩)
        clear hpd hnk hr
        generalize pre g k = s at *
        go_wp2_with fail
        go_quiet ((go_at_call 77; exact Calls.quiet_of_same (Hin.out _ _ _ _)))
        go_wp2_with fail
        go_ret
        exact ⟨by rw [hno.out] <;> rfl, below_drewN hb _⟩
    · obtain rfl : k = 4 := by omega
      have hkt : decide (((4 : Nat) : Int) < 4) = false := decide_eq_false (by omega)
      have hv : valid n g = decide (pre g 4 = (n : Int)) := by
        unfold valid
        rw [decide_eq_true hD.out, Bool.true_and, pre_four]
      generalize pre g 4 = s at *
      clear hpd
      cases hsm : decide (s = (n : Int))
      · rw [hsm] at hv
        have Hv := Lib.hid hv
        have hsb : (s == (n : Int)) = false := by simpa using of_decide_eq_false hsm
        clear hv hsm
        go_wp2_with fail
        go_ret
        exact ⟨by rw [Hv.out] <;> rfl, hb⟩
      · rw [hsm] at hv
        have Hv := Lib.hid hv
        have hsb : (s == (n : Int)) = true := by simpa using of_decide_eq_true hsm
        clear hv hsm
        go_wp2_with fail
        go_ret
        exact ⟨by rw [Hv.out] <;> rfl, hb⟩


end PatV
end Go.Proofs.Ytbcaahaaaodhkaa
