/-
  StopMeans, by the program.
-/
import Derived.Test.YtojeokakehbaeaaRows
import Derived.Test.YtojeokakehbaeaaArr
import Derived.Test.YtojeokakehbaeaaAnyR
import Derived.Test.YtojeokakehbaeaaDieW
import Derived.Test.YtojeokakehbaeaaFracW
import Derived.Test.YtojeokakehbaeaaSortW
import Derived.Test.YtojeokakehbaeaaOpenD
import Derived.Test.YtojeokakehbaeaaOwnL
import Derived.Test.YtojeokakehbaeaaMarkG
import Derived.Test.YtojeokakehbaeaaFracM
import Derived.Test.YtojeokakehbaeaaStopM
import Derived.Test.YtojeokakehbaeaaCutW
import Derived.Test.YtojeokakehbaeaaGoalW
import Derived.Test.YtojeokakehbaeaaFracB
import Derived.Test.YtojeokakehbaeaaMeansL
import Derived.Test.YtojeokakehbaeaaDice
import Derived.Test.YtojeokakehbaeaaOpenD
import Derived.WalkKit
import Derived.OwnWalk
import Derived.Lib.AppendZeros
import Derived.Lib.MinMax
import Derived.WalkLawsBesides
import Derived.WalkSpells
import Derived.ProofKit
import Derived.OpenShut
import Derived.Deep.RegionWith
import Derived.Deep.QuietTactic
import Derived.BigQuiet
namespace Go.Proofs.Ytojeokakehbaeaa
open Go.ChangeShapes Go.WideShapes Go.ChangeAt Go.RowKit
open Go.Deep
open Go.ChangeMaps (open_string shut_string)

namespace StopI
open Dice Arr OpenD DieW SortW FracW MarkG FracM OwnL CutW GoalW FracB MeansL


set_option maxRecDepth 100000 in
set_option maxHeartbeats 8000000 in
theorem stopNo1 (d : Nat → Int) (n : Int) (w : World) (hd : isDie d = false) :
    Calls Try.prog 12 #[dv d, .int .i64 n] w fun e w' => ∃ A c, e = .returned (.tuple #[.slice A (lenM d n) c, .bool (okM d n)]) ∧ Pairs w.heap.size w' A (lenM d n) (sf (face d)) ∧ Below w.heap.size w w' := by
  have hc := implIsDie_any d
  rw [hd] at hc
  have hl : lenM d n = 0 := by unfold lenM; rw [ok_die hd]; rfl
  rw [hl, ok_die hd]
  unfold dv at hc
  have Hc := Lib.hid hc; clear hc hl
  unfold dv
  have hB0 := na (n0 w) (sixO d 22)
  have hD0 := At.new6 w d 22 rfl
  clear hd
  go_enter Try.func12, Try.ntmps12
  obtain ⟨e0, e1, e2, e3, e4, e5⟩ := hD0.six
  go_wp2_with fail
  refine (Hc.out _).mono ?_
  rintro e w1 ⟨rfl, hb1⟩
  go_wp2_with fail
  go_ret2
  exact ⟨_, _, rfl, .inl rfl, nx hB0 hb1⟩

set_option maxRecDepth 100000 in
set_option maxHeartbeats 8000000 in
theorem stopNo2 (d : Nat → Int) (n : Int) (w : World) (hd : isDie d = true) (h : n < 1) :
    Calls Try.prog 12 #[dv d, .int .i64 n] w fun e w' => ∃ A c, e = .returned (.tuple #[.slice A (lenM d n) c, .bool (okM d n)]) ∧ Pairs w.heap.size w' A (lenM d n) (sf (face d)) ∧ Below w.heap.size w w' := by
  have hc := implIsDie_any d
  rw [hd] at hc
  have hl : lenM d n = 0 := by unfold lenM; rw [ok_lo h]; rfl
  rw [hl, ok_lo h]
  unfold dv at hc
  have Hc := Lib.hid hc; clear hc hl
  unfold dv
  have hB0 := na (n0 w) (sixO d 22)
  have hD0 := At.new6 w d 22 rfl
  have g1 : decide (n < 1) = true := decide_eq_true h
  clear hd
  go_enter Try.func12, Try.ntmps12
  obtain ⟨e0, e1, e2, e3, e4, e5⟩ := hD0.six
  go_wp2_with fail
  refine (Hc.out _).mono ?_
  rintro e w1 ⟨rfl, hb1⟩
  go_wp2_with fail
  go_ret2
  exact ⟨_, _, rfl, .inl rfl, nx hB0 hb1⟩

set_option maxRecDepth 100000 in
set_option maxHeartbeats 8000000 in
theorem stopNo3 (d : Nat → Int) (n : Int) (w : World) (hd : isDie d = true) (h : 6 < n) :
    Calls Try.prog 12 #[dv d, .int .i64 n] w fun e w' => ∃ A c, e = .returned (.tuple #[.slice A (lenM d n) c, .bool (okM d n)]) ∧ Pairs w.heap.size w' A (lenM d n) (sf (face d)) ∧ Below w.heap.size w w' := by
  have hc := implIsDie_any d
  rw [hd] at hc
  have hl : lenM d n = 0 := by unfold lenM; rw [ok_hi h]; rfl
  rw [hl, ok_hi h]
  unfold dv at hc
  have Hc := Lib.hid hc; clear hc hl
  unfold dv
  have hB0 := na (n0 w) (sixO d 22)
  have hD0 := At.new6 w d 22 rfl
  have g1 : decide (n < 1) = false := decide_eq_false (by omega)
  have g2 : decide (6 < n) = true := decide_eq_true h
  clear hd
  go_enter Try.func12, Try.ntmps12
  obtain ⟨e0, e1, e2, e3, e4, e5⟩ := hD0.six
  go_wp2_with fail
  refine (Hc.out _).mono ?_
  rintro e w1 ⟨rfl, hb1⟩
  go_wp2_with fail
  go_ret2
  exact ⟨_, _, rfl, .inl rfl, nx hB0 hb1⟩

set_option maxRecDepth 100000 in
set_option maxHeartbeats 16000000 in
theorem stopYes (d : Nat → Int) (n : Nat) (w : World) (hd : isDie d = true) (h1 : 1 ≤ n) (h6 : n ≤ 6) :
    Calls Try.prog 12 #[dv d, .int .i64 n] w fun e w' => ∃ A c, e = .returned (.tuple #[.slice A n c, .bool true]) ∧ Pairs w.heap.size w' A n (sf (face d)) ∧ Below w.heap.size w w' := by
  have hc := implIsDie_any d
  rw [hd] at hc
  unfold dv at hc
  have Hc := Lib.hid hc; clear hc
  have hix0 := fun (w : World) (k : Nat) (hk : k < 6) => run_index_vals (P := Try.prog) w 22 3 6 Try.underlying22 Try.underlying3 Try.sizeOf3 d hk
  simp only [← dv_vals] at hix0
  unfold dv at hix0
  have Hix := Lib.hid hix0; clear hix0
  have Hfe := Lib.hid (fun k (hk : k < 6) => face_eq hd hk)
  have hf30 := fun j (hj : j < 6) => (face_eq hd hj).2
  have Has := Lib.hid (fun k (hk : k ≤ 6) => ahead_small (f := face d) hf30 hk)
  have Hss := Lib.hid (fun i k (hi : i ≤ 6) (hk : k ≤ 6) => sum_small (f := face d) hf30 hi hk)
  have Hfr := Lib.hid (fun (a b : Nat) (w : World) (ha : a ≤ 1000000000) (hb : b ≤ 1000000000) (h0 : 1 ≤ b) => fraction_any a b w ha hb h0)
  clear hf30 hd
  generalize face d = f at *
  obtain ⟨i2, hi2, hz0, hz1, hz2⟩ := info_parts info2
  have H2 := Lib.hid (And.intro hi2 (And.intro hz0 (And.intro hz1 hz2)))
  clear hi2 hz0 hz1 hz2
  have g1 : decide ((n : Int) < 1) = false := decide_eq_false (by omega)
  have g2 : decide (6 < (n : Int)) = false := decide_eq_false (by omega)
  unfold dv
  have hB0 := na (n0 w) (sixO d 22)
  have hD0 := At.new6 w d 22 rfl
  go_enter Try.func12, Try.ntmps12
  obtain ⟨e0, e1, e2, e3, e4, e5⟩ := hD0.six
  go_wp2_with fail
  refine (Hc.out _).mono ?_
  rintro e w1 ⟨rfl, hb1⟩
  have hB1 := nx hB0 hb1
  have hD1 := hD0.up hb1
  clear e0 e1 e2 e3 e4 e5 hB0 hD0 hb1
  go_wp2_with fail
  clear g1 g2
  go_loopw [6, 7, 8, 24] (fun mv av wv iv wr => ∃ i : Nat, i ≤ n ∧ iv = .int .i64 i ∧ av = .int .i64 (StopM.ahead f i : Nat) ∧ wv = .int .i64 (6 ^ i : Nat) ∧ wr.ownsRow w1.heap.size 33 2 mv i (vals (i * 2) (sf f)) ∧ Below w1.heap.size w1 wr) (fun _ _ _ iv _ => n - (intOf iv).toNat)
  case atStart => exact ⟨0, by omega, rfl, rfl, rfl, World.ownsRow_nil _ _ _ _, Below.refl _ _⟩
  case round =>
    obtain ⟨W0, rfl⟩ : ∃ W0, W0 = wr := ⟨wr, rfl⟩
    obtain ⟨i, hi, rfl, rfl, rfl, hO, hB⟩ := hrel
    by_cases hlt : i < n
    · have hit : decide ((i : Int) < (n : Int)) = true := decide_eq_true (by omega)
      have hS : Hid (StopM.ahead f (i + 1) = StopM.nsum (StopM.part f (StopM.ahead f i) (6 ^ i)) 6) := rfl
      have hA := Has.out i (by omega)
      have hA1 := Has.out (i + 1) (by omega)
      have hW := StopM.pow_le (show i ≤ 6 by omega)
      have hW1 := StopM.pow_le (show i + 1 ≤ 6 by omega)
      have hWp := StopM.pow_pos (i + 1)
      have e6 : (6 : Int) * ((6 ^ i : Nat) : Int) = ((6 ^ (i + 1) : Nat) : Int) := by rw [Nat.pow_succ]; push_cast; omega
      have Hsi := Lib.hid (fun k hk => Hss.out i k (by omega) hk)
      have Hsn := Lib.hid (sf_snoc f i)
      have Hf1 := Lib.hid (fun w => Hfr.out (StopM.ahead f (i + 1)) (6 ^ (i + 1)) w (by omega) (by omega) hWp)
      have Hf1 : Hid (∀ w, Calls Try.prog 18 #[.int .i64 (StopM.ahead f (i + 1) : Nat), .int .i64 (6 ^ (i + 1) : Nat)] w fun e w' => e = .returned (v2 (num (StopM.ahead f (i + 1)) (6 ^ (i + 1)) : Nat) (den (StopM.ahead f (i + 1)) (6 ^ (i + 1)) : Nat)) ∧ Below w.heap.size w w') := Hf1
      generalize num (StopM.ahead f (i + 1)) (6 ^ (i + 1)) = x at *
      generalize den (StopM.ahead f (i + 1)) (6 ^ (i + 1)) = y at *
      generalize hA1e : StopM.ahead f (i + 1) = A1 at *
      generalize hW1e : 6 ^ (i + 1) = W1 at *
      generalize hAe : StopM.ahead f i = A at *
      generalize hWe : 6 ^ i = W at *
      have Q := Lib.hid (And.intro hA1e hW1e)
      clear hA1e hW1e hAe hWe
      have hDr := (hD1.up hB).six
      obtain ⟨e0, e1, e2, e3, e4, e5⟩ := hDr
      go_wp2_with fail
      clear e0 e1 e2 e3 e4 e5
      go_loop [9, 27] (fun sv kv => ∃ k : Nat, k ≤ 6 ∧ kv = .int .i64 k ∧ sv = .int .i64 (StopM.nsum (StopM.part f A W) k : Nat)) (fun _ kv => 6 - (intOf kv).toNat)
      case atStart => exact ⟨0, by omega, rfl, rfl⟩
      case round =>
        obtain ⟨k, hk, rfl, rfl⟩ := hrel
        by_cases hlk : k < 6
        · obtain ⟨hdk, hfk⟩ := Hfe.out k hlk
          have hix := fun w => Hix.out w k hlk
          have em : d k * (W : Int) = ((f k * W : Nat) : Int) := by rw [hdk]; push_cast; rfl
          have hs1 := Hsi.out k (by omega)
          have hs2 := Hsi.out (k + 1) (by omega)
          have hmx : max ((f k * W : Nat) : Int) (A : Int) = (StopM.part f A W k : Nat) := by unfold StopM.part; split <;> omega
          have hfm : f k * W ≤ 30 * 46656 := Nat.mul_le_mul hfk hW
          have hsn : StopM.nsum (StopM.part f A W) (k + 1) = StopM.nsum (StopM.part f A W) k + StopM.part f A W k := rfl
          have Hs := Lib.hid hsn
          rw [hsn] at hs2
          clear hsn hdk
          generalize f k * W = m at *
          generalize StopM.part f A W k = p at *
          generalize StopM.nsum (StopM.part f A W) k = s at *
          go_wp2_with fail
          go_round
          case rel => exact ⟨k + 1, by omega, by go_num, by rw [Hs.out]; go_num⟩
          case measure => simp [intOf]; omega
        · obtain rfl : k = 6 := by omega
          rw [← hS.out]
          go_wp2_with fail
          refine (Hf1.out _).mono ?_
          rintro e w6 ⟨rfl, hb6⟩
          have hB6 := nx hB hb6
          have hO6 := own_up hO hb6
          have hsz6 := hB6.size
          clear hB hb6 hO
          go_wp2_with (at_builtin; refine wpList_append_own _ rfl _ _ 29 rfl w1.heap.size 33 i2 (.agg #[.int .i64 0, .int .i64 0]) 2 16 Try.underlying29 H2.out.1 H2.out.2.1 H2.out.2.2.1 H2.out.2.2.2 rfl (by decide) _ _ _ rfl (hO6.alloc _) ⟨w6.heap.size, 0, none⟩ 1 1 [.int .i64 (x : Int), .int .i64 (y : Int)] rfl rfl ?c1 ?c2 ?c3 ?c4 ?c5 ?_)
          case c1 =>
            intro t u ht
            match t, ht with
            | 0, ht => simp at ht; subst ht; simp [Addr.add]
            | 1, ht => simp at ht; subst ht; simp [Addr.add]
          case c2 => intro u hu; simp at hu; rcases hu with rfl | rfl <;> rfl
          case c3 => unfold maxLen; omega
          case c4 => omega
          case c5 => simp; omega
          · intro v' w4 hO4 hg4 _
            have hB4 := (hB6.alloc hsz6 (.cells #[.int .i64 (x : Int), .int .i64 (y : Int)] 33)).grown hg4 (by rw [size_alloc]; omega) (fun t e => (hO6.lt t e).1)
            have hO5 : w4.ownsRow w1.heap.size 33 2 v' (i + 1) (vals ((i + 1) * 2) (sf f)) := by rw [← Hsn.out]; exact hO4
            clear hg4 hO4 hO6 hB6
            go_wp2_with fail
            go_roundw
            case rel => exact ⟨i + 1, by omega, by go_num, by rw [Q.out.1], by rw [Q.out.2, ← e6], hO5, hB4⟩
            case measure => simp [intOf]; omega
    · obtain rfl : i = n := by omega
      have hit : decide ((i : Int) < (i : Int)) = false := decide_eq_false (by omega)
      obtain ⟨A', c', rfl, hI⟩ := pairs_own hO
      go_wp2_with fail
      go_ret2
      exact ⟨_, _, rfl, hI.mono hB1.size, hB1.trans (hB.mono hB1.size)⟩

theorem implStop_any (d : Nat → Int) (n : Int) (w : World) :
    Calls Try.prog 12 #[dv d, .int .i64 n] w fun e w' => ∃ A c, e = .returned (.tuple #[.slice A (lenM d n) c, .bool (okM d n)]) ∧ Pairs w.heap.size w' A (lenM d n) (sf (face d)) ∧ Below w.heap.size w w' := by
  cases hd : isDie d
  · exact stopNo1 d n w hd
  · by_cases h1 : n < 1
    · exact stopNo2 d n w hd h1
    · by_cases h6 : 6 < n
      · exact stopNo3 d n w hd h6
      · obtain ⟨n, rfl⟩ : ∃ m : Nat, n = m := ⟨n.toNat, by omega⟩
        have ho := ok_yes hd (n := (n : Int)) (by omega) (by omega)
        have hl : lenM d n = n := by unfold lenM; rw [ho]; simp
        rw [hl, ho]
        exact stopYes d n w hd (by omega) (by omega)


end StopI
end Go.Proofs.Ytojeokakehbaeaa
