/-
  Valid pairs, both sides.
-/
import Derived.Test.YtjdijbidpcjjdaaRows
import Derived.Test.YtjdijbidpcjjdaaSgnW
import Derived.Test.YtjdijbidpcjjdaaLessW
import Derived.Test.YtjdijbidpcjjdaaPairA
import Derived.Test.YtjdijbidpcjjdaaSortW
import Derived.Test.YtjdijbidpcjjdaaDieW
import Derived.Test.YtjdijbidpcjjdaaOpenD
import Derived.Test.YtjdijbidpcjjdaaArr
import Derived.WalkKit
import Derived.WalkLawsBesides
import Derived.WalkSpells
import Derived.ProofKit
import Derived.OpenShut
import Derived.Deep.RegionWith
import Derived.Deep.QuietTactic
import Derived.BigQuiet
namespace Go.Proofs.Ytjdijbidpcjjdaa
open Go.ChangeShapes Go.WideShapes Go.ChangeAt Go.RowKit
open Go.ChangeMaps (open_string shut_string)

namespace GoodW
open Dice Arr OpenD DieW SortW LessW SgnW PairA

/-- Two dice are a pair. -/
noncomputable def isPr (a b : Nat → Int) : Bool := isDie a && isDie b && !bef b a

set_option maxHeartbeats 2000000 in
theorem eqPair_any (a b : Nat → Int) (w : World) :
    Calls Try.prog 18 #[pv a b, pv a b] w fun e w' => e = .returned (.bool true) ∧ Below w.heap.size w w' := by
  have hqa := eqA6_any a a
  have hqb := eqA6_any b b
  rw [show decide (agree a a 6) = true from decide_eq_true fun _ _ => rfl] at hqa
  rw [show decide (agree b b 6) = true from decide_eq_true fun _ _ => rfl] at hqb
  unfold dv at hqa hqb
  have Ha := Lib.hid hqa; clear hqa
  have Hb := Lib.hid hqb; clear hqb
  have hp := (At.new12 w a b 26 rfl).past (twO a b 26)
  have hq := At.new12 (w.alloc (twO a b 26)) a b 26 (p := w.heap.size + 1) (by rw [size_alloc])
  have hbl := na (na (n0 w) (twO a b 26)) (twO a b 26)
  unfold pv
  go_enter Try.func18, Try.ntmps18
  go_wp2_with fail
  refine (Ha.out _).mono ?_
  rintro e w1 ⟨rfl, hb1⟩
  have hB1 := nx hbl hb1
  obtain ⟨c0, c1, c2, c3, c4, c5, c6, c7, c8, c9, c10, c11⟩ := At.twelve (hp.up hb1)
  obtain ⟨d0, d1, d2, d3, d4, d5, d6, d7, d8, d9, d10, d11⟩ := At.twelve (hq.up hb1)
  clear hp hq hb1 hbl
  go_wp2_with fail
  refine (Hb.out _).mono ?_
  rintro e w2 ⟨rfl, hb2⟩
  go_wp2_with fail
  go_ret
  exact ⟨rfl, nx hB1 hb2⟩

set_option maxHeartbeats 2000000 in
theorem l5Good_any (a b : Nat → Int) (w : World) :
    Calls Try.prog 38 #[pv a b] w fun e w' => e = .returned (.bool (isPr a b)) ∧ Below w.heap.size w w' := by
  have hda := l2Die_any a
  have hdb := l2Die_any b
  have hc := before_any b a
  unfold dv at hda hdb hc
  have hp := At.new12 w a b 26 rfl
  have hbl := na (n0 w) (twO a b 26)
  unfold isPr
  obtain ⟨x, hx⟩ : ∃ x, bef b a = x := ⟨_, rfl⟩
  rw [hx] at hc
  have Hc := Lib.hid hc; clear hc
  rw [hx]
  cases ha : isDie a
  · rw [ha] at hda
    have Ha := Lib.hid hda; clear hda ha hx hdb Hc
    simp only [Bool.false_and]
    unfold pv
    go_enter Try.func38, Try.ntmps38
    go_wp2_with fail
    refine (Ha.out _).mono ?_
    rintro e w1 ⟨rfl, hb1⟩
    go_wp2_with fail
    go_ret
    exact ⟨rfl, nx hbl hb1⟩
  · rw [ha] at hda
    have Ha := Lib.hid hda; clear hda ha
    cases hb : isDie b
    · rw [hb] at hdb
      have Hb := Lib.hid hdb; clear hdb hb hx Hc
      simp only [Bool.and_false, Bool.false_and]
      unfold pv
      go_enter Try.func38, Try.ntmps38
      go_wp2_with fail
      refine (Ha.out _).mono ?_
      rintro e w1 ⟨rfl, hb1⟩
      obtain ⟨c0, c1, c2, c3, c4, c5, c6, c7, c8, c9, c10, c11⟩ := At.twelve (hp.up hb1)
      have hB1 := nx hbl hb1
      clear hb1
      go_wp2_with fail
      refine (Hb.out _).mono ?_
      rintro e w2 ⟨rfl, hb2⟩
      go_wp2_with fail
      go_ret
      exact ⟨rfl, nx hB1 hb2⟩
    · rw [hb] at hdb
      have Hb := Lib.hid hdb; clear hdb hb
      simp only [Bool.and_self, Bool.true_and]
      unfold pv
      go_enter Try.func38, Try.ntmps38
      go_wp2_with fail
      refine (Ha.out _).mono ?_
      rintro e w1 ⟨rfl, hb1⟩
      have hp1 := hp.up hb1
      have hB1 := nx hbl hb1
      clear hb1
      obtain ⟨c0, c1, c2, c3, c4, c5, c6, c7, c8, c9, c10, c11⟩ := At.twelve hp1
      go_wp2_with fail
      refine (Hb.out _).mono ?_
      rintro e w2 ⟨rfl, hb2⟩
      have hp2 := hp1.up hb2
      have hB2 := nx hB1 hb2
      clear hb2 c0 c1 c2 c3 c4 c5 c6 c7 c8 c9 c10 c11
      obtain ⟨c0, c1, c2, c3, c4, c5, c6, c7, c8, c9, c10, c11⟩ := At.twelve hp2
      go_wp2_with fail
      refine (Hc.out _).mono ?_
      rintro e w3 ⟨rfl, hb3⟩
      have hB3 := nx hB2 hb3
      cases x
      all_goals
        go_wp2_with fail
        go_ret
        exact ⟨rfl, hB3⟩
set_option maxHeartbeats 2000000 in
theorem implPair_any (a b : Nat → Int) (w : World) :
    Calls Try.prog 14 #[pv a b] w fun e w' => e = .returned (.bool (isPr a b)) ∧ Below w.heap.size w w' := by
  have hda := implIsDie_any a
  have hdb := implIsDie_any b
  have hc := SgnW.compareDice_any a b
  unfold dv at hda hdb hc
  have hp := At.new12 w a b 26 rfl
  have hbl := na (n0 w) (twO a b 26)
  unfold isPr
  obtain ⟨x, hx⟩ : ∃ x, bef b a = x := ⟨_, rfl⟩
  have hsg := sg_le a b
  rw [hx] at hsg
  have Hc := Lib.hid hc; clear hc
  rw [hx]
  cases ha : isDie a
  · rw [ha] at hda
    have Ha := Lib.hid hda; clear hda ha hx hdb Hc
    simp only [Bool.false_and]
    unfold pv
    go_enter Try.func14, Try.ntmps14
    go_wp2_with fail
    refine (Ha.out _).mono ?_
    rintro e w1 ⟨rfl, hb1⟩
    go_wp2_with fail
    go_ret
    exact ⟨rfl, nx hbl hb1⟩
  · rw [ha] at hda
    have Ha := Lib.hid hda; clear hda ha
    cases hb : isDie b
    · rw [hb] at hdb
      have Hb := Lib.hid hdb; clear hdb hb hx Hc
      simp only [Bool.and_false, Bool.false_and]
      unfold pv
      go_enter Try.func14, Try.ntmps14
      go_wp2_with fail
      refine (Ha.out _).mono ?_
      rintro e w1 ⟨rfl, hb1⟩
      obtain ⟨c0, c1, c2, c3, c4, c5, c6, c7, c8, c9, c10, c11⟩ := At.twelve (hp.up hb1)
      have hB1 := nx hbl hb1
      clear hb1
      go_wp2_with fail
      refine (Hb.out _).mono ?_
      rintro e w2 ⟨rfl, hb2⟩
      go_wp2_with fail
      go_ret
      exact ⟨rfl, nx hB1 hb2⟩
    · rw [hb] at hdb
      have Hb := Lib.hid hdb; clear hdb hb
      simp only [Bool.and_self, Bool.true_and]
      unfold pv
      go_enter Try.func14, Try.ntmps14
      go_wp2_with fail
      refine (Ha.out _).mono ?_
      rintro e w1 ⟨rfl, hb1⟩
      have hp1 := hp.up hb1
      have hB1 := nx hbl hb1
      clear hb1
      obtain ⟨c0, c1, c2, c3, c4, c5, c6, c7, c8, c9, c10, c11⟩ := At.twelve hp1
      go_wp2_with fail
      refine (Hb.out _).mono ?_
      rintro e w2 ⟨rfl, hb2⟩
      have hp2 := hp1.up hb2
      have hB2 := nx hB1 hb2
      clear hb2 c0 c1 c2 c3 c4 c5 c6 c7 c8 c9 c10 c11
      obtain ⟨c0, c1, c2, c3, c4, c5, c6, c7, c8, c9, c10, c11⟩ := At.twelve hp2
      go_wp2_with fail
      refine (Hc.out _).mono ?_
      rintro e w3 ⟨rfl, hb3⟩
      have hB3 := nx hB2 hb3
      cases x
      all_goals
        simp only [Bool.not_false, Bool.not_true] at hsg
        go_wp2_with fail
        go_ret
        exact ⟨rfl, hB3⟩

set_option maxHeartbeats 1000000 in
theorem specPair_any (a b : Nat → Int) (w : World) :
    Calls Try.prog 12 #[pv a b] w fun e w' => e = .returned (.bool (isPr a b)) ∧ Below w.heap.size w w' := by
  have hg := l5Good_any a b
  unfold pv at hg
  have Hg := Lib.hid hg; clear hg
  unfold pv
  go_enter Try.func12, Try.ntmps12
  go_wp2_with fail
  refine (Hg.out _).mono ?_
  rintro e w1 ⟨rfl, hb1⟩
  go_wp2_with fail
  go_ret
  exact ⟨rfl, past1 hb1⟩

end GoodW
end Go.Proofs.Ytjdijbidpcjjdaa
