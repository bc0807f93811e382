/-
  The mirror of a pair, both sides.
-/
import Derived.Test.YtjdijbidpcjjdaaRows
import Derived.Test.YtjdijbidpcjjdaaPofW
import Derived.Test.YtjdijbidpcjjdaaOppI
import Derived.Test.YtjdijbidpcjjdaaGoodW
import Derived.Test.YtjdijbidpcjjdaaToP
import Derived.Test.YtjdijbidpcjjdaaSgnW
import Derived.Test.YtjdijbidpcjjdaaLessW
import Derived.Test.YtjdijbidpcjjdaaPairA
import Derived.Test.YtjdijbidpcjjdaaSortW
import Derived.Test.YtjdijbidpcjjdaaDicesW
import Derived.Test.YtjdijbidpcjjdaaDieW
import Derived.Test.YtjdijbidpcjjdaaOpenD
import Derived.Test.YtjdijbidpcjjdaaArr
import Derived.WalkKit
import Derived.WalkLawsBesides
import Derived.WalkSpells
import Derived.ProofKit
import Derived.OpenShut
import Derived.Deep.RegionWith
import Derived.Deep.QuietTactic
import Derived.BigQuiet
namespace Go.Proofs.Ytjdijbidpcjjdaa
open Go.ChangeShapes Go.WideShapes Go.ChangeAt Go.RowKit
open Go.ChangeMaps (open_string shut_string)

namespace MirrW
open Dice Arr OpenD DieW SortW DicesW LessW SgnW PairA ToP GoodW PofW OppI

theorem ppair_yes {a b : Nat → Int} (ha : isDie a = true) (hb : isDie b = true) : ppair a b = #[pv (lo2 a b) (hi2 a b), .bool true] := by
  unfold ppair; rw [ha, hb]; rfl
theorem opp_die {d : Nat → Int} (h : isDie d = true) : isDie (opp d) = true := by
  have hu : upto d 6 := of_decide_eq_true h
  refine decide_eq_true fun k hk => ?_
  have h1 := upto_le hu (i := 0) (j := 5 - k) (by omega) (by omega)
  have h2 := upto_le hu (i := 5 - k) (j := 5) (by omega) (by omega)
  have h3 := upto_le hu (i := 5 - k) (j := 5 - (k - 1)) (by omega) (by omega)
  have h0 := hu 0 (by omega)
  have h5 := hu 5 (by omega)
  unfold opp
  exact ⟨by omega, by omega, .inr (by omega)⟩
/-- The answer. -/
noncomputable def pmirr (a b : Nat → Int) : Array Value := if isPr a b then #[pv (lo2 (opp a) (opp b)) (hi2 (opp a) (opp b)), .bool true] else #[pv (fun _ => 0) (fun _ => 0), .bool false]

set_option maxRecDepth 20000 in
set_option maxHeartbeats 4000000 in
theorem implMirror_any (a b : Nat → Int) (w : World) :
    Calls Try.prog 34 #[pv a b] w fun e w' => e = .returned (.tuple (pmirr a b)) ∧ Below w.heap.size w w' := by
  have hg := implPair_any a b
  have hp := (At.new12 w a b 26 rfl).past (twO (fun _ => 0) (fun _ => 0) 26)
  have hr := zero12 (w.alloc (twO a b 26)) (b := w.heap.size + 1) (by rw [size_alloc])
  have hB := na (na (n0 w) (twO a b 26)) (twO (fun _ => 0) (fun _ => 0) 26)
  unfold pmirr
  cases hx : isPr a b
  · rw [hx] at hg
    unfold pv at hg
    have Hg := Lib.hid hg; clear hg hx
    simp only [Bool.false_eq_true, ↓reduceIte]
    unfold pv
    go_enter Try.func34, Try.ntmps34
    go_wp2_with fail
    refine (Hg.out _).mono ?_
    rintro e w1 ⟨rfl, hb1⟩
    have hr := hr.up hb1
    have hB := nx hB hb1
    clear hb1
    have o0 := hr.cell 0 (by omega)
    have o1 := hr.cell 1 (by omega)
    have o2 := hr.cell 2 (by omega)
    have o3 := hr.cell 3 (by omega)
    have o4 := hr.cell 4 (by omega)
    have o5 := hr.cell 5 (by omega)
    have o6 := hr.cell 6 (by omega)
    have o7 := hr.cell 7 (by omega)
    have o8 := hr.cell 8 (by omega)
    have o9 := hr.cell 9 (by omega)
    have o10 := hr.cell 10 (by omega)
    have o11 := hr.cell 11 (by omega)
    obtain ⟨f0, f1, f2, f3, f4, f5, f6, f7, f8, f9, f10, f11⟩ := At.free12 hr
    go_wp2_with fail
    refine ret_cell_tmpS (b := w.heap.size + 1) (n := 12) (f := pr (fun _ => 0) (fun _ => 0)) Try.results34 rfl rfl Try.underlying26 infoP (hr.stored (pr (fun _ => 0) (fun _ => 0))) rfl ⟨rfl, ?_⟩
    exact hB.trans (setCells_below (p := w.heap.size + 1) (B := w.heap.size) (by omega) (vals 12 (pr (fun _ => 0) (fun _ => 0))) 0)
  · rw [hx] at hg
    simp only [↓reduceIte]
    obtain ⟨da, db⟩ : isDie a = true ∧ isDie b = true := by
      unfold isPr at hx
      simp only [Bool.and_eq_true] at hx
      exact ⟨hx.1.1, hx.1.2⟩
    have hfa := implOpp_any a
    have hfb := implOpp_any b
    have he := implPairOf_any (opp a) (opp b)
    rw [da] at hfa
    rw [db] at hfb
    rw [ppair_yes (opp_die da) (opp_die db)] at he
    simp only [↓reduceIte] at hfa hfb
    clear da db
    unfold dv at hfa hfb he
    unfold pv at hg he
    have Hg := Lib.hid hg; clear hg hx
    have Ha := Lib.hid hfa; clear hfa
    have Hb := Lib.hid hfb; clear hfb
    have He := Lib.hid he; clear he
    unfold pv
    go_enter Try.func34, Try.ntmps34
    go_wp2_with fail
    refine (Hg.out _).mono ?_
    rintro e w1 ⟨rfl, hb1⟩
    have hp := hp.up hb1
    have hr := hr.up hb1
    have hB := nx hB hb1
    clear hb1
    obtain ⟨c0, c1, c2, c3, c4, c5, c6, c7, c8, c9, c10, c11⟩ := At.twelve hp
    go_wp2_with fail
    refine (Ha.out _).mono ?_
    rintro e w2 ⟨rfl, hb1⟩
    have hp := (hp.up hb1).past (sixO (opp a) 22)
    have hr := (hr.up hb1).past (sixO (opp a) 22)
    have hB := na (nx hB hb1) (sixO (opp a) 22)
    have ha := At.new6 w2 (opp a) 22 rfl
    clear hb1 c0 c1 c2 c3 c4 c5 c6 c7 c8 c9 c10 c11
    obtain ⟨c0, c1, c2, c3, c4, c5, c6, c7, c8, c9, c10, c11⟩ := At.twelve hp
    go_wp2_with fail
    refine (Hb.out _).mono ?_
    rintro e w3 ⟨rfl, hb1⟩
    have hr := (hr.up hb1).past (sixO (opp b) 22)
    have hB := na (nx hB hb1) (sixO (opp b) 22)
    have ha := (ha.up hb1).past (sixO (opp b) 22)
    have hb := At.new6 w3 (opp b) 22 rfl
    clear hb1 c0 c1 c2 c3 c4 c5 c6 c7 c8 c9 c10 c11
    obtain ⟨a0, a1, a2, a3, a4, a5⟩ := ha.six
    obtain ⟨b0, b1, b2, b3, b4, b5⟩ := hb.six
    go_wp2_with fail
    refine (He.out _).mono ?_
    rintro e w4 ⟨rfl, hb1⟩
    have hr := hr.up hb1
    have hB := nx hB hb1
    clear hb1 ha hb hp a0 a1 a2 a3 a4 a5 b0 b1 b2 b3 b4 b5
    have o0 := hr.cell 0 (by omega)
    have o1 := hr.cell 1 (by omega)
    have o2 := hr.cell 2 (by omega)
    have o3 := hr.cell 3 (by omega)
    have o4 := hr.cell 4 (by omega)
    have o5 := hr.cell 5 (by omega)
    have o6 := hr.cell 6 (by omega)
    have o7 := hr.cell 7 (by omega)
    have o8 := hr.cell 8 (by omega)
    have o9 := hr.cell 9 (by omega)
    have o10 := hr.cell 10 (by omega)
    have o11 := hr.cell 11 (by omega)
    obtain ⟨f0, f1, f2, f3, f4, f5, f6, f7, f8, f9, f10, f11⟩ := At.free12 hr
    go_wp2_with fail
    refine ret_cell_tmpS (b := w.heap.size + 1) (n := 12) (f := pr (lo2 (opp a) (opp b)) (hi2 (opp a) (opp b))) Try.results34 rfl rfl Try.underlying26 infoP (hr.stored (pr (lo2 (opp a) (opp b)) (hi2 (opp a) (opp b)))) rfl ⟨rfl, ?_⟩
    exact hB.trans (setCells_below (p := w.heap.size + 1) (B := w.heap.size) (by omega) (vals 12 (pr (lo2 (opp a) (opp b)) (hi2 (opp a) (opp b)))) 0)

set_option maxRecDepth 20000 in
set_option maxHeartbeats 4000000 in
theorem specMirror_any (a b : Nat → Int) (w : World) :
    Calls Try.prog 33 #[pv a b] w fun e w' => e = .returned (.tuple (pmirr a b)) ∧ Below w.heap.size w w' := by
  have hg := l5Good_any a b
  have hp := (At.new12 w a b 26 rfl).past (twO (fun _ => 0) (fun _ => 0) 26)
  have hr := zero12 (w.alloc (twO a b 26)) (b := w.heap.size + 1) (by rw [size_alloc])
  have hB := na (na (n0 w) (twO a b 26)) (twO (fun _ => 0) (fun _ => 0) 26)
  unfold pmirr
  cases hx : isPr a b
  · rw [hx] at hg
    unfold pv at hg
    have Hg := Lib.hid hg; clear hg hx
    simp only [Bool.false_eq_true, ↓reduceIte]
    unfold pv
    go_enter Try.func33, Try.ntmps33
    go_wp2_with fail
    refine (Hg.out _).mono ?_
    rintro e w1 ⟨rfl, hb1⟩
    have hr := hr.up hb1
    have hB := nx hB hb1
    clear hb1
    have o0 := hr.cell 0 (by omega)
    have o1 := hr.cell 1 (by omega)
    have o2 := hr.cell 2 (by omega)
    have o3 := hr.cell 3 (by omega)
    have o4 := hr.cell 4 (by omega)
    have o5 := hr.cell 5 (by omega)
    have o6 := hr.cell 6 (by omega)
    have o7 := hr.cell 7 (by omega)
    have o8 := hr.cell 8 (by omega)
    have o9 := hr.cell 9 (by omega)
    have o10 := hr.cell 10 (by omega)
    have o11 := hr.cell 11 (by omega)
    obtain ⟨f0, f1, f2, f3, f4, f5, f6, f7, f8, f9, f10, f11⟩ := At.free12 hr
    go_wp2_with fail
    refine ret_cell_tmpS (b := w.heap.size + 1) (n := 12) (f := pr (fun _ => 0) (fun _ => 0)) Try.results33 rfl rfl Try.underlying26 infoP (hr.stored (pr (fun _ => 0) (fun _ => 0))) rfl ⟨rfl, ?_⟩
    exact hB.trans (setCells_below (p := w.heap.size + 1) (B := w.heap.size) (by omega) (vals 12 (pr (fun _ => 0) (fun _ => 0))) 0)
  · rw [hx] at hg
    simp only [↓reduceIte]
    obtain ⟨da, db⟩ : isDie a = true ∧ isDie b = true := by
      unfold isPr at hx
      simp only [Bool.and_eq_true] at hx
      exact ⟨hx.1.1, hx.1.2⟩
    have hfa := specOpp_any a
    have hfb := specOpp_any b
    have he := l5Pair_any (opp a) (opp b)
    rw [da] at hfa
    rw [db] at hfb
    simp only [↓reduceIte] at hfa hfb
    clear da db
    unfold dv at hfa hfb he
    unfold pv at hg he
    have Hg := Lib.hid hg; clear hg hx
    have Ha := Lib.hid hfa; clear hfa
    have Hb := Lib.hid hfb; clear hfb
    have He := Lib.hid he; clear he
    unfold pv
    go_enter Try.func33, Try.ntmps33
    go_wp2_with fail
    refine (Hg.out _).mono ?_
    rintro e w1 ⟨rfl, hb1⟩
    have hp := hp.up hb1
    have hr := hr.up hb1
    have hB := nx hB hb1
    clear hb1
    obtain ⟨c0, c1, c2, c3, c4, c5, c6, c7, c8, c9, c10, c11⟩ := At.twelve hp
    go_wp2_with fail
    refine (Ha.out _).mono ?_
    rintro e w2 ⟨rfl, hb1⟩
    have hp := (hp.up hb1).past (sixO (opp a) 22)
    have hr := (hr.up hb1).past (sixO (opp a) 22)
    have hB := na (nx hB hb1) (sixO (opp a) 22)
    have ha := At.new6 w2 (opp a) 22 rfl
    clear hb1 c0 c1 c2 c3 c4 c5 c6 c7 c8 c9 c10 c11
    obtain ⟨c0, c1, c2, c3, c4, c5, c6, c7, c8, c9, c10, c11⟩ := At.twelve hp
    go_wp2_with fail
    refine (Hb.out _).mono ?_
    rintro e w3 ⟨rfl, hb1⟩
    have hr := (hr.up hb1).past (sixO (opp b) 22)
    have hB := na (nx hB hb1) (sixO (opp b) 22)
    have ha := (ha.up hb1).past (sixO (opp b) 22)
    have hb := At.new6 w3 (opp b) 22 rfl
    clear hb1 c0 c1 c2 c3 c4 c5 c6 c7 c8 c9 c10 c11
    obtain ⟨a0, a1, a2, a3, a4, a5⟩ := ha.six
    obtain ⟨b0, b1, b2, b3, b4, b5⟩ := hb.six
    go_wp2_with fail
    refine (He.out _).mono ?_
    rintro e w4 ⟨rfl, hb1⟩
    have hr := hr.up hb1
    have hB := nx hB hb1
    clear hb1 ha hb hp a0 a1 a2 a3 a4 a5 b0 b1 b2 b3 b4 b5
    have o0 := hr.cell 0 (by omega)
    have o1 := hr.cell 1 (by omega)
    have o2 := hr.cell 2 (by omega)
    have o3 := hr.cell 3 (by omega)
    have o4 := hr.cell 4 (by omega)
    have o5 := hr.cell 5 (by omega)
    have o6 := hr.cell 6 (by omega)
    have o7 := hr.cell 7 (by omega)
    have o8 := hr.cell 8 (by omega)
    have o9 := hr.cell 9 (by omega)
    have o10 := hr.cell 10 (by omega)
    have o11 := hr.cell 11 (by omega)
    obtain ⟨f0, f1, f2, f3, f4, f5, f6, f7, f8, f9, f10, f11⟩ := At.free12 hr
    go_wp2_with fail
    refine ret_cell_tmpS (b := w.heap.size + 1) (n := 12) (f := pr (lo2 (opp a) (opp b)) (hi2 (opp a) (opp b))) Try.results33 rfl rfl Try.underlying26 infoP (hr.stored (pr (lo2 (opp a) (opp b)) (hi2 (opp a) (opp b)))) rfl ⟨rfl, ?_⟩
    exact hB.trans (setCells_below (p := w.heap.size + 1) (B := w.heap.size) (by omega) (vals 12 (pr (lo2 (opp a) (opp b)) (hi2 (opp a) (opp b)))) 0)


end MirrW
end Go.Proofs.Ytjdijbidpcjjdaa
