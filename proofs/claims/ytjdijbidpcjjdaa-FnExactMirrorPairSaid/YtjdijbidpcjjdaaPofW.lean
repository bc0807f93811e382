/-
  PairOf, both sides.
-/
import Derived.Test.YtjdijbidpcjjdaaRows
import Derived.Test.YtjdijbidpcjjdaaGoodW
import Derived.Test.YtjdijbidpcjjdaaToP
import Derived.Test.YtjdijbidpcjjdaaSgnW
import Derived.Test.YtjdijbidpcjjdaaLessW
import Derived.Test.YtjdijbidpcjjdaaPairA
import Derived.Test.YtjdijbidpcjjdaaSortW
import Derived.Test.YtjdijbidpcjjdaaDicesW
import Derived.Test.YtjdijbidpcjjdaaDieW
import Derived.Test.YtjdijbidpcjjdaaOpenD
import Derived.Test.YtjdijbidpcjjdaaArr
import Derived.WalkKit
import Derived.WalkLawsBesides
import Derived.WalkSpells
import Derived.ProofKit
import Derived.OpenShut
import Derived.Deep.RegionWith
import Derived.Deep.QuietTactic
import Derived.BigQuiet
namespace Go.Proofs.Ytjdijbidpcjjdaa
open Go.ChangeShapes Go.WideShapes Go.ChangeAt Go.RowKit
open Go.ChangeMaps (open_string shut_string)

namespace PofW
open Dice Arr OpenD DieW SortW LessW SgnW PairA ToP GoodW

/-- Which one comes first. -/
noncomputable def lo2 (a b : Nat → Int) : Nat → Int := if bef b a then b else a
noncomputable def hi2 (a b : Nat → Int) : Nat → Int := if bef b a then a else b
noncomputable def ppair (a b : Nat → Int) : Array Value := if isDie a && isDie b then #[pv (lo2 a b) (hi2 a b), .bool true] else #[pv (fun _ => 0) (fun _ => 0), .bool false]
theorem infoP : (Try.prog.info? 26).map (·.size) = some 12 := by kernel_rfl

set_option maxHeartbeats 2000000 in
theorem l5Pair_any (a b : Nat → Int) (w : World) :
    Calls Try.prog 42 #[dv a, dv b] w fun e w' => e = .returned (pv (lo2 a b) (hi2 a b)) ∧ Below w.heap.size w w' := by
  have hc := before_any b a
  unfold lo2 hi2
  generalize bef b a = x at hc ⊢
  unfold dv at hc
  have Hc := Lib.hid hc; clear hc
  have ha := ((At.new6 w a 22 rfl).past (sixO b 22)).past (twO (fun _ => 0) (fun _ => 0) 26)
  have hb := (At.new6 (w.alloc (sixO a 22)) b 22 (b := w.heap.size + 1) (by rw [size_alloc])).past (twO (fun _ => 0) (fun _ => 0) 26)
  have hr := zero12 ((w.alloc (sixO a 22)).alloc (sixO b 22)) (b := w.heap.size + 2) (by rw [size_alloc, size_alloc])
  have hB := na (na (na (n0 w) (sixO a 22)) (sixO b 22)) (twO (fun _ => 0) (fun _ => 0) 26)
  unfold dv
  go_enter Try.func42, Try.ntmps42
  go_wp2_with fail
  refine (Hc.out _).mono ?_
  rintro e w1 ⟨rfl, hb1⟩
  have hB := nx hB hb1
  have ha := ha.up hb1
  have hb := hb.up hb1
  have hr := hr.up hb1
  clear hb1
  obtain ⟨a0, a1, a2, a3, a4, a5⟩ := ha.six
  obtain ⟨b0, b1, b2, b3, b4, b5⟩ := hb.six
  have o0 := hr.cell 0 (by omega)
  have o1 := hr.cell 1 (by omega)
  have o2 := hr.cell 2 (by omega)
  have o3 := hr.cell 3 (by omega)
  have o4 := hr.cell 4 (by omega)
  have o5 := hr.cell 5 (by omega)
  have o6 := hr.cell 6 (by omega)
  have o7 := hr.cell 7 (by omega)
  have o8 := hr.cell 8 (by omega)
  have o9 := hr.cell 9 (by omega)
  have o10 := hr.cell 10 (by omega)
  have o11 := hr.cell 11 (by omega)
  obtain ⟨f0, f1, f2, f3, f4, f5, f6, f7, f8, f9, f10, f11⟩ := At.free12 hr
  cases x
  · go_wp2_with fail
    refine ret_cellS (b := w.heap.size + 2) (n := 12) (f := pr a b) Try.results42 rfl Try.underlying26 infoP (hr.stored (pr a b)) rfl ⟨rfl, ?_⟩
    exact hB.trans (setCells_below (p := w.heap.size + 2) (B := w.heap.size) (by omega) (vals 12 (pr a b)) 0)
  · go_wp2_with fail
    refine ret_cellS (b := w.heap.size + 2) (n := 12) (f := pr b a) Try.results42 rfl Try.underlying26 infoP (hr.stored (pr b a)) rfl ⟨rfl, ?_⟩
    exact hB.trans (setCells_below (p := w.heap.size + 2) (B := w.heap.size) (by omega) (vals 12 (pr b a)) 0)

set_option maxHeartbeats 4000000 in
theorem specPairOf_any (a b : Nat → Int) (w : World) :
    Calls Try.prog 15 #[dv a, dv b] w fun e w' => e = .returned (.tuple (ppair a b)) ∧ Below w.heap.size w w' := by
  have hda := l2Die_any a
  have hdb := l2Die_any b
  have hc := l5Pair_any a b
  unfold pv at hc
  have ha := ((At.new6 w a 22 rfl).past (sixO b 22)).past (twO (fun _ => 0) (fun _ => 0) 26)
  have hb := (At.new6 (w.alloc (sixO a 22)) b 22 (b := w.heap.size + 1) (by rw [size_alloc])).past (twO (fun _ => 0) (fun _ => 0) 26)
  have hr := zero12 ((w.alloc (sixO a 22)).alloc (sixO b 22)) (b := w.heap.size + 2) (by rw [size_alloc, size_alloc])
  have hB := na (na (na (n0 w) (sixO a 22)) (sixO b 22)) (twO (fun _ => 0) (fun _ => 0) 26)
  unfold dv at hda hdb hc
  have Hc := Lib.hid hc; clear hc
  unfold ppair
  cases hxa : isDie a
  · rw [hxa] at hda
    have Ha := Lib.hid hda; clear hda hxa hdb Hc
    simp only [Bool.false_and, Bool.false_eq_true, ↓reduceIte]
    unfold dv
    go_enter Try.func15, Try.ntmps15
    go_wp2_with fail
    refine (Ha.out _).mono ?_
    rintro e w1 ⟨rfl, hb1⟩
    have hB := nx hB hb1
    have ha := ha.up hb1
    have hb := hb.up hb1
    have hr := hr.up hb1
    clear hb1
    have o0 := hr.cell 0 (by omega)
    have o1 := hr.cell 1 (by omega)
    have o2 := hr.cell 2 (by omega)
    have o3 := hr.cell 3 (by omega)
    have o4 := hr.cell 4 (by omega)
    have o5 := hr.cell 5 (by omega)
    have o6 := hr.cell 6 (by omega)
    have o7 := hr.cell 7 (by omega)
    have o8 := hr.cell 8 (by omega)
    have o9 := hr.cell 9 (by omega)
    have o10 := hr.cell 10 (by omega)
    have o11 := hr.cell 11 (by omega)
    obtain ⟨f0, f1, f2, f3, f4, f5, f6, f7, f8, f9, f10, f11⟩ := At.free12 hr
    go_wp2_with fail
    refine ret_cell_tmpS (b := w.heap.size + 2) (n := 12) (f := pr (fun _ => 0) (fun _ => 0)) Try.results15 rfl rfl Try.underlying26 infoP (hr.stored (pr (fun _ => 0) (fun _ => 0))) rfl ⟨rfl, ?_⟩
    exact hB.trans (setCells_below (p := w.heap.size + 2) (B := w.heap.size) (by omega) (vals 12 (pr (fun _ => 0) (fun _ => 0))) 0)
  · rw [hxa] at hda
    have Ha := Lib.hid hda; clear hda hxa
    cases hxb : isDie b
    · rw [hxb] at hdb
      have Hb := Lib.hid hdb; clear hdb hxb Hc
      simp only [Bool.and_false, Bool.false_eq_true, ↓reduceIte]
      unfold dv
      go_enter Try.func15, Try.ntmps15
      go_wp2_with fail
      refine (Ha.out _).mono ?_
      rintro e w1 ⟨rfl, hb1⟩
      have hB := nx hB hb1
      have ha := ha.up hb1
      have hb := hb.up hb1
      have hr := hr.up hb1
      clear hb1
      obtain ⟨b0, b1, b2, b3, b4, b5⟩ := hb.six
      go_wp2_with fail
      refine (Hb.out _).mono ?_
      rintro e w2 ⟨rfl, hb1⟩
      clear b0 b1 b2 b3 b4 b5
      have hB := nx hB hb1
      have ha := ha.up hb1
      have hb := hb.up hb1
      have hr := hr.up hb1
      clear hb1
      have o0 := hr.cell 0 (by omega)
      have o1 := hr.cell 1 (by omega)
      have o2 := hr.cell 2 (by omega)
      have o3 := hr.cell 3 (by omega)
      have o4 := hr.cell 4 (by omega)
      have o5 := hr.cell 5 (by omega)
      have o6 := hr.cell 6 (by omega)
      have o7 := hr.cell 7 (by omega)
      have o8 := hr.cell 8 (by omega)
      have o9 := hr.cell 9 (by omega)
      have o10 := hr.cell 10 (by omega)
      have o11 := hr.cell 11 (by omega)
      obtain ⟨f0, f1, f2, f3, f4, f5, f6, f7, f8, f9, f10, f11⟩ := At.free12 hr
      go_wp2_with fail
      refine ret_cell_tmpS (b := w.heap.size + 2) (n := 12) (f := pr (fun _ => 0) (fun _ => 0)) Try.results15 rfl rfl Try.underlying26 infoP (hr.stored (pr (fun _ => 0) (fun _ => 0))) rfl ⟨rfl, ?_⟩
      exact hB.trans (setCells_below (p := w.heap.size + 2) (B := w.heap.size) (by omega) (vals 12 (pr (fun _ => 0) (fun _ => 0))) 0)
    · rw [hxb] at hdb
      have Hb := Lib.hid hdb; clear hdb hxb
      simp only [Bool.and_self, ↓reduceIte]
      unfold dv
      go_enter Try.func15, Try.ntmps15
      go_wp2_with fail
      refine (Ha.out _).mono ?_
      rintro e w1 ⟨rfl, hb1⟩
      have hB := nx hB hb1
      have ha := ha.up hb1
      have hb := hb.up hb1
      have hr := hr.up hb1
      clear hb1
      obtain ⟨b0, b1, b2, b3, b4, b5⟩ := hb.six
      go_wp2_with fail
      refine (Hb.out _).mono ?_
      rintro e w2 ⟨rfl, hb1⟩
      clear b0 b1 b2 b3 b4 b5
      have hB := nx hB hb1
      have ha := ha.up hb1
      have hb := hb.up hb1
      have hr := hr.up hb1
      clear hb1
      obtain ⟨a0, a1, a2, a3, a4, a5⟩ := ha.six
      obtain ⟨b0, b1, b2, b3, b4, b5⟩ := hb.six
      go_wp2_with fail
      refine (Hc.out _).mono ?_
      rintro e w3 ⟨rfl, hb1⟩
      clear a0 a1 a2 a3 a4 a5 b0 b1 b2 b3 b4 b5
      have hB := nx hB hb1
      have ha := ha.up hb1
      have hb := hb.up hb1
      have hr := hr.up hb1
      clear hb1
      have o0 := hr.cell 0 (by omega)
      have o1 := hr.cell 1 (by omega)
      have o2 := hr.cell 2 (by omega)
      have o3 := hr.cell 3 (by omega)
      have o4 := hr.cell 4 (by omega)
      have o5 := hr.cell 5 (by omega)
      have o6 := hr.cell 6 (by omega)
      have o7 := hr.cell 7 (by omega)
      have o8 := hr.cell 8 (by omega)
      have o9 := hr.cell 9 (by omega)
      have o10 := hr.cell 10 (by omega)
      have o11 := hr.cell 11 (by omega)
      obtain ⟨f0, f1, f2, f3, f4, f5, f6, f7, f8, f9, f10, f11⟩ := At.free12 hr
      go_wp2_with fail
      refine ret_cell_tmpS (b := w.heap.size + 2) (n := 12) (f := pr (lo2 a b) (hi2 a b)) Try.results15 rfl rfl Try.underlying26 infoP (hr.stored (pr (lo2 a b) (hi2 a b))) rfl ⟨rfl, ?_⟩
      exact hB.trans (setCells_below (p := w.heap.size + 2) (B := w.heap.size) (by omega) (vals 12 (pr (lo2 a b) (hi2 a b))) 0)

set_option maxHeartbeats 4000000 in
theorem implPairOf_any (a b : Nat → Int) (w : World) :
    Calls Try.prog 17 #[dv a, dv b] w fun e w' => e = .returned (.tuple (ppair a b)) ∧ Below w.heap.size w w' := by
  have hda := implIsDie_any a
  have hdb := implIsDie_any b
  have hc := SgnW.compareDice_any a b
  have hsg := sg_pos a b
  unfold ppair lo2 hi2
  generalize sg a b = s at hc hsg
  generalize bef b a = x at hsg ⊢
  have ha := ((At.new6 w a 22 rfl).past (sixO b 22)).past (twO (fun _ => 0) (fun _ => 0) 26)
  have hb := (At.new6 (w.alloc (sixO a 22)) b 22 (b := w.heap.size + 1) (by rw [size_alloc])).past (twO (fun _ => 0) (fun _ => 0) 26)
  have hr := zero12 ((w.alloc (sixO a 22)).alloc (sixO b 22)) (b := w.heap.size + 2) (by rw [size_alloc, size_alloc])
  have hB := na (na (na (n0 w) (sixO a 22)) (sixO b 22)) (twO (fun _ => 0) (fun _ => 0) 26)
  unfold dv at hda hdb hc
  have Hc := Lib.hid hc; clear hc
  cases hxa : isDie a
  · rw [hxa] at hda
    have Ha := Lib.hid hda; clear hda hxa hdb Hc
    simp only [Bool.false_and, Bool.false_eq_true, ↓reduceIte]
    unfold dv
    go_enter Try.func17, Try.ntmps17
    go_wp2_with fail
    refine (Ha.out _).mono ?_
    rintro e w1 ⟨rfl, hb1⟩
    have hB := nx hB hb1
    have ha := ha.up hb1
    have hb := hb.up hb1
    have hr := hr.up hb1
    clear hb1
    have o0 := hr.cell 0 (by omega)
    have o1 := hr.cell 1 (by omega)
    have o2 := hr.cell 2 (by omega)
    have o3 := hr.cell 3 (by omega)
    have o4 := hr.cell 4 (by omega)
    have o5 := hr.cell 5 (by omega)
    have o6 := hr.cell 6 (by omega)
    have o7 := hr.cell 7 (by omega)
    have o8 := hr.cell 8 (by omega)
    have o9 := hr.cell 9 (by omega)
    have o10 := hr.cell 10 (by omega)
    have o11 := hr.cell 11 (by omega)
    obtain ⟨f0, f1, f2, f3, f4, f5, f6, f7, f8, f9, f10, f11⟩ := At.free12 hr
    go_wp2_with fail
    refine ret_cell_tmpS (b := w.heap.size + 2) (n := 12) (f := pr (fun _ => 0) (fun _ => 0)) Try.results17 rfl rfl Try.underlying26 infoP (hr.stored (pr (fun _ => 0) (fun _ => 0))) rfl ⟨rfl, ?_⟩
    exact hB.trans (setCells_below (p := w.heap.size + 2) (B := w.heap.size) (by omega) (vals 12 (pr (fun _ => 0) (fun _ => 0))) 0)
  · rw [hxa] at hda
    have Ha := Lib.hid hda; clear hda hxa
    cases hxb : isDie b
    · rw [hxb] at hdb
      have Hb := Lib.hid hdb; clear hdb hxb Hc
      simp only [Bool.and_false, Bool.false_eq_true, ↓reduceIte]
      unfold dv
      go_enter Try.func17, Try.ntmps17
      go_wp2_with fail
      refine (Ha.out _).mono ?_
      rintro e w1 ⟨rfl, hb1⟩
      have hB := nx hB hb1
      have ha := ha.up hb1
      have hb := hb.up hb1
      have hr := hr.up hb1
      clear hb1
      obtain ⟨b0, b1, b2, b3, b4, b5⟩ := hb.six
      go_wp2_with fail
      refine (Hb.out _).mono ?_
      rintro e w2 ⟨rfl, hb1⟩
      clear b0 b1 b2 b3 b4 b5
      have hB := nx hB hb1
      have ha := ha.up hb1
      have hb := hb.up hb1
      have hr := hr.up hb1
      clear hb1
      have o0 := hr.cell 0 (by omega)
      have o1 := hr.cell 1 (by omega)
      have o2 := hr.cell 2 (by omega)
      have o3 := hr.cell 3 (by omega)
      have o4 := hr.cell 4 (by omega)
      have o5 := hr.cell 5 (by omega)
      have o6 := hr.cell 6 (by omega)
      have o7 := hr.cell 7 (by omega)
      have o8 := hr.cell 8 (by omega)
      have o9 := hr.cell 9 (by omega)
      have o10 := hr.cell 10 (by omega)
      have o11 := hr.cell 11 (by omega)
      obtain ⟨f0, f1, f2, f3, f4, f5, f6, f7, f8, f9, f10, f11⟩ := At.free12 hr
      go_wp2_with fail
      refine ret_cell_tmpS (b := w.heap.size + 2) (n := 12) (f := pr (fun _ => 0) (fun _ => 0)) Try.results17 rfl rfl Try.underlying26 infoP (hr.stored (pr (fun _ => 0) (fun _ => 0))) rfl ⟨rfl, ?_⟩
      exact hB.trans (setCells_below (p := w.heap.size + 2) (B := w.heap.size) (by omega) (vals 12 (pr (fun _ => 0) (fun _ => 0))) 0)
    · rw [hxb] at hdb
      have Hb := Lib.hid hdb; clear hdb hxb
      simp only [Bool.and_self, ↓reduceIte]
      unfold dv
      go_enter Try.func17, Try.ntmps17
      go_wp2_with fail
      refine (Ha.out _).mono ?_
      rintro e w1 ⟨rfl, hb1⟩
      have hB := nx hB hb1
      have ha := ha.up hb1
      have hb := hb.up hb1
      have hr := hr.up hb1
      clear hb1
      obtain ⟨b0, b1, b2, b3, b4, b5⟩ := hb.six
      go_wp2_with fail
      refine (Hb.out _).mono ?_
      rintro e w2 ⟨rfl, hb1⟩
      clear b0 b1 b2 b3 b4 b5
      have hB := nx hB hb1
      have ha := ha.up hb1
      have hb := hb.up hb1
      have hr := hr.up hb1
      clear hb1
      obtain ⟨a0, a1, a2, a3, a4, a5⟩ := ha.six
      obtain ⟨b0, b1, b2, b3, b4, b5⟩ := hb.six
      go_wp2_with fail
      refine (Hc.out _).mono ?_
      rintro e w3 ⟨rfl, hb1⟩
      clear a0 a1 a2 a3 a4 a5 b0 b1 b2 b3 b4 b5
      have hB := nx hB hb1
      have ha := ha.up hb1
      have hb := hb.up hb1
      have hr := hr.up hb1
      clear hb1
      obtain ⟨a0, a1, a2, a3, a4, a5⟩ := ha.six
      obtain ⟨b0, b1, b2, b3, b4, b5⟩ := hb.six
      obtain ⟨y0, y1, y2, y3, y4, y5⟩ := ha.free6
      obtain ⟨z0, z1, z2, z3, z4, z5⟩ := hb.free6
      have hlt := hr.lt
      have o0 := hr.cell 0 (by omega)
      have o1 := hr.cell 1 (by omega)
      have o2 := hr.cell 2 (by omega)
      have o3 := hr.cell 3 (by omega)
      have o4 := hr.cell 4 (by omega)
      have o5 := hr.cell 5 (by omega)
      have o6 := hr.cell 6 (by omega)
      have o7 := hr.cell 7 (by omega)
      have o8 := hr.cell 8 (by omega)
      have o9 := hr.cell 9 (by omega)
      have o10 := hr.cell 10 (by omega)
      have o11 := hr.cell 11 (by omega)
      obtain ⟨f0, f1, f2, f3, f4, f5, f6, f7, f8, f9, f10, f11⟩ := At.free12 hr
      cases x
      · go_wp2_with fail
        refine ret_cell_tmpS (b := w.heap.size + 2) (n := 12) (f := pr a b) Try.results17 rfl rfl Try.underlying26 infoP (hr.stored (pr a b)) rfl ⟨rfl, ?_⟩
        exact hB.trans (setCells_below (p := w.heap.size + 2) (B := w.heap.size) (by omega) (vals 12 (pr a b)) 0)
      · have hr2 := (hr.keep (p := w.heap.size) (by omega) (vals 6 b) 0).keep (p := w.heap.size + 1) (by omega) (vals 6 a) 0
        have hB2 := (hB.trans (setCells_below (p := w.heap.size) (B := w.heap.size) (by omega) (vals 6 b) 0)).trans (setCells_below (p := w.heap.size + 1) (B := w.heap.size) (by omega) (vals 6 a) 0)
        go_wp2_with fail
        refine ret_cell_tmpS (b := w.heap.size + 2) (n := 12) (f := pr b a) Try.results17 rfl rfl Try.underlying26 infoP (hr2.stored (pr b a)) rfl ⟨rfl, ?_⟩
        exact hB2.trans (setCells_below (p := w.heap.size + 2) (B := w.heap.size) (by omega) (vals 12 (pr b a)) 0)


end PofW
end Go.Proofs.Ytjdijbidpcjjdaa
