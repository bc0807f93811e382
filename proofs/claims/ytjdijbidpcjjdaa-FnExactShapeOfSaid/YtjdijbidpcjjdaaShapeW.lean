/-
  The shape of a pair, both sides.
-/
import Derived.Test.YtjdijbidpcjjdaaRows
import Derived.Test.YtjdijbidpcjjdaaAnyR
import Derived.Test.YtjdijbidpcjjdaaPofW
import Derived.Test.YtjdijbidpcjjdaaBaseW
import Derived.Test.YtjdijbidpcjjdaaGoodW
import Derived.Test.YtjdijbidpcjjdaaToP
import Derived.Test.YtjdijbidpcjjdaaSgnW
import Derived.Test.YtjdijbidpcjjdaaLessW
import Derived.Test.YtjdijbidpcjjdaaPairA
import Derived.Test.YtjdijbidpcjjdaaShiftI
import Derived.Test.YtjdijbidpcjjdaaSortW
import Derived.Test.YtjdijbidpcjjdaaDicesW
import Derived.Test.YtjdijbidpcjjdaaDieW
import Derived.Test.YtjdijbidpcjjdaaOpenD
import Derived.Test.YtjdijbidpcjjdaaArr
import Derived.WalkKit
import Derived.WalkLawsBesides
import Derived.WalkSpells
import Derived.ProofKit
import Derived.OpenShut
import Derived.Deep.RegionWith
import Derived.Deep.QuietTactic
import Derived.BigQuiet
namespace Go.Proofs.Ytjdijbidpcjjdaa
open Go.ChangeShapes Go.WideShapes Go.ChangeAt Go.RowKit
open Go.ChangeMaps (open_string shut_string)

namespace ShapeW
open Dice Arr OpenD DieW SortW DicesW LessW SgnW PairA ToP GoodW PofW ShiftI BaseW AnyR

theorem ppair_yes {a b : Nat → Int} (ha : isDie a = true) (hb : isDie b = true) : ppair a b = #[pv (lo2 a b) (hi2 a b), .bool true] := by
  unfold ppair; rw [ha, hb]; rfl
/-- The answer. -/
noncomputable def pshape (a b : Nat → Int) : Array Value := if isPr a b then #[pv (lo2 (bas a) (bas b)) (hi2 (bas a) (bas b)), .bool true] else #[pv (fun _ => 0) (fun _ => 0), .bool false]

set_option maxRecDepth 20000 in
set_option maxHeartbeats 4000000 in
theorem implShape_any (a b : Nat → Int) (w : World) :
    Calls Try.prog 25 #[pv a b] w fun e w' => e = .returned (.tuple (pshape a b)) ∧ Below w.heap.size w w' := by
  have hg := implPair_any a b
  have hp := (At.new12 w a b 26 rfl).past (twO (fun _ => 0) (fun _ => 0) 26)
  have hr := zero12 (w.alloc (twO a b 26)) (b := w.heap.size + 1) (by rw [size_alloc])
  have hB := na (na (n0 w) (twO a b 26)) (twO (fun _ => 0) (fun _ => 0) 26)
  unfold pshape
  cases hx : isPr a b
  · rw [hx] at hg
    unfold pv at hg
    have Hg := Lib.hid hg; clear hg hx
    simp only [Bool.false_eq_true, ↓reduceIte]
    unfold pv
    go_enter Try.func25, Try.ntmps25
    go_wp2_with fail
    refine (Hg.out _).mono ?_
    rintro e w1 ⟨rfl, hb1⟩
    have hr := hr.up hb1
    have hB := nx hB hb1
    clear hb1
    have o0 := hr.cell 0 (by omega)
    have o1 := hr.cell 1 (by omega)
    have o2 := hr.cell 2 (by omega)
    have o3 := hr.cell 3 (by omega)
    have o4 := hr.cell 4 (by omega)
    have o5 := hr.cell 5 (by omega)
    have o6 := hr.cell 6 (by omega)
    have o7 := hr.cell 7 (by omega)
    have o8 := hr.cell 8 (by omega)
    have o9 := hr.cell 9 (by omega)
    have o10 := hr.cell 10 (by omega)
    have o11 := hr.cell 11 (by omega)
    obtain ⟨f0, f1, f2, f3, f4, f5, f6, f7, f8, f9, f10, f11⟩ := At.free12 hr
    go_wp2_with fail
    refine ret_cell_tmpS (b := w.heap.size + 1) (n := 12) (f := pr (fun _ => 0) (fun _ => 0)) Try.results25 rfl rfl Try.underlying26 infoP (hr.stored (pr (fun _ => 0) (fun _ => 0))) rfl ⟨rfl, ?_⟩
    exact hB.trans (setCells_below (p := w.heap.size + 1) (B := w.heap.size) (by omega) (vals 12 (pr (fun _ => 0) (fun _ => 0))) 0)
  · rw [hx] at hg
    simp only [↓reduceIte]
    obtain ⟨da, db⟩ : isDie a = true ∧ isDie b = true := by
      unfold isPr at hx
      simp only [Bool.and_eq_true] at hx
      exact ⟨hx.1.1, hx.1.2⟩
    have hfa := implBase_any a
    have hfb := implBase_any b
    have he := implPairOf_any (bas a) (bas b)
    rw [show pbas a = #[dv (bas a), .bool true] by unfold pbas; rw [da]; rfl] at hfa
    rw [show pbas b = #[dv (bas b), .bool true] by unfold pbas; rw [db]; rfl] at hfb
    rw [ppair_yes (bas_die da) (bas_die db)] at he
    clear da db
    unfold dv at hfa hfb he
    unfold pv at hg he
    have Hg := Lib.hid hg; clear hg hx
    have Ha := Lib.hid hfa; clear hfa
    have Hb := Lib.hid hfb; clear hfb
    have He := Lib.hid he; clear he
    unfold pv
    go_enter Try.func25, Try.ntmps25
    go_wp2_with fail
    refine (Hg.out _).mono ?_
    rintro e w1 ⟨rfl, hb1⟩
    have hp := hp.up hb1
    have hr := hr.up hb1
    have hB := nx hB hb1
    clear hb1
    obtain ⟨c0, c1, c2, c3, c4, c5, c6, c7, c8, c9, c10, c11⟩ := At.twelve hp
    go_wp2_with fail
    refine (Ha.out _).mono ?_
    rintro e w2 ⟨rfl, hb1⟩
    have hp := (hp.up hb1).past (sixO (bas a) 22)
    have hr := (hr.up hb1).past (sixO (bas a) 22)
    have hB := na (nx hB hb1) (sixO (bas a) 22)
    have ha := At.new6 w2 (bas a) 22 rfl
    clear hb1 c0 c1 c2 c3 c4 c5 c6 c7 c8 c9 c10 c11
    obtain ⟨c0, c1, c2, c3, c4, c5, c6, c7, c8, c9, c10, c11⟩ := At.twelve hp
    go_wp2_with fail
    refine (Hb.out _).mono ?_
    rintro e w3 ⟨rfl, hb1⟩
    have hr := (hr.up hb1).past (sixO (bas b) 22)
    have hB := na (nx hB hb1) (sixO (bas b) 22)
    have ha := (ha.up hb1).past (sixO (bas b) 22)
    have hb := At.new6 w3 (bas b) 22 rfl
    clear hb1 c0 c1 c2 c3 c4 c5 c6 c7 c8 c9 c10 c11
    obtain ⟨a0, a1, a2, a3, a4, a5⟩ := ha.six
    obtain ⟨b0, b1, b2, b3, b4, b5⟩ := hb.six
    go_wp2_with fail
    refine (He.out _).mono ?_
    rintro e w4 ⟨rfl, hb1⟩
    have hr := hr.up hb1
    have hB := nx hB hb1
    clear hb1 ha hb hp a0 a1 a2 a3 a4 a5 b0 b1 b2 b3 b4 b5
    have o0 := hr.cell 0 (by omega)
    have o1 := hr.cell 1 (by omega)
    have o2 := hr.cell 2 (by omega)
    have o3 := hr.cell 3 (by omega)
    have o4 := hr.cell 4 (by omega)
    have o5 := hr.cell 5 (by omega)
    have o6 := hr.cell 6 (by omega)
    have o7 := hr.cell 7 (by omega)
    have o8 := hr.cell 8 (by omega)
    have o9 := hr.cell 9 (by omega)
    have o10 := hr.cell 10 (by omega)
    have o11 := hr.cell 11 (by omega)
    obtain ⟨f0, f1, f2, f3, f4, f5, f6, f7, f8, f9, f10, f11⟩ := At.free12 hr
    go_wp2_with fail
    refine ret_cell_tmpS (b := w.heap.size + 1) (n := 12) (f := pr (lo2 (bas a) (bas b)) (hi2 (bas a) (bas b))) Try.results25 rfl rfl Try.underlying26 infoP (hr.stored (pr (lo2 (bas a) (bas b)) (hi2 (bas a) (bas b)))) rfl ⟨rfl, ?_⟩
    exact hB.trans (setCells_below (p := w.heap.size + 1) (B := w.heap.size) (by omega) (vals 12 (pr (lo2 (bas a) (bas b)) (hi2 (bas a) (bas b)))) 0)

def frS (a b : Nat → Int) (h : Nat) (u3 u8 u9 u10 u11 u12 u13 u14 : Value) : Act := ⟨#[(.agg #[.int .i64 (a 0), .int .i64 (a 1), .int .i64 (a 2), .int .i64 (a 3), .int .i64 (a 4), .int .i64 (a 5), .int .i64 (b 0), .int .i64 (b 1), .int .i64 (b 2), .int .i64 (b 3), .int .i64 (b 4), .int .i64 (b 5)]), .pointer (some ⟨h, 0, none⟩), .pointer (some ⟨h + 1, 0, none⟩), u3, (.agg #[.int .i64 (a 0), .int .i64 (a 1), .int .i64 (a 2), .int .i64 (a 3), .int .i64 (a 4), .int .i64 (a 5), .int .i64 (b 0), .int .i64 (b 1), .int .i64 (b 2), .int .i64 (b 3), .int .i64 (b 4), .int .i64 (b 5)]), .bool true, .bool false, undef, u8, u9, u10, u11, u12, u13, u14], []⟩
set_option maxRecDepth 20000 in
set_option maxHeartbeats 4000000 in
theorem specShape_any (a b : Nat → Int) (w : World) :
    Calls Try.prog 24 #[pv a b] w fun e w' => e = .returned (.tuple (pshape a b)) ∧ Below w.heap.size w w' := by
  have hg := l5Good_any a b
  have hp := (At.new12 w a b 26 rfl).past (twO (fun _ => 0) (fun _ => 0) 26)
  have hr := zero12 (w.alloc (twO a b 26)) (b := w.heap.size + 1) (by rw [size_alloc])
  have hB := na (na (n0 w) (twO a b 26)) (twO (fun _ => 0) (fun _ => 0) 26)
  unfold pshape
  cases hx : isPr a b
  · rw [hx] at hg
    unfold pv at hg
    have Hg := Lib.hid hg; clear hg hx
    simp only [Bool.false_eq_true, ↓reduceIte]
    unfold pv
    go_enter Try.func24, Try.ntmps24
    go_wp2_with fail
    refine (Hg.out _).mono ?_
    rintro e w1 ⟨rfl, hb1⟩
    have hr := hr.up hb1
    have hB := nx hB hb1
    clear hb1
    have o0 := hr.cell 0 (by omega)
    have o1 := hr.cell 1 (by omega)
    have o2 := hr.cell 2 (by omega)
    have o3 := hr.cell 3 (by omega)
    have o4 := hr.cell 4 (by omega)
    have o5 := hr.cell 5 (by omega)
    have o6 := hr.cell 6 (by omega)
    have o7 := hr.cell 7 (by omega)
    have o8 := hr.cell 8 (by omega)
    have o9 := hr.cell 9 (by omega)
    have o10 := hr.cell 10 (by omega)
    have o11 := hr.cell 11 (by omega)
    obtain ⟨f0, f1, f2, f3, f4, f5, f6, f7, f8, f9, f10, f11⟩ := At.free12 hr
    go_wp2_with fail
    refine ret_cell_tmpS (b := w.heap.size + 1) (n := 12) (f := pr (fun _ => 0) (fun _ => 0)) Try.results24 rfl rfl Try.underlying26 infoP (hr.stored (pr (fun _ => 0) (fun _ => 0))) rfl ⟨rfl, ?_⟩
    exact hB.trans (setCells_below (p := w.heap.size + 1) (B := w.heap.size) (by omega) (vals 12 (pr (fun _ => 0) (fun _ => 0))) 0)
  · rw [hx] at hg
    simp only [↓reduceIte]
    obtain ⟨da, db⟩ : isDie a = true ∧ isDie b = true := by
      unfold isPr at hx
      simp only [Bool.and_eq_true] at hx
      exact ⟨hx.1.1, hx.1.2⟩
    have hfa := l5Base_any a da
    have hfb := l5Base_any b db
    have he := l5Pair_any (bas a) (bas b)
    clear da db
    unfold dv at hfa hfb he
    unfold pv at hg he
    have Hg := Lib.hid hg; clear hg hx
    have Ha := Lib.hid hfa; clear hfa
    have Hb := Lib.hid hfb; clear hfb
    have He := Lib.hid he; clear he
    unfold pv
    go_enter Try.func24, Try.ntmps24
    go_wp2_with fail
    refine (Hg.out _).mono ?_
    rintro e w1 ⟨rfl, hb1⟩
    have hp := hp.up hb1
    have hr := hr.up hb1
    have hB := nx hB hb1
    clear hb1
    go_wp2_with fail
    obtain ⟨W1, hW1⟩ : ∃ W1, W1 = w1 := ⟨_, rfl⟩
    rw [← hW1] at hp hr hB ⊢
    clear hW1
    refine wp_region_inc (I := fun L az w' => ∃ u3 u8 u9 u10 u11 u12 u13 u14 : Value, az = frS a b w.heap.size u3 u8 u9 u10 u11 u12 u13 u14 ∧ (L 0 = true → u8 = (.pointer (some ⟨w.heap.size, 0, none⟩))) ∧ (L 1 = true → u9 = (.agg #[.int .i64 (a 0), .int .i64 (a 1), .int .i64 (a 2), .int .i64 (a 3), .int .i64 (a 4), .int .i64 (a 5)])) ∧ (L 2 = true → u10 = (.agg #[.int .i64 (bas a 0), .int .i64 (bas a 1), .int .i64 (bas a 2), .int .i64 (bas a 3), .int .i64 (bas a 4), .int .i64 (bas a 5)])) ∧ (L 3 = true → u11 = (.pointer (some ⟨w.heap.size, 6, none⟩))) ∧ (L 4 = true → u12 = (.agg #[.int .i64 (b 0), .int .i64 (b 1), .int .i64 (b 2), .int .i64 (b 3), .int .i64 (b 4), .int .i64 (b 5)])) ∧ (L 5 = true → u13 = (.agg #[.int .i64 (bas b 0), .int .i64 (bas b 1), .int .i64 (bas b 2), .int .i64 (bas b 3), .int .i64 (bas b 4), .int .i64 (bas b 5)])) ∧ (L 6 = true → u14 = (.agg #[.int .i64 (lo2 (bas a) (bas b) 0), .int .i64 (lo2 (bas a) (bas b) 1), .int .i64 (lo2 (bas a) (bas b) 2), .int .i64 (lo2 (bas a) (bas b) 3), .int .i64 (lo2 (bas a) (bas b) 4), .int .i64 (lo2 (bas a) (bas b) 5), .int .i64 (hi2 (bas a) (bas b) 0), .int .i64 (hi2 (bas a) (bas b) 1), .int .i64 (hi2 (bas a) (bas b) 2), .int .i64 (hi2 (bas a) (bas b) 3), .int .i64 (hi2 (bas a) (bas b) 4), .int .i64 (hi2 (bas a) (bas b) 5)])) ∧ (L 8 = true → u3 = (.bool true)) ∧ Below w.heap.size W1 w' ∧ At w' w.heap.size 12 (pr a b) ∧ At w' (w.heap.size + 1) 12 (fun k => if L 7 = true then (pr (lo2 (bas a) (bas b)) (hi2 (bas a) (bas b))) k else (fun _ => 0) k)) (by kernel_rfl) (by kernel_rfl) ?_ ?_ ?_
    · exact ⟨_, _, _, _, _, _, _, _, rfl, (fun h => by cases h), (fun h => by cases h), (fun h => by cases h), (fun h => by cases h), (fun h => by cases h), (fun h => by cases h), (fun h => by cases h), (fun h => by cases h), ((Below.refl _ W1).drew), (hp).drew, At.congr ((hr).drew) (fun k _ => rfl)⟩
    · intro L az wz i hi hL hdep hcl hI
      obtain ⟨u3, u8, u9, u10, u11, u12, u13, u14, rfl, e0, e1, e2, e3, e4, e5, e6, e8, hB0, hK0, hT0⟩ := hI
      have hi' : i < 9 := hi
      clear hi
      obtain rfl | rfl | rfl | rfl | rfl | rfl | rfl | rfl | rfl : i = 0 ∨ i = 1 ∨ i = 2 ∨ i = 3 ∨ i = 4 ∨ i = 5 ∨ i = 6 ∨ i = 7 ∨ i = 8 := by omega
      · have HB := Lib.hid hB0; clear hB0
        have HK0 := Lib.hid hK0; clear hK0
        refine wpOp_want rfl rfl ?_
        unfold frS
        go_simp
        exact ⟨u3, (.pointer (some ⟨w.heap.size, 0, none⟩)), u9, u10, u11, u12, u13, u14, by first | rfl | simp, fun _ => rfl, e1, e2, e3, e4, e5, e6, e8, HB.out, HK0.out, hT0⟩
      · obtain rfl := e0 (hdep 0 (by kernel_rfl))
        obtain ⟨c0, c1, c2, c3, c4, c5, _, _, _, _, _, _⟩ := At.twelve hK0
        have HB := Lib.hid hB0; clear hB0
        have HK0 := Lib.hid hK0; clear hK0
        refine wpOp_want rfl rfl ?_
        unfold frS
        go_simp
        exact ⟨u3, (.pointer (some ⟨w.heap.size, 0, none⟩)), (.agg #[.int .i64 (a 0), .int .i64 (a 1), .int .i64 (a 2), .int .i64 (a 3), .int .i64 (a 4), .int .i64 (a 5)]), u10, u11, u12, u13, u14, by first | rfl | simp, fun _ => rfl, fun _ => rfl, e2, e3, e4, e5, e6, e8, HB.out, HK0.out, hT0⟩
      · obtain rfl := e1 (hdep 1 (by kernel_rfl))
        have HB := Lib.hid hB0; clear hB0
        have HK0 := Lib.hid hK0; clear hK0
        refine wpOp_want rfl rfl ?_
        unfold frS
        go_simp
        refine (Ha.out _).mono ?_
        rintro e w9 ⟨rfl, hb⟩
        go_simp
        exact ⟨u3, u8, (.agg #[.int .i64 (a 0), .int .i64 (a 1), .int .i64 (a 2), .int .i64 (a 3), .int .i64 (a 4), .int .i64 (a 5)]), (.agg #[.int .i64 (bas a 0), .int .i64 (bas a 1), .int .i64 (bas a 2), .int .i64 (bas a 3), .int .i64 (bas a 4), .int .i64 (bas a 5)]), u11, u12, u13, u14, by first | rfl | simp, e0, fun _ => rfl, fun _ => rfl, e3, e4, e5, e6, e8, HB.out.trans (hb.mono (Nat.le_trans hB.size HB.out.size)), HK0.out.up hb, At.congr (hT0.up hb) (fun k _ => rfl)⟩
      · have HB := Lib.hid hB0; clear hB0
        have HK0 := Lib.hid hK0; clear hK0
        refine wpOp_want rfl rfl ?_
        unfold frS
        go_simp
        exact ⟨u3, u8, u9, u10, (.pointer (some ⟨w.heap.size, 6, none⟩)), u12, u13, u14, by first | rfl | simp, e0, e1, e2, fun _ => rfl, e4, e5, e6, e8, HB.out, HK0.out, hT0⟩
      · obtain rfl := e3 (hdep 3 (by kernel_rfl))
        obtain ⟨_, _, _, _, _, _, c6, c7, c8, c9, c10, c11⟩ := At.twelve hK0
        have HB := Lib.hid hB0; clear hB0
        have HK0 := Lib.hid hK0; clear hK0
        refine wpOp_want rfl rfl ?_
        unfold frS
        go_simp
        exact ⟨u3, u8, u9, u10, (.pointer (some ⟨w.heap.size, 6, none⟩)), (.agg #[.int .i64 (b 0), .int .i64 (b 1), .int .i64 (b 2), .int .i64 (b 3), .int .i64 (b 4), .int .i64 (b 5)]), u13, u14, by first | rfl | simp, e0, e1, e2, fun _ => rfl, fun _ => rfl, e5, e6, e8, HB.out, HK0.out, hT0⟩
      · obtain rfl := e4 (hdep 4 (by kernel_rfl))
        have HB := Lib.hid hB0; clear hB0
        have HK0 := Lib.hid hK0; clear hK0
        refine wpOp_want rfl rfl ?_
        unfold frS
        go_simp
        refine (Hb.out _).mono ?_
        rintro e w9 ⟨rfl, hb⟩
        go_simp
        exact ⟨u3, u8, u9, u10, u11, (.agg #[.int .i64 (b 0), .int .i64 (b 1), .int .i64 (b 2), .int .i64 (b 3), .int .i64 (b 4), .int .i64 (b 5)]), (.agg #[.int .i64 (bas b 0), .int .i64 (bas b 1), .int .i64 (bas b 2), .int .i64 (bas b 3), .int .i64 (bas b 4), .int .i64 (bas b 5)]), u14, by first | rfl | simp, e0, e1, e2, e3, fun _ => rfl, fun _ => rfl, e6, e8, HB.out.trans (hb.mono (Nat.le_trans hB.size HB.out.size)), HK0.out.up hb, At.congr (hT0.up hb) (fun k _ => rfl)⟩
      · obtain rfl := e2 (hdep 2 (by kernel_rfl))
        obtain rfl := e5 (hdep 5 (by kernel_rfl))
        have HB := Lib.hid hB0; clear hB0
        have HK0 := Lib.hid hK0; clear hK0
        refine wpOp_want rfl rfl ?_
        unfold frS
        go_simp
        refine (He.out _).mono ?_
        rintro e w9 ⟨rfl, hb⟩
        go_simp
        exact ⟨u3, u8, u9, (.agg #[.int .i64 (bas a 0), .int .i64 (bas a 1), .int .i64 (bas a 2), .int .i64 (bas a 3), .int .i64 (bas a 4), .int .i64 (bas a 5)]), u11, u12, (.agg #[.int .i64 (bas b 0), .int .i64 (bas b 1), .int .i64 (bas b 2), .int .i64 (bas b 3), .int .i64 (bas b 4), .int .i64 (bas b 5)]), (.agg #[.int .i64 (lo2 (bas a) (bas b) 0), .int .i64 (lo2 (bas a) (bas b) 1), .int .i64 (lo2 (bas a) (bas b) 2), .int .i64 (lo2 (bas a) (bas b) 3), .int .i64 (lo2 (bas a) (bas b) 4), .int .i64 (lo2 (bas a) (bas b) 5), .int .i64 (hi2 (bas a) (bas b) 0), .int .i64 (hi2 (bas a) (bas b) 1), .int .i64 (hi2 (bas a) (bas b) 2), .int .i64 (hi2 (bas a) (bas b) 3), .int .i64 (hi2 (bas a) (bas b) 4), .int .i64 (hi2 (bas a) (bas b) 5)]), by first | rfl | simp, e0, e1, fun _ => rfl, e3, e4, fun _ => rfl, fun _ => rfl, e8, HB.out.trans (hb.mono (Nat.le_trans hB.size HB.out.size)), HK0.out.up hb, At.congr (hT0.up hb) (fun k _ => rfl)⟩
      · obtain rfl := e6 (hdep 6 (by kernel_rfl))
        have hq3' : At wz (w.heap.size + 1) 12 (fun _ => 0) := hT0.congr (fun k _ => by show (if L 7 = true then _ else _) = _; rw [hL]; rfl)
        have o0 := hq3'.cell 0 (by omega)
        have z0 := hq3'.free 0
        have o1 := hq3'.cell 1 (by omega)
        have z1 := hq3'.free 1
        have o2 := hq3'.cell 2 (by omega)
        have z2 := hq3'.free 2
        have o3 := hq3'.cell 3 (by omega)
        have z3 := hq3'.free 3
        have o4 := hq3'.cell 4 (by omega)
        have z4 := hq3'.free 4
        have o5 := hq3'.cell 5 (by omega)
        have z5 := hq3'.free 5
        have o6 := hq3'.cell 6 (by omega)
        have z6 := hq3'.free 6
        have o7 := hq3'.cell 7 (by omega)
        have z7 := hq3'.free 7
        have o8 := hq3'.cell 8 (by omega)
        have z8 := hq3'.free 8
        have o9 := hq3'.cell 9 (by omega)
        have z9 := hq3'.free 9
        have o10 := hq3'.cell 10 (by omega)
        have z10 := hq3'.free 10
        have o11 := hq3'.cell 11 (by omega)
        have z11 := hq3'.free 11
        have HB := Lib.hid hB0; clear hB0
        have HK0 := Lib.hid hK0; clear hK0
        refine wpOp_want rfl rfl ?_
        unfold frS
        go_simp
        exact ⟨u3, u8, u9, u10, u11, u12, u13, (.agg #[.int .i64 (lo2 (bas a) (bas b) 0), .int .i64 (lo2 (bas a) (bas b) 1), .int .i64 (lo2 (bas a) (bas b) 2), .int .i64 (lo2 (bas a) (bas b) 3), .int .i64 (lo2 (bas a) (bas b) 4), .int .i64 (lo2 (bas a) (bas b) 5), .int .i64 (hi2 (bas a) (bas b) 0), .int .i64 (hi2 (bas a) (bas b) 1), .int .i64 (hi2 (bas a) (bas b) 2), .int .i64 (hi2 (bas a) (bas b) 3), .int .i64 (hi2 (bas a) (bas b) 4), .int .i64 (hi2 (bas a) (bas b) 5)]), by first | rfl | simp, e0, e1, e2, e3, e4, e5, fun _ => rfl, e8, HB.out.trans (setCells_below (p := (w.heap.size + 1)) (B := w.heap.size) (by omega) (vals 12 (pr (lo2 (bas a) (bas b)) (hi2 (bas a) (bas b)))) 0), HK0.out.keep (p := (w.heap.size + 1)) (by omega) (vals 12 (pr (lo2 (bas a) (bas b)) (hi2 (bas a) (bas b)))) 0, At.congr (hq3'.stored (pr (lo2 (bas a) (bas b)) (hi2 (bas a) (bas b)))) (fun k _ => rfl)⟩
      · refine wpOp_want rfl rfl (Oper.wp_of_quiet (C := fun w' => w' = wz) (K := fun a' => a' = frS a b w.heap.size ((.bool true)) (u8) (u9) (u10) (u11) (u12) (u13) (u14)) rfl ?_ ?_)
        · intro a' w' hC' hK
          subst hK
          subst hC'
          exact ⟨(.bool true), u8, u9, u10, u11, u12, u13, u14, by first | rfl | simp, e0, e1, e2, e3, e4, e5, e6, fun _ => rfl, hB0, hK0, hT0⟩
        · exact BigFrame.quiet_assign _ rfl rfl
    intro L az wz hL hcl hI
    obtain ⟨u3, u8, u9, u10, u11, u12, u13, u14, rfl, e0, e1, e2, e3, e4, e5, e6, e8, hB0, hK0, hT0⟩ := hI
    obtain rfl := e0 (hL 0 (by decide))
    obtain rfl := e1 (hL 1 (by decide))
    obtain rfl := e2 (hL 2 (by decide))
    obtain rfl := e3 (hL 3 (by decide))
    obtain rfl := e4 (hL 4 (by decide))
    obtain rfl := e5 (hL 5 (by decide))
    obtain rfl := e6 (hL 6 (by decide))
    obtain rfl := e8 (hL 8 (by decide))
    have hT : At wz (w.heap.size + 1) 12 (pr (lo2 (bas a) (bas b)) (hi2 (bas a) (bas b))) := hT0.congr fun k hk => by rw [if_pos (hL 7 (by decide))]
    clear hT0
    clear hcl hL
    unfold frS
    have hB := hB.trans hB0
    go_wp2_with fail
    refine ret_cell_tmpS (b := w.heap.size + 1) (n := 12) (f := pr (lo2 (bas a) (bas b)) (hi2 (bas a) (bas b))) Try.results24 rfl rfl Try.underlying26 infoP hT rfl ⟨rfl, hB⟩

end ShapeW
end Go.Proofs.Ytjdijbidpcjjdaa
