/-
  Who beats whom: contracts of both sides.
-/
import Derived.Test.YtagieilahejobaaRows
import Derived.Test.YtagieilahejobaaWaysW
import Derived.Test.YtagieilahejobaaCompS
import Derived.Test.YtagieilahejobaaKnow
import Derived.Test.YtagieilahejobaaDuel
import Derived.Test.YtagieilahejobaaCmpW
import Derived.Test.YtagieilahejobaaDieW
import Derived.Test.YtagieilahejobaaSortW
import Derived.Test.YtagieilahejobaaOpenD
import Derived.WalkKit
import Derived.WalkLawsBesides
import Derived.WalkSpells
import Derived.ProofKit
import Derived.OpenShut
import Derived.Deep.RegionWith
import Derived.Deep.QuietTactic
import Derived.BigQuiet
namespace Go.Proofs.Ytagieilahejobaa
open Go.ChangeShapes Go.WideShapes Go.ChangeAt Go.RowKit
open Go.ChangeMaps (open_string shut_string)

namespace CompW
open Dice Arr DieW SortW Duel CmpW Know WaysW CompS

set_option maxHeartbeats 2000000 in
theorem l3Beats_any (x y : Nat → Int) (w : World) :
    Calls Try.prog 55 #[dv x, dv y] w fun e w' => e = .returned (.bool (beats x y)) ∧ Below w.heap.size w w' := by
  have hc := l3Compare_any x y
  unfold dv tri at hc
  have Hc := Lib.hid hc; clear hc
  have hB := na (na (n0 w) (sixO x 22)) (sixO y 22)
  unfold dv
  go_enter Try.func55, Try.ntmps55
  go_wp2_with fail
  refine (Hc.out _).mono ?_
  rintro e w1 ⟨rfl, hb1⟩
  have hB1 := nx hB hb1
  clear hb1 hB
  have hO := At.new3 w1 23 (b := w1.heap.size) rfl
  obtain ⟨o0, o1, o2⟩ := three hO
  obtain ⟨z0, z1, z2⟩ := free3 hO
  go_wp2_with fail
  go_ret
  exact ⟨rfl, na hB1 _⟩

/-- The answers to 'who beats whom'. -/
def okD (d g : Nat → Int) : Bool := isDie d && isDie g
def outB (d g : Nat → Int) : Array Value := if okD d g then #[.bool (beats d g), .bool true] else #[.bool false, .bool false]
set_option maxRecDepth 100000 in
set_option maxHeartbeats 2000000 in
theorem specBeat_any (a b : Nat → Int) (w : World) :
    Calls Try.prog 18 #[dv a, dv b] w fun e w' => e = .returned (.tuple (outB a b)) ∧ Below w.heap.size w w' := by
  have ha := l2Die_any a
  have hb := l2Die_any b
  have hd1 := (At.new6 w a 22 rfl).past (sixO b 22)
  have hd2 := At.new6 (w.alloc (sixO a 22)) b 22 (b := w.heap.size + 1) (by rw [size_alloc])
  have hB0 := na (na (n0 w) (sixO a 22)) (sixO b 22)
  unfold outB okD
  cases hqa : isDie a
  · rw [hqa] at ha
    simp only [Bool.false_and, Bool.false_eq_true, ↓reduceIte]
    unfold dv at ha
    have Ha := Lib.hid ha; clear ha hb hqa
    unfold dv
    go_enter Try.func18, Try.ntmps18
    go_wp2_with fail
    refine (Ha.out _).mono ?_
    rintro e w1 ⟨rfl, hb1⟩
    go_wp2_with fail
    go_ret2
    exact ⟨rfl, nx hB0 hb1⟩
  cases hqb : isDie b
  · rw [hqa] at ha
    rw [hqb] at hb
    simp only [Bool.and_false, Bool.false_eq_true, ↓reduceIte]
    unfold dv at ha hb
    have Ha := Lib.hid ha; clear ha hqa hqb
    have Hb := Lib.hid hb; clear hb
    unfold dv
    go_enter Try.func18, Try.ntmps18
    go_wp2_with fail
    refine (Ha.out _).mono ?_
    rintro e w1 ⟨rfl, hb1⟩
    obtain ⟨x0, x1, x2, x3, x4, x5⟩ := (hd2.up hb1).six
    go_wp2_with fail
    refine (Hb.out _).mono ?_
    rintro e w2 ⟨rfl, hb2⟩
    go_wp2_with fail
    go_ret2
    exact ⟨rfl, nx (nx hB0 hb1) hb2⟩
  · rw [hqa] at ha
    rw [hqb] at hb
    simp only [Bool.and_self, ↓reduceIte]
    have hl := l3Beats_any a b
    unfold dv at hl
    have Hl := Lib.hid hl; clear hl
    unfold dv at ha hb
    have Ha := Lib.hid ha; clear ha hqa hqb
    have Hb := Lib.hid hb; clear hb
    unfold dv
    go_enter Try.func18, Try.ntmps18
    go_wp2_with fail
    refine (Ha.out _).mono ?_
    rintro e w1 ⟨rfl, hb1⟩
    obtain ⟨x0, x1, x2, x3, x4, x5⟩ := (hd2.up hb1).six
    go_wp2_with fail
    refine (Hb.out _).mono ?_
    rintro e w2 ⟨rfl, hb2⟩
    have hA := (hd1.up hb1).up hb2
    have hG := (hd2.up hb1).up hb2
    have hB := nx (nx hB0 hb1) hb2
    clear hb1 hb2 hd1 hd2 hB0 x0 x1 x2 x3 x4 x5
    obtain ⟨x0, x1, x2, x3, x4, x5⟩ := hA.six
    obtain ⟨y0, y1, y2, y3, y4, y5⟩ := hG.six
    go_wp2_with fail
    refine (Hl.out _).mono ?_
    rintro e w3 ⟨rfl, hb3⟩
    go_wp2_with fail
    go_ret2
    exact ⟨rfl, nx hB hb3⟩
def outC (d g : Nat → Int) : Array Value := if okD d g then #[tri (cw d g 36), .bool true] else #[tri fun _ => 0, .bool false]
theorem outC_split (d g : Nat → Int) : ∃ f, outC d g = #[tri f, .bool (okD d g)] ∧ outB d g = #[.bool (decide (f 2 < f 0)), .bool (okD d g)] := by
  unfold outC outB
  cases okD d g
  · exact ⟨fun _ => 0, rfl, rfl⟩
  · exact ⟨cw d g 36, rfl, rfl⟩
set_option maxRecDepth 100000 in
set_option maxHeartbeats 2000000 in
theorem specCompare_any (a b : Nat → Int) (w : World) :
    Calls Try.prog 14 #[dv a, dv b] w fun e w' => e = .returned (.tuple (outC a b)) ∧ Below w.heap.size w w' := by
  have ha := l2Die_any a
  have hb := l2Die_any b
  have hd1 := ((At.new6 w a 22 rfl).past (sixO b 22)).past (.cells #[.int .i64 0, .int .i64 0, .int .i64 0] 23)
  have hd2 := (At.new6 (w.alloc (sixO a 22)) b 22 (b := w.heap.size + 1) (by rw [size_alloc])).past (.cells #[.int .i64 0, .int .i64 0, .int .i64 0] 23)
  have hB0 := na (na (na (n0 w) (sixO a 22)) (sixO b 22)) (.cells #[.int .i64 0, .int .i64 0, .int .i64 0] 23)
  have hR0 := At.new3 ((w.alloc (sixO a 22)).alloc (sixO b 22)) 23 (b := w.heap.size + 2) (by rw [size_alloc, size_alloc])
  unfold outC okD
  cases hqa : isDie a
  · rw [hqa] at ha
    simp only [Bool.false_and, Bool.false_eq_true, ↓reduceIte]
    unfold dv at ha
    have Ha := Lib.hid ha; clear ha hb hqa
    unfold dv
    go_enter Try.func14, Try.ntmps14
    go_wp2_with fail
    refine (Ha.out _).mono ?_
    rintro e w1 ⟨rfl, hb1⟩
    have hB := nx hB0 hb1
    have hR := hR0.up hb1
    obtain ⟨r0, r1, r2⟩ := three hR
    obtain ⟨z0, z1, z2⟩ := free3 hR
    go_wp2_with fail
    refine ret_cell_tmp (b := w.heap.size + 2) (n := 3) (f := fun _ => 0) Try.results14 rfl rfl Try.underlying23 (by kernel_rfl) (hR.stored (fun _ => 0)) rfl ⟨rfl, ?_⟩
    exact hB.trans (setCells_below (w := w1) (p := w.heap.size + 2) (B := w.heap.size) (by omega) (vals 3 (fun _ => 0)) 0)
  cases hqb : isDie b
  · rw [hqa] at ha
    rw [hqb] at hb
    simp only [Bool.and_false, Bool.false_eq_true, ↓reduceIte]
    unfold dv at ha hb
    have Ha := Lib.hid ha; clear ha hqa hqb
    have Hb := Lib.hid hb; clear hb
    unfold dv
    go_enter Try.func14, Try.ntmps14
    go_wp2_with fail
    refine (Ha.out _).mono ?_
    rintro e w1 ⟨rfl, hb1⟩
    obtain ⟨x0, x1, x2, x3, x4, x5⟩ := (hd2.up hb1).six
    go_wp2_with fail
    refine (Hb.out _).mono ?_
    rintro e w2 ⟨rfl, hb2⟩
    have hB := nx (nx hB0 hb1) hb2
    have hR := (hR0.up hb1).up hb2
    obtain ⟨r0, r1, r2⟩ := three hR
    obtain ⟨z0, z1, z2⟩ := free3 hR
    go_wp2_with fail
    refine ret_cell_tmp (b := w.heap.size + 2) (n := 3) (f := fun _ => 0) Try.results14 rfl rfl Try.underlying23 (by kernel_rfl) (hR.stored (fun _ => 0)) rfl ⟨rfl, ?_⟩
    exact hB.trans (setCells_below (w := w2) (p := w.heap.size + 2) (B := w.heap.size) (by omega) (vals 3 (fun _ => 0)) 0)
  · rw [hqa] at ha
    rw [hqb] at hb
    simp only [Bool.and_self, ↓reduceIte]
    have hl := l3Compare_any a b
    unfold dv tri at hl
    have Hl := Lib.hid hl; clear hl
    unfold dv at ha hb
    have Ha := Lib.hid ha; clear ha hqa hqb
    have Hb := Lib.hid hb; clear hb
    unfold dv
    go_enter Try.func14, Try.ntmps14
    go_wp2_with fail
    refine (Ha.out _).mono ?_
    rintro e w1 ⟨rfl, hb1⟩
    obtain ⟨x0, x1, x2, x3, x4, x5⟩ := (hd2.up hb1).six
    go_wp2_with fail
    refine (Hb.out _).mono ?_
    rintro e w2 ⟨rfl, hb2⟩
    have hA := (hd1.up hb1).up hb2
    have hG := (hd2.up hb1).up hb2
    have hB := nx (nx hB0 hb1) hb2
    have hR := (hR0.up hb1).up hb2
    clear hb1 hb2 hd1 hd2 hB0 x0 x1 x2 x3 x4 x5
    obtain ⟨x0, x1, x2, x3, x4, x5⟩ := hA.six
    obtain ⟨y0, y1, y2, y3, y4, y5⟩ := hG.six
    go_wp2_with fail
    refine (Hl.out _).mono ?_
    rintro e w3 ⟨rfl, hb3⟩
    have hB3 := nx hB hb3
    have hR3 := hR.up hb3
    obtain ⟨r0, r1, r2⟩ := three hR3
    obtain ⟨z0, z1, z2⟩ := free3 hR3
    go_wp2_with fail
    refine ret_cell_tmp (b := w.heap.size + 2) (n := 3) (f := cw a b 36) Try.results14 rfl rfl Try.underlying23 (by kernel_rfl) (hR3.stored _) rfl ⟨rfl, ?_⟩
    exact hB3.trans (setCells_below (w := w3) (p := w.heap.size + 2) (B := w.heap.size) (by omega) (vals 3 (cw a b 36)) 0)
set_option maxRecDepth 100000 in
set_option maxHeartbeats 2000000 in
theorem implCompare_any (a b : Nat → Int) (w : World) :
    Calls Try.prog 16 #[dv a, dv b] w fun e w' => e = .returned (.tuple (outC a b)) ∧ Below w.heap.size w w' := by
  have ha := implIsDie_any a
  have hb := implIsDie_any b
  have hd1 := ((At.new6 w a 22 rfl).past (sixO b 22)).past (.cells #[.int .i64 0, .int .i64 0, .int .i64 0] 23)
  have hd2 := (At.new6 (w.alloc (sixO a 22)) b 22 (b := w.heap.size + 1) (by rw [size_alloc])).past (.cells #[.int .i64 0, .int .i64 0, .int .i64 0] 23)
  have hB0 := na (na (na (n0 w) (sixO a 22)) (sixO b 22)) (.cells #[.int .i64 0, .int .i64 0, .int .i64 0] 23)
  have hR0 := At.new3 ((w.alloc (sixO a 22)).alloc (sixO b 22)) 23 (b := w.heap.size + 2) (by rw [size_alloc, size_alloc])
  unfold outC okD
  cases hqa : isDie a
  · rw [hqa] at ha
    simp only [Bool.false_and, Bool.false_eq_true, ↓reduceIte]
    unfold dv at ha
    have Ha := Lib.hid ha; clear ha hb hqa
    unfold dv
    go_enter Try.func16, Try.ntmps16
    go_wp2_with fail
    refine (Ha.out _).mono ?_
    rintro e w1 ⟨rfl, hb1⟩
    have hB := nx hB0 hb1
    have hR := hR0.up hb1
    obtain ⟨r0, r1, r2⟩ := three hR
    obtain ⟨z0, z1, z2⟩ := free3 hR
    go_wp2_with fail
    refine ret_cell_tmp (b := w.heap.size + 2) (n := 3) (f := fun _ => 0) Try.results16 rfl rfl Try.underlying23 (by kernel_rfl) (hR.stored (fun _ => 0)) rfl ⟨rfl, ?_⟩
    exact hB.trans (setCells_below (w := w1) (p := w.heap.size + 2) (B := w.heap.size) (by omega) (vals 3 (fun _ => 0)) 0)
  cases hqb : isDie b
  · rw [hqa] at ha
    rw [hqb] at hb
    simp only [Bool.and_false, Bool.false_eq_true, ↓reduceIte]
    unfold dv at ha hb
    have Ha := Lib.hid ha; clear ha hqa hqb
    have Hb := Lib.hid hb; clear hb
    unfold dv
    go_enter Try.func16, Try.ntmps16
    go_wp2_with fail
    refine (Ha.out _).mono ?_
    rintro e w1 ⟨rfl, hb1⟩
    obtain ⟨x0, x1, x2, x3, x4, x5⟩ := (hd2.up hb1).six
    go_wp2_with fail
    refine (Hb.out _).mono ?_
    rintro e w2 ⟨rfl, hb2⟩
    have hB := nx (nx hB0 hb1) hb2
    have hR := (hR0.up hb1).up hb2
    obtain ⟨r0, r1, r2⟩ := three hR
    obtain ⟨z0, z1, z2⟩ := free3 hR
    go_wp2_with fail
    refine ret_cell_tmp (b := w.heap.size + 2) (n := 3) (f := fun _ => 0) Try.results16 rfl rfl Try.underlying23 (by kernel_rfl) (hR.stored (fun _ => 0)) rfl ⟨rfl, ?_⟩
    exact hB.trans (setCells_below (w := w2) (p := w.heap.size + 2) (B := w.heap.size) (by omega) (vals 3 (fun _ => 0)) 0)
  · rw [hqa] at ha
    rw [hqb] at hb
    simp only [Bool.and_self, ↓reduceIte]
    have hw := fun m n hn w hK => waysOf_any a b (fits_die hqa) (fits_die hqb) m n hn w hK
    unfold dv tri at hw
    have Hw := Lib.hid hw; clear hw
    unfold dv at ha hb
    have Ha := Lib.hid ha; clear ha hqa hqb
    have Hb := Lib.hid hb; clear hb
    unfold dv
    go_enter Try.func16, Try.ntmps16
    go_wp2_with fail
    refine (Ha.out _).mono ?_
    rintro e w1 ⟨rfl, hb1⟩
    obtain ⟨x0, x1, x2, x3, x4, x5⟩ := (hd2.up hb1).six
    go_wp2_with fail
    refine (Hb.out _).mono ?_
    rintro e w2 ⟨rfl, hb2⟩
    have hA := (hd1.up hb1).up hb2
    have hG := (hd2.up hb1).up hb2
    have hB := nx (nx hB0 hb1) hb2
    have hR := (hR0.up hb1).up hb2
    clear hb1 hb2 hd1 hd2 hB0 x0 x1 x2 x3 x4 x5
    obtain ⟨x0, x1, x2, x3, x4, x5⟩ := hA.six
    obtain ⟨y0, y1, y2, y3, y4, y5⟩ := hG.six
    have hmm := @run_makeMap Try.prog
    clear x0 x1 x2 x3 x4 x5 y0 y1 y2 y3 y4 y5
    obtain ⟨x0, x1, x2, x3, x4, x5⟩ := (hA.past (.map #[] 0)).six
    obtain ⟨y0, y1, y2, y3, y4, y5⟩ := (hG.past (.map #[] 0)).six
    go_wp2_with fail
    refine (Hw.out _ 0 (by omega) _ (Known.made w2)).mono ?_
    rintro e w3 ⟨rfl, hK3, hg3⟩
    have hB3 := (na hB (.map #[] 0)).grown hg3 (by have := hB.size; rw [size_alloc]; omega) (fun k e => by injection e with e; subst e; exact hB.size)
    have hR3 := At.kept (hR.past (.map #[] 0)) hg3 (Nat.ne_of_lt hR.lt)
    clear hK3 hg3
    obtain ⟨r0, r1, r2⟩ := three hR3
    obtain ⟨z0, z1, z2⟩ := free3 hR3
    go_wp2_with fail
    refine ret_cell_tmp (b := w.heap.size + 2) (n := 3) (f := cw a b 36) Try.results16 rfl rfl Try.underlying23 (by kernel_rfl) (hR3.stored _) rfl ⟨rfl, ?_⟩
    exact hB3.trans (setCells_below (w := w3) (p := w.heap.size + 2) (B := w.heap.size) (by omega) (vals 3 (cw a b 36)) 0)
set_option maxHeartbeats 2000000 in
theorem implBeat_any (a b : Nat → Int) (w : World) :
    Calls Try.prog 19 #[dv a, dv b] w fun e w' => e = .returned (.tuple (outB a b)) ∧ Below w.heap.size w w' := by
  obtain ⟨f, h1, h2⟩ := outC_split a b
  have hc := implCompare_any a b
  rw [h1] at hc
  rw [h2]
  generalize okD a b = o at hc
  clear h1 h2
  unfold dv tri at hc
  have Hc := Lib.hid hc; clear hc
  have hB := na (na (n0 w) (sixO a 22)) (sixO b 22)
  unfold dv
  go_enter Try.func19, Try.ntmps19
  go_wp2_with fail
  refine (Hc.out _).mono ?_
  rintro e w1 ⟨rfl, hb1⟩
  have hB1 := nx hB hb1
  clear hb1 hB
  have hO := At.new3 w1 23 (b := w1.heap.size) rfl
  obtain ⟨o0, o1, o2⟩ := three hO
  obtain ⟨z0, z1, z2⟩ := free3 hO
  go_wp2_with fail
  go_ret2
  exact ⟨rfl, na hB1 _⟩


end CompW
end Go.Proofs.Ytagieilahejobaa
