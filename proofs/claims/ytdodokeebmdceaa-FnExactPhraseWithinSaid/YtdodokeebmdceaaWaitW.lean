/-
  MeanWait, both sides.
-/
import Derived.Test.YtdodokeebmdceaaRows
import Derived.Test.YtdodokeebmdceaaArr
import Derived.Test.YtdodokeebmdceaaAnyR
import Derived.Test.YtdodokeebmdceaaDieW
import Derived.Test.YtdodokeebmdceaaSortW
import Derived.Test.YtdodokeebmdceaaFracW
import Derived.Test.YtdodokeebmdceaaFracL
import Derived.Test.YtdodokeebmdceaaCutW
import Derived.Test.YtdodokeebmdceaaAll6
import Derived.Test.YtdodokeebmdceaaAllL
import Derived.Test.YtdodokeebmdceaaOwnL
import Derived.Test.YtdodokeebmdceaaFracM
import Derived.Test.YtdodokeebmdceaaWgtM
import Derived.Test.YtdodokeebmdceaaWgtW
import Derived.Test.YtdodokeebmdceaaOpenD
import Derived.WalkKit
import Derived.WalkLawsBesides
import Derived.WalkSpells
import Derived.ProofKit
import Derived.OpenShut
import Derived.Deep.RegionWith
import Derived.Deep.QuietTactic
import Derived.BigQuiet
namespace Go.Proofs.Ytdodokeebmdceaa
open Go.ChangeShapes Go.WideShapes Go.ChangeAt Go.RowKit
open Go.ChangeMaps (open_string shut_string)

namespace WaitW
open Dice Arr DieW SortW FracW CutW All6 AllL OwnL FracM WgtM WgtW

/-- The faces of a die. -/
theorem faces_die {d : Nat → Int} (h : isDie d = true) : facesZ d (face d) := by
  have hu : upto d 6 := of_decide_eq_true h
  have u0 := hu 0 (by omega)
  have u1 := hu 1 (by omega)
  have u2 := hu 2 (by omega)
  have u3 := hu 3 (by omega)
  have u4 := hu 4 (by omega)
  have u5 := hu 5 (by omega)
  simp only [Nat.reduceSub] at u0 u1 u2 u3 u4 u5
  intro j hj
  unfold face
  obtain rfl | rfl | rfl | rfl | rfl | rfl : j = 0 ∨ j = 1 ∨ j = 2 ∨ j = 3 ∨ j = 4 ∨ j = 5 := by omega
  all_goals omega
/-- What MeanWait answers. -/
def okW (d : Nat → Int) (x : Int) : Bool := isDie d && !(wgt d x 6 == 0)
def wx (d : Nat → Int) (x : Int) : Int := if okW d x then (num 6 (wgt d x 6) : Nat) else 0
def wy (d : Nat → Int) (x : Int) : Int := if okW d x then (den 6 (wgt d x 6) : Nat) else 0
theorem w_no {d : Nat → Int} {x : Int} (h : okW d x = false) : wx d x = 0 ∧ wy d x = 0 := by simp [wx, wy, h]
theorem w_yes {d : Nat → Int} {x : Int} (h : okW d x = true) : wx d x = (num 6 (wgt d x 6) : Nat) ∧ wy d x = (den 6 (wgt d x 6) : Nat) := by simp [wx, wy, h]
/-- What BurstMean answers. -/
def okM (d : Nat → Int) : Bool := isDie d && !(d 0 == d 5)
def bx (d : Nat → Int) : Int := if okM d then (num (sumF (face d) 6) (6 - wgt d (d 5) 6) : Nat) else 0
def by' (d : Nat → Int) : Int := if okM d then (den (sumF (face d) 6) (6 - wgt d (d 5) 6) : Nat) else 0
theorem b_no {d : Nat → Int} (h : okM d = false) : bx d = 0 ∧ by' d = 0 := by simp [bx, by', h]
theorem b_yes {d : Nat → Int} (h : okM d = true) : bx d = (num (sumF (face d) 6) (6 - wgt d (d 5) 6) : Nat) ∧ by' d = (den (sumF (face d) 6) (6 - wgt d (d 5) 6) : Nat) := by simp [bx, by', h]
theorem wgt_low {d : Nat → Int} {x : Int} (h : d 0 ≠ x) : wgt d x 6 ≤ 5 := by
  have h0 : wgt d x 1 = 0 := by
    show 0 + (if d 0 = x then 1 else 0) = 0
    rw [if_neg h]
  have step : ∀ k, wgt d x (k + 1) ≤ wgt d x k + 1 := fun k => by
    show wgt d x k + (if d k = x then 1 else 0) ≤ _
    split <;> omega
  have s1 : wgt d x 2 ≤ wgt d x 1 + 1 := step 1
  have s2 : wgt d x 3 ≤ wgt d x 2 + 1 := step 2
  have s3 : wgt d x 4 ≤ wgt d x 3 + 1 := step 3
  have s4 : wgt d x 5 ≤ wgt d x 4 + 1 := step 4
  have s5 : wgt d x 6 ≤ wgt d x 5 + 1 := step 5
  omega

set_option maxRecDepth 100000 in
set_option maxHeartbeats 4000000 in
theorem implWait_any (d : Nat → Int) (x : Int) (w : World) :
    Calls Try.prog 23 #[dv d, .int .i64 x] w fun e w' => e = .returned (.tuple #[v2 (wx d x) (wy d x), .bool (okW d x)]) ∧ Below w.heap.size w w' := by
  have hc := fun w => implIsDie_any d w
  unfold dv at hc
  have Hc := Lib.hid hc; clear hc
  have hw := fun w => implW_any d x w
  unfold dv at hw
  have Hw := Lib.hid hw; clear hw
  cases hr : isDie d
  · rw [hr] at Hc
    have hok : okW d x = false := by simp [okW, hr]
    rw [hok, (w_no hok).1, (w_no hok).2]
    clear hok
    have hwl := wgt_le d x 6
    generalize wgt d x 6 = v at *
    clear hr
    unfold dv
    have hB0 := na (na (n0 w) (sixO d 22)) (.cells #[.int .i64 0, .int .i64 0] 29)
    have hD0 := (At.new6 w d 22 rfl).past (.cells #[.int .i64 0, .int .i64 0] 29)
    have hR0 := At.new2 (w.alloc (sixO d 22)) 29
    rw [size_alloc] at hR0
    obtain ⟨e0, e1, e2, e3, e4, e5⟩ := hD0.six
    go_enter Try.func23, Try.ntmps23
    go_wp2_with fail
    refine (Hw.out _).mono ?_
    rintro e w1 ⟨rfl, hb1⟩
    have hR1 := hR0.up hb1
    have hD1 := hD0.up hb1
    have hB1 := nx hB0 hb1
    clear e0 e1 e2 e3 e4 e5
    obtain ⟨e0, e1, e2, e3, e4, e5⟩ := hD1.six
    go_wp2_with fail
    refine (Hc.out _).mono ?_
    rintro e w2 ⟨rfl, hb2⟩
    have hR2 := hR1.up hb2
    have hD2 := hD1.up hb2
    have hB2 := nx hB1 hb2
    clear e0 e1 e2 e3 e4 e5
    have hRX := hR2
    have c0 := hRX.cell 0 (by omega)
    have c1 := hRX.cell 1 (by omega)
    have z0 := hRX.free 0
    have z1 := hRX.free 1
    go_wp2_with fail
    refine ret_cell_tmp (b := w.heap.size + 1) (n := 2) (f := fr 0 0) Try.results23 rfl rfl Try.underlying29 (by kernel_rfl) (fin2' hRX _ _) rfl ⟨rfl, ?_⟩
    exact (hB2.setCell (p := ⟨w.heap.size + 1, 0, none⟩) (Nat.le_succ _) _).setCell (p := ⟨w.heap.size + 1, 1, none⟩) (Nat.le_succ _) _
  · rw [hr] at Hc
    have hwl := wgt_le d x 6
    by_cases h0 : wgt d x 6 = 0
    · rw [h0] at Hw
      have hok : okW d x = false := by simp [okW, hr, h0]
      rw [hok, (w_no hok).1, (w_no hok).2]
      clear hok
      clear hr h0
      unfold dv
      have hB0 := na (na (n0 w) (sixO d 22)) (.cells #[.int .i64 0, .int .i64 0] 29)
      have hD0 := (At.new6 w d 22 rfl).past (.cells #[.int .i64 0, .int .i64 0] 29)
      have hR0 := At.new2 (w.alloc (sixO d 22)) 29
      rw [size_alloc] at hR0
      obtain ⟨e0, e1, e2, e3, e4, e5⟩ := hD0.six
      go_enter Try.func23, Try.ntmps23
      go_wp2_with fail
      refine (Hw.out _).mono ?_
      rintro e w1 ⟨rfl, hb1⟩
      have hR1 := hR0.up hb1
      have hD1 := hD0.up hb1
      have hB1 := nx hB0 hb1
      clear e0 e1 e2 e3 e4 e5
      obtain ⟨e0, e1, e2, e3, e4, e5⟩ := hD1.six
      go_wp2_with fail
      refine (Hc.out _).mono ?_
      rintro e w2 ⟨rfl, hb2⟩
      have hR2 := hR1.up hb2
      have hD2 := hD1.up hb2
      have hB2 := nx hB1 hb2
      clear e0 e1 e2 e3 e4 e5
      have hRX := hR2
      have c0 := hRX.cell 0 (by omega)
      have c1 := hRX.cell 1 (by omega)
      have z0 := hRX.free 0
      have z1 := hRX.free 1
      go_wp2_with fail
      refine ret_cell_tmp (b := w.heap.size + 1) (n := 2) (f := fr 0 0) Try.results23 rfl rfl Try.underlying29 (by kernel_rfl) (fin2' hRX _ _) rfl ⟨rfl, ?_⟩
      exact (hB2.setCell (p := ⟨w.heap.size + 1, 0, none⟩) (Nat.le_succ _) _).setCell (p := ⟨w.heap.size + 1, 1, none⟩) (Nat.le_succ _) _
    · have hok : okW d x = true := by simp [okW, hr, h0]
      rw [hok, (w_yes hok).1, (w_yes hok).2]
      clear hok hr
      have Hcut : Hid (∀ w, Calls Try.prog 56 #[.int .i64 6, .int .i64 (wgt d x 6 : Nat)] w fun e w' => e = .returned (v2 (num 6 (wgt d x 6) : Nat) (den 6 (wgt d x 6) : Nat)) ∧ Below w.heap.size w w') := fun w => FracL.fractionL 6 (wgt d x 6) w (by omega) (by omega) (by omega)
      have h0b : ((wgt d x 6 : Nat) : Int) ≠ 0 := by omega
      have h0c : (((wgt d x 6 : Nat) : Int) == 0) = false := by simpa using h0
      generalize num 6 (wgt d x 6) = x0 at *
      generalize den 6 (wgt d x 6) = y0 at *
      generalize wgt d x 6 = v at *
      unfold dv
      have hB0 := na (na (n0 w) (sixO d 22)) (.cells #[.int .i64 0, .int .i64 0] 29)
      have hD0 := (At.new6 w d 22 rfl).past (.cells #[.int .i64 0, .int .i64 0] 29)
      have hR0 := At.new2 (w.alloc (sixO d 22)) 29
      rw [size_alloc] at hR0
      obtain ⟨e0, e1, e2, e3, e4, e5⟩ := hD0.six
      go_enter Try.func23, Try.ntmps23
      go_wp2_with fail
      refine (Hw.out _).mono ?_
      rintro e w1 ⟨rfl, hb1⟩
      have hR1 := hR0.up hb1
      have hD1 := hD0.up hb1
      have hB1 := nx hB0 hb1
      clear e0 e1 e2 e3 e4 e5
      obtain ⟨e0, e1, e2, e3, e4, e5⟩ := hD1.six
      go_wp2_with fail
      refine (Hc.out _).mono ?_
      rintro e w2 ⟨rfl, hb2⟩
      have hR2 := hR1.up hb2
      have hD2 := hD1.up hb2
      have hB2 := nx hB1 hb2
      clear e0 e1 e2 e3 e4 e5
      go_wp2_with fail
      refine (Hcut.out _).mono ?_
      rintro e w3 ⟨rfl, hb3⟩
      have hR3 := hR2.up hb3
      have hD3 := hD2.up hb3
      have hB3 := nx hB2 hb3
      have hRX := hR3
      have c0 := hRX.cell 0 (by omega)
      have c1 := hRX.cell 1 (by omega)
      have z0 := hRX.free 0
      have z1 := hRX.free 1
      go_wp2_with fail
      refine ret_cell_tmp (b := w.heap.size + 1) (n := 2) (f := fr x0 y0) Try.results23 rfl rfl Try.underlying29 (by kernel_rfl) (fin2' hRX _ _) rfl ⟨rfl, ?_⟩
      exact (hB3.setCell (p := ⟨w.heap.size + 1, 0, none⟩) (Nat.le_succ _) _).setCell (p := ⟨w.heap.size + 1, 1, none⟩) (Nat.le_succ _) _

set_option maxRecDepth 100000 in
set_option maxHeartbeats 4000000 in
theorem specWait_any (d : Nat → Int) (x : Int) (w : World) :
    Calls Try.prog 22 #[dv d, .int .i64 x] w fun e w' => e = .returned (.tuple #[v2 (wx d x) (wy d x), .bool (okW d x)]) ∧ Below w.heap.size w w' := by
  have hc := fun w => l2Die_any d w
  unfold dv at hc
  have Hc := Lib.hid hc; clear hc
  have hw := fun w => specW_any d x w
  unfold dv at hw
  have Hw := Lib.hid hw; clear hw
  cases hr : isDie d
  · rw [hr] at Hc
    have hok : okW d x = false := by simp [okW, hr]
    rw [hok, (w_no hok).1, (w_no hok).2]
    clear hok
    clear hr Hw
    unfold dv
    have hB0 := na (na (n0 w) (sixO d 22)) (.cells #[.int .i64 0, .int .i64 0] 29)
    have hD0 := (At.new6 w d 22 rfl).past (.cells #[.int .i64 0, .int .i64 0] 29)
    have hR0 := At.new2 (w.alloc (sixO d 22)) 29
    rw [size_alloc] at hR0
    obtain ⟨e0, e1, e2, e3, e4, e5⟩ := hD0.six
    go_enter Try.func22, Try.ntmps22
    go_wp2_with fail
    refine (Hc.out _).mono ?_
    rintro e w1 ⟨rfl, hb1⟩
    have hR1 := hR0.up hb1
    have hD1 := hD0.up hb1
    have hB1 := nx hB0 hb1
    clear e0 e1 e2 e3 e4 e5
    have hRX := hR1
    have c0 := hRX.cell 0 (by omega)
    have c1 := hRX.cell 1 (by omega)
    have z0 := hRX.free 0
    have z1 := hRX.free 1
    go_wp2_with fail
    refine ret_cell_tmp (b := w.heap.size + 1) (n := 2) (f := fr 0 0) Try.results22 rfl rfl Try.underlying29 (by kernel_rfl) (fin2' hRX _ _) rfl ⟨rfl, ?_⟩
    exact (hB1.setCell (p := ⟨w.heap.size + 1, 0, none⟩) (Nat.le_succ _) _).setCell (p := ⟨w.heap.size + 1, 1, none⟩) (Nat.le_succ _) _
  · rw [hr] at Hc
    have hwl := wgt_le d x 6
    by_cases h0 : wgt d x 6 = 0
    · rw [h0] at Hw
      have hok : okW d x = false := by simp [okW, hr, h0]
      rw [hok, (w_no hok).1, (w_no hok).2]
      clear hok
      clear hr h0
      unfold dv
      have hB0 := na (na (n0 w) (sixO d 22)) (.cells #[.int .i64 0, .int .i64 0] 29)
      have hD0 := (At.new6 w d 22 rfl).past (.cells #[.int .i64 0, .int .i64 0] 29)
      have hR0 := At.new2 (w.alloc (sixO d 22)) 29
      rw [size_alloc] at hR0
      obtain ⟨e0, e1, e2, e3, e4, e5⟩ := hD0.six
      go_enter Try.func22, Try.ntmps22
      go_wp2_with fail
      refine (Hc.out _).mono ?_
      rintro e w1 ⟨rfl, hb1⟩
      have hR1 := hR0.up hb1
      have hD1 := hD0.up hb1
      have hB1 := nx hB0 hb1
      clear e0 e1 e2 e3 e4 e5
      obtain ⟨e0, e1, e2, e3, e4, e5⟩ := hD1.six
      go_wp2_with fail
      refine (Hw.out _).mono ?_
      rintro e w2 ⟨rfl, hb2⟩
      have hR2 := hR1.up hb2
      have hD2 := hD1.up hb2
      have hB2 := nx hB1 hb2
      clear e0 e1 e2 e3 e4 e5
      have hRX := hR2
      have c0 := hRX.cell 0 (by omega)
      have c1 := hRX.cell 1 (by omega)
      have z0 := hRX.free 0
      have z1 := hRX.free 1
      go_wp2_with fail
      refine ret_cell_tmp (b := w.heap.size + 1) (n := 2) (f := fr 0 0) Try.results22 rfl rfl Try.underlying29 (by kernel_rfl) (fin2' hRX _ _) rfl ⟨rfl, ?_⟩
      exact (hB2.setCell (p := ⟨w.heap.size + 1, 0, none⟩) (Nat.le_succ _) _).setCell (p := ⟨w.heap.size + 1, 1, none⟩) (Nat.le_succ _) _
    · have hok : okW d x = true := by simp [okW, hr, h0]
      rw [hok, (w_yes hok).1, (w_yes hok).2]
      clear hok hr
      have Hcut : Hid (∀ w, Calls Try.prog 54 #[.int .i64 6, .int .i64 (wgt d x 6 : Nat)] w fun e w' => e = .returned (v2 (num 6 (wgt d x 6) : Nat) (den 6 (wgt d x 6) : Nat)) ∧ Below w.heap.size w w') := fun w => FracL.cutL 6 (wgt d x 6) w (by omega) (by omega) (by omega)
      have h0b : ((wgt d x 6 : Nat) : Int) ≠ 0 := by omega
      have h0c : (((wgt d x 6 : Nat) : Int) == 0) = false := by simpa using h0
      generalize num 6 (wgt d x 6) = x0 at *
      generalize den 6 (wgt d x 6) = y0 at *
      generalize wgt d x 6 = v at *
      unfold dv
      have hB0 := na (na (n0 w) (sixO d 22)) (.cells #[.int .i64 0, .int .i64 0] 29)
      have hD0 := (At.new6 w d 22 rfl).past (.cells #[.int .i64 0, .int .i64 0] 29)
      have hR0 := At.new2 (w.alloc (sixO d 22)) 29
      rw [size_alloc] at hR0
      obtain ⟨e0, e1, e2, e3, e4, e5⟩ := hD0.six
      go_enter Try.func22, Try.ntmps22
      go_wp2_with fail
      refine (Hc.out _).mono ?_
      rintro e w1 ⟨rfl, hb1⟩
      have hR1 := hR0.up hb1
      have hD1 := hD0.up hb1
      have hB1 := nx hB0 hb1
      clear e0 e1 e2 e3 e4 e5
      obtain ⟨e0, e1, e2, e3, e4, e5⟩ := hD1.six
      go_wp2_with fail
      refine (Hw.out _).mono ?_
      rintro e w2 ⟨rfl, hb2⟩
      have hR2 := hR1.up hb2
      have hD2 := hD1.up hb2
      have hB2 := nx hB1 hb2
      clear e0 e1 e2 e3 e4 e5
      obtain ⟨e0, e1, e2, e3, e4, e5⟩ := hD2.six
      go_wp2_with fail
      refine (Hw.out _).mono ?_
      rintro e w3 ⟨rfl, hb3⟩
      have hR3 := hR2.up hb3
      have hD3 := hD2.up hb3
      have hB3 := nx hB2 hb3
      clear e0 e1 e2 e3 e4 e5
      go_wp2_with fail
      refine (Hcut.out _).mono ?_
      rintro e w4 ⟨rfl, hb4⟩
      have hR4 := hR3.up hb4
      have hD4 := hD3.up hb4
      have hB4 := nx hB3 hb4
      have hRX := hR4
      have c0 := hRX.cell 0 (by omega)
      have c1 := hRX.cell 1 (by omega)
      have z0 := hRX.free 0
      have z1 := hRX.free 1
      go_wp2_with fail
      refine ret_cell_tmp (b := w.heap.size + 1) (n := 2) (f := fr x0 y0) Try.results22 rfl rfl Try.underlying29 (by kernel_rfl) (fin2' hRX _ _) rfl ⟨rfl, ?_⟩
      exact (hB4.setCell (p := ⟨w.heap.size + 1, 0, none⟩) (Nat.le_succ _) _).setCell (p := ⟨w.heap.size + 1, 1, none⟩) (Nat.le_succ _) _


end WaitW
end Go.Proofs.Ytdodokeebmdceaa
