/-
  MeanRun, both sides.
-/
import Derived.Test.YtcffglnfdnanhaaRows
import Derived.Test.YtcffglnfdnanhaaArr
import Derived.Test.YtcffglnfdnanhaaAnyR
import Derived.Test.YtcffglnfdnanhaaDieW
import Derived.Test.YtcffglnfdnanhaaSortW
import Derived.Test.YtcffglnfdnanhaaFracW
import Derived.Test.YtcffglnfdnanhaaFracL
import Derived.Test.YtcffglnfdnanhaaCutW
import Derived.Test.YtcffglnfdnanhaaAll6
import Derived.Test.YtcffglnfdnanhaaAllL
import Derived.Test.YtcffglnfdnanhaaOwnL
import Derived.Test.YtcffglnfdnanhaaFracM
import Derived.Test.YtcffglnfdnanhaaStopM
import Derived.Test.YtcffglnfdnanhaaRunM
import Derived.Test.YtcffglnfdnanhaaRunI
import Derived.Test.YtcffglnfdnanhaaRunS
import Derived.Test.YtcffglnfdnanhaaRunW
import Derived.Test.YtcffglnfdnanhaaOpenD
import Derived.WalkKit
import Derived.WalkLawsBesides
import Derived.WalkSpells
import Derived.ProofKit
import Derived.OpenShut
import Derived.Deep.RegionWith
import Derived.Deep.QuietTactic
import Derived.BigQuiet
namespace Go.Proofs.Ytcffglnfdnanhaa
open Go.ChangeShapes Go.WideShapes Go.ChangeAt Go.RowKit
open Go.ChangeMaps (open_string shut_string)

namespace RMean
open Dice Arr DieW SortW FracW CutW All6 AllL OwnL FracM StopM RunM RunI RunS RunW

/-- What MeanRun answers. -/
def mx (d : Nat → Int) (g : Int) : Int := if okR d g then (num (top (face d) g.toNat g.toNat) (6 ^ g.toNat) : Nat) else 0
def my (d : Nat → Int) (g : Int) : Int := if okR d g then (den (top (face d) g.toNat g.toNat) (6 ^ g.toNat) : Nat) else 0
theorem mx_no {d : Nat → Int} {g : Int} (h : okR d g = false) : mx d g = 0 ∧ my d g = 0 := by simp [mx, my, h]
theorem mx_yes {d : Nat → Int} {g : Nat} (h : okR d g = true) : mx d g = (num (top (face d) g g) (6 ^ g) : Nat) ∧ my d g = (den (top (face d) g g) (6 ^ g) : Nat) := by
  simp [mx, my, h]

set_option maxRecDepth 100000 in
set_option maxHeartbeats 4000000 in
theorem implMean_any (d : Nat → Int) (g : Int) (w : World) :
    Calls Try.prog 22 #[dv d, .int .i64 g] w fun e w' => e = .returned (.tuple #[v2 (mx d g) (my d g), .bool (okR d g)]) ∧ Below w.heap.size w w' := by
  have hc := fun w => canRun_any d g w
  unfold dv at hc
  have Hc := Lib.hid hc; clear hc
  cases hok : okR d g
  · rw [hok] at Hc
    rw [(mx_no hok).1, (mx_no hok).2]
    clear hok
    unfold dv
    have hB0 := na (na (n0 w) (sixO d 22)) (.cells #[.int .i64 0, .int .i64 0] 30)
    have hD0 := (At.new6 w d 22 rfl).past (.cells #[.int .i64 0, .int .i64 0] 30)
    have hR0 := At.new2 (w.alloc (sixO d 22)) 30
    rw [size_alloc] at hR0
    obtain ⟨e0, e1, e2, e3, e4, e5⟩ := hD0.six
    go_enter Try.func22, Try.ntmps22
    go_wp2_with fail
    refine (Hc.out _).mono ?_
    rintro e w1 ⟨rfl, hb1⟩
    have hRX := hR0.up hb1
    have hB1 := nx hB0 hb1
    have c0 := hRX.cell 0 (by omega)
    have c1 := hRX.cell 1 (by omega)
    have z0 := hRX.free 0
    have z1 := hRX.free 1
    clear e0 e1 e2 e3 e4 e5
    go_wp2_with fail
    refine ret_cell_tmp (b := w.heap.size + 1) (n := 2) (f := fr 0 0) Try.results22 rfl rfl Try.underlying30 (by kernel_rfl) (fin2' hRX _ _) rfl ⟨rfl, ?_⟩
    exact (hB1.setCell (p := ⟨w.heap.size + 1, 0, none⟩) (Nat.le_succ _) _).setCell (p := ⟨w.heap.size + 1, 1, none⟩) (Nat.le_succ _) _
  · rw [hok] at Hc
    obtain ⟨hr, h1, h8⟩ := of_okR hok
    obtain ⟨g, rfl⟩ : ∃ m : Nat, g = m := ⟨g.toNat, by omega⟩
    rw [(mx_yes hok).1, (mx_yes hok).2]
    have hd := faces_of hr
    generalize face d = f at *
    clear hok hr
    have hm := fun w => implRolls_any d f g w hd (by omega) (by omega)
    unfold dv at hm
    have Hm := Lib.hid hm; clear hm hd
    have Ho := Lib.hid (fun w => outcomesL 8 w (by omega))
    rw [show all6 8 = 1679616 from by decide] at Ho
    have hcut := fun w => FracL.fractionL (rolls f g g) 1679616 w (by have := rolls_le f (n := g) (g := g) (by omega) (by omega) (Nat.le_refl _); omega) (by omega) (by omega)
    have hcut' : ∀ w, Calls Try.prog 59 #[.int .i64 (rolls f g g : Nat), .int .i64 1679616] w fun e w' => e = .returned (v2 (num (rolls f g g) 1679616 : Nat) (den (rolls f g g) 1679616 : Nat)) ∧ Below w.heap.size w w' := hcut
    rw [(mean_cut f (show g ≤ 8 by omega)).1, (mean_cut f (show g ≤ 8 by omega)).2] at hcut'
    have Hcut := Lib.hid hcut'; clear hcut hcut'
    generalize num (top f g g) (6 ^ g) = x0 at *
    generalize den (top f g g) (6 ^ g) = y0 at *
    generalize rolls f g g = R at *
    unfold dv
    have hB0 := na (na (n0 w) (sixO d 22)) (.cells #[.int .i64 0, .int .i64 0] 30)
    have hD0 := (At.new6 w d 22 rfl).past (.cells #[.int .i64 0, .int .i64 0] 30)
    have hR0 := At.new2 (w.alloc (sixO d 22)) 30
    rw [size_alloc] at hR0
    obtain ⟨e0, e1, e2, e3, e4, e5⟩ := hD0.six
    go_enter Try.func22, Try.ntmps22
    go_wp2_with fail
    refine (Hc.out _).mono ?_
    rintro e w1 ⟨rfl, hb1⟩
    have hR1 := hR0.up hb1
    have hD1 := hD0.up hb1
    have hB1 := nx hB0 hb1
    clear e0 e1 e2 e3 e4 e5
    obtain ⟨e0, e1, e2, e3, e4, e5⟩ := hD1.six
    go_wp2_with fail
    refine (Hm.out _).mono ?_
    rintro e w2 ⟨rfl, hb2⟩
    have hR2 := hR1.up hb2
    have hB2 := nx hB1 hb2
    clear e0 e1 e2 e3 e4 e5
    go_wp2_with fail
    refine (Ho.out _).mono ?_
    rintro e w3 ⟨rfl, hw3⟩
    have hw3 := hw3.symm
    subst hw3
    go_wp2_with fail
    refine (Hcut.out _).mono ?_
    rintro e w4 ⟨rfl, hb4⟩
    have hRX := hR2.up hb4
    have hB4 := nx hB2 hb4
    have c0 := hRX.cell 0 (by omega)
    have c1 := hRX.cell 1 (by omega)
    have z0 := hRX.free 0
    have z1 := hRX.free 1
    go_wp2_with fail
    refine ret_cell_tmp (b := w.heap.size + 1) (n := 2) (f := fr x0 y0) Try.results22 rfl rfl Try.underlying30 (by kernel_rfl) (fin2' hRX _ _) rfl ⟨rfl, ?_⟩
    exact (hB4.setCell (p := ⟨w.heap.size + 1, 0, none⟩) (Nat.le_succ _) _).setCell (p := ⟨w.heap.size + 1, 1, none⟩) (Nat.le_succ _) _

set_option maxRecDepth 100000 in
set_option maxHeartbeats 4000000 in
theorem specMean_any' (d : Nat → Int) (g : Int) (w : World) :
    Calls Try.prog 21 #[dv d, .int .i64 g] w fun e w' => e = .returned (.tuple #[v2 (mx d g) (my d g), .bool (okR d g)]) ∧ Below w.heap.size w w' := by
  have hc := fun w => specRunner_any d w
  unfold dv at hc
  have Hc := Lib.hid hc; clear hc
  have hgo := fun w => specGoal_any g w
  cases hr : isRun d
  · rw [hr] at Hc
    have hok : okR d g = false := okR_die hr
    rw [hok, (mx_no hok).1, (mx_no hok).2]
    clear hok hr hgo
    unfold dv
    have hB0 := na (na (n0 w) (sixO d 22)) (.cells #[.int .i64 0, .int .i64 0] 30)
    have hD0 := (At.new6 w d 22 rfl).past (.cells #[.int .i64 0, .int .i64 0] 30)
    have hR0 := At.new2 (w.alloc (sixO d 22)) 30
    rw [size_alloc] at hR0
    obtain ⟨e0, e1, e2, e3, e4, e5⟩ := hD0.six
    go_enter Try.func21, Try.ntmps21
    go_wp2_with fail
    refine (Hc.out _).mono ?_
    rintro e w1 ⟨rfl, hb1⟩
    have hRX := hR0.up hb1
    have hB1 := nx hB0 hb1
    have c0 := hRX.cell 0 (by omega)
    have c1 := hRX.cell 1 (by omega)
    have z0 := hRX.free 0
    have z1 := hRX.free 1
    clear e0 e1 e2 e3 e4 e5
    go_wp2_with fail
    refine ret_cell_tmp (b := w.heap.size + 1) (n := 2) (f := fr 0 0) Try.results21 rfl rfl Try.underlying30 (by kernel_rfl) (fin2' hRX _ _) rfl ⟨rfl, ?_⟩
    exact (hB1.setCell (p := ⟨w.heap.size + 1, 0, none⟩) (Nat.le_succ _) _).setCell (p := ⟨w.heap.size + 1, 1, none⟩) (Nat.le_succ _) _
  · rw [hr] at Hc
    by_cases hgg : 1 ≤ g ∧ g ≤ 8
    · rw [decide_eq_true hgg] at hgo
      have hok : okR d g = true := okR_yes hr hgg.1 hgg.2
      have Hg := Lib.hid hgo; clear hgo
      obtain ⟨h1, h8⟩ := hgg
      obtain ⟨g, rfl⟩ : ∃ m : Nat, g = m := ⟨g.toNat, by omega⟩
      rw [hok, (mx_yes hok).1, (mx_yes hok).2]
      have hd := faces_of hr
      generalize face d = f at *
      clear hok hr
      have hm := fun w => specMean_any d f g w hd (by omega) (by omega)
      unfold dv at hm
      have Hm := Lib.hid hm; clear hm hd
      generalize num (top f g g) (6 ^ g) = x0 at *
      generalize den (top f g g) (6 ^ g) = y0 at *
      unfold dv
      have hB0 := na (na (n0 w) (sixO d 22)) (.cells #[.int .i64 0, .int .i64 0] 30)
      have hD0 := (At.new6 w d 22 rfl).past (.cells #[.int .i64 0, .int .i64 0] 30)
      have hR0 := At.new2 (w.alloc (sixO d 22)) 30
      rw [size_alloc] at hR0
      obtain ⟨e0, e1, e2, e3, e4, e5⟩ := hD0.six
      go_enter Try.func21, Try.ntmps21
      go_wp2_with fail
      refine (Hc.out _).mono ?_
      rintro e w1 ⟨rfl, hb1⟩
      have hR1 := hR0.up hb1
      have hD1 := hD0.up hb1
      have hB1 := nx hB0 hb1
      clear e0 e1 e2 e3 e4 e5
      go_wp2_with fail
      refine (Hg.out _).mono ?_
      rintro e w2 ⟨rfl, hw2⟩
      have hw2 := hw2.symm
      subst hw2
      obtain ⟨e0, e1, e2, e3, e4, e5⟩ := hD1.six
      go_wp2_with fail
      refine (Hm.out _).mono ?_
      rintro e w3 ⟨rfl, hb3⟩
      have hRX := hR1.up hb3
      have hB3 := nx hB1 hb3
      clear e0 e1 e2 e3 e4 e5
      have c0 := hRX.cell 0 (by omega)
      have c1 := hRX.cell 1 (by omega)
      have z0 := hRX.free 0
      have z1 := hRX.free 1
      go_wp2_with fail
      refine ret_cell_tmp (b := w.heap.size + 1) (n := 2) (f := fr x0 y0) Try.results21 rfl rfl Try.underlying30 (by kernel_rfl) (fin2' hRX _ _) rfl ⟨rfl, ?_⟩
      exact (hB3.setCell (p := ⟨w.heap.size + 1, 0, none⟩) (Nat.le_succ _) _).setCell (p := ⟨w.heap.size + 1, 1, none⟩) (Nat.le_succ _) _
    · rw [decide_eq_false hgg] at hgo
      have hok : okR d g = false := by simp only [okR, decide_eq_false hgg, Bool.and_false]
      have Hg := Lib.hid hgo; clear hgo
      rw [hok, (mx_no hok).1, (mx_no hok).2]
      clear hok hr hgg
      unfold dv
      have hB0 := na (na (n0 w) (sixO d 22)) (.cells #[.int .i64 0, .int .i64 0] 30)
      have hD0 := (At.new6 w d 22 rfl).past (.cells #[.int .i64 0, .int .i64 0] 30)
      have hR0 := At.new2 (w.alloc (sixO d 22)) 30
      rw [size_alloc] at hR0
      obtain ⟨e0, e1, e2, e3, e4, e5⟩ := hD0.six
      go_enter Try.func21, Try.ntmps21
      go_wp2_with fail
      refine (Hc.out _).mono ?_
      rintro e w1 ⟨rfl, hb1⟩
      have hR1 := hR0.up hb1
      have hB1 := nx hB0 hb1
      clear e0 e1 e2 e3 e4 e5
      go_wp2_with fail
      refine (Hg.out _).mono ?_
      rintro e w2 ⟨rfl, hw2⟩
      have hw2 := hw2.symm
      subst hw2
      have hRX := hR1
      have c0 := hRX.cell 0 (by omega)
      have c1 := hRX.cell 1 (by omega)
      have z0 := hRX.free 0
      have z1 := hRX.free 1
      go_wp2_with fail
      refine ret_cell_tmp (b := w.heap.size + 1) (n := 2) (f := fr 0 0) Try.results21 rfl rfl Try.underlying30 (by kernel_rfl) (fin2' hRX _ _) rfl ⟨rfl, ?_⟩
      exact (hB1.setCell (p := ⟨w.heap.size + 1, 0, none⟩) (Nat.le_succ _) _).setCell (p := ⟨w.heap.size + 1, 1, none⟩) (Nat.le_succ _) _


end RMean
end Go.Proofs.Ytcffglnfdnanhaa
