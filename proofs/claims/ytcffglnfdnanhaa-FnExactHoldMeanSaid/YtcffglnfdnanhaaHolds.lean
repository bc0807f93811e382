/-
  HoldMean and BustChance, both sides.
-/
import Derived.Test.YtcffglnfdnanhaaRows
import Derived.Test.YtcffglnfdnanhaaArr
import Derived.Test.YtcffglnfdnanhaaAnyR
import Derived.Test.YtcffglnfdnanhaaDieW
import Derived.Test.YtcffglnfdnanhaaSortW
import Derived.Test.YtcffglnfdnanhaaFracW
import Derived.Test.YtcffglnfdnanhaaFracL
import Derived.Test.YtcffglnfdnanhaaCutW
import Derived.Test.YtcffglnfdnanhaaAll6
import Derived.Test.YtcffglnfdnanhaaAllL
import Derived.Test.YtcffglnfdnanhaaOwnL
import Derived.Test.YtcffglnfdnanhaaFracM
import Derived.Test.YtcffglnfdnanhaaStopM
import Derived.Test.YtcffglnfdnanhaaRunM
import Derived.Test.YtcffglnfdnanhaaRunI
import Derived.Test.YtcffglnfdnanhaaRunS
import Derived.Test.YtcffglnfdnanhaaRunW
import Derived.Test.YtcffglnfdnanhaaHoldM
import Derived.Test.YtcffglnfdnanhaaBig40
import Derived.Test.YtcffglnfdnanhaaBig41
import Derived.Test.YtcffglnfdnanhaaHoldI
import Derived.Test.YtcffglnfdnanhaaHoldS
import Derived.Test.YtcffglnfdnanhaaHoldW
import Derived.Test.YtcffglnfdnanhaaRunW
import Derived.Test.YtcffglnfdnanhaaOpenD
import Derived.WalkKit
import Derived.WalkLawsBesides
import Derived.WalkSpells
import Derived.ProofKit
import Derived.OpenShut
import Derived.Deep.RegionWith
import Derived.Deep.QuietTactic
import Derived.BigQuiet
namespace Go.Proofs.Ytcffglnfdnanhaa
open Go.ChangeShapes Go.WideShapes Go.ChangeAt Go.RowKit
open Go.ChangeMaps (open_string shut_string)

namespace Holds
open Dice Arr DieW SortW FracW CutW All6 AllL OwnL FracM StopM RunM RunI RunS RunW HoldM HoldI HoldS HoldW

def meanx (d : Nat → Int) (bad h : Int) : Int := if okT d bad h then (num (gain (outS (face d) bad.toNat h.toNat h.toNat) 41) (6 ^ h.toNat) : Nat) else 0
def meany (d : Nat → Int) (bad h : Int) : Int := if okT d bad h then (den (gain (outS (face d) bad.toNat h.toNat h.toNat) 41) (6 ^ h.toNat) : Nat) else 0
theorem mean_no {d : Nat → Int} {bad h : Int} (x : okT d bad h = false) : meanx d bad h = 0 ∧ meany d bad h = 0 := by simp [meanx, meany, x]
theorem mean_yes {d : Nat → Int} {bad h : Nat} (x : okT d bad h = true) : meanx d bad h = (num (gain (outS (face d) bad h h) 41) (6 ^ h) : Nat) ∧ meany d bad h = (den (gain (outS (face d) bad h h) 41) (6 ^ h) : Nat) := by
  simp [meanx, meany, x]
def bustx (d : Nat → Int) (bad h : Int) : Int := if okT d bad h then (num (outS (face d) bad.toNat h.toNat h.toNat 0) (6 ^ h.toNat) : Nat) else 0
def busty (d : Nat → Int) (bad h : Int) : Int := if okT d bad h then (den (outS (face d) bad.toNat h.toNat h.toNat 0) (6 ^ h.toNat) : Nat) else 0
theorem bust_no {d : Nat → Int} {bad h : Int} (x : okT d bad h = false) : bustx d bad h = 0 ∧ busty d bad h = 0 := by simp [bustx, busty, x]
theorem bust_yes {d : Nat → Int} {bad h : Nat} (x : okT d bad h = true) : bustx d bad h = (num (outS (face d) bad h h 0) (6 ^ h) : Nat) ∧ busty d bad h = (den (outS (face d) bad h h 0) (6 ^ h) : Nat) := by
  simp [bustx, busty, x]

set_option maxRecDepth 100000 in
set_option maxHeartbeats 8000000 in
theorem implHoldMean_any (d : Nat → Int) (bad h : Int) (w : World) :
    Calls Try.prog 41 #[dv d, .int .i64 bad, .int .i64 h] w fun e w' => e = .returned (.tuple #[v2 (meanx d bad h) (meany d bad h), .bool (okT d bad h)]) ∧ Below w.heap.size w w' := by
  have hc := fun w => canTurn_any d bad h w
  unfold dv at hc
  have Hc := Lib.hid hc; clear hc
  cases hok : okT d bad h
  · rw [hok] at Hc
    rw [(mean_no hok).1, (mean_no hok).2]
    clear hok
    unfold dv
    have hB := na (na (n0 w) (sixO d 22)) (.cells #[.int .i64 0, .int .i64 0] 30)
    have hD := (At.new6 w d 22 rfl).past (.cells #[.int .i64 0, .int .i64 0] 30)
    have hRX := At.new2 (w.alloc (sixO d 22)) 30
    rw [size_alloc] at hRX
    obtain ⟨e0, e1, e2, e3, e4, e5⟩ := hD.six
    go_enter Try.func41, Try.ntmps41
    go_wp2_with fail
    refine (Hc.out _).mono ?_
    rintro e w1 ⟨rfl, hb1⟩
    have hD := hD.up hb1
    have hRX := hRX.up hb1
    have hB := nx hB hb1
    clear hb1
    clear e0 e1 e2 e3 e4 e5
    have c0 := hRX.cell 0 (by omega)
    have c1 := hRX.cell 1 (by omega)
    have z0 := hRX.free 0
    have z1 := hRX.free 1
    go_wp2_with fail
    refine ret_cell_tmp (b := w.heap.size + 1) (n := 2) (f := fr 0 0) Try.results41 rfl rfl Try.underlying30 (by kernel_rfl) (fin2' hRX _ _) rfl ⟨rfl, ?_⟩
    exact (hB.setCell (p := ⟨w.heap.size + 1, 0, none⟩) (Nat.le_succ _) _).setCell (p := ⟨w.heap.size + 1, 1, none⟩) (Nat.le_succ _) _
  · rw [hok] at Hc
    obtain ⟨hr, ⟨hb1, hb2⟩, h1, h2⟩ := of_okT hok
    obtain ⟨bad, rfl⟩ : ∃ m : Nat, bad = m := ⟨bad.toNat, by omega⟩
    obtain ⟨h, rfl⟩ : ∃ m : Nat, h = m := ⟨h.toNat, by omega⟩
    rw [(mean_yes hok).1, (mean_yes hok).2]
    have hd := faces_of hr
    generalize face d = f at *
    clear hok hr
    have hh1 : 1 ≤ h := by omega
    have hh2 : h ≤ 10 := by omega
    have hfp : ∀ j, j < 6 → 1 ≤ f j := fun j hj => (hd j hj).2.1
    have hf30 : ∀ j, j < 6 → f j ≤ 30 := fun j hj => (hd j hj).2.2
    have hm := fun w => implGain_any d f bad h w hd hh2
    unfold dv at hm
    have Hm := Lib.hid hm; clear hm hd
    have Ho := Lib.hid (fun w => outcomesL 10 w (by omega))
    rw [show all6 10 = 60466176 from by decide] at Ho
    have hcut : ∀ w, Calls Try.prog 59 #[.int .i64 (gain (st f bad h) 40 : Nat), .int .i64 60466176] w fun e w' => e = .returned (v2 (num (gain (st f bad h) 40) 60466176 : Nat) (den (gain (st f bad h) 40) 60466176 : Nat)) ∧ Below w.heap.size w w' := fun w => FracL.fractionL (gain (st f bad h) 40) 60466176 w (by have := gain_st_le f bad hh2 (show 40 ≤ 41 by omega); omega) (by omega) (by omega)
    rw [(gain_cut bad hfp hf30 hh1 hh2).1, (gain_cut bad hfp hf30 hh1 hh2).2] at hcut
    have Hcut := Lib.hid hcut; clear hcut
    generalize num (gain (outS f bad h h) 41) (6 ^ h) = x0 at *
    generalize den (gain (outS f bad h h) 41) (6 ^ h) = y0 at *
    generalize gain (st f bad h) 40 = R at *
    unfold dv
    have hB := na (na (n0 w) (sixO d 22)) (.cells #[.int .i64 0, .int .i64 0] 30)
    have hD := (At.new6 w d 22 rfl).past (.cells #[.int .i64 0, .int .i64 0] 30)
    have hRX := At.new2 (w.alloc (sixO d 22)) 30
    rw [size_alloc] at hRX
    obtain ⟨e0, e1, e2, e3, e4, e5⟩ := hD.six
    go_enter Try.func41, Try.ntmps41
    go_wp2_with fail
    refine (Hc.out _).mono ?_
    rintro e w1 ⟨rfl, hb1⟩
    have hD := hD.up hb1
    have hRX := hRX.up hb1
    have hB := nx hB hb1
    clear hb1
    clear e0 e1 e2 e3 e4 e5
    obtain ⟨e0, e1, e2, e3, e4, e5⟩ := hD.six
    go_wp2_with fail
    refine (Hm.out _).mono ?_
    rintro e w2 ⟨rfl, hb2⟩
    have hRX := hRX.up hb2
    have hB := nx hB hb2
    clear hb2
    clear e0 e1 e2 e3 e4 e5
    clear hD
    go_wp2_with fail
    refine (Ho.out _).mono ?_
    rintro e w3 ⟨rfl, hw3⟩
    have hw3 := hw3.symm
    subst hw3
    go_wp2_with fail
    refine (Hcut.out _).mono ?_
    rintro e w4 ⟨rfl, hb4⟩
    have hRX := hRX.up hb4
    have hB := nx hB hb4
    clear hb4
    have c0 := hRX.cell 0 (by omega)
    have c1 := hRX.cell 1 (by omega)
    have z0 := hRX.free 0
    have z1 := hRX.free 1
    go_wp2_with fail
    refine ret_cell_tmp (b := w.heap.size + 1) (n := 2) (f := fr x0 y0) Try.results41 rfl rfl Try.underlying30 (by kernel_rfl) (fin2' hRX _ _) rfl ⟨rfl, ?_⟩
    exact (hB.setCell (p := ⟨w.heap.size + 1, 0, none⟩) (Nat.le_succ _) _).setCell (p := ⟨w.heap.size + 1, 1, none⟩) (Nat.le_succ _) _

set_option maxRecDepth 100000 in
set_option maxHeartbeats 8000000 in
theorem specHoldMean_any (d : Nat → Int) (bad h : Int) (w : World) :
    Calls Try.prog 40 #[dv d, .int .i64 bad, .int .i64 h] w fun e w' => e = .returned (.tuple #[v2 (meanx d bad h) (meany d bad h), .bool (okT d bad h)]) ∧ Below w.heap.size w w' := by
  have hc := fun w => l7Turn_any d bad h w
  unfold dv at hc
  have Hc := Lib.hid hc; clear hc
  cases hok : okT d bad h
  · rw [hok] at Hc
    rw [(mean_no hok).1, (mean_no hok).2]
    clear hok
    unfold dv
    have hB := na (na (n0 w) (sixO d 22)) (.cells #[.int .i64 0, .int .i64 0] 30)
    have hD := (At.new6 w d 22 rfl).past (.cells #[.int .i64 0, .int .i64 0] 30)
    have hRX := At.new2 (w.alloc (sixO d 22)) 30
    rw [size_alloc] at hRX
    obtain ⟨e0, e1, e2, e3, e4, e5⟩ := hD.six
    go_enter Try.func40, Try.ntmps40
    go_wp2_with fail
    refine (Hc.out _).mono ?_
    rintro e w1 ⟨rfl, hb1⟩
    have hD := hD.up hb1
    have hRX := hRX.up hb1
    have hB := nx hB hb1
    clear hb1
    clear e0 e1 e2 e3 e4 e5
    have c0 := hRX.cell 0 (by omega)
    have c1 := hRX.cell 1 (by omega)
    have z0 := hRX.free 0
    have z1 := hRX.free 1
    go_wp2_with fail
    refine ret_cell_tmp (b := w.heap.size + 1) (n := 2) (f := fr 0 0) Try.results40 rfl rfl Try.underlying30 (by kernel_rfl) (fin2' hRX _ _) rfl ⟨rfl, ?_⟩
    exact (hB.setCell (p := ⟨w.heap.size + 1, 0, none⟩) (Nat.le_succ _) _).setCell (p := ⟨w.heap.size + 1, 1, none⟩) (Nat.le_succ _) _
  · rw [hok] at Hc
    obtain ⟨hr, ⟨hb1, hb2⟩, h1, h2⟩ := of_okT hok
    obtain ⟨bad, rfl⟩ : ∃ m : Nat, bad = m := ⟨bad.toNat, by omega⟩
    obtain ⟨h, rfl⟩ : ∃ m : Nat, h = m := ⟨h.toNat, by omega⟩
    rw [(mean_yes hok).1, (mean_yes hok).2]
    have hd := faces_of hr
    generalize face d = f at *
    clear hok hr
    have hh1 : 1 ≤ h := by omega
    have hh2 : h ≤ 10 := by omega
    have hfp : ∀ j, j < 6 → 1 ≤ f j := fun j hj => (hd j hj).2.1
    have hf30 : ∀ j, j < 6 → f j ≤ 30 := fun j hj => (hd j hj).2.2
    have hm := fun w => specHMean_any d f bad h w hd hh1 hh2
    unfold dv at hm
    have Hm := Lib.hid hm; clear hm hd
    generalize num (gain (outS f bad h h) 41) (6 ^ h) = x0 at *
    generalize den (gain (outS f bad h h) 41) (6 ^ h) = y0 at *
    unfold dv
    have hB := na (na (n0 w) (sixO d 22)) (.cells #[.int .i64 0, .int .i64 0] 30)
    have hD := (At.new6 w d 22 rfl).past (.cells #[.int .i64 0, .int .i64 0] 30)
    have hRX := At.new2 (w.alloc (sixO d 22)) 30
    rw [size_alloc] at hRX
    obtain ⟨e0, e1, e2, e3, e4, e5⟩ := hD.six
    go_enter Try.func40, Try.ntmps40
    go_wp2_with fail
    refine (Hc.out _).mono ?_
    rintro e w1 ⟨rfl, hb1⟩
    have hD := hD.up hb1
    have hRX := hRX.up hb1
    have hB := nx hB hb1
    clear hb1
    clear e0 e1 e2 e3 e4 e5
    obtain ⟨e0, e1, e2, e3, e4, e5⟩ := hD.six
    go_wp2_with fail
    refine (Hm.out _).mono ?_
    rintro e w2 ⟨rfl, hb2⟩
    have hRX := hRX.up hb2
    have hB := nx hB hb2
    clear hb2
    clear e0 e1 e2 e3 e4 e5
    have c0 := hRX.cell 0 (by omega)
    have c1 := hRX.cell 1 (by omega)
    have z0 := hRX.free 0
    have z1 := hRX.free 1
    go_wp2_with fail
    refine ret_cell_tmp (b := w.heap.size + 1) (n := 2) (f := fr x0 y0) Try.results40 rfl rfl Try.underlying30 (by kernel_rfl) (fin2' hRX _ _) rfl ⟨rfl, ?_⟩
    exact (hB.setCell (p := ⟨w.heap.size + 1, 0, none⟩) (Nat.le_succ _) _).setCell (p := ⟨w.heap.size + 1, 1, none⟩) (Nat.le_succ _) _

set_option maxRecDepth 100000 in
set_option maxHeartbeats 8000000 in
theorem implBustChance_any (d : Nat → Int) (bad h : Int) (w : World) :
    Calls Try.prog 43 #[dv d, .int .i64 bad, .int .i64 h] w fun e w' => e = .returned (.tuple #[v2 (bustx d bad h) (busty d bad h), .bool (okT d bad h)]) ∧ Below w.heap.size w w' := by
  have hc := fun w => canTurn_any d bad h w
  unfold dv at hc
  have Hc := Lib.hid hc; clear hc
  cases hok : okT d bad h
  · rw [hok] at Hc
    rw [(bust_no hok).1, (bust_no hok).2]
    clear hok
    unfold dv
    have hB := na (na (n0 w) (sixO d 22)) (.cells #[.int .i64 0, .int .i64 0] 30)
    have hD := (At.new6 w d 22 rfl).past (.cells #[.int .i64 0, .int .i64 0] 30)
    have hRX := At.new2 (w.alloc (sixO d 22)) 30
    rw [size_alloc] at hRX
    obtain ⟨e0, e1, e2, e3, e4, e5⟩ := hD.six
    go_enter Try.func43, Try.ntmps43
    go_wp2_with fail
    refine (Hc.out _).mono ?_
    rintro e w1 ⟨rfl, hb1⟩
    have hD := hD.up hb1
    have hRX := hRX.up hb1
    have hB := nx hB hb1
    clear hb1
    clear e0 e1 e2 e3 e4 e5
    have c0 := hRX.cell 0 (by omega)
    have c1 := hRX.cell 1 (by omega)
    have z0 := hRX.free 0
    have z1 := hRX.free 1
    go_wp2_with fail
    refine ret_cell_tmp (b := w.heap.size + 1) (n := 2) (f := fr 0 0) Try.results43 rfl rfl Try.underlying30 (by kernel_rfl) (fin2' hRX _ _) rfl ⟨rfl, ?_⟩
    exact (hB.setCell (p := ⟨w.heap.size + 1, 0, none⟩) (Nat.le_succ _) _).setCell (p := ⟨w.heap.size + 1, 1, none⟩) (Nat.le_succ _) _
  · rw [hok] at Hc
    obtain ⟨hr, ⟨hb1, hb2⟩, h1, h2⟩ := of_okT hok
    obtain ⟨bad, rfl⟩ : ∃ m : Nat, bad = m := ⟨bad.toNat, by omega⟩
    obtain ⟨h, rfl⟩ : ∃ m : Nat, h = m := ⟨h.toNat, by omega⟩
    rw [(bust_yes hok).1, (bust_yes hok).2]
    have hd := faces_of hr
    generalize face d = f at *
    clear hok hr
    have hh1 : 1 ≤ h := by omega
    have hh2 : h ≤ 10 := by omega
    have hfp : ∀ j, j < 6 → 1 ≤ f j := fun j hj => (hd j hj).2.1
    have hf30 : ∀ j, j < 6 → f j ≤ 30 := fun j hj => (hd j hj).2.2
    have hm := fun w => implTurn_any d f bad h w hd hh2
    unfold dv at hm
    have Hm := Lib.hid hm; clear hm hd
    have Ho := Lib.hid (fun w => outcomesL 10 w (by omega))
    rw [show all6 10 = 60466176 from by decide] at Ho
    have hix : ∀ (w : World), (Instr.index 68 (Big40.tv (zv (st f bad h))) (.int .i64 0)).run Try.prog w = .ok (.int .i64 (st f bad h 0 : Nat)) w := fun w => run_index_vals (P := Try.prog) w 68 3 40 Try.underlying68 Try.underlying3 Try.sizeOf3 (zv (st f bad h)) (show 0 < 40 by omega)
    have hcut : ∀ w, Calls Try.prog 59 #[.int .i64 (st f bad h 0 : Nat), .int .i64 60466176] w fun e w' => e = .returned (v2 (num (st f bad h 0) 60466176 : Nat) (den (st f bad h 0) 60466176 : Nat)) ∧ Below w.heap.size w w' := fun w => FracL.fractionL (st f bad h 0) 60466176 w (by have := st_small f bad hh2 0; omega) (by omega) (by omega)
    rw [(end_cut bad hfp hh1 hh2 0).1, (end_cut bad hfp hh1 hh2 0).2] at hcut
    have Hcut := Lib.hid hcut; clear hcut
    generalize num (outS f bad h h 0) (6 ^ h) = x0 at *
    generalize den (outS f bad h h 0) (6 ^ h) = y0 at *
    generalize zv (st f bad h) = Z at *
    generalize st f bad h 0 = R at *
    unfold dv
    have hB := na (na (n0 w) (sixO d 22)) (.cells #[.int .i64 0, .int .i64 0] 30)
    have hD := (At.new6 w d 22 rfl).past (.cells #[.int .i64 0, .int .i64 0] 30)
    have hRX := At.new2 (w.alloc (sixO d 22)) 30
    rw [size_alloc] at hRX
    obtain ⟨e0, e1, e2, e3, e4, e5⟩ := hD.six
    go_enter Try.func43, Try.ntmps43
    go_wp2_with fail
    refine (Hc.out _).mono ?_
    rintro e w1 ⟨rfl, hb1⟩
    have hD := hD.up hb1
    have hRX := hRX.up hb1
    have hB := nx hB hb1
    clear hb1
    clear e0 e1 e2 e3 e4 e5
    obtain ⟨e0, e1, e2, e3, e4, e5⟩ := hD.six
    go_wp2_with fail
    refine (Hm.out _).mono ?_
    rintro e w2 ⟨rfl, hb2⟩
    have hRX := hRX.up hb2
    have hB := nx hB hb2
    clear hb2
    clear e0 e1 e2 e3 e4 e5
    clear hD
    go_wp2_with fail
    refine (Ho.out _).mono ?_
    rintro e w3 ⟨rfl, hw3⟩
    have hw3 := hw3.symm
    subst hw3
    go_wp2_with fail
    refine (Hcut.out _).mono ?_
    rintro e w4 ⟨rfl, hb4⟩
    have hRX := hRX.up hb4
    have hB := nx hB hb4
    clear hb4
    have c0 := hRX.cell 0 (by omega)
    have c1 := hRX.cell 1 (by omega)
    have z0 := hRX.free 0
    have z1 := hRX.free 1
    go_wp2_with fail
    refine ret_cell_tmp (b := w.heap.size + 1) (n := 2) (f := fr x0 y0) Try.results43 rfl rfl Try.underlying30 (by kernel_rfl) (fin2' hRX _ _) rfl ⟨rfl, ?_⟩
    exact (hB.setCell (p := ⟨w.heap.size + 1, 0, none⟩) (Nat.le_succ _) _).setCell (p := ⟨w.heap.size + 1, 1, none⟩) (Nat.le_succ _) _

set_option maxRecDepth 100000 in
set_option maxHeartbeats 8000000 in
theorem specBustChance_any (d : Nat → Int) (bad h : Int) (w : World) :
    Calls Try.prog 42 #[dv d, .int .i64 bad, .int .i64 h] w fun e w' => e = .returned (.tuple #[v2 (bustx d bad h) (busty d bad h), .bool (okT d bad h)]) ∧ Below w.heap.size w w' := by
  have hc := fun w => l7Turn_any d bad h w
  unfold dv at hc
  have Hc := Lib.hid hc; clear hc
  cases hok : okT d bad h
  · rw [hok] at Hc
    rw [(bust_no hok).1, (bust_no hok).2]
    clear hok
    unfold dv
    have hB := na (na (n0 w) (sixO d 22)) (.cells #[.int .i64 0, .int .i64 0] 30)
    have hD := (At.new6 w d 22 rfl).past (.cells #[.int .i64 0, .int .i64 0] 30)
    have hRX := At.new2 (w.alloc (sixO d 22)) 30
    rw [size_alloc] at hRX
    obtain ⟨e0, e1, e2, e3, e4, e5⟩ := hD.six
    go_enter Try.func42, Try.ntmps42
    go_wp2_with fail
    refine (Hc.out _).mono ?_
    rintro e w1 ⟨rfl, hb1⟩
    have hD := hD.up hb1
    have hRX := hRX.up hb1
    have hB := nx hB hb1
    clear hb1
    clear e0 e1 e2 e3 e4 e5
    have c0 := hRX.cell 0 (by omega)
    have c1 := hRX.cell 1 (by omega)
    have z0 := hRX.free 0
    have z1 := hRX.free 1
    go_wp2_with fail
    refine ret_cell_tmp (b := w.heap.size + 1) (n := 2) (f := fr 0 0) Try.results42 rfl rfl Try.underlying30 (by kernel_rfl) (fin2' hRX _ _) rfl ⟨rfl, ?_⟩
    exact (hB.setCell (p := ⟨w.heap.size + 1, 0, none⟩) (Nat.le_succ _) _).setCell (p := ⟨w.heap.size + 1, 1, none⟩) (Nat.le_succ _) _
  · rw [hok] at Hc
    obtain ⟨hr, ⟨hb1, hb2⟩, h1, h2⟩ := of_okT hok
    obtain ⟨bad, rfl⟩ : ∃ m : Nat, bad = m := ⟨bad.toNat, by omega⟩
    obtain ⟨h, rfl⟩ : ∃ m : Nat, h = m := ⟨h.toNat, by omega⟩
    rw [(bust_yes hok).1, (bust_yes hok).2]
    have hd := faces_of hr
    generalize face d = f at *
    clear hok hr
    have hh1 : 1 ≤ h := by omega
    have hh2 : h ≤ 10 := by omega
    have hfp : ∀ j, j < 6 → 1 ≤ f j := fun j hj => (hd j hj).2.1
    have hf30 : ∀ j, j < 6 → f j ≤ 30 := fun j hj => (hd j hj).2.2
    have hm := fun w => specEnds_any d f bad h w hd hh1 hh2
    unfold dv at hm
    have Hm := Lib.hid hm; clear hm hd
    have Ho := Lib.hid (fun w => l2AllL h w (by omega))
    rw [show all6 h = 6 ^ h from rfl] at Ho
    have hpw := pow_ten hh2
    have hol := out_small (f := f) (bad := bad) hh1 hh2 0
    have hix : ∀ (w : World), (Instr.index 76 (Big41.tv fun t => (outS f bad h h t : Int)) (.int .i64 0)).run Try.prog w = .ok (.int .i64 (outS f bad h h 0 : Nat)) w := fun w => run_index_vals (P := Try.prog) w 76 3 41 Try.underlying76 Try.underlying3 Try.sizeOf3 (fun t => (outS f bad h h t : Int)) (show 0 < 41 by omega)
    have Hcut : Hid (∀ w, Calls Try.prog 55 #[.int .i64 (outS f bad h h 0 : Nat), .int .i64 (6 ^ h : Nat)] w fun e w' => e = .returned (v2 (num (outS f bad h h 0) (6 ^ h) : Nat) (den (outS f bad h h 0) (6 ^ h) : Nat)) ∧ Below w.heap.size w w') := fun w => FracL.cutL _ _ w (by omega) (by omega) hpw.2
    generalize num (outS f bad h h 0) (6 ^ h) = x0 at *
    generalize den (outS f bad h h 0) (6 ^ h) = y0 at *
    generalize (Big41.tv fun t => (outS f bad h h t : Int)) = Z at *
    generalize outS f bad h h 0 = R at *
    generalize 6 ^ h = V at *
    unfold dv
    have hB := na (na (n0 w) (sixO d 22)) (.cells #[.int .i64 0, .int .i64 0] 30)
    have hD := (At.new6 w d 22 rfl).past (.cells #[.int .i64 0, .int .i64 0] 30)
    have hRX := At.new2 (w.alloc (sixO d 22)) 30
    rw [size_alloc] at hRX
    obtain ⟨e0, e1, e2, e3, e4, e5⟩ := hD.six
    go_enter Try.func42, Try.ntmps42
    go_wp2_with fail
    refine (Hc.out _).mono ?_
    rintro e w1 ⟨rfl, hb1⟩
    have hD := hD.up hb1
    have hRX := hRX.up hb1
    have hB := nx hB hb1
    clear hb1
    clear e0 e1 e2 e3 e4 e5
    obtain ⟨e0, e1, e2, e3, e4, e5⟩ := hD.six
    go_wp2_with fail
    refine (Hm.out _).mono ?_
    rintro e w2 ⟨rfl, hb2⟩
    have hRX := hRX.up hb2
    have hB := nx hB hb2
    clear hb2
    clear e0 e1 e2 e3 e4 e5
    clear hD
    go_wp2_with fail
    refine (Ho.out _).mono ?_
    rintro e w3 ⟨rfl, hw3⟩
    have hw3 := hw3.symm
    subst hw3
    go_wp2_with fail
    refine (Hcut.out _).mono ?_
    rintro e w4 ⟨rfl, hb4⟩
    have hRX := hRX.up hb4
    have hB := nx hB hb4
    clear hb4
    have c0 := hRX.cell 0 (by omega)
    have c1 := hRX.cell 1 (by omega)
    have z0 := hRX.free 0
    have z1 := hRX.free 1
    go_wp2_with fail
    refine ret_cell_tmp (b := w.heap.size + 1) (n := 2) (f := fr x0 y0) Try.results42 rfl rfl Try.underlying30 (by kernel_rfl) (fin2' hRX _ _) rfl ⟨rfl, ?_⟩
    exact (hB.setCell (p := ⟨w.heap.size + 1, 0, none⟩) (Nat.le_succ _) _).setCell (p := ⟨w.heap.size + 1, 1, none⟩) (Nat.le_succ _) _


end Holds
end Go.Proofs.Ytcffglnfdnanhaa
