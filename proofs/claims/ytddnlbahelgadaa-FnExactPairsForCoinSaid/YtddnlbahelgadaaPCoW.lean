/-
  PairsForCoin, both sides.
-/
import Derived.Test.YtddnlbahelgadaaRows
import Derived.Test.YtddnlbahelgadaaArr
import Derived.Test.YtddnlbahelgadaaDieW
import Derived.Test.YtddnlbahelgadaaFracW
import Derived.Test.YtddnlbahelgadaaFracL
import Derived.Test.YtddnlbahelgadaaAll6
import Derived.Test.YtddnlbahelgadaaAllL
import Derived.Test.YtddnlbahelgadaaFracM
import Derived.Test.YtddnlbahelgadaaCutW
import Derived.Test.YtddnlbahelgadaaOpenD
import Derived.WalkKit
import Derived.WalkLawsBesides
import Derived.WalkSpells
import Derived.ProofKit
import Derived.OpenShut
import Derived.Deep.RegionWith
import Derived.Deep.QuietTactic
import Derived.BigQuiet
namespace Go.Proofs.Ytddnlbahelgadaa
open Go.ChangeShapes Go.WideShapes Go.ChangeAt Go.RowKit
open Go.ChangeMaps (open_string shut_string)

namespace PCoW
open Dice Arr DieW FracW FracL All6 AllL FracM CutW

theorem fr00 : ∀ k, k < 2 → (fun _ => (0 : Int)) k = fr 0 0 k := fun k hk => by
  obtain rfl | rfl : k = 0 ∨ k = 1 := by omega
  all_goals rfl
def okP (k : Int) : Bool := decide (1 ≤ k ∧ k ≤ 5)
def px (k : Int) : Int := if okP k then (num 36 (2 * k.toNat * (6 - k.toNat)) : Nat) else 0
def py (k : Int) : Int := if okP k then (den 36 (2 * k.toNat * (6 - k.toNat)) : Nat) else 0
theorem p_no {k : Int} (h : okP k = false) : px k = 0 ∧ py k = 0 := by simp [px, py, h]

set_option maxRecDepth 100000 in
set_option maxHeartbeats 4000000 in
theorem specP_any (k : Int) (w : World) :
    Calls Try.prog 39 #[.int .i64 k] w fun e w' => e = .returned (.tuple #[v2 (px k) (py k), .bool (okP k)]) ∧ Below w.heap.size w w' := by
  by_cases h : 1 ≤ k ∧ k ≤ 5
  case neg =>
    have hok : okP k = false := decide_eq_false h
    rw [hok, (p_no hok).1, (p_no hok).2]
    clear hok
    have hin := fun w => l1In_any k 1 5 w
    rw [decide_eq_false h] at hin
    have Hin := Lib.hid hin; clear hin
    clear h
    have hB0 := na (n0 w) (.cells #[.int .i64 0, .int .i64 0] 33)
    have hR0 := At.new2 w 33
    go_enter Try.func39, Try.ntmps39
    go_wp2_with fail
    refine (Hin.out _).mono ?_
    rintro e w1 ⟨rfl, hw⟩
    have hw := hw.symm
    subst hw
    have hRX := hR0
    have c0 := hRX.cell 0 (by omega)
    have c1 := hRX.cell 1 (by omega)
    have z0 := hRX.free 0
    have z1 := hRX.free 1
    go_wp2_with fail
    first
      | (refine ret_cell_tmp (b := w.heap.size) (n := 2) (f := fr 0 0) Try.results39 rfl rfl Try.underlying33 (by kernel_rfl) (fin2' hRX _ _) rfl ⟨rfl, ?_⟩; exact (hB0.setCell (p := ⟨w.heap.size, 0, none⟩) (Nat.le_refl _) _).setCell (p := ⟨w.heap.size, 1, none⟩) (Nat.le_refl _) _)
      | (refine ret_cell_tmp (b := w.heap.size) (n := 2) (f := fr 0 0) Try.results39 rfl rfl Try.underlying33 (by kernel_rfl) (hRX.congr fr00) rfl ⟨rfl, ?_⟩; exact hB0)
  have hok : okP k = true := decide_eq_true h
  obtain ⟨j, hj⟩ : ∃ j : Nat, j = 2 * k.toNat * (6 - k.toNat) := ⟨_, rfl⟩
  have hx : px k = (num 36 j : Nat) ∧ py k = (den 36 j : Nat) := by simp [px, py, hok, hj]
  rw [hok, hx.1, hx.2]
  have hin := fun w => l1In_any k 1 5 w
  rw [decide_eq_true h] at hin
  have Hin := Lib.hid hin; clear hin
  have hj5 : 10 ≤ j ∧ j ≤ 18 ∧ 2 * k * (6 - k) = (j : Int) := by
    subst hj
    obtain ⟨k, rfl⟩ : ∃ a : Nat, k = a := ⟨k.toNat, by omega⟩
    obtain rfl | rfl | rfl | rfl | rfl : k = 1 ∨ k = 2 ∨ k = 3 ∨ k = 4 ∨ k = 5 := by omega
    all_goals decide
  have Hcut : Hid (∀ w, Calls Try.prog 59 #[.int .i64 36, .int .i64 (j : Nat)] w fun e w' => e = .returned (v2 (num 36 j : Nat) (den 36 j : Nat)) ∧ Below w.heap.size w w') := fun w => FracL.cutL 36 j w (by omega) (by omega) (by omega)
  generalize num 36 j = x0 at *
  generalize den 36 j = y0 at *
  have hw1 := wrap_sameL (2 * k) (by omega) (by omega)
  have hw2 := wrap_sameL (6 - k) (by omega) (by omega)
  have hw3 := hj5.2.2
  clear hx hok hj
  have hB0 := na (n0 w) (.cells #[.int .i64 0, .int .i64 0] 33)
  have hR0 := At.new2 w 33
  go_enter Try.func39, Try.ntmps39
  go_wp2_with fail
  refine (Hin.out _).mono ?_
  rintro e w1 ⟨rfl, hw⟩
  have hw := hw.symm
  subst hw
  go_wp2_with fail
  try rw [hw3]
  refine (Hcut.out _).mono ?_
  rintro e w2 ⟨rfl, hb⟩
  have hB1 := nx hB0 hb
  have hR1 := hR0.up hb
  clear hb
  have hRX := hR1
  have c0 := hRX.cell 0 (by omega)
  have c1 := hRX.cell 1 (by omega)
  have z0 := hRX.free 0
  have z1 := hRX.free 1
  go_wp2_with fail
  first
    | (refine ret_cell_tmp (b := w.heap.size) (n := 2) (f := fr x0 y0) Try.results39 rfl rfl Try.underlying33 (by kernel_rfl) (fin2' hRX _ _) rfl ⟨rfl, ?_⟩; exact (hB1.setCell (p := ⟨w.heap.size, 0, none⟩) (Nat.le_refl _) _).setCell (p := ⟨w.heap.size, 1, none⟩) (Nat.le_refl _) _)
    | (refine ret_cell_tmp (b := w.heap.size) (n := 2) (f := fr x0 y0) Try.results39 rfl rfl Try.underlying33 (by kernel_rfl) (hRX.congr fr00) rfl ⟨rfl, ?_⟩; exact hB1)

set_option maxRecDepth 100000 in
set_option maxHeartbeats 4000000 in
theorem implP_any (k : Int) (w : World) :
    Calls Try.prog 40 #[.int .i64 k] w fun e w' => e = .returned (.tuple #[v2 (px k) (py k), .bool (okP k)]) ∧ Below w.heap.size w w' := by
  by_cases h : 1 ≤ k ∧ k ≤ 5
  case neg =>
    have hok : okP k = false := decide_eq_false h
    rw [hok, (p_no hok).1, (p_no hok).2]
    clear hok
    by_cases hlo : k < 1
    · have d1 : decide (k < 1) = true := decide_eq_true (by omega)
      clear h hlo
      have hB0 := na (n0 w) (.cells #[.int .i64 0, .int .i64 0] 33)
      have hR0 := At.new2 w 33
      go_enter Try.func40, Try.ntmps40
      have hRX := hR0
      have c0 := hRX.cell 0 (by omega)
      have c1 := hRX.cell 1 (by omega)
      have z0 := hRX.free 0
      have z1 := hRX.free 1
      go_wp2_with fail
      first
        | (refine ret_cell_tmp (b := w.heap.size) (n := 2) (f := fr 0 0) Try.results40 rfl rfl Try.underlying33 (by kernel_rfl) (fin2' hRX _ _) rfl ⟨rfl, ?_⟩; exact (hB0.setCell (p := ⟨w.heap.size, 0, none⟩) (Nat.le_refl _) _).setCell (p := ⟨w.heap.size, 1, none⟩) (Nat.le_refl _) _)
        | (refine ret_cell_tmp (b := w.heap.size) (n := 2) (f := fr 0 0) Try.results40 rfl rfl Try.underlying33 (by kernel_rfl) (hRX.congr fr00) rfl ⟨rfl, ?_⟩; exact hB0)
    have d1 : decide (k < 1) = false := decide_eq_false (by omega)
    have d2 : decide (5 < k) = true := decide_eq_true (by omega)
    clear h hlo
    have hB0 := na (n0 w) (.cells #[.int .i64 0, .int .i64 0] 33)
    have hR0 := At.new2 w 33
    go_enter Try.func40, Try.ntmps40
    have hRX := hR0
    have c0 := hRX.cell 0 (by omega)
    have c1 := hRX.cell 1 (by omega)
    have z0 := hRX.free 0
    have z1 := hRX.free 1
    go_wp2_with fail
    first
      | (refine ret_cell_tmp (b := w.heap.size) (n := 2) (f := fr 0 0) Try.results40 rfl rfl Try.underlying33 (by kernel_rfl) (fin2' hRX _ _) rfl ⟨rfl, ?_⟩; exact (hB0.setCell (p := ⟨w.heap.size, 0, none⟩) (Nat.le_refl _) _).setCell (p := ⟨w.heap.size, 1, none⟩) (Nat.le_refl _) _)
      | (refine ret_cell_tmp (b := w.heap.size) (n := 2) (f := fr 0 0) Try.results40 rfl rfl Try.underlying33 (by kernel_rfl) (hRX.congr fr00) rfl ⟨rfl, ?_⟩; exact hB0)
  have hok : okP k = true := decide_eq_true h
  obtain ⟨j, hj⟩ : ∃ j : Nat, j = 2 * k.toNat * (6 - k.toNat) := ⟨_, rfl⟩
  have hx : px k = (num 36 j : Nat) ∧ py k = (den 36 j : Nat) := by simp [px, py, hok, hj]
  rw [hok, hx.1, hx.2]
  have d1 : decide (k < 1) = false := decide_eq_false (by omega)
  have d2 : decide (5 < k) = false := decide_eq_false (by omega)
  have hall := fun w => outcomesL 2 w (by omega)
  rw [show all6 2 = 36 from rfl] at hall
  have Hall := Lib.hid hall; clear hall
  have hj5 : 10 ≤ j ∧ j ≤ 18 ∧ 2 * k * (6 - k) = (j : Int) := by
    subst hj
    obtain ⟨k, rfl⟩ : ∃ a : Nat, k = a := ⟨k.toNat, by omega⟩
    obtain rfl | rfl | rfl | rfl | rfl : k = 1 ∨ k = 2 ∨ k = 3 ∨ k = 4 ∨ k = 5 := by omega
    all_goals decide
  have Hcut : Hid (∀ w, Calls Try.prog 61 #[.int .i64 ((36 : Nat) : Int), .int .i64 (j : Nat)] w fun e w' => e = .returned (v2 (num 36 j : Nat) (den 36 j : Nat)) ∧ Below w.heap.size w w') := fun w => FracL.fractionL 36 j w (by omega) (by omega) (by omega)
  generalize num 36 j = x0 at *
  generalize den 36 j = y0 at *
  have hw1 := wrap_sameL (2 * k) (by omega) (by omega)
  have hw2 := wrap_sameL (6 - k) (by omega) (by omega)
  have hw3 := hj5.2.2
  clear hx hok hj
  have hB0 := na (n0 w) (.cells #[.int .i64 0, .int .i64 0] 33)
  have hR0 := At.new2 w 33
  go_enter Try.func40, Try.ntmps40
  go_wp2_with fail
  refine (Hall.out _).mono ?_
  rintro e w1 ⟨rfl, hw⟩
  have hw := hw.symm
  subst hw
  go_wp2_with fail
  try rw [hw3]
  refine (Hcut.out _).mono ?_
  rintro e w2 ⟨rfl, hb⟩
  have hB1 := nx hB0 hb
  have hR1 := hR0.up hb
  clear hb
  have hRX := hR1
  have c0 := hRX.cell 0 (by omega)
  have c1 := hRX.cell 1 (by omega)
  have z0 := hRX.free 0
  have z1 := hRX.free 1
  go_wp2_with fail
  first
    | (refine ret_cell_tmp (b := w.heap.size) (n := 2) (f := fr x0 y0) Try.results40 rfl rfl Try.underlying33 (by kernel_rfl) (fin2' hRX _ _) rfl ⟨rfl, ?_⟩; exact (hB1.setCell (p := ⟨w.heap.size, 0, none⟩) (Nat.le_refl _) _).setCell (p := ⟨w.heap.size, 1, none⟩) (Nat.le_refl _) _)
    | (refine ret_cell_tmp (b := w.heap.size) (n := 2) (f := fr x0 y0) Try.results40 rfl rfl Try.underlying33 (by kernel_rfl) (hRX.congr fr00) rfl ⟨rfl, ?_⟩; exact hB1)


end PCoW
end Go.Proofs.Ytddnlbahelgadaa
