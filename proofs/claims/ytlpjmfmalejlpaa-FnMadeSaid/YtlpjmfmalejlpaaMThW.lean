/-
  MeanThrows, both sides.
-/
import Derived.Test.YtlpjmfmalejlpaaRows
import Derived.Test.YtlpjmfmalejlpaaArr
import Derived.Test.YtlpjmfmalejlpaaDieW
import Derived.Test.YtlpjmfmalejlpaaFracW
import Derived.Test.YtlpjmfmalejlpaaFracL
import Derived.Test.YtlpjmfmalejlpaaAll6
import Derived.Test.YtlpjmfmalejlpaaAllL
import Derived.Test.YtlpjmfmalejlpaaFracM
import Derived.Test.YtlpjmfmalejlpaaCutW
import Derived.Test.YtlpjmfmalejlpaaMadW
import Derived.Test.YtlpjmfmalejlpaaOpenD
import Derived.WalkKit
import Derived.WalkLawsBesides
import Derived.WalkSpells
import Derived.ProofKit
import Derived.OpenShut
import Derived.Deep.RegionWith
import Derived.Deep.QuietTactic
import Derived.BigQuiet
namespace Go.Proofs.Ytlpjmfmalejlpaa
open Go.ChangeShapes Go.WideShapes Go.ChangeAt Go.RowKit
open Go.ChangeMaps (open_string shut_string)

namespace MThW
open Dice Arr DieW FracW FracL All6 AllL FracM CutW MadW

theorem fr00 : ∀ k, k < 2 → (fun _ => (0 : Int)) k = fr 0 0 k := fun k hk => by
  obtain rfl | rfl : k = 0 ∨ k = 1 := by omega
  all_goals rfl
def mx (m n : Int) : Nat := if okT m n then num (n.toNat * all6 n.toNat) (tk m.toNat n.toNat) else 0
def my (m n : Int) : Nat := if okT m n then den (n.toNat * all6 n.toNat) (tk m.toNat n.toNat) else 0
theorem m_no {m n : Int} (h : okT m n = false) : mx m n = 0 ∧ my m n = 0 := by simp [mx, my, h]
theorem m_yes {m n : Nat} (h : okT m n = true) : mx m n = num (n * all6 n) (tk m n) ∧ my m n = den (n * all6 n) (tk m n) := by simp [mx, my, h]
theorem m_le (m n : Int) : mx m n ≤ 279936 ∧ my m n ≤ 46656 := by
  cases h : okT m n
  · rw [(m_no h).1, (m_no h).2]
    omega
  · obtain ⟨a, b, rfl, rfl, h1, h2, h3, h4, h5⟩ := of_okT h
    rw [(m_yes h).1, (m_yes h).2]
    have i1 := num_le (b * all6 b) (tk a b)
    have i2 := den_le (b * all6 b) (tk a b)
    have i3 := tk_le a b
    have i4 := all6_six h4
    have i5 : b * all6 b ≤ 6 * 46656 := Nat.mul_le_mul h4 i4
    omega

set_option maxRecDepth 100000 in
set_option maxHeartbeats 4000000 in
theorem specM_any (m n : Int) (w : World) :
    Calls Try.prog 15 #[.int .i64 m, .int .i64 n] w fun e w' => e = .returned (.tuple #[v2 (mx m n : Nat) (my m n : Nat), .bool (okT m n)]) ∧ Below w.heap.size w w' := by
  have hg := fun w => good_any m n w
  cases hok : okT m n
  · rw [hok] at hg
    have Hg := Lib.hid hg; clear hg
    rw [(m_no hok).1, (m_no hok).2]
    clear hok
    have hB0 := na (n0 w) (.cells #[.int .i64 0, .int .i64 0] 35)
    have hR0 := At.new2 w 35
    go_enter Try.func15, Try.ntmps15
    go_wp2_with fail
    refine (Hg.out _).mono ?_
    rintro e w1 ⟨rfl, hw⟩
    have hw := hw.symm
    subst hw
    have hRX := hR0
    have c0 := hRX.cell 0 (by omega)
    have c1 := hRX.cell 1 (by omega)
    have z0 := hRX.free 0
    have z1 := hRX.free 1
    go_wp2_with fail
    first
      | (refine ret_cell_tmp (b := w.heap.size) (n := 2) (f := fr 0 0) Try.results15 rfl rfl Try.underlying35 (by kernel_rfl) (fin2' hRX _ _) rfl ⟨rfl, ?_⟩; exact (hB0.setCell (p := ⟨w.heap.size, 0, none⟩) (Nat.le_refl _) _).setCell (p := ⟨w.heap.size, 1, none⟩) (Nat.le_refl _) _)
      | (refine ret_cell_tmp (b := w.heap.size) (n := 2) (f := fr 0 0) Try.results15 rfl rfl Try.underlying35 (by kernel_rfl) (hRX.congr fr00) rfl ⟨rfl, ?_⟩; exact hB0)
  rw [hok] at hg
  obtain ⟨m, n, rfl, rfl, h1, h2, h3, h4, h5⟩ := of_okT hok
  rw [(m_yes hok).1, (m_yes hok).2]
  skip
  have h6 := all6_six h4
  have hm6 : n * all6 n ≤ 6 * 46656 := Nat.mul_le_mul h4 h6
  have hall := fun w => l2AllL n w (by omega)
  have Ht := Lib.hid (fun w => taken_any m n w h1 h4)
  have tp := tk_pos h1 h5
  have tl := tk_le m n
  have hcut : ∀ w, Calls Try.prog 38 #[.int .i64 (n * all6 n : Nat), .int .i64 (tk m n : Nat)] w fun e w' => e = .returned (v2 (num (n * all6 n) (tk m n) : Nat) (den (n * all6 n) (tk m n) : Nat)) ∧ Below w.heap.size w w' := fun w => FracL.cutL _ _ w (by omega) (by omega) tp
  generalize num (n * all6 n) (tk m n) = x0 at *
  generalize den (n * all6 n) (tk m n) = y0 at *
  have hmul : (n : Int) * ((all6 n : Nat) : Int) = ((n * all6 n : Nat) : Int) := by push_cast; rfl
  generalize n * all6 n = N at *
  generalize all6 n = s at *
  generalize tk m n = r at *
  have Hall := Lib.hid hall; clear hall
  have Hcut := Lib.hid hcut; clear hcut hok
  have Hg := Lib.hid hg; clear hg
  have hB0 := na (n0 w) (.cells #[.int .i64 0, .int .i64 0] 35)
  have hR0 := At.new2 w 35
  go_enter Try.func15, Try.ntmps15
  go_wp2_with fail
  refine (Hg.out _).mono ?_
  rintro e w1 ⟨rfl, hw⟩
  have hw := hw.symm
  subst hw
  go_wp2_with fail
  refine (Hall.out _).mono ?_
  rintro e w2 ⟨rfl, hw⟩
  have hw := hw.symm
  subst hw
  go_wp2_with fail
  refine (Ht.out _).mono ?_
  rintro e w3 ⟨rfl, hw⟩
  have hw := hw.symm
  subst hw
  go_wp2_with fail
  refine (Hcut.out _).mono ?_
  rintro e w4 ⟨rfl, hb⟩
  have hB1 := nx hB0 hb
  have hR1 := hR0.up hb
  clear hb
  have hRX := hR1
  have c0 := hRX.cell 0 (by omega)
  have c1 := hRX.cell 1 (by omega)
  have z0 := hRX.free 0
  have z1 := hRX.free 1
  go_wp2_with fail
  first
    | (refine ret_cell_tmp (b := w.heap.size) (n := 2) (f := fr x0 y0) Try.results15 rfl rfl Try.underlying35 (by kernel_rfl) (fin2' hRX _ _) rfl ⟨rfl, ?_⟩; exact (hB1.setCell (p := ⟨w.heap.size, 0, none⟩) (Nat.le_refl _) _).setCell (p := ⟨w.heap.size, 1, none⟩) (Nat.le_refl _) _)
    | (refine ret_cell_tmp (b := w.heap.size) (n := 2) (f := fr x0 y0) Try.results15 rfl rfl Try.underlying35 (by kernel_rfl) (hRX.congr fr00) rfl ⟨rfl, ?_⟩; exact hB1)

set_option maxRecDepth 100000 in
set_option maxHeartbeats 4000000 in
theorem implM_any (m n : Int) (w : World) :
    Calls Try.prog 14 #[.int .i64 m, .int .i64 n] w fun e w' => e = .returned (.tuple #[v2 (mx m n : Nat) (my m n : Nat), .bool (okT m n)]) ∧ Below w.heap.size w w' := by
  have hg := fun w => implT_any m n w
  cases hok : okT m n
  · rw [hok] at hg
    rw [tT_no hok] at hg
    have Hg := Lib.hid hg; clear hg
    rw [(m_no hok).1, (m_no hok).2]
    clear hok
    have hB0 := na (n0 w) (.cells #[.int .i64 0, .int .i64 0] 35)
    have hR0 := At.new2 w 35
    go_enter Try.func14, Try.ntmps14
    go_wp2_with fail
    refine (Hg.out _).mono ?_
    rintro e w1 ⟨rfl, hw⟩
    have hw := hw.symm
    subst hw
    have hRX := hR0
    have c0 := hRX.cell 0 (by omega)
    have c1 := hRX.cell 1 (by omega)
    have z0 := hRX.free 0
    have z1 := hRX.free 1
    go_wp2_with fail
    first
      | (refine ret_cell_tmp (b := w.heap.size) (n := 2) (f := fr 0 0) Try.results14 rfl rfl Try.underlying35 (by kernel_rfl) (fin2' hRX _ _) rfl ⟨rfl, ?_⟩; exact (hB0.setCell (p := ⟨w.heap.size, 0, none⟩) (Nat.le_refl _) _).setCell (p := ⟨w.heap.size, 1, none⟩) (Nat.le_refl _) _)
      | (refine ret_cell_tmp (b := w.heap.size) (n := 2) (f := fr 0 0) Try.results14 rfl rfl Try.underlying35 (by kernel_rfl) (hRX.congr fr00) rfl ⟨rfl, ?_⟩; exact hB0)
  rw [hok] at hg
  obtain ⟨m, n, rfl, rfl, h1, h2, h3, h4, h5⟩ := of_okT hok
  rw [(m_yes hok).1, (m_yes hok).2]
  rw [tT_yes hok] at hg
  have h6 := all6_six h4
  have hm6 : n * all6 n ≤ 6 * 46656 := Nat.mul_le_mul h4 h6
  have hall := fun w => outcomesL n w (by omega)
  skip
  have tp := tk_pos h1 h5
  have tl := tk_le m n
  have hcut : ∀ w, Calls Try.prog 37 #[.int .i64 (n * all6 n : Nat), .int .i64 (tk m n : Nat)] w fun e w' => e = .returned (v2 (num (n * all6 n) (tk m n) : Nat) (den (n * all6 n) (tk m n) : Nat)) ∧ Below w.heap.size w w' := fun w => FracL.fractionL _ _ w (by omega) (by omega) tp
  generalize num (n * all6 n) (tk m n) = x0 at *
  generalize den (n * all6 n) (tk m n) = y0 at *
  have hmul : (n : Int) * ((all6 n : Nat) : Int) = ((n * all6 n : Nat) : Int) := by push_cast; rfl
  generalize n * all6 n = N at *
  generalize all6 n = s at *
  generalize tk m n = r at *
  have Hall := Lib.hid hall; clear hall
  have Hcut := Lib.hid hcut; clear hcut hok
  have Hg := Lib.hid hg; clear hg
  have hB0 := na (n0 w) (.cells #[.int .i64 0, .int .i64 0] 35)
  have hR0 := At.new2 w 35
  go_enter Try.func14, Try.ntmps14
  go_wp2_with fail
  refine (Hg.out _).mono ?_
  rintro e w1 ⟨rfl, hw⟩
  have hw := hw.symm
  subst hw
  go_wp2_with fail
  refine (Hall.out _).mono ?_
  rintro e w2 ⟨rfl, hw⟩
  have hw := hw.symm
  subst hw
  go_wp2_with fail
  refine (Hcut.out _).mono ?_
  rintro e w4 ⟨rfl, hb⟩
  have hB1 := nx hB0 hb
  have hR1 := hR0.up hb
  clear hb
  have hRX := hR1
  have c0 := hRX.cell 0 (by omega)
  have c1 := hRX.cell 1 (by omega)
  have z0 := hRX.free 0
  have z1 := hRX.free 1
  go_wp2_with fail
  first
    | (refine ret_cell_tmp (b := w.heap.size) (n := 2) (f := fr x0 y0) Try.results14 rfl rfl Try.underlying35 (by kernel_rfl) (fin2' hRX _ _) rfl ⟨rfl, ?_⟩; exact (hB1.setCell (p := ⟨w.heap.size, 0, none⟩) (Nat.le_refl _) _).setCell (p := ⟨w.heap.size, 1, none⟩) (Nat.le_refl _) _)
    | (refine ret_cell_tmp (b := w.heap.size) (n := 2) (f := fr x0 y0) Try.results14 rfl rfl Try.underlying35 (by kernel_rfl) (hRX.congr fr00) rfl ⟨rfl, ?_⟩; exact hB1)


end MThW
end Go.Proofs.Ytlpjmfmalejlpaa
