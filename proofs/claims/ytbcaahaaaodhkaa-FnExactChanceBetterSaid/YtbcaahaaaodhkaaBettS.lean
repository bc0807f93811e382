/-
  ChanceBetter, by the model.
-/
import Derived.Test.YtbcaahaaaodhkaaRows
import Derived.Test.YtbcaahaaaodhkaaWaysC
import Derived.Test.YtbcaahaaaodhkaaPatV
import Derived.Test.YtbcaahaaaodhkaaPatC
import Derived.Test.YtbcaahaaaodhkaaRollR
import Derived.Test.YtbcaahaaaodhkaaFracW
import Derived.Test.YtbcaahaaaodhkaaCutW
import Derived.Test.YtbcaahaaaodhkaaPatsI
import Derived.Test.YtbcaahaaaodhkaaPatS
import Derived.Test.YtbcaahaaaodhkaaPlS
import Derived.Test.YtbcaahaaaodhkaaPatI
import Derived.Test.YtbcaahaaaodhkaaPlI
import Derived.Test.YtbcaahaaaodhkaaFour
import Derived.Test.YtbcaahaaaodhkaaPatM
import Derived.Test.YtbcaahaaaodhkaaSortDn
import Derived.Test.YtbcaahaaaodhkaaPlaces
import Derived.Test.YtbcaahaaaodhkaaRollWM
import Derived.Test.YtbcaahaaaodhkaaIntsM
import Derived.Test.YtbcaahaaaodhkaaPoolW
import Derived.Test.YtbcaahaaaodhkaaAll6
import Derived.Test.YtbcaahaaaodhkaaDicesW
import Derived.Test.YtbcaahaaaodhkaaOpenD
import Derived.WalkKit
import Derived.WalkLawsBesides
import Derived.WalkSpells
import Derived.ProofKit
import Derived.OpenShut
import Derived.Deep.RegionWith
import Derived.Deep.QuietTactic
import Derived.BigQuiet
namespace Go.Proofs.Ytbcaahaaaodhkaa
open Go.ChangeShapes Go.WideShapes Go.ChangeAt Go.RowKit
open Go.ChangeMaps (open_string shut_string)

namespace BettS
open Dice Arr OpenD DieW SortW DicesW PoolW All6 IntsW RollW Places PatM SortDn PlI Four PatI PatsI PlS PatS PatV PatC WaysC FracW CutW

set_option maxRecDepth 20000 in
set_option maxHeartbeats 4000000 in
theorem specB_any (A : Option Addr) (n c : Nat) (P : Nat → Nat → Int) (g : Nat → Int) (w : World) (h : Row w A n P) (hn : n ≤ maxLen) (hn2 : n ≤ 1048576) :
    Calls Try.prog 16 #[.slice A n c, v4 g] w fun e w' => e = .returned (.tuple (if isPool n P && valid n g then #[cutV (wN (isB P n g) (all6 n)) (all6 n), .bool true] else #[v2 0 0, .bool false])) ∧ Below w.heap.size w w' := by
  have hp := fun w h => l2Pool_any A n c P w h hn
  have hX := (At.new4 w g 23 rfl).past (.cells #[.int .i64 0, .int .i64 0] 31)
  have hR := At.new2 (w.alloc (fourO g 23)) 31
  rw [size_alloc] at hR
  have hB := na (na (n0 w) (fourO g 23)) (.cells #[.int .i64 0, .int .i64 0] 31)
  have H := Lib.hid h; clear h
  cases hq : isPool n P
  · rw [hq] at hp
    simp only [Bool.false_and, Bool.false_eq_true, ↓reduceIte]
    have Hp := Lib.hid hp; clear hp hq
    obtain ⟨x0, x1, x2, x3⟩ := At.four hX
    go_enter Try.func16, Try.ntmps16
    go_wp2_with fail
    refine (Hp.out _ (H.out.up hB)).mono ?_
    rintro e w1 ⟨rfl, hb⟩
    have hbl := nx hB hb
    have hA := hR.up hb
    have c0 := hA.cell 0 (by omega)
    have c1 := hA.cell 1 (by omega)
    have z0 := hA.free 0
    have z1 := hA.free 1
    go_wp2_with fail
    refine ret_cell_tmp (b := w.heap.size + 1) (n := 2) (f := fr 0 0) Try.results16 rfl rfl Try.underlying31 (by kernel_rfl) (fin2' hA 0 0) rfl ⟨rfl, ?_⟩
    exact (hbl.setCell (p := ⟨w.heap.size + 1, 0, none⟩) (by show w.heap.size ≤ w.heap.size + 1; omega) _).setCell (p := ⟨w.heap.size + 1, 1, none⟩) (by show w.heap.size ≤ w.heap.size + 1; omega) _
  rw [hq] at hp
  rw [Bool.true_and]
  have Hp := Lib.hid hp; clear hp
  have h4 := (of_pool hq).2.1
  clear hq
  have Hv := Lib.hid (fun w => l4Valid_any n g w hn2)
  cases hv : valid n g
  · rw [hv] at Hv
    simp only [Bool.false_eq_true, ↓reduceIte]
    clear hv
    go_enter Try.func16, Try.ntmps16
    go_wp2_with fail
    refine (Hp.out _ (H.out.up hB)).mono ?_
    rintro e w1 ⟨rfl, hb⟩
    have hbl := nx hB hb
    have hX := hX.up hb
    have hA := hR.up hb
    obtain ⟨x0, x1, x2, x3⟩ := At.four hX
    go_wp2_with fail
    refine (Hv.out _).mono ?_
    rintro e w2 ⟨rfl, hb⟩
    have hbl := nx hbl hb
    have hA := hA.up hb
    have c0 := hA.cell 0 (by omega)
    have c1 := hA.cell 1 (by omega)
    have z0 := hA.free 0
    have z1 := hA.free 1
    go_wp2_with fail
    refine ret_cell_tmp (b := w.heap.size + 1) (n := 2) (f := fr 0 0) Try.results16 rfl rfl Try.underlying31 (by kernel_rfl) (fin2' hA 0 0) rfl ⟨rfl, ?_⟩
    exact (hbl.setCell (p := ⟨w.heap.size + 1, 0, none⟩) (by show w.heap.size ≤ w.heap.size + 1; omega) _).setCell (p := ⟨w.heap.size + 1, 1, none⟩) (by show w.heap.size ≤ w.heap.size + 1; omega) _
  rw [hv] at Hv
  clear hv
  simp only [↓reduceIte]
  have h6 := all6_le h4
  have Hrl := Lib.hid (fun i w h hi => l2Roll_any A n c i P w h h4 hi)
  have Ho := Lib.hid (fun w => l2All_any n w h4)
  have hok : ∀ i, isB P n g i = bef g (pat (rollF P i n) n) := fun i => rfl
  have hle := wN_le (isB P n g)
  have Hy := Lib.hid (fun i => @wN_yes (isB P n g) i)
  have Hn := Lib.hid (fun i => @wN_no (isB P n g) i)
  have hf := fun w => cut_any (wN (isB P n g) (all6 n)) (all6 n) w (by have := hle (all6 n); omega) (by omega) (by omega)
  obtain ⟨ww, hww⟩ : ∃ ww, ww = wN (isB P n g) := ⟨_, rfl⟩
  rw [← hww] at hle Hy Hn hf ⊢
  have hw0 : ww 0 = 0 := by rw [hww]; rfl
  clear hww
  generalize isB P n g = ok at *
  unfold cutV
  obtain ⟨m, hm⟩ : ∃ m, ww (all6 n) = m := ⟨_, rfl⟩
  rw [hm] at hf ⊢
  have Hf := Lib.hid hf; clear hf
  have Hmm := Lib.hid hm; clear hm
  have Hok := Lib.hid hok; clear hok
  generalize all6 n = N6 at *
  go_enter Try.func16, Try.ntmps16
  go_wp2_with fail
  refine (Hp.out _ (H.out.up hB)).mono ?_
  rintro e w1 ⟨rfl, hb⟩
  have hbl := nx hB hb
  have hX := hX.up hb
  have hA := hR.up hb
  obtain ⟨x0, x1, x2, x3⟩ := At.four hX
  go_wp2_with fail
  refine (Hv.out _).mono ?_
  rintro e w2 ⟨rfl, hb⟩
  have hbl := nx hbl hb
  have hX := hX.up hb
  have hA := hA.up hb
  clear hb x0 x1 x2 x3 hB
  go_wp2_with fail
  go_loopw [6, 7] (fun av iv wr => ∃ i : Nat, i ≤ N6 ∧ iv = .int .i64 i ∧ av = .int .i64 (ww i : Nat) ∧ Below w.heap.size w wr ∧ At wr w.heap.size 4 g ∧ At wr (w.heap.size + 1) 2 (fun _ => 0)) (fun _ iv _ => N6 - (intOf iv).toNat)
  case atStart => exact ⟨0, by omega, rfl, by rw [hw0]; rfl, hbl, hX, hA⟩
  case round =>
    clear hbl hX hA
    obtain ⟨i, hi, rfl, rfl, hbl, hX, hA⟩ := hrel
    by_cases hlt : i < N6
    · have hit : decide ((i : Int) < (N6 : Int)) = true := decide_eq_true (by omega)
      have Hri := Lib.hid (fun w h => Hrl.out i w h (by omega))
      have hpat := fun b c w h => l4Pattern_any b n c (rollF P i n) w h h4
      have hoki := Hok.out i
      have hlei := hle i
      have hyi := Hy.out i
      have hni := Hn.out i
      generalize pat (rollF P i n) n = r at *
      generalize rollF P i n = f at *
      have Hpat := Lib.hid hpat; clear hpat
      obtain ⟨x0, x1, x2, x3⟩ := At.four hX
      have hl := fun w => l4Less_any g r w
      rw [← hoki] at hl
      have Hl := Lib.hid hl; clear hl
      cases hbo : ok i
      · rw [hbo] at Hl
        have He := Lib.hid (hni hbo)
        generalize ww i = a at *
        go_wp2_with fail
        refine (Ho.out _).mono ?_
        rintro e w5 ⟨rfl, hw5⟩
        have hw5 := hw5.symm
        subst hw5
        go_wp2_with fail
        go_region_with (first
          | (go_at_call 56; refine (Hri.out _ (H.out.below (Nat.le_refl _) hbl.drew)).mono ?_; rintro e w6 ⟨g6, rfl, hg6, hG6, hb6⟩; have hbl6 := nx hbl.drew hb6; have hX6 := hX.drew.up hb6; have hA6 := hA.drew.up hb6; obtain ⟨a0, a1, a2, a3⟩ := At.four hX6)
          | (go_at_call 55; refine (Hpat.out _ _ _ hG6).mono ?_; rintro e w7 ⟨rfl, hb7⟩; have hbl7 := nx hbl6 hb7; have hX7 := hX6.up hb7; have hA7 := hA6.up hb7; obtain ⟨b0, b1, b2, b3⟩ := At.four hX7)
          | (go_at_call 61; refine (Hl.out _).mono ?_; rintro e w8 ⟨rfl, hb8⟩; have hbl8 := nx hbl7 hb8; have hX8 := hX7.up hb8; have hA8 := hA7.up hb8; skip))
        all_goals
          go_wp2_with fail
          go_roundw
          case rel => exact ⟨i + 1, by omega, by go_num, by rw [He.out], hbl8, hX8, hA8⟩
          case measure => simp [intOf]; omega
      · rw [hbo] at Hl
        have He := Lib.hid (hyi hbo)
        generalize ww i = a at *
        go_wp2_with fail
        refine (Ho.out _).mono ?_
        rintro e w5 ⟨rfl, hw5⟩
        have hw5 := hw5.symm
        subst hw5
        go_wp2_with fail
        go_region_with (first
          | (go_at_call 56; refine (Hri.out _ (H.out.below (Nat.le_refl _) hbl.drew)).mono ?_; rintro e w6 ⟨g6, rfl, hg6, hG6, hb6⟩; have hbl6 := nx hbl.drew hb6; have hX6 := hX.drew.up hb6; have hA6 := hA.drew.up hb6; obtain ⟨a0, a1, a2, a3⟩ := At.four hX6)
          | (go_at_call 55; refine (Hpat.out _ _ _ hG6).mono ?_; rintro e w7 ⟨rfl, hb7⟩; have hbl7 := nx hbl6 hb7; have hX7 := hX6.up hb7; have hA7 := hA6.up hb7; obtain ⟨b0, b1, b2, b3⟩ := At.four hX7)
          | (go_at_call 61; refine (Hl.out _).mono ?_; rintro e w8 ⟨rfl, hb8⟩; have hbl8 := nx hbl7 hb8; have hX8 := hX7.up hb8; have hA8 := hA7.up hb8; skip))
        all_goals
          go_wp2_with fail
          go_roundw
          case rel => exact ⟨i + 1, by omega, by go_num, by rw [He.out]; go_num, hbl8, hX8, hA8⟩
          case measure => simp [intOf]; omega
    · obtain rfl : i = N6 := by omega
      have hit : decide ((i : Int) < (i : Int)) = false := decide_eq_false (by omega)
      go_wp2_with fail
      refine (Ho.out _).mono ?_
      rintro e w5 ⟨rfl, hw5⟩
      have hw5 := hw5.symm
      subst hw5
      rw [Hmm.out]
      go_wp2_with fail
      refine (Ho.out _).mono ?_
      rintro e w5 ⟨rfl, hw5⟩
      have hw5 := hw5.symm
      subst hw5
      go_wp2_with fail
      refine (Hf.out _).mono ?_
      rintro e w3 ⟨rfl, hb3⟩
      have hbl := nx hbl hb3
      have hA := hA.up hb3
      clear hb3
      have c0 := hA.cell 0 (by omega)
      have c1 := hA.cell 1 (by omega)
      have z0 := hA.free 0
      have z1 := hA.free 1
      go_wp2_with fail
      refine ret_cell_tmp (b := w.heap.size + 1) (n := 2) (f := fr ((m : Int) / (Nat.gcd m i : Nat)) ((i : Int) / (Nat.gcd m i : Nat))) Try.results16 rfl rfl Try.underlying31 (by kernel_rfl) (fin2' hA ((m : Int) / (Nat.gcd m i : Nat)) ((i : Int) / (Nat.gcd m i : Nat))) rfl ⟨rfl, ?_⟩
      exact (hbl.setCell (p := ⟨w.heap.size + 1, 0, none⟩) (by show w.heap.size ≤ w.heap.size + 1; omega) _).setCell (p := ⟨w.heap.size + 1, 1, none⟩) (by show w.heap.size ≤ w.heap.size + 1; omega) _


end BettS
end Go.Proofs.Ytbcaahaaaodhkaa
