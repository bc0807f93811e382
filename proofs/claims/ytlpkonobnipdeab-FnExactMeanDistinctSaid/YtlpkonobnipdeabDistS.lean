/-
  MeanDistinct, by the model.
-/
import Derived.Test.YtlpkonobnipdeabRows
import Derived.Test.YtlpkonobnipdeabDistI
import Derived.Test.YtlpkonobnipdeabPatsI
import Derived.Test.YtlpkonobnipdeabMeanI
import Derived.Test.YtlpkonobnipdeabRollR
import Derived.Test.YtlpkonobnipdeabFiveB
import Derived.Test.YtlpkonobnipdeabFracW
import Derived.Test.YtlpkonobnipdeabCutW
import Derived.Test.YtlpkonobnipdeabPatS
import Derived.Test.YtlpkonobnipdeabPlS
import Derived.Test.YtlpkonobnipdeabPatI
import Derived.Test.YtlpkonobnipdeabPlI
import Derived.Test.YtlpkonobnipdeabFour
import Derived.Test.YtlpkonobnipdeabPatM
import Derived.Test.YtlpkonobnipdeabSortDn
import Derived.Test.YtlpkonobnipdeabPlaces
import Derived.Test.YtlpkonobnipdeabRollWM
import Derived.Test.YtlpkonobnipdeabIntsM
import Derived.Test.YtlpkonobnipdeabPoolW
import Derived.Test.YtlpkonobnipdeabAll6
import Derived.Test.YtlpkonobnipdeabDicesW
import Derived.Test.YtlpkonobnipdeabOpenD
import Derived.WalkKit
import Derived.WalkLawsBesides
import Derived.WalkSpells
import Derived.ProofKit
import Derived.OpenShut
import Derived.Deep.RegionWith
import Derived.Deep.QuietTactic
import Derived.BigQuiet
namespace Go.Proofs.Ytlpkonobnipdeab
open Go.ChangeShapes Go.WideShapes Go.ChangeAt Go.RowKit
open Go.ChangeMaps (open_string shut_string)

namespace DistS
open Dice Arr OpenD DieW SortW DicesW PoolW All6 IntsW RollW Places PatM SortDn PlI Four PatI FracW CutW Five RollR MeanI PatsI PlS PatS DistI


set_option maxRecDepth 20000 in
set_option maxHeartbeats 4000000 in
theorem specDist_any (A : Option Addr) (n c : Nat) (P : Nat → Nat → Int) (w : World) (h : Row w A n P) (hn : n ≤ maxLen) :
    Calls Try.prog 24 #[.slice A n c] w fun e w' => e = .returned (.tuple (if isPool n P then #[cutV (dsum P n (all6 n)) (all6 n), .bool true] else #[v2 0 0, .bool false])) ∧ Below w.heap.size w w' := by
  have hp := fun w h => l2Pool_any A n c P w h hn
  have hR := At.new2 w 31
  have H := Lib.hid h; clear h
  cases hq : isPool n P
  · rw [hq] at hp
    simp only [Bool.false_eq_true, ↓reduceIte]
    have Hp := Lib.hid hp; clear hp hq
    go_enter Try.func24, Try.ntmps24
    go_wp2_with fail
    refine (Hp.out _ (H.out.up (na (n0 w) _))).mono ?_
    rintro e w1 ⟨rfl, hb⟩
    have hbl := nx (na (n0 w) _) hb
    have hA := hR.up hb
    have c0 := hA.cell 0 (by omega)
    have c1 := hA.cell 1 (by omega)
    have z0 := hA.free 0
    have z1 := hA.free 1
    go_wp2_with fail
    refine ret_cell_tmp (b := w.heap.size) (n := 2) (f := fr 0 0) Try.results24 rfl rfl Try.underlying31 (by kernel_rfl) (fin2' hA 0 0) rfl ⟨rfl, ?_⟩
    exact (hbl.setCell (p := ⟨w.heap.size, 0, none⟩) (Nat.le_refl _) _).setCell (p := ⟨w.heap.size, 1, none⟩) (Nat.le_refl _) _
  · rw [hq] at hp
    simp only [↓reduceIte]
    have Hp := Lib.hid hp; clear hp
    have h4 := (of_pool hq).2.1
    clear hq
    have h6 := all6_le h4
    have Hrl := Lib.hid (fun i w h hi => l2Roll_any A n c i P w h h4 hi)
    have Ho := Lib.hid (fun w => l2All_any n w h4)
    have hsm := dsum_le P n
    have hf := fun w => cut_any (dsum P n (all6 n)) (all6 n) w (by have := hsm (all6 n); omega) (by omega) (by omega)
    unfold cutV
    obtain ⟨m, hm⟩ : ∃ m, dsum P n (all6 n) = m := ⟨_, rfl⟩
    rw [hm] at hf ⊢
    have Hf := Lib.hid hf; clear hf
    generalize all6 n = N6 at *
    have Hmm := Lib.hid hm; clear hm
    go_enter Try.func24, Try.ntmps24
    go_wp2_with fail
    refine (Hp.out _ (H.out.up (na (n0 w) _))).mono ?_
    rintro e w1 ⟨rfl, hb⟩
    have hbl := nx (na (n0 w) _) hb
    have hA := hR.up hb
    clear hb
    go_wp2_with fail
    go_loopw [4, 5] (fun sv iv wr => ∃ i : Nat, i ≤ N6 ∧ iv = .int .i64 i ∧ sv = .int .i64 (dsum P n i : Nat) ∧ Below w.heap.size w wr ∧ At wr w.heap.size 2 (fun _ => 0)) (fun _ iv _ => N6 - (intOf iv).toNat)
    case atStart => exact ⟨0, by omega, rfl, rfl, hbl, hA⟩
    case round =>
      clear hbl hA
      obtain ⟨i, hi, rfl, rfl, hbl, hA⟩ := hrel
      by_cases hlt : i < N6
      · have hit : decide ((i : Int) < (N6 : Int)) = true := decide_eq_true (by omega)
        have Hri := Lib.hid (fun w h => Hrl.out i w h (by omega))
        have hsi := hsm i
        have Hds : Hid (dsum P n (i + 1) = dsum P n i + posN (pat (rollF P i n) n) 4) := rfl
        have hpk : ∀ k, posN (pat (rollF P i n) n) k ≤ k := fun k => posN_le _ k
        have Hy := Lib.hid (fun k => @posN_yes (pat (rollF P i n) n) k)
        have Hn := Lib.hid (fun k => @posN_no (pat (rollF P i n) n) k)
        have hpat := fun b c w h => l4Pattern_any b n c (rollF P i n) w h h4
        generalize hpg : posN (pat (rollF P i n) n) = ps at *
        have hps0 : ps 0 = 0 := by rw [← hpg]; rfl
        clear hpg
        generalize pat (rollF P i n) n = r at *
        generalize rollF P i n = f at *
        have Hpat := Lib.hid hpat; clear hpat
        generalize dsum P n i = d at *
        go_wp2_with fail
        refine (Ho.out _).mono ?_
        rintro e w5 ⟨rfl, hw5⟩
        have hw5 := hw5.symm
        subst hw5
        go_wp2_with fail
        refine (Hri.out _ (H.out.below (Nat.le_refl _) hbl)).mono ?_
        rintro e w6 ⟨g, rfl, hg6, hG6, hb6⟩
        have hbl := nx hbl hb6
        have hA := hA.up hb6
        clear hb6
        go_wp2_with fail
        refine (Hpat.out _ _ _ hG6).mono ?_
        rintro e w7 ⟨rfl, hb7⟩
        have hbl2 := na (nx hbl hb7) (fourO r 23)
        have hA2 := (hA.up hb7).past (fourO r 23)
        have hr4 := At.new4 w7 r 23 rfl
        clear hb7 hG6 hbl hA
        go_wp2_with fail
        generalize w7.alloc (fourO r 23) = W at *
        generalize w7.heap.size = rb at *
        go_loopw [4, 7] (fun sv kv wx => ∃ k : Nat, k ≤ 4 ∧ kv = .int .i64 k ∧ sv = .int .i64 ((d + ps k : Nat) : Int) ∧ wx = W) (fun _ kv _ => 4 - (intOf kv).toNat)
        case atStart => exact ⟨0, by omega, rfl, by rw [hps0]; rfl, rfl⟩
        case round =>
          obtain ⟨k, hk, rfl, rfl, hwx⟩ := hrel
          have hwx := hwx.symm
          subst hwx
          by_cases hk4 : k < 4
          · have hkt : decide ((k : Int) < 4) = true := decide_eq_true (by omega)
            have hle := hpk k
            have ck := hr4.cell k hk4
            obtain ⟨e, he⟩ : ∃ e, e = d + ps k := ⟨_, rfl⟩
            have he2 : e ≤ 5200 := by omega
            rw [← he]
            by_cases hh : 0 < r k
            · have hd1 : decide (0 < r k) = true := decide_eq_true hh
              have He := Lib.hid (show d + ps (k + 1) = e + 1 by rw [Hy.out k hh]; omega)
              clear he
              go_wp2_with fail
              go_roundw
              case rel => exact ⟨k + 1, by omega, by go_num, by rw [He.out]; go_num, by first | rfl | trivial⟩
              case measure => simp [intOf]; omega
            · have hd1 : decide (0 < r k) = false := decide_eq_false hh
              have He := Lib.hid (show d + ps (k + 1) = e by rw [Hn.out k (by omega)]; omega)
              clear he
              go_wp2_with fail
              go_roundw
              case rel => exact ⟨k + 1, by omega, by go_num, by rw [He.out], by first | rfl | trivial⟩
              case measure => simp [intOf]; omega
          · obtain rfl : k = 4 := by omega
            have hkt : decide (((4 : Nat) : Int) < 4) = false := decide_eq_false (by omega)
            have hle := hpk 4
            obtain ⟨e, he⟩ : ∃ e, e = d + ps 4 := ⟨_, rfl⟩
            rw [← he]
            have He := Lib.hid (Hds.out.trans he.symm)
            clear he
            go_wp2_with fail
            go_roundw
            case rel => exact ⟨i + 1, by omega, by go_num, by rw [He.out], hbl2, hA2⟩
            case measure => simp [intOf]; omega
      · obtain rfl : i = N6 := by omega
        have hit : decide ((i : Int) < (i : Int)) = false := decide_eq_false (by omega)
        rw [Hmm.out]
        go_wp2_with fail
        refine (Ho.out _).mono ?_
        rintro e w5 ⟨rfl, hw5⟩
        have hw5 := hw5.symm
        subst hw5
        go_wp2_with fail
        refine (Ho.out _).mono ?_
        rintro e w5 ⟨rfl, hw5⟩
        have hw5 := hw5.symm
        subst hw5
        go_wp2_with fail
        refine (Hf.out _).mono ?_
        rintro e w3 ⟨rfl, hb3⟩
        have hbl := nx hbl hb3
        have hA := hA.up hb3
        clear hb3
        have c0 := hA.cell 0 (by omega)
        have c1 := hA.cell 1 (by omega)
        have z0 := hA.free 0
        have z1 := hA.free 1
        go_wp2_with fail
        refine ret_cell_tmp (b := w.heap.size) (n := 2) (f := fr ((m : Int) / (Nat.gcd m i : Nat)) ((i : Int) / (Nat.gcd m i : Nat))) Try.results24 rfl rfl Try.underlying31 (by kernel_rfl) (fin2' hA ((m : Int) / (Nat.gcd m i : Nat)) ((i : Int) / (Nat.gcd m i : Nat))) rfl ⟨rfl, ?_⟩
        exact (hbl.setCell (p := ⟨w.heap.size, 0, none⟩) (Nat.le_refl _) _).setCell (p := ⟨w.heap.size, 1, none⟩) (Nat.le_refl _) _


end DistS
end Go.Proofs.Ytlpkonobnipdeab
