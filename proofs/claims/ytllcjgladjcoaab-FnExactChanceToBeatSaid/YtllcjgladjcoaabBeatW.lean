/-
  The chances that one pool's sum is greater than another one's, or the same: contracts of both sides.
-/
import Derived.Test.YtllcjgladjcoaabRows
import Derived.Test.YtllcjgladjcoaabBeatS
import Derived.Test.YtllcjgladjcoaabOver
import Derived.Test.YtllcjgladjcoaabChanceW
import Derived.Test.YtllcjgladjcoaabTableE
import Derived.Test.YtllcjgladjcoaabTableS
import Derived.Test.YtllcjgladjcoaabTableI
import Derived.Test.YtllcjgladjcoaabTableW
import Derived.Test.YtllcjgladjcoaabTable
import Derived.Test.YtllcjgladjcoaabSumsW
import Derived.Test.YtllcjgladjcoaabCutW
import Derived.Test.YtllcjgladjcoaabDicesW
import Derived.Test.YtllcjgladjcoaabOpenD
import Derived.WalkKit
import Derived.WalkLawsBesides
import Derived.WalkSpells
import Derived.ProofKit
import Derived.OpenShut
import Derived.Deep.RegionWith
import Derived.Deep.WholeRow
import Derived.Deep.QuietTactic
import Derived.BigQuiet
namespace Go.Proofs.Ytllcjgladjcoaab
open Go.ChangeShapes Go.WideShapes Go.ChangeAt Go.RowKit
open Go.ChangeMaps (open_string shut_string)

namespace BeatW
open Dice Arr OpenD DieW SortW DicesW PoolW FracW SumsW Table TableW TableI TableS TableE CutW ChanceW Over BeatS

def okS (n m : Nat) (P Q : Nat → Nat → Int) : Bool := isPool n P && isPool m Q
theorem all6_le8 {n : Nat} (h : n ≤ 8) : all6 n ≤ 1679616 ∧ 1 ≤ all6 n := by
  unfold all6
  obtain rfl | rfl | rfl | rfl | rfl | rfl | rfl | rfl | rfl : n = 0 ∨ n = 1 ∨ n = 2 ∨ n = 3 ∨ n = 4 ∨ n = 5 ∨ n = 6 ∨ n = 7 ∨ n = 8 := by omega
  all_goals decide
set_option maxHeartbeats 1000000 in
theorem outcomes8_any (n : Nat) (w : World) (h : n ≤ 8) :
    Calls Try.prog 59 #[.int .i64 n] w fun e w' => e = .returned (.int .i64 (all6 n : Nat)) ∧ w' = w := by
  go_enter Try.func59, Try.ntmps59
  go_wp2_with fail
  go_loop [3, 5] (fun o i => ∃ k : Nat, k ≤ n ∧ i = .int .i64 k ∧ o = .int .i64 (all6 k : Nat)) (fun _ i => n - (intOf i).toNat)
  case atStart => exact ⟨0, by omega, rfl, rfl⟩
  case round =>
    obtain ⟨k, hk, rfl, rfl⟩ := hrel
    by_cases hlt : k < n
    · have h1 := all6_le8 (n := k) (by omega)
      have Hs := Lib.hid (all6_succ k)
      go_wp2_with fail
      go_round
      case rel => exact ⟨k + 1, by omega, by go_num, by rw [Hs.out, Int.natCast_mul]; rfl⟩
      case measure => simp [intOf]; omega
    · obtain rfl : k = n := by omega
      go_wp2_with fail
      go_ret
      exact ⟨rfl, rfl⟩
theorem outcomesSum_any (n m : Nat) (w : World) (h : n ≤ 4) (h' : m ≤ 4) :
    Calls Try.prog 59 #[.int .i64 ((n : Int) + (m : Int))] w fun e w' => e = .returned (.int .i64 (all6 n * all6 m : Nat)) ∧ w' = w := by
  have e : all6 n * all6 m = all6 (n + m) := (Nat.pow_add 6 n m).symm
  rw [e, ← Int.natCast_add]
  exact outcomes8_any (n + m) w (by omega)
theorem tab_split (b : Bool) (f : Nat → Int) : ∃ g, (if b then #[tv f, .bool true] else #[tv fun _ => 0, .bool false] : Array Value) = #[tv g, .bool b] := by
  cases b
  · exact ⟨_, rfl⟩
  · exact ⟨_, rfl⟩

set_option maxRecDepth 100000 in
set_option maxHeartbeats 4000000 in
theorem implBeat_yes_over (A B : Option Addr) (n m c c' : Nat) (P Q : Nat → Nat → Int) (w : World) (h : Row w A n P) (h' : Row w B m Q) (hn : n ≤ maxLen) (hm : m ≤ maxLen) (hq : isPool n P = true) (hr : isPool m Q = true) :
    Calls Try.prog 39 #[.slice A n c, .slice B m c'] w fun e w' => e = .returned (.tuple #[cutV (over (T P n) (T Q m) 121).toNat (all6 n * all6 m), .bool true]) ∧ Below w.heap.size w w' := by
  have hp := fun w h => implTable_any A n c P w h hn
  have hp' := fun w h => implTable_any B m c' Q w h hm
  obtain ⟨_, h4, hd⟩ := of_pool hq
  obtain ⟨_, h4', hd'⟩ := of_pool hr
  rw [hq] at hp
  rw [hr] at hp'
  simp only [↓reduceIte] at hp hp'
  have Hp := Lib.hid hp; clear hp hq
  have Hp' := Lib.hid hp'; clear hp' hr
  have H := Lib.hid h; clear h
  have H' := Lib.hid h'; clear h'
  have Ho := Lib.hid (fun w => outcomesSum_any n m w h4 h4')
  have hN := all6_le h4
  have hM := all6_le h4'
  have htf := tab_T h4 (die_range' hd) n (Nat.le_refl _)
  have htg := tab_T h4' (die_range' hd') m (Nat.le_refl _)
  have HP := Lib.hid (fun (x y : Nat) (hx : x < 121) (hy : y ≤ 121) => over_part htf htg h4 h4' hx hy)
  have HQ := Lib.hid (fun (y : Nat) (hy : y ≤ 121) => pre_small htg h4' hy)
  have hw := over_whole htf htg h4 h4' (x := 121) (Nat.le_refl _)
  have hNM : all6 n * all6 m ≤ 1679616 ∧ 1 ≤ all6 n * all6 m := ⟨Nat.mul_le_mul hN.1 hM.1, Nat.mul_pos hN.2 hM.2⟩
  clear htf htg hd hd' hn hm hN hM
  generalize T P n = f at *
  generalize T Q m = g at *
  obtain ⟨z, hz⟩ : ∃ z : Nat, over f g 121 = z := ⟨(over f g 121).toNat, by omega⟩
  have hf := fun w => fraction_any z (all6 n * all6 m) w (by omega) (by omega) hNM.2
  unfold cutV
  simp only [hz, Int.toNat_natCast]
  have Hf := Lib.hid hf; clear hf
  have Hz := Lib.hid hz; clear hz hw
  generalize all6 n * all6 m = N at *
  have Hix1 := Lib.hid (fun (w : World) (k : Nat) (hk : k < 121) => run_index_vals (P := Try.prog) w 27 3 121 Try.underlying27 Try.underlying3 Try.sizeOf3 f hk)
  go_enter Try.func39, Try.ntmps39
  go_wp2_with fail
  refine (Hp.out _ (H.out.up (na (n0 w) _))).mono ?_
  rintro e w1 ⟨rfl, hb1⟩
  have hB1 := nx (na (n0 w) _) hb1
  have hR1 := (At.new2 w 31).up hb1
  have hl1 : w.heap.size < w1.heap.size := hR1.lt
  obtain ⟨w2, hst2, hA2, hB2, hK2⟩ := store_ex (fresh w1 (b := w1.heap.size) rfl) f
  have hbl2 : Below w.heap.size w w2 := (na hB1 _).trans (hB2 _ hB1.size)
  have hR2 := hK2 w.heap.size 2 _ (by omega) (hR1.past _)
  clear hB2 hK2 hR1 hB1 hb1
  have hvf := vals_len 121 f
  have hvg := vals_len 121 g
  go_wp2_with fail
  clear hst2
  generalize w1.heap.size = b1 at hA2 hl1 ⊢
  refine (Hp'.out _ (H'.out.up hbl2)).mono ?_
  rintro e w3 ⟨rfl, hb3⟩
  have hA3 := hA2.up hb3
  have hR3 := hR2.up hb3
  have hl3 := hR3.lt
  have hlA := hA3.lt
  obtain ⟨w4, hst4, hA4, hB4, hK4⟩ := store_ex (fresh w3 (b := w3.heap.size) rfl) g
  have hbl3 := nx hbl2 hb3
  have hbl4 : Below w.heap.size w w4 := (na hbl3 _).trans (hB4 _ hbl3.size)
  have hA2' := hK4 b1 121 _ (by omega) (hA3.past _)
  have hR4 := hK4 w.heap.size 2 _ (by omega) (hR3.past _)
  clear hb3 hB4 hK4 hA2 hA3 hR2 hR3 hbl2 hbl3
  go_wp2_with (refine ld rfl _ rfl rfl hA2' ?_)
  clear hst4 hA2' hvf hvg
  generalize w3.heap.size = b3 at hA4 hl3 hlA ⊢
  clear hlA
  go_loopw [10, 11, 32] (fun gv lv iv wr => ∃ s : Nat, s ≤ 121 ∧ iv = .int .i64 s ∧ gv = .int .i64 (over f g s) ∧ lv = .int .i64 (pre g s) ∧ Below w.heap.size w wr ∧ At wr b3 121 g ∧ At wr w.heap.size 2 (fun _ => 0)) (fun _ _ iv _ => 121 - (intOf iv).toNat)
  case atStart => exact ⟨0, by omega, rfl, rfl, rfl, hbl4, hA4, hR4⟩
  case round =>
    clear hbl4 hA4 hR4
    obtain ⟨s, hs, rfl, rfl, rfl, hB, hG, hR⟩ := hrel
    by_cases hlt : s < 121
    · have hix := fun w => Hix1.out w s hlt
      have cs := hG.cell s hlt
      have bp := HP.out s s hlt (by omega)
      have bq := HQ.out s (by omega)
      have bq1 := HQ.out (s + 1) (by omega)
      rw [pre_succ] at bq1
      go_wp2_with fail
      go_roundw
      case rel => exact ⟨s + 1, by omega, by go_num, rfl, rfl, hB, hG, hR⟩
      case measure => simp [intOf]; omega
    · obtain rfl : s = 121 := by omega
      rw [Hz.out]
      have c0 := hR.cell 0 (by omega)
      have c1 := hR.cell 1 (by omega)
      go_wp2_with fail
      refine (Ho.out _).mono ?_
      rintro e w' ⟨rfl, rfl⟩
      go_wp2_with fail
      refine (Hf.out _).mono ?_
      rintro e w9 ⟨rfl, hb9⟩
      have hR9 := hR.up hb9
      have hB9 := nx hB hb9
      clear c0 c1
      all_goals
        have c0 := hR9.cell 0 (by omega)
        have c1 := hR9.cell 1 (by omega)
        have z0 := hR9.free 0
        have z1 := hR9.free 1
        go_wp2_with fail
        refine ret_cell_tmp (b := w.heap.size) (n := 2) (f := fr ((z : Int) / (Nat.gcd z N : Nat)) ((N : Int) / (Nat.gcd z N : Nat))) Try.results39 rfl rfl Try.underlying31 (by kernel_rfl) (fin2' hR9 _ _) rfl ⟨rfl, ?_⟩
        exact (hB9.setCell (p := ⟨w.heap.size, 0, none⟩) (Nat.le_refl _) _).setCell (p := ⟨w.heap.size, 1, none⟩) (Nat.le_refl _) _

set_option maxRecDepth 100000 in
set_option maxHeartbeats 4000000 in
theorem implBeat_no_over (A B : Option Addr) (n m c c' : Nat) (P Q : Nat → Nat → Int) (w : World) (h : Row w A n P) (h' : Row w B m Q) (hn : n ≤ maxLen) (hm : m ≤ maxLen) (hno : okS n m P Q = false) :
    Calls Try.prog 39 #[.slice A n c, .slice B m c'] w fun e w' => e = .returned (.tuple #[v2 0 0, .bool false]) ∧ Below w.heap.size w w' := by
  unfold okS at hno
  have hp := fun w h => implTable_any A n c P w h hn
  have hp' := fun w h => implTable_any B m c' Q w h hm
  obtain ⟨f, hf⟩ := tab_split (isPool n P) (T P n)
  obtain ⟨g, hg⟩ := tab_split (isPool m Q) (T Q m)
  rw [hf] at hp
  rw [hg] at hp'
  generalize isPool n P = b at hp hno
  generalize isPool m Q = b' at hp' hno
  have Hp := Lib.hid hp; clear hp hf
  have Hp' := Lib.hid hp'; clear hp' hg
  have H := Lib.hid h; clear h
  have H' := Lib.hid h'; clear h'
  have hvf := vals_len 121 f
  have hvg := vals_len 121 g
  clear hn hm
  go_enter Try.func39, Try.ntmps39
  go_wp2_with fail
  refine (Hp.out _ (H.out.up (na (n0 w) _))).mono ?_
  rintro e w1 ⟨rfl, hb1⟩
  have hB1 := nx (na (n0 w) _) hb1
  have hR1 := (At.new2 w 31).up hb1
  have hl1 : w.heap.size < w1.heap.size := hR1.lt
  obtain ⟨w2, hst2, hA2, hB2, hK2⟩ := store_ex (fresh w1 (b := w1.heap.size) rfl) f
  have hbl2 : Below w.heap.size w w2 := (na hB1 _).trans (hB2 _ hB1.size)
  have hR2 := hK2 w.heap.size 2 _ (by omega) (hR1.past _)
  clear hB2 hK2 hR1 hB1 hb1 hA2
  go_wp2_with fail
  clear hst2
  refine (Hp'.out _ (H'.out.up hbl2)).mono ?_
  rintro e w3 ⟨rfl, hb3⟩
  have hR3 := hR2.up hb3
  have hl3 := hR3.lt
  obtain ⟨w4, hst4, hA4, hB4, hK4⟩ := store_ex (fresh w3 (b := w3.heap.size) rfl) g
  have hbl3 := nx hbl2 hb3
  have hbl4 : Below w.heap.size w w4 := (na hbl3 _).trans (hB4 _ hbl3.size)
  have hR4 := hK4 w.heap.size 2 _ (by omega) (hR3.past _)
  clear hb3 hB4 hK4 hR2 hR3 hbl2 hbl3 hA4
  have c0 := hR4.cell 0 (by omega)
  have c1 := hR4.cell 1 (by omega)
  have z0 := hR4.free 0
  have z1 := hR4.free 1
  cases b
  all_goals
    cases b'
    all_goals
      first
      | (exfalso; revert hno; decide)
      | (clear hno
         go_wp2_with fail
         refine ret_cell_tmp (b := w.heap.size) (n := 2) (f := fr 0 0) Try.results39 rfl rfl Try.underlying31 (by kernel_rfl) (fin2' hR4 0 0) rfl ⟨rfl, ?_⟩
         exact (hbl4.setCell (p := ⟨w.heap.size, 0, none⟩) (Nat.le_refl _) _).setCell (p := ⟨w.heap.size, 1, none⟩) (Nat.le_refl _) _)

theorem implBeat_over (A B : Option Addr) (n m c c' : Nat) (P Q : Nat → Nat → Int) (w : World) (h : Row w A n P) (h' : Row w B m Q) (hn : n ≤ maxLen) (hm : m ≤ maxLen) :
    Calls Try.prog 39 #[.slice A n c, .slice B m c'] w fun e w' => e = .returned (.tuple (if okS n m P Q then #[cutV (over (T P n) (T Q m) 121).toNat (all6 n * all6 m), .bool true] else #[v2 0 0, .bool false])) ∧ Below w.heap.size w w' := by
  cases hs : okS n m P Q
  · simp only [Bool.false_eq_true, ↓reduceIte]
    exact implBeat_no_over A B n m c c' P Q w h h' hn hm hs
  · simp only [↓reduceIte]
    unfold okS at hs
    simp only [Bool.and_eq_true] at hs
    exact implBeat_yes_over A B n m c c' P Q w h h' hn hm hs.1 hs.2

set_option maxRecDepth 100000 in
set_option maxHeartbeats 4000000 in
theorem implBeat_yes_level (A B : Option Addr) (n m c c' : Nat) (P Q : Nat → Nat → Int) (w : World) (h : Row w A n P) (h' : Row w B m Q) (hn : n ≤ maxLen) (hm : m ≤ maxLen) (hq : isPool n P = true) (hr : isPool m Q = true) :
    Calls Try.prog 41 #[.slice A n c, .slice B m c'] w fun e w' => e = .returned (.tuple #[cutV (level (T P n) (T Q m) 121).toNat (all6 n * all6 m), .bool true]) ∧ Below w.heap.size w w' := by
  have hp := fun w h => implTable_any A n c P w h hn
  have hp' := fun w h => implTable_any B m c' Q w h hm
  obtain ⟨_, h4, hd⟩ := of_pool hq
  obtain ⟨_, h4', hd'⟩ := of_pool hr
  rw [hq] at hp
  rw [hr] at hp'
  simp only [↓reduceIte] at hp hp'
  have Hp := Lib.hid hp; clear hp hq
  have Hp' := Lib.hid hp'; clear hp' hr
  have H := Lib.hid h; clear h
  have H' := Lib.hid h'; clear h'
  have Ho := Lib.hid (fun w => outcomesSum_any n m w h4 h4')
  have hN := all6_le h4
  have hM := all6_le h4'
  have htf := tab_T h4 (die_range' hd) n (Nat.le_refl _)
  have htg := tab_T h4' (die_range' hd') m (Nat.le_refl _)
  have HP := Lib.hid (fun (x : Nat) (hx : x < 121) => level_part htf htg h4 h4' hx)
  have hw := level_whole htf htg h4 h4' (x := 121) (Nat.le_refl _)
  have hNM : all6 n * all6 m ≤ 1679616 ∧ 1 ≤ all6 n * all6 m := ⟨Nat.mul_le_mul hN.1 hM.1, Nat.mul_pos hN.2 hM.2⟩
  clear htf htg hd hd' hn hm hN hM
  generalize T P n = f at *
  generalize T Q m = g at *
  obtain ⟨z, hz⟩ : ∃ z : Nat, level f g 121 = z := ⟨(level f g 121).toNat, by omega⟩
  have hf := fun w => fraction_any z (all6 n * all6 m) w (by omega) (by omega) hNM.2
  unfold cutV
  simp only [hz, Int.toNat_natCast]
  have Hf := Lib.hid hf; clear hf
  have Hz := Lib.hid hz; clear hz hw
  generalize all6 n * all6 m = N at *
  have Hix1 := Lib.hid (fun (w : World) (k : Nat) (hk : k < 121) => run_index_vals (P := Try.prog) w 27 3 121 Try.underlying27 Try.underlying3 Try.sizeOf3 f hk)
  go_enter Try.func41, Try.ntmps41
  go_wp2_with fail
  refine (Hp.out _ (H.out.up (na (n0 w) _))).mono ?_
  rintro e w1 ⟨rfl, hb1⟩
  have hB1 := nx (na (n0 w) _) hb1
  have hR1 := (At.new2 w 31).up hb1
  have hl1 : w.heap.size < w1.heap.size := hR1.lt
  obtain ⟨w2, hst2, hA2, hB2, hK2⟩ := store_ex (fresh w1 (b := w1.heap.size) rfl) f
  have hbl2 : Below w.heap.size w w2 := (na hB1 _).trans (hB2 _ hB1.size)
  have hR2 := hK2 w.heap.size 2 _ (by omega) (hR1.past _)
  clear hB2 hK2 hR1 hB1 hb1
  have hvf := vals_len 121 f
  have hvg := vals_len 121 g
  go_wp2_with fail
  clear hst2
  generalize w1.heap.size = b1 at hA2 hl1 ⊢
  refine (Hp'.out _ (H'.out.up hbl2)).mono ?_
  rintro e w3 ⟨rfl, hb3⟩
  have hA3 := hA2.up hb3
  have hR3 := hR2.up hb3
  have hl3 := hR3.lt
  have hlA := hA3.lt
  obtain ⟨w4, hst4, hA4, hB4, hK4⟩ := store_ex (fresh w3 (b := w3.heap.size) rfl) g
  have hbl3 := nx hbl2 hb3
  have hbl4 : Below w.heap.size w w4 := (na hbl3 _).trans (hB4 _ hbl3.size)
  have hA2' := hK4 b1 121 _ (by omega) (hA3.past _)
  have hR4 := hK4 w.heap.size 2 _ (by omega) (hR3.past _)
  clear hb3 hB4 hK4 hA2 hA3 hR2 hR3 hbl2 hbl3
  go_wp2_with (refine ld rfl _ rfl rfl hA2' ?_)
  clear hst4 hA2' hvf hvg
  generalize w3.heap.size = b3 at hA4 hl3 hlA ⊢
  clear hlA
  go_loopw [10, 31] (fun gv iv wr => ∃ s : Nat, s ≤ 121 ∧ iv = .int .i64 s ∧ gv = .int .i64 (level f g s) ∧ Below w.heap.size w wr ∧ At wr b3 121 g ∧ At wr w.heap.size 2 (fun _ => 0)) (fun _ iv _ => 121 - (intOf iv).toNat)
  case atStart => exact ⟨0, by omega, rfl, rfl, hbl4, hA4, hR4⟩
  case round =>
    clear hbl4 hA4 hR4
    obtain ⟨s, hs, rfl, rfl, hB, hG, hR⟩ := hrel
    by_cases hlt : s < 121
    · have hix := fun w => Hix1.out w s hlt
      have cs := hG.cell s hlt
      have bp := HP.out s hlt
      go_wp2_with fail
      go_roundw
      case rel => exact ⟨s + 1, by omega, by go_num, rfl, hB, hG, hR⟩
      case measure => simp [intOf]; omega
    · obtain rfl : s = 121 := by omega
      rw [Hz.out]
      have c0 := hR.cell 0 (by omega)
      have c1 := hR.cell 1 (by omega)
      go_wp2_with fail
      refine (Ho.out _).mono ?_
      rintro e w' ⟨rfl, rfl⟩
      go_wp2_with fail
      refine (Hf.out _).mono ?_
      rintro e w9 ⟨rfl, hb9⟩
      have hR9 := hR.up hb9
      have hB9 := nx hB hb9
      clear c0 c1
      all_goals
        have c0 := hR9.cell 0 (by omega)
        have c1 := hR9.cell 1 (by omega)
        have z0 := hR9.free 0
        have z1 := hR9.free 1
        go_wp2_with fail
        refine ret_cell_tmp (b := w.heap.size) (n := 2) (f := fr ((z : Int) / (Nat.gcd z N : Nat)) ((N : Int) / (Nat.gcd z N : Nat))) Try.results41 rfl rfl Try.underlying31 (by kernel_rfl) (fin2' hR9 _ _) rfl ⟨rfl, ?_⟩
        exact (hB9.setCell (p := ⟨w.heap.size, 0, none⟩) (Nat.le_refl _) _).setCell (p := ⟨w.heap.size, 1, none⟩) (Nat.le_refl _) _

set_option maxRecDepth 100000 in
set_option maxHeartbeats 4000000 in
theorem implBeat_no_level (A B : Option Addr) (n m c c' : Nat) (P Q : Nat → Nat → Int) (w : World) (h : Row w A n P) (h' : Row w B m Q) (hn : n ≤ maxLen) (hm : m ≤ maxLen) (hno : okS n m P Q = false) :
    Calls Try.prog 41 #[.slice A n c, .slice B m c'] w fun e w' => e = .returned (.tuple #[v2 0 0, .bool false]) ∧ Below w.heap.size w w' := by
  unfold okS at hno
  have hp := fun w h => implTable_any A n c P w h hn
  have hp' := fun w h => implTable_any B m c' Q w h hm
  obtain ⟨f, hf⟩ := tab_split (isPool n P) (T P n)
  obtain ⟨g, hg⟩ := tab_split (isPool m Q) (T Q m)
  rw [hf] at hp
  rw [hg] at hp'
  generalize isPool n P = b at hp hno
  generalize isPool m Q = b' at hp' hno
  have Hp := Lib.hid hp; clear hp hf
  have Hp' := Lib.hid hp'; clear hp' hg
  have H := Lib.hid h; clear h
  have H' := Lib.hid h'; clear h'
  have hvf := vals_len 121 f
  have hvg := vals_len 121 g
  clear hn hm
  go_enter Try.func41, Try.ntmps41
  go_wp2_with fail
  refine (Hp.out _ (H.out.up (na (n0 w) _))).mono ?_
  rintro e w1 ⟨rfl, hb1⟩
  have hB1 := nx (na (n0 w) _) hb1
  have hR1 := (At.new2 w 31).up hb1
  have hl1 : w.heap.size < w1.heap.size := hR1.lt
  obtain ⟨w2, hst2, hA2, hB2, hK2⟩ := store_ex (fresh w1 (b := w1.heap.size) rfl) f
  have hbl2 : Below w.heap.size w w2 := (na hB1 _).trans (hB2 _ hB1.size)
  have hR2 := hK2 w.heap.size 2 _ (by omega) (hR1.past _)
  clear hB2 hK2 hR1 hB1 hb1 hA2
  go_wp2_with fail
  clear hst2
  refine (Hp'.out _ (H'.out.up hbl2)).mono ?_
  rintro e w3 ⟨rfl, hb3⟩
  have hR3 := hR2.up hb3
  have hl3 := hR3.lt
  obtain ⟨w4, hst4, hA4, hB4, hK4⟩ := store_ex (fresh w3 (b := w3.heap.size) rfl) g
  have hbl3 := nx hbl2 hb3
  have hbl4 : Below w.heap.size w w4 := (na hbl3 _).trans (hB4 _ hbl3.size)
  have hR4 := hK4 w.heap.size 2 _ (by omega) (hR3.past _)
  clear hb3 hB4 hK4 hR2 hR3 hbl2 hbl3 hA4
  have c0 := hR4.cell 0 (by omega)
  have c1 := hR4.cell 1 (by omega)
  have z0 := hR4.free 0
  have z1 := hR4.free 1
  cases b
  all_goals
    cases b'
    all_goals
      first
      | (exfalso; revert hno; decide)
      | (clear hno
         go_wp2_with fail
         refine ret_cell_tmp (b := w.heap.size) (n := 2) (f := fr 0 0) Try.results41 rfl rfl Try.underlying31 (by kernel_rfl) (fin2' hR4 0 0) rfl ⟨rfl, ?_⟩
         exact (hbl4.setCell (p := ⟨w.heap.size, 0, none⟩) (Nat.le_refl _) _).setCell (p := ⟨w.heap.size, 1, none⟩) (Nat.le_refl _) _)

theorem implBeat_level (A B : Option Addr) (n m c c' : Nat) (P Q : Nat → Nat → Int) (w : World) (h : Row w A n P) (h' : Row w B m Q) (hn : n ≤ maxLen) (hm : m ≤ maxLen) :
    Calls Try.prog 41 #[.slice A n c, .slice B m c'] w fun e w' => e = .returned (.tuple (if okS n m P Q then #[cutV (level (T P n) (T Q m) 121).toNat (all6 n * all6 m), .bool true] else #[v2 0 0, .bool false])) ∧ Below w.heap.size w w' := by
  cases hs : okS n m P Q
  · simp only [Bool.false_eq_true, ↓reduceIte]
    exact implBeat_no_level A B n m c c' P Q w h h' hn hm hs
  · simp only [↓reduceIte]
    unfold okS at hs
    simp only [Bool.and_eq_true] at hs
    exact implBeat_yes_level A B n m c c' P Q w h h' hn hm hs.1 hs.2

set_option maxHeartbeats 4000000 in
theorem specBeat_over (A B : Option Addr) (n m c c' : Nat) (P Q : Nat → Nat → Int) (w : World) (h : Row w A n P) (h' : Row w B m Q) (hn : n ≤ maxLen) (hm : m ≤ maxLen) :
    Calls Try.prog 38 #[.slice A n c, .slice B m c'] w fun e w' => e = .returned (.tuple (if okS n m P Q then #[cutV (over (T P n) (T Q m) 121).toNat (all6 n * all6 m), .bool true] else #[v2 0 0, .bool false])) ∧ Below w.heap.size w w' := by
  have hp := fun w h => l2Pool_any A n c P w h hn
  have hp' := fun w h => l2Pool_any B m c' Q w h hm
  have hR := At.new2 w 31
  unfold okS
  have H := Lib.hid h; clear h
  have H' := Lib.hid h'; clear h'
  cases hq : isPool n P
  · rw [hq] at hp
    simp only [Bool.false_and, Bool.false_eq_true, ↓reduceIte]
    have Hp := Lib.hid hp; clear hp hq hp'
    go_enter Try.func38, Try.ntmps38
    go_wp2_with fail
    refine (Hp.out _ (H.out.up (na (n0 w) _))).mono ?_
    rintro e w1 ⟨rfl, hb1⟩
    have hbl := nx (na (n0 w) _) hb1
    have hR1 := hR.up hb1
    clear hb1 hR
    have c0 := hR1.cell 0 (by omega)
    have c1 := hR1.cell 1 (by omega)
    have z0 := hR1.free 0
    have z1 := hR1.free 1
    go_wp2_with fail
    refine ret_cell_tmp (b := w.heap.size) (n := 2) (f := fr 0 0) Try.results38 rfl rfl Try.underlying31 (by kernel_rfl) (fin2' hR1 0 0) rfl ⟨rfl, ?_⟩
    exact (hbl.setCell (p := ⟨w.heap.size, 0, none⟩) (Nat.le_refl _) _).setCell (p := ⟨w.heap.size, 1, none⟩) (Nat.le_refl _) _
  · cases hr : isPool m Q
    · rw [hq] at hp
      rw [hr] at hp'
      simp only [Bool.and_false, Bool.false_eq_true, ↓reduceIte]
      have Hp := Lib.hid hp; clear hp hq
      have Hp' := Lib.hid hp'; clear hp' hr
      go_enter Try.func38, Try.ntmps38
      go_wp2_with fail
      refine (Hp.out _ (H.out.up (na (n0 w) _))).mono ?_
      rintro e w1 ⟨rfl, hb1⟩
      have hbl := nx (na (n0 w) _) hb1
      have hR1 := hR.up hb1
      clear hb1 hR
      go_wp2_with fail
      refine (Hp'.out _ (H'.out.up hbl)).mono ?_
      rintro e w2 ⟨rfl, hb2⟩
      have hbl2 := nx hbl hb2
      have hR2 := hR1.up hb2
      clear hb2 hR1
      have c0 := hR2.cell 0 (by omega)
      have c1 := hR2.cell 1 (by omega)
      have z0 := hR2.free 0
      have z1 := hR2.free 1
      go_wp2_with fail
      refine ret_cell_tmp (b := w.heap.size) (n := 2) (f := fr 0 0) Try.results38 rfl rfl Try.underlying31 (by kernel_rfl) (fin2' hR2 0 0) rfl ⟨rfl, ?_⟩
      exact (hbl2.setCell (p := ⟨w.heap.size, 0, none⟩) (Nat.le_refl _) _).setCell (p := ⟨w.heap.size, 1, none⟩) (Nat.le_refl _) _
    · have hc := fun w h h' => l3Chance_over A B n m c c' P Q w h h' hq hr
      rw [hq] at hp
      rw [hr] at hp'
      simp only [Bool.and_self, ↓reduceIte]
      unfold cutV at hc ⊢
      have Hp := Lib.hid hp; clear hp hq
      have Hp' := Lib.hid hp'; clear hp' hr
      have Hc := Lib.hid hc; clear hc
      generalize (over (T P n) (T Q m) 121).toNat = z at *
      generalize all6 n * all6 m = N at *
      generalize ((z / z.gcd N : Nat) : Int) = u at *
      generalize ((N / z.gcd N : Nat) : Int) = v at *
      go_enter Try.func38, Try.ntmps38
      go_wp2_with fail
      refine (Hp.out _ (H.out.up (na (n0 w) _))).mono ?_
      rintro e w1 ⟨rfl, hb1⟩
      have hbl := nx (na (n0 w) _) hb1
      have hR1 := hR.up hb1
      clear hb1 hR
      go_wp2_with fail
      refine (Hp'.out _ (H'.out.up hbl)).mono ?_
      rintro e w2 ⟨rfl, hb2⟩
      have hbl2 := nx hbl hb2
      have hR2 := hR1.up hb2
      clear hb2 hR1 hbl
      go_wp2_with fail
      refine (Hc.out _ (H.out.up hbl2) (H'.out.up hbl2)).mono ?_
      rintro e w3 ⟨rfl, hb3⟩
      have hbl3 := nx hbl2 hb3
      have hR3 := hR2.up hb3
      clear hb3 hR2 hbl2
      have c0 := hR3.cell 0 (by omega)
      have c1 := hR3.cell 1 (by omega)
      have z0 := hR3.free 0
      have z1 := hR3.free 1
      go_wp2_with fail
      refine ret_cell_tmp (b := w.heap.size) (n := 2) (f := fr u v) Try.results38 rfl rfl Try.underlying31 (by kernel_rfl) (fin2' hR3 u v) rfl ⟨rfl, ?_⟩
      exact (hbl3.setCell (p := ⟨w.heap.size, 0, none⟩) (Nat.le_refl _) _).setCell (p := ⟨w.heap.size, 1, none⟩) (Nat.le_refl _) _

set_option maxHeartbeats 4000000 in
theorem specBeat_level (A B : Option Addr) (n m c c' : Nat) (P Q : Nat → Nat → Int) (w : World) (h : Row w A n P) (h' : Row w B m Q) (hn : n ≤ maxLen) (hm : m ≤ maxLen) :
    Calls Try.prog 40 #[.slice A n c, .slice B m c'] w fun e w' => e = .returned (.tuple (if okS n m P Q then #[cutV (level (T P n) (T Q m) 121).toNat (all6 n * all6 m), .bool true] else #[v2 0 0, .bool false])) ∧ Below w.heap.size w w' := by
  have hp := fun w h => l2Pool_any A n c P w h hn
  have hp' := fun w h => l2Pool_any B m c' Q w h hm
  have hR := At.new2 w 31
  unfold okS
  have H := Lib.hid h; clear h
  have H' := Lib.hid h'; clear h'
  cases hq : isPool n P
  · rw [hq] at hp
    simp only [Bool.false_and, Bool.false_eq_true, ↓reduceIte]
    have Hp := Lib.hid hp; clear hp hq hp'
    go_enter Try.func40, Try.ntmps40
    go_wp2_with fail
    refine (Hp.out _ (H.out.up (na (n0 w) _))).mono ?_
    rintro e w1 ⟨rfl, hb1⟩
    have hbl := nx (na (n0 w) _) hb1
    have hR1 := hR.up hb1
    clear hb1 hR
    have c0 := hR1.cell 0 (by omega)
    have c1 := hR1.cell 1 (by omega)
    have z0 := hR1.free 0
    have z1 := hR1.free 1
    go_wp2_with fail
    refine ret_cell_tmp (b := w.heap.size) (n := 2) (f := fr 0 0) Try.results40 rfl rfl Try.underlying31 (by kernel_rfl) (fin2' hR1 0 0) rfl ⟨rfl, ?_⟩
    exact (hbl.setCell (p := ⟨w.heap.size, 0, none⟩) (Nat.le_refl _) _).setCell (p := ⟨w.heap.size, 1, none⟩) (Nat.le_refl _) _
  · cases hr : isPool m Q
    · rw [hq] at hp
      rw [hr] at hp'
      simp only [Bool.and_false, Bool.false_eq_true, ↓reduceIte]
      have Hp := Lib.hid hp; clear hp hq
      have Hp' := Lib.hid hp'; clear hp' hr
      go_enter Try.func40, Try.ntmps40
      go_wp2_with fail
      refine (Hp.out _ (H.out.up (na (n0 w) _))).mono ?_
      rintro e w1 ⟨rfl, hb1⟩
      have hbl := nx (na (n0 w) _) hb1
      have hR1 := hR.up hb1
      clear hb1 hR
      go_wp2_with fail
      refine (Hp'.out _ (H'.out.up hbl)).mono ?_
      rintro e w2 ⟨rfl, hb2⟩
      have hbl2 := nx hbl hb2
      have hR2 := hR1.up hb2
      clear hb2 hR1
      have c0 := hR2.cell 0 (by omega)
      have c1 := hR2.cell 1 (by omega)
      have z0 := hR2.free 0
      have z1 := hR2.free 1
      go_wp2_with fail
      refine ret_cell_tmp (b := w.heap.size) (n := 2) (f := fr 0 0) Try.results40 rfl rfl Try.underlying31 (by kernel_rfl) (fin2' hR2 0 0) rfl ⟨rfl, ?_⟩
      exact (hbl2.setCell (p := ⟨w.heap.size, 0, none⟩) (Nat.le_refl _) _).setCell (p := ⟨w.heap.size, 1, none⟩) (Nat.le_refl _) _
    · have hc := fun w h h' => l3Chance_level A B n m c c' P Q w h h' hq hr
      rw [hq] at hp
      rw [hr] at hp'
      simp only [Bool.and_self, ↓reduceIte]
      unfold cutV at hc ⊢
      have Hp := Lib.hid hp; clear hp hq
      have Hp' := Lib.hid hp'; clear hp' hr
      have Hc := Lib.hid hc; clear hc
      generalize (level (T P n) (T Q m) 121).toNat = z at *
      generalize all6 n * all6 m = N at *
      generalize ((z / z.gcd N : Nat) : Int) = u at *
      generalize ((N / z.gcd N : Nat) : Int) = v at *
      go_enter Try.func40, Try.ntmps40
      go_wp2_with fail
      refine (Hp.out _ (H.out.up (na (n0 w) _))).mono ?_
      rintro e w1 ⟨rfl, hb1⟩
      have hbl := nx (na (n0 w) _) hb1
      have hR1 := hR.up hb1
      clear hb1 hR
      go_wp2_with fail
      refine (Hp'.out _ (H'.out.up hbl)).mono ?_
      rintro e w2 ⟨rfl, hb2⟩
      have hbl2 := nx hbl hb2
      have hR2 := hR1.up hb2
      clear hb2 hR1 hbl
      go_wp2_with fail
      refine (Hc.out _ (H.out.up hbl2) (H'.out.up hbl2)).mono ?_
      rintro e w3 ⟨rfl, hb3⟩
      have hbl3 := nx hbl2 hb3
      have hR3 := hR2.up hb3
      clear hb3 hR2 hbl2
      have c0 := hR3.cell 0 (by omega)
      have c1 := hR3.cell 1 (by omega)
      have z0 := hR3.free 0
      have z1 := hR3.free 1
      go_wp2_with fail
      refine ret_cell_tmp (b := w.heap.size) (n := 2) (f := fr u v) Try.results40 rfl rfl Try.underlying31 (by kernel_rfl) (fin2' hR3 u v) rfl ⟨rfl, ?_⟩
      exact (hbl3.setCell (p := ⟨w.heap.size, 0, none⟩) (Nat.le_refl _) _).setCell (p := ⟨w.heap.size, 1, none⟩) (Nat.le_refl _) _


end BeatW
end Go.Proofs.Ytllcjgladjcoaab
