/-
  Contracts of the function that tells the chance of a sum from a bound on, in the program.
-/
import Derived.Test.YtllcjgladjcoaabRows
import Derived.Test.YtllcjgladjcoaabChanceW
import Derived.Test.YtllcjgladjcoaabTableE
import Derived.Test.YtllcjgladjcoaabTableS
import Derived.Test.YtllcjgladjcoaabTableI
import Derived.Test.YtllcjgladjcoaabTableW
import Derived.Test.YtllcjgladjcoaabTable
import Derived.Test.YtllcjgladjcoaabSumsW
import Derived.Test.YtllcjgladjcoaabCutW
import Derived.Test.YtllcjgladjcoaabDicesW
import Derived.Test.YtllcjgladjcoaabOpenD
import Derived.WalkKit
import Derived.WalkLawsBesides
import Derived.WalkSpells
import Derived.ProofKit
import Derived.OpenShut
import Derived.Deep.RegionWith
import Derived.Deep.WholeRow
import Derived.Deep.QuietTactic
import Derived.BigQuiet
namespace Go.Proofs.Ytllcjgladjcoaab
open Go.ChangeShapes Go.WideShapes Go.ChangeAt Go.RowKit
open Go.ChangeMaps (open_string shut_string)

namespace LeastW
open Dice Arr OpenD DieW SortW DicesW PoolW FracW SumsW Table TableW TableI TableS TableE CutW ChanceW

/-- The ways of all sums from j on. -/
def LE (P : Nat → Nat → Int) (n j : Nat) : Int := pre (T P n) 121 - pre (T P n) j
theorem le_part {P : Nat → Nat → Int} {n j : Nat} (h4 : n ≤ 4) (h : ∀ i, i < n → ∀ k, k < 6 → 0 ≤ P i k ∧ P i k ≤ 30) : ∀ i, j + i ≤ 121 → 0 ≤ pre (T P n) (j + i) - pre (T P n) j ∧ pre (T P n) (j + i) - pre (T P n) j ≤ 1296 := by
  intro i hi
  have ht := tab_T h4 h n (Nat.le_refl _)
  have h1 := pre_mono ht.nn (show j ≤ j + i by omega)
  have h2 := pre_mono ht.nn hi
  have h3 := pre_nn ht.nn j
  have h5 := ht.sum
  have h6 := pow_le h4
  omega
theorem le_bound {P : Nat → Nat → Int} {n j : Nat} (h4 : n ≤ 4) (h : ∀ i, i < n → ∀ k, k < 6 → 0 ≤ P i k ∧ P i k ≤ 30) (hj : j ≤ 121) : 0 ≤ LE P n j ∧ LE P n j ≤ 1296 := by
  have := le_part (j := j) h4 h (121 - j) (by omega)
  rw [show j + (121 - j) = 121 by omega] at this
  exact this

set_option maxRecDepth 100000 in
set_option maxHeartbeats 4000000 in
theorem implLeast_any (A : Option Addr) (n c : Nat) (P : Nat → Nat → Int) (k : Int) (w : World) (h : Row w A n P) (hn : n ≤ maxLen) :
    Calls Try.prog 27 #[.slice A n c, .int .i64 k] w fun e w' => e = .returned (.tuple (if isPool n P && decide (0 ≤ k ∧ k ≤ 120) then #[cutV (LE P n k.toNat).toNat (all6 n), .bool true] else #[v2 0 0, .bool false])) ∧ Below w.heap.size w w' := by
  have hp := fun w h => implTable_any A n c P w h hn
  cases hq : isPool n P
  · rw [hq] at hp
    clear hq
    simp only [Bool.false_and, Bool.false_eq_true, ↓reduceIte] at hp ⊢
    have Hp := Lib.hid hp; clear hp
    go_enter Try.func27, Try.ntmps27
    go_wp2_with fail
    refine (Hp.out _ (h.up (na (n0 w) _))).mono ?_
    rintro e w1 ⟨rfl, hb⟩
    have hbl := nx (na (n0 w) _) hb
    have hA := (At.new2 w 31).up hb
    obtain ⟨w2, hst, hA2, hB2, hK2⟩ := store_ex (fresh w1 (b := w1.heap.size) rfl) (fun _ => 0)
    have hbl2 := (na hbl _).trans (hB2 _ hbl.size)
    have hA' := hK2 _ _ _ (Nat.ne_of_lt hA.lt) (hA.past _)
    have c0 := hA'.cell 0 (by omega)
    have c1 := hA'.cell 1 (by omega)
    have z0 := hA'.free 0
    have z1 := hA'.free 1
    clear hb hbl hB2 hK2 hA
    go_wp2_with fail
    refine ret_cell_tmp (b := w.heap.size) (n := 2) (f := fr 0 0) Try.results27 rfl rfl Try.underlying31 (by kernel_rfl) (fin2' hA' 0 0) rfl ⟨rfl, ?_⟩
    exact (hbl2.setCell (p := ⟨w.heap.size, 0, none⟩) (Nat.le_refl _) _).setCell (p := ⟨w.heap.size, 1, none⟩) (Nat.le_refl _) _
  obtain ⟨h1, h4, hd⟩ := of_pool hq
  rw [hq] at hp
  clear hq
  simp only [Bool.true_and, ↓reduceIte] at hp ⊢
  by_cases hin : 0 ≤ k ∧ k ≤ 120
  · obtain ⟨j, rfl⟩ : ∃ j : Nat, k = j := ⟨k.toNat, by omega⟩
    rw [if_pos (decide_eq_true hin)]
    have hj : j < 121 := by omega
    have htab := le_bound h4 (die_range' hd) (Nat.le_of_lt hj)
    have Hpart := Lib.hid (le_part h4 (die_range' hd) (j := j))
    obtain ⟨m, hm⟩ : ∃ m : Nat, LE P n j = m := ⟨(LE P n j).toNat, by omega⟩
    have h6 := all6_le h4
    have hf := fun w => fraction_any m (all6 n) w (by omega) (by omega) (by omega)
    have Ho := Lib.hid (fun w => outcomes_any n w h4)
    unfold cutV
    simp only [Int.toNat_natCast, hm]
    have Hf := Lib.hid hf; clear hf
    have Hp := Lib.hid hp; clear hp
    have hd0 : decide ((j : Int) < 0) = false := decide_eq_false (by omega)
    have hd1 : decide (121 ≤ (j : Int)) = false := decide_eq_false (by omega)
    generalize all6 n = N6 at Hf Ho h6
    go_enter Try.func27, Try.ntmps27
    go_wp2_with fail
    refine (Hp.out _ (h.up (na (n0 w) _))).mono ?_
    rintro e w1 ⟨rfl, hb⟩
    have hbl := nx (na (n0 w) _) hb
    have hA := (At.new2 w 31).up hb
    obtain ⟨w2, hst, hA2, hB2, hK2⟩ := store_ex (fresh w1 (b := w1.heap.size) rfl) (T P n)
    have hbl2 := (na hbl _).trans (hB2 _ hbl.size)
    have hA' := hK2 _ _ _ (Nat.ne_of_lt hA.lt) (hA.past _)
    clear hb hbl hB2 hK2 hA
    have hle : (j : Int) ≤ 121 := by omega
    have hne : ¬ 121 = j := by omega
    have Hm := Lib.hid hm; clear hm
    go_wp2_with fail
    clear hst
    go_loopw [8, 30] (fun s iv wr => ∃ i : Nat, i ≤ 121 - j ∧ iv = .int .i64 i ∧ s = .int .i64 (pre (T P n) (j + i) - pre (T P n) j) ∧ Below w.heap.size w wr ∧ At wr w.heap.size 2 (fun _ => 0) ∧ At wr w1.heap.size 121 (T P n)) (fun _ iv _ => 121 - j - (intOf iv).toNat)
    case atStart => exact ⟨0, by omega, rfl, by simp, hbl2, hA', hA2⟩
    case round =>
     clear hbl2 hA' hA2
     obtain ⟨i, hi, rfl, rfl, hbl2, hA', hA2⟩ := hrel
     by_cases hlt : i < 121 - j
     · have ci := hA2.cell (j + i) (by omega)
       have hp1 := Hpart.out i (by omega)
       have hp2 := Hpart.out (i + 1) (by omega)
       have hs1 : pre (T P n) (j + (i + 1)) = pre (T P n) (j + i) + T P n (j + i) := rfl
       have Hs1 := Lib.hid hs1
       rw [hs1] at hp2
       clear hs1
       go_wp2_with fail
       go_roundw
       case rel => exact ⟨i + 1, by omega, by go_num, by rw [Hs1.out]; congr 1; omega, hbl2, hA', hA2⟩
       case measure => simp [intOf]; omega
     · obtain rfl : i = 121 - j := by omega
       have hfin : pre (T P n) (j + (121 - j)) - pre (T P n) j = m := by
         rw [show j + (121 - j) = 121 by omega]
         exact Hm.out
       rw [hfin]
       clear hfin hlt hi
       go_wp2_with fail
       refine (Ho.out _).mono ?_
       rintro e w' ⟨rfl, rfl⟩
       go_wp2_with fail
       refine (Hf.out _).mono ?_
       rintro e w3 ⟨rfl, hb3⟩
       have hA3 := hA'.up hb3
       have hbl3 := nx hbl2 hb3
       have c0 := hA3.cell 0 (by omega)
       have c1 := hA3.cell 1 (by omega)
       have z0 := hA3.free 0
       have z1 := hA3.free 1
       clear hb3
       go_wp2_with fail
       refine ret_cell_tmp (b := w.heap.size) (n := 2) (f := fr ((m : Int) / (Nat.gcd m N6 : Nat)) ((N6 : Int) / (Nat.gcd m N6 : Nat))) Try.results27 rfl rfl Try.underlying31 (by kernel_rfl) (fin2' hA3 _ _) rfl ⟨rfl, ?_⟩
       exact (hbl3.setCell (p := ⟨w.heap.size, 0, none⟩) (Nat.le_refl _) _).setCell (p := ⟨w.heap.size, 1, none⟩) (Nat.le_refl _) _
  · rw [if_neg (by simpa using hin)]
    by_cases hk0 : k < 0
    · have hd0 : decide (k < 0) = true := decide_eq_true hk0
      have Hp := Lib.hid hp; clear hp
      go_enter Try.func27, Try.ntmps27
      go_wp2_with fail
      refine (Hp.out _ (h.up (na (n0 w) _))).mono ?_
      rintro e w1 ⟨rfl, hb⟩
      have hbl := nx (na (n0 w) _) hb
      have hA := (At.new2 w 31).up hb
      obtain ⟨w2, hst, hA2, hB2, hK2⟩ := store_ex (fresh w1 (b := w1.heap.size) rfl) (T P n)
      have hbl2 := (na hbl _).trans (hB2 _ hbl.size)
      have hA' := hK2 _ _ _ (Nat.ne_of_lt hA.lt) (hA.past _)
      have c0 := hA'.cell 0 (by omega)
      have c1 := hA'.cell 1 (by omega)
      have z0 := hA'.free 0
      have z1 := hA'.free 1
      clear hb hbl hB2 hK2 hA
      go_wp2_with fail
      refine ret_cell_tmp (b := w.heap.size) (n := 2) (f := fr 0 0) Try.results27 rfl rfl Try.underlying31 (by kernel_rfl) (fin2' hA' 0 0) rfl ⟨rfl, ?_⟩
      exact (hbl2.setCell (p := ⟨w.heap.size, 0, none⟩) (Nat.le_refl _) _).setCell (p := ⟨w.heap.size, 1, none⟩) (Nat.le_refl _) _
    · have hd0 : decide (k < 0) = false := decide_eq_false hk0
      have hd1 : decide (121 ≤ k) = true := decide_eq_true (by omega)
      have Hp := Lib.hid hp; clear hp
      go_enter Try.func27, Try.ntmps27
      go_wp2_with fail
      refine (Hp.out _ (h.up (na (n0 w) _))).mono ?_
      rintro e w1 ⟨rfl, hb⟩
      have hbl := nx (na (n0 w) _) hb
      have hA := (At.new2 w 31).up hb
      obtain ⟨w2, hst, hA2, hB2, hK2⟩ := store_ex (fresh w1 (b := w1.heap.size) rfl) (T P n)
      have hbl2 := (na hbl _).trans (hB2 _ hbl.size)
      have hA' := hK2 _ _ _ (Nat.ne_of_lt hA.lt) (hA.past _)
      have c0 := hA'.cell 0 (by omega)
      have c1 := hA'.cell 1 (by omega)
      have z0 := hA'.free 0
      have z1 := hA'.free 1
      clear hb hbl hB2 hK2 hA
      go_wp2_with fail
      refine ret_cell_tmp (b := w.heap.size) (n := 2) (f := fr 0 0) Try.results27 rfl rfl Try.underlying31 (by kernel_rfl) (fin2' hA' 0 0) rfl ⟨rfl, ?_⟩
      exact (hbl2.setCell (p := ⟨w.heap.size, 0, none⟩) (Nat.le_refl _) _).setCell (p := ⟨w.heap.size, 1, none⟩) (Nat.le_refl _) _




end LeastW
end Go.Proofs.Ytllcjgladjcoaab
