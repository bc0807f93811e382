/-
  PlaceTable, by the model.
-/
import Derived.Test.YtlpkonobnipdeaaRows
import Derived.Test.YtlpkonobnipdeaaBig31
import Derived.Test.YtlpkonobnipdeaaPlS
import Derived.Test.YtlpkonobnipdeaaPlcC
import Derived.Test.YtlpkonobnipdeaaPlI
import Derived.Test.YtlpkonobnipdeaaSortDn
import Derived.Test.YtlpkonobnipdeaaPlaces
import Derived.Test.YtlpkonobnipdeaaRollWM
import Derived.Test.YtlpkonobnipdeaaIntsM
import Derived.Test.YtlpkonobnipdeaaPoolW
import Derived.Test.YtlpkonobnipdeaaAll6
import Derived.Test.YtlpkonobnipdeaaDicesW
import Derived.Test.YtlpkonobnipdeaaOpenD
import Derived.WalkKit
import Derived.WalkLawsBesides
import Derived.WalkSpells
import Derived.ProofKit
import Derived.OpenShut
import Derived.Deep.RegionWith
import Derived.Deep.WholeRow
import Derived.Deep.QuietTactic
import Derived.BigQuiet
namespace Go.Proofs.Ytlpkonobnipdeaa
open Go.ChangeShapes Go.WideShapes Go.ChangeAt Go.RowKit
open Go.ChangeMaps (open_string shut_string)

namespace PlcS
open Dice Arr OpenD DieW SortW DicesW PoolW All6 IntsW RollW Places SortDn PlI PlcC Big31 PlS

set_option maxRecDepth 100000 in
set_option maxHeartbeats 4000000 in
theorem l4At_any (A : Option Addr) (n c k : Nat) (P : Nat → Nat → Int) (w : World) (h : Row w A n P) (hq : isPool n P = true) (hk1 : 1 ≤ k) (hkn : k ≤ n) :
    Calls Try.prog 137 #[.slice A n c, .int .i64 k] w fun e w' => e = .returned (tv (cnt (numOf P n (k - 1)) (all6 n))) ∧ Below w.heap.size w w' := by
  have hR := (fresh w (b := w.heap.size) rfl).past (.cells #[.int .i64 0, .int .i64 0, .int .i64 0, .int .i64 0, .int .i64 0, .int .i64 0, .int .i64 0, .int .i64 0, .int .i64 0, .int .i64 0, .int .i64 0, .int .i64 0, .int .i64 0, .int .i64 0, .int .i64 0, .int .i64 0, .int .i64 0, .int .i64 0, .int .i64 0, .int .i64 0, .int .i64 0, .int .i64 0, .int .i64 0, .int .i64 0, .int .i64 0, .int .i64 0, .int .i64 0, .int .i64 0, .int .i64 0, .int .i64 0, .int .i64 0] 87)
  obtain ⟨w2, hst, hA2, hB2, hK2⟩ := store_ex (fresh (w.alloc (.cells #[.int .i64 0, .int .i64 0, .int .i64 0, .int .i64 0, .int .i64 0, .int .i64 0, .int .i64 0, .int .i64 0, .int .i64 0, .int .i64 0, .int .i64 0, .int .i64 0, .int .i64 0, .int .i64 0, .int .i64 0, .int .i64 0, .int .i64 0, .int .i64 0, .int .i64 0, .int .i64 0, .int .i64 0, .int .i64 0, .int .i64 0, .int .i64 0, .int .i64 0, .int .i64 0, .int .i64 0, .int .i64 0, .int .i64 0, .int .i64 0, .int .i64 0] 87)) (b := w.heap.size + 1) (by rw [size_alloc])) (fun _ => 0)
  have hbl2 : Below w.heap.size w w2 := (na (na (n0 w) _) _).trans (hB2 _ (by omega))
  have hr2 := hK2 w.heap.size 31 _ (by omega) hR
  clear hB2 hK2 hR
  obtain ⟨h1, h4, hdi⟩ := of_pool hq
  have hrr := roll_range hdi
  clear hdi hq
  have h6 := all6_le h4
  obtain ⟨s, hs⟩ : ∃ s, s = numOf P n (k - 1) := ⟨_, rfl⟩
  have hsi : ∀ i, s i = ds (rollF P i n) n (k - 1) := fun i => by rw [hs]; rfl
  rw [← hs]
  clear hs
  have hsr : ∀ i, 0 ≤ s i ∧ s i < 31 := fun i => by
    rw [hsi]
    have := ds_range (hrr i) (k := k - 1) (by omega)
    omega
  have Hcn := Lib.hid (fun (i : Nat) (q : Nat) (h : s i = (q : Int)) => cnt_next h)
  have hcb := fun i j => cnt_bound s i j
  have Hsi := Lib.hid hsi; clear hsi
  have Hrl := Lib.hid (fun i w h hi => l2Roll_any A n c i P w h h4 hi)
  have Ho := Lib.hid (fun w => l2All_any n w h4)
  have H := Lib.hid h; clear h
  generalize all6 n = N at *
  go_enter Try.func137, Try.ntmps137
  go_wp2_with (refine b0 rfl rfl ?_)
  clear hst
  go_loopw [6] (fun iv wr => ∃ i : Nat, i ≤ N ∧ iv = .int .i64 i ∧ Below w.heap.size w wr ∧ At wr w.heap.size 31 (fun _ => 0) ∧ At wr (w.heap.size + 1) 31 (cnt s i)) (fun iv _ => N - (intOf iv).toNat)
  case atStart => exact ⟨0, by omega, rfl, hbl2, hr2, hA2⟩
  case round =>
    clear hbl2 hr2 hA2
    obtain ⟨i, hi, rfl, hB, hr, hT⟩ := hrel
    by_cases hlt : i < N
    · have hit : decide ((i : Int) < (N : Int)) = true := decide_eq_true (by omega)
      have hci := hcb i
      have Hci := Lib.hid (fun q h => Hcn.out i q h)
      have hsri := hsr i
      have hsii := Hsi.out i
      have Hri := Lib.hid (fun w h => Hrl.out i w h (by omega))
      have hrf := hrr i
      generalize rollF P i n = f at *
      clear hcb
      have hnt : w.heap.size + 1 < wr.heap.size := hT.lt
      go_wp2_with fail
      refine (Ho.out _).mono ?_
      rintro e w5 ⟨rfl, hw5⟩
      have hw5 := hw5.symm
      subst hw5
      go_wp2_with fail
      refine (Hri.out _ (H.out.below (Nat.le_refl _) hB)).mono ?_
      rintro e w6 ⟨g, rfl, hg6, hG6, hb6⟩
      have hB := nx hB hb6
      have hr := hr.up hb6
      have hT := hT.up hb6
      have hs6 := hb6.size
      clear hb6
      go_wp2_with fail
      refine (l4Places_any g n n f w6 hG6 h4).mono ?_
      rintro e w7 ⟨b, c7, rfl, hg7, hG7, hb7⟩
      have hB := nx hB hb7
      have hr := hr.up hb7
      have hT := hT.up hb7
      clear hb7 hG6
      have hbne : b ≠ w.heap.size + 1 := by omega
      have hkn' : (k : Int) ≤ (n : Int) := by omega
      obtain ⟨p, hp⟩ : ∃ p, p + 1 = k := ⟨k - 1, by omega⟩
      have hp1 : (k : Int) - 1 = (p : Int) := by omega
      have hpn : (p : Int) < (n : Int) := by omega
      have cp := hG7.cell p (by omega)
      rw [show k - 1 = p by omega] at hsii
      clear hp
      obtain ⟨q, hq⟩ : ∃ q : Nat, s i = (q : Int) := ⟨(s i).toNat, by omega⟩
      have Hc1 := Lib.hid (Hci.out q hq)
      have hqm : q < 31 := by omega
      rw [hsii] at hq
      rw [hq] at cp
      clear hsii hsri
      have cq := hT.cell q hqm
      have zq := hT.free q
      have hcq := hci q
      clear hci Hci
      go_wp2_with fail
      go_roundw
      case rel => exact ⟨i + 1, by omega, by go_num, hB.setCell (p := ⟨w.heap.size + 1, q, none⟩) (by show w.heap.size ≤ w.heap.size + 1; omega) _, hr.other (by omega) _ _, by rw [Hc1.out]; exact hT.set hqm _⟩
      case measure => simp [intOf]; omega
    · obtain rfl : i = N := by omega
      have hit : decide ((i : Int) < (i : Int)) = false := decide_eq_false (by omega)
      obtain ⟨w4, hst, hA4, hB4, hK4⟩ := store_ex hr (cnt s i)
      have hbl4 := hB.trans (hB4 _ (Nat.le_refl _))
      clear hK4 hB4
      go_wp2_with fail
      refine (Ho.out _).mono ?_
      rintro e w5 ⟨rfl, hw5⟩
      have hw5 := hw5.symm
      subst hw5
      go_wp2_with (refine ld rfl _ rfl rfl hT ?_)
      exact ret_cell (b := w.heap.size) (n := 31) (f := cnt s i) Try.results137 rfl Try.underlying87 size_run hA4 rfl ⟨rfl, hbl4⟩

set_option maxRecDepth 100000 in
set_option maxHeartbeats 4000000 in
theorem specPlace_any (A : Option Addr) (n c : Nat) (P : Nat → Nat → Int) (k : Int) (w : World) (h : Row w A n P) (hn : n ≤ maxLen) :
    Calls Try.prog 74 #[.slice A n c, .int .i64 k] w fun e w' => e = .returned (.tuple (if okK n P k then #[tv (cnt (numOf P n (k.toNat - 1)) (all6 n)), .bool true] else #[tv fun _ => 0, .bool false])) ∧ Below w.heap.size w w' := by
  have hp := fun w h => l4Keeps_any A n c P k w h hn
  have hR := fresh w (b := w.heap.size) rfl
  cases hq : okK n P k
  · rw [hq] at hp
    simp only [Bool.false_eq_true, ↓reduceIte]
    have Hp := Lib.hid hp; clear hp hq
    go_enter Try.func74, Try.ntmps74
    go_wp2_with fail
    refine (Hp.out _ (h.up (na (n0 w) _))).mono ?_
    rintro e w1 ⟨rfl, hb⟩
    have hbl := nx (na (n0 w) _) hb
    have hr := hR.up hb
    obtain ⟨w2, hst, hA2, hB2, _⟩ := store_ex hr (fun _ => 0)
    have hbl2 := hbl.trans (hB2 _ (Nat.le_refl _))
    clear hb hB2
    go_wp2_with (refine b0 rfl rfl ?_)
    exact ret_cell_tmp (b := w.heap.size) (n := 31) (f := fun _ => 0) Try.results74 rfl rfl Try.underlying87 size_run hA2 rfl ⟨rfl, hbl2⟩
  · rw [hq] at hp
    simp only [↓reduceIte]
    unfold okK at hq
    simp only [Bool.and_eq_true, decide_eq_true_eq] at hq
    obtain ⟨k, rfl⟩ : ∃ j : Nat, k = j := ⟨k.toNat, by omega⟩
    have Ht := Lib.hid (fun w h => l4At_any A n c k P w h hq.1 (by omega) (by omega))
    rw [Int.toNat_natCast]
    have Hp := Lib.hid hp; clear hp hq
    generalize cnt (numOf P n (k - 1)) (all6 n) = t at *
    go_enter Try.func74, Try.ntmps74
    go_wp2_with fail
    refine (Hp.out _ (h.up (na (n0 w) _))).mono ?_
    rintro e w1 ⟨rfl, hb⟩
    have hbl := nx (na (n0 w) _) hb
    go_wp2_with fail
    refine (Ht.out _ (h.up hbl)).mono ?_
    rintro e w3 ⟨rfl, hb3⟩
    have hbl3 := nx hbl hb3
    have hr := (hR.up hb).up hb3
    obtain ⟨w2, hst, hA2, hB2, _⟩ := store_ex hr t
    have hbl2 := hbl3.trans (hB2 _ (Nat.le_refl _))
    clear hb hB2 hb3
    go_wp2_with fail
    exact ret_cell_tmp (b := w.heap.size) (n := 31) (f := t) Try.results74 rfl rfl Try.underlying87 size_run hA2 rfl ⟨rfl, hbl2⟩


end PlcS
end Go.Proofs.Ytlpkonobnipdeaa
