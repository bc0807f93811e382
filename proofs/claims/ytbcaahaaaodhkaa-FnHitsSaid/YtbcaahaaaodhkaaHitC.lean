/-
  ChanceHits, both sides.
-/
import Derived.Test.YtbcaahaaaodhkaaRows
import Derived.Test.YtbcaahaaaodhkaaHitI
import Derived.Test.YtbcaahaaaodhkaaHitS
import Derived.Test.YtbcaahaaaodhkaaHitW
import Derived.Test.YtbcaahaaaodhkaaHits
import Derived.Test.YtbcaahaaaodhkaaFive
import Derived.Test.YtbcaahaaaodhkaaFracW
import Derived.Test.YtbcaahaaaodhkaaCutW
import Derived.Test.YtbcaahaaaodhkaaPoolW
import Derived.Test.YtbcaahaaaodhkaaAll6
import Derived.Test.YtbcaahaaaodhkaaDicesW
import Derived.Test.YtbcaahaaaodhkaaOpenD
import Derived.WalkKit
import Derived.WalkLawsBesides
import Derived.WalkSpells
import Derived.ProofKit
import Derived.OpenShut
import Derived.Deep.RegionWith
import Derived.Deep.QuietTactic
import Derived.BigQuiet
namespace Go.Proofs.Ytbcaahaaaodhkaa
open Go.ChangeShapes Go.WideShapes Go.ChangeAt Go.RowKit
open Go.ChangeMaps (open_string shut_string)

namespace HitC
open Dice Arr OpenD DieW SortW DicesW PoolW All6 FracW CutW Hits Five HitW HitI HitS

/-- How many outcomes have at least k dice that hit. -/
def up (P : Nat → Nat → Int) (b : Int) (n : Nat) (k : Int) : Nat := (Hits.upto (HT P b n) k.toNat (5 - k.toNat)).toNat
theorem upto_next (f : Nat → Int) (k j : Nat) : Hits.upto f k (j + 1) = Hits.upto f k j + f (k + j) := rfl

set_option maxHeartbeats 4000000 in
theorem implChHits_any (A : Option Addr) (n c : Nat) (P : Nat → Nat → Int) (b k : Int) (w : World) (h : Row w A n P) (hn : n ≤ maxLen) :
    Calls Try.prog 29 #[.slice A n c, .int .i64 b, .int .i64 k] w fun e w' => e = .returned (.tuple (if isPool n P && decide (0 ≤ b ∧ b ≤ 31) && decide (0 ≤ k ∧ k ≤ 4) then #[cutV (up P b n k) (all6 n), .bool true] else #[v2 0 0, .bool false])) ∧ Below w.heap.size w w' := by
  have ht := fun w h => implHits_any A n c P b w h hn
  have hR := At.new2 w 31
  have H := Lib.hid h; clear h
  cases hq : isPool n P && decide (0 ≤ b ∧ b ≤ 31)
  · rw [hq] at ht
    simp only [Bool.false_and, Bool.false_eq_true, ↓reduceIte] at ht ⊢
    obtain ⟨r, hr⟩ : ∃ r : Nat → Int, r = fun _ => 0 := ⟨_, rfl⟩
    rw [← hr] at ht
    have Ht := Lib.hid ht; clear ht hq hr
    go_enter Try.func29, Try.ntmps29
    go_wp2_with fail
    refine (Ht.out _ (H.out.up (na (n0 w) _))).mono ?_
    rintro e w1 ⟨rfl, hb⟩
    have hbl := na (nx (na (n0 w) _) hb) (fiveO r 45)
    have hA := (hR.up hb).past (fiveO r 45)
    clear hb
    have c0 := hA.cell 0 (by omega)
    have c1 := hA.cell 1 (by omega)
    have z0 := hA.free 0
    have z1 := hA.free 1
    go_wp2_with fail
    refine ret_cell_tmp (b := w.heap.size) (n := 2) (f := fr 0 0) Try.results29 rfl rfl Try.underlying31 (by kernel_rfl) (fin2' hA 0 0) rfl ⟨rfl, ?_⟩
    exact (hbl.setCell (p := ⟨w.heap.size, 0, none⟩) (Nat.le_refl _) _).setCell (p := ⟨w.heap.size, 1, none⟩) (Nat.le_refl _) _
  rw [hq] at ht
  simp only [↓reduceIte] at ht
  have h4 : n ≤ 4 := by
    simp only [Bool.and_eq_true] at hq
    exact (of_pool hq.1).2.1
  have hT := HT_small P b h4
  by_cases hk0 : k < 0
  · have hd0 : decide (k < 0) = true := decide_eq_true hk0
    rw [decide_eq_false (by omega : ¬ (0 ≤ k ∧ k ≤ 4))]
    simp only [Bool.and_false, Bool.false_eq_true, ↓reduceIte]
    generalize HT P b n = r at ht
    have Ht := Lib.hid ht; clear ht hq hk0 hT
    go_enter Try.func29, Try.ntmps29
    go_wp2_with fail
    refine (Ht.out _ (H.out.up (na (n0 w) _))).mono ?_
    rintro e w1 ⟨rfl, hb⟩
    have hbl := na (nx (na (n0 w) _) hb) (fiveO r 45)
    have hA := (hR.up hb).past (fiveO r 45)
    clear hb
    have c0 := hA.cell 0 (by omega)
    have c1 := hA.cell 1 (by omega)
    have z0 := hA.free 0
    have z1 := hA.free 1
    go_wp2_with fail
    refine ret_cell_tmp (b := w.heap.size) (n := 2) (f := fr 0 0) Try.results29 rfl rfl Try.underlying31 (by kernel_rfl) (fin2' hA 0 0) rfl ⟨rfl, ?_⟩
    exact (hbl.setCell (p := ⟨w.heap.size, 0, none⟩) (Nat.le_refl _) _).setCell (p := ⟨w.heap.size, 1, none⟩) (Nat.le_refl _) _
  have hd0 : decide (k < 0) = false := decide_eq_false hk0
  by_cases hk1 : 5 ≤ k
  · have hd1 : decide (5 ≤ k) = true := decide_eq_true hk1
    rw [decide_eq_false (by omega : ¬ (0 ≤ k ∧ k ≤ 4))]
    simp only [Bool.and_false, Bool.false_eq_true, ↓reduceIte]
    generalize HT P b n = r at ht
    have Ht := Lib.hid ht; clear ht hq hk0 hk1 hT
    go_enter Try.func29, Try.ntmps29
    go_wp2_with fail
    refine (Ht.out _ (H.out.up (na (n0 w) _))).mono ?_
    rintro e w1 ⟨rfl, hb⟩
    have hbl := na (nx (na (n0 w) _) hb) (fiveO r 45)
    have hA := (hR.up hb).past (fiveO r 45)
    clear hb
    have c0 := hA.cell 0 (by omega)
    have c1 := hA.cell 1 (by omega)
    have z0 := hA.free 0
    have z1 := hA.free 1
    go_wp2_with fail
    refine ret_cell_tmp (b := w.heap.size) (n := 2) (f := fr 0 0) Try.results29 rfl rfl Try.underlying31 (by kernel_rfl) (fin2' hA 0 0) rfl ⟨rfl, ?_⟩
    exact (hbl.setCell (p := ⟨w.heap.size, 0, none⟩) (Nat.le_refl _) _).setCell (p := ⟨w.heap.size, 1, none⟩) (Nat.le_refl _) _
  rw [decide_eq_true (by omega : 0 ≤ k ∧ k ≤ 4)]
  simp only [Bool.and_self, ↓reduceIte]
  clear hd0
  obtain ⟨k, rfl⟩ : ∃ j : Nat, k = j := ⟨k.toNat, by omega⟩
  have hk : k < 5 := by omega
  have hd0 : decide ((k : Int) < 0) = false := decide_eq_false (by omega)
  have hd1 : decide (5 ≤ (k : Int)) = false := decide_eq_false (by omega)
  have hd2 : decide (5 ≤ k) = false := decide_eq_false (by omega)
  have hdk : (k : Int) ≤ 5 := by omega
  unfold up
  rw [Int.toNat_natCast]
  generalize HT P b n = r at ht hT ⊢
  have hub := upto_bound hT.nn k (5 - k)
  obtain ⟨m, hm⟩ : ∃ m : Nat, Hits.upto r k (5 - k) = m := ⟨(Hits.upto r k (5 - k)).toNat, by omega⟩
  have hmb : m ≤ 1000000000 := by
    have : ((5 - k : Nat) : Int) * 1296 ≤ 5 * 1296 := by omega
    omega
  rw [hm, Int.toNat_natCast]
  have h6 := all6_le h4
  have hf := fun w => fraction_any m (all6 n) w hmb (by omega) (by omega)
  have Ho := Lib.hid (fun w => outcomes_any n w h4)
  have Hm := Lib.hid hm; clear hm
  unfold cutV
  generalize all6 n = N6 at *
  have Hf := Lib.hid hf; clear hf
  have Ht := Lib.hid ht; clear ht hq hk0 hk1 hub
  go_enter Try.func29, Try.ntmps29
  go_wp2_with fail
  refine (Ht.out _ (H.out.up (na (n0 w) _))).mono ?_
  rintro e w1 ⟨rfl, hb⟩
  have hbl := na (nx (na (n0 w) _) hb) (fiveO r 45)
  have hA := (hR.up hb).past (fiveO r 45)
  have hT5 := At.new5 w1 r 45 rfl
  clear hb
  go_wp2_with fail
  generalize w1.alloc (fiveO r 45) = W at *
  generalize w1.heap.size = bt at *
  go_loopw [10, 33] (fun av jv wr => ∃ j : Nat, j ≤ 5 - k ∧ jv = .int .i64 j ∧ av = .int .i64 (Hits.upto r k j) ∧ wr = W) (fun _ jv _ => 5 - k - (intOf jv).toNat)
  case atStart => exact ⟨0, by omega, rfl, rfl, rfl⟩
  case round =>
    obtain ⟨j, hj, rfl, rfl, rfl⟩ := hrel
    by_cases hlt : j < 5 - k
    · have ct := hT5.cell (k + j) (by omega)
      have b1 := upto_bound hT.nn k j
      have b2 := hT.nn (k + j)
      have b3 : (j : Int) * 1296 ≤ 5 * 1296 := by omega
      have Hn := Lib.hid (upto_next r k j)
      go_wp2_with fail
      go_roundw
      case rel => exact ⟨j + 1, by omega, by go_num, by rw [Hn.out] <;> first | rfl | go_num, by first | rfl | trivial⟩
      case measure => simp [intOf]; omega
    · obtain rfl : j = 5 - k := by omega
      rw [Hm.out]
      go_wp2_with fail
      refine (Ho.out _).mono ?_
      rintro e w5 ⟨rfl, hw5⟩
      have hw5 := hw5.symm
      subst hw5
      go_wp2_with fail
      refine (Hf.out _).mono ?_
      rintro e w3 ⟨rfl, hb3⟩
      have hbl := nx hbl hb3
      have hA := hA.up hb3
      clear hb3
      have c0 := hA.cell 0 (by omega)
      have c1 := hA.cell 1 (by omega)
      have z0 := hA.free 0
      have z1 := hA.free 1
      go_wp2_with fail
      refine ret_cell_tmp (b := w.heap.size) (n := 2) (f := fr ((m : Int) / (Nat.gcd m N6 : Nat)) ((N6 : Int) / (Nat.gcd m N6 : Nat))) Try.results29 rfl rfl Try.underlying31 (by kernel_rfl) (fin2' hA ((m : Int) / (Nat.gcd m N6 : Nat)) ((N6 : Int) / (Nat.gcd m N6 : Nat))) rfl ⟨rfl, ?_⟩
      exact (hbl.setCell (p := ⟨w.heap.size, 0, none⟩) (Nat.le_refl _) _).setCell (p := ⟨w.heap.size, 1, none⟩) (Nat.le_refl _) _

set_option maxHeartbeats 4000000 in
theorem l4Chance_any (A : Option Addr) (n c k : Nat) (P : Nat → Nat → Int) (b : Int) (w : World) (h : Row w A n P) (h4 : n ≤ 4) (hk : k < 5) :
    Calls Try.prog 78 #[.slice A n c, .int .i64 b, .int .i64 k] w fun e w' => e = .returned (cutV (up P b n k) (all6 n)) ∧ Below w.heap.size w w' := by
  have ht := fun w h => l4Hits_any A n c P b w h h4
  have hT := HT_small P b h4
  have hR := At.new2 w 31
  have H := Lib.hid h; clear h
  unfold up
  rw [Int.toNat_natCast]
  generalize HT P b n = r at ht hT ⊢
  have hub := upto_bound hT.nn k (5 - k)
  obtain ⟨m, hm⟩ : ∃ m : Nat, Hits.upto r k (5 - k) = m := ⟨(Hits.upto r k (5 - k)).toNat, by omega⟩
  have hmb : m ≤ 1000000000 := by
    have : ((5 - k : Nat) : Int) * 1296 ≤ 5 * 1296 := by omega
    omega
  rw [hm, Int.toNat_natCast]
  have h6 := all6_le h4
  have hf := fun w => cut_any m (all6 n) w hmb (by omega) (by omega)
  have Ho := Lib.hid (fun w => l2All_any n w h4)
  have Hm := Lib.hid hm; clear hm
  unfold cutV
  generalize all6 n = N6 at *
  have Hf := Lib.hid hf; clear hf
  have Ht := Lib.hid ht; clear ht hub
  go_enter Try.func78, Try.ntmps78
  go_wp2_with fail
  refine (Ht.out _ (H.out.up (na (n0 w) _))).mono ?_
  rintro e w1 ⟨rfl, hb⟩
  have hbl := na (nx (na (n0 w) _) hb) (fiveO r 45)
  have hA := (hR.up hb).past (fiveO r 45)
  have hT5 := At.new5 w1 r 45 rfl
  clear hb
  go_wp2_with fail
  generalize w1.alloc (fiveO r 45) = W at *
  generalize w1.heap.size = bt at *
  go_loopw [8, 9] (fun av jv wr => ∃ j : Nat, j ≤ 5 - k ∧ jv = .int .i64 ((k + j : Nat) : Int) ∧ av = .int .i64 (Hits.upto r k j) ∧ wr = W) (fun _ jv _ => 5 - (intOf jv).toNat)
  case atStart => exact ⟨0, by omega, rfl, rfl, rfl⟩
  case round =>
    obtain ⟨j, hj, rfl, rfl, rfl⟩ := hrel
    by_cases hlt : j < 5 - k
    · have ct := hT5.cell (k + j) (by omega)
      have b1 := upto_bound hT.nn k j
      have b2 := hT.nn (k + j)
      have b3 : (j : Int) * 1296 ≤ 5 * 1296 := by omega
      have Hn := Lib.hid (upto_next r k j)
      obtain ⟨q, hq⟩ : ∃ q, q = k + j := ⟨_, rfl⟩
      have Hq := Lib.hid (show q < 5 ∧ q + 1 = k + (j + 1) by omega)
      have hq5 : q < 5 := Hq.out.1
      rw [← hq] at ct b2 ⊢
      rw [← hq] at Hn
      clear hq
      go_wp2_with fail
      go_roundw
      case rel => exact ⟨j + 1, by omega, by rw [← Hq.out.2]; go_num, by rw [Hn.out] <;> first | rfl | go_num, by first | rfl | trivial⟩
      case measure => simp [intOf]; omega
    · obtain rfl : j = 5 - k := by omega
      rw [Hm.out]
      have hk5 : k + (5 - k) = 5 := by omega
      rw [hk5]
      go_wp2_with fail
      refine (Ho.out _).mono ?_
      rintro e w5 ⟨rfl, hw5⟩
      have hw5 := hw5.symm
      subst hw5
      go_wp2_with fail
      refine (Hf.out _).mono ?_
      rintro e w3 ⟨rfl, hb3⟩
      have hbl := nx hbl hb3
      have hA := hA.up hb3
      clear hb3
      have c0 := hA.cell 0 (by omega)
      have c1 := hA.cell 1 (by omega)
      have z0 := hA.free 0
      have z1 := hA.free 1
      go_wp2_with fail
      refine ret_cell (b := w.heap.size) (n := 2) (f := fr ((m : Int) / (Nat.gcd m N6 : Nat)) ((N6 : Int) / (Nat.gcd m N6 : Nat))) Try.results78 rfl Try.underlying31 (by kernel_rfl) (fin2' hA ((m : Int) / (Nat.gcd m N6 : Nat)) ((N6 : Int) / (Nat.gcd m N6 : Nat))) rfl ⟨rfl, ?_⟩
      exact (hbl.setCell (p := ⟨w.heap.size, 0, none⟩) (Nat.le_refl _) _).setCell (p := ⟨w.heap.size, 1, none⟩) (Nat.le_refl _) _

set_option maxHeartbeats 4000000 in
theorem specChHits_any (A : Option Addr) (n c : Nat) (P : Nat → Nat → Int) (b k : Int) (w : World) (h : Row w A n P) (hn : n ≤ maxLen) :
    Calls Try.prog 30 #[.slice A n c, .int .i64 b, .int .i64 k] w fun e w' => e = .returned (.tuple (if isPool n P && decide (0 ≤ b ∧ b ≤ 31) && decide (0 ≤ k ∧ k ≤ 4) then #[cutV (up P b n k) (all6 n), .bool true] else #[v2 0 0, .bool false])) ∧ Below w.heap.size w w' := by
  have hp := fun w h => l2Pool_any A n c P w h hn
  have hR := At.new2 w 31
  have H := Lib.hid h; clear h
  cases hq : isPool n P
  · rw [hq] at hp
    simp only [Bool.false_and, Bool.false_eq_true, ↓reduceIte] at hp ⊢
    have Hp := Lib.hid hp; clear hp hq
    go_enter Try.func30, Try.ntmps30
    go_wp2_with fail
    refine (Hp.out _ (H.out.up (na (n0 w) _))).mono ?_
    rintro e w1 ⟨rfl, hb⟩
    have hbl := nx (na (n0 w) _) hb
    have hA := hR.up hb
    clear hb
    have c0 := hA.cell 0 (by omega)
    have c1 := hA.cell 1 (by omega)
    have z0 := hA.free 0
    have z1 := hA.free 1
    go_wp2_with fail
    refine ret_cell_tmp (b := w.heap.size) (n := 2) (f := fr 0 0) Try.results30 rfl rfl Try.underlying31 (by kernel_rfl) (fin2' hA 0 0) rfl ⟨rfl, ?_⟩
    exact (hbl.setCell (p := ⟨w.heap.size, 0, none⟩) (Nat.le_refl _) _).setCell (p := ⟨w.heap.size, 1, none⟩) (Nat.le_refl _) _
  rw [hq] at hp
  have Hp := Lib.hid hp; clear hp
  have h4 := (of_pool hq).2.1
  clear hq
  have hbd := fun w => l4Bound_any b w
  cases hb31 : decide (0 ≤ b ∧ b ≤ 31)
  · rw [hb31] at hbd
    simp only [Bool.and_false, Bool.false_and, Bool.false_eq_true, ↓reduceIte]
    have Hb := Lib.hid hbd; clear hbd hb31
    go_enter Try.func30, Try.ntmps30
    go_wp2_with fail
    refine (Hp.out _ (H.out.up (na (n0 w) _))).mono ?_
    rintro e w1 ⟨rfl, hb⟩
    have hbl := nx (na (n0 w) _) hb
    have hA := hR.up hb
    clear hb
    go_wp2_with fail
    refine (Hb.out _).mono ?_
    rintro e w9 ⟨rfl, hw9⟩
    have hw9 := hw9.symm
    subst hw9
    have c0 := hA.cell 0 (by omega)
    have c1 := hA.cell 1 (by omega)
    have z0 := hA.free 0
    have z1 := hA.free 1
    go_wp2_with fail
    refine ret_cell_tmp (b := w.heap.size) (n := 2) (f := fr 0 0) Try.results30 rfl rfl Try.underlying31 (by kernel_rfl) (fin2' hA 0 0) rfl ⟨rfl, ?_⟩
    exact (hbl.setCell (p := ⟨w.heap.size, 0, none⟩) (Nat.le_refl _) _).setCell (p := ⟨w.heap.size, 1, none⟩) (Nat.le_refl _) _
  rw [hb31] at hbd
  have Hb := Lib.hid hbd; clear hbd hb31
  have hin := fun w => l1In_any k 0 4 w
  cases hk : decide (0 ≤ k ∧ k ≤ 4)
  · rw [hk] at hin
    simp only [Bool.and_false, Bool.false_eq_true, ↓reduceIte]
    have Hin := Lib.hid hin; clear hin hk
    go_enter Try.func30, Try.ntmps30
    go_wp2_with fail
    refine (Hp.out _ (H.out.up (na (n0 w) _))).mono ?_
    rintro e w1 ⟨rfl, hb⟩
    have hbl := nx (na (n0 w) _) hb
    have hA := hR.up hb
    clear hb
    go_wp2_with fail
    refine (Hb.out _).mono ?_
    rintro e w9 ⟨rfl, hw9⟩
    have hw9 := hw9.symm
    subst hw9
    go_wp2_with fail
    refine (Hin.out _).mono ?_
    rintro e w9 ⟨rfl, hw9⟩
    have hw9 := hw9.symm
    subst hw9
    have c0 := hA.cell 0 (by omega)
    have c1 := hA.cell 1 (by omega)
    have z0 := hA.free 0
    have z1 := hA.free 1
    go_wp2_with fail
    refine ret_cell_tmp (b := w.heap.size) (n := 2) (f := fr 0 0) Try.results30 rfl rfl Try.underlying31 (by kernel_rfl) (fin2' hA 0 0) rfl ⟨rfl, ?_⟩
    exact (hbl.setCell (p := ⟨w.heap.size, 0, none⟩) (Nat.le_refl _) _).setCell (p := ⟨w.heap.size, 1, none⟩) (Nat.le_refl _) _
  rw [hk] at hin
  simp only [Bool.and_self, ↓reduceIte]
  have Hin := Lib.hid hin; clear hin
  have hk := of_decide_eq_true hk
  obtain ⟨k, rfl⟩ : ∃ j : Nat, k = j := ⟨k.toNat, by omega⟩
  have hf := fun w h => l4Chance_any A n c k P b w h h4 (by omega)
  clear hk h4
  unfold cutV at hf ⊢
  generalize up P b n k = m at *
  generalize all6 n = N6 at *
  have Hf := Lib.hid hf; clear hf
  go_enter Try.func30, Try.ntmps30
  go_wp2_with fail
  refine (Hp.out _ (H.out.up (na (n0 w) _))).mono ?_
  rintro e w1 ⟨rfl, hb⟩
  have hbl := nx (na (n0 w) _) hb
  have hA := hR.up hb
  clear hb
  go_wp2_with fail
  refine (Hb.out _).mono ?_
  rintro e w9 ⟨rfl, hw9⟩
  have hw9 := hw9.symm
  subst hw9
  go_wp2_with fail
  refine (Hin.out _).mono ?_
  rintro e w9 ⟨rfl, hw9⟩
  have hw9 := hw9.symm
  subst hw9
  go_wp2_with fail
  refine (Hf.out _ (H.out.up hbl)).mono ?_
  rintro e w3 ⟨rfl, hb3⟩
  have hbl := nx hbl hb3
  have hA := hA.up hb3
  clear hb3
  have c0 := hA.cell 0 (by omega)
  have c1 := hA.cell 1 (by omega)
  have z0 := hA.free 0
  have z1 := hA.free 1
  go_wp2_with fail
  refine ret_cell_tmp (b := w.heap.size) (n := 2) (f := fr ((m : Int) / (Nat.gcd m N6 : Nat)) ((N6 : Int) / (Nat.gcd m N6 : Nat))) Try.results30 rfl rfl Try.underlying31 (by kernel_rfl) (fin2' hA ((m : Int) / (Nat.gcd m N6 : Nat)) ((N6 : Int) / (Nat.gcd m N6 : Nat))) rfl ⟨rfl, ?_⟩
  exact (hbl.setCell (p := ⟨w.heap.size, 0, none⟩) (Nat.le_refl _) _).setCell (p := ⟨w.heap.size, 1, none⟩) (Nat.le_refl _) _


end HitC
end Go.Proofs.Ytbcaahaaaodhkaa
