/-
  Contracts of the functions that tell the chance of a sum, in the program.
-/
import Derived.Test.YtllcjgladjcoaabRows
import Derived.Test.YtllcjgladjcoaabTableE
import Derived.Test.YtllcjgladjcoaabTableS
import Derived.Test.YtllcjgladjcoaabTableI
import Derived.Test.YtllcjgladjcoaabTableW
import Derived.Test.YtllcjgladjcoaabTable
import Derived.Test.YtllcjgladjcoaabSumsW
import Derived.Test.YtllcjgladjcoaabCutW
import Derived.Test.YtllcjgladjcoaabOpenD
import Derived.WalkKit
import Derived.WalkLawsBesides
import Derived.WalkSpells
import Derived.ProofKit
import Derived.OpenShut
import Derived.Deep.RegionWith
import Derived.Deep.WholeRow
import Derived.Deep.QuietTactic
import Derived.BigQuiet
namespace Go.Proofs.Ytllcjgladjcoaab
open Go.ChangeShapes Go.WideShapes Go.ChangeAt Go.RowKit
open Go.ChangeMaps (open_string shut_string)

namespace ChanceW
open Dice Arr OpenD DieW SortW DicesW PoolW FracW SumsW Table TableW TableI TableS TableE CutW

/-- Six to the power of n. -/
def all6 (n : Nat) : Nat := 6 ^ n
theorem all6_le {n : Nat} (h : n ≤ 4) : all6 n ≤ 1296 ∧ 1 ≤ all6 n := by
  unfold all6
  obtain rfl | rfl | rfl | rfl | rfl : n = 0 ∨ n = 1 ∨ n = 2 ∨ n = 3 ∨ n = 4 := by omega
  all_goals decide
theorem all6_succ (n : Nat) : all6 (n + 1) = all6 n * 6 := by unfold all6; rw [Nat.pow_succ]

set_option maxHeartbeats 1000000 in
theorem l2All_any (n : Nat) (w : World) (h : n ≤ 4) :
    Calls Try.prog 57 #[.int .i64 n] w fun e w' => e = .returned (.int .i64 (all6 n : Nat)) ∧ w' = w := by
  go_enter Try.func57, Try.ntmps57
  go_wp2_with fail
  go_loop [3, 4] (fun o i => ∃ k : Nat, k ≤ n ∧ i = .int .i64 k ∧ o = .int .i64 (all6 k : Nat)) (fun _ i => n - (intOf i).toNat)
  case atStart => exact ⟨0, by omega, rfl, rfl⟩
  case round =>
    obtain ⟨k, hk, rfl, rfl⟩ := hrel
    by_cases hlt : k < n
    · have h1 := all6_le (n := k) (by omega)
      have Hs := Lib.hid (all6_succ k)
      go_wp2_with fail
      go_round
      case rel => exact ⟨k + 1, by omega, by go_num, by rw [Hs.out, Int.natCast_mul]; rfl⟩
      case measure => simp [intOf]; omega
    · obtain rfl : k = n := by omega
      go_wp2_with fail
      go_ret
      exact ⟨rfl, rfl⟩
set_option maxHeartbeats 1000000 in
theorem outcomes_any (n : Nat) (w : World) (h : n ≤ 4) :
    Calls Try.prog 59 #[.int .i64 n] w fun e w' => e = .returned (.int .i64 (all6 n : Nat)) ∧ w' = w := by
  go_enter Try.func59, Try.ntmps59
  go_wp2_with fail
  go_loop [3, 5] (fun o i => ∃ k : Nat, k ≤ n ∧ i = .int .i64 k ∧ o = .int .i64 (all6 k : Nat)) (fun _ i => n - (intOf i).toNat)
  case atStart => exact ⟨0, by omega, rfl, rfl⟩
  case round =>
    obtain ⟨k, hk, rfl, rfl⟩ := hrel
    by_cases hlt : k < n
    · have h1 := all6_le (n := k) (by omega)
      have Hs := Lib.hid (all6_succ k)
      go_wp2_with fail
      go_round
      case rel => exact ⟨k + 1, by omega, by go_num, by rw [Hs.out, Int.natCast_mul]; rfl⟩
      case measure => simp [intOf]; omega
    · obtain rfl : k = n := by omega
      go_wp2_with fail
      go_ret
      exact ⟨rfl, rfl⟩
theorem l2Sum_no (A : Option Addr) (n c : Nat) (P : Nat → Nat → Int) (k : Int) (w : World) (h : Row w A n P) (hn : n ≤ maxLen) (hq : isPool n P = false) :
    Calls Try.prog 55 #[.slice A n c, .int .i64 k] w fun e w' => e = .returned (.bool false) ∧ Below w.heap.size w w' := by
  have hp := fun w h => l2Pool_any A n c P w h hn
  rw [hq] at hp
  have Hp := Lib.hid hp; clear hp hq
  go_enter Try.func55, Try.ntmps55
  go_wp2_with fail
  refine (Hp.out _ h).mono ?_
  rintro e w1 ⟨rfl, hb⟩
  go_wp2_with fail
  go_ret
  exact ⟨rfl, hb⟩
theorem l2Sum_yes (A : Option Addr) (n c : Nat) (P : Nat → Nat → Int) (k : Int) (w : World) (h : Row w A n P) (hn : n ≤ maxLen) (hq : isPool n P = true) :
    Calls Try.prog 55 #[.slice A n c, .int .i64 k] w fun e w' => e = .returned (.bool (decide (0 ≤ k ∧ k ≤ 120))) ∧ Below w.heap.size w w' := by
  have hp := fun w h => l2Pool_any A n c P w h hn
  rw [hq] at hp
  have Hp := Lib.hid hp; clear hp hq
  have Hin := Lib.hid (fun w => l1In_any k 0 120 w)
  generalize decide (0 ≤ k ∧ k ≤ 120) = b at Hin
  go_enter Try.func55, Try.ntmps55
  go_wp2_with fail
  refine (Hp.out _ h).mono ?_
  rintro e w1 ⟨rfl, hb⟩
  go_wp2_with fail
  refine (Hin.out _).mono ?_
  rintro e w2 ⟨rfl, rfl⟩
  go_wp2_with fail
  go_ret
  exact ⟨rfl, hb⟩

set_option maxRecDepth 100000 in
set_option maxHeartbeats 4000000 in
theorem implChance_any (A : Option Addr) (n c : Nat) (P : Nat → Nat → Int) (k : Int) (w : World) (h : Row w A n P) (hn : n ≤ maxLen) :
    Calls Try.prog 24 #[.slice A n c, .int .i64 k] w fun e w' => e = .returned (.tuple (if isPool n P && decide (0 ≤ k ∧ k ≤ 120) then #[cutV (T P n k.toNat).toNat (all6 n), .bool true] else #[v2 0 0, .bool false])) ∧ Below w.heap.size w w' := by
  have hp := fun w h => implTable_any A n c P w h hn
  cases hq : isPool n P
  · rw [hq] at hp
    clear hq
    simp only [Bool.false_and, Bool.false_eq_true, ↓reduceIte] at hp ⊢
    have Hp := Lib.hid hp; clear hp
    go_enter Try.func24, Try.ntmps24
    go_wp2_with fail
    refine (Hp.out _ (h.up (na (n0 w) _))).mono ?_
    rintro e w1 ⟨rfl, hb⟩
    have hbl := nx (na (n0 w) _) hb
    have hA := (At.new2 w 31).up hb
    obtain ⟨w2, hst, hA2, hB2, hK2⟩ := store_ex (fresh w1 (b := w1.heap.size) rfl) (fun _ => 0)
    have hbl2 := (na hbl _).trans (hB2 _ hbl.size)
    have hA' := hK2 _ _ _ (Nat.ne_of_lt hA.lt) (hA.past _)
    have c0 := hA'.cell 0 (by omega)
    have c1 := hA'.cell 1 (by omega)
    have z0 := hA'.free 0
    have z1 := hA'.free 1
    clear hb hbl hB2 hK2 hA
    go_wp2_with fail
    refine ret_cell_tmp (b := w.heap.size) (n := 2) (f := fr 0 0) Try.results24 rfl rfl Try.underlying31 (by kernel_rfl) (fin2' hA' 0 0) rfl ⟨rfl, ?_⟩
    exact (hbl2.setCell (p := ⟨w.heap.size, 0, none⟩) (Nat.le_refl _) _).setCell (p := ⟨w.heap.size, 1, none⟩) (Nat.le_refl _) _
  obtain ⟨h1, h4, hd⟩ := of_pool hq
  rw [hq] at hp
  clear hq
  simp only [Bool.true_and, ↓reduceIte] at hp ⊢
  by_cases hin : 0 ≤ k ∧ k ≤ 120
  · obtain ⟨j, rfl⟩ : ∃ j : Nat, k = j := ⟨k.toNat, by omega⟩
    rw [if_pos (decide_eq_true hin)]
    have hj : j < 121 := by omega
    have htab := (tab_T h4 (die_range' hd) n (Nat.le_refl _)).small h4 j hj
    obtain ⟨m, hm⟩ : ∃ m : Nat, T P n j = m := ⟨(T P n j).toNat, by omega⟩
    have h6 := all6_le h4
    have hf := fun w => fraction_any m (all6 n) w (by omega) (by omega) (by omega)
    have Ho := Lib.hid (fun w => outcomes_any n w h4)
    unfold cutV
    simp only [Int.toNat_natCast, hm]
    have Hf := Lib.hid hf; clear hf
    have Hp := Lib.hid hp; clear hp
    have hd0 : decide ((j : Int) < 0) = false := decide_eq_false (by omega)
    have hd1 : decide (121 ≤ (j : Int)) = false := decide_eq_false (by omega)
    generalize all6 n = N6 at Hf Ho h6
    go_enter Try.func24, Try.ntmps24
    go_wp2_with fail
    refine (Hp.out _ (h.up (na (n0 w) _))).mono ?_
    rintro e w1 ⟨rfl, hb⟩
    have hbl := nx (na (n0 w) _) hb
    have hA := (At.new2 w 31).up hb
    obtain ⟨w2, hst, hA2, hB2, hK2⟩ := store_ex (fresh w1 (b := w1.heap.size) rfl) (T P n)
    have hbl2 := (na hbl _).trans (hB2 _ hbl.size)
    have hA' := hK2 _ _ _ (Nat.ne_of_lt hA.lt) (hA.past _)
    have cj := hA2.cell j hj
    rw [hm] at cj
    clear hb hbl hB2 hK2 hA
    go_wp2_with fail
    clear hst
    go_region_with (first | (go_at_call 59; refine (Ho.out _).mono ?_; rintro e w' ⟨rfl, rfl⟩) | (go_at_call 58; refine (Hf.out _).mono ?_; rintro e w3 ⟨rfl, hb3⟩; have hA3 := At.stay (k := 1) hA' hb3; have hbl3 := stayB (k := 1) hbl2 hb3; have c0 := hA3.cell 0 (by omega); have c1 := hA3.cell 1 (by omega); have z0 := hA3.free 0; have z1 := hA3.free 1))
    all_goals
      go_wp2_with fail
      refine ret_cell_tmp (b := w.heap.size) (n := 2) (f := fr ((m : Int) / (Nat.gcd m N6 : Nat)) ((N6 : Int) / (Nat.gcd m N6 : Nat))) Try.results24 rfl rfl Try.underlying31 (by kernel_rfl) (fin2' hA3 _ _) rfl ⟨rfl, ?_⟩
      exact (hbl3.setCell (p := ⟨w.heap.size, 0, none⟩) (Nat.le_refl _) _).setCell (p := ⟨w.heap.size, 1, none⟩) (Nat.le_refl _) _
  · rw [if_neg (by simpa using hin)]
    by_cases hk0 : k < 0
    · have hd0 : decide (k < 0) = true := decide_eq_true hk0
      have Hp := Lib.hid hp; clear hp
      go_enter Try.func24, Try.ntmps24
      go_wp2_with fail
      refine (Hp.out _ (h.up (na (n0 w) _))).mono ?_
      rintro e w1 ⟨rfl, hb⟩
      have hbl := nx (na (n0 w) _) hb
      have hA := (At.new2 w 31).up hb
      obtain ⟨w2, hst, hA2, hB2, hK2⟩ := store_ex (fresh w1 (b := w1.heap.size) rfl) (T P n)
      have hbl2 := (na hbl _).trans (hB2 _ hbl.size)
      have hA' := hK2 _ _ _ (Nat.ne_of_lt hA.lt) (hA.past _)
      have c0 := hA'.cell 0 (by omega)
      have c1 := hA'.cell 1 (by omega)
      have z0 := hA'.free 0
      have z1 := hA'.free 1
      clear hb hbl hB2 hK2 hA
      go_wp2_with fail
      refine ret_cell_tmp (b := w.heap.size) (n := 2) (f := fr 0 0) Try.results24 rfl rfl Try.underlying31 (by kernel_rfl) (fin2' hA' 0 0) rfl ⟨rfl, ?_⟩
      exact (hbl2.setCell (p := ⟨w.heap.size, 0, none⟩) (Nat.le_refl _) _).setCell (p := ⟨w.heap.size, 1, none⟩) (Nat.le_refl _) _
    · have hd0 : decide (k < 0) = false := decide_eq_false hk0
      have hd1 : decide (121 ≤ k) = true := decide_eq_true (by omega)
      have Hp := Lib.hid hp; clear hp
      go_enter Try.func24, Try.ntmps24
      go_wp2_with fail
      refine (Hp.out _ (h.up (na (n0 w) _))).mono ?_
      rintro e w1 ⟨rfl, hb⟩
      have hbl := nx (na (n0 w) _) hb
      have hA := (At.new2 w 31).up hb
      obtain ⟨w2, hst, hA2, hB2, hK2⟩ := store_ex (fresh w1 (b := w1.heap.size) rfl) (T P n)
      have hbl2 := (na hbl _).trans (hB2 _ hbl.size)
      have hA' := hK2 _ _ _ (Nat.ne_of_lt hA.lt) (hA.past _)
      have c0 := hA'.cell 0 (by omega)
      have c1 := hA'.cell 1 (by omega)
      have z0 := hA'.free 0
      have z1 := hA'.free 1
      clear hb hbl hB2 hK2 hA
      go_wp2_with fail
      refine ret_cell_tmp (b := w.heap.size) (n := 2) (f := fr 0 0) Try.results24 rfl rfl Try.underlying31 (by kernel_rfl) (fin2' hA' 0 0) rfl ⟨rfl, ?_⟩
      exact (hbl2.setCell (p := ⟨w.heap.size, 0, none⟩) (Nat.le_refl _) _).setCell (p := ⟨w.heap.size, 1, none⟩) (Nat.le_refl _) _


end ChanceW
end Go.Proofs.Ytllcjgladjcoaab
