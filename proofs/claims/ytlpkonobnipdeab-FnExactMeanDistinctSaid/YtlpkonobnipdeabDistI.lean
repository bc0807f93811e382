/-
  MeanDistinct, by the program.
-/
import Derived.Test.YtlpkonobnipdeabRows
import Derived.Test.YtlpkonobnipdeabPatsI
import Derived.Test.YtlpkonobnipdeabMeanI
import Derived.Test.YtlpkonobnipdeabRollR
import Derived.Test.YtlpkonobnipdeabFiveB
import Derived.Test.YtlpkonobnipdeabFracW
import Derived.Test.YtlpkonobnipdeabCutW
import Derived.Test.YtlpkonobnipdeabPatS
import Derived.Test.YtlpkonobnipdeabPlS
import Derived.Test.YtlpkonobnipdeabPatI
import Derived.Test.YtlpkonobnipdeabPlI
import Derived.Test.YtlpkonobnipdeabFour
import Derived.Test.YtlpkonobnipdeabPatM
import Derived.Test.YtlpkonobnipdeabSortDn
import Derived.Test.YtlpkonobnipdeabPlaces
import Derived.Test.YtlpkonobnipdeabRollWM
import Derived.Test.YtlpkonobnipdeabIntsM
import Derived.Test.YtlpkonobnipdeabPoolW
import Derived.Test.YtlpkonobnipdeabAll6
import Derived.Test.YtlpkonobnipdeabDicesW
import Derived.Test.YtlpkonobnipdeabOpenD
import Derived.WalkKit
import Derived.WalkLawsBesides
import Derived.WalkSpells
import Derived.ProofKit
import Derived.OpenShut
import Derived.Deep.RegionWith
import Derived.Deep.QuietTactic
import Derived.BigQuiet
namespace Go.Proofs.Ytlpkonobnipdeab
open Go.ChangeShapes Go.WideShapes Go.ChangeAt Go.RowKit
open Go.ChangeMaps (open_string shut_string)

namespace DistI
open Dice Arr OpenD DieW SortW DicesW PoolW All6 IntsW RollW Places PatM SortDn PlI Four PatI FracW CutW Five RollR MeanI PatsI PlS PatS

/-- How many of the first k numbers are greater than 0. -/
def posN (f : Nat → Int) : Nat → Nat
  | 0 => 0
  | k + 1 => posN f k + (if 0 < f k then 1 else 0)
theorem posN_le (f : Nat → Int) (k : Nat) : posN f k ≤ k := by
  induction k with
  | zero => exact Nat.le_refl _
  | succ k ih => unfold posN; split <;> omega
theorem posN_yes {f : Nat → Int} {k : Nat} (h : 0 < f k) : posN f (k + 1) = posN f k + 1 := by
  show posN f k + (if 0 < f k then 1 else 0) = _
  rw [if_pos h]
theorem posN_no {f : Nat → Int} {k : Nat} (h : ¬ 0 < f k) : posN f (k + 1) = posN f k := by
  show posN f k + (if 0 < f k then 1 else 0) = _
  rw [if_neg h]
  rfl
def grp (P : Nat → Nat → Int) (n i : Nat) : Nat := posN (pat (rollF P i n) n) 4
/-- The numbers of different faces of the first N rolls, added up. -/
def dsum (P : Nat → Nat → Int) (n : Nat) : Nat → Nat
  | 0 => 0
  | N + 1 => dsum P n N + grp P n N
theorem dsum_le (P : Nat → Nat → Int) (n N : Nat) : dsum P n N ≤ 4 * N := by
  induction N with
  | zero => exact Nat.le_refl _
  | succ N ih =>
    have := posN_le (pat (rollF P N n) n) 4
    unfold dsum grp
    omega
theorem wpre_put (g : Nat → Int) (j : Nat) (n : Nat) : wpre (put g j (g j + 1)) n = wpre g n + (if j < n then (j : Int) else 0) := by
  induction n with
  | zero => simp [wpre]
  | succ n ih =>
    unfold wpre
    rw [ih]
    by_cases hj : j < n
    · rw [if_pos hj, if_pos (by omega), put_other _ (by omega)]
      omega
    · by_cases hjn : j = n
      · subst hjn
        rw [if_neg hj, if_pos (by omega), put_same, Int.mul_add, Int.mul_one]
        omega
      · rw [if_neg hj, if_neg (by omega), put_other _ (by omega)]
        omega
theorem wpre_zero (n : Nat) : wpre (fun _ => 0) n = 0 := by
  induction n with
  | zero => rfl
  | succ n ih => rw [wpre, ih]; simp
theorem wpre_cnt (P : Nat → Nat → Int) (n N : Nat) : wpre (cnt (fun i => (grp P n i : Nat)) N) 5 = (dsum P n N : Nat) := by
  induction N with
  | zero => exact wpre_zero 5
  | succ N ih =>
    have h := posN_le (pat (rollF P N n) n) 4
    have e : cnt (fun i => ((grp P n i : Nat) : Int)) (N + 1) = put (cnt (fun i => ((grp P n i : Nat) : Int)) N) (grp P n N) (cnt (fun i => ((grp P n i : Nat) : Int)) N (grp P n N) + 1) := cnt_next (q := grp P n N) rfl
    have hg : grp P n N < 5 := by unfold grp; omega
    rw [e, wpre_put, if_pos hg, ih]
    show _ = ((dsum P n N + grp P n N : Nat) : Int)
    omega
theorem pre_cnt (P : Nat → Nat → Int) (n N : Nat) : pre (cnt (fun i => (grp P n i : Nat)) N) 5 = N :=
  cnt_all (m := 5) (fun i => by
    have h := posN_le (pat (rollF P i n) n) 4
    show (0 : Int) ≤ (grp P n i : Nat) ∧ ((grp P n i : Nat) : Int) < ((5 : Nat) : Int)
    unfold grp
    omega) N

set_option maxRecDepth 20000 in
set_option maxHeartbeats 4000000 in
theorem implDist_any (A : Option Addr) (n c : Nat) (P : Nat → Nat → Int) (w : World) (h : Row w A n P) (hn : n ≤ maxLen) :
    Calls Try.prog 25 #[.slice A n c] w fun e w' => e = .returned (.tuple (if isPool n P then #[cutV (dsum P n (all6 n)) (all6 n), .bool true] else #[v2 0 0, .bool false])) ∧ Below w.heap.size w w' := by
  have hR := At.new2 w 31
  have H := Lib.hid h; clear h
  cases hq : isPool n P
  · simp only [Bool.false_eq_true, ↓reduceIte]
    have Hp := Lib.hid (fun w h => pats_no A n c P w h hn hq)
    clear hq
    go_enter Try.func25, Try.ntmps25
    go_wp2_with fail
    refine (Hp.out _ (H.out.up (na (n0 w) _))).mono ?_
    rintro e w1 ⟨rfl, hb⟩
    have hbl := nx (na (n0 w) _) hb
    have hA := hR.up hb
    clear hb
    have c0 := hA.cell 0 (by omega)
    have c1 := hA.cell 1 (by omega)
    have z0 := hA.free 0
    have z1 := hA.free 1
    go_wp2_with fail
    refine ret_cell_tmp (b := w.heap.size) (n := 2) (f := fr 0 0) Try.results25 rfl rfl Try.underlying31 (by kernel_rfl) (fin2' hA 0 0) rfl ⟨rfl, ?_⟩
    exact (hbl.setCell (p := ⟨w.heap.size, 0, none⟩) (Nat.le_refl _) _).setCell (p := ⟨w.heap.size, 1, none⟩) (Nat.le_refl _) _
  · simp only [↓reduceIte]
    have Hp := Lib.hid (fun w h => pats_yes A n c P w h hn hq)
    have h6 := all6_le (of_pool hq).2.1
    clear hq
    obtain ⟨s, hs⟩ : ∃ s : Nat → Int, s = fun i => ((grp P n i : Nat) : Int) := ⟨_, rfl⟩
    have hwp := wpre_cnt P n (all6 n)
    have hpr := pre_cnt P n (all6 n)
    rw [← hs] at hwp hpr
    have hnn : ∀ j, 0 ≤ cnt s (all6 n) j := fun j => (cnt_bound _ _ j).1
    have hm := fun b w h => meanOf_any b 5 5 (all6 n) (cnt s (all6 n)) w h hnn hpr (by omega) (by omega) (by omega)
    rw [hwp, Int.toNat_natCast] at hm
    have hsi : ∀ i, s i = (posN (pat (rollF P i n) n) 4 : Nat) := fun i => by rw [hs]; rfl
    have hpl : ∀ i, posN (pat (rollF P i n) n) 4 ≤ 4 := fun i => posN_le _ 4
    have Hcn := Lib.hid (fun (i : Nat) (q : Nat) (h : s i = (q : Int)) => cnt_next h)
    have hcb := fun i j => cnt_bound s i j
    have Hfa := Lib.hid (fun i q (hq : q < 4) => patF_at P n i hq)
    have Hsi := Lib.hid hsi; clear hsi hs hwp hpr hnn
    unfold cutV at hm ⊢
    generalize dsum P n (all6 n) = m at *
    have Hm := Lib.hid hm; clear hm
    generalize all6 n = N6 at *
    go_enter Try.func25, Try.ntmps25
    go_wp2_with fail
    refine (Hp.out _ (H.out.up (na (n0 w) _))).mono ?_
    rintro e w1 ⟨g, rfl, hg, hG, hb⟩
    have hbl := nx (na (n0 w) _) hb
    have hA := hR.up hb
    have hT := At.new5 w1 (fun _ => 0) 63 rfl
    have hbT := na (n0 w1) (fiveO (fun _ => 0) 63)
    have hlt1 : w.heap.size < w1.heap.size := hA.lt
    have hgl := hG.lt
    clear hb
    go_wp2_with fail
    go_loopw [22] (fun iv wr => ∃ i : Nat, i ≤ N6 ∧ iv = .int .i64 i ∧ Below w1.heap.size w1 wr ∧ At wr w1.heap.size 5 (cnt s i)) (fun iv _ => N6 - (intOf iv).toNat)
    case atStart => exact ⟨0, by omega, rfl, hbT, hT⟩
    case round =>
      clear hT hbT
      obtain ⟨i, hi, rfl, hB, hT⟩ := hrel
      by_cases hlt : i < N6
      · have hGr := hG.below hgl hB
        obtain ⟨y0, y1, y2, y3⟩ := from4 hGr (i * 4) (by omega)
        have f0 := Hfa.out i 0 (by omega)
        have f1 := Hfa.out i 1 (by omega)
        have f2 := Hfa.out i 2 (by omega)
        have f3 := Hfa.out i 3 (by omega)
        rw [Nat.add_zero] at f0
        rw [f0] at y0
        rw [f1] at y1
        rw [f2] at y2
        rw [f3] at y3
        have hci := hcb i
        have Hci := Lib.hid (fun q h => Hcn.out i q h)
        have hsi := Hsi.out i
        have hpi := hpl i
        have hpk : ∀ k, posN (pat (rollF P i n) n) k ≤ k := fun k => posN_le _ k
        have Hy := Lib.hid (fun k => @posN_yes (pat (rollF P i n) n) k)
        have Hn := Lib.hid (fun k => @posN_no (pat (rollF P i n) n) k)
        clear f0 f1 f2 f3 hcb
        generalize hpg : posN (pat (rollF P i n) n) = ps at *
        have hps0 : ps 0 = 0 := by rw [← hpg]; rfl
        clear hpg
        generalize pat (rollF P i n) n = r at *
        have hix0 := fun (w : World) (k : Nat) (hk : k < 4) => run_index_vals (P := Try.prog) w 23 3 4 Try.underlying23 Try.underlying3 Try.sizeOf3 r hk
        simp only [← v4_vals] at hix0
        have Hix0 := Lib.hid hix0; clear hix0
        have hT2 := hT.past (fourO r 23)
        have hB2 := hB.alloc hB.size (fourO r 23)
        have hl4 := At.new4 wr r 23 rfl
        obtain ⟨l0, l1, l2, l3⟩ := At.four hl4
        have HT2 := Lib.hid (And.intro hT2 hB2)
        clear hT hB hT2 hB2 hl4 hGr
        go_wp2_with fail
        clear l0 l1 l2 l3 y0 y1 y2 y3
        generalize wr.alloc (fourO r 23) = W at *
        go_loopw [9, 27] (fun gv kv wx => ∃ k : Nat, k ≤ 4 ∧ kv = .int .i64 k ∧ gv = .int .i64 (ps k : Nat) ∧ wx = W) (fun _ kv _ => 4 - (intOf kv).toNat)
        case atStart => exact ⟨0, by omega, rfl, by rw [hps0]; rfl, rfl⟩
        case round =>
          obtain ⟨k, hk, rfl, rfl, rfl⟩ := hrel
          by_cases hk4 : k < 4
          · have hixk := fun w => Hix0.out w k hk4
            have hle := hpk k
            by_cases hh : 0 < r k
            · have hd1 : decide (0 < r k) = true := decide_eq_true hh
              have He := Lib.hid (Hy.out k hh)
              generalize ps k = h0 at *
              go_wp2_with fail
              go_roundw
              case rel => exact ⟨k + 1, by omega, by go_num, by rw [He.out]; go_num, by first | rfl | trivial⟩
              case measure => simp [intOf]; omega
            · have hd1 : decide (0 < r k) = false := decide_eq_false hh
              have He := Lib.hid (Hn.out k (by omega))
              generalize ps k = h0 at *
              go_wp2_with fail
              go_roundw
              case rel => exact ⟨k + 1, by omega, by go_num, by rw [He.out], by first | rfl | trivial⟩
              case measure => simp [intOf]; omega
          · obtain rfl : k = 4 := by omega
            have Hc1 := Lib.hid (Hci.out (ps 4) hsi)
            generalize ps 4 = q at *
            have hqm : q < 5 := by omega
            obtain ⟨hT2, hB2⟩ := HT2.out
            have cq := hT2.cell q hqm
            have zq := hT2.free q
            have hcq := hci q
            clear hci Hci hk4 hk
            go_wp2_with fail
            go_roundw
            case rel => exact ⟨i + 1, by omega, by go_num, hB2.setCell (p := ⟨w1.heap.size, q, none⟩) (Nat.le_refl _) _, by rw [Hc1.out]; exact hT2.set hqm _⟩
            case measure => simp [intOf]; omega
      · obtain rfl : i = N6 := by omega
        have hbl2 := hbl.trans (hB.mono hbl.size)
        have hA2 := hA.below hlt1 hB
        clear hbl hA hlt
        go_wp2_with fail
        refine (Hm.out _ _ hT).mono ?_
        rintro e w3 ⟨rfl, hb3⟩
        have hbl := nx hbl2 hb3
        have hA := hA2.up hb3
        clear hb3
        have c0 := hA.cell 0 (by omega)
        have c1 := hA.cell 1 (by omega)
        have z0 := hA.free 0
        have z1 := hA.free 1
        go_wp2_with fail
        refine ret_cell_tmp (b := w.heap.size) (n := 2) (f := fr ((m : Int) / (Nat.gcd m i : Nat)) ((i : Int) / (Nat.gcd m i : Nat))) Try.results25 rfl rfl Try.underlying31 (by kernel_rfl) (fin2' hA ((m : Int) / (Nat.gcd m i : Nat)) ((i : Int) / (Nat.gcd m i : Nat))) rfl ⟨rfl, ?_⟩
        exact (hbl.setCell (p := ⟨w.heap.size, 0, none⟩) (Nat.le_refl _) _).setCell (p := ⟨w.heap.size, 1, none⟩) (Nat.le_refl _) _


end DistI
end Go.Proofs.Ytlpkonobnipdeab
