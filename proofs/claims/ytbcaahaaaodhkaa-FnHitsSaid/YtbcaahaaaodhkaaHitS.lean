/-
  HitTable, by the model.
-/
import Derived.Test.YtbcaahaaaodhkaaRows
import Derived.Test.YtbcaahaaaodhkaaHits
import Derived.Test.YtbcaahaaaodhkaaFive
import Derived.Test.YtbcaahaaaodhkaaPoolW
import Derived.Test.YtbcaahaaaodhkaaDicesW
import Derived.Test.YtbcaahaaaodhkaaOpenD
import Derived.WalkKit
import Derived.WalkLawsBesides
import Derived.WalkSpells
import Derived.ProofKit
import Derived.OpenShut
import Derived.Deep.RegionWith
import Derived.Deep.QuietTactic
import Derived.BigQuiet
namespace Go.Proofs.Ytbcaahaaaodhkaa
open Go.ChangeShapes Go.WideShapes Go.ChangeAt Go.RowKit
open Go.ChangeMaps (open_string shut_string)

namespace HitS
open Dice Arr OpenD DieW SortW DicesW PoolW Hits Five

set_option maxHeartbeats 8000000 in
theorem l4Hits_any (A : Option Addr) (n c : Nat) (P : Nat → Nat → Int) (b : Int) (w : World) (h : Row w A n P) (h4 : n ≤ 4) :
    Calls Try.prog 75 #[.slice A n c, .int .i64 b] w fun e w' => e = .returned (v5 (HT P b n)) ∧ Below w.heap.size w w' := by
  have H := Lib.hid h; clear h
  have hr2 := (At.new5 w (fun _ => 0) 45 rfl).past (fiveO one5 45)
  have hA2 := At.new5 (w.alloc (fiveO (fun _ => 0) 45)) one5 45 (b := w.heap.size + 1) (by rw [size_alloc])
  have hbl2 := na (na (n0 w) (fiveO (fun _ => 0) 45)) (fiveO one5 45)
  go_enter Try.func75, Try.ntmps75
  go_wp2_with fail
  go_loopw [6] (fun iv wr => ∃ i : Nat, i ≤ n ∧ iv = .int .i64 i ∧ Below w.heap.size w wr ∧ At wr w.heap.size 5 (fun _ => 0) ∧ At wr (w.heap.size + 1) 5 (HT P b i)) (fun iv _ => n - (intOf iv).toNat)
  case atStart => exact ⟨0, by omega, rfl, hbl2, hr2, hA2⟩
  case round =>
    clear hbl2 hr2 hA2
    obtain ⟨i, hi, rfl, hb, hr, hW⟩ := hrel
    by_cases hlt : i < n
    · obtain ⟨W0, rfl⟩ : ∃ W0, W0 = wr := ⟨wr, rfl⟩
      have hit : decide ((i : Int) < (n : Int)) = true := decide_eq_true (by omega)
      obtain ⟨bk, o, rfl, hbk, hc⟩ := (H.out.below (Nat.le_refl _) hb).at_ hlt
      have Hc := Lib.hid hc; clear hc
      go_wp2_with fail
      go_loopw [7, 8] (fun hv kv wr => ∃ k : Nat, k ≤ 6 ∧ kv = .int .i64 k ∧ hv = .int .i64 (hitN (P i) b k : Nat) ∧ wr = W0) (fun _ kv _ => 6 - (intOf kv).toNat)
      case atStart => exact ⟨0, by omega, rfl, rfl, rfl⟩
      case round =>
        obtain ⟨k, hk, rfl, rfl, rfl⟩ := hrel
        by_cases hk6 : k < 6
        · have ck := Hc.out k hk6
          simp only [← Nat.add_assoc] at ck
          have hle := hitN_le (P i) b k
          by_cases hh : b ≤ P i k
          · have hd1 : decide (b ≤ P i k) = true := decide_eq_true hh
            have He := Lib.hid (hitN_yes hh)
            generalize hitN (P i) b k = h0 at *
            go_wp2_with fail
            go_roundw
            case rel => exact ⟨k + 1, by omega, by go_num, by rw [He.out]; go_num, by first | rfl | trivial⟩
            case measure => simp [intOf]; omega
          · have hd1 : decide (b ≤ P i k) = false := decide_eq_false hh
            have He := Lib.hid (hitN_no hh)
            generalize hitN (P i) b k = h0 at *
            go_wp2_with fail
            go_roundw
            case rel => exact ⟨k + 1, by omega, by go_num, by rw [He.out], by first | rfl | trivial⟩
            case measure => simp [intOf]; omega
        · obtain rfl : k = 6 := by omega
          clear hk6 hk
          obtain ⟨W1, rfl⟩ : ∃ W1, W1 = wr := ⟨wr, rfl⟩
          have ht := HT_small P b (i := i) (by omega)
          have hh := hitN_le (P i) b 6
          have HX : Hid (HT P b (i + 1) = hs (HT P b i) (hitN (P i) b 6) (i + 1)) := rfl
          generalize hitN (P i) b 6 = h at *
          generalize HT P b i = f at *
          have hN := At.new5 W1 (fun _ => 0) 45 rfl
          have hb3 := na hb (fiveO (fun _ => 0) 45)
          have hr3 := hr.past (fiveO (fun _ => 0) 45)
          have hW3 := hW.past (fiveO (fun _ => 0) 45)
          have hlt1 : w.heap.size + 1 < W1.heap.size := hW.lt
          clear hb hr hW
          go_wp2_with fail
          generalize W1.heap.size = nb at *
          go_loopw [10] (fun kv wr => ∃ k : Nat, k ≤ i + 1 ∧ kv = .int .i64 k ∧ Below w.heap.size w wr ∧ At wr w.heap.size 5 (fun _ => 0) ∧ At wr (w.heap.size + 1) 5 f ∧ At wr nb 5 (hs f h k)) (fun kv _ => i + 1 - (intOf kv).toNat)
          case atStart => exact ⟨0, by omega, rfl, hb3, hr3, hW3, by rw [hs_zero]; exact hN⟩
          case round =>
            clear hb3 hr3 hW3 hN
            obtain ⟨k, hk, rfl, hb, hr, hW, hN⟩ := hrel
            by_cases hki : k < i + 1
            · have hkd : decide ((k : Int) ≤ (i : Int)) = true := decide_eq_true (by omega)
              have c0 := hW.cell k (by omega)
              have c1 := hN.cell k (by omega)
              have z1 := hN.free k
              have b1 := ht.hs_bound hh k k
              have b2 := ht.hs_bound hh k (k + 1)
              have b3 := part_bound (ht.nn k).1 (ht.nn k).2 hh
              have hP := Lib.hid (hs_put f h k)
              go_wp2_with fail
              go_region
              all_goals
                have hr1 := (hr.other (p := nb) (by omega) k (.int .i64 (hs f h k k + f k * (6 - (h : Int))))).drew
                have hW1 := (hW.other (p := nb) (by omega) k (.int .i64 (hs f h k k + f k * (6 - (h : Int))))).drew
                have hN1 := (hN.set (i := k) (by omega) (hs f h k k + f k * (6 - (h : Int)))).drew
                have hb1 := (hb.setCell (p := ⟨nb, k, none⟩) (by show w.heap.size ≤ nb; omega) (.int .i64 (hs f h k k + f k * (6 - (h : Int))))).drew
                have d0 := hW1.cell k (by omega)
                have d1 := hN1.cell (k + 1) (by omega)
                rw [put_other _ (by omega)] at d1
                have y1 := hN1.free (k + 1)
                clear c0 c1 z1 hb hr hW hN
                go_wp2_with fail
                go_region
                all_goals
                  go_wp2_with fail
                  go_roundw
                  case rel => exact ⟨k + 1, by omega, by go_num, hb1.drew.setCell (p := ⟨nb, k + 1, none⟩) (by show w.heap.size ≤ nb; omega) _, hr1.drew.other (by omega) _ _, hW1.drew.other (by omega) _ _, by rw [← hP.out]; exact hN1.drew.set (by omega) _⟩
                  case measure => simp [intOf]; omega
            · obtain rfl : k = i + 1 := by omega
              have hkd : decide (((i + 1 : Nat) : Int) ≤ (i : Int)) = false := decide_eq_false (by omega)
              obtain ⟨x0, x1, x2, x3, x4⟩ := At.five hN
              obtain ⟨u0, u1, u2, u3, u4⟩ := At.five hW
              obtain ⟨t0, t1, t2, t3, t4⟩ := At.freefive hW
              go_wp2_with fail
              go_roundw
              case rel => exact ⟨i + 1, by omega, by go_num, hb.trans (setCells_below (p := w.heap.size + 1) (by omega) (vals 5 (hs f h (i + 1))) 0), hr.keep (p := w.heap.size + 1) (by omega) (vals 5 (hs f h (i + 1))) 0, by rw [HX.out]; exact hW.stored (hs f h (i + 1))⟩
              case measure => simp [intOf]; omega
    · obtain rfl : i = n := by omega
      obtain ⟨x0, x1, x2, x3, x4⟩ := At.five hW
      obtain ⟨y0, y1, y2, y3, y4⟩ := At.five hr
      obtain ⟨t0, t1, t2, t3, t4⟩ := At.freefive hr
      go_wp2_with fail
      refine ret_cell (b := w.heap.size) (n := 5) (f := HT P b i) Try.results75 rfl Try.underlying45 (by kernel_rfl) (hr.stored (HT P b i)) rfl ⟨rfl, ?_⟩
      exact hb.trans (setCells_below (w := wr) (p := w.heap.size) (B := w.heap.size) (Nat.le_refl _) (vals 5 (HT P b i)) 0)

theorem l4Bound_any (b : Int) (w : World) :
    Calls Try.prog 74 #[.int .i64 b] w fun e w' => e = .returned (.bool (decide (0 ≤ b ∧ b ≤ 31))) ∧ w' = w := by
  obtain ⟨v, hv⟩ : ∃ v, decide (0 ≤ b ∧ b ≤ 31) = v := ⟨_, rfl⟩
  have hin := fun w => l1In_any b 0 31 w
  rw [hv] at hin ⊢
  have Hin := Lib.hid hin; clear hin hv
  go_enter Try.func74, Try.ntmps74
  go_wp2_with fail
  refine (Hin.out _).mono ?_
  rintro e w1 ⟨rfl, rfl⟩
  go_wp2_with fail
  go_ret
  exact ⟨rfl, rfl⟩

set_option maxHeartbeats 4000000 in
theorem specHits_any (A : Option Addr) (n c : Nat) (P : Nat → Nat → Int) (b : Int) (w : World) (h : Row w A n P) (hn : n ≤ maxLen) :
    Calls Try.prog 28 #[.slice A n c, .int .i64 b] w fun e w' => e = .returned (.tuple (if isPool n P && decide (0 ≤ b ∧ b ≤ 31) then #[v5 (HT P b n), .bool true] else #[v5 fun _ => 0, .bool false])) ∧ Below w.heap.size w w' := by
  have hp := fun w h => l2Pool_any A n c P w h hn
  have hR := At.new5 w (fun _ => 0) 45 (b := w.heap.size) rfl
  cases hq : isPool n P
  · rw [hq] at hp
    simp only [Bool.false_and, Bool.false_eq_true, ↓reduceIte]
    have Hp := Lib.hid hp; clear hp hq
    have H := Lib.hid h; clear h
    go_enter Try.func28, Try.ntmps28
    go_wp2_with fail
    refine (Hp.out _ (H.out.up (na (n0 w) _))).mono ?_
    rintro e w1 ⟨rfl, hb⟩
    have hbl := nx (na (n0 w) _) hb
    have hA := hR.up hb
    obtain ⟨e0, e1, e2, e3, e4⟩ := At.five hA
    obtain ⟨z0, z1, z2, z3, z4⟩ := At.freefive hA
    clear hb
    go_wp2_with fail
    refine ret_cell_tmp (b := w.heap.size) (n := 5) (f := fun _ => 0) Try.results28 rfl rfl Try.underlying45 (by kernel_rfl) (hA.stored (fun _ => 0)) rfl ⟨rfl, ?_⟩
    exact hbl.trans (setCells_below (w := w1) (p := w.heap.size) (B := w.heap.size) (Nat.le_refl _) (vals 5 fun _ => 0) 0)
  rw [hq] at hp
  have Hp := Lib.hid hp; clear hp
  have H := Lib.hid h; clear h
  obtain ⟨h1, h4, _⟩ := of_pool hq
  have Hb := Lib.hid (fun w => l4Bound_any b w)
  have Ht := Lib.hid (fun w h => l4Hits_any A n c P b w h h4)
  cases hd : decide (0 ≤ b ∧ b ≤ 31)
  · rw [hd] at Hb
    simp only [Bool.and_false, Bool.false_eq_true, ↓reduceIte]
    clear hq hd
    go_enter Try.func28, Try.ntmps28
    go_wp2_with fail
    refine (Hp.out _ (H.out.up (na (n0 w) _))).mono ?_
    rintro e w1 ⟨rfl, hb⟩
    go_wp2_with fail
    refine (Hb.out _).mono ?_
    rintro e w9 ⟨rfl, hw9⟩
    have hw9 := hw9.symm
    subst hw9
    have hbl := nx (na (n0 w) _) hb
    have hA := hR.up hb
    obtain ⟨e0, e1, e2, e3, e4⟩ := At.five hA
    obtain ⟨z0, z1, z2, z3, z4⟩ := At.freefive hA
    clear hb
    go_wp2_with fail
    refine ret_cell_tmp (b := w.heap.size) (n := 5) (f := fun _ => 0) Try.results28 rfl rfl Try.underlying45 (by kernel_rfl) (hA.stored (fun _ => 0)) rfl ⟨rfl, ?_⟩
    exact hbl.trans (setCells_below (w := w1) (p := w.heap.size) (B := w.heap.size) (Nat.le_refl _) (vals 5 fun _ => 0) 0)
  · rw [hd] at Hb
    simp only [Bool.and_self, ↓reduceIte]
    clear hq hd
    go_enter Try.func28, Try.ntmps28
    go_wp2_with fail
    refine (Hp.out _ (H.out.up (na (n0 w) _))).mono ?_
    rintro e w1 ⟨rfl, hb⟩
    have hbl := nx (na (n0 w) _) hb
    have hA := hR.up hb
    clear hb
    go_wp2_with fail
    refine (Hb.out _).mono ?_
    rintro e w9 ⟨rfl, rfl⟩
    go_wp2_with fail
    refine (Ht.out _ (H.out.up hbl)).mono ?_
    rintro e w2 ⟨rfl, hb2⟩
    have hbl2 := nx hbl hb2
    have hA2 := hA.up hb2
    obtain ⟨e0, e1, e2, e3, e4⟩ := At.five hA2
    obtain ⟨z0, z1, z2, z3, z4⟩ := At.freefive hA2
    clear hb2 hA
    go_wp2_with fail
    refine ret_cell_tmp (b := w.heap.size) (n := 5) (f := HT P b n) Try.results28 rfl rfl Try.underlying45 (by kernel_rfl) (hA2.stored (HT P b n)) rfl ⟨rfl, ?_⟩
    exact hbl2.trans (setCells_below (w := w2) (p := w.heap.size) (B := w.heap.size) (Nat.le_refl _) (vals 5 (HT P b n)) 0)


end HitS
end Go.Proofs.Ytbcaahaaaodhkaa
