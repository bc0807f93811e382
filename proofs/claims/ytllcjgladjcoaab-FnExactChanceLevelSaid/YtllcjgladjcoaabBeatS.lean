/-
  The chances that one pool's sum is greater than another one's, or the same, by the specification.
-/
import Derived.Test.YtllcjgladjcoaabRows
import Derived.Test.YtllcjgladjcoaabOver
import Derived.Test.YtllcjgladjcoaabChanceW
import Derived.Test.YtllcjgladjcoaabTableE
import Derived.Test.YtllcjgladjcoaabTableS
import Derived.Test.YtllcjgladjcoaabTableI
import Derived.Test.YtllcjgladjcoaabTableW
import Derived.Test.YtllcjgladjcoaabTable
import Derived.Test.YtllcjgladjcoaabSumsW
import Derived.Test.YtllcjgladjcoaabCutW
import Derived.Test.YtllcjgladjcoaabDicesW
import Derived.Test.YtllcjgladjcoaabOpenD
import Derived.WalkKit
import Derived.WalkLawsBesides
import Derived.WalkSpells
import Derived.ProofKit
import Derived.OpenShut
import Derived.Deep.RegionWith
import Derived.Deep.WholeRow
import Derived.Deep.QuietTactic
import Derived.BigQuiet
namespace Go.Proofs.Ytllcjgladjcoaab
open Go.ChangeShapes Go.WideShapes Go.ChangeAt Go.RowKit
open Go.ChangeMaps (open_string shut_string)

namespace BeatS
open Dice Arr OpenD DieW SortW DicesW PoolW FracW SumsW Table TableW TableI TableS TableE CutW ChanceW Over

theorem belowN {B : Nat} {w w' : World} (h : Below B w w') (q : Nat) : Below B w (w'.drewN q) := ⟨h.os, h.tape, h.output, h.size, h.block⟩

set_option maxRecDepth 100000 in
set_option maxHeartbeats 4000000 in
theorem l3Chance_over (A B : Option Addr) (n m c c' : Nat) (P Q : Nat → Nat → Int) (w : World) (h : Row w A n P) (h' : Row w B m Q) (hq : isPool n P = true) (hr : isPool m Q = true) :
    Calls Try.prog 67 #[.slice A n c, .slice B m c', .bool false] w fun e w' => e = .returned (cutV (over (T P n) (T Q m) 121).toNat (all6 n * all6 m)) ∧ Below w.heap.size w w' := by
  obtain ⟨_, h4, hd⟩ := of_pool hq
  obtain ⟨_, h4', hd'⟩ := of_pool hr
  clear hq hr
  have Ht := Lib.hid (fun w h => l2Table_any A n c P w h h4 hd)
  have Ht' := Lib.hid (fun w h => l2Table_any B m c' Q w h h4' hd')
  have H := Lib.hid h; clear h
  have H' := Lib.hid h'; clear h'
  have Ho := Lib.hid (fun w => l2All_any n w h4)
  have Ho' := Lib.hid (fun w => l2All_any m w h4')
  have hN := all6_le h4
  have hM := all6_le h4'
  have htf := tab_T h4 (die_range' hd) n (Nat.le_refl _)
  have htg := tab_T h4' (die_range' hd') m (Nat.le_refl _)
  have HP := Lib.hid (fun (x y : Nat) (hx : x < 121) (hy : y ≤ 121) => over_part htf htg h4 h4' hx hy)
  have HF := Lib.hid (fun (x : Nat) (hx : x < 121) => htf.small h4 x hx)
  have HG := Lib.hid (fun (y : Nat) (hy : y < 121) => htg.small h4' y hy)
  have hw := over_whole htf htg h4 h4' (x := 121) (Nat.le_refl _)
  have hNM : all6 n * all6 m ≤ 1679616 ∧ 1 ≤ all6 n * all6 m := ⟨Nat.mul_le_mul hN.1 hM.1, Nat.mul_pos hN.2 hM.2⟩
  clear htf htg h4 h4' hd hd'
  generalize T P n = f at *
  generalize T Q m = g at *
  obtain ⟨z, hz⟩ : ∃ z : Nat, over f g 121 = z := ⟨(over f g 121).toNat, by omega⟩
  have hf := fun w => cut_any z (all6 n * all6 m) w (by omega) (by omega) hNM.2
  unfold cutV
  simp only [hz, Int.toNat_natCast]
  have Hf := Lib.hid hf; clear hf
  have Hz := Lib.hid hz; clear hz hw
  generalize all6 n = N at *
  generalize all6 m = M at *
  go_enter Try.func67, Try.ntmps67
  go_wp2_with fail
  refine (Ht.out _ (H.out.up (na (n0 w) _))).mono ?_
  rintro e w3 ⟨rfl, hb3⟩
  have hB3 := nx (na (n0 w) _) hb3
  have hR3 := (At.new2 w 31).up hb3
  clear hb3
  go_wp2_with fail
  refine (Ht'.out _ (H'.out.up hB3)).mono ?_
  rintro e w4 ⟨rfl, hb4⟩
  have hB4 := nx hB3 hb4
  have hR4 := hR3.up hb4
  have hl4 : w.heap.size < w4.heap.size := hR4.lt
  clear hb4 hB3 hR3
  obtain ⟨w5, hst5, hA5, hB5, hK5⟩ := store_ex ((fresh w4 (b := w4.heap.size) rfl).past (.cells Try.zeroCells27 27)) f
  have hG5 := hK5 (w4.heap.size + 1) 121 _ (by omega) (fresh (w4.alloc (.cells Try.zeroCells27 27)) (b := w4.heap.size + 1) (by rw [size_alloc]))
  have hR5 := hK5 w.heap.size 2 _ (by omega) ((hR4.past (.cells Try.zeroCells27 27)).past (.cells Try.zeroCells27 27))
  have hbl5 : Below w.heap.size w w5 := (na (na hB4 _) _).trans (hB5 _ hB4.size)
  obtain ⟨w6, hst6, hG6, hB6, hK6⟩ := store_ex hG5 g
  have hbl6 : Below w.heap.size w w6 := hbl5.trans (hB6 _ (Nat.le_succ_of_le hB4.size))
  have hA6 := hK6 w4.heap.size 121 _ (by omega) hA5
  have hR6 := hK6 w.heap.size 2 _ (by omega) hR5
  clear hB5 hK5 hB4 hG5 hB6 hK6 hA5 hbl5 hR4 hR5
  have hvf := vals_len 121 f
  have hvg := vals_len 121 g
  go_wp2_with fail
  clear hst5 hst6 hvf hvg
  generalize w4.heap.size = b0 at hG6 hA6 hl4 ⊢
  go_loopw [9, 10] (fun mv xv wr => ∃ x : Nat, x ≤ 121 ∧ xv = .int .i64 x ∧ mv = .int .i64 (over f g x) ∧ Below w.heap.size w wr ∧ At wr b0 121 f ∧ At wr (b0 + 1) 121 g ∧ At wr w.heap.size 2 (fun _ => 0)) (fun _ xv _ => 121 - (intOf xv).toNat)
  case atStart => exact ⟨0, by omega, rfl, rfl, hbl6, hA6, hG6, hR6⟩
  case round =>
    clear hbl6 hA6 hG6 hR6
    obtain ⟨x, hx, rfl, rfl, hB, hA, hG, hR⟩ := hrel
    by_cases hlt : x < 121
    · have hxd : decide ((x : Int) < 121) = true := decide_eq_true (by omega)
      go_wp2_with fail
      go_loopw [9, 11] (fun mv yv wr => ∃ y : Nat, y ≤ 121 ∧ yv = .int .i64 y ∧ mv = .int .i64 (over f g x + f x * pre g (if y < x then y else x)) ∧ Below w.heap.size w wr ∧ At wr b0 121 f ∧ At wr (b0 + 1) 121 g ∧ At wr w.heap.size 2 (fun _ => 0)) (fun _ yv _ => 121 - (intOf yv).toNat)
      case atStart => exact ⟨0, by omega, rfl, by rw [cut_zero]; simp [pre], hB, hA, hG, hR⟩
      case round =>
        clear hB hA hG hR
        obtain ⟨y, hy, rfl, rfl, hB, hA, hG, hR⟩ := hrel
        have cx := hA.cell x hlt
        by_cases hly : y < 121
        · have hyd : decide ((y : Int) < 121) = true := decide_eq_true (by omega)
          have cy := hG.cell y hly
          have b1 := HP.out x (y + 1) hlt (by omega)
          have b0' := HP.out x y hlt (by omega)
          have Hst := Lib.hid (over_step f g x y)
          have bp := mul_bound (HF.out x hlt).1 (HG.out y hly).1 (HG.out y hly).2
          have bo := HP.out x x hlt (by omega)
          rw [Hst.out] at b1
          by_cases hyx : y < x
          · have hd1 : decide (y < x) = true := decide_eq_true hyx
            have e1 := Lib.hid (cut_lt hyx)
            rw [if_pos hyx]
            clear bo
            go_wp2_with fail
            go_quiet (fail)
            go_wp2_with fail
            go_roundw
            case rel => exact ⟨y + 1, by omega, by go_num, by rw [e1.out, Hst.out], belowN hB _, hA.drewN _, hG.drewN _, hR.drewN _⟩
            case measure => simp [intOf]; omega
          · have hd1 : decide (y < x) = false := decide_eq_false hyx
            have e1 := Lib.hid (cut_ge hyx)
            rw [if_neg hyx]
            clear b0' b1 bp
            go_wp2_with fail
            go_roundw
            case rel => exact ⟨y + 1, by omega, by go_num, by rw [e1.out], hB, hA, hG, hR⟩
            case measure => simp [intOf]; omega
        · obtain rfl : y = 121 := by omega
          have hyd : decide (((121 : Nat) : Int) < 121) = false := rfl
          have Hend : Hid (over f g x + f x * pre g (if 121 < x then 121 else x) = over f g (x + 1)) := by
            show over f g x + f x * pre g (if 121 < x then 121 else x) = over f g x + _
            rw [if_neg (by omega)]
          rw [Hend.out]
          go_wp2_with fail
          go_roundw
          case rel => exact ⟨x + 1, by omega, by go_num, rfl, hB, hA, hG, hR⟩
          case measure => simp [intOf]; omega
    · obtain rfl : x = 121 := by omega
      have hxd : decide (((121 : Nat) : Int) < 121) = false := rfl
      rw [Hz.out]
      have e1 : ((N : Int) * (M : Int)) = ((N * M : Nat) : Int) := by simp
      have e2 : (N : Int) * (M : Int) ≤ 1679616 := by omega
      have e3 : 0 ≤ (N : Int) * (M : Int) := by omega
      have hf := Hf.out
      simp only [Int.natCast_mul] at hf
      have Hf' := Lib.hid hf; clear hf
      have c0 := hR.cell 0 (by omega)
      have c1 := hR.cell 1 (by omega)
      have z0 := hR.free 0
      have z1 := hR.free 1
      clear e1
      go_wp2_with fail
      refine (Ho.out _).mono ?_
      rintro e w' ⟨rfl, rfl⟩
      go_wp2_with fail
      refine (Ho'.out _).mono ?_
      rintro e w' ⟨rfl, rfl⟩
      go_wp2_with fail
      refine (Hf'.out _).mono ?_
      rintro e w9 ⟨rfl, hb9⟩
      have hR9 := hR.up hb9
      have hB9 := nx hB hb9
      clear c0 c1 z0 z1
      all_goals
        have c0 := hR9.cell 0 (by omega)
        have c1 := hR9.cell 1 (by omega)
        have z0 := hR9.free 0
        have z1 := hR9.free 1
        go_wp2_with fail
        refine ret_cell (b := w.heap.size) (n := 2) (f := fr ((z : Int) / (Nat.gcd z (N * M) : Nat)) (((N * M : Nat) : Int) / (Nat.gcd z (N * M) : Nat))) Try.results67 rfl Try.underlying31 (by kernel_rfl) (fin2' hR9 _ _) rfl ⟨rfl, ?_⟩
        exact (hB9.setCell (p := ⟨w.heap.size, 0, none⟩) (Nat.le_refl _) _).setCell (p := ⟨w.heap.size, 1, none⟩) (Nat.le_refl _) _

set_option maxRecDepth 100000 in
set_option maxHeartbeats 4000000 in
theorem l3Chance_level (A B : Option Addr) (n m c c' : Nat) (P Q : Nat → Nat → Int) (w : World) (h : Row w A n P) (h' : Row w B m Q) (hq : isPool n P = true) (hr : isPool m Q = true) :
    Calls Try.prog 67 #[.slice A n c, .slice B m c', .bool true] w fun e w' => e = .returned (cutV (level (T P n) (T Q m) 121).toNat (all6 n * all6 m)) ∧ Below w.heap.size w w' := by
  obtain ⟨_, h4, hd⟩ := of_pool hq
  obtain ⟨_, h4', hd'⟩ := of_pool hr
  clear hq hr
  have Ht := Lib.hid (fun w h => l2Table_any A n c P w h h4 hd)
  have Ht' := Lib.hid (fun w h => l2Table_any B m c' Q w h h4' hd')
  have H := Lib.hid h; clear h
  have H' := Lib.hid h'; clear h'
  have Ho := Lib.hid (fun w => l2All_any n w h4)
  have Ho' := Lib.hid (fun w => l2All_any m w h4')
  have hN := all6_le h4
  have hM := all6_le h4'
  have htf := tab_T h4 (die_range' hd) n (Nat.le_refl _)
  have htg := tab_T h4' (die_range' hd') m (Nat.le_refl _)
  have HP := Lib.hid (fun (x : Nat) (hx : x < 121) => level_part htf htg h4 h4' hx)
  have HF := Lib.hid (fun (x : Nat) (hx : x < 121) => htf.small h4 x hx)
  have HG := Lib.hid (fun (y : Nat) (hy : y < 121) => htg.small h4' y hy)
  have hw := level_whole htf htg h4 h4' (x := 121) (Nat.le_refl _)
  have hNM : all6 n * all6 m ≤ 1679616 ∧ 1 ≤ all6 n * all6 m := ⟨Nat.mul_le_mul hN.1 hM.1, Nat.mul_pos hN.2 hM.2⟩
  clear htf htg h4 h4' hd hd'
  generalize T P n = f at *
  generalize T Q m = g at *
  obtain ⟨z, hz⟩ : ∃ z : Nat, level f g 121 = z := ⟨(level f g 121).toNat, by omega⟩
  have hf := fun w => cut_any z (all6 n * all6 m) w (by omega) (by omega) hNM.2
  unfold cutV
  simp only [hz, Int.toNat_natCast]
  have Hf := Lib.hid hf; clear hf
  have Hz := Lib.hid hz; clear hz hw
  generalize all6 n = N at *
  generalize all6 m = M at *
  go_enter Try.func67, Try.ntmps67
  go_wp2_with fail
  refine (Ht.out _ (H.out.up (na (n0 w) _))).mono ?_
  rintro e w3 ⟨rfl, hb3⟩
  have hB3 := nx (na (n0 w) _) hb3
  have hR3 := (At.new2 w 31).up hb3
  clear hb3
  go_wp2_with fail
  refine (Ht'.out _ (H'.out.up hB3)).mono ?_
  rintro e w4 ⟨rfl, hb4⟩
  have hB4 := nx hB3 hb4
  have hR4 := hR3.up hb4
  have hl4 : w.heap.size < w4.heap.size := hR4.lt
  clear hb4 hB3 hR3
  obtain ⟨w5, hst5, hA5, hB5, hK5⟩ := store_ex ((fresh w4 (b := w4.heap.size) rfl).past (.cells Try.zeroCells27 27)) f
  have hG5 := hK5 (w4.heap.size + 1) 121 _ (by omega) (fresh (w4.alloc (.cells Try.zeroCells27 27)) (b := w4.heap.size + 1) (by rw [size_alloc]))
  have hR5 := hK5 w.heap.size 2 _ (by omega) ((hR4.past (.cells Try.zeroCells27 27)).past (.cells Try.zeroCells27 27))
  have hbl5 : Below w.heap.size w w5 := (na (na hB4 _) _).trans (hB5 _ hB4.size)
  obtain ⟨w6, hst6, hG6, hB6, hK6⟩ := store_ex hG5 g
  have hbl6 : Below w.heap.size w w6 := hbl5.trans (hB6 _ (Nat.le_succ_of_le hB4.size))
  have hA6 := hK6 w4.heap.size 121 _ (by omega) hA5
  have hR6 := hK6 w.heap.size 2 _ (by omega) hR5
  clear hB5 hK5 hB4 hG5 hB6 hK6 hA5 hbl5 hR4 hR5
  have hvf := vals_len 121 f
  have hvg := vals_len 121 g
  go_wp2_with fail
  clear hst5 hst6 hvf hvg
  generalize w4.heap.size = b0 at hG6 hA6 hl4 ⊢
  go_loopw [9, 10] (fun mv xv wr => ∃ x : Nat, x ≤ 121 ∧ xv = .int .i64 x ∧ mv = .int .i64 (level f g x) ∧ Below w.heap.size w wr ∧ At wr b0 121 f ∧ At wr (b0 + 1) 121 g ∧ At wr w.heap.size 2 (fun _ => 0)) (fun _ xv _ => 121 - (intOf xv).toNat)
  case atStart => exact ⟨0, by omega, rfl, rfl, hbl6, hA6, hG6, hR6⟩
  case round =>
    clear hbl6 hA6 hG6 hR6
    obtain ⟨x, hx, rfl, rfl, hB, hA, hG, hR⟩ := hrel
    by_cases hlt : x < 121
    · have hxd : decide ((x : Int) < 121) = true := decide_eq_true (by omega)
      go_wp2_with fail
      go_loopw [9, 11] (fun mv yv wr => ∃ y : Nat, y ≤ 121 ∧ yv = .int .i64 y ∧ mv = .int .i64 (level f g x + (if x < y then f x * g x else 0)) ∧ Below w.heap.size w wr ∧ At wr b0 121 f ∧ At wr (b0 + 1) 121 g ∧ At wr w.heap.size 2 (fun _ => 0)) (fun _ yv _ => 121 - (intOf yv).toNat)
      case atStart => exact ⟨0, by omega, rfl, by simp, hB, hA, hG, hR⟩
      case round =>
        clear hB hA hG hR
        obtain ⟨y, hy, rfl, rfl, hB, hA, hG, hR⟩ := hrel
        have cx := hA.cell x hlt
        by_cases hly : y < 121
        · have hyd : decide ((y : Int) < 121) = true := decide_eq_true (by omega)
          have cy := hG.cell y hly
          have bp := HP.out x hlt
          by_cases hyx : x = y
          · subst hyx
            have hd1 : decide ((x : Int) = (x : Int)) = true := decide_eq_true rfl
            rw [if_neg (Nat.lt_irrefl x), Int.add_zero]
            have e1 : Hid ((if x < x + 1 then f x * g x else 0) = f x * g x) := if_pos (Nat.lt_succ_self x)
            go_wp2_with fail
            go_quiet (fail)
            go_wp2_with fail
            go_roundw
            case rel => exact ⟨x + 1, by omega, by go_num, by rw [e1.out], belowN hB _, hA.drewN _, hG.drewN _, hR.drewN _⟩
            case measure => simp [intOf]; omega
          · have hd1 : decide (x = y) = false := decide_eq_false hyx
            have e1 : Hid ((if x < y + 1 then f x * g x else 0) = (if x < y then f x * g x else 0)) := by
              show (if _ then _ else _) = _
              by_cases hxy : x < y
              · rw [if_pos hxy, if_pos (by omega)]
              · rw [if_neg hxy, if_neg (by omega)]
            generalize (if x < y then f x * g x else 0) = q at *
            go_wp2_with fail
            go_roundw
            case rel => exact ⟨y + 1, by omega, by go_num, by rw [e1.out], hB, hA, hG, hR⟩
            case measure => simp [intOf]; omega
        · obtain rfl : y = 121 := by omega
          have hyd : decide (((121 : Nat) : Int) < 121) = false := rfl
          have Hend : Hid (level f g x + (if x < 121 then f x * g x else 0) = level f g (x + 1)) := by
            show level f g x + (if x < 121 then f x * g x else 0) = level f g x + _
            rw [if_pos hlt]
          rw [Hend.out]
          go_wp2_with fail
          go_roundw
          case rel => exact ⟨x + 1, by omega, by go_num, rfl, hB, hA, hG, hR⟩
          case measure => simp [intOf]; omega
    · obtain rfl : x = 121 := by omega
      have hxd : decide (((121 : Nat) : Int) < 121) = false := rfl
      rw [Hz.out]
      have e1 : ((N : Int) * (M : Int)) = ((N * M : Nat) : Int) := by simp
      have e2 : (N : Int) * (M : Int) ≤ 1679616 := by omega
      have e3 : 0 ≤ (N : Int) * (M : Int) := by omega
      have hf := Hf.out
      simp only [Int.natCast_mul] at hf
      have Hf' := Lib.hid hf; clear hf
      have c0 := hR.cell 0 (by omega)
      have c1 := hR.cell 1 (by omega)
      have z0 := hR.free 0
      have z1 := hR.free 1
      clear e1
      go_wp2_with fail
      refine (Ho.out _).mono ?_
      rintro e w' ⟨rfl, rfl⟩
      go_wp2_with fail
      refine (Ho'.out _).mono ?_
      rintro e w' ⟨rfl, rfl⟩
      go_wp2_with fail
      refine (Hf'.out _).mono ?_
      rintro e w9 ⟨rfl, hb9⟩
      have hR9 := hR.up hb9
      have hB9 := nx hB hb9
      clear c0 c1 z0 z1
      all_goals
        have c0 := hR9.cell 0 (by omega)
        have c1 := hR9.cell 1 (by omega)
        have z0 := hR9.free 0
        have z1 := hR9.free 1
        go_wp2_with fail
        refine ret_cell (b := w.heap.size) (n := 2) (f := fr ((z : Int) / (Nat.gcd z (N * M) : Nat)) (((N * M : Nat) : Int) / (Nat.gcd z (N * M) : Nat))) Try.results67 rfl Try.underlying31 (by kernel_rfl) (fin2' hR9 _ _) rfl ⟨rfl, ?_⟩
        exact (hB9.setCell (p := ⟨w.heap.size, 0, none⟩) (Nat.le_refl _) _).setCell (p := ⟨w.heap.size, 1, none⟩) (Nat.le_refl _) _


end BeatS
end Go.Proofs.Ytllcjgladjcoaab
