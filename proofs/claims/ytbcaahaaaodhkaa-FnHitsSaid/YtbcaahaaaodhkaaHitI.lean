/-
  HitTable, by the program.
-/
import Derived.Test.YtbcaahaaaodhkaaRows
import Derived.Test.YtbcaahaaaodhkaaHitW
import Derived.Test.YtbcaahaaaodhkaaHits
import Derived.Test.YtbcaahaaaodhkaaFive
import Derived.Test.YtbcaahaaaodhkaaPoolW
import Derived.Test.YtbcaahaaaodhkaaDicesW
import Derived.Test.YtbcaahaaaodhkaaOpenD
import Derived.WalkKit
import Derived.WalkLawsBesides
import Derived.WalkSpells
import Derived.ProofKit
import Derived.OpenShut
import Derived.Deep.RegionWith
import Derived.Deep.QuietTactic
import Derived.BigQuiet
namespace Go.Proofs.Ytbcaahaaaodhkaa
open Go.ChangeShapes Go.WideShapes Go.ChangeAt Go.RowKit
open Go.ChangeMaps (open_string shut_string)

namespace HitI
open Dice Arr OpenD DieW SortW DicesW PoolW Hits Five HitW

set_option maxHeartbeats 4000000 in
theorem implHits_any (A : Option Addr) (n c : Nat) (P : Nat → Nat → Int) (b : Int) (w : World) (h : Row w A n P) (hn : n ≤ maxLen) :
    Calls Try.prog 27 #[.slice A n c, .int .i64 b] w fun e w' => e = .returned (.tuple (if isPool n P && decide (0 ≤ b ∧ b ≤ 31) then #[v5 (HT P b n), .bool true] else #[v5 fun _ => 0, .bool false])) ∧ Below w.heap.size w w' := by
  have hp := fun w h => implIsPool_any A n c P w h hn
  have hR := At.new5 w (fun _ => 0) 45 (b := w.heap.size) rfl
  cases hq : isPool n P
  · rw [hq] at hp
    simp only [Bool.false_and, Bool.false_eq_true, ↓reduceIte]
    have Hp := Lib.hid hp; clear hp hq
    have H := Lib.hid h; clear h
    go_enter Try.func27, Try.ntmps27
    go_wp2_with fail
    refine (Hp.out _ (H.out.up (na (n0 w) _))).mono ?_
    rintro e w1 ⟨rfl, hb⟩
    have hbl := nx (na (n0 w) _) hb
    have hA := hR.up hb
    obtain ⟨e0, e1, e2, e3, e4⟩ := At.five hA
    obtain ⟨z0, z1, z2, z3, z4⟩ := At.freefive hA
    clear hb
    go_wp2_with fail
    refine ret_cell_tmp (b := w.heap.size) (n := 5) (f := fun _ => 0) Try.results27 rfl rfl Try.underlying45 (by kernel_rfl) (hA.stored (fun _ => 0)) rfl ⟨rfl, ?_⟩
    exact hbl.trans (setCells_below (w := w1) (p := w.heap.size) (B := w.heap.size) (Nat.le_refl _) (vals 5 fun _ => 0) 0)
  rw [hq] at hp
  have Hp := Lib.hid hp; clear hp
  have H := Lib.hid h; clear h
  by_cases hb0 : b < 0
  · have hd0 : decide (b < 0) = true := decide_eq_true hb0
    rw [decide_eq_false (by omega : ¬ (0 ≤ b ∧ b ≤ 31))]
    simp only [Bool.and_false, Bool.false_eq_true, ↓reduceIte]
    clear hq hb0
    go_enter Try.func27, Try.ntmps27
    go_wp2_with fail
    refine (Hp.out _ (H.out.up (na (n0 w) _))).mono ?_
    rintro e w1 ⟨rfl, hb⟩
    have hbl := nx (na (n0 w) _) hb
    have hA := hR.up hb
    obtain ⟨e0, e1, e2, e3, e4⟩ := At.five hA
    obtain ⟨z0, z1, z2, z3, z4⟩ := At.freefive hA
    clear hb
    go_wp2_with fail
    refine ret_cell_tmp (b := w.heap.size) (n := 5) (f := fun _ => 0) Try.results27 rfl rfl Try.underlying45 (by kernel_rfl) (hA.stored (fun _ => 0)) rfl ⟨rfl, ?_⟩
    exact hbl.trans (setCells_below (w := w1) (p := w.heap.size) (B := w.heap.size) (Nat.le_refl _) (vals 5 fun _ => 0) 0)
  have hd0 : decide (b < 0) = false := decide_eq_false hb0
  by_cases hb1 : 31 < b
  · have hd1 : decide (31 < b) = true := decide_eq_true hb1
    rw [decide_eq_false (by omega : ¬ (0 ≤ b ∧ b ≤ 31))]
    simp only [Bool.and_false, Bool.false_eq_true, ↓reduceIte]
    clear hq hb0 hb1
    go_enter Try.func27, Try.ntmps27
    go_wp2_with fail
    refine (Hp.out _ (H.out.up (na (n0 w) _))).mono ?_
    rintro e w1 ⟨rfl, hb⟩
    have hbl := nx (na (n0 w) _) hb
    have hA := hR.up hb
    obtain ⟨e0, e1, e2, e3, e4⟩ := At.five hA
    obtain ⟨z0, z1, z2, z3, z4⟩ := At.freefive hA
    clear hb
    go_wp2_with fail
    refine ret_cell_tmp (b := w.heap.size) (n := 5) (f := fun _ => 0) Try.results27 rfl rfl Try.underlying45 (by kernel_rfl) (hA.stored (fun _ => 0)) rfl ⟨rfl, ?_⟩
    exact hbl.trans (setCells_below (w := w1) (p := w.heap.size) (B := w.heap.size) (Nat.le_refl _) (vals 5 fun _ => 0) 0)
  have hd1 : decide (31 < b) = false := decide_eq_false hb1
  rw [decide_eq_true (by omega : 0 ≤ b ∧ b ≤ 31)]
  simp only [Bool.and_self, ↓reduceIte]
  obtain ⟨h1, h4, hd⟩ := of_pool hq
  clear hq hb0 hb1 hd
  have hwd := fun (f d : Nat → Int) (i : Nat) (w : World) (ht : HTab f i 1296) => withHits_any f d i b w ht
  unfold dv at hwd
  have Hw := Lib.hid hwd; clear hwd
  go_enter Try.func27, Try.ntmps27
  go_wp2_with fail
  refine (Hp.out _ (H.out.up (na (n0 w) _))).mono ?_
  rintro e w1 ⟨rfl, hb⟩
  have hbl := nx (na (n0 w) _) hb
  have hA := hR.up hb
  have hA2 := At.new5 w1 one5 45 rfl
  have hbl2 := na hbl (fiveO one5 45)
  have hr2 := hA.past (fiveO one5 45)
  have hlt1 : w.heap.size < w1.heap.size := hA.lt
  clear hb hA hbl hR
  go_wp2_with fail
  go_loopw [24] (fun iv wr => ∃ k : Nat, k ≤ n ∧ iv = .int .i64 k ∧ Below w.heap.size w wr ∧ At wr w.heap.size 5 (fun _ => 0) ∧ At wr w1.heap.size 5 (HT P b k)) (fun iv _ => n - (intOf iv).toNat)
  case atStart => exact ⟨0, by omega, rfl, hbl2, hr2, hA2⟩
  case round =>
    clear hbl2 hr2 hA2
    obtain ⟨k, hk, rfl, hb, hr, hW⟩ := hrel
    by_cases hlt : k < n
    · obtain ⟨bk, o, rfl, hbk, hc⟩ := (H.out.below (Nat.le_refl _) hb).at_ hlt
      have c0 := hc 0 (by omega)
      have c1 := hc 1 (by omega)
      have c2 := hc 2 (by omega)
      have c3 := hc 3 (by omega)
      have c4 := hc 4 (by omega)
      have c5 := hc 5 (by omega)
      simp only [← Nat.add_assoc, Nat.add_zero] at c0 c1 c2 c3 c4 c5
      have hW' := hW.past (sixO (P k) 72)
      have hr' := hr.past (sixO (P k) 72)
      have hD' := At.new6 wr (P k) 72 rfl
      obtain ⟨x0, x1, x2, x3, x4⟩ := At.five hW'
      obtain ⟨y0, y1, y2, y3, y4, y5⟩ := hD'.six
      have Ht := HT_small P b (i := k) (by omega)
      have Hcut : hs (HT P b k) (hitN (P k) b 6) 4 = HT P b (k + 1) := Ht.cut _ (by omega)
      have hwk := fun w => Hw.out (HT P b k) (P k) k w Ht
      rw [Hcut] at hwk
      have Hwk := Lib.hid hwk; clear hwk Hcut Ht
      clear hc
      go_wp2_with fail
      refine (Hwk.out _).mono ?_
      rintro e w3 ⟨rfl, hb3⟩
      have hB3 := nx (na hb (sixO (P k) 72)) hb3
      have hW3 := hW'.up hb3
      have hr3 := hr'.up hb3
      obtain ⟨u0, u1, u2, u3, u4⟩ := At.five hW3
      obtain ⟨t0, t1, t2, t3, t4⟩ := At.freefive hW3
      clear x0 x1 x2 x3 x4 y0 y1 y2 y3 y4 y5 c0 c1 c2 c3 c4 c5 hW' hr' hD' hb3 hb hr hW
      go_wp2_with fail
      go_roundw
      case rel => exact ⟨k + 1, by omega, by go_num, hB3.trans (setCells_below (p := w1.heap.size) (Nat.le_of_lt hlt1) (vals 5 (HT P b (k + 1))) 0), hr3.keep (p := w1.heap.size) (Nat.ne_of_lt hlt1) (vals 5 (HT P b (k + 1))) 0, hW3.stored (HT P b (k + 1))⟩
      case measure => simp [intOf]; omega
    · obtain rfl : k = n := by omega
      obtain ⟨x0, x1, x2, x3, x4⟩ := At.five hW
      obtain ⟨y0, y1, y2, y3, y4⟩ := At.five hr
      obtain ⟨t0, t1, t2, t3, t4⟩ := At.freefive hr
      go_wp2_with fail
      refine ret_cell_tmp (b := w.heap.size) (n := 5) (f := HT P b k) Try.results27 rfl rfl Try.underlying45 (by kernel_rfl) (hr.stored (HT P b k)) rfl ⟨rfl, ?_⟩
      exact hb.trans (setCells_below (w := wr) (p := w.heap.size) (B := w.heap.size) (Nat.le_refl _) (vals 5 (HT P b k)) 0)


end HitI
end Go.Proofs.Ytbcaahaaaodhkaa
