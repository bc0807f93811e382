/-
  SameSums, the specification's side.
-/
import Derived.Test.YtllcjgladjcoaacRows
import Derived.Test.YtllcjgladjcoaacScaleW
import Derived.Test.YtllcjgladjcoaacTableSM
import Derived.Test.YtllcjgladjcoaacTableIM
import Derived.Test.YtllcjgladjcoaacTableWM
import Derived.Test.YtllcjgladjcoaacTableM
import Derived.Test.YtllcjgladjcoaacSumsM
import Derived.Test.YtllcjgladjcoaacDicesW
import Derived.Test.YtllcjgladjcoaacPoolW
import Derived.Test.YtllcjgladjcoaacAll6
import Derived.Test.YtllcjgladjcoaacSortW
import Derived.Test.YtllcjgladjcoaacOpenD
import Derived.WalkKit
import Derived.WalkLawsBesides
import Derived.WalkSpells
import Derived.ProofKit
import Derived.OpenShut
import Derived.Deep.RegionWith
import Derived.Deep.WholeRow
import Derived.Deep.QuietTactic
import Derived.BigQuiet
namespace Go.Proofs.Ytllcjgladjcoaac
open Go.ChangeShapes Go.WideShapes Go.ChangeAt Go.RowKit
open Go.ChangeMaps (open_string shut_string)

namespace SameS
open Dice Arr OpenD DieW SortW DicesW PoolW SumsW Table TableW TableI TableS All6 ScaleW


/-- The first entry up to k at which two scaled tables differ: none. -/
def alike (f g : Nat → Int) (M N k : Nat) : Prop := ∀ j, j < k → f j * (M : Int) = g j * (N : Int)
theorem alike_agree (f g : Nat → Int) (M N : Nat) : alike f g M N 121 ↔ agree (scaleTo f M 121) (scaleTo g N 121) 121 := by
  constructor
  · intro h j hj
    have := h j hj
    simp only [scaleTo, hj, if_true]
    exact this
  · intro h j hj
    have := h j hj
    simp only [scaleTo, hj, if_true] at this
    exact this

theorem belowN {B : Nat} {w w' : World} (h : Below B w w') (q : Nat) : Below B w (w'.drewN q) := ⟨h.os, h.tape, h.output, h.size, h.block⟩

set_option maxRecDepth 100000 in
set_option maxHeartbeats 4000000 in
theorem specSame_yes (A B : Option Addr) (n m c c' : Nat) (P Q : Nat → Nat → Int) (w : World) (h : Row w A n P) (h' : Row w B m Q) (hn : n ≤ maxLen) (hm : m ≤ maxLen) (hq : isPool n P = true) (hr : isPool m Q = true) :
    Calls Try.prog 6 #[.slice A n c, .slice B m c'] w fun e w' => e = .returned (.tuple #[.bool (decide (agree (scaleTo (T P n) (all6 m) 121) (scaleTo (T Q m) (all6 n) 121) 121)), .bool true]) ∧ Below w.heap.size w w' := by
  have hp := fun w h => l2Pool_any A n c P w h hn
  have hp' := fun w h => l2Pool_any B m c' Q w h hm
  obtain ⟨_, h4, hd⟩ := of_pool hq
  obtain ⟨_, h4', hd'⟩ := of_pool hr
  rw [hq] at hp
  rw [hr] at hp'
  have Ht := Lib.hid (fun w h => l2Table_any A n c P w h h4 hd)
  have Ht' := Lib.hid (fun w h => l2Table_any B m c' Q w h h4' hd')
  have Hp := Lib.hid hp; clear hp hq
  have Hp' := Lib.hid hp'; clear hp' hr
  have H := Lib.hid h; clear h
  have H' := Lib.hid h'; clear h'
  have Ho := Lib.hid (fun w => l2All_any n w h4)
  have Ho' := Lib.hid (fun w => l2All_any m w h4')
  have h6 := (all6_le h4).1
  have h6' := (all6_le h4').1
  have Hf := Lib.hid ((tab_T h4 (die_range' hd) n (Nat.le_refl _)).small h4)
  have Hg := Lib.hid ((tab_T h4' (die_range' hd') m (Nat.le_refl _)).small h4')
  clear h4 h4' hd hd' hn hm
  generalize T P n = f at *
  generalize T Q m = g at *
  generalize all6 n = N at *
  generalize all6 m = M at *
  go_enter Try.func6, Try.ntmps6
  go_wp2_with fail
  refine (Hp.out _ H.out).mono ?_
  rintro e w1 ⟨rfl, hb1⟩
  go_wp2_with fail
  refine (Hp'.out _ (H'.out.up hb1)).mono ?_
  rintro e w2 ⟨rfl, hb2⟩
  have hB2 := nx hb1 hb2
  clear hb1 hb2
  go_wp2_with fail
  refine (Ht.out _ (H.out.up hB2)).mono ?_
  rintro e w3 ⟨rfl, hb3⟩
  have hB3 := nx hB2 hb3
  clear hb3 hB2
  go_wp2_with fail
  refine (Ht'.out _ (H'.out.up hB3)).mono ?_
  rintro e w4 ⟨rfl, hb4⟩
  have hB4 := nx hB3 hb4
  clear hb4 hB3
  obtain ⟨w5, hst5, hA5, hB5, hK5⟩ := store_ex ((fresh w4 (b := w4.heap.size) rfl).past (.cells Try.zeroCells31 31)) f
  have hG5 := hK5 (w4.heap.size + 1) 121 _ (by omega) (fresh (w4.alloc (.cells Try.zeroCells31 31)) (b := w4.heap.size + 1) (by rw [size_alloc]))
  have hbl5 : Below w.heap.size w w5 := (na (na hB4 _) _).trans (hB5 _ hB4.size)
  obtain ⟨w6, hst6, hG6, hB6, hK6⟩ := store_ex hG5 g
  have hbl6 : Below w.heap.size w w6 := hbl5.trans (hB6 _ (Nat.le_succ_of_le hB4.size))
  have hA6 := hK6 w4.heap.size 121 _ (by omega) hA5
  clear hB5 hK5 hB4 hG5 hB6 hK6 hA5 hbl5
  have hvf := vals_len 121 f
  have hvg := vals_len 121 g
  go_wp2_with fail
  clear hst5 hst6 hvf hvg
  generalize hb0 : w4.heap.size = b0 at hG6 hA6 ⊢
  clear hb0
  go_loopw [8] (fun iv wr => ∃ k : Nat, k ≤ 121 ∧ iv = .int .i64 k ∧ Below w.heap.size w wr ∧ At wr b0 121 f ∧ At wr (b0 + 1) 121 g ∧ Hid (alike f g M N k)) (fun iv _ => 121 - (intOf iv).toNat)
  case atStart => exact ⟨0, by omega, rfl, hbl6, hA6, hG6, fun j hj => by omega⟩
  case round =>
    clear hbl6 hA6 hG6
    obtain ⟨k, hk, rfl, hb, hA, hG, ha⟩ := hrel
    by_cases hlt : k < 121
    · have hkd : decide ((k : Int) < 121) = true := decide_eq_true (by omega)
      have ck := hA.cell k hlt
      have gk := hG.cell k hlt
      have hfk := Hf.out k hlt
      have hgk := Hg.out k hlt
      have hm1 : 0 ≤ f k * (M : Int) ∧ f k * (M : Int) ≤ 1679616 := ⟨Int.mul_nonneg hfk.1 (by omega), Int.le_trans (Int.mul_le_mul hfk.2 (show (M : Int) ≤ 1296 by omega) (by omega) (by omega)) (by decide)⟩
      have hm2 : 0 ≤ g k * (N : Int) ∧ g k * (N : Int) ≤ 1679616 := ⟨Int.mul_nonneg hgk.1 (by omega), Int.le_trans (Int.mul_le_mul hgk.2 (show (N : Int) ≤ 1296 by omega) (by omega) (by omega)) (by decide)⟩
      by_cases heq : f k * (M : Int) = g k * (N : Int)
      · have ha' : Hid (alike f g M N (k + 1)) := fun j hj => by
          by_cases hjk : j = k
          · subst hjk; exact heq
          · exact ha.out j (by omega)
        have hdq : decide (f k * (M : Int) = g k * (N : Int)) = true := decide_eq_true heq
        go_wp2_with fail
        go_quiet (first | (go_at_call_of 16 m; refine Calls.quiet_of_same (Ho'.out _)) | (go_at_call_of 16 n; refine Calls.quiet_of_same (Ho.out _)))
        go_wp2_with fail
        go_roundw
        case rel => exact ⟨k + 1, by omega, by go_num, belowN hb _, hA.drewN _, hG.drewN _, ha'⟩
        case measure => simp [intOf]; omega
      · have hres : Hid (decide (agree (scaleTo f M 121) (scaleTo g N 121) 121) = false) := decide_eq_false fun hh => heq ((alike_agree f g M N).2 hh k hlt)
        have hdq : decide (f k * (M : Int) = g k * (N : Int)) = false := decide_eq_false heq
        go_wp2_with fail
        go_quiet (first | (go_at_call_of 16 m; refine Calls.quiet_of_same (Ho'.out _)) | (go_at_call_of 16 n; refine Calls.quiet_of_same (Ho.out _)))
        go_wp2_with fail
        go_ret2
        exact ⟨by rw [hres.out]; rfl, belowN hb _⟩
    · obtain rfl : k = 121 := by omega
      have hres := Lib.hid (decide_eq_true ((alike_agree f g M N).1 ha.out))
      go_wp2_with fail
      go_ret2
      exact ⟨by rw [hres.out]; rfl, hb⟩


end SameS
end Go.Proofs.Ytllcjgladjcoaac
