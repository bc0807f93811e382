/-
  The pool of letters, by the program.
-/
import Derived.Test.YtiiknpebphpeiaaRows
import Derived.Test.YtiiknpebphpeiaaArr
import Derived.Test.YtiiknpebphpeiaaDieW
import Derived.Test.YtiiknpebphpeiaaSortW
import Derived.Test.YtiiknpebphpeiaaFour
import Derived.Test.YtiiknpebphpeiaaOrdM
import Derived.Test.YtiiknpebphpeiaaOrdK
import Derived.Test.YtiiknpebphpeiaaOrdW
import Derived.Test.YtiiknpebphpeiaaDicesW
import Derived.Test.YtiiknpebphpeiaaPoolW
import Derived.Test.YtiiknpebphpeiaaOwnL
import Derived.Test.YtiiknpebphpeiaaOpenI
import Derived.Test.YtiiknpebphpeiaaLtrM
import Derived.Test.YtiiknpebphpeiaaLtrS
import Derived.Test.YtiiknpebphpeiaaLtrP
import Derived.Test.YtiiknpebphpeiaaOpenD
import Derived.WalkKit
import Derived.StillTail
import Derived.StillTactics
import Derived.StillTailTactics
import Derived.WalkLawsBesides
import Derived.WalkSpells
import Derived.ProofKit
import Derived.OpenShut
import Derived.Deep.RegionWith
import Derived.Deep.QuietTactic
import Derived.BigQuiet
namespace Go.Proofs.Ytiiknpebphpeiaa
open Go.ChangeShapes Go.WideShapes Go.ChangeAt Go.RowKit
open Go.ChangeMaps (open_string shut_string)

namespace LtrI
open Dice Arr DieW SortW Four OrdK OrdW DicesW PoolW OwnL OpenG LtrM LtrS LtrP


set_option maxRecDepth 20000 in
set_option maxHeartbeats 4000000 in
theorem implFL_z (A : Option Addr) (n c : Nat) (f : Nat → Int) (z : Bool) (hz : z = true ↔ Ok f (6 * n)) (w : World) (h : RowI w A (6 * n) f) (h1 : 1 ≤ n) (h4 : n ≤ 4) :
    Calls Try.prog 51 #[.slice A (6 * n) c] w fun e w' => ((z = false ∧ e = .returned (.tuple #[.slice none 0 0, .bool false])) ∨ (z = true ∧ ∃ g, e = .returned (.tuple #[.slice (some ⟨g, 0, none⟩) n n, .bool true]) ∧ w.heap.size ≤ g ∧ At w' g (n * 6) (pw f (6 * n)))) ∧ Below w.heap.size w w' := by
  have H := Lib.hid h; clear h
  have Hz := Lib.hid hz; clear hz
  obtain ⟨w1, hmk, hA1, hb1⟩ := make_dice w n (by omega)
  obtain ⟨w2, hmk2, hU1, hb2⟩ := make_ints w1 n (by omega)
  have hq1 : (((6 * n : Nat) : Int) / 6) = n := by omega
  have hq2 : Int.tdiv ((6 * n : Nat) : Int) 6 = n := by rw [Int.tdiv_eq_ediv_of_nonneg (by omega)]; omega
  have hq3 : ((6 * (n : Int)) / 6) = n := by omega
  have d1 : decide ((n : Int) < 1) = false := decide_eq_false (by omega)
  have d2 : decide ((4 : Int) < (n : Int)) = false := decide_eq_false (by omega)
  have d1' : ¬ ((n : Int) < 1) := by omega
  have d2' : ¬ ((4 : Int) < (n : Int)) := by omega
  have hm : ((((6 * n : Nat) : Int) % 6) != 0) = false := by simp
  have hm2 : ((Int.tmod ((6 * n : Nat) : Int) 6) != 0) = false := by rw [Int.tmod_eq_emod_of_nonneg (by omega)]; simp
  have hA2 := hA1.up hb2
  have hgw := hA1.lt
  have hB := nx hb1 hb2
  have hsz1 := hb1.size
  clear hA1 hb1 hb2
  go_enter Try.func51, Try.ntmps51
  go_wp2_with fail
  clear hmk hmk2
  go_loopw [30] (fun iv wr => ∃ (i : Nat) (C : Nat → Int), i ≤ 6 * n ∧ iv = .int .i64 i ∧ At wr w1.heap.size n C ∧ Hid (∀ p : Nat, p < n → C p = (cl f i p : Nat)) ∧ At wr w.heap.size (n * 6) (pw f i) ∧ Hid (∀ j, j < i → (0 ≤ f j ∧ f j < (n : Int)) ∧ cl f j (f j) < 6) ∧ Below w.heap.size w wr) (fun iv _ => 6 * n - (intOf iv).toNat)
  case atStart => exact ⟨0, _, Nat.zero_le _, rfl, hU1, fun p _ => rfl, hA2, fun j hj => by omega, hB⟩
  case round =>
    clear hU1 hB hA2
    obtain ⟨i, C, hi, rfl, hC, hcl, hA, hrg, hB⟩ := hrel
    by_cases hlt : i < 6 * n
    · have hit : decide ((i : Int) < ((6 * n : Nat) : Int)) = true := decide_eq_true (by omega)
      have hitN : decide (i < 6 * n) = true := decide_eq_true hlt
      obtain ⟨b, o, rfl, hbl, ci0⟩ := H.out.at_ hlt
      by_cases hneg : f i < 0
      · have e1 : decide (f i < 0) = true := decide_eq_true hneg
        have hzf := Lib.hid (no_ok Hz.out (fun ⟨m, e, _, _, h3, _⟩ => by have := (h3 i hlt).1; omega))
        have ci : wr.cell? ⟨b, o + i, none⟩ = some (.int .i64 (f i)) := (hB.cell (p := ⟨b, o + i, none⟩) hbl).trans ci0
        clear Hz hcl hrg
        generalize f i = y at *
        go_wp2_with fail
        go_ret2
        exact ⟨.inl ⟨hzf.out, rfl⟩, hB⟩
      by_cases hbig : (n : Int) ≤ f i
      · have e1 : decide (f i < 0) = false := decide_eq_false hneg
        have e2 : decide ((n : Int) ≤ f i) = true := decide_eq_true hbig
        have hzf := Lib.hid (no_ok Hz.out (fun ⟨m, e, _, _, h3, _⟩ => by have := (h3 i hlt).2; omega))
        have ci : wr.cell? ⟨b, o + i, none⟩ = some (.int .i64 (f i)) := (hB.cell (p := ⟨b, o + i, none⟩) hbl).trans ci0
        clear Hz hcl hrg
        generalize f i = y at *
        go_wp2_with fail
        go_ret2
        exact ⟨.inl ⟨hzf.out, rfl⟩, hB⟩
      obtain ⟨x, hx⟩ : ∃ x : Nat, f i = x := ⟨(f i).toNat, by omega⟩
      have hxn : x < n := by omega
      have hxi : (x : Int) < (n : Int) := by omega
      have e1 : decide ((x : Int) < 0) = false := decide_eq_false (by omega)
      have e2 : decide ((n : Int) ≤ (x : Int)) = false := decide_eq_false (by omega)
      have hpn := Lib.hid (pw_next hx)
      have hcl' := Lib.hid (cl_put hx hcl.out)
      have cx := hC.cell x hxn
      have zx := hC.free x
      have hCx := Lib.hid (hcl.out x hxn)
      rw [hCx.out] at cx
      have hv6 := cl_six (f := f) (p := x) i (fun j hj => (hrg.out j hj).2)
      by_cases hv : cl f i x = 6
      · have hzf := Lib.hid (no_ok Hz.out (fun ok => by have := ok_lt ok hlt; rw [hx, hv] at this; omega))
        rw [hx] at ci0
        have ci : wr.cell? ⟨b, o + i, none⟩ = some (.int .i64 (x : Nat)) := (hB.cell (p := ⟨b, o + i, none⟩) hbl).trans ci0
        rw [hv] at cx
        clear Hz hcl hrg hcl' hpn hCx hv6 hx hv
        go_wp2_with fail
        go_ret2
        exact ⟨.inl ⟨hzf.out, rfl⟩, hB⟩
      have hv5 : cl f i x < 6 := by omega
      have hrg' := Lib.hid (fun j (hj : j < i + 1) => show (0 ≤ f j ∧ f j < (n : Int)) ∧ cl f j (f j) < 6 from by
        by_cases e : j = i
        · subst e; rw [hx]; exact ⟨by omega, hv5⟩
        · exact hrg.out j (by omega))
      have e3 : (((cl f i x : Nat) : Int) == 6) = false := by simp; omega
      rw [hx] at ci0
      have ci : wr.cell? ⟨b, o + i, none⟩ = some (.int .i64 (x : Nat)) := (hB.cell (p := ⟨b, o + i, none⟩) hbl).trans ci0
      clear hcl hrg hx hneg hbig hv6 hv
      generalize cl f i x = v at *
      have hin : x * 6 + v < n * 6 := by omega
      go_wp2_with fail
      have hA' := hA.drew
      have hC' := hC.drew
      have hB' := hB.drew
      have cx' : wr.drew.cell? ⟨w1.heap.size, x, none⟩ = some (.int .i64 (v : Nat)) := cx
      have zx' := hC'.free x
      have oc := hA'.cell _ hin
      have oz := hA'.free (x * 6 + v)
      clear hA hC hB ci cx zx
      have hvi : (v : Int) < 6 := by omega
      refine wp_region_still_tail 10 (by kernel_rfl) (by kernel_rfl) ?_
      simp only [List.take_succ_cons, List.take_zero, List.drop_succ_cons, List.drop_zero]
      repeat still_step
      refine wpStill_nil ?_
      change wpList _ _ _ _ _ wr.drew
      generalize wr.drew = W5 at *
      have hset := hA'.set hin ((i : Int) + 1)
      have hC2 := hC'.other (p := w.heap.size) (by omega) (x * 6 + v) (.int .i64 ((i : Int) + 1))
      have hB2 := hB'.setCell (p := ⟨w.heap.size, x * 6 + v, none⟩) (Nat.le_refl _) (.int .i64 ((i : Int) + 1))
      have cx2 := hC2.cell x hxn
      have zx2 := hC2.free x
      rw [show C x = (v : Int) from ?cv] at cx2
      case cv => exact hCx.out
      have hC3 := hC2.set hxn ((v : Int) + 1)
      have hA3 := hset.other (p := w1.heap.size) (by omega) x (.int .i64 ((v : Int) + 1))
      have hB3 := hB2.setCell (p := ⟨w1.heap.size, x, none⟩) hsz1 (.int .i64 ((v : Int) + 1))
      go_wp2_with fail
      go_roundw
      case rel => exact ⟨i + 1, _, by omega, by go_num, hC3, hcl', hA3.congr (fun k _ => by rw [hpn.out]; rfl), hrg', hB3⟩
      case measure => simp [intOf]; omega
    · obtain rfl : i = 6 * n := by omega
      have hit : decide (((6 * n : Nat) : Int) < ((6 * n : Nat) : Int)) = false := decide_eq_false (by omega)
      have hitN : decide (6 * n < 6 * n) = false := decide_eq_false (by omega)
      have hzt := Lib.hid (Hz.out.2 (ok_of h1 h4 (fun j hj => (hrg.out j hj).1) (fun j hj => (hrg.out j hj).2)))
      clear Hz hrg hcl
      go_wp2_with fail
      go_ret2
      exact ⟨.inr ⟨hzt.out, _, rfl, Nat.le_refl _, hA⟩, hB⟩

set_option maxRecDepth 20000 in
set_option maxHeartbeats 4000000 in
theorem implFL_no (A : Option Addr) (L c : Nat) (f : Nat → Int) (hz : ¬ Ok f L) (w : World) (h : RowI w A L f) (hn : L ≤ maxLen) :
    Calls Try.prog 51 #[.slice A L c] w fun e w' => e = .returned (.tuple #[.slice none 0 0, .bool false]) ∧ Below w.heap.size w w' := by
  unfold maxLen at hn
  have H := Lib.hid h; clear h
  obtain ⟨n, r, hr, hL⟩ : ∃ n r, r < 6 ∧ L = 6 * n + r := ⟨L / 6, L % 6, Nat.mod_lt _ (by omega), by omega⟩
  have hq1 : ((L : Int) / 6) = (n : Int) := by omega
  have hq2 : Int.tdiv (L : Int) 6 = (n : Int) := by rw [Int.tdiv_eq_ediv_of_nonneg (by omega)]; omega
  have hm0 : (L : Int) % 6 = (r : Int) := by omega
  have hm2 : Int.tmod (L : Int) 6 = (r : Int) := by rw [Int.tmod_eq_emod_of_nonneg (by omega)]; omega
  by_cases h1 : 1 ≤ n
  case neg =>
    have d1 : decide ((n : Int) < 1) = true := decide_eq_true (by omega)
    clear hz hL
    go_enter Try.func51, Try.ntmps51
    go_wp2_with fail
    go_ret2
    exact ⟨rfl, n0 w⟩
  have d1 : decide ((n : Int) < 1) = false := decide_eq_false (by omega)
  by_cases h4 : n ≤ 4
  case neg =>
    have d2 : decide ((4 : Int) < (n : Int)) = true := decide_eq_true (by omega)
    clear hz hL
    go_enter Try.func51, Try.ntmps51
    go_wp2_with fail
    go_ret2
    exact ⟨rfl, n0 w⟩
  have d2 : decide ((4 : Int) < (n : Int)) = false := decide_eq_false (by omega)
  by_cases hr0 : r = 0
  case neg =>
    have d3 : ((r : Int) != 0) = true := by simp; omega
    clear hz hL
    go_enter Try.func51, Try.ntmps51
    go_wp2_with fail
    go_ret2
    exact ⟨rfl, n0 w⟩
  subst hr0
  obtain rfl : L = 6 * n := by omega
  clear hL hq1 hq2 hm0 hm2
  refine (implFL_z A n c f false ⟨fun h => (by cases h), fun h => absurd h hz⟩ w H.out h1 h4).mono ?_
  rintro e w2 ⟨h | ⟨h, _⟩, hb⟩
  · exact ⟨h.2, hb⟩
  · cases h
theorem implFL_yes (A : Option Addr) (n c : Nat) (f : Nat → Int) (hz : Ok f (6 * n)) (w : World) (h : RowI w A (6 * n) f) :
    Calls Try.prog 51 #[.slice A (6 * n) c] w fun e w' => ∃ g, e = .returned (.tuple #[.slice (some ⟨g, 0, none⟩) n n, .bool true]) ∧ w.heap.size ≤ g ∧ At w' g (n * 6) (pw f (6 * n)) ∧ Below w.heap.size w w' := by
  obtain ⟨m, hm, h1, h4, _⟩ := id hz
  obtain rfl : n = m := by omega
  refine (implFL_z A n c f true ⟨fun _ => hz, fun _ => rfl⟩ w h h1 h4).mono ?_
  rintro e w2 ⟨⟨h, _⟩ | ⟨_, g, he, hg, hA⟩, hb⟩
  · cases h
  · exact ⟨g, he, hg, hA, hb⟩


end LtrI
end Go.Proofs.Ytiiknpebphpeiaa
