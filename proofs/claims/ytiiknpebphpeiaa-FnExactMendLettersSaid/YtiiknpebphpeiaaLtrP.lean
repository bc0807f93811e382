/-
  The pool of letters, by the specification.
-/
import Derived.Test.YtiiknpebphpeiaaRows
import Derived.Test.YtiiknpebphpeiaaArr
import Derived.Test.YtiiknpebphpeiaaDieW
import Derived.Test.YtiiknpebphpeiaaSortW
import Derived.Test.YtiiknpebphpeiaaFour
import Derived.Test.YtiiknpebphpeiaaOrdM
import Derived.Test.YtiiknpebphpeiaaOrdK
import Derived.Test.YtiiknpebphpeiaaOrdW
import Derived.Test.YtiiknpebphpeiaaDicesW
import Derived.Test.YtiiknpebphpeiaaPoolW
import Derived.Test.YtiiknpebphpeiaaOwnL
import Derived.Test.YtiiknpebphpeiaaOpenI
import Derived.Test.YtiiknpebphpeiaaLtrM
import Derived.Test.YtiiknpebphpeiaaLtrS
import Derived.Test.YtiiknpebphpeiaaOpenD
import Derived.WalkKit
import Derived.StillTail
import Derived.StillTactics
import Derived.StillTailTactics
import Derived.WalkLawsBesides
import Derived.WalkSpells
import Derived.ProofKit
import Derived.OpenShut
import Derived.Deep.RegionWith
import Derived.Deep.QuietTactic
import Derived.BigQuiet
namespace Go.Proofs.Ytiiknpebphpeiaa
open Go.ChangeShapes Go.WideShapes Go.ChangeAt Go.RowKit
open Go.ChangeMaps (open_string shut_string)

namespace LtrP
open Dice Arr DieW SortW Four OrdK OrdW DicesW PoolW OwnL OpenG LtrM LtrS


/-- A list of n dice, made. -/
theorem make_dice (w : World) (n : Nat) (hn : n ≤ 1048576) : ∃ w1, (Instr.makeSlice 22 (.int .i64 n) (.int .i64 n)).run Try.prog w = .ok (.slice (some ⟨w.heap.size, 0, none⟩) n n) w1 ∧ At w1 w.heap.size (n * 6) (fun _ => 0) ∧ Below w.heap.size w w1 := by
  obtain ⟨i0, hi, hz0, hz1, hz2⟩ := info_parts info_die
  obtain ⟨w1, hr, hown1, hg1⟩ := run_make_full (P := Try.prog) w w.heap.size 22 61 i0 _ 6 Try.underlying22 hi hz0 hz1 .i64 .i64 n (by rw [hz2]; omega) (by unfold maxLen; omega) (Nat.le_refl _)
  exact ⟨w1, hr, ⟨(hown1.lt _ rfl).2, fun k hk => by rw [hown1.cellAt k hk]; exact made_zero _ _ hk, fun k => hown1.frozenAt k⟩, (Below.refl _ _).grown hg1 (Nat.le_refl _) (fun _ e => by cases e)⟩

set_option maxRecDepth 20000 in
set_option maxHeartbeats 4000000 in
theorem specPool_any (A : Option Addr) (n c : Nat) (f : Nat → Int) (w : World) (h : RowI w A (6 * n) f) (hok : Ok f (6 * n)) :
    Calls Try.prog 85 #[.slice A (6 * n) c] w fun e w' => ∃ g, e = .returned (.slice (some ⟨g, 0, none⟩) n n) ∧ w.heap.size ≤ g ∧ At w' g (n * 6) (pw f (6 * n)) ∧ Below w.heap.size w w' := by
  have Hlt := Lib.hid (fun j (hj : j < 6 * n) => ok_lt hok hj)
  obtain ⟨n', he, h1, h4, hr, _⟩ := hok
  obtain rfl : n = n' := by omega
  have Hr := Lib.hid hr; clear hr he
  have H := Lib.hid h; clear h
  obtain ⟨w1, hmk, hA1, hb1⟩ := make_dice w n (by omega)
  have hq1 : (((6 * n : Nat) : Int) / 6) = n := by omega
  have hq2 : Int.tdiv ((6 * n : Nat) : Int) 6 = n := by rw [Int.tdiv_eq_ediv_of_nonneg (by omega)]; omega
  have hq3 : ((6 * (n : Int)) / 6) = n := by omega
  have hX := At.new4 w1 (fun _ => 0) 24 rfl
  have hA2 := hA1.past (fourO (fun _ => 0) 24)
  have hgw := hA1.lt
  have hB := na hb1 (fourO (fun _ => 0) 24)
  have hsz1 := hb1.size
  clear hA1 hb1
  go_enter Try.func85, Try.ntmps85
  go_wp2_with fail
  clear hmk
  go_loopw [5] (fun iv wr => ∃ (i : Nat) (C : Nat → Int), i ≤ 6 * n ∧ iv = .int .i64 i ∧ At wr w1.heap.size 4 C ∧ Hid (∀ p : Nat, p < 4 → C p = (cl f i p : Nat)) ∧ At wr w.heap.size (n * 6) (pw f i) ∧ Below w.heap.size w wr) (fun iv _ => 6 * n - (intOf iv).toNat)
  case atStart => exact ⟨0, _, Nat.zero_le _, rfl, hX, fun p _ => rfl, hA2, hB⟩
  case round =>
    clear hX hB hA2
    obtain ⟨i, C, hi, rfl, hC, hcl, hA, hB⟩ := hrel
    by_cases hlt : i < 6 * n
    · have hit : decide ((i : Int) < ((6 * n : Nat) : Int)) = true := decide_eq_true (by omega)
      have hitN : decide (i < 6 * n) = true := decide_eq_true hlt
      obtain ⟨b, o, rfl, hbl, ci0⟩ := H.out.at_ hlt
      obtain ⟨g0, g1⟩ := Hr.out i hlt
      obtain ⟨x, hx⟩ : ∃ x : Nat, f i = x := ⟨(f i).toNat, by omega⟩
      have hx4 : x < 4 := by omega
      have hv := Hlt.out i hlt
      have hpn := Lib.hid (pw_next hx)
      have hcl' := Lib.hid (cl_put hx hcl.out)
      have cx := hC.cell x hx4
      have zx := hC.free x
      have hCx := Lib.hid (hcl.out x hx4)
      rw [hCx.out] at cx
      rw [hx] at ci0 hv
      have ci : wr.cell? ⟨b, o + i, none⟩ = some (.int .i64 (x : Nat)) := (hB.cell (p := ⟨b, o + i, none⟩) hbl).trans ci0
      have hxn : x < n := by omega
      clear hcl hx g0 g1
      generalize cl f i x = v at *
      have hin : x * 6 + v < n * 6 := by omega
      go_wp2_with fail
      have hA' := hA.drew
      have hC' := hC.drew
      have hB' := hB.drew
      have ci' : wr.drew.cell? ⟨b, o + i, none⟩ = some (.int .i64 (x : Nat)) := ci
      have cx' : wr.drew.cell? ⟨w1.heap.size, x, none⟩ = some (.int .i64 (v : Nat)) := cx
      have zx' := hC'.free x
      have oc := hA'.cell _ hin
      have oz := hA'.free (x * 6 + v)
      clear hA hC hB ci cx zx
      have hxi : (x : Int) < 4 := by omega
      have hxni : (x : Int) < (n : Int) := by omega
      have hvi : (v : Int) < 6 := by omega
      refine wp_region_still_tail 15 (by kernel_rfl) (by kernel_rfl) ?_
      simp only [List.take_succ_cons, List.take_zero, List.drop_succ_cons, List.drop_zero]
      repeat still_step
      refine wpStill_nil ?_
      change wpList _ _ _ _ _ wr.drew
      generalize wr.drew = W5 at *
      have hset := hA'.set hin ((i : Int) + 1)
      have hC2 := hC'.other (p := w.heap.size) (by omega) (x * 6 + v) (.int .i64 ((i : Int) + 1))
      have hB2 := hB'.setCell (p := ⟨w.heap.size, x * 6 + v, none⟩) (Nat.le_refl _) (.int .i64 ((i : Int) + 1))
      have ci2 : (W5.setCell ⟨w.heap.size, x * 6 + v, none⟩ (.int .i64 ((i : Int) + 1))).cell? ⟨b, o + i, none⟩ = some (.int .i64 (x : Nat)) := (hB2.cell (p := ⟨b, o + i, none⟩) hbl).trans ci0
      have cx2 := hC2.cell x hx4
      have zx2 := hC2.free x
      rw [show C x = (v : Int) from ?cv] at cx2
      case cv => exact hCx.out
      have hC3 := hC2.set hx4 ((v : Int) + 1)
      have hA3 := hset.other (p := w1.heap.size) (by omega) x (.int .i64 ((v : Int) + 1))
      have hB3 := hB2.setCell (p := ⟨w1.heap.size, x, none⟩) hsz1 (.int .i64 ((v : Int) + 1))
      go_wp2_with fail
      go_roundw
      case rel => exact ⟨i + 1, _, by omega, by go_num, hC3, hcl', hA3.congr (fun k _ => by rw [hpn.out]; rfl), hB3⟩
      case measure => simp [intOf]; omega
    · obtain rfl : i = 6 * n := by omega
      have hit : decide (((6 * n : Nat) : Int) < ((6 * n : Nat) : Int)) = false := decide_eq_false (by omega)
      have hitN : decide (6 * n < 6 * n) = false := decide_eq_false (by omega)
      go_wp2_with fail
      go_ret
      exact ⟨_, rfl, Nat.le_refl _, hA, hB⟩

set_option maxRecDepth 20000 in
set_option maxHeartbeats 4000000 in
theorem specFL_no (A : Option Addr) (L c : Nat) (f : Nat → Int) (hz : ¬ Ok f L) (w : World) (h : RowI w A L f) (hn : L ≤ maxLen) :
    Calls Try.prog 49 #[.slice A L c] w fun e w' => ∃ A2 c2, e = .returned (.tuple #[.slice A2 0 c2, .bool false]) ∧ Below w.heap.size w w' := by
  have Hk := Lib.hid (fun w h => specOkL_any A L c f false ⟨fun h => (by cases h), fun h => absurd h hz⟩ w h hn)
  have H := Lib.hid h; clear h
  clear hz
  go_enter Try.func49, Try.ntmps49
  go_wp2_with fail
  refine (Hk.out _ H.out).mono ?_
  rintro e w2 ⟨rfl, hb⟩
  go_wp2_with fail
  go_ret2
  exact ⟨_, _, rfl, na hb _⟩

set_option maxRecDepth 20000 in
set_option maxHeartbeats 4000000 in
theorem specFL_yes (A : Option Addr) (n c : Nat) (f : Nat → Int) (hz : Ok f (6 * n)) (w : World) (h : RowI w A (6 * n) f) (hn : 6 * n ≤ maxLen) :
    Calls Try.prog 49 #[.slice A (6 * n) c] w fun e w' => ∃ g, e = .returned (.tuple #[.slice (some ⟨g, 0, none⟩) n n, .bool true]) ∧ w.heap.size ≤ g ∧ At w' g (n * 6) (pw f (6 * n)) ∧ Below w.heap.size w w' := by
  have Hk := Lib.hid (fun w h => specOkL_any A (6 * n) c f true ⟨fun _ => hz, fun _ => rfl⟩ w h hn)
  have Hp := Lib.hid (fun w h => specPool_any A n c f w h hz)
  have H := Lib.hid h; clear h
  clear hz
  go_enter Try.func49, Try.ntmps49
  go_wp2_with fail
  refine (Hk.out _ H.out).mono ?_
  rintro e w2 ⟨rfl, hb⟩
  go_wp2_with fail
  refine (Hp.out _ (H.out.up hb)).mono ?_
  rintro e w3 ⟨g, rfl, hg, hA, hb3⟩
  go_wp2_with fail
  go_ret2
  exact ⟨g, rfl, Nat.le_trans hb.size hg, hA, nx hb hb3⟩


end LtrP
end Go.Proofs.Ytiiknpebphpeiaa
