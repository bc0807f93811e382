/-
  Letters and their pool, by the specification.
-/
import Derived.Test.YtiiknpebphpeiaaRows
import Derived.Test.YtiiknpebphpeiaaArr
import Derived.Test.YtiiknpebphpeiaaDieW
import Derived.Test.YtiiknpebphpeiaaSortW
import Derived.Test.YtiiknpebphpeiaaFour
import Derived.Test.YtiiknpebphpeiaaOrdM
import Derived.Test.YtiiknpebphpeiaaOrdK
import Derived.Test.YtiiknpebphpeiaaOrdW
import Derived.Test.YtiiknpebphpeiaaDicesW
import Derived.Test.YtiiknpebphpeiaaPoolW
import Derived.Test.YtiiknpebphpeiaaOwnL
import Derived.Test.YtiiknpebphpeiaaOpenI
import Derived.Test.YtiiknpebphpeiaaLtrM
import Derived.Test.YtiiknpebphpeiaaOpenD
import Derived.WalkKit
import Derived.WalkLawsBesides
import Derived.WalkSpells
import Derived.ProofKit
import Derived.OpenShut
import Derived.Deep.RegionWith
import Derived.Deep.QuietTactic
import Derived.BigQuiet
namespace Go.Proofs.Ytiiknpebphpeiaa
open Go.ChangeShapes Go.WideShapes Go.ChangeAt Go.RowKit
open Go.ChangeMaps (open_string shut_string)

namespace LtrS
open Dice Arr DieW SortW Four OrdK OrdW DicesW PoolW OwnL OpenG LtrM


theorem Ok.neg {f : Nat → Int} {L n : Nat} (hL : L = 6 * n) (h : ¬ (1 ≤ n ∧ n ≤ 4)) : ¬ Ok f L := fun ⟨m, e, h1, h4, _⟩ => h ⟨by omega, by omega⟩
theorem no_ok {z : Bool} {p : Prop} (hz : z = true ↔ p) (h : ¬ p) : z = false := by cases z with | false => rfl | true => exact absurd (hz.1 rfl) h

set_option maxRecDepth 20000 in
set_option maxHeartbeats 4000000 in
theorem specOkL_any (A : Option Addr) (L c : Nat) (f : Nat → Int) (z : Bool) (hz : z = true ↔ Ok f L) (w : World) (h : RowI w A L f) (hn : L ≤ maxLen) :
    Calls Try.prog 84 #[.slice A L c] w fun e w' => e = .returned (.bool z) ∧ Below w.heap.size w w' := by
  unfold maxLen at hn
  have H := Lib.hid h; clear h
  obtain ⟨n, r, hr, hL⟩ : ∃ n r, r < 6 ∧ L = 6 * n + r := ⟨L / 6, L % 6, Nat.mod_lt _ (by omega), by omega⟩
  by_cases hr0 : r = 0
  case neg =>
    have hzf := no_ok hz (fun ⟨m, e, _⟩ => hr0 (by omega))
    rw [hzf]
    have hm : (((L : Int) % 6) != 0) = true := by simp; omega
    have hm2 : ((Int.tmod (L : Int) 6) != 0) = true := by rw [Int.tmod_eq_emod_of_nonneg (by omega)]; simp; omega
    clear hz hzf
    go_enter Try.func84, Try.ntmps84
    go_wp2_with fail
    go_ret
    exact ⟨rfl, (n0 w).alloc (Nat.le_refl _) _⟩
  subst hr0
  have hL' : L = 6 * n := by omega
  clear hL
  subst hL'
  have hm : ((((6 * n : Nat) : Int) % 6) != 0) = false := by simp
  have hm2 : ((Int.tmod ((6 * n : Nat) : Int) 6) != 0) = false := by rw [Int.tmod_eq_emod_of_nonneg (by omega)]; simp
  have Hi := Lib.hid (fun w => l1In_any ((6 * n : Nat) : Int) 6 24 w)
  by_cases hn4 : 1 ≤ n ∧ n ≤ 4
  case neg =>
    have hzf := no_ok hz (Ok.neg rfl hn4)
    rw [hzf]
    have hd : decide ((6 : Int) ≤ ((6 * n : Nat) : Int) ∧ ((6 * n : Nat) : Int) ≤ 24) = false := decide_eq_false (by omega)
    rw [hd] at Hi
    have Hi := Lib.hid Hi
    clear hz hzf hd hn4
    go_enter Try.func84, Try.ntmps84
    go_wp2_with fail
    refine (Hi.out _).mono ?_
    rintro e w2 ⟨rfl, hw⟩
    subst hw
    go_wp2_with fail
    go_ret
    exact ⟨rfl, (n0 w).alloc (Nat.le_refl _) _⟩
  obtain ⟨h1, h4⟩ := hn4
  have hd : decide ((6 : Int) ≤ ((6 * n : Nat) : Int) ∧ ((6 * n : Nat) : Int) ≤ 24) = true := decide_eq_true (by omega)
  rw [hd] at Hi
  have Hi := Lib.hid Hi
  have Hj := Lib.hid (fun (x : Int) w => l1In_any x 0 ((n : Int) - 1) w)
  clear hd
  have hX := At.new4 w (fun _ => 0) 24 rfl
  have hB := (n0 w).alloc (Nat.le_refl _) (fourO (fun _ => 0) 24)
  go_enter Try.func84, Try.ntmps84
  go_wp2_with fail
  refine (Hi.out _).mono ?_
  rintro e w2 ⟨rfl, hw⟩
  subst hw
  have hq1 : (((6 * n : Nat) : Int) / 6) = n := by omega
  have hq2 : Int.tdiv ((6 * n : Nat) : Int) 6 = n := by rw [Int.tdiv_eq_ediv_of_nonneg (by omega)]; omega
  go_wp2_with fail
  go_loopw [4] (fun iv wr => ∃ (i : Nat) (C : Nat → Int), i ≤ 6 * n ∧ iv = .int .i64 i ∧ At wr w.heap.size 4 C ∧ Hid (∀ p : Nat, p < 4 → C p = (cl f i p : Nat)) ∧ Hid (∀ j, j < i → 0 ≤ f j ∧ f j < (n : Int)) ∧ Below w.heap.size w wr) (fun iv _ => 6 * n - (intOf iv).toNat)
  case atStart => exact ⟨0, _, Nat.zero_le _, rfl, hX, fun p _ => rfl, fun j hj => by omega, hB⟩
  case round =>
    clear hX hB
    obtain ⟨i, C, hi, rfl, hC, hcl, hrg, hB⟩ := hrel
    by_cases hlt : i < 6 * n
    · have hit : decide ((i : Int) < ((6 * n : Nat) : Int)) = true := decide_eq_true (by omega)
      have hitN : decide (i < 6 * n) = true := decide_eq_true hlt
      obtain ⟨b, o, rfl, hbl, ci⟩ := (H.out.below (Nat.le_refl _) hB).at_ hlt
      by_cases hin : 0 ≤ f i ∧ f i ≤ (n : Int) - 1
      case neg =>
        have hd : decide ((0 : Int) ≤ f i ∧ f i ≤ (n : Int) - 1) = false := decide_eq_false hin
        have Hj := Lib.hid (fun w => (Hj.out (f i) w))
        rw [hd] at Hj
        have Hj := Lib.hid Hj.out
        have hzf := no_ok hz (fun ⟨m, e, _, _, h3, _⟩ => hin (by have := h3 i (by omega); omega))
        clear hd hin hz
        go_wp2_with fail
        refine (Hj.out _).mono ?_
        rintro e w3 ⟨rfl, hw⟩
        subst hw
        go_wp2_with fail
        go_ret
        exact ⟨by rw [hzf]; rfl, hB⟩
      have hd : decide ((0 : Int) ≤ f i ∧ f i ≤ (n : Int) - 1) = true := decide_eq_true hin
      have Hj := Lib.hid (fun w => (Hj.out (f i) w))
      rw [hd] at Hj
      have Hj := Lib.hid Hj.out
      obtain ⟨x, hx⟩ : ∃ x : Nat, f i = x := ⟨(f i).toNat, by omega⟩
      have hx4 : x < 4 := by omega
      have hrg' := Lib.hid (fun j (hj : j < i + 1) => show 0 ≤ f j ∧ f j < (n : Int) from by
        by_cases e : j = i
        · subst e; omega
        · exact hrg.out j (by omega))
      have hcl' := Lib.hid (cl_put hx hcl.out)
      have cx := hC.cell x hx4
      have zx := hC.free x
      rw [hcl.out x hx4] at cx
      have hv := cl_le f x i
      rw [hx] at ci Hj
      have Hj := Lib.hid Hj.out
      clear hcl hrg hin hd hx
      generalize cl f i x = v at *
      go_wp2_with fail
      refine (Hj.out _).mono ?_
      rintro e w3 ⟨rfl, hw⟩
      subst hw
      go_wp2_with fail
      go_roundw
      case rel => exact ⟨i + 1, put C x ((v : Int) + 1), by omega, by go_num, hC.set hx4 _, hcl', hrg', hB.setCell (p := ⟨w.heap.size, x, none⟩) (Nat.le_refl _) _⟩
      case measure => simp [intOf]; omega
    · obtain rfl : i = 6 * n := by omega
      have hit : decide (((6 * n : Nat) : Int) < ((6 * n : Nat) : Int)) = false := decide_eq_false (by omega)
      have hitN : decide (6 * n < 6 * n) = false := decide_eq_false (by omega)
      go_wp2_with fail
      go_loopw [5] (fun iv wq => ∃ (i : Nat), i ≤ n ∧ iv = .int .i64 i ∧ wq = wr ∧ Hid (∀ p : Nat, p < i → cl f (6 * n) p = 6)) (fun iv _ => n - (intOf iv).toNat)
      case atStart => exact ⟨0, Nat.zero_le _, rfl, rfl, fun p hp => by omega⟩
      case round =>
        obtain ⟨i, hi, rfl, rfl, hok⟩ := hrel
        by_cases hlt : i < n
        · have hit : decide ((i : Int) < (n : Int)) = true := decide_eq_true (by omega)
          have hitN : decide (i < n) = true := decide_eq_true hlt
          have cx := hC.cell i (by omega)
          rw [hcl.out i (by omega)] at cx
          by_cases h6 : cl f (6 * n) i = 6
          · have hd : (((cl f (6 * n) i : Nat) : Int) != 6) = false := by rw [h6]; rfl
            have hok' := Lib.hid (fun (p : Nat) (hp : p < i + 1) => show cl f (6 * n) p = 6 from by
              by_cases e : p = i
              · subst e; exact h6
              · exact hok.out p (by omega))
            clear h6 hok hcl hrg
            generalize cl f (6 * n) i = v at *
            go_wp2_with fail
            go_roundw
            case rel => exact ⟨i + 1, by omega, by go_num, by first | rfl | trivial, hok'⟩
            case measure => simp [intOf]; omega
          · have hd : (((cl f (6 * n) i : Nat) : Int) != 6) = true := by simp; omega
            have hzf := no_ok hz (fun ⟨m, e, _, _, _, h3⟩ => h6 (h3 i (by omega)))
            clear h6 hok hcl hrg hz
            generalize cl f (6 * n) i = v at *
            go_wp2_with fail
            go_ret
            exact ⟨by rw [hzf]; rfl, hB⟩
        · obtain rfl : i = n := by omega
          have hit : decide ((i : Int) < (i : Int)) = false := decide_eq_false (by omega)
          have hitN : decide (i < i) = false := decide_eq_false (by omega)
          have hzt : z = true := hz.2 ⟨i, rfl, h1, h4, hrg.out, hok.out⟩
          clear hz
          go_wp2_with fail
          go_ret
          exact ⟨by rw [hzt]; rfl, hB⟩


end LtrS
end Go.Proofs.Ytiiknpebphpeiaa
