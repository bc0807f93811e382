/-
  Whether a list is a stretch of another one.
-/
import Derived.Test.YtdodokeebmdceaaRows
import Derived.Test.YtdodokeebmdceaaArr
import Derived.Test.YtdodokeebmdceaaAnyR
import Derived.Test.YtdodokeebmdceaaDieW
import Derived.Test.YtdodokeebmdceaaSortW
import Derived.Test.YtdodokeebmdceaaFracW
import Derived.Test.YtdodokeebmdceaaFracL
import Derived.Test.YtdodokeebmdceaaCutW
import Derived.Test.YtdodokeebmdceaaAll6
import Derived.Test.YtdodokeebmdceaaAllL
import Derived.Test.YtdodokeebmdceaaOwnL
import Derived.Test.YtdodokeebmdceaaFracM
import Derived.Test.YtdodokeebmdceaaWgtM
import Derived.Test.YtdodokeebmdceaaWgtW
import Derived.Test.YtdodokeebmdceaaShelfSl
import Derived.Test.YtdodokeebmdceaaOpenI
import Derived.Test.YtdodokeebmdceaaPhrM
import Derived.Test.YtdodokeebmdceaaPhrW
import Derived.Test.YtdodokeebmdceaaPhrV
import Derived.Test.YtdodokeebmdceaaOvI
import Derived.Test.YtdodokeebmdceaaGoalW
import Derived.Test.YtdodokeebmdceaaFracB2
import Derived.Test.YtdodokeebmdceaaOvS
import Derived.Test.YtdodokeebmdceaaOpenD
import Derived.WalkKit
import Derived.WalkLawsBesides
import Derived.WalkSpells
import Derived.ProofKit
import Derived.OpenShut
import Derived.Deep.RegionWith
import Derived.Deep.QuietTactic
import Derived.BigQuiet
namespace Go.Proofs.Ytdodokeebmdceaa
open Go.ChangeShapes Go.WideShapes Go.ChangeAt Go.RowKit
open Go.ChangeMaps (open_string shut_string)

namespace StrW
open Dice Arr DieW SortW FracW CutW All6 AllL OwnL FracM WgtM WgtW OpenG PhrM PhrW AnyR PhrV OvI GoalW OvS


/-- Whether one of the first i stretches of a list is another one. -/
def st (fa : Nat → Int) (n : Nat) (fb : Nat → Int) (m : Nat) : Nat → Bool
  | 0 => false
  | i + 1 => st fa n fb m i || (decide (i + m ≤ n) && decide (agree (fun j => fa (i + j)) fb m))
theorem st_yes {fa fb : Nat → Int} {n m i : Nat} (h1 : i + m ≤ n) (h2 : agree (fun j => fa (i + j)) fb m) : ∀ {k : Nat}, i < k → st fa n fb m k = true
  | 0, h => by omega
  | k + 1, h => by
    show (st fa n fb m k || _) = true
    by_cases e : i = k
    · subst e
      rw [decide_eq_true h1, decide_eq_true h2]
      simp
    · rw [st_yes h1 h2 (by omega)]; rfl
theorem st_next {fa fb : Nat → Int} {n m i : Nat} (h : st fa n fb m i = false) (h1 : ¬ (i + m ≤ n) ∨ ¬ agree (fun j => fa (i + j)) fb m) : st fa n fb m (i + 1) = false := by
  show (st fa n fb m i || _) = false
  rw [h]
  rcases h1 with h1 | h1
  · rw [decide_eq_false h1]; rfl
  · rw [decide_eq_false h1, Bool.and_false]; rfl
theorem st_rest {fa fb : Nat → Int} {n m i : Nat} (h : st fa n fb m i = false) (h1 : n < i + m) : ∀ k, st fa n fb m (i + k) = false
  | 0 => h
  | k + 1 => st_next (i := i + k) (st_rest h h1 k) (.inl (by omega))
theorem sl_mid {g n i m : Nat} (hi : i < n) (hm : i + m ≤ n) (w : World) : (Instr.slice 37 (.slice (some ⟨g, 0, none⟩) n n) (some (.int .i64 (i : Nat))) (some (.int .i64 (i + m : Nat))) none).run Try.prog w = .ok (.slice (some ⟨g, i, none⟩) m (n - i)) w := by
  have h1 : ¬ n = i := by omega
  rw [run_slice_lh w _ _ _ _ elem_ints _ _ _ _ (by omega) (by omega) (by omega)]
  simp [Try.sizeOf3, sliced, h1, Result.andThen, Addr.add, elem_int]
  omega

set_option maxRecDepth 100000 in
set_option maxHeartbeats 4000000 in
theorem implSt_any (ga n gb m : Nat) (fa fb : Nat → Int) (w : World) (hA : At w ga n fa) (hC : At w gb m fb) (hn : n ≤ 6) (hm : m ≤ 6) :
    Calls Try.prog 78 #[.slice (some ⟨ga, 0, none⟩) n n, .slice (some ⟨gb, 0, none⟩) m m] w fun e w' => e = .returned (.bool (st fa n fb m n)) ∧ Below w.heap.size w w' := by
  have Heq := Lib.hid (fun (A A' : Option Addr) (k c c' : Nat) (f g : Nat → Int) (w : World) (h : RowI w A k f) (h' : RowI w A' k g) (hk : k ≤ 1048576) => equal_any A A' k c c' f g w h h' hk)
  have HA := Lib.hid hA
  have HC := Lib.hid hC
  clear hA hC
  go_enter Try.func78, Try.ntmps78
  go_wp2_with fail
  go_loopw [9] (fun iv wr => ∃ i : Nat, i ≤ n ∧ iv = .int .i64 i ∧ Hid (st fa n fb m i = false) ∧ Below w.heap.size w wr) (fun iv _ => n - (intOf iv).toNat)
  case atStart => exact ⟨0, by omega, rfl, rfl, n0 w⟩
  case round =>
    obtain ⟨i, hi, rfl, hs, hB⟩ := hrel
    by_cases hlt : i < n
    · have hit : decide ((i : Int) < (n : Int)) = true := decide_eq_true (by omega)
      have hitN : decide (i < n) = true := decide_eq_true hlt
      obtain ⟨s, hsm⟩ : ∃ s, s = i + m := ⟨_, rfl⟩
      have hsum : (i : Int) + (m : Int) = (s : Int) := by omega
      have hws1 : IntKind.i64.wrap (s : Int) = (s : Int) := FracL.wrap_sameL _ (by omega) (by omega)
      have hws2 : wrap64 (s : Int) = (s : Int) := by unfold wrap64; omega
      have Hsm := Lib.hid hsm; clear hsm
      by_cases hle : i + m ≤ n
      · have hl : decide ((s : Int) ≤ (n : Int)) = true := decide_eq_true (by omega)
        have hlN : decide (s ≤ n) = true := decide_eq_true (by omega)
        have hsl : ∀ w, (Instr.slice 37 (.slice (some ⟨ga, 0, none⟩) n n) (some (.int .i64 (i : Nat))) (some (.int .i64 (s : Nat))) none).run Try.prog w = .ok (.slice (some ⟨ga, i, none⟩) m (n - i)) w := fun w => by rw [Hsm.out]; exact sl_mid hlt hle w
        have hqk : ∀ w, At w ga n fa → At w gb m fb → Calls Try.prog 98 #[.slice (some ⟨ga, i, none⟩) m (n - i), .slice (some ⟨gb, 0, none⟩) m m] w fun e w' => e = .returned (.bool (decide (agree (fun j => fa (i + j)) fb m))) ∧ Below w.heap.size w w' := fun w h1 h2 => Heq.out _ _ m _ _ _ _ w (row_of h1 (by omega)) (row_at h2) (by omega)
        by_cases hag : agree (fun j => fa (i + j)) fb m
        · rw [decide_eq_true hag] at hqk
          have Hqk := Lib.hid hqk; clear hqk
          have hyes := Lib.hid (st_yes hle hag hlt)
          have Hag := Lib.hid hag; clear hag
          go_wp2_with fail
          refine (Hqk.out _ (HA.out.up hB) (HC.out.up hB)).mono ?_
          rintro e w2 ⟨rfl, hb2⟩
          have hB := nx hB hb2
          go_wp2_with fail
          go_ret
          exact ⟨by rw [hyes.out]; rfl, hB⟩
        · rw [decide_eq_false hag] at hqk
          have Hqk := Lib.hid hqk; clear hqk
          have hno := Lib.hid (st_next hs.out (.inr hag))
          have Hag := Lib.hid hag; clear hag
          go_wp2_with fail
          refine (Hqk.out _ (HA.out.up hB) (HC.out.up hB)).mono ?_
          rintro e w2 ⟨rfl, hb2⟩
          have hB := nx hB hb2
          go_wp2_with fail
          go_roundw
          case rel => exact ⟨i + 1, by omega, by go_num, hno, hB⟩
          case measure => simp [intOf]; omega
      · have hl : decide ((s : Int) ≤ (n : Int)) = false := decide_eq_false (by omega)
        have hlN : decide (s ≤ n) = false := decide_eq_false (by omega)
        have hno := Lib.hid (st_next hs.out (.inl hle))
        go_wp2_with fail
        go_roundw
        case rel => exact ⟨i + 1, by omega, by go_num, hno, hB⟩
        case measure => simp [intOf]; omega
    · obtain rfl : i = n := by omega
      have hit : decide ((i : Int) < (i : Int)) = false := decide_eq_false (by omega)
      go_wp2_with fail
      go_ret
      exact ⟨by rw [hs.out]; rfl, hB⟩

set_option maxRecDepth 100000 in
set_option maxHeartbeats 4000000 in
theorem specSt_any (ga n gb m : Nat) (fa fb : Nat → Int) (w : World) (hA : At w ga n fa) (hC : At w gb m fb) (hn : n ≤ 6) (hm : 1 ≤ m ∧ m ≤ 6) :
    Calls Try.prog 75 #[.slice (some ⟨gb, 0, none⟩) m m, .slice (some ⟨ga, 0, none⟩) n n] w fun e w' => e = .returned (.bool (st fa n fb m n)) ∧ Below w.heap.size w w' := by
  have Heq := Lib.hid (fun (A A' : Option Addr) (k c c' : Nat) (f g : Nat → Int) (w : World) (h : RowI w A k f) (h' : RowI w A' k g) (hk : k ≤ 1048576) => same_any A A' k c c' f g w h h' hk)
  have HA := Lib.hid hA
  have HC := Lib.hid hC
  clear hA hC
  go_enter Try.func75, Try.ntmps75
  go_wp2_with fail
  go_loopw [5] (fun iv wr => ∃ i : Nat, i ≤ n ∧ iv = .int .i64 i ∧ Hid (st fa n fb m i = false) ∧ Below w.heap.size w wr) (fun iv _ => n + 1 - (intOf iv).toNat)
  case atStart => exact ⟨0, by omega, rfl, rfl, n0 w⟩
  case round =>
    obtain ⟨i, hi, rfl, hs, hB⟩ := hrel
    obtain ⟨s, hsm⟩ : ∃ s, s = i + m := ⟨_, rfl⟩
    have hsum : (i : Int) + (m : Int) = (s : Int) := by omega
    have hws1 : IntKind.i64.wrap (s : Int) = (s : Int) := FracL.wrap_sameL _ (by omega) (by omega)
    have hws2 : wrap64 (s : Int) = (s : Int) := by unfold wrap64; omega
    have Hsm := Lib.hid hsm; clear hsm
    by_cases hle : i + m ≤ n
    · have hlt : i < n := by omega
      have hl : decide ((s : Int) ≤ (n : Int)) = true := decide_eq_true (by omega)
      have hlN : decide (s ≤ n) = true := decide_eq_true (by omega)
      have hsl : ∀ w, (Instr.slice 37 (.slice (some ⟨ga, 0, none⟩) n n) (some (.int .i64 (i : Nat))) (some (.int .i64 (s : Nat))) none).run Try.prog w = .ok (.slice (some ⟨ga, i, none⟩) m (n - i)) w := fun w => by rw [Hsm.out]; exact sl_mid hlt hle w
      have hqk : ∀ w, At w ga n fa → At w gb m fb → Calls Try.prog 97 #[.slice (some ⟨gb, 0, none⟩) m m, .slice (some ⟨ga, i, none⟩) m (n - i)] w fun e w' => e = .returned (.bool (decide (agree fb (fun j => fa (i + j)) m))) ∧ Below w.heap.size w w' := fun w h1 h2 => Heq.out _ _ m _ _ _ _ w (row_at h2) (row_of h1 (by omega)) (by omega)
      by_cases hag : agree (fun j => fa (i + j)) fb m
      · rw [decide_eq_true (show agree fb (fun j => fa (i + j)) m from fun j hj => (hag j hj).symm)] at hqk
        have Hqk := Lib.hid hqk; clear hqk
        have hyes := Lib.hid (st_yes hle hag hlt)
        have Hag := Lib.hid hag; clear hag
        go_wp2_with fail
        refine (Hqk.out _ (HA.out.up hB) (HC.out.up hB)).mono ?_
        rintro e w2 ⟨rfl, hb2⟩
        have hB := nx hB hb2
        go_wp2_with fail
        go_ret
        exact ⟨by rw [hyes.out]; rfl, hB⟩
      · rw [decide_eq_false (show ¬ agree fb (fun j => fa (i + j)) m from fun h => hag fun j hj => (h j hj).symm)] at hqk
        have Hqk := Lib.hid hqk; clear hqk
        have hno := Lib.hid (st_next hs.out (.inr hag))
        have Hag := Lib.hid hag; clear hag
        go_wp2_with fail
        refine (Hqk.out _ (HA.out.up hB) (HC.out.up hB)).mono ?_
        rintro e w2 ⟨rfl, hb2⟩
        have hB := nx hB hb2
        go_wp2_with fail
        go_roundw
        case rel => exact ⟨i + 1, by omega, by go_num, hno, hB⟩
        case measure => simp [intOf]; omega
    · have hl : decide ((s : Int) ≤ (n : Int)) = false := decide_eq_false (by omega)
      have hlN : decide (s ≤ n) = false := decide_eq_false (by omega)
      have hno := st_rest hs.out (by omega) (n - i)
      rw [show i + (n - i) = n by omega] at hno
      have Hno := Lib.hid hno; clear hno
      go_wp2_with fail
      go_ret
      exact ⟨by rw [Hno.out]; rfl, hB⟩


end StrW
end Go.Proofs.Ytdodokeebmdceaa
