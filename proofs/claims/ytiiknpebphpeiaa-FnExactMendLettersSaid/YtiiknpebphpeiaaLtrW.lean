/-
  LettersWays on both sides.
-/
import Derived.Test.YtiiknpebphpeiaaRows
import Derived.Test.YtiiknpebphpeiaaArr
import Derived.Test.YtiiknpebphpeiaaDieW
import Derived.Test.YtiiknpebphpeiaaSortW
import Derived.Test.YtiiknpebphpeiaaFour
import Derived.Test.YtiiknpebphpeiaaOrdM
import Derived.Test.YtiiknpebphpeiaaOrdK
import Derived.Test.YtiiknpebphpeiaaOrdW
import Derived.Test.YtiiknpebphpeiaaDicesW
import Derived.Test.YtiiknpebphpeiaaPoolW
import Derived.Test.YtiiknpebphpeiaaOwnL
import Derived.Test.YtiiknpebphpeiaaOpenI
import Derived.Test.YtiiknpebphpeiaaLtrM
import Derived.Test.YtiiknpebphpeiaaIntsW
import Derived.Test.YtiiknpebphpeiaaIntL
import Derived.Test.YtiiknpebphpeiaaIntsE
import Derived.Test.YtiiknpebphpeiaaLtrS
import Derived.Test.YtiiknpebphpeiaaLtrP
import Derived.Test.YtiiknpebphpeiaaLtrI
import Derived.Test.YtiiknpebphpeiaaLtrK
import Derived.Test.YtiiknpebphpeiaaLtrO
import Derived.Test.YtiiknpebphpeiaaAll6
import Derived.Test.YtiiknpebphpeiaaRollN
import Derived.Test.YtiiknpebphpeiaaRollS
import Derived.Test.YtiiknpebphpeiaaOrdT
import Derived.Test.YtiiknpebphpeiaaOrdO
import Derived.Test.YtiiknpebphpeiaaOrdI
import Derived.Test.YtiiknpebphpeiaaOrdS
import Derived.Test.YtiiknpebphpeiaaAnyR
import Derived.Test.YtiiknpebphpeiaaMapO
import Derived.Test.YtiiknpebphpeiaaShelfMax
import Derived.Test.YtiiknpebphpeiaaOrdN
import Derived.Test.YtiiknpebphpeiaaOrdL
import Derived.Test.YtiiknpebphpeiaaCntI
import Derived.Test.YtiiknpebphpeiaaWayI
import Derived.Test.YtiiknpebphpeiaaWayJ
import Derived.Test.YtiiknpebphpeiaaWayS
import Derived.Test.YtiiknpebphpeiaaWayT
import Derived.Test.YtiiknpebphpeiaaOpenD
import Derived.WalkKit
import Derived.WalkLawsBesides
import Derived.WalkSpells
import Derived.ProofKit
import Derived.OpenShut
import Derived.Deep.RegionWith
import Derived.Deep.QuietTactic
import Derived.BigQuiet
namespace Go.Proofs.Ytiiknpebphpeiaa
open Go.ChangeShapes Go.WideShapes Go.ChangeAt Go.RowKit
open Go.ChangeMaps (open_string shut_string)

namespace LtrW
open Dice Arr OpenD DieW SortW DicesW PoolW All6 IntsW RollW Four OwnL OrdM OrdT OrdW OrdO OrdI OrdK OrdS AnyR MapO OrdN OrdL CntI WayI WayJ WayS WayT OpenG LtrM LtrS LtrP LtrI LtrK LtrO


theorem pw_in {f : Nat → Int} {n : Nat} (hr : ∀ j, j < 6 * n → 0 ≤ f j ∧ f j < (n : Int)) (h6 : ∀ j, j < 6 * n → cl f j (f j) < 6) : ∀ i, i ≤ 6 * n → ∀ p k : Nat, k < cl f i p → k < 6 → 1 ≤ pw f i (p * 6 + k) ∧ pw f i (p * 6 + k) ≤ i
  | 0, _, p, k, h, _ => by exact absurd h (Nat.not_lt_zero _)
  | i + 1, hi, p, k, h, hk => by
    obtain ⟨g0, g1⟩ := hr i (by omega)
    have hv := h6 i (by omega)
    obtain ⟨x, hx⟩ : ∃ x : Nat, f i = x := ⟨(f i).toNat, by omega⟩
    rw [hx] at hv
    rw [pw_next hx]
    by_cases e : p * 6 + k = x * 6 + cl f i x
    · rw [e, put_same]
      push_cast
      omega
    · rw [put_other _ e]
      have hk2 : k < cl f i p := by
        by_cases hp : p = x
        · subst hp
          rw [cl_hit hx] at h
          omega
        · rw [cl_miss (by rw [hx]; omega)] at h
          exact h
      have := pw_in hr h6 i (by omega) p k hk2 hk
      push_cast
      omega
theorem pw_up {f : Nat → Int} {n : Nat} (hr : ∀ j, j < 6 * n → 0 ≤ f j ∧ f j < (n : Int)) (h6 : ∀ j, j < 6 * n → cl f j (f j) < 6) : ∀ i, i ≤ 6 * n → ∀ p k : Nat, k + 1 < cl f i p → k + 1 < 6 → pw f i (p * 6 + k) ≤ pw f i (p * 6 + (k + 1))
  | 0, _, p, k, h, _ => by exact absurd h (Nat.not_lt_zero _)
  | i + 1, hi, p, k, h, hk => by
    obtain ⟨g0, g1⟩ := hr i (by omega)
    have hv := h6 i (by omega)
    obtain ⟨x, hx⟩ : ∃ x : Nat, f i = x := ⟨(f i).toNat, by omega⟩
    rw [hx] at hv
    rw [pw_next hx]
    by_cases hp : p = x
    · subst hp
      rw [cl_hit hx] at h
      rw [put_other (k := p * 6 + k) _ (by omega)]
      by_cases e : p * 6 + (k + 1) = p * 6 + cl f i p
      · rw [e, put_same]
        have := (pw_in hr h6 i (by omega) p k (by omega) (by omega)).2
        push_cast
        omega
      · rw [put_other _ e]
        exact pw_up hr h6 i (by omega) p k (by omega) hk
    · rw [cl_miss (by rw [hx]; omega)] at h
      rw [put_other _ (by omega), put_other _ (by omega)]
      exact pw_up hr h6 i (by omega) p k h hk
/-- The pool of letters. -/
def lq (f : Nat → Int) (L : Nat) (i k : Nat) : Int := pw f L (i * 6 + k)
theorem lq_pool {f : Nat → Int} {n : Nat} (h : Ok f (6 * n)) : isPool n (lq f (6 * n)) = true := by
  obtain ⟨m, hm, h1, h4, hr, hc⟩ := id h
  obtain rfl : n = m := by omega
  have h6 := fun j (hj : j < 6 * n) => ok_lt h hj
  have hp : pooled (lq f (6 * n)) n := fun i hi => by
    unfold isDie
    refine decide_eq_true ?_
    intro k hk
    have hci := hc i hi
    have := pw_in hr h6 (6 * n) (Nat.le_refl _) i k (by omega) hk
    have hup : k ≠ 0 → pw f (6 * n) (i * 6 + (k - 1)) ≤ pw f (6 * n) (i * 6 + k) := fun h0 => by
      have e := pw_up hr h6 (6 * n) (Nat.le_refl _) i (k - 1) (by omega) (by omega)
      rwa [show k - 1 + 1 = k by omega] at e
    unfold lq
    push_cast at this
    omega
  unfold isPool
  rw [decide_eq_true (show 1 ≤ n ∧ n ≤ 4 from ⟨h1, h4⟩), decide_eq_true hp]
  rfl
theorem lq_row {w : World} {g n : Nat} {f : Nat → Int} {L : Nat} (h : At w g (n * 6) (pw f L)) : Row w (some ⟨g, 0, none⟩) n (lq f L) :=
  .inr ⟨g, 0, rfl, h.lt, fun i hi k hk => by rw [Nat.zero_add]; exact h.cell (i * 6 + k) (by omega)⟩
noncomputable def mL (n : Nat) (f : Nat → Int) : Nat := if okF n f then mW (n / 6) (lq f n) else 0
def fL (n : Nat) (f : Nat → Int) : Nat → Int := fW (n / 6) (lq f n)
theorem mL_yes {n : Nat} {f : Nat → Int} (h : Ok f (6 * n)) : mL (6 * n) f = mW n (lq f (6 * n)) := by unfold mL; rw [okF_yes h, if_pos rfl, show 6 * n / 6 = n by omega]
theorem fL_yes (n : Nat) (f : Nat → Int) : fL (6 * n) f = fW n (lq f (6 * n)) := by unfold fL; rw [show 6 * n / 6 = n by omega]
theorem mL_no {n : Nat} {f : Nat → Int} (h : ¬ Ok f n) : mL n f = 0 := by unfold mL; rw [okF_no h]; rfl
theorem mL_le (n : Nat) (f : Nat → Int) : mL n f ≤ 1048576 := by
  unfold mL
  by_cases h : okF n f = true
  · rw [if_pos h]; exact Nat.le_trans (mW_le _ _) (by omega)
  · rw [if_neg h]; omega
set_option maxRecDepth 20000 in
set_option maxHeartbeats 4000000 in
theorem specLW_any (g n : Nat) (f : Nat → Int) (w : World) (h : At w g n f) (hn : n ≤ 1048576) :
    Calls Try.prog 55 #[.slice (some ⟨g, 0, none⟩) n n] w fun e w' => ∃ A c, e = .returned (.tuple #[.slice A (mL n f) c, .bool (okF n f)]) ∧ Ints w.heap.size w' A (mL n f) (fL n f) ∧ Below w.heap.size w w' := by
  have hm : n ≤ maxLen := by unfold maxLen; omega
  by_cases hk : Ok f n
  · obtain ⟨m, rfl, h1, h4, _⟩ := id hk
    have Hpl := Lib.hid (lq_pool hk)
    have Hk := Lib.hid (fun w h => specOkL_any (some ⟨g, 0, none⟩) (6 * m) (6 * m) f true ⟨fun _ => hk, fun _ => rfl⟩ w h hm)
    have Hp := Lib.hid (fun w h => specPool_any (some ⟨g, 0, none⟩) m (6 * m) f w h hk)
    have HE : Hid (mL (6 * m) f = (ordL m).length ∧ fL (6 * m) f = wf (cnt (gO (lq f (6 * m)) m) (all6 m)) (ordL m) ∧ okF (6 * m) f = true) := ⟨by rw [mL_yes hk]; unfold mW; rw [Hpl.out]; rfl, by rw [fL_yes]; rfl, okF_yes hk⟩
    have Hw := Lib.hid (fun g w h => specW_any (some ⟨g, 0, none⟩) m m (lq f (6 * m)) w h h1 h4)
    have H := Lib.hid h; clear h
    rw [HE.out.1, HE.out.2.1, HE.out.2.2]
    clear hk hm Hpl HE
    generalize (ordL m).length = q at *
    generalize wf (cnt (gO (lq f (6 * m)) m) (all6 m)) (ordL m) = F9 at *
    go_enter Try.func55, Try.ntmps55
    go_wp2_with fail
    refine (Hk.out _ (rowI_of H.out)).mono ?_
    rintro e w2 ⟨rfl, hb⟩
    go_wp2_with fail
    refine (Hp.out _ (rowI_of (H.out.up hb))).mono ?_
    rintro e w3 ⟨g3, rfl, hg3, hA3, hb3⟩
    have hB3 := nx hb hb3
    go_wp2_with fail
    refine (Hw.out _ _ (lq_row hA3)).mono ?_
    rintro e w4 ⟨g4, rfl, hg4, hA4, hb4⟩
    have hsz := hB3.size
    go_wp2_with fail
    go_ret2
    exact ⟨_, _, rfl, .inr ⟨g4, rfl, by omega, hA4⟩, nx hB3 hb4⟩
  · have Hk := Lib.hid (fun w h => specOkL_any (some ⟨g, 0, none⟩) n n f false ⟨fun h => (by cases h), fun h => absurd h hk⟩ w h hm)
    rw [okF_no hk, mL_no hk]
    have H := Lib.hid h; clear h
    clear hk hm
    go_enter Try.func55, Try.ntmps55
    go_wp2_with fail
    refine (Hk.out _ (rowI_of H.out)).mono ?_
    rintro e w2 ⟨rfl, hb⟩
    go_wp2_with fail
    go_ret2
    exact ⟨_, _, rfl, .inl rfl, na hb _⟩
set_option maxRecDepth 20000 in
set_option maxHeartbeats 4000000 in
theorem implLW_any (g n : Nat) (f : Nat → Int) (w : World) (h : At w g n f) (hn : n ≤ 1048576) :
    Calls Try.prog 56 #[.slice (some ⟨g, 0, none⟩) n n] w fun e w' => ∃ A c, e = .returned (.tuple #[.slice A (mL n f) c, .bool (okF n f)]) ∧ Ints w.heap.size w' A (mL n f) (fL n f) ∧ Below w.heap.size w w' := by
  have hm : n ≤ maxLen := by unfold maxLen; omega
  by_cases hk : Ok f n
  · obtain ⟨m, rfl, h1, h4, _⟩ := id hk
    have Hpl := Lib.hid (lq_pool hk)
    have Hp := Lib.hid (fun w h => implFL_yes (some ⟨g, 0, none⟩) m (6 * m) f hk w h)
    have HE : Hid (mL (6 * m) f = mW m (lq f (6 * m)) ∧ fL (6 * m) f = fW m (lq f (6 * m)) ∧ okF (6 * m) f = isPool m (lq f (6 * m))) := ⟨mL_yes hk, fL_yes _ _, by rw [okF_yes hk, Hpl.out]⟩
    have Hw := Lib.hid (fun g w h => implWays_any (some ⟨g, 0, none⟩) m m (lq f (6 * m)) w h (by unfold maxLen; omega))
    have H := Lib.hid h; clear h
    rw [HE.out.1, HE.out.2.1, HE.out.2.2]
    clear hk hm Hpl HE
    generalize mW m (lq f (6 * m)) = q at *
    generalize fW m (lq f (6 * m)) = F9 at *
    generalize isPool m (lq f (6 * m)) = z at *
    go_enter Try.func56, Try.ntmps56
    go_wp2_with fail
    refine (Hp.out _ (rowI_of H.out)).mono ?_
    rintro e w3 ⟨g3, rfl, hg3, hA3, hb3⟩
    have hsz := hb3.size
    go_wp2_with fail
    refine (Hw.out _ _ (lq_row hA3)).mono ?_
    rintro e w4 ⟨A4, c4, rfl, hL4, hb4⟩
    go_wp2_with fail
    go_ret2
    exact ⟨_, _, rfl, hL4.mono hsz, nx hb3 hb4⟩
  · have Hk := Lib.hid (fun w h => implFL_no (some ⟨g, 0, none⟩) n n f hk w h hm)
    rw [okF_no hk, mL_no hk]
    have H := Lib.hid h; clear h
    clear hk hm
    go_enter Try.func56, Try.ntmps56
    go_wp2_with fail
    refine (Hk.out _ (rowI_of H.out)).mono ?_
    rintro e w2 ⟨rfl, hb⟩
    go_wp2_with fail
    go_ret2
    exact ⟨_, _, rfl, .inl rfl, hb⟩


end LtrW
end Go.Proofs.Ytiiknpebphpeiaa
