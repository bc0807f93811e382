/-
  Which of two phrases comes first: what is answered.
-/
import Derived.Test.YtdodokeebmdceaaRows
import Derived.Test.YtdodokeebmdceaaArr
import Derived.Test.YtdodokeebmdceaaAnyR
import Derived.Test.YtdodokeebmdceaaDieW
import Derived.Test.YtdodokeebmdceaaSortW
import Derived.Test.YtdodokeebmdceaaFracW
import Derived.Test.YtdodokeebmdceaaFracL
import Derived.Test.YtdodokeebmdceaaCutW
import Derived.Test.YtdodokeebmdceaaAll6
import Derived.Test.YtdodokeebmdceaaAllL
import Derived.Test.YtdodokeebmdceaaOwnL
import Derived.Test.YtdodokeebmdceaaFracM
import Derived.Test.YtdodokeebmdceaaWgtM
import Derived.Test.YtdodokeebmdceaaWgtW
import Derived.Test.YtdodokeebmdceaaShelfSl
import Derived.Test.YtdodokeebmdceaaOpenI
import Derived.Test.YtdodokeebmdceaaPhrM
import Derived.Test.YtdodokeebmdceaaPhrW
import Derived.Test.YtdodokeebmdceaaPhrV
import Derived.Test.YtdodokeebmdceaaOvI
import Derived.Test.YtdodokeebmdceaaGoalW
import Derived.Test.YtdodokeebmdceaaFracB2
import Derived.Test.YtdodokeebmdceaaOvS
import Derived.Test.YtdodokeebmdceaaPOv
import Derived.Test.YtdodokeebmdceaaStrW
import Derived.Test.YtdodokeebmdceaaFirstM
import Derived.Test.YtdodokeebmdceaaFracB3
import Derived.Test.YtdodokeebmdceaaOpenD
import Derived.WalkKit
import Derived.WalkLawsBesides
import Derived.WalkSpells
import Derived.ProofKit
import Derived.OpenShut
import Derived.Deep.RegionWith
import Derived.Deep.QuietTactic
import Derived.BigQuiet
namespace Go.Proofs.Ytdodokeebmdceaa
open Go.ChangeShapes Go.WideShapes Go.ChangeAt Go.RowKit
open Go.ChangeMaps (open_string shut_string)

namespace FirN
open Dice Arr DieW SortW FracW CutW All6 AllL OwnL FracM WgtM WgtW OpenG PhrM PhrW AnyR PhrV OvI GoalW POv StrW FirstM


theorem wgt_some {d : Nat → Int} {x : Int} : ∀ {k : Nat}, 1 ≤ wgt d x k → ∃ j, j < k ∧ d j = x
  | 0, h => by exact absurd h (by show ¬ 1 ≤ 0; omega)
  | k + 1, h => by
    by_cases hk : d k = x
    · exact ⟨k, by omega, hk⟩
    · rw [wgt_miss hk] at h
      obtain ⟨j, h1, h2⟩ := wgt_some h
      exact ⟨j, by omega, h2⟩
theorem wgt_all {d : Nat → Int} {x : Int} : ∀ {k : Nat}, wgt d x k = k → ∀ j, j < k → d j = x
  | 0, _, j, hj => by omega
  | k + 1, h, j, hj => by
    by_cases hk : d k = x
    · rw [wgt_hit hk] at h
      by_cases e : j = k
      · rw [e]; exact hk
      · exact wgt_all (k := k) (by omega) j (by omega)
    · rw [wgt_miss hk] at h
      have := wgt_le d x k
      omega
theorem five {d fa fb : Nat → Int} {n m : Nat} (hn : 1 ≤ n) (hm : 1 ≤ m) (ha : ∀ i, i < n → 1 ≤ wv d fa i) (hb : ∀ i, i < m → 1 ≤ wv d fb i) (s1 : st fa n fb m n = false) (s2 : st fb m fa n m = false) (x : Int) : wgt d x 6 ≤ 5 := by
  have h6 := wgt_le d x 6
  refine Nat.le_of_not_lt fun h => ?_
  have hall := wgt_all (d := d) (x := x) (k := 6) (by omega)
  have hx : ∀ y, 1 ≤ wgt d y 6 → y = x := fun y hy => by
    obtain ⟨j, h1, h2⟩ := wgt_some hy
    rw [← h2]
    exact hall j h1
  have ea : ∀ i, i < n → fa i = x := fun i hi => hx _ (ha i hi)
  have eb : ∀ i, i < m → fb i = x := fun i hi => hx _ (hb i hi)
  by_cases hmn : m ≤ n
  · have := st_yes (fa := fa) (fb := fb) (n := n) (m := m) (i := 0) (by omega) (fun j hj => by show fa (0 + j) = fb j; rw [ea _ (by omega), eb _ hj]) (k := n) (by omega)
    rw [s1] at this
    cases this
  · have := st_yes (fa := fb) (fb := fa) (n := m) (m := n) (i := 0) (by omega) (fun j hj => by show fb (0 + j) = fa j; rw [eb _ (by omega), ea _ hj]) (k := m) (by omega)
    rw [s2] at this
    cases this
theorem pr_le5 {v : Nat → Nat} (h : ∀ i, v i ≤ 5) : ∀ k, pr v k ≤ 5 ^ k
  | 0 => Nat.le_refl _
  | k + 1 => by
    rw [Nat.pow_succ]
    exact Nat.mul_le_mul (pr_le5 h k) (h k)
theorem st_zero {fa fb : Nat → Int} {n m : Nat} (hn : 1 ≤ n) (hmn : m ≤ n) (s1 : st fa n fb m n = false) : mt fb fa m m = false := by
  refine decide_eq_false fun h => ?_
  have := st_yes (fa := fa) (fb := fb) (n := n) (m := m) (i := 0) (by omega) (fun j hj => by
    have := h j hj
    simp only at this
    show fa (0 + j) = fb j
    rw [Nat.zero_add, ← this]
    congr 1
    omega) (k := n) (by omega)
  rw [s1] at this
  cases this
/-- The chances of two phrases, in whole numbers. -/
def nO (d : Nat → Int) (n : Nat) (fa : Nat → Int) (m : Nat) (fb : Nat → Int) : Nat := nn (wv d fb) (mt fa fb n) m (min n m)
def fA (d : Nat → Int) (n : Nat) (fa : Nat → Int) (m : Nat) (fb : Nat → Int) : Nat := nO d m fb m fb * pr (wv d fa) n - nO d m fb n fa * pr (wv d fb) m
theorem first_facts {d fa fb : Nat → Int} {n m : Nat} (hn : 1 ≤ n ∧ n ≤ 6) (hm : 1 ≤ m ∧ m ≤ 6) (ha : ∀ i, i < n → 1 ≤ wv d fa i) (hb : ∀ i, i < m → 1 ≤ wv d fb i) (s1 : st fa n fb m n = false) (s2 : st fb m fa n m = false) :
    1 ≤ pr (wv d fa) n ∧ pr (wv d fa) n ≤ 15625 ∧ nO d m fb m fb ≤ 279936 ∧ nO d m fb n fa ≤ 279936 ∧ nO d m fb n fa * pr (wv d fb) m < nO d m fb m fb * pr (wv d fa) n := by
  have h5 := five hn.1 hm.1 ha hb s1 s2
  refine ⟨pr_pos ha, Nat.le_trans (pr_le5 (fun i => h5 _) n) (Nat.le_trans (Nat.pow_le_pow_right (by omega) hn.2) (by decide)), nn_le6 (wv_le d fb) hm.2 _ (by omega), nn_le6 (wv_le d fa) hn.2 _ (by omega), ?_⟩
  have hp := pos (d := d) (fa := fa) (fb := fb) hn.1 hm.1 ha hb (fun h => st_zero hn.1 h s1)
  unfold nO
  rw [Nat.min_self]
  exact hp
/-- What PhraseFirst answers. -/
def okF (d : Nat → Int) (n : Nat) (fa : Nat → Int) (m : Nat) (fb : Nat → Int) : Bool := okPh d n fa && (okPh d m fb && (!st fa n fb m n && !st fb m fa n m))
def qx (d : Nat → Int) (n : Nat) (fa : Nat → Int) (m : Nat) (fb : Nat → Int) : Int := if okF d n fa m fb then (num (fA d n fa m fb) (fA d n fa m fb + fA d m fb n fa) : Nat) else 0
def qy (d : Nat → Int) (n : Nat) (fa : Nat → Int) (m : Nat) (fb : Nat → Int) : Int := if okF d n fa m fb then (den (fA d n fa m fb) (fA d n fa m fb + fA d m fb n fa) : Nat) else 0
theorem f_no {d : Nat → Int} {n m : Nat} {fa fb : Nat → Int} (h : okF d n fa m fb = false) : qx d n fa m fb = 0 ∧ qy d n fa m fb = 0 := by simp [qx, qy, h]
theorem f_yes {d : Nat → Int} {n m : Nat} {fa fb : Nat → Int} (h : okF d n fa m fb = true) : qx d n fa m fb = (num (fA d n fa m fb) (fA d n fa m fb + fA d m fb n fa) : Nat) ∧ qy d n fa m fb = (den (fA d n fa m fb) (fA d n fa m fb + fA d m fb n fa) : Nat) := by simp [qx, qy, h]


end FirN
end Go.Proofs.Ytdodokeebmdceaa
