/-
  FromLetters on both sides, told alike.
-/
import Derived.Test.YtiiknpebphpeiaaRows
import Derived.Test.YtiiknpebphpeiaaArr
import Derived.Test.YtiiknpebphpeiaaDieW
import Derived.Test.YtiiknpebphpeiaaSortW
import Derived.Test.YtiiknpebphpeiaaFour
import Derived.Test.YtiiknpebphpeiaaOrdM
import Derived.Test.YtiiknpebphpeiaaOrdK
import Derived.Test.YtiiknpebphpeiaaOrdW
import Derived.Test.YtiiknpebphpeiaaDicesW
import Derived.Test.YtiiknpebphpeiaaPoolW
import Derived.Test.YtiiknpebphpeiaaOwnL
import Derived.Test.YtiiknpebphpeiaaOpenI
import Derived.Test.YtiiknpebphpeiaaLtrM
import Derived.Test.YtiiknpebphpeiaaIntsW
import Derived.Test.YtiiknpebphpeiaaIntL
import Derived.Test.YtiiknpebphpeiaaIntsE
import Derived.Test.YtiiknpebphpeiaaLtrS
import Derived.Test.YtiiknpebphpeiaaLtrP
import Derived.Test.YtiiknpebphpeiaaLtrI
import Derived.Test.YtiiknpebphpeiaaLtrK
import Derived.Test.YtiiknpebphpeiaaOpenD
import Derived.WalkKit
import Derived.WalkLawsBesides
import Derived.WalkSpells
import Derived.ProofKit
import Derived.OpenShut
import Derived.Deep.RegionWith
import Derived.Deep.QuietTactic
import Derived.BigQuiet
namespace Go.Proofs.Ytiiknpebphpeiaa
open Go.ChangeShapes Go.WideShapes Go.ChangeAt Go.RowKit
open Go.ChangeMaps (open_string shut_string)

namespace LtrO
open Dice Arr DieW SortW Four OrdK OrdW DicesW PoolW OwnL OpenG LtrM IntsW LtrS LtrP LtrI LtrK


noncomputable def okF (n : Nat) (f : Nat → Int) : Bool := @decide (Ok f n) (Classical.propDecidable _)
theorem okF_yes {n : Nat} {f : Nat → Int} (h : Ok f n) : okF n f = true := by unfold okF; exact @decide_eq_true _ (Classical.propDecidable _) h
theorem okF_no {n : Nat} {f : Nat → Int} (h : ¬ Ok f n) : okF n f = false := by unfold okF; exact @decide_eq_false _ (Classical.propDecidable _) h
noncomputable def mF (n : Nat) (f : Nat → Int) : Nat := if okF n f then n / 6 else 0
theorem mF_yes {n : Nat} {f : Nat → Int} (h : Ok f (6 * n)) : mF (6 * n) f = n := by unfold mF; rw [okF_yes h, if_pos rfl]; omega
theorem mF_no {n : Nat} {f : Nat → Int} (h : ¬ Ok f n) : mF n f = 0 := by unfold mF; rw [okF_no h]; rfl
theorem mF_le (n : Nat) (f : Nat → Int) : mF n f ≤ 100 := by
  by_cases h : Ok f n
  · obtain ⟨m, rfl, _, h4, _⟩ := id h
    rw [mF_yes h]; omega
  · rw [mF_no h]; omega
theorem rowI_of {w : World} {g n : Nat} {f : Nat → Int} (h : At w g n f) : RowI w (some ⟨g, 0, none⟩) n f := .inr ⟨g, 0, rfl, h.lt, fun i hi => by rw [Nat.zero_add]; exact h.cell i hi⟩

theorem specF_any (g n : Nat) (f : Nat → Int) (w : World) (h : At w g n f) (hn : n ≤ 1048576) :
    Calls Try.prog 49 #[.slice (some ⟨g, 0, none⟩) n n] w fun e w' => ∃ A c, e = .returned (.tuple #[.slice A (mF n f) c, .bool (okF n f)]) ∧ Dis w.heap.size w' A (mF n f) (pw f n) ∧ Below w.heap.size w w' := by
  by_cases hk : Ok f n
  · obtain ⟨m, rfl, _⟩ := id hk
    rw [okF_yes hk, mF_yes hk]
    refine (specFL_yes (some ⟨g, 0, none⟩) m (6 * m) f hk w (rowI_of h) (by unfold maxLen; omega)).mono ?_
    rintro e w2 ⟨g2, rfl, hg, hA, hb⟩
    exact ⟨_, _, rfl, .inr ⟨g2, rfl, hg, hA⟩, hb⟩
  · rw [okF_no hk, mF_no hk]
    refine (specFL_no (some ⟨g, 0, none⟩) n n f hk w (rowI_of h) (by unfold maxLen; omega)).mono ?_
    rintro e w2 ⟨A2, c2, rfl, hb⟩
    exact ⟨_, _, rfl, .inl rfl, hb⟩
theorem implF_any (g n : Nat) (f : Nat → Int) (w : World) (h : At w g n f) (hn : n ≤ 1048576) :
    Calls Try.prog 51 #[.slice (some ⟨g, 0, none⟩) n n] w fun e w' => ∃ A c, e = .returned (.tuple #[.slice A (mF n f) c, .bool (okF n f)]) ∧ Dis w.heap.size w' A (mF n f) (pw f n) ∧ Below w.heap.size w w' := by
  by_cases hk : Ok f n
  · obtain ⟨m, rfl, _⟩ := id hk
    rw [okF_yes hk, mF_yes hk]
    refine (implFL_yes (some ⟨g, 0, none⟩) m (6 * m) f hk w (rowI_of h)).mono ?_
    rintro e w2 ⟨g2, rfl, hg, hA, hb⟩
    exact ⟨_, _, rfl, .inr ⟨g2, rfl, hg, hA⟩, hb⟩
  · rw [okF_no hk, mF_no hk]
    refine (implFL_no (some ⟨g, 0, none⟩) n n f hk w (rowI_of h) (by unfold maxLen; omega)).mono ?_
    rintro e w2 ⟨rfl, hb⟩
    exact ⟨_, _, rfl, .inl rfl, hb⟩


end LtrO
end Go.Proofs.Ytiiknpebphpeiaa
