/-
  An array of four numbers that comes in.
-/
import Derived.Test.YtbcaahaaaodhkaaRows
import Derived.Test.YtbcaahaaaodhkaaFour
import Derived.Test.YtbcaahaaaodhkaaSortW
import Derived.Test.YtbcaahaaaodhkaaDieW
import Derived.Test.YtbcaahaaaodhkaaOpenD
import Derived.WalkKit
import Derived.WalkLawsBesides
import Derived.WalkSpells
import Derived.ProofKit
import Derived.OpenShut
import Derived.Deep.RegionWith
import Derived.Deep.QuietTactic
import Derived.BigQuiet
namespace Go.Proofs.Ytbcaahaaaodhkaa
open Go.ChangeShapes Go.WideShapes Go.ChangeAt Go.RowKit
open Go.ChangeMaps (open_string shut_string)

namespace OpenF
open Dice Arr DieW SortW OpenD Four

theorem cellsFour : Try.prog.cellsOf 23 = 4 := by kernel_rfl
section
variable {H : Type} {enc : TypeId × Value → H} {W : World} {base : Nat} {sp : Nat → Bool} {held : Bool}
theorem four_cells {fuel : Nat} {cs : List Value} {x : DataW H × List MemPlace} (h : DataW.trod enc Try.prog W base sp held fuel 23 cs = some x) :
    ∃ f : Nat → Int, cs = vals 4 f ∧ ∀ k, k < 4 → fit (f k) := by
  obtain ⟨xs, m, _, _, hl, hx, hi⟩ := DataW.trod_array Try.underlying23 h
  rw [cellsFour] at hl
  rw [cellsInt] at hi
  have hg : ∀ i, i < 4 → ∃ a, cs[i]? = some (.int .i64 a) ∧ fit a := fun i h6 => by
    have h1 := hi i h6
    rw [Nat.mul_one] at h1
    have hy : xs[i]? = some (xs[i]'(by omega)) := List.getElem?_eq_getElem (by omega)
    rw [hy] at h1
    obtain ⟨a, ea, _, wa⟩ := DataW.trod_int Try.underlying3 h1
    refine ⟨a, ?_, by simpa [fit, Lit.wf, IntKind.min, IntKind.max, IntKind.bits, IntKind.signed] using wa⟩
    have := congrArg (fun l : List Value => l[0]?) ea
    simpa [List.getElem?_take, List.getElem?_drop] using this
  refine ⟨fun k => if hk : k < 4 then Classical.choose (hg k hk) else 0, ?_, fun k hk => ?_⟩
  · apply List.ext_getElem?
    intro k
    by_cases hk : k < 4
    · rw [vals_get hk]
      simp only [hk, ↓reduceDIte]
      exact (Classical.choose_spec (hg k hk)).1
    · rw [List.getElem?_eq_none (by omega), List.getElem?_eq_none (by rw [vals_len]; omega)]
  · simp only [hk, ↓reduceDIte]
    exact (Classical.choose_spec (hg k hk)).2
set_option maxRecDepth 100000 in
theorem four_of {b0 : Nat} {r : Reach} {v : Value} {d : DataW H} {p : List MemPlace} (hv : Value.okWide Try.prog W r b0 23 v) (h : DataW.Trod enc Try.prog W base sp held 23 v d p) :
    ∃ f : Nat → Int, v = v4 f ∧ ∀ k, k < 4 → fit (f k) := by
  simp only [Value.okWide, Try.underlying23] at hv
  obtain ⟨cs, rfl, _, _⟩ := hv
  obtain ⟨fuel, hf⟩ := h
  obtain ⟨f, hc, hr⟩ := four_cells hf
  refine ⟨f, ?_, hr⟩
  have : cs = (vals 4 f).toArray := by
    simp only [Value.cells] at hc
    rw [← hc]
  rw [this]
  rfl
end



end OpenF
end Go.Proofs.Ytbcaahaaaodhkaa
