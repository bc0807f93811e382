/-
  A die and a list of dice that came in, opened as numbers.
-/
import Derived.Test.YtdodokeebmdceaaRows
import Derived.Test.YtdodokeebmdceaaArr
import Derived.ProofKit
import Derived.OpenShut
import Derived.Deep.Slices
namespace Go.Proofs.Ytdodokeebmdceaa
open Go.ChangeShapes Go.WideShapes Go.ChangeAt Go.RowKit Go.Deep

namespace OpenD
open Dice Arr

theorem cellsInt : Try.prog.cellsOf 3 = 1 := by kernel_rfl
theorem cellsDie : Try.prog.cellsOf 22 = 6 := by kernel_rfl
/-- A number of 64 bits. -/
def fit (x : Int) : Prop := -9223372036854775808 ≤ x ∧ x ≤ 9223372036854775807

section
variable {H : Type} {enc : TypeId × Value → H} {W : World} {base : Nat} {sp : Nat → Bool} {held : Bool}
theorem die_cells {fuel : Nat} {cs : List Value} {x : DataW H × List MemPlace} (h : DataW.trod enc Try.prog W base sp held fuel 22 cs = some x) :
    ∃ f : Nat → Int, cs = vals 6 f ∧ ∀ k, k < 6 → fit (f k) := by
  obtain ⟨xs, m, _, _, hl, hx, hi⟩ := DataW.trod_array Try.underlying22 h
  rw [cellsDie] at hl
  rw [cellsInt] at hi
  have hg : ∀ i, i < 6 → ∃ a, cs[i]? = some (.int .i64 a) ∧ fit a := fun i h6 => by
    have h1 := hi i h6
    rw [Nat.mul_one] at h1
    have hy : xs[i]? = some (xs[i]'(by omega)) := List.getElem?_eq_getElem (by omega)
    rw [hy] at h1
    obtain ⟨a, ea, _, wa⟩ := DataW.trod_int Try.underlying3 h1
    refine ⟨a, ?_, by simpa [fit, Lit.wf, IntKind.min, IntKind.max, IntKind.bits, IntKind.signed] using wa⟩
    have := congrArg (fun l : List Value => l[0]?) ea
    simpa [List.getElem?_take, List.getElem?_drop] using this
  refine ⟨fun k => if hk : k < 6 then Classical.choose (hg k hk) else 0, ?_, fun k hk => ?_⟩
  · apply List.ext_getElem?
    intro k
    by_cases hk : k < 6
    · rw [vals_get hk]
      simp only [hk, ↓reduceDIte]
      exact (Classical.choose_spec (hg k hk)).1
    · rw [List.getElem?_eq_none (by omega), List.getElem?_eq_none (by rw [vals_len]; omega)]
  · simp only [hk, ↓reduceDIte]
    exact (Classical.choose_spec (hg k hk)).2
set_option maxRecDepth 100000 in
theorem die_of {b0 : Nat} {r : Reach} {v : Value} {d : DataW H} {p : List MemPlace} (hv : Value.okWide Try.prog W r b0 22 v) (h : DataW.Trod enc Try.prog W base sp held 22 v d p) :
    ∃ f : Nat → Int, v = dv f ∧ ∀ k, k < 6 → fit (f k) := by
  simp only [Value.okWide, Try.underlying22] at hv
  obtain ⟨cs, rfl, _, _⟩ := hv
  obtain ⟨fuel, hf⟩ := h
  obtain ⟨f, hc, hr⟩ := die_cells hf
  refine ⟨f, ?_, hr⟩
  have : cs = (vals 6 f).toArray := by
    simp only [Value.cells] at hc
    rw [← hc]
  rw [this]
  rfl
end

/-- A list of dice in memory: die i has the faces P i. -/
def Row (w : World) (A : Option Addr) (n : Nat) (P : Nat → Nat → Int) : Prop :=
  n = 0 ∨ ∃ b o, A = some ⟨b, o, none⟩ ∧ b < w.heap.size ∧ ∀ i, i < n → ∀ k, k < 6 → w.cell? ⟨b, o + (i * 6 + k), none⟩ = some (.int .i64 (P i k))
theorem Row.below {w w' : World} {A : Option Addr} {n : Nat} {P : Nat → Nat → Int} (h : Row w A n P) {B : Nat} (hB : w.heap.size ≤ B) (hb : Below B w w') : Row w' A n P := by
  rcases h with h | ⟨b, o, hA, hl, hc⟩
  · exact .inl h
  · exact .inr ⟨b, o, hA, Nat.lt_of_lt_of_le hl hb.size, fun i hi k hk => (hb.cell (p := ⟨b, o + (i * 6 + k), none⟩) (by show b < B; omega)).trans (hc i hi k hk)⟩
theorem Row.up {w w' : World} {A : Option Addr} {n : Nat} {P : Nat → Nat → Int} (h : Row w A n P) (hb : Below w.heap.size w w') : Row w' A n P := h.below (Nat.le_refl _) hb
theorem Row.at_ {w : World} {A : Option Addr} {n : Nat} {P : Nat → Nat → Int} (h : Row w A n P) {i : Nat} (hi : i < n) :
    ∃ b o, A = some ⟨b, o, none⟩ ∧ b < w.heap.size ∧ ∀ k, k < 6 → w.cell? ⟨b, o + (i * 6 + k), none⟩ = some (.int .i64 (P i k)) := by
  rcases h with h | ⟨b, o, hA, hl, hc⟩
  · omega
  · exact ⟨b, o, hA, hl, fun k hk => hc i hi k hk⟩

end OpenD
end Go.Proofs.Ytdodokeebmdceaa
