/-
  A list of integers that came in, opened as numbers.
-/
import Derived.Test.YtlpjmfmalejlpaaRows
import Derived.Test.YtlpjmfmalejlpaaArr
import Derived.Test.YtlpjmfmalejlpaaOpenD
import Derived.Test.YtlpjmfmalejlpaaFracW
import Derived.Test.YtlpjmfmalejlpaaDieW
import Derived.WalkKit
import Derived.ProofKit
import Derived.OpenShut
import Derived.ChangeSame
import Derived.ChangeSlices
import Derived.Deep.Slices
namespace Go.Proofs.Ytlpjmfmalejlpaa
open Go.ChangeShapes Go.WideShapes Go.ChangeAt Go.RowKit Go.Deep

namespace OpenG
open Dice Arr OpenD FracW

/-- A list of integers in memory that came in. -/
def RowI (w : World) (A : Option Addr) (n : Nat) (f : Nat → Int) : Prop := n = 0 ∨ ∃ b o, A = some ⟨b, o, none⟩ ∧ b < w.heap.size ∧ ∀ i, i < n → w.cell? ⟨b, o + i, none⟩ = some (.int .i64 (f i))
theorem RowI.below {w w' : World} {A : Option Addr} {n : Nat} {f : Nat → Int} (h : RowI w A n f) {B : Nat} (hB : w.heap.size ≤ B) (hb : Below B w w') : RowI w' A n f := by
  rcases h with h | ⟨b, o, hA, hl, hc⟩
  · exact .inl h
  · exact .inr ⟨b, o, hA, Nat.lt_of_lt_of_le hl hb.size, fun i hi => (hb.cell (p := ⟨b, o + i, none⟩) (by show b < B; omega)).trans (hc i hi)⟩
theorem RowI.up {w w' : World} {A : Option Addr} {n : Nat} {f : Nat → Int} (h : RowI w A n f) (hb : Below w.heap.size w w') : RowI w' A n f := h.below (Nat.le_refl _) hb
theorem RowI.at_ {w : World} {A : Option Addr} {n : Nat} {f : Nat → Int} (h : RowI w A n f) {i : Nat} (hi : i < n) : ∃ b o, A = some ⟨b, o, none⟩ ∧ b < w.heap.size ∧ w.cell? ⟨b, o + i, none⟩ = some (.int .i64 (f i)) := by
  rcases h with h | ⟨b, o, hA, hl, hc⟩
  · omega
  · exact ⟨b, o, hA, hl, hc i hi⟩
end OpenG
end Go.Proofs.Ytlpjmfmalejlpaa
