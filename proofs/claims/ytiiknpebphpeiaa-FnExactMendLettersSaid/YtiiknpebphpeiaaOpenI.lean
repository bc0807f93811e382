/-
  A list of integers that came in, opened as numbers.
-/
import Derived.Test.YtiiknpebphpeiaaRows
import Derived.Test.YtiiknpebphpeiaaArr
import Derived.Test.YtiiknpebphpeiaaOpenD
import Derived.Test.YtiiknpebphpeiaaDieW
import Derived.WalkKit
import Derived.ProofKit
import Derived.OpenShut
import Derived.ChangeSame
import Derived.ChangeSlices
import Derived.Deep.Slices
namespace Go.Proofs.Ytiiknpebphpeiaa
open Go.ChangeShapes Go.WideShapes Go.ChangeAt Go.RowKit Go.Deep

namespace OpenG
open Dice Arr OpenD

/-- A list of integers in memory that came in. -/
def RowI (w : World) (A : Option Addr) (n : Nat) (f : Nat → Int) : Prop := n = 0 ∨ ∃ b o, A = some ⟨b, o, none⟩ ∧ b < w.heap.size ∧ ∀ i, i < n → w.cell? ⟨b, o + i, none⟩ = some (.int .i64 (f i))
theorem RowI.below {w w' : World} {A : Option Addr} {n : Nat} {f : Nat → Int} (h : RowI w A n f) {B : Nat} (hB : w.heap.size ≤ B) (hb : Below B w w') : RowI w' A n f := by
  rcases h with h | ⟨b, o, hA, hl, hc⟩
  · exact .inl h
  · exact .inr ⟨b, o, hA, Nat.lt_of_lt_of_le hl hb.size, fun i hi => (hb.cell (p := ⟨b, o + i, none⟩) (by show b < B; omega)).trans (hc i hi)⟩
theorem RowI.up {w w' : World} {A : Option Addr} {n : Nat} {f : Nat → Int} (h : RowI w A n f) (hb : Below w.heap.size w w') : RowI w' A n f := h.below (Nat.le_refl _) hb
theorem RowI.at_ {w : World} {A : Option Addr} {n : Nat} {f : Nat → Int} (h : RowI w A n f) {i : Nat} (hi : i < n) : ∃ b o, A = some ⟨b, o, none⟩ ∧ b < w.heap.size ∧ w.cell? ⟨b, o + i, none⟩ = some (.int .i64 (f i)) := by
  rcases h with h | ⟨b, o, hA, hl, hc⟩
  · omega
  · exact ⟨b, o, hA, hl, hc i hi⟩
set_option maxRecDepth 100000 in
theorem ints_of {H : Type} {enc : TypeId × Value → H} {W : World} {A : Option Addr} {n c fuel : Nat} {d : DataW H} {p : List MemPlace}
    (hf : DataW.trod enc Try.prog W 0 (fun _ => true) true fuel 39 (Value.slice A n c).cells.toList = some (d, p)) (hlt : ∀ x ∈ p, x.block < W.heap.size) :
    ∃ f : Nat → Int, RowI W A n f ∧ n ≤ c ∧ c ≤ maxLen ∧ ∀ i, i < n → fit (f i) := by
  rcases open_ints Try.underlying39 Try.underlying3 cellsInt hf with ⟨hcs, hx⟩ | ⟨a, len', cap', zs, hcs, _, hl, hm, hz, hx, hcell, hws⟩
  · simp [Value.cells] at hcs
    obtain ⟨rfl, rfl, rfl⟩ := hcs
    exact ⟨fun _ => 0, .inl rfl, Nat.le_refl _, Nat.zero_le _, fun i hi => by omega⟩
  · simp [Value.cells] at hcs
    obtain ⟨rfl, rfl, rfl⟩ := hcs
    simp only [Prod.mk.injEq] at hx
    obtain ⟨rfl, rfl⟩ := hx
    simp only [if_true] at hz
    refine ⟨fun i => zs.getD i 0, ?_, hl, hm, fun i hi => ?_⟩
    · by_cases h0 : n = 0
      · exact .inl h0
      · right
        obtain ⟨b, off, spot⟩ := a
        have hspot : spot = none := by simpa [Addr.add] using World.cell?_spot (hcell 0 (by omega))
        subst hspot
        exact ⟨b, off, rfl, hlt (.cell b off) (MemPlace.mem_row.2 ⟨0, by omega, by simp⟩), fun i hi => by rw [← add_plain]; exact hcell i (by omega)⟩
    · have hi' : i < zs.length := by omega
      have hw := hws zs[i] (List.getElem_mem hi')
      show fit (zs.getD i 0)
      rw [List.getD_eq_getElem?_getD, List.getElem?_eq_getElem hi', Option.getD_some]
      simpa [fit, Lit.wf, IntKind.min, IntKind.max, IntKind.bits, IntKind.signed] using hw

end OpenG
end Go.Proofs.Ytiiknpebphpeiaa
