/-
  A slice of texts that came in, opened as a list of texts.
-/
import Derived.Test.YthmeagmabidniaaRows
import Derived.Test.YthmeagmabidniaaTexts
import Derived.ProofKit
import Derived.OpenShut
namespace Go.Proofs.Ythmeagmabidniaa
open Go.ChangeShapes Go.WideShapes Go.ChangeAt Go.RowKit

namespace OpenT
open Texts

theorem cellsStr : Try.prog.cellsOf 9 = 1 := by kernel_rfl

theorem texts_of {H : Type} {enc : TypeId × Value → H} {W : World} {A : Option Addr} {n c fuel : Nat} {d : DataW H} {p : List MemPlace}
    (hf : DataW.trod enc Try.prog W 0 (fun _ => true) true fuel 26 (Value.slice A n c).cells.toList = some (d, p)) (hlt : ∀ x ∈ p, x.block < W.heap.size) :
    ∃ ps : List (List UInt8), ps.length = n ∧ Txs W A ps ∧ n ≤ c ∧ c ≤ maxLen ∧ ∀ q ∈ ps, q.length ≤ maxLen := by
  rcases open_strings Try.underlying26 Try.underlying9 cellsStr hf with ⟨hcs, hx⟩ | ⟨a, len', cap', ss, hcs, _, hl, hm, hz, hx, hcell, hws⟩
  · simp [Value.cells] at hcs
    obtain ⟨rfl, rfl, rfl⟩ := hcs
    exact ⟨[], rfl, Or.inl rfl, Nat.le_refl _, Nat.zero_le _, fun q hq => by simp at hq⟩
  · simp [Value.cells] at hcs
    obtain ⟨rfl, rfl, rfl⟩ := hcs
    simp only [Prod.mk.injEq] at hx
    obtain ⟨rfl, rfl⟩ := hx
    simp only [if_true] at hz
    refine ⟨(ss.take n).map (·.data.toList), by rw [List.length_map, List.length_take]; omega, ?_, hl, hm, fun q hq => ?_⟩
    · by_cases h0 : n = 0
      · left; subst h0; rfl
      · right
        obtain ⟨b, off, spot⟩ := a
        have hspot : spot = none := by simpa [Addr.add] using World.cell?_spot (hcell 0 (by omega))
        subst hspot
        refine ⟨b, off, rfl, hlt (.cell b off) (MemPlace.mem_row.2 ⟨0, by omega, by simp⟩), fun k q hq => ?_⟩
        rw [List.getElem?_map, Option.map_eq_some_iff] at hq
        obtain ⟨s, hs, rfl⟩ := hq
        have hk : k < n := by have := (List.getElem?_eq_some_iff.1 hs).1; rw [List.length_take] at this; omega
        rw [← add_plain, hcell k (by omega)]
        rw [List.getElem?_take_of_lt hk] at hs
        rw [List.getD_eq_getElem?_getD, hs]
        rfl
    · rw [List.mem_map] at hq
      obtain ⟨s, hs, rfl⟩ := hq
      have := hws s (List.mem_of_mem_take hs)
      simpa using this

end OpenT
end Go.Proofs.Ythmeagmabidniaa
