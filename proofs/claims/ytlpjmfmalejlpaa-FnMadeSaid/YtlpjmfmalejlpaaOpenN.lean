/-
  A slice of bytes that came in, opened as a code that the draws read.
-/
import Derived.Test.YtlpjmfmalejlpaaRows
import Derived.Test.YtlpjmfmalejlpaaCurN
import Derived.ProofKit
import Derived.OpenShut
namespace Go.Proofs.Ytlpjmfmalejlpaa
open Go.ChangeShapes Go.WideShapes Go.ChangeAt Go.RowKit

namespace OpenN
open CurN

theorem cellsU8 : Try.prog.cellsOf 5 = 1 := by kernel_rfl

theorem code_of {H : Type} {enc : TypeId × Value → H} {W : World} {A : Option Addr} {n c fuel : Nat} {d : DataW H} {p : List MemPlace}
    (hf : DataW.trod enc Try.prog W 0 (fun _ => true) true fuel 22 (Value.slice A n c).cells.toList = some (d, p)) (hlt : ∀ x ∈ p, x.block < W.heap.size) :
    CurN.Code W W.heap.size A n ∧ n ≤ c ∧ c ≤ maxLen := by
  rcases open_ints Try.underlying22 Try.underlying5 cellsU8 hf with ⟨hcs, hx⟩ | ⟨a, len', cap', zs, hcs, _, hl, hm, hz, hx, hcell, hws⟩
  · simp [Value.cells] at hcs
    obtain ⟨rfl, rfl, rfl⟩ := hcs
    exact ⟨.inl rfl, Nat.le_refl _, Nat.zero_le _⟩
  · simp [Value.cells] at hcs
    obtain ⟨rfl, rfl, rfl⟩ := hcs
    simp only [Prod.mk.injEq] at hx
    obtain ⟨rfl, rfl⟩ := hx
    simp only [if_true] at hz
    refine ⟨?_, hl, hm⟩
    by_cases h0 : n = 0
    · exact .inl h0
    · right
      obtain ⟨b, off, spot⟩ := a
      have hspot : spot = none := by simpa [Addr.add] using World.cell?_spot (hcell 0 (by omega))
      subst hspot
      refine ⟨b, off, rfl, hlt (.cell b off) (MemPlace.mem_row.2 ⟨0, by omega, by simp⟩), fun k hk => ?_⟩
      have hkz : k < zs.length := by omega
      have hw := hws zs[k] (List.getElem_mem hkz)
      have hw' : 0 ≤ zs[k] ∧ zs[k] ≤ 255 := by simpa [Lit.wf, IntKind.min, IntKind.max, IntKind.bits, IntKind.signed] using hw
      refine ⟨zs[k].toNat, by omega, ?_⟩
      rw [← add_plain, hcell k hkz, List.getD_eq_getElem?_getD, List.getElem?_eq_getElem hkz]
      rw [Option.getD_some, Int.toNat_of_nonneg hw'.1]

end OpenN
end Go.Proofs.Ytlpjmfmalejlpaa
