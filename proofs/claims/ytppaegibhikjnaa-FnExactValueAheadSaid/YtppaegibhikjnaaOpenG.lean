/-
  A goal and a list of integers that came in, opened as numbers.
-/
import Derived.Test.YtppaegibhikjnaaRows
import Derived.Test.YtppaegibhikjnaaArr
import Derived.Test.YtppaegibhikjnaaOpenD
import Derived.Test.YtppaegibhikjnaaFracW
import Derived.Test.YtppaegibhikjnaaDieW
import Derived.WalkKit
import Derived.ProofKit
import Derived.OpenShut
import Derived.ChangeSame
import Derived.ChangeSlices
import Derived.Deep.Slices
namespace Go.Proofs.Ytppaegibhikjnaa
open Go.ChangeShapes Go.WideShapes Go.ChangeAt Go.RowKit Go.Deep

namespace OpenG
open Dice Arr OpenD FracW

section
variable {H : Type} {enc : TypeId × Value → H} {W : World} {base : Nat} {sp : Nat → Bool} {held : Bool}
theorem cellsGoal : Try.prog.cellsOf 23 = 2 := by kernel_rfl
set_option maxRecDepth 100000 in
theorem goal_of {b0 : Nat} {r : Reach} {v : Value} {d : DataW H} {p : List MemPlace} (hv : Value.okWide Try.prog W r b0 23 v) (h : DataW.Trod enc Try.prog W base sp held 23 v d p) :
    ∃ a b : Int, v = v2 a b ∧ fit a ∧ fit b := by
  obtain ⟨cs, rfl, hsz⟩ := okWide_struct Try.underlying23 hv
  obtain ⟨fuel, hf⟩ := h
  obtain ⟨y0, y1, n, _, hl, h0, h1⟩ := trod_struct2 Try.underlying23 hf
  rw [cellsGoal] at hl
  simp only [cellsInt] at h0 h1
  simp only [Value.cells] at hl h0 h1
  obtain ⟨a, ea, _, wa⟩ := DataW.trod_int Try.underlying3 h0
  obtain ⟨b, eb, _, wb⟩ := DataW.trod_int Try.underlying3 h1
  refine ⟨a, b, ?_, by simpa [fit, Lit.wf, IntKind.min, IntKind.max, IntKind.bits, IntKind.signed] using wa, by simpa [fit, Lit.wf, IntKind.min, IntKind.max, IntKind.bits, IntKind.signed] using wb⟩
  have e : cs.toList = [.int .i64 a, .int .i64 b] := by
    have h0' : cs.toList[0]? = some (.int .i64 a) := by
      have := congrArg (fun l : List Value => l[0]?) ea
      simpa [List.getElem?_take, List.getElem?_drop] using this
    have h1' : cs.toList[1]? = some (.int .i64 b) := by
      have := congrArg (fun l : List Value => l[0]?) eb
      simpa [List.getElem?_take, List.getElem?_drop] using this
    refine List.ext_getElem? fun k => ?_
    obtain rfl | rfl | hk : k = 0 ∨ k = 1 ∨ 2 ≤ k := by omega
    · exact h0'
    · exact h1'
    · rw [List.getElem?_eq_none (by omega), List.getElem?_eq_none (by simpa using hk)]
  have e2 : cs = ([.int .i64 a, .int .i64 b] : List Value).toArray := by rw [← e]
  rw [e2]
end

/-- A list of integers in memory that came in. -/
def RowI (w : World) (A : Option Addr) (n : Nat) (f : Nat → Int) : Prop := n = 0 ∨ ∃ b o, A = some ⟨b, o, none⟩ ∧ b < w.heap.size ∧ ∀ i, i < n → w.cell? ⟨b, o + i, none⟩ = some (.int .i64 (f i))
theorem RowI.below {w w' : World} {A : Option Addr} {n : Nat} {f : Nat → Int} (h : RowI w A n f) {B : Nat} (hB : w.heap.size ≤ B) (hb : Below B w w') : RowI w' A n f := by
  rcases h with h | ⟨b, o, hA, hl, hc⟩
  · exact .inl h
  · exact .inr ⟨b, o, hA, Nat.lt_of_lt_of_le hl hb.size, fun i hi => (hb.cell (p := ⟨b, o + i, none⟩) (by show b < B; omega)).trans (hc i hi)⟩
theorem RowI.up {w w' : World} {A : Option Addr} {n : Nat} {f : Nat → Int} (h : RowI w A n f) (hb : Below w.heap.size w w') : RowI w' A n f := h.below (Nat.le_refl _) hb
theorem RowI.at_ {w : World} {A : Option Addr} {n : Nat} {f : Nat → Int} (h : RowI w A n f) {i : Nat} (hi : i < n) : ∃ b o, A = some ⟨b, o, none⟩ ∧ b < w.heap.size ∧ w.cell? ⟨b, o + i, none⟩ = some (.int .i64 (f i)) := by
  rcases h with h | ⟨b, o, hA, hl, hc⟩
  · omega
  · exact ⟨b, o, hA, hl, hc i hi⟩
set_option maxRecDepth 100000 in
theorem ints_of {H : Type} {enc : TypeId × Value → H} {W : World} {A : Option Addr} {n c fuel : Nat} {d : DataW H} {p : List MemPlace}
    (hf : DataW.trod enc Try.prog W 0 (fun _ => true) true fuel 28 (Value.slice A n c).cells.toList = some (d, p)) (hlt : ∀ x ∈ p, x.block < W.heap.size) :
    ∃ f : Nat → Int, RowI W A n f ∧ n ≤ c ∧ c ≤ maxLen ∧ ∀ i, i < n → fit (f i) := by
  rcases open_ints Try.underlying28 Try.underlying3 cellsInt hf with ⟨hcs, hx⟩ | ⟨a, len', cap', zs, hcs, _, hl, hm, hz, hx, hcell, hws⟩
  · simp [Value.cells] at hcs
    obtain ⟨rfl, rfl, rfl⟩ := hcs
    exact ⟨fun _ => 0, .inl rfl, Nat.le_refl _, Nat.zero_le _, fun i hi => by omega⟩
  · simp [Value.cells] at hcs
    obtain ⟨rfl, rfl, rfl⟩ := hcs
    simp only [Prod.mk.injEq] at hx
    obtain ⟨rfl, rfl⟩ := hx
    simp only [if_true] at hz
    refine ⟨fun i => zs.getD i 0, ?_, hl, hm, fun i hi => ?_⟩
    · by_cases h0 : n = 0
      · exact .inl h0
      · right
        obtain ⟨b, off, spot⟩ := a
        have hspot : spot = none := by simpa [Addr.add] using World.cell?_spot (hcell 0 (by omega))
        subst hspot
        exact ⟨b, off, rfl, hlt (.cell b off) (MemPlace.mem_row.2 ⟨0, by omega, by simp⟩), fun i hi => by rw [← add_plain]; exact hcell i (by omega)⟩
    · have hi' : i < zs.length := by omega
      have hw := hws zs[i] (List.getElem_mem hi')
      show fit (zs.getD i 0)
      rw [List.getD_eq_getElem?_getD, List.getElem?_eq_getElem hi', Option.getD_some]
      simpa [fit, Lit.wf, IntKind.min, IntKind.max, IntKind.bits, IntKind.signed] using hw

end OpenG
end Go.Proofs.Ytppaegibhikjnaa
