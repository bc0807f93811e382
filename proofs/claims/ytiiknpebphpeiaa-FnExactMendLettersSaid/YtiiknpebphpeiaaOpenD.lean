/-
  A die and a list of dice that came in, opened as numbers.
-/
import Derived.Test.YtiiknpebphpeiaaRows
import Derived.Test.YtiiknpebphpeiaaArr
import Derived.ProofKit
import Derived.OpenShut
import Derived.Deep.Slices
namespace Go.Proofs.Ytiiknpebphpeiaa
open Go.ChangeShapes Go.WideShapes Go.ChangeAt Go.RowKit Go.Deep

namespace OpenD
open Dice Arr

theorem cellsInt : Try.prog.cellsOf 3 = 1 := by kernel_rfl
theorem cellsDie : Try.prog.cellsOf 61 = 6 := by kernel_rfl
/-- A number of 64 bits. -/
def fit (x : Int) : Prop := -9223372036854775808 ≤ x ∧ x ≤ 9223372036854775807

section
variable {H : Type} {enc : TypeId × Value → H} {W : World} {base : Nat} {sp : Nat → Bool} {held : Bool}
theorem die_cells {fuel : Nat} {cs : List Value} {x : DataW H × List MemPlace} (h : DataW.trod enc Try.prog W base sp held fuel 61 cs = some x) :
    ∃ f : Nat → Int, cs = vals 6 f ∧ ∀ k, k < 6 → fit (f k) := by
  obtain ⟨xs, m, _, _, hl, hx, hi⟩ := DataW.trod_array Try.underlying61 h
  rw [cellsDie] at hl
  rw [cellsInt] at hi
  have hg : ∀ i, i < 6 → ∃ a, cs[i]? = some (.int .i64 a) ∧ fit a := fun i h6 => by
    have h1 := hi i h6
    rw [Nat.mul_one] at h1
    have hy : xs[i]? = some (xs[i]'(by omega)) := List.getElem?_eq_getElem (by omega)
    rw [hy] at h1
    obtain ⟨a, ea, _, wa⟩ := DataW.trod_int Try.underlying3 h1
    refine ⟨a, ?_, by simpa [fit, Lit.wf, IntKind.min, IntKind.max, IntKind.bits, IntKind.signed] using wa⟩
    have := congrArg (fun l : List Value => l[0]?) ea
    simpa [List.getElem?_take, List.getElem?_drop] using this
  refine ⟨fun k => if hk : k < 6 then Classical.choose (hg k hk) else 0, ?_, fun k hk => ?_⟩
  · apply List.ext_getElem?
    intro k
    by_cases hk : k < 6
    · rw [vals_get hk]
      simp only [hk, ↓reduceDIte]
      exact (Classical.choose_spec (hg k hk)).1
    · rw [List.getElem?_eq_none (by omega), List.getElem?_eq_none (by rw [vals_len]; omega)]
  · simp only [hk, ↓reduceDIte]
    exact (Classical.choose_spec (hg k hk)).2
set_option maxRecDepth 100000 in
theorem die_of {b0 : Nat} {r : Reach} {v : Value} {d : DataW H} {p : List MemPlace} (hv : Value.okWide Try.prog W r b0 61 v) (h : DataW.Trod enc Try.prog W base sp held 61 v d p) :
    ∃ f : Nat → Int, v = dv f ∧ ∀ k, k < 6 → fit (f k) := by
  simp only [Value.okWide, Try.underlying61] at hv
  obtain ⟨cs, rfl, _, _⟩ := hv
  obtain ⟨fuel, hf⟩ := h
  obtain ⟨f, hc, hr⟩ := die_cells hf
  refine ⟨f, ?_, hr⟩
  have : cs = (vals 6 f).toArray := by
    simp only [Value.cells] at hc
    rw [← hc]
  rw [this]
  rfl
end

/-- A list of dice in memory: die i has the faces P i. -/
def Row (w : World) (A : Option Addr) (n : Nat) (P : Nat → Nat → Int) : Prop :=
  n = 0 ∨ ∃ b o, A = some ⟨b, o, none⟩ ∧ b < w.heap.size ∧ ∀ i, i < n → ∀ k, k < 6 → w.cell? ⟨b, o + (i * 6 + k), none⟩ = some (.int .i64 (P i k))
theorem Row.below {w w' : World} {A : Option Addr} {n : Nat} {P : Nat → Nat → Int} (h : Row w A n P) {B : Nat} (hB : w.heap.size ≤ B) (hb : Below B w w') : Row w' A n P := by
  rcases h with h | ⟨b, o, hA, hl, hc⟩
  · exact .inl h
  · exact .inr ⟨b, o, hA, Nat.lt_of_lt_of_le hl hb.size, fun i hi k hk => (hb.cell (p := ⟨b, o + (i * 6 + k), none⟩) (by show b < B; omega)).trans (hc i hi k hk)⟩
theorem Row.up {w w' : World} {A : Option Addr} {n : Nat} {P : Nat → Nat → Int} (h : Row w A n P) (hb : Below w.heap.size w w') : Row w' A n P := h.below (Nat.le_refl _) hb
theorem Row.at_ {w : World} {A : Option Addr} {n : Nat} {P : Nat → Nat → Int} (h : Row w A n P) {i : Nat} (hi : i < n) :
    ∃ b o, A = some ⟨b, o, none⟩ ∧ b < w.heap.size ∧ ∀ k, k < 6 → w.cell? ⟨b, o + (i * 6 + k), none⟩ = some (.int .i64 (P i k)) := by
  rcases h with h | ⟨b, o, hA, hl, hc⟩
  · omega
  · exact ⟨b, o, hA, hl, fun k hk => hc i hi k hk⟩

set_option maxRecDepth 100000 in
theorem dice_of {H : Type} {enc : TypeId × Value → H} {W : World} {A : Option Addr} {n c fuel : Nat} {d : DataW H} {p : List MemPlace}
    (hf : DataW.trod enc Try.prog W 0 (fun _ => true) true fuel 22 (Value.slice A n c).cells.toList = some (d, p)) (hlt : ∀ x ∈ p, x.block < W.heap.size) :
    ∃ P : Nat → Nat → Int, Row W A n P ∧ n ≤ c ∧ c ≤ maxLen ∧ ∀ i, i < n → ∀ k, k < 6 → fit (P i k) := by
  rcases open_slice Try.underlying22 hf with ⟨hcs, hx⟩ | ⟨a, len', cap', m, fu, D, Pl, hcs, _, hl, hm, hz, hx, hel⟩
  · simp [Value.cells] at hcs
    obtain ⟨rfl, rfl, rfl⟩ := hcs
    exact ⟨fun _ _ => 0, .inl rfl, Nat.le_refl _, Nat.zero_le _, fun i hi => by omega⟩
  · simp [Value.cells] at hcs
    obtain ⟨rfl, rfl, rfl⟩ := hcs
    simp only [Prod.mk.injEq] at hx
    obtain ⟨rfl, rfl⟩ := hx
    simp only [if_true] at hz
    rw [cellsDie] at hel
    have hg : ∀ i, i < n → ∃ f : Nat → Int, (∀ k, k < 6 → W.cell? (a.add (i * 6) |>.add k) = some (.int .i64 (f k))) ∧ ∀ k, k < 6 → fit (f k) := fun i hi => by
      obtain ⟨cs', hc, ht⟩ := hel i (by omega)
      obtain ⟨f, rfl, hr⟩ := die_cells ht
      obtain ⟨_, hcl, hat⟩ := World.cells?_some hc
      refine ⟨f, fun k hk => ?_, hr⟩
      rw [hat k hk, vals_get hk]
    refine ⟨fun i => if hi : i < n then Classical.choose (hg i hi) else fun _ => 0, ?_, hl, hm, fun i hi k hk => ?_⟩
    · by_cases h0 : n = 0
      · exact .inl h0
      · right
        obtain ⟨b, off, spot⟩ := a
        have h00 := (Classical.choose_spec (hg 0 (by omega))).1 0 (by omega)
        have hspot : spot = none := by simpa [Addr.add] using World.cell?_spot h00
        subst hspot
        refine ⟨b, off, rfl, hlt (.cell b off) (List.mem_append_left _ (MemPlace.mem_row.2 ⟨0, by rw [cellsDie]; omega, by simp⟩)), fun i hi k hk => ?_⟩
        have h1 := (Classical.choose_spec (hg i hi)).1 k hk
        simp only [hi, ↓reduceDIte]
        have ea : ((⟨b, off, none⟩ : Addr).add (i * 6)).add k = ⟨b, off + (i * 6 + k), none⟩ := by rw [add_plain, add_plain, Nat.add_assoc]
        rw [← ea]
        exact h1
    · simp only [hi, ↓reduceDIte]
      exact (Classical.choose_spec (hg i hi)).2 k hk

end OpenD
end Go.Proofs.Ytiiknpebphpeiaa
