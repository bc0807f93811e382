/-
  Lists of numbers that grow.
-/
import Derived.Test.YtlpjmfmalejlpaaRows
import Derived.Test.YtlpjmfmalejlpaaArr
import Derived.Test.YtlpjmfmalejlpaaOwnL
import Derived.Test.YtlpjmfmalejlpaaOpenD
import Derived.Test.YtlpjmfmalejlpaaOpenD
import Derived.WalkKit
import Derived.WalkLawsBesides
import Derived.WalkSpells
import Derived.ProofKit
import Derived.OpenShut
import Derived.Deep.RegionWith
import Derived.Deep.QuietTactic
import Derived.BigQuiet
namespace Go.Proofs.Ytlpjmfmalejlpaa
open Go.ChangeShapes Go.WideShapes Go.ChangeAt Go.RowKit
open Go.ChangeMaps (open_string shut_string)

namespace ListQ
open Dice Arr OwnL

/-- A list of integers in memory from block B on. -/
def Ints (B : Nat) (w : World) (A : Option Addr) (n : Nat) (f : Nat → Int) : Prop := n = 0 ∨ ∃ b, A = some ⟨b, 0, none⟩ ∧ B ≤ b ∧ At w b n f
theorem Ints.up {B : Nat} {w w' : World} {A : Option Addr} {n : Nat} {f : Nat → Int} (h : Ints B w A n f) (hb : Below w.heap.size w w') : Ints B w' A n f := by
  rcases h with h | ⟨b, hA, hB, h⟩
  · exact .inl h
  · exact .inr ⟨b, hA, hB, h.up hb⟩
theorem Ints.mono {B B' : Nat} {w : World} {A : Option Addr} {n : Nat} {f : Nat → Int} (h : Ints B w A n f) (hB' : B' ≤ B) : Ints B' w A n f := by
  rcases h with h | ⟨b, hA, hB, h⟩
  · exact .inl h
  · exact .inr ⟨b, hA, by omega, h⟩
theorem Ints.at_ {B : Nat} {w : World} {A : Option Addr} {n : Nat} {f : Nat → Int} (h : Ints B w A n f) {k : Nat} (hk : k < n) : ∃ b, A = some ⟨b, 0, none⟩ ∧ B ≤ b ∧ At w b n f := by
  rcases h with h | h
  · omega
  · exact h
def mk (x : Int) : Value := .int .i64 x
/-- A list of numbers that is one's own, at the end of a function. -/
theorem own_ints {w : World} {B : Nat} {v : Value} {L : List Int} (h : w.ownsRow B 3 1 v L.length (L.map mk)) : ∃ A c, v = .slice A L.length c ∧ Ints B w A L.length (fun i => L.getD i 0) := by
  have e : L.map mk = vals L.length (fun i => L.getD i 0) := by
    refine List.ext_getElem? fun i => ?_
    by_cases hi : i < L.length
    · rw [vals_get hi, List.getElem?_map, List.getElem?_eq_getElem hi, List.getD_eq_getElem?_getD, List.getElem?_eq_getElem hi]
      rfl
    · rw [List.getElem?_eq_none (by simpa using hi), List.getElem?_eq_none (by rw [vals_len]; omega)]
  rw [e] at h
  rcases h.2 with ⟨he, hn⟩ | ⟨g, cap, cur, he, hb, _⟩
  · subst he
    exact ⟨none, 0, by rw [hn], .inl hn⟩
  · subst he
    exact ⟨some ⟨g, 0, none⟩, cap, rfl, .inr ⟨g, rfl, hb, At.of_own h⟩⟩
theorem own_snoc {w : World} {B : Nat} {v : Value} {L : List Int} {x : Int} (h : w.ownsRow B 3 1 v (L.length + 1) (L.map mk ++ [.int .i64 x])) : w.ownsRow B 3 1 v (L ++ [x]).length ((L ++ [x]).map mk) := by
  have e1 : (L ++ [x]).length = L.length + 1 := by simp
  have e2 : (L ++ [x]).map mk = L.map mk ++ [.int .i64 x] := by simp [mk]
  rw [e1, e2]
  exact h
theorem own_nil (w : World) (B : Nat) : w.ownsRow B 3 1 (.slice none 0 0) ([] : List Int).length (([] : List Int).map mk) := World.ownsRow_nil _ _ _ _
theorem own_empty (w : World) : (w.alloc (.cells #[] 3)).ownsRow w.heap.size 3 1 (.slice (some ⟨w.heap.size, 0, none⟩) 0 0) ([] : List Int).length (([] : List Int).map mk) := World.ownsRow_made w #[] 0 (Nat.le_refl _) (by decide) rfl
theorem ints_empty {B : Nat} {w : World} {A : Option Addr} : Ints B w A ([] : List Int).length (fun i => ([] : List Int).getD i 0) := .inl rfl


theorem own_at {w : World} {B : Nat} {v : Value} {L : List Int} (h : w.ownsRow B 3 1 v L.length (L.map mk)) (hv : v ≠ .slice none 0 0) : ∃ g c, v = .slice (some ⟨g, 0, none⟩) L.length c ∧ L.length ≤ c ∧ B ≤ g ∧ At w g L.length (fun i => L.getD i 0) := by
  have e : L.map mk = vals L.length (fun i => L.getD i 0) := by
    refine List.ext_getElem? fun i => ?_
    by_cases hi : i < L.length
    · rw [vals_get hi, List.getElem?_map, List.getElem?_eq_getElem hi, List.getD_eq_getElem?_getD, List.getElem?_eq_getElem hi]
      rfl
    · rw [List.getElem?_eq_none (by simpa using hi), List.getElem?_eq_none (by rw [vals_len]; omega)]
  rw [e] at h
  obtain ⟨g, c, rfl, hB, _⟩ := own_form h hv
  exact ⟨g, c, rfl, own_cap h, hB, At.of_own h⟩
end ListQ
end Go.Proofs.Ytlpjmfmalejlpaa
