/-
  Lists of numbers that grow.
-/
import Derived.Test.YtddnlbahelgadaaRows
import Derived.Test.YtddnlbahelgadaaArr
import Derived.Test.YtddnlbahelgadaaDieW
import Derived.Test.YtddnlbahelgadaaSortW
import Derived.Test.YtddnlbahelgadaaDicesW
import Derived.Test.YtddnlbahelgadaaOwnL
import Derived.Test.YtddnlbahelgadaaIntsW
import Derived.Test.YtddnlbahelgadaaIntsE
import Derived.Test.YtddnlbahelgadaaOpenI
import Derived.Test.YtddnlbahelgadaaOpenD
import Derived.Test.YtddnlbahelgadaaMadL
import Derived.Test.YtddnlbahelgadaaMadC
import Derived.Test.YtddnlbahelgadaaMadK
import Derived.Test.YtddnlbahelgadaaOpenD
import Derived.WalkKit
import Derived.WalkLawsBesides
import Derived.WalkSpells
import Derived.ProofKit
import Derived.OpenShut
import Derived.Deep.RegionWith
import Derived.Deep.QuietTactic
import Derived.BigQuiet
namespace Go.Proofs.Ytddnlbahelgadaa
open Go.ChangeShapes Go.WideShapes Go.ChangeAt Go.RowKit
open Go.ChangeMaps (open_string shut_string)

namespace ListK
open Dice Arr DieW SortW OwnL OpenG OpenD MadL MadC IntsW MadK

def mk (x : Int) : Value := .int .i64 x
/-- A list of numbers that is one's own, at the end of a function. -/
theorem own_ints {w : World} {B : Nat} {v : Value} {L : List Int} (h : w.ownsRow B 3 1 v L.length (L.map mk)) : ∃ A c, v = .slice A L.length c ∧ Ints B w A L.length (fun i => L.getD i 0) := by
  have e : L.map mk = vals L.length (fun i => L.getD i 0) := by
    refine List.ext_getElem? fun i => ?_
    by_cases hi : i < L.length
    · rw [vals_get hi, List.getElem?_map, List.getElem?_eq_getElem hi, List.getD_eq_getElem?_getD, List.getElem?_eq_getElem hi]
      rfl
    · rw [List.getElem?_eq_none (by simpa using hi), List.getElem?_eq_none (by rw [vals_len]; omega)]
  rw [e] at h
  rcases h.2 with ⟨he, hn⟩ | ⟨g, cap, cur, he, hb, _⟩
  · subst he
    exact ⟨none, 0, by rw [hn], .inl hn⟩
  · subst he
    exact ⟨some ⟨g, 0, none⟩, cap, rfl, .inr ⟨g, rfl, hb, At.of_own h⟩⟩
theorem own_snoc {w : World} {B : Nat} {v : Value} {L : List Int} {x : Int} (h : w.ownsRow B 3 1 v (L.length + 1) (L.map mk ++ [.int .i64 x])) : w.ownsRow B 3 1 v (L ++ [x]).length ((L ++ [x]).map mk) := by
  have e1 : (L ++ [x]).length = L.length + 1 := by simp
  have e2 : (L ++ [x]).map mk = L.map mk ++ [.int .i64 x] := by simp [mk]
  rw [e1, e2]
  exact h
theorem own_nil (w : World) (B : Nat) : w.ownsRow B 3 1 (.slice none 0 0) ([] : List Int).length (([] : List Int).map mk) := World.ownsRow_nil _ _ _ _
theorem own_empty (w : World) : (w.alloc (.cells #[] 3)).ownsRow w.heap.size 3 1 (.slice (some ⟨w.heap.size, 0, none⟩) 0 0) ([] : List Int).length (([] : List Int).map mk) := World.ownsRow_made w #[] 0 (Nat.le_refl _) (by decide) rfl
theorem ints_empty {B : Nat} {w : World} {A : Option Addr} : Ints B w A ([] : List Int).length (fun i => ([] : List Int).getD i 0) := .inl rfl


end ListK
end Go.Proofs.Ytddnlbahelgadaa
