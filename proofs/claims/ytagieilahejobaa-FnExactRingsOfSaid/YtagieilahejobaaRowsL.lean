/-
  Lists of lists in memory.
-/
import Derived.Test.YtagieilahejobaaRows
import Derived.Test.YtagieilahejobaaBestI
import Derived.Test.YtagieilahejobaaBestS
import Derived.Test.YtagieilahejobaaShelfMax
import Derived.Test.YtagieilahejobaaTopW
import Derived.Test.YtagieilahejobaaManyW
import Derived.Test.YtagieilahejobaaDicesW
import Derived.Test.YtagieilahejobaaWaysW
import Derived.Test.YtagieilahejobaaKnow
import Derived.Test.YtagieilahejobaaCmpW
import Derived.Test.YtagieilahejobaaDuel
import Derived.Test.YtagieilahejobaaDieW
import Derived.Test.YtagieilahejobaaSortW
import Derived.Test.YtagieilahejobaaOpenD
import Derived.WalkKit
import Derived.WalkLawsBesides
import Derived.WalkSpells
import Derived.ProofKit
import Derived.OpenShut
import Derived.Deep.RegionWith
import Derived.Deep.QuietTactic
import Derived.BigQuiet
namespace Go.Proofs.Ytagieilahejobaa
open Go.ChangeShapes Go.WideShapes Go.ChangeAt Go.RowKit
open Go.ChangeMaps (open_string shut_string)

namespace RowsL
open Dice Arr OpenD DieW SortW Duel CmpW Know WaysW ManyW TopW DicesW BestS BestI

/-- A list of lists: its own row of lists, each of them a row of its own. -/
structure RowsAt (w : World) (B : Nat) (eo ei : TypeId) (s : Nat) (v : Value) (k len : Nat) (L : Nat → List Value) (gs cs : Nat → Nat) : Prop where
  out : w.ownsRow B eo 1 v k ((List.range k).map fun i => Value.slice (some ⟨gs i, 0, none⟩) len (cs i))
  inn : ∀ i, i < k → w.ownsRow B ei s (.slice (some ⟨gs i, 0, none⟩) len (cs i)) len (L i)
  asc : ∀ i j, i < j → j < k → gs i < gs j
theorem grown_of {w w' : World} {B : Nat} (h : Below B w w') (hB : w.heap.size ≤ B) (row : Option Nat) : w.grownBy w' row := ⟨h.os, h.tape, h.output, h.size, fun k hk _ => h.block k (by omega)⟩
theorem RowsAt.nil (w : World) (B : Nat) (eo ei : TypeId) (s len : Nat) (L : Nat → List Value) (gs cs : Nat → Nat) : RowsAt w B eo ei s (.slice none 0 0) 0 len L gs cs :=
  ⟨World.ownsRow_nil _ _ _ _, fun i hi => by omega, fun i j _ hj => by omega⟩
section
variable {w w' : World} {B s k len : Nat} {eo ei : TypeId} {v : Value} {L : Nat → List Value} {gs cs : Nat → Nat}
theorem RowsAt.kept {m : Nat} (h : RowsAt w B eo ei s v k len L gs cs) (hg : w.grownBy w' (some m)) (hm : m < B) : RowsAt w' B eo ei s v k len L gs cs :=
  ⟨h.out.kept hg (owned_ne h.out hm), fun i hi => (h.inn i hi).kept hg (owned_ne (h.inn i hi) hm), h.asc⟩
theorem own_base {B' : Nat} {e : TypeId} {s n : Nat} {v : Value} {xs : List Value} (h : w.ownsRow B e s v n xs) (hB : B' ≤ B) : w.ownsRow B' e s v n xs := by
  refine ⟨h.1, ?_⟩
  rcases h.2 with hn | ⟨g, cap, cur, rfl, hb, hg, rest⟩
  · exact .inl hn
  · exact .inr ⟨g, cap, cur, rfl, by omega, hg, rest⟩
theorem RowsAt.base {B' : Nat} (h : RowsAt w B eo ei s v k len L gs cs) (hB : B' ≤ B) : RowsAt w B' eo ei s v k len L gs cs := ⟨own_base h.out hB, fun i hi => own_base (h.inn i hi) hB, h.asc⟩
theorem RowsAt.inner_lt (h : RowsAt w B eo ei s v k len L gs cs) {i : Nat} (hi : i < k) : B ≤ gs i ∧ gs i < w.heap.size := (h.inn i hi).lt (gs i) rfl
/-- Two rows of different kinds lie in different blocks. -/
theorem own_apart {B' s' n n' : Nat} {e e' : TypeId} {v v' : Value} {xs xs' : List Value} (h : w.ownsRow B e s v n xs) (h' : w.ownsRow B' e' s' v' n' xs') (he : e ≠ e') {b : Nat} (hv : v.ownBlock = some b) : v'.ownBlock ≠ some b := by
  intro hv'
  rcases h.2 with ⟨rfl, _⟩ | ⟨g, cap, cur, rfl, _, hg, _⟩
  · simp [Value.ownBlock] at hv
  · rcases h'.2 with ⟨rfl, _⟩ | ⟨g', cap', cur', rfl, _, hg', _⟩
    · simp [Value.ownBlock] at hv'
    · simp [Value.ownBlock] at hv hv'
      subst hv
      subst hv'
      rw [hg] at hg'
      injection hg' with hg'
      injection hg' with _ h2 _
      exact he h2
theorem ne_or {v : Value} {b : Nat} (h : v.ownBlock ≠ some b) {v' : Value} (hv : v'.ownBlock = some b) : v'.ownBlock = none ∨ v'.ownBlock ≠ v.ownBlock := .inr (fun e => h (e ▸ hv))
/-- One list more: it lies behind all of them, and its own row is written on. -/
theorem RowsAt.snoc (h : RowsAt w B eo ei s v k len L gs cs) (he : ei ≠ eo) {g2 c2 : Nat} (hn : w.ownsRow B ei s (.slice (some ⟨g2, 0, none⟩) len c2) len (L k)) (hl : ∀ i, i < k → gs i < g2) {v' : Value}
    (hg : w.grownBy w' v.ownBlock) (ho : w'.ownsRow B eo 1 v' (k + 1) (((List.range k).map fun i => Value.slice (some ⟨gs i, 0, none⟩) len (cs i)) ++ [.slice (some ⟨g2, 0, none⟩) len c2])) :
    RowsAt w' B eo ei s v' (k + 1) len L (fun i => if i < k then gs i else g2) (fun i => if i < k then cs i else c2) := by
  refine ⟨?_, fun i hi => ?_, fun i j hij hj => ?_⟩
  · rw [List.range_succ, List.map_append]
    have e : ((List.range k).map fun i => Value.slice (some ⟨if i < k then gs i else g2, 0, none⟩) len (if i < k then cs i else c2)) = (List.range k).map fun i => Value.slice (some ⟨gs i, 0, none⟩) len (cs i) := by
      refine List.map_congr_left fun i hi => ?_
      have := List.mem_range.1 hi
      rw [if_pos this, if_pos this]
    rw [e]
    simp only [List.map_cons, List.map_nil, Nat.lt_irrefl, if_false]
    exact ho
  · by_cases hik : i < k
    · simp only [hik, if_true]
      exact (h.inn i hik).kept hg (ne_or (own_apart (h.inn i hik) h.out he rfl) rfl)
    · obtain rfl : i = k := by omega
      simp only [Nat.lt_irrefl, if_false]
      exact hn.kept hg (ne_or (own_apart hn h.out he rfl) rfl)
  · by_cases hjk : j < k
    · simp only [hjk, if_true, show i < k by omega]
      exact h.asc i j hij hjk
    · obtain rfl : j = k := by omega
      simp only [Nat.lt_irrefl, if_false, hij, if_true]
      exact hl i hij
/-- What is read of it. -/
theorem RowsAt.head (h : RowsAt w B eo ei s v k len L gs cs) (hk : 0 < k) : ∃ g c, v = .slice (some ⟨g, 0, none⟩) k c ∧ B ≤ g ∧ g < w.heap.size ∧ (∀ i, i < k → w.cell? ⟨g, i, none⟩ = some (.slice (some ⟨gs i, 0, none⟩) len (cs i))) := by
  rcases h.out.2 with ⟨_, h0⟩ | ⟨g, cap, cur, hv, hb, hg, _⟩
  · omega
  · subst hv
    refine ⟨g, cap, rfl, hb, (Array.getElem?_eq_some_iff.1 hg).1, fun i hi => ?_⟩
    rw [h.out.cellAt i (by omega)]
    simp [hi]
theorem RowsAt.cell (h : RowsAt w B eo ei s v k len L gs cs) {i j : Nat} (hi : i < k) (hj : j < len * s) : w.cell? ⟨gs i, j, none⟩ = (L i)[j]? := (h.inn i hi).cellAt j hj
theorem RowsAt.up (h : RowsAt w B eo ei s v k len L gs cs) (hb : Below w.heap.size w w') : RowsAt w' B eo ei s v k len L gs cs :=
  ⟨h.out.kept (grown_of hb (Nat.le_refl _) none) (by cases v.ownBlock <;> simp), fun i hi => (h.inn i hi).kept (grown_of hb (Nat.le_refl _) none) (.inr (by simp [Value.ownBlock])), h.asc⟩
end


end RowsL
end Go.Proofs.Ytagieilahejobaa
