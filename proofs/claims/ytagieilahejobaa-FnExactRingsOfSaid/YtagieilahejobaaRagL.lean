/-
  Lists of paths in memory.
-/
import Derived.Test.YtagieilahejobaaRows
import Derived.Test.YtagieilahejobaaRingW
import Derived.Test.YtagieilahejobaaRingM
import Derived.Test.YtagieilahejobaaPairsW
import Derived.Test.YtagieilahejobaaGridW
import Derived.Test.YtagieilahejobaaTableS2
import Derived.Test.YtagieilahejobaaRingI
import Derived.Test.YtagieilahejobaaRingS
import Derived.Test.YtagieilahejobaaManyI
import Derived.Test.YtagieilahejobaaManyS
import Derived.Test.YtagieilahejobaaAnyR
import Derived.Test.YtagieilahejobaaBeatI
import Derived.Test.YtagieilahejobaaIntsW
import Derived.Test.YtagieilahejobaaSafeI
import Derived.Test.YtagieilahejobaaSafeS
import Derived.Test.YtagieilahejobaaRowW
import Derived.Test.YtagieilahejobaaRowsL
import Derived.Test.YtagieilahejobaaQuietR
import Derived.Test.YtagieilahejobaaQuietD
import Derived.Test.YtagieilahejobaaBestI
import Derived.Test.YtagieilahejobaaBestS
import Derived.Test.YtagieilahejobaaShelfMax
import Derived.Test.YtagieilahejobaaTopW
import Derived.Test.YtagieilahejobaaManyW
import Derived.Test.YtagieilahejobaaDicesW
import Derived.Test.YtagieilahejobaaWaysW
import Derived.Test.YtagieilahejobaaKnow
import Derived.Test.YtagieilahejobaaCmpW
import Derived.Test.YtagieilahejobaaCompW
import Derived.Test.YtagieilahejobaaCompS
import Derived.Test.YtagieilahejobaaDuel
import Derived.Test.YtagieilahejobaaDieW
import Derived.Test.YtagieilahejobaaSortW
import Derived.Test.YtagieilahejobaaOpenD
import Derived.WalkKit
import Derived.WalkLawsBesides
import Derived.WalkSpells
import Derived.ProofKit
import Derived.OpenShut
import Derived.Deep.RegionWith
import Derived.Deep.QuietTactic
import Derived.BigQuiet
namespace Go.Proofs.Ytagieilahejobaa
open Go.ChangeShapes Go.WideShapes Go.ChangeAt Go.RowKit
open Go.ChangeMaps (open_string shut_string)

namespace RagL
open Dice Arr OpenD DieW SortW Duel CmpW Know WaysW CompS CompW ManyW QuietD QuietR TopW DicesW BestS BestI RowsL RowW SafeS SafeI BeatI IntsW ManyS ManyI RingS RingI AnyR TableS2 GridW PairsW RingM RingW

/-- The words of lists in memory. -/
def wd (ps : List (List Nat)) (gs cs : Nat → Nat) : List Value := (List.range ps.length).map fun i => Value.slice (some ⟨gs i, 0, none⟩) (ps.getD i []).length (cs i)
theorem wd_len (ps : List (List Nat)) (gs cs : Nat → Nat) : (wd ps gs cs).length = ps.length := by simp [wd]
def two (k : Nat) (f g : Nat → Nat) : Nat → Nat := fun i => if i < k then f i else g (i - k)
theorem two_lt {k i : Nat} (h : i < k) (f g : Nat → Nat) : two k f g i = f i := if_pos h
theorem two_ge {k i : Nat} (h : ¬ i < k) (f g : Nat → Nat) : two k f g i = g (i - k) := if_neg h
theorem getD_left {ps : List (List Nat)} (qs : List (List Nat)) {i : Nat} (h : i < ps.length) : (ps ++ qs).getD i [] = ps.getD i [] := by
  rw [List.getD_eq_getElem?_getD, List.getD_eq_getElem?_getD, List.getElem?_append_left h]
theorem getD_right (ps : List (List Nat)) {qs : List (List Nat)} {i : Nat} (h : ¬ i < ps.length) : (ps ++ qs).getD i [] = qs.getD (i - ps.length) [] := by
  rw [List.getD_eq_getElem?_getD, List.getD_eq_getElem?_getD, List.getElem?_append_right (by omega)]
theorem wd_append (ps qs : List (List Nat)) (gs cs gs2 cs2 : Nat → Nat) : wd (ps ++ qs) (two ps.length gs gs2) (two ps.length cs cs2) = wd ps gs cs ++ wd qs gs2 cs2 := by
  unfold wd
  rw [List.length_append, List.range_add, List.map_append, List.map_map]
  congr 1
  · refine List.map_congr_left fun i hi => ?_
    have := List.mem_range.1 hi
    rw [two_lt this, two_lt this, getD_left qs this]
  · refine List.map_congr_left fun i hi => ?_
    have h : ¬ ps.length + i < ps.length := by omega
    show Value.slice (some ⟨two ps.length gs gs2 (ps.length + i), 0, none⟩) ((ps ++ qs).getD (ps.length + i) []).length (two ps.length cs cs2 (ps.length + i)) = _
    rw [two_ge h, two_ge h, getD_right ps h, Nat.add_sub_cancel_left]
/-- A list of paths: its own row of lists, each of them a row of its own, in ascending blocks. -/
structure RagAt (w : World) (B : Nat) (v : Value) (ps : List (List Nat)) (gs cs : Nat → Nat) : Prop where
  out : w.ownsRow B 51 1 v ps.length (wd ps gs cs)
  inn : ∀ i, i < ps.length → PathAt B w (.slice (some ⟨gs i, 0, none⟩) (ps.getD i []).length (cs i)) (ps.getD i [])
  asc : ∀ i j, i < j → j < ps.length → gs i < gs j
theorem RagAt.nil (w : World) (B : Nat) (gs cs : Nat → Nat) : RagAt w B (.slice none 0 0) [] gs cs :=
  ⟨World.ownsRow_nil _ _ _ _, fun _ hi => absurd hi (Nat.not_lt_zero _), fun _ _ _ hj => absurd hj (Nat.not_lt_zero _)⟩
section
variable {w w' : World} {B : Nat} {v : Value} {ps : List (List Nat)} {gs cs : Nat → Nat}
theorem RagAt.kept {m : Nat} (h : RagAt w B v ps gs cs) (hg : w.grownBy w' (some m)) (hm : m < B) : RagAt w' B v ps gs cs :=
  ⟨h.out.kept hg (owned_ne h.out hm), fun i hi => World.ownsRow.kept (h.inn i hi) hg (owned_ne (h.inn i hi) hm), h.asc⟩
theorem RagAt.base {B' : Nat} (h : RagAt w B v ps gs cs) (hB : B' ≤ B) : RagAt w B' v ps gs cs := ⟨own_base h.out hB, fun i hi => own_base (h.inn i hi) hB, h.asc⟩
theorem RagAt.up (h : RagAt w B v ps gs cs) (hb : Below w.heap.size w w') : RagAt w' B v ps gs cs :=
  ⟨h.out.kept (grown_of hb (Nat.le_refl _) none) (keep_none _), fun i hi => World.ownsRow.kept (h.inn i hi) (grown_of hb (Nat.le_refl _) none) (keep_none _), h.asc⟩
theorem RagAt.inner_lt (h : RagAt w B v ps gs cs) {i : Nat} (hi : i < ps.length) : B ≤ gs i ∧ gs i < w.heap.size := World.ownsRow.lt (h.inn i hi) (gs i) rfl
theorem RagAt.head (h : RagAt w B v ps gs cs) (hk : 0 < ps.length) : ∃ g c, v = .slice (some ⟨g, 0, none⟩) ps.length c ∧ B ≤ g ∧ g < w.heap.size ∧ ps.length ≤ c ∧ (∀ i, i < ps.length → w.cell? ⟨g, i, none⟩ = some (.slice (some ⟨gs i, 0, none⟩) (ps.getD i []).length (cs i))) := by
  rcases h.out.2 with ⟨_, h0⟩ | ⟨g, cap, cur, hv, hb, hg, hc, _⟩
  · omega
  · subst hv
    refine ⟨g, cap, rfl, hb, (Array.getElem?_eq_some_iff.1 hg).1, hc, fun i hi => ?_⟩
    rw [h.out.cellAt i (by omega)]
    simp [wd, hi]
/-- More lists behind: they lie behind all of them, and its own row is written on. -/
theorem RagAt.join (h : RagAt w B v ps gs cs) {qs : List (List Nat)} {gs2 cs2 : Nat → Nat} (hn : ∀ j, j < qs.length → PathAt B w (.slice (some ⟨gs2 j, 0, none⟩) (qs.getD j []).length (cs2 j)) (qs.getD j []))
    (ha : ∀ i j, i < j → j < qs.length → gs2 i < gs2 j) (hl : ∀ i j, i < ps.length → j < qs.length → gs i < gs2 j) {v' : Value}
    (hg : w.grownBy w' v.ownBlock) (ho : w'.ownsRow B 51 1 v' (ps.length + qs.length) (wd ps gs cs ++ wd qs gs2 cs2)) :
    RagAt w' B v' (ps ++ qs) (two ps.length gs gs2) (two ps.length cs cs2) := by
  have hne : (3 : TypeId) ≠ 51 := by decide
  refine ⟨by rw [wd_append, List.length_append]; exact ho, fun i hi => ?_, fun i j hij hj => ?_⟩
  · rw [List.length_append] at hi
    by_cases hik : i < ps.length
    · rw [two_lt hik, two_lt hik, getD_left qs hik]
      exact World.ownsRow.kept (h.inn i hik) hg (ne_or (own_apart (h.inn i hik) h.out hne rfl) rfl)
    · rw [two_ge hik, two_ge hik, getD_right ps hik]
      exact World.ownsRow.kept (hn _ (by omega)) hg (ne_or (own_apart (hn _ (by omega)) h.out hne rfl) rfl)
  · rw [List.length_append] at hj
    by_cases hjk : j < ps.length
    · rw [two_lt hjk, two_lt (show i < ps.length by omega)]
      exact h.asc i j hij hjk
    · rw [two_ge hjk]
      by_cases hik : i < ps.length
      · rw [two_lt hik]
        exact hl i _ hik (by omega)
      · rw [two_ge hik]
        exact ha _ _ (by omega) (by omega)
/-- One list more. -/
theorem RagAt.snoc (h : RagAt w B v ps gs cs) {p : List Nat} {g2 c2 : Nat} (hn : PathAt B w (.slice (some ⟨g2, 0, none⟩) p.length c2) p) (hl : ∀ i, i < ps.length → gs i < g2) {v' : Value}
    (hg : w.grownBy w' v.ownBlock) (ho : w'.ownsRow B 51 1 v' (ps.length + 1) (wd ps gs cs ++ [.slice (some ⟨g2, 0, none⟩) p.length c2])) :
    RagAt w' B v' (ps ++ [p]) (two ps.length gs fun _ => g2) (two ps.length cs fun _ => c2) :=
  h.join (qs := [p]) (fun j hj => by
    obtain rfl : j = 0 := by simpa using hj
    exact hn) (fun i j hij hj => by
    have : j = 0 := by simpa using hj
    omega) (fun i j hi _ => hl i hi) hg ho
end


end RagL
end Go.Proofs.Ytagieilahejobaa
