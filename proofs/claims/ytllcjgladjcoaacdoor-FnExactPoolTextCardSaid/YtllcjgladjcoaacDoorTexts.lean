/-
  Lists of texts: as values, in memory, their lengths, joined; without any program.
-/
import Derived.Below
import Derived.WalkKit
import Derived.Lib.Join
namespace Go.Proofs.YtllcjgladjcoaacDoor
open Go.RowKit
namespace Texts

/-- The slice value '.slice A n c' (n the number of the texts) holds these texts. -/
def Txs (w : World) (A : Option Addr) (ps : List (List UInt8)) : Prop :=
  ps = [] ∨ ∃ bk o, A = some ⟨bk, o, none⟩ ∧ bk < w.heap.size ∧ ∀ (k : Nat) p, ps[k]? = some p → w.cell? ⟨bk, o + k, none⟩ = some (.string ⟨p.toArray⟩)

theorem Txs.at_ {w : World} {A : Option Addr} {ps : List (List UInt8)} (h : Txs w A ps) {k : Nat} (hk : k < ps.length) :
    ∃ bk o p, A = some ⟨bk, o, none⟩ ∧ ps[k]? = some p ∧ w.cell? ⟨bk, o + k, none⟩ = some (.string ⟨p.toArray⟩) := by
  rcases h with rfl | ⟨bk, o, hA, _, hc⟩
  · simp at hk
  · exact ⟨bk, o, ps[k], hA, List.getElem?_eq_getElem hk, hc k _ (List.getElem?_eq_getElem hk)⟩
theorem Txs.below {w w' : World} {A : Option Addr} {ps : List (List UInt8)} (h : Txs w A ps) {B : Nat} (hB : w.heap.size ≤ B) (hb : Below B w w') : Txs w' A ps := by
  rcases h with rfl | ⟨bk, o, hA, hl, hc⟩
  · exact Or.inl rfl
  · exact Or.inr ⟨bk, o, hA, Nat.lt_of_lt_of_le hl hb.size, fun k p hp => (hb.cell (p := ⟨bk, o + k, none⟩) (by show bk < B; omega)).trans (hc k p hp)⟩
theorem Txs.of_own {w : World} {B : Nat} {t : TypeId} {A : Option Addr} {c : Nat} {ps : List (List UInt8)} (h : w.ownsRow B t 1 (.slice A ps.length c) ps.length (ps.map fun p => Value.string ⟨p.toArray⟩)) : Txs w A ps := by
  rcases Nat.eq_zero_or_pos ps.length with h0 | h0
  · exact Or.inl (List.length_eq_zero_iff.1 h0)
  · right
    obtain ⟨g, cap, hv⟩ : ∃ g cap, Value.slice A ps.length c = .slice (some ⟨g, 0, none⟩) ps.length cap := by
      rcases h.2 with ⟨_, hn⟩ | ⟨g, cap, _, hv, _⟩
      · omega
      · exact ⟨g, cap, hv⟩
    injection hv with hA _ hc
    subst hA hc
    refine ⟨g, 0, rfl, (h.lt g rfl).2, fun k p hp => ?_⟩
    have hk : k < ps.length := (List.getElem?_eq_some_iff.1 hp).1
    rw [Nat.zero_add, h.cellAt k (by omega), List.getElem?_map, hp]
    rfl

/-- The lengths of the first k texts together. -/
def lens (ps : List (List UInt8)) : Nat := (ps.map List.length).sum
theorem lens_take {ps : List (List UInt8)} {k : Nat} {p : List UInt8} (h : ps[k]? = some p) : lens (ps.take (k + 1)) = lens (ps.take k) + p.length := by
  unfold lens
  rw [List.take_add_one, h]
  simp
theorem lens_le (ps : List (List UInt8)) (k : Nat) : lens (ps.take k) ≤ lens ps := by
  have h : lens ps = lens (ps.take k) + lens (ps.drop k) := by
    unfold lens
    rw [← List.sum_append, ← List.map_append, List.take_append_drop]
  omega

end Texts
end Go.Proofs.YtllcjgladjcoaacDoor
