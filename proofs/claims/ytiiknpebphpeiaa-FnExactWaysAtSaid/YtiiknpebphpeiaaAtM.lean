/-
  How often players are at places; without any program.
-/
import Derived.Test.YtiiknpebphpeiaaRows
import Derived.Test.YtiiknpebphpeiaaArr
import Derived.Test.YtiiknpebphpeiaaOrdM
import Derived.WalkKit
import Derived.WalkLawsBesides
import Derived.WalkSpells
import Derived.ProofKit
import Derived.OpenShut
import Derived.Deep.RegionWith
import Derived.Deep.QuietTactic
import Derived.BigQuiet
namespace Go.Proofs.Ytiiknpebphpeiaa
open Go.ChangeShapes Go.WideShapes Go.ChangeAt Go.RowKit
open Go.ChangeMaps (open_string shut_string)

namespace AtM
open Dice Arr OrdM


theorem sumL_upd {h h' : Q4 → Nat} {q0 : Q4} : ∀ {L : List Q4}, L.Nodup → q0 ∈ L → (∀ q, q ∈ L → q ≠ q0 → h' q = h q) → sumL h' L + h q0 = sumL h L + h' q0
  | [], _, hq, _ => by cases hq
  | q :: L, hn, hq, he => by
    rw [List.nodup_cons] at hn
    show h' q + sumL h' L + h q0 = h q + sumL h L + h' q0
    by_cases e : q = q0
    · subst e
      rw [sumL_congr (f := h') (g := h) (L := L) fun x hx => he x (by simp [hx]) (fun e => hn.1 (e ▸ hx))]
      omega
    · have hq' : q0 ∈ L := by
        rcases List.mem_cons.1 hq with h1 | h1
        · exact absurd h1.symm e
        · exact h1
      have := sumL_upd hn.2 hq' fun x hx hne => he x (by simp [hx]) hne
      rw [he q (by simp) e]
      omega
theorem cnt_mem {g : Nat → Option Q4} {q : Q4} : ∀ {N : Nat}, cnt g N q ≠ 0 → ∃ M, M < N ∧ g M = some q
  | 0, h => absurd rfl h
  | N + 1, h => by
    by_cases hg : g N = some q
    · exact ⟨N, by omega, hg⟩
    · have e : cnt g (N + 1) q = cnt g N q := if_neg hg
      rw [e] at h
      obtain ⟨M, h1, h2⟩ := cnt_mem h
      exact ⟨M, by omega, h2⟩
/-- The ways of a player at a place, of those orders that are no longer left. -/
def gone (F : Q4 → Nat) (L : List Q4) (left : Q4 → Bool) (p j : Nat) : Nat := sumL (fun q => if left q = false ∧ qa q j = (p : Int) then F q else 0) L
theorem gone_end {F : Q4 → Nat} {L : List Q4} {left : Q4 → Bool} (h : ∀ q, left q = false) (p j : Nat) : gone F L left p j = sumL (fun q => if qa q j = (p : Int) then F q else 0) L := by
  unfold gone
  refine sumL_congr fun q _ => ?_
  by_cases e : qa q j = (p : Int)
  · rw [if_pos ⟨h q, e⟩, if_pos e]
  · rw [if_neg (fun x => e x.2), if_neg e]
theorem gone_start {F : Q4 → Nat} {L : List Q4} {left : Q4 → Bool} (h : ∀ q, q ∈ L → left q = false → F q = 0) (p j : Nat) : gone F L left p j = 0 := by
  unfold gone
  refine sumL_zero fun q hq => ?_
  by_cases e : left q = false ∧ qa q j = (p : Int)
  · rw [if_pos e, h q hq e.1]
  · rw [if_neg e]
theorem gone_step {F : Q4 → Nat} {L : List Q4} {left left' : Q4 → Bool} {q0 : Q4} (hn : L.Nodup) (hq : q0 ∈ L) (h0 : left q0 = true) (h1 : left' q0 = false) (he : ∀ q, q ∈ L → q ≠ q0 → left' q = left q) (p j : Nat) :
    gone F L left' p j = gone F L left p j + (if qa q0 j = (p : Int) then F q0 else 0) := by
  have := sumL_upd (h := fun q => if left q = false ∧ qa q j = (p : Int) then F q else 0) (h' := fun q => if left' q = false ∧ qa q j = (p : Int) then F q else 0) hn hq fun q hq hne => by
    show (if left' q = false ∧ _ then _ else _) = if left q = false ∧ _ then _ else _
    rw [he q hq hne]
  have e0 : (if left q0 = false ∧ qa q0 j = (p : Int) then F q0 else 0) = 0 := if_neg (fun x => by rw [h0] at x; cases x.1)
  have e1 : (if left' q0 = false ∧ qa q0 j = (p : Int) then F q0 else 0) = if qa q0 j = (p : Int) then F q0 else 0 := by
    by_cases e : qa q0 j = (p : Int)
    · rw [if_pos ⟨h1, e⟩, if_pos e]
    · rw [if_neg (fun x => e x.2), if_neg e]
  simp only [e0, e1] at this
  unfold gone
  omega
theorem sumL_le {f g : Q4 → Nat} (h : ∀ q, f q ≤ g q) : ∀ L, sumL f L ≤ sumL g L
  | [] => Nat.le_refl _
  | q :: L => by
    have := sumL_le h L
    have := h q
    show f q + sumL f L ≤ g q + sumL g L
    omega
theorem gone_le (F : Q4 → Nat) (L : List Q4) (left : Q4 → Bool) (p j : Nat) : gone F L left p j ≤ sumL F L := by
  unfold gone
  refine sumL_le (fun q => ?_) L
  by_cases e : left q = false ∧ qa q j = (p : Int)
  · rw [if_pos e]; exact Nat.le_refl _
  · rw [if_neg e]; exact Nat.zero_le _


end AtM
end Go.Proofs.Ytiiknpebphpeiaa
