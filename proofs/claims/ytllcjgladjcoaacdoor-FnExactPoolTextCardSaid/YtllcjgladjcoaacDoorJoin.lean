/-
  Plain facts, without any program: texts joined by a byte.
-/
import Derived.Test.YtllcjgladjcoaacDoorTexts
import Derived.Lib.Join
namespace Go.Proofs.YtllcjgladjcoaacDoor
namespace Joined
open Texts

/-- Texts joined by a byte. -/
def jn (c : UInt8) (ps : List (List UInt8)) : List UInt8 := Lib.join ps [c]
theorem jn_nil (c : UInt8) : jn c [] = [] := rfl
theorem jn_one (c : UInt8) (p : List UInt8) : jn c [p] = p := Lib.join_one p [c]
theorem tail_snoc (c : UInt8) (r : List (List UInt8)) (p : List UInt8) : Lib.joinTail [c] (r ++ [p]) = Lib.joinTail [c] r ++ (c :: p) := by
  unfold Lib.joinTail; simp
theorem jn_snoc (c : UInt8) {ps : List (List UInt8)} (h : ps ≠ []) (p : List UInt8) : jn c (ps ++ [p]) = jn c ps ++ (c :: p) := by
  cases ps with
  | nil => exact absurd rfl h
  | cons x r =>
    unfold jn
    rw [List.cons_append, Lib.join_cons, Lib.join_cons, tail_snoc, List.append_assoc]
theorem tail_len (c : UInt8) (r : List (List UInt8)) : (Lib.joinTail [c] r).length = lens r + r.length := by
  induction r with
  | nil => rfl
  | cons p r ih =>
    have e : Lib.joinTail [c] (p :: r) = (c :: p) ++ Lib.joinTail [c] r := by unfold Lib.joinTail; simp
    rw [e, List.length_append, ih]
    unfold lens
    simp only [List.map_cons, List.sum_cons, List.length_cons]
    omega
theorem jn_len (c : UInt8) {ps : List (List UInt8)} (h : ps ≠ []) : (jn c ps).length + 1 = lens ps + ps.length := by
  cases ps with
  | nil => exact absurd rfl h
  | cons x r =>
    unfold jn
    rw [Lib.join_cons, List.length_append, tail_len]
    unfold lens
    simp only [List.map_cons, List.sum_cons, List.length_cons]
    omega
/-- One text more. -/
theorem jn_take (c : UInt8) {ps : List (List UInt8)} {k : Nat} {p : List UInt8} (hp : ps[k]? = some p) :
    jn c (ps.take (k + 1)) = if k = 0 then p else jn c (ps.take k) ++ (c :: p) := by
  have hk := (List.getElem?_eq_some_iff.1 hp).1
  rw [List.take_add_one, hp]
  by_cases h0 : k = 0
  · subst h0
    rw [if_pos rfl]
    exact jn_one c p
  · rw [if_neg h0]
    exact jn_snoc c (by intro e; have := congrArg List.length e; simp only [List.length_take, List.length_nil] at this; omega) p
theorem jn_take_len (c : UInt8) {ps : List (List UInt8)} {k : Nat} (hk : k < ps.length) : (jn c (ps.take (k + 1))).length = k + lens (ps.take (k + 1)) := by
  have h : ps.take (k + 1) ≠ [] := by intro e; have := congrArg List.length e; simp only [List.length_take, List.length_nil] at this; omega
  have := jn_len c h
  rw [List.length_take, show min (k + 1) ps.length = k + 1 by omega] at this
  omega

/-- What joining gives, if it does: the sign is one byte, there is a text, no text holds the sign, and it isn't too long. -/
def joinC (ps : List (List UInt8)) (c : UInt8) : Option (List UInt8) := if ps ≠ [] ∧ (∀ p ∈ ps, c ∉ p) ∧ (jn c ps).length ≤ 4000 then some (jn c ps) else none
def joinR (ps : List (List UInt8)) (sep : List UInt8) : Option (List UInt8) :=
  match sep with
  | [c] => joinC ps c
  | _ => none
theorem join_sep {ps : List (List UInt8)} {sep : List UInt8} (h : sep.length ≠ 1) : joinR ps sep = none := by
  unfold joinR
  split
  · simp at h
  · rfl
theorem join_empty (sep : List UInt8) : joinR [] sep = none := by
  unfold joinR
  split
  · unfold joinC; rw [if_neg (fun x => x.1 rfl)]
  · rfl
theorem join_in {ps : List (List UInt8)} {c : UInt8} {p : List UInt8} (hp : p ∈ ps) (hc : c ∈ p) : joinR ps [c] = none := by
  show joinC ps c = none; unfold joinC; rw [if_neg (fun x => x.2.1 p hp hc)]
theorem join_long {ps : List (List UInt8)} {c : UInt8} {k : Nat} (hk : k < ps.length) (h : 4000 < k + lens (ps.take (k + 1))) : joinR ps [c] = none := by
  have h1 := jn_len c (ps := ps) (by intro e; subst e; simp at hk)
  have h2 : lens (ps.take (k + 1)) ≤ lens ps := lens_le ps (k + 1)
  show joinC ps c = none; unfold joinC; rw [if_neg (fun x => by have := x.2.2; omega)]
theorem join_long' {ps : List (List UInt8)} {c : UInt8} {k : Nat} (h0 : ps ≠ []) (h : 4000 + 1 < ps.length + lens (ps.take k)) : joinR ps [c] = none := by
  have h1 := jn_len c h0
  have h2 := lens_le ps k
  show joinC ps c = none; unfold joinC; rw [if_neg (fun x => by have := x.2.2; omega)]
theorem join_yes {ps : List (List UInt8)} {c : UInt8} (h0 : ps ≠ []) (h1 : ∀ p ∈ ps, c ∉ p) (h2 : lens ps + ps.length ≤ 4001) : joinR ps [c] = some (jn c ps) := by
  have h3 := jn_len c h0
  show joinC ps c = some (jn c ps); unfold joinC; rw [if_pos ⟨h0, h1, by omega⟩]

end Joined
end Go.Proofs.YtllcjgladjcoaacDoor
