/-
  Rings by length and by growing paths, without any program.
-/
import Derived.Test.YtagieilahejobaaRows
import Derived.Test.YtagieilahejobaaDice
import Derived.Test.YtagieilahejobaaOpenD
import Derived.WalkKit
import Derived.WalkLawsBesides
import Derived.WalkSpells
import Derived.ProofKit
import Derived.OpenShut
import Derived.Deep.RegionWith
import Derived.Deep.QuietTactic
import Derived.BigQuiet
namespace Go.Proofs.Ytagieilahejobaa
open Go.ChangeShapes Go.WideShapes Go.ChangeAt Go.RowKit
open Go.ChangeMaps (open_string shut_string)

namespace RingM
open Dice

def hd (p : List Nat) : Nat := p.headD 0
def la (p : List Nat) : Nat := p.getLastD 0
section
variable (b : Nat → Nat → Bool) (n : Nat)
/-- May a path go on to a place? -/
def goes (p : List Nat) (k : Nat) : Bool := decide (hd p < k) && (b (la p) k && !p.contains k)
def ext (p : List Nat) : List (List Nat) := ((List.range n).filter (goes b p)).map fun k => p ++ [k]
def closes (p : List Nat) : Bool := b (la p) (hd p)
/-- The paths of one more place than m. -/
def lev : Nat → List (List Nat)
  | 0 => (List.range n).map fun i => [i]
  | m + 1 => (lev m).flatMap (ext b n)
/-- All rings that begin with a path and have r places more. -/
def dfs : Nat → List Nat → List (List Nat)
  | 0, p => if closes b p then [p] else []
  | r + 1, p => (ext b n p).flatMap (dfs r)
def it : Nat → List (List Nat) → List (List Nat)
  | 0, l => l
  | r + 1, l => it r (l.flatMap (ext b n))
def closed (m : Nat) : List (List Nat) := (lev b n m).filter (closes b)
/-- The rings of at most m places. -/
def rg (m : Nat) : List (List Nat) := (List.range m).flatMap (closed b n)
end
section
variable {b : Nat → Nat → Bool} {n : Nat}
theorem dfs_it (r : Nat) : ∀ l : List (List Nat), l.flatMap (dfs b n r) = (it b n r l).filter (closes b) := by
  induction r with
  | zero =>
    intro l
    induction l with
    | nil => rfl
    | cons p l ih =>
      rw [List.flatMap_cons, ih]
      show (if closes b p then [p] else []) ++ _ = (p :: l).filter (closes b)
      cases h : closes b p
      · rw [List.filter_cons_of_neg (by rw [h]; decide)]; rfl
      · rw [List.filter_cons_of_pos h]; rfl
  | succ r ih =>
    intro l
    show l.flatMap (fun p => (ext b n p).flatMap (dfs b n r)) = (it b n r (l.flatMap (ext b n))).filter (closes b)
    rw [← ih, List.flatMap_assoc]
theorem it_lev (r : Nat) : ∀ m, it b n r (lev b n m) = lev b n (m + r) := by
  induction r with
  | zero => intro m; rfl
  | succ r ih =>
    intro m
    show it b n r (lev b n (m + 1)) = _
    rw [ih (m + 1)]
    congr 1
    omega
theorem dfs_lev (r : Nat) : (List.range n).flatMap (fun i => dfs b n r [i]) = closed b n r := by
  have h := dfs_it (b := b) (n := n) r (lev b n 0)
  rw [it_lev, Nat.zero_add] at h
  unfold closed
  rw [← h]
  show _ = ((List.range n).map fun i => [i]).flatMap (dfs b n r)
  rw [List.flatMap_map]
theorem rg_succ (m : Nat) : rg b n (m + 1) = rg b n m ++ closed b n m := by
  unfold rg
  rw [List.range_succ, List.flatMap_append]
  simp
theorem hd_snoc {p : List Nat} (h : p ≠ []) (k : Nat) : hd (p ++ [k]) = hd p := by
  cases p with
  | nil => exact absurd rfl h
  | cons x p => rfl
theorem la_snoc (p : List Nat) (k : Nat) : la (p ++ [k]) = k := by
  unfold la
  simp [List.getLastD_eq_getLast?]
/-- What a path is. -/
structure Path (b : Nat → Nat → Bool) (n m : Nat) (p : List Nat) : Prop where
  len : p.length = m + 1
  lt : ∀ x ∈ p, x < n
  nod : p.Nodup
theorem lev_path (m : Nat) : ∀ p ∈ lev b n m, Path b n m p := by
  induction m with
  | zero =>
    intro p hp
    obtain ⟨i, hi, rfl⟩ := List.mem_map.1 hp
    exact ⟨rfl, fun x hx => by rw [List.mem_singleton] at hx; subst hx; exact List.mem_range.1 hi, by simp⟩
  | succ m ih =>
    intro p hp
    obtain ⟨q, hq, hp⟩ := List.mem_flatMap.1 hp
    obtain ⟨k, hk, rfl⟩ := List.mem_map.1 hp
    obtain ⟨hkn, hg⟩ := List.mem_filter.1 hk
    have hq := ih q hq
    unfold goes at hg
    simp only [Bool.and_eq_true, Bool.not_eq_true'] at hg
    have hnot : k ∉ q := fun h => by
      have := hg.2.2
      rw [List.contains_iff_mem.2 h] at this
      cases this
    refine ⟨by rw [List.length_append, hq.len]; rfl, fun x hx => ?_, ?_⟩
    · rcases List.mem_append.1 hx with h | h
      · exact hq.lt x h
      · rw [List.mem_singleton] at h
        subst h
        exact List.mem_range.1 hkn
    · rw [List.nodup_append]
      exact ⟨hq.nod, by simp, fun x hx y hy => by rw [List.mem_singleton] at hy; subst hy; exact fun e => hnot (e ▸ hx)⟩
theorem nodup_le : ∀ (n : Nat) (l : List Nat), l.Nodup → (∀ x ∈ l, x < n) → l.length ≤ n := by
  intro n
  induction n with
  | zero =>
    intro l _ h
    cases l with
    | nil => exact Nat.le_refl _
    | cons x l => exact absurd (h x List.mem_cons_self) (Nat.not_lt_zero _)
  | succ n ih =>
    intro l hd h
    by_cases hm : n ∈ l
    · have h1 := ih (l.erase n) (hd.erase n) (fun x hx => by
        obtain ⟨hne, hx⟩ := (List.Nodup.mem_erase_iff hd).1 hx
        have := h x hx
        omega)
      rw [List.length_erase_of_mem hm] at h1
      omega
    · have := ih l hd (fun x hx => by
        have h1 := h x hx
        have h2 : x ≠ n := fun e => hm (e ▸ hx)
        omega)
      omega
theorem lev_end : lev b n n = [] := by
  cases h : lev b n n with
  | nil => rfl
  | cons p l =>
    have hp := lev_path (b := b) (n := n) n p (by rw [h]; exact List.mem_cons_self)
    have := nodup_le n p hp.nod hp.lt
    have := hp.len
    omega
theorem lev_gone {m : Nat} (h : lev b n m = []) : ∀ r, lev b n (m + r) = [] := by
  intro r
  induction r with
  | zero => exact h
  | succ r ih => show (lev b n (m + r)).flatMap _ = []; rw [ih]; rfl
theorem closed_gone {m : Nat} (h : lev b n m = []) (r : Nat) : closed b n (m + r) = [] := by unfold closed; rw [lev_gone h r]; rfl
theorem rg_gone {m : Nat} (h : lev b n m = []) (r : Nat) : rg b n (m + r) = rg b n m := by
  induction r with
  | zero => rfl
  | succ r ih => rw [← Nat.add_assoc, rg_succ, ih, closed_gone h r, List.append_nil]
/-- Where the paths end is no matter. -/
theorem rg_end {m k : Nat} (h : lev b n m = []) (h' : lev b n k = []) : rg b n m = rg b n k := by
  rcases Nat.le_total m k with hle | hle
  · obtain ⟨r, rfl⟩ := Nat.exists_eq_add_of_le hle
    exact (rg_gone h r).symm
  · obtain ⟨r, rfl⟩ := Nat.exists_eq_add_of_le hle
    exact rg_gone h' r
theorem closed0 (hb : ∀ i, b i i = false) : closed b n 0 = [] := by
  refine List.filter_eq_nil_iff.2 fun p hp => ?_
  obtain ⟨i, _, rfl⟩ := List.mem_map.1 hp
  show ¬ b i i = true
  rw [hb i]; decide
theorem closed1 (hb : ∀ i k, b i k = true → b k i = false) : closed b n 1 = [] := by
  refine List.filter_eq_nil_iff.2 fun p hp => ?_
  obtain ⟨q, hq, hp⟩ := List.mem_flatMap.1 hp
  obtain ⟨i, _, rfl⟩ := List.mem_map.1 hq
  obtain ⟨k, hk, rfl⟩ := List.mem_map.1 hp
  obtain ⟨_, hg⟩ := List.mem_filter.1 hk
  unfold goes at hg
  simp only [Bool.and_eq_true] at hg
  show ¬ b k i = true
  rw [hb i k hg.2.1]; decide
theorem rg_two (h0 : ∀ i, b i i = false) (h1 : ∀ i k, b i k = true → b k i = false) : rg b n 2 = [] := by
  rw [rg_succ, rg_succ, closed0 h0, closed1 h1]
  rfl
theorem ext_len (p : List Nat) : (ext b n p).length ≤ n := by
  unfold ext
  rw [List.length_map]
  exact Nat.le_trans (List.length_filter_le _ _) (by rw [List.length_range]; exact Nat.le_refl _)
theorem flat_len (l : List (List Nat)) : (l.flatMap (ext b n)).length ≤ l.length * n := by
  induction l with
  | nil => exact Nat.zero_le _
  | cons p l ih =>
    have := ext_len (b := b) (n := n) p
    rw [List.flatMap_cons, List.length_append, List.length_cons, Nat.add_mul]
    omega
theorem lev_len (m : Nat) : (lev b n m).length ≤ n ^ (m + 1) := by
  induction m with
  | zero => show ((List.range n).map _).length ≤ _; rw [List.length_map, List.length_range, Nat.zero_add, Nat.pow_one]; exact Nat.le_refl _
  | succ m ih =>
    have h1 := flat_len (b := b) (n := n) (lev b n m)
    have h2 := Nat.mul_le_mul_right n ih
    rw [← Nat.pow_succ] at h2
    exact Nat.le_trans h1 h2
end


end RingM
end Go.Proofs.Ytagieilahejobaa
