/-
  Patterns of rolls, without any program.
-/
import Derived.Test.YtbcaahaaaodhkaaArr
import Derived.Test.YtbcaahaaaodhkaaPlaces
namespace Go.Proofs.Ytbcaahaaaodhkaa
open Go.RowKit
namespace PatM
open Arr Places

/-- Which group the place i belongs to, and how many places each group has. -/
def gi (p : Nat → Int) : Nat → Nat
  | 0 => 0
  | i + 1 => if p (i + 1) = p i then gi p i else gi p i + 1
def gt (p : Nat → Int) : Nat → Nat → Int
  | 0 => fun _ => 0
  | i + 1 => put (gt p i) (gi p i) (gt p i (gi p i) + 1)
theorem gi_same {p : Nat → Int} {i : Nat} (h : p (i + 1) = p i) : gi p (i + 1) = gi p i := by
  show (if p (i + 1) = p i then gi p i else gi p i + 1) = _
  rw [if_pos h]
theorem gi_next {p : Nat → Int} {i : Nat} (h : ¬ p (i + 1) = p i) : gi p (i + 1) = gi p i + 1 := by
  show (if p (i + 1) = p i then gi p i else gi p i + 1) = _
  rw [if_neg h]
theorem gi_le (p : Nat → Int) (i : Nat) : gi p i ≤ i := by
  induction i with
  | zero => exact Nat.le_refl _
  | succ i ih =>
    by_cases h : p (i + 1) = p i
    · rw [gi_same h]; omega
    · rw [gi_next h]; omega
theorem gt_bound (p : Nat → Int) (i j : Nat) : 0 ≤ gt p i j ∧ gt p i j ≤ i := by
  induction i generalizing j with
  | zero => exact ⟨Int.le_refl _, Int.le_refl _⟩
  | succ i ih =>
    have h1 := ih j
    have h2 := ih (gi p i)
    unfold gt put
    split <;> omega
theorem gt_sum (p : Nat → Int) {m : Nat} : ∀ n, n ≤ m → pre (gt p n) m = n := by
  intro n
  induction n with
  | zero => intro _; exact pre_zero m
  | succ n ih =>
    intro hn
    have h1 := gi_le p n
    show pre (put (gt p n) (gi p n) (gt p n (gi p n) + 1)) m = _
    rw [pre_put, if_pos (by omega), ih (by omega)]
    omega
theorem gi_congr {p q : Nat → Int} {n : Nat} (h : ∀ k, k < n → p k = q k) : ∀ i, i < n → gi p i = gi q i := by
  intro i
  induction i with
  | zero => intro _; rfl
  | succ i ih =>
    intro hi
    have e := ih (by omega)
    by_cases h1 : p (i + 1) = p i
    · rw [gi_same h1, gi_same (by rw [← h _ hi, ← h i (by omega)]; exact h1), e]
    · rw [gi_next h1, gi_next (by rw [← h _ hi, ← h i (by omega)]; exact h1), e]
theorem gt_congr {p q : Nat → Int} {n : Nat} (h : ∀ k, k < n → p k = q k) : ∀ i, i ≤ n → gt p i = gt q i := by
  intro i
  induction i with
  | zero => intro _; rfl
  | succ i ih =>
    intro hi
    unfold gt
    rw [ih (by omega), gi_congr h i (by omega)]
/-- The pattern of the n numbers f. -/
def pat (f : Nat → Int) (n : Nat) : Nat → Int := ds (gt (ds f n) n) 4
theorem pat_range (f : Nat → Int) (n : Nat) {k : Nat} (hk : k < 4) : 0 ≤ pat f n k ∧ pat f n k ≤ n := ds_range (fun j _ => gt_bound _ _ j) hk
theorem pat_le (f : Nat → Int) (n : Nat) {i j : Nat} (hij : i ≤ j) (hj : j < 4) : pat f n j ≤ pat f n i := ds_le _ hij hj
def ls : List Int → Int
  | [] => 0
  | x :: l => x + ls l
theorem ls_append (l m : List Int) : ls (l ++ m) = ls l + ls m := by
  induction l with
  | nil => simp [ls]
  | cons x l ih => simp only [List.cons_append, ls, ih]; omega
theorem ls_perm {l m : List Int} (h : l.Perm m) : ls l = ls m := by
  induction h with
  | nil => rfl
  | cons x _ ih => simp only [ls, ih]
  | swap x y l => simp only [ls]; omega
  | trans _ _ a b => exact a.trans b
theorem ls_Lf (f : Nat → Int) (n : Nat) : ls (Lf f n) = pre f n := by
  induction n with
  | zero => rfl
  | succ n ih => rw [Lf_succ, ls_append, ih]; simp [ls, pre]
theorem Lf_ds (f : Nat → Int) (n : Nat) : Lf (ds f n) n = dn (Lf f n) := by
  refine List.ext_getElem? fun k => ?_
  by_cases hk : k < n
  · rw [ds_get hk]
    unfold Lf
    rw [List.getElem?_map, List.getElem?_range hk]
    rfl
  · rw [List.getElem?_eq_none (by rw [Lf_length]; omega), List.getElem?_eq_none (by rw [dl_length]; omega)]
theorem pre_ds (f : Nat → Int) (n : Nat) : pre (ds f n) n = pre f n := by
  rw [← ls_Lf, ← ls_Lf, Lf_ds]
  exact ls_perm (dn_perm _)
theorem pat_sum (f : Nat → Int) {n : Nat} (h : n ≤ 4) : pat f n 0 + pat f n 1 + pat f n 2 + pat f n 3 = n := by
  have h1 := gt_sum (ds f n) n h
  rw [← pre_ds] at h1
  have e : pre (ds (gt (ds f n) n) 4) 4 = 0 + pat f n 0 + pat f n 1 + pat f n 2 + pat f n 3 := rfl
  omega
/-- One exchange of neighbours of four. -/
def swp (f : Nat → Int) (k : Nat) : Nat → Int := fun j => if f k < f (k + 1) then (if j = k then f (k + 1) else if j = k + 1 then f k else f j) else f j
theorem Lf4 (f : Nat → Int) : Lf f 4 = [f 0, f 1, f 2, f 3] := rfl
theorem swp_perm (f : Nat → Int) {k : Nat} (hk : k < 3) : (Lf (swp f k) 4).Perm (Lf f 4) := by
  rw [Lf4, Lf4]
  by_cases h : f k < f (k + 1)
  · obtain rfl | rfl | rfl : k = 0 ∨ k = 1 ∨ k = 2 := by omega
    · simp only [swp, h, ↓reduceIte]; exact List.Perm.swap _ _ _
    · simp only [swp, h, ↓reduceIte]; exact .cons _ (List.Perm.swap _ _ _)
    · simp only [swp, h, ↓reduceIte]; exact .cons _ (.cons _ (List.Perm.swap _ _ _))
  · simp only [swp, h, ↓reduceIte]
    exact .refl _
/-- Behind i whole passes and k steps of the next one. -/
structure Bub (d f : Nat → Int) (i k : Nat) : Prop where
  perm : (Lf f 4).Perm (Lf d 4)
  done : ∀ a b, a < b → b < 4 → 4 ≤ b + i → f b ≤ f a
  top : ∀ a, a < k → a + i < 3 → k + i ≤ 3 → f k ≤ f a
  kept : ∀ a, 3 ≤ k + i → a + i < 3 → f (3 - i) ≤ f a
theorem Bub.start (d : Nat → Int) : Bub d d 0 0 := ⟨.refl _, fun a b _ _ _ => by omega, fun a _ _ _ => by omega, fun a h _ => by omega⟩
theorem Bub.next {d f : Nat → Int} {i : Nat} (h : Bub d f i 3) (hi : i < 4) : Bub d f (i + 1) 0 := by
  refine ⟨h.perm, fun a b hab hb h6 => ?_, fun a _ _ _ => by omega, fun a h5 ha => by omega⟩
  by_cases hb' : 4 ≤ b + i
  · exact h.done a b hab hb hb'
  · obtain rfl : b = 3 - i := by omega
    exact h.kept a (by omega) (by omega)
theorem Bub.step {d f : Nat → Int} {i k : Nat} (h : Bub d f i k) (hk : k < 3) : Bub d (swp f k) i (k + 1) := by
  have hdone := h.done
  have htop := h.top
  have hkept := h.kept
  refine ⟨(swp_perm f hk).trans h.perm, ?_, ?_, ?_⟩
  · intro a b hab hb h6
    by_cases hs : f k < f (k + 1)
    · have hlow : ¬ 4 ≤ (k + 1) + i := fun h6' => by
        have := hdone k (k + 1) (by omega) (by omega) h6'
        omega
      have b1 : ¬ b = k := by omega
      have b2 : ¬ b = k + 1 := by omega
      simp only [swp, hs, b1, b2, ↓reduceIte]
      split
      · exact hdone _ _ (by omega) hb h6
      · split
        · exact hdone _ _ (by omega) hb h6
        · exact hdone _ _ hab hb h6
    · simp only [swp, hs, ↓reduceIte]
      exact hdone a b hab hb h6
  · intro a ha hai hki
    have ht : ∀ x, x < k → f k ≤ f x := fun x hx => htop x hx (by omega) (by omega)
    by_cases hs : f k < f (k + 1)
    · simp only [swp, hs, ↓reduceIte]
      rw [if_neg (by omega : ¬ k + 1 = k)]
      split
      · omega
      · rw [if_neg (by omega)]
        exact ht a (by omega)
    · simp only [swp, hs, ↓reduceIte]
      rcases Nat.lt_or_ge a k with hak | hak
      · have := ht a hak
        omega
      · obtain rfl : a = k := by omega
        omega
  · intro a h5 hai
    by_cases h5' : 3 ≤ k + i
    · have hns : ¬ f k < f (k + 1) := fun hs => by
        by_cases h6 : 4 ≤ (k + 1) + i
        · have := hdone k (k + 1) (by omega) (by omega) h6
          omega
        · omega
      simp only [swp, hns, ↓reduceIte]
      exact hkept a h5' hai
    · have hk4 : k + 1 = 3 - i := by omega
      have ht : ∀ x, x < k → f k ≤ f x := fun x hx => htop x hx (by omega) (by omega)
      rw [← hk4]
      by_cases hs : f k < f (k + 1)
      · simp only [swp, hs, ↓reduceIte]
        rw [if_neg (by omega : ¬ k + 1 = k)]
        split
        · omega
        · rw [if_neg (by omega)]
          exact ht a (by omega)
      · simp only [swp, hs, ↓reduceIte]
        rcases Nat.lt_or_ge a k with hak | hak
        · have := ht a hak
          omega
        · obtain rfl : a = k := by omega
          omega
theorem sorted4 {d f : Nat → Int} (hp : (Lf f 4).Perm (Lf d 4)) (hs : ∀ i, i < 3 → f (i + 1) ≤ f i) : ∀ k, k < 4 → f k = ds d 4 k := by
  have h0 := hs 0 (by omega); have h1 := hs 1 (by omega); have h2 := hs 2 (by omega)
  simp only [Nat.zero_add, Nat.reduceAdd] at h0 h1 h2
  have e : Lf f 4 = dn (Lf d 4) := by
    refine dn_unique hp ?_
    rw [Lf4]
    simp only [List.pairwise_cons, List.mem_cons, List.not_mem_nil, or_false, forall_eq_or_imp, forall_eq, List.Pairwise.nil, and_true]
    refine ⟨⟨?_, ?_, ?_⟩, ⟨?_, ?_⟩, ?_, ?_⟩ <;> first | omega | (intro x hx; cases hx)
  intro k hk
  have := ds_get (f := d) hk
  rw [← e] at this
  rw [← Lf_getD (f := f) hk, List.getD_eq_getElem?_getD, this]
  rfl
theorem Bub.sorted {d f : Nat → Int} (h : Bub d f 4 0) : ∀ k, k < 4 → f k = ds d 4 k :=
  sorted4 h.perm fun i hi => h.done i (i + 1) (by omega) (by omega) (by omega)
/-- Whether four numbers are a pattern of n dice. -/
def desc (g : Nat → Int) (n m : Nat) : Prop := ∀ i, i < m → 0 ≤ g i ∧ g i ≤ n ∧ (i = 0 ∨ g i ≤ g (i - 1))
instance (g : Nat → Int) (n m : Nat) : Decidable (desc g n m) := by unfold desc; infer_instance
def valid (n : Nat) (g : Nat → Int) : Bool := decide (desc g n 4) && decide (g 0 + g 1 + g 2 + g 3 = n)
theorem desc_ds {g : Nat → Int} {n : Nat} (h : desc g n 4) : ∀ k, k < 4 → ds g 4 k = g k := fun k hk =>
  (sorted4 (d := g) (f := g) (.refl _) (fun i hi => by have := (h (i + 1) (by omega)).2.2; simp only [Nat.add_one_sub_one] at this; omega) k hk).symm
theorem valid_eq (n : Nat) (g : Nat → Int) : valid n g = (decide (Dice.agree g (ds g 4) 4) && !(decide (g 3 < 0) || decide ((n : Int) < g 0)) && decide (g 0 + g 1 + g 2 + g 3 = n)) := by
  unfold valid
  congr 1
  by_cases h : desc g n 4
  · rw [decide_eq_true h, decide_eq_true (p := Dice.agree g (ds g 4) 4) (fun k hk => (desc_ds h k hk).symm), decide_eq_false (by have := (h 3 (by omega)).1; omega), decide_eq_false (by have := (h 0 (by omega)).2.1; omega)]
    rfl
  · rw [decide_eq_false h]
    symm
    by_cases h1 : Dice.agree g (ds g 4) 4
    · by_cases h2 : g 3 < 0
      · rw [decide_eq_true h2]; simp
      · by_cases h3 : (n : Int) < g 0
        · rw [decide_eq_true h3]; simp
        · exact absurd (fun i hi => by
            have a := ds_le g (n := 4) (i := i) (j := 3) (by omega) (by omega)
            have b := ds_le g (n := 4) (i := 0) (j := i) (by omega) hi
            have c := ds_le g (n := 4) (i := i - 1) (j := i) (by omega) hi
            rw [← h1 i hi, ← h1 3 (by omega)] at a
            rw [← h1 i hi, ← h1 0 (by omega)] at b
            rw [← h1 i hi, ← h1 (i - 1) (by omega)] at c
            exact ⟨by omega, by omega, .inr c⟩) h
    · rw [decide_eq_false h1]; simp

end PatM
end Go.Proofs.Ytbcaahaaaodhkaa
