/-
  Six numbers as a die: sorted, in range; the sort by exchanges; without any program.
-/
import Derived.Below
import Derived.WalkKit
namespace Go.Proofs.Ytiiknpebphpeiaa
open Go.RowKit
namespace Dice

/-- The six numbers as a list, and as a value. -/
def L (d : Nat → Int) : List Int := [d 0, d 1, d 2, d 3, d 4, d 5]
def dv (d : Nat → Int) : Value := .agg #[.int .i64 (d 0), .int .i64 (d 1), .int .i64 (d 2), .int .i64 (d 3), .int .i64 (d 4), .int .i64 (d 5)]
theorem dv_congr {d e : Nat → Int} (h : ∀ k, k < 6 → d k = e k) : dv d = dv e := by
  unfold dv
  rw [h 0 (by omega), h 1 (by omega), h 2 (by omega), h 3 (by omega), h 4 (by omega), h 5 (by omega)]
theorem L_congr {d e : Nat → Int} (h : ∀ k, k < 6 → d k = e k) : L d = L e := by
  unfold L
  rw [h 0 (by omega), h 1 (by omega), h 2 (by omega), h 3 (by omega), h 4 (by omega), h 5 (by omega)]
theorem L_get {d : Nat → Int} {k : Nat} (h : k < 6) : (L d).getD k 0 = d k := by
  obtain rfl | rfl | rfl | rfl | rfl | rfl : k = 0 ∨ k = 1 ∨ k = 2 ∨ k = 3 ∨ k = 4 ∨ k = 5 := by omega
  all_goals rfl
theorem L_of {l : List Int} (h : l.length = 6) : L (fun k => l.getD k 0) = l := by
  match l, h with
  | [a, b, c, d, e, f], _ => rfl
theorem mem_L {d : Nat → Int} {x : Int} : x ∈ L d ↔ ∃ k, k < 6 ∧ x = d k := by
  constructor
  · intro h
    simp only [L, List.mem_cons, List.not_mem_nil, or_false] at h
    rcases h with h | h | h | h | h | h
    · exact ⟨0, by omega, h⟩
    · exact ⟨1, by omega, h⟩
    · exact ⟨2, by omega, h⟩
    · exact ⟨3, by omega, h⟩
    · exact ⟨4, by omega, h⟩
    · exact ⟨5, by omega, h⟩
  · rintro ⟨k, hk, rfl⟩
    obtain rfl | rfl | rfl | rfl | rfl | rfl : k = 0 ∨ k = 1 ∨ k = 2 ∨ k = 3 ∨ k = 4 ∨ k = 5 := by omega
    all_goals simp [L]

/-- The numbers sorted. -/
def sl (d : Nat → Int) : List Int := (L d).mergeSort fun x y => decide (x ≤ y)
def srt (d : Nat → Int) (k : Nat) : Int := (sl d).getD k 0
theorem sl_length (d : Nat → Int) : (sl d).length = 6 := by unfold sl; rw [List.length_mergeSort]; rfl
theorem L_srt (d : Nat → Int) : L (srt d) = sl d := L_of (sl_length d)
theorem sl_perm (d : Nat → Int) : (sl d).Perm (L d) := List.mergeSort_perm _ _
theorem sl_pair (d : Nat → Int) : (sl d).Pairwise (fun x y => decide (x ≤ y) = true) :=
  List.pairwise_mergeSort (fun a b c h1 h2 => by simp only [decide_eq_true_eq] at *; omega) (fun a b => by simp only [Bool.or_eq_true, decide_eq_true_eq]; omega) _
theorem srt_le (d : Nat → Int) {i j : Nat} (hij : i ≤ j) (hj : j < 6) : srt d i ≤ srt d j := by
  rcases Nat.eq_or_lt_of_le hij with rfl | hlt
  · omega
  have h := List.pairwise_iff_getElem.1 (sl_pair d) i j (by rw [sl_length]; omega) (by rw [sl_length]; omega) hlt
  simp only [decide_eq_true_eq] at h
  unfold srt
  rw [List.getD_eq_getElem?_getD, List.getD_eq_getElem?_getD, List.getElem?_eq_getElem (by rw [sl_length]; omega), List.getElem?_eq_getElem (by rw [sl_length]; omega)]
  exact h
/-- What is in order and has the same numbers is the sorted one. -/
theorem srt_unique {d f : Nat → Int} (hp : (L f).Perm (L d)) (hs : ∀ i, i < 5 → f i ≤ f (i + 1)) : ∀ k, k < 6 → f k = srt d k := by
  have h0 := hs 0 (by omega); have h1 := hs 1 (by omega); have h2 := hs 2 (by omega); have h3 := hs 3 (by omega); have h4 := hs 4 (by omega)
  simp only [Nat.zero_add, Nat.reduceAdd] at h0 h1 h2 h3 h4
  have e : L f = sl d := by
    refine List.Perm.eq_of_pairwise (le := fun x y => decide (x ≤ y) = true) (fun a b _ _ ha hb => by simp only [decide_eq_true_eq] at ha hb; omega) ?_ (sl_pair d) (hp.trans (sl_perm d).symm)
    simp only [L, List.pairwise_cons, List.mem_cons, List.not_mem_nil, or_false, decide_eq_true_eq, forall_eq_or_imp, forall_eq, List.Pairwise.nil, and_true]
    refine ⟨⟨?_, ?_, ?_, ?_, ?_⟩, ⟨?_, ?_, ?_, ?_⟩, ⟨?_, ?_, ?_⟩, ⟨?_, ?_⟩, ?_, ?_⟩ <;> first | omega | (intro x hx; cases hx)
  intro k hk
  rw [← L_get (d := f) hk, e]
  rfl
theorem srt_mem (d : Nat → Int) {k : Nat} (hk : k < 6) : ∃ j, j < 6 ∧ srt d k = d j :=
  mem_L.1 ((sl_perm d).mem_iff.1 (by rw [← L_srt]; exact mem_L.2 ⟨k, hk, rfl⟩))
theorem mem_srt (d : Nat → Int) {k : Nat} (hk : k < 6) : ∃ j, j < 6 ∧ d k = srt d j :=
  mem_L.1 (by rw [L_srt]; exact (sl_perm d).mem_iff.2 (mem_L.2 ⟨k, hk, rfl⟩))

/-- A die: its numbers are 0..30 in ascending order. -/
def upto (d : Nat → Int) (n : Nat) : Prop := ∀ k, k < n → 0 ≤ d k ∧ d k ≤ 30 ∧ (k = 0 ∨ d (k - 1) ≤ d k)
instance (d : Nat → Int) (n : Nat) : Decidable (upto d n) := by unfold upto; infer_instance
def isDie (d : Nat → Int) : Bool := decide (upto d 6)
theorem isDie_congr {d e : Nat → Int} (h : ∀ k, k < 6 → d k = e k) : isDie d = isDie e := by
  unfold isDie upto
  refine decide_eq_decide.2 ⟨fun g k hk => ?_, fun g k hk => ?_⟩
  · rw [← h k hk, ← h (k - 1) (by omega)]; exact g k hk
  · rw [h k hk, h (k - 1) (by omega)]; exact g k hk
theorem upto_le {d : Nat → Int} (h : upto d 6) {i j : Nat} (hij : i ≤ j) (hj : j < 6) : d i ≤ d j := by
  induction j with
  | zero => obtain rfl : i = 0 := by omega
            omega
  | succ j ih =>
    rcases Nat.eq_or_lt_of_le hij with rfl | hlt
    · omega
    have h1 := ih (by omega) (by omega)
    have h2 := (h (j + 1) hj).2.2
    simp only [Nat.add_one_sub_one] at h2
    omega
/-- The ends of the sorted numbers are in range. -/
def fits (d : Nat → Int) : Bool := !(decide (srt d 0 < 0) || decide (30 < srt d 5))
theorem isDie_srt (d : Nat → Int) : isDie (srt d) = fits d := by
  unfold isDie fits
  by_cases h0 : srt d 0 < 0
  · simp only [h0, decide_true, Bool.true_or, Bool.not_true, decide_eq_false_iff_not]
    intro h
    have := (h 0 (by omega)).1
    omega
  by_cases h5 : 30 < srt d 5
  · simp only [h5, decide_true, Bool.or_true, Bool.not_true, decide_eq_false_iff_not]
    intro h
    have := (h 5 (by omega)).2.1
    omega
  simp only [h0, h5, decide_false, Bool.or_false, Bool.not_false, decide_eq_true_eq]
  intro k hk
  have a := srt_le d (i := 0) (j := k) (by omega) hk
  have b := srt_le d (i := k) (j := 5) (by omega) (by omega)
  have c := srt_le d (i := k - 1) (j := k) (by omega) hk
  exact ⟨by omega, by omega, .inr c⟩
theorem srt_of_die {d : Nat → Int} (h : isDie d = true) : ∀ k, k < 6 → srt d k = d k := by
  have h' : upto d 6 := of_decide_eq_true h
  intro k hk
  exact (srt_unique (d := d) (f := d) (List.Perm.refl _) (fun i hi => upto_le h' (by omega) (by omega)) k hk).symm
theorem die_of_srt {d : Nat → Int} (hf : fits d = true) (h : ∀ k, k < 6 → srt d k = d k) : isDie d = true := by
  rw [← isDie_congr h, isDie_srt, hf]
def agree (d e : Nat → Int) (n : Nat) : Prop := ∀ k, k < n → d k = e k
instance (d e : Nat → Int) (n : Nat) : Decidable (agree d e n) := by unfold agree; infer_instance
theorem isDie_eq (d : Nat → Int) : isDie d = (fits d && decide (agree (srt d) d 6)) := by
  by_cases h : isDie d = true
  · have h1 := srt_of_die h
    have h2 : fits d = true := by rw [← isDie_srt, isDie_congr h1, h]
    rw [h, h2, decide_eq_true (show agree (srt d) d 6 from h1)]
    rfl
  · have h' : isDie d = false := by simpa using h
    rw [h']
    cases hf : fits d
    · rfl
    · by_cases hq : agree (srt d) d 6
      · exact absurd (die_of_srt hf hq) h
      · rw [decide_eq_false hq]; rfl

/-- One exchange of neighbours. -/
def swp (f : Nat → Int) (k : Nat) : Nat → Int := fun j => if f (k + 1) < f k then (if j = k then f (k + 1) else if j = k + 1 then f k else f j) else f j
theorem swp_perm (f : Nat → Int) {k : Nat} (hk : k < 5) : (L (swp f k)).Perm (L f) := by
  by_cases h : f (k + 1) < f k
  · obtain rfl | rfl | rfl | rfl | rfl : k = 0 ∨ k = 1 ∨ k = 2 ∨ k = 3 ∨ k = 4 := by omega
    · simp only [L, swp, h, ↓reduceIte]; exact List.Perm.swap _ _ _
    · simp only [L, swp, h, ↓reduceIte]; exact .cons _ (List.Perm.swap _ _ _)
    · simp only [L, swp, h, ↓reduceIte]; exact .cons _ (.cons _ (List.Perm.swap _ _ _))
    · simp only [L, swp, h, ↓reduceIte]; exact .cons _ (.cons _ (.cons _ (List.Perm.swap _ _ _)))
    · simp only [L, swp, h, ↓reduceIte]; exact .cons _ (.cons _ (.cons _ (.cons _ (List.Perm.swap _ _ _))))
  · have e : L (swp f k) = L f := L_congr fun j _ => by simp only [swp, h, ↓reduceIte]
    rw [e]
/-- Behind i whole passes and k steps of the next one. -/
structure Bub (d f : Nat → Int) (i k : Nat) : Prop where
  perm : (L f).Perm (L d)
  done : ∀ a b, a < b → b < 6 → 6 ≤ b + i → f a ≤ f b
  top : ∀ a, a < k → a + i < 5 → k + i ≤ 5 → f a ≤ f k
  kept : ∀ a, 5 ≤ k + i → a + i < 5 → f a ≤ f (5 - i)
theorem Bub.start (d : Nat → Int) : Bub d d 0 0 := ⟨.refl _, fun a b _ _ _ => by omega, fun a _ _ _ => by omega, fun a h _ => by omega⟩
theorem Bub.next {d f : Nat → Int} {i : Nat} (h : Bub d f i 5) (hi : i < 6) : Bub d f (i + 1) 0 := by
  refine ⟨h.perm, fun a b hab hb h6 => ?_, fun a _ _ _ => by omega, fun a h5 ha => by omega⟩
  by_cases hb' : 6 ≤ b + i
  · exact h.done a b hab hb hb'
  · obtain rfl : b = 5 - i := by omega
    exact h.kept a (by omega) (by omega)
theorem Bub.step {d f : Nat → Int} {i k : Nat} (h : Bub d f i k) (hk : k < 5) : Bub d (swp f k) i (k + 1) := by
  have hdone := h.done
  have htop := h.top
  have hkept := h.kept
  refine ⟨(swp_perm f hk).trans h.perm, ?_, ?_, ?_⟩
  · intro a b hab hb h6
    by_cases hs : f (k + 1) < f k
    · have hlow : ¬ 6 ≤ (k + 1) + i := fun h6' => by
        have := hdone k (k + 1) (by omega) (by omega) h6'
        omega
      have b1 : ¬ b = k := by omega
      have b2 : ¬ b = k + 1 := by omega
      simp only [swp, hs, b1, b2, ↓reduceIte]
      split
      · exact hdone _ _ (by omega) hb h6
      · split
        · exact hdone _ _ (by omega) hb h6
        · exact hdone _ _ hab hb h6
    · simp only [swp, hs, ↓reduceIte]
      exact hdone a b hab hb h6
  · intro a ha hai hki
    have ht : ∀ x, x < k → f x ≤ f k := fun x hx => htop x hx (by omega) (by omega)
    by_cases hs : f (k + 1) < f k
    · simp only [swp, hs, ↓reduceIte]
      rw [if_neg (by omega : ¬ k + 1 = k)]
      split
      · omega
      · rw [if_neg (by omega)]
        exact ht a (by omega)
    · simp only [swp, hs, ↓reduceIte]
      rcases Nat.lt_or_ge a k with hak | hak
      · have := ht a hak
        omega
      · obtain rfl : a = k := by omega
        omega
  · intro a h5 hai
    by_cases h5' : 5 ≤ k + i
    · have hns : ¬ f (k + 1) < f k := fun hs => by
        by_cases h6 : 6 ≤ (k + 1) + i
        · have := hdone k (k + 1) (by omega) (by omega) h6
          omega
        · omega
      simp only [swp, hns, ↓reduceIte]
      exact hkept a h5' hai
    · have hk4 : k + 1 = 5 - i := by omega
      have ht : ∀ x, x < k → f x ≤ f k := fun x hx => htop x hx (by omega) (by omega)
      rw [← hk4]
      by_cases hs : f (k + 1) < f k
      · simp only [swp, hs, ↓reduceIte]
        rw [if_neg (by omega : ¬ k + 1 = k)]
        split
        · omega
        · rw [if_neg (by omega)]
          exact ht a (by omega)
      · simp only [swp, hs, ↓reduceIte]
        rcases Nat.lt_or_ge a k with hak | hak
        · have := ht a hak
          omega
        · obtain rfl : a = k := by omega
          omega
theorem Bub.sorted {d f : Nat → Int} (h : Bub d f 6 0) : ∀ k, k < 6 → f k = srt d k :=
  srt_unique h.perm fun i hi => h.done i (i + 1) (by omega) (by omega) (by omega)

end Dice
end Go.Proofs.Ytiiknpebphpeiaa
