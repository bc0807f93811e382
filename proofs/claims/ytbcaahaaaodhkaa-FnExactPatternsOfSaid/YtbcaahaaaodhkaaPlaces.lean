/-
  Numbers in descending order, and how often numbers come; without any program.
-/
import Derived.Test.YtbcaahaaaodhkaaArr
namespace Go.Proofs.Ytbcaahaaaodhkaa
open Go.RowKit
namespace Places
open Arr

theorem pair_le (l : List Int) : (l.mergeSort fun x y => decide (y ≤ x)).Pairwise (fun x y => y ≤ x) :=
  (List.pairwise_mergeSort (le := fun x y => decide (y ≤ x)) (fun a b c h1 h2 => by simp only [decide_eq_true_eq] at *; omega) (fun a b => by simp only [Bool.or_eq_true, decide_eq_true_eq]; omega) l).imp fun h => of_decide_eq_true h
theorem pair_ge (l : List Int) : (l.mergeSort fun x y => decide (x ≤ y)).Pairwise (fun x y => x ≤ y) :=
  (List.pairwise_mergeSort (le := fun x y => decide (x ≤ y)) (fun a b c h1 h2 => by simp only [decide_eq_true_eq] at *; omega) (fun a b => by simp only [Bool.or_eq_true, decide_eq_true_eq]; omega) l).imp fun h => of_decide_eq_true h
/-- A list of numbers brought into descending order. -/
def dn (l : List Int) : List Int := l.mergeSort fun x y => decide (y ≤ x)
theorem dn_length (l : List Int) : (dn l).length = l.length := by unfold dn; rw [List.length_mergeSort]
theorem dn_perm (l : List Int) : (dn l).Perm l := List.mergeSort_perm _ _
theorem dn_unique {l m : List Int} (hp : m.Perm l) (hs : m.Pairwise (fun x y => y ≤ x)) : m = dn l :=
  List.Perm.eq_of_pairwise (le := fun x y => y ≤ x) (fun a b _ _ ha hb => by omega) hs (pair_le l) (hp.trans (dn_perm l).symm)
theorem dn_rev (l : List Int) : (l.mergeSort fun x y => decide (x ≤ y)).reverse = dn l := by
  refine dn_unique ((List.reverse_perm _).trans (List.mergeSort_perm _ _)) ?_
  rw [List.pairwise_reverse]
  exact pair_ge l
/-- The first n numbers of f. -/
def Lf (f : Nat → Int) (n : Nat) : List Int := (List.range n).map f
theorem Lf_length (f : Nat → Int) (n : Nat) : (Lf f n).length = n := by simp [Lf]
theorem Lf_succ (f : Nat → Int) (n : Nat) : Lf f (n + 1) = Lf f n ++ [f n] := by unfold Lf; rw [List.range_succ, List.map_append]; rfl
theorem Lf_congr {f g : Nat → Int} {n : Nat} (h : ∀ k, k < n → f k = g k) : Lf f n = Lf g n := by
  unfold Lf
  exact List.map_congr_left fun k hk => h k (by simpa using hk)
theorem Lf_getD {f : Nat → Int} {n k : Nat} (h : k < n) : (Lf f n).getD k 0 = f k := by
  unfold Lf
  rw [List.getD_eq_getElem?_getD, List.getElem?_map, List.getElem?_range h]
  rfl
/-- They in descending order, by places. -/
def ds (f : Nat → Int) (n k : Nat) : Int := (dn (Lf f n)).getD k 0
theorem dl_length (f : Nat → Int) (n : Nat) : (dn (Lf f n)).length = n := by rw [dn_length, Lf_length]
theorem ds_get {f : Nat → Int} {n k : Nat} (h : k < n) : (dn (Lf f n))[k]? = some (ds f n k) := by
  unfold ds
  rw [List.getD_eq_getElem?_getD, List.getElem?_eq_getElem (by rw [dl_length]; exact h)]
  rfl
theorem ds_congr {f g : Nat → Int} {n : Nat} (h : ∀ k, k < n → f k = g k) (k : Nat) : ds f n k = ds g n k := by unfold ds; rw [Lf_congr h]
theorem ds_mem {f : Nat → Int} {n k : Nat} (h : k < n) : ∃ j, j < n ∧ ds f n k = f j := by
  have h1 : ds f n k ∈ dn (Lf f n) := by
    obtain ⟨hl, e⟩ := List.getElem?_eq_some_iff.1 (ds_get (f := f) h)
    rw [← e]
    exact List.getElem_mem hl
  obtain ⟨j, hj, e⟩ := List.mem_map.1 ((dn_perm (Lf f n)).mem_iff.1 h1)
  exact ⟨j, by simpa using hj, e.symm⟩
theorem ds_range {f : Nat → Int} {n : Nat} {a b : Int} (h : ∀ j, j < n → a ≤ f j ∧ f j ≤ b) {k : Nat} (hk : k < n) : a ≤ ds f n k ∧ ds f n k ≤ b := by
  obtain ⟨j, hj, e⟩ := ds_mem (f := f) hk
  rw [e]
  exact h j hj
theorem ds_le (f : Nat → Int) {n i j : Nat} (hij : i ≤ j) (hj : j < n) : ds f n j ≤ ds f n i := by
  rcases Nat.eq_or_lt_of_le hij with rfl | hlt
  · omega
  have h := List.pairwise_iff_getElem.1 (pair_le (Lf f n)) i j (by rw [List.length_mergeSort, Lf_length]; omega) (by rw [List.length_mergeSort, Lf_length]; omega) hlt
  have e1 := ds_get (f := f) (n := n) (k := i) (by omega)
  have e2 := ds_get (f := f) hj
  rw [List.getElem?_eq_getElem (by rw [dl_length]; omega)] at e1
  rw [List.getElem?_eq_getElem (by rw [dl_length]; omega)] at e2
  injection e1 with e1
  injection e2 with e2
  rw [← e1, ← e2]
  exact h
/-- One number more, behind those that are not less. -/
theorem dn_insert {f : Nat → Int} {i n : Nat} (hn : n ≤ i) (h1 : ∀ j, j < n → f i ≤ ds f i j) (h2 : n < i → ds f i n ≤ f i) :
    (dn (Lf f i)).take n ++ f i :: (dn (Lf f i)).drop n = dn (Lf f (i + 1)) := by
  refine dn_unique ?_ ?_
  · rw [Lf_succ]
    have e1 : ((dn (Lf f i)).take n ++ f i :: (dn (Lf f i)).drop n).Perm (f i :: ((dn (Lf f i)).take n ++ (dn (Lf f i)).drop n)) := List.perm_middle
    rw [List.take_append_drop] at e1
    exact e1.trans (((dn_perm (Lf f i)).cons (f i)).trans (List.perm_append_singleton (f i) (Lf f i)).symm)
  · have hp := pair_le (Lf f i)
    have ht : ((dn (Lf f i)).take n).Pairwise (fun x y => y ≤ x) := List.Pairwise.sublist (List.take_sublist n _) hp
    have hd : ((dn (Lf f i)).drop n).Pairwise (fun x y => y ≤ x) := List.Pairwise.sublist (List.drop_sublist n _) hp
    have m1 : ∀ x ∈ (dn (Lf f i)).take n, f i ≤ x := by
      intro x hx
      obtain ⟨j, hj, e⟩ := List.getElem_of_mem hx
      have hjn : j < n := by rw [List.length_take] at hj; omega
      have := h1 j hjn
      have e2 := ds_get (f := f) (n := i) (k := j) (by omega)
      have e3 : ((dn (Lf f i)).take n)[j]? = some x := by rw [List.getElem?_eq_getElem hj, e]
      rw [List.getElem?_take, if_pos hjn, e2] at e3
      injection e3 with e3
      omega
    have m2 : ∀ x ∈ (dn (Lf f i)).drop n, x ≤ f i := by
      intro x hx
      obtain ⟨j, hj, e⟩ := List.getElem_of_mem hx
      have hjn : n + j < i := by rw [List.length_drop, dl_length] at hj; omega
      have := h2 (by omega)
      have h3 := ds_le f (n := i) (i := n) (j := n + j) (by omega) hjn
      have e2 := ds_get (f := f) (n := i) (k := n + j) hjn
      have e3 : ((dn (Lf f i)).drop n)[j]? = some x := by rw [List.getElem?_eq_getElem hj, e]
      rw [List.getElem?_drop, e2] at e3
      injection e3 with e3
      omega
    rw [List.pairwise_append]
    refine ⟨ht, List.pairwise_cons.2 ⟨m2, hd⟩, fun a ha b hb => ?_⟩
    have ha' := m1 a ha
    rcases List.mem_cons.1 hb with rfl | hb
    · exact ha'
    · have := m2 b hb
      omega
/-- The same by places. -/
theorem ds_insert {f : Nat → Int} {i n : Nat} (hn : n ≤ i) (h1 : ∀ j, j < n → f i ≤ ds f i j) (h2 : n < i → ds f i n ≤ f i) {k : Nat} (hk : k < i + 1) :
    ds f (i + 1) k = if k < n then ds f i k else if k = n then f i else ds f i (k - 1) := by
  have e := dn_insert hn h1 h2
  have e1 := ds_get (f := f) hk
  rw [← e, List.getElem?_append] at e1
  have hl : ((dn (Lf f i)).take n).length = n := by rw [List.length_take, dl_length]; omega
  rw [hl] at e1
  by_cases h : k < n
  · rw [if_pos h] at e1 ⊢
    rw [List.getElem?_take, if_pos h, ds_get (by omega)] at e1
    injection e1 with e1
    exact e1.symm
  · rw [if_neg h] at e1 ⊢
    by_cases h3 : k = n
    · subst h3
      rw [if_pos rfl]
      simp at e1
      exact e1.symm
    · rw [if_neg h3]
      obtain ⟨q, rfl⟩ : ∃ q, k = n + 1 + q := ⟨k - n - 1, by omega⟩
      rw [show n + 1 + q - n = q + 1 by omega, List.getElem?_cons_succ, List.getElem?_drop, ds_get (by omega)] at e1
      injection e1 with e1
      rw [show n + 1 + q - 1 = n + q by omega]
      exact e1.symm
/-- Sums of the first places. -/
def top (f : Nat → Int) (n : Nat) : Nat → Int
  | 0 => 0
  | k + 1 => top f n k + ds f n k
theorem top_range {f : Nat → Int} {n : Nat} (h : ∀ j, j < n → 0 ≤ f j ∧ f j ≤ 30) : ∀ k, k ≤ n → 0 ≤ top f n k ∧ top f n k ≤ 30 * k := by
  intro k
  induction k with
  | zero => intro _; simp [top]
  | succ k ih =>
    intro hk
    have h1 := ih (by omega)
    have h2 := ds_range h (k := k) (by omega)
    unfold top
    omega
/-- How often each number comes among the first N of a row of numbers. -/
def cnt (s : Nat → Int) : Nat → Nat → Int
  | 0 => fun _ => 0
  | N + 1 => put (cnt s N) (s N).toNat (cnt s N (s N).toNat + 1)
theorem cnt_bound (s : Nat → Int) (N j : Nat) : 0 ≤ cnt s N j ∧ cnt s N j ≤ N := by
  induction N generalizing j with
  | zero => exact ⟨Int.le_refl _, Int.le_refl _⟩
  | succ N ih =>
    have h1 := ih j
    have h2 := ih (s N).toNat
    unfold cnt put
    split <;> omega
/-- Sums of the first numbers of a table. -/
def pre (d : Nat → Int) : Nat → Int
  | 0 => 0
  | k + 1 => pre d k + d k
theorem pre_put (g : Nat → Int) (j : Nat) (v : Int) (n : Nat) : pre (put g j v) n = pre g n + (if j < n then v - g j else 0) := by
  induction n with
  | zero => simp [pre]
  | succ n ih =>
    unfold pre
    rw [ih]
    by_cases hj : j < n
    · rw [if_pos hj, if_pos (by omega), put_other v (by omega)]
      omega
    · by_cases hjn : j = n
      · subst hjn
        rw [if_neg hj, if_pos (by omega), put_same]
        omega
      · rw [if_neg hj, if_neg (by omega), put_other v (by omega)]
        omega
theorem pre_zero (n : Nat) : pre (fun _ => 0) n = 0 := by
  induction n with
  | zero => rfl
  | succ n ih => rw [pre, ih]; rfl
theorem cnt_all {s : Nat → Int} {m : Nat} (h : ∀ N, 0 ≤ s N ∧ s N < m) (N : Nat) : pre (cnt s N) m = N := by
  induction N with
  | zero => exact pre_zero m
  | succ N ih =>
    have := h N
    show pre (put (cnt s N) (s N).toNat (cnt s N (s N).toNat + 1)) m = _
    rw [pre_put, if_pos (by omega), ih]
    omega
theorem pre_le {t : Nat → Int} (h : ∀ j, 0 ≤ t j) : ∀ n, 0 ≤ pre t n ∧ ∀ k, k ≤ n → pre t k ≤ pre t n := by
  intro n
  induction n with
  | zero =>
    refine ⟨Int.le_refl _, fun k hk => ?_⟩
    have e : k = 0 := by omega
    rw [e]
    exact Int.le_refl _
  | succ n ih =>
    have h1 := h n
    have e : pre t (n + 1) = pre t n + t n := rfl
    refine ⟨by omega, fun k hk => ?_⟩
    by_cases hkn : k = n + 1
    · subst hkn; exact Int.le_refl _
    · have := ih.2 k (by omega)
      omega
theorem pre_at {t : Nat → Int} (h : ∀ j, 0 ≤ t j) {k n : Nat} (hk : k < n) : t k ≤ pre t n := by
  have h1 := (pre_le h n).2 (k + 1) (by omega)
  have h2 := (pre_le h k).1
  have e : pre t (k + 1) = pre t k + t k := rfl
  omega
/-- The numbers of a table, each as often as the table says, added up. -/
def wpre (t : Nat → Int) : Nat → Int
  | 0 => 0
  | k + 1 => wpre t k + (k : Int) * t k
theorem mul_bound {x m : Int} {k n : Nat} (h0 : 0 ≤ x) (hm : x ≤ m) (hk : k ≤ n) : 0 ≤ (k : Int) * x ∧ (k : Int) * x ≤ (n : Int) * m := by
  refine ⟨Int.mul_nonneg (by omega) h0, ?_⟩
  exact Int.mul_le_mul (by omega) hm h0 (by omega)
theorem wpre_bound {t : Nat → Int} (h : ∀ j, 0 ≤ t j) (n : Nat) : 0 ≤ wpre t n ∧ wpre t n ≤ (n : Int) * pre t n := by
  induction n with
  | zero => simp [wpre]
  | succ n ih =>
    have h1 := h n
    have h2 := (pre_le h n).1
    have h3 := mul_bound (k := n) (n := n) h1 (Int.le_refl _) (Nat.le_refl _)
    have e1 : pre t (n + 1) = pre t n + t n := rfl
    have e2 : wpre t (n + 1) = wpre t n + (n : Int) * t n := rfl
    have e3 : ((n + 1 : Nat) : Int) * (pre t n + t n) = (n : Int) * pre t n + (n : Int) * t n + (pre t n + t n) := by
      rw [Int.natCast_add, Int.add_mul, Int.mul_add]; simp
    rw [e1, e2, e3]
    omega

end Places
end Go.Proofs.Ytbcaahaaaodhkaa
