/-
  A pool like one die: the entries of its table shared out; without any program.
-/
import Derived.Test.YtjdijbidpcjjdaaTableM
import Derived.Test.YtjdijbidpcjjdaaSumsM
import Derived.Test.YtjdijbidpcjjdaaDice
namespace Go.Proofs.Ytjdijbidpcjjdaa
open Go.RowKit

namespace OneM
open Dice Arr SumsW Table

/-- How many faces are a sum, and the faces up to a sum. -/
def qn (t : Nat → Int) (N s : Nat) : Nat := (t s).toNat / N
def fl (t : Nat → Int) (N : Nat) : Nat → List Int
  | 0 => []
  | s + 1 => fl t N s ++ List.replicate (qn t N s) (s : Int)
def divs (t : Nat → Int) (N k : Nat) : Prop := ∀ s, s < k → (t s).toNat % N = 0
theorem fl_sum {t : Nat → Int} {N : Nat} (hn : ∀ s, 0 ≤ t s) : ∀ k, divs t N k → pre t k = ((N * (fl t N k).length : Nat) : Int) := by
  intro k
  induction k with
  | zero => intro _; rfl
  | succ k ih =>
    intro hd
    have h1 := ih fun s hs => hd s (by omega)
    have h2 := hd k (by omega)
    have h3 := Nat.div_add_mod (t k).toNat N
    rw [h2, Nat.add_zero] at h3
    have h4 := hn k
    have e : pre t (k + 1) = pre t k + t k := rfl
    rw [e, h1, fl, List.length_append, List.length_replicate, Nat.mul_add, qn, h3]
    omega
theorem fl_mem {t : Nat → Int} {N : Nat} : ∀ k x, x ∈ fl t N k ↔ ∃ s, s < k ∧ 0 < qn t N s ∧ x = (s : Int) := by
  intro k
  induction k with
  | zero =>
    intro x
    constructor
    · intro h; cases h
    · rintro ⟨s, hs, _⟩; omega
  | succ k ih =>
    intro x
    rw [fl, List.mem_append, ih x, List.mem_replicate]
    constructor
    · rintro (⟨s, hs, hq, rfl⟩ | ⟨hq, rfl⟩)
      · exact ⟨s, by omega, hq, rfl⟩
      · exact ⟨k, by omega, by omega, rfl⟩
    · rintro ⟨s, hs, hq, rfl⟩
      by_cases h : s = k
      · subst h; exact .inr ⟨by omega, rfl⟩
      · exact .inl ⟨s, by omega, hq, rfl⟩
theorem fl_asc {t : Nat → Int} {N : Nat} : ∀ k, (fl t N k).Pairwise (· ≤ ·) := by
  intro k
  induction k with
  | zero => exact List.Pairwise.nil
  | succ k ih =>
    rw [fl, List.pairwise_append]
    refine ⟨ih, ?_, fun x hx y hy => ?_⟩
    · rw [List.pairwise_replicate]
      exact .inr (Int.le_refl _)
    · obtain ⟨s, hs, _, rfl⟩ := (fl_mem k x).1 hx
      obtain ⟨_, rfl⟩ := List.mem_replicate.1 hy
      omega
/-- All entries are shared out. -/
def OkO (t : Nat → Int) (N : Nat) : Prop := ∀ s, s < 121 → ((t s).toNat % N = 0 ∧ (t s ≤ 0 ∨ s ≤ 30))
noncomputable def okO (t : Nat → Int) (N : Nat) : Bool := @decide (OkO t N) (Classical.propDecidable _)
def fce (t : Nat → Int) (N k : Nat) : Int := (fl t N 121).getD k 0
theorem okO_no1 {t : Nat → Int} {N s : Nat} (hs : s < 121) (h : (t s).toNat % N ≠ 0) : okO t N = false := @decide_eq_false _ (Classical.propDecidable _) fun g => h (g s hs).1
theorem okO_no2 {t : Nat → Int} {N s : Nat} (hs : s < 121) (h : 0 < t s) (h3 : 30 < s) : okO t N = false := @decide_eq_false _ (Classical.propDecidable _) fun g => by have := (g s hs).2; omega
section
variable {t : Nat → Int} {N : Nat} (hn : ∀ s, 0 ≤ t s) (h1 : 1 ≤ N) (hsum : pre t 121 = ((6 * N : Nat) : Int)) (hd : divs t N 121)
include hn h1 hsum hd
theorem fl_six : (fl t N 121).length = 6 := by
  have h := fl_sum hn 121 hd
  rw [hsum] at h
  have h2 : 6 * N = N * (fl t N 121).length := by omega
  rw [Nat.mul_comm 6 N] at h2
  exact (Nat.eq_of_mul_eq_mul_left (by omega) h2).symm
theorem fce_le : ∀ i, i < 5 → fce t N i ≤ fce t N (i + 1) := by
  intro i hi
  have hl := fl_six hn h1 hsum hd
  have := List.pairwise_iff_getElem.1 (fl_asc (t := t) (N := N) 121) i (i + 1) (by omega) (by omega) (by omega)
  unfold fce
  rw [List.getD_eq_getElem?_getD, List.getD_eq_getElem?_getD, List.getElem?_eq_getElem (by omega), List.getElem?_eq_getElem (by omega)]
  exact this
theorem fce_srt : ∀ k, k < 6 → srt (fce t N) k = fce t N k := fun k hk => (srt_unique (d := fce t N) (f := fce t N) (List.Perm.refl _) (fce_le hn h1 hsum hd) k hk).symm
theorem fce_mem {k : Nat} (hk : k < 6) : ∃ s, s < 121 ∧ 0 < qn t N s ∧ fce t N k = (s : Int) := by
  have hl := fl_six hn h1 hsum hd
  refine (fl_mem (t := t) (N := N) 121 _).1 ?_
  unfold fce
  rw [List.getD_eq_getElem?_getD, List.getElem?_eq_getElem (by omega)]
  exact List.getElem_mem _
theorem fce_fits : fits (fce t N) = okO t N := by
  have hl := fl_six hn h1 hsum hd
  have e0 : decide (srt (fce t N) 0 < 0) = false := decide_eq_false (by
    rw [fce_srt hn h1 hsum hd 0 (by omega)]
    obtain ⟨s, _, _, hs⟩ := fce_mem hn h1 hsum hd (k := 0) (by omega)
    omega)
  unfold fits
  rw [e0, Bool.false_or, fce_srt hn h1 hsum hd 5 (by omega)]
  cases ho : okO t N
  · rw [Bool.not_eq_false']
    refine decide_eq_true ?_
    obtain ⟨s, hs⟩ := Classical.not_forall.1 (@of_decide_eq_false _ (Classical.propDecidable _) ho)
    obtain ⟨hs1, hs2⟩ := Classical.not_imp.1 hs
    have hdv := hd s hs1
    have hs3 : 0 < t s ∧ 30 < s := by
      refine Classical.byContradiction fun hc => hs2 ⟨hdv, ?_⟩
      omega
    have hq : 0 < qn t N s := by
      unfold qn
      have h3 := Nat.div_add_mod (t s).toNat N
      rw [hdv, Nat.add_zero] at h3
      refine Nat.pos_of_ne_zero fun h0 => ?_
      rw [h0, Nat.mul_zero] at h3
      omega
    have hmem : (s : Int) ∈ fl t N 121 := (fl_mem 121 _).2 ⟨s, hs1, hq, rfl⟩
    obtain ⟨j, hj, hje⟩ := List.getElem_of_mem hmem
    have hle : (fl t N 121)[j] ≤ fce t N 5 := by
      unfold fce
      rw [List.getD_eq_getElem?_getD, List.getElem?_eq_getElem (by omega)]
      by_cases h5 : j = 5
      · subst h5; exact Int.le_refl _
      · exact List.pairwise_iff_getElem.1 (fl_asc (t := t) (N := N) 121) j 5 hj (by omega) (by omega)
    omega
  · rw [Bool.not_eq_true']
    refine decide_eq_false ?_
    obtain ⟨s, hs, hq, e⟩ := fce_mem hn h1 hsum hd (k := 5) (by omega)
    have h2 := (@of_decide_eq_true _ (Classical.propDecidable _) ho : OkO t N) s hs
    have hp : 0 < t s := by
      have := hn s
      refine Classical.byContradiction fun hc => ?_
      have : t s = 0 := by omega
      unfold qn at hq
      rw [this] at hq
      simp at hq
    have := h2.2
    omega
end
theorem qn_six {t : Nat → Int} {N k : Nat} (hn : ∀ s, 0 ≤ t s) (h1 : 1 ≤ N) (hsum : pre t 121 = ((6 * N : Nat) : Int)) (hk : k < 121) (hd : divs t N (k + 1)) : (fl t N (k + 1)).length ≤ 6 ∧ qn t N k ≤ 6 := by
  have h := fl_sum hn (k + 1) hd
  have h2 := pre_mono hn (m := k + 1) (n := 121) (by omega)
  rw [hsum, h] at h2
  have h3 : N * (fl t N (k + 1)).length ≤ N * 6 := by omega
  have h4 := Nat.le_of_mul_le_mul_left h3 (by omega)
  refine ⟨h4, ?_⟩
  rw [fl, List.length_append, List.length_replicate] at h4
  omega
theorem divs_next {t : Nat → Int} {N k : Nat} (h : divs t N k) (hk : (t k).toNat % N = 0) : divs t N (k + 1) := fun s hs => by
  by_cases e : s = k
  · subst e; exact hk
  · exact h s (by omega)

end OneM
end Go.Proofs.Ytjdijbidpcjjdaa
