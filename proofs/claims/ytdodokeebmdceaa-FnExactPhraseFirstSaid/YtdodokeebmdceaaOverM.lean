/-
  One of two phrases has the greater overlap with itself: a phrase that is longer to the left; without any program.
-/
import Derived.WalkKit
import Derived.Test.YtdodokeebmdceaaArr
import Derived.Test.YtdodokeebmdceaaWgtM
import Derived.Test.YtdodokeebmdceaaPhrM
namespace Go.Proofs.Ytdodokeebmdceaa
namespace OverM
open Dice Arr WgtM PhrM

/-- Whether the last k of n numbers are the first k of another list. -/
def mtc (g c : Nat → Int) (n k : Nat) : Bool := decide (agree (fun i => g (n - k + i)) c k)
/-- The sum of what is told. -/
def hs (M : Nat → Bool) (E : Nat → Nat) : Nat → Nat
  | 0 => 0
  | j + 1 => hs M E j + if M (j + 1) then E (j + 1) else 0
theorem hs_congr {M M' : Nat → Bool} {E : Nat → Nat} : ∀ {k : Nat}, (∀ j, 1 ≤ j → j ≤ k → M j = M' j) → hs M E k = hs M' E k
  | 0, _ => rfl
  | k + 1, h => by
    show hs M E k + _ = hs M' E k + _
    rw [hs_congr fun j h1 h2 => h j h1 (by omega), h (k + 1) (by omega) (Nat.le_refl _)]
theorem hs_mono {M M' : Nat → Bool} {E : Nat → Nat} : ∀ {k : Nat}, (∀ j, 1 ≤ j → j ≤ k → M j = true → M' j = true) → hs M E k ≤ hs M' E k
  | 0, _ => Nat.le_refl _
  | k + 1, h => by
    have ih := hs_mono (E := E) (k := k) fun j h1 h2 => h j h1 (by omega)
    show hs M E k + (if M (k + 1) then E (k + 1) else 0) ≤ hs M' E k + (if M' (k + 1) then E (k + 1) else 0)
    cases hm : M (k + 1)
    · simp only [Bool.false_eq_true, ↓reduceIte, Nat.add_zero]
      exact Nat.le_trans ih (Nat.le_add_right _ _)
    · rw [h (k + 1) (by omega) (Nat.le_refl _) hm]
      simp only [↓reduceIte]
      omega
/-- What a list has of another one is what the longest part has. -/
theorem dom {g c : Nat → Int} {L : Nat} {E : Nat → Nat} : ∀ N, N ≤ L → hs (mtc g c L) E N = 0 ∨ ∃ j, 1 ≤ j ∧ j ≤ N ∧ mtc g c L j = true ∧ hs (mtc g c L) E N ≤ hs (mtc c c j) E j
  | 0, _ => .inl rfl
  | N + 1, h => by
    cases hm : mtc g c L (N + 1)
    · have e : hs (mtc g c L) E (N + 1) = hs (mtc g c L) E N := by
        show hs (mtc g c L) E N + _ = _
        rw [hm]; rfl
      rw [e]
      rcases dom (g := g) (c := c) (L := L) (E := E) N (by omega) with h0 | ⟨j, h1, h2, h3, h4⟩
      · exact .inl h0
      · exact .inr ⟨j, h1, by omega, h3, h4⟩
    · refine .inr ⟨N + 1, by omega, Nat.le_refl _, hm, hs_mono (k := N + 1) fun j h1 h2 hj => ?_⟩
      have a1 : agree (fun i => g (L - (N + 1) + i)) c (N + 1) := of_decide_eq_true hm
      have a2 : agree (fun i => g (L - j + i)) c j := of_decide_eq_true hj
      refine decide_eq_true fun i hi => ?_
      have b1 := a1 (N + 1 - j + i) (by omega)
      have b2 := a2 i hi
      show c (N + 1 - j + i) = c i
      have e : L - (N + 1) + (N + 1 - j + i) = L - j + i := by omega
      simp only [e] at b1
      exact b1.symm.trans b2
def ext (c : Nat → Int) (k : Nat) (x : Int) (i : Nat) : Int := if i < k then c i else x
theorem mt_ext {c : Nat → Int} {k j : Nat} {x : Int} (hj : j ≤ k) : mtc (ext c k x) c (k + 1) (j + 1) = (mtc c c k j && decide (c j = x)) := by
  unfold mtc
  rw [← Bool.decide_and, decide_eq_decide]
  constructor
  · intro h
    refine ⟨fun i hi => ?_, ?_⟩
    · have := h i (by omega)
      simp only [ext] at this
      rw [if_pos (by omega)] at this
      show c (k - j + i) = c i
      rw [← this]
      congr 1
      omega
    · have := h j (by omega)
      simp only [ext] at this
      rw [if_neg (by omega)] at this
      exact this.symm
  · rintro ⟨h, hx⟩ i hi
    show ext c k x (k + 1 - (j + 1) + i) = c i
    by_cases hij : i = j
    · subst hij
      rw [ext, if_neg (by omega)]
      exact hx.symm
    · rw [ext, if_pos (by omega), ← h i (by omega)]
      congr 1
      omega
/-- The sum over the first r faces. -/
def fsum (G : Nat → Nat) : Nat → Nat
  | 0 => 0
  | r + 1 => fsum G r + G r
theorem fsum_add (G G' : Nat → Nat) : ∀ r, fsum (fun t => G t + G' t) r = fsum G r + fsum G' r
  | 0 => rfl
  | r + 1 => by
    show fsum _ r + (G r + G' r) = fsum G r + G r + (fsum G' r + G' r)
    rw [fsum_add G G' r]
    omega
theorem fsum_zero : ∀ r, fsum (fun _ => 0) r = 0
  | 0 => rfl
  | r + 1 => by show fsum (fun _ => 0) r + 0 = 0; rw [fsum_zero r]
theorem fsum_hit (d : Nat → Int) (x : Int) (e : Nat) : ∀ r, fsum (fun t => if x = d t then e else 0) r = wgt d x r * e
  | 0 => by simp [fsum, wgt]
  | r + 1 => by
    show fsum _ r + (if x = d r then e else 0) = (wgt d x r + if d r = x then 1 else 0) * e
    rw [fsum_hit d x e r, Nat.add_mul]
    by_cases h : x = d r
    · rw [if_pos h, if_pos h.symm, Nat.one_mul]
    · rw [if_neg h, if_neg (fun q => h q.symm), Nat.zero_mul]
theorem fsum_congr {G G' : Nat → Nat} (h : ∀ t, G t = G' t) (r : Nat) : fsum G r = fsum G' r := by rw [show G = G' from funext h]
/-- A fair game. -/
theorem fair {d c : Nat → Int} {E : Nat → Nat} {k m : Nat} (hk : k < m) (hE : ∀ j, j < m → wgt d (c j) 6 * E (j + 1) = 6 * E j) : ∀ L, L ≤ k →
    fsum (fun t => hs (mtc (ext c k (d t)) c (k + 1)) E (L + 1)) 6 = 6 * (E 0 + hs (mtc c c k) E L)
  | 0, _ => by
    have e : ∀ t, hs (mtc (ext c k (d t)) c (k + 1)) E 1 = if c 0 = d t then E 1 else 0 := fun t => by
      show 0 + (if mtc (ext c k (d t)) c (k + 1) (0 + 1) then E 1 else 0) = _
      rw [mt_ext (Nat.zero_le _), show mtc c c k 0 = true from decide_eq_true fun i hi => by omega, Bool.true_and, Nat.zero_add]
      by_cases h : c 0 = d t
      · simp [h]
      · simp [h]
    rw [fsum_congr e, fsum_hit, hE 0 (by omega)]
    rfl
  | L + 1, h => by
    have ih := fair (d := d) (c := c) (E := E) hk hE L (by omega)
    have e : ∀ t, hs (mtc (ext c k (d t)) c (k + 1)) E (L + 1 + 1) = hs (mtc (ext c k (d t)) c (k + 1)) E (L + 1) + if mtc c c k (L + 1) = true then (if c (L + 1) = d t then E (L + 1 + 1) else 0) else 0 := fun t => by
      show hs _ E (L + 1) + (if mtc (ext c k (d t)) c (k + 1) (L + 1 + 1) then E (L + 1 + 1) else 0) = _
      rw [mt_ext (by omega)]
      congr 1
      cases mtc c c k (L + 1)
      · simp
      · by_cases h : c (L + 1) = d t
        · simp [h]
        · simp [h]
    rw [fsum_congr e, fsum_add, ih]
    show _ = 6 * (E 0 + (hs (mtc c c k) E L + if mtc c c k (L + 1) = true then E (L + 1) else 0))
    cases hm : mtc c c k (L + 1)
    · simp only [Bool.false_eq_true, ↓reduceIte, Nat.add_zero, fsum_zero]
    · simp only [↓reduceIte]
      rw [fsum_hit, hE (L + 1) (by omega)]
      omega
theorem fsum_le {d : Nat → Int} {x : Int} {G : Nat → Nat} {A B : Nat} (h1 : ∀ t, d t = x → G t ≤ A) (h2 : ∀ t, d t ≠ x → G t ≤ B) : ∀ r, fsum G r ≤ wgt d x r * A + (r - wgt d x r) * B
  | 0 => by simp [fsum]
  | r + 1 => by
    have ih := fsum_le h1 h2 r
    have hw := wgt_le d x r
    show fsum G r + G r ≤ _
    by_cases h : d r = x
    · rw [wgt_hit h]
      have := h1 r h
      rw [Nat.add_mul, Nat.one_mul, show r + 1 - (wgt d x r + 1) = r - wgt d x r by omega]
      omega
    · rw [wgt_miss h]
      have := h2 r h
      rw [show r + 1 - wgt d x r = (r - wgt d x r) + 1 by omega, Nat.add_mul, Nat.one_mul]
      omega
/-- A longer one has more. -/
theorem grows {d c : Nat → Int} {E : Nat → Nat} {m : Nat} (hE : ∀ j, j < m → wgt d (c j) 6 * E (j + 1) = 6 * E j) (h0 : 1 ≤ E 0) (hw : ∀ j, j < m → 1 ≤ wgt d (c j) 6) :
    ∀ k, k ≤ m → ∀ j, j < k → hs (mtc c c j) E j < hs (mtc c c k) E k
  | 0, _, j, hj => by omega
  | k + 1, hk, j, hj => by
    have ih := grows hE h0 hw k (by omega)
    have hle : ∀ j, j ≤ k → hs (mtc c c j) E j ≤ hs (mtc c c k) E k := fun j hj => by
      by_cases e : j = k
      · rw [e]; exact Nat.le_refl _
      · exact Nat.le_of_lt (ih j (by omega))
    have hf := fair (d := d) (c := c) (E := E) (k := k) (m := m) (by omega) hE k (Nat.le_refl _)
    have hb := fsum_le (d := d) (x := c k) (G := fun t => hs (mtc (ext c k (d t)) c (k + 1)) E (k + 1)) (A := hs (mtc c c (k + 1)) E (k + 1)) (B := hs (mtc c c k) E k)
      (fun t ht => by
        refine Nat.le_of_eq (hs_congr fun j h1 h2 => ?_)
        unfold mtc
        rw [decide_eq_decide]
        have e : ∀ i, i < j → ext c k (d t) (k + 1 - j + i) = c (k + 1 - j + i) := fun i hi => by
          unfold ext
          split
          · rfl
          · rw [ht]; congr 1; omega
        exact ⟨fun h i hi => (e i hi).symm.trans (h i hi), fun h i hi => (e i hi).trans (h i hi)⟩)
      (fun t ht => by
        have hm : mtc (ext c k (d t)) c (k + 1) (k + 1) = false := by
          rw [mt_ext (Nat.le_refl _), decide_eq_false (fun q => ht q.symm), Bool.and_false]
        show hs _ E k + (if mtc (ext c k (d t)) c (k + 1) (k + 1) then _ else 0) ≤ _
        rw [hm]
        simp only [Bool.false_eq_true, ↓reduceIte, Nat.add_zero]
        rcases dom (g := ext c k (d t)) (c := c) (E := E) (L := k + 1) k (by omega) with h0 | ⟨j, h1, h2, h3, h4⟩
        · rw [h0]; exact Nat.zero_le _
        · exact Nat.le_trans h4 (hle j h2)) 6
    rw [hf] at hb
    have hwk := hw k (by omega)
    have hw6 := wgt_le d (c k) 6
    have hlt : hs (mtc c c k) E k < hs (mtc c c (k + 1)) E (k + 1) := by
      generalize hs (mtc c c k) E k = x at *
      generalize hs (mtc c c (k + 1)) E (k + 1) = y at *
      generalize wgt d (c k) 6 = v at *
      refine Nat.lt_of_not_le fun hyx => ?_
      have q1 : v * y ≤ v * x := Nat.mul_le_mul_left _ hyx
      have q2 : v * x + (6 - v) * x = 6 * x := by rw [← Nat.add_mul]; congr 1; omega
      omega
    exact Nat.lt_of_le_of_lt (hle j (by omega)) hlt
/-- A list that does not have all of it has less. -/
theorem less {d g c : Nat → Int} {E : Nat → Nat} {m L N : Nat} (hm : 1 ≤ m) (hE : ∀ j, j < m → wgt d (c j) 6 * E (j + 1) = 6 * E j) (h0 : 1 ≤ E 0) (hw : ∀ j, j < m → 1 ≤ wgt d (c j) 6) (hNL : N ≤ L) (hNm : N ≤ m)
    (hno : N = m → mtc g c L m = false) : hs (mtc g c L) E N < hs (mtc c c m) E m := by
  have hg := grows hE h0 hw m (Nat.le_refl _)
  rcases dom (g := g) (c := c) (E := E) (L := L) N hNL with h | ⟨j, h1, h2, h3, h4⟩
  · rw [h]
    exact Nat.lt_of_le_of_lt (Nat.zero_le _) (hg 0 (by omega))
  · refine Nat.lt_of_le_of_lt h4 (hg j ?_)
    by_cases e : j = m
    · subst e
      rw [hno (by omega)] at h3
      cases h3
    · omega
end OverM
end Go.Proofs.Ytdodokeebmdceaa
