/-
  Sums that are landed at: the ways, told from the last roll; without any program.
-/
import Derived.WalkKit
import Derived.Test.YtcffglnfdnanhaaHoldM
namespace Go.Proofs.Ytcffglnfdnanhaa
namespace LandM
open FracM StopM RunM HoldM

def pq (d q : Nat → Nat) (t i : Nat) : Nat := nsum (fun j => if d j ≤ t then q (t - d j) * 6 ^ (d j - 1) else 0) i
def pS (d : Nat → Nat) : Nat → Nat → Nat
  | 0, t => if t = 0 then 1 else 0
  | n + 1, t => if t = n + 1 then pq d (pS d n) (n + 1) 6 else pS d n t
def pp (d : Nat → Nat) (t : Nat) : Nat := pS d t t
theorem pS_eq (d : Nat → Nat) : ∀ n t, t ≤ n → pS d n t = pp d t
  | 0, t, h => by
    have : t = 0 := by omega
    subst this; rfl
  | n + 1, t, h => by
    by_cases ht : t = n + 1
    · subst ht; rfl
    · show (if t = n + 1 then _ else pS d n t) = _
      rw [if_neg ht]
      exact pS_eq d n t (by omega)
theorem pp_succ {d : Nat → Nat} (hd : ∀ j, j < 6 → 1 ≤ d j) (n : Nat) : pp d (n + 1) = pq d (pp d) (n + 1) 6 := by
  show (if n + 1 = n + 1 then pq d (pS d n) (n + 1) 6 else _) = _
  rw [if_pos rfl]
  refine nsum_congr 6 fun j hj => ?_
  have := hd j hj
  by_cases h : d j ≤ n + 1
  · rw [if_pos h, if_pos h, pS_eq d n _ (by omega)]
  · rw [if_neg h, if_neg h]
theorem pq_le {d q : Nat → Nat} {t : Nat} (hd : ∀ j, j < 6 → 1 ≤ d j) (hq : ∀ s, s < t → q s ≤ 6 ^ s) : ∀ i, i ≤ 6 → pq d q t i ≤ i * 6 ^ (t - 1)
  | 0, _ => Nat.zero_le _
  | i + 1, hi => by
    have ih := pq_le hd hq i (by omega)
    have h1 := hd i (by omega)
    have e : (i + 1) * 6 ^ (t - 1) = i * 6 ^ (t - 1) + 6 ^ (t - 1) := by rw [Nat.add_mul, Nat.one_mul]
    show pq d q t i + (if d i ≤ t then q (t - d i) * 6 ^ (d i - 1) else 0) ≤ (i + 1) * 6 ^ (t - 1)
    rw [e]
    by_cases h : d i ≤ t
    · rw [if_pos h]
      have h2 : q (t - d i) * 6 ^ (d i - 1) ≤ 6 ^ (t - d i) * 6 ^ (d i - 1) := Nat.mul_le_mul_right _ (hq _ (by omega))
      rw [← Nat.pow_add, show t - d i + (d i - 1) = t - 1 by omega] at h2
      exact Nat.add_le_add ih h2
    · rw [if_neg h]
      exact Nat.add_le_add ih (Nat.zero_le _)
theorem pp_le {d : Nat → Nat} (hd : ∀ j, j < 6 → 1 ≤ d j) (t : Nat) : pp d t ≤ 6 ^ t := by
  induction t using Nat.strongRecOn with
  | ind t ih =>
    by_cases h0 : t = 0
    · subst h0; exact Nat.le_refl _
    · obtain ⟨n, rfl⟩ : ∃ n, t = n + 1 := ⟨t - 1, by omega⟩
      rw [pp_succ hd]
      have h := pq_le hd (fun s hs => ih s hs) 6 (Nat.le_refl _)
      rw [Nat.pow_succ]
      have e : n + 1 - 1 = n := rfl
      rw [e] at h
      omega
theorem sc_six (d : Nat → Nat) (bad : Nat) (u : Nat → Nat) (n t : Nat) : ∀ i, i ≤ 6 → sc d bad u (6 * n + i) t = sc d bad u (6 * n) t + nsum (fun j => if d j ≠ bad ∧ n + d j = t then u n else 0) i
  | 0, _ => rfl
  | i + 1, hi => by
    have ih := sc_six d bad u n t i (by omega)
    show sc d bad u (6 * n + i + 1) t = _
    rw [sc_at d bad u t (by omega), ih, Nat.add_assoc]
    rfl
theorem sc_gather {d : Nat → Nat} (hd : ∀ j, j < 6 → 1 ≤ d j) (u : Nat → Nat) (t : Nat) : ∀ n, sc d 0 u (6 * n) t = nsum (fun i => if d i ≤ t ∧ t - d i < n then u (t - d i) else 0) 6
  | 0 => by
    rw [nsum_zero 6 (fun i _ => by rw [if_neg (by omega)])]
    rfl
  | n + 1 => by
    have ih := sc_gather hd u t n
    rw [show 6 * (n + 1) = 6 * n + 6 by omega, sc_six d 0 u n t 6 (Nat.le_refl _), ih, ← nsum_add]
    refine nsum_congr 6 fun j hj => ?_
    have h1 := hd j hj
    by_cases h : n + d j = t
    · rw [if_neg (by omega), if_pos (by omega), if_pos (by omega), show t - d j = n by omega]
      omega
    · rw [if_neg (show ¬ (d j ≠ 0 ∧ n + d j = t) by omega)]
      by_cases h2 : d j ≤ t ∧ t - d j < n
      · rw [if_pos h2, if_pos (by omega)]; rfl
      · rw [if_neg h2, if_neg (by omega)]
theorem land_st {d : Nat → Nat} (hd : ∀ j, j < 6 → 1 ≤ d j) (n : Nat) : n ≤ 10 → st d 0 n n = 6 ^ (10 - n) * pp d n := by
  induction n using Nat.strongRecOn with
  | ind n ih =>
    intro hn
    by_cases h0 : n = 0
    · subst h0; rfl
    · rw [st_self 0 hd (by omega), sc_gather hd]
      obtain ⟨m, rfl⟩ : ∃ m, n = m + 1 := ⟨n - 1, by omega⟩
      rw [pp_succ hd]
      unfold pq
      rw [← nsum_mul]
      refine nsum_congr 6 fun j hj => ?_
      have h1 := hd j hj
      by_cases h : d j ≤ m + 1
      · rw [if_pos ⟨h, by omega⟩, if_pos h]
        have hs := ih (m + 1 - d j) (by omega) (by omega)
        unfold uu
        rw [hs, show 10 - (m + 1 - d j) = (10 - (m + 1)) + (d j - 1) + 1 by omega, Nat.pow_succ, Nat.pow_add]
        generalize 6 ^ (10 - (m + 1)) = a
        generalize 6 ^ (d j - 1) = b
        generalize pp d (m + 1 - d j) = c
        have e : a * b * 6 * c = 6 * (a * (c * b)) := by grind
        rw [e]
        omega
      · rw [if_neg (fun x => h x.1), if_neg h]
        rfl
theorem land_cut {d : Nat → Nat} (hd : ∀ j, j < 6 → 1 ≤ d j) {n : Nat} (hn : n ≤ 10) : num (st d 0 n n) 60466176 = num (pp d n) (6 ^ n) ∧ den (st d 0 n n) 60466176 = den (pp d n) (6 ^ n) := cut10 hn (land_st hd n hn)

end LandM
end Go.Proofs.Ytcffglnfdnanhaa
