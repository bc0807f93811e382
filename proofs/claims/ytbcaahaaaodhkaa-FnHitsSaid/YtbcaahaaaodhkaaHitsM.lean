/-
  Tables of hits add up to all outcomes; with a greater bound fewer hit.
-/
import Derived.Test.YtbcaahaaaodhkaaRows
import Derived.Test.YtbcaahaaaodhkaaHits
import Derived.Test.YtbcaahaaaodhkaaOpenD
import Derived.WalkKit
import Derived.WalkLawsBesides
import Derived.WalkSpells
import Derived.ProofKit
import Derived.OpenShut
import Derived.Deep.RegionWith
import Derived.Deep.QuietTactic
import Derived.BigQuiet
namespace Go.Proofs.Ytbcaahaaaodhkaa
open Go.ChangeShapes Go.WideShapes Go.ChangeAt Go.RowKit
open Go.ChangeMaps (open_string shut_string)

namespace HitsM
open Dice Arr Hits

/-- One die more: six times as many, and what those below a number are. -/
theorem hs_pre (f : Nat → Int) (h K : Nat) : ∀ m, m ≤ K → upto (hs f h K) 0 m + (if m = 0 then 0 else f (m - 1) * (h : Int)) = 6 * upto f 0 m
  | 0, _ => by simp [Hits.upto]
  | m + 1, hm => by
    have ih := hs_pre f h K m (by omega)
    have e1 : upto (hs f h K) 0 (m + 1) = upto (hs f h K) 0 m + hs f h K (0 + m) := rfl
    have e2 : upto f 0 (m + 1) = upto f 0 m + f (0 + m) := rfl
    rw [e1, e2, Nat.zero_add, if_neg (by omega), show m + 1 - 1 = m by omega]
    by_cases h0 : m = 0
    · subst h0
      rw [hs_first (by omega)]
      simp only [Hits.upto] at ih ⊢
      rw [Int.mul_sub]
      omega
    · rw [if_neg h0] at ih
      rw [hs_in (by omega) (by omega), Int.mul_sub]
      omega
theorem hs_all (f : Nat → Int) (h K : Nat) : ∀ d, upto (hs f h K) 0 (K + 1 + d) = 6 * upto f 0 K
  | 0 => by
    have h1 := hs_pre f h K K (Nat.le_refl _)
    have e1 : upto (hs f h K) 0 (K + 1 + 0) = upto (hs f h K) 0 K + hs f h K (0 + K) := rfl
    rw [e1, Nat.zero_add]
    by_cases h0 : K = 0
    · subst h0
      rw [hs_none]
      simp only [Hits.upto] at h1 ⊢
      omega
    · obtain ⟨k, rfl⟩ : ∃ k, K = k + 1 := ⟨K - 1, by omega⟩
      rw [hs_last]
      rw [if_neg (by omega), show k + 1 - 1 = k by omega] at h1
      omega
  | d + 1 => by
    have e1 : upto (hs f h K) 0 (K + 1 + (d + 1)) = upto (hs f h K) 0 (K + 1 + d) + hs f h K (0 + (K + 1 + d)) := rfl
    rw [e1, hs_all f h K d, hs_out (by omega)]
    omega
/-- All numbers of a table added up. -/
theorem HT_all (P : Nat → Nat → Int) (b : Int) : ∀ i d, upto (HT P b i) 0 (i + 1 + d) = ((6 ^ i : Nat) : Int)
  | 0, d => by
    show upto one5 0 (0 + 1 + d) = 1
    induction d with
    | zero => rfl
    | succ d ih =>
      have e1 : upto one5 0 (0 + 1 + (d + 1)) = upto one5 0 (0 + 1 + d) + one5 (0 + (0 + 1 + d)) := rfl
      rw [e1, ih]
      unfold one5
      rw [if_neg (by omega)]
      rfl
  | i + 1, d => by
    show upto (hs (HT P b i) (hitN (P i) b 6) (i + 1)) 0 (i + 1 + 1 + d) = _
    have h1 := HT_all P b i 0
    rw [hs_all, show i + 1 = i + 1 + 0 from rfl, h1, Nat.pow_succ]
    omega
theorem hitN_mono (d : Nat → Int) (b : Int) (k : Nat) : hitN d (b + 1) k ≤ hitN d b k := by
  induction k with
  | zero => exact Nat.le_refl _
  | succ k ih => unfold hitN; split <;> split <;> omega
/-- With a greater bound there are no fewer that hit less than k times. -/
theorem HT_mono (P : Nat → Nat → Int) (b : Int) : ∀ i m, upto (HT P b i) 0 m ≤ upto (HT P (b + 1) i) 0 m
  | 0, m => Int.le_refl _
  | i + 1, m => by
    have hh := hitN_mono (P i) b 6
    have h6 := hitN_le (P i) b 6
    by_cases hm : m ≤ i + 1
    · have h1 := hs_pre (HT P b i) (hitN (P i) b 6) (i + 1) m hm
      have h2 := hs_pre (HT P (b + 1) i) (hitN (P i) (b + 1) 6) (i + 1) m hm
      have e1 : HT P b (i + 1) = hs (HT P b i) (hitN (P i) b 6) (i + 1) := rfl
      have e2 : HT P (b + 1) (i + 1) = hs (HT P (b + 1) i) (hitN (P i) (b + 1) 6) (i + 1) := rfl
      rw [e1, e2]
      by_cases h0 : m = 0
      · subst h0; exact Int.le_refl _
      · obtain ⟨q, rfl⟩ : ∃ q, m = q + 1 := ⟨m - 1, by omega⟩
        rw [if_neg h0, show q + 1 - 1 = q by omega] at h1 h2
        have a1 := HT_mono P b i q
        have a2 := HT_mono P b i (q + 1)
        have s1 : upto (HT P b i) 0 (q + 1) = upto (HT P b i) 0 q + HT P b i (0 + q) := rfl
        have s2 : upto (HT P (b + 1) i) 0 (q + 1) = upto (HT P (b + 1) i) 0 q + HT P (b + 1) i (0 + q) := rfl
        rw [Nat.zero_add] at s1 s2
        have p1 := ((tab_HT P b i).nn q).1
        generalize hitN (P i) b 6 = H at *
        generalize hitN (P i) (b + 1) 6 = H' at *
        generalize HT P b i q = x at *
        generalize HT P (b + 1) i q = x' at *
        generalize upto (HT P b i) 0 q = u at *
        generalize upto (HT P (b + 1) i) 0 q = u' at *
        rw [s1] at h1 a2
        rw [s2] at h2 a2
        have hH6 : H ≤ 6 := h6
        have n1 : 0 ≤ (6 - (H' : Int)) * ((u' + x') - (u + x)) := Int.mul_nonneg (by omega) (by omega)
        have n2 : 0 ≤ (H' : Int) * (u' - u) := Int.mul_nonneg (by omega) (by omega)
        have n3 : 0 ≤ ((H : Int) - H') * x := Int.mul_nonneg (by omega) p1
        simp only [Int.sub_mul, Int.mul_sub, Int.mul_add] at n1 n2 n3
        rw [Int.mul_comm x (H : Int)] at h1
        rw [Int.mul_comm x' (H' : Int)] at h2
        omega
    · obtain ⟨d, rfl⟩ : ∃ d, m = i + 1 + 1 + d := ⟨m - (i + 2), by omega⟩
      rw [HT_all, HT_all]
      exact Int.le_refl _


end HitsM
end Go.Proofs.Ytbcaahaaaodhkaa
