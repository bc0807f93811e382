/-
  Races: the sums of both players' rounds step by step; without any program.
-/
import Derived.WalkKit
import Derived.Test.YtcffglnfdnanhaaRunM
namespace Go.Proofs.Ytcffglnfdnanhaa
namespace RaceM
open FracM StopM RunM

theorem wsum_le {a c : Nat → Nat} {S g n : Nat} (ha : ∀ n, n ≤ g → nsum a n ≤ S) (hc : ∀ j, j < g → c j ≤ S) (hn : n ≤ g) : nsum (fun j => a j * c j) n ≤ S * S := by
  have h1 : ∀ n, n ≤ g → nsum (fun j => a j * c j) n ≤ S * nsum a n := by
    intro n
    induction n with
    | zero => intro _; exact Nat.zero_le _
    | succ n ih =>
      intro hn
      have := ih (by omega)
      have h2 : a n * c n ≤ a n * S := Nat.mul_le_mul_left _ (hc n (by omega))
      show nsum (fun j => a j * c j) n + a n * c n ≤ S * (nsum a n + a n)
      rw [Nat.mul_add, Nat.mul_comm S (a n)]
      omega
  exact Nat.le_trans (h1 n hn) (Nat.mul_le_mul_left _ (ha n hn))
def inB (a b : Nat → Nat) (g p q : Nat) : Nat := bef a b g p + a p * (nsum b q - nsum b (p + 1))
def inS (a b : Nat → Nat) (p q : Nat) : Nat := if q ≤ p then same a b p else same a b (p + 1)
theorem bef_le {a b : Nat → Nat} {S g n : Nat} (ha : ∀ n, n ≤ g → nsum a n ≤ S) (hb : ∀ n, n ≤ g → nsum b n ≤ S) (hn : n ≤ g) : bef a b g n ≤ S * S :=
  wsum_le ha (fun _ _ => Nat.le_trans (Nat.sub_le _ _) (hb g (Nat.le_refl _))) hn
theorem sam_le {a b : Nat → Nat} {S g n : Nat} (ha : ∀ n, n ≤ g → nsum a n ≤ S) (hb : ∀ n, n ≤ g → nsum b n ≤ S) (hn : n ≤ g) : same a b n ≤ S * S :=
  wsum_le ha (fun j hj => Nat.le_trans (nsum_ge b (s := j) g hj) (hb g (Nat.le_refl _))) hn
theorem inB_le {a b : Nat → Nat} {S g p q : Nat} (ha : ∀ n, n ≤ g → nsum a n ≤ S) (hb : ∀ n, n ≤ g → nsum b n ≤ S) (hp : p < g) (hq : q ≤ g) : inB a b g p q ≤ S * S := by
  refine Nat.le_trans ?_ (bef_le (n := p + 1) ha hb hp)
  show bef a b g p + a p * (nsum b q - nsum b (p + 1)) ≤ bef a b g p + a p * (nsum b g - nsum b (p + 1))
  have := nsum_mono b hq
  exact Nat.add_le_add_left (Nat.mul_le_mul_left _ (by omega)) _
theorem inS_le {a b : Nat → Nat} {S g p q : Nat} (ha : ∀ n, n ≤ g → nsum a n ≤ S) (hb : ∀ n, n ≤ g → nsum b n ≤ S) (hp : p < g) : inS a b p q ≤ S * S := by
  unfold inS
  split
  · exact sam_le ha hb (by omega)
  · exact sam_le ha hb hp
theorem in_start (a b : Nat → Nat) (g p : Nat) : inB a b g p p = bef a b g p ∧ inS a b p p = same a b p := by
  unfold inB inS
  rw [if_pos (Nat.le_refl _)]
  have := nsum_mono b (show p ≤ p + 1 by omega)
  rw [show nsum b p - nsum b (p + 1) = 0 by omega, Nat.mul_zero]
  exact ⟨rfl, rfl⟩
theorem in_same (a b : Nat → Nat) (g p : Nat) : inB a b g p (p + 1) = inB a b g p p ∧ inS a b p (p + 1) = inS a b p p + a p * b p := by
  unfold inB inS
  rw [if_pos (Nat.le_refl _), if_neg (by omega)]
  have := nsum_mono b (show p ≤ p + 1 by omega)
  rw [show nsum b p - nsum b (p + 1) = 0 by omega, show nsum b (p + 1) - nsum b (p + 1) = 0 by omega]
  exact ⟨rfl, rfl⟩
theorem in_more (a b : Nat → Nat) (g : Nat) {p q : Nat} (h : p < q) : inB a b g p (q + 1) = inB a b g p q + a p * b q ∧ inS a b p (q + 1) = inS a b p q := by
  unfold inB inS
  rw [if_neg (by omega), if_neg (by omega)]
  have := nsum_mono b (show p + 1 ≤ q from h)
  have e : nsum b (q + 1) - nsum b (p + 1) = (nsum b q - nsum b (p + 1)) + b q := by
    show nsum b q + b q - nsum b (p + 1) = _
    omega
  rw [e, Nat.mul_add, Nat.add_assoc]
  exact ⟨rfl, rfl⟩
theorem in_end (a b : Nat → Nat) {g p : Nat} (h : p < g) : inB a b g p g = bef a b g (p + 1) ∧ inS a b p g = same a b (p + 1) := by
  unfold inS
  rw [if_neg (by omega)]
  exact ⟨rfl, rfl⟩

end RaceM
end Go.Proofs.Ytcffglnfdnanhaa
