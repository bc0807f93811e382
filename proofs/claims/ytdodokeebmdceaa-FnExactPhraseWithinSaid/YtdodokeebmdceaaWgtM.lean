/-
  Weights and tables of explosions, as functions.
-/
import Derived.Test.YtdodokeebmdceaaRows
import Derived.Test.YtdodokeebmdceaaArr
import Derived.Test.YtdodokeebmdceaaOpenD
import Derived.WalkKit
import Derived.WalkLawsBesides
import Derived.WalkSpells
import Derived.ProofKit
import Derived.OpenShut
import Derived.Deep.RegionWith
import Derived.Deep.QuietTactic
import Derived.BigQuiet
namespace Go.Proofs.Ytdodokeebmdceaa
open Go.ChangeShapes Go.WideShapes Go.ChangeAt Go.RowKit
open Go.ChangeMaps (open_string shut_string)

namespace WgtM
open Dice Arr


/-- How many of the first k faces are a number. -/
def wgt (d : Nat → Int) (x : Int) : Nat → Nat
  | 0 => 0
  | k + 1 => wgt d x k + (if d k = x then 1 else 0)
theorem wgt_le (d : Nat → Int) (x : Int) : ∀ k, wgt d x k ≤ k
  | 0 => Nat.le_refl _
  | k + 1 => by
    have := wgt_le d x k
    show wgt d x k + (if d k = x then 1 else 0) ≤ k + 1
    split <;> omega
theorem wgt_mono (d : Nat → Int) (x : Int) : ∀ {m n : Nat}, m ≤ n → wgt d x m ≤ wgt d x n := by
  intro m n h
  induction n with
  | zero => obtain rfl : m = 0 := by omega
            exact Nat.le_refl _
  | succ n ih =>
    by_cases hm : m = n + 1
    · subst hm; exact Nat.le_refl _
    · exact Nat.le_trans (ih (by omega)) (Nat.le_add_right _ _)
theorem wgt_pos {d : Nat → Int} {j k : Nat} (h : j < k) : 1 ≤ wgt d (d j) k := by
  have h1 : wgt d (d j) (j + 1) ≤ wgt d (d j) k := wgt_mono d _ (by omega)
  have h2 : wgt d (d j) (j + 1) = wgt d (d j) j + 1 := by
    show wgt d (d j) j + (if d j = d j then 1 else 0) = _
    rw [if_pos rfl]
  omega
theorem wgt_hit {d : Nat → Int} {x : Int} {k : Nat} (h : d k = x) : wgt d x (k + 1) = wgt d x k + 1 := by
  show wgt d x k + (if d k = x then 1 else 0) = _
  rw [if_pos h]
theorem wgt_miss {d : Nat → Int} {x : Int} {k : Nat} (h : d k ≠ x) : wgt d x (k + 1) = wgt d x k := by
  show wgt d x k + (if d k = x then 1 else 0) = _
  rw [if_neg h]; rfl
/-- Six faces as numbers. -/
def facesZ (d : Nat → Int) (f : Nat → Nat) : Prop := ∀ j, j < 6 → d j = (f j : Int) ∧ f j ≤ f 5 ∧ f j ≤ 30
def face (d : Nat → Int) (j : Nat) : Nat := (d j).toNat
/-- What one face adds to the table. -/
def cb (f : Nat → Nat) (W n i j x : Nat) : Nat := if f j = f 5 ∧ i < n then 0 else if i * f 5 + f j = x then W ^ i * 6 ^ (n - i) else 0
def tb (f : Nat → Nat) (W n : Nat) : Nat → Nat → Nat
  | 0, _ => 0
  | m + 1, x => tb f W n m x + cb f W n (m / 6) (m % 6) x
theorem part_le {W n i : Nat} (hW : W ≤ 6) (hi : i ≤ n) (hn : n ≤ 3) : W ^ i * 6 ^ (n - i) ≤ 216 := by
  have h1 : W ^ i ≤ 6 ^ i := Nat.pow_le_pow_left hW i
  have h2 : 6 ^ i * 6 ^ (n - i) = 6 ^ n := by rw [← Nat.pow_add]; congr 1; omega
  have h3 : 6 ^ n ≤ 6 ^ 3 := Nat.pow_le_pow_right (by omega) hn
  have h4 : W ^ i * 6 ^ (n - i) ≤ 6 ^ i * 6 ^ (n - i) := Nat.mul_le_mul_right _ h1
  omega
theorem cb_le {f : Nat → Nat} {W n i j x : Nat} (hW : W ≤ 6) (hi : i ≤ n) (hn : n ≤ 3) : cb f W n i j x ≤ 216 := by
  unfold cb
  have := part_le hW hi hn
  split
  · omega
  · split <;> omega
theorem tb_le {f : Nat → Nat} {W n : Nat} (hW : W ≤ 6) (hn : n ≤ 3) : ∀ m x, m ≤ 6 * (n + 1) → tb f W n m x ≤ m * 216
  | 0, _, _ => by simp [tb]
  | m + 1, x, h => by
    have h1 := tb_le (f := f) hW hn m x (by omega)
    have h2 := cb_le (f := f) (W := W) (n := n) (i := m / 6) (j := m % 6) (x := x) hW (by omega) hn
    show tb f W n m x + cb f W n (m / 6) (m % 6) x ≤ _
    omega
theorem tb_stay {f : Nat → Nat} {W n i j : Nat} (hj : j < 6) (h : f j = f 5 ∧ i < n) (x : Nat) : tb f W n (6 * i + j + 1) x = tb f W n (6 * i + j) x := by
  show tb f W n (6 * i + j) x + cb f W n ((6 * i + j) / 6) ((6 * i + j) % 6) x = _
  rw [show (6 * i + j) / 6 = i by omega, show (6 * i + j) % 6 = j by omega, cb, if_pos h]; rfl
theorem tb_add {f : Nat → Nat} {W n i j : Nat} (hj : j < 6) (h : ¬ (f j = f 5 ∧ i < n)) (x : Nat) :
    tb f W n (6 * i + j + 1) x = if x = i * f 5 + f j then tb f W n (6 * i + j) x + W ^ i * 6 ^ (n - i) else tb f W n (6 * i + j) x := by
  show tb f W n (6 * i + j) x + cb f W n ((6 * i + j) / 6) ((6 * i + j) % 6) x = _
  rw [show (6 * i + j) / 6 = i by omega, show (6 * i + j) % 6 = j by omega, cb, if_neg h]
  by_cases hx : x = i * f 5 + f j
  · rw [if_pos hx, if_pos hx.symm]
  · rw [if_neg hx, if_neg (fun e => hx e.symm)]; rfl
theorem put_tb {f : Nat → Nat} {W n m m1 x v : Nat} (h : ∀ t, tb f W n m1 t = if t = x then tb f W n m t + v else tb f W n m t) (t : Nat) : put (fun t => (tb f W n m t : Int)) x ((tb f W n m x : Int) + (v : Int)) t = (tb f W n m1 t : Int) := by
  rw [h t]
  unfold put
  by_cases ht : t = x
  · subst ht; rw [if_pos rfl, if_pos rfl, Int.natCast_add]
  · rw [if_neg ht, if_neg ht]
/-- How far a round is, by the sum and the face that are looked at. -/
def pz (G i s k : Nat) : Nat := if s < i * G then 0 else if s = i * G then k else 6
theorem pz_start (G i : Nat) : pz G i 0 0 = 0 := by
  unfold pz
  split
  · rfl
  · rw [if_pos (by omega)]
theorem pz_same {G i s k : Nat} (h : s ≠ i * G) : pz G i s (k + 1) = pz G i s k := by
  unfold pz
  rw [if_neg h, if_neg h]
theorem pz_at {G i s : Nat} (h : s = i * G) (k : Nat) : pz G i s k = k := by
  unfold pz
  rw [if_neg (by omega), if_pos h]
theorem pz_next (G i s : Nat) : pz G i s 6 = pz G i (s + 1) 0 := by
  unfold pz
  generalize i * G = t
  repeat' split
  all_goals first | rfl | omega
theorem pz_end {G i : Nat} (h : i * G < 121) : pz G i 121 0 = 6 := by
  unfold pz
  rw [if_neg (by omega), if_neg (by omega)]
/-- The sums with which the die has exploded at each roll. -/
def opn (G W i : Nat) (x : Nat) : Int := if x = i * G then ((W ^ i : Nat) : Int) else 0
def nvw (d : Nat → Int) (W n i p : Nat) : Nat := if i < n then W ^ i * wgt d (d 5) p else 0
def nvn (d : Nat → Int) (G W n i p : Nat) (x : Nat) : Int := if x = (i + 1) * G then (nvw d W n i p : Int) else 0
theorem nv_end {d : Nat → Int} {G W n i : Nat} (hW : wgt d (d 5) 6 = W) (hi : i < n) (x : Nat) : nvn d G W n i 6 x = opn G W (i + 1) x := by
  unfold nvn opn nvw
  rw [if_pos hi, hW, Nat.pow_succ]
theorem nv_start (d : Nat → Int) (G W n i : Nat) (x : Nat) : nvn d G W n i 0 x = 0 := by
  unfold nvn nvw
  split
  · split <;> simp [wgt]
  · rfl
theorem nv_put {d : Nat → Int} {G W n i p x : Nat} (hi : i < n) (hd : d p = d 5) (hx : x = (i + 1) * G) (t : Nat) : put (nvn d G W n i p) x (nvn d G W n i p x + ((W ^ i : Nat) : Int)) t = nvn d G W n i (p + 1) t := by
  unfold put
  by_cases ht : t = x
  · rw [if_pos ht]
    unfold nvn nvw
    rw [if_pos hx, if_pos (ht.trans hx), if_pos hi, if_pos hi, wgt_hit hd, Nat.mul_add, Nat.mul_one, Int.natCast_add]
  · rw [if_neg ht]
    unfold nvn
    rw [if_neg (fun e => ht (e.trans hx.symm)), if_neg (fun e => ht (e.trans hx.symm))]
theorem nv_miss {d : Nat → Int} {G W n i p : Nat} (hd : ¬ (d p = d 5 ∧ i < n)) (t : Nat) : nvn d G W n i (p + 1) t = nvn d G W n i p t := by
  unfold nvn nvw
  by_cases hi : i < n
  · rw [if_pos hi, if_pos hi, wgt_miss (fun e => hd ⟨e, hi⟩)]
  · rw [if_neg hi, if_neg hi]
theorem nv_bound {d : Nat → Int} {G W n i p x : Nat} (hW : W ≤ 6) (hi : i ≤ n) (hn : n ≤ 3) (hp : p ≤ 6) : 0 ≤ nvn d G W n i p x ∧ nvn d G W n i p x ≤ 1296 := by
  have h1 := part_le hW hi hn
  have h2 := wgt_le d (d 5) p
  have h3 : 1 ≤ 6 ^ (n - i) := Nat.one_le_pow _ _ (by omega)
  have h4 : W ^ i ≤ 216 := Nat.le_trans (Nat.le_mul_of_pos_right _ h3) h1
  have h5 : W ^ i * wgt d (d 5) p ≤ 216 * 6 := Nat.mul_le_mul h4 (by omega)
  unfold nvn nvw
  split
  · split <;> omega
  · omega


end WgtM
end Go.Proofs.Ytdodokeebmdceaa
