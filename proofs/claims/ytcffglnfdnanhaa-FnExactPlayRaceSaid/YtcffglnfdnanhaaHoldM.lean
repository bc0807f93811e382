/-
  Turns that are held: how the ways of totals go on; without any program.
-/
import Derived.WalkKit
import Derived.Test.YtcffglnfdnanhaaFracM
import Derived.Test.YtcffglnfdnanhaaStopM
import Derived.Test.YtcffglnfdnanhaaRunM
namespace Go.Proofs.Ytcffglnfdnanhaa
namespace HoldM
open FracM StopM RunM

/-- The ways that go to a total, of the first m pairs of a total and a face; those that are bust. -/
def sc (d : Nat → Nat) (bad : Nat) (u : Nat → Nat) : Nat → Nat → Nat
  | 0, _ => 0
  | m + 1, t => sc d bad u m t + if d (m % 6) ≠ bad ∧ m / 6 + d (m % 6) = t then u (m / 6) else 0
def bu (d : Nat → Nat) (bad : Nat) (u : Nat → Nat) : Nat → Nat
  | 0 => 0
  | m + 1 => bu d bad u m + if d (m % 6) = bad then u (m / 6) else 0
theorem sc_at (d : Nat → Nat) (bad : Nat) (u : Nat → Nat) {n i : Nat} (t : Nat) (hi : i < 6) : sc d bad u (6 * n + i + 1) t = sc d bad u (6 * n + i) t + if d i ≠ bad ∧ n + d i = t then u n else 0 := by
  have e1 : (6 * n + i) / 6 = n := by omega
  have e2 : (6 * n + i) % 6 = i := by omega
  show sc d bad u (6 * n + i) t + (if d ((6 * n + i) % 6) ≠ bad ∧ (6 * n + i) / 6 + d ((6 * n + i) % 6) = t then u ((6 * n + i) / 6) else 0) = _
  rw [e1, e2]
theorem bu_at (d : Nat → Nat) (bad : Nat) (u : Nat → Nat) {n i : Nat} (hi : i < 6) : bu d bad u (6 * n + i + 1) = bu d bad u (6 * n + i) + if d i = bad then u n else 0 := by
  have e1 : (6 * n + i) / 6 = n := by omega
  have e2 : (6 * n + i) % 6 = i := by omega
  show bu d bad u (6 * n + i) + (if d ((6 * n + i) % 6) = bad then u ((6 * n + i) / 6) else 0) = _
  rw [e1, e2]
theorem sc_mul (d : Nat → Nat) (bad c : Nat) (u : Nat → Nat) (t : Nat) : ∀ m, sc d bad (fun s => c * u s) m t = c * sc d bad u m t
  | 0 => rfl
  | m + 1 => by
    show sc d bad _ m t + _ = c * (sc d bad u m t + _)
    rw [sc_mul d bad c u t m, Nat.mul_add]
    split <;> simp
theorem bu_mul (d : Nat → Nat) (bad c : Nat) (u : Nat → Nat) : ∀ m, bu d bad (fun s => c * u s) m = c * bu d bad u m
  | 0 => rfl
  | m + 1 => by
    show bu d bad _ m + _ = c * (bu d bad u m + _)
    rw [bu_mul d bad c u m, Nat.mul_add]
    split <;> simp
theorem sc_add (d : Nat → Nat) (bad : Nat) (u v : Nat → Nat) (t : Nat) : ∀ m, sc d bad (fun s => u s + v s) m t = sc d bad u m t + sc d bad v m t
  | 0 => rfl
  | m + 1 => by
    show sc d bad (fun s => u s + v s) m t + (if d (m % 6) ≠ bad ∧ m / 6 + d (m % 6) = t then u (m / 6) + v (m / 6) else 0) = sc d bad u m t + (if d (m % 6) ≠ bad ∧ m / 6 + d (m % 6) = t then u (m / 6) else 0) + (sc d bad v m t + (if d (m % 6) ≠ bad ∧ m / 6 + d (m % 6) = t then v (m / 6) else 0))
    rw [sc_add d bad u v t m]
    by_cases h : d (m % 6) ≠ bad ∧ m / 6 + d (m % 6) = t
    · rw [if_pos h, if_pos h, if_pos h]; omega
    · rw [if_neg h, if_neg h, if_neg h]; omega
theorem bu_add (d : Nat → Nat) (bad : Nat) (u v : Nat → Nat) : ∀ m, bu d bad (fun s => u s + v s) m = bu d bad u m + bu d bad v m
  | 0 => rfl
  | m + 1 => by
    show bu d bad (fun s => u s + v s) m + (if d (m % 6) = bad then u (m / 6) + v (m / 6) else 0) = bu d bad u m + (if d (m % 6) = bad then u (m / 6) else 0) + (bu d bad v m + (if d (m % 6) = bad then v (m / 6) else 0))
    rw [bu_add d bad u v m]
    by_cases h : d (m % 6) = bad
    · rw [if_pos h, if_pos h, if_pos h]; omega
    · rw [if_neg h, if_neg h, if_neg h]; omega
theorem sc_congr {d : Nat → Nat} {bad : Nat} {u v : Nat → Nat} (t : Nat) : ∀ m, (∀ s, s < (m + 5) / 6 → u s = v s) → sc d bad u m t = sc d bad v m t
  | 0, _ => rfl
  | m + 1, h => by
    show sc d bad u m t + _ = sc d bad v m t + _
    rw [sc_congr t m (fun s hs => h s (by omega)), h (m / 6) (by omega)]
theorem bu_congr {d : Nat → Nat} {bad : Nat} {u v : Nat → Nat} : ∀ m, (∀ s, s < (m + 5) / 6 → u s = v s) → bu d bad u m = bu d bad v m
  | 0, _ => rfl
  | m + 1, h => by
    show bu d bad u m + _ = bu d bad v m + _
    rw [bu_congr m (fun s hs => h s (by omega)), h (m / 6) (by omega)]
theorem sc_none {d : Nat → Nat} {bad : Nat} {u : Nat → Nat} {k t : Nat} (hd : ∀ j, j < 6 → 1 ≤ d j) (hu : ∀ s, s < k → u s = 0) (ht : t < k + 1) : ∀ m, sc d bad u m t = 0
  | 0 => rfl
  | m + 1 => by
    show sc d bad u m t + _ = 0
    rw [sc_none hd hu ht m]
    split
    · rename_i h
      have := hd (m % 6) (Nat.mod_lt _ (by omega))
      rw [hu _ (by omega)]
    · rfl
/-- Pairs behind the total add nothing to it. -/
theorem sc_more {d : Nat → Nat} {bad : Nat} {u : Nat → Nat} {s : Nat} (hd : ∀ j, j < 6 → 1 ≤ d j) : ∀ m, 6 * s ≤ m → sc d bad u m s = sc d bad u (6 * s) s
  | 0, h => by
    have : s = 0 := by omega
    subst this; rfl
  | m + 1, h => by
    by_cases he : 6 * s = m + 1
    · rw [he]
    · have ih := sc_more (d := d) (bad := bad) (u := u) (s := s) hd m (by omega)
      show sc d bad u m s + _ = _
      rw [ih, if_neg]
      · rfl
      · intro h2
        have := hd (m % 6) (Nat.mod_lt _ (by omega))
        omega
theorem sc_far {d : Nat → Nat} {bad : Nat} {u : Nat → Nat} {h t : Nat} (hd : ∀ j, j < 6 → d j ≤ 30) (ht : h + 30 ≤ t) : ∀ m, m ≤ 6 * h → sc d bad u m t = 0
  | 0, _ => rfl
  | m + 1, hm => by
    show sc d bad u m t + _ = 0
    rw [sc_far hd ht m (by omega), if_neg]
    intro h2
    have := hd (m % 6) (Nat.mod_lt _ (by omega))
    omega
theorem sc_le {d : Nat → Nat} {bad : Nat} {u : Nat → Nat} {h B : Nat} (hu : ∀ s, s < h → u s ≤ B) (t : Nat) : ∀ m, m ≤ 6 * h → sc d bad u m t ≤ m * B
  | 0, _ => Nat.zero_le _
  | m + 1, hm => by
    have ih := sc_le (d := d) (bad := bad) hu t m (by omega)
    have h1 := hu (m / 6) (by omega)
    have e : (m + 1) * B = m * B + B := by rw [Nat.add_mul, Nat.one_mul]
    show sc d bad u m t + _ ≤ _
    split <;> omega
theorem bu_le {d : Nat → Nat} {bad : Nat} {u : Nat → Nat} {h B : Nat} (hu : ∀ s, s < h → u s ≤ B) : ∀ m, m ≤ 6 * h → bu d bad u m ≤ m * B
  | 0, _ => Nat.zero_le _
  | m + 1, hm => by
    have ih := bu_le (d := d) (bad := bad) hu m (by omega)
    have h1 := hu (m / 6) (by omega)
    have e : (m + 1) * B = m * B + B := by rw [Nat.add_mul, Nat.one_mul]
    show bu d bad u m + _ ≤ _
    split <;> omega
theorem sc_sum (d : Nat → Nat) (bad : Nat) (u : Nat → Nat) (h : Nat) : ∀ m, nsum (sc d bad u m) h ≤ nsum (fun j => u (j / 6)) m
  | 0 => by
    rw [nsum_zero (a := sc d bad u 0) h (fun _ _ => rfl)]
    exact Nat.zero_le _
  | m + 1 => by
    have ih := sc_sum d bad u h m
    show nsum (fun t => sc d bad u m t + if d (m % 6) ≠ bad ∧ m / 6 + d (m % 6) = t then u (m / 6) else 0) h ≤ nsum (fun j => u (j / 6)) m + u (m / 6)
    by_cases hb : d (m % 6) ≠ bad
    · have e : (fun t => sc d bad u m t + if d (m % 6) ≠ bad ∧ m / 6 + d (m % 6) = t then u (m / 6) else 0) = fun t => sc d bad u m t + if m / 6 + d (m % 6) = t then u (m / 6) else 0 := by
        funext t
        by_cases ht : m / 6 + d (m % 6) = t
        · rw [if_pos ⟨hb, ht⟩, if_pos ht]
        · rw [if_neg (fun x => ht x.2), if_neg ht]
      rw [e, nsum_hit]
      split <;> omega
    · have e : (fun t => sc d bad u m t + if d (m % 6) ≠ bad ∧ m / 6 + d (m % 6) = t then u (m / 6) else 0) = sc d bad u m := by
        funext t
        rw [if_neg (fun x => hb x.1)]
        rfl
      rw [e]
      omega

/-- The program's table while a total is left. -/
def inn (d : Nat → Nat) (bad : Nat) (S : Nat → Nat) (n : Nat) : Nat → Nat → Nat
  | 0, t => if t = n then 0 else S t
  | i + 1, t => inn d bad S n i t + if t = (if d i = bad then 0 else n + d i) then S n / 6 else 0
def st (d : Nat → Nat) (bad : Nat) : Nat → Nat → Nat
  | 0, t => if t = 0 then 60466176 else 0
  | n + 1, t => inn d bad (st d bad n) n 6 t
theorem inn_le (d : Nat → Nat) (bad : Nat) (S : Nat → Nat) (n t : Nat) : ∀ i, inn d bad S n i t ≤ S t + i * (S n / 6)
  | 0 => by
    show (if t = n then 0 else S t) ≤ _
    split <;> omega
  | i + 1 => by
    have ih := inn_le d bad S n t i
    have e : (i + 1) * (S n / 6) = i * (S n / 6) + S n / 6 := by rw [Nat.add_mul, Nat.one_mul]
    show inn d bad S n i t + (if t = (if d i = bad then 0 else n + d i) then S n / 6 else 0) ≤ _
    generalize hx : S n / 6 = x at *
    by_cases h : t = (if d i = bad then 0 else n + d i)
    · rw [if_pos h]; omega
    · rw [if_neg h]; omega
theorem st_le (d : Nat → Nat) (bad : Nat) : ∀ n t, st d bad n t ≤ 2 ^ n * 60466176
  | 0, t => by
    show (if t = 0 then 60466176 else 0) ≤ _
    split <;> omega
  | n + 1, t => by
    have h1 := inn_le d bad (st d bad n) n t 6
    have h2 := st_le d bad n t
    have h3 := st_le d bad n n
    have e : 2 ^ (n + 1) * 60466176 = 2 ^ n * 60466176 + 2 ^ n * 60466176 := by rw [Nat.pow_succ]; omega
    show inn d bad (st d bad n) n 6 t ≤ _
    omega
theorem st_small (d : Nat → Nat) (bad : Nat) {n : Nat} (hn : n ≤ 10) (t : Nat) : st d bad n t ≤ 61917364224 := by
  have h1 := st_le d bad n t
  have h2 : 2 ^ n ≤ 1024 := Nat.le_trans (Nat.pow_le_pow_right (by omega) hn) (by decide)
  have h3 : 2 ^ n * 60466176 ≤ 1024 * 60466176 := Nat.mul_le_mul_right _ h2
  omega
theorem inn_small (d : Nat → Nat) (bad : Nat) {n i : Nat} (hn : n ≤ 10) (hi : i ≤ 6) (t : Nat) : inn d bad (st d bad n) n i t ≤ 123834728448 := by
  have h1 := inn_le d bad (st d bad n) n t i
  have h2 := st_small d bad hn t
  have h3 := st_small d bad hn n
  have h4 : i * (st d bad n n / 6) ≤ 6 * (st d bad n n / 6) := Nat.mul_le_mul_right _ hi
  omega
/-- What is left of a total. -/
def uu (d : Nat → Nat) (bad s : Nat) : Nat := st d bad s s / 6
def charF (d : Nat → Nat) (bad n i t : Nat) : Nat := if t = 0 then bu d bad (uu d bad) (6 * n + i) else if t ≤ n then 0 else sc d bad (uu d bad) (6 * n + i) t
theorem inn_char {d : Nat → Nat} {bad n : Nat} (hd : ∀ j, j < 6 → 1 ≤ d j) (h0 : ∀ t, (if t = n then 0 else st d bad n t) = charF d bad n 0 t) : ∀ i t, i ≤ 6 → inn d bad (st d bad n) n i t = charF d bad n i t
  | 0, t, _ => h0 t
  | i + 1, t, hi => by
    have ih := inn_char hd h0 i t (by omega)
    have hdi := hd i (by omega)
    show inn d bad (st d bad n) n i t + (if t = (if d i = bad then 0 else n + d i) then uu d bad n else 0) = charF d bad n (i + 1) t
    rw [ih]
    unfold charF
    rw [show 6 * n + (i + 1) = 6 * n + i + 1 by omega, sc_at d bad (uu d bad) t (by omega), bu_at d bad (uu d bad) (by omega)]
    by_cases ht : t = 0
    · rw [if_pos ht, if_pos ht]
      by_cases hb : d i = bad
      · rw [if_pos hb, if_pos hb, if_pos ht]
      · rw [if_neg hb, if_neg hb, if_neg (by omega)]
    · rw [if_neg ht, if_neg ht]
      by_cases htn : t ≤ n
      · rw [if_pos htn, if_pos htn, if_neg (by split <;> omega)]
      · rw [if_neg htn, if_neg htn]
        by_cases hb : d i = bad
        · rw [if_pos hb, if_neg ht, if_neg (fun x => x.1 hb)]
        · rw [if_neg hb]
          by_cases he : t = n + d i
          · rw [if_pos he, if_pos ⟨hb, he.symm⟩]
          · rw [if_neg he, if_neg (fun x => he x.2.symm)]
theorem st_char {d : Nat → Nat} (bad : Nat) (hd : ∀ j, j < 6 → 1 ≤ d j) : ∀ n t, st d bad (n + 1) t = charF d bad n 6 t
  | 0, t => by
    refine inn_char hd (fun t => ?_) 6 t (Nat.le_refl _)
    unfold charF
    show (if t = 0 then 0 else if t = 0 then 60466176 else 0) = _
    by_cases h : t = 0
    · rw [if_pos h, if_pos h]; rfl
    · rw [if_neg h, if_neg h, if_neg h]
      by_cases h2 : t ≤ 0
      · rw [if_pos h2]
      · rw [if_neg h2]; rfl
  | n + 1, t => by
    refine inn_char hd (fun t => ?_) 6 t (Nat.le_refl _)
    rw [st_char bad hd n t]
    unfold charF
    rw [show 6 * (n + 1) + 0 = 6 * n + 6 by omega]
    by_cases h : t = 0
    · rw [if_neg (by omega), if_pos h, if_pos h]
    · rw [if_neg h, if_neg h]
      by_cases h1 : t = n + 1
      · rw [if_pos h1, if_pos (by omega)]
      · rw [if_neg h1]
        by_cases h2 : t ≤ n
        · rw [if_pos h2, if_pos (by omega)]
        · rw [if_neg h2, if_neg (by omega)]
theorem st_self {d : Nat → Nat} (bad : Nat) (hd : ∀ j, j < 6 → 1 ≤ d j) {s : Nat} (hs : 1 ≤ s) : st d bad s s = sc d bad (uu d bad) (6 * s) s := by
  obtain ⟨n, rfl⟩ : ∃ n, s = n + 1 := ⟨s - 1, by omega⟩
  rw [st_char bad hd]
  unfold charF
  rw [if_neg (by omega), if_neg (by omega), show 6 * n + 6 = 6 * (n + 1) by omega]

/-- The specification's ways of k rolls. -/
def N (d : Nat → Nat) (bad h : Nat) : Nat → Nat → Nat
  | 0, s => if s = 0 then 1 else 0
  | k + 1, s => sc d bad (N d bad h k) (6 * h) s
theorem N_none {d : Nat → Nat} (bad h : Nat) (hd : ∀ j, j < 6 → 1 ≤ d j) : ∀ k s, s < k → N d bad h k s = 0
  | 0, _, hs => by omega
  | k + 1, s, hs => sc_none hd (N_none bad h hd k) hs _
theorem N_sum (d : Nat → Nat) (bad : Nat) {h : Nat} (h1 : 1 ≤ h) : ∀ k, nsum (N d bad h k) h ≤ 6 ^ k
  | 0 => by
    have := U_zero d h1
    exact Nat.le_of_eq this
  | k + 1 => by
    have ih := N_sum d bad h1 k
    have hs := sc_sum d bad (N d bad h k) h (6 * h)
    rw [nsum_six] at hs
    rw [Nat.pow_succ]
    have e : nsum (N d bad h (k + 1)) h = nsum (sc d bad (N d bad h k) (6 * h)) h := rfl
    rw [e]
    generalize 6 ^ k = z at *
    omega
theorem N_le (d : Nat → Nat) (bad : Nat) {h s : Nat} (h1 : 1 ≤ h) (hs : s < h) (k : Nat) : N d bad h k s ≤ 6 ^ k := Nat.le_trans (nsum_ge _ h hs) (N_sum d bad h1 k)
/-- What is added to the endings. -/
def ad (d : Nat → Nat) (bad h : Nat) (u : Nat → Nat) (m t : Nat) : Nat := if t = 0 then bu d bad u m else if h ≤ t then sc d bad u m t else 0
def outS (d : Nat → Nat) (bad h : Nat) : Nat → Nat → Nat
  | 0, _ => 0
  | k + 1, t => outS d bad h k t + ad d bad h (fun s => 6 ^ (h - 1 - k) * N d bad h k s) (6 * h) t
theorem part_le {d : Nat → Nat} {bad h k s : Nat} (h1 : 1 ≤ h) (h10 : h ≤ 10) (hk : k < h) (hs : s < h) : 6 ^ (h - 1 - k) * N d bad h k s ≤ 10077696 := by
  have h2 := Nat.mul_le_mul_left (6 ^ (h - 1 - k)) (N_le d bad h1 hs k)
  rw [← Nat.pow_add] at h2
  exact Nat.le_trans h2 (Nat.le_trans (Nat.pow_le_pow_right (by omega) (show h - 1 - k + k ≤ 9 by omega)) (by decide))
theorem ad_le {d : Nat → Nat} {bad h B : Nat} {u : Nat → Nat} (hu : ∀ s, s < h → u s ≤ B) {m : Nat} (hm : m ≤ 6 * h) (t : Nat) : ad d bad h u m t ≤ m * B := by
  unfold ad
  split
  · exact bu_le hu m hm
  · split
    · exact sc_le hu t m hm
    · exact Nat.zero_le _
theorem outS_le {d : Nat → Nat} {bad h : Nat} (h1 : 1 ≤ h) (h10 : h ≤ 10) (t : Nat) : ∀ k, k ≤ h → outS d bad h k t ≤ k * 604661760
  | 0, _ => Nat.zero_le _
  | k + 1, hk => by
    have ih := outS_le (d := d) (bad := bad) h1 h10 t k (by omega)
    have h2 := ad_le (d := d) (bad := bad) (h := h) (u := fun s => 6 ^ (h - 1 - k) * N d bad h k s) (B := 10077696) (fun s hs => part_le h1 h10 (by omega) hs) (Nat.le_refl _) t
    have h3 : 6 * h * 10077696 ≤ 60 * 10077696 := Nat.mul_le_mul_right _ (by omega)
    have e : (k + 1) * 604661760 = k * 604661760 + 604661760 := by omega
    show outS d bad h k t + _ ≤ _
    omega
theorem ad_mul (d : Nat → Nat) (bad h c : Nat) (u : Nat → Nat) (m t : Nat) : ad d bad h (fun s => c * u s) m t = c * ad d bad h u m t := by
  unfold ad
  rw [sc_mul, bu_mul]
  split
  · rfl
  · split <;> simp
theorem ad_add (d : Nat → Nat) (bad h : Nat) (u v : Nat → Nat) (m t : Nat) : ad d bad h (fun s => u s + v s) m t = ad d bad h u m t + ad d bad h v m t := by
  unfold ad
  rw [sc_add, bu_add]
  split
  · rfl
  · split <;> simp
/-- All rolls together, in parts of all outcomes of ten rolls. -/
def Vs (d : Nat → Nat) (bad h : Nat) : Nat → Nat → Nat
  | 0, _ => 0
  | k + 1, s => Vs d bad h k s + 6 ^ (9 - k) * N d bad h k s
theorem outS_Vs (d : Nat → Nat) (bad : Nat) {h : Nat} (h10 : h ≤ 10) (t : Nat) : ∀ k, k ≤ h → 6 ^ (10 - h) * outS d bad h k t = ad d bad h (Vs d bad h k) (6 * h) t
  | 0, _ => by
    have e : Vs d bad h 0 = fun s => 0 * (fun _ => 0) s := by funext s; simp [Vs]
    rw [e, ad_mul]
    simp [outS]
  | k + 1, hk => by
    have ih := outS_Vs d bad h10 t k (by omega)
    have e : Vs d bad h (k + 1) = fun s => Vs d bad h k s + (6 ^ (10 - h) * (6 ^ (h - 1 - k) * N d bad h k s)) := by
      funext s
      show Vs d bad h k s + 6 ^ (9 - k) * N d bad h k s = _
      rw [show 9 - k = (10 - h) + (h - 1 - k) by omega, Nat.pow_add, Nat.mul_assoc]
    rw [e, ad_add, ad_mul d bad h (6 ^ (10 - h)) (fun s => 6 ^ (h - 1 - k) * N d bad h k s), ← ih, ← Nat.mul_add]
    rfl
theorem sc_Vs (d : Nat → Nat) (bad : Nat) {h : Nat} (s : Nat) : ∀ K, sc d bad (Vs d bad h K) (6 * h) s = nsum (fun k => 6 ^ (9 - k) * N d bad h (k + 1) s) K
  | 0 => by
    have e : Vs d bad h 0 = fun s => 0 * (fun _ => 0) s := by funext s; simp [Vs]
    rw [e, sc_mul]
    simp [nsum]
  | K + 1 => by
    have ih := sc_Vs d bad (h := h) s K
    show sc d bad (fun s => Vs d bad h K s + 6 ^ (9 - K) * N d bad h K s) (6 * h) s = nsum _ K + 6 ^ (9 - K) * sc d bad (N d bad h K) (6 * h) s
    rw [sc_add, sc_mul, ih]
theorem Vs_shift (d : Nat → Nat) (bad h s : Nat) : ∀ K, K ≤ 9 → 6 * Vs d bad h (K + 1) s = 60466176 * N d bad h 0 s + nsum (fun k => 6 ^ (9 - k) * N d bad h (k + 1) s) K
  | 0, _ => by
    show 6 * (0 + 6 ^ 9 * N d bad h 0 s) = 60466176 * N d bad h 0 s + 0
    generalize N d bad h 0 s = x
    omega
  | K + 1, hK => by
    have ih := Vs_shift d bad h s K (by omega)
    show 6 * (Vs d bad h (K + 1) s + 6 ^ (9 - (K + 1)) * N d bad h (K + 1) s) = 60466176 * N d bad h 0 s + (nsum _ K + 6 ^ (9 - K) * N d bad h (K + 1) s)
    rw [Nat.mul_add, ih, show 9 - K = (9 - (K + 1)) + 1 by omega, Nat.pow_succ]
    generalize 6 ^ (9 - (K + 1)) = a
    generalize N d bad h (K + 1) s = b
    have e : 6 * (a * b) = a * 6 * b := by grind
    omega
theorem Vs_self {d : Nat → Nat} (bad : Nat) {h : Nat} (hd : ∀ j, j < 6 → 1 ≤ d j) (h1 : 1 ≤ h) (h10 : h ≤ 10) {s : Nat} (hs : s < h) (h0 : 1 ≤ s) : 6 * Vs d bad h h s = sc d bad (Vs d bad h h) (6 * h) s := by
  obtain ⟨K, rfl⟩ : ∃ K, h = K + 1 := ⟨h - 1, by omega⟩
  rw [Vs_shift d bad (K + 1) s K (by omega), sc_Vs]
  have e0 : N d bad (K + 1) 0 s = 0 := by
    show (if s = 0 then 1 else 0) = 0
    rw [if_neg (by omega)]
  have e1 : N d bad (K + 1) (K + 1) s = 0 := N_none bad _ hd _ _ hs
  show _ = nsum _ K + 6 ^ (9 - K) * N d bad (K + 1) (K + 1) s
  rw [e0, e1]
  omega
theorem Vs_zero {d : Nat → Nat} (bad : Nat) {h : Nat} (hd : ∀ j, j < 6 → 1 ≤ d j) : ∀ K, Vs d bad h (K + 1) 0 = 10077696
  | 0 => by
    show 0 + 6 ^ 9 * (if 0 = 0 then 1 else 0) = 10077696
    decide
  | K + 1 => by
    have ih := Vs_zero bad (h := h) hd K
    have e1 : N d bad h (K + 1) 0 = 0 := N_none bad _ hd _ _ (by omega)
    show Vs d bad h (K + 1) 0 + 6 ^ (9 - (K + 1)) * N d bad h (K + 1) 0 = _
    rw [ih, e1]
    rfl
theorem uu_Vs {d : Nat → Nat} (bad : Nat) {h : Nat} (hd : ∀ j, j < 6 → 1 ≤ d j) (h1 : 1 ≤ h) (h10 : h ≤ 10) (s : Nat) : s < h → st d bad s s = 6 * Vs d bad h h s ∧ uu d bad s = Vs d bad h h s := by
  induction s using Nat.strongRecOn with
  | ind s ih =>
    intro hs
    have h2 : st d bad s s = 6 * Vs d bad h h s := by
      by_cases h0 : s = 0
      · subst h0
        obtain ⟨K, rfl⟩ : ∃ K, h = K + 1 := ⟨h - 1, by omega⟩
        rw [Vs_zero bad hd]
        rfl
      · rw [st_self bad hd (by omega), Vs_self bad hd h1 h10 hs (by omega), sc_more hd (6 * h) (by omega)]
        exact sc_congr s _ fun s' hs' => (ih s' (by omega) (by omega)).2
    refine ⟨h2, ?_⟩
    unfold uu
    omega
/-- Both tables of endings are the same, in parts. -/
theorem st_out {d : Nat → Nat} (bad : Nat) {h : Nat} (hd : ∀ j, j < 6 → 1 ≤ d j) (h1 : 1 ≤ h) (h10 : h ≤ 10) (t : Nat) : st d bad h t = 6 ^ (10 - h) * outS d bad h h t := by
  rw [outS_Vs d bad h10 t h (Nat.le_refl _)]
  have hu : ∀ s, s < h → uu d bad s = Vs d bad h h s := fun s hs => (uu_Vs bad hd h1 h10 s hs).2
  obtain ⟨n, rfl⟩ : ∃ n, h = n + 1 := ⟨h - 1, by omega⟩
  rw [st_char bad hd]
  unfold charF ad
  rw [show 6 * n + 6 = 6 * (n + 1) by omega, bu_congr (u := uu d bad) (v := Vs d bad (n + 1) (n + 1)) (6 * (n + 1)) (fun s hs => hu s (by omega)), sc_congr (u := uu d bad) (v := Vs d bad (n + 1) (n + 1)) t (6 * (n + 1)) (fun s hs => hu s (by omega))]
  split
  · rfl
  · by_cases h2 : t ≤ n
    · rw [if_pos h2, if_neg (by omega)]
    · rw [if_neg h2, if_pos (by omega)]
theorem pow10 {h : Nat} (h10 : h ≤ 10) : 6 ^ (10 - h) * 6 ^ h = 60466176 := by
  rw [← Nat.pow_add, show 10 - h + h = 10 by omega]
theorem pow_ten {a : Nat} (h : a ≤ 10) : 6 ^ a ≤ 60466176 ∧ 1 ≤ 6 ^ a := ⟨Nat.le_trans (Nat.pow_le_pow_right (by omega) h) (by decide), Nat.one_le_pow _ _ (by omega)⟩
theorem cut10 {x y h : Nat} (h10 : h ≤ 10) (e : x = 6 ^ (10 - h) * y) : num x 60466176 = num y (6 ^ h) ∧ den x 60466176 = den y (6 ^ h) := by
  refine cut_eq (by decide) (Nat.pos_of_ne_zero (by simp)) ?_
  rw [e, ← pow10 h10]
  generalize 6 ^ (10 - h) = a
  generalize 6 ^ h = b
  grind
theorem end_cut {d : Nat → Nat} (bad : Nat) {h : Nat} (hd : ∀ j, j < 6 → 1 ≤ d j) (h1 : 1 ≤ h) (h10 : h ≤ 10) (t : Nat) : num (st d bad h t) 60466176 = num (outS d bad h h t) (6 ^ h) ∧ den (st d bad h t) 60466176 = den (outS d bad h h t) (6 ^ h) := cut10 h10 (st_out bad hd h1 h10 t)
/-- What a turn ends with, added up. -/
def gain (f : Nat → Nat) (n : Nat) : Nat := nsum (fun t => t * f t) n
theorem gain_st {d : Nat → Nat} (bad : Nat) {h : Nat} (hd : ∀ j, j < 6 → 1 ≤ d j) (h1 : 1 ≤ h) (h10 : h ≤ 10) (n : Nat) : gain (st d bad h) n = 6 ^ (10 - h) * gain (outS d bad h h) n := by
  unfold gain
  rw [← nsum_mul]
  refine nsum_congr n fun t _ => ?_
  show t * st d bad h t = 6 ^ (10 - h) * (t * outS d bad h h t)
  rw [st_out bad hd h1 h10]
  generalize 6 ^ (10 - h) = a
  generalize outS d bad h h t = b
  grind
theorem outS_far {d : Nat → Nat} (bad : Nat) {h : Nat} (h30 : ∀ j, j < 6 → d j ≤ 30) {t : Nat} (ht : h + 30 ≤ t) : ∀ k, outS d bad h k t = 0
  | 0 => rfl
  | k + 1 => by
    show outS d bad h k t + ad d bad h _ (6 * h) t = 0
    rw [outS_far bad h30 ht k]
    unfold ad
    rw [if_neg (by omega), if_pos (by omega), sc_far h30 ht _ (Nat.le_refl _)]
theorem gain_cut {d : Nat → Nat} (bad : Nat) {h : Nat} (hd : ∀ j, j < 6 → 1 ≤ d j) (h30 : ∀ j, j < 6 → d j ≤ 30) (h1 : 1 ≤ h) (h10 : h ≤ 10) : num (gain (st d bad h) 40) 60466176 = num (gain (outS d bad h h) 41) (6 ^ h) ∧ den (gain (st d bad h) 40) 60466176 = den (gain (outS d bad h h) 41) (6 ^ h) := by
  refine cut10 h10 ?_
  rw [gain_st bad hd h1 h10]
  have e : gain (outS d bad h h) 41 = gain (outS d bad h h) 40 := by
    show gain (outS d bad h h) 40 + 40 * outS d bad h h 40 = _
    rw [outS_far bad h30 (by omega)]
    rfl
  rw [e]
theorem gain_le {f : Nat → Nat} {B : Nat} (hf : ∀ t, f t ≤ B) : ∀ n, n ≤ 41 → gain f n ≤ n * (41 * B)
  | 0, _ => Nat.zero_le _
  | n + 1, hn => by
    have ih := gain_le hf n (by omega)
    have h1 : n * f n ≤ 41 * B := Nat.mul_le_mul (by omega) (hf n)
    have e : (n + 1) * (41 * B) = n * (41 * B) + 41 * B := by rw [Nat.add_mul, Nat.one_mul]
    show gain f n + n * f n ≤ _
    omega

end HoldM
end Go.Proofs.Ytcffglnfdnanhaa
