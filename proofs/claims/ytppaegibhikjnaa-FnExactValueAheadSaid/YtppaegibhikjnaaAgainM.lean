/-
  Values of rolls that are rolled again, without any program.
-/
import Derived.WalkKit
namespace Go.Proofs.Ytppaegibhikjnaa
namespace AgainM

/-- The place of a die in the outcome with a number, and the number with this place at 0. -/
def stp (n i : Nat) : Nat := 6 ^ (n - 1 - i)
def digit (n N i : Nat) : Nat := N / stp n i % 6
def base (n N i : Nat) : Nat := N - digit n N i * stp n i
theorem stp_pos (n i : Nat) : 1 ≤ stp n i := Nat.one_le_pow _ _ (by omega)
theorem digit_lt (n N i : Nat) : digit n N i < 6 := Nat.mod_lt _ (by omega)
theorem digit_le (n N i : Nat) : digit n N i * stp n i ≤ N := by
  unfold digit
  have h1 : N / stp n i % 6 ≤ N / stp n i := Nat.mod_le _ _
  have h2 := Nat.mul_le_mul_right (stp n i) h1
  have h3 := Nat.div_mul_le_self N (stp n i)
  omega
theorem stp_up {n i : Nat} (h : i < n) : 6 ^ (i) * (stp n i * 6) = 6 ^ n := by
  unfold stp
  rw [← Nat.pow_succ, ← Nat.pow_add]
  congr 1
  omega
/-- With any place of one die the number stays one of an outcome. -/
theorem put_lt {n N i k : Nat} (hN : N < 6 ^ n) (hi : i < n) (hk : k < 6) : base n N i + k * stp n i < 6 ^ n := by
  have hs := stp_pos n i
  have hu := stp_up hi
  unfold base digit
  generalize stp n i = s at *
  have h1 := Nat.div_add_mod N s
  have h2 := Nat.mod_lt N hs
  have h3 := Nat.div_add_mod (N / s) 6
  generalize N / s / 6 = q at *
  generalize N / s % 6 = d at *
  generalize N % s = r at *
  have h4 : N = q * (s * 6) + d * s + r := by rw [← h1, ← h3]; grind
  have h5 : q < 6 ^ i := by
    apply Nat.lt_of_not_le
    intro h
    have := Nat.mul_le_mul_right (s * 6) h
    rw [hu] at this
    omega
  have h6 := Nat.mul_le_mul_right (s * 6) (show q + 1 ≤ 6 ^ i by omega)
  rw [hu, Nat.add_mul] at h6
  have h7 : k * s ≤ 5 * s := Nat.mul_le_mul_right s (by omega)
  omega

/-- Sums of the first numbers of a list. -/
def psum (f : Nat → Int) : Nat → Int
  | 0 => 0
  | k + 1 => psum f k + f k
theorem psum_congr {f g : Nat → Int} : ∀ k, (∀ j, j < k → f j = g j) → psum f k = psum g k
  | 0, _ => rfl
  | k + 1, h => by
    show psum f k + f k = psum g k + g k
    rw [psum_congr k (fun j hj => h j (by omega)), h k (by omega)]
theorem psum_bound {f : Nat → Int} {B : Nat} : ∀ k, (∀ j, j < k → 0 ≤ f j ∧ f j ≤ B) → 0 ≤ psum f k ∧ psum f k ≤ (k * B : Nat)
  | 0, _ => by simp [psum]
  | k + 1, h => by
    have h1 := psum_bound k (fun j hj => h j (by omega))
    have h2 := h k (by omega)
    have h3 : (k + 1) * B = k * B + B := by rw [Nat.add_mul, Nat.one_mul]
    show 0 ≤ psum f k + f k ∧ psum f k + f k ≤ _
    omega

/-- Whether a die is in a set: 1 or 0. -/
def bit (s i : Nat) : Nat := s / 2 ^ i % 2
/-- What all is worth if die i is rolled again, if it is in the set; a die that is kept counts six times. -/
def one (n s : Nat) (V : Nat → Int) (i : Nat) : Nat → Int := fun N =>
  if bit s i = 0 then 6 * V N else psum (fun k => V (base n N i + k * stp n i)) 6
/-- The first i dice of a set are rolled again. -/
def sums (n s : Nat) (V : Nat → Int) : Nat → Nat → Int
  | 0 => V
  | i + 1 => one n s (sums n s V i) i
def within (n : Nat) (B : Nat) (V : Nat → Int) : Prop := ∀ N, N < 6 ^ n → 0 ≤ V N ∧ V N ≤ (B : Int)
theorem within_one {n s B i : Nat} {V : Nat → Int} (hi : i < n) (h : within n B V) : within n (6 * B) (one n s V i) := by
  intro N hN
  unfold one
  split
  · have := h N hN
    push_cast
    omega
  · exact psum_bound 6 fun k hk => h _ (put_lt hN hi hk)
theorem within_sums {n s B : Nat} {V : Nat → Int} (h : within n B V) : ∀ i, i ≤ n → within n (6 ^ i * B) (sums n s V i)
  | 0, _ => by
    have e : 6 ^ 0 * B = B := by simp
    rw [e]
    exact h
  | i + 1, hi => by
    have := within_one (s := s) (show i < n by omega) (within_sums (s := s) h i (by omega))
    rwa [← Nat.mul_assoc, Nat.mul_comm 6, ← Nat.pow_succ] at this
theorem one_congr {n s i N : Nat} {V U : Nat → Int} (hi : i < n) (hN : N < 6 ^ n) (h : ∀ N, N < 6 ^ n → V N = U N) : one n s V i N = one n s U i N := by
  unfold one
  split
  · rw [h N hN]
  · exact psum_congr 6 fun k hk => h _ (put_lt hN hi hk)
theorem sums_congr {n s : Nat} {V U : Nat → Int} (h : ∀ N, N < 6 ^ n → V N = U N) : ∀ i, i ≤ n → ∀ N, N < 6 ^ n → sums n s V i N = sums n s U i N
  | 0, _, N, hN => h N hN
  | i + 1, hi, N, hN => one_congr (by omega) hN (sums_congr h i (by omega))

/-- The first place of the greatest of the first n numbers, and this number. -/
def top (F : Nat → Int) : Nat → Nat × Int
  | 0 => (0, -1)
  | n + 1 => if (top F n).2 < F n then (n, F n) else top F n
theorem top_congr {F G : Nat → Int} : ∀ k, (∀ j, j < k → F j = G j) → top F k = top G k
  | 0, _ => rfl
  | k + 1, h => by
    show (if (top F k).2 < F k then (k, F k) else top F k) = if (top G k).2 < G k then (k, G k) else top G k
    rw [top_congr k (fun j hj => h j (by omega)), h k (by omega)]
theorem top_bound {F : Nat → Int} {B : Nat} : ∀ k, (∀ j, j < k → 0 ≤ F j ∧ F j ≤ (B : Int)) → (top F k).2 ≤ B ∧ -1 ≤ (top F k).2 ∧ (0 < k → 0 ≤ (top F k).2 ∧ (top F k).1 < k)
  | 0, _ => ⟨by show (-1 : Int) ≤ _; omega, Int.le_refl _, fun h => by omega⟩
  | k + 1, h => by
    obtain ⟨h1, h2, h3⟩ := top_bound k (fun j hj => h j (by omega))
    have h4 := h k (by omega)
    show (if (top F k).2 < F k then (k, F k) else top F k).2 ≤ _ ∧ -1 ≤ (if (top F k).2 < F k then (k, F k) else top F k).2 ∧ (0 < k + 1 → 0 ≤ (if (top F k).2 < F k then (k, F k) else top F k).2 ∧ (if (top F k).2 < F k then (k, F k) else top F k).1 < k + 1)
    split
    · exact ⟨h4.2, by show -1 ≤ F k; omega, fun _ => ⟨h4.1, by show k < k + 1; omega⟩⟩
    · rcases Nat.eq_zero_or_pos k with rfl | hk
      · have : (top F 0).2 = -1 := rfl
        omega
      · exact ⟨h1, h2, fun _ => ⟨(h3 hk).1, by have := (h3 hk).2; omega⟩⟩

/-- What a roll is worth with each set rolled again, and the values with r rerolls left. -/
def worth (n : Nat) (V : Nat → Int) (N : Nat) : Nat → Int := fun s => sums n s V n N
def best (n : Nat) (V : Nat → Int) (N : Nat) : Int := (top (worth n V N) (2 ^ n)).2
def plan (n : Nat) (V : Nat → Int) (N : Nat) : Nat := (top (worth n V N) (2 ^ n)).1
def values (n : Nat) (S : Nat → Int) : Nat → Nat → Int
  | 0 => S
  | r + 1 => best n (values n S r)
theorem two_pos (n : Nat) : 0 < 2 ^ n := Nat.pos_of_ne_zero (by simp)
theorem within_worth {n B : Nat} {V : Nat → Int} (h : within n B V) {N : Nat} (hN : N < 6 ^ n) (s : Nat) : 0 ≤ worth n V N s ∧ worth n V N s ≤ ((6 ^ n * B : Nat) : Int) :=
  within_sums h n (Nat.le_refl _) N hN
theorem within_best {n B : Nat} {V : Nat → Int} (h : within n B V) : within n (6 ^ n * B) (best n V) := fun N hN => by
  obtain ⟨h1, _, h3⟩ := top_bound (F := worth n V N) (2 ^ n) (fun s _ => within_worth h hN s)
  exact ⟨(h3 (two_pos n)).1, h1⟩
theorem plan_lt {n B : Nat} {V : Nat → Int} (h : within n B V) {N : Nat} (hN : N < 6 ^ n) : plan n V N < 2 ^ n :=
  ((top_bound (F := worth n V N) (2 ^ n) (fun s _ => within_worth h hN s)).2.2 (two_pos n)).2
theorem within_values {n B : Nat} {S : Nat → Int} (h : within n B S) : ∀ r, within n (6 ^ (n * r) * B) (values n S r)
  | 0 => by
    have e : 6 ^ (n * 0) * B = B := by simp
    rw [e]
    exact h
  | r + 1 => by
    have := within_best (within_values h r)
    rwa [← Nat.mul_assoc, ← Nat.pow_add, show n + n * r = n * (r + 1) by rw [Nat.mul_add]; omega] at this
theorem worth_congr {n N : Nat} {V U : Nat → Int} (hN : N < 6 ^ n) (h : ∀ N, N < 6 ^ n → V N = U N) (s : Nat) : worth n V N s = worth n U N s := sums_congr h n (Nat.le_refl _) N hN
theorem best_congr {n N : Nat} {V U : Nat → Int} (hN : N < 6 ^ n) (h : ∀ N, N < 6 ^ n → V N = U N) : best n V N = best n U N := by
  unfold best
  rw [top_congr (G := worth n U N) (2 ^ n) (fun s _ => worth_congr hN h s)]

/-- Bounds for three dice and two rerolls. -/
theorem pow_three {n : Nat} (h : n ≤ 3) : 6 ^ n ≤ 216 ∧ 1 ≤ 6 ^ n ∧ 2 ^ n ≤ 8 ∧ 1 ≤ 2 ^ n := by
  obtain rfl | rfl | rfl | rfl : n = 0 ∨ n = 1 ∨ n = 2 ∨ n = 3 := by omega
  all_goals decide
theorem pow_six {n r : Nat} (h : n ≤ 3) (hr : r ≤ 2) : 6 ^ (n * r) ≤ 46656 := by
  have : n * r ≤ 3 * 2 := Nat.mul_le_mul h hr
  exact Nat.le_trans (Nat.pow_le_pow_right (by omega) this) (by decide)

/-- The places among the first k at which a number stands. -/
def spots (F : Nat → Int) (m : Int) (k : Nat) : List Nat := (List.range k).filter fun j => F j == m
theorem spots_succ (F : Nat → Int) (m : Int) (k : Nat) : spots F m (k + 1) = if F k = m then spots F m k ++ [k] else spots F m k := by
  unfold spots
  rw [List.range_succ, List.filter_append]
  by_cases h : F k = m
  · simp [h]
  · simp [h]
theorem spots_len (F : Nat → Int) (m : Int) (k : Nat) : (spots F m k).length ≤ k := by
  have := List.length_filter_le (fun j => F j == m) (List.range k)
  simpa [spots] using this
theorem top_le {F : Nat → Int} : ∀ k j, j < k → F j ≤ (top F k).2
  | 0, j, h => by omega
  | k + 1, j, h => by
    show F j ≤ (if (top F k).2 < F k then (k, F k) else top F k).2
    split
    · by_cases hj : j = k
      · subst hj; exact Int.le_refl _
      · have := top_le (F := F) k j (by omega)
        show F j ≤ F k
        omega
    · by_cases hj : j = k
      · subst hj; omega
      · exact top_le (F := F) k j (by omega)
/-- The places of a number that is greater than all ahead: none yet. -/
theorem spots_new {F : Nat → Int} {k : Nat} (h : (top F k).2 < F k) : spots F (F k) k = [] := by
  unfold spots
  rw [List.filter_eq_nil_iff]
  intro j hj
  have := top_le (F := F) k j (by simpa using hj)
  simp
  omega

end AgainM
end Go.Proofs.Ytppaegibhikjnaa
