/-
  Counting what comes with n rolls, by states: whole numbers; without any program.
-/
import Derived.WalkKit
namespace Go.Proofs.Ytdodokeebmdceaa
namespace ChM

/-- The sum over the first S states that are told. -/
def ps (p : Nat → Bool) (G : Nat → Nat) : Nat → Nat
  | 0 => 0
  | s + 1 => ps p G s + if p s then G s else 0
theorem ps_congr {p p' : Nat → Bool} {G G' : Nat → Nat} : ∀ {S : Nat}, (∀ s, s < S → (if p s then G s else 0) = if p' s then G' s else 0) → ps p G S = ps p' G' S
  | 0, _ => rfl
  | S + 1, h => by
    show ps p G S + _ = ps p' G' S + _
    rw [ps_congr fun s hs => h s (by omega), h S (by omega)]
theorem ps_none {p : Nat → Bool} {G : Nat → Nat} : ∀ {S : Nat}, (∀ s, s < S → p s = true → G s = 0) → ps p G S = 0
  | 0, _ => rfl
  | S + 1, h => by
    show ps p G S + (if p S then G S else 0) = 0
    rw [ps_none fun s hs => h s (by omega)]
    cases hp : p S
    · rfl
    · rw [if_pos rfl, h S (by omega) hp]
theorem ps_le {p : Nat → Bool} {G G' : Nat → Nat} : ∀ {S : Nat}, (∀ s, s < S → G s ≤ G' s) → ps p G S ≤ ps (fun _ => true) G' S
  | 0, _ => Nat.le_refl _
  | S + 1, h => by
    have ih := ps_le (p := p) (G := G) (G' := G') (S := S) fun s hs => h s (by omega)
    have h1 := h S (by omega)
    show ps p G S + (if p S then G S else 0) ≤ ps (fun _ => true) G' S + (if true = true then G' S else 0)
    rw [if_pos rfl]
    split <;> omega
theorem ps_one {p p' : Nat → Bool} {G : Nat → Nat} {x : Nat} (h0 : p x = false) (h1 : p' x = true) (ho : ∀ s, s ≠ x → p' s = p s) : ∀ {S : Nat}, x < S → ps p' G S = ps p G S + G x
  | 0, h => by omega
  | S + 1, h => by
    show ps p' G S + _ = ps p G S + _ + G x
    by_cases e : x = S
    · subst e
      rw [h0, h1, if_pos rfl, ps_congr (p := p') (p' := p) (G := G) (G' := G) fun s hs => by rw [ho s (by omega)]]
      simp
    · rw [ps_one h0 h1 ho (by omega), ho S (fun q => e q.symm)]
      omega
theorem ps_mul (p : Nat → Bool) (G : Nat → Nat) (c : Nat) : ∀ S, ps p (fun s => G s * c) S = ps p G S * c
  | 0 => by simp [ps]
  | S + 1 => by
    show ps p _ S + (if p S then G S * c else 0) = (ps p G S + if p S then G S else 0) * c
    rw [ps_mul p G c S, Nat.add_mul]
    split <;> simp
theorem ps_add (p : Nat → Bool) (G G' : Nat → Nat) : ∀ S, ps p (fun s => G s + G' s) S = ps p G S + ps p G' S
  | 0 => rfl
  | S + 1 => by
    show ps p _ S + (if p S then G S + G' S else 0) = ps p G S + (if p S then G S else 0) + (ps p G' S + if p S then G' S else 0)
    rw [ps_add p G G' S]
    split <;> omega
theorem ps_zero (p : Nat → Bool) : ∀ S, ps p (fun _ => 0) S = 0
  | 0 => rfl
  | S + 1 => by show ps p _ S + _ = 0; rw [ps_zero p S]; split <;> rfl
theorem ps_swap (G : Nat → Nat → Nat) : ∀ T S, ps (fun _ => true) (fun t => ps (fun _ => true) (fun s => G s t) S) T = ps (fun _ => true) (fun s => ps (fun _ => true) (fun t => G s t) T) S
  | 0, S => (ps_zero _ S).symm
  | T + 1, S => by
    show ps (fun _ => true) _ T + (if true = true then ps (fun _ => true) (fun s => G s T) S else 0) = ps (fun _ => true) (fun s => ps (fun _ => true) (fun t => G s t) T + if true = true then G s T else 0) S
    rw [ps_swap G T S, if_pos rfl, ← ps_add]
    rfl
/-- How many of the first k faces end it, and lead to a state. -/
def hc (hit : Nat → Nat → Bool) (s : Nat) : Nat → Nat
  | 0 => 0
  | k + 1 => hc hit s k + if hit s k then 1 else 0
def tc (hit : Nat → Nat → Bool) (to : Nat → Nat → Nat) (s t : Nat) : Nat → Nat
  | 0 => 0
  | k + 1 => tc hit to s t k + if hit s k = false ∧ to s k = t then 1 else 0
theorem tc_one {hit : Nat → Nat → Bool} {to : Nat → Nat → Nat} {s k : Nat} (hh : hit s k = false) : ∀ {S : Nat}, to s k < S → ps (fun _ => true) (fun t => if hit s k = false ∧ to s k = t then 1 else 0) S = 1
  | 0, h => by omega
  | S + 1, h => by
    show ps (fun _ => true) (fun t => if hit s k = false ∧ to s k = t then 1 else 0) S + (if true = true then (if hit s k = false ∧ to s k = S then 1 else 0) else 0) = 1
    rw [if_pos (rfl : true = true)]
    by_cases e : to s k = S
    · rw [if_pos ⟨hh, e⟩, ps_none fun t ht _ => if_neg fun q => by omega]
    · rw [if_neg fun q => e q.2, tc_one hh (by omega)]
theorem all_faces {hit : Nat → Nat → Bool} {to : Nat → Nat → Nat} {s S : Nat} (hto : ∀ k, hit s k = false → to s k < S) : ∀ k, hc hit s k + ps (fun _ => true) (fun t => tc hit to s t k) S = k
  | 0 => by show 0 + ps _ (fun _ => 0) S = 0; rw [ps_zero]
  | k + 1 => by
    have ih := all_faces (hit := hit) (to := to) hto k
    have e : ps (fun _ => true) (fun t => tc hit to s t (k + 1)) S = ps (fun _ => true) (fun t => tc hit to s t k) S + ps (fun _ => true) (fun t => if hit s k = false ∧ to s k = t then 1 else 0) S := ps_add _ _ _ S
    rw [e]
    show hc hit s k + (if hit s k then 1 else 0) + _ = k + 1
    obtain hh | hh : hit s k = false ∨ hit s k = true := by cases hit s k <;> simp
    · rw [tc_one hh (hto k hh), if_neg (by rw [hh]; decide)]
      omega
    · rw [ps_none (G := fun t => if hit s k = false ∧ to s k = t then 1 else 0) fun t _ _ => if_neg fun q => (by rw [hh] at q; exact Bool.noConfusion q.1), if_pos hh]
      omega
/-- The ways in each state, and those that have come, roll by roll. -/
def wy (hit : Nat → Nat → Bool) (to : Nat → Nat → Nat) (S : Nat) : Nat → Nat → Nat
  | 0, s => if s = 0 then 1 else 0
  | i + 1, t => ps (fun _ => true) (fun s => wy hit to S i s * tc hit to s t 6) S
def cm (hit : Nat → Nat → Bool) (to : Nat → Nat → Nat) (S : Nat) : Nat → Nat
  | 0 => 0
  | i + 1 => 6 * cm hit to S i + ps (fun _ => true) (fun s => wy hit to S i s * hc hit s 6) S
theorem start_one {S : Nat} (h : 0 < S) : ps (fun _ => true) (fun s => if s = 0 then 1 else 0) S = 1 := by
  induction S with
  | zero => omega
  | succ S ih =>
    show ps (fun _ => true) (fun s => if s = 0 then 1 else 0) S + (if true = true then (if S = 0 then 1 else 0) else 0) = 1
    rw [if_pos (rfl : true = true)]
    by_cases e : S = 0
    · subst e; rfl
    · rw [ih (by omega), if_neg e]
theorem whole {hit : Nat → Nat → Bool} {to : Nat → Nat → Nat} {S : Nat} (hS : 0 < S) (hto : ∀ s k, s < S → hit s k = false → to s k < S) : ∀ i, cm hit to S i + ps (fun _ => true) (wy hit to S i) S = 6 ^ i
  | 0 => by show 0 + ps _ (fun s => if s = 0 then 1 else 0) S = 1; rw [start_one hS]
  | i + 1 => by
    have ih := whole hS hto i
    have e1 : ps (fun _ => true) (wy hit to S (i + 1)) S = ps (fun _ => true) (fun s => ps (fun _ => true) (fun t => wy hit to S i s * tc hit to s t 6) S) S := ps_swap (fun s t => wy hit to S i s * tc hit to s t 6) S S
    have e2 : ps (fun _ => true) (fun s => wy hit to S i s * hc hit s 6) S + ps (fun _ => true) (fun s => ps (fun _ => true) (fun t => wy hit to S i s * tc hit to s t 6) S) S = ps (fun _ => true) (wy hit to S i) S * 6 := by
      rw [← ps_add, ← ps_mul]
      refine ps_congr fun s hs => ?_
      rw [if_pos rfl, if_pos rfl]
      have h6 := all_faces (hit := hit) (to := to) (s := s) (S := S) (fun k hk => hto s k hs hk) 6
      have e3 : ps (fun _ => true) (fun t => wy hit to S i s * tc hit to s t 6) S = wy hit to S i s * ps (fun _ => true) (fun t => tc hit to s t 6) S := by
        have := ps_mul (fun _ => true) (fun t => tc hit to s t 6) (wy hit to S i s) S
        rw [Nat.mul_comm (wy hit to S i s) (ps _ _ S), ← this]
        exact ps_congr fun t _ => by rw [if_pos rfl, if_pos rfl, Nat.mul_comm]
      rw [e3, ← Nat.mul_add, h6]
    show 6 * cm hit to S i + ps (fun _ => true) (fun s => wy hit to S i s * hc hit s 6) S + _ = 6 ^ (i + 1)
    rw [e1, Nat.add_assoc, e2, Nat.pow_succ, ← ih]
    omega
end ChM
end Go.Proofs.Ytdodokeebmdceaa
