/-
  Two dice compared, face by face, as functions of numbers; without any program.
-/
import Derived.Test.YtagieilahejobaaArr
namespace Go.Proofs.Ytagieilahejobaa
open Go.RowKit
namespace Duel
open Dice Arr

/-- Three numbers as a value. -/
def tri (f : Nat → Int) : Value := .agg #[.int .i64 (f 0), .int .i64 (f 1), .int .i64 (f 2)]
theorem tri_vals (f : Nat → Int) : Value.agg (vals 3 f).toArray = tri f := rfl
theorem tri_congr {f g : Nat → Int} (h : ∀ k, k < 3 → f k = g k) : tri f = tri g := by
  unfold tri
  rw [h 0 (by omega), h 1 (by omega), h 2 (by omega)]
/-- Where a pair of faces is counted: greater, the same, less. -/
def cls (a b : Int) : Nat := if b < a then 0 else if a = b then 1 else 2
theorem cls_lt (a b : Int) : cls a b < 3 := by unfold cls; (repeat' split) <;> omega
/-- The counts of the first m pairs, the second face the quicker one. -/
def cw (x y : Nat → Int) : Nat → Nat → Int
  | 0 => fun _ => 0
  | m + 1 => put (cw x y m) (cls (x (m / 6)) (y (m % 6))) (cw x y m (cls (x (m / 6)) (y (m % 6))) + 1)
theorem cw_bound (x y : Nat → Int) : ∀ m j, 0 ≤ cw x y m j ∧ cw x y m j ≤ m := by
  intro m
  induction m with
  | zero => intro j; simp [cw]
  | succ m ih =>
    intro j
    have h1 := ih j
    have h2 := ih (cls (x (m / 6)) (y (m % 6)))
    unfold cw put
    split <;> omega
theorem cw_at (x y : Nat → Int) (i : Nat) {k : Nat} (hk : k < 6) : cw x y (6 * i + (k + 1)) = put (cw x y (6 * i + k)) (cls (x i) (y k)) (cw x y (6 * i + k) (cls (x i) (y k)) + 1) := by
  show cw x y ((6 * i + k) + 1) = _
  have h1 : (6 * i + k) / 6 = i := by omega
  have h2 : (6 * i + k) % 6 = k := by omega
  rw [cw, h1, h2]
/-- One pair's part of a count. -/
def ind (j : Nat) (a b : Int) : Int := if cls a b = j then 1 else 0
theorem cw_succ (x y : Nat → Int) (m j : Nat) : cw x y (m + 1) j = cw x y m j + ind j (x (m / 6)) (y (m % 6)) := by
  unfold ind
  rw [cw]
  unfold put
  by_cases h : j = cls (x (m / 6)) (y (m % 6))
  · subst h; simp
  · rw [if_neg h, if_neg (fun e => h e.symm)]
    omega
theorem ind_turn (a b : Int) : ind 0 a b = ind 2 b a ∧ ind 1 a b = ind 1 b a ∧ ind 2 a b = ind 0 b a := by
  unfold ind cls
  refine ⟨?_, ?_, ?_⟩
  all_goals (repeat' split) <;> first | rfl | omega
/-- A count of pairs, turned about: the sum of a table by rows and by columns. -/
def sq (g : Nat → Nat → Int) : Nat → Int
  | 0 => 0
  | m + 1 => sq g m + g (m / 6) (m % 6)
theorem cw_sq (x y : Nat → Int) (j m : Nat) : cw x y m j = sq (fun i k => ind j (x i) (y k)) m := by
  induction m with
  | zero => rfl
  | succ m ih => rw [cw_succ, ih]; rfl
theorem sq_turn (g : Nat → Nat → Int) : sq g 36 = sq (fun i k => g k i) 36 := by
  simp only [sq, Nat.reduceDiv, Nat.reduceMod, Nat.zero_div, Nat.zero_mod]
  omega
theorem cw_turn (x y : Nat → Int) : cw x y 36 0 = cw y x 36 2 ∧ cw x y 36 1 = cw y x 36 1 ∧ cw x y 36 2 = cw y x 36 0 := by
  simp only [cw_sq]
  refine ⟨?_, ?_, ?_⟩
  · rw [sq_turn]; congr 1; funext i k; exact (ind_turn _ _).1
  · rw [sq_turn]; congr 1; funext i k; exact (ind_turn _ _).2.1
  · rw [sq_turn]; congr 1; funext i k; exact (ind_turn _ _).2.2
/-- The second key's ways. -/
def back (f : Nat → Int) : Nat → Int := fun j => f (2 - j)
theorem back_cw (x y : Nat → Int) : ∀ j, j < 3 → back (cw x y 36) j = cw y x 36 j := by
  intro j hj
  obtain ⟨h0, h1, h2⟩ := cw_turn x y
  obtain rfl | rfl | rfl : j = 0 ∨ j = 1 ∨ j = 2 := by omega
  · exact h2
  · exact h1
  · exact h0
theorem cw_congr {x x' y y' : Nat → Int} (hx : ∀ k, k < 6 → x k = x' k) (hy : ∀ k, k < 6 → y k = y' k) : ∀ m, m ≤ 36 → cw x y m = cw x' y' m := by
  intro m
  induction m with
  | zero => intro _; rfl
  | succ m ih =>
    intro hm
    rw [cw, cw, ih (by omega), hx (m / 6) (by omega), hy (m % 6) (by omega)]
/-- One die beats another one. -/
def beats (x y : Nat → Int) : Bool := decide (cw x y 36 2 < cw x y 36 0)
theorem At.new3 (w : World) (t : TypeId) {b : Nat} (hb : b = w.heap.size) : At (w.alloc (.cells #[.int .i64 0, .int .i64 0, .int .i64 0] t)) b 3 (fun _ => 0) := by
  subst hb
  exact At.new w _ t 3 _ fun k hk => by
    obtain rfl | rfl | rfl : k = 0 ∨ k = 1 ∨ k = 2 := by omega
    all_goals rfl
theorem three {w : World} {b : Nat} {f : Nat → Int} (h : At w b 3 f) : w.cell? ⟨b, 0, none⟩ = some (.int .i64 (f 0)) ∧ w.cell? ⟨b, 1, none⟩ = some (.int .i64 (f 1)) ∧ w.cell? ⟨b, 2, none⟩ = some (.int .i64 (f 2)) :=
  ⟨h.cell 0 (by omega), h.cell 1 (by omega), h.cell 2 (by omega)⟩
theorem free3 {w : World} {b : Nat} {f : Nat → Int} (h : At w b 3 f) : w.frozen? ⟨b, 0, none⟩ = false ∧ w.frozen? ⟨b, 1, none⟩ = false ∧ w.frozen? ⟨b, 2, none⟩ = false :=
  ⟨h.free 0, h.free 1, h.free 2⟩

end Duel
end Go.Proofs.Ytagieilahejobaa
