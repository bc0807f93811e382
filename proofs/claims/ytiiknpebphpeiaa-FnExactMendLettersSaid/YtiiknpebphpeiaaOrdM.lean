/-
  The order of a roll, the list of orders, and how often they come; without any program.
-/
import Derived.Test.YtiiknpebphpeiaaRows
import Derived.Test.YtiiknpebphpeiaaArr
import Derived.WalkKit
import Derived.WalkLawsBesides
import Derived.WalkSpells
import Derived.ProofKit
import Derived.OpenShut
import Derived.Deep.RegionWith
import Derived.Deep.QuietTactic
import Derived.BigQuiet
namespace Go.Proofs.Ytiiknpebphpeiaa
open Go.ChangeShapes Go.WideShapes Go.ChangeAt Go.RowKit
open Go.ChangeMaps (open_string shut_string)

namespace OrdM
open Dice Arr


/-- How many of the first k have a greater face than i. -/
def rk (f : Nat → Int) (i : Nat) : Nat → Nat
  | 0 => 0
  | k + 1 => if f i < f k then rk f i k + 1 else rk f i k
/-- Whether one of the first k, but for i, has the face of i. -/
def eqb (f : Nat → Int) (i : Nat) : Nat → Bool
  | 0 => false
  | k + 1 => eqb f i k || (decide (k ≠ i) && decide (f k = f i))
def tieb (f : Nat → Int) (n : Nat) : Nat → Bool
  | 0 => false
  | i + 1 => tieb f n i || eqb f i n
/-- The places behind i players. -/
def pl (f : Nat → Int) (n : Nat) : Nat → Nat → Int
  | 0 => fun _ => -1
  | i + 1 => put (pl f n i) (rk f i n) i
theorem rk_le (f : Nat → Int) (i : Nat) : ∀ k, rk f i k ≤ k
  | 0 => Nat.le_refl _
  | k + 1 => by
    have := rk_le f i k
    show (if f i < f k then rk f i k + 1 else rk f i k) ≤ k + 1
    by_cases h : f i < f k
    · rw [if_pos h]; omega
    · rw [if_neg h]; omega
theorem rk_up {f : Nat → Int} {i k : Nat} (h : f i < f k) : rk f i (k + 1) = rk f i k + 1 := if_pos h
theorem rk_stay {f : Nat → Int} {i k : Nat} (h : ¬ f i < f k) : rk f i (k + 1) = rk f i k := if_neg h
theorem rk_lt {f : Nat → Int} {i : Nat} : ∀ {n : Nat}, i < n → rk f i n < n
  | 0, h => by omega
  | n + 1, h => by
    by_cases e : i = n
    · subst e
      rw [rk_stay (Int.lt_irrefl _)]
      have := rk_le f i i
      omega
    · have := rk_lt (f := f) (show i < n by omega)
      by_cases h2 : f i < f n
      · rw [rk_up h2]; omega
      · rw [rk_stay h2]; omega
theorem eqb_mono {f : Nat → Int} {i k : Nat} (h : eqb f i k = true) : ∀ {n : Nat}, k ≤ n → eqb f i n = true
  | 0, hn => by obtain rfl : k = 0 := by omega
                exact h
  | n + 1, hn => by
    by_cases e : k = n + 1
    · subst e; exact h
    · show (eqb f i n || _) = true
      rw [eqb_mono h (show k ≤ n by omega), Bool.true_or]
theorem eqb_hit {f : Nat → Int} {i k n : Nat} (hk : k < n) (hi : k ≠ i) (he : f k = f i) : eqb f i n = true := by
  refine eqb_mono (k := k + 1) ?_ hk
  show (eqb f i k || (decide (k ≠ i) && decide (f k = f i))) = true
  rw [decide_eq_true hi, decide_eq_true he]
  simp
theorem eqb_miss {f : Nat → Int} {i k : Nat} (h : ¬ (k ≠ i ∧ f k = f i)) : eqb f i (k + 1) = eqb f i k := by
  show (eqb f i k || (decide (k ≠ i) && decide (f k = f i))) = eqb f i k
  by_cases hi : k ≠ i
  · rw [decide_eq_false (fun e => h ⟨hi, e⟩)]; simp
  · rw [decide_eq_false hi]; simp
theorem eqb_of {f : Nat → Int} {i : Nat} : ∀ {n : Nat}, eqb f i n = true → ∃ k, k < n ∧ k ≠ i ∧ f k = f i
  | 0, h => by cases h
  | n + 1, h => by
    by_cases hp : n ≠ i ∧ f n = f i
    · exact ⟨n, by omega, hp.1, hp.2⟩
    · rw [eqb_miss hp] at h
      obtain ⟨k, h1, h2, h3⟩ := eqb_of h
      exact ⟨k, by omega, h2, h3⟩
theorem tieb_mono {f : Nat → Int} {n i : Nat} (h : tieb f n i = true) : ∀ {m : Nat}, i ≤ m → tieb f n m = true
  | 0, hn => by obtain rfl : i = 0 := by omega
                exact h
  | m + 1, hn => by
    by_cases e : i = m + 1
    · subst e; exact h
    · show (tieb f n m || _) = true
      rw [tieb_mono h (show i ≤ m by omega), Bool.true_or]
theorem tieb_hit {f : Nat → Int} {n i : Nat} (hi : i < n) (h : eqb f i n = true) : tieb f n n = true := by
  refine tieb_mono (i := i + 1) ?_ hi
  show (tieb f n i || eqb f i n) = true
  rw [h, Bool.or_true]
theorem tieb_next {f : Nat → Int} {n i : Nat} (h : tieb f n i = false) (h2 : eqb f i n = false) : tieb f n (i + 1) = false := by
  show (tieb f n i || eqb f i n) = false
  rw [h, h2]; rfl
theorem tieb_no {f : Nat → Int} {n : Nat} (h : tieb f n n = false) {i k : Nat} (hi : i < n) (hk : k < n) (hne : k ≠ i) : f k ≠ f i := by
  intro e
  rw [tieb_hit hi (eqb_hit hk hne e)] at h
  cases h
/-- What the roll gives. -/
def okb (f : Nat → Int) (n : Nat) : Bool := !tieb f n n
def ordF (f : Nat → Int) (n : Nat) : Nat → Int := if tieb f n n then fun _ => 0 else pl f n n
theorem ordF_yes {f : Nat → Int} {n : Nat} (h : tieb f n n = true) : ordF f n = fun _ => 0 := if_pos h
theorem ordF_no {f : Nat → Int} {n : Nat} (h : tieb f n n = false) : ordF f n = pl f n n := by unfold ordF; rw [h]; rfl

/-- Four numbers. -/
abbrev Q4 := Int × Int × Int × Int
def q4 (f : Nat → Int) : Q4 := (f 0, f 1, f 2, f 3)
def qa (q : Q4) : Nat → Int
  | 0 => q.1
  | 1 => q.2.1
  | 2 => q.2.2.1
  | _ => q.2.2.2
theorem qa_q4 (f : Nat → Int) : ∀ j, j < 4 → qa (q4 f) j = f j := by
  intro j hj
  obtain rfl | rfl | rfl | rfl : j = 0 ∨ j = 1 ∨ j = 2 ∨ j = 3 := by omega
  all_goals rfl
theorem q4_qa (q : Q4) : q4 (qa q) = q := rfl
theorem q4_congr {f g : Nat → Int} (h : ∀ j, j < 4 → f j = g j) : q4 f = q4 g := by
  unfold q4
  rw [h 0 (by omega), h 1 (by omega), h 2 (by omega), h 3 (by omega)]
theorem q4_inj {f g : Nat → Int} (h : q4 f = q4 g) : ∀ j, j < 4 → f j = g j := fun j hj => by rw [← qa_q4 f j hj, h, qa_q4 g j hj]

/-- Whether p is at one of the first k places. -/
def hasP (q : Q4) (p : Int) : Nat → Bool
  | 0 => false
  | k + 1 => hasP q p k || decide (qa q k = p)
/-- One order with each of the first k players that it lacks at the place t. -/
def ext (q : Q4) (t : Nat) : Nat → List Q4
  | 0 => []
  | p + 1 => if hasP q p t then ext q t p else ext q t p ++ [q4 (put (qa q) t p)]
def exts (os : List Q4) (n t : Nat) : List Q4 := os.flatMap fun q => ext q t n
/-- The orders behind t places. -/
def ordI (n : Nat) : Nat → List Q4
  | 0 => [(-1, -1, -1, -1)]
  | t + 1 => exts (ordI n t) n t
def ordL (n : Nat) : List Q4 := ordI n n

/-- The order that a number tells, behind t digits, and which players it has. -/
def dgt (n c t : Nat) : Nat := c / n ^ t % n
def codeF (n c : Nat) : Nat → Nat → Int
  | 0 => fun _ => -1
  | t + 1 => put (codeF n c t) (n - 1 - t) (dgt n c t)
def seen (n c : Nat) : Nat → Nat
  | 0 => 0
  | t + 1 => seen n c t ||| 2 ^ dgt n c t
def ordS (n : Nat) : Nat → List Q4
  | 0 => []
  | c + 1 => if seen n c n = 2 ^ n - 1 then ordS n c ++ [q4 (codeF n c n)] else ordS n c
theorem ordS_eq {n : Nat} (h1 : 1 ≤ n) (h4 : n ≤ 4) : ordS n (n ^ n) = ordL n := by
  obtain rfl | rfl | rfl | rfl : n = 1 ∨ n = 2 ∨ n = 3 ∨ n = 4 := by omega
  all_goals decide +kernel
theorem ordI_len {n : Nat} (h1 : 1 ≤ n) (h4 : n ≤ 4) : ∀ t, t ≤ n → (ordI n t).length ≤ 24 ∧ 1 ≤ (ordI n t).length := by
  obtain rfl | rfl | rfl | rfl : n = 1 ∨ n = 2 ∨ n = 3 ∨ n = 4 := by omega
  all_goals decide +kernel
theorem ordL_nodup {n : Nat} (h4 : n ≤ 4) : (ordL n).Nodup := by
  obtain rfl | rfl | rfl | rfl | rfl : n = 0 ∨ n = 1 ∨ n = 2 ∨ n = 3 ∨ n = 4 := by omega
  all_goals decide +kernel
theorem ordL_in {n : Nat} (h4 : n ≤ 4) : ∀ q ∈ ordL n, ∀ j, j < n → 0 ≤ qa q j ∧ qa q j < n := by
  obtain rfl | rfl | rfl | rfl | rfl : n = 0 ∨ n = 1 ∨ n = 2 ∨ n = 3 ∨ n = 4 := by omega
  all_goals decide +kernel
theorem seen_lt (n c : Nat) : ∀ t, seen n c t < 2 ^ n ∨ n = 0
  | 0 => by
    have := Nat.two_pow_pos n
    exact .inl this
  | t + 1 => by
    rcases seen_lt n c t with h | h
    · by_cases h0 : n = 0
      · exact .inr h0
      · refine .inl (Nat.or_lt_two_pow h (Nat.pow_lt_pow_right (by omega) (Nat.mod_lt _ (by omega))))
    · exact .inr h

/-- Without ties the ranks are different, and the order is one of the list. -/
theorem rk_mono {f : Nat → Int} {i k : Nat} (h : f i < f k) : ∀ n, rk f k n ≤ rk f i n
  | 0 => Nat.le_refl _
  | n + 1 => by
    have := rk_mono h n
    by_cases h1 : f k < f n
    · rw [rk_up h1, rk_up (Int.lt_trans h h1)]; omega
    · rw [rk_stay h1]
      by_cases h2 : f i < f n
      · rw [rk_up h2]; omega
      · rw [rk_stay h2]; exact this
theorem rk_less {f : Nat → Int} {i k : Nat} (h : f i < f k) : ∀ {n : Nat}, k < n → rk f k n < rk f i n
  | 0, hn => by omega
  | n + 1, hn => by
    by_cases e : k = n
    · subst e
      rw [rk_up h, rk_stay (Int.lt_irrefl _)]
      have := rk_mono h k
      omega
    · have := rk_less h (show k < n by omega)
      by_cases h1 : f k < f n
      · rw [rk_up h1, rk_up (Int.lt_trans h h1)]; omega
      · rw [rk_stay h1]
        by_cases h2 : f i < f n
        · rw [rk_up h2]; omega
        · rw [rk_stay h2]; exact this
theorem rk_ne {f : Nat → Int} {n : Nat} (h : tieb f n n = false) {i k : Nat} (hi : i < n) (hk : k < n) (hne : k ≠ i) : rk f k n ≠ rk f i n := by
  have := tieb_no h hi hk hne
  rcases Int.lt_or_gt_of_ne this with h1 | h1
  · have := rk_less h1 hi
    omega
  · have := rk_less h1 hk
    omega
theorem perm1 : ∀ a : Fin 1, q4 (put (fun _ => -1) a.val (0 : Nat)) ∈ ordL 1 := by decide +kernel
theorem perm2 : ∀ a b : Fin 2, a ≠ b → q4 (put (put (fun _ => -1) a.val (0 : Nat)) b.val (1 : Nat)) ∈ ordL 2 := by decide +kernel
theorem perm3 : ∀ a b c : Fin 3, a ≠ b → a ≠ c → b ≠ c → q4 (put (put (put (fun _ => -1) a.val (0 : Nat)) b.val (1 : Nat)) c.val (2 : Nat)) ∈ ordL 3 := by decide +kernel
theorem perm4 : ∀ a b c d : Fin 4, a ≠ b → a ≠ c → a ≠ d → b ≠ c → b ≠ d → c ≠ d → q4 (put (put (put (put (fun _ => -1) a.val (0 : Nat)) b.val (1 : Nat)) c.val (2 : Nat)) d.val (3 : Nat)) ∈ ordL 4 := by decide +kernel
theorem pl_mem {f : Nat → Int} {n : Nat} (h1 : 1 ≤ n) (h4 : n ≤ 4) (h : tieb f n n = false) : q4 (pl f n n) ∈ ordL n := by
  have hl := fun i (hi : i < n) => rk_lt (f := f) hi
  have hn := fun i k (hi : i < n) (hk : k < n) (e : k ≠ i) => rk_ne h hi hk e
  obtain rfl | rfl | rfl | rfl : n = 1 ∨ n = 2 ∨ n = 3 ∨ n = 4 := by omega
  · exact perm1 ⟨_, hl 0 (by omega)⟩
  · refine perm2 ⟨_, hl 0 (by omega)⟩ ⟨_, hl 1 (by omega)⟩ ?_
    all_goals
      intro e
      exact hn _ _ (by omega) (by omega) (by omega) (Fin.mk.inj e)
  · refine perm3 ⟨_, hl 0 (by omega)⟩ ⟨_, hl 1 (by omega)⟩ ⟨_, hl 2 (by omega)⟩ ?_ ?_ ?_
    all_goals
      intro e
      exact hn _ _ (by omega) (by omega) (by omega) (Fin.mk.inj e)
  · refine perm4 ⟨_, hl 0 (by omega)⟩ ⟨_, hl 1 (by omega)⟩ ⟨_, hl 2 (by omega)⟩ ⟨_, hl 3 (by omega)⟩ ?_ ?_ ?_ ?_ ?_ ?_
    all_goals
      intro e
      exact hn _ _ (by omega) (by omega) (by omega) (Fin.mk.inj e)

/-- How often an order comes among the first N, and how often none comes. -/
def cnt (g : Nat → Option Q4) : Nat → Q4 → Nat
  | 0, _ => 0
  | N + 1, q => if g N = some q then cnt g N q + 1 else cnt g N q
def nos (g : Nat → Option Q4) : Nat → Nat
  | 0 => 0
  | N + 1 => if g N = none then nos g N + 1 else nos g N
theorem cnt_le (g : Nat → Option Q4) (q : Q4) : ∀ N, cnt g N q ≤ N
  | 0 => Nat.le_refl _
  | N + 1 => by
    have := cnt_le g q N
    show (if g N = some q then cnt g N q + 1 else cnt g N q) ≤ N + 1
    by_cases h : g N = some q
    · rw [if_pos h]; omega
    · rw [if_neg h]; omega
theorem nos_le (g : Nat → Option Q4) : ∀ N, nos g N ≤ N
  | 0 => Nat.le_refl _
  | N + 1 => by
    have := nos_le g N
    show (if g N = none then nos g N + 1 else nos g N) ≤ N + 1
    by_cases h : g N = none
    · rw [if_pos h]; omega
    · rw [if_neg h]; omega
/-- A sum over a list. -/
def sumL (f : Q4 → Nat) : List Q4 → Nat
  | [] => 0
  | q :: L => f q + sumL f L
theorem sumL_congr {f g : Q4 → Nat} : ∀ {L : List Q4}, (∀ q ∈ L, f q = g q) → sumL f L = sumL g L
  | [], _ => rfl
  | q :: L, h => by
    show f q + sumL f L = g q + sumL g L
    rw [h q (by simp), sumL_congr fun x hx => h x (by simp [hx])]
theorem sumL_zero {f : Q4 → Nat} {L : List Q4} (h : ∀ q ∈ L, f q = 0) : sumL f L = 0 := by
  rw [sumL_congr (g := fun _ => 0) h]
  induction L with
  | nil => rfl
  | cons q L ih => show 0 + sumL _ L = 0; rw [ih fun x hx => h x (by simp [hx])]
theorem sumL_add (f g : Q4 → Nat) : ∀ L, sumL (fun q => f q + g q) L = sumL f L + sumL g L
  | [] => rfl
  | q :: L => by
    show f q + g q + sumL _ L = f q + sumL f L + (g q + sumL g L)
    rw [sumL_add f g L]; omega
theorem sumL_append (f : Q4 → Nat) : ∀ L M, sumL f (L ++ M) = sumL f L + sumL f M
  | [], M => by simp [sumL]
  | q :: L, M => by
    show f q + sumL f (L ++ M) = f q + sumL f L + sumL f M
    rw [sumL_append f L M]; omega
theorem sumL_one {x : Q4} : ∀ {L : List Q4}, L.Nodup → x ∈ L → sumL (fun q => if x = q then 1 else 0) L = 1
  | [], _, h => by cases h
  | q :: L, hn, h => by
    rw [List.nodup_cons] at hn
    show (if x = q then 1 else 0) + sumL (fun q => if x = q then 1 else 0) L = 1
    by_cases e : x = q
    · rw [if_pos e, sumL_zero fun y hy => if_neg (fun e2 => hn.1 (by rw [← e, e2]; exact hy))]
    · rw [if_neg e, sumL_one hn.2 (by rcases List.mem_cons.1 h with h | h; exact absurd h e; exact h)]
theorem sumL_cnt {g : Nat → Option Q4} {L : List Q4} (hn : L.Nodup) : ∀ N, (∀ M, M < N → ∀ q, g M = some q → q ∈ L) → sumL (cnt g N) L + nos g N = N
  | 0, _ => by
    show sumL (cnt g 0) L + 0 = 0
    rw [sumL_zero (f := cnt g 0) (L := L) fun _ _ => rfl]
  | N + 1, h => by
    have ih := sumL_cnt hn N fun M hM => h M (by omega)
    have e : ∀ q, cnt g (N + 1) q = cnt g N q + (if g N = some q then 1 else 0) := fun q => by
      show (if g N = some q then cnt g N q + 1 else cnt g N q) = _
      by_cases hq : g N = some q
      · rw [if_pos hq, if_pos hq]
      · rw [if_neg hq, if_neg hq]; rfl
    rw [sumL_congr fun q _ => e q, sumL_add]
    cases hg : g N with
    | none =>
      have e2 : nos g (N + 1) = nos g N + 1 := if_pos hg
      rw [e2, sumL_zero (f := fun q => if (none : Option Q4) = some q then 1 else 0) fun q _ => if_neg (by simp)]
      omega
    | some x =>
      have e2 : nos g (N + 1) = nos g N := if_neg (by rw [hg]; simp)
      rw [e2, sumL_congr (f := fun q => if some x = some q then 1 else 0) (g := fun q => if x = q then 1 else 0) fun q _ => by simp, sumL_one hn (h N (by omega) x hg)]
      omega
/-- The ways in which a player is at a place. -/
def atP (g : Nat → Option Q4) (N : Nat) (L : List Q4) (p : Int) (j : Nat) : Nat := sumL (fun q => if qa q j = p then cnt g N q else 0) L
def sumN (f : Nat → Nat) : Nat → Nat
  | 0 => 0
  | k + 1 => sumN f k + f k
theorem sumN_pick {x : Int} {v : Nat} : ∀ n : Nat, sumN (fun p => if x = (p : Int) then v else 0) n = if 0 ≤ x ∧ x < n then v else 0
  | 0 => by
    show 0 = _
    rw [if_neg (by omega)]
  | n + 1 => by
    show sumN _ n + (if x = (n : Int) then v else 0) = _
    rw [sumN_pick n]
    by_cases h : x = (n : Int)
    · rw [if_pos h, if_neg (by omega), if_pos (by omega)]; omega
    · rw [if_neg h]
      by_cases h2 : 0 ≤ x ∧ x < n
      · rw [if_pos h2, if_pos (by omega)]; rfl
      · rw [if_neg h2, if_neg (by omega)]
theorem sumN_add (f g : Nat → Nat) : ∀ n, sumN (fun p => f p + g p) n = sumN f n + sumN g n
  | 0 => rfl
  | n + 1 => by
    show sumN _ n + (f n + g n) = sumN f n + f n + (sumN g n + g n)
    rw [sumN_add f g n]; omega
theorem sumN_zero : ∀ n, sumN (fun _ => 0) n = 0
  | 0 => rfl
  | n + 1 => by show sumN _ n + 0 = 0; rw [sumN_zero n]
theorem at_sum (g : Nat → Option Q4) (N n j : Nat) : ∀ L : List Q4, (∀ q ∈ L, 0 ≤ qa q j ∧ qa q j < n) → sumN (fun p => atP g N L p j) n = sumL (cnt g N) L
  | [], _ => sumN_zero n
  | q :: L, h => by
    have ih := at_sum g N n j L fun x hx => h x (by simp [hx])
    have e : (fun p : Nat => atP g N (q :: L) p j) = fun p : Nat => (if qa q j = (p : Int) then cnt g N q else 0) + atP g N L p j := rfl
    rw [e, sumN_add, ih, sumN_pick, if_pos (h q (by simp))]
    rfl


end OrdM
end Go.Proofs.Ytiiknpebphpeiaa
