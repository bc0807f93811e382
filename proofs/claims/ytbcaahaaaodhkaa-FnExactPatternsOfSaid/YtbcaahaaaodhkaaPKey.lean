/-
  Patterns as numbers: the different ones in two orders; the order that the program's sort is given, walked.
-/
import Derived.Test.YtbcaahaaaodhkaaRows
import Derived.Test.YtbcaahaaaodhkaaPatC
import Derived.Test.YtbcaahaaaodhkaaPatS
import Derived.Test.YtbcaahaaaodhkaaPatsI
import Derived.Test.YtbcaahaaaodhkaaPlS
import Derived.Test.YtbcaahaaaodhkaaPatI
import Derived.Test.YtbcaahaaaodhkaaPlI
import Derived.Test.YtbcaahaaaodhkaaFour
import Derived.Test.YtbcaahaaaodhkaaPatM
import Derived.Test.YtbcaahaaaodhkaaSortDn
import Derived.Test.YtbcaahaaaodhkaaPlaces
import Derived.Test.YtbcaahaaaodhkaaRollWM
import Derived.Test.YtbcaahaaaodhkaaIntsM
import Derived.Test.YtbcaahaaaodhkaaPoolW
import Derived.Test.YtbcaahaaaodhkaaAll6
import Derived.Test.YtbcaahaaaodhkaaDicesW
import Derived.Test.YtbcaahaaaodhkaaOpenD
import Derived.WalkKit
import Derived.WalkLawsBesides
import Derived.WalkSpells
import Derived.ProofKit
import Derived.OpenShut
import Derived.Deep.RegionWith
import Derived.Sort.Grow
import Derived.Deep.QuietTactic
import Derived.BigQuiet
namespace Go.Proofs.Ytbcaahaaaodhkaa
open Go.ChangeShapes Go.WideShapes Go.ChangeAt Go.RowKit
open Go.ChangeMaps (open_string shut_string)

namespace PKey
open Dice Arr OpenD DieW SortW DicesW PoolW All6 IntsW RollW Places PatM SortDn PlI Four PatI PatsI PlS PatS PatC

abbrev Key := Fin 625
def dec (x : Key) (j : Nat) : Int := ((x.val / 5 ^ (3 - j) % 5 : Nat) : Int)
def key (g : Nat → Int) : Key := ⟨((g 0 * 125 + g 1 * 25 + g 2 * 5 + g 3).toNat) % 625, Nat.mod_lt _ (by decide)⟩
theorem dec0 (x : Key) : dec x 0 = ((x.val / 125 % 5 : Nat) : Int) := rfl
theorem dec1 (x : Key) : dec x 1 = ((x.val / 25 % 5 : Nat) : Int) := rfl
theorem dec2 (x : Key) : dec x 2 = ((x.val / 5 % 5 : Nat) : Int) := rfl
theorem dec3 (x : Key) : dec x 3 = ((x.val % 5 : Nat) : Int) := by
  have : x.val / 5 ^ (3 - 3) = x.val := Nat.div_one _
  unfold dec
  rw [this]
theorem dec_key {g : Nat → Int} (h : ∀ j, j < 4 → 0 ≤ g j ∧ g j ≤ 4) : ∀ j, j < 4 → dec (key g) j = g j := by
  intro j hj
  have h0 := h 0 (by omega)
  have h1 := h 1 (by omega)
  have h2 := h 2 (by omega)
  have h3 := h 3 (by omega)
  have hv : (key g).val = (g 0 * 125 + g 1 * 25 + g 2 * 5 + g 3).toNat % 625 := rfl
  obtain rfl | rfl | rfl | rfl : j = 0 ∨ j = 1 ∨ j = 2 ∨ j = 3 := by omega
  · rw [dec0, hv]; omega
  · rw [dec1, hv]; omega
  · rw [dec2, hv]; omega
  · rw [dec3, hv]; omega
theorem dec_lt {x y : Key} (h : x < y) : ∃ k, k < 4 ∧ (∀ j, j < k → dec x j = dec y j) ∧ dec x k < dec y k := by
  have h : x.val < y.val := h
  have hx := x.isLt
  have hy := y.isLt
  by_cases e0 : dec x 0 = dec y 0
  · by_cases e1 : dec x 1 = dec y 1
    · by_cases e2 : dec x 2 = dec y 2
      · refine ⟨3, by omega, fun j hj => ?_, ?_⟩
        · obtain rfl | rfl | rfl : j = 0 ∨ j = 1 ∨ j = 2 := by omega
          · exact e0
          · exact e1
          · exact e2
        · rw [dec0, dec0] at e0; rw [dec1, dec1] at e1; rw [dec2, dec2] at e2; rw [dec3, dec3]; omega
      · refine ⟨2, by omega, fun j hj => ?_, ?_⟩
        · obtain rfl | rfl : j = 0 ∨ j = 1 := by omega
          · exact e0
          · exact e1
        · rw [dec0, dec0] at e0; rw [dec1, dec1] at e1; rw [dec2, dec2] at e2 ⊢; omega
    · refine ⟨1, by omega, fun j hj => ?_, ?_⟩
      · obtain rfl : j = 0 := by omega
        exact e0
      · rw [dec0, dec0] at e0; rw [dec1, dec1] at e1 ⊢; omega
  · refine ⟨0, by omega, fun j hj => by omega, ?_⟩
    rw [dec0, dec0] at e0 ⊢; omega

theorem strict_ext {L M : List Key} (hL : L.Pairwise fun a b => b < a) (hM : M.Pairwise fun a b => b < a) (h : ∀ x, x ∈ L ↔ x ∈ M) : L = M := by
  induction L generalizing M with
  | nil =>
    cases M with
    | nil => rfl
    | cons y M => have := (h y).2 (List.mem_cons_self ..); cases this
  | cons x L ih =>
    cases M with
    | nil => have := (h x).1 (List.mem_cons_self ..); cases this
    | cons y M =>
      rw [List.pairwise_cons] at hL hM
      have hxy : x = y := by
        rcases List.mem_cons.1 ((h x).1 (List.mem_cons_self ..)) with e | e
        · exact e
        · rcases List.mem_cons.1 ((h y).2 (List.mem_cons_self ..)) with e2 | e2
          · exact e2.symm
          · have h1 := hM.1 x e
            have h2 := hL.1 y e2
            have h1 : x.val < y.val := h1
            have h2 : y.val < x.val := h2
            omega
      subst hxy
      rw [ih hL.2 hM.2 fun z => ?_]
      constructor
      · intro hz
        rcases List.mem_cons.1 ((h z).1 (List.mem_cons_of_mem _ hz)) with e | e
        · have := hL.1 z hz
          have : z.val < x.val := this
          subst e; omega
        · exact e
      · intro hz
        rcases List.mem_cons.1 ((h z).2 (List.mem_cons_of_mem _ hz)) with e | e
        · have := hM.1 z hz
          have : z.val < x.val := this
          subst e; omega
        · exact e

/-- The list with one more, in its place. -/
def insd (x : Key) : List Key → List Key
  | [] => [x]
  | y :: L => if x < y then y :: insd x L else if y = x then y :: L else x :: y :: L
theorem mem_insd (x z : Key) : ∀ L, z ∈ insd x L ↔ z = x ∨ z ∈ L
  | [] => by simp [insd]
  | y :: L => by
    unfold insd
    by_cases h1 : x < y
    · rw [if_pos h1, List.mem_cons, mem_insd x z L, List.mem_cons]
      constructor
      · rintro (h | h | h)
        · exact .inr (.inl h)
        · exact .inl h
        · exact .inr (.inr h)
      · rintro (h | h | h)
        · exact .inr (.inl h)
        · exact .inl h
        · exact .inr (.inr h)
    · rw [if_neg h1]
      by_cases h2 : y = x
      · rw [if_pos h2, List.mem_cons]
        constructor
        · exact fun h => .inr h
        · rintro (h | h)
          · exact .inl (h.trans h2.symm)
          · exact h
      · rw [if_neg h2, List.mem_cons]
theorem sorted_insd (x : Key) : ∀ L : List Key, (L.Pairwise fun a b => b < a) → (insd x L).Pairwise fun a b => b < a
  | [], _ => by simp [insd]
  | y :: L, h => by
    have h' := List.pairwise_cons.1 h
    unfold insd
    by_cases h1 : x < y
    · rw [if_pos h1, List.pairwise_cons]
      refine ⟨fun z hz => ?_, sorted_insd x L h'.2⟩
      rcases (mem_insd x z L).1 hz with e | e
      · subst e; exact h1
      · exact h'.1 z e
    · rw [if_neg h1]
      by_cases h2 : y = x
      · rw [if_pos h2]; exact h
      · rw [if_neg h2, List.pairwise_cons]
        have hyx : y.val < x.val := by
          have h1 : ¬ x.val < y.val := h1
          have h2 : y.val ≠ x.val := fun e => h2 (Fin.ext e)
          omega
        refine ⟨fun z hz => ?_, h⟩
        rcases List.mem_cons.1 hz with e | e
        · subst e; exact hyx
        · have := h'.1 z e
          have : z.val < y.val := this
          show z.val < x.val
          omega
/-- Behind those that are greater. -/
theorem insd_new (x : Key) : ∀ (L : List Key) (n : Nat), n ≤ L.length → (∀ j, j < n → ∀ y, L[j]? = some y → x < y) → (∀ y, L[n]? = some y → y < x) → insd x L = L.take n ++ x :: L.drop n
  | [], n, hn, _, _ => by
    obtain rfl : n = 0 := by simpa using hn
    rfl
  | y :: L, 0, _, _, h => by
    have := h y rfl
    have this : y.val < x.val := this
    unfold insd
    rw [if_neg (fun e => by have e : x.val < y.val := e; omega), if_neg (fun e => by rw [e] at this; omega)]
    rfl
  | y :: L, n + 1, hn, h, h2 => by
    have h0 := h 0 (by omega) y rfl
    unfold insd
    rw [if_pos h0, insd_new x L n (by simpa using hn) (fun j hj z hz => h (j + 1) (by omega) z (by simpa using hz)) (fun z hz => h2 z (by simpa using hz))]
    rfl
theorem insd_old (x : Key) : ∀ (L : List Key) (n : Nat), (∀ j, j < n → ∀ y, L[j]? = some y → x < y) → L[n]? = some x → insd x L = L
  | [], n, _, h => by simp at h
  | y :: L, 0, _, h => by
    have : y = x := by simpa using h
    unfold insd
    rw [if_neg (fun e => by rw [this] at e; exact absurd e (Nat.lt_irrefl _)), if_pos this]
  | y :: L, n + 1, h, h2 => by
    have h0 := h 0 (by omega) y rfl
    unfold insd
    rw [if_pos h0, insd_old x L n (fun j hj z hz => h (j + 1) (by omega) z (by simpa using hz)) (by simpa using h2)]

/-- The different ones, as they first come. -/
def dd (f : Nat → Key) : Nat → List Key
  | 0 => []
  | k + 1 => if f k ∈ dd f k then dd f k else dd f k ++ [f k]
/-- The different ones, the greatest first. -/
def iss (f : Nat → Key) : Nat → List Key
  | 0 => []
  | k + 1 => insd (f k) (iss f k)
theorem dd_old {f : Nat → Key} {k : Nat} (h : f k ∈ dd f k) : dd f (k + 1) = dd f k := by show (if _ then _ else _) = _; rw [if_pos h]
theorem dd_new {f : Nat → Key} {k : Nat} (h : f k ∉ dd f k) : dd f (k + 1) = dd f k ++ [f k] := by show (if _ then _ else _) = _; rw [if_neg h]
theorem dd_len (f : Nat → Key) : ∀ k, (dd f k).length ≤ k
  | 0 => Nat.le_refl _
  | k + 1 => by
    have := dd_len f k
    by_cases h : f k ∈ dd f k
    · rw [dd_old h]; omega
    · rw [dd_new h, List.length_append]; simp only [List.length_cons, List.length_nil]; omega
theorem mem_same (f : Nat → Key) (x : Key) : ∀ k, x ∈ dd f k ↔ x ∈ iss f k
  | 0 => Iff.rfl
  | k + 1 => by
    show _ ↔ x ∈ insd (f k) (iss f k)
    rw [mem_insd, ← mem_same f x k]
    by_cases h : f k ∈ dd f k
    · rw [dd_old h]
      exact ⟨fun e => .inr e, fun e => e.elim (fun e => e ▸ h) id⟩
    · rw [dd_new h, List.mem_append, List.mem_singleton]
      exact Or.comm
theorem dd_nodup (f : Nat → Key) : ∀ k, (dd f k).Nodup
  | 0 => List.nodup_nil
  | k + 1 => by
    by_cases h : f k ∈ dd f k
    · rw [dd_old h]; exact dd_nodup f k
    · rw [dd_new h]
      refine List.nodup_append.2 ⟨dd_nodup f k, by simp, ?_⟩
      intro a ha b hb
      rw [List.mem_singleton] at hb
      subst hb
      exact fun e => h (e ▸ ha)
theorem iss_sorted (f : Nat → Key) : ∀ k, (iss f k).Pairwise fun a b => b < a
  | 0 => List.Pairwise.nil
  | k + 1 => sorted_insd _ _ (iss_sorted f k)
theorem iss_len (f : Nat → Key) : ∀ k, (iss f k).length ≤ k
  | 0 => Nat.le_refl _
  | k + 1 => by
    have := iss_len f k
    have h2 : ∀ (x : Key) (L : List Key), (insd x L).length ≤ L.length + 1 := by
      intro x L
      induction L with
      | nil => simp [insd]
      | cons y L ih =>
        unfold insd
        by_cases h1 : x < y
        · rw [if_pos h1]; simp only [List.length_cons]; omega
        · rw [if_neg h1]
          by_cases h2 : y = x
          · rw [if_pos h2]; omega
          · rw [if_neg h2]; simp only [List.length_cons]; omega
    have := h2 (f k) (iss f k)
    show (insd (f k) (iss f k)).length ≤ k + 1
    omega
theorem sorted_same (f : Nat → Key) (N : Nat) (le : Key → Key → Bool) (hle : ∀ x y, le x y = decide (y ≤ x)) : (dd f N).mergeSort le = iss f N := by
  have hp := List.mergeSort_perm (dd f N) le
  have hs : ((dd f N).mergeSort le).Pairwise fun a b => le a b := List.pairwise_mergeSort
    (fun a b c h1 h2 => by rw [hle, decide_eq_true_eq] at *; exact Nat.le_trans h2 h1)
    (fun a b => by rw [hle, hle]; rcases Nat.le_total a.val b.val with h | h
                   · have : decide (a ≤ b) = true := decide_eq_true h
                     rw [this, Bool.or_true]
                   · have : decide (b ≤ a) = true := decide_eq_true h
                     rw [this, Bool.true_or]) _
  have hn : ((dd f N).mergeSort le).Nodup := hp.nodup_iff.2 (dd_nodup f N)
  refine strict_ext ?_ (iss_sorted f N) fun x => by rw [List.mem_mergeSort, mem_same]
  refine (hs.and hn).imp ?_
  rintro a b ⟨h1, h2⟩
  rw [hle, decide_eq_true_eq] at h1
  have h1 : b.val ≤ a.val := h1
  show b.val < a.val
  have : a.val ≠ b.val := fun e => h2 (Fin.ext e)
  omega

theorem bef_dec (x y : Key) : bef (dec x) (dec y) = decide (x < y) := by
  rcases Nat.lt_trichotomy x.val y.val with h | h | h
  · obtain ⟨k, hk, he, hl⟩ := dec_lt (show x < y from h)
    rw [bef_yes hk he hl]
    exact (decide_eq_true (show x < y from h)).symm
  · have e : x = y := Fin.ext h
    subst e
    rw [bef_same fun _ _ => rfl]
    exact (decide_eq_false (Nat.lt_irrefl _)).symm
  · obtain ⟨k, hk, he, hl⟩ := dec_lt (show y < x from h)
    rw [bef_no (fun j hj => (he j hj).symm) hl]
    exact (decide_eq_false (fun e : x.val < y.val => by omega)).symm
theorem bef_congr {a a' b b' : Nat → Int} (h : ∀ j, j < 4 → a j = a' j) (h2 : ∀ j, j < 4 → b j = b' j) : bef a b = bef a' b' := by
  unfold bef
  have : Bef a b ↔ Bef a' b' := by
    constructor
    · rintro ⟨k, hk, he, hl⟩
      exact ⟨k, hk, fun j hj => by rw [← h j (by omega), ← h2 j (by omega)]; exact he j hj, by rw [← h k hk, ← h2 k hk]; exact hl⟩
    · rintro ⟨k, hk, he, hl⟩
      exact ⟨k, hk, fun j hj => by rw [h j (by omega), h2 j (by omega)]; exact he j hj, by rw [h k hk, h2 k hk]; exact hl⟩
  by_cases hb : Bef a b
  · rw [@decide_eq_true _ (Classical.propDecidable _) hb, @decide_eq_true _ (Classical.propDecidable _) (this.1 hb)]
  · rw [@decide_eq_false _ (Classical.propDecidable _) hb, @decide_eq_false _ (Classical.propDecidable _) (fun e => hb (this.2 e))]
/-- The key of the pattern of the outcome i. -/
def kk (P : Nat → Nat → Int) (n i : Nat) : Key := key (pat (rollF P i n) n)
theorem dec_kk (P : Nat → Nat → Int) {n : Nat} (hn : n ≤ 4) (i : Nat) : ∀ j, j < 4 → dec (kk P n i) j = pat (rollF P i n) n j :=
  dec_key fun j hj => by have := pat_range (rollF P i n) n hj; omega
theorem dec_inj {x y : Key} (h : ∀ j, j < 4 → dec x j = dec y j) : x = y := by
  rcases Nat.lt_trichotomy x.val y.val with h1 | h1 | h1
  · obtain ⟨k, hk, he, hl⟩ := dec_lt (show x < y from h1)
    have := h k hk
    omega
  · exact Fin.ext h1
  · obtain ⟨k, hk, he, hl⟩ := dec_lt (show y < x from h1)
    have := h k hk
    omega

/-- What the order of the program's sort says. -/
noncomputable def cpt (a b : Nat → Int) : Int := if bef b a then 1 else if bef a b then -1 else 0
set_option maxHeartbeats 1000000 in
theorem compareX_any (a b : Nat → Int) (p q : Nat) (w : World) (ha : At w p 4 a) (hb : At w q 4 b) :
    Calls Try.prog 104 #[.slice (some ⟨p, 0, none⟩) 4 4, .slice (some ⟨q, 0, none⟩) 4 4] w fun e w' => e = .returned (.int .i64 (cpt a b)) ∧ w' = w := by
  have Hc := Lib.hid cmp_any
  obtain ⟨c, hcc⟩ : ∃ c, c = cpt a b := ⟨_, rfl⟩
  have Hcc := Lib.hid hcc
  rw [← hcc]
  clear hcc
  go_enter Try.func104, Try.ntmps104
  go_wp2_with fail
  go_loopw [11] (fun i wr => ∃ k : Nat, k ≤ 4 ∧ i = .int .i64 k ∧ wr = w ∧ Hid (∀ j, j < k → b j = a j)) (fun i _ => 4 - (intOf i).toNat)
  case atStart => exact ⟨0, by omega, rfl, rfl, fun j hj => by omega⟩
  case round =>
    obtain ⟨k, hk, rfl, rfl, he⟩ := hrel
    by_cases hlt : k < 4
    · have c1 := ha.cell k hlt
      have c2 := hb.cell k hlt
      have Hck := Lib.hid (Hc.out (a k) (b k))
      by_cases hl : a k < b k
      · have e3 : cmp3 (a k) (b k) = -1 := by unfold cmp3; rw [if_pos hl]
        obtain rfl : c = -1 := by rw [Hcc.out]; unfold cpt; rw [bef_no he.out hl, bef_yes hlt (fun j hj => (he.out j hj).symm) hl]; rfl
        rw [e3] at Hck
        clear Hcc
        go_wp2_with fail
        refine (Hck.out _).mono ?_
        rintro e w2 ⟨rfl, rfl⟩
        go_wp2_with fail
        go_ret
        exact ⟨rfl, rfl⟩
      · by_cases hl2 : b k < a k
        · have e3 : cmp3 (a k) (b k) = 1 := by unfold cmp3; rw [if_neg hl, if_pos hl2]
          obtain rfl : c = 1 := by rw [Hcc.out]; unfold cpt; rw [bef_yes hlt he.out hl2]; rfl
          rw [e3] at Hck
          clear Hcc
          go_wp2_with fail
          refine (Hck.out _).mono ?_
          rintro e w2 ⟨rfl, rfl⟩
          go_wp2_with fail
          go_ret
          exact ⟨rfl, rfl⟩
        · have e3 : cmp3 (a k) (b k) = 0 := by unfold cmp3; rw [if_neg hl, if_neg hl2]
          rw [e3] at Hck
          go_wp2_with fail
          refine (Hck.out _).mono ?_
          rintro e w2 ⟨rfl, rfl⟩
          go_wp2_with fail
          go_roundw
          case rel =>
            refine ⟨k + 1, by omega, by go_num, by first | rfl | trivial, fun j hj => ?_⟩
            by_cases hjk : j = k
            · subst hjk; omega
            · exact he.out j (by omega)
          case measure => simp [intOf]; omega
    · obtain rfl : k = 4 := by omega
      obtain rfl : c = 0 := by rw [Hcc.out]; unfold cpt; rw [bef_same he.out, bef_same (fun j hj => (he.out j hj).symm)]; rfl
      clear Hcc
      go_wp2_with fail
      go_ret
      exact ⟨rfl, rfl⟩

set_option maxHeartbeats 1000000 in
theorem compPatX_any (a b : Nat → Int) (w : World) :
    Calls Try.prog 63 #[v4 a, v4 b] w fun e w' => e = .returned (.int .i64 (cpt a b)) ∧ w' = ((w.alloc (fourO a 23)).alloc (fourO b 23)).drewN 1 := by
  have ha := (At.new4 w a 23 rfl).past (fourO b 23)
  have hb := At.new4 (w.alloc (fourO a 23)) b 23 (b := w.heap.size + 1) (by rw [size_alloc])
  have Hc := Lib.hid (fun p q w ha hb => compareX_any a b p q w ha hb)
  generalize cpt a b = c at *
  go_enter Try.func63, Try.ntmps63
  go_wp2_with fail
  generalize hWW : (w.alloc (fourO a 23)).alloc (fourO b 23) = W at *
  have HW := Lib.hid hWW; clear hWW
  go_region_with (go_at_call 104; refine (Hc.out _ _ _ ha.drew hb.drew).mono ?_; rintro e w2 ⟨rfl, rfl⟩)
  all_goals
    go_wp2_with fail
    go_ret
    exact ⟨rfl, by rw [HW.out]; rfl⟩

set_option maxHeartbeats 1000000 in
/-- The order handed to the sort. -/
theorem closure_any (a b : Nat → Int) (w : World) :
    Calls Try.prog 67 #[v4 a, v4 b] w fun e w' => e = .returned (.int .i64 (cpt b a)) ∧ ∃ q os, w' = Go.Sort.grow (w.drewN q) os := by
  have ha := (At.new4 w a 23 rfl).past (fourO b 23)
  have hb := At.new4 (w.alloc (fourO a 23)) b 23 (b := w.heap.size + 1) (by rw [size_alloc])
  obtain ⟨a0, a1, a2, a3⟩ := At.four ha
  obtain ⟨b0, b1, b2, b3⟩ := At.four hb
  have Hc := Lib.hid (fun w => compPatX_any b a w)
  generalize cpt b a = c at *
  go_enter Try.func67, Try.ntmps67
  go_wp2_with fail
  refine (Hc.out _).mono ?_
  rintro e w2 ⟨rfl, rfl⟩
  go_wp2_with fail
  go_ret
  refine ⟨rfl, 1, ((#[fourO a 23] ++ #[fourO b 23]) ++ #[fourO b 23]) ++ #[fourO a 23], ?_⟩
  rw [Go.Sort.alloc_eq_grow, Go.Sort.alloc_eq_grow, Go.Sort.alloc_eq_grow, Go.Sort.alloc_eq_grow, Go.Sort.grow_grow, Go.Sort.grow_grow, Go.Sort.grow_grow]
  rfl


end PKey
end Go.Proofs.Ytbcaahaaaodhkaa
