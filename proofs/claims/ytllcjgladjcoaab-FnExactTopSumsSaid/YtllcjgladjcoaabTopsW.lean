/-
  The greatest number of a table and its sums.
-/
import Derived.Test.YtllcjgladjcoaabRows
import Derived.Test.YtllcjgladjcoaabShelfMax
import Derived.Test.YtllcjgladjcoaabIntsW
import Derived.Test.YtllcjgladjcoaabChanceW
import Derived.Test.YtllcjgladjcoaabTableE
import Derived.Test.YtllcjgladjcoaabTableS
import Derived.Test.YtllcjgladjcoaabTableI
import Derived.Test.YtllcjgladjcoaabTableW
import Derived.Test.YtllcjgladjcoaabTable
import Derived.Test.YtllcjgladjcoaabSumsW
import Derived.Test.YtllcjgladjcoaabCutW
import Derived.Test.YtllcjgladjcoaabDicesW
import Derived.Test.YtllcjgladjcoaabOpenD
import Derived.WalkKit
import Derived.WalkLawsBesides
import Derived.WalkSpells
import Derived.ProofKit
import Derived.OpenShut
import Derived.Deep.RegionWith
import Derived.Deep.WholeRow
import Derived.Deep.QuietTactic
import Derived.BigQuiet
namespace Go.Proofs.Ytllcjgladjcoaab
open Go.ChangeShapes Go.WideShapes Go.ChangeAt Go.RowKit
open Go.ChangeMaps (open_string shut_string)

namespace TopsW
open Dice Arr OpenD DieW SortW DicesW PoolW FracW SumsW Table TableW TableI TableS TableE CutW ChanceW IntsW

theorem six_pow {n : Nat} (h : n ≤ 4) : (1 : Int) ≤ 6 ^ n := by
  obtain rfl | rfl | rfl | rfl | rfl : n = 0 ∨ n = 1 ∨ n = 2 ∨ n = 3 ∨ n = 4 := by omega
  all_goals decide
/-- The greatest of the first s numbers, 0 at least. -/
def bst (f : Nat → Int) : Nat → Int
  | 0 => 0
  | s + 1 => if bst f s < f s then f s else bst f s
/-- The places of the greatest ones, as they are found. -/
def sel (f : Nat → Int) : Nat → List Int
  | 0 => []
  | s + 1 => if bst f s < f s then [(s : Int)] else if f s = bst f s ∧ 0 < bst f s then sel f s ++ [(s : Int)] else sel f s
/-- The places of a number. -/
def flt (f : Nat → Int) (m : Int) : Nat → List Int
  | 0 => []
  | s + 1 => if f s = m then flt f m s ++ [(s : Int)] else flt f m s
theorem bst_nn (f : Nat → Int) : ∀ s, 0 ≤ bst f s := by
  intro s
  induction s with
  | zero => exact Int.le_refl _
  | succ s ih =>
    rw [bst]
    split <;> omega
theorem le_bst (f : Nat → Int) : ∀ s j, j < s → f j ≤ bst f s := by
  intro s
  induction s with
  | zero => intro j hj; omega
  | succ s ih =>
    intro j hj
    rw [bst]
    by_cases hjs : j = s
    · subst hjs
      split <;> omega
    · have := ih j (by omega)
      split <;> omega
theorem flt_nil (f : Nat → Int) (m : Int) : ∀ s, (∀ j, j < s → f j ≠ m) → flt f m s = [] := by
  intro s
  induction s with
  | zero => intro _; rfl
  | succ s ih =>
    intro h
    rw [flt, if_neg (h s (by omega))]
    exact ih fun j hj => h j (by omega)
theorem flt_len (f : Nat → Int) (m : Int) : ∀ s, (flt f m s).length ≤ s := by
  intro s
  induction s with
  | zero => exact Nat.le_refl _
  | succ s ih =>
    rw [flt]
    split
    · simp; omega
    · omega
theorem sel_len (f : Nat → Int) : ∀ s, (sel f s).length ≤ s := by
  intro s
  induction s with
  | zero => exact Nat.le_refl _
  | succ s ih =>
    rw [sel]
    split
    · simp
    · split
      · simp; omega
      · omega
theorem sel_flt (f : Nat → Int) : ∀ s, sel f s = if 0 < bst f s then flt f (bst f s) s else [] := by
  intro s
  induction s with
  | zero => rfl
  | succ s ih =>
    have hn := bst_nn f s
    by_cases h1 : bst f s < f s
    · have e : bst f (s + 1) = f s := if_pos h1
      rw [sel, if_pos h1, e, if_pos (by omega), flt, if_pos rfl, flt_nil f (f s) s (fun j hj => by have := le_bst f s j hj; omega)]
      rfl
    · have e : bst f (s + 1) = bst f s := if_neg h1
      rw [sel, if_neg h1, e]
      by_cases h2 : f s = bst f s ∧ 0 < bst f s
      · rw [if_pos h2, if_pos h2.2, ih, if_pos h2.2, flt, if_pos h2.1]
      · rw [if_neg h2, ih]
        by_cases h3 : 0 < bst f s
        · rw [if_pos h3, if_pos h3, flt, if_neg (fun h => h2 ⟨h, h3⟩)]
        · rw [if_neg h3, if_neg h3]
theorem pre_zero (f : Nat → Int) : ∀ s, (∀ j, j < s → f j ≤ 0) → pre f s ≤ 0 := by
  intro s
  induction s with
  | zero => intro _; exact Int.le_refl _
  | succ s ih =>
    intro h
    have := ih fun j hj => h j (by omega)
    have := h s (by omega)
    rw [pre_succ]
    omega
theorem bst_pos {f : Nat → Int} {s : Nat} (h : 1 ≤ pre f s) : 0 < bst f s := by
  by_cases h0 : 0 < bst f s
  · exact h0
  · have := pre_zero f s fun j hj => by have := le_bst f s j hj; omega
    omega
def zs (f : Nat → Int) (n : Nat) : List Int := (List.range n).map f
theorem zs_len (f : Nat → Int) (n : Nat) : (zs f n).length = n := by simp [zs]
theorem zs_get {f : Nat → Int} {n k : Nat} (h : k < n) : (zs f n).getD k 0 = f k := by simp [zs, h]
theorem max_bst {f : Nat → Int} (h : ∀ j, 0 ≤ f j) (N : Nat) : ∀ k, k + 1 ≤ N → Lib.maxOf ((zs f N).take (k + 1)) = bst f (k + 1) := by
  intro k
  induction k with
  | zero =>
    intro hk
    rw [Lib.maxOf_one, zs_get (by omega)]
    have := h 0
    show f 0 = if (0 : Int) < f 0 then f 0 else 0
    split <;> omega
  | succ k ih =>
    intro hk
    rw [Lib.maxOf_step _ _ (by omega) (by rw [zs_len]; omega), ih (by omega), zs_get (by omega)]
    show max (bst f (k + 1)) (f (k + 1)) = if bst f (k + 1) < f (k + 1) then f (k + 1) else bst f (k + 1)
    split <;> omega
/-- A list's numbers as cells. -/
def vl (l : List Int) : List Value := l.map (Value.int .i64)
theorem vl_snoc (l : List Int) (x : Int) : vl (l ++ [x]) = vl l ++ [.int .i64 x] := by simp [vl]
theorem own_ints {w : World} {B : Nat} {v : Value} {l : List Int} (h : w.ownsRow B 3 1 v l.length (vl l)) : ∃ A c, v = .slice A l.length c ∧ Ints B w A l.length (fun k => l.getD k 0) := by
  rcases h.2 with ⟨rfl, h0⟩ | ⟨g, cap, cur, rfl, hb, hg, hnc, hcm, hcs, htake⟩
  · exact ⟨none, 0, by rw [h0], .inl h0⟩
  · have hl : g < w.heap.size := (Array.getElem?_eq_some_iff.1 hg).1
    refine ⟨_, cap, rfl, .inr ⟨g, rfl, hb, hl, fun k hk => ?_, fun k => ?_⟩⟩
    · rw [cell_of_row w g k cur _ (0, 0) hg]
      have e : (cur.toList.take (l.length * 1))[k]? = (vl l)[k]? := by rw [htake]
      rw [List.getElem?_take, if_pos (by omega)] at e
      simp only [vl, List.getElem?_map, List.getElem?_eq_getElem hk, Option.map_some] at e
      simp [List.getD, List.getElem?_eq_getElem hk]
      simpa using e
    · have e : w.heap[(⟨g, k, none⟩ : Addr).block]? = some (.cells cur 3 (0, 0)) := hg
      simp [World.frozen?, e]
theorem info_int' : (Try.prog.info? 3).map (fun i => (i.zero, i.size, i.bytes)) = some (some (.int .i64 0), 1, 8) := by kernel_rfl
theorem grown_of {w w' : World} {B : Nat} (h : Below B w w') (hB : w.heap.size ≤ B) (row : Option Nat) : w.grownBy w' row := ⟨h.os, h.tape, h.output, h.size, fun k hk _ => h.block k (by omega)⟩
theorem keep_none (v : Value) : v.ownBlock = none ∨ v.ownBlock ≠ none := by cases v.ownBlock <;> simp
theorem At.same {w w' : World} {b n : Nat} {f : Nat → Int} (h : At w b n f) (hs : w.heap.size ≤ w'.heap.size) (e : w'.heap[b]? = w.heap[b]?) : At w' b n f :=
  ⟨Nat.lt_of_lt_of_le h.lt hs, fun k hk => (World.cell?_of_block (a := ⟨b, k, none⟩) e).trans (h.cell k hk), fun k => (World.frozen?_of_block (a := ⟨b, k, none⟩) e).trans (h.free k)⟩
theorem At.keep' {w w' : World} {b n : Nat} {row : Option Nat} {f : Nat → Int} (h : At w b n f) (hg : w.grownBy w' row) (hb : some b ≠ row) : At w' b n f := At.same h hg.size (hg.block b h.lt hb)
theorem own_ne {w : World} {B s n m : Nat} {e : TypeId} {v : Value} {xs : List Value} (h : w.ownsRow B e s v n xs) (hm : m < B) : some m ≠ v.ownBlock := fun e => by
  have := (h.lt m e.symm).1
  omega
theorem own_base {w : World} {B B' : Nat} {e : TypeId} {s n : Nat} {v : Value} {xs : List Value} (h : w.ownsRow B e s v n xs) (hB : B' ≤ B) : w.ownsRow B' e s v n xs := by
  refine ⟨h.1, ?_⟩
  rcases h.2 with hn | ⟨g, cap, cur, rfl, hb, hg, rest⟩
  · exact .inl hn
  · exact .inr ⟨g, cap, cur, rfl, by omega, hg, rest⟩
def lenT (n : Nat) (P : Nat → Nat → Int) : Nat := if isPool n P then (sel (T P n) 121).length else 0
def bestT (n : Nat) (P : Nat → Nat → Int) : Int := if isPool n P then bst (T P n) 121 else 0
def valT (n : Nat) (P : Nat → Nat → Int) : Nat → Int := fun k => (sel (T P n) 121).getD k 0

set_option maxRecDepth 100000 in
set_option maxHeartbeats 8000000 in
theorem specTop_any (A : Option Addr) (n c : Nat) (P : Nat → Nat → Int) (w : World) (h : Row w A n P) (hn : n ≤ maxLen) :
    Calls Try.prog 42 #[.slice A n c] w fun e w' => ∃ A' c', e = .returned (.tuple #[.slice A' (lenT n P) c', .int .i64 (bestT n P), .bool (isPool n P)]) ∧ Ints w.heap.size w' A' (lenT n P) (valT n P) ∧ Below w.heap.size w w' := by
  have hp := fun w h => l2Pool_any A n c P w h hn
  have H := Lib.hid h; clear h
  have hB := na (n0 w) (.cells #[] 3)
  have hO0 : (w.alloc (.cells #[] 3)).ownsRow w.heap.size 3 1 (.slice (some ⟨w.heap.size, 0, none⟩) 0 0) 0 [] := World.ownsRow_made w #[] 0 (Nat.le_refl _) (by decide) rfl
  unfold lenT bestT valT
  cases hq : isPool n P
  · rw [hq] at hp
    simp only [Bool.false_eq_true, ↓reduceIte]
    have Hp := Lib.hid hp; clear hp hq hO0
    go_enter Try.func42, Try.ntmps42
    go_wp2_with fail
    refine (Hp.out _ (H.out.up hB)).mono ?_
    rintro e w1 ⟨rfl, hb1⟩
    go_wp2_with fail
    go_ret3
    exact ⟨_, _, rfl, .inl rfl, nx hB hb1⟩
  · obtain ⟨_, h4, hd⟩ := of_pool hq
    rw [hq] at hp
    simp only [↓reduceIte]
    have Ht := Lib.hid (fun w h => l2Table_any A n c P w h h4 hd)
    have htf := tab_T h4 (die_range' hd) n (Nat.le_refl _)
    have HF := Lib.hid (fun (x : Nat) (hx : x < 121) => htf.small h4 x hx)
    have Hpos := Lib.hid (bst_pos (f := T P n) (s := 121) (by rw [htf.sum]; exact six_pow h4))
    have Hp := Lib.hid hp; clear hp hq htf hd h4
    obtain ⟨i0, hi, hz0, hz1, hz2⟩ := info_parts info_int'
    have Hi := Lib.hid (And.intro hi (And.intro hz0 (And.intro hz1 hz2)))
    clear hi hz0 hz1 hz2
    generalize T P n = f at *
    go_enter Try.func42, Try.ntmps42
    go_wp2_with fail
    refine (Hp.out _ (H.out.up hB)).mono ?_
    rintro e w1 ⟨rfl, hb1⟩
    have hB1 := nx hB hb1
    have hO1 := hO0.kept (grown_of hb1 (Nat.le_refl _) none) (keep_none _)
    clear hb1 hB hO0
    go_wp2_with fail
    refine (Ht.out _ (H.out.up hB1)).mono ?_
    rintro e w2 ⟨rfl, hb2⟩
    have hB2 := nx hB1 hb2
    have hO2 := hO1.kept (grown_of hb2 (Nat.le_refl _) none) (keep_none _)
    clear hb2 hB1 hO1
    obtain ⟨w3, hst3, hA3, hB3, hK3⟩ := store_ex (fresh w2 (b := w2.heap.size) rfl) f
    have hbl3 : Below w.heap.size w w3 := (na hB2 _).trans (hB3 _ hB2.size)
    have hU3 : Below w2.heap.size w2 w3 := (na (n0 w2) _).trans (hB3 _ (Nat.le_refl _))
    have hO3 := hO2.kept (grown_of hU3 (Nat.le_refl _) none) (keep_none _)
    have hs3 : w2.heap.size < w3.heap.size := hA3.lt
    clear hB3 hK3 hU3 hO2
    have hvf := vals_len 121 f
    go_wp2_with fail
    clear hst3 hvf
    have hbs := hB2.size
    generalize w2.heap.size = q at hA3 hs3 hbs ⊢
    clear hO3 hs3
    go_loopw [5, 6, 8] (fun v bv kv wr => ∃ s : Nat, s ≤ 121 ∧ kv = .int .i64 s ∧ bv = .int .i64 (bst f s) ∧ (0 < bst f s → wr.ownsRow (q + 1) 3 1 v (sel f s).length (vl (sel f s))) ∧ Below w.heap.size w wr ∧ At wr q 121 f) (fun _ _ kv _ => 121 - (intOf kv).toNat)
    case atStart => exact ⟨0, by omega, rfl, rfl, fun h => absurd h (show ¬ (0 : Int) < 0 by decide), hbl3, hA3⟩
    case round =>
      clear hbl3 hA3
      obtain ⟨s, hs, rfl, rfl, hO, hB, hA⟩ := hrel
      by_cases hlt : s < 121
      · have hsd : decide ((s : Int) < 121) = true := decide_eq_true (by omega)
        have cs := hA.cell s hlt
        have hn := bst_nn f s
        have hql := hA.lt
        have hsl := sel_len f s
        by_cases h1 : bst f s < f s
        · have h1d : decide (bst f s < f s) = true := decide_eq_true h1
          have h0d : decide (0 < f s) = true := decide_eq_true (by omega)
          have Hb : Hid (bst f (s + 1) = f s) := if_pos h1
          have Hs : Hid (sel f (s + 1) = [(s : Int)]) := if_pos h1
          have hOm : (wr.alloc (.cells #[] 3)).ownsRow (q + 1) 3 1 (.slice (some ⟨wr.heap.size, 0, none⟩) 0 0) 0 [] := World.ownsRow_made wr #[] 0 hql (by decide) rfl
          have hAm := hA.past (.cells #[] 3)
          have hBm := na hB (.cells #[] 3)
          have csm := hAm.cell s hlt
          have hsm : q + 1 ≤ (wr.alloc (.cells #[] 3)).heap.size := by rw [size_alloc]; omega
          clear hO
          go_wp2_with (at_builtin; refine wpList_append_own _ rfl _ _ 47 rfl (q + 1) 3 i0 (.int .i64 0) 1 8 Try.underlying47 Hi.out.1 Hi.out.2.1 Hi.out.2.2.1 Hi.out.2.2.2 rfl (by decide) _ _ _ rfl (hOm.alloc _) ⟨wr.heap.size + 1, 0, none⟩ 1 1 [.int .i64 (s : Int)] rfl rfl ?c1 ?c2 ?c3 ?c4 ?c5 ?_)
          case c1 =>
            intro t u ht
            match t, ht with
            | 0, ht => simp at ht; subst ht; simp [Addr.add]
          case c2 => intro u hu; simp at hu; subst hu; rfl
          case c3 => unfold maxLen; omega
          case c4 => omega
          case c5 => simp; omega
          · intro v' w4 hO4 hg4 _
            have hB4 := (na hBm (.cells #[.int .i64 (s : Int)] 3)).grown hg4 (by have := hBm.size; rw [size_alloc]; omega) (fun k e => by have := (hOm.lt k e).1; omega)
            have hA4 := At.keep' (hAm.past (.cells #[.int .i64 (s : Int)] 3)) hg4 (own_ne hOm (Nat.lt_succ_self q))
            clear hg4 hOm hAm hBm
            go_wp2_with fail
            go_roundw
            case rel => exact ⟨s + 1, by omega, by go_num, by rw [Hb.out], fun _ => by rw [Hs.out]; exact hO4, hB4, hA4⟩
            case measure => simp [intOf]; omega
        · have h1d : decide (bst f s < f s) = false := decide_eq_false h1
          have Hb : Hid (bst f (s + 1) = bst f s) := if_neg h1
          by_cases h2 : f s = bst f s
          · by_cases h3 : 0 < bst f s
            · have h2d : (f s == bst f s) = true := by simp [h2]
              have h3d : decide (0 < bst f s) = true := decide_eq_true h3
              have Hs : Hid (sel f (s + 1) = sel f s ++ [(s : Int)]) := by show (if _ then _ else _) = _; rw [if_neg h1, if_pos ⟨h2, h3⟩]
              have hOm := hO h3
              clear hO
              rw [h2] at cs
              have h1d' : decide (bst f s < bst f s) = false := decide_eq_false (by omega)
              clear h1d h2 h2d h1
              go_wp2_with (at_builtin; refine wpList_append_own _ rfl _ _ 47 rfl (q + 1) 3 i0 (.int .i64 0) 1 8 Try.underlying47 Hi.out.1 Hi.out.2.1 Hi.out.2.2.1 Hi.out.2.2.2 rfl (by decide) _ _ _ rfl (hOm.alloc _) ⟨wr.heap.size, 0, none⟩ 1 1 [.int .i64 (s : Int)] rfl rfl ?d1 ?d2 ?d3 ?d4 ?d5 ?_)
              case d1 =>
                intro t u ht
                match t, ht with
                | 0, ht => simp at ht; subst ht; simp [Addr.add]
              case d2 => intro u hu; simp at hu; subst hu; rfl
              case d3 => unfold maxLen; omega
              case d4 => omega
              case d5 => simp; omega
              · intro v' w4 hO4 hg4 _
                have hB4 := (na hB (.cells #[.int .i64 (s : Int)] 3)).grown hg4 (by have := hB.size; rw [size_alloc]; omega) (fun k e => by have := (hOm.lt k e).1; omega)
                have hA4 := At.keep' (hA.past (.cells #[.int .i64 (s : Int)] 3)) hg4 (own_ne hOm (Nat.lt_succ_self q))
                clear hg4 hOm hA hB
                go_wp2_with fail
                go_roundw
                case rel => exact ⟨s + 1, by omega, by go_num, by rw [Hb.out], fun _ => by rw [Hs.out, vl_snoc, List.length_append]; exact hO4, hB4, hA4⟩
                case measure => simp [intOf]; omega
            · have h3d : decide (0 < bst f s) = false := decide_eq_false h3
              have Hs : Hid (sel f (s + 1) = sel f s) := by show (if _ then _ else _) = _; rw [if_neg h1, if_neg (fun h => h3 h.2)]
              rw [h2] at cs
              have h1d' : decide (bst f s < bst f s) = false := decide_eq_false (by omega)
              clear h1d h2 h1
              go_wp2_with fail
              go_roundw
              case rel => exact ⟨s + 1, by omega, by go_num, by rw [Hb.out], by rw [Hb.out, Hs.out]; exact hO, hB, hA⟩
              case measure => simp [intOf]; omega
          · have h2d : (f s == bst f s) = false := by simp [h2]
            have h2e : decide (f s = bst f s) = false := decide_eq_false h2
            have Hs : Hid (sel f (s + 1) = sel f s) := by show (if _ then _ else _) = _; rw [if_neg h1, if_neg (fun h => h2 h.1)]
            go_wp2_with fail
            go_roundw
            case rel => exact ⟨s + 1, by omega, by go_num, by rw [Hb.out], by rw [Hb.out, Hs.out]; exact hO, hB, hA⟩
            case measure => simp [intOf]; omega
      · obtain rfl : s = 121 := by omega
        obtain ⟨A', c', rfl, hI⟩ := own_ints (hO Hpos.out)
        go_wp2_with fail
        go_ret3
        exact ⟨_, _, rfl, hI.mono (by omega), hB⟩


end TopsW
end Go.Proofs.Ytllcjgladjcoaab
