/-
  FnExactSameSums: for every two lists of arrays of six numbers the law returns true, and both lists read afterwards as they read before. No condition.
-/
import Derived.Test.YtllcjgladjcoaacRows
import Derived.Test.YtllcjgladjcoaacSameW
import Derived.Test.YtllcjgladjcoaacSameS
import Derived.Test.YtllcjgladjcoaacQuietT
import Derived.Test.YtllcjgladjcoaacScaleW
import Derived.Test.YtllcjgladjcoaacTableSM
import Derived.Test.YtllcjgladjcoaacTableIM
import Derived.Test.YtllcjgladjcoaacTableWM
import Derived.Test.YtllcjgladjcoaacTableM
import Derived.Test.YtllcjgladjcoaacSumsM
import Derived.Test.YtllcjgladjcoaacDicesW
import Derived.Test.YtllcjgladjcoaacPoolW
import Derived.Test.YtllcjgladjcoaacAll6
import Derived.Test.YtllcjgladjcoaacSortW
import Derived.Test.YtllcjgladjcoaacOpenD
import Derived.WalkKit
import Derived.WalkLawsBesides
import Derived.WalkSpells
import Derived.ProofKit
import Derived.OpenShut
import Derived.Deep.RegionWith
import Derived.Deep.WholeRow
import Derived.Deep.QuietTactic
import Derived.BigQuiet
namespace Go.Proofs.Ytllcjgladjcoaac
open Go.ChangeShapes Go.WideShapes Go.ChangeAt Go.RowKit
open Go.ChangeMaps (open_string shut_string)

namespace SameP
open Dice Arr OpenD DieW SortW DicesW PoolW SumsW Table TableW TableI TableS All6 ScaleW QuietT SameS SameW

def okS (n m : Nat) (P Q : Nat → Nat → Int) : Bool := isPool n P && isPool m Q
def sameS (n m : Nat) (P Q : Nat → Nat → Int) : Bool := okS n m P Q && decide (agree (scaleTo (T P n) (all6 m) 121) (scaleTo (T Q m) (all6 n) 121) 121)

theorem sz_gen (A : Option Addr) (n c L : Nat) (w : World) (hn : n ≤ maxLen) (hL : L ≤ 1048576) :
    Calls Try.prog 5 #[.slice A n c, .int .i64 L] w fun e w' => e = .returned (.int .i64 (if n ≤ L then L - n else -1)) ∧ w' = w := by
  unfold maxLen at hn
  by_cases h : n ≤ L
  · rw [if_pos h]
    go_enter Try.func5, Try.ntmps5
    go_wp2
    go_ret
    exact ⟨rfl, rfl⟩
  · rw [if_neg h]
    go_enter Try.func5, Try.ntmps5
    go_wp2
    go_ret
    exact ⟨rfl, rfl⟩

set_option maxRecDepth 100000 in
set_option maxHeartbeats 4000000 in
theorem specSame_any (A B : Option Addr) (n m c c' : Nat) (P Q : Nat → Nat → Int) (w : World) (h : Row w A n P) (h' : Row w B m Q) (hn : n ≤ maxLen) (hm : m ≤ maxLen) :
    Calls Try.prog 6 #[.slice A n c, .slice B m c'] w fun e w' => e = .returned (.tuple #[.bool (sameS n m P Q), .bool (okS n m P Q)]) ∧ Below w.heap.size w w' := by
  have hp := fun w h => l2Pool_any A n c P w h hn
  have hp' := fun w h => l2Pool_any B m c' Q w h hm
  unfold sameS okS
  cases hq : isPool n P
  · rw [hq] at hp
    simp only [Bool.false_and]
    have Hp := Lib.hid hp; clear hp hq hp'
    have H := Lib.hid h; clear h h'
    go_enter Try.func6, Try.ntmps6
    go_wp2_with fail
    refine (Hp.out _ H.out).mono ?_
    rintro e w1 ⟨rfl, hb1⟩
    go_wp2_with fail
    go_ret2
    exact ⟨rfl, hb1⟩
  · cases hr : isPool m Q
    · rw [hq] at hp
      rw [hr] at hp'
      simp only [Bool.and_false, Bool.false_and]
      have Hp := Lib.hid hp; clear hp hq
      have Hp' := Lib.hid hp'; clear hp' hr
      have H := Lib.hid h; clear h
      have H' := Lib.hid h'; clear h'
      go_enter Try.func6, Try.ntmps6
      go_wp2_with fail
      refine (Hp.out _ H.out).mono ?_
      rintro e w1 ⟨rfl, hb1⟩
      go_wp2_with fail
      refine (Hp'.out _ (H'.out.up hb1)).mono ?_
      rintro e w2 ⟨rfl, hb2⟩
      go_wp2_with fail
      go_ret2
      exact ⟨rfl, nx hb1 hb2⟩
    · simp only [Bool.and_self, Bool.true_and]
      exact specSame_yes A B n m c c' P Q w h h' hn hm hq hr

theorem tab_split (b : Bool) (f : Nat → Int) : ∃ g, (if b then #[tv f, .bool true] else #[tv fun _ => 0, .bool false] : Array Value) = #[tv g, .bool b] := by
  cases b
  · exact ⟨_, rfl⟩
  · exact ⟨_, rfl⟩

set_option maxRecDepth 100000 in
set_option maxHeartbeats 4000000 in
theorem implSame_any (A B : Option Addr) (n m c c' : Nat) (P Q : Nat → Nat → Int) (w : World) (h : Row w A n P) (h' : Row w B m Q) (hn : n ≤ maxLen) (hm : m ≤ maxLen) :
    Calls Try.prog 8 #[.slice A n c, .slice B m c'] w fun e w' => e = .returned (.tuple #[.bool (sameS n m P Q), .bool (okS n m P Q)]) ∧ Below w.heap.size w w' := by
  by_cases hall : isPool n P = true ∧ isPool m Q = true
  · unfold sameS okS
    rw [hall.1, hall.2]
    simp only [Bool.and_self, Bool.true_and]
    exact implSame_yes A B n m c c' P Q w h h' hn hm hall.1 hall.2
  · have hno : okS n m P Q = false := by
      unfold okS
      cases h1 : isPool n P
      · rfl
      · cases h2 : isPool m Q
        · rfl
        · exact absurd ⟨h1, h2⟩ hall
    have hsn : sameS n m P Q = false := by unfold sameS; rw [hno]; rfl
    rw [hsn, hno]
    unfold okS at hno
    have hp := fun w h => implTable_any A n c P w h hn
    have hp' := fun w h => implTable_any B m c' Q w h hm
    obtain ⟨f, hf⟩ := tab_split (isPool n P) (T P n)
    obtain ⟨g, hg⟩ := tab_split (isPool m Q) (T Q m)
    rw [hf] at hp
    rw [hg] at hp'
    generalize isPool n P = b at hp hno
    generalize isPool m Q = b' at hp' hno
    have Hp := Lib.hid hp; clear hp hf
    have Hp' := Lib.hid hp'; clear hp' hg
    have H := Lib.hid h; clear h
    have H' := Lib.hid h'; clear h'
    have hvf := vals_len 121 f
    have hvg := vals_len 121 g
    clear hall hsn hn hm
    go_enter Try.func8, Try.ntmps8
    go_wp2_with fail
    refine (Hp.out _ H.out).mono ?_
    rintro e w1 ⟨rfl, hb1⟩
    obtain ⟨w2, hst2, hA2, hB2, hK2⟩ := store_ex (fresh w1 (b := w1.heap.size) rfl) f
    have hbl2 : Below w.heap.size w w2 := (na hb1 _).trans (hB2 _ hb1.size)
    clear hB2 hK2
    go_wp2_with fail
    clear hst2
    refine (Hp'.out _ (H'.out.up hbl2)).mono ?_
    rintro e w3 ⟨rfl, hb3⟩
    obtain ⟨w4, hst4, hA4, hB4, hK4⟩ := store_ex (fresh w3 (b := w3.heap.size) rfl) g
    have hbl3 := nx hbl2 hb3
    have hbl4 : Below w.heap.size w w4 := (na hbl3 _).trans (hB4 _ hbl3.size)
    clear hb3 hB4 hK4 hA2 hb1 hbl2 hbl3
    cases b
    all_goals
      cases b'
      all_goals
        first
        | (exact absurd hno (by decide))
        | (go_wp2_with fail
           go_ret2
           exact ⟨rfl, hbl4⟩)

set_option maxHeartbeats 4000000 in
theorem law_any (A B : Option Addr) (n m c c' : Nat) (P Q : Nat → Nat → Int) (w : World) (h : Row w A n P) (hc : n ≤ c) (hm : c ≤ maxLen) (h' : Row w B m Q) (hc' : m ≤ c') (hm' : c' ≤ maxLen) :
    Calls Try.prog 3 #[.slice A n c, .slice B m c'] w fun e w' => e = .returned (.bool true) ∧ Below w.heap.size w w' := by
  have hn : n ≤ maxLen := Nat.le_trans hc hm
  have hn' : m ≤ maxLen := Nat.le_trans hc' hm'
  have hsz := sz_any A n c w hn
  by_cases hbig : n ≤ 1048576
  · rw [if_pos hbig] at hsz
    have hsz' := sz_gen B m c' (1048576 - n) w hn' (by omega)
    rw [show ((1048576 - n : Nat) : Int) = 1048576 - (n : Int) by omega] at hsz'
    have Hsz := Lib.hid hsz; clear hsz
    by_cases hbig' : m ≤ 1048576 - n
    · rw [if_pos hbig'] at hsz'
      have Hsz' := Lib.hid hsz'; clear hsz'
      have hbm : m ≤ 1048576 := by omega
      have hge : decide ((1048576 : Int) - n - m < 0) = false := decide_eq_false (by omega)
      have Ht := Lib.hid (fun w h => toS_any A n c P w h hbig)
      have Ht' := Lib.hid (fun w h => toS_any B m c' Q w h hbm)
      have Hq := Lib.hid (fun A B c c' w h h' => eqS_any A B n c c' P w h h' hn)
      have Hq' := Lib.hid (fun A B c c' w h h' => eqS_any A B m c c' Q w h h' hn')
      have H := Lib.hid h; clear h
      have H' := Lib.hid h'; clear h'
      have Hs := Lib.hid (fun A B c c' w h h' => specSame_any A B n m c c' P Q w h h' hn hn')
      have Hi := Lib.hid (fun A B c c' w h h' => implSame_any A B n m c c' P Q w h h' hn hn')
      generalize sameS n m P Q = x at Hs Hi
      generalize okS n m P Q = b at Hs Hi
      clear hc hm hn hc' hm' hn'
      go_enter Try.func3, Try.ntmps3
      go_wp2_with fail
      refine Hsz.out.mono ?_
      rintro e w0 ⟨rfl, rfl⟩
      go_wp2_with fail
      refine Hsz'.out.mono ?_
      rintro e w0' ⟨rfl, rfl⟩
      go_wp2_with fail
      refine (Ht.out _ H.out).mono ?_
      rintro e w1 ⟨g1, rfl, hg1, hA1, hb1⟩
      go_wp2_with fail
      refine (Ht'.out _ (H'.out.up hb1)).mono ?_
      rintro e w2 ⟨g2, rfl, hg2, hA2, hb2⟩
      have hB2 := nx hb1 hb2
      go_wp2_with fail
      refine (Hs.out _ _ _ _ _ (row_of_at (hA1.up hb2)) (row_of_at hA2)).mono ?_
      rintro e w3 ⟨rfl, hb3⟩
      have hB3 := nx hB2 hb3
      go_wp2_with fail
      refine (Ht.out _ (H.out.up hB3)).mono ?_
      rintro e w4 ⟨g4, rfl, hg4, hA4, hb4⟩
      have hB4 := nx hB3 hb4
      go_wp2_with fail
      refine (Ht'.out _ (H'.out.up hB4)).mono ?_
      rintro e w5 ⟨g5, rfl, hg5, hA5, hb5⟩
      have hB5 := nx hB4 hb5
      have hA4' := hA4.up hb5
      go_wp2_with fail
      refine (Hi.out _ _ _ _ _ (row_of_at hA4') (row_of_at hA5)).mono ?_
      rintro e w6 ⟨rfl, hb6⟩
      have hB6 := nx hB5 hb6
      have hX := hA4'.up hb6
      have hY := hA5.up hb6
      clear hA1 hb1 hA2 hb2 hB2 hb3 hB3 hA4 hb4 hB4 hA5 hb5 hB5 hA4' hb6
      cases x
      all_goals
        cases b
        all_goals
          go_wp2_with fail
          refine (Ht.out _ (H.out.up hB6)).mono ?_
          rintro e w7 ⟨g7, rfl, hg7, hA7, hb7⟩
          have hX7 := hX.up hb7
          have hY7 := hY.up hb7
          have hB7 := nx hB6 hb7
          go_wp2_with fail
          refine (Hq.out _ _ _ _ _ (row_of_at hX7) (row_of_at hA7)).mono ?_
          rintro e w8 ⟨rfl, hb8⟩
          have hY8 := hY7.up hb8
          have hB8 := nx hB7 hb8
          go_wp2_with fail
          refine (Ht'.out _ (H'.out.up hB8)).mono ?_
          rintro e w9 ⟨g9, rfl, hg9, hA9, hb9⟩
          have hY9 := hY8.up hb9
          have hB9 := nx hB8 hb9
          go_wp2_with fail
          refine (Hq'.out _ _ _ _ _ (row_of_at hY9) (row_of_at hA9)).mono ?_
          rintro e w10 ⟨rfl, hb10⟩
          go_wp2_with fail
          go_ret
          exact ⟨rfl, nx hB9 hb10⟩
    · rw [if_neg hbig'] at hsz'
      have Hsz' := Lib.hid hsz'; clear hsz'
      clear h hc hm hn h' hc' hm' hn' hbig'
      go_enter Try.func3, Try.ntmps3
      go_wp2_with fail
      refine Hsz.out.mono ?_
      rintro e w0 ⟨rfl, rfl⟩
      go_wp2_with fail
      refine Hsz'.out.mono ?_
      rintro e w0' ⟨rfl, rfl⟩
      go_wp2_with fail
      go_ret
      exact ⟨rfl, n0 _⟩
  · rw [if_neg hbig] at hsz
    have Hsz := Lib.hid hsz; clear hsz
    clear h hbig hc hm hn h' hc' hm' hn'
    go_enter Try.func3, Try.ntmps3
    go_wp2_with fail
    refine Hsz.out.mono ?_
    rintro e w0 ⟨rfl, rfl⟩
    go_wp2_with fail
    go_ret
    exact ⟨rfl, n0 _⟩

theorem laidOut : laidOutB Try.prog = true := by kernel_rfl
/-- What the walk gives, for every argument. -/
theorem contract (H : Type) (enc : TypeId × Value → H) (W : World) (base : Nat) (args : Array Value) (ds gs : List (DataW H)) (before : List MemPlace)
    (hval : ∀ (j : Nat) t v, Try.f3.params[j]? = some t → args[j]? = some v → Value.okWide Try.prog W .any base t v)
    (hW : DataW.Whole enc Try.prog Try.f3.params.toList Rows.fnExactSameSumsSpec.vars false W args.toList ds gs before) :
    Calls Try.prog 3 args W fun e W' => ∃ v, e = .returned v ∧ Rows.fnExactSameSumsSpec.post enc Try.prog Try.f3 false true false false W args v W' := by
  have hW' := hW
  obtain ⟨p, q, hA0, hV, rfl, hfz, hnd⟩ := hW
  have hA : DataW.TrodAll enc Try.prog W 0 (fun _ => true) true Try.f3.params.toList args.toList ds p := hA0
  rw [Try.params3] at hA hval
  obtain ⟨v0, vs0, d0, ds0, p0, q0, hargs, rfl, rfl, h0, r0⟩ := trodAll_cons hA
  obtain ⟨v1, vs1, d1, ds1, p1, q1, rfl, rfl, rfl, h1, r1⟩ := trodAll_cons r0
  obtain ⟨rfl, rfl, rfl⟩ := trodAll_nil r1
  obtain rfl : args = #[v0, v1] := by cases args; simp_all
  obtain ⟨rfl, rfl⟩ := trodVars_none hV
  obtain ⟨A0, n0, c0, rfl⟩ := okWide_slice Try.underlying22 (hval 0 22 v0 rfl rfl)
  have k0 := h0
  have lt0 : ∀ x ∈ p0, x.block < W.heap.size := fun x hx => by have := hW'.lt x (by simp [hx]); simpa using this
  obtain ⟨fu0, hf0⟩ := h0
  obtain ⟨a0, ht0, hc0, hm0, w0⟩ := OpenD.dice_of hf0 lt0
  obtain ⟨A1, n1, c1, rfl⟩ := okWide_slice Try.underlying22 (hval 1 22 v1 rfl rfl)
  have k1 := h1
  have lt1 : ∀ x ∈ p1, x.block < W.heap.size := fun x hx => by have := hW'.lt x (by simp [hx]); simpa using this
  obtain ⟨fu1, hf1⟩ := h1
  obtain ⟨a1, ht1, hc1, hm1, w1⟩ := OpenD.dice_of hf1 lt1
  clear hA0
  simp only [List.append_nil] at hW'
  refine (law_any A0 A1 n0 n1 c0 c1 a0 a1 W ht0 hc0 hm0 ht1 hc1 hm1).mono fun e W' ⟨he, hg⟩ => ?_
  subst he
  exact ⟨_, rfl, _, _, _, [], (p0 ++ (p1 ++ [])), [], hW', trodAll_cons_mk (shut_bool Try.underlying4 _) trodAll_mk0, trodAll_cons_mk (Below.trod laidOut (by kernel_rfl) (of_decide_eq_true (by kernel_rfl)) k0 hg lt0) (trodAll_cons_mk (Below.trod laidOut (by kernel_rfl) (of_decide_eq_true (by kernel_rfl)) k1 hg lt1) trodAll_mk0), rfl, hg.frame _, fun h => by cases h⟩

theorem own : ownKnob Try.prog.godebug = none := by kernel_rfl

set_option maxRecDepth 100000 in
theorem lifted (os : Os) (started : os.Started) (H : Type) (enc : TypeId × Value → H) :
    ReturnsInHanded {} Try.checked os 3 .any (Rows.fnExactSameSumsSpec.pre6 enc Try.prog Try.f3 Rows.fnExactSameSumsRow.domain false) (Rows.fnExactSameSumsSpec.post enc Try.prog Try.f3 false true false false) := by
  refine returnsInHanded_of_change (C := Try.checked) own started (by kernel_rfl) Try.func3
    (ChangeSpec.witness6 (enc := enc) (C := Try.checked) false ⟨#[], #[.slice none 0 0, .slice none 0 0], []⟩ 8 (by kernel_rfl) (by kernel_rfl) (by kernel_rfl) (by kernel_rfl)) ?_
  intro W base args ds gs before hval hW _ _
  exact contract H enc W base args ds gs before hval hW

theorem holds : Rows.FnExactSameSumsSaid :=
  OpenClaim.holds_of_wide 3 Try.f3 rfl rfl rfl rfl rfl rfl rfl ⟨rfl, rfl, rfl, rfl, rfl⟩ rfl rfl rfl rfl rfl (by kernel_rfl) Try.func3 (by kernel_rfl)
    (of_decide_eq_true (by kernel_rfl)) (by unfold Func.isWrapper; rw [if_neg (by decide +kernel)]; exact ⟨rfl, rfl⟩)
    (fun os started H enc _ => lifted os started H enc)

end SameP
end Go.Proofs.Ytllcjgladjcoaac
