/-
  FnExactBoundsOf: for every list of arrays of six numbers the law returns true, and the list reads afterwards as it read before. No condition.
-/
import Derived.Test.YtllcjgladjcoaabRows
import Derived.Test.YtllcjgladjcoaabSumsW
import Derived.Test.YtllcjgladjcoaabDicesW
import Derived.Test.YtllcjgladjcoaabOpenD
import Derived.WalkKit
import Derived.WalkLawsBesides
import Derived.WalkSpells
import Derived.ProofKit
import Derived.OpenShut
import Derived.Deep.RegionWith
import Derived.Deep.QuietTactic
import Derived.BigQuiet
namespace Go.Proofs.Ytllcjgladjcoaab
open Go.ChangeShapes Go.WideShapes Go.ChangeAt Go.RowKit
open Go.ChangeMaps (open_string shut_string)

namespace BoundsP
open Dice Arr OpenD DieW SortW DicesW PoolW FracW SumsW

def lo (d : Nat → Int) : Int := d 0
def hiF (d : Nat → Int) : Int := d 5
theorem lo_bound {d : Nat → Int} (h : isDie d = true) : 0 ≤ lo d ∧ lo d ≤ 100000 := by
  have := (of_decide_eq_true h : upto d 6) 0 (by omega)
  unfold lo
  omega
theorem hi_bound {d : Nat → Int} (h : isDie d = true) : 0 ≤ hiF d ∧ hiF d ≤ 100000 := by
  have := (of_decide_eq_true h : upto d 6) 5 (by omega)
  unfold hiF
  omega
set_option maxHeartbeats 2000000 in
theorem impl_any (A : Option Addr) (n c : Nat) (P : Nat → Nat → Int) (w : World) (h : Row w A n P) (hn : n ≤ maxLen) :
    Calls Try.prog 33 #[.slice A n c] w fun e w' => e = .returned (.tuple (if isPool n P then #[.int .i64 (tot lo P n), .int .i64 (tot hiF P n), .bool true] else #[.int .i64 0, .int .i64 0, .bool false])) ∧ Below w.heap.size w w' := by
  have hp := fun w h => implIsPool_any A n c P w h hn
  cases hq : isPool n P
  · rw [hq] at hp
    simp only [Bool.false_eq_true, ↓reduceIte]
    have Hp := Lib.hid hp; clear hp hq
    go_enter Try.func33, Try.ntmps33
    go_wp2_with fail
    refine (Hp.out _ h).mono ?_
    rintro e w1 ⟨rfl, hb⟩
    go_wp2_with fail
    go_ret3
    exact ⟨rfl, hb⟩
  · obtain ⟨h1, h4, hd⟩ := of_pool hq
    rw [hq] at hp
    simp only [↓reduceIte]
    have hl := fun w h => addUp_least lo A n c P w h h4 (fun i hi => lo_bound (hd i hi)) fun i hi w => least_any (P i) w
    have hg := fun w h => addUp_greatest hiF A n c P w h h4 (fun i hi => hi_bound (hd i hi)) fun i hi w => greatest_any (P i) w
    have Hp := Lib.hid hp; clear hp hq
    have Hl := Lib.hid hl; clear hl
    have Hg := Lib.hid hg; clear hg
    have H := Lib.hid h; clear h
    clear hd hn
    go_enter Try.func33, Try.ntmps33
    go_wp2_with fail
    refine (Hp.out _ H.out).mono ?_
    rintro e w1 ⟨rfl, hb1⟩
    go_wp2_with fail
    refine (Hl.out _ (H.out.up hb1)).mono ?_
    rintro e w2 ⟨rfl, hb2⟩
    have hB2 := nx hb1 hb2
    go_wp2_with fail
    refine (Hg.out _ (H.out.up hB2)).mono ?_
    rintro e w3 ⟨rfl, hb3⟩
    go_wp2_with fail
    go_ret3
    exact ⟨rfl, nx hB2 hb3⟩

set_option maxHeartbeats 2000000 in
theorem spec_any (A : Option Addr) (n c : Nat) (P : Nat → Nat → Int) (w : World) (h : Row w A n P) (hn : n ≤ maxLen) :
    Calls Try.prog 32 #[.slice A n c] w fun e w' => e = .returned (.tuple (if isPool n P then #[.int .i64 (tot lo P n), .int .i64 (tot hiF P n), .bool true] else #[.int .i64 0, .int .i64 0, .bool false])) ∧ Below w.heap.size w w' := by
  have hp := fun w h => l2Pool_any A n c P w h hn
  cases hq : isPool n P
  · rw [hq] at hp
    simp only [Bool.false_eq_true, ↓reduceIte]
    have Hp := Lib.hid hp; clear hp hq
    go_enter Try.func32, Try.ntmps32
    go_wp2_with fail
    refine (Hp.out _ h).mono ?_
    rintro e w1 ⟨rfl, hb⟩
    go_wp2_with fail
    go_ret3
    exact ⟨rfl, hb⟩
  · obtain ⟨h1, h4, hd⟩ := of_pool hq
    rw [hq] at hp
    simp only [↓reduceIte]
    have Hp := Lib.hid hp; clear hp hq
    have H := Lib.hid h; clear h
    have Hlo := Lib.hid (tot_bound (F := lo) (P := P) (n := n) fun i hi => lo_bound (hd i hi))
    have Hhi := Lib.hid (tot_bound (F := hiF) (P := P) (n := n) fun i h => hi_bound (hd i h))
    have Hd := Lib.hid hd; clear hd
    clear hn
    go_enter Try.func32, Try.ntmps32
    go_wp2_with fail
    refine (Hp.out _ H.out).mono ?_
    rintro e w1 ⟨rfl, hb1⟩
    go_wp2_with fail
    go_loopw [5, 6, 7] (fun a b iv wr => ∃ i : Nat, i ≤ n ∧ iv = .int .i64 i ∧ a = .int .i64 (tot lo P i) ∧ b = .int .i64 (tot hiF P i) ∧ Below w.heap.size w wr) (fun _ _ iv _ => n - (intOf iv).toNat)
    case atStart => exact ⟨0, by omega, rfl, rfl, rfl, hb1⟩
    case round =>
      clear hb1
      obtain ⟨i, hi, rfl, rfl, rfl, hb⟩ := hrel
      by_cases hlt : i < n
      · obtain ⟨bk, o, rfl, hbk, hc⟩ := (H.out.below (Nat.le_refl _) hb).at_ hlt
        have k0 := hc 0 (by omega)
        have k5 := hc 5 (by omega)
        simp only [← Nat.add_assoc, Nat.add_zero] at k0 k5
        have b1 := Hlo.out i hi
        have b2 := Hhi.out i hi
        have u0 := (of_decide_eq_true (Hd.out i hlt) : upto (P i) 6) 0 (by omega)
        have u5 := (of_decide_eq_true (Hd.out i hlt) : upto (P i) 6) 5 (by omega)
        have e1 : tot lo P (i + 1) = tot lo P i + P i 0 := rfl
        have e2 : tot hiF P (i + 1) = tot hiF P i + P i 5 := rfl
        have E1 := Lib.hid e1; clear e1
        have E2 := Lib.hid e2; clear e2
        clear hc
        go_wp2_with fail
        go_roundw
        case rel => exact ⟨i + 1, by omega, by go_num, by rw [E1.out], by rw [E2.out], hb⟩
        case measure => simp [intOf]; omega
      · obtain rfl : i = n := by omega
        go_wp2_with fail
        go_ret3
        exact ⟨rfl, hb⟩

set_option maxHeartbeats 4000000 in
theorem law_any (A : Option Addr) (n c : Nat) (P : Nat → Nat → Int) (w : World) (h : Row w A n P) (hc : n ≤ c) (hm : c ≤ maxLen) (_ : ∀ i, i < n → ∀ k, k < 6 → fit (P i k)) :
    Calls Try.prog 9 #[.slice A n c] w fun e w' => e = .returned (.bool true) ∧ Below w.heap.size w w' := by

  have hn : n ≤ maxLen := Nat.le_trans hc hm
  have hsz := sz_any A n c w hn
  by_cases hbig : n ≤ 1048576
  · rw [if_pos hbig] at hsz
    have Hsz := Lib.hid hsz; clear hsz
    have Ht := Lib.hid (fun w h => toS_any A n c P w h hbig)
    have Hq := Lib.hid (fun A B c c' w h h' => eqS_any A B n c c' P w h h' hn)
    have H := Lib.hid h; clear h
    obtain ⟨x, y, b, ho⟩ : ∃ x y b, (if isPool n P then #[.int .i64 (tot lo P n), .int .i64 (tot hiF P n), .bool true] else #[.int .i64 0, .int .i64 0, .bool false] : Array Value) = #[.int .i64 x, .int .i64 y, .bool b] := by
      cases isPool n P
      · exact ⟨0, 0, false, rfl⟩
      · exact ⟨_, _, true, rfl⟩
    have hs := fun A c w h => spec_any A n c P w h hn
    have hi := fun A c w h => impl_any A n c P w h hn
    rw [ho] at hs hi
    have Hs := Lib.hid hs; clear hs
    have Hi := Lib.hid hi; clear hi
    clear ho
    clear hc hm hn
    go_enter Try.func9, Try.ntmps9
    go_wp2_with fail
    refine Hsz.out.mono ?_
    rintro e w0 ⟨rfl, rfl⟩
    go_wp2_with fail
    refine (Ht.out _ H.out).mono ?_
    rintro e w1 ⟨g1, rfl, hg1, hA1, hb1⟩
    go_wp2_with fail
    refine (Hs.out _ _ _ (row_of_at hA1)).mono ?_
    rintro e w2 ⟨rfl, hb2⟩
    have hB2 := nx hb1 hb2
    go_wp2_with fail
    refine (Ht.out _ (H.out.up hB2)).mono ?_
    rintro e w3 ⟨g3, rfl, hg3, hA3, hb3⟩
    have hB3 := nx hB2 hb3
    go_wp2_with fail
    refine (Hi.out _ _ _ (row_of_at hA3)).mono ?_
    rintro e w4 ⟨rfl, hb4⟩
    have hB4 := nx hB3 hb4
    have hA4 := hA3.up hb4
    clear hA1 hb1 hb2 hb3 hb4 hB2 hB3 hA3
    cases b
    all_goals
      go_wp2_with fail
      refine (Ht.out _ (H.out.up hB4)).mono ?_
      rintro e w5 ⟨g5, rfl, hg5, hA5, hb5⟩
      have hA5' := hA4.up hb5
      go_wp2_with fail
      refine (Hq.out _ _ _ _ _ (row_of_at hA5') (row_of_at hA5)).mono ?_
      rintro e w6 ⟨rfl, hb6⟩
      go_wp2_with fail
      go_ret
      exact ⟨rfl, nx (nx hB4 hb5) hb6⟩
  · rw [if_neg hbig] at hsz
    have Hsz := Lib.hid hsz; clear hsz
    clear h hbig hc hm hn
    go_enter Try.func9, Try.ntmps9
    go_wp2_with fail
    refine Hsz.out.mono ?_
    rintro e w0 ⟨rfl, rfl⟩
    go_wp2_with fail
    go_ret
    exact ⟨rfl, n0 _⟩

theorem laidOut : laidOutB Try.prog = true := by kernel_rfl
/-- What the walk gives, for every argument. -/
theorem contract (H : Type) (enc : TypeId × Value → H) (W : World) (base : Nat) (args : Array Value) (ds gs : List (DataW H)) (before : List MemPlace)
    (hval : ∀ (j : Nat) t v, Try.f9.params[j]? = some t → args[j]? = some v → Value.okWide Try.prog W .any base t v)
    (hW : DataW.Whole enc Try.prog Try.f9.params.toList Rows.fnExactBoundsOfSpec.vars false W args.toList ds gs before) :
    Calls Try.prog 9 args W fun e W' => ∃ v, e = .returned v ∧ Rows.fnExactBoundsOfSpec.post enc Try.prog Try.f9 false true false false W args v W' := by
  have hW' := hW
  obtain ⟨p, q, hA0, hV, rfl, hfz, hnd⟩ := hW
  have hA : DataW.TrodAll enc Try.prog W 0 (fun _ => true) true Try.f9.params.toList args.toList ds p := hA0
  rw [Try.params9] at hA hval
  obtain ⟨v0, vs0, d0, ds0, p0, q0, hargs, rfl, rfl, h0, r0⟩ := trodAll_cons hA
  obtain ⟨rfl, rfl, rfl⟩ := trodAll_nil r0
  obtain rfl : args = #[v0] := by cases args; simp_all
  obtain ⟨rfl, rfl⟩ := trodVars_none hV
  obtain ⟨A0, n0, c0, rfl⟩ := okWide_slice Try.underlying22 (hval 0 22 v0 rfl rfl)
  have k0 := h0
  have lt0 : ∀ x ∈ p0, x.block < W.heap.size := fun x hx => by have := hW'.lt x (by simp [hx]); simpa using this
  obtain ⟨fu0, hf0⟩ := h0
  obtain ⟨a0, ht0, hc0, hm0, w0⟩ := OpenD.dice_of hf0 lt0
  clear hA0
  simp only [List.append_nil] at hW'
  refine (law_any A0 n0 c0 a0 W ht0 hc0 hm0 w0).mono fun e W' ⟨he, hg⟩ => ?_
  subst he
  exact ⟨_, rfl, _, _, _, [], (p0 ++ []), [], hW', trodAll_cons_mk (shut_bool Try.underlying4 _) trodAll_mk0, trodAll_cons_mk (Below.trod laidOut (by kernel_rfl) (of_decide_eq_true (by kernel_rfl)) k0 hg lt0) trodAll_mk0, rfl, hg.frame _, fun h => by cases h⟩

theorem own : ownKnob Try.prog.godebug = none := by kernel_rfl

set_option maxRecDepth 100000 in
theorem lifted (os : Os) (started : os.Started) (H : Type) (enc : TypeId × Value → H) :
    ReturnsInHanded {} Try.checked os 9 .any (Rows.fnExactBoundsOfSpec.pre6 enc Try.prog Try.f9 Rows.fnExactBoundsOfRow.domain false) (Rows.fnExactBoundsOfSpec.post enc Try.prog Try.f9 false true false false) := by
  refine returnsInHanded_of_change (C := Try.checked) own started (by kernel_rfl) Try.func9
    (ChangeSpec.witness6 (enc := enc) (C := Try.checked) false ⟨#[], #[.slice none 0 0], []⟩ 8 (by kernel_rfl) (by kernel_rfl) (by kernel_rfl) (by kernel_rfl)) ?_
  intro W base args ds gs before hval hW _ _
  exact contract H enc W base args ds gs before hval hW

theorem holds : Rows.FnExactBoundsOfSaid :=
  OpenClaim.holds_of_wide 9 Try.f9 rfl rfl rfl rfl rfl rfl rfl ⟨rfl, rfl, rfl, rfl, rfl⟩ rfl rfl rfl rfl rfl (by kernel_rfl) Try.func9 (by kernel_rfl)
    (of_decide_eq_true (by kernel_rfl)) (by unfold Func.isWrapper; rw [if_neg (by decide +kernel)]; exact ⟨rfl, rfl⟩)
    (fun os started H enc _ => lifted os started H enc)

end BoundsP
end Go.Proofs.Ytllcjgladjcoaab
