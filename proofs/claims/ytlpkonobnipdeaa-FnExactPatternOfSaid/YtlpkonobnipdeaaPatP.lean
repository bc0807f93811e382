/-
  FnExactPatternOf: for every list of arrays of six numbers and every number the law returns true, and the list reads afterwards as it read before. No condition.
-/
import Derived.Test.YtlpkonobnipdeaaRows
import Derived.Test.YtlpkonobnipdeaaPatI
import Derived.Test.YtlpkonobnipdeaaPatS
import Derived.Test.YtlpkonobnipdeaaSortDn
import Derived.Test.YtlpkonobnipdeaaFour
import Derived.Test.YtlpkonobnipdeaaPatM
import Derived.Test.YtlpkonobnipdeaaPlaces
import Derived.Test.YtlpkonobnipdeaaRollWM
import Derived.Test.YtlpkonobnipdeaaIntsM
import Derived.Test.YtlpkonobnipdeaaPoolW
import Derived.Test.YtlpkonobnipdeaaAll6
import Derived.Test.YtlpkonobnipdeaaDicesW
import Derived.Test.YtlpkonobnipdeaaOpenD
import Derived.WalkKit
import Derived.WalkLawsBesides
import Derived.WalkSpells
import Derived.ProofKit
import Derived.OpenShut
import Derived.Deep.RegionWith
import Derived.Deep.QuietTactic
import Derived.BigQuiet
namespace Go.Proofs.Ytlpkonobnipdeaa
open Go.ChangeShapes Go.WideShapes Go.ChangeAt Go.RowKit
open Go.ChangeMaps (open_string shut_string)

namespace PatP
open Dice Arr OpenD DieW SortW DicesW PoolW All6 IntsW RollW Places PatM SortDn Four PatI PatS

theorem len_of_ok {n : Nat} {P : Nat → Nat → Int} {k : Int} (h : okR n P k = true) : 0 < n ∧ n ≤ 4 := by
  unfold okR at h
  simp only [Bool.and_eq_true] at h
  obtain ⟨h1, h4, _⟩ := of_pool h.1
  exact ⟨h1, h4⟩

set_option maxHeartbeats 4000000 in
theorem specPattern_any (A : Option Addr) (n c : Nat) (k : Int) (P : Nat → Nat → Int) (w : World) (h : Row w A n P) (hn : n ≤ maxLen) :
    Calls Try.prog 38 #[.slice A n c, .int .i64 k] w fun e w' => e = .returned (.tuple (if okR n P k then #[v4 (pat (rollF P k.toNat n) n), .bool true] else #[v4 fun _ => 0, .bool false])) ∧ Below w.heap.size w w' := by
  have Hr := Lib.hid (fun w h => specRoll_any A n c k P w h hn)
  have H := Lib.hid h; clear h
  have hR := At.new4 w (fun _ => 0) 40 (b := w.heap.size) rfl
  cases hq : okR n P k
  · have hl : lenR n P k = 0 := by unfold lenR; rw [hq]; rfl
    rw [hl, hq] at Hr
    simp only [Bool.false_eq_true, ↓reduceIte]
    clear hq hl
    go_enter Try.func38, Try.ntmps38
    go_wp2_with fail
    refine (Hr.out _ (H.out.up (na (n0 w) _))).mono ?_
    rintro e w1 ⟨A', c', rfl, hI, hb⟩
    have hbl := nx (na (n0 w) _) hb
    have hA := hR.up hb
    obtain ⟨e0, e1, e2, e3⟩ := At.four hA
    obtain ⟨z0, z1, z2, z3⟩ := At.freefour hA
    clear hb hI
    go_wp2_with fail
    refine ret_cell_tmp (b := w.heap.size) (n := 4) (f := fun _ => 0) Try.results38 rfl rfl Try.underlying40 (by kernel_rfl) (hA.stored (fun _ => 0)) rfl ⟨rfl, ?_⟩
    exact hbl.trans (setCells_below (w := w1) (p := w.heap.size) (B := w.heap.size) (Nat.le_refl _) (vals 4 fun _ => 0) 0)
  · obtain ⟨h1, h4⟩ := len_of_ok hq
    have hl : lenR n P k = n := by unfold lenR; rw [hq]; rfl
    rw [hl, hq] at Hr
    simp only [↓reduceIte]
    clear hq hl
    generalize rollF P k.toNat n = f at Hr
    have Hp := Lib.hid (fun b c w h => l4Pattern_any b n c f w h h4)
    go_enter Try.func38, Try.ntmps38
    go_wp2_with fail
    refine (Hr.out _ (H.out.up (na (n0 w) _))).mono ?_
    rintro e w1 ⟨A', c', rfl, hI, hb⟩
    obtain ⟨b, rfl, hbb, hat⟩ := hI.at_ (k := 0) h1
    have hbl := nx (na (n0 w) _) hb
    have hA := hR.up hb
    clear hb hI
    go_wp2_with fail
    refine (Hp.out _ _ _ hat).mono ?_
    rintro e w2 ⟨rfl, hb2⟩
    have hbl2 := nx hbl hb2
    have hA2 := hA.up hb2
    obtain ⟨e0, e1, e2, e3⟩ := At.four hA2
    obtain ⟨z0, z1, z2, z3⟩ := At.freefour hA2
    clear hb2 hA hat
    go_wp2_with fail
    refine ret_cell_tmp (b := w.heap.size) (n := 4) (f := pat f n) Try.results38 rfl rfl Try.underlying40 (by kernel_rfl) (hA2.stored (pat f n)) rfl ⟨rfl, ?_⟩
    exact hbl2.trans (setCells_below (w := w2) (p := w.heap.size) (B := w.heap.size) (Nat.le_refl _) (vals 4 (pat f n)) 0)

set_option maxHeartbeats 4000000 in
theorem implPattern_any (A : Option Addr) (n c : Nat) (k : Int) (P : Nat → Nat → Int) (w : World) (h : Row w A n P) (hn : n ≤ maxLen) :
    Calls Try.prog 37 #[.slice A n c, .int .i64 k] w fun e w' => e = .returned (.tuple (if okR n P k then #[v4 (pat (rollF P k.toNat n) n), .bool true] else #[v4 fun _ => 0, .bool false])) ∧ Below w.heap.size w w' := by
  have Hr := Lib.hid (fun w h => implRoll_any A n c k P w h hn)
  have H := Lib.hid h; clear h
  have hR := At.new4 w (fun _ => 0) 40 (b := w.heap.size) rfl
  cases hq : okR n P k
  · have hl : lenR n P k = 0 := by unfold lenR; rw [hq]; rfl
    rw [hl, hq] at Hr
    simp only [Bool.false_eq_true, ↓reduceIte]
    clear hq hl
    go_enter Try.func37, Try.ntmps37
    go_wp2_with fail
    refine (Hr.out _ (H.out.up (na (n0 w) _))).mono ?_
    rintro e w1 ⟨A', c', rfl, hI, hb⟩
    have hbl := nx (na (n0 w) _) hb
    have hA := hR.up hb
    obtain ⟨e0, e1, e2, e3⟩ := At.four hA
    obtain ⟨z0, z1, z2, z3⟩ := At.freefour hA
    clear hb hI
    go_wp2_with fail
    refine ret_cell_tmp (b := w.heap.size) (n := 4) (f := fun _ => 0) Try.results37 rfl rfl Try.underlying40 (by kernel_rfl) (hA.stored (fun _ => 0)) rfl ⟨rfl, ?_⟩
    exact hbl.trans (setCells_below (w := w1) (p := w.heap.size) (B := w.heap.size) (Nat.le_refl _) (vals 4 fun _ => 0) 0)
  · obtain ⟨h1, h4⟩ := len_of_ok hq
    have hl : lenR n P k = n := by unfold lenR; rw [hq]; rfl
    rw [hl, hq] at Hr
    simp only [↓reduceIte]
    clear hq hl
    generalize rollF P k.toNat n = f at Hr
    have Hd := Lib.hid (fun b c w h => sortDown_any b 0 n c n f w h (by omega) (by omega))
    have Hp := Lib.hid (fun b c w h => patternOf_any b 0 n c n (seg f 0 n) w h (by omega) h4)
    have he : ds (gt (fun j => seg f 0 n (0 + j)) n) 4 = pat f n := funext fun k => by
      unfold pat
      rw [gt_congr (q := ds f n) (n := n) (fun j hj => by rw [seg_in hj]; exact ds_congr (fun i _ => by rw [Nat.zero_add]) j) n (Nat.le_refl _)]
    rw [he] at Hp
    clear he
    go_enter Try.func37, Try.ntmps37
    go_wp2_with fail
    refine (Hr.out _ (H.out.up (na (n0 w) _))).mono ?_
    rintro e w1 ⟨A', c', rfl, hI, hb⟩
    obtain ⟨b, rfl, hbb, hat⟩ := hI.at_ (k := 0) h1
    have hbl := nx (na (n0 w) _) hb
    have hA := hR.up hb
    have hlt := hR.lt
    clear hb hI
    go_wp2_with fail
    refine (Hd.out _ _ _ hat).mono ?_
    rintro e w2 ⟨rfl, hat2, hb2, hk2⟩
    have hbl2 := hbl.trans (hb2 _ (by rw [size_alloc] at hbb; omega))
    have hA2 := hk2 _ _ _ (by rw [size_alloc] at hbb; omega) hA
    clear hat hb2 hk2 hA hbl
    go_wp2_with fail
    refine (Hp.out _ _ _ hat2).mono ?_
    rintro e w3 ⟨rfl, hb3⟩
    have hbl3 := nx hbl2 hb3
    have hA3 := hA2.up hb3
    obtain ⟨e0, e1, e2, e3⟩ := At.four hA3
    obtain ⟨z0, z1, z2, z3⟩ := At.freefour hA3
    clear hb3 hA2 hat2
    go_wp2_with fail
    refine ret_cell_tmp (b := w.heap.size) (n := 4) (f := pat f n) Try.results37 rfl rfl Try.underlying40 (by kernel_rfl) (hA3.stored (pat f n)) rfl ⟨rfl, ?_⟩
    exact hbl3.trans (setCells_below (w := w3) (p := w.heap.size) (B := w.heap.size) (Nat.le_refl _) (vals 4 (pat f n)) 0)

set_option maxHeartbeats 4000000 in
theorem law_any (A : Option Addr) (n c : Nat) (P : Nat → Nat → Int) (k : Int) (w : World) (h : Row w A n P) (hc : n ≤ c) (hm : c ≤ maxLen) (_ : ∀ i, i < n → ∀ k, k < 6 → fit (P i k)) :
    Calls Try.prog 14 #[.slice A n c, .int .i64 k] w fun e w' => e = .returned (.bool true) ∧ Below w.heap.size w w' := by
  have hn : n ≤ maxLen := Nat.le_trans hc hm
  have hsz := sz_any A n c w hn
  by_cases hbig : n ≤ 1048576
  · rw [if_pos hbig] at hsz
    have Hsz := Lib.hid hsz; clear hsz
    have Ht := Lib.hid (fun w h => toS_any A n c P w h hbig)
    have Hq := Lib.hid (fun A B c c' w h h' => eqS_any A B n c c' P w h h' hn)
    have H := Lib.hid h; clear h
    obtain ⟨r, b, ho⟩ : ∃ r b, (if okR n P k then #[v4 (pat (rollF P k.toNat n) n), .bool true] else #[v4 fun _ => 0, .bool false] : Array Value) = #[v4 r, .bool b] := by
      cases okR n P k
      · exact ⟨fun _ => 0, false, rfl⟩
      · exact ⟨_, true, rfl⟩
    have hs := fun A c w h => specPattern_any A n c k P w h hn
    have hi := fun A c w h => implPattern_any A n c k P w h hn
    rw [ho] at hs hi
    have Hs := Lib.hid hs; clear hs
    have Hi := Lib.hid hi; clear hi
    clear ho
    have Hq4 := Lib.hid (fun w => eqA4_any r w)
    clear hc hm hn
    go_enter Try.func14, Try.ntmps14
    go_wp2_with fail
    refine Hsz.out.mono ?_
    rintro e w0 ⟨rfl, rfl⟩
    go_wp2_with fail
    refine (Ht.out _ H.out).mono ?_
    rintro e w1 ⟨g1, rfl, hg1, hA1, hb1⟩
    go_wp2_with fail
    refine (Hs.out _ _ _ (row_of_at hA1)).mono ?_
    rintro e w2 ⟨rfl, hb2⟩
    have hB2 := nx hb1 hb2
    have hW2 := (fun w => At.new4 w r 40 rfl) w2
    go_wp2_with fail
    refine (Ht.out _ (H.out.up (na hB2 _))).mono ?_
    rintro e w3 ⟨g3, rfl, hg3, hA3, hb3⟩
    have hB3 := nx (na hB2 _) hb3
    have hW3 := hW2.up hb3
    go_wp2_with fail
    refine (Hi.out _ _ _ (row_of_at hA3)).mono ?_
    rintro e w4 ⟨rfl, hb4⟩
    have hB4 := nx hB3 hb4
    have hA4 := hA3.up hb4
    have hW0 := hW3.up hb4
    have hlt0 := hW0.lt
    clear hA1 hb1 hb2 hb3 hb4 hB2 hB3 hA3 hW2 hW3
    obtain ⟨x0, x1, x2, x3⟩ := At.four hW0
    go_wp2_with fail
    refine (Hq4.out _).mono ?_
    rintro e w5 ⟨rfl, hb5⟩
    have hBx := nx (na hB4 _) hb5
    have hAx := (hA4.past _).up hb5
    clear hb5 hB4 hA4
    cases b
    all_goals
      go_wp2_with fail
      refine (Ht.out _ (H.out.up hBx)).mono ?_
      rintro e w8 ⟨g8, rfl, hg8, hA8, hb8⟩
      have hA8' := hAx.up hb8
      go_wp2_with fail
      refine (Hq.out _ _ _ _ _ (row_of_at hA8') (row_of_at hA8)).mono ?_
      rintro e w9 ⟨rfl, hb9⟩
      go_wp2_with fail
      go_ret
      exact ⟨rfl, nx (nx hBx hb8) hb9⟩
  · rw [if_neg hbig] at hsz
    have Hsz := Lib.hid hsz; clear hsz
    clear h hbig hc hm hn
    go_enter Try.func14, Try.ntmps14
    go_wp2_with fail
    refine Hsz.out.mono ?_
    rintro e w0 ⟨rfl, rfl⟩
    go_wp2_with fail
    go_ret
    exact ⟨rfl, n0 _⟩

theorem laidOut : laidOutB Try.prog = true := by kernel_rfl
set_option maxRecDepth 100000 in
/-- What the walk gives, for every argument. -/
theorem contract (H : Type) (enc : TypeId × Value → H) (W : World) (base : Nat) (args : Array Value) (ds gs : List (DataW H)) (before : List MemPlace)
    (hval : ∀ (j : Nat) t v, Try.f14.params[j]? = some t → args[j]? = some v → Value.okWide Try.prog W .any base t v)
    (hW : DataW.Whole enc Try.prog Try.f14.params.toList Rows.fnExactPatternOfSpec.vars false W args.toList ds gs before) :
    Calls Try.prog 14 args W fun e W' => ∃ v, e = .returned v ∧ Rows.fnExactPatternOfSpec.post enc Try.prog Try.f14 false true false false W args v W' := by
  have hW' := hW
  obtain ⟨p, q, hA0, hV, rfl, hfz, hnd⟩ := hW
  have hA : DataW.TrodAll enc Try.prog W 0 (fun _ => true) true Try.f14.params.toList args.toList ds p := hA0
  rw [Try.params14] at hA hval
  obtain ⟨v0, vs0, d0, ds0, p0, q0, hargs, rfl, rfl, h0, r0⟩ := trodAll_cons hA
  obtain ⟨v1, vs1, d1, ds1, p1, q1, rfl, rfl, rfl, h1, r1⟩ := trodAll_cons r0
  obtain ⟨rfl, rfl, rfl⟩ := trodAll_nil r1
  obtain rfl : args = #[v0, v1] := by cases args; simp_all
  obtain ⟨rfl, rfl⟩ := trodVars_none hV
  obtain ⟨A0, n0, c0, rfl⟩ := okWide_slice Try.underlying24 (hval 0 24 v0 rfl rfl)
  have k0 := h0
  have lt0 : ∀ x ∈ p0, x.block < W.heap.size := fun x hx => by have := hW'.lt x (by simp [hx]); simpa using this
  obtain ⟨fu0, hf0⟩ := h0
  obtain ⟨a0, ht0, hc0, hm0, w0⟩ := OpenD.dice_of hf0 lt0
  obtain ⟨a1, rfl, rfl, rfl, wf1⟩ := open_int Try.underlying3 (hval 1 3 v1 rfl rfl) h1
  have w1 : -9223372036854775808 ≤ a1 ∧ a1 ≤ 9223372036854775807 := by simpa [Lit.wf, IntKind.min, IntKind.max, IntKind.bits, IntKind.signed] using wf1
  clear hA0
  simp only [List.append_nil] at hW'
  refine (law_any A0 n0 c0 a0 a1 W ht0 hc0 hm0 w0).mono fun e W' ⟨he, hg⟩ => ?_
  subst he
  exact ⟨_, rfl, _, _, _, [], (p0 ++ ([] ++ [])), [], hW', trodAll_cons_mk (shut_bool Try.underlying4 _) trodAll_mk0, trodAll_cons_mk (Below.trod laidOut (by kernel_rfl) (of_decide_eq_true (by kernel_rfl)) k0 hg lt0) (trodAll_cons_mk (shut_int Try.underlying3 wf1) trodAll_mk0), rfl, hg.frame _, fun h => by cases h⟩

theorem own : ownKnob Try.prog.godebug = none := by kernel_rfl

set_option maxRecDepth 100000 in
theorem lifted (os : Os) (started : os.Started) (H : Type) (enc : TypeId × Value → H) :
    ReturnsInHanded {} Try.checked os 14 .any (Rows.fnExactPatternOfSpec.pre6 enc Try.prog Try.f14 Rows.fnExactPatternOfRow.domain false) (Rows.fnExactPatternOfSpec.post enc Try.prog Try.f14 false true false false) := by
  refine returnsInHanded_of_change (C := Try.checked) own started (by kernel_rfl) Try.func14
    (ChangeSpec.witness6 (enc := enc) (C := Try.checked) false ⟨#[], #[.slice none 0 0, .int .i64 0], []⟩ 8 (by kernel_rfl) (by kernel_rfl) (by kernel_rfl) (by kernel_rfl)) ?_
  intro W base args ds gs before hval hW _ _
  exact contract H enc W base args ds gs before hval hW

theorem holds : Rows.FnExactPatternOfSaid :=
  OpenClaim.holds_of_wide 14 Try.f14 rfl rfl rfl rfl rfl rfl rfl ⟨rfl, rfl, rfl, rfl, rfl⟩ rfl rfl rfl rfl rfl (by kernel_rfl) Try.func14 (by kernel_rfl)
    (of_decide_eq_true (by kernel_rfl)) (by unfold Func.isWrapper; rw [if_neg (by decide +kernel)]; exact ⟨rfl, rfl⟩)
    (fun os started H enc _ => lifted os started H enc)

end PatP
end Go.Proofs.Ytlpkonobnipdeaa
