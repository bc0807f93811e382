/-
  FnExactChanceLevel: for every two lists of arrays of six numbers the law returns true, and both lists read afterwards as they read before. No condition.
-/
import Derived.Test.YtllcjgladjcoaabRows
import Derived.Test.YtllcjgladjcoaabBeatW
import Derived.Test.YtllcjgladjcoaabBeatS
import Derived.Test.YtllcjgladjcoaabOver
import Derived.Test.YtllcjgladjcoaabChanceW
import Derived.Test.YtllcjgladjcoaabTableE
import Derived.Test.YtllcjgladjcoaabTableS
import Derived.Test.YtllcjgladjcoaabTableI
import Derived.Test.YtllcjgladjcoaabTableW
import Derived.Test.YtllcjgladjcoaabTable
import Derived.Test.YtllcjgladjcoaabSumsW
import Derived.Test.YtllcjgladjcoaabCutW
import Derived.Test.YtllcjgladjcoaabDicesW
import Derived.Test.YtllcjgladjcoaabOpenD
import Derived.WalkKit
import Derived.WalkLawsBesides
import Derived.WalkSpells
import Derived.ProofKit
import Derived.OpenShut
import Derived.Deep.RegionWith
import Derived.Deep.WholeRow
import Derived.Deep.QuietTactic
import Derived.BigQuiet
namespace Go.Proofs.Ytllcjgladjcoaab
open Go.ChangeShapes Go.WideShapes Go.ChangeAt Go.RowKit
open Go.ChangeMaps (open_string shut_string)

namespace LevelP
open Dice Arr OpenD DieW SortW DicesW PoolW FracW SumsW Table TableW TableI TableS TableE CutW ChanceW Over BeatS BeatW

theorem sz_gen (A : Option Addr) (n c L : Nat) (w : World) (hn : n ≤ maxLen) (hL : L ≤ 1048576) :
    Calls Try.prog 15 #[.slice A n c, .int .i64 L] w fun e w' => e = .returned (.int .i64 (if n ≤ L then L - n else -1)) ∧ w' = w := by
  unfold maxLen at hn
  by_cases h : n ≤ L
  · rw [if_pos h]
    go_enter Try.func15, Try.ntmps15
    go_wp2
    go_ret
    exact ⟨rfl, rfl⟩
  · rw [if_neg h]
    go_enter Try.func15, Try.ntmps15
    go_wp2
    go_ret
    exact ⟨rfl, rfl⟩

theorem At.newv (x y : Int) (w : World) : At (w.alloc (.cells #[.int .i64 x, .int .i64 y] 31)) w.heap.size 2 (fr x y) :=
  At.new w _ _ 2 _ fun k hk => by
    obtain rfl | rfl : k = 0 ∨ k = 1 := by omega
    all_goals rfl
set_option maxRecDepth 100000 in
set_option maxHeartbeats 4000000 in
theorem law_any (A B : Option Addr) (n m c c' : Nat) (P Q : Nat → Nat → Int) (w : World) (h : Row w A n P) (hc : n ≤ c) (hm : c ≤ maxLen) (h' : Row w B m Q) (hc' : m ≤ c') (hm' : c' ≤ maxLen) :
    Calls Try.prog 12 #[.slice A n c, .slice B m c'] w fun e w' => e = .returned (.bool true) ∧ Below w.heap.size w w' := by
  have hn : n ≤ maxLen := Nat.le_trans hc hm
  have hn' : m ≤ maxLen := Nat.le_trans hc' hm'
  have hsz := sz_any A n c w hn
  by_cases hbig : n ≤ 1048576
  · rw [if_pos hbig] at hsz
    have hsz' := sz_gen B m c' (1048576 - n) w hn' (by omega)
    rw [show ((1048576 - n : Nat) : Int) = 1048576 - (n : Int) by omega] at hsz'
    have Hsz := Lib.hid hsz; clear hsz
    by_cases hbig' : m ≤ 1048576 - n
    · rw [if_pos hbig'] at hsz'
      have Hsz' := Lib.hid hsz'; clear hsz'
      have hbm : m ≤ 1048576 := by omega
      have hge : decide ((1048576 : Int) - n - m < 0) = false := decide_eq_false (by omega)
      have Ht := Lib.hid (fun w h => toS_any A n c P w h hbig)
      have Ht' := Lib.hid (fun w h => toS_any B m c' Q w h hbm)
      have Hq := Lib.hid (fun A B c c' w h h' => eqS_any A B n c c' P w h h' hn)
      have Hq' := Lib.hid (fun A B c c' w h h' => eqS_any A B m c c' Q w h h' hn')
      have H := Lib.hid h; clear h
      have H' := Lib.hid h'; clear h'
      obtain ⟨x, y, b, ho⟩ : ∃ x y b, (if okS n m P Q then #[cutV (level (T P n) (T Q m) 121).toNat (all6 n * all6 m), .bool true] else #[v2 0 0, .bool false] : Array Value) = #[v2 x y, .bool b] := by
        cases okS n m P Q
        · exact ⟨0, 0, false, rfl⟩
        · exact ⟨_, _, true, rfl⟩
      have hs := fun A B c c' w h h' => specBeat_level A B n m c c' P Q w h h' hn hn'
      have hi := fun A B c c' w h h' => implBeat_level A B n m c c' P Q w h h' hn hn'
      rw [ho] at hs hi
      have Hs := Lib.hid hs; clear hs
      have Hi := Lib.hid hi; clear hi
      clear ho
      have Hq2 := Lib.hid (fun w => eqA2_any x y w)
      clear hc hm hn hc' hm' hn'
      go_enter Try.func12, Try.ntmps12
      go_wp2_with fail
      refine Hsz.out.mono ?_
      rintro e w0 ⟨rfl, rfl⟩
      go_wp2_with fail
      refine Hsz'.out.mono ?_
      rintro e w0' ⟨rfl, rfl⟩
      go_wp2_with fail
      refine (Ht.out _ H.out).mono ?_
      rintro e w1 ⟨g1, rfl, hg1, hA1, hb1⟩
      go_wp2_with fail
      refine (Ht'.out _ (H'.out.up hb1)).mono ?_
      rintro e w2 ⟨g2, rfl, hg2, hA2, hb2⟩
      have hB2 := nx hb1 hb2
      go_wp2_with fail
      refine (Hs.out _ _ _ _ _ (row_of_at (hA1.up hb2)) (row_of_at hA2)).mono ?_
      rintro e w3 ⟨rfl, hb3⟩
      have hB3 := nx hB2 hb3
      have hW3 := At.newv x y w3
      clear hA1 hb1 hA2 hb2 hB2 hb3
      go_wp2_with fail
      refine (Ht.out _ (H.out.up (na hB3 _))).mono ?_
      rintro e w4 ⟨g4, rfl, hg4, hA4, hb4⟩
      have hB4 := nx (na hB3 _) hb4
      have hW4 := hW3.up hb4
      clear hb4 hB3 hW3
      go_wp2_with fail
      refine (Ht'.out _ (H'.out.up hB4)).mono ?_
      rintro e w5 ⟨g5, rfl, hg5, hA5, hb5⟩
      have hB5 := nx hB4 hb5
      have hA4' := hA4.up hb5
      have hW5 := hW4.up hb5
      clear hb5 hB4 hW4 hA4
      go_wp2_with fail
      refine (Hi.out _ _ _ _ _ (row_of_at hA4') (row_of_at hA5)).mono ?_
      rintro e w6 ⟨rfl, hb6⟩
      have hB6 := nx hB5 hb6
      have hX := hA4'.up hb6
      have hY := hA5.up hb6
      have hW6 := hW5.up hb6
      have hlt6 := hW6.lt
      clear hA5 hB5 hA4' hb6 hW5
      have x0 := hW6.cell 0 (by omega)
      have x1 := hW6.cell 1 (by omega)
      go_wp2_with fail
      refine (Hq2.out _).mono ?_
      rintro e w6' ⟨rfl, hb6'⟩
      have hBx := nx (na hB6 _) hb6'
      have hX' := (hX.past _).up hb6'
      have hY' := (hY.past _).up hb6'
      clear hb6' hB6 hX hY x0 x1 hW6
      cases b
      all_goals
        go_wp2_with fail
        refine (Ht.out _ (H.out.up hBx)).mono ?_
        rintro e w7 ⟨g7, rfl, hg7, hA7, hb7⟩
        have hX7 := hX'.up hb7
        have hY7 := hY'.up hb7
        have hB7 := nx hBx hb7
        go_wp2_with fail
        refine (Hq.out _ _ _ _ _ (row_of_at hX7) (row_of_at hA7)).mono ?_
        rintro e w8 ⟨rfl, hb8⟩
        have hY8 := hY7.up hb8
        have hB8 := nx hB7 hb8
        go_wp2_with fail
        refine (Ht'.out _ (H'.out.up hB8)).mono ?_
        rintro e w9 ⟨g9, rfl, hg9, hA9, hb9⟩
        have hY9 := hY8.up hb9
        have hB9 := nx hB8 hb9
        go_wp2_with fail
        refine (Hq'.out _ _ _ _ _ (row_of_at hY9) (row_of_at hA9)).mono ?_
        rintro e w10 ⟨rfl, hb10⟩
        go_wp2_with fail
        go_ret
        exact ⟨rfl, nx hB9 hb10⟩
    · rw [if_neg hbig'] at hsz'
      have Hsz' := Lib.hid hsz'; clear hsz'
      clear h hc hm hn h' hc' hm' hn' hbig'
      go_enter Try.func12, Try.ntmps12
      go_wp2_with fail
      refine Hsz.out.mono ?_
      rintro e w0 ⟨rfl, rfl⟩
      go_wp2_with fail
      refine Hsz'.out.mono ?_
      rintro e w0' ⟨rfl, rfl⟩
      go_wp2_with fail
      go_ret
      exact ⟨rfl, n0 _⟩
  · rw [if_neg hbig] at hsz
    have Hsz := Lib.hid hsz; clear hsz
    clear h hbig hc hm hn h' hc' hm' hn'
    go_enter Try.func12, Try.ntmps12
    go_wp2_with fail
    refine Hsz.out.mono ?_
    rintro e w0 ⟨rfl, rfl⟩
    go_wp2_with fail
    go_ret
    exact ⟨rfl, n0 _⟩

theorem laidOut : laidOutB Try.prog = true := by kernel_rfl
set_option maxRecDepth 100000 in
/-- What the walk gives, for every argument. -/
theorem contract (H : Type) (enc : TypeId × Value → H) (W : World) (base : Nat) (args : Array Value) (ds gs : List (DataW H)) (before : List MemPlace)
    (hval : ∀ (j : Nat) t v, Try.f12.params[j]? = some t → args[j]? = some v → Value.okWide Try.prog W .any base t v)
    (hW : DataW.Whole enc Try.prog Try.f12.params.toList Rows.fnExactChanceLevelSpec.vars false W args.toList ds gs before) :
    Calls Try.prog 12 args W fun e W' => ∃ v, e = .returned v ∧ Rows.fnExactChanceLevelSpec.post enc Try.prog Try.f12 false true false false W args v W' := by
  have hW' := hW
  obtain ⟨p, q, hA0, hV, rfl, hfz, hnd⟩ := hW
  have hA : DataW.TrodAll enc Try.prog W 0 (fun _ => true) true Try.f12.params.toList args.toList ds p := hA0
  rw [Try.params12] at hA hval
  obtain ⟨v0, vs0, d0, ds0, p0, q0, hargs, rfl, rfl, h0, r0⟩ := trodAll_cons hA
  obtain ⟨v1, vs1, d1, ds1, p1, q1, rfl, rfl, rfl, h1, r1⟩ := trodAll_cons r0
  obtain ⟨rfl, rfl, rfl⟩ := trodAll_nil r1
  obtain rfl : args = #[v0, v1] := by cases args; simp_all
  obtain ⟨rfl, rfl⟩ := trodVars_none hV
  obtain ⟨A0, n0, c0, rfl⟩ := okWide_slice Try.underlying22 (hval 0 22 v0 rfl rfl)
  have k0 := h0
  have lt0 : ∀ x ∈ p0, x.block < W.heap.size := fun x hx => by have := hW'.lt x (by simp [hx]); simpa using this
  obtain ⟨fu0, hf0⟩ := h0
  obtain ⟨a0, ht0, hc0, hm0, w0⟩ := OpenD.dice_of hf0 lt0
  obtain ⟨A1, n1, c1, rfl⟩ := okWide_slice Try.underlying22 (hval 1 22 v1 rfl rfl)
  have k1 := h1
  have lt1 : ∀ x ∈ p1, x.block < W.heap.size := fun x hx => by have := hW'.lt x (by simp [hx]); simpa using this
  obtain ⟨fu1, hf1⟩ := h1
  obtain ⟨a1, ht1, hc1, hm1, w1⟩ := OpenD.dice_of hf1 lt1
  clear hA0
  simp only [List.append_nil] at hW'
  refine (law_any A0 A1 n0 n1 c0 c1 a0 a1 W ht0 hc0 hm0 ht1 hc1 hm1).mono fun e W' ⟨he, hg⟩ => ?_
  subst he
  exact ⟨_, rfl, _, _, _, [], (p0 ++ (p1 ++ [])), [], hW', trodAll_cons_mk (shut_bool Try.underlying4 _) trodAll_mk0, trodAll_cons_mk (Below.trod laidOut (by kernel_rfl) (of_decide_eq_true (by kernel_rfl)) k0 hg lt0) (trodAll_cons_mk (Below.trod laidOut (by kernel_rfl) (of_decide_eq_true (by kernel_rfl)) k1 hg lt1) trodAll_mk0), rfl, hg.frame _, fun h => by cases h⟩

theorem own : ownKnob Try.prog.godebug = none := by kernel_rfl

set_option maxRecDepth 100000 in
theorem lifted (os : Os) (started : os.Started) (H : Type) (enc : TypeId × Value → H) :
    ReturnsInHanded {} Try.checked os 12 .any (Rows.fnExactChanceLevelSpec.pre6 enc Try.prog Try.f12 Rows.fnExactChanceLevelRow.domain false) (Rows.fnExactChanceLevelSpec.post enc Try.prog Try.f12 false true false false) := by
  refine returnsInHanded_of_change (C := Try.checked) own started (by kernel_rfl) Try.func12
    (ChangeSpec.witness6 (enc := enc) (C := Try.checked) false ⟨#[], #[.slice none 0 0, .slice none 0 0], []⟩ 8 (by kernel_rfl) (by kernel_rfl) (by kernel_rfl) (by kernel_rfl)) ?_
  intro W base args ds gs before hval hW _ _
  exact contract H enc W base args ds gs before hval hW

theorem holds : Rows.FnExactChanceLevelSaid :=
  OpenClaim.holds_of_wide 12 Try.f12 rfl rfl rfl rfl rfl rfl rfl ⟨rfl, rfl, rfl, rfl, rfl⟩ rfl rfl rfl rfl rfl (by kernel_rfl) Try.func12 (by kernel_rfl)
    (of_decide_eq_true (by kernel_rfl)) (by unfold Func.isWrapper; rw [if_neg (by decide +kernel)]; exact ⟨rfl, rfl⟩)
    (fun os started H enc _ => lifted os started H enc)

end LevelP
end Go.Proofs.Ytllcjgladjcoaab
