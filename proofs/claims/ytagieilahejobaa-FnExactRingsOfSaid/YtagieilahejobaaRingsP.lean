/-
  FnExactRingsOf: for every list of arrays of six numbers the law returns true, and the list reads afterwards as it read before. No condition.
-/
import Derived.Test.YtagieilahejobaaRows
import Derived.Test.YtagieilahejobaaRgdW
import Derived.Test.YtagieilahejobaaRingsI
import Derived.Test.YtagieilahejobaaRingL
import Derived.Test.YtagieilahejobaaRingC
import Derived.Test.YtagieilahejobaaRingsT
import Derived.Test.YtagieilahejobaaRingsS
import Derived.Test.YtagieilahejobaaRagL
import Derived.Test.YtagieilahejobaaRingW
import Derived.Test.YtagieilahejobaaRingM
import Derived.Test.YtagieilahejobaaGridW
import Derived.Test.YtagieilahejobaaTableS2
import Derived.Test.YtagieilahejobaaRingI
import Derived.Test.YtagieilahejobaaRingS
import Derived.Test.YtagieilahejobaaManyI
import Derived.Test.YtagieilahejobaaManyS
import Derived.Test.YtagieilahejobaaAnyR
import Derived.Test.YtagieilahejobaaBeatI
import Derived.Test.YtagieilahejobaaIntsW
import Derived.Test.YtagieilahejobaaSafeI
import Derived.Test.YtagieilahejobaaSafeS
import Derived.Test.YtagieilahejobaaRowW
import Derived.Test.YtagieilahejobaaRowsL
import Derived.Test.YtagieilahejobaaQuietR
import Derived.Test.YtagieilahejobaaQuietD
import Derived.Test.YtagieilahejobaaBestI
import Derived.Test.YtagieilahejobaaBestS
import Derived.Test.YtagieilahejobaaShelfMax
import Derived.Test.YtagieilahejobaaTopW
import Derived.Test.YtagieilahejobaaManyW
import Derived.Test.YtagieilahejobaaDicesW
import Derived.Test.YtagieilahejobaaWaysW
import Derived.Test.YtagieilahejobaaKnow
import Derived.Test.YtagieilahejobaaCmpW
import Derived.Test.YtagieilahejobaaCompW
import Derived.Test.YtagieilahejobaaCompS
import Derived.Test.YtagieilahejobaaDuel
import Derived.Test.YtagieilahejobaaDieW
import Derived.Test.YtagieilahejobaaSortW
import Derived.Test.YtagieilahejobaaOpenD
import Derived.WalkKit
import Derived.WalkLawsBesides
import Derived.WalkSpells
import Derived.ProofKit
import Derived.OpenShut
import Derived.Deep.RegionWith
import Derived.Deep.QuietTactic
import Derived.BigQuiet
namespace Go.Proofs.Ytagieilahejobaa
open Go.ChangeShapes Go.WideShapes Go.ChangeAt Go.RowKit
open Go.ChangeMaps (open_string shut_string)

namespace RingsP
open Dice Arr OpenD DieW SortW Duel CmpW Know WaysW CompS CompW ManyW QuietD QuietR TopW DicesW BestS BestI RowsL RowW SafeS SafeI BeatI IntsW ManyS ManyI RingS RingI AnyR TableS2 GridW RingM RingW RagL RingsS RingsT RingC RingL RingsI RgdW

theorem rg_path {b : Nat → Nat → Bool} {n : Nat} : ∀ m, ∀ p ∈ rg b n m, p.length ≤ m := by
  intro m p hp
  unfold rg at hp
  obtain ⟨k, hk, hpk⟩ := List.mem_flatMap.1 hp
  have hkm := List.mem_range.1 hk
  unfold closed at hpk
  have := (lev_path k p (List.mem_filter.1 hpk).1).len
  omega
def lnO (n : Nat) (P : Nat → Nat → Int) (i : Nat) : Nat := ((outR2 n P).getD i []).length
def fO (n : Nat) (P : Nat → Nat → Int) (i k : Nat) : Int := ((((outR2 n P).getD i []).getD k 0 : Nat) : Int)
theorem out_small (n : Nat) (P : Nat → Nat → Int) : (outR2 n P).length ≤ 1679616 ∧ ∀ i, i < (outR2 n P).length → lnO n P i ≤ 7 := by
  unfold lnO outR2
  cases hq : many 6 n P
  · exact ⟨Nat.zero_le _, fun i hi => absurd hi (Nat.not_lt_zero _)⟩
  · have h6 := (of_many hq).2.1
    refine ⟨?_, fun i hi => ?_⟩
    · have h := rg_len (b := bt P) (n := n) h6 n (by omega)
      have h2 : n * 279936 ≤ 6 * 279936 := Nat.mul_le_mul_right _ h6
      exact Nat.le_trans h h2
    · have hi' : i < (rg (bt P) n n).length := hi
      show ((rg (bt P) n n).getD i []).length ≤ 7
      rw [List.getD_eq_getElem?_getD, List.getElem?_eq_getElem hi']
      have := rg_path n _ (List.getElem_mem hi')
      show (rg (bt P) n n)[i].length ≤ 7
      omega
theorem rag_out {w : World} {B : Nat} {v : Value} {n : Nat} {P : Nat → Nat → Int} {gs cs : Nat → Nat} (h : RagAt w B v (outR2 n P) gs cs) : ∃ A c, v = .slice A (outR2 n P).length c ∧ Rgd B w A (outR2 n P).length (lnO n P) (fO n P) := by
  by_cases h0 : 0 < (outR2 n P).length
  · exact rgd_of h h0
  · have hz : (outR2 n P).length = 0 := by omega
    rcases zero_form h hz with rfl | ⟨g, c, rfl⟩
    · exact ⟨none, 0, by rw [hz], .inl hz⟩
    · exact ⟨_, c, by rw [hz], .inl hz⟩
theorem specR_any (A : Option Addr) (n c : Nat) (P : Nat → Nat → Int) (w : World) (h : Row w A n P) (hn : n ≤ maxLen) :
    Calls Try.prog 29 #[.slice A n c] w fun e w' => ∃ A' c', e = .returned (.tuple #[.slice A' (outR2 n P).length c', .bool (many 6 n P)]) ∧ Rgd w.heap.size w' A' (outR2 n P).length (lnO n P) (fO n P) ∧ Below w.heap.size w w' := by
  refine (specRings_any A n c P w h hn).mono ?_
  rintro e w' ⟨v, gs, cs, rfl, hR, hb⟩
  obtain ⟨A', c', rfl, hG⟩ := rag_out hR
  exact ⟨A', c', rfl, hG, hb⟩
theorem implR_any (A : Option Addr) (n c : Nat) (P : Nat → Nat → Int) (w : World) (h : Row w A n P) (hn : n ≤ maxLen) :
    Calls Try.prog 30 #[.slice A n c] w fun e w' => ∃ A' c', e = .returned (.tuple #[.slice A' (outR2 n P).length c', .bool (many 6 n P)]) ∧ Rgd w.heap.size w' A' (outR2 n P).length (lnO n P) (fO n P) ∧ Below w.heap.size w w' := by
  refine (implRings_any A n c P w h hn).mono ?_
  rintro e w' ⟨v, gs, cs, rfl, hR, hb⟩
  obtain ⟨A', c', rfl, hG⟩ := rag_out hR
  exact ⟨A', c', rfl, hG, hb⟩

set_option maxHeartbeats 8000000 in
theorem law_any (A : Option Addr) (n c : Nat) (P : Nat → Nat → Int) (w : World) (h : Row w A n P) (hc : n ≤ c) (hm : c ≤ maxLen) (_ : ∀ i, i < n → ∀ k, k < 6 → fit (P i k)) :
    Calls Try.prog 6 #[.slice A n c] w fun e w' => e = .returned (.bool true) ∧ Below w.heap.size w w' := by
  have hn : n ≤ maxLen := Nat.le_trans hc hm
  have hsz := sz_any A n c w hn
  by_cases hbig : n ≤ 1048576
  · rw [if_pos hbig] at hsz
    have Hsz := Lib.hid hsz; clear hsz
    have Ht := Lib.hid (fun w h => toS_any A n c P w h hbig)
    have Hq := Lib.hid (fun A B c c' w h h' => eqS_any A B n c c' P w h h' hn)
    have H := Lib.hid h; clear h
    have Hs := Lib.hid (fun A c w h => specR_any A n c P w h hn)
    have Hi := Lib.hid (fun A c w h => implR_any A n c P w h hn)
    obtain ⟨h4, h7⟩ := out_small n P
    generalize lnO n P = ln at Hs Hi h7
    generalize fO n P = f at Hs Hi
    generalize (outR2 n P).length = m at Hs Hi h4 h7
    generalize many 6 n P = b at Hs Hi
    have He := Lib.hid (fun B B' A A' c c' w h h' => eqSSr_any B B' A A' m c c' ln f w h h' (by omega) (fun i hi => by have := h7 i hi; omega))
    have hmd : ∀ (g c : Nat) (f : Nat → Int) (w : World), At w g (n * 6) f → Calls Try.prog 26 #[.slice (some ⟨g, 0, none⟩) n c, .int .i64 1] w fun e w' => e = .returned (.int .i64 (1 + 6 * (n : Int))) ∧ (∃ f, At w' g (n * 6) f) ∧ w.grownBy w' (some g) := fun g c f w h => markDice_grown g n c 1 f w h hbig (by omega)
    have hmi := fun B A c w h => markSSr_any B A m c ln f w h (by omega) h7
    have hhi := fun B A c w h => heldSSr_any B A m c ln w h (by omega) h7
    have hmm := ps_le h7 m (Nat.le_refl _)
    generalize hmq : ps ln m = mq at hmi hhi hmm
    clear hmq
    have Hmd := Lib.hid hmd; clear hmd
    have Hmi := Lib.hid hmi; clear hmi
    have Hhi := Lib.hid hhi; clear hhi
    have hz1 : decide ((1 : Int) + 6 * (n : Int) < 0) = false := decide_eq_false (by omega)
    have hz2 : decide ((1 : Int) + (mq : Int) < 0) = false := decide_eq_false (by omega)
    clear hc hm hn h4 h7
    go_enter Try.func6, Try.ntmps6
    go_wp2_with fail
    refine Hsz.out.mono ?_
    rintro e w0 ⟨rfl, rfl⟩
    go_wp2_with fail
    refine (Ht.out _ H.out).mono ?_
    rintro e w1 ⟨g1, rfl, hg1, hA1, hb1⟩
    go_wp2_with fail
    refine (Hs.out _ _ _ (row_of_at hA1)).mono ?_
    rintro e w2 ⟨AW, cW, rfl, hW, hb2⟩
    have hB := nx hb1 hb2
    go_wp2_with fail
    refine (Ht.out _ (H.out.up hB)).mono ?_
    rintro e w3 ⟨g3, rfl, hg3, hA3, hb3⟩
    have hB3 := nx hB hb3
    go_wp2_with fail
    refine (Hi.out _ _ _ (row_of_at hA3)).mono ?_
    rintro e w4 ⟨AG, cG, rfl, hG, hb4⟩
    have hB4 := nx hB3 hb4
    have hD4 := nx hb3 hb4
    have hA4 := hA3.up hb4
    go_wp2_with fail
    refine (He.out _ _ _ _ _ _ _ hG (hW.up hD4)).mono ?_
    rintro e w5 ⟨rfl, hb5⟩
    have hB5 := nx hB4 hb5
    have hD5 := nx hD4 hb5
    have hA5 := hA4.up hb5
    have hG5 := hG.up hb5
    cases b
    all_goals
      go_wp2_with fail
      refine (Ht.out _ (H.out.up hB5)).mono ?_
      rintro e w6 ⟨g6, rfl, hg6, hA6, hb6⟩
      have hB6 := nx hB5 hb6
      have hD6 := nx hD5 hb6
      have hA6' := hA5.up hb6
      have hG6 := hG5.up hb6
      go_wp2_with fail
      refine (Hq.out _ _ _ _ _ (row_of_at hA6') (row_of_at hA6)).mono ?_
      rintro e w7 ⟨rfl, hb7⟩
      have hB7 := nx hB6 hb7
      have hD7 := nx hD6 hb7
      have hA7 := hA6'.up hb7
      have hG7 := hG6.up hb7
      go_wp2_with fail
      refine (Hmd.out _ _ _ _ hA7).mono ?_
      rintro e w8 ⟨rfl, _, hR8⟩
      have hlt3 := hA3.lt
      have hs01 := hB.size
      have hs7 := hB7.size
      have hs7' := hD7.size
      have hB8 : Below w0.heap.size w0 w8 := hB7.grown hR8 hs7 (fun k e => by injection e with e; omega)
      have hD8 : Below w2.heap.size w2 w8 := hD7.grown hR8 hs7' (fun k e => by injection e with e; omega)
      have hG8 := hG7.kept hR8 hlt3
      go_wp2_with fail
      refine (He.out _ _ _ _ _ _ _ hG8 (hW.up hD8)).mono ?_
      rintro e w9 ⟨rfl, hb9⟩
      have hB9 := nx hB8 hb9
      have hD9 := nx hD8 hb9
      have hG9 := hG8.up hb9
      go_wp2_with fail
      refine (Hmi.out _ _ _ _ hG9).mono ?_
      rintro e w10 ⟨rfl, hG10, hb10⟩
      have hs23 := hb3.size
      have hB10 : Below w0.heap.size w0 w10 := hB9.trans (hb10.mono (by omega))
      have hD10 : Below w2.heap.size w2 w10 := hD9.trans (hb10.mono (by omega))
      go_wp2_with fail
      refine (Hhi.out _ _ _ _ hG10).mono ?_
      rintro e w11 ⟨rfl, hb11⟩
      have hB11 := nx hB10 hb11
      have hD11 := nx hD10 hb11
      have hG11 := hG10.up hb11
      go_wp2_with fail
      refine (Ht.out _ (H.out.up hB11)).mono ?_
      rintro e w12 ⟨g12, rfl, hg12, hA12, hb12⟩
      have hB12 := nx hB11 hb12
      have hD12 := nx hD11 hb12
      have hG12 := hG11.up hb12
      go_wp2_with fail
      refine (Hi.out _ _ _ (row_of_at hA12)).mono ?_
      rintro e w13 ⟨AH, cH, rfl, hH, hb13⟩
      have hB13 := nx hB12 hb13
      have hD13 := nx hD12 hb13
      have hG13 := hG12.up hb13
      go_wp2_with fail
      refine (He.out _ _ _ _ _ _ _ hH (hW.up hD13)).mono ?_
      rintro e w14 ⟨rfl, hb14⟩
      have hB14 := nx hB13 hb14
      have hG14 := hG13.up hb14
      go_wp2_with fail
      refine (Hhi.out _ _ _ _ hG14).mono ?_
      rintro e w15 ⟨rfl, hb15⟩
      go_wp2_with fail
      go_ret
      exact ⟨rfl, nx hB14 hb15⟩
  · rw [if_neg hbig] at hsz
    have Hsz := Lib.hid hsz; clear hsz
    clear h hbig hc hm hn
    go_enter Try.func6, Try.ntmps6
    go_wp2_with fail
    refine Hsz.out.mono ?_
    rintro e w0 ⟨rfl, rfl⟩
    go_wp2_with fail
    go_ret
    exact ⟨rfl, n0 _⟩


theorem laidOut : laidOutB Try.prog = true := by kernel_rfl
set_option maxRecDepth 100000 in
/-- What the walk gives, for every argument. -/
theorem contract (H : Type) (enc : TypeId × Value → H) (W : World) (base : Nat) (args : Array Value) (ds gs : List (DataW H)) (before : List MemPlace)
    (hval : ∀ (j : Nat) t v, Try.f6.params[j]? = some t → args[j]? = some v → Value.okWide Try.prog W .any base t v)
    (hW : DataW.Whole enc Try.prog Try.f6.params.toList Rows.fnExactRingsOfSpec.vars false W args.toList ds gs before) :
    Calls Try.prog 6 args W fun e W' => ∃ v, e = .returned v ∧ Rows.fnExactRingsOfSpec.post enc Try.prog Try.f6 false true false false W args v W' := by
  have hW' := hW
  obtain ⟨p, q, hA0, hV, rfl, hfz, hnd⟩ := hW
  have hA : DataW.TrodAll enc Try.prog W 0 (fun _ => true) true Try.f6.params.toList args.toList ds p := hA0
  rw [Try.params6] at hA hval
  obtain ⟨v0, vs0, d0, ds0, p0, q0, hargs, rfl, rfl, h0, r0⟩ := trodAll_cons hA
  obtain ⟨rfl, rfl, rfl⟩ := trodAll_nil r0
  obtain rfl : args = #[v0] := by cases args; simp_all
  obtain ⟨rfl, rfl⟩ := trodVars_none hV
  obtain ⟨A0, n0, c0, rfl⟩ := okWide_slice Try.underlying31 (hval 0 31 v0 rfl rfl)
  have k0 := h0
  have lt0 : ∀ x ∈ p0, x.block < W.heap.size := fun x hx => by have := hW'.lt x (by simp [hx]); simpa using this
  obtain ⟨fu0, hf0⟩ := h0
  obtain ⟨a0, ht0, hc0, hm0, w0⟩ := OpenD.dice_of hf0 lt0
  clear hA0
  simp only [List.append_nil] at hW'
  refine (law_any A0 n0 c0 a0 W ht0 hc0 hm0 w0).mono fun e W' ⟨he, hg⟩ => ?_
  subst he
  exact ⟨_, rfl, _, _, _, [], (p0 ++ []), [], hW', trodAll_cons_mk (shut_bool Try.underlying4 _) trodAll_mk0, trodAll_cons_mk (Below.trod laidOut (by kernel_rfl) (of_decide_eq_true (by kernel_rfl)) k0 hg lt0) trodAll_mk0, rfl, hg.frame _, fun h => by cases h⟩

theorem own : ownKnob Try.prog.godebug = none := by kernel_rfl

set_option maxRecDepth 100000 in
theorem lifted (os : Os) (started : os.Started) (H : Type) (enc : TypeId × Value → H) :
    ReturnsInHanded {} Try.checked os 6 .any (Rows.fnExactRingsOfSpec.pre6 enc Try.prog Try.f6 Rows.fnExactRingsOfRow.domain false) (Rows.fnExactRingsOfSpec.post enc Try.prog Try.f6 false true false false) := by
  refine returnsInHanded_of_change (C := Try.checked) own started (by kernel_rfl) Try.func6
    (ChangeSpec.witness6 (enc := enc) (C := Try.checked) false ⟨#[], #[.slice none 0 0], []⟩ 8 (by kernel_rfl) (by kernel_rfl) (by kernel_rfl) (by kernel_rfl)) ?_
  intro W base args ds gs before hval hW _ _
  exact contract H enc W base args ds gs before hval hW

theorem holds : Rows.FnExactRingsOfSaid :=
  OpenClaim.holds_of_wide 6 Try.f6 rfl rfl rfl rfl rfl rfl rfl ⟨rfl, rfl, rfl, rfl, rfl⟩ rfl rfl rfl rfl rfl (by kernel_rfl) Try.func6 (by kernel_rfl)
    (of_decide_eq_true (by kernel_rfl)) (by unfold Func.isWrapper; rw [if_neg (by decide +kernel)]; exact ⟨rfl, rfl⟩)
    (fun os started H enc _ => lifted os started H enc)

end RingsP
end Go.Proofs.Ytagieilahejobaa
