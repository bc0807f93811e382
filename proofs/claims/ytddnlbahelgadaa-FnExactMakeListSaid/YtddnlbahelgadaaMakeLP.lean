/-
  FnExactMakeList: for every two numbers and every list of numbers the law returns true, and the list reads afterwards as it read before. No condition.
-/
import Derived.Test.YtddnlbahelgadaaRows
import Derived.Test.YtddnlbahelgadaaArr
import Derived.Test.YtddnlbahelgadaaDieW
import Derived.Test.YtddnlbahelgadaaSortW
import Derived.Test.YtddnlbahelgadaaDicesW
import Derived.Test.YtddnlbahelgadaaOwnL
import Derived.Test.YtddnlbahelgadaaIntsW
import Derived.Test.YtddnlbahelgadaaIntsE
import Derived.Test.YtddnlbahelgadaaOpenI
import Derived.Test.YtddnlbahelgadaaOpenD
import Derived.Test.YtddnlbahelgadaaMadL
import Derived.Test.YtddnlbahelgadaaMadC
import Derived.Test.YtddnlbahelgadaaMadK
import Derived.Test.YtddnlbahelgadaaFracW
import Derived.Test.YtddnlbahelgadaaFracL
import Derived.Test.YtddnlbahelgadaaAll6
import Derived.Test.YtddnlbahelgadaaAllL
import Derived.Test.YtddnlbahelgadaaMadW
import Derived.Test.YtddnlbahelgadaaListK
import Derived.Test.YtddnlbahelgadaaMakS
import Derived.Test.YtddnlbahelgadaaMakI
import Derived.Test.YtddnlbahelgadaaOpenD
import Derived.WalkKit
import Derived.WalkLawsBesides
import Derived.WalkSpells
import Derived.ProofKit
import Derived.OpenShut
import Derived.Deep.RegionWith
import Derived.Deep.QuietTactic
import Derived.BigQuiet
namespace Go.Proofs.Ytddnlbahelgadaa
open Go.ChangeShapes Go.WideShapes Go.ChangeAt Go.RowKit
open Go.ChangeMaps (open_string shut_string)

namespace MakeLP
open Dice Arr DieW SortW OwnL OpenG OpenD MadL MadC IntsW MadK FracL All6 AllL MadW ListK MakS MakI


set_option maxRecDepth 100000 in
set_option maxHeartbeats 16000000 in
theorem law_any (k : Int) (q : Int) (A : Option Addr) (n c : Nat) (f : Nat → Int) (w : World) (hR : RowI w A n f) (_ : n ≤ c) (_ : c ≤ maxLen) :
    Calls Try.prog 8 #[.int .i64 k, .int .i64 q, .slice A n c] w fun e w' => e = .returned (.bool true) ∧ Below w.heap.size w w' := by
  by_cases hbig : n ≤ 1048576
  case neg =>
    have hgd : decide ((1048576 : Int) < (n : Int)) = true := decide_eq_true (by omega)
    have hgdN : decide (1048576 < n) = true := decide_eq_true (by omega)
    clear hR
    go_enter Try.func8, Try.ntmps8
    go_wp2_with fail
    go_ret
    exact ⟨rfl, n0 w⟩
  have hgd : decide ((1048576 : Int) < (n : Int)) = false := decide_eq_false (by omega)
  have hgdN : decide (1048576 < n) = false := decide_eq_false (by omega)
  have hs := fun (g : Nat) (w : World) (h : At w g n f) => specML_any k q g n f w h hbig
  have hi := fun (g : Nat) (w : World) (h : At w g n f) => implML_any k q g n f w h hbig
  have hm9 := oM_len k q n f
  generalize (oM k q n f).length = m at *
  generalize (fun i => (oM k q n f).getD i 0) = F at *
  generalize nM k q n f = x at *
  generalize okL k q n f = z at *
  have Hs := Lib.hid hs; clear hs
  have Hi := Lib.hid hi; clear hi
  have Ht := Lib.hid (fun w h => IntsE.toInts_any A n c f w h hbig)
  have He := Lib.hid (fun (g g' : Nat) w (h : At w g n f) (h' : At w g' n f) => IntsW.eqInts_any 0 0 (some ⟨g, 0, none⟩) (some ⟨g', 0, none⟩) n n n f w (.inr ⟨g, rfl, Nat.zero_le _, h⟩) (.inr ⟨g', rfl, Nat.zero_le _, h'⟩) (Nat.le_trans hbig (by unfold maxLen; omega)))
  have HeL := Lib.hid (fun (B B' : Nat) (A A' : Option Addr) (c c' : Nat) w h h' => IntsW.eqInts_any B B' A A' m c c' F w h h' (Nat.le_trans hm9 (by unfold maxLen; omega)))
  have Hmx := Lib.hid (fun (g c : Nat) w h => markInts_grown g n c 1 f w h hbig (by omega))
  have Hmg := Lib.hid (fun (B : Nat) (A : Option Addr) (c : Nat) w h => IntsW.markInts_any B A m c 1 F w h hm9 (by omega))
  have Hhg := Lib.hid (fun (B : Nat) (A : Option Addr) (c : Nat) w h => IntsW.heldInts_any B A m c 1 w h hm9 (by omega))
  have hz1 : decide (((1 : Nat) : Int) + (n : Int) < 0) = false := decide_eq_false (by omega)
  have hz2 : decide (((1 : Nat) : Int) + (m : Int) < 0) = false := decide_eq_false (by omega)
  have hz3 : decide ((1 : Int) + (n : Int) < 0) = false := decide_eq_false (by omega)
  have hz4 : decide ((1 : Int) + (m : Int) < 0) = false := decide_eq_false (by omega)
  have H := Lib.hid hR; clear hR
  have hB := n0 w
  go_enter Try.func8, Try.ntmps8
  go_wp2_with fail
  refine (Ht.out _ (H.out.up hB)).mono ?_
  rintro e w1 ⟨ga, rfl, hga, hXa, hb⟩
  have hB := nx hB hb
  clear hb
  have hszW := hB.size
  go_wp2_with fail
  refine (Hs.out _ _ hXa).mono ?_
  rintro e w2 ⟨AW, cW, rfl, hLW, hb⟩
  have hB := nx hB hb
  have hXa := hXa.up hb
  clear hb
  clear hXa hga
  have hW := IntsU.of hLW
  clear hLW
  obtain ⟨U, hU⟩ : ∃ U, U = w2.heap.size := ⟨_, rfl⟩
  rw [← hU] at hW
  have hsU := hB.size
  go_wp2_with fail
  refine (Ht.out _ (H.out.up hB)).mono ?_
  rintro e w3 ⟨gb, rfl, hgb, hXb, hb⟩
  have hB := nx hB hb
  have hW := hW.up hb
  clear hb
  rw [← hU] at hgb
  have hbl := hXb.lt
  obtain ⟨B3, hB3⟩ : ∃ B3, B3 = w3.heap.size := ⟨_, rfl⟩
  rw [← hB3] at hbl
  have hszG := hB.size
  go_wp2_with fail
  refine (Hi.out _ _ hXb).mono ?_
  rintro e w4 ⟨AG, cG, rfl, hLG, hb⟩
  have hB := nx hB hb
  have hW := hW.up hb
  have hXb := hXb.up hb
  clear hb
  rw [← hB3] at hLG hszG
  have hsB := hB.size
  cases z
  all_goals
    go_wp2_with fail
    refine (HeL.out _ _ _ _ _ _ _ hLG hW.low).mono ?_
    rintro e w5 ⟨rfl, hb⟩
    have hB := nx hB hb
    have hW := hW.up hb
    have hXb := hXb.up hb
    have hLG := hLG.up hb
    clear hb
    go_wp2_with fail
    refine (Ht.out _ (H.out.up hB)).mono ?_
    rintro e w6 ⟨gc, rfl, hgc, hXc, hb⟩
    have hB := nx hB hb
    have hW := hW.up hb
    have hXb := hXb.up hb
    have hLG := hLG.up hb
    clear hb
    go_wp2_with fail
    refine (He.out _ _ _ hXb hXc).mono ?_
    rintro e w7 ⟨rfl, hb⟩
    have hB := nx hB hb
    have hW := hW.up hb
    have hXb := hXb.up hb
    have hLG := hLG.up hb
    have hXc := hXc.up hb
    clear hb
    clear hXc hgc
    have hsz5 := hB.size
    go_wp2_with fail
    refine (Hmx.out _ _ _ hXb).mono ?_
    rintro e w8 ⟨rfl, hgr⟩
    have hW := hW.kept hgr hgb
    have hLG := keptI hLG hgr hbl
    have hB := below_grown hB hgr hsz5 (by omega)
    clear hgr hXb
    go_wp2_with fail
    refine (HeL.out _ _ _ _ _ _ _ hLG hW.low).mono ?_
    rintro e w9 ⟨rfl, hb⟩
    have hB := nx hB hb
    have hW := hW.up hb
    have hLG := hLG.up hb
    clear hb
    go_wp2_with fail
    refine (Hmg.out _ _ _ _ hLG).mono ?_
    rintro e w10 ⟨rfl, hLG, hb⟩
    have hW := hW.below (by omega) hb
    have hB := hB.trans (hb.mono (by omega))
    clear hb
    go_wp2_with fail
    refine (Hhg.out _ _ _ _ hLG).mono ?_
    rintro e w11 ⟨rfl, hb⟩
    have hB := nx hB hb
    have hW := hW.up hb
    have hLG := hLG.up hb
    clear hb
    go_wp2_with fail
    refine (Ht.out _ (H.out.up hB)).mono ?_
    rintro e w12 ⟨gd, rfl, hgd, hXd, hb⟩
    have hB := nx hB hb
    have hW := hW.up hb
    have hLG := hLG.up hb
    clear hb
    go_wp2_with fail
    refine (Hi.out _ _ hXd).mono ?_
    rintro e w13 ⟨AZ, cZ, rfl, hLZ, hb⟩
    have hB := nx hB hb
    have hW := hW.up hb
    have hLG := hLG.up hb
    have hXd := hXd.up hb
    clear hb
    go_wp2_with fail
    refine (HeL.out _ _ _ _ _ _ _ hLZ hW.low).mono ?_
    rintro e w14 ⟨rfl, hb⟩
    have hB := nx hB hb
    have hW := hW.up hb
    have hLG := hLG.up hb
    have hXd := hXd.up hb
    have hLZ := hLZ.up hb
    clear hb
    go_wp2_with fail
    refine (Hhg.out _ _ _ _ hLG).mono ?_
    rintro e w15 ⟨rfl, hb⟩
    have hB := nx hB hb
    have hW := hW.up hb
    have hLG := hLG.up hb
    have hXd := hXd.up hb
    have hLZ := hLZ.up hb
    clear hb
    go_wp2_with fail
    go_ret
    exact ⟨rfl, hB⟩

theorem laidOut : laidOutB Try.prog = true := by kernel_rfl
set_option maxRecDepth 100000 in
/-- What the walk gives, for every argument. -/
theorem contract (H : Type) (enc : TypeId × Value → H) (W : World) (base : Nat) (args : Array Value) (ds gs : List (DataW H)) (before : List MemPlace)
    (hval : ∀ (j : Nat) t v, Try.f8.params[j]? = some t → args[j]? = some v → Value.okWide Try.prog W .any base t v)
    (hW : DataW.Whole enc Try.prog Try.f8.params.toList Rows.fnExactMakeListSpec.vars false W args.toList ds gs before) :
    Calls Try.prog 8 args W fun e W' => ∃ v, e = .returned v ∧ Rows.fnExactMakeListSpec.post enc Try.prog Try.f8 false true false false W args v W' := by
  have hW' := hW
  obtain ⟨p, q, hA0, hV, rfl, hfz, hnd⟩ := hW
  have hA : DataW.TrodAll enc Try.prog W 0 (fun _ => true) true Try.f8.params.toList args.toList ds p := hA0
  rw [Try.params8] at hA hval
  obtain ⟨v0, vs0, d0, ds0, p0, q0, hargs, rfl, rfl, h0, r0⟩ := trodAll_cons hA
  obtain ⟨v1, vs1, d1, ds1, p1, q1, rfl, rfl, rfl, h1, r1⟩ := trodAll_cons r0
  obtain ⟨v2, vs2, d2, ds2, p2, q2, rfl, rfl, rfl, h2, r2⟩ := trodAll_cons r1
  obtain ⟨rfl, rfl, rfl⟩ := trodAll_nil r2
  obtain rfl : args = #[v0, v1, v2] := by cases args; simp_all
  obtain ⟨rfl, rfl⟩ := trodVars_none hV
  obtain ⟨a0, rfl, rfl, rfl, wf0⟩ := open_int Try.underlying3 (hval 0 3 v0 rfl rfl) h0
  have w0 : -9223372036854775808 ≤ a0 ∧ a0 ≤ 9223372036854775807 := by simpa [Lit.wf, IntKind.min, IntKind.max, IntKind.bits, IntKind.signed] using wf0
  obtain ⟨a1, rfl, rfl, rfl, wf1⟩ := open_int Try.underlying3 (hval 1 3 v1 rfl rfl) h1
  have w1 : -9223372036854775808 ≤ a1 ∧ a1 ≤ 9223372036854775807 := by simpa [Lit.wf, IntKind.min, IntKind.max, IntKind.bits, IntKind.signed] using wf1
  obtain ⟨A2, n2, c2, rfl⟩ := okWide_slice Try.underlying22 (hval 2 22 v2 rfl rfl)
  have k2 := h2
  have lt2 : ∀ x ∈ p2, x.block < W.heap.size := fun x hx => by have := hW'.lt x (by simp [hx]); simpa using this
  obtain ⟨fu2, hf2⟩ := h2
  obtain ⟨a2, ht2, hc2, hm2, w2⟩ := OpenG.ints_of hf2 lt2
  clear hA0
  simp only [List.append_nil] at hW'
  refine (law_any a0 a1 A2 n2 c2 a2 W ht2 hc2 hm2).mono fun e W' ⟨he, hg⟩ => ?_
  subst he
  exact ⟨_, rfl, _, _, _, [], ([] ++ ([] ++ (p2 ++ []))), [], hW', trodAll_cons_mk (shut_bool Try.underlying4 _) trodAll_mk0, trodAll_cons_mk (shut_int Try.underlying3 wf0) (trodAll_cons_mk (shut_int Try.underlying3 wf1) (trodAll_cons_mk (Below.trod laidOut (by kernel_rfl) (of_decide_eq_true (by kernel_rfl)) k2 hg lt2) trodAll_mk0)), rfl, hg.frame _, fun h => by cases h⟩

theorem own : ownKnob Try.prog.godebug = none := by kernel_rfl

set_option maxRecDepth 100000 in
theorem lifted (os : Os) (started : os.Started) (H : Type) (enc : TypeId × Value → H) :
    ReturnsInHanded {} Try.checked os 8 .any (Rows.fnExactMakeListSpec.pre6 enc Try.prog Try.f8 Rows.fnExactMakeListRow.domain false) (Rows.fnExactMakeListSpec.post enc Try.prog Try.f8 false true false false) := by
  refine returnsInHanded_of_change (C := Try.checked) own started (by kernel_rfl) Try.func8
    (ChangeSpec.witness6 (enc := enc) (C := Try.checked) false ⟨#[], #[.int .i64 0, .int .i64 0, .slice none 0 0], []⟩ 8 (by kernel_rfl) (by kernel_rfl) (by kernel_rfl) (by kernel_rfl)) ?_
  intro W base args ds gs before hval hW _ _
  exact contract H enc W base args ds gs before hval hW

theorem holds : Rows.FnExactMakeListSaid :=
  OpenClaim.holds_of_wide 8 Try.f8 rfl rfl rfl rfl rfl rfl rfl ⟨rfl, rfl, rfl, rfl, rfl⟩ rfl rfl rfl rfl rfl (by kernel_rfl) Try.func8 (by kernel_rfl)
    (of_decide_eq_true (by kernel_rfl)) (by unfold Func.isWrapper; rw [if_neg (by decide +kernel)]; exact ⟨rfl, rfl⟩)
    (fun os started H enc _ => lifted os started H enc)

end MakeLP
end Go.Proofs.Ytddnlbahelgadaa
