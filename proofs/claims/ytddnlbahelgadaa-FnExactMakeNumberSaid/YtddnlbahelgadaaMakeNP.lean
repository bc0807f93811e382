/-
  FnExactMakeNumber: for every number and every list of numbers the law returns true, and the list reads afterwards as it read before. No condition.
-/
import Derived.Test.YtddnlbahelgadaaRows
import Derived.Test.YtddnlbahelgadaaArr
import Derived.Test.YtddnlbahelgadaaDieW
import Derived.Test.YtddnlbahelgadaaSortW
import Derived.Test.YtddnlbahelgadaaDicesW
import Derived.Test.YtddnlbahelgadaaOwnL
import Derived.Test.YtddnlbahelgadaaIntsW
import Derived.Test.YtddnlbahelgadaaIntsE
import Derived.Test.YtddnlbahelgadaaOpenI
import Derived.Test.YtddnlbahelgadaaOpenD
import Derived.Test.YtddnlbahelgadaaMadL
import Derived.Test.YtddnlbahelgadaaMadC
import Derived.Test.YtddnlbahelgadaaMadW
import Derived.Test.YtddnlbahelgadaaMadN
import Derived.Test.YtddnlbahelgadaaMadK
import Derived.Test.YtddnlbahelgadaaOpenD
import Derived.WalkKit
import Derived.WalkLawsBesides
import Derived.WalkSpells
import Derived.ProofKit
import Derived.OpenShut
import Derived.Deep.RegionWith
import Derived.Deep.QuietTactic
import Derived.BigQuiet
namespace Go.Proofs.Ytddnlbahelgadaa
open Go.ChangeShapes Go.WideShapes Go.ChangeAt Go.RowKit
open Go.ChangeMaps (open_string shut_string)

namespace MakeNP
open Dice Arr DieW SortW OwnL OpenG OpenD MadL MadC IntsW MadN MadK


set_option maxRecDepth 100000 in
set_option maxHeartbeats 16000000 in
theorem law_any (k : Int) (A : Option Addr) (n c : Nat) (f : Nat → Int) (w : World) (hR : RowI w A n f) (_ : n ≤ c) (_ : c ≤ maxLen) :
    Calls Try.prog 4 #[.int .i64 k, .slice A n c] w fun e w' => e = .returned (.bool true) ∧ Below w.heap.size w w' := by
  by_cases hbig : n ≤ 1048576
  case neg =>
    have hgd : decide ((1048576 : Int) < (n : Int)) = true := decide_eq_true (by omega)
    have hgdN : decide (1048576 < n) = true := decide_eq_true (by omega)
    clear hR
    go_enter Try.func4, Try.ntmps4
    go_wp2_with fail
    go_ret
    exact ⟨rfl, n0 w⟩
  have hgd : decide ((1048576 : Int) < (n : Int)) = false := decide_eq_false (by omega)
  have hgdN : decide (1048576 < n) = false := decide_eq_false (by omega)
  have hs := fun (g : Nat) (w : World) (h : At w g n f) => specV_any k g n f w h hbig
  have hi := fun (g : Nat) (w : World) (h : At w g n f) => implV_any k g n f w h hbig
  generalize mv k n f = x at *
  generalize tkn k n f = y at *
  generalize okV k n f = z at *
  have Hs := Lib.hid hs; clear hs
  have Hi := Lib.hid hi; clear hi
  have Ht := Lib.hid (fun w h => IntsE.toInts_any A n c f w h hbig)
  have He := Lib.hid (fun (g g' : Nat) w (h : At w g n f) (h' : At w g' n f) => IntsW.eqInts_any 0 0 (some ⟨g, 0, none⟩) (some ⟨g', 0, none⟩) n n n f w (.inr ⟨g, rfl, Nat.zero_le _, h⟩) (.inr ⟨g', rfl, Nat.zero_le _, h'⟩) (Nat.le_trans hbig (by unfold maxLen; omega)))
  have H := Lib.hid hR; clear hR
  have hB := n0 w
  go_enter Try.func4, Try.ntmps4
  go_wp2_with fail
  refine (Ht.out _ (H.out.up hB)).mono ?_
  rintro e w1 ⟨ga, rfl, hga, hXa, hb⟩
  have hB := nx hB hb
  clear hb
  go_wp2_with fail
  refine (Hs.out _ _ hXa).mono ?_
  rintro e w2 ⟨rfl, hb⟩
  have hB := nx hB hb
  have hXa := hXa.up hb
  clear hb
  clear hXa hga
  go_wp2_with fail
  refine (Ht.out _ (H.out.up hB)).mono ?_
  rintro e w3 ⟨gb, rfl, hgb, hXb, hb⟩
  have hB := nx hB hb
  clear hb
  go_wp2_with fail
  refine (Hi.out _ _ hXb).mono ?_
  rintro e w4 ⟨rfl, hb⟩
  have hB := nx hB hb
  have hXb := hXb.up hb
  clear hb
  cases z
  all_goals
    cases y
    all_goals
      go_wp2_with fail
      refine (Ht.out _ (H.out.up hB)).mono ?_
      rintro e w5 ⟨gc, rfl, hgc, hXc, hb⟩
      have hB := nx hB hb
      have hXb := hXb.up hb
      clear hb
      go_wp2_with fail
      refine (He.out _ _ _ hXb hXc).mono ?_
      rintro e w6 ⟨rfl, hb⟩
      have hB := nx hB hb
      go_wp2_with fail
      go_ret
      exact ⟨rfl, hB⟩

theorem laidOut : laidOutB Try.prog = true := by kernel_rfl
set_option maxRecDepth 100000 in
/-- What the walk gives, for every argument. -/
theorem contract (H : Type) (enc : TypeId × Value → H) (W : World) (base : Nat) (args : Array Value) (ds gs : List (DataW H)) (before : List MemPlace)
    (hval : ∀ (j : Nat) t v, Try.f4.params[j]? = some t → args[j]? = some v → Value.okWide Try.prog W .any base t v)
    (hW : DataW.Whole enc Try.prog Try.f4.params.toList Rows.fnExactMakeNumberSpec.vars false W args.toList ds gs before) :
    Calls Try.prog 4 args W fun e W' => ∃ v, e = .returned v ∧ Rows.fnExactMakeNumberSpec.post enc Try.prog Try.f4 false true false false W args v W' := by
  have hW' := hW
  obtain ⟨p, q, hA0, hV, rfl, hfz, hnd⟩ := hW
  have hA : DataW.TrodAll enc Try.prog W 0 (fun _ => true) true Try.f4.params.toList args.toList ds p := hA0
  rw [Try.params4] at hA hval
  obtain ⟨v0, vs0, d0, ds0, p0, q0, hargs, rfl, rfl, h0, r0⟩ := trodAll_cons hA
  obtain ⟨v1, vs1, d1, ds1, p1, q1, rfl, rfl, rfl, h1, r1⟩ := trodAll_cons r0
  obtain ⟨rfl, rfl, rfl⟩ := trodAll_nil r1
  obtain rfl : args = #[v0, v1] := by cases args; simp_all
  obtain ⟨rfl, rfl⟩ := trodVars_none hV
  obtain ⟨a0, rfl, rfl, rfl, wf0⟩ := open_int Try.underlying3 (hval 0 3 v0 rfl rfl) h0
  have w0 : -9223372036854775808 ≤ a0 ∧ a0 ≤ 9223372036854775807 := by simpa [Lit.wf, IntKind.min, IntKind.max, IntKind.bits, IntKind.signed] using wf0
  obtain ⟨A1, n1, c1, rfl⟩ := okWide_slice Try.underlying22 (hval 1 22 v1 rfl rfl)
  have k1 := h1
  have lt1 : ∀ x ∈ p1, x.block < W.heap.size := fun x hx => by have := hW'.lt x (by simp [hx]); simpa using this
  obtain ⟨fu1, hf1⟩ := h1
  obtain ⟨a1, ht1, hc1, hm1, w1⟩ := OpenG.ints_of hf1 lt1
  clear hA0
  simp only [List.append_nil] at hW'
  refine (law_any a0 A1 n1 c1 a1 W ht1 hc1 hm1).mono fun e W' ⟨he, hg⟩ => ?_
  subst he
  exact ⟨_, rfl, _, _, _, [], ([] ++ (p1 ++ [])), [], hW', trodAll_cons_mk (shut_bool Try.underlying4 _) trodAll_mk0, trodAll_cons_mk (shut_int Try.underlying3 wf0) (trodAll_cons_mk (Below.trod laidOut (by kernel_rfl) (of_decide_eq_true (by kernel_rfl)) k1 hg lt1) trodAll_mk0), rfl, hg.frame _, fun h => by cases h⟩

theorem own : ownKnob Try.prog.godebug = none := by kernel_rfl

set_option maxRecDepth 100000 in
theorem lifted (os : Os) (started : os.Started) (H : Type) (enc : TypeId × Value → H) :
    ReturnsInHanded {} Try.checked os 4 .any (Rows.fnExactMakeNumberSpec.pre6 enc Try.prog Try.f4 Rows.fnExactMakeNumberRow.domain false) (Rows.fnExactMakeNumberSpec.post enc Try.prog Try.f4 false true false false) := by
  refine returnsInHanded_of_change (C := Try.checked) own started (by kernel_rfl) Try.func4
    (ChangeSpec.witness6 (enc := enc) (C := Try.checked) false ⟨#[], #[.int .i64 0, .slice none 0 0], []⟩ 8 (by kernel_rfl) (by kernel_rfl) (by kernel_rfl) (by kernel_rfl)) ?_
  intro W base args ds gs before hval hW _ _
  exact contract H enc W base args ds gs before hval hW

theorem holds : Rows.FnExactMakeNumberSaid :=
  OpenClaim.holds_of_wide 4 Try.f4 rfl rfl rfl rfl rfl rfl rfl ⟨rfl, rfl, rfl, rfl, rfl⟩ rfl rfl rfl rfl rfl (by kernel_rfl) Try.func4 (by kernel_rfl)
    (of_decide_eq_true (by kernel_rfl)) (by unfold Func.isWrapper; rw [if_neg (by decide +kernel)]; exact ⟨rfl, rfl⟩)
    (fun os started H enc _ => lifted os started H enc)

end MakeNP
end Go.Proofs.Ytddnlbahelgadaa
