/-
  FnExactMendLetters: for every list of numbers the law returns true, and the list reads afterwards as it read before. No condition.
-/
import Derived.Test.YtiiknpebphpeiaaRows
import Derived.Test.YtiiknpebphpeiaaArr
import Derived.Test.YtiiknpebphpeiaaDieW
import Derived.Test.YtiiknpebphpeiaaSortW
import Derived.Test.YtiiknpebphpeiaaFour
import Derived.Test.YtiiknpebphpeiaaOrdM
import Derived.Test.YtiiknpebphpeiaaOrdK
import Derived.Test.YtiiknpebphpeiaaOrdW
import Derived.Test.YtiiknpebphpeiaaDicesW
import Derived.Test.YtiiknpebphpeiaaPoolW
import Derived.Test.YtiiknpebphpeiaaOwnL
import Derived.Test.YtiiknpebphpeiaaOpenI
import Derived.Test.YtiiknpebphpeiaaLtrM
import Derived.Test.YtiiknpebphpeiaaIntsW
import Derived.Test.YtiiknpebphpeiaaIntL
import Derived.Test.YtiiknpebphpeiaaIntsE
import Derived.Test.YtiiknpebphpeiaaLtrS
import Derived.Test.YtiiknpebphpeiaaLtrP
import Derived.Test.YtiiknpebphpeiaaLtrI
import Derived.Test.YtiiknpebphpeiaaLtrK
import Derived.Test.YtiiknpebphpeiaaLtrO
import Derived.Test.YtiiknpebphpeiaaLtrW
import Derived.Test.YtiiknpebphpeiaaShelfCR
import Derived.Test.YtiiknpebphpeiaaLevW
import Derived.Test.YtiiknpebphpeiaaTurnW
import Derived.Test.YtiiknpebphpeiaaAll6
import Derived.Test.YtiiknpebphpeiaaRollN
import Derived.Test.YtiiknpebphpeiaaRollS
import Derived.Test.YtiiknpebphpeiaaOrdT
import Derived.Test.YtiiknpebphpeiaaOrdO
import Derived.Test.YtiiknpebphpeiaaOrdI
import Derived.Test.YtiiknpebphpeiaaOrdS
import Derived.Test.YtiiknpebphpeiaaAnyR
import Derived.Test.YtiiknpebphpeiaaMapO
import Derived.Test.YtiiknpebphpeiaaShelfMax
import Derived.Test.YtiiknpebphpeiaaOrdN
import Derived.Test.YtiiknpebphpeiaaOrdL
import Derived.Test.YtiiknpebphpeiaaCntI
import Derived.Test.YtiiknpebphpeiaaWayI
import Derived.Test.YtiiknpebphpeiaaWayJ
import Derived.Test.YtiiknpebphpeiaaWayS
import Derived.Test.YtiiknpebphpeiaaWayT
import Derived.Test.YtiiknpebphpeiaaMenM
import Derived.Test.YtiiknpebphpeiaaMenS
import Derived.Test.YtiiknpebphpeiaaMenI
import Derived.Test.YtiiknpebphpeiaaMenJ
import Derived.Test.YtiiknpebphpeiaaOpenD
import Derived.Test.YtiiknpebphpeiaaFactP
import Derived.Test.YtiiknpebphpeiaaOpenD
import Derived.WalkKit
import Derived.WalkLawsBesides
import Derived.WalkSpells
import Derived.ProofKit
import Derived.OpenShut
import Derived.Deep.RegionWith
import Derived.Deep.QuietTactic
import Derived.BigQuiet
namespace Go.Proofs.Ytiiknpebphpeiaa
open Go.ChangeShapes Go.WideShapes Go.ChangeAt Go.RowKit
open Go.ChangeMaps (open_string shut_string)

namespace MendP
open Dice Arr OpenD DieW SortW DicesW PoolW All6 IntsW RollW Four OwnL OrdM OrdT OrdW OrdO OrdI OrdK OrdS AnyR MapO OrdN OrdL CntI WayI WayJ WayS WayT OpenG LtrM LtrS LtrP LtrI LtrK LtrO LevW LtrW TurnW OpenD MenM MenS MenI MenJ


set_option maxRecDepth 100000 in
set_option maxHeartbeats 16000000 in
theorem law_any (A : Option Addr) (n c : Nat) (f : Nat → Int) (w : World) (hR : RowI w A n f) (_ : n ≤ c) (_ : c ≤ maxLen) :
    Calls Try.prog 17 #[.slice A n c] w fun e w' => e = .returned (.bool true) ∧ Below w.heap.size w w' := by
  by_cases hbig : n ≤ 1048576
  case neg =>
    have hgd : decide ((1048576 : Int) < (n : Int)) = true := decide_eq_true (by omega)
    have hgdN : decide (1048576 < n) = true := decide_eq_true (by omega)
    clear hR
    go_enter Try.func17, Try.ntmps17
    go_wp2_with fail
    go_ret
    exact ⟨rfl, n0 w⟩
  have hgd : decide ((1048576 : Int) < (n : Int)) = false := decide_eq_false (by omega)
  have hgdN : decide (1048576 < n) = false := decide_eq_false (by omega)
  have hs := fun (g : Nat) (w : World) (h : At w g n f) => specM_any g n f w h hbig
  have hi := fun (g : Nat) (w : World) (h : At w g n f) => implM_any g n f w h hbig
  have hm9 := mT_le n f
  generalize mT n f = m at *
  generalize beF n f = F at *
  generalize spM n f = x at *
  generalize okF n f = z at *
  have Hs := Lib.hid hs; clear hs
  have Hi := Lib.hid hi; clear hi
  have Ht := Lib.hid (fun w h => IntsE.toInts_any A n c f w h hbig)
  have He := Lib.hid (fun (g g' : Nat) w (h : At w g n f) (h' : At w g' n f) => IntsW.eqInts_any 0 0 (some ⟨g, 0, none⟩) (some ⟨g', 0, none⟩) n n n f w (.inr ⟨g, rfl, Nat.zero_le _, h⟩) (.inr ⟨g', rfl, Nat.zero_le _, h'⟩) (Nat.le_trans hbig (by unfold maxLen; omega)))
  have HeL := Lib.hid (fun (B B' : Nat) (A A' : Option Addr) (c c' : Nat) w h h' => IntsW.eqInts_any B B' A A' m c c' F w h h' (Nat.le_trans hm9 (by unfold maxLen; omega)))
  have Hmx := Lib.hid (fun (g c : Nat) w h => markInts_grown g n c 1 f w h hbig (by omega))
  have Hmg := Lib.hid (fun (B : Nat) (A : Option Addr) (c : Nat) w h => IntsW.markInts_any B A m c 1 F w h hm9 (by omega))
  have Hhg := Lib.hid (fun (B : Nat) (A : Option Addr) (c : Nat) w h => IntsW.heldInts_any B A m c 1 w h hm9 (by omega))
  have hz1 : decide (((1 : Nat) : Int) + (n : Int) < 0) = false := decide_eq_false (by omega)
  have hz2 : decide (((1 : Nat) : Int) + (m : Int) < 0) = false := decide_eq_false (by omega)
  have hz3 : decide ((1 : Int) + (n : Int) < 0) = false := decide_eq_false (by omega)
  have hz4 : decide ((1 : Int) + (m : Int) < 0) = false := decide_eq_false (by omega)
  have H := Lib.hid hR; clear hR
  have hB := n0 w
  go_enter Try.func17, Try.ntmps17
  go_wp2_with fail
  refine (Ht.out _ (H.out.up hB)).mono ?_
  rintro e w1 ⟨ga, rfl, hga, hXa, hb⟩
  have hB := nx hB hb
  clear hb
  have hszW := hB.size
  go_wp2_with fail
  refine (Hs.out _ _ hXa).mono ?_
  rintro e w2 ⟨AW, cW, rfl, hLW, hb⟩
  have hB := nx hB hb
  have hXa := hXa.up hb
  clear hb
  clear hXa hga
  have hW := IntsU.of hLW
  clear hLW
  obtain ⟨U, hU⟩ : ∃ U, U = w2.heap.size := ⟨_, rfl⟩
  rw [← hU] at hW
  have hsU := hB.size
  go_wp2_with fail
  refine (Ht.out _ (H.out.up hB)).mono ?_
  rintro e w3 ⟨gb, rfl, hgb, hXb, hb⟩
  have hB := nx hB hb
  have hW := hW.up hb
  clear hb
  rw [← hU] at hgb
  have hbl := hXb.lt
  obtain ⟨B3, hB3⟩ : ∃ B3, B3 = w3.heap.size := ⟨_, rfl⟩
  rw [← hB3] at hbl
  have hszG := hB.size
  go_wp2_with fail
  refine (Hi.out _ _ hXb).mono ?_
  rintro e w4 ⟨AG, cG, rfl, hLG, hb⟩
  have hB := nx hB hb
  have hW := hW.up hb
  have hXb := hXb.up hb
  clear hb
  rw [← hB3] at hLG hszG
  have hsB := hB.size
  cases z
  all_goals
    go_wp2_with fail
    refine (HeL.out _ _ _ _ _ _ _ hLG hW.low).mono ?_
    rintro e w5 ⟨rfl, hb⟩
    have hB := nx hB hb
    have hW := hW.up hb
    have hXb := hXb.up hb
    have hLG := hLG.up hb
    clear hb
    go_wp2_with fail
    refine (Ht.out _ (H.out.up hB)).mono ?_
    rintro e w6 ⟨gc, rfl, hgc, hXc, hb⟩
    have hB := nx hB hb
    have hW := hW.up hb
    have hXb := hXb.up hb
    have hLG := hLG.up hb
    clear hb
    go_wp2_with fail
    refine (He.out _ _ _ hXb hXc).mono ?_
    rintro e w7 ⟨rfl, hb⟩
    have hB := nx hB hb
    have hW := hW.up hb
    have hXb := hXb.up hb
    have hLG := hLG.up hb
    have hXc := hXc.up hb
    clear hb
    clear hXc hgc
    have hsz5 := hB.size
    go_wp2_with fail
    refine (Hmx.out _ _ _ hXb).mono ?_
    rintro e w8 ⟨rfl, hgr⟩
    have hW := hW.kept hgr hgb
    have hLG := keptI hLG hgr hbl
    have hB := below_grown hB hgr hsz5 (by omega)
    clear hgr hXb
    go_wp2_with fail
    refine (HeL.out _ _ _ _ _ _ _ hLG hW.low).mono ?_
    rintro e w9 ⟨rfl, hb⟩
    have hB := nx hB hb
    have hW := hW.up hb
    have hLG := hLG.up hb
    clear hb
    go_wp2_with fail
    refine (Hmg.out _ _ _ _ hLG).mono ?_
    rintro e w10 ⟨rfl, hLG, hb⟩
    have hW := hW.below (by omega) hb
    have hB := hB.trans (hb.mono (by omega))
    clear hb
    go_wp2_with fail
    refine (Hhg.out _ _ _ _ hLG).mono ?_
    rintro e w11 ⟨rfl, hb⟩
    have hB := nx hB hb
    have hW := hW.up hb
    have hLG := hLG.up hb
    clear hb
    go_wp2_with fail
    refine (Ht.out _ (H.out.up hB)).mono ?_
    rintro e w12 ⟨gd, rfl, hgd, hXd, hb⟩
    have hB := nx hB hb
    have hW := hW.up hb
    have hLG := hLG.up hb
    clear hb
    go_wp2_with fail
    refine (Hi.out _ _ hXd).mono ?_
    rintro e w13 ⟨AZ, cZ, rfl, hLZ, hb⟩
    have hB := nx hB hb
    have hW := hW.up hb
    have hLG := hLG.up hb
    have hXd := hXd.up hb
    clear hb
    go_wp2_with fail
    refine (HeL.out _ _ _ _ _ _ _ hLZ hW.low).mono ?_
    rintro e w14 ⟨rfl, hb⟩
    have hB := nx hB hb
    have hW := hW.up hb
    have hLG := hLG.up hb
    have hXd := hXd.up hb
    have hLZ := hLZ.up hb
    clear hb
    go_wp2_with fail
    refine (Hhg.out _ _ _ _ hLG).mono ?_
    rintro e w15 ⟨rfl, hb⟩
    have hB := nx hB hb
    have hW := hW.up hb
    have hLG := hLG.up hb
    have hXd := hXd.up hb
    have hLZ := hLZ.up hb
    clear hb
    go_wp2_with fail
    go_ret
    exact ⟨rfl, hB⟩

theorem laidOut : laidOutB Try.prog = true := by kernel_rfl
set_option maxRecDepth 100000 in
/-- What the walk gives, for every argument. -/
theorem contract (H : Type) (enc : TypeId × Value → H) (W : World) (base : Nat) (args : Array Value) (ds gs : List (DataW H)) (before : List MemPlace)
    (hval : ∀ (j : Nat) t v, Try.f17.params[j]? = some t → args[j]? = some v → Value.okWide Try.prog W .any base t v)
    (hW : DataW.Whole enc Try.prog Try.f17.params.toList Rows.fnExactMendLettersSpec.vars false W args.toList ds gs before) :
    Calls Try.prog 17 args W fun e W' => ∃ v, e = .returned v ∧ Rows.fnExactMendLettersSpec.post enc Try.prog Try.f17 false true false false W args v W' := by
  have hW' := hW
  obtain ⟨p, q, hA0, hV, rfl, hfz, hnd⟩ := hW
  have hA : DataW.TrodAll enc Try.prog W 0 (fun _ => true) true Try.f17.params.toList args.toList ds p := hA0
  rw [Try.params17] at hA hval
  obtain ⟨v0, vs0, d0, ds0, p0, q0, hargs, rfl, rfl, h0, r0⟩ := trodAll_cons hA
  obtain ⟨rfl, rfl, rfl⟩ := trodAll_nil r0
  obtain rfl : args = #[v0] := by cases args; simp_all
  obtain ⟨rfl, rfl⟩ := trodVars_none hV
  obtain ⟨A0, n0, c0, rfl⟩ := okWide_slice Try.underlying39 (hval 0 39 v0 rfl rfl)
  have k0 := h0
  have lt0 : ∀ x ∈ p0, x.block < W.heap.size := fun x hx => by have := hW'.lt x (by simp [hx]); simpa using this
  obtain ⟨fu0, hf0⟩ := h0
  obtain ⟨a0, ht0, hc0, hm0, w0⟩ := OpenG.ints_of hf0 lt0
  clear hA0
  simp only [List.append_nil] at hW'
  refine (law_any A0 n0 c0 a0 W ht0 hc0 hm0).mono fun e W' ⟨he, hg⟩ => ?_
  subst he
  exact ⟨_, rfl, _, _, _, [], (p0 ++ []), [], hW', trodAll_cons_mk (shut_bool Try.underlying4 _) trodAll_mk0, trodAll_cons_mk (Below.trod laidOut (by kernel_rfl) (of_decide_eq_true (by kernel_rfl)) k0 hg lt0) trodAll_mk0, rfl, hg.frame _, fun h => by cases h⟩

theorem own : ownKnob Try.prog.godebug = none := by kernel_rfl

set_option maxRecDepth 100000 in
theorem lifted (os : Os) (started : os.Started) (H : Type) (enc : TypeId × Value → H) :
    ReturnsInHanded {} Try.checked os 17 .any (Rows.fnExactMendLettersSpec.pre6 enc Try.prog Try.f17 Rows.fnExactMendLettersRow.domain false) (Rows.fnExactMendLettersSpec.post enc Try.prog Try.f17 false true false false) := by
  refine returnsInHanded_of_change (C := Try.checked) own started (by kernel_rfl) Try.func17
    (ChangeSpec.witness6 (enc := enc) (C := Try.checked) false ⟨#[], #[.slice none 0 0], []⟩ 8 (by kernel_rfl) (by kernel_rfl) (by kernel_rfl) (by kernel_rfl)) ?_
  intro W base args ds gs before hval hW _ _
  exact contract H enc W base args ds gs before hval hW

set_option maxHeartbeats 8000000 in
theorem closed : joinedFacts Try.prog 17 Try.f17 Rows.fnExactMendLettersSpec Rows.fnExactMendLettersRow = true := by
  unfold joinedFacts
  rw [show Rows.fnExactMendLettersRow.lifted = false from rfl, show Rows.fnExactMendLettersRow.make = Rows.fnExactOrderOfRow.make from rfl]
  repeat' with_reducible refine Bool.and_eq_true_iff.mpr ⟨?_, ?_⟩
  all_goals first | with_reducible exact FactP.enters | with_reducible exact FactP.lifts | with_reducible exact FactP.makes | as_aux_lemma => kernel_rfl
theorem holds : Rows.FnExactMendLettersSaid :=
  OpenClaim.holds_of_wide 17 Try.f17 rfl rfl rfl rfl rfl rfl rfl ⟨rfl, rfl, rfl, rfl, rfl⟩ rfl rfl rfl rfl rfl (by kernel_rfl) Try.func17 closed
    (of_decide_eq_true (by kernel_rfl)) (by unfold Func.isWrapper; rw [if_neg (by decide +kernel)]; exact ⟨rfl, rfl⟩)
    (fun os started H enc _ => lifted os started H enc)

end MendP
end Go.Proofs.Ytiiknpebphpeiaa
