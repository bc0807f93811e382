/-
  FnExactMeanPlace: for every list of arrays of six numbers and every number the law returns true, and the list reads afterwards as it read before. No condition.
-/
import Derived.Test.YtlpkonobnipdeaaRows
import Derived.Test.YtlpkonobnipdeaaMeanW
import Derived.Test.YtlpkonobnipdeaaFracW
import Derived.Test.YtlpkonobnipdeaaCutW
import Derived.Test.YtlpkonobnipdeaaPlcI
import Derived.Test.YtlpkonobnipdeaaPlcS
import Derived.Test.YtlpkonobnipdeaaBig31
import Derived.Test.YtlpkonobnipdeaaPlS
import Derived.Test.YtlpkonobnipdeaaPlcC
import Derived.Test.YtlpkonobnipdeaaPlI
import Derived.Test.YtlpkonobnipdeaaSortDn
import Derived.Test.YtlpkonobnipdeaaPlaces
import Derived.Test.YtlpkonobnipdeaaRollWM
import Derived.Test.YtlpkonobnipdeaaIntsM
import Derived.Test.YtlpkonobnipdeaaPoolW
import Derived.Test.YtlpkonobnipdeaaAll6
import Derived.Test.YtlpkonobnipdeaaDicesW
import Derived.Test.YtlpkonobnipdeaaOpenD
import Derived.WalkKit
import Derived.WalkLawsBesides
import Derived.WalkSpells
import Derived.ProofKit
import Derived.OpenShut
import Derived.Deep.RegionWith
import Derived.Deep.WholeRow
import Derived.Deep.QuietTactic
import Derived.BigQuiet
namespace Go.Proofs.Ytlpkonobnipdeaa
open Go.ChangeShapes Go.WideShapes Go.ChangeAt Go.RowKit
open Go.ChangeMaps (open_string shut_string)

namespace MPlcP
open Dice Arr OpenD DieW SortW DicesW PoolW All6 IntsW RollW Places SortDn PlI FracW CutW PlcC Big31 PlS PlcI PlcS MeanW

/-- All numbers of the table added up, each as often as it comes. -/
def mof (P : Nat → Nat → Int) (n : Nat) (k : Int) : Int := wpre (cnt (numOf P n (k.toNat - 1)) (all6 n)) 31
theorem of_okK {n : Nat} {P : Nat → Nat → Int} {k : Int} (h : okK n P k = true) : isPool n P = true ∧ 1 ≤ k ∧ k ≤ n := by
  unfold okK at h
  simp only [Bool.and_eq_true, decide_eq_true_eq] at h
  exact h
theorem tab_facts {n : Nat} {P : Nat → Nat → Int} {k : Int} (h : okK n P k = true) : pre (cnt (numOf P n (k.toNat - 1)) (all6 n)) 31 = (all6 n : Nat) := by
  obtain ⟨hq, hk⟩ := of_okK h
  obtain ⟨h1, h4, hdi⟩ := of_pool hq
  have hrr := roll_range hdi
  refine cnt_all (m := 31) (fun i => ?_) _
  have := ds_range (hrr i) (k := k.toNat - 1) (by omega)
  show 0 ≤ ds (rollF P i n) n (k.toNat - 1) ∧ ds (rollF P i n) n (k.toNat - 1) < ((31 : Nat) : Int)
  omega

set_option maxRecDepth 100000 in
set_option maxHeartbeats 4000000 in
theorem implM_any (A : Option Addr) (n c : Nat) (P : Nat → Nat → Int) (k : Int) (w : World) (h : Row w A n P) (hn : n ≤ maxLen) :
    Calls Try.prog 78 #[.slice A n c, .int .i64 k] w fun e w' => e = .returned (.tuple (if okK n P k then #[cutV (mof P n k).toNat (all6 n), .bool true] else #[v2 0 0, .bool false])) ∧ Below w.heap.size w w' := by
  have hi := fun w h => implPlace_any A n c P k w h hn
  have hR := At.new2 w 30
  have H := Lib.hid h; clear h
  cases hq : okK n P k
  · rw [hq] at hi
    simp only [Bool.false_eq_true, ↓reduceIte] at hi ⊢
    obtain ⟨r, hr⟩ : ∃ r : Nat → Int, r = fun _ => 0 := ⟨_, rfl⟩
    rw [← hr] at hi
    have Hi := Lib.hid hi; clear hi hq hr
    go_enter Try.func78, Try.ntmps78
    go_wp2_with fail
    refine (Hi.out _ (H.out.up (na (n0 w) _))).mono ?_
    rintro e w1 ⟨rfl, hb⟩
    have hbl := nx (na (n0 w) _) hb
    have hA := hR.up hb
    obtain ⟨w2, hst, hT, hS, hK⟩ := store_ex (fresh w1 (b := w1.heap.size) rfl) r
    have hbl := (na hbl _).trans (hS _ hbl.size)
    have hA := hK _ _ _ (Nat.ne_of_lt hA.lt) (hA.past _)
    clear hb hS hK
    have c0 := hA.cell 0 (by omega)
    have c1 := hA.cell 1 (by omega)
    have z0 := hA.free 0
    have z1 := hA.free 1
    go_wp2_with fail
    refine ret_cell_tmp (b := w.heap.size) (n := 2) (f := fr 0 0) Try.results78 rfl rfl Try.underlying30 (by kernel_rfl) (fin2' hA 0 0) rfl ⟨rfl, ?_⟩
    exact (hbl.setCell (p := ⟨w.heap.size, 0, none⟩) (Nat.le_refl _) _).setCell (p := ⟨w.heap.size, 1, none⟩) (Nat.le_refl _) _
  · rw [hq] at hi
    simp only [↓reduceIte] at hi ⊢
    have hpre := tab_facts hq
    have hnn : ∀ j, 0 ≤ cnt (numOf P n (k.toNat - 1)) (all6 n) j := fun j => (cnt_bound _ _ j).1
    have h6 := all6_le (of_pool (of_okK hq).1).2.1
    unfold mof
    have hwb := wpre_bound hnn 31
    rw [hpre] at hwb
    generalize cnt (numOf P n (k.toNat - 1)) (all6 n) = r at *
    have hm := fun b w h => meanOf_any b 31 31 (all6 n) r w h hnn hpre (by omega) (by omega) (by omega)
    unfold cutV at hm ⊢
    obtain ⟨m, hmm⟩ : ∃ m : Nat, (wpre r 31).toNat = m := ⟨_, rfl⟩
    rw [hmm] at hm ⊢
    have Hm := Lib.hid hm; clear hm hpre hnn hwb hmm
    generalize all6 n = N6 at *
    have Hi := Lib.hid hi; clear hi hq h6
    go_enter Try.func78, Try.ntmps78
    go_wp2_with fail
    refine (Hi.out _ (H.out.up (na (n0 w) _))).mono ?_
    rintro e w1 ⟨rfl, hb⟩
    have hbl := nx (na (n0 w) _) hb
    have hA := hR.up hb
    obtain ⟨w2, hst, hT, hS, hK⟩ := store_ex (fresh w1 (b := w1.heap.size) rfl) r
    have hbl := (na hbl _).trans (hS _ hbl.size)
    have hA := hK _ _ _ (Nat.ne_of_lt hA.lt) (hA.past _)
    clear hb hS hK
    go_wp2_with fail
    refine (Hm.out _ _ hT).mono ?_
    rintro e w3 ⟨rfl, hb3⟩
    have hbl := nx hbl hb3
    have hA := hA.up hb3
    clear hb3
    have c0 := hA.cell 0 (by omega)
    have c1 := hA.cell 1 (by omega)
    have z0 := hA.free 0
    have z1 := hA.free 1
    go_wp2_with fail
    refine ret_cell_tmp (b := w.heap.size) (n := 2) (f := fr ((m : Int) / (Nat.gcd m N6 : Nat)) ((N6 : Int) / (Nat.gcd m N6 : Nat))) Try.results78 rfl rfl Try.underlying30 (by kernel_rfl) (fin2' hA ((m : Int) / (Nat.gcd m N6 : Nat)) ((N6 : Int) / (Nat.gcd m N6 : Nat))) rfl ⟨rfl, ?_⟩
    exact (hbl.setCell (p := ⟨w.heap.size, 0, none⟩) (Nat.le_refl _) _).setCell (p := ⟨w.heap.size, 1, none⟩) (Nat.le_refl _) _

set_option maxRecDepth 100000 in
set_option maxHeartbeats 4000000 in
theorem specM_any (A : Option Addr) (n c : Nat) (P : Nat → Nat → Int) (k : Int) (w : World) (h : Row w A n P) (hn : n ≤ maxLen) :
    Calls Try.prog 77 #[.slice A n c, .int .i64 k] w fun e w' => e = .returned (.tuple (if okK n P k then #[cutV (mof P n k).toNat (all6 n), .bool true] else #[v2 0 0, .bool false])) ∧ Below w.heap.size w w' := by
  have hp := fun w h => l4Keeps_any A n c P k w h hn
  have hR := At.new2 w 30
  have H := Lib.hid h; clear h
  cases hq : okK n P k
  · rw [hq] at hp
    simp only [Bool.false_eq_true, ↓reduceIte]
    have Hp := Lib.hid hp; clear hp hq
    go_enter Try.func77, Try.ntmps77
    go_wp2_with fail
    refine (Hp.out _ (H.out.up (na (n0 w) _))).mono ?_
    rintro e w1 ⟨rfl, hb⟩
    have hbl := nx (na (n0 w) _) hb
    have hA := hR.up hb
    have c0 := hA.cell 0 (by omega)
    have c1 := hA.cell 1 (by omega)
    have z0 := hA.free 0
    have z1 := hA.free 1
    go_wp2_with fail
    refine ret_cell_tmp (b := w.heap.size) (n := 2) (f := fr 0 0) Try.results77 rfl rfl Try.underlying30 (by kernel_rfl) (fin2' hA 0 0) rfl ⟨rfl, ?_⟩
    exact (hbl.setCell (p := ⟨w.heap.size, 0, none⟩) (Nat.le_refl _) _).setCell (p := ⟨w.heap.size, 1, none⟩) (Nat.le_refl _) _
  · rw [hq] at hp
    simp only [↓reduceIte]
    have Hp := Lib.hid hp; clear hp
    have hpre := tab_facts hq
    have hnn : ∀ j, 0 ≤ cnt (numOf P n (k.toNat - 1)) (all6 n) j := fun j => (cnt_bound _ _ j).1
    have h6 := all6_le (of_pool (of_okK hq).1).2.1
    obtain ⟨hqp, hk1, hk2⟩ := of_okK hq
    obtain ⟨k, rfl⟩ : ∃ j : Nat, k = j := ⟨k.toNat, by omega⟩
    have ht := fun w h => l4At_any A n c k P w h hqp (by omega) (by omega)
    unfold mof
    rw [Int.toNat_natCast] at hpre hnn ⊢
    generalize cnt (numOf P n (k - 1)) (all6 n) = r at *
    have hm := fun b w h => l4Mean_any b 31 31 (all6 n) r w h hnn hpre (by omega) (by omega) (by omega)
    unfold cutV at hm ⊢
    obtain ⟨m, hmm⟩ : ∃ m : Nat, (wpre r 31).toNat = m := ⟨_, rfl⟩
    rw [hmm] at hm ⊢
    have Hm := Lib.hid hm; clear hm hpre hnn hmm
    generalize all6 n = N6 at *
    have Ht := Lib.hid ht; clear ht hq h6 hqp
    go_enter Try.func77, Try.ntmps77
    go_wp2_with fail
    refine (Hp.out _ (H.out.up (na (n0 w) _))).mono ?_
    rintro e w0 ⟨rfl, hb0⟩
    have hbl := nx (na (n0 w) _) hb0
    have hA := hR.up hb0
    go_wp2_with fail
    refine (Ht.out _ (H.out.up hbl)).mono ?_
    rintro e w1 ⟨rfl, hb⟩
    have hbl := nx hbl hb
    have hA := hA.up hb
    obtain ⟨w2, hst, hT, hS, hK⟩ := store_ex (fresh w1 (b := w1.heap.size) rfl) r
    have hbl := (na hbl _).trans (hS _ hbl.size)
    have hA := hK _ _ _ (Nat.ne_of_lt hA.lt) (hA.past _)
    clear hb hS hK
    go_wp2_with fail
    refine (Hm.out _ _ hT).mono ?_
    rintro e w3 ⟨rfl, hb3⟩
    have hbl := nx hbl hb3
    have hA := hA.up hb3
    clear hb3
    have c0 := hA.cell 0 (by omega)
    have c1 := hA.cell 1 (by omega)
    have z0 := hA.free 0
    have z1 := hA.free 1
    go_wp2_with fail
    refine ret_cell_tmp (b := w.heap.size) (n := 2) (f := fr ((m : Int) / (Nat.gcd m N6 : Nat)) ((N6 : Int) / (Nat.gcd m N6 : Nat))) Try.results77 rfl rfl Try.underlying30 (by kernel_rfl) (fin2' hA ((m : Int) / (Nat.gcd m N6 : Nat)) ((N6 : Int) / (Nat.gcd m N6 : Nat))) rfl ⟨rfl, ?_⟩
    exact (hbl.setCell (p := ⟨w.heap.size, 0, none⟩) (Nat.le_refl _) _).setCell (p := ⟨w.heap.size, 1, none⟩) (Nat.le_refl _) _

theorem At.newv (x y : Int) (w : World) : At (w.alloc (.cells #[.int .i64 x, .int .i64 y] 30)) w.heap.size 2 (fr x y) :=
  At.new w _ _ 2 _ fun k hk => by
    obtain rfl | rfl : k = 0 ∨ k = 1 := by omega
    all_goals rfl

set_option maxHeartbeats 4000000 in
theorem law_any (A : Option Addr) (n c : Nat) (P : Nat → Nat → Int) (k : Int) (w : World) (h : Row w A n P) (hc : n ≤ c) (hm : c ≤ maxLen) (_ : ∀ i, i < n → ∀ k, k < 6 → fit (P i k)) :
    Calls Try.prog 10 #[.slice A n c, .int .i64 k] w fun e w' => e = .returned (.bool true) ∧ Below w.heap.size w w' := by
  have hn : n ≤ maxLen := Nat.le_trans hc hm
  have hsz := sz_any A n c w hn
  by_cases hbig : n ≤ 1048576
  · rw [if_pos hbig] at hsz
    have Hsz := Lib.hid hsz; clear hsz
    have Ht := Lib.hid (fun w h => toS_any A n c P w h hbig)
    have Hq := Lib.hid (fun A B c c' w h h' => eqS_any A B n c c' P w h h' hn)
    have H := Lib.hid h; clear h
    obtain ⟨x, y, b, ho⟩ : ∃ x y b, (if okK n P k then #[cutV (mof P n k).toNat (all6 n), .bool true] else #[v2 0 0, .bool false] : Array Value) = #[v2 x y, .bool b] := by
      cases okK n P k
      · exact ⟨0, 0, false, rfl⟩
      · exact ⟨_, _, true, rfl⟩
    have hs := fun A c w h => specM_any A n c P k w h hn
    have hi := fun A c w h => implM_any A n c P k w h hn
    rw [ho] at hs hi
    have Hs := Lib.hid hs; clear hs
    have Hi := Lib.hid hi; clear hi
    clear ho
    have Hq2 := Lib.hid (fun w => eqA2_any x y w)
    clear hc hm hn
    go_enter Try.func10, Try.ntmps10
    go_wp2_with fail
    refine Hsz.out.mono ?_
    rintro e w0 ⟨rfl, rfl⟩
    go_wp2_with fail
    refine (Ht.out _ H.out).mono ?_
    rintro e w1 ⟨g1, rfl, hg1, hA1, hb1⟩
    go_wp2_with fail
    refine (Hs.out _ _ _ (row_of_at hA1)).mono ?_
    rintro e w2 ⟨rfl, hb2⟩
    have hB2 := nx hb1 hb2
    have hW2 := At.newv x y w2
    go_wp2_with fail
    refine (Ht.out _ (H.out.up (na hB2 _))).mono ?_
    rintro e w3 ⟨g3, rfl, hg3, hA3, hb3⟩
    have hB3 := nx (na hB2 _) hb3
    have hW3 := hW2.up hb3
    go_wp2_with fail
    refine (Hi.out _ _ _ (row_of_at hA3)).mono ?_
    rintro e w4 ⟨rfl, hb4⟩
    have hB4 := nx hB3 hb4
    have hA4 := hA3.up hb4
    have hW0 := hW3.up hb4
    have hlt0 := hW0.lt
    clear hA1 hb1 hb2 hb3 hb4 hB2 hB3 hA3 hW2 hW3
    have x0 := hW0.cell 0 (by omega)
    have x1 := hW0.cell 1 (by omega)
    go_wp2_with fail
    refine (Hq2.out _).mono ?_
    rintro e w5 ⟨rfl, hb5⟩
    have hBx := nx (na hB4 _) hb5
    have hAx := (hA4.past _).up hb5
    clear hb5 hB4 hA4
    cases b
    all_goals
      go_wp2_with fail
      refine (Ht.out _ (H.out.up hBx)).mono ?_
      rintro e w8 ⟨g8, rfl, hg8, hA8, hb8⟩
      have hA8' := hAx.up hb8
      go_wp2_with fail
      refine (Hq.out _ _ _ _ _ (row_of_at hA8') (row_of_at hA8)).mono ?_
      rintro e w9 ⟨rfl, hb9⟩
      go_wp2_with fail
      go_ret
      exact ⟨rfl, nx (nx hBx hb8) hb9⟩
  · rw [if_neg hbig] at hsz
    have Hsz := Lib.hid hsz; clear hsz
    clear h hbig hc hm hn
    go_enter Try.func10, Try.ntmps10
    go_wp2_with fail
    refine Hsz.out.mono ?_
    rintro e w0 ⟨rfl, rfl⟩
    go_wp2_with fail
    go_ret
    exact ⟨rfl, n0 _⟩

theorem laidOut : laidOutB Try.prog = true := by kernel_rfl
set_option maxRecDepth 100000 in
/-- What the walk gives, for every argument. -/
theorem contract (H : Type) (enc : TypeId × Value → H) (W : World) (base : Nat) (args : Array Value) (ds gs : List (DataW H)) (before : List MemPlace)
    (hval : ∀ (j : Nat) t v, Try.f10.params[j]? = some t → args[j]? = some v → Value.okWide Try.prog W .any base t v)
    (hW : DataW.Whole enc Try.prog Try.f10.params.toList Rows.fnExactMeanPlaceSpec.vars false W args.toList ds gs before) :
    Calls Try.prog 10 args W fun e W' => ∃ v, e = .returned v ∧ Rows.fnExactMeanPlaceSpec.post enc Try.prog Try.f10 false true false false W args v W' := by
  have hW' := hW
  obtain ⟨p, q, hA0, hV, rfl, hfz, hnd⟩ := hW
  have hA : DataW.TrodAll enc Try.prog W 0 (fun _ => true) true Try.f10.params.toList args.toList ds p := hA0
  rw [Try.params10] at hA hval
  obtain ⟨v0, vs0, d0, ds0, p0, q0, hargs, rfl, rfl, h0, r0⟩ := trodAll_cons hA
  obtain ⟨v1, vs1, d1, ds1, p1, q1, rfl, rfl, rfl, h1, r1⟩ := trodAll_cons r0
  obtain ⟨rfl, rfl, rfl⟩ := trodAll_nil r1
  obtain rfl : args = #[v0, v1] := by cases args; simp_all
  obtain ⟨rfl, rfl⟩ := trodVars_none hV
  obtain ⟨A0, n0, c0, rfl⟩ := okWide_slice Try.underlying24 (hval 0 24 v0 rfl rfl)
  have k0 := h0
  have lt0 : ∀ x ∈ p0, x.block < W.heap.size := fun x hx => by have := hW'.lt x (by simp [hx]); simpa using this
  obtain ⟨fu0, hf0⟩ := h0
  obtain ⟨a0, ht0, hc0, hm0, w0⟩ := OpenD.dice_of hf0 lt0
  obtain ⟨a1, rfl, rfl, rfl, wf1⟩ := open_int Try.underlying3 (hval 1 3 v1 rfl rfl) h1
  have w1 : -9223372036854775808 ≤ a1 ∧ a1 ≤ 9223372036854775807 := by simpa [Lit.wf, IntKind.min, IntKind.max, IntKind.bits, IntKind.signed] using wf1
  clear hA0
  simp only [List.append_nil] at hW'
  refine (law_any A0 n0 c0 a0 a1 W ht0 hc0 hm0 w0).mono fun e W' ⟨he, hg⟩ => ?_
  subst he
  exact ⟨_, rfl, _, _, _, [], (p0 ++ ([] ++ [])), [], hW', trodAll_cons_mk (shut_bool Try.underlying4 _) trodAll_mk0, trodAll_cons_mk (Below.trod laidOut (by kernel_rfl) (of_decide_eq_true (by kernel_rfl)) k0 hg lt0) (trodAll_cons_mk (shut_int Try.underlying3 wf1) trodAll_mk0), rfl, hg.frame _, fun h => by cases h⟩

theorem own : ownKnob Try.prog.godebug = none := by kernel_rfl

set_option maxRecDepth 100000 in
theorem lifted (os : Os) (started : os.Started) (H : Type) (enc : TypeId × Value → H) :
    ReturnsInHanded {} Try.checked os 10 .any (Rows.fnExactMeanPlaceSpec.pre6 enc Try.prog Try.f10 Rows.fnExactMeanPlaceRow.domain false) (Rows.fnExactMeanPlaceSpec.post enc Try.prog Try.f10 false true false false) := by
  refine returnsInHanded_of_change (C := Try.checked) own started (by kernel_rfl) Try.func10
    (ChangeSpec.witness6 (enc := enc) (C := Try.checked) false ⟨#[], #[.slice none 0 0, .int .i64 0], []⟩ 8 (by kernel_rfl) (by kernel_rfl) (by kernel_rfl) (by kernel_rfl)) ?_
  intro W base args ds gs before hval hW _ _
  exact contract H enc W base args ds gs before hval hW

theorem holds : Rows.FnExactMeanPlaceSaid :=
  OpenClaim.holds_of_wide 10 Try.f10 rfl rfl rfl rfl rfl rfl rfl ⟨rfl, rfl, rfl, rfl, rfl⟩ rfl rfl rfl rfl rfl (by kernel_rfl) Try.func10 (by kernel_rfl)
    (of_decide_eq_true (by kernel_rfl)) (by unfold Func.isWrapper; rw [if_neg (by decide +kernel)]; exact ⟨rfl, rfl⟩)
    (fun os started H enc _ => lifted os started H enc)

end MPlcP
end Go.Proofs.Ytlpkonobnipdeaa
