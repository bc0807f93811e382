/-
  WaysOfPattern, by the program.
-/
import Derived.Test.YtbcaahaaaodhkaaRows
import Derived.Test.YtbcaahaaaodhkaaWaysC
import Derived.Test.YtbcaahaaaodhkaaPatV
import Derived.Test.YtbcaahaaaodhkaaPatC
import Derived.Test.YtbcaahaaaodhkaaRollR
import Derived.Test.YtbcaahaaaodhkaaFracW
import Derived.Test.YtbcaahaaaodhkaaCutW
import Derived.Test.YtbcaahaaaodhkaaPatsI
import Derived.Test.YtbcaahaaaodhkaaPatS
import Derived.Test.YtbcaahaaaodhkaaPlS
import Derived.Test.YtbcaahaaaodhkaaPatI
import Derived.Test.YtbcaahaaaodhkaaPlI
import Derived.Test.YtbcaahaaaodhkaaFour
import Derived.Test.YtbcaahaaaodhkaaPatM
import Derived.Test.YtbcaahaaaodhkaaSortDn
import Derived.Test.YtbcaahaaaodhkaaPlaces
import Derived.Test.YtbcaahaaaodhkaaRollWM
import Derived.Test.YtbcaahaaaodhkaaIntsM
import Derived.Test.YtbcaahaaaodhkaaPoolW
import Derived.Test.YtbcaahaaaodhkaaAll6
import Derived.Test.YtbcaahaaaodhkaaDicesW
import Derived.Test.YtbcaahaaaodhkaaOpenD
import Derived.WalkKit
import Derived.WalkLawsBesides
import Derived.WalkSpells
import Derived.ProofKit
import Derived.OpenShut
import Derived.Deep.RegionWith
import Derived.Deep.QuietTactic
import Derived.BigQuiet
namespace Go.Proofs.Ytbcaahaaaodhkaa
open Go.ChangeShapes Go.WideShapes Go.ChangeAt Go.RowKit
open Go.ChangeMaps (open_string shut_string)

namespace PWaysI
open Dice Arr OpenD DieW SortW DicesW PoolW All6 IntsW RollW Places PatM SortDn PlI Four PatI PatsI PlS PatS PatV PatC WaysC

set_option maxRecDepth 20000 in
set_option maxHeartbeats 4000000 in
theorem implW_any (A : Option Addr) (n c : Nat) (P : Nat → Nat → Int) (g : Nat → Int) (w : World) (h : Row w A n P) (hn : n ≤ maxLen) (hn2 : n ≤ 1048576) :
    Calls Try.prog 14 #[.slice A n c, v4 g] w fun e w' => e = .returned (.tuple (if isPool n P && valid n g then #[.int .i64 (wN (isG P n g) (all6 n) : Nat), .bool true] else #[.int .i64 0, .bool false])) ∧ Below w.heap.size w w' := by
  have Hv := Lib.hid (fun w => isPattern_any n g w hn2)
  have hX := At.new4 w g 23 rfl
  have hB := na (n0 w) (fourO g 23)
  have H := Lib.hid h; clear h
  cases hv : valid n g
  · rw [hv] at Hv
    simp only [Bool.and_false, Bool.false_eq_true, ↓reduceIte]
    clear hv
    obtain ⟨x0, x1, x2, x3⟩ := At.four hX
    go_enter Try.func14, Try.ntmps14
    go_wp2_with fail
    refine (Hv.out _).mono ?_
    rintro e w1 ⟨rfl, hb⟩
    have hbl := nx hB hb

    go_wp2_with fail
    go_ret2
    exact ⟨rfl, hbl⟩
  rw [hv] at Hv
  clear hv
  rw [Bool.and_true]
  cases hq : isPool n P
  · simp only [Bool.false_eq_true, ↓reduceIte]
    have Hp := Lib.hid (fun w h => pats_no A n c P w h hn hq)
    clear hq
    obtain ⟨x0, x1, x2, x3⟩ := At.four hX
    go_enter Try.func14, Try.ntmps14
    go_wp2_with fail
    refine (Hv.out _).mono ?_
    rintro e w1 ⟨rfl, hb⟩
    have hbl := nx hB hb

    clear hb
    go_wp2_with fail
    refine (Hp.out _ (H.out.up hbl)).mono ?_
    rintro e w2 ⟨rfl, hb⟩
    have hbl := nx hbl hb

    go_wp2_with fail
    go_ret2
    exact ⟨rfl, hbl⟩
  simp only [↓reduceIte]
  have Hp := Lib.hid (fun w h => pats_yes A n c P w h hn hq)
  have h6 := all6_le (of_pool hq).2.1
  clear hq
  have Hfa := Lib.hid (fun i q (hq : q < 4) => patF_at P n i hq)
  have hok : ∀ i, isG P n g i = decide (agree (pat (rollF P i n) n) g 4) := fun i => rfl
  have hle := wN_le (isG P n g)
  have Hy := Lib.hid (fun i => @wN_yes (isG P n g) i)
  have Hn := Lib.hid (fun i => @wN_no (isG P n g) i)
  obtain ⟨ww, hww⟩ : ∃ ww, ww = wN (isG P n g) := ⟨_, rfl⟩
  rw [← hww] at hle Hy Hn ⊢
  have hw0 : ww 0 = 0 := by rw [hww]; rfl
  clear hww
  generalize isG P n g = ok at *
  have Hok := Lib.hid hok; clear hok
  generalize all6 n = N6 at *
  obtain ⟨x0, x1, x2, x3⟩ := At.four hX
  go_enter Try.func14, Try.ntmps14
  go_wp2_with fail
  refine (Hv.out _).mono ?_
  rintro e w1 ⟨rfl, hb⟩
  have hbl := nx hB hb
  have hX := hX.up hb

  clear hb x0 x1 x2 x3
  go_wp2_with fail
  refine (Hp.out _ (H.out.up hbl)).mono ?_
  rintro e w2 ⟨gp, rfl, hgp, hG, hb⟩
  have hbl := nx hbl hb
  have hX := hX.up hb

  clear hb hgp
  have hgl := hG.lt
  have hxl := hX.lt
  have Hkeep := Lib.hid (And.intro hG (And.intro hX hbl))
  clear hG hB
  go_wp2_with fail
  go_loopw [8, 25] (fun av iv wr => ∃ i : Nat, i ≤ N6 ∧ iv = .int .i64 i ∧ av = .int .i64 (ww i : Nat) ∧ Below w2.heap.size w2 wr) (fun _ iv _ => N6 - (intOf iv).toNat)
  case atStart => exact ⟨0, by omega, rfl, by rw [hw0]; rfl, n0 _⟩
  case round =>
    obtain ⟨i, hi, rfl, rfl, hBr⟩ := hrel
    by_cases hlt : i < N6
    · have hGr := Hkeep.out.1.below hgl hBr
      have hXr := Hkeep.out.2.1.below hxl hBr
      obtain ⟨y0, y1, y2, y3⟩ := from4 hGr (i * 4) (by omega)
      have f0 := Hfa.out i 0 (by omega)
      have f1 := Hfa.out i 1 (by omega)
      have f2 := Hfa.out i 2 (by omega)
      have f3 := Hfa.out i 3 (by omega)
      rw [Nat.add_zero] at f0
      rw [f0] at y0
      rw [f1] at y1
      rw [f2] at y2
      rw [f3] at y3
      have hoki := Hok.out i
      have hlei := hle i
      have hyi := Hy.out i
      have hni := Hn.out i
      clear f0 f1 f2 f3 hGr
      generalize pat (rollF P i n) n = r at *
      have hXa := hXr.past (fourO r 23)
      obtain ⟨x0, x1, x2, x3⟩ := At.four hXa
      have hl4 := At.new4 wr r 23 rfl
      obtain ⟨l0, l1, l2, l3⟩ := At.four hl4
      have hB2 := hBr.alloc hBr.size (fourO r 23)
      clear hBr hXr hXa hl4
      have heq := fun w => run_eql_vals (P := Try.prog) w 23 3 4 Try.underlying23 Try.underlying3 Try.sizeOf3 r g
      simp only [← v4_vals] at heq
      rw [← hoki] at heq
      cases hb : ok i
      · rw [hb] at heq
        have He := Lib.hid (hni hb)
        generalize ww i = a at *
        go_wp2_with fail
        go_roundw
        case rel => exact ⟨i + 1, by omega, by go_num, by rw [He.out], hB2⟩
        case measure => simp [intOf]; omega
      · rw [hb] at heq
        have He := Lib.hid (hyi hb)
        generalize ww i = a at *
        go_wp2_with fail
        go_roundw
        case rel => exact ⟨i + 1, by omega, by go_num, by rw [He.out]; go_num, hB2⟩
        case measure => simp [intOf]; omega
    · obtain rfl : i = N6 := by omega
      have hbl := hbl.trans (hBr.mono hbl.size)
      go_wp2_with fail
      go_ret2
      exact ⟨rfl, hbl⟩


end PWaysI
end Go.Proofs.Ytbcaahaaaodhkaa
