/-
  ChanceBetter, by the program.
-/
import Derived.Test.YtbcaahaaaodhkaaRows
import Derived.Test.YtbcaahaaaodhkaaWaysC
import Derived.Test.YtbcaahaaaodhkaaPatV
import Derived.Test.YtbcaahaaaodhkaaPatC
import Derived.Test.YtbcaahaaaodhkaaRollR
import Derived.Test.YtbcaahaaaodhkaaFracW
import Derived.Test.YtbcaahaaaodhkaaCutW
import Derived.Test.YtbcaahaaaodhkaaPatsI
import Derived.Test.YtbcaahaaaodhkaaPatS
import Derived.Test.YtbcaahaaaodhkaaPlS
import Derived.Test.YtbcaahaaaodhkaaPatI
import Derived.Test.YtbcaahaaaodhkaaPlI
import Derived.Test.YtbcaahaaaodhkaaFour
import Derived.Test.YtbcaahaaaodhkaaPatM
import Derived.Test.YtbcaahaaaodhkaaSortDn
import Derived.Test.YtbcaahaaaodhkaaPlaces
import Derived.Test.YtbcaahaaaodhkaaRollWM
import Derived.Test.YtbcaahaaaodhkaaIntsM
import Derived.Test.YtbcaahaaaodhkaaPoolW
import Derived.Test.YtbcaahaaaodhkaaAll6
import Derived.Test.YtbcaahaaaodhkaaDicesW
import Derived.Test.YtbcaahaaaodhkaaOpenD
import Derived.WalkKit
import Derived.WalkLawsBesides
import Derived.WalkSpells
import Derived.ProofKit
import Derived.OpenShut
import Derived.Deep.RegionWith
import Derived.Deep.QuietTactic
import Derived.BigQuiet
namespace Go.Proofs.Ytbcaahaaaodhkaa
open Go.ChangeShapes Go.WideShapes Go.ChangeAt Go.RowKit
open Go.ChangeMaps (open_string shut_string)

namespace BettI
open Dice Arr OpenD DieW SortW DicesW PoolW All6 IntsW RollW Places PatM SortDn PlI Four PatI PatsI PlS PatS PatV PatC WaysC FracW CutW

set_option maxRecDepth 20000 in
set_option maxHeartbeats 4000000 in
theorem implB_any (A : Option Addr) (n c : Nat) (P : Nat → Nat → Int) (g : Nat → Int) (w : World) (h : Row w A n P) (hn : n ≤ maxLen) (hn2 : n ≤ 1048576) :
    Calls Try.prog 17 #[.slice A n c, v4 g] w fun e w' => e = .returned (.tuple (if isPool n P && valid n g then #[cutV (wN (isB P n g) (all6 n)) (all6 n), .bool true] else #[v2 0 0, .bool false])) ∧ Below w.heap.size w w' := by
  have Hv := Lib.hid (fun w => isPattern_any n g w hn2)
  have hX := (At.new4 w g 23 rfl).past (.cells #[.int .i64 0, .int .i64 0] 31)
  have hR := At.new2 (w.alloc (fourO g 23)) 31
  rw [size_alloc] at hR
  have hB := na (na (n0 w) (fourO g 23)) (.cells #[.int .i64 0, .int .i64 0] 31)
  have H := Lib.hid h; clear h
  cases hv : valid n g
  · rw [hv] at Hv
    simp only [Bool.and_false, Bool.false_eq_true, ↓reduceIte]
    clear hv
    obtain ⟨x0, x1, x2, x3⟩ := At.four hX
    go_enter Try.func17, Try.ntmps17
    go_wp2_with fail
    refine (Hv.out _).mono ?_
    rintro e w1 ⟨rfl, hb⟩
    have hbl := nx hB hb
    have hA := hR.up hb
    have c0 := hA.cell 0 (by omega)
    have c1 := hA.cell 1 (by omega)
    have z0 := hA.free 0
    have z1 := hA.free 1
    go_wp2_with fail
    refine ret_cell_tmp (b := w.heap.size + 1) (n := 2) (f := fr 0 0) Try.results17 rfl rfl Try.underlying31 (by kernel_rfl) (fin2' hA 0 0) rfl ⟨rfl, ?_⟩
    exact (hbl.setCell (p := ⟨w.heap.size + 1, 0, none⟩) (by show w.heap.size ≤ w.heap.size + 1; omega) _).setCell (p := ⟨w.heap.size + 1, 1, none⟩) (by show w.heap.size ≤ w.heap.size + 1; omega) _
  rw [hv] at Hv
  clear hv
  rw [Bool.and_true]
  cases hq : isPool n P
  · simp only [Bool.false_eq_true, ↓reduceIte]
    have Hp := Lib.hid (fun w h => pats_no A n c P w h hn hq)
    clear hq
    obtain ⟨x0, x1, x2, x3⟩ := At.four hX
    go_enter Try.func17, Try.ntmps17
    go_wp2_with fail
    refine (Hv.out _).mono ?_
    rintro e w1 ⟨rfl, hb⟩
    have hbl := nx hB hb
    have hA := hR.up hb
    clear hb
    go_wp2_with fail
    refine (Hp.out _ (H.out.up hbl)).mono ?_
    rintro e w2 ⟨rfl, hb⟩
    have hbl := nx hbl hb
    have hA := hA.up hb
    have c0 := hA.cell 0 (by omega)
    have c1 := hA.cell 1 (by omega)
    have z0 := hA.free 0
    have z1 := hA.free 1
    go_wp2_with fail
    refine ret_cell_tmp (b := w.heap.size + 1) (n := 2) (f := fr 0 0) Try.results17 rfl rfl Try.underlying31 (by kernel_rfl) (fin2' hA 0 0) rfl ⟨rfl, ?_⟩
    exact (hbl.setCell (p := ⟨w.heap.size + 1, 0, none⟩) (by show w.heap.size ≤ w.heap.size + 1; omega) _).setCell (p := ⟨w.heap.size + 1, 1, none⟩) (by show w.heap.size ≤ w.heap.size + 1; omega) _
  simp only [↓reduceIte]
  have Hp := Lib.hid (fun w h => pats_yes A n c P w h hn hq)
  have h6 := all6_le (of_pool hq).2.1
  clear hq
  have Hfa := Lib.hid (fun i q (hq : q < 4) => patF_at P n i hq)
  have hok : ∀ i, isB P n g i = bef g (pat (rollF P i n) n) := fun i => rfl
  have hle := wN_le (isB P n g)
  have Hy := Lib.hid (fun i => @wN_yes (isB P n g) i)
  have Hn := Lib.hid (fun i => @wN_no (isB P n g) i)
  have hf := fun w => fraction_any (wN (isB P n g) (all6 n)) (all6 n) w (by have := hle (all6 n); omega) (by omega) (by omega)
  obtain ⟨ww, hww⟩ : ∃ ww, ww = wN (isB P n g) := ⟨_, rfl⟩
  rw [← hww] at hle Hy Hn hf ⊢
  have hw0 : ww 0 = 0 := by rw [hww]; rfl
  clear hww
  generalize isB P n g = ok at *
  unfold cutV
  obtain ⟨m, hm⟩ : ∃ m, ww (all6 n) = m := ⟨_, rfl⟩
  rw [hm] at hf ⊢
  have Hf := Lib.hid hf; clear hf
  have Hmm := Lib.hid hm; clear hm
  have Hok := Lib.hid hok; clear hok
  generalize all6 n = N6 at *
  obtain ⟨x0, x1, x2, x3⟩ := At.four hX
  go_enter Try.func17, Try.ntmps17
  go_wp2_with fail
  refine (Hv.out _).mono ?_
  rintro e w1 ⟨rfl, hb⟩
  have hbl := nx hB hb
  have hX := hX.up hb
  have hA := hR.up hb
  clear hb x0 x1 x2 x3
  go_wp2_with fail
  refine (Hp.out _ (H.out.up hbl)).mono ?_
  rintro e w2 ⟨gp, rfl, hgp, hG, hb⟩
  have hbl := nx hbl hb
  have hX := hX.up hb
  have hA := hA.up hb
  clear hb hgp
  have hgl := hG.lt
  have hxl := hX.lt
  have Hkeep := Lib.hid (And.intro hG (And.intro hX hbl))
  clear hG hB
  go_wp2_with fail
  go_loopw [8, 27] (fun av iv wr => ∃ i : Nat, i ≤ N6 ∧ iv = .int .i64 i ∧ av = .int .i64 (ww i : Nat) ∧ Below w2.heap.size w2 wr) (fun _ iv _ => N6 - (intOf iv).toNat)
  case atStart => exact ⟨0, by omega, rfl, by rw [hw0]; rfl, n0 _⟩
  case round =>
    obtain ⟨i, hi, rfl, rfl, hBr⟩ := hrel
    by_cases hlt : i < N6
    · have hGr := Hkeep.out.1.below hgl hBr
      have hXr := Hkeep.out.2.1.below hxl hBr
      obtain ⟨y0, y1, y2, y3⟩ := from4 hGr (i * 4) (by omega)
      have f0 := Hfa.out i 0 (by omega)
      have f1 := Hfa.out i 1 (by omega)
      have f2 := Hfa.out i 2 (by omega)
      have f3 := Hfa.out i 3 (by omega)
      rw [Nat.add_zero] at f0
      rw [f0] at y0
      rw [f1] at y1
      rw [f2] at y2
      rw [f3] at y3
      have hoki := Hok.out i
      have hlei := hle i
      have hyi := Hy.out i
      have hni := Hn.out i
      clear f0 f1 f2 f3 hGr
      generalize pat (rollF P i n) n = r at *
      have hXa := hXr.past (fourO r 23)
      obtain ⟨x0, x1, x2, x3⟩ := At.four hXa
      have hl4 := At.new4 wr r 23 rfl
      obtain ⟨l0, l1, l2, l3⟩ := At.four hl4
      have hB2 := hBr.alloc hBr.size (fourO r 23)
      clear hBr hXr hXa hl4
      have hcp := fun w => compPat_any r g w
      rw [← hoki] at hcp
      have Hcp := Lib.hid hcp; clear hcp
      cases hb : ok i
      · rw [hb] at Hcp
        have He := Lib.hid (hni hb)
        generalize ww i = a at *
        go_wp2_with fail
        refine (Hcp.out _).mono ?_
        rintro e w3 ⟨⟨cc, rfl, hcc⟩, hb3⟩
        have hB3 := hB2.trans (hb3.mono hB2.size)
        clear hb3
        go_wp2_with fail
        go_roundw
        case rel => exact ⟨i + 1, by omega, by go_num, by rw [He.out], hB3⟩
        case measure => simp [intOf]; omega
      · rw [hb] at Hcp
        have He := Lib.hid (hyi hb)
        generalize ww i = a at *
        go_wp2_with fail
        refine (Hcp.out _).mono ?_
        rintro e w3 ⟨⟨cc, rfl, hcc⟩, hb3⟩
        have hB3 := hB2.trans (hb3.mono hB2.size)
        clear hb3
        go_wp2_with fail
        go_roundw
        case rel => exact ⟨i + 1, by omega, by go_num, by rw [He.out]; go_num, hB3⟩
        case measure => simp [intOf]; omega
    · obtain rfl : i = N6 := by omega
      have hbl := hbl.trans (hBr.mono hbl.size)
      have hA := hA.up hBr
      rw [Hmm.out]
      go_wp2_with fail
      refine (Hf.out _).mono ?_
      rintro e w3 ⟨rfl, hb3⟩
      have hbl := nx hbl hb3
      have hA := hA.up hb3
      clear hb3
      have c0 := hA.cell 0 (by omega)
      have c1 := hA.cell 1 (by omega)
      have z0 := hA.free 0
      have z1 := hA.free 1
      go_wp2_with fail
      refine ret_cell_tmp (b := w.heap.size + 1) (n := 2) (f := fr ((m : Int) / (Nat.gcd m i : Nat)) ((i : Int) / (Nat.gcd m i : Nat))) Try.results17 rfl rfl Try.underlying31 (by kernel_rfl) (fin2' hA ((m : Int) / (Nat.gcd m i : Nat)) ((i : Int) / (Nat.gcd m i : Nat))) rfl ⟨rfl, ?_⟩
      exact (hbl.setCell (p := ⟨w.heap.size + 1, 0, none⟩) (by show w.heap.size ≤ w.heap.size + 1; omega) _).setCell (p := ⟨w.heap.size + 1, 1, none⟩) (by show w.heap.size ≤ w.heap.size + 1; omega) _


end BettI
end Go.Proofs.Ytbcaahaaaodhkaa
