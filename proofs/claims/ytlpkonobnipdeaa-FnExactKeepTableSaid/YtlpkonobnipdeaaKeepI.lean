/-
  KeepTable, by the program.
-/
import Derived.Test.YtlpkonobnipdeaaRows
import Derived.Test.YtlpkonobnipdeaaBig121
import Derived.Test.YtlpkonobnipdeaaPlcC
import Derived.Test.YtlpkonobnipdeaaPlI
import Derived.Test.YtlpkonobnipdeaaSortDn
import Derived.Test.YtlpkonobnipdeaaPlaces
import Derived.Test.YtlpkonobnipdeaaRollWM
import Derived.Test.YtlpkonobnipdeaaIntsM
import Derived.Test.YtlpkonobnipdeaaPoolW
import Derived.Test.YtlpkonobnipdeaaAll6
import Derived.Test.YtlpkonobnipdeaaDicesW
import Derived.Test.YtlpkonobnipdeaaOpenD
import Derived.WalkKit
import Derived.WalkLawsBesides
import Derived.WalkSpells
import Derived.ProofKit
import Derived.OpenShut
import Derived.Deep.RegionWith
import Derived.Deep.WholeRow
import Derived.Deep.QuietTactic
import Derived.BigQuiet
namespace Go.Proofs.Ytlpkonobnipdeaa
open Go.ChangeShapes Go.WideShapes Go.ChangeAt Go.RowKit
open Go.ChangeMaps (open_string shut_string)

namespace KeepI
open Dice Arr OpenD DieW SortW DicesW PoolW All6 IntsW RollW Places SortDn PlI PlcC Big121

set_option maxRecDepth 100000 in
set_option maxHeartbeats 4000000 in
theorem implKeep_any (A : Option Addr) (n c : Nat) (P : Nat → Nat → Int) (k : Int) (w : World) (h : Row w A n P) (hn : n ≤ maxLen) :
    Calls Try.prog 66 #[.slice A n c, .int .i64 k] w fun e w' => e = .returned (.tuple (if okK n P k then #[tv (cnt (sumOf P n k.toNat) (all6 n)), .bool true] else #[tv fun _ => 0, .bool false])) ∧ Below w.heap.size w w' := by
  have Hpl := Lib.hid (fun w => isPlace_any n k w)
  have hR := fresh w (b := w.heap.size) rfl
  unfold okK
  by_cases hk : 1 ≤ k ∧ k ≤ n
  · have hd := decide_eq_true hk
    rw [hd, Bool.and_true]
    rw [hd] at Hpl
    clear hd
    cases hq : isPool n P
    · simp only [Bool.false_eq_true, ↓reduceIte]
      have Hp := Lib.hid (fun w h => places_no A n c P w h hn hq)
      clear hk hq
      go_enter Try.func66, Try.ntmps66
      go_wp2_with fail
      refine (Hpl.out _).mono ?_
      rintro e w0 ⟨rfl, hb0⟩
      have hbl := nx (na (n0 w) _) hb0
      have hr := hR.up hb0
      clear hb0
      go_wp2_with fail
      refine (Hp.out _ (h.up hbl)).mono ?_
      rintro e w1 ⟨rfl, hb⟩
      have hbl := nx hbl hb
      have hr := hr.up hb
      clear hb
      go_wp2_with (first | refine ld rfl _ rfl rfl (by assumption) ?_ | refine st rfl _ _ rfl rfl rfl (by assumption) ?_ | refine b0 rfl rfl ?_)
      refine ret_cell_tmp (b := w.heap.size) (n := 121) (f := fun _ => 0) Try.results66 rfl rfl Try.underlying79 size_run (hr.stored fun _ => 0) rfl ⟨rfl, ?_⟩
      exact hbl.trans (setCells_below (w := w1) (p := w.heap.size) (B := w.heap.size) (Nat.le_refl _) (vals 121 fun _ => 0) 0)
    · simp only [↓reduceIte]
      have Hp := Lib.hid (fun w h => places_yes A n c P w h hn hq)
      obtain ⟨h1, h4, hdi⟩ := of_pool hq
      have hrr := roll_range hdi
      clear hdi hq
      obtain ⟨k, rfl⟩ : ∃ j : Nat, k = j := ⟨k.toNat, by omega⟩
      have hk1 : 1 ≤ k := by omega
      have hkn : k ≤ n := by omega
      clear hk
      rw [Int.toNat_natCast]
      have h6 := all6_le h4
      obtain ⟨s, hs⟩ : ∃ s, s = sumOf P n k := ⟨_, rfl⟩
      have hsi : ∀ i, s i = top (rollF P i n) n k := fun i => by rw [hs]; rfl
      rw [← hs]
      clear hs
      have hsr : ∀ i, 0 ≤ s i ∧ s i < 121 := fun i => by
        rw [hsi]
        have := top_range (hrr i) k hkn
        omega
      have Hcn := Lib.hid (fun (i : Nat) (q : Nat) (h : s i = (q : Int)) => cnt_next h)
      have hcb := fun i j => cnt_bound s i j
      have Hsi := Lib.hid hsi; clear hsi
      generalize all6 n = N at *
      go_enter Try.func66, Try.ntmps66
      go_wp2_with fail
      refine (Hpl.out _).mono ?_
      rintro e w0 ⟨rfl, hb0⟩
      have hbl := nx (na (n0 w) _) hb0
      have hr := hR.up hb0
      clear hb0
      go_wp2_with fail
      refine (Hp.out _ (h.up hbl)).mono ?_
      rintro e w1 ⟨R, b, rfl, hPl, hb⟩
      have hbl := nx hbl hb
      have hr := hr.up hb
      have hT := fresh w1 (b := w1.heap.size) rfl
      have hbT := na (n0 w1) (.cells Try.zeroCells79 79)
      have hlt1 : w.heap.size < w1.heap.size := hr.lt
      clear hb
      have HPl := Lib.hid hPl; clear hPl
      go_wp2_with fail
      go_loopw [30] (fun iv wr => ∃ i : Nat, i ≤ N ∧ iv = .int .i64 i ∧ Below w1.heap.size w1 wr ∧ At wr w1.heap.size 121 (cnt s i)) (fun iv _ => N - (intOf iv).toNat)
      case atStart => exact ⟨0, by omega, rfl, hbT, hT⟩
      case round =>
        clear hT hbT
        obtain ⟨i, hi, rfl, hB, hT⟩ := hrel
        by_cases hlt : i < N
        · obtain ⟨hBR, hBb, hV, G, hG, hGd⟩ := HPl.out.below (Nat.le_refl _) hB
          have hci := hcb i
          have Hci := Lib.hid (fun q h => Hcn.out i q h)
          have hsri := hsr i
          have hsii := Hsi.out i
          have cR := hV.cell i hlt
          obtain ⟨a, ha⟩ : ∃ a, a = i * n := ⟨_, rfl⟩
          rw [← ha] at cR
          have ham : ∀ j, j < n → a + j < N * n := fun j hj => by
            have : (i + 1) * n ≤ N * n := Nat.mul_le_mul_right _ hlt
            rw [Nat.add_mul, Nat.one_mul, ← ha] at this
            omega
          have hgc : ∀ j, j < n → wr.cell? ⟨b, a + j, none⟩ = some (.int .i64 (ds (rollF P i n) n j)) := fun j hj => by
            rw [hG.cell _ (ham j hj), ha, hGd i hlt j hj]
          have hrf := hrr i
          generalize rollF P i n = f at *
          have Hgc := Lib.hid hgc
          clear hgc ham ha hG hGd hV hBR hBb hcb
          have hkn' : (k : Int) ≤ (n : Int) := by omega
          go_wp2_with fail
          go_loopw [11, 38] (fun sv jv wx => ∃ j : Nat, j ≤ k ∧ jv = .int .i64 j ∧ sv = .int .i64 (top f n j) ∧ wx = wr) (fun _ jv _ => k - (intOf jv).toNat)
          case atStart => exact ⟨0, by omega, rfl, rfl, rfl⟩
          case round =>
            obtain ⟨W, rfl⟩ : ∃ W, W = wr := ⟨wr, rfl⟩
            obtain ⟨j, hj, rfl, rfl, rfl⟩ := hrel
            by_cases hjk : j < k
            · have cj := Hgc.out j (by omega)
              have b1 := top_range hrf j (by omega)
              have b2 := ds_range hrf (k := j) (by omega)
              have Hn := Lib.hid (top_next f n j)
              go_wp2_with fail
              go_roundw
              case rel => exact ⟨j + 1, by omega, by go_num, by rw [Hn.out] <;> first | rfl | go_num, by first | rfl | trivial⟩
              case measure => simp [intOf]; omega
            · obtain rfl : j = k := by omega
              obtain ⟨q, hq⟩ : ∃ q : Nat, s i = (q : Int) := ⟨(s i).toNat, by omega⟩
              have Hc1 := Lib.hid (Hci.out q hq)
              have hqm : q < 121 := by omega
              rw [hsii] at hq
              rw [hq]
              clear hsii hsri
              have cq := hT.cell q hqm
              have zq := hT.free q
              have hcq := hci q
              clear hci Hci
              go_wp2_with fail
              go_roundw
              case rel => exact ⟨i + 1, by omega, by go_num, hB.setCell (p := ⟨w1.heap.size, q, none⟩) (Nat.le_refl _) _, by rw [Hc1.out]; exact hT.set hqm _⟩
              case measure => simp [intOf]; omega
        · obtain rfl : i = N := by omega
          have hr2 := hr.below hlt1 hB
          have hbl2 := hbl.trans (hB.mono hbl.size)
          obtain ⟨w4, hst, hA4, hB4, hK4⟩ := store_ex hr2 (cnt s i)
          have hbl4 := hbl2.trans (hB4 _ (Nat.le_refl _))
          clear hK4 hB4
          go_wp2_with (refine ld rfl _ rfl rfl hT ?_)
          exact ret_cell_tmp (b := w.heap.size) (n := 121) (f := cnt s i) Try.results66 rfl rfl Try.underlying79 size_run hA4 rfl ⟨rfl, hbl4⟩
  · have hd := decide_eq_false hk
    rw [hd, Bool.and_false]
    rw [hd] at Hpl
    simp only [Bool.false_eq_true, ↓reduceIte]
    clear hd hk
    go_enter Try.func66, Try.ntmps66
    go_wp2_with fail
    refine (Hpl.out _).mono ?_
    rintro e w1 ⟨rfl, hb0⟩
    have hbl := nx (na (n0 w) _) hb0
    have hr := hR.up hb0
    clear hb0
    go_wp2_with (first | refine ld rfl _ rfl rfl (by assumption) ?_ | refine st rfl _ _ rfl rfl rfl (by assumption) ?_ | refine b0 rfl rfl ?_)
    refine ret_cell_tmp (b := w.heap.size) (n := 121) (f := fun _ => 0) Try.results66 rfl rfl Try.underlying79 size_run (hr.stored fun _ => 0) rfl ⟨rfl, ?_⟩
    exact hbl.trans (setCells_below (w := w1) (p := w.heap.size) (B := w.heap.size) (Nat.le_refl _) (vals 121 fun _ => 0) 0)


end KeepI
end Go.Proofs.Ytlpkonobnipdeaa
