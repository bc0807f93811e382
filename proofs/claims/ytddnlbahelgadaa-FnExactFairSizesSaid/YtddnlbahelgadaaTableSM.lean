/-
  The contract of the model's table of sums.
-/
import Derived.Test.YtddnlbahelgadaaRows
import Derived.Test.YtddnlbahelgadaaTableIM
import Derived.Test.YtddnlbahelgadaaTableWM
import Derived.Test.YtddnlbahelgadaaTableM
import Derived.Test.YtddnlbahelgadaaSumsM
import Derived.Test.YtddnlbahelgadaaPoolW
import Derived.Test.YtddnlbahelgadaaSortW
import Derived.Test.YtddnlbahelgadaaDicesW
import Derived.Test.YtddnlbahelgadaaOpenD
import Derived.WalkKit
import Derived.WalkLawsBesides
import Derived.WalkSpells
import Derived.ProofKit
import Derived.OpenShut
import Derived.Deep.RegionWith
import Derived.Deep.WholeRow
import Derived.Deep.QuietTactic
import Derived.BigQuiet
namespace Go.Proofs.Ytddnlbahelgadaa
open Go.ChangeShapes Go.WideShapes Go.ChangeAt Go.RowKit
open Go.ChangeMaps (open_string shut_string)

namespace TableS
open Dice Arr OpenD DieW SortW DicesW PoolW SumsW Table TableW TableI

set_option maxRecDepth 100000 in
set_option maxHeartbeats 4000000 in
theorem l2Table_any (A : Option Addr) (n c : Nat) (P : Nat → Nat → Int) (w : World) (h : Row w A n P) (h4 : n ≤ 4) (hd : pooled P n) :
    Calls Try.prog 80 #[.slice A n c] w fun e w' => e = .returned (tv (T P n)) ∧ Below w.heap.size w w' := by
  have HT := Lib.hid (tab_T h4 (die_range' hd))
  have hdr := die_range' hd
  have H := Lib.hid h; clear h
  have hR := (fresh w (b := w.heap.size) rfl).past (.cells Try.zeroCells70 70)
  obtain ⟨w2, hst, hA2, hB2, hK2⟩ := store_ex (fresh (w.alloc (.cells Try.zeroCells70 70)) (b := w.heap.size + 1) (by rw [size_alloc])) Table.one
  have hbl2 : Below w.heap.size w w2 := (na (na (n0 w) _) _).trans (hB2 _ (by omega))
  have hr2 := hK2 w.heap.size 121 _ (by omega) hR
  clear hB2 hK2 hR
  go_enter Try.func80, Try.ntmps80
  go_wp2_with (refine b1 rfl rfl ?_)
  clear hst
  go_loopw [4] (fun iv wr => ∃ i : Nat, i ≤ n ∧ iv = .int .i64 i ∧ Below w.heap.size w wr ∧ At wr w.heap.size 121 (fun _ => 0) ∧ At wr (w.heap.size + 1) 121 (T P i)) (fun iv _ => n - (intOf iv).toNat)
  case atStart => exact ⟨0, by omega, rfl, hbl2, hr2, hA2⟩
  case round =>
    clear hbl2 hr2 hA2
    obtain ⟨i, hi, rfl, hb0, hr0, hW0⟩ := hrel
    by_cases hlt : i < n
    · have hit : decide ((i : Int) < (n : Int)) = true := decide_eq_true (by omega)
      have Ht := Lib.hid (HT.out i hi)
      have hdi := hdr i hlt
      have Hmid := Lib.hid (mid_outer Ht.out (by omega) hdi)
      obtain ⟨w3, hst, hN, hB3, hK3⟩ := store_ex (fresh wr (b := wr.heap.size) rfl) (fun _ => 0)
      have hb3 : Below w.heap.size w w3 := (na hb0 _).trans (hB3 _ hb0.size)
      have hr3 := hK3 w.heap.size 121 _ (Nat.ne_of_lt hr0.lt) (hr0.past _)
      have hW3 := hK3 (w.heap.size + 1) 121 _ (Nat.ne_of_lt hW0.lt) (hW0.past _)
      have hnb : w.heap.size + 1 < wr.heap.size := hW0.lt
      clear hB3 hK3 hb0 hr0 hW0
      go_wp2_with (refine b0 rfl rfl ?_)
      clear hst
      generalize wr.heap.size = nb at *
      go_loopw [6] (fun sv wr => ∃ s : Nat, s ≤ 121 ∧ sv = .int .i64 s ∧ Below w.heap.size w wr ∧ At wr w.heap.size 121 (fun _ => 0) ∧ At wr (w.heap.size + 1) 121 (T P i) ∧ At wr nb 121 (outer (T P i) (P i) s)) (fun sv _ => 121 - (intOf sv).toNat)
      case atStart => exact ⟨0, by omega, rfl, hb3, hr3, hW3, hN⟩
      case round =>
        clear hb3 hr3 hW3 hN
        obtain ⟨s, hs, rfl, hb, hr, hW, hN⟩ := hrel
        by_cases hslt : s < 121
        · have hits : decide ((s : Int) < 121) = true := decide_eq_true (by omega)
          have Hm0 := Lib.hid (Hmid.out s)
          have Hin := Lib.hid (mid_inner Ht.out (by omega) hdi Hm0.out)
          have hfs := Ht.out.small (by omega) s hslt
          go_wp2_with fail
          go_loopw [7] (fun kv wr => ∃ k : Nat, k ≤ 6 ∧ kv = .int .i64 k ∧ Below w.heap.size w wr ∧ At wr w.heap.size 121 (fun _ => 0) ∧ At wr (w.heap.size + 1) 121 (T P i) ∧ At wr nb 121 (inner (T P i) (P i) s k (outer (T P i) (P i) s))) (fun kv _ => 6 - (intOf kv).toNat)
          case atStart => exact ⟨0, by omega, rfl, hb, hr, hW, hN⟩
          case round =>
            clear hb hr hW hN
            obtain ⟨k, hk, rfl, hb, hr, hW, hN⟩ := hrel
            by_cases hk6 : k < 6
            · have cs := hW.cell s hslt
              by_cases h0 : T P i s = 0
              · have hg : decide (0 < T P i s) = false := decide_eq_false (by omega)
                have hz := Lib.hid ((inner_zero (d := P i) h0 (k + 1) (outer (T P i) (P i) s)).trans (inner_zero (d := P i) h0 k (outer (T P i) (P i) s)).symm)
                go_wp2_with fail
                go_roundw
                case rel => exact ⟨k + 1, by omega, by go_num, hb, hr, hW, by rw [hz.out]; exact hN⟩
                case measure => simp [intOf]; omega
              · have hg : decide (0 < T P i s) = true := decide_eq_true (by omega)
                obtain ⟨bk, o, rfl, hbk, hc⟩ := (H.out.below (Nat.le_refl _) hb).at_ hlt
                have ck := hc k hk6
                simp only [← Nat.add_assoc] at ck
                have hx := index_lt Ht.out (by omega) hdi hk6 h0
                have bk6 := hdi k hk6
                have hsm := (Hin.out k (by omega)).small Ht.out (by omega) (by omega) hslt (s + (P i k).toNat) hx.1
                have cj := hN.cell (s + (P i k).toNat) hx.1
                have zj := hN.free (s + (P i k).toNat)
                have hj : ((s : Int) + P i k).toNat = s + (P i k).toNat := by omega
                have hjlt : (s : Int) + P i k < 121 := by omega
                clear hc
                go_wp2_with fail
                go_region
                all_goals
                  go_wp2_with fail
                  go_roundw
                  case rel => exact ⟨k + 1, by omega, by go_num, (hb.setCell (p := ⟨nb, s + (P i k).toNat, none⟩) (by show w.heap.size ≤ nb; omega) _).drew, (hr.other (by omega) _ _).drew, (hW.other (by omega) _ _).drew, (hN.set hx.1 _).drew⟩
                  case measure => simp [intOf]; omega
            · obtain rfl : k = 6 := by omega
              go_wp2_with fail
              go_roundw
              case rel => exact ⟨s + 1, by omega, by go_num, hb, hr, hW, hN⟩
              case measure => simp [intOf]; omega
        · obtain rfl : s = 121 := by omega
          obtain ⟨w4, hst, hA4, hB4, hK4⟩ := store_ex hW (outer (T P i) (P i) 121)
          have hbl4 := hb.trans (hB4 _ (by omega))
          have hr4 := hK4 w.heap.size 121 _ (by omega) hr
          clear hB4 hK4
          go_wp2_with (refine ld rfl _ rfl rfl hN ?_)
          go_roundw
          case rel => exact ⟨i + 1, by omega, by go_num, hbl4, hr4, hA4⟩
          case measure => simp [intOf]; omega
    · obtain rfl : i = n := by omega
      obtain ⟨w4, hst, hA4, hB4, hK4⟩ := store_ex hr0 (T P i)
      have hbl4 := hb0.trans (hB4 _ (Nat.le_refl _))
      clear hK4 hB4
      go_wp2_with (refine ld rfl _ rfl rfl hW0 ?_)
      exact ret_cell (b := w.heap.size) (n := 121) (f := T P i) Try.results80 rfl Try.underlying70 size_run hA4 rfl ⟨rfl, hbl4⟩


end TableS
end Go.Proofs.Ytddnlbahelgadaa
