/-
  The order of a roll, in the model.
-/
import Derived.Test.YtiiknpebphpeiaaRows
import Derived.Test.YtiiknpebphpeiaaArr
import Derived.Test.YtiiknpebphpeiaaDieW
import Derived.Test.YtiiknpebphpeiaaSortW
import Derived.Test.YtiiknpebphpeiaaDicesW
import Derived.Test.YtiiknpebphpeiaaPoolW
import Derived.Test.YtiiknpebphpeiaaAll6
import Derived.Test.YtiiknpebphpeiaaIntsW
import Derived.Test.YtiiknpebphpeiaaRollN
import Derived.Test.YtiiknpebphpeiaaRollS
import Derived.Test.YtiiknpebphpeiaaFour
import Derived.Test.YtiiknpebphpeiaaOrdM
import Derived.Test.YtiiknpebphpeiaaOrdT
import Derived.Test.YtiiknpebphpeiaaOpenD
import Derived.WalkKit
import Derived.WalkLawsBesides
import Derived.WalkSpells
import Derived.ProofKit
import Derived.OpenShut
import Derived.Deep.RegionWith
import Derived.Deep.QuietTactic
import Derived.BigQuiet
namespace Go.Proofs.Ytiiknpebphpeiaa
open Go.ChangeShapes Go.WideShapes Go.ChangeAt Go.RowKit
open Go.ChangeMaps (open_string shut_string)

namespace OrdW
open Dice Arr OpenD DieW SortW DicesW PoolW All6 IntsW RollW Four OrdM OrdT

theorem belowN {B : Nat} {w0 w : World} (h : Below B w0 w) (q : Nat) : Below B w0 (w.drewN q) := ⟨h.os, h.tape, h.output, h.size, fun k hk => h.block k hk⟩
set_option maxRecDepth 20000 in
set_option maxHeartbeats 4000000 in
theorem specOrd_any (g n c : Nat) (f : Nat → Int) (w : World) (hL : At w g n f) (hn : n ≤ 4) :
    Calls Try.prog 62 #[.slice (some ⟨g, 0, none⟩) n c] w fun e w' => e = .returned (.tuple #[v4 (ordF f n), .bool (okb f n)]) ∧ Below w.heap.size w w' := by
  have hgl := hL.lt
  have hL := (hL.past (fourO (fun _ => 0) 26)).past (fourO (fun _ => -1) 26)
  have hB := na (na (n0 w) (fourO (fun _ => 0) 26)) (fourO (fun _ => -1) 26)
  have hR := (At.new4 w (fun _ => 0) 26 rfl).past (fourO (fun _ => -1) 26)
  have hO := At.new4 (w.alloc (fourO (fun _ => 0) 26)) (fun _ => -1) 26 (b := w.heap.size + 1) (by rw [size_alloc])
  go_enter Try.func62, Try.ntmps62
  go_wp2_with fail
  go_loopw [5] (fun iv wr => ∃ i : Nat, i ≤ n ∧ iv = .int .i64 i ∧ Below w.heap.size w wr ∧ At wr w.heap.size 4 (fun _ => 0) ∧ At wr (w.heap.size + 1) 4 (pl f n i) ∧ At wr g n f ∧ Hid (tieb f n i = false)) (fun iv _ => n - (intOf iv).toNat)
  case atStart => exact ⟨0, Nat.zero_le _, rfl, hB, hR, hO, hL, rfl⟩
  case round =>
    clear hB hR hO hL
    obtain ⟨i, hi, rfl, hB, hR, hO, hL, ht⟩ := hrel
    by_cases hlt : i < n
    · have hit : decide ((i : Int) < (n : Int)) = true := decide_eq_true (by omega)
      have hitN : decide (i < n) = true := decide_eq_true hlt
      have ci := hL.cell i hlt
      go_wp2_with fail
      go_loopw [6, 7] (fun pv kv wr => ∃ k : Nat, k ≤ n ∧ kv = .int .i64 k ∧ pv = .int .i64 (rk f i k : Nat) ∧ Hid (eqb f i k = false) ∧ Below w.heap.size w wr ∧ At wr w.heap.size 4 (fun _ => 0) ∧ At wr (w.heap.size + 1) 4 (pl f n i) ∧ At wr g n f ∧ Hid (tieb f n i = false)) (fun _ kv _ => n - (intOf kv).toNat)
      case atStart => exact ⟨0, Nat.zero_le _, rfl, rfl, rfl, hB, hR, hO, hL, ht⟩
      case round =>
        clear hB hR hO hL ht ci
        obtain ⟨k, hk, rfl, rfl, hq, hB, hR, hO, hL, ht⟩ := hrel
        by_cases hlk : k < n
        · have hkt : decide ((k : Int) < (n : Int)) = true := decide_eq_true (by omega)
          have hktN : decide (k < n) = true := decide_eq_true hlk
          have ci := hL.cell i hlt
          have ck := hL.cell k hlk
          have hrl := rk_le f i k
          have hup := Lib.hid (@rk_up f i k)
          have hst := Lib.hid (@rk_stay f i k)
          have hmi := Lib.hid (@eqb_miss f i k)
          have hhi := Lib.hid (fun (a : k ≠ i) (b : f k = f i) => eqb_hit (f := f) hlk a b)
          by_cases hki : k = i
          · have hne : ((k : Int) != (i : Int)) = false := by rw [hki]; simp
            have hneN : (k != i) = false := by rw [hki]; simp
            have hgt : decide (f i < f k) = false := by rw [hki]; exact decide_eq_false (Int.lt_irrefl _)
            have hs := Lib.hid (hst.out (by rw [hki]; exact Int.lt_irrefl _))
            have hm := Lib.hid (hmi.out fun e => e.1 hki)
            clear hki hup hst hmi hhi
            go_wp2_with fail
            go_quiet (fail)
            go_wp2_with fail
            go_quiet (fail)
            go_wp2_with fail
            go_roundw
            case rel => exact ⟨k + 1, by omega, by go_num, by rw [hs.out], by show _ = _; rw [hm.out]; exact hq.out, belowN (hB) _, hR.drewN _, hO.drewN _, hL.drewN _, ht⟩
            case measure => simp [intOf]; omega
          · have hne : ((k : Int) != (i : Int)) = true := by simp; omega
            have hneN : (k != i) = true := by simp; omega
            by_cases hfe : f k = f i
            · have heq : (f k == f i) = true := by simpa using hfe
              have hF := Lib.hid (tieb_hit hlt (hhi.out hki hfe))
              have Hki := Lib.hid hki; clear hki
              have Hfe := Lib.hid hfe; clear hfe hup hst hmi hhi hq ht
              clear hO
              obtain ⟨c0, c1, c2, c3⟩ := At.four hR
              obtain ⟨z0, z1, z2, z3⟩ := At.freefour hR
              go_wp2_with fail
              go_quiet (fail)
              go_wp2_with fail
              have e1 : ordF f n = fun _ => 0 := ordF_yes hF.out
              have e2 : okb f n = false := by unfold okb; rw [hF.out]; rfl
              rename_i nq
              have hX := At.s4 (hR.drewN nq) (fun _ => 0)
              have hY := below_s4 (belowN hB nq) (show w.heap.size ≤ w.heap.size by omega) (fun _ => 0)
              refine ret_cell_tmpS (b := w.heap.size) (n := 4) (f := fun _ => 0) (x := .bool false) Try.results62 rfl rfl under size4 hX rfl ?_
              exact ⟨by rw [e1, e2]; rfl, hY⟩
            · have heq : (f k == f i) = false := by simpa using hfe
              have hm := Lib.hid (hmi.out fun e => hfe e.2)
              have Hki := Lib.hid hki; clear hki
              have Hfe := Lib.hid hfe; clear hfe hmi hhi
              by_cases hgr : f i < f k
              · have hgt : decide (f i < f k) = true := decide_eq_true hgr
                have hs := Lib.hid (hup.out hgr)
                clear hgr hup hst
                go_wp2_with fail
                go_quiet (fail)
                go_wp2_with fail
                go_quiet (fail)
                go_wp2_with fail
                go_roundw
                case rel => exact ⟨k + 1, by omega, by go_num, by rw [hs.out]; go_num, by show _ = _; rw [hm.out]; exact hq.out, belowN (hB) _, hR.drewN _, hO.drewN _, hL.drewN _, ht⟩
                case measure => simp [intOf]; omega
              · have hgt : decide (f i < f k) = false := decide_eq_false hgr
                have hs := Lib.hid (hst.out hgr)
                clear hgr hup hst
                go_wp2_with fail
                go_quiet (fail)
                go_wp2_with fail
                go_quiet (fail)
                go_wp2_with fail
                go_roundw
                case rel => exact ⟨k + 1, by omega, by go_num, by rw [hs.out], by show _ = _; rw [hm.out]; exact hq.out, belowN (hB) _, hR.drewN _, hO.drewN _, hL.drewN _, ht⟩
                case measure => simp [intOf]; omega
        · have hkn1 : k = n := by omega
          have hkt : decide ((k : Int) < (n : Int)) = false := decide_eq_false (by omega)
          have hktN : decide (k < n) = false := decide_eq_false (by omega)
          have hrn := rk_lt (f := f) hlt
          have hnx := Lib.hid (tieb_next ht.out (by have := hq.out; rw [hkn1] at this; exact this))
          rw [hkn1]
          clear hkn1 hlk hk hq
          obtain ⟨r, hr⟩ : ∃ r, r = rk f i n := ⟨_, rfl⟩
          have hpl : put (pl f n i) r i = pl f n (i + 1) := by rw [hr]; rfl
          rw [← hr] at hrn ⊢
          have Hpl := Lib.hid hpl; clear hpl hr
          have hr4 : r < 4 := by omega
          have cr := hO.cell r hr4
          have zr := hO.free r
          go_wp2_with fail
          go_roundw
          case rel => exact ⟨i + 1, by omega, by go_num, hB.setCell (p := ⟨(w.heap.size + 1), r, none⟩) (by show w.heap.size ≤ (w.heap.size + 1); omega) _, hR.other (by omega) _ _, by rw [← Hpl.out]; exact hO.set hr4 _, hL.other (by omega) _ _, hnx.out⟩
          case measure => simp [intOf]; omega
    · obtain rfl : i = n := by omega
      have hit : decide ((i : Int) < (i : Int)) = false := decide_eq_false (by omega)
      have hitN : decide (i < i) = false := decide_eq_false (by omega)
      obtain ⟨o0, o1, o2, o3⟩ := At.four hO
      obtain ⟨c0, c1, c2, c3⟩ := At.four hR
      obtain ⟨z0, z1, z2, z3⟩ := At.freefour hR
      have e1 : ordF f i = pl f i i := ordF_no ht.out
      have e2 : okb f i = true := by unfold okb; rw [ht.out]; rfl
      clear ht
      go_wp2_with fail
      have hX := At.s4 hR (pl f i i)
      have hY := below_s4 (hB) (show w.heap.size ≤ w.heap.size by omega) (pl f i i)
      refine ret_cell_tmpS (b := w.heap.size) (n := 4) (f := pl f i i) (x := .bool true) Try.results62 rfl rfl under size4 hX rfl ?_
      exact ⟨by rw [e1, e2]; rfl, hY⟩


end OrdW
end Go.Proofs.Ytiiknpebphpeiaa
