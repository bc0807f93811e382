/-
  Turns, by the program: the ways in which they end.
-/
import Derived.Test.YtcffglnfdnanhaaRows
import Derived.Test.YtcffglnfdnanhaaArr
import Derived.Test.YtcffglnfdnanhaaAnyR
import Derived.Test.YtcffglnfdnanhaaDieW
import Derived.Test.YtcffglnfdnanhaaSortW
import Derived.Test.YtcffglnfdnanhaaFracW
import Derived.Test.YtcffglnfdnanhaaFracL
import Derived.Test.YtcffglnfdnanhaaCutW
import Derived.Test.YtcffglnfdnanhaaAll6
import Derived.Test.YtcffglnfdnanhaaAllL
import Derived.Test.YtcffglnfdnanhaaOwnL
import Derived.Test.YtcffglnfdnanhaaFracM
import Derived.Test.YtcffglnfdnanhaaStopM
import Derived.Test.YtcffglnfdnanhaaRunM
import Derived.Test.YtcffglnfdnanhaaRunI
import Derived.Test.YtcffglnfdnanhaaRunS
import Derived.Test.YtcffglnfdnanhaaRunW
import Derived.Test.YtcffglnfdnanhaaHoldM
import Derived.Test.YtcffglnfdnanhaaBig40
import Derived.Test.YtcffglnfdnanhaaRunW
import Derived.Test.YtcffglnfdnanhaaOpenD
import Derived.WalkKit
import Derived.WalkLawsBesides
import Derived.WalkSpells
import Derived.ProofKit
import Derived.OpenShut
import Derived.Deep.RegionWith
import Derived.Deep.QuietTactic
import Derived.BigQuiet
namespace Go.Proofs.Ytcffglnfdnanhaa
open Go.ChangeShapes Go.WideShapes Go.ChangeAt Go.RowKit
open Go.ChangeMaps (open_string shut_string)

namespace HoldI
open Dice Arr DieW SortW FracW CutW All6 AllL OwnL FracM StopM RunM RunI RunS RunW HoldM


/-- The table of the program, as numbers. -/
def zv (f : Nat → Nat) (t : Nat) : Int := (f t : Int)
theorem zv_st0 (f : Nat → Nat) (bad t : Nat) : zv (st f bad 0) t = if t = 0 then 60466176 else 0 := by
  unfold zv
  show (((if t = 0 then 60466176 else 0 : Nat) : Nat) : Int) = _
  split <;> rfl
theorem zv_inn0 (f : Nat → Nat) (bad n t : Nat) : put (zv (st f bad n)) n 0 t = zv (inn f bad (st f bad n) n 0) t := by
  unfold put zv
  show _ = ((if t = n then 0 else st f bad n t : Nat) : Int)
  split <;> rfl
theorem zv_inn {f : Nat → Nat} {bad n i x : Nat} (hx : x = if f i = bad then 0 else n + f i) (t : Nat) : put (zv (inn f bad (st f bad n) n i)) x (zv (inn f bad (st f bad n) n i) x + ((st f bad n n / 6 : Nat) : Int)) t = zv (inn f bad (st f bad n) n (i + 1)) t := by
  unfold put zv
  show _ = ((inn f bad (st f bad n) n i t + (if t = (if f i = bad then 0 else n + f i) then st f bad n n / 6 else 0) : Nat) : Int)
  rw [← hx]
  by_cases h : t = x
  · subst h
    rw [if_pos rfl, if_pos rfl, Int.natCast_add]
  · rw [if_neg h, if_neg h]
    rfl

set_option maxRecDepth 100000 in
set_option maxHeartbeats 16000000 in
theorem implTurn_any (d : Nat → Int) (f : Nat → Nat) (bad h : Nat) (w : World) (hd : faces d f) (h10 : h ≤ 10) :
    Calls Try.prog 65 #[dv d, .int .i64 bad, .int .i64 h] w fun e w' => e = .returned (Big40.tv (zv (st f bad h))) ∧ Below w.heap.size w w' := by
  have Ho := Lib.hid (fun w => outcomesL 10 w (by omega))
  rw [show all6 10 = 60466176 from by decide] at Ho
  have hix0 := fun (w : World) (k : Nat) (hk : k < 6) => run_index_vals (P := Try.prog) w 22 3 6 Try.underlying22 Try.underlying3 Try.sizeOf3 d hk
  simp only [← dv_vals] at hix0
  unfold dv at hix0
  have Hix := Lib.hid hix0; clear hix0
  have Hd := Lib.hid hd; clear hd
  unfold dv
  have hB0 := na (na (n0 w) (sixO d 22)) (.cells #[.int .i64 0, .int .i64 0, .int .i64 0, .int .i64 0, .int .i64 0, .int .i64 0, .int .i64 0, .int .i64 0, .int .i64 0, .int .i64 0, .int .i64 0, .int .i64 0, .int .i64 0, .int .i64 0, .int .i64 0, .int .i64 0, .int .i64 0, .int .i64 0, .int .i64 0, .int .i64 0, .int .i64 0, .int .i64 0, .int .i64 0, .int .i64 0, .int .i64 0, .int .i64 0, .int .i64 0, .int .i64 0, .int .i64 0, .int .i64 0, .int .i64 0, .int .i64 0, .int .i64 0, .int .i64 0, .int .i64 0, .int .i64 0, .int .i64 0, .int .i64 0, .int .i64 0, .int .i64 0] 68)
  have hD0 := (At.new6 w d 22 rfl).past (.cells #[.int .i64 0, .int .i64 0, .int .i64 0, .int .i64 0, .int .i64 0, .int .i64 0, .int .i64 0, .int .i64 0, .int .i64 0, .int .i64 0, .int .i64 0, .int .i64 0, .int .i64 0, .int .i64 0, .int .i64 0, .int .i64 0, .int .i64 0, .int .i64 0, .int .i64 0, .int .i64 0, .int .i64 0, .int .i64 0, .int .i64 0, .int .i64 0, .int .i64 0, .int .i64 0, .int .i64 0, .int .i64 0, .int .i64 0, .int .i64 0, .int .i64 0, .int .i64 0, .int .i64 0, .int .i64 0, .int .i64 0, .int .i64 0, .int .i64 0, .int .i64 0, .int .i64 0, .int .i64 0] 68)
  have hR0 := Big40.fresh (w.alloc (sixO d 22)) (b := w.heap.size + 1) (by rw [size_alloc])
  have hE0 := Big40.fresh ((w.alloc (sixO d 22)).alloc (.cells #[.int .i64 0, .int .i64 0, .int .i64 0, .int .i64 0, .int .i64 0, .int .i64 0, .int .i64 0, .int .i64 0, .int .i64 0, .int .i64 0, .int .i64 0, .int .i64 0, .int .i64 0, .int .i64 0, .int .i64 0, .int .i64 0, .int .i64 0, .int .i64 0, .int .i64 0, .int .i64 0, .int .i64 0, .int .i64 0, .int .i64 0, .int .i64 0, .int .i64 0, .int .i64 0, .int .i64 0, .int .i64 0, .int .i64 0, .int .i64 0, .int .i64 0, .int .i64 0, .int .i64 0, .int .i64 0, .int .i64 0, .int .i64 0, .int .i64 0, .int .i64 0, .int .i64 0, .int .i64 0] 68)) (b := w.heap.size + 2) (by rw [size_alloc, size_alloc])
  obtain ⟨w2, hst, hE2, hB2, hK2⟩ := Big40.store_ex hE0 (fun k => if k = 0 then 60466176 else 0)
  have hR2 := hK2 _ _ _ (by omega) (hR0.past (.cells #[.int .i64 0, .int .i64 0, .int .i64 0, .int .i64 0, .int .i64 0, .int .i64 0, .int .i64 0, .int .i64 0, .int .i64 0, .int .i64 0, .int .i64 0, .int .i64 0, .int .i64 0, .int .i64 0, .int .i64 0, .int .i64 0, .int .i64 0, .int .i64 0, .int .i64 0, .int .i64 0, .int .i64 0, .int .i64 0, .int .i64 0, .int .i64 0, .int .i64 0, .int .i64 0, .int .i64 0, .int .i64 0, .int .i64 0, .int .i64 0, .int .i64 0, .int .i64 0, .int .i64 0, .int .i64 0, .int .i64 0, .int .i64 0, .int .i64 0, .int .i64 0, .int .i64 0, .int .i64 0] 68))
  have hD2 := hK2 _ _ _ (by omega) (hD0.past (.cells #[.int .i64 0, .int .i64 0, .int .i64 0, .int .i64 0, .int .i64 0, .int .i64 0, .int .i64 0, .int .i64 0, .int .i64 0, .int .i64 0, .int .i64 0, .int .i64 0, .int .i64 0, .int .i64 0, .int .i64 0, .int .i64 0, .int .i64 0, .int .i64 0, .int .i64 0, .int .i64 0, .int .i64 0, .int .i64 0, .int .i64 0, .int .i64 0, .int .i64 0, .int .i64 0, .int .i64 0, .int .i64 0, .int .i64 0, .int .i64 0, .int .i64 0, .int .i64 0, .int .i64 0, .int .i64 0, .int .i64 0, .int .i64 0, .int .i64 0, .int .i64 0, .int .i64 0, .int .i64 0] 68))
  have hB3 := (na hB0 (.cells #[.int .i64 0, .int .i64 0, .int .i64 0, .int .i64 0, .int .i64 0, .int .i64 0, .int .i64 0, .int .i64 0, .int .i64 0, .int .i64 0, .int .i64 0, .int .i64 0, .int .i64 0, .int .i64 0, .int .i64 0, .int .i64 0, .int .i64 0, .int .i64 0, .int .i64 0, .int .i64 0, .int .i64 0, .int .i64 0, .int .i64 0, .int .i64 0, .int .i64 0, .int .i64 0, .int .i64 0, .int .i64 0, .int .i64 0, .int .i64 0, .int .i64 0, .int .i64 0, .int .i64 0, .int .i64 0, .int .i64 0, .int .i64 0, .int .i64 0, .int .i64 0, .int .i64 0, .int .i64 0] 68)).trans (hB2 w.heap.size (by omega))
  clear hB0 hD0 hR0 hE0 hB2 hK2
  go_enter Try.func65, Try.ntmps65
  go_wp2_with fail
  refine (Ho.out _).mono ?_
  rintro e w3 ⟨rfl, hw3⟩
  have hw3 := hw3.symm
  subst hw3
  go_wp2_with (refine Big40.b1 rfl _ rfl rfl ?_)
  clear hst
  go_loopw [15] (fun nv wr => ∃ n : Nat, n ≤ h ∧ nv = .int .i64 n ∧ At wr (w.heap.size + 2) 40 (zv (st f bad n)) ∧ At wr (w.heap.size + 1) 40 (fun _ => 0) ∧ At wr w.heap.size 6 d ∧ Below w.heap.size w wr) (fun nv _ => h - (intOf nv).toNat)
  case atStart => exact ⟨0, by omega, rfl, hE2.congr fun t _ => by rw [zv_st0], hR2, hD2, hB3⟩
  case round =>
    clear hE2 hR2 hD2 hB3
    obtain ⟨n, hn, rfl, hE, hR, hD, hB⟩ := hrel
    by_cases hlt : n < h
    · have hit : decide ((n : Int) < (h : Int)) = true := decide_eq_true (by omega)
      have cn := hE.cell n (by omega)
      have zn := hE.free n
      have hv : zv (st f bad n) n = ((st f bad n n : Nat) : Int) := rfl
      rw [hv] at cn
      clear hv
      have hu : Hid (st f bad n n / 6 = st f bad n n / 6) := rfl
      have hq6 : ((st f bad n n : Nat) : Int).tdiv 6 = ((st f bad n n / 6 : Nat) : Int) := rfl
      have hsn := st_small f bad (show n ≤ 10 by omega) n
      have Hin := Lib.hid (fun i t (hi : i ≤ 6) => inn_small f bad (n := n) (i := i) (by omega) hi t)
      have hE1 := (hE.set (i := n) (by omega) 0).congr (g := zv (inn f bad (st f bad n) n 0)) fun t _ => zv_inn0 f bad n t
      have hR1 := hR.other (p := w.heap.size + 2) (by omega) n (.int .i64 0)
      have hD1 := hD.other (p := w.heap.size + 2) (by omega) n (.int .i64 0)
      have hB1 := hB.setCell (p := ⟨w.heap.size + 2, n, none⟩) (by show w.heap.size ≤ w.heap.size + 2; omega) (.int .i64 0)
      obtain ⟨e0, e1, e2, e3, e4, e5⟩ := hD1.six
      have hul : st f bad n n / 6 ≤ 61917364224 := Nat.le_trans (Nat.div_le_self _ _) hsn
      have Hnx := Lib.hid (fun i x (hx : x = if f i = bad then 0 else n + f i) t => zv_inn (f := f) (bad := bad) (n := n) (i := i) hx t)
      have hSs : Hid (∀ t, st f bad (n + 1) t = inn f bad (st f bad n) n 6 t) := fun t => rfl
      generalize st f bad n n / 6 = u at *
      clear hE hR hD hB
      go_wp2_with fail
      clear e0 e1 e2 e3 e4 e5 cn zn
      go_loopw [25] (fun iv wr => ∃ i : Nat, i ≤ 6 ∧ iv = .int .i64 i ∧ At wr (w.heap.size + 2) 40 (zv (inn f bad (st f bad n) n i)) ∧ At wr (w.heap.size + 1) 40 (fun _ => 0) ∧ At wr w.heap.size 6 d ∧ Below w.heap.size w wr) (fun iv _ => 6 - (intOf iv).toNat)
      case atStart => exact ⟨0, by omega, rfl, hE1, hR1, hD1, hB1⟩
      case round =>
        clear hE1 hR1 hD1 hB1
        obtain ⟨i, hi, rfl, hE, hR, hD, hB⟩ := hrel
        by_cases hi6 : i < 6
        · have hix := fun w => Hix.out w i hi6
          obtain ⟨hdi, hf1, hf30⟩ := Hd.out i hi6
          have hit6 : decide ((i : Int) < 6) = true := decide_eq_true (by omega)
          by_cases hb : f i = bad
          · have hdb : (d i == (bad : Int)) = true := by simp; omega
            have c0 := hE.cell 0 (by omega)
            have z0 := hE.free 0
            have hx := Hnx.out i 0 (by rw [if_pos hb])
            have hsm := Hin.out i 0 hi
            have hzv : zv (inn f bad (st f bad n) n i) 0 = ((inn f bad (st f bad n) n i 0 : Nat) : Int) := rfl
            have Hx := Lib.hid hx
            have hset := hE.set (i := 0) (by omega)
            rw [hzv] at c0
            clear hx hzv
            go_wp2_with fail
            go_roundw
            case rel => exact ⟨i + 1, by omega, by go_num, (hset _).congr fun t _ => Hx.out t, hR.other (by omega) _ _, hD.other (by omega) _ _, hB.setCell (p := ⟨w.heap.size + 2, 0, none⟩) (by show w.heap.size ≤ w.heap.size + 2; omega) _⟩
            case measure => simp [intOf]; omega
          · have hdb : (d i == (bad : Int)) = false := by simp; omega
            have hj : ((n : Int) + d i).toNat = n + f i := by omega
            have hjlt : (n : Int) + d i < 40 := by omega
            have hj0 : 0 ≤ (n : Int) + d i := by omega
            have hw : wrap64 ((n : Int) + d i) = (n : Int) + d i := by unfold wrap64; omega
            have hxlt : n + f i < 40 := by omega
            have c0 := hE.cell (n + f i) hxlt
            have z0 := hE.free (n + f i)
            have hx := Hnx.out i (n + f i) (by rw [if_neg hb])
            have hsm := Hin.out i (n + f i) hi
            have hzv : zv (inn f bad (st f bad n) n i) (n + f i) = ((inn f bad (st f bad n) n i (n + f i) : Nat) : Int) := rfl
            have Hx := Lib.hid hx
            have hset := hE.set (i := n + f i) hxlt
            rw [hzv] at c0
            clear hx hzv
            go_wp2_with fail
            go_roundw
            case rel => exact ⟨i + 1, by omega, by go_num, (hset _).congr fun t _ => Hx.out t, hR.other (by omega) _ _, hD.other (by omega) _ _, hB.setCell (p := ⟨w.heap.size + 2, n + f i, none⟩) (by show w.heap.size ≤ w.heap.size + 2; omega) _⟩
            case measure => simp [intOf]; omega
        · obtain rfl : i = 6 := by omega
          have hit6 : decide ((6 : Int) < 6) = false := by decide
          go_wp2_with fail
          go_roundw
          case rel => exact ⟨n + 1, by omega, by go_num, hE.congr fun t _ => by unfold zv; rw [hSs.out], hR, hD, hB⟩
          case measure => simp [intOf]; omega
    · obtain rfl : n = h := by omega
      have hit : decide ((n : Int) < (n : Int)) = false := decide_eq_false (by omega)
      obtain ⟨w4, hst, hA4, hB4, _⟩ := Big40.store_ex hR (zv (st f bad n))
      have hbl4 := hB.trans (hB4 w.heap.size (by omega))
      go_wp2_with (refine Big40.ld rfl _ rfl rfl hE ?_)
      exact ret_cell (b := w.heap.size + 1) (n := 40) (f := zv (st f bad n)) Try.results65 rfl Try.underlying68 Big40.size_run hA4 rfl ⟨rfl, hbl4⟩


end HoldI
end Go.Proofs.Ytcffglnfdnanhaa
