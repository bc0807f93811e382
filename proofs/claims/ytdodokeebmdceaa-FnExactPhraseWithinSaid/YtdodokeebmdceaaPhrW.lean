/-
  Parts of lists, whether they are the same, and the ways of a phrase.
-/
import Derived.Test.YtdodokeebmdceaaRows
import Derived.Test.YtdodokeebmdceaaArr
import Derived.Test.YtdodokeebmdceaaAnyR
import Derived.Test.YtdodokeebmdceaaDieW
import Derived.Test.YtdodokeebmdceaaSortW
import Derived.Test.YtdodokeebmdceaaFracW
import Derived.Test.YtdodokeebmdceaaFracL
import Derived.Test.YtdodokeebmdceaaCutW
import Derived.Test.YtdodokeebmdceaaAll6
import Derived.Test.YtdodokeebmdceaaAllL
import Derived.Test.YtdodokeebmdceaaOwnL
import Derived.Test.YtdodokeebmdceaaFracM
import Derived.Test.YtdodokeebmdceaaWgtM
import Derived.Test.YtdodokeebmdceaaWgtW
import Derived.Test.YtdodokeebmdceaaShelfSl
import Derived.Test.YtdodokeebmdceaaOpenI
import Derived.Test.YtdodokeebmdceaaPhrM
import Derived.Test.YtdodokeebmdceaaOpenD
import Derived.WalkKit
import Derived.WalkLawsBesides
import Derived.WalkSpells
import Derived.ProofKit
import Derived.OpenShut
import Derived.Deep.RegionWith
import Derived.Deep.QuietTactic
import Derived.BigQuiet
namespace Go.Proofs.Ytdodokeebmdceaa
open Go.ChangeShapes Go.WideShapes Go.ChangeAt Go.RowKit
open Go.ChangeMaps (open_string shut_string)

namespace PhrW
open Dice Arr DieW SortW FracW CutW All6 AllL OwnL FracM WgtM WgtW OpenG PhrM


theorem row_of {w : World} {g n : Nat} {f : Nat → Int} (h : At w g n f) {o m : Nat} (hm : o + m ≤ n) : RowI w (some ⟨g, o, none⟩) m (fun i => f (o + i)) :=
  .inr ⟨g, o, rfl, h.lt, fun i hi => by have := h.cell (o + i) (by omega); exact this⟩
theorem row_at {w : World} {g n : Nat} {f : Nat → Int} (h : At w g n f) : RowI w (some ⟨g, 0, none⟩) n f :=
  .inr ⟨g, 0, rfl, h.lt, fun i hi => by have := h.cell i hi; rw [show 0 + i = i by omega]; exact this⟩
theorem below_dn {B : Nat} {w w' : World} (h : Below B w w') (q : Nat) : Below B w (w'.drewN q) := ⟨h.os, h.tape, h.output, h.size, h.block⟩
theorem elem_ints : Try.prog.underlying 37 = some (.slice (Try.prog.elem 37)) := by kernel_rfl
theorem elem_int : Try.prog.elem 37 = 3 := by kernel_rfl
theorem sl_from {g n c l : Nat} (hl : l < c) (hn : l ≤ n) (w : World) : (Instr.slice 37 (.slice (some ⟨g, 0, none⟩) n c) (some (.int .i64 (l : Nat))) none none).run Try.prog w = .ok (.slice (some ⟨g, l, none⟩) (n - l) (c - l)) w := by
  have h1 : ¬ c = l := by omega
  rw [run_slice_l w _ _ _ _ elem_ints _ _ (by omega) (by omega)]
  simp [Try.sizeOf3, sliced, h1, Result.andThen, Addr.add, elem_int]
  omega
theorem sl_end {g c : Nat} (w : World) : (Instr.slice 37 (.slice (some ⟨g, 0, none⟩) c c) (some (.int .i64 (c : Nat))) none none).run Try.prog w = .ok (.slice (some ⟨g, 0, none⟩) 0 0) w := by
  rw [run_slice_l w _ _ _ _ elem_ints _ _ (by omega) (by omega)]
  simp [Try.sizeOf3, sliced, Result.andThen, elem_int]
theorem sl_to {g n c k : Nat} (hk : k ≤ c) (h0 : 1 ≤ c) (w : World) : (Instr.slice 37 (.slice (some ⟨g, 0, none⟩) n c) none (some (.int .i64 (k : Nat))) none).run Try.prog w = .ok (.slice (some ⟨g, 0, none⟩) k c) w := by
  have h1 : ¬ c = 0 := by omega
  rw [run_slice_h w _ _ _ _ elem_ints _ _ (by omega) (by omega)]
  simp [Try.sizeOf3, sliced, h1, Result.andThen, Addr.add, elem_int]

/-- slices.Equal of two lists that are as long. -/
theorem equal_any (A A' : Option Addr) (n c c' : Nat) (f g : Nat → Int) (w : World) (h : RowI w A n f) (h' : RowI w A' n g) (hn : n ≤ 1048576) :
    Calls Try.prog 98 #[.slice A n c, .slice A' n c'] w fun e w' => e = .returned (.bool (decide (agree f g n))) ∧ Below w.heap.size w w' := by
  rcases h with h | ⟨b, o, rfl, hl, hc⟩
  · subst h
    refine (Try.slices_Equal_int_empty A A' c 0 c' w (by omega)).mono ?_
    rintro e w' ⟨rfl, rfl⟩
    exact ⟨by rw [decide_eq_true (rfl : 0 = 0), decide_eq_true (show agree f g 0 from fun j hj => by omega)], n0 _⟩
  · rcases h' with h' | ⟨b', o', rfl, hl', hc'⟩
    · subst h'
      refine (Try.slices_Equal_int_empty _ A' c 0 c' w (by omega)).mono ?_
      rintro e w' ⟨rfl, rfl⟩
      exact ⟨by rw [decide_eq_true (rfl : 0 = 0), decide_eq_true (show agree f g 0 from fun j hj => by omega)], n0 _⟩
    · have gd : ∀ (F : Nat → Int) j, j < n → ((List.range n).map F).getD j 0 = F j := fun F j hj => by
        rw [List.getD_eq_getElem?_getD, List.getElem?_map, List.getElem?_range hj]; rfl
      have hlen : ∀ F : Nat → Int, ((List.range n).map F).length = n := fun F => by simp
      refine (Try.slices_Equal_int b o n c b' o' n c' ((List.range n).map f) ((List.range n).map g) w (by rw [hlen]; omega) (by rw [hlen]; omega) (by omega) (by omega) (fun j hj => by rw [hlen] at hj; rw [hc j hj, gd f j hj]) (fun j hj => by rw [hlen] at hj; rw [hc' j hj, gd g j hj])).mono ?_
      rintro e w' ⟨rfl, q, rfl⟩
      refine ⟨?_, below_dn (n0 w) q⟩
      congr 2
      rw [List.take_of_length_le (by rw [hlen]; omega), List.take_of_length_le (by rw [hlen]; omega)]
      rw [Bool.eq_iff_iff, beq_iff_eq, decide_eq_true_eq]
      constructor
      · intro he j hj
        have := congrArg (fun l => l.getD j 0) he
        simp only [gd f j hj, gd g j hj] at this
        exact this
      · intro ha
        exact List.map_congr_left fun j hj => ha j (List.mem_range.1 hj)

set_option maxHeartbeats 2000000 in
theorem same_any (A A' : Option Addr) (n c c' : Nat) (f g : Nat → Int) (w : World) (h : RowI w A n f) (h' : RowI w A' n g) (hn : n ≤ 1048576) :
    Calls Try.prog 97 #[.slice A n c, .slice A' n c'] w fun e w' => e = .returned (.bool (decide (agree f g n))) ∧ Below w.heap.size w w' := by
  have H := Lib.hid h; clear h
  have H' := Lib.hid h'; clear h'
  go_enter Try.func97, Try.ntmps97
  go_wp2_with fail
  go_loopw [5] (fun iv wr => ∃ i : Nat, i ≤ n ∧ iv = .int .i64 i ∧ Hid (agree f g i) ∧ Below w.heap.size w wr) (fun iv _ => n - (intOf iv).toNat)
  case atStart => exact ⟨0, by omega, rfl, fun j hj => by omega, n0 w⟩
  case round =>
    obtain ⟨i, hi, rfl, hag, hb⟩ := hrel
    by_cases hlt : i < n
    · have hit : decide ((i : Int) < (n : Int)) = true := decide_eq_true (by omega)
      obtain ⟨b1, o1, rfl, _, c1⟩ := (H.out.up hb).at_ hlt
      obtain ⟨b2, o2, rfl, _, c2⟩ := (H'.out.up hb).at_ hlt
      by_cases he : f i = g i
      · have hd : (f i == g i) = true := by simpa using he
        have hag' : Hid (agree f g (i + 1)) := fun j hj => by
          by_cases hji : j = i
          · subst hji; exact he
          · exact hag.out j (by omega)
        have He := Lib.hid he; clear he hag
        go_wp2_with fail
        go_region
        all_goals
          go_wp2_with fail
          go_roundw
          case rel => exact ⟨i + 1, by omega, by go_num, hag', hb.drew⟩
          case measure => simp [intOf]; omega
      · have hd : (f i == g i) = false := by simpa using he
        have hno : decide (agree f g n) = false := decide_eq_false fun ha => he (ha i hlt)
        have Hno := Lib.hid hno
        clear he hag hno
        go_wp2_with fail
        go_region
        all_goals
          go_wp2_with fail
          go_ret
          exact ⟨by rw [Hno.out]; rfl, hb.drew⟩
    · obtain rfl : i = n := by omega
      have hit : decide ((i : Int) < (i : Int)) = false := decide_eq_false (by omega)
      go_wp2_with fail
      go_ret
      exact ⟨by rw [decide_eq_true hag.out]; rfl, hb⟩

set_option maxHeartbeats 2000000 in
theorem ways_any (d : Nat → Int) (A : Option Addr) (n c : Nat) (f : Nat → Int) (w : World) (h : RowI w A n f) (hn : n ≤ 6) :
    Calls Try.prog 74 #[dv d, .slice A n c] w fun e w' => e = .returned (.int .i64 (pr (fun i => wgt d (f i) 6) n : Nat)) ∧ Below w.heap.size w w' := by
  have hw := implW_any d
  unfold dv at hw
  have Hw := Lib.hid hw; clear hw
  have H := Lib.hid h; clear h
  have Hp := Lib.hid (fun k => pr_le (v := fun i => wgt d (f i) 6) (fun i => wgt_le d (f i) 6) k)
  unfold dv
  have hB0 := na (n0 w) (sixO d 22)
  have hD0 := At.new6 w d 22 rfl
  go_enter Try.func74, Try.ntmps74
  go_wp2_with fail
  go_loopw [5, 10] (fun sv iv wr => ∃ i : Nat, i ≤ n ∧ iv = .int .i64 i ∧ sv = .int .i64 (pr (fun i => wgt d (f i) 6) i : Nat) ∧ At wr w.heap.size 6 d ∧ Below w.heap.size w wr) (fun _ iv _ => n - (intOf iv).toNat)
  case atStart => exact ⟨0, by omega, rfl, rfl, hD0, hB0⟩
  case round =>
    clear hD0 hB0
    obtain ⟨i, hi, rfl, rfl, hD, hB⟩ := hrel
    by_cases hlt : i < n
    · have hit : decide ((i : Int) < (n : Int)) = true := decide_eq_true (by omega)
      obtain ⟨b, o, rfl, _, ci⟩ := (H.out.up hB).at_ hlt
      obtain ⟨e0, e1, e2, e3, e4, e5⟩ := hD.six
      have h1 := Nat.le_trans (Hp.out i) (six_le (by omega))
      have h2 : pr (fun i => wgt d (f i) 6) (i + 1) ≤ 46656 := Nat.le_trans (Hp.out (i + 1)) (six_le (by omega))
      have hs : Hid (pr (fun i => wgt d (f i) 6) (i + 1) = pr (fun i => wgt d (f i) 6) i * wgt d (f i) 6) := rfl
      obtain ⟨p, hp⟩ : ∃ p, p = pr (fun i => wgt d (f i) 6) (i + 1) := ⟨_, rfl⟩
      have hm : ((pr (fun i => wgt d (f i) 6) i : Nat) : Int) * ((wgt d (f i) 6 : Nat) : Int) = (p : Int) := by rw [hp, hs.out]; push_cast; rfl
      rw [← hp] at h2
      have Hpp := Lib.hid hp; clear hp hs
      have hwc := Hw.out (f i)
      have Hwc := Lib.hid hwc; clear hwc
      generalize pr (fun i => wgt d (f i) 6) i = q at *
      generalize wgt d (f i) 6 = v at *
      go_wp2_with fail
      refine (Hwc.out _).mono ?_
      rintro e w2 ⟨rfl, hb2⟩
      have hB2 := nx hB hb2
      have hD2 := hD.up hb2
      clear e0 e1 e2 e3 e4 e5 hb2 hB hD ci
      go_wp2_with fail
      go_roundw
      case rel => exact ⟨i + 1, by omega, by go_num, by rw [← Hpp.out], hD2, hB2⟩
      case measure => simp [intOf]; omega
    · obtain rfl : i = n := by omega
      have hit : decide ((i : Int) < (i : Int)) = false := decide_eq_false (by omega)
      go_wp2_with fail
      go_ret
      exact ⟨rfl, hB⟩


end PhrW
end Go.Proofs.Ytdodokeebmdceaa
