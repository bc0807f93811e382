/-
  The even sums, both sides.
-/
import Derived.Test.YtjdijbidpcjjdaaRows
import Derived.Test.YtjdijbidpcjjdaaBndsX
import Derived.Test.YtjdijbidpcjjdaaSumsB
import Derived.Test.YtjdijbidpcjjdaaTableSM
import Derived.Test.YtjdijbidpcjjdaaTableIM
import Derived.Test.YtjdijbidpcjjdaaTableWM
import Derived.Test.YtjdijbidpcjjdaaTableM
import Derived.Test.YtjdijbidpcjjdaaSumsM
import Derived.Test.YtjdijbidpcjjdaaFracW
import Derived.Test.YtjdijbidpcjjdaaCutW
import Derived.Test.YtjdijbidpcjjdaaAll6
import Derived.Test.YtjdijbidpcjjdaaPoolW
import Derived.Test.YtjdijbidpcjjdaaDicesW
import Derived.Test.YtjdijbidpcjjdaaSortW
import Derived.Test.YtjdijbidpcjjdaaDieW
import Derived.Test.YtjdijbidpcjjdaaOpenD
import Derived.Test.YtjdijbidpcjjdaaArr
import Derived.WalkKit
import Derived.WalkLawsBesides
import Derived.WalkSpells
import Derived.ProofKit
import Derived.OpenShut
import Derived.Deep.RegionWith
import Derived.Deep.WholeRow
import Derived.Deep.QuietTactic
import Derived.BigQuiet
namespace Go.Proofs.Ytjdijbidpcjjdaa
open Go.ChangeShapes Go.WideShapes Go.ChangeAt Go.RowKit
open Go.ChangeMaps (open_string shut_string)

namespace EvenW
open Dice Arr OpenD DieW SortW DicesW PoolW FracW CutW SumsW Table TableW TableI TableS All6

/-- What the even entries add up to. -/
def ev (f : Nat → Int) : Nat → Int
  | 0 => 0
  | r + 1 => ev f r + f (2 * r)
theorem ev_bound {f : Nat → Int} (h : ∀ j, j < 121 → 0 ≤ f j ∧ f j ≤ 1296) : ∀ r, r ≤ 61 → 0 ≤ ev f r ∧ ev f r ≤ r * 1296 := by
  intro r
  induction r with
  | zero => intro _; exact ⟨Int.le_refl _, by simp [ev]⟩
  | succ r ih =>
    intro hr
    have h1 := ih (by omega)
    have h2 := h (2 * r) (by omega)
    rw [ev]
    omega
def evO (n : Nat) (P : Nat → Nat → Int) : Array Value := if isPool n P then #[cutV (ev (T P n) 61).toNat (all6 n), .bool true] else #[v2 0 0, .bool false]
set_option maxRecDepth 100000 in
set_option maxHeartbeats 4000000 in
theorem specEven_any (A : Option Addr) (n c : Nat) (P : Nat → Nat → Int) (w : World) (h : Row w A n P) (hn : n ≤ maxLen) :
    Calls Try.prog 35 #[.slice A n c] w fun e w' => e = .returned (.tuple (evO n P)) ∧ Below w.heap.size w w' := by
  have hp := fun w h => l2Pool_any A n c P w h hn
  unfold evO
  cases hq : isPool n P
  · rw [hq] at hp
    clear hq
    simp only [Bool.false_eq_true, ↓reduceIte]
    have Hp := Lib.hid hp; clear hp
    go_enter Try.func35, Try.ntmps35
    go_wp2_with fail
    refine (Hp.out _ (h.up (na (n0 w) _))).mono ?_
    rintro e w1 ⟨rfl, hb⟩
    have hbl := nx (na (n0 w) _) hb
    have hA := (At.new2 w 48).up hb
    have c0 := hA.cell 0 (by omega)
    have c1 := hA.cell 1 (by omega)
    have z0 := hA.free 0
    have z1 := hA.free 1
    clear hb
    go_wp2_with fail
    refine ret_cell_tmp (b := w.heap.size) (n := 2) (f := fr 0 0) Try.results35 rfl rfl Try.underlying48 (by kernel_rfl) (fin2' hA 0 0) rfl ⟨rfl, ?_⟩
    exact (hbl.setCell (p := ⟨w.heap.size, 0, none⟩) (Nat.le_refl _) _).setCell (p := ⟨w.heap.size, 1, none⟩) (Nat.le_refl _) _
  · obtain ⟨h1, h4, hd⟩ := of_pool hq
    rw [hq] at hp
    clear hq
    simp only [↓reduceIte]
    have hsm := fun j hj => (tab_T h4 (die_range' hd) n (Nat.le_refl _)).small h4 j hj
    have Ht := Lib.hid (fun w h => l2Table_any A n c P w h h4 hd)
    generalize T P n = t at *
    have hev := ev_bound hsm
    have h6 := all6_le h4
    have h61 := hev 61 (by omega)
    obtain ⟨m, hm⟩ : ∃ m : Nat, ev t 61 = m := ⟨(ev t 61).toNat, by omega⟩
    have hf := fun w => cut_any m (all6 n) w (by omega) (by omega) (by omega)
    have Ho := Lib.hid (fun w => l2All_any n w h4)
    unfold cutV
    rw [hm, Int.toNat_natCast]
    have Hm := Lib.hid hm; clear hm h61
    have Hf := Lib.hid hf; clear hf
    have Hp := Lib.hid hp; clear hp
    have Hev := Lib.hid hev; clear hev
    have Hsm := Lib.hid hsm; clear hsm
    have H := Lib.hid h; clear h hd hn
    generalize all6 n = N6 at Hf Ho h6 ⊢
    go_enter Try.func35, Try.ntmps35
    go_wp2_with fail
    refine (Hp.out _ (H.out.up (na (n0 w) _))).mono ?_
    rintro e w0 ⟨rfl, hb0⟩
    have hbl := nx (na (n0 w) _) hb0
    have hA := (At.new2 w 48).up hb0
    clear hb0
    go_wp2_with fail
    refine (Ht.out _ (H.out.up hbl)).mono ?_
    rintro e w1 ⟨rfl, hb⟩
    have hbl := nx hbl hb
    have hA := hA.up hb
    obtain ⟨w2, hst, hA2, hB2, hK2⟩ := store_ex (fresh w1 (b := w1.heap.size) rfl) t
    have hbl2 := (na hbl _).trans (hB2 _ hbl.size)
    have hA' := hK2 _ _ _ (Nat.ne_of_lt hA.lt) (hA.past _)
    clear hb hbl hB2 hK2 hA
    go_wp2_with fail
    clear hst
    obtain ⟨B0, hB0⟩ : ∃ B0, B0 = w1.heap.size := ⟨_, rfl⟩
    rw [← hB0] at hA2 ⊢
    clear hB0
    go_loopw [4, 6] (fun sv iv wr => ∃ r : Nat, r ≤ 61 ∧ iv = .int .i64 (2 * r : Nat) ∧ sv = .int .i64 (ev t r) ∧ wr = w2) (fun _ iv _ => 122 - (intOf iv).toNat)
    case atStart => exact ⟨0, by omega, rfl, rfl, by first | rfl | trivial⟩
    case round =>
      obtain ⟨r, hr, rfl, rfl, rfl⟩ := hrel
      by_cases hlt : r < 61
      · have hit : decide (((2 * r : Nat) : Int) < 121) = true := decide_eq_true (by omega)
        have ck := hA2.cell (2 * r) (by omega)
        have p1 := Hev.out r hr
        have p2 := Hsm.out (2 * r) (by omega)
        have p3 : Hid (ev t (r + 1) = ev t r + t (2 * r)) := rfl
        go_wp2_with fail
        go_roundw
        case rel => exact ⟨r + 1, by omega, by go_num, by rw [p3.out] <;> first | rfl | go_num, by first | rfl | trivial⟩
        case measure => simp [intOf]; omega
      · obtain rfl : r = 61 := by omega
        have hit : decide ((122 : Int) < 121) = false := by decide
        rw [Hm.out]
        go_wp2_with fail
        refine (Ho.out _).mono ?_
        rintro e w3 ⟨rfl, rfl⟩
        go_wp2_with fail
        refine (Hf.out _).mono ?_
        rintro e w4 ⟨rfl, hb⟩
        have hA := hA'.up hb
        have hbl := nx hbl2 hb
        have c0 := hA.cell 0 (by omega)
        have c1 := hA.cell 1 (by omega)
        have z0 := hA.free 0
        have z1 := hA.free 1
        clear hb
        go_wp2_with fail
        refine ret_cell_tmp (b := w.heap.size) (n := 2) (f := fr ((m : Int) / (Nat.gcd m N6 : Nat)) ((N6 : Int) / (Nat.gcd m N6 : Nat))) Try.results35 rfl rfl Try.underlying48 (by kernel_rfl) (fin2' hA _ _) rfl ⟨rfl, ?_⟩
        exact (hbl.setCell (p := ⟨w.heap.size, 0, none⟩) (Nat.le_refl _) _).setCell (p := ⟨w.heap.size, 1, none⟩) (Nat.le_refl _) _

set_option maxRecDepth 100000 in
set_option maxHeartbeats 4000000 in
theorem implEven_any (A : Option Addr) (n c : Nat) (P : Nat → Nat → Int) (w : World) (h : Row w A n P) (hn : n ≤ maxLen) :
    Calls Try.prog 36 #[.slice A n c] w fun e w' => e = .returned (.tuple (evO n P)) ∧ Below w.heap.size w w' := by
  have hp := fun w h => implTable_any A n c P w h hn
  unfold evO
  cases hq : isPool n P
  · rw [hq] at hp
    clear hq
    simp only [Bool.false_eq_true, ↓reduceIte] at hp ⊢
    have Hp := Lib.hid hp; clear hp
    go_enter Try.func36, Try.ntmps36
    go_wp2_with fail
    refine (Hp.out _ (h.up (na (n0 w) _))).mono ?_
    rintro e w1 ⟨rfl, hb⟩
    have hbl := nx (na (n0 w) _) hb
    have hA := (At.new2 w 48).up hb
    obtain ⟨w2, hst, hA2, hB2, hK2⟩ := store_ex (fresh w1 (b := w1.heap.size) rfl) (fun _ => 0)
    have hbl2 := (na hbl _).trans (hB2 _ hbl.size)
    have hA' := hK2 _ _ _ (Nat.ne_of_lt hA.lt) (hA.past _)
    have c0 := hA'.cell 0 (by omega)
    have c1 := hA'.cell 1 (by omega)
    have z0 := hA'.free 0
    have z1 := hA'.free 1
    clear hb hbl hB2 hK2 hA
    go_wp2_with fail
    refine ret_cell_tmp (b := w.heap.size) (n := 2) (f := fr 0 0) Try.results36 rfl rfl Try.underlying48 (by kernel_rfl) (fin2' hA' 0 0) rfl ⟨rfl, ?_⟩
    exact (hbl2.setCell (p := ⟨w.heap.size, 0, none⟩) (Nat.le_refl _) _).setCell (p := ⟨w.heap.size, 1, none⟩) (Nat.le_refl _) _
  · obtain ⟨h1, h4, hd⟩ := of_pool hq
    rw [hq] at hp
    clear hq
    simp only [↓reduceIte] at hp ⊢
    have hsm := fun j hj => (tab_T h4 (die_range' hd) n (Nat.le_refl _)).small h4 j hj
    have Ht := trivial
    generalize T P n = t at *
    have hev := ev_bound hsm
    have h6 := all6_le h4
    have h61 := hev 61 (by omega)
    obtain ⟨m, hm⟩ : ∃ m : Nat, ev t 61 = m := ⟨(ev t 61).toNat, by omega⟩
    have hf := fun w => fraction_any m (all6 n) w (by omega) (by omega) (by omega)
    have Ho := Lib.hid (fun w => outcomes_any n w h4)
    unfold cutV
    rw [hm, Int.toNat_natCast]
    have Hm := Lib.hid hm; clear hm h61
    have Hf := Lib.hid hf; clear hf
    have Hp := Lib.hid hp; clear hp
    have Hev := Lib.hid hev; clear hev
    have Hsm := Lib.hid hsm; clear hsm
    have H := Lib.hid h; clear h hd hn
    generalize all6 n = N6 at Hf Ho h6 ⊢
    go_enter Try.func36, Try.ntmps36
    go_wp2_with fail
    refine (Hp.out _ (H.out.up (na (n0 w) _))).mono ?_
    rintro e w1 ⟨rfl, hb⟩
    have hbl := nx (na (n0 w) _) hb
    have hA := (At.new2 w 48).up hb
    obtain ⟨w2, hst, hA2, hB2, hK2⟩ := store_ex (fresh w1 (b := w1.heap.size) rfl) t
    have hbl2 := (na hbl _).trans (hB2 _ hbl.size)
    have hA' := hK2 _ _ _ (Nat.ne_of_lt hA.lt) (hA.past _)
    clear hb hbl hB2 hK2 hA
    go_wp2_with fail
    clear hst
    obtain ⟨B0, hB0⟩ : ∃ B0, B0 = w1.heap.size := ⟨_, rfl⟩
    rw [← hB0] at hA2 ⊢
    clear hB0
    go_loopw [6, 7] (fun sv iv wr => ∃ r : Nat, r ≤ 61 ∧ iv = .int .i64 (2 * r : Nat) ∧ sv = .int .i64 (ev t r) ∧ wr = w2) (fun _ iv _ => 122 - (intOf iv).toNat)
    case atStart => exact ⟨0, by omega, rfl, rfl, by first | rfl | trivial⟩
    case round =>
      obtain ⟨r, hr, rfl, rfl, rfl⟩ := hrel
      by_cases hlt : r < 61
      · have hit : decide (((2 * r : Nat) : Int) < 121) = true := decide_eq_true (by omega)
        have ck := hA2.cell (2 * r) (by omega)
        have p1 := Hev.out r hr
        have p2 := Hsm.out (2 * r) (by omega)
        have p3 : Hid (ev t (r + 1) = ev t r + t (2 * r)) := rfl
        go_wp2_with fail
        go_roundw
        case rel => exact ⟨r + 1, by omega, by go_num, by rw [p3.out] <;> first | rfl | go_num, by first | rfl | trivial⟩
        case measure => simp [intOf]; omega
      · obtain rfl : r = 61 := by omega
        have hit : decide ((122 : Int) < 121) = false := by decide
        rw [Hm.out]
        go_wp2_with fail
        refine (Ho.out _).mono ?_
        rintro e w3 ⟨rfl, rfl⟩
        go_wp2_with fail
        refine (Hf.out _).mono ?_
        rintro e w4 ⟨rfl, hb⟩
        have hA := hA'.up hb
        have hbl := nx hbl2 hb
        have c0 := hA.cell 0 (by omega)
        have c1 := hA.cell 1 (by omega)
        have z0 := hA.free 0
        have z1 := hA.free 1
        clear hb
        go_wp2_with fail
        refine ret_cell_tmp (b := w.heap.size) (n := 2) (f := fr ((m : Int) / (Nat.gcd m N6 : Nat)) ((N6 : Int) / (Nat.gcd m N6 : Nat))) Try.results36 rfl rfl Try.underlying48 (by kernel_rfl) (fin2' hA _ _) rfl ⟨rfl, ?_⟩
        exact (hbl.setCell (p := ⟨w.heap.size, 0, none⟩) (Nat.le_refl _) _).setCell (p := ⟨w.heap.size, 1, none⟩) (Nat.le_refl _) _


end EvenW
end Go.Proofs.Ytjdijbidpcjjdaa
