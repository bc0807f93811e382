/-
  The ways of the remainders of a sum, by the specification.
-/
import Derived.Test.YtddnlbahelgadaaRows
import Derived.Test.YtddnlbahelgadaaArr
import Derived.Test.YtddnlbahelgadaaAnyR
import Derived.Test.YtddnlbahelgadaaDieW
import Derived.Test.YtddnlbahelgadaaSortW
import Derived.Test.YtddnlbahelgadaaDicesW
import Derived.Test.YtddnlbahelgadaaPoolW
import Derived.Test.YtddnlbahelgadaaSumsM
import Derived.Test.YtddnlbahelgadaaTableM
import Derived.Test.YtddnlbahelgadaaTableWM
import Derived.Test.YtddnlbahelgadaaTableIM
import Derived.Test.YtddnlbahelgadaaTableSM
import Derived.Test.YtddnlbahelgadaaOwnL
import Derived.Test.YtddnlbahelgadaaIntsW
import Derived.Test.YtddnlbahelgadaaOpenD
import Derived.Test.YtddnlbahelgadaaOpenD
import Derived.WalkKit
import Derived.WalkLawsBesides
import Derived.WalkSpells
import Derived.ProofKit
import Derived.OpenShut
import Derived.Deep.RegionWith
import Derived.Deep.QuietTactic
import Derived.BigQuiet
namespace Go.Proofs.Ytddnlbahelgadaa
open Go.ChangeShapes Go.WideShapes Go.ChangeAt Go.RowKit
open Go.ChangeMaps (open_string shut_string)

namespace ModS
open Dice Arr AnyR OpenD DieW SortW DicesW PoolW SumsW Table TableW TableI TableS OwnL IntsW

/-- The ways of the remainders, after the first sums. -/
def md (m : Nat) (t : Nat → Int) : Nat → Nat → Int
  | 0 => fun _ => 0
  | s + 1 => put (md m t s) (s % m) (md m t s (s % m) + t s)
theorem md_le {m : Nat} {t : Nat → Int} (ht : ∀ j, j < 121 → 0 ≤ t j ∧ t j ≤ 1296) : ∀ s, s ≤ 121 → ∀ j, 0 ≤ md m t s j ∧ md m t s j ≤ (s : Int) * 1296 := by
  intro s
  induction s with
  | zero => intro _ j; exact ⟨Int.le_refl _, by show (0 : Int) ≤ _; omega⟩
  | succ s ih =>
    intro hs j
    have h := ih (by omega)
    have hts := ht s (by omega)
    show 0 ≤ put (md m t s) (s % m) (md m t s (s % m) + t s) j ∧ _
    by_cases e : j = s % m
    · subst e
      rw [show md m t (s + 1) (s % m) = put (md m t s) (s % m) (md m t s (s % m) + t s) (s % m) from rfl, put_same]
      have := h (s % m)
      omega
    · rw [show md m t (s + 1) j = put (md m t s) (s % m) (md m t s (s % m) + t s) j from rfl, put_other _ e]
      have := h j
      omega
theorem ost {o : Oper} {a : Act} {w : World} {K : Act → World → Prop} {Q : Exit → Act → World → Prop} (x y : Operand) (ho : o.op = .store 70 x y) {b : Nat} {f g : Nat → Int} (hx : a.eval x = .pointer (some ⟨b, 0, none⟩)) (hy : a.eval y = tv g) (hA : At w b 121 f)
    (h : K (a.put o.dst undef) (w.setCells b 0 (vals 121 g))) : o.wp Try.prog a w K Q := by
  unfold Oper.wp execOp
  simp only [ho, hx, hy, Instr.storeAt, Instr.sureAddr, Sem.run_bind, Sem.run_pure, Result.andThen_ok, storeVar_at hA g]
  exact h
theorem omk {o : Oper} {a : Act} {w w1 : World} {K : Act → World → Prop} {Q : Exit → Act → World → Prop} (x y : Operand) (ho : o.op = .makeSlice 22 x y) {n : Nat} {v : Value} (hx : a.eval x = .int .i64 n) (hy : a.eval y = .int .i64 n)
    (hr : (Instr.makeSlice 22 (.int .i64 n) (.int .i64 n)).run Try.prog w = .ok v w1) (h : K (a.put o.dst v) w1) : o.wp Try.prog a w K Q := by
  unfold Oper.wp execOp
  simp only [ho, hx, hy, Sem.run_bind, hr, Result.andThen_ok]
  exact h

set_option maxRecDepth 100000 in
set_option maxHeartbeats 16000000 in
theorem specMod_any (A : Option Addr) (n c m : Nat) (P : Nat → Nat → Int) (w : World) (h : Row w A n P) (h4 : n ≤ 4) (hd : pooled P n) (h1 : 1 ≤ m) (h40 : m ≤ 40) :
    Calls Try.prog 67 #[.slice A n c, .int .i64 m] w fun e w' => ∃ r, e = .returned (.slice (some ⟨r, 0, none⟩) m m) ∧ w.heap.size ≤ r ∧ At w' r m (md m (T P n) 121) ∧ Below w.heap.size w w' := by
  have hsm := fun j hj => (tab_T h4 (die_range' hd) n (Nat.le_refl _)).small h4 j hj
  have Ht := Lib.hid (fun w h => l2Table_any A n c P w h h4 hd)
  generalize T P n = t at *
  have Hmd := Lib.hid (md_le (m := m) hsm)
  have Hsm := Lib.hid hsm; clear hsm
  have H := Lib.hid h; clear h hd
  go_enter Try.func67, Try.ntmps67
  go_wp2_with fail
  refine wp_region_inc (I := fun L az w' => ∃ (q r : Nat) (u5 u6 u8 u9 u10 u11 : Value), az = ⟨#[.slice A n c, .int .i64 m, undef, undef, .slice none 0 0, u5, u6, undef, u8, u9, u10, u11, undef, undef, undef, undef, undef, undef, undef, undef, undef, undef, undef, undef, undef, undef, undef, undef, undef, undef, undef, undef], []⟩ ∧ (L 0 = true → u8 = .int .i64 m) ∧ (L 1 = true → u9 = .slice (some ⟨r, 0, none⟩) m m ∧ w.heap.size ≤ r ∧ At w' r m (fun _ => 0)) ∧ (L 2 = true → u10 = .slice A n c) ∧ (L 3 = true → u11 = tv t) ∧ (L 4 = true → u6 = .pointer (some ⟨q, 0, none⟩) ∧ w.heap.size ≤ q ∧ At w' q 121 (if L 6 then t else fun _ => 0)) ∧ (L 5 = true → u5 = u9) ∧ (L 1 = true → L 4 = true → q ≠ r) ∧ Below w.heap.size w w' ) (by kernel_rfl) (by kernel_rfl) ?_ ?_ ?_
  · exact ⟨0, 0, _, _, _, _, _, _, rfl, (fun h => by cases h), (fun h => by cases h), (fun h => by cases h), (fun h => by cases h), (fun h => by cases h), (fun h => by cases h), (fun h => by cases h), (Below.refl _ w).drew⟩
  · intro L az wz i hi hL hdep hcl hI
    obtain ⟨q, r, u5, u6, u8, u9, u10, u11, rfl, k0, k1, k2, k3, k4, k5, hne, hB0⟩ := hI
    have hi' : i < 7 := hi
    clear hi
    obtain rfl | rfl | rfl | rfl | rfl | rfl | rfl : i = 0 ∨ i = 1 ∨ i = 2 ∨ i = 3 ∨ i = 4 ∨ i = 5 ∨ i = 6 := by omega
    · refine wpOp_want rfl rfl (Oper.wp_of_quiet (C := fun w' => w' = wz) (K := fun a' => a' = ⟨#[.slice A n c, .int .i64 m, undef, undef, .slice none 0 0, u5, u6, undef, (.int .i64 m), u9, u10, u11, undef, undef, undef, undef, undef, undef, undef, undef, undef, undef, undef, undef, undef, undef, undef, undef, undef, undef, undef, undef], []⟩) rfl ?_ ?_)
      · intro a' w' hC' hK
        subst hK
        subst hC'
        exact ⟨q, r, u5, u6, (.int .i64 m), u9, u10, u11, rfl, fun _ => rfl, k1, k2, k3, k4, k5, hne, hB0⟩
      · exact BigFrame.quiet_move _ rfl rfl
    · obtain rfl := k0 (hdep 0 (by kernel_rfl))
      have h5 : L 5 = false := by cases h : L 5; rfl; exact absurd (hcl 5 1 h (by kernel_rfl)) (by rw [hL]; decide)
      obtain ⟨w1, hr1, hN1, hb1⟩ := make_ints wz m (by omega)
      refine wpOp_want rfl rfl (omk _ _ rfl rfl rfl hr1 ?_)
      exact ⟨q, wz.heap.size, u5, u6, (.int .i64 m), _, u10, u11, rfl, fun _ => rfl, fun _ => ⟨rfl, hB0.size, hN1⟩, k2, k3, fun h4 => ⟨(k4 h4).1, (k4 h4).2.1, (k4 h4).2.2.up hb1⟩, fun h6 => absurd (show L 5 = true from h6) (by rw [h5]; decide), fun _ h4 => Nat.ne_of_lt (k4 h4).2.2.lt, hB0.trans (hb1.mono hB0.size)⟩
    · refine wpOp_want rfl rfl (Oper.wp_of_quiet (C := fun w' => w' = wz) (K := fun a' => a' = ⟨#[.slice A n c, .int .i64 m, undef, undef, .slice none 0 0, u5, u6, undef, u8, u9, (.slice A n c), u11, undef, undef, undef, undef, undef, undef, undef, undef, undef, undef, undef, undef, undef, undef, undef, undef, undef, undef, undef, undef], []⟩) rfl ?_ ?_)
      · intro a' w' hC' hK
        subst hK
        subst hC'
        exact ⟨q, r, u5, u6, u8, u9, (.slice A n c), u11, rfl, k0, k1, fun _ => rfl, k3, k4, k5, hne, hB0⟩
      · exact BigFrame.quiet_move _ rfl rfl
    · obtain rfl := k2 (hdep 2 (by kernel_rfl))
      have HB := Lib.hid hB0; clear hB0
      have K0 := Lib.hid k0
      have K1 := Lib.hid k1
      have K4 := Lib.hid k4
      have K5 := Lib.hid k5
      have Kn := Lib.hid hne
      clear k0 k1 k2 k3 k4 k5 hne
      refine wpOp_want rfl rfl ?_
      go_simp
      refine (Ht.out _ (H.out.up HB.out)).mono ?_
      rintro e w9 ⟨rfl, hb⟩
      go_simp
      exact ⟨q, r, u5, u6, u8, u9, (.slice A n c), (tv t), by first | rfl | (simp; done), K0.out, fun h1 => ⟨(K1.out h1).1, (K1.out h1).2.1, (K1.out h1).2.2.up hb⟩, fun _ => rfl, fun _ => rfl, fun h4 => ⟨(K4.out h4).1, (K4.out h4).2.1, (K4.out h4).2.2.up hb⟩, K5.out, Kn.out, HB.out.trans (hb.mono HB.out.size)⟩
    · have HB := Lib.hid hB0
      have K0 := Lib.hid k0
      have K1 := Lib.hid k1
      have K2 := Lib.hid k2
      have K3 := Lib.hid k3
      have K5 := Lib.hid k5
      clear k0 k1 k2 k3 k4 k5 hne hB0
      have h6 : L 6 = false := by cases h : L 6; rfl; exact absurd (hcl 6 4 h (by kernel_rfl)) (by rw [hL]; decide)
      have hNew := fresh wz (b := wz.heap.size) rfl
      have HN := Lib.hid hNew; clear hNew
      refine wpOp_want rfl rfl ?_
      go_simp
      exact ⟨wz.heap.size, r, u5, (.pointer (some ⟨wz.heap.size, 0, none⟩)), u8, u9, u10, u11, by first | rfl | (simp; done), K0.out, fun h1 => ⟨(K1.out h1).1, (K1.out h1).2.1, (K1.out h1).2.2.past _⟩, K2.out, K3.out, fun _ => ⟨rfl, HB.out.size, HN.out.congr (fun k _ => by show (0 : Int) = (if L 6 then t else fun _ => 0) k; rw [h6]; rfl)⟩, K5.out, fun h1 _ => Nat.ne_of_gt (K1.out h1).2.2.lt, HB.out.alloc HB.out.size _⟩
    · refine wpOp_want rfl rfl (Oper.wp_of_quiet (C := fun w' => w' = wz) (K := fun a' => a' = ⟨#[.slice A n c, .int .i64 m, undef, undef, .slice none 0 0, u9, u6, undef, u8, u9, u10, u11, undef, undef, undef, undef, undef, undef, undef, undef, undef, undef, undef, undef, undef, undef, undef, undef, undef, undef, undef, undef], []⟩) rfl ?_ ?_)
      · intro a' w' hC' hK
        subst hK
        subst hC'
        exact ⟨q, r, u9, u6, u8, u9, u10, u11, rfl, k0, k1, k2, k3, k4, fun _ => rfl, hne, hB0⟩
      · exact BigFrame.quiet_assign _ rfl rfl
    · obtain ⟨rfl, hq1, hq2⟩ := k4 (hdep 4 (by kernel_rfl))
      obtain rfl := k3 (hdep 3 (by kernel_rfl))
      refine wpOp_want rfl rfl (ost _ _ rfl rfl rfl hq2 ?_)
      exact ⟨q, r, u5, (.pointer (some ⟨q, 0, none⟩)), u8, u9, u10, (tv t), rfl, k0, fun h1 => ⟨(k1 h1).1, (k1 h1).2.1, (k1 h1).2.2.keep (Ne.symm (hne h1 (hdep 4 (by kernel_rfl)))) _ _⟩, k2, fun _ => rfl, fun _ => ⟨rfl, hq1, hq2.stored _⟩, k5, hne, hB0.trans (setCells_below hq1 _ _)⟩
  · intro L az wz hL hcl hI
    obtain ⟨q, r, u5, u6, u8, u9, u10, u11, rfl, k0, k1, k2, k3, k4, k5, hne, hB0⟩ := hI
    obtain rfl := k0 (hL 0 (by decide))
    obtain ⟨rfl, hr1, hN⟩ := k1 (hL 1 (by decide))
    obtain rfl := k2 (hL 2 (by decide))
    obtain rfl := k3 (hL 3 (by decide))
    obtain ⟨rfl, hq1, hT0⟩ := k4 (hL 4 (by decide))
    obtain rfl := k5 (hL 5 (by decide))
    have hqr := hne (hL 1 (by decide)) (hL 4 (by decide))
    have hT : At wz q 121 t := hT0.congr (fun k _ => by rw [hL 6 (by decide)]; rfl)
    clear hT0 k0 k1 k2 k3 k4 k5 hne hcl hL
    go_wp2_with fail
    go_loopw [7] (fun iv wr => ∃ s : Nat, s ≤ 121 ∧ iv = .int .i64 s ∧ At wr r m (md m t s) ∧ At wr q 121 t ∧ Below w.heap.size w wr) (fun iv _ => 121 - (intOf iv).toNat)
    case atStart => exact ⟨0, by omega, rfl, hN, hT, hB0⟩
    case round =>
      clear hN hT hB0
      obtain ⟨s, hs, rfl, hN, hT, hB⟩ := hrel
      by_cases hlt : s < 121
      · have hit : decide ((s : Int) < (121 : Int)) = true := decide_eq_true (by omega)
        have hitN : decide (s < 121) = true := decide_eq_true hlt
        have hmod : ((s : Int) % (m : Int)) = ((s % m : Nat) : Int) := by simp
        have hrm : s % m < m := Nat.mod_lt _ (by omega)
        have hv := Hmd.out s (by omega) (s % m)
        have hts := Hsm.out s hlt
        have hst : Hid (md m t (s + 1) = put (md m t s) (s % m) (md m t s (s % m) + t s)) := rfl
        have hm0 : (m : Int) ≠ 0 := by omega
        have hmq : ((m : Int) = 0) = False := by simp; omega
        generalize s % m = x at *
        have cj := hN.cell x hrm
        have zj := hN.free x
        have cs := hT.cell s hlt
        generalize hvv : md m t s x = v at *
        generalize t s = ts at *
        go_wp2_with fail
        go_region
        all_goals
          go_wp2_with fail
          go_roundw
          case rel => exact ⟨s + 1, by omega, by go_num, by rw [hst.out]; exact (hN.set hrm _).drew, (hT.other (by omega) _ _).drew, (hB.setCell (p := ⟨r, x, none⟩) hr1 _).drew⟩
          case measure => simp [intOf]; omega
      · obtain rfl : s = 121 := by omega
        have hit : decide (((121 : Nat) : Int) < (121 : Int)) = false := rfl
        go_wp2_with fail
        go_ret
        exact ⟨r, rfl, hr1, hN, hB⟩


end ModS
end Go.Proofs.Ytddnlbahelgadaa
