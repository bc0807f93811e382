/-
  Contracts of the functions that add up numbers of dice.
-/
import Derived.Test.YtllcjgladjcoaabRows
import Derived.Test.YtllcjgladjcoaabPoolW
import Derived.Test.YtllcjgladjcoaabFracW
import Derived.Test.YtllcjgladjcoaabSortW
import Derived.Test.YtllcjgladjcoaabOpenD
import Derived.WalkKit
import Derived.WalkLawsBesides
import Derived.WalkSpells
import Derived.ProofKit
import Derived.OpenShut
import Derived.Deep.RegionWith
import Derived.Deep.QuietTactic
import Derived.BigQuiet
namespace Go.Proofs.Ytllcjgladjcoaab
open Go.ChangeShapes Go.WideShapes Go.ChangeAt Go.RowKit
open Go.ChangeMaps (open_string shut_string)

namespace SumsW
open Dice Arr OpenD DieW SortW PoolW FracW

end SumsW
namespace Arr
theorem At.stay {w w2 : World} {k : Nat} {b n : Nat} {f : Nat → Int} (h : At w b n f) (hb : Below (w.drewN k).heap.size (w.drewN k) w2) : At w2 b n f := (h.drewN k).up hb
theorem stayB {w0 w w2 : World} {k : Nat} (h : Below w0.heap.size w0 w) (hb : Below (w.drewN k).heap.size (w.drewN k) w2) : Below w0.heap.size w0 w2 := nx (below_drewN h k) hb
end Arr
namespace SumsW
open Dice Arr OpenD DieW SortW PoolW FracW
/-- Sums of the first numbers. -/
def pre (d : Nat → Int) : Nat → Int
  | 0 => 0
  | k + 1 => pre d k + d k
def sq (d : Nat → Int) (k : Nat) : Int := d k * d k
def S (d : Nat → Int) : Int := pre d 6
/-- A number of each die, added up. -/
def tot (F : (Nat → Int) → Int) (P : Nat → Nat → Int) : Nat → Int
  | 0 => 0
  | n + 1 => tot F P n + F (P n)
theorem pre_bound {d : Nat → Int} {m : Int} (h : ∀ k, k < 6 → 0 ≤ d k ∧ d k ≤ m) : ∀ k, k ≤ 6 → 0 ≤ pre d k ∧ pre d k ≤ k * m := by
  intro k
  induction k with
  | zero => intro _; simp [pre]
  | succ k ih =>
    intro hk
    have h1 := ih (by omega)
    have h2 := h k (by omega)
    have e : ((k + 1 : Nat) : Int) * m = k * m + m := by rw [Int.natCast_add, Int.add_mul]; simp
    rw [e]
    unfold pre
    omega

theorem tot_bound {F : (Nat → Int) → Int} {P : Nat → Nat → Int} {n : Nat} (h : ∀ i, i < n → 0 ≤ F (P i) ∧ F (P i) ≤ 100000) : ∀ k, k ≤ n → 0 ≤ tot F P k ∧ tot F P k ≤ k * 100000 := by
  intro k
  induction k with
  | zero => intro _; simp [tot]
  | succ k ih =>
    intro hk
    have h1 := ih (by omega)
    have h2 := h k (by omega)
    unfold tot
    omega
theorem three_wraps {x y : Int} (hx : 0 ≤ x ∧ x ≤ 32400) (hy : 0 ≤ y ∧ y ≤ 32400) : IntKind.i64.wrap (IntKind.i64.wrap x - IntKind.i64.wrap y) = x - y := by
  rw [wrap_same x hx.1 (by omega), wrap_same y hy.1 (by omega)]
  simp [IntKind.wrap, IntKind.signed, IntKind.bits]
  omega
theorem sq_bound {x : Int} (h : 0 ≤ x ∧ x ≤ 30) : 0 ≤ x * x ∧ x * x ≤ 900 := by
  have h1 := Int.mul_nonneg h.1 h.1
  have h2 : x * x ≤ 30 * 30 := Int.mul_le_mul h.2 h.2 h.1 (by omega)
  omega
theorem sq_bound' {x : Int} (h : 0 ≤ x ∧ x ≤ (6 : Nat) * 30) : 0 ≤ x * x ∧ x * x ≤ 32400 := by
  have h1 := Int.mul_nonneg h.1 h.1
  have h2 : x * x ≤ 180 * 180 := Int.mul_le_mul (by omega) (by omega) h.1 (by omega)
  omega

set_option maxHeartbeats 1000000 in
theorem sumOf_any (d : Nat → Int) (w : World) (h : ∀ k, k < 6 → 0 ≤ d k ∧ d k ≤ 30) :
    Calls Try.prog 61 #[dv d] w fun e w' => e = .returned (.int .i64 (S d)) ∧ Below w.heap.size w w' := by
  unfold dv
  go_enter Try.func61, Try.ntmps61
  have hix0 := fun (w : World) (k : Nat) (hk : k < 6) => run_index_vals (P := Try.prog) w 62 3 6 Try.underlying62 Try.underlying3 Try.sizeOf3 d hk
  simp only [← dv_vals] at hix0
  unfold dv at hix0
  have Hix := Lib.hid hix0; clear hix0
  have Hb := Lib.hid (pre_bound h)
  go_wp2_with fail
  go_loopw [3, 7] (fun s i wr => ∃ k : Nat, k ≤ 6 ∧ i = .int .i64 k ∧ s = .int .i64 (pre d k) ∧ Below w.heap.size w wr) (fun _ i _ => 6 - (intOf i).toNat)
  case atStart => exact ⟨0, by omega, rfl, rfl, na (n0 w) _⟩
  case round =>
    obtain ⟨k, hk, rfl, rfl, hb⟩ := hrel
    by_cases hlt : k < 6
    · have hix := fun w => Hix.out w k hlt
      have b1 := Hb.out k hk
      have b2 := h k hlt
      have b3 : pre d (k + 1) = pre d k + d k := rfl
      have b4 : pre d k ≤ 180 := by omega
      have B3 := Lib.hid b3; clear b3
      go_wp2_with fail
      go_roundw
      case rel => exact ⟨k + 1, by omega, by go_num, by rw [B3.out], hb⟩
      case measure => simp [intOf]; omega
    · obtain rfl : k = 6 := by omega
      go_wp2_with fail
      go_ret
      exact ⟨rfl, hb⟩

set_option maxHeartbeats 1000000 in
theorem spread_any (d : Nat → Int) (w : World) (h : ∀ k, k < 6 → 0 ≤ d k ∧ d k ≤ 30) :
    Calls Try.prog 62 #[dv d] w fun e w' => e = .returned (.int .i64 (6 * pre (sq d) 6 - S d * S d)) ∧ Below w.heap.size w w' := by
  unfold dv
  go_enter Try.func62, Try.ntmps62
  have hix0 := fun (w : World) (k : Nat) (hk : k < 6) => run_index_vals (P := Try.prog) w 62 3 6 Try.underlying62 Try.underlying3 Try.sizeOf3 d hk
  simp only [← dv_vals] at hix0
  unfold dv at hix0
  have Hix := Lib.hid hix0; clear hix0
  have hsq : ∀ k, k < 6 → 0 ≤ sq d k ∧ sq d k ≤ 900 := fun k hk => sq_bound (h k hk)
  have Hb := Lib.hid (pre_bound hsq)
  have hs := sumOf_any d
  have hS : 0 ≤ S d ∧ S d ≤ (6 : Nat) * 30 := pre_bound h 6 (Nat.le_refl _)
  unfold dv at hs
  have Hs := Lib.hid (fun w => hs w h); clear hs
  go_wp2_with fail
  go_loopw [3, 7] (fun s i wr => ∃ k : Nat, k ≤ 6 ∧ i = .int .i64 k ∧ s = .int .i64 (pre (sq d) k) ∧ Below w.heap.size w wr ∧ At wr w.heap.size 6 d) (fun _ i _ => 6 - (intOf i).toNat)
  case atStart => exact ⟨0, by omega, rfl, rfl, na (n0 w) _, At.new6 w d _ rfl⟩
  case round =>
    obtain ⟨k, hk, rfl, rfl, hb, hA⟩ := hrel
    by_cases hlt : k < 6
    · have hix := fun w => Hix.out w k hlt
      have b1 := Hb.out k hk
      have b2 := h k hlt
      have b2' := hsq k hlt
      unfold sq at b2'
      have b3 : pre (sq d) (k + 1) = pre (sq d) k + d k * d k := rfl
      have b4 : pre (sq d) k ≤ 5400 := by omega
      have B3 := Lib.hid b3; clear b3
      go_wp2_with fail
      go_roundw
      case rel => exact ⟨k + 1, by omega, by go_num, by rw [B3.out], hb, hA⟩
      case measure => simp [intOf]; omega
    · obtain rfl : k = 6 := by omega
      obtain ⟨e0, e1, e2, e3, e4, e5⟩ := hA.six
      have hq := Hb.out 6 (Nat.le_refl _)
      have hSS := sq_bound' hS
      have Hw : Hid (IntKind.i64.wrap (IntKind.i64.wrap (6 * pre (sq d) 6) - IntKind.i64.wrap (S d * S d)) = 6 * pre (sq d) 6 - S d * S d) := three_wraps (by omega) hSS
      have hSub : 0 ≤ 6 * pre (sq d) 6 ∧ 6 * pre (sq d) 6 ≤ 32400 := by omega
      go_wp2_with fail
      go_region_with (go_at_call 61; refine (Hs.out _).mono ?_; rintro e w2 ⟨rfl, hb2⟩; first | (have hA := hA.up hb2; have hb := nx hb hb2; obtain ⟨e0, e1, e2, e3, e4, e5⟩ := hA.six) | (have hA := At.stay (k := 1) hA hb2; have hb := stayB (k := 1) hb hb2; obtain ⟨e0, e1, e2, e3, e4, e5⟩ := hA.six))
      all_goals
        go_wp2_with fail
        go_ret
        exact ⟨by rw [← Hw.out]; rfl, by assumption⟩

theorem least_any (d : Nat → Int) (w : World) :
    Calls Try.prog 63 #[dv d] w fun e w' => e = .returned (.int .i64 (d 0)) ∧ Below w.heap.size w w' := by
  unfold dv
  go_enter Try.func63, Try.ntmps63
  go_wp2_with fail
  go_ret
  exact ⟨rfl, na (n0 w) _⟩
theorem greatest_any (d : Nat → Int) (w : World) :
    Calls Try.prog 64 #[dv d] w fun e w' => e = .returned (.int .i64 (d 5)) ∧ Below w.heap.size w w' := by
  unfold dv
  go_enter Try.func64, Try.ntmps64
  go_wp2_with fail
  go_ret
  exact ⟨rfl, na (n0 w) _⟩

set_option maxHeartbeats 1000000 in
theorem addUp_sumOfFaces (F : (Nat → Int) → Int) (A : Option Addr) (n c : Nat) (P : Nat → Nat → Int) (w : World) (h : Row w A n P) (hn : n ≤ 4)
    (hF : ∀ i, i < n → 0 ≤ F (P i) ∧ F (P i) ≤ 100000)
    (hcall : ∀ i, i < n → ∀ w, Calls Try.prog 61 #[dv (P i)] w fun e w' => e = .returned (.int .i64 (F (P i))) ∧ Below w.heap.size w w') :
    Calls Try.prog 60 #[.slice A n c, .func (Fn.func 61) #[] #[]] w fun e w' => e = .returned (.int .i64 (tot F P n)) ∧ Below w.heap.size w w' := by
  have H := Lib.hid h; clear h
  unfold dv at hcall
  have Hc := Lib.hid hcall; clear hcall
  have Hb := Lib.hid (tot_bound hF)
  go_enter Try.func60, Try.ntmps60
  go_wp2_with fail
  go_loopw [5, 10] (fun s i wr => ∃ k : Nat, k ≤ n ∧ i = .int .i64 k ∧ s = .int .i64 (tot F P k) ∧ Below w.heap.size w wr) (fun _ i _ => n - (intOf i).toNat)
  case atStart => exact ⟨0, by omega, rfl, rfl, n0 w⟩
  case round =>
    obtain ⟨k, hk, rfl, rfl, hb⟩ := hrel
    by_cases hlt : k < n
    · obtain ⟨bk, o, rfl, hbk, hc⟩ := (H.out.below (Nat.le_refl _) hb).at_ hlt
      have c0 := hc 0 (by omega)
      have c1 := hc 1 (by omega)
      have c2 := hc 2 (by omega)
      have c3 := hc 3 (by omega)
      have c4 := hc 4 (by omega)
      have c5 := hc 5 (by omega)
      simp only [← Nat.add_assoc, Nat.add_zero] at c0 c1 c2 c3 c4 c5
      have b1 := Hb.out k hk
      have b2 := hF k hlt
      have b3 : tot F P (k + 1) = tot F P k + F (P k) := rfl
      have B3 := Lib.hid b3; clear b3
      have Hck := Lib.hid (Hc.out k hlt)
      go_wp2_with fail
      refine (Hck.out _).mono ?_
      rintro e w2 ⟨rfl, hb2⟩
      have hB2 := nx (na hb _) hb2
      clear hb2 c0 c1 c2 c3 c4 c5
      go_wp2_with fail
      go_roundw
      case rel => exact ⟨k + 1, by omega, by go_num, by rw [B3.out], hB2⟩
      case measure => simp [intOf]; omega
    · obtain rfl : k = n := by omega
      go_wp2_with fail
      go_ret
      exact ⟨rfl, hb⟩

set_option maxHeartbeats 1000000 in
theorem addUp_spreadTimes36 (F : (Nat → Int) → Int) (A : Option Addr) (n c : Nat) (P : Nat → Nat → Int) (w : World) (h : Row w A n P) (hn : n ≤ 4)
    (hF : ∀ i, i < n → 0 ≤ F (P i) ∧ F (P i) ≤ 100000)
    (hcall : ∀ i, i < n → ∀ w, Calls Try.prog 62 #[dv (P i)] w fun e w' => e = .returned (.int .i64 (F (P i))) ∧ Below w.heap.size w w') :
    Calls Try.prog 60 #[.slice A n c, .func (Fn.func 62) #[] #[]] w fun e w' => e = .returned (.int .i64 (tot F P n)) ∧ Below w.heap.size w w' := by
  have H := Lib.hid h; clear h
  unfold dv at hcall
  have Hc := Lib.hid hcall; clear hcall
  have Hb := Lib.hid (tot_bound hF)
  go_enter Try.func60, Try.ntmps60
  go_wp2_with fail
  go_loopw [5, 10] (fun s i wr => ∃ k : Nat, k ≤ n ∧ i = .int .i64 k ∧ s = .int .i64 (tot F P k) ∧ Below w.heap.size w wr) (fun _ i _ => n - (intOf i).toNat)
  case atStart => exact ⟨0, by omega, rfl, rfl, n0 w⟩
  case round =>
    obtain ⟨k, hk, rfl, rfl, hb⟩ := hrel
    by_cases hlt : k < n
    · obtain ⟨bk, o, rfl, hbk, hc⟩ := (H.out.below (Nat.le_refl _) hb).at_ hlt
      have c0 := hc 0 (by omega)
      have c1 := hc 1 (by omega)
      have c2 := hc 2 (by omega)
      have c3 := hc 3 (by omega)
      have c4 := hc 4 (by omega)
      have c5 := hc 5 (by omega)
      simp only [← Nat.add_assoc, Nat.add_zero] at c0 c1 c2 c3 c4 c5
      have b1 := Hb.out k hk
      have b2 := hF k hlt
      have b3 : tot F P (k + 1) = tot F P k + F (P k) := rfl
      have B3 := Lib.hid b3; clear b3
      have Hck := Lib.hid (Hc.out k hlt)
      go_wp2_with fail
      refine (Hck.out _).mono ?_
      rintro e w2 ⟨rfl, hb2⟩
      have hB2 := nx (na hb _) hb2
      clear hb2 c0 c1 c2 c3 c4 c5
      go_wp2_with fail
      go_roundw
      case rel => exact ⟨k + 1, by omega, by go_num, by rw [B3.out], hB2⟩
      case measure => simp [intOf]; omega
    · obtain rfl : k = n := by omega
      go_wp2_with fail
      go_ret
      exact ⟨rfl, hb⟩

set_option maxHeartbeats 1000000 in
theorem addUp_least (F : (Nat → Int) → Int) (A : Option Addr) (n c : Nat) (P : Nat → Nat → Int) (w : World) (h : Row w A n P) (hn : n ≤ 4)
    (hF : ∀ i, i < n → 0 ≤ F (P i) ∧ F (P i) ≤ 100000)
    (hcall : ∀ i, i < n → ∀ w, Calls Try.prog 63 #[dv (P i)] w fun e w' => e = .returned (.int .i64 (F (P i))) ∧ Below w.heap.size w w') :
    Calls Try.prog 60 #[.slice A n c, .func (Fn.func 63) #[] #[]] w fun e w' => e = .returned (.int .i64 (tot F P n)) ∧ Below w.heap.size w w' := by
  have H := Lib.hid h; clear h
  unfold dv at hcall
  have Hc := Lib.hid hcall; clear hcall
  have Hb := Lib.hid (tot_bound hF)
  go_enter Try.func60, Try.ntmps60
  go_wp2_with fail
  go_loopw [5, 10] (fun s i wr => ∃ k : Nat, k ≤ n ∧ i = .int .i64 k ∧ s = .int .i64 (tot F P k) ∧ Below w.heap.size w wr) (fun _ i _ => n - (intOf i).toNat)
  case atStart => exact ⟨0, by omega, rfl, rfl, n0 w⟩
  case round =>
    obtain ⟨k, hk, rfl, rfl, hb⟩ := hrel
    by_cases hlt : k < n
    · obtain ⟨bk, o, rfl, hbk, hc⟩ := (H.out.below (Nat.le_refl _) hb).at_ hlt
      have c0 := hc 0 (by omega)
      have c1 := hc 1 (by omega)
      have c2 := hc 2 (by omega)
      have c3 := hc 3 (by omega)
      have c4 := hc 4 (by omega)
      have c5 := hc 5 (by omega)
      simp only [← Nat.add_assoc, Nat.add_zero] at c0 c1 c2 c3 c4 c5
      have b1 := Hb.out k hk
      have b2 := hF k hlt
      have b3 : tot F P (k + 1) = tot F P k + F (P k) := rfl
      have B3 := Lib.hid b3; clear b3
      have Hck := Lib.hid (Hc.out k hlt)
      go_wp2_with fail
      refine (Hck.out _).mono ?_
      rintro e w2 ⟨rfl, hb2⟩
      have hB2 := nx (na hb _) hb2
      clear hb2 c0 c1 c2 c3 c4 c5
      go_wp2_with fail
      go_roundw
      case rel => exact ⟨k + 1, by omega, by go_num, by rw [B3.out], hB2⟩
      case measure => simp [intOf]; omega
    · obtain rfl : k = n := by omega
      go_wp2_with fail
      go_ret
      exact ⟨rfl, hb⟩

set_option maxHeartbeats 1000000 in
theorem addUp_greatest (F : (Nat → Int) → Int) (A : Option Addr) (n c : Nat) (P : Nat → Nat → Int) (w : World) (h : Row w A n P) (hn : n ≤ 4)
    (hF : ∀ i, i < n → 0 ≤ F (P i) ∧ F (P i) ≤ 100000)
    (hcall : ∀ i, i < n → ∀ w, Calls Try.prog 64 #[dv (P i)] w fun e w' => e = .returned (.int .i64 (F (P i))) ∧ Below w.heap.size w w') :
    Calls Try.prog 60 #[.slice A n c, .func (Fn.func 64) #[] #[]] w fun e w' => e = .returned (.int .i64 (tot F P n)) ∧ Below w.heap.size w w' := by
  have H := Lib.hid h; clear h
  unfold dv at hcall
  have Hc := Lib.hid hcall; clear hcall
  have Hb := Lib.hid (tot_bound hF)
  go_enter Try.func60, Try.ntmps60
  go_wp2_with fail
  go_loopw [5, 10] (fun s i wr => ∃ k : Nat, k ≤ n ∧ i = .int .i64 k ∧ s = .int .i64 (tot F P k) ∧ Below w.heap.size w wr) (fun _ i _ => n - (intOf i).toNat)
  case atStart => exact ⟨0, by omega, rfl, rfl, n0 w⟩
  case round =>
    obtain ⟨k, hk, rfl, rfl, hb⟩ := hrel
    by_cases hlt : k < n
    · obtain ⟨bk, o, rfl, hbk, hc⟩ := (H.out.below (Nat.le_refl _) hb).at_ hlt
      have c0 := hc 0 (by omega)
      have c1 := hc 1 (by omega)
      have c2 := hc 2 (by omega)
      have c3 := hc 3 (by omega)
      have c4 := hc 4 (by omega)
      have c5 := hc 5 (by omega)
      simp only [← Nat.add_assoc, Nat.add_zero] at c0 c1 c2 c3 c4 c5
      have b1 := Hb.out k hk
      have b2 := hF k hlt
      have b3 : tot F P (k + 1) = tot F P k + F (P k) := rfl
      have B3 := Lib.hid b3; clear b3
      have Hck := Lib.hid (Hc.out k hlt)
      go_wp2_with fail
      refine (Hck.out _).mono ?_
      rintro e w2 ⟨rfl, hb2⟩
      have hB2 := nx (na hb _) hb2
      clear hb2 c0 c1 c2 c3 c4 c5
      go_wp2_with fail
      go_roundw
      case rel => exact ⟨k + 1, by omega, by go_num, by rw [B3.out], hB2⟩
      case measure => simp [intOf]; omega
    · obtain rfl : k = n := by omega
      go_wp2_with fail
      go_ret
      exact ⟨rfl, hb⟩



end SumsW
end Go.Proofs.Ytllcjgladjcoaab
