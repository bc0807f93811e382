/-
  Contracts of the functions that cut a fraction, in the program and in its model.
-/
import Derived.Test.YtlpjmfmalejlpaaRows
import Derived.Test.YtlpjmfmalejlpaaDieW
import Derived.Test.YtlpjmfmalejlpaaOpenD
import Derived.WalkKit
import Derived.WalkLawsBesides
import Derived.WalkSpells
import Derived.ProofKit
import Derived.OpenShut
import Derived.Deep.RegionWith
import Derived.Deep.QuietTactic
import Derived.BigQuiet
namespace Go.Proofs.Ytlpjmfmalejlpaa
open Go.ChangeShapes Go.WideShapes Go.ChangeAt Go.RowKit
open Go.ChangeMaps (open_string shut_string)

namespace FracW
open Dice Arr DieW

/-- Two numbers as a fraction. -/
def fr (x y : Int) : Nat → Int := fun k => if k = 0 then x else y
abbrev v2 (x y : Int) : Value := .agg #[.int .i64 x, .int .i64 y]
theorem gcd_step (a b : Nat) : Nat.gcd b (a % b) = Nat.gcd a b := by rw [Nat.gcd_comm a b, Nat.gcd_rec b a, Nat.gcd_comm]

theorem divisor_any (a b : Nat) (w : World) (ha : a ≤ 1000000000) (hb : b ≤ 1000000000) :
    Calls Try.prog 47 #[.int .i64 a, .int .i64 b] w fun e w' => e = .returned (.int .i64 (Nat.gcd a b : Nat)) ∧ Below w.heap.size w w' := by
  go_enter Try.func47, Try.ntmps47
  go_wp2_with fail
  go_loopw [0, 1] (fun u v wr => ∃ x y : Nat, x ≤ 1000000000 ∧ y ≤ 1000000000 ∧ u = .int .i64 x ∧ v = .int .i64 y ∧ Below w.heap.size w wr ∧ Hid (Nat.gcd x y = Nat.gcd a b)) (fun _ v _ => (intOf v).toNat)
  case atStart => exact ⟨a, b, ha, hb, rfl, rfl, Below.refl _ _, rfl⟩
  case round =>
    obtain ⟨x, y, hx, hy, rfl, rfl, hb, hg⟩ := hrel
    by_cases hpos : 0 < y
    · have hmod : x % y < y := Nat.mod_lt _ hpos
      have hcast : ((x : Int) % (y : Int)) = ((x % y : Nat) : Int) := by omega
      have hy0 : ((y : Int) = 0) = False := by simp; omega
      go_wp2_with fail
      go_region
      all_goals
        go_wp2_with fail
        go_roundw
        case rel => exact ⟨y, x % y, hy, by omega, rfl, by rw [hcast], hb.drew, by show Nat.gcd y (x % y) = _; rw [gcd_step]; exact hg.out⟩
        case measure => simp [intOf]; omega
    · obtain rfl : y = 0 := by omega
      have hg' := hg.out
      rw [Nat.gcd_zero_right] at hg'
      have Hg := Lib.hid hg'; clear hg'
      go_wp2_with fail
      go_ret
      exact ⟨by rw [← Hg.out]; rfl, hb⟩

theorem most_any (a b : Int) (w : World) :
    Calls Try.prog 48 #[.int .i64 a, .int .i64 b] w fun e w' => e = .returned (.int .i64 (if b < a then a else b)) ∧ w' = w := by
  by_cases h : b < a
  · rw [if_pos h]
    go_enter Try.func48, Try.ntmps48
    go_wp2
    go_ret
    exact ⟨rfl, rfl⟩
  · rw [if_neg h]
    go_enter Try.func48, Try.ntmps48
    go_wp2
    go_ret
    exact ⟨rfl, rfl⟩

theorem At.new2 (w : World) (t : TypeId) : At (w.alloc (.cells #[.int .i64 0, .int .i64 0] t)) w.heap.size 2 (fun _ => 0) :=
  At.new w _ t 2 _ fun k hk => by
    obtain rfl | rfl : k = 0 ∨ k = 1 := by omega
    all_goals rfl
theorem fin2 {w : World} {b : Nat} {f : Nat → Int} (h : At w b 2 f) (x y : Int) : At (((w.setCell ⟨b, 0, none⟩ (.int .i64 x)).setCell ⟨b, 1, none⟩ (.int .i64 y)).drew) b 2 (fr x y) :=
  (((h.set (i := 0) (by omega) x).set (i := 1) (by omega) y).congr fun k hk => by
    obtain rfl | rfl : k = 0 ∨ k = 1 := by omega
    all_goals rfl).drew
theorem wrap_same (m : Int) (h0 : 0 ≤ m) (h1 : m ≤ 1000000000) : IntKind.i64.wrap m = m := by
  simp [IntKind.wrap, IntKind.signed, IntKind.bits]
  omega
theorem quo_wrap {a x : Nat} (ha : a ≤ 1000000000) : wrap64 ((a : Int) / (x : Int)) = ((a / x : Nat) : Int) ∧ IntKind.i64.wrap ((a : Int) / (x : Int)) = ((a / x : Nat) : Int) := by
  have h : a / x ≤ a := Nat.div_le_self a x
  have e : ((a : Int) / (x : Int)) = ((a / x : Nat) : Int) := by simp
  rw [e]
  clear e
  generalize a / x = m at h
  have w1 : wrap64 (m : Int) = m := by unfold wrap64; omega
  exact ⟨w1, by
    have := wrap_same (m : Int) (by omega) (by omega)
    exact this⟩
theorem gcd_pos {a b : Nat} (h : 1 ≤ b) : 1 ≤ Nat.gcd a b := Nat.gcd_pos_of_pos_right _ h

set_option maxHeartbeats 1000000 in
theorem cut_any (a b : Nat) (w : World) (ha : a ≤ 1000000000) (hb : b ≤ 1000000000) (h0 : 1 ≤ b) :
    Calls Try.prog 38 #[.int .i64 a, .int .i64 b] w fun e w' => e = .returned (v2 (a / Nat.gcd a b : Nat) (b / Nat.gcd a b : Nat)) ∧ Below w.heap.size w w' := by
  have Hm := Lib.hid (fun (x y : Int) (w : World) => most_any x y w)
  go_enter Try.func38, Try.ntmps38
  go_wp2_with fail
  go_loopw [5, 6] (fun u v wr => ∃ x y : Nat, x ≤ 1000000000 ∧ y ≤ 1000000000 ∧ u = .int .i64 x ∧ v = .int .i64 y ∧ Below w.heap.size w wr ∧ At wr w.heap.size 2 (fun _ => 0) ∧ Hid (Nat.gcd x y = Nat.gcd a b)) (fun _ v _ => (intOf v).toNat)
  case atStart => exact ⟨a, b, ha, hb, rfl, rfl, na (n0 w) _, At.new2 w _, rfl⟩
  case round =>
    obtain ⟨x, y, hx, hy, rfl, rfl, hbl, hA, hg⟩ := hrel
    by_cases hpos : 0 < y
    · have hmod : x % y < y := Nat.mod_lt _ hpos
      have hcast : ((x : Int) % (y : Int)) = ((x % y : Nat) : Int) := by omega
      have hy0 : ((y : Int) = 0) = False := by simp; omega
      go_wp2_with fail
      go_region
      all_goals
        go_wp2_with fail
        go_roundw
        case rel => exact ⟨y, x % y, hy, by omega, rfl, by rw [hcast], hbl.drew, hA.drew, by show Nat.gcd y (x % y) = _; rw [gcd_step]; exact hg.out⟩
        case measure => simp [intOf]; omega
    · have hy00 : y = 0 := by omega
      subst hy00
      have hg' := hg.out
      rw [Nat.gcd_zero_right] at hg'
      have hx1 : 1 ≤ x := by rw [hg']; exact gcd_pos h0
      have hq : (if (1 : Int) < (x : Int) then (x : Int) else 1) = x := by split <;> omega
      have Hmx := Lib.hid (Hm.out (x : Int) 1)
      rw [hq] at Hmx
      have c0 := hA.cell 0 (by omega)
      have c1 := hA.cell 1 (by omega)
      have z0 := hA.free 0
      have z1 := hA.free 1
      have hxx : ((x : Int) = 0) = False := by simp; omega
      have Hg := Lib.hid hg'; clear hg' hq Hm
      go_wp2_with fail
      go_region_with (go_at_call 48; refine (Hmx.out _).mono ?_; rintro e w' ⟨rfl, rfl⟩)
      all_goals
        go_wp2_with fail
        simp only [(quo_wrap (x := x) ha).1, (quo_wrap (x := x) ha).2, (quo_wrap (x := x) hb).1, (quo_wrap (x := x) hb).2]
        refine ret_cell (b := w.heap.size) (n := 2) (f := fr (a / x : Nat) (b / x : Nat)) Try.results38 rfl Try.underlying35 (by kernel_rfl) (fin2 hA _ _) rfl ⟨by rw [← Hg.out]; rfl, ?_⟩
        exact ((hbl.setCell (p := ⟨w.heap.size, 0, none⟩) (Nat.le_refl _) _).setCell (p := ⟨w.heap.size, 1, none⟩) (Nat.le_refl _) _).drew

set_option maxHeartbeats 1000000 in
theorem fraction_any (a b : Nat) (w : World) (ha : a ≤ 1000000000) (hb : b ≤ 1000000000) (h0 : 1 ≤ b) :
    Calls Try.prog 37 #[.int .i64 a, .int .i64 b] w fun e w' => e = .returned (v2 (a / Nat.gcd a b : Nat) (b / Nat.gcd a b : Nat)) ∧ Below w.heap.size w w' := by
  have Hd := Lib.hid (divisor_any a b · ha hb)
  have hx1 : 1 ≤ Nat.gcd a b := gcd_pos h0
  have hxx : ((Nat.gcd a b : Nat) : Int) ≠ 0 := by omega
  generalize Nat.gcd a b = x at Hd hx1 hxx
  go_enter Try.func37, Try.ntmps37
  go_wp2_with fail
  refine (Hd.out _).mono ?_
  rintro e w1 ⟨rfl, hb1⟩
  have hbl := nx (na (n0 w) _) hb1
  have hA := (At.new2 w 35).up hb1
  have c0 := hA.cell 0 (by omega)
  have c1 := hA.cell 1 (by omega)
  have z0 := hA.free 0
  have z1 := hA.free 1
  clear hb1
  go_wp2_with fail
  go_region
  all_goals
    go_wp2_with fail
    simp only [(quo_wrap (x := x) ha).1, (quo_wrap (x := x) hb).1]
    refine ret_cell (b := w.heap.size) (n := 2) (f := fr (a / x : Nat) (b / x : Nat)) Try.results37 rfl Try.underlying35 (by kernel_rfl) (fin2 hA _ _) rfl ⟨rfl, ?_⟩
    exact ((hbl.setCell (p := ⟨w.heap.size, 0, none⟩) (Nat.le_refl _) _).setCell (p := ⟨w.heap.size, 1, none⟩) (Nat.le_refl _) _).drew

end FracW
end Go.Proofs.Ytlpjmfmalejlpaa
