/-
  Sums, products and order of fractions with great numbers: contracts of the specification.
-/
import Derived.Test.YtdodokeebmdceaaRows
import Derived.Test.YtdodokeebmdceaaFracW
import Derived.Test.YtdodokeebmdceaaCutW
import Derived.Test.YtdodokeebmdceaaGoalW
import Derived.Test.YtdodokeebmdceaaDieW
import Derived.Test.YtdodokeebmdceaaArr
import Derived.Test.YtdodokeebmdceaaOpenD
import Derived.WalkKit
import Derived.WalkLawsBesides
import Derived.WalkSpells
import Derived.ProofKit
import Derived.OpenShut
import Derived.Deep.RegionWith
import Derived.Deep.QuietTactic
import Derived.BigQuiet
namespace Go.Proofs.Ytdodokeebmdceaa
open Go.ChangeShapes Go.WideShapes Go.ChangeAt Go.RowKit
open Go.ChangeMaps (open_string shut_string)

namespace FracB2
open Dice Arr DieW FracW CutW GoalW

theorem wrap_big (m : Int) (h0 : 0 ≤ m) (h1 : m ≤ 1000000000000000000) : IntKind.i64.wrap m = m := by
  simp [IntKind.wrap, IntKind.signed, IntKind.bits]
  omega
theorem quo_big {a x : Nat} (ha : a ≤ 1000000000000000000) : wrap64 ((a : Int) / (x : Int)) = ((a / x : Nat) : Int) ∧ IntKind.i64.wrap ((a : Int) / (x : Int)) = ((a / x : Nat) : Int) := by
  have h : a / x ≤ a := Nat.div_le_self a x
  have e : ((a : Int) / (x : Int)) = ((a / x : Nat) : Int) := by simp
  rw [e]
  clear e
  generalize a / x = m at h
  have w1 : wrap64 (m : Int) = m := by unfold wrap64; omega
  exact ⟨w1, by
    have := wrap_big (m : Int) (by omega) (by omega)
    exact this⟩
set_option maxHeartbeats 1000000 in
theorem cutB_any (a b : Nat) (w : World) (ha : a ≤ 1000000000000000000) (hb : b ≤ 1000000000000000000) (h0 : 1 ≤ b) :
    Calls Try.prog 54 #[.int .i64 a, .int .i64 b] w fun e w' => e = .returned (v2 (a / Nat.gcd a b : Nat) (b / Nat.gcd a b : Nat)) ∧ Below w.heap.size w w' := by
  have Hm := Lib.hid (fun (x y : Int) (w : World) => most_any x y w)
  go_enter Try.func54, Try.ntmps54
  go_wp2_with fail
  go_loopw [5, 6] (fun u v wr => ∃ x y : Nat, x ≤ 1000000000000000000 ∧ y ≤ 1000000000000000000 ∧ u = .int .i64 x ∧ v = .int .i64 y ∧ Below w.heap.size w wr ∧ At wr w.heap.size 2 (fun _ => 0) ∧ Hid (Nat.gcd x y = Nat.gcd a b)) (fun _ v _ => (intOf v).toNat)
  case atStart => exact ⟨a, b, ha, hb, rfl, rfl, na (n0 w) _, At.new2 w _, rfl⟩
  case round =>
    obtain ⟨x, y, hx, hy, rfl, rfl, hbl, hA, hg⟩ := hrel
    by_cases hpos : 0 < y
    · have hmod : x % y < y := Nat.mod_lt _ hpos
      have hcast : ((x : Int) % (y : Int)) = ((x % y : Nat) : Int) := by omega
      have hy0 : ((y : Int) = 0) = False := by simp; omega
      go_wp2_with fail
      go_region
      all_goals
        go_wp2_with fail
        go_roundw
        case rel => exact ⟨y, x % y, hy, by omega, rfl, by rw [hcast], hbl.drew, hA.drew, by show Nat.gcd y (x % y) = _; rw [gcd_step]; exact hg.out⟩
        case measure => simp [intOf]; omega
    · have hy00 : y = 0 := by omega
      subst hy00
      have hg' := hg.out
      rw [Nat.gcd_zero_right] at hg'
      have hx1 : 1 ≤ x := by rw [hg']; exact gcd_pos h0
      have hq : (if (1 : Int) < (x : Int) then (x : Int) else 1) = x := by split <;> omega
      have Hmx := Lib.hid (Hm.out (x : Int) 1)
      rw [hq] at Hmx
      have c0 := hA.cell 0 (by omega)
      have c1 := hA.cell 1 (by omega)
      have z0 := hA.free 0
      have z1 := hA.free 1
      have hxx : ((x : Int) = 0) = False := by simp; omega
      have Hg := Lib.hid hg'; clear hg' hq Hm
      go_wp2_with fail
      go_region_with (go_at_call 90; refine (Hmx.out _).mono ?_; rintro e w' ⟨rfl, rfl⟩)
      all_goals
        go_wp2_with fail
        simp only [(quo_big (x := x) ha).1, (quo_big (x := x) ha).2, (quo_big (x := x) hb).1, (quo_big (x := x) hb).2]
        refine ret_cell (b := w.heap.size) (n := 2) (f := fr (a / x : Nat) (b / x : Nat)) Try.results54 rfl Try.underlying29 (by kernel_rfl) (fin2 hA _ _) rfl ⟨by rw [← Hg.out]; rfl, ?_⟩
        exact ((hbl.setCell (p := ⟨w.heap.size, 0, none⟩) (Nat.le_refl _) _).setCell (p := ⟨w.heap.size, 1, none⟩) (Nat.le_refl _) _).drew


set_option maxHeartbeats 2000000 in
theorem plus_any (a b c d : Nat) (w : World) (h1 : a * d + c * b ≤ 1000000000000000000) (h2 : b * d ≤ 1000000000000000000) (h0 : 1 ≤ b * d) :
    Calls Try.prog 77 #[v2 (a : Int) (b : Int), v2 (c : Int) (d : Int)] w fun e w' => e = .returned (cutV (a * d + c * b) (b * d)) ∧ Below w.heap.size w w' := by
  unfold cutV
  have e1 : (a : Int) * (d : Int) = ((a * d : Nat) : Int) := by push_cast; rfl
  have e2 : (c : Int) * (b : Int) = ((c * b : Nat) : Int) := by push_cast; rfl
  have e3 : (b : Int) * (d : Int) = ((b * d : Nat) : Int) := by push_cast; rfl
  generalize a * d = x at *
  generalize c * b = y at *
  generalize b * d = z at *
  have hx : x ≤ 1000000000000000000 := by omega
  have hy : y ≤ 1000000000000000000 := by omega
  obtain ⟨s, hs⟩ : ∃ s : Nat, s = x + y := ⟨_, rfl⟩
  have e4 : (x : Int) + (y : Int) = (s : Int) := by omega
  rw [← hs] at h1 ⊢
  clear hs
  have Hc := Lib.hid (fun w => cutB_any s z w h1 h2 h0)
  clear h0
  have hA := (At.newGb w (a : Int) (b : Int) 29 rfl).past (.cells #[.int .i64 (c : Int), .int .i64 (d : Int)] 29)
  have hC := At.newGb (w.alloc (.cells #[.int .i64 (a : Int), .int .i64 (b : Int)] 29)) (c : Int) (d : Int) 29 (size_alloc _ _).symm
  have hB := na (na (n0 w) (.cells #[.int .i64 (a : Int), .int .i64 (b : Int)] 29)) (.cells #[.int .i64 (c : Int), .int .i64 (d : Int)] 29)
  have hR := At.newGb ((w.alloc (.cells #[.int .i64 (a : Int), .int .i64 (b : Int)] 29)).alloc (.cells #[.int .i64 (c : Int), .int .i64 (d : Int)] 29)) 0 0 29 (p := w.heap.size + 1 + 1) (by rw [size_alloc, size_alloc])
  have hA := hA.past (.cells #[.int .i64 0, .int .i64 0] 29)
  have hC := hC.past (.cells #[.int .i64 0, .int .i64 0] 29)
  have hB := na hB (.cells #[.int .i64 0, .int .i64 0] 29)
  go_enter Try.func77, Try.ntmps77
  go_wp2_with fail
  generalize (((w.alloc (.cells #[.int .i64 (a : Int), .int .i64 (b : Int)] 29)).alloc (.cells #[.int .i64 (c : Int), .int .i64 (d : Int)] 29)).alloc (.cells #[.int .i64 0, .int .i64 0] 29)) = W at *
  have q0 := hA.cell 0 (by omega)
  have q1 := hA.cell 1 (by omega)
  have q2 := hC.cell 0 (by omega)
  have q3 := hC.cell 1 (by omega)
  rw [show fr (a : Int) (b : Int) 0 = a from rfl] at q0
  rw [show fr (a : Int) (b : Int) 1 = b from rfl] at q1
  rw [show fr (c : Int) (d : Int) 0 = c from rfl] at q2
  rw [show fr (c : Int) (d : Int) 1 = d from rfl] at q3
  go_wp2_with fail
  refine (Hc.out _).mono ?_
  rintro e w7 ⟨rfl, hb7⟩
  have hB7 := nx hB hb7
  have hR7 := hR.up hb7
  have c0 := hR7.cell 0 (by omega)
  have c1 := hR7.cell 1 (by omega)
  have z0 := hR7.free 0
  have z1 := hR7.free 1
  go_wp2_with fail
  refine ret_cell (b := w.heap.size + 1 + 1) (n := 2) (f := fr ((s : Int) / (Nat.gcd s z : Nat)) ((z : Int) / (Nat.gcd s z : Nat))) Try.results77 rfl Try.underlying29 (by kernel_rfl) (fin2' hR7 _ _) rfl ⟨rfl, ?_⟩
  exact (hB7.setCell (p := ⟨w.heap.size + 1 + 1, 0, none⟩) (by show _ ≤ w.heap.size + 1 + 1; omega) _).setCell (p := ⟨w.heap.size + 1 + 1, 1, none⟩) (by show _ ≤ w.heap.size + 1 + 1; omega) _

set_option maxHeartbeats 2000000 in
theorem times_any (a b c d : Nat) (w : World) (h1 : a * c ≤ 1000000000000000000) (h2 : b * d ≤ 1000000000000000000) (h0 : 1 ≤ b * d) :
    Calls Try.prog 96 #[v2 (a : Int) (b : Int), v2 (c : Int) (d : Int)] w fun e w' => e = .returned (cutV (a * c) (b * d)) ∧ Below w.heap.size w w' := by
  unfold cutV
  have e1 : (a : Int) * (c : Int) = ((a * c : Nat) : Int) := by push_cast; rfl
  have e3 : (b : Int) * (d : Int) = ((b * d : Nat) : Int) := by push_cast; rfl
  generalize a * c = s at *
  generalize b * d = z at *
  have Hc := Lib.hid (fun w => cutB_any s z w h1 h2 h0)
  clear h0
  have hA := (At.newGb w (a : Int) (b : Int) 29 rfl).past (.cells #[.int .i64 (c : Int), .int .i64 (d : Int)] 29)
  have hC := At.newGb (w.alloc (.cells #[.int .i64 (a : Int), .int .i64 (b : Int)] 29)) (c : Int) (d : Int) 29 (size_alloc _ _).symm
  have hB := na (na (n0 w) (.cells #[.int .i64 (a : Int), .int .i64 (b : Int)] 29)) (.cells #[.int .i64 (c : Int), .int .i64 (d : Int)] 29)
  have hR := At.newGb ((w.alloc (.cells #[.int .i64 (a : Int), .int .i64 (b : Int)] 29)).alloc (.cells #[.int .i64 (c : Int), .int .i64 (d : Int)] 29)) 0 0 29 (p := w.heap.size + 1 + 1) (by rw [size_alloc, size_alloc])
  have hA := hA.past (.cells #[.int .i64 0, .int .i64 0] 29)
  have hC := hC.past (.cells #[.int .i64 0, .int .i64 0] 29)
  have hB := na hB (.cells #[.int .i64 0, .int .i64 0] 29)
  go_enter Try.func96, Try.ntmps96
  go_wp2_with fail
  generalize (((w.alloc (.cells #[.int .i64 (a : Int), .int .i64 (b : Int)] 29)).alloc (.cells #[.int .i64 (c : Int), .int .i64 (d : Int)] 29)).alloc (.cells #[.int .i64 0, .int .i64 0] 29)) = W at *
  have q0 := hA.cell 0 (by omega)
  have q1 := hA.cell 1 (by omega)
  have q2 := hC.cell 0 (by omega)
  have q3 := hC.cell 1 (by omega)
  rw [show fr (a : Int) (b : Int) 0 = a from rfl] at q0
  rw [show fr (a : Int) (b : Int) 1 = b from rfl] at q1
  rw [show fr (c : Int) (d : Int) 0 = c from rfl] at q2
  rw [show fr (c : Int) (d : Int) 1 = d from rfl] at q3
  go_wp2_with fail
  refine (Hc.out _).mono ?_
  rintro e w7 ⟨rfl, hb7⟩
  have hB7 := nx hB hb7
  have hR7 := hR.up hb7
  have c0 := hR7.cell 0 (by omega)
  have c1 := hR7.cell 1 (by omega)
  have z0 := hR7.free 0
  have z1 := hR7.free 1
  go_wp2_with fail
  refine ret_cell (b := w.heap.size + 1 + 1) (n := 2) (f := fr ((s : Int) / (Nat.gcd s z : Nat)) ((z : Int) / (Nat.gcd s z : Nat))) Try.results96 rfl Try.underlying29 (by kernel_rfl) (fin2' hR7 _ _) rfl ⟨rfl, ?_⟩
  exact (hB7.setCell (p := ⟨w.heap.size + 1 + 1, 0, none⟩) (by show _ ≤ w.heap.size + 1 + 1; omega) _).setCell (p := ⟨w.heap.size + 1 + 1, 1, none⟩) (by show _ ≤ w.heap.size + 1 + 1; omega) _

end FracB2
end Go.Proofs.Ytdodokeebmdceaa
