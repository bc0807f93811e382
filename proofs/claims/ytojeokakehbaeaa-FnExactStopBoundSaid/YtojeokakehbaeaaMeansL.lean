/-
  Lists of fractions: compared, marked, held; the means of stops as such a list.
-/
import Derived.Test.YtojeokakehbaeaaRows
import Derived.Test.YtojeokakehbaeaaArr
import Derived.Test.YtojeokakehbaeaaDieW
import Derived.Test.YtojeokakehbaeaaOpenD
import Derived.Test.YtojeokakehbaeaaFracW
import Derived.Test.YtojeokakehbaeaaMarkG
import Derived.Test.YtojeokakehbaeaaFracM
import Derived.Test.YtojeokakehbaeaaStopM
import Derived.Test.YtojeokakehbaeaaOwnL
import Derived.Test.YtojeokakehbaeaaDice
import Derived.Test.YtojeokakehbaeaaOpenD
import Derived.WalkKit
import Derived.OwnWalk
import Derived.WalkLawsBesides
import Derived.WalkSpells
import Derived.ProofKit
import Derived.OpenShut
import Derived.Deep.RegionWith
import Derived.Deep.QuietTactic
import Derived.BigQuiet
namespace Go.Proofs.Ytojeokakehbaeaa
open Go.ChangeShapes Go.WideShapes Go.ChangeAt Go.RowKit
open Go.Deep
open Go.ChangeMaps (open_string shut_string)

namespace MeansL
open Dice Arr OpenD DieW FracW MarkG FracM StopM OwnL

/-- A list of m pairs in memory from block B on. -/
def Pairs (B : Nat) (w : World) (A : Option Addr) (m : Nat) (f : Nat → Int) : Prop := m = 0 ∨ ∃ b, A = some ⟨b, 0, none⟩ ∧ B ≤ b ∧ At w b (m * 2) f
theorem Pairs.up {B : Nat} {w w' : World} {A : Option Addr} {m : Nat} {f : Nat → Int} (h : Pairs B w A m f) (hb : Below w.heap.size w w') : Pairs B w' A m f := by
  rcases h with h | ⟨b, hA, hB, h⟩
  · exact .inl h
  · exact .inr ⟨b, hA, hB, h.up hb⟩
theorem Pairs.mono {B B' : Nat} {w : World} {A : Option Addr} {m : Nat} {f : Nat → Int} (h : Pairs B w A m f) (hB' : B' ≤ B) : Pairs B' w A m f := by
  rcases h with h | ⟨b, hA, hB, h⟩
  · exact .inl h
  · exact .inr ⟨b, hA, by omega, h⟩
theorem Pairs.kept {B g0 : Nat} {w w' : World} {A : Option Addr} {m : Nat} {f : Nat → Int} (h : Pairs B w A m f) (hg : w.grownBy w' (some g0)) (h0 : g0 < B) : Pairs B w' A m f := by
  rcases h with h | ⟨b, hA, hB, h⟩
  · exact .inl h
  · exact .inr ⟨b, hA, hB, At.keptL h hg (by omega)⟩
theorem Pairs.at_ {B : Nat} {w : World} {A : Option Addr} {m : Nat} {f : Nat → Int} (h : Pairs B w A m f) (hm : 0 < m) : ∃ b, A = some ⟨b, 0, none⟩ ∧ B ≤ b ∧ At w b (m * 2) f := by
  rcases h with h | h
  · omega
  · exact h
theorem size2' : (Try.prog.info? 33).map (·.size) = some 2 := by kernel_rfl
theorem load_off2 {w : World} {b o : Nat} {x y : Int} (h0 : w.cell? ⟨b, o, none⟩ = some (.int .i64 x)) (h1 : w.cell? ⟨b, o + 1, none⟩ = some (.int .i64 y)) : (loadVar 33 ⟨b, o, none⟩).run Try.prog w = .ok (v2 x y) w := by
  have hl : (loadCells ⟨b, o, none⟩ 2).run Try.prog w = .ok (vals 2 (fr x y)).toArray w :=
    run_loadCells (P := Try.prog) w ⟨b, o, none⟩ 2 (fun k => .int .i64 (fr x y k)) (fun j hj => by
      rw [add_plain]
      obtain rfl | rfl : j = 0 ∨ j = 1 := by omega
      · exact h0
      · exact h1)
  cases hq : Try.prog.info? 33 with
  | none => have := size2'; simp [hq] at this
  | some i =>
    have hs : i.size = 2 := by have := size2'; simpa [hq] using this
    have hagg : (isAgg 33).run Try.prog w = .ok true w := by
      unfold isAgg
      rw [Sem.run_bind, run_underlying Try.underlying33 w]
      simp_all
    simp [Go.loadVar, Sem.run_bind, hagg, sizeOf, typeInfo, hq, hs, hl]
    rfl
section
variable {C : World → Prop} {K : Act → Prop} {a : Act} {o : Oper}
/-- A pair of a list read, in every world of the class. -/
theorem quiet_ld2 (x : Operand) (ho : o.op = .load 33 x) {b off : Nat} {u v : Int} (hx : a.eval x = .pointer (some ⟨b, off, none⟩)) (hC : ∀ w, C w → w.cell? ⟨b, off, none⟩ = some (.int .i64 u) ∧ w.cell? ⟨b, off + 1, none⟩ = some (.int .i64 v))
    (hk : K (a.put o.dst (v2 u v))) : o.quiet Try.prog a C K :=
  ⟨v2 u v, fun w hw => by
    have hld := load_off2 (hC w hw).1 (hC w hw).2
    unfold Oper.quietAt execOp
    simp only [ho, hx, Instr.loadAt, Instr.sureAddr, Sem.run_bind, Sem.run_pure, Result.andThen_ok, hld]
    exact ⟨rfl, rfl⟩, hk⟩
end
theorem pair_cells {w : World} {b m k : Nat} {f : Nat → Int} (h : At w b (m * 2) f) (hk : k < m) : w.cell? ⟨b, k * 2, none⟩ = some (.int .i64 (f (k * 2))) ∧ w.cell? ⟨b, k * 2 + 1, none⟩ = some (.int .i64 (f (k * 2 + 1))) := ⟨h.cell _ (by omega), h.cell _ (by omega)⟩

set_option maxRecDepth 100000 in
/-- Means of stops as numbers of a list. -/
def face (d : Nat → Int) (j : Nat) : Nat := (d j).toNat
def sf (f : Nat → Nat) (j : Nat) : Int := if j % 2 = 0 then ((num (StopM.ahead f (j / 2 + 1)) (6 ^ (j / 2 + 1)) : Nat) : Int) else ((den (StopM.ahead f (j / 2 + 1)) (6 ^ (j / 2 + 1)) : Nat) : Int)
theorem sf_lo (f : Nat → Nat) (n : Nat) : sf f (n * 2) = ((num (StopM.ahead f (n + 1)) (6 ^ (n + 1)) : Nat) : Int) := by
  unfold sf
  rw [if_pos (by omega), show n * 2 / 2 = n by omega]
theorem sf_hi (f : Nat → Nat) (n : Nat) : sf f (n * 2 + 1) = ((den (StopM.ahead f (n + 1)) (6 ^ (n + 1)) : Nat) : Int) := by
  unfold sf
  rw [if_neg (by omega), show (n * 2 + 1) / 2 = n by omega]
theorem sf_snoc (f : Nat → Nat) (n : Nat) : vals (n * 2) (sf f) ++ [.int .i64 ((num (StopM.ahead f (n + 1)) (6 ^ (n + 1)) : Nat) : Int), .int .i64 ((den (StopM.ahead f (n + 1)) (6 ^ (n + 1)) : Nat) : Int)] = vals ((n + 1) * 2) (sf f) := by
  rw [← sf_lo, ← sf_hi, show (n + 1) * 2 = n * 2 + 1 + 1 by omega, ← vals_snoc (n * 2 + 1), ← vals_snoc (n * 2), List.append_assoc]
  rfl
theorem pairs_own {w : World} {B n : Nat} {v : Value} {f : Nat → Int} (h : w.ownsRow B 33 2 v n (vals (n * 2) f)) : ∃ A c, v = .slice A n c ∧ Pairs B w A n f := by
  rcases h.2 with ⟨rfl, h0⟩ | ⟨g, cap, cur, rfl, hb, hg, hnc, hcm, hcs, htake⟩
  · exact ⟨none, 0, by rw [h0], .inl h0⟩
  · exact ⟨_, cap, rfl, .inr ⟨g, rfl, hb, (Array.getElem?_eq_some_iff.1 hg).1, fun k hk => (h.cellAt k hk).trans (vals_get hk), fun k => h.frozenAt k⟩⟩
theorem info2 : (Try.prog.info? 33).map (fun i => (i.zero, i.size, i.bytes)) = some (some (.agg #[.int .i64 0, .int .i64 0]), 2, 16) := by kernel_rfl
def okM (d : Nat → Int) (n : Int) : Bool := isDie d && decide (1 ≤ n ∧ n ≤ 6)
def lenM (d : Nat → Int) (n : Int) : Nat := if okM d n then n.toNat else 0
theorem lenM_small (d : Nat → Int) (n : Int) : lenM d n ≤ 6 := by
  unfold lenM okM
  split
  · rename_i h
    simp at h
    omega
  · omega
theorem ok_die {d : Nat → Int} {n : Int} (h : isDie d = false) : okM d n = false := by simp [okM, h]
theorem ok_lo {d : Nat → Int} {n : Int} (h : n < 1) : okM d n = false := by simp [okM]; intros; omega
theorem ok_hi {d : Nat → Int} {n : Int} (h : 6 < n) : okM d n = false := by simp [okM]; intros; omega
theorem ok_yes {d : Nat → Int} {n : Int} (h : isDie d = true) (h1 : 1 ≤ n) (h6 : n ≤ 6) : okM d n = true := by simp [okM, h, h1, h6]
theorem face_eq {d : Nat → Int} (h : isDie d = true) {k : Nat} (hk : k < 6) : d k = (face d k : Int) ∧ face d k ≤ 30 := by
  have hu : upto d 6 := of_decide_eq_true h
  have := hu k hk
  unfold face
  omega
/-- Bounds of what is ahead. -/
theorem ahead_small {f : Nat → Nat} (h : ∀ j, j < 6 → f j ≤ 30) {k : Nat} (hk : k ≤ 6) : StopM.ahead f k ≤ 1399680 := Nat.le_trans (ahead_le h k) (Nat.mul_le_mul_left 30 (pow_le hk))
theorem sum_small {f : Nat → Nat} (h : ∀ j, j < 6 → f j ≤ 30) {i k : Nat} (hi : i ≤ 6) (hk : k ≤ 6) : nsum (StopM.part f (StopM.ahead f i) (6 ^ i)) k ≤ 8398080 := by
  have h1 := nsum_le (f := StopM.part f (StopM.ahead f i) (6 ^ i)) (B := 1399680) k (fun j hj => Nat.le_trans (part_le (m := 30) (h j (by omega)) (ahead_le h i)) (Nat.mul_le_mul_left 30 (pow_le hi)))
  have h2 : k * 1399680 ≤ 8398080 := Nat.mul_le_mul_right _ hk
  exact Nat.le_trans h1 h2


end MeansL
end Go.Proofs.Ytojeokakehbaeaa
