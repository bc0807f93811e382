/-
  A pair of dice as twelve cells of one block.
-/
import Derived.Test.YtppaegibhikjnaaRows
import Derived.Test.YtppaegibhikjnaaArr
import Derived.Test.YtppaegibhikjnaaOpenD
import Derived.Test.YtppaegibhikjnaaDicesW
import Derived.WalkKit
import Derived.WalkLawsBesides
import Derived.WalkSpells
import Derived.ProofKit
import Derived.OpenShut
import Derived.ChangeSame
import Derived.Deep.Slices
namespace Go.Proofs.Ytppaegibhikjnaa
open Go.ChangeShapes Go.WideShapes Go.ChangeAt Go.RowKit Go.Deep

namespace PairA
open Dice Arr OpenD DicesW

/-- Twelve numbers: those of one die, then those of another one. -/
def pr (a b : Nat → Int) : Nat → Int := fun k => if k < 6 then a k else b (k - 6)
def pv (a b : Nat → Int) : Value := .agg #[.int .i64 (a 0), .int .i64 (a 1), .int .i64 (a 2), .int .i64 (a 3), .int .i64 (a 4), .int .i64 (a 5), .int .i64 (b 0), .int .i64 (b 1), .int .i64 (b 2), .int .i64 (b 3), .int .i64 (b 4), .int .i64 (b 5)]
abbrev twO (a b : Nat → Int) (t : TypeId) : Obj := .cells #[.int .i64 (a 0), .int .i64 (a 1), .int .i64 (a 2), .int .i64 (a 3), .int .i64 (a 4), .int .i64 (a 5), .int .i64 (b 0), .int .i64 (b 1), .int .i64 (b 2), .int .i64 (b 3), .int .i64 (b 4), .int .i64 (b 5)] t
theorem pr_lo (a b : Nat → Int) {k : Nat} (h : k < 6) : pr a b k = a k := by simp [pr, h]
theorem pr_hi (a b : Nat → Int) (k : Nat) : pr a b (6 + k) = b k := by unfold pr; rw [if_neg (by omega)]; congr 1; omega
theorem At.new12 (w : World) (a b : Nat → Int) (t : TypeId) {p : Nat} (hp : p = w.heap.size) : At (w.alloc (twO a b t)) p 12 (pr a b) := by
  subst hp
  exact At.new w _ t 12 _ fun k hk => by
    obtain rfl | rfl | rfl | rfl | rfl | rfl | rfl | rfl | rfl | rfl | rfl | rfl : k = 0 ∨ k = 1 ∨ k = 2 ∨ k = 3 ∨ k = 4 ∨ k = 5 ∨ k = 6 ∨ k = 7 ∨ k = 8 ∨ k = 9 ∨ k = 10 ∨ k = 11 := by omega
    all_goals rfl
theorem At.twelve {w : World} {p : Nat} {a b : Nat → Int} (h : At w p 12 (pr a b)) : w.cell? ⟨p, 0, none⟩ = some (.int .i64 (a 0)) ∧ w.cell? ⟨p, 1, none⟩ = some (.int .i64 (a 1)) ∧ w.cell? ⟨p, 2, none⟩ = some (.int .i64 (a 2)) ∧ w.cell? ⟨p, 3, none⟩ = some (.int .i64 (a 3)) ∧ w.cell? ⟨p, 4, none⟩ = some (.int .i64 (a 4)) ∧ w.cell? ⟨p, 5, none⟩ = some (.int .i64 (a 5)) ∧ w.cell? ⟨p, 6, none⟩ = some (.int .i64 (b 0)) ∧ w.cell? ⟨p, 7, none⟩ = some (.int .i64 (b 1)) ∧ w.cell? ⟨p, 8, none⟩ = some (.int .i64 (b 2)) ∧ w.cell? ⟨p, 9, none⟩ = some (.int .i64 (b 3)) ∧ w.cell? ⟨p, 10, none⟩ = some (.int .i64 (b 4)) ∧ w.cell? ⟨p, 11, none⟩ = some (.int .i64 (b 5)) :=
  ⟨h.cell 0 (by omega), h.cell 1 (by omega), h.cell 2 (by omega), h.cell 3 (by omega), h.cell 4 (by omega), h.cell 5 (by omega), h.cell 6 (by omega), h.cell 7 (by omega), h.cell 8 (by omega), h.cell 9 (by omega), h.cell 10 (by omega), h.cell 11 (by omega)⟩
theorem At.free12 {w : World} {p : Nat} {f : Nat → Int} (h : At w p 12 f) : w.frozen? ⟨p, 0, none⟩ = false ∧ w.frozen? ⟨p, 1, none⟩ = false ∧ w.frozen? ⟨p, 2, none⟩ = false ∧ w.frozen? ⟨p, 3, none⟩ = false ∧ w.frozen? ⟨p, 4, none⟩ = false ∧ w.frozen? ⟨p, 5, none⟩ = false ∧ w.frozen? ⟨p, 6, none⟩ = false ∧ w.frozen? ⟨p, 7, none⟩ = false ∧ w.frozen? ⟨p, 8, none⟩ = false ∧ w.frozen? ⟨p, 9, none⟩ = false ∧ w.frozen? ⟨p, 10, none⟩ = false ∧ w.frozen? ⟨p, 11, none⟩ = false :=
  ⟨h.free 0, h.free 1, h.free 2, h.free 3, h.free 4, h.free 5, h.free 6, h.free 7, h.free 8, h.free 9, h.free 10, h.free 11⟩
theorem pr_vals (a b : Nat → Int) : vals 12 (pr a b) = [.int .i64 (a 0), .int .i64 (a 1), .int .i64 (a 2), .int .i64 (a 3), .int .i64 (a 4), .int .i64 (a 5), .int .i64 (b 0), .int .i64 (b 1), .int .i64 (b 2), .int .i64 (b 3), .int .i64 (b 4), .int .i64 (b 5)] := rfl
theorem pv_vals (a b : Nat → Int) : pv a b = .agg (vals 12 (pr a b)).toArray := rfl
/-- The same dice as a list of two. -/
def two (a b : Nat → Int) : Nat → Nat → Int := fun i => if i = 0 then a else b
theorem flat_two (a b : Nat → Int) : ∀ k, k < 2 * 6 → pr a b k = flat (two a b) k := by
  intro k hk
  obtain rfl | rfl | rfl | rfl | rfl | rfl | rfl | rfl | rfl | rfl | rfl | rfl : k = 0 ∨ k = 1 ∨ k = 2 ∨ k = 3 ∨ k = 4 ∨ k = 5 ∨ k = 6 ∨ k = 7 ∨ k = 8 ∨ k = 9 ∨ k = 10 ∨ k = 11 := by omega
  all_goals rfl
theorem row_two {w : World} {p : Nat} {a b : Nat → Int} (h : At w p 12 (pr a b)) : Row w (some ⟨p, 0, none⟩) 2 (two a b) :=
  row_of_at (At.congr (n := 2 * 6) h (flat_two a b))

/-- Loads of a struct. -/
theorem At.loadVarS {P : Program} {w : World} {b n : Nat} {f : Nat → Int} (h : At w b n f) {t : TypeId} {fs : Array Field} (hu : P.underlying t = some (.struct fs)) (hi : (P.info? t).map (·.size) = some n) :
    (loadVar t ⟨b, 0, none⟩).run P w = .ok (.agg (vals n f).toArray) w := by
  have hl : (loadCells ⟨b, 0, none⟩ n).run P w = .ok (vals n f).toArray w := h.load
  cases hq : P.info? t with
  | none => simp [hq] at hi
  | some i =>
    have hs : i.size = n := by simpa [hq] using hi
    have hagg : (isAgg t).run P w = .ok true w := by
      unfold isAgg
      rw [Sem.run_bind, run_underlying hu w]
      simp_all
    simp [Go.loadVar, Sem.run_bind, hagg, sizeOf, typeInfo, hq, hs, hl]
theorem ret_cellS {P : Program} {fn : Func} {R : Ending → World → Prop} {a : Act} {w : World} {p : Tmp} {ty : TypeId} {fs : Array Field} {b n : Nat} {f : Nat → Int} (h : fn.results = #[.cell p ty]) (hp : a.tmps.getD p undef = .pointer (some ⟨b, 0, none⟩))
    (hu : P.underlying ty = some (.struct fs)) (hi : (P.info? ty).map (·.size) = some n) (hA : At w b n f) (hd : a.defers = []) (hR : R (.returned (.agg (vals n f).toArray)) w) : bodyPost P fn R .ret a w := by
  refine bodyPost_ret (v := .agg (vals n f).toArray) ?_ hd hR
  have hp' : a.tmps[p]?.getD undef = .pointer (some ⟨b, 0, none⟩) := by simpa using hp
  simp only [results, h]
  simp [hp', asAddr, At.loadVarS hA hu hi]
theorem ret_cell_tmpS {P : Program} {fn : Func} {R : Ending → World → Prop} {a : Act} {w : World} {p u : Tmp} {ty : TypeId} {fs : Array Field} {b n : Nat} {f : Nat → Int} {x : Value} (h : fn.results = #[.cell p ty, .tmp u]) (hp : a.tmps.getD p undef = .pointer (some ⟨b, 0, none⟩)) (hx : a.tmps.getD u undef = x)
    (hu : P.underlying ty = some (.struct fs)) (hi : (P.info? ty).map (·.size) = some n) (hA : At w b n f) (hd : a.defers = []) (hR : R (.returned (.tuple #[.agg (vals n f).toArray, x])) w) : bodyPost P fn R .ret a w := by
  refine bodyPost_ret (v := .tuple #[.agg (vals n f).toArray, x]) ?_ hd hR
  rw [results_cell_tmp h, hp, hx]
  simp [Result.andThen, asAddr, At.loadVarS hA hu hi]

section
variable {H : Type} {enc : TypeId × Value → H} {W : World} {base : Nat} {sp : Nat → Bool} {held : Bool}
end

end PairA
end Go.Proofs.Ytppaegibhikjnaa
