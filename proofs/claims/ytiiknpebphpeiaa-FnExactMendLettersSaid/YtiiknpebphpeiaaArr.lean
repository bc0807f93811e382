/-
  An array of integers in a block: its cells, and what stays of them; without any program.
-/
import Derived.Below
import Derived.WalkKit
import Derived.Deep.Draws
import Derived.Laws.NewBlocks
import Derived.Laws.World
import Derived.Laws.IdiomCopy
import Derived.Laws.Cells
import Derived.Laws.Rows
import Derived.Laws.StructEq
import Derived.Laws.ResultCell
import Derived.Lib.EndianMore
import Derived.Test.YtiiknpebphpeiaaDice
namespace Go.Proofs.Ytiiknpebphpeiaa
open Go.RowKit
namespace Arr

/-- Block b holds an array of n integers. -/
structure At (w : World) (b n : Nat) (f : Nat → Int) : Prop where
  lt : b < w.heap.size
  cell : ∀ k, k < n → w.cell? ⟨b, k, none⟩ = some (.int .i64 (f k))
  free : ∀ k, w.frozen? ⟨b, k, none⟩ = false
theorem At.congr {w : World} {b n : Nat} {f g : Nat → Int} (h : At w b n f) (e : ∀ k, k < n → f k = g k) : At w b n g :=
  ⟨h.lt, fun k hk => by rw [← e k hk]; exact h.cell k hk, h.free⟩
theorem At.below {w w' : World} {b n B : Nat} {f : Nat → Int} (h : At w b n f) (hb : b < B) (hw : Below B w w') : At w' b n f :=
  ⟨Nat.lt_of_lt_of_le h.lt hw.size, fun k hk => (hw.cell (p := ⟨b, k, none⟩) hb).trans (h.cell k hk), fun k => (hw.frozen (p := ⟨b, k, none⟩) hb).trans (h.free k)⟩
theorem At.up {w w' : World} {b n : Nat} {f : Nat → Int} (h : At w b n f) (hw : Below w.heap.size w w') : At w' b n f := h.below h.lt hw
/-- One cell written. -/
def put (f : Nat → Int) (i : Nat) (v : Int) : Nat → Int := fun k => if k = i then v else f k
theorem put_same (f : Nat → Int) (i : Nat) (v : Int) : put f i v i = v := by simp [put]
theorem put_other {f : Nat → Int} {i k : Nat} (v : Int) (h : k ≠ i) : put f i v k = f k := by simp [put, h]
theorem At.set {w : World} {b n : Nat} {f : Nat → Int} (h : At w b n f) {i : Nat} (hi : i < n) (v : Int) : At (w.setCell ⟨b, i, none⟩ (.int .i64 v)) b n (put f i v) := by
  have hs : (w.setCell ⟨b, i, none⟩ (.int .i64 v)).heap.size = w.heap.size := by simp [World.setCell]
  refine ⟨by rw [hs]; exact h.lt, fun k hk => ?_, fun k => ?_⟩
  · by_cases hki : k = i
    · subst hki
      rw [put_same]
      exact World.cell?_setCell_same w _ _ (h.cell k hk)
    · rw [put_other v hki, World.cell?_setCell_other w ⟨b, i, none⟩ ⟨b, k, none⟩ _ (fun e => hki (by cases e; rfl))]
      exact h.cell k hk
  · rw [World.frozen?_setCell]
    exact h.free k
theorem At.other {w : World} {b n p : Nat} {f : Nat → Int} (h : At w b n f) (hp : b ≠ p) (i : Nat) (v : Value) : At (w.setCell ⟨p, i, none⟩ v) b n f := by
  have hs : (w.setCell ⟨p, i, none⟩ v).heap.size = w.heap.size := by simp [World.setCell]
  refine ⟨by rw [hs]; exact h.lt, fun k hk => ?_, fun k => ?_⟩
  · rw [World.cell?_setCell_other w ⟨p, i, none⟩ ⟨b, k, none⟩ _ (fun e => hp (by cases e; rfl))]
    exact h.cell k hk
  · rw [World.frozen?_setCell]
    exact h.free k
theorem At.drew {w : World} {b n : Nat} {f : Nat → Int} (h : At w b n f) : At w.drew b n f := ⟨h.lt, fun k hk => h.cell k hk, fun k => h.free k⟩
theorem At.drewN {w : World} {b n : Nat} {f : Nat → Int} (h : At w b n f) (q : Nat) : At (w.drewN q) b n f := ⟨h.lt, fun k hk => h.cell k hk, fun k => h.free k⟩
theorem At.new (w : World) (xs : Array Value) (t : TypeId) (n : Nat) (f : Nat → Int) (h : ∀ k, k < n → xs[k]? = some (.int .i64 (f k))) : At (w.alloc (.cells xs t)) w.heap.size n f := by
  refine ⟨by show w.heap.size < (w.heap.push _).size; simp, fun k hk => ?_, fun k => ?_⟩
  · rw [World.cell?_alloc_at _ _ _ _ rfl]
    exact h k hk
  · rw [World.frozen?_alloc_at _ _ _ _ rfl]

/-- The values of an array, and whole loads and stores. -/
def vals (n : Nat) (f : Nat → Int) : List Value := (List.range n).map fun k => .int .i64 (f k)
theorem vals_len (n : Nat) (f : Nat → Int) : (vals n f).length = n := by simp [vals]
theorem vals_congr {n : Nat} {f g : Nat → Int} (h : ∀ k, k < n → f k = g k) : vals n f = vals n g := by
  unfold vals
  refine List.map_congr_left fun k hk => ?_
  rw [h k (by simpa using hk)]
theorem vals_get {n : Nat} {f : Nat → Int} {k : Nat} (h : k < n) : (vals n f)[k]? = some (.int .i64 (f k)) := by simp [vals, h]
theorem vals_one (n : Nat) (f : Nat → Int) : ∀ v ∈ vals n f, v.oneCell' = true := by
  intro v hv
  obtain ⟨k, _, rfl⟩ := List.mem_map.1 hv
  rfl
theorem addr_add (b j : Nat) : (⟨b, 0, none⟩ : Addr).add j = ⟨b, j, none⟩ := by unfold Addr.add; split <;> simp_all
theorem At.load {P : Program} {w : World} {b n : Nat} {f : Nat → Int} (h : At w b n f) : (loadCellsFrom ⟨b, 0, none⟩ 0 n #[]).run P w = .ok (vals n f).toArray w :=
  run_loadCells (P := P) w ⟨b, 0, none⟩ n (fun k => .int .i64 (f k)) (fun j hj => by rw [addr_add]; exact h.cell j hj)
theorem At.loadVar {P : Program} {w : World} {b n : Nat} {f : Nat → Int} (h : At w b n f) {t e : TypeId} (hu : P.underlying t = some (.array n e)) (hi : (P.info? t).map (·.size) = some n) :
    (loadVar t ⟨b, 0, none⟩).run P w = .ok (.agg (vals n f).toArray) w := by
  have hl : (loadCells ⟨b, 0, none⟩ n).run P w = .ok (vals n f).toArray w := h.load
  cases hq : P.info? t with
  | none => simp [hq] at hi
  | some i =>
    have hs : i.size = n := by simpa [hq] using hi
    have hagg : (isAgg t).run P w = .ok true w := by
      unfold isAgg
      rw [Sem.run_bind, run_underlying hu w]
      simp_all
    simp [Go.loadVar, Sem.run_bind, hagg, sizeOf, typeInfo, hq, hs, hl]
theorem At.store {P : Program} {w : World} {b n : Nat} {f : Nat → Int} (h : At w b n f) (g : Nat → Int) : (storeCells ⟨b, 0, none⟩ (vals n g) 0).run P w = .ok () (w.setCells b 0 (vals n g)) := by
  have := run_storeCells_cells (P := P) b 0 (vals n g) 0 w (fun j hj => by rw [vals_len] at hj; rw [show 0 + 0 + j = j by omega, h.cell j hj]; rfl)
    (fun j _ => h.free _) (vals_one n g)
  simpa using this
theorem At.stored {w : World} {b n : Nat} {f : Nat → Int} (h : At w b n f) (g : Nat → Int) : At (w.setCells b 0 (vals n g)) b n g := by
  refine ⟨Nat.lt_of_lt_of_le h.lt (Lib.below_setCells_w (B := 0) (Nat.zero_le b) _ _ _).size, fun k hk => ?_, fun k => by rw [World.frozen?_setCells]; exact h.free k⟩
  have := World.cell?_setCells_in b (vals n g) 0 w (fun j hj => by rw [vals_len] at hj; rw [Nat.zero_add, h.cell j hj]; rfl) k (by rw [vals_len]; exact hk)
  rw [Nat.zero_add] at this
  rw [this]
  have h2 := vals_get (f := g) hk
  rw [List.getElem?_eq_getElem (by rw [vals_len]; exact hk)] at h2
  exact h2
theorem At.keep {w : World} {b n p : Nat} {f : Nat → Int} (h : At w b n f) (hp : b ≠ p) (vs : List Value) (o : Nat) : At (w.setCells p o vs) b n f :=
  ⟨Nat.lt_of_lt_of_le h.lt (Lib.below_setCells_w (B := 0) (Nat.zero_le p) _ _ _).size, fun k hk => by
    rw [World.cell?_setCells_out p vs o w ⟨b, k, none⟩ (fun e _ => absurd e hp)]; exact h.cell k hk, fun k => by rw [World.frozen?_setCells]; exact h.free k⟩
theorem setCells_below {w : World} {p B : Nat} (hB : B ≤ p) (vs : List Value) (o : Nat) : Below B w (w.setCells p o vs) := Lib.below_setCells_w hB _ _ _

/-- The six cells of a die, one by one. -/
theorem At.six {w : World} {b : Nat} {f : Nat → Int} (h : At w b 6 f) : w.cell? ⟨b, 0, none⟩ = some (.int .i64 (f 0)) ∧ w.cell? ⟨b, 1, none⟩ = some (.int .i64 (f 1)) ∧ w.cell? ⟨b, 2, none⟩ = some (.int .i64 (f 2)) ∧
    w.cell? ⟨b, 3, none⟩ = some (.int .i64 (f 3)) ∧ w.cell? ⟨b, 4, none⟩ = some (.int .i64 (f 4)) ∧ w.cell? ⟨b, 5, none⟩ = some (.int .i64 (f 5)) :=
  ⟨h.cell 0 (by omega), h.cell 1 (by omega), h.cell 2 (by omega), h.cell 3 (by omega), h.cell 4 (by omega), h.cell 5 (by omega)⟩
theorem At.free6 {w : World} {b : Nat} {f : Nat → Int} (h : At w b 6 f) : w.frozen? ⟨b, 0, none⟩ = false ∧ w.frozen? ⟨b, 1, none⟩ = false ∧ w.frozen? ⟨b, 2, none⟩ = false ∧
    w.frozen? ⟨b, 3, none⟩ = false ∧ w.frozen? ⟨b, 4, none⟩ = false ∧ w.frozen? ⟨b, 5, none⟩ = false :=
  ⟨h.free 0, h.free 1, h.free 2, h.free 3, h.free 4, h.free 5⟩
theorem size_alloc (w : World) (o : Obj) : (w.alloc o).heap.size = w.heap.size + 1 := by
  show (w.heap.push o).size = _
  simp
theorem nx {w a b : World} (h : Below w.heap.size w a) (k : Below a.heap.size a b) : Below w.heap.size w b := h.trans (k.mono h.size)
theorem na {w a : World} (h : Below w.heap.size w a) (o : Obj) : Below w.heap.size w (a.alloc o) := h.alloc h.size o
theorem n0 (w : World) : Below w.heap.size w w := Below.refl _ w
/-- Six numbers as the cells of a new block. -/
abbrev sixO (d : Nat → Int) (t : TypeId) : Obj := .cells #[.int .i64 (d 0), .int .i64 (d 1), .int .i64 (d 2), .int .i64 (d 3), .int .i64 (d 4), .int .i64 (d 5)] t
theorem At.new6 (w : World) (d : Nat → Int) (t : TypeId) {b : Nat} (hb : b = w.heap.size) : At (w.alloc (sixO d t)) b 6 d := by
  subst hb
  exact At.new w _ t 6 d fun k hk => by
    obtain rfl | rfl | rfl | rfl | rfl | rfl : k = 0 ∨ k = 1 ∨ k = 2 ∨ k = 3 ∨ k = 4 ∨ k = 5 := by omega
    all_goals rfl
theorem At.past {w : World} {b n : Nat} {f : Nat → Int} (h : At w b n f) (o : Obj) : At (w.alloc o) b n f := h.up ((Below.refl _ _).alloc (Nat.le_refl _) o)
/-- A result that is an array in a block, alone or with others in slots. -/
theorem ret_cell {P : Program} {fn : Func} {R : Ending → World → Prop} {a : Act} {w : World} {p : Tmp} {ty e : TypeId} {b n : Nat} {f : Nat → Int} (h : fn.results = #[.cell p ty]) (hp : a.tmps.getD p undef = .pointer (some ⟨b, 0, none⟩))
    (hu : P.underlying ty = some (.array n e)) (hi : (P.info? ty).map (·.size) = some n) (hA : At w b n f) (hd : a.defers = []) (hR : R (.returned (.agg (vals n f).toArray)) w) : bodyPost P fn R .ret a w := by
  refine bodyPost_ret (v := .agg (vals n f).toArray) ?_ hd hR
  have hp' : a.tmps[p]?.getD undef = .pointer (some ⟨b, 0, none⟩) := by simpa using hp
  simp only [results, h]
  simp [hp', asAddr, hA.loadVar hu hi]
theorem ret_cell_tmp {P : Program} {fn : Func} {R : Ending → World → Prop} {a : Act} {w : World} {p u : Tmp} {ty e : TypeId} {b n : Nat} {f : Nat → Int} {x : Value} (h : fn.results = #[.cell p ty, .tmp u]) (hp : a.tmps.getD p undef = .pointer (some ⟨b, 0, none⟩)) (hx : a.tmps.getD u undef = x)
    (hu : P.underlying ty = some (.array n e)) (hi : (P.info? ty).map (·.size) = some n) (hA : At w b n f) (hd : a.defers = []) (hR : R (.returned (.tuple #[.agg (vals n f).toArray, x])) w) : bodyPost P fn R .ret a w := by
  refine bodyPost_ret (v := .tuple #[.agg (vals n f).toArray, x]) ?_ hd hR
  rw [results_cell_tmp h, hp, hx]
  simp [Result.andThen, asAddr, hA.loadVar hu hi]

/-- Two arrays of integers compared. -/
theorem all_agree (n : Nat) (f g : Nat → Int) : ((List.range' 0 n 1).all fun i => f i == g i) = decide (Dice.agree f g n) := by
  rw [Bool.eq_iff_iff, decide_eq_true_eq, List.all_eq_true]
  constructor
  · intro h k hk
    simpa using h k (by rw [List.mem_range'_1]; omega)
  · intro h k hk
    have := (List.mem_range'_1.1 hk).2
    simpa using h k (by omega)
theorem run_equalIn_vals {P : Program} (w : World) (d : Nat) (t e : TypeId) (n : Nat) (ht : P.underlying t = some (.array n e)) (he : P.underlying e = some (.int .i64)) (hsz : ∀ w, (sizeOf e).run P w = .ok 1 w) (f g : Nat → Int) :
    (Op.equalIn (d + 2) t (.agg (vals n f).toArray) (.agg (vals n g).toArray)).run P w = .ok (decide (Dice.agree f g n)) w := by
  rw [← all_agree, Op.equalIn]
  simp only [Sem.run_bind, run_underlying ht, Result.andThen_ok, hsz, Std.Legacy.Range.forIn_eq_forIn_range', Std.Legacy.Range.size, Nat.sub_zero, Nat.add_sub_cancel, Nat.div_one]
  have hl : ∀ i ∈ List.range' 0 n 1, i < n := fun i hi => by simpa using (List.mem_range'_1.1 hi).2
  generalize List.range' 0 n 1 = l at hl ⊢
  induction l with
  | nil => simp
  | cons i l ih =>
    have hi : i < n := hl i (by simp)
    have px : (part e (vals n f).toArray (i * 1)).run P w = .ok (.int .i64 (f i)) w := by
      simp [part, isAgg, run_underlying he, vals_get hi]
    have py : (part e (vals n g).toArray (i * 1)).run P w = .ok (.int .i64 (g i)) w := by
      simp [part, isAgg, run_underlying he, vals_get hi]
    have pe : (Op.equalIn (d + 1) e (.int .i64 (f i)) (.int .i64 (g i))).run P w = .ok (f i == g i) w := run_equalIn_int w d e .i64 .i64 _ _ he
    simp only [List.forIn_cons, Sem.run_bind, px, py, pe, Result.andThen_ok, List.all_cons]
    cases hb : (f i == g i)
    · simp
    · simp only [Bool.not_true, Bool.false_eq_true, if_false, Sem.run_pure, Result.andThen_ok, Bool.true_and]
      exact ih fun j hj => hl j (by simp [hj])
theorem run_eql_vals {P : Program} (w : World) (t e : TypeId) (n : Nat) (ht : P.underlying t = some (.array n e)) (he : P.underlying e = some (.int .i64)) (hsz : ∀ w, (sizeOf e).run P w = .ok 1 w) (f g : Nat → Int) :
    (binOp .eql t (.agg (vals n f).toArray) (.agg (vals n g).toArray)).run P w = .ok (.bool (decide (Dice.agree f g n))) w := by
  rw [run_eql_struct, run_equalIn_vals w 9998 t e n ht he hsz f g]
  rfl

theorem put_fill {f g : Nat → Int} {k : Nat} (he : ∀ j, j < k → f j = g j) : ∀ j, j < k + 1 → put f k (g k) j = g j := by
  intro j hj
  by_cases hjk : j = k
  · subst hjk
    exact put_same _ _ _
  · rw [put_other _ hjk]
    exact he j (by omega)
/-- One element of an array by value. -/
theorem run_index_vals {P : Program} (w : World) (t e : TypeId) (n : Nat) (ht : P.underlying t = some (.array n e)) (he : P.underlying e = some (.int .i64)) (hsz : ∀ w, (sizeOf e).run P w = .ok 1 w) (f : Nat → Int) {k : Nat} (hk : k < n) :
    (Instr.index t (.agg (vals n f).toArray) (.int .i64 k)).run P w = .ok (.int .i64 (f k)) w := by
  simp [Instr.index, run_underlying ht, asIntOf, hk, hsz, part, isAgg, run_underlying he, vals_get hk, Result.andThen]

end Arr
end Go.Proofs.Ytiiknpebphpeiaa
