/-
  The map of what has been compared: what it holds, and its reading and writing.
-/
import Derived.Test.YtagieilahejobaaRows
import Derived.Test.YtagieilahejobaaDuel
import Derived.Test.YtagieilahejobaaDieW
import Derived.Test.YtagieilahejobaaSortW
import Derived.Test.YtagieilahejobaaOpenD
import Derived.WalkKit
import Derived.Maps.Own
import Derived.Maps.OwnOps
import Derived.DeepKeys4
import Derived.WalkLawsBesides
import Derived.WalkSpells
import Derived.ProofKit
import Derived.OpenShut
import Derived.Deep.RegionWith
import Derived.Deep.QuietTactic
import Derived.BigQuiet
namespace Go.Proofs.Ytagieilahejobaa
open Go.ChangeShapes Go.WideShapes Go.ChangeAt Go.RowKit
open Go.ChangeMaps (open_string shut_string)

namespace Know
open Dice Arr OpenD DieW SortW Duel


theorem under2 : Try.prog.underlying 77 = some (.array 2 22) := by kernel_rfl
theorem wide2 : (match Try.prog.underlying 77 with | some (.array _ _) | some (.struct _) => true | _ => false) = true := by rw [under2]
theorem row2 : (77 : TypeId) < Try.prog.types.size := of_decide_eq_true (by kernel_rfl)
theorem two_types : (1 : Nat) < Try.prog.types.size := of_decide_eq_true (by kernel_rfl)
theorem laidOut' : laidOutB Try.prog = true := by kernel_rfl
set_option maxRecDepth 100000 in
theorem keyed : Maps.Keyed Try.prog 77 := Maps.Keyed.of_law (deep_law_laid laidOut' (m := 3) (by omega) row2 (by kernel_rfl) wide2)
theorem cells2 : Try.prog.cellsOf 77 = 12 := by kernel_rfl
theorem underMap : Try.prog.underlying 61 = some (.map 77 23) := by kernel_rfl
theorem zero3 (w : World) : (zeroValue 23).run Try.prog w = .ok (tri fun _ => 0) w := by kernel_rfl

/-- Two dice as a key. -/
def kv (x y : Nat → Int) : Value := .agg #[.int .i64 (x 0), .int .i64 (x 1), .int .i64 (x 2), .int .i64 (x 3), .int .i64 (x 4), .int .i64 (x 5), .int .i64 (y 0), .int .i64 (y 1), .int .i64 (y 2), .int .i64 (y 3), .int .i64 (y 4), .int .i64 (y 5)]
theorem kv_inj {x y x' y' : Nat → Int} (h : kv x y = kv x' y') : (∀ k, k < 6 → x k = x' k) ∧ ∀ k, k < 6 → y k = y' k := by
  unfold kv at h
  simp only [Value.agg.injEq, Array.mk.injEq, List.cons.injEq, Value.int.injEq, true_and, and_true] at h
  obtain ⟨h0, h1, h2, h3, h4, h5, g0, g1, g2, g3, g4, g5⟩ := h
  refine ⟨fun k hk => ?_, fun k hk => ?_⟩
  all_goals
    obtain rfl | rfl | rfl | rfl | rfl | rfl : k = 0 ∨ k = 1 ∨ k = 2 ∨ k = 3 ∨ k = 4 ∨ k = 5 := by omega
    all_goals assumption
/-- Six numbers of 64 bits. -/
def fits6 (x : Nat → Int) : Prop := ∀ k, k < 6 → fit (x k)
theorem fits_die {x : Nat → Int} (h : isDie x = true) : fits6 x := fun k hk => by
  have := (of_decide_eq_true h : upto x 6) k hk
  unfold fit
  omega
theorem wf_fit {a : Int} (h : fit a) : (Lit.int .i64 a).wf = true := by
  unfold fit at h
  simp [Lit.wf, IntKind.min, IntKind.max, IntKind.bits, IntKind.signed]
  omega
theorem lits_int (D : Nat) {a : Int} (h : fit a) : Try.prog.keyLits (D + 1) 3 [.int .i64 a] = some [.int .i64 a] := by
  unfold Program.keyLits
  simp [Try.underlying3, wf_fit h]
theorem lits_six (D : Nat) {x : Nat → Int} (h : fits6 x) : Try.prog.keyLits (D + 2) 22 [.int .i64 (x 0), .int .i64 (x 1), .int .i64 (x 2), .int .i64 (x 3), .int .i64 (x 4), .int .i64 (x 5)] = some [.int .i64 (x 0), .int .i64 (x 1), .int .i64 (x 2), .int .i64 (x 3), .int .i64 (x 4), .int .i64 (x 5)] := by
  unfold Program.keyLits
  simp [Try.underlying22, cellsInt, cellsDie, List.range_succ, lits_int D (h 0 (by omega)), lits_int D (h 1 (by omega)), lits_int D (h 2 (by omega)), lits_int D (h 3 (by omega)), lits_int D (h 4 (by omega)), lits_int D (h 5 (by omega))]
theorem key_of {x y : Nat → Int} (hx : fits6 x) (hy : fits6 y) : ∃ kl, keyOf Try.prog 77 (kv x y) = some kl := by
  have h1 : Try.prog.keyType 77 = true := by kernel_rfl
  have h2 : (kv x y).formed Try.prog 77 = true := by simp [kv, Value.formed, cells2]
  obtain ⟨D, hD⟩ : ∃ D, Try.prog.types.size = D + 2 := ⟨Try.prog.types.size - 2, by have := two_types; omega⟩
  unfold keyOf
  rw [under2, hD]
  simp only [h1, h2, Bool.and_self, if_true]
  unfold Program.keyLits
  simp [cells2, cellsDie, kv, Value.cells, List.range_succ, lits_six D hx, lits_six D hy]

/-- How an element reads: it does not matter here. -/
def R1 : Value → Option (DataW Unit × List MemPlace) := fun _ => some (.nil, [])
/-- Block m is a map of at most n entries, each of which tells the ways of its two dice. -/
def Known (w : World) (m n : Nat) : Prop := ∃ es clock, w.heap[m]? = some (.map es clock) ∧ WideElems.Fit Try.prog 77 R1 es clock ∧ es.size ≤ n ∧ ∀ e ∈ es.toList, ∃ x y, e.key = kv x y ∧ e.val = tri (cw x y 36)
theorem Known.mono {w : World} {m n n' : Nat} (h : Known w m n) (hn : n ≤ n') : Known w m n' := by
  obtain ⟨es, c, hb, F, hs, he⟩ := h
  exact ⟨es, c, hb, F, Nat.le_trans hs hn, he⟩
theorem Known.lt {w : World} {m n : Nat} (h : Known w m n) : m < w.heap.size := by
  obtain ⟨es, c, hb, _⟩ := h
  exact (Array.getElem?_eq_some_iff.1 hb).1
theorem Known.made (w : World) : Known (w.alloc (.map #[] 0)) w.heap.size 0 :=
  ⟨#[], 0, (MapKept.heap_alloc w _).1, ⟨by simp, MapKept.stamped_empty 0, by simp⟩, Nat.le_refl _, by simp⟩
theorem Known.same {w w' : World} {m n : Nat} (h : Known w m n) (hb : w'.heap[m]? = w.heap[m]?) : Known w' m n := by
  obtain ⟨es, c, hb', F, hs, he⟩ := h
  exact ⟨es, c, hb.trans hb', F, hs, he⟩
theorem Known.up {w w' : World} {m n : Nat} (h : Known w m n) (hb : Below w.heap.size w w') : Known w' m n := h.same (hb.block m h.lt)
theorem Known.drew {w : World} {m n : Nat} (h : Known w m n) : Known w.drew m n := h
theorem Known.drewN {w : World} {m n : Nat} (h : Known w m n) (q : Nat) : Known (w.drewN q) m n := h
theorem Known.look {w : World} {m n : Nat} (h : Known w m n) {x y : Nat → Int} (hx : fits6 x) (hy : fits6 y) :
    (Instr.lookup 61 (.map (some m)) (kv x y) true).run Try.prog w = .ok (.tuple #[tri fun _ => 0, .bool false]) w ∨
    (Instr.lookup 61 (.map (some m)) (kv x y) true).run Try.prog w = .ok (.tuple #[tri (cw x y 36), .bool true]) w := by
  obtain ⟨es, c, hb, F, hs, he⟩ := h
  obtain ⟨kl, hkl⟩ := key_of hx hy
  rcases Maps.fit_look true keyed underMap (zero3 w) hb F hkl with ⟨hrun, _, _⟩ | ⟨e0, z, hm, hk0, hrun, _⟩
  · exact .inl hrun
  · obtain ⟨x', y', hk', hv'⟩ := he e0 hm
    obtain ⟨ex, ey⟩ := kv_inj (hk0.symm.trans hk')
    right
    rw [hv'] at hrun
    rw [hrun, cw_congr ex ey 36 (Nat.le_refl _)]
    rfl
theorem Known.store {w : World} {m n : Nat} (h : Known w m n) (hn : n < maxLen) {x y : Nat → Int} (hx : fits6 x) (hy : fits6 y) {f : Nat → Int} (hf : ∀ j, j < 3 → f j = cw x y 36 j) :
    ∃ w', (Instr.mapUpdate 61 (.map (some m)) (kv x y) (tri f)).run Try.prog w = .ok () w' ∧ Known w' m (n + 1) ∧ w.grownBy w' (some m) := by
  rw [tri_congr hf]
  obtain ⟨es, c, hb, F, hs, he⟩ := h
  obtain ⟨kl, hkl⟩ := key_of hx hy
  obtain ⟨es', c', hrun, F', hput, _, _, hmem⟩ := Maps.fit_store (R' := R1) (val := tri (cw x y 36)) (yv := (.nil, [])) keyed underMap hb F (Nat.lt_of_le_of_lt hs hn) (fun _ _ _ _ hz => hz) hkl rfl
  refine ⟨_, hrun, ⟨es', c', ChangeMaps.heap_setBlock_same hb _, F', ?_, fun e hm => ?_⟩, ⟨rfl, rfl, rfl, by simp [ChangeMaps.setBlock], fun i _ hi => ChangeMaps.heap_setBlock_other hb _ (fun e => hi (by rw [e]))⟩⟩
  · have e1 : es'.size = ((es'.toList.map (WideElems.rg Try.prog 77 R1)).foldr DataW.insert []).length := by rw [length_sorted]; simp
    rw [e1, hput]
    unfold ChangeMaps.putKey
    rw [length_insert]
    have e2 := List.length_filter_le (ChangeMaps.notKey kl) ((es.toList.map (WideElems.rg Try.prog 77 R1)).foldr DataW.insert [])
    rw [length_sorted] at e2
    simp at e2
    omega
  · rcases hmem e hm with ⟨h1, _⟩ | ⟨h1, h2⟩
    · exact he e h1
    · exact ⟨x, y, h1, h2⟩

/-- A look-up and a store, where the run is told. -/
theorem wp_look {P : Program} (w : World) {ops : Array Oper} {rest : List Oper} {o : Oper} {a : Act} {Q : Exit → Act → World → Prop} (hg : o.guard = none) (m x : Operand) (t : TypeId) (c : Bool) (hop : o.op = Op.lookup t m x c)
    {mv key v : Value} (hm : a.eval m = mv) (hx : a.eval x = key) (hrun : (Instr.lookup t mv key c).run P w = .ok v w) (hK : wpList P ops Q rest (a.put o.dst v) w) : wpList P ops Q (o :: rest) a w := by
  refine wpList_plain hg fun K' hK' => ?_
  unfold Oper.wp
  simp [execOp, hop, hm, hx, hrun, Result.andThen]
  exact hK' _ _ hK
theorem wp_store {P : Program} (w : World) {ops : Array Oper} {rest : List Oper} {o : Oper} {a : Act} {Q : Exit → Act → World → Prop} (hg : o.guard = none) (m x v : Operand) (t : TypeId) (hop : o.op = Op.mapUpdate t m x v)
    {mv key val : Value} (hm : a.eval m = mv) (hx : a.eval x = key) (hv : a.eval v = val) {w' : World} (hrun : (Instr.mapUpdate t mv key val).run P w = .ok () w') (hK : wpList P ops Q rest (a.put o.dst undef) w') : wpList P ops Q (o :: rest) a w := by
  refine wpList_plain hg fun K' hK' => ?_
  unfold Oper.wp
  simp [execOp, hop, hm, hx, hv, hrun, Result.andThen]
  exact hK' _ _ hK


end Know
end Go.Proofs.Ytagieilahejobaa
