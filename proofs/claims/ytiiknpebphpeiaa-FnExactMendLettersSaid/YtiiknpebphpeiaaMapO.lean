/-
  Maps of how often orders come.
-/
import Derived.Test.YtiiknpebphpeiaaRows
import Derived.Test.YtiiknpebphpeiaaArr
import Derived.Test.YtiiknpebphpeiaaDieW
import Derived.Test.YtiiknpebphpeiaaSortW
import Derived.Test.YtiiknpebphpeiaaDicesW
import Derived.Test.YtiiknpebphpeiaaPoolW
import Derived.Test.YtiiknpebphpeiaaAll6
import Derived.Test.YtiiknpebphpeiaaIntsW
import Derived.Test.YtiiknpebphpeiaaRollN
import Derived.Test.YtiiknpebphpeiaaRollS
import Derived.Test.YtiiknpebphpeiaaFour
import Derived.Test.YtiiknpebphpeiaaOrdM
import Derived.Test.YtiiknpebphpeiaaOrdT
import Derived.Test.YtiiknpebphpeiaaOrdK
import Derived.Test.YtiiknpebphpeiaaOpenD
import Derived.Maps.Own
import Derived.Maps.OwnOps
import Derived.Maps.OwnSet
import Derived.WideKeyEntry
import Derived.DeepKeys4
import Derived.WalkKit
import Derived.WalkLawsBesides
import Derived.WalkSpells
import Derived.ProofKit
import Derived.OpenShut
import Derived.Deep.RegionWith
import Derived.Deep.QuietTactic
import Derived.BigQuiet
namespace Go.Proofs.Ytiiknpebphpeiaa
open Go.ChangeShapes Go.WideShapes Go.ChangeAt Go.RowKit
open Go.ChangeMaps (open_string shut_string)

namespace MapO
open Dice Arr OpenD DieW SortW DicesW PoolW All6 IntsW RollW Four OrdM OrdT OrdK


theorem wide4 : (match Try.prog.underlying 26 with | some (.array _ _) | some (.struct _) => true | _ => false) = true := by rw [under]
theorem row4 : (26 : TypeId) < Try.prog.types.size := of_decide_eq_true (by kernel_rfl)
theorem more_types : (2 : Nat) < Try.prog.types.size := of_decide_eq_true (by kernel_rfl)
theorem laidOut' : laidOutB Try.prog = true := by kernel_rfl
set_option maxRecDepth 100000 in
theorem law4 : Go.WideMaps.KeyLaw Try.prog 26 := deep_law_laid laidOut' (m := 3) (by omega) row4 (by kernel_rfl) wide4
theorem keyed : Maps.Keyed Try.prog 26 := Maps.Keyed.of_law law4
theorem cells4 : Try.prog.cellsOf 26 = 4 := by kernel_rfl
theorem cellsA4 : Try.prog.cellsOf 24 = 4 := by kernel_rfl
theorem underM : Try.prog.underlying 70 = some (.map 26 3) := by kernel_rfl
theorem zeroE (w : World) : (zeroValue 3).run Try.prog w = .ok (.int .i64 0) w := by kernel_rfl
def fitQ (q : Q4) : Prop := ∀ j, j < 4 → fit (qa q j)
theorem wf_fit {a : Int} (h : fit a) : (Lit.int .i64 a).wf = true := by
  unfold fit at h
  simp [Lit.wf, IntKind.min, IntKind.max, IntKind.bits, IntKind.signed]
  omega
theorem lits_int (D : Nat) {a : Int} (h : fit a) : Try.prog.keyLits (D + 1) 3 [.int .i64 a] = some [.int .i64 a] := by
  unfold Program.keyLits
  simp [Try.underlying3, wf_fit h]
theorem lits_four (D : Nat) {f : Nat → Int} (h : ∀ j, j < 4 → fit (f j)) : Try.prog.keyLits (D + 2) 24 [.int .i64 (f 0), .int .i64 (f 1), .int .i64 (f 2), .int .i64 (f 3)] = some [.int .i64 (f 0), .int .i64 (f 1), .int .i64 (f 2), .int .i64 (f 3)] := by
  unfold Program.keyLits
  simp [Try.underlying24, cellsInt, cellsA4, List.range_succ, lits_int D (h 0 (by omega)), lits_int D (h 1 (by omega)), lits_int D (h 2 (by omega)), lits_int D (h 3 (by omega))]
theorem fieldsO : (Try.prog.fieldsOf 26).toList.map (fun f => (f.name != "_", f.type, f.offset)) = [(true, 24, 0)] := by kernel_rfl
set_option maxRecDepth 100000 in
theorem key_some {q : Q4} (h : fitQ q) : ∃ kl, keyOf Try.prog 26 (v4 (qa q)) = some kl := by
  have h1 : Try.prog.keyType 26 = true := by kernel_rfl
  have h2 : (v4 (qa q)).formed Try.prog 26 = true := by simp [Value.formed, cells4]
  obtain ⟨D, hD⟩ : ∃ D, Try.prog.types.size = D + 2 := ⟨Try.prog.types.size - 2, by have := more_types; omega⟩
  have hf := fieldsO
  unfold keyOf
  rw [under, hD]
  simp only [h1, h2, Bool.and_self, if_true]
  unfold Program.keyLits
  rw [under]
  generalize Try.prog.fieldsOf 26 = fs at hf
  obtain ⟨l⟩ := fs
  obtain ⟨f0, rfl⟩ : ∃ f0, l = [f0] := by
    have hl : l.length = 1 := by have := congrArg List.length hf; simpa using this
    rcases l with _ | ⟨f0, _ | ⟨f1, t⟩⟩
    · simp at hl
    · exact ⟨f0, rfl⟩
    · simp at hl
  simp only [List.map_cons, List.map_nil, List.cons.injEq, Prod.mk.injEq, and_true] at hf
  obtain ⟨n0, t0, o0⟩ := hf
  have n0 : ¬ f0.name = "_" := by simpa using n0
  simp [n0, t0, o0, cells4, cellsA4, Value.cells, lits_four D h]
theorem v4_inj {p q : Q4} (h : v4 (qa p) = v4 (qa q)) : p = q := by
  simp only [v4, Value.agg.injEq, Array.mk.injEq, List.cons.injEq, Value.int.injEq, true_and, and_true] at h
  obtain ⟨h0, h1, h2, h3⟩ := h
  rw [← q4_qa p, ← q4_qa q]
  unfold q4
  rw [h0, h1, h2, h3]
/-- What an order reads as, as a key. -/
noncomputable def kq (q : Q4) : Lit := (keyOf Try.prog 26 (v4 (qa q))).getD (.bool false)
set_option maxRecDepth 100000 in
theorem key_of {q : Q4} (h : fitQ q) : keyOf Try.prog 26 (v4 (qa q)) = some (kq q) := by
  obtain ⟨kl, hk⟩ := key_some h
  unfold kq
  rw [hk]
  rfl
set_option maxRecDepth 100000 in
theorem kq_inj {p q : Q4} (hp : fitQ p) (hq : fitQ q) (h : kq p = kq q) : p = q := v4_inj (keyed.inj (key_of hp) (h ▸ key_of hq))
/-- The datum tells how often each order came. -/
def Cnt (D : DataW Unit) (F : Q4 → Nat) : Prop := (∀ q, fitQ q → D.atKey (kq q) (.lit (.int .i64 0)) = .lit (.int .i64 (F q : Nat))) ∧ ∀ kl, Maps.has D kl = true → ∃ q, fitQ q ∧ kl = kq q ∧ F q ≠ 0
theorem cnt_empty : Cnt (.map []) (fun _ => 0) := ⟨fun _ _ => rfl, fun _ h => by cases h⟩
set_option maxRecDepth 100000 in
theorem cnt_put {D : DataW Unit} {F : Q4 → Nat} (h : Cnt D F) (hD : Maps.IsMap D) {q : Q4} (hq : fitQ q) : Cnt (D.put (kq q) (.lit (.int .i64 ((F q : Nat) + 1 : Int)))) (fun p => if q = p then F p + 1 else F p) := by
  refine ⟨fun p hp => ?_, fun kl hk => ?_⟩
  · by_cases e : q = p
    · subst e
      rw [Maps.atKey_put_same hD (keyed.key (key_of hq))]
      simp
    · rw [Maps.atKey_put_other (fun e2 => e (kq_inj hp hq e2).symm), h.1 p hp]
      simp [e]
  · by_cases e : kl = kq q
    · exact ⟨q, hq, e, by simp⟩
    · rw [Maps.has_put_other e] at hk
      obtain ⟨p, h1, h2, h3⟩ := h.2 kl hk
      refine ⟨p, h1, h2, ?_⟩
      by_cases e2 : q = p
      · simp [e2]
      · simp [e2, h3]
/-- Block m is a map of at most n orders that tells how often each came. -/
def Mapped (w : World) (m n : Nat) (F : Q4 → Nat) : Prop := ∃ D, w.ownsMap Try.prog 26 (plainElem Try.prog 3) m n D ∧ Cnt D F
theorem Mapped.lt {w : World} {m n : Nat} {F : Q4 → Nat} (h : Mapped w m n F) : m < w.heap.size := by obtain ⟨D, h, _⟩ := h; exact h.lt
theorem Mapped.same {w w' : World} {m n : Nat} {F : Q4 → Nat} (h : Mapped w m n F) (hb : w'.heap[m]? = w.heap[m]?) : Mapped w' m n F := by
  obtain ⟨D, ⟨es, c, h1, h2⟩, hc⟩ := h
  exact ⟨D, ⟨es, c, hb.trans h1, h2⟩, hc⟩
theorem Mapped.up {w w' : World} {m n : Nat} {F : Q4 → Nat} (h : Mapped w m n F) (hb : Below w.heap.size w w') : Mapped w' m n F := h.same (hb.block m h.lt)
theorem Mapped.mono {w : World} {m n n' : Nat} {F : Q4 → Nat} (h : Mapped w m n F) (hn : n ≤ n') : Mapped w m n' F := by
  obtain ⟨D, h, hc⟩ := h
  exact ⟨D, h.mono hn, hc⟩
theorem Mapped.congr {w : World} {m n : Nat} {F G : Q4 → Nat} (h : Mapped w m n F) (e : ∀ q, F q = G q) : Mapped w m n G := by rw [← funext e]; exact h
theorem Mapped.made (w : World) : Mapped (w.alloc (.map #[] 0)) w.heap.size 0 (fun _ => 0) := ⟨_, World.ownsMap_made w _ _ _, cnt_empty⟩
set_option maxRecDepth 100000 in
theorem Mapped.look {w : World} {m n : Nat} {F : Q4 → Nat} (h : Mapped w m n F) {q : Q4} (hq : fitQ q) : (Instr.lookup 70 (.map (some m)) (v4 (qa q)) false).run Try.prog w = .ok (.int .i64 (F q : Nat)) w := by
  obtain ⟨D, h, hc⟩ := h
  obtain ⟨c, hrun, hat, _⟩ := h.lookup_int keyed underM Try.underlying3 (zeroE w) (key_of hq)
  rw [hc.1 q hq] at hat
  injection hat with e
  injection e with _ e
  rw [hrun, e]
set_option maxRecDepth 100000 in
theorem Mapped.clear {w : World} {m n : Nat} {F : Q4 → Nat} (h : Mapped w m n F) (ty : TypeId) : ∃ w', (Builtin.clear_ #[70] ty #[.map (some m)]).run Try.prog w = .ok (.tuple #[]) w' ∧ Mapped w' m 0 (fun _ => 0) ∧ w.grownBy w' (some m) := by
  obtain ⟨D, ⟨es, clock, hb, hF, _⟩, _⟩ := h
  refine ⟨ChangeMaps.setBlock w m (.map #[] clock), ?_, ⟨.map [], ⟨#[], clock, ChangeMaps.heap_setBlock_same hb _, ⟨by simp, MapKept.stamped_empty clock, by simp⟩, Nat.le_refl _, rfl⟩, cnt_empty⟩, ⟨rfl, rfl, rfl, by simp [ChangeMaps.setBlock], fun i _ hi => ChangeMaps.heap_setBlock_other hb _ (fun e => hi (by rw [e]))⟩⟩
  simp [Builtin.clear_, run_underlying underM, MapKept.run_getObj_map hb, MapKept.run_setObj_map _ hb, Result.andThen, ChangeMaps.setBlock]
set_option maxRecDepth 100000 in
/-- A look-up, by where the key is found. -/
theorem look_found {w : World} {m : Nat} {es : Array MapEntry} {clock : Nat} (hb : w.heap[m]? = some (.map es clock)) {q : Q4} (hq : fitQ q) {j : Nat} {v : Value} (h : (Instr.findKey 26 (v4 (qa q)) es.toList).run Try.prog w = .ok (some (j, v)) w) :
    (Instr.lookup 70 (.map (some m)) (v4 (qa q)) false).run Try.prog w = .ok v w := by
  simp [Instr.lookup, run_underlying underM, MapKept.run_getObj_map hb, keyed.check w _ (key_of hq), h, Result.andThen]
set_option maxRecDepth 100000 in
theorem look_none {w : World} {m : Nat} {es : Array MapEntry} {clock : Nat} (hb : w.heap[m]? = some (.map es clock)) {q : Q4} (hq : fitQ q) (h : (Instr.findKey 26 (v4 (qa q)) es.toList).run Try.prog w = .ok none w) :
    (Instr.lookup 70 (.map (some m)) (v4 (qa q)) false).run Try.prog w = .ok (.int .i64 0) w := by
  simp [Instr.lookup, run_underlying underM, MapKept.run_getObj_map hb, keyed.check w _ (key_of hq), h, Result.andThen]
theorem block_eq {w : World} {m : Nat} {x y : Array MapEntry} {c d : Nat} {es : Array MapEntry} {clock : Nat} (hb : w.heap[m]? = some (.map es clock)) (h : ChangeMaps.setBlock w m (.map x c) = ChangeMaps.setBlock w m (.map y d)) : x = y ∧ c = d := by
  have e := congrArg (fun u => u.heap[m]?) h
  simp only [ChangeMaps.heap_setBlock_same hb] at e
  injection e with e
  injection e with e1 e2
  exact ⟨e1, e2⟩
theorem tuple_eq {u v : Value} {a b : World} (h : (Result.ok u a : Result Value) = .ok v b) : u = v ∧ a = b := by cases h; exact ⟨rfl, rfl⟩
theorem modify_same {es : Array MapEntry} {j : Nat} {e0 : MapEntry} {k : Value} (hj : es[j]? = some e0) (hk : e0.key = k) : (es.modify j fun e => { e with key := k }) = es := by
  apply Array.ext
  · simp
  · intro i h1 h2
    rw [Array.getElem_modify]
    by_cases e : j = i
    · subst e
      rw [if_pos rfl]
      have : es[j] = e0 := by rw [Array.getElem?_eq_getElem h2] at hj; injection hj
      rw [this, ← hk]
    · rw [if_neg e]
set_option maxRecDepth 100000 in
/-- The two halves of 'm[k]++'. -/
theorem Mapped.entry {w : World} {m n : Nat} {F : Q4 → Nat} (h : Mapped w m n F) (hn : n < maxLen) {q : Q4} (hq : fitQ q) (hsm : F q ≤ 1000000) :
    ∃ (v0 : Value) (st : Nat) (es1 : Array MapEntry) (clock1 : Nat), (Instr.mapEntry 70 (.map (some m)) (v4 (qa q))).run Try.prog w = .ok (.tuple #[v0, goInt st]) (ChangeMaps.setBlock w m (.map es1 clock1)) ∧
      (∀ w2 : World, w2.heap[m]? = some (.map es1 clock1) → (Instr.lookup 70 (.map (some m)) (v4 (qa q)) false).run Try.prog w2 = .ok (.int .i64 (F q : Nat)) w2) ∧
      ∀ w2 : World, w2.heap[m]? = some (.map es1 clock1) → ∃ es' clock', (Instr.entryStore 70 (.map (some m)) (goInt st) (.int .i64 ((F q : Nat) + 1 : Int))).run Try.prog w2 = .ok () (ChangeMaps.setBlock w2 m (.map es' clock')) ∧
        ∀ w3 : World, w3.heap[m]? = some (.map es' clock') → Mapped w3 m (n + 1) (fun p => if q = p then F p + 1 else F p) := by
  have hlook := h.look hq
  have hM := h
  obtain ⟨D, hown, hc⟩ := h
  have hD := hown.isMap
  obtain ⟨w', hup, hown', _⟩ := hown.update (val := .int .i64 ((F q : Nat) + 1 : Int)) keyed underM hn (key_of hq) (plainElem_int Try.underlying3 (by refine WalkArith.wf_i64 (by omega)))
  obtain ⟨es, clock, hb, hF, hes, hDe⟩ := hown
  obtain ⟨v0, st, es1, clock1, hrun, hv0, hst⟩ := WideElems.entry_then_store law4 underM zeroE hb hF (key_of hq)
  refine ⟨v0, st, es1, clock1, hrun, fun w2 hw2 => ?_, fun w2 hw2 => ?_⟩
  · rcases keyed.find w (key_of hq) es.toList hF.keys with ⟨h1, h2⟩ | ⟨j, e0, h1, h2, h3⟩
    · have hr2 : (Instr.mapEntry 70 (.map (some m)) (v4 (qa q))).run Try.prog w = .ok (.tuple #[.int .i64 0, goInt clock]) (ChangeMaps.setBlock w m (.map (es.push ⟨v4 (qa q), .int .i64 0, clock⟩) (clock + 1))) := by
        simp [Instr.mapEntry, run_underlying underM, MapKept.run_getObj_map hb, keyed.check w _ (key_of hq), h1, MapKept.run_setObj_map _ hb, Result.andThen, ChangeMaps.setBlock]
      rw [hrun] at hr2
      have he := (block_eq hb (tuple_eq hr2).2).1
      subst he
      have h0 := look_none hb hq h1
      rw [hlook] at h0
      have h0 := (tuple_eq h0).1
      rcases keyed.find w2 (key_of hq) (es.push ⟨v4 (qa q), .int .i64 0, clock⟩).toList (fun e hm => by
        simp only [Array.toList_push, List.mem_append, List.mem_singleton] at hm
        rcases hm with hm | rfl
        · exact hF.keys e hm
        · exact ⟨_, key_of hq⟩) with ⟨g1, g2⟩ | ⟨j, e1, g1, g2, g3⟩
      · exact absurd rfl (g2 ⟨v4 (qa q), .int .i64 0, clock⟩ (by simp))
      · have hv : e1.val = .int .i64 0 := by
          have hm := List.mem_of_getElem? g2
          simp only [Array.toList_push, List.mem_append, List.mem_singleton] at hm
          rcases hm with hm | rfl
          · exact absurd g3 (h2 e1 hm)
          · rfl
        rw [hv] at g1
        rw [look_found hw2 hq g1, h0]
    · have hj : es[j]? = some e0 := by simpa using h2
      have hr2 : (Instr.mapEntry 70 (.map (some m)) (v4 (qa q))).run Try.prog w = .ok (.tuple #[e0.val, goInt e0.born]) (ChangeMaps.setBlock w m (.map (es.modify j fun e => { e with key := v4 (qa q) }) clock)) := by
        simp [Instr.mapEntry, run_underlying underM, MapKept.run_getObj_map hb, keyed.check w _ (key_of hq), h1, hj, h3, keyed.stays w (key_of hq), MapKept.run_setObj_map _ hb, Result.andThen, ChangeMaps.setBlock]
      rw [hrun] at hr2
      obtain ⟨he1, he2⟩ := block_eq hb (tuple_eq hr2).2
      rw [modify_same hj h3] at he1
      rw [he1, he2] at hw2
      exact (hM.same (hw2.trans hb.symm)).look hq
  · obtain ⟨es', clock', hs, hup2⟩ := hst w2 (.int .i64 ((F q : Nat) + 1 : Int)) hw2
    refine ⟨es', clock', hs, fun w3 hw3 => ?_⟩
    rw [hup] at hup2
    injection hup2 with _ ew
    have hb' : w'.heap[m]? = some (.map es' clock') := by rw [ew]; exact ChangeMaps.heap_setBlock_same hb _
    obtain ⟨es3, c3, h3, h3F⟩ := hown'
    rw [hb'] at h3
    injection h3 with h3
    injection h3 with e1 e2
    subst e1 e2
    exact ⟨_, ⟨es', clock', hw3, h3F⟩, cnt_put hc hD hq⟩


end MapO
end Go.Proofs.Ytiiknpebphpeiaa
