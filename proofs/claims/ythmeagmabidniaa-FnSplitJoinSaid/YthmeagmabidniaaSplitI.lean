/-
  Contracts of the project's own splitting: the range over a function, its iterator, and the loop that collects.
-/
import Derived.RangeFuncNested
import Derived.RangeFuncBound
import Derived.RangeFuncCalls
import Derived.RangeFuncLeaves
import Derived.RangeFuncBox
import Derived.Shelf.Abstract
import Derived.Shelf.RegionOpen
import Derived.WalkKit
import Derived.WalkLawsBesides
import Derived.WalkSpells
import Derived.OwnWalkIn
import Derived.TacticsInMore
import Derived.LoopNIn
import Derived.LoopIn
import Derived.Maps.AppendAt
import Derived.Lib.Hide
import Derived.Test.YthmeagmabidniaaRows
import Derived.Test.YthmeagmabidniaaSplitW
import Derived.Test.YthmeagmabidniaaJoinW
namespace Go.Proofs.Ythmeagmabidniaa
open Go.RowKit Go.Shelf

attribute [local go_sem] Oper.semAt_some

namespace SplitI
open Strs Split SplitW

theorem mixed : Try.prog.follows .mixedOrders = true := by kernel_rfl

/-- The maker of the iterator: both arguments are boxed, the function value holds the boxes. -/
theorem partsOf_in (F : Fence) (n : Nat) (h : F.fn 27) (hro : F.round = none) (s : ByteArray) (c : Int) (w : World) :
    CallsIn F n Try.prog 27 #[.string s, .int .u8 c] w fun e w' =>
      e = .returned (.func (.func 37) #[] #[.pointer (some ⟨w.heap.size, 0, none⟩), .pointer (some ⟨w.heap.size + 1, 0, none⟩)]) ∧ w' = (w.alloc (.cells #[.string s] 9)).alloc (.cells #[.int .u8 c] 5) := by
  refine callsIn_of_wp Try.func27 rfl h ?_ hro
  simp only [Try.ntmps27, List.size_toArray, List.length_cons, List.length_nil, Nat.reduceAdd, Nat.reduceSub, Array.replicate_succ, Array.replicate_zero, List.push_toArray, List.append_toArray, List.nil_append, List.cons_append]
  gi_wp2
  go_ret
  exact ⟨rfl, rfl⟩

/-- Two blocks stay as they are. -/
def Kp (b1 b2 : Nat) (W W' : World) : Prop := W'.heap[b1]? = W.heap[b1]? ∧ W'.heap[b2]? = W.heap[b2]?
theorem Kp.cell1 {b1 b2 : Nat} {W W' : World} (h : Kp b1 b2 W W') {v : Value} (hc : W.cell? ⟨b1, 0, none⟩ = some v) : W'.cell? ⟨b1, 0, none⟩ = some v :=
  (World.cell?_of_block (w := W) (a := ⟨b1, 0, none⟩) h.1).trans hc
theorem Kp.cell2 {b1 b2 : Nat} {W W' : World} (h : Kp b1 b2 W W') {v : Value} (hc : W.cell? ⟨b2, 0, none⟩ = some v) : W'.cell? ⟨b2, 0, none⟩ = some v :=
  (World.cell?_of_block (w := W) (a := ⟨b2, 0, none⟩) h.2).trans hc
theorem grownBy_drew (W : World) (row : Option Nat) : W.grownBy W.drew row := ⟨rfl, rfl, rfl, Nat.le_refl _, fun _ _ _ => rfl⟩

/-- A text that is not too long: what a loop body is handed. -/
abbrev Tx := { x : List UInt8 // x.length ≤ 1048576 }
def txs (l : List Tx) : List (List UInt8) := l.map (·.1)
theorem txs_snoc (l : List Tx) (x : Tx) : txs (l ++ [x]) = txs l ++ [x.1] := by unfold txs; simp
theorem txs_len (l : List Tx) : (txs l).length = l.length := by unfold txs; simp
theorem part_small (s : ByteArray) (c : UInt8) (k : Nat) (hs : s.size ≤ 1048576) : (sp c (s.data.toList.take k)).2.length ≤ 1048576 := by
  have h := (sp_suffix c (s.data.toList.take k)).1
  rw [List.length_take, size_data] at h
  omega

theorem part_all (s : ByteArray) (c : UInt8) (hs : s.size ≤ 1048576) : (sp c s.data.toList).2.length ≤ 1048576 := by
  have h := (sp_suffix c s.data.toList).1
  rw [size_data] at h
  omega

set_option maxRecDepth 100000 in
set_option maxHeartbeats 1000000 in
/-- The iterator: the parts of the text, in order, to every loop body that keeps the two boxes. -/
theorem parts1_in (F : Fence) (n : Nat) (hf : F.fn 37) (hro : F.round = none) (hn : 1 ≤ n) (l b1 b2 : Nat) (s : ByteArray) (c : UInt8) (hs : s.size ≤ 1048576) (J Jx : List Tx → World → Prop) (B : Nat) (hJ : AbidesFrom B J)
    (hY : ∀ pre x W, J pre W → pre.length < (parts c s.data.toList).length → YieldAt F (n - 1) Try.prog l #[strV x.1] W fun e W' =>
      (e = .returned (.bool true) ∧ J (pre ++ [x]) W' ∧ Kp b1 b2 W W') ∨ (e = .returned (.bool false) ∧ Jx (pre ++ [x]) W'))
    (W : World) (hb1 : W.cell? ⟨b1, 0, none⟩ = some (.string s)) (hb2 : W.cell? ⟨b2, 0, none⟩ = some (.int .u8 c.toNat)) (h0 : J [] W) :
    CallsIn F n Try.prog 37 #[.func (.yield l) #[] #[], .pointer (some ⟨b1, 0, none⟩), .pointer (some ⟨b2, 0, none⟩)] W fun e W' => (∃ v, e = .returned v) ∧
      ((∃ ys, txs ys = parts c s.data.toList ∧ J ys W') ∨ (∃ pre, True ∧ Jx pre W')) := by
  have hJd : ∀ (pre : List Tx) (X : World), J pre X → J pre X.drew := fun pre X h => hJ pre X X.drew none h (grownBy_drew _ _) (fun r e => by cases e)
  have HJd := Lib.hid hJd; clear hJd hJ
  have HY := Lib.hid hY; clear hY
  have hmx := mixed
  refine callsIn_of_wp Try.func37 rfl hf ?_ hro
  simp only [Try.ntmps37, List.size_toArray, List.length_cons, List.length_nil, Nat.reduceAdd, Nat.reduceSub, Array.replicate_succ, Array.replicate_zero, List.push_toArray, List.append_toArray, List.nil_append, List.cons_append]
  gi_wp2
  gi_loopw [4, 8] (fun st i wr => ∃ k f : Nat, k ≤ s.size ∧ f ≤ k ∧ i = .int .i64 k ∧ st = .int .i64 f ∧ Hid (f + (sp c (s.data.toList.take k)).2.length = k) ∧
      wr.cell? ⟨b1, 0, none⟩ = some (.string s) ∧ wr.cell? ⟨b2, 0, none⟩ = some (.int .u8 c.toNat) ∧ Hid (∃ pre : List Tx, txs pre = (sp c (s.data.toList.take k)).1 ∧ J pre wr))
    (fun _ i _ => s.size - (intOf i).toNat)
  case atStart =>
    exact ⟨0, 0, Nat.zero_le _, Nat.le_refl _, rfl, rfl, rfl, hb1, hb2, [], rfl, h0⟩
  case round =>
    clear hb1 hb2 h0
    obtain ⟨k, f, hk, hfk, rfl, rfl, hf, hb1, hb2, hj⟩ := hrel
    have hcnt := sp_count c (s.data.toList.take k)
    rw [List.length_take_of_le (by rw [size_data]; exact hk)] at hcnt
    by_cases hlt : k < s.size
    · by_cases heq : (s[k]).toNat = c.toNat
      · have e1 : (((s[k]).toNat : Int) == (c.toNat : Int)) = true := by rw [heq]; simp
        have e2 : (((s[k]).toNat : Int) != (c.toNat : Int)) = false := by rw [heq]; simp
        have hst := Lib.hid (rel_hit s c k f hlt hf.out (UInt8.toNat_inj.1 heq))
        have hex := ext_sp s c k hk f hf.out
        obtain ⟨pre, hpre, hjp⟩ := hj.out
        have hlen : pre.length < (parts c s.data.toList).length := by rw [← txs_len, hpre]; exact sp_lt c s.data.toList k
        have hY1 := HY.out pre ⟨(sp c (s.data.toList.take k)).2, part_small s c k hs⟩ wr.drew (HJd.out _ _ hjp) hlen
        have Hpre := Lib.hid hpre; clear hpre hjp
        rw [← hex] at hY1
        obtain ⟨fn, tmps, assign, body, hy, hR⟩ := hY1
        have HR := Lib.hid hR; clear hR hex hlen
        have hi1 : (0 : Int) ≤ (k : Int) := by omega
        have hi2 : (k : Int) < (s.size : Int) := by omega
        have hc1 : wr.drew.cell? ⟨b1, 0, none⟩ = some (.string s) := hb1
        have hc2 : wr.drew.cell? ⟨b2, 0, none⟩ = some (.int .u8 c.toNat) := hb2
        have Hc1 := Lib.hid hc1; have Hc2 := Lib.hid hc2
        clear heq hj hc1 hc2
        gi_wp2
        gi_region
        all_goals gi_wp2
        all_goals refine HR.out.mono ?_
        all_goals rintro e W3 (⟨rfl, hJ3, hk3⟩ | ⟨rfl, hJx3⟩)
        all_goals gi_wp2
        all_goals first
          | (go_roundw; all_goals first | exact ⟨k + 1, k + 1, by omega, Nat.le_refl _, by go_num, by go_num, hst.out.2, hk3.cell1 Hc1.out, hk3.cell2 Hc2.out, ⟨_, by rw [txs_snoc, Hpre.out, hst.out.1], hJ3⟩⟩ | (simp [intOf]; omega))
          | (refine bodyPost_ret (results_none rfl _ _ _) rfl ?_; exact ⟨⟨_, rfl⟩, .inr ⟨_, trivial, hJx3⟩⟩)
      · have e1 : (((s[k]).toNat : Int) == (c.toNat : Int)) = false := by simp; omega
        have e2 : (((s[k]).toNat : Int) != (c.toNat : Int)) = true := by simp; omega
        have hst := Lib.hid (rel_miss s c k f hlt hf.out (fun e => heq (by rw [e])))
        have hj1 : Hid (∃ pre : List Tx, txs pre = (sp c (s.data.toList.take (k + 1))).1 ∧ J pre wr.drew) := by
          obtain ⟨pre, hpre, hjp⟩ := hj.out
          exact ⟨pre, by rw [hst.out.1]; exact hpre, HJd.out _ _ hjp⟩
        have hi1 : (0 : Int) ≤ (k : Int) := by omega
        have hi2 : (k : Int) < (s.size : Int) := by omega
        clear heq hj
        gi_wp2
        gi_region
        all_goals gi_wp2
        all_goals go_roundw
        all_goals first | exact ⟨k + 1, f, by omega, by omega, by go_num, rfl, hst.out.2, by simpa using hb1, by simpa using hb2, hj1⟩ | (simp [intOf]; omega)
    · have hks : k = s.size := by omega
      subst hks
      have hex := ext_sp s c s.size hk f hf.out
      have hall : s.data.toList.take s.size = s.data.toList := List.take_of_length_le (by rw [size_data]; exact Nat.le_refl _)
      rw [hall] at hex hj
      obtain ⟨pre, hpre, hjp⟩ := hj.out
      have hlen : pre.length < (parts c s.data.toList).length := by rw [← txs_len, hpre, parts_len]; omega
      have hY1 := HY.out pre ⟨(sp c s.data.toList).2, part_all s c hs⟩ wr hjp hlen
      have Hpre := Lib.hid hpre; clear hpre hjp
      rw [← hex] at hY1
      obtain ⟨fn, tmps, assign, body, hy, hR⟩ := hY1
      have HR := Lib.hid hR; clear hR hex hlen hall hf hj
      gi_wp2
      refine HR.out.mono ?_
      rintro e W3 (⟨rfl, hJ3, hk3⟩ | ⟨rfl, hJx3⟩)
      · gi_wp2
        go_end0
        exact ⟨⟨_, rfl⟩, .inl ⟨_, by rw [txs_snoc, Hpre.out]; rfl, hJ3⟩⟩
      · gi_wp2
        go_end0
        exact ⟨⟨_, rfl⟩, .inr ⟨_, trivial, hJx3⟩⟩

/-- What the maker hands back, as the loop's law wants it. -/
theorem parts_stops (F : Fence) (n : Nat) (hf : F.fn 37) (hro : F.round = none) (hn : 1 ≤ n) (b1 b2 : Nat) (s : ByteArray) (c : UInt8) (hs : s.size ≤ 1048576) (w : World) (hl1 : b1 < w.heap.size) (hl2 : b2 < w.heap.size)
    (hb1 : w.cell? ⟨b1, 0, none⟩ = some (.string s)) (hb2 : w.cell? ⟨b2, 0, none⟩ = some (.int .u8 c.toNat)) :
    SeqStopsK F n Try.prog 37 #[.pointer (some ⟨b1, 0, none⟩), .pointer (some ⟨b2, 0, none⟩)] (fun x : Tx => #[strV x.1]) (Kp b1 b2) (fun ys => txs ys = parts c s.data.toList) (fun _ => True) (parts c s.data.toList).length w := fun l J Jx W hW hJ _ hY h0 =>
  parts1_in F n hf hro hn l b1 b2 s c hs J Jx W.heap.size hJ hY W ((hW.cell (p := ⟨b1, 0, none⟩) hl1).trans hb1) ((hW.cell (p := ⟨b2, 0, none⟩) hl2).trans hb2) h0

/-- The append, as one step of a region that draws its order, inside a fence. -/
theorem step_append_own_in {F : Fence} {n : Nat} {P : Program} {ops : Array Oper} {o : Oper} {a : Act} {w : World} {K : Act → World → Prop} {Q : Exit → Act → World → Prop} {E : Prop}
    (hg : o.guard = none) (s x : Operand) (t : TypeId) (hop : o.op = Op.call { callee := Callee.builtin Builtin.append, args := #[s, x], argTypes := #[t, t] })
    (base : Nat) (e : TypeId) (i : TypeInfo) (z : Value) (size bytes : Nat) (h1 : P.underlying t = some (.slice e)) (h2 : P.info? e = some i) (h3 : i.zero = some z) (h4 : i.size = size) (h5 : i.bytes = bytes) (h6 : z.cells.size = size) (h7 : 0 < size)
    (v : Value) (k : Nat) (xs : List Value) (hs : a.eval s = v) (hown : w.ownsRow base e size v k xs)
    (ad : Addr) (m c : Nat) (news : List Value) (hx : a.eval x = .slice (some ad) m c) (hn : news.length = m * size) (hc : ∀ j u, news[j]? = some u → w.cell? (ad.add j) = some u) (h1c : ∀ u ∈ news, u.oneCell' = true)
    (b1 : k + m ≤ maxLen) (b2 : (k + m) * bytes ≤ 140737488355328) (hbase : base ≤ w.heap.size)
    (hK : ∀ v' w', w'.ownsRow base e size v' (k + m) (xs ++ news) → w.grownBy w' v.ownBlock → K (a.put o.dst v') w') :
    if Region.wanted o (yielded ops a.tmps) = true then Oper.wpIn F n P o a w K Q else E := by
  have hw : Region.wanted o (yielded ops a.tmps) = true := by simp [Region.wanted, hg]
  rw [if_pos hw]
  obtain ⟨v', w', hrun, r1, r2, _⟩ := run_append_own (P := P) w base t o.type e i z size bytes h1 h2 h3 h4 h5 h6 h7 v k xs hown ad m c news hn hc h1c b1 b2 hbase
  unfold Oper.wpIn
  refine ⟨by simp [Oper.about, hop, resolve, Target.leads, Sem.run_pure], ?_⟩
  rw [Oper.semAt_plain F _ _ (by rw [hop]; intro c hc'; cases hc')]
  simp [execOp, hop, resolve, invoke, builtin, hs, hx, hrun, Result.andThen]
  exact hK v' w' r1 r2

end SplitI
end Go.Proofs.Ythmeagmabidniaa
