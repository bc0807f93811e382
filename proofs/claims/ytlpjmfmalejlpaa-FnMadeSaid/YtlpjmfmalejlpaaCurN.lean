/-
  Contracts of the cursor that the draws read: weak ones (a number in range, some number of a list), and that all other memory stays.
-/
import Derived.WalkKit
import Derived.WalkLawsBesides
import Derived.WalkSpells
import Derived.Lib.Hide
import Derived.Test.YtlpjmfmalejlpaaRows
namespace Go.Proofs.Ytlpjmfmalejlpaa
open Go.RowKit

namespace CurN

/-- All blocks but p stay. -/
def But (p : Nat) (w w' : World) : Prop := w'.os = w.os ∧ w'.tape = w.tape ∧ w'.output = w.output ∧ w.heap.size ≤ w'.heap.size ∧ ∀ k, k < w.heap.size → k ≠ p → w'.heap[k]? = w.heap[k]?
theorem But.refl (p : Nat) (w : World) : But p w w := ⟨rfl, rfl, rfl, Nat.le_refl _, fun _ _ _ => rfl⟩
theorem But.trans {p : Nat} {a b c : World} (h : But p a b) (k : But p b c) : But p a c :=
  ⟨k.1.trans h.1, k.2.1.trans h.2.1, k.2.2.1.trans h.2.2.1, Nat.le_trans h.2.2.2.1 k.2.2.2.1, fun i hi hp => (k.2.2.2.2 i (Nat.lt_of_lt_of_le hi h.2.2.2.1) hp).trans (h.2.2.2.2 i hi hp)⟩
theorem But.below {p : Nat} {a b : World} (h : But p a b) {B : Nat} (hp : B ≤ p) (hs : B ≤ a.heap.size) : Below B a b :=
  ⟨h.1, h.2.1, h.2.2.1, h.2.2.2.1, fun k hk => h.2.2.2.2 k (by omega) (by omega)⟩
theorem But.of_below {p : Nat} {a b : World} (h : Below a.heap.size a b) : But p a b := ⟨h.os, h.tape, h.output, h.size, fun k hk _ => h.block k hk⟩
theorem But.set {p : Nat} {a b : World} (h : But p a b) (i : Nat) (u : Value) : But p a (b.setCell ⟨p, i, none⟩ u) :=
  h.trans ⟨rfl, rfl, rfl, by simp [World.setCell], fun k _ hk => Below.heap_setCell _ _ _ _ hk⟩
theorem But.drew {p : Nat} {a b : World} (h : But p a b) : But p a b.drew := h
theorem But.size {p : Nat} {a b : World} (h : But p a b) : a.heap.size ≤ b.heap.size := h.2.2.2.1

/-- A list of bytes in memory below block B. -/
def Code (w : World) (B : Nat) (A : Option Addr) (n : Nat) : Prop :=
  n = 0 ∨ ∃ b o, A = some ⟨b, o, none⟩ ∧ b < B ∧ ∀ k, k < n → ∃ m : Nat, m < 256 ∧ w.cell? ⟨b, o + k, none⟩ = some (.int .u8 m)
theorem Code.but {w w' : World} {p : Nat} {A : Option Addr} {n : Nat} (h : Code w p A n) (hp : p ≤ w.heap.size) (hb : But p w w') : Code w' p A n := by
  rcases h with h | ⟨b, o, hA, hl, hc⟩
  · exact .inl h
  · exact .inr ⟨b, o, hA, hl, fun k hk => by
      obtain ⟨m, hm, hx⟩ := hc k hk
      exact ⟨m, hm, (World.cell?_of_block (w := w) (a := ⟨b, o + k, none⟩) (hb.2.2.2.2 b (by omega) (by omega))).trans hx⟩⟩
theorem Code.mono {w : World} {B B' : Nat} {A : Option Addr} {n : Nat} (h : Code w B A n) (hB : B ≤ B') : Code w B' A n := by
  rcases h with h | ⟨b, o, hA, hl, hc⟩
  · exact .inl h
  · exact .inr ⟨b, o, hA, by omega, hc⟩
theorem Code.below {w w' : World} {B : Nat} {A : Option Addr} {n : Nat} (h : Code w B A n) (hb : Below B w w') : Code w' B A n := by
  rcases h with h | ⟨b, o, hA, hl, hc⟩
  · exact .inl h
  · exact .inr ⟨b, o, hA, hl, fun k hk => by
      obtain ⟨m, hm, hx⟩ := hc k hk
      exact ⟨m, hm, (hb.cell (p := ⟨b, o + k, none⟩) hl).trans hx⟩⟩

/-- A cursor at block p over n bytes, with at most K bytes read. -/
def Cur (w : World) (p K : Nat) (A : Option Addr) (n c : Nat) : Prop :=
  p < w.heap.size ∧ Code w p A n ∧ w.cell? ⟨p, 0, none⟩ = some (.slice A n c) ∧ w.frozen? ⟨p, 1, none⟩ = false ∧ w.frozen? ⟨p, 2, none⟩ = false ∧ ∃ (i : Nat) (s : Int), i ≤ K ∧ w.cell? ⟨p, 1, none⟩ = some (.int .i64 i) ∧ w.cell? ⟨p, 2, none⟩ = some (.int .u64 s)
/-- What stays when other memory is written or made. -/
theorem Cur.upto {w w' : World} {p K : Nat} {A : Option Addr} {n c : Nat} (h : Cur w p K A n c) (hb : Below (p + 1) w w') : Cur w' p K A n c := by
  obtain ⟨hp, hc, h0, f1, f2, i, s, hi, h1, h2⟩ := h
  have hq : p < p + 1 := Nat.lt_succ_self p
  exact ⟨Nat.lt_of_lt_of_le hp hb.size, hc.below (hb.mono (by omega)), (hb.cell (p := ⟨p, 0, none⟩) hq).trans h0, (hb.frozen (p := ⟨p, 1, none⟩) hq).trans f1, (hb.frozen (p := ⟨p, 2, none⟩) hq).trans f2, i, s, hi, (hb.cell (p := ⟨p, 1, none⟩) hq).trans h1, (hb.cell (p := ⟨p, 2, none⟩) hq).trans h2⟩
theorem Cur.below {w w' : World} {p K : Nat} {A : Option Addr} {n c : Nat} (h : Cur w p K A n c) (hb : Below w.heap.size w w') : Cur w' p K A n c := h.upto (hb.mono h.1)
theorem Cur.more {w : World} {p K K' : Nat} {A : Option Addr} {n c : Nat} (h : Cur w p K A n c) (hK : K ≤ K') : Cur w p K' A n c := by
  obtain ⟨hp, hc, h0, f1, f2, i, s, hi, h1, h2⟩ := h
  exact ⟨hp, hc, h0, f1, f2, i, s, by omega, h1, h2⟩

/-- What a call of the cursor's hands on: block p alone is written, and it's a cursor still. -/
def Went (p K : Nat) (A : Option Addr) (n c : Nat) (w w' : World) : Prop := Cur w' p K A n c ∧ But p w w'

theorem went_set {p K n c i : Nat} {A : Option Addr} {w : World} {s : Int} (hp : p < w.heap.size) (hc : Code w p A n) (h0 : w.cell? ⟨p, 0, none⟩ = some (.slice A n c)) (f1 : w.frozen? ⟨p, 1, none⟩ = false) (f2 : w.frozen? ⟨p, 2, none⟩ = false) (hi : i ≤ K)
    (h1 : w.cell? ⟨p, 1, none⟩ = some (.int .i64 i)) (h2 : w.cell? ⟨p, 2, none⟩ = some (.int .u64 s)) (S : Int) : Went p (K + 1) A n c w ((w.setCell ⟨p, 1, none⟩ (.int .i64 ((i : Int) + 1))).setCell ⟨p, 2, none⟩ (.int .u64 S))  := by
  have hbut : But p w ((w.setCell ⟨p, 1, none⟩ (.int .i64 ((i : Int) + 1))).setCell ⟨p, 2, none⟩ (.int .u64 S))  := (((But.refl p w).set 1 _).set 2 _)
  refine ⟨⟨Nat.lt_of_lt_of_le hp hbut.size, hc.but (by omega) hbut, ?_, ?_, ?_, i + 1, S, by omega, ?_, ?_⟩, hbut⟩
  · exact (World.cell?_setCell_other (a := ⟨p, 2, none⟩) (b := ⟨p, 0, none⟩) _ _ (by simp)).trans ((World.cell?_setCell_other (a := ⟨p, 1, none⟩) (b := ⟨p, 0, none⟩) _ _ (by simp)).trans h0)
  · simp [f1]
  · simp [f2]
  · exact (World.cell?_setCell_other (a := ⟨p, 2, none⟩) (b := ⟨p, 1, none⟩) _ _ (by simp)).trans (World.cell?_setCell_same _ _ _ h1)
  · exact World.cell?_setCell_same _ _ _ ((World.cell?_setCell_other (a := ⟨p, 1, none⟩) (b := ⟨p, 2, none⟩) _ _ (by simp)).trans h2)
theorem Went.drew {p K n c : Nat} {A : Option Addr} {w w' : World} (h : Went p K A n c w w') : Went p K A n c w w'.drew := h
/-- The low byte of a word of 64 bits. -/
theorem low_byte (z : Int) : ∃ m : Nat, m < 256 ∧ wrap64 (bits .and .u64 (IntKind.u64.wrap z / 1099511627776) 255) = (m : Int) := by
  have h0 : 0 ≤ IntKind.u64.wrap z := by simp [IntKind.wrap, IntKind.bits, IntKind.signed]; omega
  have h1 : IntKind.u64.wrap z < 18446744073709551616 := by simp [IntKind.wrap, IntKind.bits, IntKind.signed]; omega
  rw [u64_and _ _ (by omega) (by omega) (by omega) (by omega)]
  have h2 : (IntKind.u64.wrap z / 1099511627776).toNat &&& (255 : Int).toNat ≤ 255 := Nat.and_le_right
  refine ⟨_, Nat.lt_succ_of_le h2, by unfold wrap64; omega⟩

theorem next_any (p K : Nat) (A : Option Addr) (n c : Nat) (w : World) (h : Cur w p K A n c) (hK : K ≤ 1048576) (hn : n ≤ maxLen) :
    Calls Try.prog 49 #[.pointer (some ⟨p, 0, none⟩)] w fun e w' => (∃ m : Nat, m < 256 ∧ e = .returned (.int .i64 m)) ∧ Went p (K + 1) A n c w w' := by
  unfold maxLen at hn
  obtain ⟨hp, hc, h0, f1, f2, i, s, hi, h1, h2⟩ := h
  by_cases hlt : i < n
  · rcases hc with rfl | ⟨b, o, rfl, hb, hcs⟩
    · omega
    have hcs' := Lib.hid hcs
    obtain ⟨m, hm, hcell⟩ := hcs i hlt
    clear hcs
    go_enter Try.func49, Try.ntmps49
    have q0 : (0 : Int) ≤ (i : Int) := by omega
    have q1 : (i : Int) < (n : Int) := by omega
    go_wp2_with fail
    go_region
    all_goals go_wp2_with fail
    all_goals go_region
    all_goals go_wp2_with fail
    all_goals go_region
    all_goals go_wp2_with fail
    all_goals go_ret
    all_goals exact ⟨⟨m, hm, rfl⟩, went_set hp (.inr ⟨b, o, rfl, hb, hcs'.out⟩) h0 f1 f2 hi h1 h2 _⟩
  · have hc' := Lib.hid hc; clear hc
    have q0 : (0 : Int) ≤ (i : Int) := by omega
    have q1 : ¬ ((i : Int) < (n : Int)) := by omega
    have q2 : ¬ ((i : Int) + 1 ≤ (n : Int)) := by omega
    go_enter Try.func49, Try.ntmps49
    go_wp2_with fail
    go_region
    all_goals go_wp2_with fail
    all_goals go_region
    all_goals go_wp2_with fail
    all_goals go_ret
    all_goals refine ⟨?_, went_set hp hc'.out h0 f1 f2 hi h1 h2 _⟩
    all_goals
      obtain ⟨m, hm, e⟩ := low_byte (IntKind.u64.wrap (IntKind.u64.wrap (s * 6364136223846793005)) + 462197)
      exact ⟨m, hm, congrArg (fun z => Ending.returned (.int .i64 z)) e⟩

theorem pick_any (p K : Nat) (A : Option Addr) (n c : Nat) (k : Nat) (w : World) (h : Cur w p K A n c) (hK : K ≤ 1048575) (hn : n ≤ maxLen) (hk0 : 0 < k) (hk : k ≤ 65536) :
    Calls Try.prog 41 #[.pointer (some ⟨p, 0, none⟩), .int .i64 k] w fun e w' => (∃ m : Nat, m < k ∧ e = .returned (.int .i64 m)) ∧ Went p (K + 2) A n c w w' := by
  by_cases h1 : k ≤ 1
  · have q1 : (k : Int) ≤ 1 := by omega
    have hw : Went p (K + 2) A n c w w := ⟨h.more (by omega), But.refl _ _⟩
    clear h
    go_enter Try.func41, Try.ntmps41
    go_wp2_with fail
    go_ret
    exact ⟨⟨0, hk0, rfl⟩, hw⟩
  · have q1 : ¬ (k : Int) ≤ 1 := by omega
    have H := Lib.hid (next_any p K A n c w h (by omega) hn)
    have H2 := Lib.hid fun w h => next_any p (K + 1) A n c w h (by omega) hn
    clear h
    by_cases h2 : k > 200
    · have q2 : (k : Int) > 200 := by omega
      go_enter Try.func41, Try.ntmps41
      go_wp2_with fail
      refine H.out.mono ?_
      rintro e w1 ⟨⟨m, hm, rfl⟩, hw⟩
      have Hw := Lib.hid hw; clear hw
      go_wp2_with fail
      refine (H2.out _ Hw.out.1).mono ?_
      rintro e w2 ⟨⟨j, hj, rfl⟩, hw2⟩
      have q3 : (0 : Int) ≤ (m : Int) * 256 + (j : Int) := by omega
      have q4 : (k : Int) ≠ 0 := by omega
      have Hw2 := Lib.hid (show Went p (K + 2) A n c w w2 from ⟨hw2.1.more (by omega), Hw.out.2.trans hw2.2⟩); clear hw2
      go_wp2_with fail
      go_ret
      exact ⟨⟨(m * 256 + j) % k, Nat.mod_lt _ hk0, by simp⟩, Hw2.out⟩
    · have q2 : ¬ (k : Int) > 200 := by omega
      go_enter Try.func41, Try.ntmps41
      go_wp2_with fail
      refine H.out.mono ?_
      rintro e w1 ⟨⟨m, hm, rfl⟩, hw⟩
      have q3 : (0 : Int) ≤ (m : Int) := by omega
      have q4 : (k : Int) ≠ 0 := by omega
      have Hw := Lib.hid (show Went p (K + 2) A n c w w1 from ⟨hw.1.more (by omega), hw.2⟩); clear hw
      go_wp2_with fail
      go_ret
      exact ⟨⟨m % k, Nat.mod_lt _ hk0, by simp⟩, Hw.out⟩

theorem one_any (p K : Nat) (A : Option Addr) (n c : Nat) (k : Nat) (w : World) (h : Cur w p K A n c) (hK : K ≤ 1048575) (hn : n ≤ maxLen) (hk0 : 0 < k) (hk : k ≤ 200) :
    Calls Try.prog 40 #[.pointer (some ⟨p, 0, none⟩), .int .i64 k] w fun e w' => (∃ b : Bool, e = .returned (.bool b)) ∧ Went p (K + 2) A n c w w' := by
  have H := Lib.hid (pick_any p K A n c k w h hK hn hk0 (by omega))
  clear h
  go_enter Try.func40, Try.ntmps40
  go_wp2_with fail
  refine H.out.mono ?_
  rintro e w1 ⟨⟨m, hm, rfl⟩, hw⟩
  have Hw := Lib.hid hw; clear hw
  go_wp2_with fail
  go_ret
  exact ⟨⟨_, rfl⟩, Hw.out⟩

/-- A cursor that was made just now. -/
theorem cur_made (w : World) (A : Option Addr) (n c : Nat) (t : TypeId) (h : Code w w.heap.size A n) : Cur (w.alloc (.cells #[.slice A n c, .int .i64 0, .int .u64 0] t)) w.heap.size 0 A n c := by
  refine ⟨by simp, h.below ((Below.refl _ _).alloc (Nat.le_refl _) _), ?_, ?_, ?_, 0, 0, Nat.le_refl _, ?_, ?_⟩
  all_goals simp

/-- Numbers in a block that isn't the cursor's. -/
def NsB (w : World) (g : Nat) (zs : List Int) : Prop := g < w.heap.size ∧ ∀ (k : Nat) z, zs[k]? = some z → w.cell? ⟨g, k, none⟩ = some (.int .i64 z)
theorem NsB.but {w w' : World} {g p : Nat} {zs : List Int} (h : NsB w g zs) (hg : g ≠ p) (hb : But p w w') : NsB w' g zs :=
  ⟨Nat.lt_of_lt_of_le h.1 hb.size, fun k q hq => (World.cell?_of_block (w := w) (a := ⟨g, k, none⟩) (hb.2.2.2.2 g h.1 hg)).trans (h.2 k q hq)⟩
theorem NsB.made (w : World) (zs : List Int) (t : TypeId) : NsB (w.alloc (.cells (zs.map fun z => Value.int .i64 z).toArray t)) w.heap.size zs := by
  refine ⟨by simp, fun k q hq => ?_⟩
  have hx : (zs.map fun z => Value.int .i64 z)[k]? = some (.int .i64 q) := by rw [List.getElem?_map, hq]; rfl
  rw [World.cell?_alloc_new, List.getElem?_toArray]
  exact hx

theorem among_any (p K : Nat) (A : Option Addr) (n c : Nat) (g cp : Nat) (zs : List Int) (w : World) (h : Cur w p K A n c) (hK : K ≤ 1048575) (hn : n ≤ maxLen) (hps0 : 0 < zs.length) (hps : zs.length ≤ 200) (hg : g ≠ p) (ht : NsB w g zs) :
    Calls Try.prog 35 #[.pointer (some ⟨p, 0, none⟩), .slice (some ⟨g, 0, none⟩) zs.length cp] w fun e w' => (∃ q, q ∈ zs ∧ e = .returned (.int .i64 q)) ∧ Went p (K + 2) A n c w w' := by
  have H := Lib.hid (pick_any p K A n c zs.length w h hK hn hps0 (by omega))
  have Ht := Lib.hid ht; clear ht
  clear h
  go_enter Try.func35, Try.ntmps35
  go_wp2_with fail
  refine H.out.mono ?_
  rintro e w1 ⟨⟨m, hm, rfl⟩, hw⟩
  have ht1 := Ht.out.but hg hw.2
  obtain ⟨q, hq⟩ : ∃ q, zs[m]? = some q := ⟨_, List.getElem?_eq_getElem hm⟩
  have hcell := ht1.2 m q hq
  have q3 : (0 : Int) ≤ (m : Int) := by omega
  have q4 : (m : Int) < (zs.length : Int) := by omega
  have Hw := Lib.hid hw; clear hw
  clear ht1
  go_wp2_with fail
  go_ret
  exact ⟨⟨q, List.mem_of_getElem? hq, rfl⟩, Hw.out⟩

end CurN
end Go.Proofs.Ytlpjmfmalejlpaa
