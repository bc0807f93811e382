/-
  Contracts of the draws of a number, a text of a number and a text: weak ones; and of what the law reads of its code.
-/
import Derived.Test.YthmeagmabidniaaDoorCurD
import Derived.Test.YthmeagmabidniaaDoorNumW
import Derived.Laws.MakeOwn
import Derived.Laws.OwnMore
import Derived.Laws.BytesArg
import Derived.RangeFuncBox
namespace Go.Proofs.YthmeagmabidniaaDoor
open Go.RowKit

namespace DrawD
open CurD

theorem big_yes (A : Option Addr) (n c : Nat) (w : World) (h : 65536 < n) (hn : n ≤ maxLen) :
    Calls Tryd.prog 8 #[.slice A n c] w fun e w' => e = .returned (.bool true) ∧ w = w' := by
  unfold maxLen at hn
  have e0 : (65536 : Int) < (n : Int) := by omega
  go_enter Tryd.func8, Tryd.ntmps8
  go_wp2_with fail
  go_ret
  exact ⟨by simp, rfl⟩
theorem big_no (A : Option Addr) (n c : Nat) (w : World) (h : ¬ 65536 < n) :
    Calls Tryd.prog 8 #[.slice A n c] w fun e w' => e = .returned (.bool false) ∧ w = w' := by
  have e0 : ¬ (65536 : Int) < (n : Int) := by omega
  go_enter Tryd.func8, Tryd.ntmps8
  go_wp2_with fail
  go_ret
  exact ⟨by simp, rfl⟩

theorem vAt_any (A : Option Addr) (n c : Nat) (i : Nat) (w : World) {B : Nat} (h : CurD.Code w B A n) (hn : n ≤ 65536) (hi : i ≤ 65536) :
    Calls Tryd.prog 19 #[.slice A n c, .int .i64 i] w fun e w' => ∃ m : Nat, m < 256 ∧ e = .returned (.int .i64 m) ∧ w = w' := by
  by_cases hlt : i < n
  · rcases h with rfl | ⟨b, o, rfl, hb, hcs⟩
    · omega
    obtain ⟨m, hm, hcell⟩ := hcs i hlt
    have q0 : (0 : Int) ≤ (i : Int) := by omega
    have q1 : (i : Int) < (n : Int) := by omega
    clear hcs
    go_enter Tryd.func19, Tryd.ntmps19
    go_wp2_with fail
    go_ret
    exact ⟨m, hm, rfl, rfl⟩
  · have q1 : ¬ (i : Int) < (n : Int) := by omega
    clear h
    go_enter Tryd.func19, Tryd.ntmps19
    go_wp2_with fail
    go_ret
    exact ⟨(i * 7 + n) % 256, by omega, by simp, rfl⟩

def nums (m : Nat) : List Int := [0, 1, -1, 10, 999999, -999999, 1000000, -1000000, (m : Int) - 500]
theorem nums_in {m : Nat} {z : Int} (hm : m < 1000) (h : z ∈ nums m) : -1000000 ≤ z ∧ z ≤ 1000000 := by
  unfold nums at h
  simp only [List.mem_cons, List.not_mem_nil, or_false] at h
  omega

theorem drawFormat_any (A : Option Addr) (n c : Nat) (w : World) (h : CurD.Code w w.heap.size A n) (hn : n ≤ maxLen) :
    Calls Tryd.prog 9 #[.slice A n c] w fun e w' => (∃ z : Int, -1000000 ≤ z ∧ z ≤ 1000000 ∧ e = .returned (.int .i64 z)) ∧ Below w.heap.size w w' := by
  have hcur := Lib.hid (cur_made w A n c 37 h)
  have Hp := Lib.hid fun K (k : Nat) w' (hc : Cur w' w.heap.size K A n c) hK h0 hk => pick_any w.heap.size K A n c k w' hc hK hn h0 hk
  have Ha := Lib.hid fun K g cp zs w' (hc : Cur w' w.heap.size K A n c) hK h0 h1 hg ht => among_any w.heap.size K A n c g cp zs w' hc hK hn h0 h1 hg ht
  clear h
  go_enter Tryd.func9, Tryd.ntmps9
  go_wp2_with fail
  refine (Hp.out 0 1000 _ hcur.out (by omega) (by omega) (by omega)).mono ?_
  rintro e w1 ⟨⟨m, hm, rfl⟩, hw1⟩
  have Hw1 := Lib.hid hw1; clear hw1
  go_wp2_with fail
  have hs1 : w.heap.size < w1.heap.size := Hw1.out.1.1
  have hb : Below w1.heap.size w1 (w1.alloc (.cells ((nums m).map fun z => Value.int .i64 z).toArray 3)) := (Below.refl _ _).alloc (Nat.le_refl _) _
  refine (Ha.out 2 w1.heap.size 9 (nums m) _ (Hw1.out.1.below hb) (by omega) (by simp [nums]) (by simp [nums]) (by omega) (NsB.made w1 (nums m) _)).mono ?_
  rintro e w2 ⟨⟨z, hz, rfl⟩, hw2⟩
  have hz' := nums_in hm hz
  have Hw2 := Lib.hid ((Hw1.out.2.trans (But.of_below hb)).trans hw2.2); clear hw2 hb
  go_wp2_with fail
  go_ret
  exact ⟨⟨z, hz'.1, hz'.2, rfl⟩, ((Below.refl _ _).alloc (Nat.le_refl _) _).trans (Hw2.out.below (Nat.le_refl _) (by simp))⟩

def odd : List (List UInt8) := [[], [45], [45, 48], [48, 48], [48, 49], [45, 45, 49], [49, 120], [57, 57, 57, 57, 57, 57], [49, 48, 48, 48, 48, 48, 48], [45, 57, 57, 57, 57, 57, 57], [49, 56, 52, 52, 54, 55, 52, 52, 48, 55, 51, 55, 48, 57, 53, 53, 49, 54, 49, 55]]
theorem odd_len {q : List UInt8} (h : q ∈ odd) : q.length ≤ 20 := by
  have : ∀ q ∈ odd, q.length ≤ 20 := by decide
  exact this q h
theorem size_toArray (q : List UInt8) : (ByteArray.mk q.toArray).size = q.length := by simp [ByteArray.size]

theorem drawParse_any (A : Option Addr) (n c : Nat) (w : World) (h : CurD.Code w w.heap.size A n) (hn : n ≤ maxLen) :
    Calls Tryd.prog 12 #[.slice A n c] w fun e w' => (∃ s : ByteArray, s.size ≤ 30 ∧ e = .returned (.string s)) ∧ Below w.heap.size w w' := by
  have hcur := Lib.hid (cur_made w A n c 37 h)
  have Hp := Lib.hid fun K (k : Nat) w' (hc : Cur w' w.heap.size K A n c) hK h0 hk => pick_any w.heap.size K A n c k w' hc hK hn h0 hk
  have H1 := Lib.hid fun K (k : Nat) w' (hc : Cur w' w.heap.size K A n c) hK h0 hk => one_any w.heap.size K A n c k w' hc hK hn h0 hk
  have Ho := Lib.hid fun K g cp w' (hc : Cur w' w.heap.size K A n c) hK hg ht => of_any w.heap.size K A n c g cp odd w' hc hK hn (by decide) (by decide) hg ht
  have Hn := Lib.hid fun (z : Int) w h0 h1 => NumW.l1Num_any z w h0 h1
  clear h
  go_enter Tryd.func12, Tryd.ntmps12
  go_wp2_with fail
  refine (H1.out 0 2 _ hcur.out (by omega) (by omega) (by omega)).mono ?_
  rintro e w1 ⟨⟨b, rfl⟩, hw1⟩
  have hs1 : w.heap.size < w1.heap.size := hw1.1.1
  have Hw1 := Lib.hid hw1; clear hw1
  cases b
  · go_wp2_with fail
    refine (Hp.out 2 2000 _ Hw1.out.1 (by omega) (by omega) (by omega)).mono ?_
    rintro e w2 ⟨⟨m, hm, rfl⟩, hw2⟩
    have Hw2 := Lib.hid (Hw1.out.2.trans hw2.2); clear hw2
    go_wp2_with fail
    refine (Hn.out _ _ (by omega) (by omega)).mono ?_
    rintro e w3 ⟨rfl, q, rfl⟩
    have hl := Lib.itoa_length_le ((m : Int) - 1000) (by omega) (by omega)
    go_wp2_with fail
    go_ret
    exact ⟨⟨_, by rw [size_toArray]; omega, rfl⟩, below_drewN (((Below.refl _ _).alloc (Nat.le_refl _) _).trans (Hw2.out.below (Nat.le_refl _) (by simp))) q⟩
  · go_wp2_with fail
    have hb : Below w1.heap.size w1 (w1.alloc (.cells (odd.map fun q => Value.string ⟨q.toArray⟩).toArray 9)) := (Below.refl _ _).alloc (Nat.le_refl _) _
    refine (Ho.out 2 w1.heap.size 11 _ (Hw1.out.1.below hb) (by omega) (by omega) (TxB.made w1 odd _)).mono ?_
    rintro e w2 ⟨⟨q, hq, rfl⟩, hw2⟩
    have hq' := odd_len hq
    have Hw2 := Lib.hid ((Hw1.out.2.trans (But.of_below hb)).trans hw2.2); clear hw2 hb
    go_wp2_with fail
    go_ret
    exact ⟨⟨_, by rw [size_toArray]; omega, rfl⟩, ((Below.refl _ _).alloc (Nat.le_refl _) _).trans (Hw2.out.below (Nat.le_refl _) (by simp))⟩

theorem info_u8 : (Tryd.prog.info? 5).map (fun i => (i.zero, i.size, i.bytes)) = some (some (.int .u8 0), 1, 1) := by kernel_rfl
/-- What the law reads of its code at one place, whichever later world. -/
theorem vAt_val (A : Option Addr) (n c : Nat) (i : Nat) (w : World) {B : Nat} (h : CurD.Code w B A n) (hn : n ≤ 65536) (hi : i ≤ 65536) :
    ∃ m : Nat, m < 256 ∧ ∀ w1, Below B w w1 → Calls Tryd.prog 19 #[.slice A n c, .int .i64 i] w1 fun e w' => e = .returned (.int .i64 m) ∧ w1 = w' := by
  by_cases hlt : i < n
  · rcases h with rfl | ⟨b, o, rfl, hb, hcs⟩
    · omega
    obtain ⟨m, hm, hcell⟩ := hcs i hlt
    refine ⟨m, hm, fun w1 hbw => ?_⟩
    have hc1 := (hbw.cell (p := ⟨b, o + i, none⟩) hb).trans hcell
    have q0 : (0 : Int) ≤ (i : Int) := by omega
    have q1 : (i : Int) < (n : Int) := by omega
    clear hcs hcell hbw
    go_enter Tryd.func19, Tryd.ntmps19
    go_wp2_with fail
    go_ret
    exact ⟨rfl, rfl⟩
  · refine ⟨(i * 7 + n) % 256, by omega, fun w1 _ => ?_⟩
    have q1 : ¬ (i : Int) < (n : Int) := by omega
    clear h
    go_enter Tryd.func19, Tryd.ntmps19
    go_wp2_with fail
    go_ret
    exact ⟨by simp, rfl⟩

/-- So many zero bytes, made and turned into a text. -/
theorem zeros (w : World) (L : Nat) (hL : L ≤ 8192) : ∃ (C : Array Value) (r : ByteArray), r.size = L ∧
    (Instr.makeSlice 22 (.int .i64 (L : Int)) (.int .i64 (L : Int))).run Tryd.prog w = .ok (.slice (some ⟨w.heap.size, 0, none⟩) L L) (w.alloc (.cells C 5)) ∧
    (convert 22 9 (.slice (some ⟨w.heap.size, 0, none⟩) L L)).run Tryd.prog (w.alloc (.cells C 5)) = .ok (.string r) (w.alloc (.cells C 5)) := by
  obtain ⟨i0, hi, hz0, hz1, hz2⟩ := info_parts info_u8
  have hmk := run_make (P := Tryd.prog) w 22 5 i0 (.int .u8 0) Tryd.underlying22 hi hz0 .i64 .i64 L L (by omega) (Int.le_refl _) (by rw [hz2]; omega) (by omega)
  simp only [Int.toNat_natCast, hz1, Nat.mul_one] at hmk
  refine ⟨_, strOfNums (List.replicate L 0), by rw [strOfNums_size, List.length_replicate], hmk, ?_⟩
  refine run_convert_bytes_arg _ 22 5 Tryd.underlying22 Tryd.underlying5 w.heap.size 0 L L _ (List.length_replicate ..) (fun i hi => ?_) 9 Tryd.underlying9
  rw [World.cell?_alloc_new, Nat.zero_add]
  rw [← Array.getElem?_toList, show (Value.int IntKind.u8 0).cells = #[Value.int .u8 0] from rfl, toList_madeCells_one]
  simp [hi]

theorem drawAppend_any (A : Option Addr) (n c : Nat) (w : World) (h : CurD.Code w w.heap.size A n) (hn : n ≤ maxLen) :
    Calls Tryd.prog 15 #[.slice A n c] w fun e w' => (∃ s : ByteArray, s.size ≤ 8192 ∧ e = .returned (.string s)) ∧ Below w.heap.size w w' := by
  have hcur := Lib.hid (cur_made w A n c 37 h)
  have Hp := Lib.hid fun K (k : Nat) w' (hc : Cur w' w.heap.size K A n c) hK h0 hk => pick_any w.heap.size K A n c k w' hc hK hn h0 hk
  have H1 := Lib.hid fun K (k : Nat) w' (hc : Cur w' w.heap.size K A n c) hK h0 hk => one_any w.heap.size K A n c k w' hc hK hn h0 hk
  have H := Lib.hid fun K w' (hc : Cur w' w.heap.size K A n c) hK => any1_any w.heap.size K A n c w' hc hK hn
  clear h
  go_enter Tryd.func15, Tryd.ntmps15
  go_wp2_with fail
  refine (H1.out 0 20 _ hcur.out (by omega) (by omega) (by omega)).mono ?_
  rintro e w1 ⟨⟨b, rfl⟩, hw1⟩
  have hs1 : w.heap.size < w1.heap.size := hw1.1.1
  have Hw1 := Lib.hid hw1; clear hw1
  cases b
  · go_wp2_with fail
    refine (H.out 2 _ Hw1.out.1 (by omega)).mono ?_
    rintro e w2 ⟨⟨q, hq, rfl⟩, hw2⟩
    have hq' := words_len hq
    have Hw2 := Lib.hid (Hw1.out.2.trans hw2.2); clear hw2
    go_wp2_with fail
    go_ret
    exact ⟨⟨_, by rw [size_toArray]; omega, rfl⟩, ((Below.refl _ _).alloc (Nat.le_refl _) _).trans (Hw2.out.below (Nat.le_refl _) (by simp))⟩
  · go_wp2_with fail
    refine (Hp.out 2 10 _ Hw1.out.1 (by omega) (by omega) (by omega)).mono ?_
    rintro e w2 ⟨⟨x, hx, rfl⟩, hw2⟩
    have Hw2 := Lib.hid (Hw1.out.2.trans hw2.2)
    have hs2 : w.heap.size < w2.heap.size := hw2.1.1
    clear hw2
    obtain ⟨C, r, hr, hmk, hcv⟩ := zeros w2 (3990 + x) (by omega)
    rw [show ((3990 + x : Nat) : Int) = 3990 + (x : Int) by omega] at hmk
    go_wp2_with fail
    go_ret
    exact ⟨⟨_, by omega, rfl⟩, (((Below.refl _ _).alloc (Nat.le_refl _) _).trans (Hw2.out.below (Nat.le_refl _) (by simp))).alloc (by omega) _⟩

end DrawD
end Go.Proofs.YthmeagmabidniaaDoor
