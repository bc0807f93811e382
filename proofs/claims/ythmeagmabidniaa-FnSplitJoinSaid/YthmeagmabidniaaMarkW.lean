/-
  Contracts of the law's own helpers that mark the texts of a list and look for the marks again.
-/
import Derived.Test.YthmeagmabidniaaRows
import Derived.Test.YthmeagmabidniaaTextsW
import Derived.WalkKit
import Derived.WalkLawsBesides
import Derived.WalkSpells
import Derived.Lib.Hide
import Derived.Deep.RegionWith
import Derived.Laws.IdiomStrings
import Derived.Lib.ItoaNum
import Derived.Lib.ItoaLen
import Derived.Lib.ItoaMem
namespace Go.Proofs.Ythmeagmabidniaa
open Go.RowKit

namespace MarkW
open Texts TextsW

/-- The mark of a number that is not 0. -/
def markL (k : Nat) : List UInt8 := 109 :: Lib.decDigits k
/-- What the loop keeps: the digits of K are those of k and those that are written. -/
def Left (K k : Nat) (t : List UInt8) : Prop := if k = 0 then Lib.decDigits K = t else Lib.decDigits K = Lib.decDigits k ++ t
theorem left_step {K k : Nat} {t : List UInt8} (h : Left K k t) (hk : 0 < k) : Left K (k / 10) (UInt8.ofNat (48 + k % 10) :: t) := by
  unfold Left at h
  rw [if_neg (by omega)] at h
  unfold Left
  by_cases h10 : k < 10
  · rw [if_pos (by omega), h, Lib.decDigits, dif_pos h10, show k % 10 = k by omega]
    rfl
  · rw [if_neg (by omega), h]
    conv => lhs; rw [Lib.decDigits, dif_neg h10]
    rw [List.append_assoc]
    rfl

/-- The byte of a digit, under a name. -/
def digB (k : Nat) : UInt8 := UInt8.ofNat (48 + k % 10)
theorem digB_nat (k : Nat) : ((digB k).toNat : Int) = 48 + (k : Int) % 10 := by
  unfold digB
  rw [UInt8.toNat_ofNat']
  omega
theorem run_byte (k : Nat) (w : World) :
    (convert 22 9 (.slice (some ⟨w.heap.size, 0, none⟩) 1 1)).run Try.prog (w.alloc (.cells #[.int .u8 (48 + (k : Int) % 10)] 5)) = .ok (.string ⟨#[digB k]⟩) (w.alloc (.cells #[.int .u8 (48 + (k : Int) % 10)] 5)) := by
  have h := run_convert_bytes_back (P := Try.prog) (w.alloc (.cells #[.int .u8 (48 + (k : Int) % 10)] 5)) 22 9 5 ⟨w.heap.size, 0, none⟩ 1 [digB k] Try.underlying22 Try.underlying5 Try.underlying9 (fun j hj => by
    have hj0 : j = 0 := by simpa using hj
    subst hj0
    simp only [List.getElem_cons_zero, digB_nat]
    simp [Addr.add])
  simpa using h
theorem run_put (k : Nat) (t : List UInt8) (hl : t.length ≤ 1048577) (w : World) :
    (Op.stringOp .add (ByteArray.mk #[digB k]) (ByteArray.mk t.toArray)).run Try.prog w = .ok (.string ⟨(digB k :: t).toArray⟩) w := by
  have h1 : (ByteArray.mk t.toArray).size = t.length := List.size_toArray
  rw [run_string_add_sum w _ _ (by rw [h1]; show 1 + t.length ≤ _; omega)]
  rw [show (ByteArray.mk #[digB k]) = ByteArray.mk [digB k].toArray from rfl, ByteArray.mk_append_mk]
  rfl
theorem run_m (t : List UInt8) (hl : t.length ≤ 1048577) (w : World) :
    (Op.stringOp .add (ByteArray.mk #[109]) (ByteArray.mk t.toArray)).run Try.prog w = .ok (.string ⟨(109 :: t).toArray⟩) w := by
  have h1 : (ByteArray.mk t.toArray).size = t.length := List.size_toArray
  rw [run_string_add_sum w _ _ (by rw [h1]; show 1 + t.length ≤ _; omega)]
  rw [show (ByteArray.mk #[109]) = ByteArray.mk [109].toArray from rfl, ByteArray.mk_append_mk]
  rfl

set_option maxHeartbeats 1000000 in
theorem markText_any (K : Nat) (hK : 0 < K) (hb : K ≤ 1048577) (w : World) :
    Calls Try.prog 35 #[.int .i64 K] w fun e w' => e = .returned (.string ⟨(markL K).toArray⟩) ∧ Below w.heap.size w w' := by
  go_enter Try.func35, Try.ntmps35
  go_wp2_with fail
  go_loopw [0, 3] (fun kv tv wr => ∃ (k : Nat) (t : List UInt8), k ≤ K ∧ kv = .int .i64 k ∧ tv = .string ⟨t.toArray⟩ ∧ t.length + k ≤ K ∧ Hid (Left K k t) ∧ Below w.heap.size w wr) (fun kv _ _ => (intOf kv).toNat)
  case atStart => exact ⟨K, [], Nat.le_refl _, rfl, rfl, by simp, by show Left K K []; unfold Left; rw [if_neg (by omega), List.append_nil], Below.refl _ _⟩
  case round =>
    obtain ⟨k, t, hk, rfl, rfl, hl, hst, hbl⟩ := hrel
    by_cases hpos : 0 < k
    · have hn : Hid (Left K (k / 10) (digB k :: t)) := left_step hst.out hpos
      have hbs := hbl.size
      have hcv := run_byte k wr
      have hput := fun w => run_put k t (by omega) w
      go_wp2_with fail
      go_roundw
      case rel => exact ⟨k / 10, digB k :: t, by omega, by go_num, rfl, by simp only [List.length_cons]; omega, hn, hbl.alloc hbs _⟩
      case measure => simp [intOf]; omega
    · have hk0 : k = 0 := by omega
      subst hk0
      have hdone := hst.out
      unfold Left at hdone
      rw [if_pos rfl] at hdone
      have hm := fun w => run_m t (by omega) w
      have Hd := Lib.hid hdone; clear hdone
      go_wp2_with fail
      go_ret
      exact ⟨by unfold markL; rw [Hd.out]; rfl, hbl⟩

theorem own_form {w : World} {B : Nat} {t : TypeId} {A : Option Addr} {n c : Nat} {xs : List Value} (h : w.ownsRow B t 1 (.slice A n c) n xs) (hn : 0 < n) : ∃ g, A = some ⟨g, 0, none⟩ ∧ B ≤ g := by
  rcases h.2 with ⟨_, h0⟩ | ⟨g, cap, _, hv, hb, _⟩
  · omega
  · injection hv with hA _ _
    exact ⟨g, hA, hb⟩
/-- The marks of n numbers from K on. -/
def marks (K n : Nat) : List (List UInt8) := (List.range n).map fun j => markL (K + j)
theorem marks_len (K n : Nat) : (marks K n).length = n := by unfold marks; simp
theorem marks_at {K n j : Nat} (h : j < n) : (marks K n)[j]? = some (markL (K + j)) := by unfold marks; simp [h]
theorem mark_fill (f : Nat → Value) (xs : List Value) (j : Nat) (h : j < xs.length) :
    ((List.range j).map f ++ xs.drop j).set j (f j) = (List.range (j + 1)).map f ++ xs.drop (j + 1) := by
  have hl : ((List.range j).map f).length = j := by simp
  rw [List.set_append_right _ _ (by omega), hl, Nat.sub_self, List.drop_eq_getElem_cons h, List.set_cons_zero, List.range_succ]
  simp

set_option maxHeartbeats 1000000 in
theorem mark_any (A : Option Addr) (c n : Nat) (xs : List Value) (K B : Nat) (w : World) (hK : 0 < K) (hb : K + n ≤ 1048577) (h : w.ownsRow B 9 1 (.slice A n c) n xs) (hB : B ≤ w.heap.size) :
    Calls Try.prog 19 #[.slice A n c, .int .i64 K] w fun e w' => e = .returned (.int .i64 ((K : Int) + n)) ∧
      w'.ownsRow B 9 1 (.slice A n c) n ((marks K n).map fun p => Value.string ⟨p.toArray⟩) ∧ Below B w w' := by
  have hxl := h.1
  rw [Nat.mul_one] at hxl
  have Hxl := Lib.hid hxl; clear hxl
  go_enter Try.func19, Try.ntmps19
  go_wp2_with fail
  go_loopw [1, 5] (fun kv i wr => ∃ j : Nat, j ≤ n ∧ i = .int .i64 j ∧ kv = .int .i64 ((K : Int) + j) ∧
      wr.ownsRow B 9 1 (.slice A n c) n ((List.range j).map (fun j => Value.string ⟨(markL (K + j)).toArray⟩) ++ xs.drop j) ∧ Below B w wr) (fun _ i _ => n - (intOf i).toNat)
  case atStart => exact ⟨0, Nat.zero_le _, rfl, by simp, by simpa using h, Below.refl _ _⟩
  case round =>
    obtain ⟨j, hj, rfl, rfl, hown, hbl⟩ := hrel
    clear h
    by_cases hlt : j < n
    · obtain ⟨g, rfl, hBg⟩ := own_form hown (by omega)
      have hbs := hbl.size
      have hst : Hid (∀ w1, wr.grownBy w1 none → (w1.setCell ⟨g, j, none⟩ (.string ⟨(markL (K + j)).toArray⟩)).ownsRow B 9 1 (.slice (some ⟨g, 0, none⟩) n c) n ((List.range (j + 1)).map (fun j => Value.string ⟨(markL (K + j)).toArray⟩) ++ xs.drop (j + 1)) ∧
          (∃ v, w1.cell? ⟨g, j, none⟩ = some v) ∧ w1.frozen? ⟨g, j, none⟩ = false) := fun w1 hg1 => by
        have ho := hown.kept hg1 (Classical.em _)
        refine ⟨?_, ?_, ho.frozenAt j⟩
        · have := (ho.stored j (.string ⟨(markL (K + j)).toArray⟩)).1
          rwa [mark_fill (fun j => Value.string ⟨(markL (K + j)).toArray⟩) xs j (by rw [Hxl.out]; exact hlt)] at this
        · rw [ho.cellAt j (by omega)]
          exact ⟨_, List.getElem?_eq_getElem (by have := ho.1; omega)⟩
      have hmk := Lib.hid (fun w => markText_any (K + j) (by omega) (by omega) w)
      clear hown
      go_wp2_with fail
      have hcast : ((K : Int) + (j : Int)) = ((K + j : Nat) : Int) := by omega
      rw [hcast]
      clear hcast
      refine (hmk.out _).mono ?_
      rintro e w1 ⟨rfl, hb1⟩
      obtain ⟨ho2, ⟨v0, hv0⟩, hfr⟩ := hst.out w1 ⟨hb1.os, hb1.tape, hb1.output, hb1.size, fun k hk _ => hb1.block k hk⟩
      have Ho2 := Lib.hid ho2; clear ho2
      go_wp2_with fail
      go_roundw
      case rel => exact ⟨j + 1, by omega, by go_num, by go_num, Ho2.out, (hbl.trans (hb1.mono (by omega))).setCell (p := ⟨g, j, none⟩) hBg _⟩
      case measure => simp [intOf]; omega
    · have hjn : j = n := by omega
      subst hjn
      have ho := Lib.hid hown
      rw [List.drop_eq_nil_of_le (by rw [Hxl.out]; exact Nat.le_refl _), List.append_nil] at ho
      clear hown
      go_wp2_with fail
      go_ret
      exact ⟨rfl, by unfold marks; rw [List.map_map]; exact ho.out, hbl⟩

set_option maxHeartbeats 1000000 in
theorem held_any (A : Option Addr) (c n : Nat) (K : Nat) (w : World) (hK : 0 < K) (hb : K + n ≤ 1048577) (h : Txs w A (marks K n)) :
    Calls Try.prog 20 #[.slice A n c, .int .i64 K] w fun e w' => e = .returned (.int .i64 ((K : Int) + n)) ∧ Below w.heap.size w w' := by
  have H := Lib.hid h; clear h
  go_enter Try.func20, Try.ntmps20
  go_wp2_with fail
  go_loopw [1, 5] (fun kv i wr => ∃ j : Nat, j ≤ n ∧ i = .int .i64 j ∧ kv = .int .i64 ((K : Int) + j) ∧ Below w.heap.size w wr) (fun _ i _ => n - (intOf i).toNat)
  case atStart => exact ⟨0, Nat.zero_le _, rfl, by simp, Below.refl _ _⟩
  case round =>
    obtain ⟨j, hj, rfl, rfl, hbl⟩ := hrel
    by_cases hlt : j < n
    · have hbs := hbl.size
      have hx := H.out.below (Nat.le_refl _) hbl
      obtain ⟨bk, o, p, rfl, hp, hc⟩ := hx.at_ (k := j) (by rw [marks_len]; exact hlt)
      rw [marks_at hlt] at hp
      obtain rfl : markL (K + j) = p := Option.some.inj hp
      have hmk := Lib.hid (fun w => markText_any (K + j) (by omega) (by omega) w)
      have Hx := Lib.hid (World.block_lt_of_cell? _ _ hc)
      have hi1 : (0 : Int) ≤ (j : Int) := by omega
      have hi2 : (j : Int) < (n : Int) := by omega
      have hcast : ((K : Int) + (j : Int)) = ((K + j : Nat) : Int) := by omega
      have Hcast := Lib.hid hcast
      rw [hcast]
      clear hx hp hcast
      go_wp2_with fail
      go_region_with (go_at_call 35; refine (hmk.out _).mono ?_; rintro e w1 ⟨rfl, hb1⟩; have hc1 := (hb1.cell (p := ⟨bk, o + j, none⟩) Hx.out).trans hc)
      all_goals go_wp2_with fail
      all_goals go_roundw
      all_goals first
        | exact ⟨j + 1, by omega, by go_num, by go_num, hbl.trans (((Below.refl _ wr).drew).trans (hb1.mono hbs))⟩
        | (simp [intOf]; omega)
    · have hjn : j = n := by omega
      subst hjn
      go_wp2_with fail
      go_ret
      exact ⟨rfl, hbl⟩

end MarkW
end Go.Proofs.Ythmeagmabidniaa
