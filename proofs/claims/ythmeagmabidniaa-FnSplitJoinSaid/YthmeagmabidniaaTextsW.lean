/-
  Contracts of the law's own helpers on lists of texts: their size against a bound, a copy, and whether two are the same.
-/
import Derived.Test.YthmeagmabidniaaRows
import Derived.Test.YthmeagmabidniaaTexts
import Derived.WalkKit
import Derived.WalkLawsBesides
import Derived.Lib.Hide
import Derived.Deep.QuietTactic
import Derived.BigQuiet
import Derived.WalkSmall
namespace Go.Proofs.Ythmeagmabidniaa
open Go.RowKit

namespace TextsW
open Texts

theorem ret_int {k : IntKind} {a b : Int} (h : a = b) : Ending.returned (.int k a) = .returned (.int k b) := by rw [h]
def lit (p : List UInt8) : Value := .string ⟨p.toArray⟩
/-- A result that holds these texts in memory of its own. -/
def Own (w : World) (ps : List (List UInt8)) (e : Ending) (w' : World) : Prop :=
  ∃ A c, e = .returned (.slice A ps.length c) ∧ w'.ownsRow w.heap.size 9 1 (.slice A ps.length c) ps.length (ps.map fun p => Value.string ⟨p.toArray⟩) ∧ Below w.heap.size w w'

set_option maxHeartbeats 400000 in
theorem sz_yes (A : Option Addr) (c : Nat) (ps : List (List UInt8)) (left : Int) (w : World) (h : Txs w A ps) (hl : ((ps.length : Nat) : Int) + (lens ps : Nat) ≤ left) (hb : left ≤ 1048576) :
    Calls Try.prog 21 #[.slice A ps.length c, .int .i64 left] w fun e w' => e = .returned (.int .i64 (left - ps.length - lens ps)) ∧ w = w' := by
  have H := Lib.hid h; clear h
  go_enter Try.func21, Try.ntmps21
  go_wp2_with fail
  go_loop [1, 5] (fun l i => ∃ k : Nat, k ≤ ps.length ∧ i = .int .i64 k ∧ l = .int .i64 (left - ps.length - lens (ps.take k))) (fun _ i => ps.length - (intOf i).toNat)
  case atStart => exact ⟨0, Nat.zero_le _, rfl, by simp [lens]⟩
  case round =>
    obtain ⟨k, hk, rfl, rfl⟩ := hrel
    have hle := lens_le ps k
    by_cases hlt : k < ps.length
    · obtain ⟨bk, o, p, rfl, hp, hc⟩ := H.out.at_ hlt
      have hle1 := lens_le ps (k + 1)
      have hst := lens_take hp
      rw [hst] at hle1
      have Hst := Lib.hid hst; clear hst hp
      go_wp2_with fail
      go_round
      case rel => exact ⟨k + 1, by omega, by go_num, by rw [Hst.out]; congr 1; omega⟩
      case measure => simp [intOf]; omega
    · have hks : k = ps.length := by omega
      subst hks
      go_wp2_with fail
      go_ret
      exact ⟨ret_int rfl, rfl⟩

set_option maxHeartbeats 400000 in
theorem sz_no (A : Option Addr) (c : Nat) (ps : List (List UInt8)) (left : Int) (w : World) (h : Txs w A ps) (hz : ∀ p ∈ ps, p.length ≤ maxLen) (hn : ps.length ≤ maxLen) (h0 : 0 ≤ left) (hl : left < ((ps.length : Nat) : Int) + (lens ps : Nat)) (hb : left ≤ 1048576) :
    Calls Try.prog 21 #[.slice A ps.length c, .int .i64 left] w fun e w' => e = .returned (.int .i64 (-1)) ∧ w = w' := by
  have H := Lib.hid h; clear h
  have Hz := Lib.hid hz; clear hz
  unfold maxLen at hn
  by_cases hearly : left < (ps.length : Int)
  · go_enter Try.func21, Try.ntmps21
    go_wp2_with fail
    go_ret
    exact ⟨rfl, rfl⟩
  · go_enter Try.func21, Try.ntmps21
    go_wp2_with fail
    go_loop [1, 5] (fun l i => ∃ k : Nat, k ≤ ps.length ∧ i = .int .i64 k ∧ l = .int .i64 (left - ps.length - lens (ps.take k)) ∧ 0 ≤ left - ps.length - (lens (ps.take k) : Nat)) (fun _ i => ps.length - (intOf i).toNat)
    case atStart => exact ⟨0, Nat.zero_le _, rfl, by simp [lens], by simp [lens]; omega⟩
    case round =>
      obtain ⟨k, hk, rfl, rfl, hpos⟩ := hrel
      by_cases hlt : k < ps.length
      · obtain ⟨bk, o, p, rfl, hp, hc⟩ := H.out.at_ hlt
        have hst := lens_take hp
        have hpz := Hz.out p (List.mem_of_getElem? hp)
        unfold maxLen at hpz
        have Hst := Lib.hid hst; clear hst hp
        by_cases hover : left - ps.length - (lens (ps.take k) : Nat) - p.length < 0
        · go_wp2_with fail
          go_ret
          exact ⟨rfl, rfl⟩
        · go_wp2_with fail
          go_round
          case rel => exact ⟨k + 1, by omega, by go_num, by rw [Hst.out]; congr 1; omega, by rw [Hst.out]; omega⟩
          case measure => simp [intOf]; omega
      · have hks : k = ps.length := by omega
        subst hks
        rw [List.take_length] at hpos
        omega

theorem info_str : (Try.prog.info? 9).map (fun i => (i.zero, i.size, i.bytes)) = some (some (.string ByteArray.empty), 1, 16) := by kernel_rfl
theorem fill_step (f : List UInt8 → Value) (z : Value) (ps : List (List UInt8)) (k : Nat) (p : List UInt8) (hp : ps[k]? = some p) :
    ((ps.take k).map f ++ List.replicate (ps.length - k) z).set k (f p) = (ps.take (k + 1)).map f ++ List.replicate (ps.length - (k + 1)) z := by
  have hk := (List.getElem?_eq_some_iff.1 hp).1
  have hl : ((ps.take k).map f).length = k := by rw [List.length_map, List.length_take]; omega
  rw [List.set_append_right _ _ (by omega), hl, Nat.sub_self, List.take_add_one, hp]
  obtain ⟨m, hm⟩ : ∃ m, ps.length - k = m + 1 := ⟨ps.length - k - 1, by omega⟩
  rw [hm, show ps.length - (k + 1) = m by omega, List.replicate_succ, List.set_cons_zero]
  simp

set_option maxHeartbeats 400000 in
theorem to_any (A : Option Addr) (c : Nat) (ps : List (List UInt8)) (w : World) (h : Txs w A ps) (hn : ps.length ≤ 1048576) :
    Calls Try.prog 22 #[.slice A ps.length c] w (Own w ps) := by
  have H := Lib.hid h; clear h
  obtain ⟨i0, hi, hz0, hz1, hz2⟩ := info_parts info_str
  obtain ⟨w1, hr, hown1, hg1⟩ := run_make_full (P := Try.prog) w w.heap.size 26 9 i0 (.string ByteArray.empty) 1 Try.underlying26 hi hz0 hz1 .i64 .i64 ps.length (by rw [hz2]; omega) (by unfold maxLen; omega) (Nat.le_refl _)
  rw [Nat.mul_one, show (Value.string ByteArray.empty).cells = #[.string ByteArray.empty] from rfl, toList_madeCells_one] at hown1
  have hb1 : Below w.heap.size w w1 := (Below.refl _ _).grown hg1 (Nat.le_refl _) (fun _ e => by cases e)
  clear hi hz0 hz1 hz2 hg1
  go_enter Try.func22, Try.ntmps22
  go_wp2_with fail
  go_loopw [4] (fun i wr => ∃ k : Nat, k ≤ ps.length ∧ i = .int .i64 k ∧
      wr.ownsRow w.heap.size 9 1 (.slice (some ⟨w.heap.size, 0, none⟩) ps.length ps.length) ps.length ((ps.take k).map lit ++ List.replicate (ps.length - k) (.string ByteArray.empty)) ∧ Below w.heap.size w wr)
    (fun i _ => ps.length - (intOf i).toNat)
  case atStart => exact ⟨0, Nat.zero_le _, rfl, by simpa using hown1, hb1⟩
  case round =>
    obtain ⟨k, hk, rfl, hown, hb⟩ := hrel
    by_cases hlt : k < ps.length
    · obtain ⟨bk, o, p, rfl, hp, hc⟩ := (H.out.below (Nat.le_refl _) hb).at_ hlt
      have hst := Lib.hid ((hown.stored k (lit p)).1)
      rw [fill_step lit _ ps k p hp] at hst
      have hfr := hown.frozenAt k
      have hold : ∃ v, wr.cell? ⟨w.heap.size, k, none⟩ = some v := by
        rw [hown.cellAt k (by omega)]
        exact ⟨_, List.getElem?_eq_getElem (by have := hown.1; omega)⟩
      obtain ⟨v0, hv0⟩ := hold
      clear hown hp
      go_wp2_with fail
      go_roundw
      case rel => exact ⟨k + 1, by omega, by go_num, hst.out, hb.setCell (p := ⟨w.heap.size, k, none⟩) (Nat.le_refl _) _⟩
      case measure => simp [intOf]; omega
    · have hks : k = ps.length := by omega
      subst hks
      have ho := Lib.hid hown
      rw [List.take_length, Nat.sub_self, List.replicate_zero, List.append_nil] at ho
      clear hown
      go_wp2_with fail
      go_ret
      exact ⟨_, _, rfl, ho.out, hb⟩

set_option maxHeartbeats 400000 in
theorem eq_same (A A' : Option Addr) (c c' : Nat) (ps : List (List UInt8)) (w : World) (h : Txs w A ps) (h' : Txs w A' ps) (hn : ps.length ≤ maxLen) :
    Calls Try.prog 18 #[.slice A ps.length c, .slice A' ps.length c'] w fun e w' => e = .returned (.bool true) ∧ ∃ q, w' = w.drewN q := by
  have H := Lib.hid h; clear h
  have H' := Lib.hid h'; clear h'
  unfold maxLen at hn
  go_enter Try.func18, Try.ntmps18
  go_wp2_with fail
  go_loopw [5] (fun i wr => ∃ k q : Nat, k ≤ ps.length ∧ i = .int .i64 k ∧ wr = w.drewN q) (fun i _ => ps.length - (intOf i).toNat)
  case atStart => exact ⟨0, 0, Nat.zero_le _, rfl, rfl⟩
  case round =>
    obtain ⟨k, q, hk, rfl, rfl⟩ := hrel
    by_cases hlt : k < ps.length
    · obtain ⟨bk, o, p, rfl, hp, hc⟩ := H.out.at_ hlt
      obtain ⟨bk', o', p', rfl, hp', hc'⟩ := H'.out.at_ hlt
      obtain rfl : p = p' := Option.some.inj (hp.symm.trans hp')
      have hi1 : (0 : Int) ≤ (k : Int) := by omega
      have hi2 : (k : Int) < (ps.length : Int) := by omega
      clear hp hp'
      go_wp2_with fail
      go_quiet (fail)
      go_wp2_with fail
      go_roundw
      case rel => exact ⟨k + 1, _, by omega, by go_num, rfl⟩
      case measure => simp [intOf]; omega
    · go_wp2_with fail
      go_ret
      exact ⟨rfl, _, rfl⟩

end TextsW
end Go.Proofs.Ythmeagmabidniaa
