/-
  The contract of the model's function that parts a text at a byte, for every text up to a bound.
-/
import Derived.Test.YthmeagmabidniaaDoorRows
import Derived.Test.YthmeagmabidniaaDoorStrs
import Derived.Test.YthmeagmabidniaaDoorSplit
import Derived.WalkKit
import Derived.WalkLawsBesides
import Derived.Lib.Hide
import Derived.RangeFuncBox
namespace Go.Proofs.YthmeagmabidniaaDoor
open Go.RowKit

namespace SplitW
open Strs Split

/-- A text as a value; what a result of several texts says. -/
def strV (p : List UInt8) : Value := .string ⟨p.toArray⟩
def Texts (w : World) (ps : List (List UInt8)) (e : Ending) (w' : World) : Prop :=
  ∃ v, e = .returned v ∧ w'.ownsRow w.heap.size 9 1 v ps.length (ps.map strV) ∧ Below w.heap.size w w'

theorem info_str : (Tryd.prog.info? 9).map (fun i => (i.zero, i.size, i.bytes)) = some (some (.string ByteArray.empty), 1, 16) := by kernel_rfl

theorem cell_new (w : World) (v : Value) (t : TypeId) : ∀ j u, [v][j]? = some u → (w.alloc (.cells #[v] t)).cell? ((⟨w.heap.size, 0, none⟩ : Addr).add j) = some u := by
  intro j u hj
  match j, hj with
  | 0, hj => simp at hj; subst hj; simp [Addr.add]
theorem str_one (b : ByteArray) : ∀ u ∈ [Value.string b], u.oneCell' = true := by
  intro u hu; simp at hu; subst hu; rfl
/-- What the append leaves, in the relation's words. -/
theorem own_more {w : World} {B n : Nat} {t : TypeId} {v : Value} {ps qs : List (List UInt8)} {p : List UInt8} {b : ByteArray} (hb : Value.string b = strV p) (hq : qs = ps ++ [p]) (hn : n = ps.length)
    (h : w.ownsRow B t 1 v (n + 1) (ps.map strV ++ [Value.string b])) : w.ownsRow B t 1 v qs.length (qs.map strV) := by
  subst hn hq
  rw [hb] at h
  simpa using h
theorem size_data (s : ByteArray) : s.data.toList.length = s.size := by simp
theorem ext_sp (s : ByteArray) (c : UInt8) (k : Nat) (hk : k ≤ s.size) (f : Nat) (hf : f + (sp c (s.data.toList.take k)).2.length = k) :
    Value.string (s.extract f k) = strV (sp c (s.data.toList.take k)).2 := by
  unfold strV
  congr 1
  apply ByteArray.ext
  obtain ⟨h1, h2⟩ := sp_suffix c (s.data.toList.take k)
  rw [List.length_take_of_le (by rw [size_data]; exact hk), show k - (sp c (s.data.toList.take k)).2.length = f by omega] at h2
  rw [← h2]
  rw [List.drop_take]
  apply Array.toList_inj.1
  simp [ByteArray.data_extract]

/-- One step of the loop, where the byte is met. -/
theorem rel_hit (s : ByteArray) (c : UInt8) (k f : Nat) (hlt : k < s.size) (_hf : f + (sp c (s.data.toList.take k)).2.length = k) (h : s[k] = c) :
    (sp c (s.data.toList.take (k + 1))).1 = (sp c (s.data.toList.take k)).1 ++ [(sp c (s.data.toList.take k)).2] ∧ k + 1 + (sp c (s.data.toList.take (k + 1))).2.length = k + 1 := by
  rw [take_snoc s k hlt, sp_hit h]
  exact ⟨rfl, rfl⟩
/-- .. and where it is not. -/
theorem rel_miss (s : ByteArray) (c : UInt8) (k f : Nat) (hlt : k < s.size) (hf : f + (sp c (s.data.toList.take k)).2.length = k) (h : s[k] ≠ c) :
    (sp c (s.data.toList.take (k + 1))).1 = (sp c (s.data.toList.take k)).1 ∧ f + (sp c (s.data.toList.take (k + 1))).2.length = k + 1 := by
  rw [take_snoc s k hlt, sp_miss h]
  refine ⟨rfl, ?_⟩
  simp only [List.length_append, List.length_cons, List.length_nil]
  omega

set_option maxHeartbeats 1000000 in
theorem l1Split_any (s : ByteArray) (c : UInt8) (ci : Int) (hci : ci = c.toNat) (w : World) (hs : s.size ≤ 1048576) :
    Calls Tryd.prog 37 #[.string s, .int .u8 ci] w (Texts w (parts c s.data.toList)) := by
  obtain ⟨i0, hi, hz0, hz1, hz2⟩ := info_parts info_str
  have Hci := Lib.hid hci; clear hci
  go_enter Tryd.func37, Tryd.ntmps37
  go_wp2_with fail
  go_loopw [5, 6, 7] (fun v fr i wr => ∃ k f : Nat, k ≤ s.size ∧ f ≤ k ∧ i = .int .i64 k ∧ fr = .int .i64 f ∧ Hid (f + (sp c (s.data.toList.take k)).2.length = k) ∧
      wr.ownsRow w.heap.size 9 1 v (sp c (s.data.toList.take k)).1.length ((sp c (s.data.toList.take k)).1.map strV) ∧ Below w.heap.size w wr)
    (fun _ _ i _ => s.size - (intOf i).toNat)
  case atStart => exact ⟨0, 0, Nat.zero_le _, Nat.le_refl _, rfl, rfl, rfl, World.ownsRow_made _ #[] 0 (Nat.le_refl _) (Nat.zero_le _) rfl, (Below.refl _ _).alloc (Nat.le_refl _) _⟩
  case round =>
    obtain ⟨k, f, hk, hfk, rfl, rfl, hf, hown, hb⟩ := hrel
    have hcnt := sp_count c (s.data.toList.take k)
    rw [List.length_take_of_le (by rw [size_data]; exact hk)] at hcnt
    by_cases hlt : k < s.size
    · by_cases heq : (s[k]).toNat = c.toNat
      · have e1 : (((s[k]).toNat : Int) == ci) = true := by rw [Hci.out, heq]; simp
        have hst := Lib.hid (rel_hit s c k f hlt hf.out (UInt8.toNat_inj.1 heq))
        have hex := Lib.hid (ext_sp s c k hk f hf.out)
        have hbs := hb.size
        clear heq
        go_wp2_with (at_builtin; refine wpList_append_own _ rfl _ _ 44 rfl w.heap.size 9 i0 (.string ByteArray.empty) 1 16 Tryd.underlying44 hi hz0 hz1 hz2 rfl (by decide) _ _ _ rfl (hown.alloc _) ⟨wr.heap.size, 0, none⟩ 1 1 [.string (s.extract f k)] rfl rfl (cell_new _ _ _) (str_one _) ?c3 ?c4 ?c5 ?_)
        case c3 => unfold maxLen; omega
        case c4 => omega
        case c5 => simp; omega
        intro v' w1 hown' hgrow _
        have ho := own_more hex.out hst.out.1 rfl hown'
        have hb1 := (hb.alloc hbs _).grown hgrow (by simp; omega) (fun j hj => (hown.lt j hj).1)
        clear hown' hgrow hown hb
        go_wp2_with fail
        go_roundw
        case rel => exact ⟨k + 1, k + 1, by omega, Nat.le_refl _, by go_num, by go_num, hst.out.2, ho, hb1⟩
        case measure => simp [intOf]; omega
      · have e1 : (((s[k]).toNat : Int) == ci) = false := by rw [Hci.out]; simp; omega
        have hst := Lib.hid (rel_miss s c k f hlt hf.out (fun e => heq (by rw [e])))
        have ho : wr.ownsRow w.heap.size 9 1 u5 (sp c (s.data.toList.take (k + 1))).1.length ((sp c (s.data.toList.take (k + 1))).1.map strV) := by rw [hst.out.1]; exact hown
        clear heq hown
        go_wp2_with fail
        go_roundw
        case rel => exact ⟨k + 1, f, by omega, by omega, by go_num, rfl, hst.out.2, ho, hb⟩
        case measure => simp [intOf]; omega
    · have hks : k = s.size := by omega
      subst hks
      have hex := Lib.hid (ext_sp s c s.size hk f hf.out)
      have hall : s.data.toList.take s.size = s.data.toList := List.take_of_length_le (by rw [size_data]; exact Nat.le_refl _)
      rw [hall] at hex hown hcnt
      have hbs := hb.size
      clear hall hf
      go_wp2_with (at_builtin; refine wpList_append_own _ rfl _ _ 44 rfl w.heap.size 9 i0 (.string ByteArray.empty) 1 16 Tryd.underlying44 hi hz0 hz1 hz2 rfl (by decide) _ _ _ rfl (hown.alloc _) ⟨wr.heap.size, 0, none⟩ 1 1 [.string (s.extract f s.size)] rfl rfl (cell_new _ _ _) (str_one _) ?c3 ?c4 ?c5 ?_)
      case c3 => unfold maxLen; omega
      case c4 => omega
      case c5 => simp; omega
      intro v' w1 hown' hgrow _
      have ho := own_more (qs := parts c s.data.toList) hex.out rfl rfl hown'
      have hb1 := (hb.alloc hbs _).grown hgrow (by simp; omega) (fun j hj => (hown.lt j hj).1)
      clear hown' hgrow hown hb
      go_wp2_with fail
      go_ret
      exact ⟨_, rfl, ho, hb1⟩

end SplitW
end Go.Proofs.YthmeagmabidniaaDoor
