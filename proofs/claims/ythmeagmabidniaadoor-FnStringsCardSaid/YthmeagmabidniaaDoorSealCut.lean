/-
  Plain facts, without any program: what stands before the first sign of a text, told in three ways.
-/
import Derived.Test.YthmeagmabidniaaDoorSeal
import Derived.Test.YthmeagmabidniaaDoorSplit
import Derived.Lib.IndexBytes
import Derived.Lib.IndexMore
namespace Go.Proofs.YthmeagmabidniaaDoor
namespace SealCut
open Seal Split

theorem pre_hit (r : List UInt8) : pre (35 :: r) = [] := by rw [pre, if_pos rfl]
theorem pre_miss {b : UInt8} (h : b ≠ 35) (r : List UInt8) : pre (b :: r) = b :: pre r := by rw [pre, if_neg h]

theorem take_pre : ∀ {l : List UInt8}, 35 ∈ l → l.take (Lib.indexByte l 35).toNat = pre l
  | [], h => by simp at h
  | b :: r, h => by
    by_cases hb : b = 35
    · subst hb
      rw [pre_hit]
      simp [Lib.indexByte]
    · have hr : 35 ∈ r := by
        rcases List.mem_cons.1 h with h | h
        · exact absurd h.symm hb
        · exact h
      have h0 := (mem_index r 35).2 hr
      have e1 : (b == 35) = false := by simpa using hb
      have e2 : (Lib.indexByte r 35 == -1) = false := by simp; omega
      have hix : Lib.indexByte (b :: r) 35 = Lib.indexByte r 35 + 1 := by
        rw [Lib.indexByte, e1, e2]
        simp only [Bool.false_eq_true, if_false]
      rw [pre_miss hb, ← take_pre hr, hix]
      rw [show (Lib.indexByte r 35 + 1).toNat = (Lib.indexByte r 35).toNat + 1 by omega, List.take_succ_cons]
theorem cut_hit {l : List UInt8} (h : 35 ∈ l) : (Lib.cut l [35]).1 = pre l ∧ (Lib.cut l [35]).2.2 = true := by
  unfold Lib.cut
  rw [Lib.index_one, if_pos ((mem_index _ _).2 h)]
  exact ⟨take_pre h, rfl⟩
theorem cut_miss {l : List UInt8} (h : 35 ∉ l) : (Lib.cut l [35]).2.2 = false := by
  unfold Lib.cut
  rw [Lib.index_one, if_neg (fun x => h ((mem_index _ _).1 x))]

theorem fold_head : ∀ (l : List UInt8) (o : List (List UInt8)) (cur : List UInt8),
    ((l.foldl (Split.step 35) (o, cur)).1 ++ [(l.foldl (Split.step 35) (o, cur)).2])[0]? = if o = [] then some (cur ++ pre l) else o[0]?
  | [], o, cur => by
    cases o with
    | nil => simp [pre]
    | cons a o => simp
  | b :: r, o, cur => by
    rw [List.foldl_cons]
    by_cases hb : b = 35
    · subst hb
      rw [show Split.step 35 (o, cur) 35 = (o ++ [cur], []) by simp [Split.step], fold_head r, if_neg (by simp), pre_hit]
      cases o with
      | nil => simp
      | cons a o => simp
    · rw [show Split.step 35 (o, cur) b = (o, cur ++ [b]) by simp [Split.step, hb], fold_head r, pre_miss hb]
      simp
theorem parts_head (l : List UInt8) : (parts 35 l)[0]? = some (pre l) := by
  have := fold_head l [] []
  rw [if_pos rfl, List.nil_append] at this
  exact this

end SealCut
end Go.Proofs.YthmeagmabidniaaDoor
