/-
  Plain facts, without any program: texts with a checksum appended.
-/
import Derived.Test.YthmeagmabidniaaDoorStrs
import Derived.Lib.ItoaNum
import Derived.Lib.ItoaLen
import Derived.Lib.Bytealg
namespace Go.Proofs.YthmeagmabidniaaDoor
namespace Seal
open Strs

/-- The text, a sign, and the checksum's numeral. -/
def sealed (l : List UInt8) : List UInt8 := l ++ (35 :: Lib.itoa (chk l))
/-- What appending gives, if it does. -/
def appR (l : List UInt8) : Option (List UInt8) := if l.length ≤ 4000 ∧ 35 ∉ l ∧ (sealed l).length ≤ 4000 then some (sealed l) else none
/-- What stands before the first sign. -/
def pre : List UInt8 → List UInt8
  | [] => []
  | c :: r => if c = 35 then [] else c :: pre r
/-- What verifying gives, if it does. -/
def verR (l : List UInt8) : Option (List UInt8) := if l.length ≤ 4000 ∧ sealed (pre l) = l then some (pre l) else none

theorem sealed_len (l : List UInt8) : (sealed l).length = l.length + 1 + (Lib.itoa (chk l)).length := by
  unfold sealed; rw [List.length_append, List.length_cons]; omega
theorem itoa_len (l : List UInt8) : (Lib.itoa (chk l)).length ≤ 21 := by
  have := chk_bounds l
  exact Lib.itoa_length_le _ (by omega) (by omega)

theorem mem_index (l : List UInt8) (c : UInt8) : 0 ≤ Lib.indexByte l c ↔ c ∈ l := by
  induction l with
  | nil => simp [Lib.indexByte]
  | cons b r ih =>
    unfold Lib.indexByte
    by_cases hb : b = c
    · subst hb; simp
    · have hne : (b == c) = false := by simpa using hb
      have hge := Lib.indexByte_ge r c
      rw [hne]
      simp only [Bool.false_eq_true, if_false, List.mem_cons]
      by_cases h1 : Lib.indexByte r c = -1
      · rw [h1] at ih ⊢
        simp only [beq_self_eq_true, if_true]
        constructor
        · intro h; omega
        · rintro (h | h)
          · exact absurd h.symm hb
          · exact absurd (ih.2 h) (by decide)
      · have h2 : (Lib.indexByte r c == -1) = false := by simpa using h1
        rw [h2]
        simp only [Bool.false_eq_true, if_false]
        constructor
        · intro _; exact Or.inr (ih.1 (by omega))
        · intro _; omega

theorem pre_no : ∀ {l : List UInt8}, 35 ∉ l → pre l = l
  | [], _ => rfl
  | c :: r, h => by
    rw [List.mem_cons, not_or] at h
    rw [pre, if_neg (fun e => h.1 e.symm), pre_no h.2]
theorem pre_clean : ∀ (l : List UInt8), 35 ∉ pre l
  | [] => by simp [pre]
  | c :: r => by
    rw [pre]
    split
    · simp
    · rename_i hc
      rw [List.mem_cons, not_or]
      exact ⟨fun e => hc e.symm, pre_clean r⟩
theorem pre_le : ∀ (l : List UInt8), (pre l).length ≤ l.length
  | [] => Nat.le_refl _
  | c :: r => by
    rw [pre]
    split
    · simp
    · have := pre_le r
      simp only [List.length_cons]; omega
theorem ver_no {l : List UInt8} (h : 35 ∉ l) : verR l = none := by
  unfold verR
  rw [pre_no h, if_neg]
  rintro ⟨_, e⟩
  have := congrArg List.length e
  rw [sealed_len] at this
  omega
theorem ver_long {l : List UInt8} (h : ¬ l.length ≤ 4000) : verR l = none := by
  unfold verR; rw [if_neg (fun x => h x.1)]
theorem ver_other {l : List UInt8} (h : sealed (pre l) ≠ l) : verR l = none := by
  unfold verR; rw [if_neg (fun x => h x.2)]
theorem ver_yes {l : List UInt8} (h0 : l.length ≤ 4000) (h : sealed (pre l) = l) : verR l = some (pre l) := by
  unfold verR; rw [if_pos ⟨h0, h⟩]
theorem app_pre {l : List UInt8} (h0 : l.length ≤ 4000) (h : sealed (pre l) = l) : appR (pre l) = some l := by
  unfold appR
  rw [if_pos ⟨by have := pre_le l; omega, pre_clean l, by rw [h]; exact h0⟩, h]
theorem app_some {l m : List UInt8} (h : appR l = some m) : m = sealed l ∧ m.length ≤ 4000 := by
  unfold appR at h
  split at h
  · rename_i hc
    injection h with h
    subst h
    exact ⟨rfl, hc.2.2⟩
  · cases h

end Seal
end Go.Proofs.YthmeagmabidniaaDoor
