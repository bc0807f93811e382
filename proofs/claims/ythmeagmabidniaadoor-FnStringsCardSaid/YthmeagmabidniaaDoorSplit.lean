/-
  Plain facts, without any program: the parts of a text between separators.
-/
namespace Go.Proofs.YthmeagmabidniaaDoor
namespace Split

/-- One byte more: the parts that are whole, and the one that goes on. -/
def step (c : UInt8) (st : List (List UInt8) × List UInt8) (b : UInt8) : List (List UInt8) × List UInt8 := if b = c then (st.1 ++ [st.2], []) else (st.1, st.2 ++ [b])
def sp (c : UInt8) (l : List UInt8) : List (List UInt8) × List UInt8 := l.foldl (step c) ([], [])
/-- The parts of a text. -/
def parts (c : UInt8) (l : List UInt8) : List (List UInt8) := (sp c l).1 ++ [(sp c l).2]

theorem sp_nil (c : UInt8) : sp c [] = ([], []) := rfl
theorem sp_snoc (c : UInt8) (l : List UInt8) (b : UInt8) : sp c (l ++ [b]) = step c (sp c l) b := by
  unfold sp; rw [List.foldl_append]; rfl
theorem sp_hit {c : UInt8} {l : List UInt8} {b : UInt8} (h : b = c) : sp c (l ++ [b]) = ((sp c l).1 ++ [(sp c l).2], []) := by
  rw [sp_snoc, step, if_pos h]
theorem sp_miss {c : UInt8} {l : List UInt8} {b : UInt8} (h : b ≠ c) : sp c (l ++ [b]) = ((sp c l).1, (sp c l).2 ++ [b]) := by
  rw [sp_snoc, step, if_neg h]

/-- By induction from the right. -/
theorem snoc_ind {p : List UInt8 → Prop} (h0 : p []) (h1 : ∀ l b, p l → p (l ++ [b])) (l : List UInt8) : p l := by
  have : ∀ n (l : List UInt8), l.length = n → p l := by
    intro n
    induction n with
    | zero => intro l hl; rw [List.length_eq_zero_iff.1 hl]; exact h0
    | succ n ih =>
      intro l hl
      rcases List.eq_nil_or_concat l with rfl | ⟨m, b, rfl⟩
      · simp at hl
      · rw [List.concat_eq_append] at hl ⊢
        exact h1 m b (ih m (by simpa using hl))
  exact this _ l rfl

/-- The part that goes on is the end of the text. -/
theorem sp_suffix (c : UInt8) (l : List UInt8) : (sp c l).2.length ≤ l.length ∧ l.drop (l.length - (sp c l).2.length) = (sp c l).2 := by
  refine snoc_ind (p := fun l => (sp c l).2.length ≤ l.length ∧ l.drop (l.length - (sp c l).2.length) = (sp c l).2) ?_ ?_ l
  · exact ⟨Nat.le_refl _, rfl⟩
  · rintro l b ⟨i1, i2⟩
    by_cases h : b = c
    · rw [sp_hit h]
      simp
    · rw [sp_miss h]
      simp only [List.length_append, List.length_cons, List.length_nil]
      refine ⟨by omega, ?_⟩
      rw [show l.length + (0 + 1) - ((sp c l).2.length + (0 + 1)) = l.length - (sp c l).2.length by omega, List.drop_append_of_le_length (by omega), i2]
theorem sp_count (c : UInt8) (l : List UInt8) : (sp c l).1.length ≤ l.length := by
  refine snoc_ind (p := fun l => (sp c l).1.length ≤ l.length) (Nat.le_refl _) ?_ l
  rintro l b i
  by_cases h : b = c
  · rw [sp_hit h]; simp only [List.length_append, List.length_cons, List.length_nil]; omega
  · rw [sp_miss h]; simp only [List.length_append, List.length_cons, List.length_nil]; omega
theorem parts_len (c : UInt8) (l : List UInt8) : (parts c l).length = (sp c l).1.length + 1 := by
  unfold parts; simp

end Split
end Go.Proofs.YthmeagmabidniaaDoor
