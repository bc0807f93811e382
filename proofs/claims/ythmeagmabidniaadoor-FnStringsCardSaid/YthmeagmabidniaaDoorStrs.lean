/-
  Plain facts on lists of bytes, without any program: the checksum of a text.
-/
namespace Go.Proofs.YthmeagmabidniaaDoor
namespace Strs

/-- One step of the checksum. -/
def sumStep (h : Int) (c : UInt8) : Int := (41 * h + (c.toNat : Int) + 1) % 999979
/-- The checksum of a list of bytes. -/
def chk (l : List UInt8) : Int := l.foldl sumStep 7

theorem chk_nil : chk [] = 7 := rfl
theorem chk_snoc (l : List UInt8) (c : UInt8) : chk (l ++ [c]) = (41 * chk l + (c.toNat : Int) + 1) % 999979 := by
  unfold chk; rw [List.foldl_append]; rfl
theorem chk_bounds (l : List UInt8) : 0 ≤ chk l ∧ chk l < 999979 := by
  rcases List.eq_nil_or_concat l with rfl | ⟨m, c, rfl⟩
  · rw [chk_nil]; omega
  · rw [List.concat_eq_append, chk_snoc]; omega
theorem take_snoc (s : ByteArray) (k : Nat) (h : k < s.size) : s.data.toList.take (k + 1) = s.data.toList.take k ++ [s[k]] := by
  rw [List.take_succ_eq_append_getElem (by simpa using h)]; rfl
theorem chk_take (s : ByteArray) (k : Nat) (h : k < s.size) : chk (s.data.toList.take (k + 1)) = (41 * chk (s.data.toList.take k) + ((s[k]).toNat : Int) + 1) % 999979 := by
  rw [take_snoc s k h, chk_snoc]

end Strs
end Go.Proofs.YthmeagmabidniaaDoor
