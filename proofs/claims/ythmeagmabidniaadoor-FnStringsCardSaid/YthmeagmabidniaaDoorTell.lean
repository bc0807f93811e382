/-
  Plain facts, without any program: a sealed text in which one byte is another one isn't sealed.
-/
import Derived.Test.YthmeagmabidniaaDoorSeal
import Derived.Test.YthmeagmabidniaaDoorParse
import Derived.Test.YthmeagmabidniaaDoorSplit
namespace Go.Proofs.YthmeagmabidniaaDoor
namespace Tell
open Strs Seal Parse

theorem itoa_nat {n : Int} (h : 0 ≤ n) : Lib.itoa n = Lib.decDigits n.toNat := by
  unfold Lib.itoa
  rw [if_neg (by omega)]
theorem no_sign {n : Int} (h : 0 ≤ n) : (35 : UInt8) ∉ Lib.itoa n := by
  rw [itoa_nat h]
  intro hc
  have := (dec_facts n.toNat).1 35 hc
  unfold IsDig at this
  simp at this
theorem itoa_inj {a b : Int} (ha : 0 ≤ a ∧ a < 999979) (hb : 0 ≤ b ∧ b < 999979) (h : Lib.itoa a = Lib.itoa b) : a = b := by
  have h1 := atoi_itoa (n := a) (by omega) (by omega)
  have h2 := atoi_itoa (n := b) (by omega) (by omega)
  rw [h, h2] at h1
  injection h1 with e
  exact e.symm

/-- A byte more tells two sums apart that were apart. -/
theorem step_ne (x y c : Int) (hx : 0 ≤ x ∧ x < 999979) (hy : 0 ≤ y ∧ y < 999979) (h : x ≠ y) : (41 * x + c + 1) % 999979 ≠ (41 * y + c + 1) % 999979 := by
  omega
theorem byte_ne (x : Int) (a b : UInt8) (h : a ≠ b) : (41 * x + (a.toNat : Int) + 1) % 999979 ≠ (41 * x + (b.toNat : Int) + 1) % 999979 := by
  have h1 := a.toNat_lt
  have h2 := b.toNat_lt
  have h3 : a.toNat ≠ b.toNat := fun e => h (UInt8.toNat_inj.1 e)
  omega
theorem chk_ne (p r : List UInt8) (a b : UInt8) (h : a ≠ b) : chk (p ++ a :: r) ≠ chk (p ++ b :: r) := by
  refine Split.snoc_ind (p := fun r => chk (p ++ a :: r) ≠ chk (p ++ b :: r)) ?_ ?_ r
  · rw [chk_snoc, chk_snoc]
    exact byte_ne _ a b h
  · intro l c ih
    rw [← List.cons_append, ← List.append_assoc, ← List.cons_append, ← List.append_assoc, chk_snoc, chk_snoc]
    exact step_ne _ _ _ (chk_bounds _) (chk_bounds _) ih

theorem pre_stop : ∀ {p : List UInt8}, (35 : UInt8) ∉ p → ∀ r, pre (p ++ 35 :: r) = p
  | [], _, r => by rw [List.nil_append, pre, if_pos rfl]
  | c :: q, h, r => by
    have hc : c ≠ 35 := fun e => h (by simp [e])
    rw [List.cons_append, pre, if_neg hc, pre_stop (fun x => h (List.mem_cons_of_mem _ x)) r]

/-- One byte of a sealed text is another one: it's told. -/
theorem told {l p r : List UInt8} {a b : UInt8} (h35 : (35 : UInt8) ∉ l) (hm : p ++ a :: r = sealed l) (hab : a ≠ b) : verR (p ++ b :: r) = none := by
  have hchk := chk_bounds l
  have hd := no_sign hchk.1
  unfold sealed at hm
  have mid : ∀ r', a = 35 → r' = Lib.itoa (chk l) → verR (l ++ b :: r') = none := by
    intro r' ha hr
    refine ver_no ?_
    rw [hr]
    simp only [List.mem_append, List.mem_cons, not_or]
    exact ⟨h35, fun e => hab (ha.trans e), hd⟩
  rcases List.append_eq_append_iff.1 hm with ⟨as, hl, hr⟩ | ⟨bs, hp, hr⟩
  · cases as with
    | nil =>
      rw [List.append_nil] at hl
      subst hl
      rw [List.nil_append] at hr
      injection hr with h1 h2
      exact mid r h1 h2
    | cons a' as' =>
      rw [List.cons_append] at hr
      injection hr with h1 h2
      subst h1 h2
      have hp35 : (35 : UInt8) ∉ p := fun x => h35 (by rw [hl]; simp [x])
      have ha35 : (35 : UInt8) ∉ as' := fun x => h35 (by rw [hl]; simp [x])
      by_cases hb : b = 35
      · subst hb
        refine ver_other fun e => ?_
        rw [pre_stop hp35] at e
        unfold sealed at e
        have e1 := List.append_cancel_left e
        injection e1 with _ e2
        exact no_sign (chk_bounds p).1 (by rw [e2]; simp)
      · refine ver_other fun e => ?_
        have hn : (35 : UInt8) ∉ p ++ b :: as' := by
          simp only [List.mem_append, List.mem_cons, not_or]
          exact ⟨hp35, fun e => hb e.symm, ha35⟩
        rw [show p ++ b :: (as' ++ 35 :: Lib.itoa (chk l)) = (p ++ b :: as') ++ 35 :: Lib.itoa (chk l) by simp, pre_stop hn] at e
        unfold sealed at e
        have e1 := List.append_cancel_left e
        injection e1 with _ e2
        have e3 := itoa_inj (chk_bounds _) hchk e2
        rw [hl] at e3
        exact chk_ne p as' a b hab e3.symm
  · cases bs with
    | nil =>
      rw [List.append_nil] at hp
      subst hp
      rw [List.nil_append] at hr
      injection hr with h1 h2
      exact mid r h1.symm h2.symm
    | cons c bs' =>
      rw [List.cons_append] at hr
      injection hr with h1 h2
      subst h1
      refine ver_other fun e => ?_
      rw [hp, List.append_assoc, List.cons_append, pre_stop h35] at e
      unfold sealed at e
      rw [h2] at e
      have e1 := List.append_cancel_left e
      injection e1 with _ e2
      have e3 := List.append_cancel_left e2
      injection e3 with e4 _
      exact hab e4

theorem ver_sealed {l : List UInt8} (h35 : (35 : UInt8) ∉ l) (h : (sealed l).length ≤ 4000) : verR (sealed l) = some l := by
  have hp : pre (sealed l) = l := pre_stop h35 _
  have := ver_yes h (by rw [hp])
  rwa [hp] at this
theorem app_ver {l m : List UInt8} (h : appR l = some m) : (35 : UInt8) ∉ l ∧ m = sealed l ∧ verR m = some l := by
  unfold appR at h
  split at h
  · rename_i hc
    injection h with e
    subst e
    exact ⟨hc.2.1, rfl, ver_sealed hc.2.1 hc.2.2⟩
  · cases h

end Tell
end Go.Proofs.YthmeagmabidniaaDoor
