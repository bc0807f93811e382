/-
  FnExactSplitString: for every two strings the law returns true, and both read afterwards as they read before. No condition.
-/
import Derived.Test.YthmeagmabidniaaRows
import Derived.Test.YthmeagmabidniaaSplitJ
import Derived.Test.YthmeagmabidniaaMarkW
import Derived.WalkKit
import Derived.WalkLawsBesides
import Derived.ProofKit
import Derived.OpenShut
namespace Go.Proofs.Ythmeagmabidniaa
open Go.ChangeShapes Go.WideShapes Go.ChangeAt Go.RowKit
open Go.ChangeMaps (open_string shut_string)

namespace SplitP
open Texts TextsW Split SplitW SplitJ MarkW

/-- What both hand back: the parts and true, or none and false. -/
def splitPs (l sep : List UInt8) : List (List UInt8) × Bool :=
  match sep with
  | [c] => if l.length ≤ 4000 then (parts c l, true) else ([], false)
  | _ => ([], false)
theorem split_sep {l sep : List UInt8} (h : sep.length ≠ 1) : splitPs l sep = ([], false) := by
  unfold splitPs
  split
  · simp at h
  · rfl
theorem split_long {l : List UInt8} {c : UInt8} (h : ¬ l.length ≤ 4000) : splitPs l [c] = ([], false) := by
  show (if l.length ≤ 4000 then (parts c l, true) else ([], false)) = _
  rw [if_neg h]
theorem split_yes {l : List UInt8} {c : UInt8} (h : l.length ≤ 4000) : splitPs l [c] = (parts c l, true) := by
  show (if l.length ≤ 4000 then (parts c l, true) else ([], false)) = _
  rw [if_pos h]
theorem split_small (l sep : List UInt8) : (splitPs l sep).1.length ≤ 4001 := by
  by_cases h : sep.length = 1
  · match sep, h with
    | [c], _ =>
      by_cases hl : l.length ≤ 4000
      · rw [split_yes hl, parts_len]
        have := sp_count c l
        omega
      · rw [split_long hl]; simp
  · rw [split_sep h]; simp

/-- A result of texts in memory of its own, and a word. -/
def OwnT (w : World) (r : List (List UInt8) × Bool) (e : Ending) (w' : World) : Prop :=
  ∃ A c, e = .returned (.tuple #[.slice A r.1.length c, .bool r.2]) ∧ w'.ownsRow w.heap.size 9 1 (.slice A r.1.length c) r.1.length (r.1.map fun p => Value.string ⟨p.toArray⟩) ∧ Below w.heap.size w w'

theorem one_byte {s : ByteArray} (h : s.size = 1) : ∃ c, s = ⟨#[c]⟩ := by
  obtain ⟨⟨l⟩⟩ := s
  have hl : l.length = 1 := h
  match l, hl with
  | [c], _ => exact ⟨c, rfl⟩
theorem len_data (s : ByteArray) : s.data.toList.length = s.size := by simp

theorem impl_fail (s t : ByteArray) (w : World) (hs : s.size ≤ maxLen) (_ht : t.size ≤ maxLen) (h : ¬ (s.size ≤ 4000 ∧ t.size = 1)) :
    Calls Try.prog 10 #[.string s, .string t] w (OwnT w ([], false)) := by
  unfold maxLen at hs
  by_cases h4 : s.size ≤ 4000
  · have e0 : decide ((4000 : Int) < (s.size : Int)) = false := decide_eq_false (by omega)
    have e1 : ((t.size : Int) == 1) = false := by simp; omega
    have e2 : ((t.size : Int) != 1) = true := by simp; omega
    clear h
    go_enter Try.func10, Try.ntmps10
    go_wp2_with fail
    go_ret2
    exact ⟨none, 0, rfl, World.ownsRow_nil _ _ _ _, Below.refl _ _⟩
  · have e0 : decide ((4000 : Int) < (s.size : Int)) = true := decide_eq_true (by omega)
    clear h
    go_enter Try.func10, Try.ntmps10
    go_wp2_with fail
    go_ret2
    exact ⟨none, 0, rfl, World.ownsRow_nil _ _ _ _, Below.refl _ _⟩

theorem spec_fail (s t : ByteArray) (w : World) (hs : s.size ≤ maxLen) (ht : t.size ≤ maxLen) (h : ¬ (s.size ≤ 4000 ∧ t.size = 1)) :
    Calls Try.prog 17 #[.string s, .string t] w (OwnT w ([], false)) := by
  unfold maxLen at hs ht
  by_cases h1 : t.size = 1
  · have e0 : decide ((4000 : Int) < (s.size : Int)) = true := decide_eq_true (by omega)
    obtain ⟨c, rfl⟩ := one_byte h1
    clear h h1
    go_enter Try.func17, Try.ntmps17
    go_wp2_with fail
    go_ret2
    exact ⟨_, _, rfl, World.ownsRow_made _ #[] 0 (Nat.le_refl _) (Nat.zero_le _) rfl, (Below.refl _ _).alloc (Nat.le_refl _) _⟩
  · have e1 : ((t.size : Int) == 1) = false := by simp; omega
    have e2 : ((t.size : Int) != 1) = true := by simp; omega
    clear h
    go_enter Try.func17, Try.ntmps17
    go_wp2_with fail
    go_ret2
    exact ⟨_, _, rfl, World.ownsRow_made _ #[] 0 (Nat.le_refl _) (Nat.zero_le _) rfl, (Below.refl _ _).alloc (Nat.le_refl _) _⟩

theorem spec_main (s : ByteArray) (c : UInt8) (w : World) (hs : s.size ≤ 4000) :
    Calls Try.prog 17 #[.string s, .string ⟨#[c]⟩] w (OwnT w (parts c s.data.toList, true)) := by
  have e0 : decide ((4000 : Int) < (s.size : Int)) = false := decide_eq_false (by omega)
  have Hsp := Lib.hid (l1Split_any s c c.toNat rfl w (by omega))
  go_enter Try.func17, Try.ntmps17
  go_wp2_with fail
  refine Hsp.out.mono ?_
  rintro e w1 ⟨v, rfl, ho, hb⟩
  have ho' := ho
  rw [parts_len] at ho'
  obtain ⟨g, cap, rfl⟩ := ownsRow_succ ho'
  have Ho := Lib.hid ho; clear ho ho'
  go_wp2_with fail
  go_ret2
  refine ⟨some ⟨g, 0, none⟩, cap, by rw [parts_len]; rfl, ?_, hb⟩
  have := Ho.out
  rw [parts_len] at this ⊢
  exact this

theorem spec_any (s t : ByteArray) (w : World) (hs : s.size ≤ maxLen) (ht : t.size ≤ maxLen) :
    Calls Try.prog 17 #[.string s, .string t] w (OwnT w (splitPs s.data.toList t.data.toList)) := by
  by_cases h : s.size ≤ 4000 ∧ t.size = 1
  · obtain ⟨c, rfl⟩ := one_byte h.2
    rw [show (ByteArray.mk #[c]).data.toList = [c] from rfl, split_yes (by rw [len_data]; exact h.1)]
    exact spec_main s c w h.1
  · have e : splitPs s.data.toList t.data.toList = ([], false) := by
      by_cases h1 : t.size = 1
      · obtain ⟨c, rfl⟩ := one_byte h1
        exact split_long (by rw [len_data]; omega)
      · exact split_sep (by rw [len_data]; exact h1)
    rw [e]
    exact spec_fail s t w hs ht h
theorem impl_any (s t : ByteArray) (w : World) (hs : s.size ≤ maxLen) (ht : t.size ≤ maxLen) :
    Calls Try.prog 10 #[.string s, .string t] w (OwnT w (splitPs s.data.toList t.data.toList)) := by
  by_cases h : s.size ≤ 4000 ∧ t.size = 1
  · obtain ⟨c, rfl⟩ := one_byte h.2
    rw [show (ByteArray.mk #[c]).data.toList = [c] from rfl, split_yes (by rw [len_data]; exact h.1)]
    exact (implSplit_main s c w h.1).mono fun e w' ⟨A, cp, he, ho, hb⟩ => ⟨A, cp, he, ho, hb⟩
  · have e : splitPs s.data.toList t.data.toList = ([], false) := by
      by_cases h1 : t.size = 1
      · obtain ⟨c, rfl⟩ := one_byte h1
        exact split_long (by rw [len_data]; omega)
      · exact split_sep (by rw [len_data]; exact h1)
    rw [e]
    exact impl_fail s t w hs ht h

theorem txs_marks {w : World} {B : Nat} {t : TypeId} {A : Option Addr} {c n K : Nat} (h : w.ownsRow B t 1 (.slice A n c) n ((marks K n).map fun p => Value.string ⟨p.toArray⟩)) : Txs w A (marks K n) := by
  have hl := marks_len K n
  refine Txs.of_own (B := B) (t := t) (c := c) ?_
  rw [hl]
  exact h

set_option maxHeartbeats 2000000 in
theorem law_small (s t : ByteArray) (w : World) (hs : s.size ≤ 1048576) (ht : t.size ≤ 1048576) :
    Calls Try.prog 4 #[.string s, .string t] w fun e w' => e = .returned (.bool true) ∧ Below w.heap.size w w' := by
  obtain ⟨r, hr⟩ : ∃ r, r = splitPs s.data.toList t.data.toList := ⟨_, rfl⟩
  have hsm := split_small s.data.toList t.data.toList
  have hsp := fun w => spec_any s t w (by unfold maxLen; omega) (by unfold maxLen; omega)
  have him := fun w => impl_any s t w (by unfold maxLen; omega) (by unfold maxLen; omega)
  rw [← hr] at hsm
  simp only [← hr] at hsp him
  clear hr
  obtain ⟨ps, ok⟩ := r
  have Hsp := Lib.hid hsp; clear hsp
  have Him := Lib.hid him; clear him
  have hpl : ps.length ≤ 4001 := hsm
  clear hsm
  have Heq := Lib.hid (fun A1 A2 c1 c2 w1 (hx : Txs w1 A1 ps) (hy : Txs w1 A2 ps) => eq_same A1 A2 c1 c2 ps w1 hx hy (by unfold maxLen; omega))
  have Hmk := Lib.hid (fun A c xs B w (h : World.ownsRow w B 9 1 (.slice A ps.length c) ps.length xs) (hB : B ≤ w.heap.size) => mark_any A c ps.length xs 1 B w (by omega) (by omega) h hB)
  have Hhd := Lib.hid (fun A c w (h : Txs w A (marks 1 ps.length)) => held_any A c ps.length 1 w (by omega) (by omega) h)
  go_enter Try.func4, Try.ntmps4
  go_wp2_with fail
  refine (Hsp.out _).mono ?_
  rintro e w1 ⟨A0, c0, rfl, ho0, hb0⟩
  have t0 := Lib.hid (Txs.of_own ho0); clear ho0
  go_wp2_with fail
  refine (Him.out _).mono ?_
  rintro e w2 ⟨A1, c1, rfl, ho1, hb1⟩
  have t1 := Lib.hid (Txs.of_own ho1)
  have t02 := Lib.hid (t0.out.below (Nat.le_refl _) hb1)
  have Ho1 := Lib.hid ho1; clear ho1
  go_wp2_with fail
  refine (Heq.out _ _ _ _ _ t1.out t02.out).mono ?_
  rintro e w3 ⟨rfl, q, rfl⟩
  go_wp2_with fail
  refine (Hmk.out _ _ _ w1.heap.size (w2.drewN q) Ho1.out hb1.size).mono ?_
  rintro e w4 ⟨rfl, ho4, hb4⟩
  have hb14 : Below w1.heap.size w1 w4 := (below_drewN hb1 q).trans hb4
  have t04 := Lib.hid (t0.out.below (Nat.le_refl _) hb14)
  have t14 := Lib.hid (txs_marks ho4)
  clear ho4 Ho1 hb4 t1 t02
  go_wp2_with fail
  refine (Hhd.out _ _ _ t14.out).mono ?_
  rintro e w5 ⟨rfl, hb5⟩
  have t05 := Lib.hid (t04.out.below (Nat.le_refl _) hb5)
  have t15 := Lib.hid (t14.out.below (Nat.le_refl _) hb5)
  go_wp2_with fail
  refine (Him.out _).mono ?_
  rintro e w6 ⟨A2, c2, rfl, ho6, hb6⟩
  have t26 := Lib.hid (Txs.of_own ho6); clear ho6
  have t06 := Lib.hid (t05.out.below (Nat.le_refl _) hb6)
  have t16 := Lib.hid (t15.out.below (Nat.le_refl _) hb6)
  go_wp2_with fail
  refine (Heq.out _ _ _ _ _ t26.out t06.out).mono ?_
  rintro e w7 ⟨rfl, q', rfl⟩
  go_wp2_with fail
  refine (Hhd.out _ _ (w6.drewN q') t16.out).mono ?_
  rintro e w8 ⟨rfl, hb8⟩
  go_wp2_with fail
  go_ret
  have s1 := hb0.size
  have s4 := hb14.size
  have s5 := hb5.size
  have s6 := hb6.size
  exact ⟨rfl, ((((hb0.trans (hb14.mono s1)).trans (hb5.mono (by omega))).trans (hb6.mono (by omega))).trans ((below_drewN (Below.refl _ _) q').trans (hb8.mono (by show _ ≤ w6.heap.size; omega))))⟩

theorem law_long (s t : ByteArray) (w : World) (h : 1048576 < s.size ∨ 1048576 < t.size) (hs : s.size ≤ maxLen) (ht : t.size ≤ maxLen) :
    Calls Try.prog 4 #[.string s, .string t] w fun e w' => e = .returned (.bool true) ∧ Below w.heap.size w w' := by
  unfold maxLen at hs ht
  by_cases h1 : 1048576 < s.size
  · clear h
    go_enter Try.func4, Try.ntmps4
    go_wp2_with fail
    go_ret
    exact ⟨rfl, Below.refl _ _⟩
  · have h2 : 1048576 < t.size := by omega
    clear h
    go_enter Try.func4, Try.ntmps4
    go_wp2_with fail
    go_ret
    exact ⟨rfl, Below.refl _ _⟩

theorem law_any (s t : ByteArray) (w : World) (hs : s.size ≤ maxLen) (ht : t.size ≤ maxLen) :
    Calls Try.prog 4 #[.string s, .string t] w fun e w' => e = .returned (.bool true) ∧ Below w.heap.size w w' := by
  by_cases h : s.size ≤ 1048576 ∧ t.size ≤ 1048576
  · exact law_small s t w h.1 h.2
  · exact law_long s t w (by omega) hs ht

/-- What the walk gives, for every argument. -/
theorem contract (H : Type) (enc : TypeId × Value → H) (W : World) (base : Nat) (args : Array Value) (ds gs : List (DataW H)) (before : List MemPlace)
    (hval : ∀ (j : Nat) t v, Try.f4.params[j]? = some t → args[j]? = some v → Value.okWide Try.prog W .any base t v)
    (hW : DataW.Whole enc Try.prog Try.f4.params.toList Rows.fnExactSplitStringSpec.vars false W args.toList ds gs before) :
    Calls Try.prog 4 args W fun e W' => ∃ v, e = .returned v ∧ Rows.fnExactSplitStringSpec.post enc Try.prog Try.f4 false true false false W args v W' := by
  have hW' := hW
  obtain ⟨p, q, hA0, hV, rfl, hfz, hnd⟩ := hW
  have hA : DataW.TrodAll enc Try.prog W 0 (fun _ => true) true Try.f4.params.toList args.toList ds p := hA0
  rw [Try.params4] at hA hval
  obtain ⟨v0, vs0, d0, ds0, p0, q0, hargs, rfl, rfl, h0, r0⟩ := trodAll_cons hA
  obtain ⟨v1, vs1, d1, ds1, p1, q1, rfl, rfl, rfl, h1, r1⟩ := trodAll_cons r0
  obtain ⟨rfl, rfl, rfl⟩ := trodAll_nil r1
  obtain rfl : args = #[v0, v1] := by cases args; simp_all
  obtain ⟨rfl, rfl⟩ := trodVars_none hV
  obtain ⟨a0, rfl, rfl, rfl, w0⟩ := open_string Try.underlying9 (hval 0 9 v0 rfl rfl) h0
  obtain ⟨a1, rfl, rfl, rfl, w1⟩ := open_string Try.underlying9 (hval 1 9 v1 rfl rfl) h1
  clear hA0
  simp only [List.append_nil] at hW'
  refine (law_any a0 a1 W w0 w1).mono fun e W' ⟨he, hg⟩ => ?_
  subst he
  exact ⟨_, rfl, _, _, _, [], [], [], hW', trodAll_cons_mk (shut_bool Try.underlying4 _) trodAll_mk0, trodAll_cons_mk (shut_string Try.underlying9 w0) (trodAll_cons_mk (shut_string Try.underlying9 w1) trodAll_mk0), rfl, hg.frame _, fun h => by cases h⟩

theorem own : ownKnob Try.prog.godebug = none := by kernel_rfl

set_option maxRecDepth 100000 in
theorem lifted (os : Os) (started : os.Started) (H : Type) (enc : TypeId × Value → H) :
    ReturnsInHanded {} Try.checked os 4 .any (Rows.fnExactSplitStringSpec.pre6 enc Try.prog Try.f4 Rows.fnExactSplitStringRow.domain false) (Rows.fnExactSplitStringSpec.post enc Try.prog Try.f4 false true false false) := by
  refine returnsInHanded_of_change (C := Try.checked) own started (by kernel_rfl) Try.func4
    (ChangeSpec.witness6 (enc := enc) (C := Try.checked) false ⟨#[], #[.string ⟨#[]⟩, .string ⟨#[]⟩], []⟩ 8 (by kernel_rfl) (by kernel_rfl) (by kernel_rfl) (by kernel_rfl)) ?_
  intro W base args ds gs before hval hW _ _
  exact contract H enc W base args ds gs before hval hW

theorem holds : Rows.FnExactSplitStringSaid :=
  OpenClaim.holds_of_wide 4 Try.f4 rfl rfl rfl rfl rfl rfl rfl ⟨rfl, rfl, rfl, rfl, rfl⟩ rfl rfl rfl rfl rfl (by kernel_rfl) Try.func4 (by kernel_rfl)
    (of_decide_eq_true (by kernel_rfl)) (by unfold Func.isWrapper; rw [if_neg (by decide +kernel)]; exact ⟨rfl, rfl⟩)
    (fun os started H enc _ => lifted os started H enc)

end SplitP
end Go.Proofs.Ythmeagmabidniaa
