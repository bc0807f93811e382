/-
  FnExactJoinStrings: for every list of strings and every string the law returns true, and both read afterwards as they read before. No condition.
-/
import Derived.Test.YthmeagmabidniaaRows
import Derived.Test.YthmeagmabidniaaJoinW
import Derived.Test.YthmeagmabidniaaOpenT
import Derived.WalkKit
import Derived.WalkLawsBesides
import Derived.ProofKit
import Derived.OpenShut
namespace Go.Proofs.Ythmeagmabidniaa
open Go.ChangeShapes Go.WideShapes Go.ChangeAt Go.RowKit
open Go.ChangeMaps (open_string shut_string)

namespace JoinP
open Texts TextsW Joined JoinW

theorem one_byte {s : ByteArray} (h : s.size = 1) : ∃ c, s = ⟨#[c]⟩ := by
  obtain ⟨⟨l⟩⟩ := s
  have hl : l.length = 1 := h
  match l, hl with
  | [c], _ => exact ⟨c, rfl⟩
theorem not_one {s : ByteArray} (h : s.size ≠ 1) : s.data.toList.length ≠ 1 := by
  have : s.data.toList.length = s.size := by simp
  omega

theorem specJoin_any (A : Option Addr) (cp : Nat) (ps : List (List UInt8)) (s : ByteArray) (w : World) (h : Txs w A ps) (hl : ps.length + lens ps ≤ 1048576) (hs : s.size ≤ maxLen) :
    Calls Try.prog 13 #[.slice A ps.length cp, .string s] w fun e w' => e = .returned (joinV ps s.data.toList) ∧ Below w.heap.size w w' := by
  by_cases h1 : s.size = 1
  · obtain ⟨c, rfl⟩ := one_byte h1
    by_cases h0 : ps = []
    · subst h0
      refine (specJoin_fail_empty A cp c w).mono fun e w' ⟨he, hw⟩ => ⟨?_, hw ▸ Below.refl _ _⟩
      rw [he, joinV_none (join_empty _)]
    · exact specJoin_one A cp ps c w h h0 hl
  · refine (specJoin_fail_sep A cp ps.length s w h1 hs).mono fun e w' ⟨he, hw⟩ => ⟨?_, hw ▸ Below.refl _ _⟩
    rw [he, joinV_none (join_sep (not_one h1))]

theorem implJoin_any (A : Option Addr) (cp : Nat) (ps : List (List UInt8)) (s : ByteArray) (w : World) (h : Txs w A ps) (hl : ps.length + lens ps ≤ 1048576) (hs : s.size ≤ maxLen) (hcp : ps.length ≤ cp) :
    Calls Try.prog 12 #[.slice A ps.length cp, .string s] w fun e w' => e = .returned (joinV ps s.data.toList) ∧ Below w.heap.size w w' := by
  by_cases h0 : ps = []
  · subst h0
    refine (implJoin_fail_empty A cp s w).mono fun e w' ⟨he, hw⟩ => ⟨?_, hw ▸ Below.refl _ _⟩
    rw [he, joinV_none (join_empty _)]
  · by_cases h1 : s.size = 1
    · obtain ⟨c, rfl⟩ := one_byte h1
      exact implJoin_one A cp ps c w h h0 hl hcp
    · refine (implJoin_fail_sep A cp ps.length s w (List.length_pos_iff.2 h0) h1 hs (by unfold maxLen; omega)).mono fun e w' ⟨he, hw⟩ => ⟨?_, hw ▸ Below.refl _ _⟩
      rw [he, joinV_none (join_sep (not_one h1))]

theorem own_cap {w : World} {B : Nat} {t : TypeId} {A : Option Addr} {n c : Nat} {xs : List Value} (h : w.ownsRow B t 1 (.slice A n c) n xs) : n ≤ c := by
  rcases h.2 with ⟨_, hn⟩ | ⟨g, cap, _, hv, _, _, hc, _⟩
  · omega
  · injection hv with _ _ hc'
    omega

theorem law_small (A : Option Addr) (cp : Nat) (ps : List (List UInt8)) (s : ByteArray) (w : World) (h : Txs w A ps) (hl : ps.length + lens ps ≤ 1048576) (hs : s.size ≤ 1048576) :
    Calls Try.prog 5 #[.slice A ps.length cp, .string s] w fun e w' => e = .returned (.bool true) ∧ Below w.heap.size w w' := by
  have hsm : s.size ≤ maxLen := by unfold maxLen; omega
  have Hsz := Lib.hid (sz_yes A cp ps 1048576 w h (by omega) (by omega))
  have Hto := Lib.hid (fun w1 (hb : Below w.heap.size w w1) => to_any A cp ps w1 (h.below (Nat.le_refl _) hb) (by omega))
  have Hsp := Lib.hid (fun A1 c1 w1 (hx : Txs w1 A1 ps) => specJoin_any A1 c1 ps s w1 hx hl hsm)
  have Him := Lib.hid (fun A1 c1 w1 (hx : Txs w1 A1 ps) (hc : ps.length ≤ c1) => implJoin_any A1 c1 ps s w1 hx hl hsm hc)
  have Heq := Lib.hid (fun A1 A2 c1 c2 w1 (hx : Txs w1 A1 ps) (hy : Txs w1 A2 ps) => eq_same A1 A2 c1 c2 ps w1 hx hy (by unfold maxLen; omega))
  unfold joinV at Hsp Him
  clear h hsm
  go_enter Try.func5, Try.ntmps5
  go_wp2_with fail
  refine Hsz.out.mono ?_
  rintro e w1 ⟨rfl, rfl⟩
  go_wp2_with fail
  refine (Hto.out _ (Below.refl _ _)).mono ?_
  rintro e w1 ⟨A1, c1, rfl, ho1, hb1⟩
  have ht1 := Lib.hid (Txs.of_own ho1); clear ho1
  go_wp2_with fail
  refine (Hsp.out _ _ _ ht1.out).mono ?_
  rintro e w2 ⟨rfl, hb2⟩
  have hb2' := hb1.trans (hb2.mono hb1.size)
  clear ht1 hb1 hb2
  go_wp2_with fail
  refine (Hto.out _ hb2').mono ?_
  rintro e w3 ⟨A2, c2, rfl, ho3, hb3⟩
  have ht3 := Lib.hid (Txs.of_own ho3)
  have hc3 := own_cap ho3
  have hb3' := hb2'.trans (hb3.mono hb2'.size)
  clear ho3 hb3 hb2'
  go_wp2_with fail
  refine (Him.out _ _ _ ht3.out hc3).mono ?_
  rintro e w4 ⟨rfl, hb4⟩
  have ht4 := Lib.hid (ht3.out.below (Nat.le_refl _) hb4)
  have hb4' := hb3'.trans (hb4.mono hb3'.size)
  clear ht3 hb4 hb3'
  go_wp2_with fail
  refine (Hto.out _ hb4').mono ?_
  rintro e w5 ⟨A3, c3, rfl, ho5, hb5⟩
  have ht5 := Lib.hid (Txs.of_own ho5)
  have ht4' := Lib.hid (ht4.out.below (Nat.le_refl _) hb5)
  have hb5' := hb4'.trans (hb5.mono hb4'.size)
  clear ho5 hb5 hb4' ht4
  go_wp2_with fail
  refine (Heq.out _ _ _ _ _ ht4'.out ht5.out).mono ?_
  rintro e w6 ⟨rfl, q, rfl⟩
  go_wp2_with fail
  go_ret
  exact ⟨rfl, below_drewN hb5' q⟩

theorem law_great (A : Option Addr) (cp : Nat) (ps : List (List UInt8)) (s : ByteArray) (w : World) (h : Txs w A ps) (hz : ∀ p ∈ ps, p.length ≤ maxLen) (hn : ps.length ≤ maxLen) (hl : 1048576 < ps.length + lens ps) (hs : s.size ≤ 1048576) :
    Calls Try.prog 5 #[.slice A ps.length cp, .string s] w fun e w' => e = .returned (.bool true) ∧ Below w.heap.size w w' := by
  have Hsz := Lib.hid (sz_no A cp ps 1048576 w h hz hn (by omega) (by omega) (by omega))
  clear h hz
  go_enter Try.func5, Try.ntmps5
  go_wp2_with fail
  refine Hsz.out.mono ?_
  rintro e w1 ⟨rfl, rfl⟩
  go_wp2_with fail
  go_ret
  exact ⟨rfl, Below.refl _ _⟩

theorem law_long (A : Option Addr) (cp n : Nat) (s : ByteArray) (w : World) (hs : 1048576 < s.size) (hm : s.size ≤ maxLen) :
    Calls Try.prog 5 #[.slice A n cp, .string s] w fun e w' => e = .returned (.bool true) ∧ Below w.heap.size w w' := by
  unfold maxLen at hm
  go_enter Try.func5, Try.ntmps5
  go_wp2_with fail
  go_ret
  exact ⟨rfl, Below.refl _ _⟩

theorem law_any (A : Option Addr) (cp : Nat) (ps : List (List UInt8)) (s : ByteArray) (w : World) (h : Txs w A ps) (hz : ∀ p ∈ ps, p.length ≤ maxLen) (hn : ps.length ≤ maxLen) (hm : s.size ≤ maxLen) :
    Calls Try.prog 5 #[.slice A ps.length cp, .string s] w fun e w' => e = .returned (.bool true) ∧ Below w.heap.size w w' := by
  by_cases hs : s.size ≤ 1048576
  · by_cases hl : ps.length + lens ps ≤ 1048576
    · exact law_small A cp ps s w h hl hs
    · exact law_great A cp ps s w h hz hn (by omega) hs
  · exact law_long A cp ps.length s w (by omega) hm

theorem laidOut : laidOutB Try.prog = true := by kernel_rfl
/-- What the walk gives, for every argument. -/
theorem contract (H : Type) (enc : TypeId × Value → H) (W : World) (base : Nat) (args : Array Value) (ds gs : List (DataW H)) (before : List MemPlace)
    (hval : ∀ (j : Nat) t v, Try.f5.params[j]? = some t → args[j]? = some v → Value.okWide Try.prog W .any base t v)
    (hW : DataW.Whole enc Try.prog Try.f5.params.toList Rows.fnExactJoinStringsSpec.vars false W args.toList ds gs before) :
    Calls Try.prog 5 args W fun e W' => ∃ v, e = .returned v ∧ Rows.fnExactJoinStringsSpec.post enc Try.prog Try.f5 false true false false W args v W' := by
  have hW' := hW
  obtain ⟨p, q, hA0, hV, rfl, hfz, hnd⟩ := hW
  have hA : DataW.TrodAll enc Try.prog W 0 (fun _ => true) true Try.f5.params.toList args.toList ds p := hA0
  rw [Try.params5] at hA hval
  obtain ⟨v0, vs0, d0, ds0, p0, q0, hargs, rfl, rfl, h0, r0⟩ := trodAll_cons hA
  obtain ⟨v1, vs1, d1, ds1, p1, q1, rfl, rfl, rfl, h1, r1⟩ := trodAll_cons r0
  obtain ⟨rfl, rfl, rfl⟩ := trodAll_nil r1
  obtain rfl : args = #[v0, v1] := by cases args; simp_all
  obtain ⟨rfl, rfl⟩ := trodVars_none hV
  obtain ⟨A0, n0, c0, rfl⟩ := okWide_slice Try.underlying26 (hval 0 26 v0 rfl rfl)
  have k0 := h0
  have lt0 : ∀ x ∈ p0, x.block < W.heap.size := fun x hx => by have := hW'.lt x (by simp [hx]); simpa using this
  obtain ⟨fu0, hf0⟩ := h0
  obtain ⟨ps0, rfl, ht0, hc0, hm0, hz0⟩ := OpenT.texts_of hf0 lt0
  obtain ⟨a1, rfl, rfl, rfl, w1⟩ := open_string Try.underlying9 (hval 1 9 v1 rfl rfl) h1
  clear hA0
  simp only [List.append_nil] at hW'
  refine (law_any A0 c0 ps0 a1 W ht0 hz0 (Nat.le_trans hc0 hm0) w1).mono fun e W' ⟨he, hg⟩ => ?_
  subst he
  exact ⟨_, rfl, _, _, _, [], (p0 ++ ([] ++ [])), [], hW', trodAll_cons_mk (shut_bool Try.underlying4 _) trodAll_mk0, trodAll_cons_mk (Below.trod laidOut (by kernel_rfl) (of_decide_eq_true (by kernel_rfl)) k0 hg lt0) (trodAll_cons_mk (shut_string Try.underlying9 w1) trodAll_mk0), rfl, hg.frame _, fun h => by cases h⟩

theorem own : ownKnob Try.prog.godebug = none := by kernel_rfl

set_option maxRecDepth 100000 in
theorem lifted (os : Os) (started : os.Started) (H : Type) (enc : TypeId × Value → H) :
    ReturnsInHanded {} Try.checked os 5 .any (Rows.fnExactJoinStringsSpec.pre6 enc Try.prog Try.f5 Rows.fnExactJoinStringsRow.domain false) (Rows.fnExactJoinStringsSpec.post enc Try.prog Try.f5 false true false false) := by
  refine returnsInHanded_of_change (C := Try.checked) own started (by kernel_rfl) Try.func5
    (ChangeSpec.witness6 (enc := enc) (C := Try.checked) false ⟨#[], #[.slice none 0 0, .string ⟨#[]⟩], []⟩ 8 (by kernel_rfl) (by kernel_rfl) (by kernel_rfl) (by kernel_rfl)) ?_
  intro W base args ds gs before hval hW _ _
  exact contract H enc W base args ds gs before hval hW

theorem holds : Rows.FnExactJoinStringsSaid :=
  OpenClaim.holds_of_wide 5 Try.f5 rfl rfl rfl rfl rfl rfl rfl ⟨rfl, rfl, rfl, rfl, rfl⟩ rfl rfl rfl rfl rfl (by kernel_rfl) Try.func5 (by kernel_rfl)
    (of_decide_eq_true (by kernel_rfl)) (by unfold Func.isWrapper; rw [if_neg (by decide +kernel)]; exact ⟨rfl, rfl⟩)
    (fun os started H enc _ => lifted os started H enc)

end JoinP
end Go.Proofs.Ythmeagmabidniaa
