/-
  FnSplitJoin: for every list of bytes the law returns true, and the list reads afterwards as it read before. No condition.
-/
import Derived.Test.YthmeagmabidniaaRows
import Derived.Test.YthmeagmabidniaaDrawJ
import Derived.Test.YthmeagmabidniaaOpenB
import Derived.Test.YthmeagmabidniaaSplitP
import Derived.Test.YthmeagmabidniaaJoinP
import Derived.Test.YthmeagmabidniaaLessP
import Derived.Sort.Walk0
import Derived.WalkKit
import Derived.WalkLawsBesides
import Derived.ProofKit
import Derived.OpenShut
namespace Go.Proofs.Ythmeagmabidniaa
open Go.ChangeShapes Go.WideShapes Go.ChangeAt Go.RowKit
open Go.ChangeMaps (open_string shut_string)

namespace SplitJoinP
open Texts Split SplitW Joined JoinW SplitP

/-- The parts of a text, joined again, are the text, and none of them holds the byte. -/
theorem parts_jn (c : UInt8) (l : List UInt8) : jn c (parts c l) = l ∧ (∀ p ∈ parts c l, c ∉ p) := by
  refine snoc_ind (p := fun l => jn c (parts c l) = l ∧ (∀ p ∈ parts c l, c ∉ p)) ?_ ?_ l
  · exact ⟨rfl, by simp [parts, sp_nil]⟩
  · rintro l b ⟨i1, i2⟩
    by_cases h : b = c
    · unfold parts at *
      rw [sp_hit h]
      refine ⟨?_, ?_⟩
      · rw [jn_snoc c (by simp), i1, h]
      · intro p hp
        rcases List.mem_append.1 hp with hp | hp
        · exact i2 p hp
        · simp at hp; subst hp; simp
    · unfold parts at *
      rw [sp_miss h]
      refine ⟨?_, ?_⟩
      · by_cases h0 : (sp c l).1 = []
        · rw [h0, List.nil_append, jn_one] at i1
          simp only [h0, List.nil_append, jn_one, i1]
        · rw [jn_snoc c h0] at i1 ⊢
          rw [← List.cons_append, ← List.append_assoc, i1]
      · intro p hp
        rcases List.mem_append.1 hp with hp | hp
        · exact i2 p (List.mem_append_left _ hp)
        · simp only [List.mem_singleton] at hp
          subst hp
          have := i2 (sp c l).2 (by simp)
          simp only [List.mem_append, List.mem_singleton, not_or]
          exact ⟨this, fun e => h e.symm⟩
theorem parts_ne (c : UInt8) (l : List UInt8) : parts c l ≠ [] := by unfold parts; simp
theorem join_parts (c : UInt8) (l : List UInt8) (h : l.length ≤ 4000) : joinR (parts c l) [c] = some l ∧ (parts c l).length + lens (parts c l) ≤ 4001 := by
  obtain ⟨h1, h2⟩ := parts_jn c l
  have h3 := jn_len c (parts_ne c l)
  rw [h1] at h3
  refine ⟨?_, by omega⟩
  rw [join_yes (parts_ne c l) h2 (by omega), h1]

theorem less_asym (a b : List UInt8) (h : Op.bytesLess a b = true) : Op.bytesLess b a = false := by
  rw [bytesLess_eq] at h ⊢
  simp only [decide_eq_true_eq, decide_eq_false_iff_not] at h ⊢
  exact fun h' => List.lt_irrefl a (List.lt_trans h h')

theorem big_yes (A : Option Addr) (n c : Nat) (w : World) (h : 65536 < n) (hn : n ≤ maxLen) :
    Calls Try.prog 8 #[.slice A n c] w fun e w' => e = .returned (.bool true) ∧ w = w' := by
  unfold maxLen at hn
  have e0 : (65536 : Int) < (n : Int) := by omega
  go_enter Try.func8, Try.ntmps8
  go_wp2_with fail
  go_ret
  exact ⟨by simp, rfl⟩
theorem big_no (A : Option Addr) (n c : Nat) (w : World) (h : ¬ 65536 < n) :
    Calls Try.prog 8 #[.slice A n c] w fun e w' => e = .returned (.bool false) ∧ w = w' := by
  have e0 : ¬ (65536 : Int) < (n : Int) := by omega
  go_enter Try.func8, Try.ntmps8
  go_wp2_with fail
  go_ret
  exact ⟨by simp, rfl⟩

theorem law_big (A : Option Addr) (n c : Nat) (w : World) (h : 65536 < n) (hn : n ≤ maxLen) :
    Calls Try.prog 3 #[.slice A n c] w fun e w' => e = .returned (.bool true) ∧ Below w.heap.size w w' := by
  have H := Lib.hid (big_yes A n c w h hn)
  go_enter Try.func3, Try.ntmps3
  go_wp2_with fail
  refine H.out.mono ?_
  rintro e w1 ⟨rfl, rfl⟩
  go_wp2_with fail
  go_ret
  exact ⟨rfl, Below.refl _ _⟩

theorem own_cap {w : World} {B n c : Nat} {A : Option Addr} {t : TypeId} {xs : List Value} (h : w.ownsRow B t 1 (.slice A n c) n xs) : n ≤ c := by
  rcases h.2 with ⟨_, h0⟩ | ⟨g, cap, _, hv, _, _, hc, _⟩
  · omega
  · injection hv with _ _ h2; omega
theorem txs_strV {w : World} {B c : Nat} {A : Option Addr} {t : TypeId} {ps : List (List UInt8)} (h : w.ownsRow B t 1 (.slice A ps.length c) ps.length (ps.map strV)) : Txs w A ps := Txs.of_own h

theorem split_both (s sep : List UInt8) (hs : s.length ≤ 10) : ∃ ps ok, splitPs s sep = (ps, ok) ∧ ((sep.length = 1 ∧ ok = true ∧ joinR ps sep = some s ∧ ps.length + lens ps ≤ 4001) ∨ (sep.length ≠ 1 ∧ ok = false ∧ ps = [])) := by
  by_cases h : sep.length = 1
  · match sep, h with
    | [c], _ =>
      obtain ⟨h1, h2⟩ := join_parts c s (by omega)
      exact ⟨_, _, split_yes (by omega), .inl ⟨rfl, rfl, h1, h2⟩⟩
  · exact ⟨_, _, split_sep h, .inr ⟨h, rfl, rfl⟩⟩

set_option maxHeartbeats 2000000 in
theorem law_small (A : Option Addr) (n c : Nat) (w : World) (hc : CurW.Code w w.heap.size A n) (h : ¬ 65536 < n) :
    Calls Try.prog 3 #[.slice A n c] w fun e w' => e = .returned (.bool true) ∧ Below w.heap.size w w' := by
  have hn : n ≤ maxLen := by unfold maxLen; omega
  have Hbig := Lib.hid (fun w => big_no A n c w h)
  have Hds := Lib.hid (fun w h => CurW.drawSplit_any A n c w h hn)
  have Hdj := Lib.hid (fun w h => DrawJ.drawJoin_any A n c w h hn)
  have Hdl := Lib.hid (fun w h => CurW.drawLess_any A n c w h hn)
  have Hs := Lib.hid (fun s t w hs ht => SplitP.impl_any s t w hs ht)
  have Hji := Lib.hid (fun A cp ps s w h hl hs hcp => JoinP.implJoin_any A cp ps s w h hl hs hcp)
  have Hjs := Lib.hid (fun A cp ps s w h hl hs => JoinP.specJoin_any A cp ps s w h hl hs)
  have Hli := Lib.hid Less.impl_any
  have Hls := Lib.hid Less.spec_any
  have Hc := Lib.hid hc; clear hc
  go_enter Try.func3, Try.ntmps3
  go_wp2_with fail
  refine (Hbig.out _).mono ?_
  rintro e w0 ⟨rfl, rfl⟩
  go_wp2_with fail
  refine (Hds.out _ Hc.out).mono ?_
  rintro e w1 ⟨⟨s, sep, hs, hsep, rfl⟩, hb1⟩
  have hss := CurW.words_len hs
  have hse : sep.length ≤ 10 := by have : ∀ q ∈ CurW.seps, q.length ≤ 10 := by decide
                                   exact this _ hsep
  have Hb1 := Lib.hid hb1; clear hb1
  go_wp2_with fail
  obtain ⟨ps, ok, hr, hps⟩ := split_both s sep hss
  have hsp : ∀ w, Calls Try.prog 10 #[.string ⟨s.toArray⟩, .string ⟨sep.toArray⟩] w (OwnT w (ps, ok)) := fun w => by
    have := SplitP.impl_any ⟨s.toArray⟩ ⟨sep.toArray⟩ w (by rw [DrawJ.size_toArray]; unfold maxLen; omega) (by rw [DrawJ.size_toArray]; unfold maxLen; omega)
    rwa [show splitPs (ByteArray.mk s.toArray).data.toList (ByteArray.mk sep.toArray).data.toList = (ps, ok) from hr] at this
  refine (hsp _).mono ?_
  rintro e w2 ⟨A2, c2, rfl, ho2, hb2⟩
  have hcp2 := own_cap ho2
  have t2 := Lib.hid (txs_strV ho2); clear ho2
  have hb2' := Hb1.out.trans (hb2.mono Hb1.out.size)
  have Hb2 := Lib.hid hb2'; clear hb2' hb2 hsp
  have Hc2 := Lib.hid ((Hc.out.below Hb2.out).mono Hb2.out.size)
  go_wp2_with fail
  refine (Hdj.out _ Hc2.out).mono ?_
  rintro e w3 ⟨⟨A3, c3, qs, mk, rfl, ho3, hq3, hm3⟩, hb3⟩
  have hcp3 := own_cap ho3
  have t3 := Lib.hid (txs_strV ho3); clear ho3
  have t23 := Lib.hid (t2.out.below (Nat.le_refl _) hb3)
  have Hb3 := Lib.hid (Hb2.out.trans (hb3.mono Hb2.out.size)); clear hb3
  obtain ⟨j, fine, hj⟩ : ∃ j fine, joinV qs mk.data.toList = .tuple #[.string j, .bool fine] := ⟨_, _, rfl⟩
  go_wp2_with fail
  refine (Hji.out _ _ _ _ _ t3.out (by omega) (by unfold maxLen; omega) hcp3).mono ?_
  rw [hj]
  rintro e w4 ⟨rfl, hb4⟩
  have t34 := Lib.hid (t3.out.below (Nat.le_refl _) hb4)
  have t24 := Lib.hid (t23.out.below (Nat.le_refl _) hb4)
  have Hb4 := Lib.hid (Hb3.out.trans (hb4.mono Hb3.out.size)); clear hb4
  go_wp2_with fail
  refine (Hjs.out _ _ _ _ _ t34.out (by omega) (by unfold maxLen; omega)).mono ?_
  rw [hj]
  rintro e w5 ⟨rfl, hb5⟩
  have t25 := Lib.hid (t24.out.below (Nat.le_refl _) hb5)
  have Hb5 := Lib.hid (Hb4.out.trans (hb5.mono Hb4.out.size)); clear hb5 hj t3 t34 t23 t24 t2
  have Hc5 := Lib.hid ((Hc.out.below Hb5.out).mono Hb5.out.size)
  go_wp2_with fail
  refine (Hdl.out _ Hc5.out).mono ?_
  rintro e w6 ⟨⟨a, b, ha, hb, rfl⟩, hb6⟩
  have t26 := Lib.hid (t25.out.below (Nat.le_refl _) hb6)
  have Hb6 := Lib.hid (Hb5.out.trans (hb6.mono Hb5.out.size)); clear hb6 t25 Hc5
  obtain ⟨L1, hL1⟩ : ∃ L1, Op.bytesLess (ByteArray.mk a.toArray).toList (ByteArray.mk b.toArray).toList = L1 := ⟨_, rfl⟩
  obtain ⟨L2, hL2⟩ : ∃ L2, Op.bytesLess (ByteArray.mk b.toArray).toList (ByteArray.mk a.toArray).toList = L2 := ⟨_, rfl⟩
  have hL : L1 = true → L2 = false := fun e => by rw [← hL2]; exact less_asym _ _ (hL1.trans e)
  have Hi1 := Lib.hid (fun w => Hli.out ⟨a.toArray⟩ ⟨b.toArray⟩ w)
  have Hi2 := Lib.hid (fun w => Hli.out ⟨b.toArray⟩ ⟨a.toArray⟩ w)
  have Hs1 := Lib.hid (fun w => Hls.out ⟨a.toArray⟩ ⟨b.toArray⟩ w)
  simp only [hL1, hL2] at Hi1 Hi2 Hs1
  have HL := Lib.hid hL; clear hL hL1 hL2
  go_wp2_with fail
  refine (Hi1.out _).mono ?_
  rintro e w7 ⟨rfl, rfl⟩
  go_wp2_with fail
  refine (Hs1.out _).mono ?_
  rintro e w7 ⟨rfl, rfl⟩
  cases L1
  · clear HL Hi2
    go_wp2_with fail
    refine (Hi1.out _).mono ?_
    rintro e w7 ⟨rfl, rfl⟩
    rcases hps with ⟨h1, rfl, hjo, hsz⟩ | ⟨h1, rfl, rfl⟩
    · have q1 : ((sep.length : Int) != 1) = false := by simp; omega
      have Hj := Lib.hid (fun w ht => Hji.out A2 c2 ps ⟨sep.toArray⟩ w ht (by omega) (by rw [DrawJ.size_toArray]; unfold maxLen; omega) hcp2)
      have hjv : joinV ps sep = .tuple #[.string ⟨s.toArray⟩, .bool true] := joinV_some hjo
      clear h1
      go_wp2_with fail
      refine (Hj.out _ t26.out).mono ?_
      rw [hjv]
      rintro e w8 ⟨rfl, hb8⟩
      have Hb8 := Lib.hid (Hb6.out.trans (hb8.mono Hb6.out.size)); clear hb8
      go_wp2_with fail
      go_ret
      exact ⟨rfl, Hb8.out⟩
    · have q1 : ((sep.length : Int) != 1) = true := by simp; omega
      clear h1
      go_wp2_with fail
      go_ret
      exact ⟨rfl, Hb6.out⟩
  · obtain rfl := HL.out rfl
    go_wp2_with fail
    refine (Hi1.out _).mono ?_
    rintro e w7 ⟨rfl, rfl⟩
    go_wp2_with fail
    refine (Hi2.out _).mono ?_
    rintro e w7 ⟨rfl, rfl⟩
    rcases hps with ⟨h1, rfl, hjo, hsz⟩ | ⟨h1, rfl, rfl⟩
    · have q1 : ((sep.length : Int) != 1) = false := by simp; omega
      have Hj := Lib.hid (fun w ht => Hji.out A2 c2 ps ⟨sep.toArray⟩ w ht (by omega) (by rw [DrawJ.size_toArray]; unfold maxLen; omega) hcp2)
      have hjv : joinV ps sep = .tuple #[.string ⟨s.toArray⟩, .bool true] := joinV_some hjo
      clear h1
      go_wp2_with fail
      refine (Hj.out _ t26.out).mono ?_
      rw [hjv]
      rintro e w8 ⟨rfl, hb8⟩
      have Hb8 := Lib.hid (Hb6.out.trans (hb8.mono Hb6.out.size)); clear hb8
      go_wp2_with fail
      go_ret
      exact ⟨rfl, Hb8.out⟩
    · have q1 : ((sep.length : Int) != 1) = true := by simp; omega
      clear h1
      go_wp2_with fail
      go_ret
      exact ⟨rfl, Hb6.out⟩

theorem law_any (A : Option Addr) (n c : Nat) (w : World) (hc : CurW.Code w w.heap.size A n) (hn : n ≤ maxLen) :
    Calls Try.prog 3 #[.slice A n c] w fun e w' => e = .returned (.bool true) ∧ Below w.heap.size w w' := by
  by_cases h : 65536 < n
  · exact law_big A n c w h hn
  · exact law_small A n c w hc h

theorem laidOut : laidOutB Try.prog = true := by kernel_rfl
/-- What the walk gives, for every argument. -/
theorem contract (H : Type) (enc : TypeId × Value → H) (W : World) (base : Nat) (args : Array Value) (ds gs : List (DataW H)) (before : List MemPlace)
    (hval : ∀ (j : Nat) t v, Try.f3.params[j]? = some t → args[j]? = some v → Value.okWide Try.prog W .any base t v)
    (hW : DataW.Whole enc Try.prog Try.f3.params.toList Rows.fnSplitJoinSpec.vars false W args.toList ds gs before) :
    Calls Try.prog 3 args W fun e W' => ∃ v, e = .returned v ∧ Rows.fnSplitJoinSpec.post enc Try.prog Try.f3 false true false false W args v W' := by
  have hW' := hW
  obtain ⟨p, q, hA0, hV, rfl, hfz, hnd⟩ := hW
  have hA : DataW.TrodAll enc Try.prog W 0 (fun _ => true) true Try.f3.params.toList args.toList ds p := hA0
  rw [Try.params3] at hA hval
  obtain ⟨v0, vs0, d0, ds0, p0, q0, hargs, rfl, rfl, h0, r0⟩ := trodAll_cons hA
  obtain ⟨rfl, rfl, rfl⟩ := trodAll_nil r0
  obtain rfl : args = #[v0] := by cases args; simp_all
  obtain ⟨rfl, rfl⟩ := trodVars_none hV
  obtain ⟨A0, n0, c0, rfl⟩ := okWide_slice Try.underlying22 (hval 0 22 v0 rfl rfl)
  have k0 := h0
  have lt0 : ∀ x ∈ p0, x.block < W.heap.size := fun x hx => by have := hW'.lt x (by simp [hx]); simpa using this
  obtain ⟨fu0, hf0⟩ := h0
  obtain ⟨ht0, hc0, hm0⟩ := OpenB.code_of hf0 lt0
  clear hA0
  simp only [List.append_nil] at hW'
  refine (law_any A0 n0 c0 W ht0 (Nat.le_trans hc0 hm0)).mono fun e W' ⟨he, hg⟩ => ?_
  subst he
  exact ⟨_, rfl, _, _, _, [], (p0 ++ []), [], hW', trodAll_cons_mk (shut_bool Try.underlying4 _) trodAll_mk0, trodAll_cons_mk (Below.trod laidOut (by kernel_rfl) (of_decide_eq_true (by kernel_rfl)) k0 hg lt0) trodAll_mk0, rfl, hg.frame _, fun h => by cases h⟩

theorem own : ownKnob Try.prog.godebug = none := by kernel_rfl

set_option maxRecDepth 100000 in
theorem lifted (os : Os) (started : os.Started) (H : Type) (enc : TypeId × Value → H) :
    ReturnsInHanded {} Try.checked os 3 .any (Rows.fnSplitJoinSpec.pre6 enc Try.prog Try.f3 Rows.fnSplitJoinRow.domain false) (Rows.fnSplitJoinSpec.post enc Try.prog Try.f3 false true false false) := by
  refine returnsInHanded_of_change (C := Try.checked) own started (by kernel_rfl) Try.func3
    (ChangeSpec.witness6 (enc := enc) (C := Try.checked) false ⟨#[], #[.slice none 0 0], []⟩ 8 (by kernel_rfl) (by kernel_rfl) (by kernel_rfl) (by kernel_rfl)) ?_
  intro W base args ds gs before hval hW _ _
  exact contract H enc W base args ds gs before hval hW

theorem holds : Rows.FnSplitJoinSaid :=
  OpenClaim.holds_of_wide 3 Try.f3 rfl rfl rfl rfl rfl rfl rfl ⟨rfl, rfl, rfl, rfl, rfl⟩ rfl rfl rfl rfl rfl (by kernel_rfl) Try.func3 (by kernel_rfl)
    (of_decide_eq_true (by kernel_rfl)) (by unfold Func.isWrapper; rw [if_neg (by decide +kernel)]; exact ⟨rfl, rfl⟩)
    (fun os started H enc _ => lifted os started H enc)

end SplitJoinP
end Go.Proofs.Ythmeagmabidniaa
