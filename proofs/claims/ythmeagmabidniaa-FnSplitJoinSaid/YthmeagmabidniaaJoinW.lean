/-
  Contracts of the two functions that join texts by a byte.
-/
import Derived.Test.YthmeagmabidniaaRows
import Derived.Test.YthmeagmabidniaaTextsW
import Derived.Test.YthmeagmabidniaaStandsW
import Derived.Test.YthmeagmabidniaaJoin
import Derived.Test.YthmeagmabidniaaShelfStr
import Derived.Deep.LoopGhost
import Derived.WalkMore
namespace Go.Proofs.Ythmeagmabidniaa
open Go.RowKit

namespace JoinW
open Texts TextsW StandsW Joined

theorem quiet_stay {P : Program} {f : FuncId} {args : Array Value} {w : World} {n : Nat} {v : Value}
    (h : Calls P f args (w.drewN n) fun e w' => e = .returned v ∧ w.drewN n = w') : Calls P f args (w.drewN n) fun e w'' => e = .returned v ∧ ∃ m, w'' = w.drewN m :=
  h.mono fun _ _ ⟨he, hw⟩ => ⟨he, n, hw.symm⟩

/-- What both hand back. -/
def joinV (ps : List (List UInt8)) (sep : List UInt8) : Value := .tuple #[.string ⟨((joinR ps sep).getD []).toArray⟩, .bool (joinR ps sep).isSome]
theorem joinV_none {ps : List (List UInt8)} {sep : List UInt8} (h : joinR ps sep = none) : joinV ps sep = .tuple #[.string ⟨#[]⟩, .bool false] := by unfold joinV; rw [h]; rfl
theorem joinV_some {ps : List (List UInt8)} {sep m : List UInt8} (h : joinR ps sep = some m) : joinV ps sep = .tuple #[.string ⟨m.toArray⟩, .bool true] := by unfold joinV; rw [h]; rfl

/-- The text so far; .. with the sign behind it. -/
def outB (c : UInt8) (ps : List (List UInt8)) (k : Nat) : ByteArray := ⟨(jn c (ps.take k)).toArray⟩
def outS (c : UInt8) (ps : List (List UInt8)) (k : Nat) : ByteArray := ⟨(jn c (ps.take k) ++ [c]).toArray⟩
theorem size_mk (l : List UInt8) : (ByteArray.mk l.toArray).size = l.length := List.size_toArray
theorem outB_size (c : UInt8) {ps : List (List UInt8)} {k : Nat} (hk : k < ps.length) : (outB c ps (k + 1)).size = k + lens (ps.take (k + 1)) := by
  unfold outB; rw [size_mk, jn_take_len c hk]
theorem run_first (c : UInt8) (ps : List (List UInt8)) (k : Nat) (p : List UInt8) (hp : ps[k]? = some p) (h0 : k = 0) (hl : p.length ≤ 1048576) (w : World) :
    (Op.stringOp .add (outB c ps k) (ByteArray.mk p.toArray)).run Try.prog w = .ok (.string (outB c ps (k + 1))) w := by
  have h1 : outB c ps (k + 1) = ⟨p.toArray⟩ := by unfold outB; rw [jn_take c hp, if_pos h0]
  have h2 : outB c ps k = ⟨([] : List UInt8).toArray⟩ := by unfold outB; subst h0; rfl
  rw [run_string_add_sum w _ _ (by rw [h2, size_mk, size_mk]; simp; omega), h1, h2, ByteArray.mk_append_mk, List.nil_append]
theorem run_sign (c : UInt8) (ps : List (List UInt8)) (k : Nat) (hl : (outB c ps k).size ≤ 1048576) (w : World) :
    (Op.stringOp .add (outB c ps k) (ByteArray.mk #[c])).run Try.prog w = .ok (.string (outS c ps k)) w := by
  rw [run_string_add_sum w _ _ (by have : (ByteArray.mk #[c]).size = 1 := rfl
                                   omega)]
  unfold outB outS
  rw [show (ByteArray.mk #[c]) = ByteArray.mk [c].toArray from rfl, ByteArray.mk_append_mk]
theorem run_next (c : UInt8) (ps : List (List UInt8)) (k : Nat) (p : List UInt8) (hp : ps[k]? = some p) (h0 : 0 < k) (hl : p.length ≤ 1048576) (hs : (outB c ps k).size ≤ 1048576) (w : World) :
    (Op.stringOp .add (outS c ps k) (ByteArray.mk p.toArray)).run Try.prog w = .ok (.string (outB c ps (k + 1))) w := by
  have h1 : (outS c ps k).size = (outB c ps k).size + 1 := by unfold outS outB; rw [size_mk, size_mk]; simp
  have h2 := size_mk p
  rw [run_string_add_sum w _ _ (by rw [h1, h2]; omega)]
  unfold outB outS
  rw [ByteArray.mk_append_mk, jn_take c hp, if_neg (by omega), List.append_assoc]
  rfl

theorem specJoin_fail_sep (A : Option Addr) (cp n : Nat) (sep : ByteArray) (w : World) (hs : sep.size ≠ 1) (_hm : sep.size ≤ maxLen) :
    Calls Try.prog 13 #[.slice A n cp, .string sep] w fun e w' => e = .returned (.tuple #[.string ⟨#[]⟩, .bool false]) ∧ w = w' := by
  unfold maxLen at _hm
  have e1 : ((sep.size : Int) == 1) = false := by simp; omega
  have e2 : ((sep.size : Int) != 1) = true := by simp; omega
  clear hs
  go_enter Try.func13, Try.ntmps13
  go_wp2_with fail
  go_ret2
  exact ⟨rfl, rfl⟩

theorem specJoin_fail_empty (A : Option Addr) (cp : Nat) (c : UInt8) (w : World) :
    Calls Try.prog 13 #[.slice A 0 cp, .string ⟨#[c]⟩] w fun e w' => e = .returned (.tuple #[.string ⟨#[]⟩, .bool false]) ∧ w = w' := by
  go_enter Try.func13, Try.ntmps13
  go_wp2_with fail
  go_ret2
  exact ⟨rfl, rfl⟩

set_option maxHeartbeats 1000000 in
theorem specJoin_one (A : Option Addr) (cp : Nat) (ps : List (List UInt8)) (c : UInt8) (w : World) (h : Txs w A ps) (h0 : ps ≠ []) (hl : ps.length + lens ps ≤ 1048576) :
    Calls Try.prog 13 #[.slice A ps.length cp, .string ⟨#[c]⟩] w fun e w' => e = .returned (joinV ps [c]) ∧ Below w.heap.size w w' := by
  have H := Lib.hid h; clear h
  have hpos : 0 < ps.length := List.length_pos_iff.2 h0
  have e1 : ((ps.length : Int) == 0) = false := by simp; omega
  have H0 := Lib.hid h0; clear h0
  go_enter Try.func13, Try.ntmps13
  go_wp2_with fail
  go_loopw [6, 7] (fun o i wr => ∃ k : Nat, k ≤ ps.length ∧ i = .int .i64 k ∧ o = .string (outB c ps k) ∧ Hid (∀ p ∈ ps.take k, c ∉ p) ∧ k + lens (ps.take k) ≤ 4001 ∧ Below w.heap.size w wr)
    (fun _ i _ => ps.length - (intOf i).toNat)
  case atStart => exact ⟨0, Nat.zero_le _, rfl, rfl, fun p hp => by simp at hp, by simp [lens], Below.refl _ _⟩
  case round =>
    obtain ⟨k, hk, rfl, rfl, hno, hsz, hb⟩ := hrel
    by_cases hlt : k < ps.length
    · obtain ⟨bk, o, p, rfl, hp, hc⟩ := (H.out.below (Nat.le_refl _) hb).at_ hlt
      have hpl : p.length ≤ 1048576 := by
        have h1 := lens_take hp
        have h2 := lens_le ps (k + 1)
        omega
      have hps : (ByteArray.mk p.toArray).size ≤ maxLen := by rw [size_mk]; unfold maxLen; omega
      have hi1 : (0 : Int) ≤ (k : Int) := by omega
      have hi2 : (k : Int) < (ps.length : Int) := by omega
      by_cases hin : c ∈ p
      · have hn := Lib.hid (join_in (List.mem_of_getElem? hp) hin)
        have hst := Lib.hid (fun W => stands_yes ⟨p.toArray⟩ c _ rfl W hps (by simpa using hin))
        clear hin hp
        go_wp2_with fail
        go_quiet ((go_at_call 33; exact quiet_stay (hst.out _)))
        go_wp2_with fail
        go_ret2
        exact ⟨by rw [joinV_none hn.out]; rfl, below_drewN hb _⟩
      · have hst := Lib.hid (fun W => stands_no ⟨p.toArray⟩ c _ rfl W hps (by simpa using hin))
        have hno1 : Hid (∀ q ∈ ps.take (k + 1), c ∉ q) := fun q hq => by
          rw [List.take_add_one, hp, List.mem_append] at hq
          rcases hq with hq | hq
          · exact hno.out q hq
          · rw [Option.toList_some, List.mem_singleton] at hq
            subst hq; exact hin
        have hz := outB_size c hlt
        have hkz : (outB c ps k).size ≤ 1048576 := by
          unfold outB
          rw [size_mk]
          rcases Nat.eq_zero_or_pos k with hk0 | hk0
          · subst hk0; simp [jn_nil]
          · have := jn_take_len c (ps := ps) (k := k - 1) (by omega)
            rw [show k - 1 + 1 = k by omega] at this
            omega
        have hkey : k = 0 ∨ 0 < k := Nat.eq_zero_or_pos k
        by_cases hover : 4000 < k + lens (ps.take (k + 1))
        · have hn := Lib.hid (join_long (c := c) hlt hover)
          have hz1 : 4000 < (outB c ps (k + 1)).size := by omega
          clear hover
          rcases hkey with hk0 | hk0
          · have hadd := fun w => run_first c ps k p hp hk0 hpl w
            have hk1 : k ≤ 0 := by omega
            clear hin hp hz hk0
            go_wp2_with fail
            go_quiet ((go_at_call 33; exact quiet_stay (hst.out _)))
            go_wp2_with fail
            go_ret2
            exact ⟨by rw [joinV_none hn.out]; rfl, below_drewN hb _⟩
          · have hadd1 := fun w => run_sign c ps k hkz w
            have hadd2 := fun w => run_next c ps k p hp hk0 hpl hkz w
            clear hin hp hz
            go_wp2_with fail
            go_quiet ((go_at_call 33; exact quiet_stay (hst.out _)))
            go_wp2_with fail
            go_ret2
            exact ⟨by rw [joinV_none hn.out]; rfl, below_drewN hb _⟩
        · have hz1 : (outB c ps (k + 1)).size ≤ 4000 := by omega
          have hsz1 : k + 1 + lens (ps.take (k + 1)) ≤ 4001 := by omega
          clear hover
          rcases hkey with hk0 | hk0
          · have hadd := fun w => run_first c ps k p hp hk0 hpl w
            have hk1 : k ≤ 0 := by omega
            clear hin hp hz hk0
            go_wp2_with fail
            go_quiet ((go_at_call 33; exact quiet_stay (hst.out _)))
            go_wp2_with fail
            go_roundw
            case rel => exact ⟨k + 1, by omega, by go_num, rfl, hno1, hsz1, below_drewN hb _⟩
            case measure => simp [intOf]; omega
          · have hadd1 := fun w => run_sign c ps k hkz w
            have hadd2 := fun w => run_next c ps k p hp hk0 hpl hkz w
            clear hin hp hz
            go_wp2_with fail
            go_quiet ((go_at_call 33; exact quiet_stay (hst.out _)))
            go_wp2_with fail
            go_roundw
            case rel => exact ⟨k + 1, by omega, by go_num, rfl, hno1, hsz1, below_drewN hb _⟩
            case measure => simp [intOf]; omega
    · have hks : k = ps.length := by omega
      subst hks
      rw [List.take_length] at hno hsz
      have hv := Lib.hid (join_yes H0.out hno.out (by omega))
      go_wp2_with fail
      go_ret2
      exact ⟨by rw [joinV_some hv.out]; unfold outB; rw [List.take_length]; rfl, hb⟩

/-- Whether the texts can be joined, as a bool under a name. -/
def can (ps : List (List UInt8)) (c : UInt8) : Bool := (joinR ps [c]).isSome

set_option maxHeartbeats 1000000 in
theorem canJoin_any (A : Option Addr) (cp : Nat) (ps : List (List UInt8)) (c : UInt8) (w : World) (h : Txs w A ps) (h0 : ps ≠ []) (hl : ps.length + lens ps ≤ 1048576) :
    Calls Try.prog 31 #[.slice A ps.length cp, .int .u8 c.toNat] w fun e w' => e = .returned (.bool (can ps c)) ∧ w = w' := by
  have H := Lib.hid h; clear h
  have hpos : 0 < ps.length := List.length_pos_iff.2 h0
  have H0 := Lib.hid h0; clear h0
  go_enter Try.func31, Try.ntmps31
  go_wp2_with fail
  go_step3
  go_wp2_with fail
  go_step3
  go_wp2_with fail
  go_loopg [5, 6, 15] ps.length (fun g sz fi i wx => ∃ k : Nat, k + g = ps.length ∧ i = .int .i64 k ∧ fi = .bool true ∧ sz = .int .i64 ((ps.length : Int) - 1 + (lens (ps.take k) : Nat)) ∧ Hid (∀ p ∈ ps.take k, c ∉ p) ∧ ps.length + lens (ps.take k) ≤ 1048576 ∧ (k = 0 ∨ ps.length + lens (ps.take k) ≤ 4001) ∧ w = wx)
  case atStart => exact ⟨0, by omega, rfl, rfl, by simp [lens], fun p hp => by simp at hp, by simp [lens]; omega, Or.inl rfl, rfl⟩
  case round =>
    obtain ⟨k, hkg, rfl, rfl, rfl, hno, hsz, h41, rfl⟩ := hrel
    cases gk with
    | zero =>
      have hks : k = ps.length := by omega
      subst hks
      rw [List.take_length] at hno hsz h41
      have hv : can ps c = true := by unfold can; rw [join_yes H0.out hno.out (by omega)]; rfl
      have hv := Lib.hid hv
      go_wp2_with fail
      try rw [Exit.noGoto_ret]
      go_ret
      exact ⟨by rw [hv.out]; rfl, rfl⟩
    | succ g =>
      have hlt : k < ps.length := by omega
      obtain ⟨bk, o, p, rfl, hp, hc⟩ := H.out.at_ hlt
      have hst := lens_take hp
      have hle := lens_le ps (k + 1)
      have hpl : ps.length + lens (ps.take k) + p.length ≤ 1048576 := by omega
      have hi2 : (k : Int) < (ps.length : Int) := by omega
      by_cases hover : 4001 < ps.length + lens (ps.take (k + 1))
      · have hv : can ps c = false := by unfold can; rw [join_long' H0.out hover]; rfl
        have hv := Lib.hid hv
        have hov : 4001 < ps.length + lens (ps.take k) + p.length := by omega
        clear hst hp h41 hkg
        go_wp2_with fail
        try rw [Exit.noGoto_ret]
        go_ret
        exact ⟨by rw [hv.out]; rfl, rfl⟩
      · have hov : ps.length + lens (ps.take k) + p.length ≤ 4001 := by omega
        have Hst := Lib.hid hst; clear hst
        have Hkg := Lib.hid hkg; clear hkg
        have Hp := Lib.hid hp; clear hp
        clear h41
        go_wp2_with fail
        go_loopg [6, 27] p.length (fun g2 fi j wy => ∃ m : Nat, m + g2 = p.length ∧ j = .int .i64 m ∧ fi = .bool true ∧ Hid (∀ q ∈ p.take m, q ≠ c) ∧ w = wy)
        case atStart => exact ⟨0, by omega, rfl, rfl, fun q hq => by simp at hq, rfl⟩
        case round =>
          obtain ⟨m, hmg, rfl, rfl, hnm, rfl⟩ := hrel
          cases gk with
          | zero =>
            have hms : m = p.length := by omega
            subst hms
            have hno1 : Hid (∀ q ∈ ps.take (k + 1), c ∉ q) := fun q hq => by
              rw [List.take_add_one, Hp.out, List.mem_append] at hq
              rcases hq with hq | hq
              · exact hno.out q hq
              · rw [Option.toList_some, List.mem_singleton] at hq
                subst hq
                have hnm' := hnm.out
                rw [List.take_length] at hnm'
                exact fun hcq => hnm' c hcq rfl
            go_wp2_with fail
            go_roundg g
            case measure => omega
            case rel => exact ⟨k + 1, by have := Hkg.out; omega, by go_num, rfl, by rw [Hst.out]; congr 1; omega, hno1, by rw [Hst.out]; omega, Or.inr (by rw [Hst.out]; omega), rfl⟩
          | succ g2 =>
            have hmt : m < p.length := by omega
            have Hmg := Lib.hid hmg; clear hmg
            have hms : m < (ByteArray.mk p.toArray).size := by rw [size_mk]; exact hmt
            have hel : (ByteArray.mk p.toArray)[m] = p[m] := by
              show p.toArray[m]'(by simpa using hmt) = p[m]
              simp
            by_cases heq : p[m] = c
            · have hin : c ∈ p := heq ▸ List.getElem_mem hmt
              have hv : can ps c = false := by unfold can; rw [join_in (List.mem_of_getElem? Hp.out) hin]; rfl
              have hv := Lib.hid hv
              have e1 : ((((ByteArray.mk p.toArray)[m]).toNat : Int) == (c.toNat : Int)) = true := by rw [hel, heq]; simp
              clear hin heq hel
              go_wp2_with fail
              try rw [Exit.noGoto_ret]
              go_ret
              exact ⟨by rw [hv.out]; rfl, rfl⟩
            · have hne : p[m].toNat ≠ c.toNat := fun e => heq (UInt8.toNat_inj.1 e)
              have e1 : ((((ByteArray.mk p.toArray)[m]).toNat : Int) == (c.toNat : Int)) = false := by rw [hel]; simp; omega
              have hnm1 : Hid (∀ q ∈ p.take (m + 1), q ≠ c) := fun q hq => by
                rw [List.take_succ_eq_append_getElem hmt, List.mem_append] at hq
                rcases hq with hq | hq
                · exact hnm.out q hq
                · rw [List.mem_singleton] at hq
                  subst hq; exact heq
              clear heq hel hne
              go_wp2_with fail
              go_roundg g2
              case measure => omega
              case rel => exact ⟨m + 1, by have := Hmg.out; omega, by go_num, rfl, hnm1, rfl⟩

theorem clone_any (s : ByteArray) (w : World) (hs : s.size ≤ 1048576) :
    Calls Try.prog 28 #[.string s] w fun e w' => e = .returned (.string s) ∧ Below w.heap.size w w' := by
  have hc := Lib.hid (Try.stringslite_Clone s w (by omega))
  go_enter Try.func28, Try.ntmps28
  go_wp2_with fail
  refine hc.out.mono ?_
  rintro e w1 ⟨rfl, hb⟩
  go_wp2_with fail
  go_ret
  exact ⟨rfl, hb⟩

theorem implJoin_fail_empty (A : Option Addr) (cp : Nat) (sep : ByteArray) (w : World) :
    Calls Try.prog 12 #[.slice A 0 cp, .string sep] w fun e w' => e = .returned (.tuple #[.string ⟨#[]⟩, .bool false]) ∧ w = w' := by
  go_enter Try.func12, Try.ntmps12
  go_wp2_with fail
  go_ret2
  exact ⟨rfl, rfl⟩

theorem implJoin_fail_sep (A : Option Addr) (cp n : Nat) (sep : ByteArray) (w : World) (hn : 0 < n) (hs : sep.size ≠ 1) (_hm : sep.size ≤ maxLen) (_hn : n ≤ maxLen) :
    Calls Try.prog 12 #[.slice A n cp, .string sep] w fun e w' => e = .returned (.tuple #[.string ⟨#[]⟩, .bool false]) ∧ w = w' := by
  unfold maxLen at _hm _hn
  have e1 : ((sep.size : Int) == 1) = false := by simp; omega
  have e2 : ((sep.size : Int) != 1) = true := by simp; omega
  have e3 : ((n : Int) == 0) = false := by simp; omega
  clear hs
  go_enter Try.func12, Try.ntmps12
  go_wp2_with fail
  go_ret2
  exact ⟨rfl, rfl⟩

set_option maxHeartbeats 1000000 in
theorem implJoin_one (A : Option Addr) (cp : Nat) (ps : List (List UInt8)) (c : UInt8) (w : World) (h : Txs w A ps) (h0 : ps ≠ []) (hl : ps.length + lens ps ≤ 1048576) (hcp : ps.length ≤ cp) :
    Calls Try.prog 12 #[.slice A ps.length cp, .string ⟨#[c]⟩] w fun e w' => e = .returned (joinV ps [c]) ∧ Below w.heap.size w w' := by
  have hcan := canJoin_any A cp ps c w h h0 hl
  have hpos : 0 < ps.length := List.length_pos_iff.2 h0
  have e1 : ((ps.length : Int) == 0) = false := by simp; omega
  rcases hr : joinR ps [c] with _ | m
  · have hv : can ps c = false := by unfold can; rw [hr]; rfl
    rw [hv] at hcan
    have Hcan := Lib.hid hcan; clear hcan
    have Hr := Lib.hid hr; clear hr
    clear h h0 hv
    go_enter Try.func12, Try.ntmps12
    go_wp2_with fail
    refine Hcan.out.mono ?_
    rintro e w1 ⟨rfl, rfl⟩
    go_wp2_with fail
    go_ret2
    exact ⟨by rw [joinV_none Hr.out]; rfl, Below.refl _ _⟩
  · have hv : can ps c = true := by unfold can; rw [hr]; rfl
    rw [hv] at hcan
    have hm : m = jn c ps ∧ (jn c ps).length ≤ 4000 := by
      have hr' : joinC ps c = some m := hr
      unfold joinC at hr'
      split at hr'
      · rename_i hc
        injection hr' with hr'
        exact ⟨hr'.symm, hc.2.2⟩
      · cases hr'
    obtain ⟨rfl, hm4⟩ := hm
    rcases h with h | ⟨bk, o, rfl, hbk, hcells⟩
    · exact absurd h h0
    have hj := Try.strings_Join bk o cp (ps.map fun p => ByteArray.mk p.toArray) ⟨#[c]⟩ w (fun j x hx => by
      rw [List.getElem?_map, Option.map_eq_some_iff] at hx
      obtain ⟨p, hp, rfl⟩ := hx
      exact hcells j p hp) hbk (by rw [List.length_map]; omega) (by rw [List.length_map]; exact hcp)
    have hid : (ps.map fun p => ByteArray.mk p.toArray).map (·.data.toList) = ps := by
      rw [List.map_map]
      have : ((fun x : ByteArray => x.data.toList) ∘ fun p : List UInt8 => ByteArray.mk p.toArray) = id := by funext p; simp
      rw [this, List.map_id]
    rw [hid, List.length_map] at hj
    have hsl : (ByteArray.mk #[c]).data.toList = [c] := rfl
    rw [hsl] at hj
    have hj' := hj (by show (jn c ps).length ≤ _; omega)
    have Hj : Hid (Calls Try.prog 32 #[.slice (some ⟨bk, o, none⟩) ps.length cp, .string ⟨#[c]⟩] w fun e w' => e = .returned (.string ⟨(jn c ps).toArray⟩) ∧ Below w.heap.size w w') := hj'
    have Hcl := Lib.hid (fun w => clone_any ⟨(jn c ps).toArray⟩ w (by rw [size_mk]; omega))
    have Hcan := Lib.hid hcan; clear hcan
    have Hr := Lib.hid hr; clear hr
    clear h0 hv hcells hid hsl hj hj'
    go_enter Try.func12, Try.ntmps12
    go_wp2_with fail
    refine Hcan.out.mono ?_
    rintro e w1 ⟨rfl, rfl⟩
    go_wp2_with fail
    refine Hj.out.mono ?_
    rintro e w1 ⟨rfl, hb1⟩
    go_wp2_with fail
    refine (Hcl.out _).mono ?_
    rintro e w2 ⟨rfl, hb2⟩
    go_wp2_with fail
    go_ret2
    exact ⟨by rw [joinV_some Hr.out]; rfl, hb1.trans (hb2.mono hb1.size)⟩

end JoinW
end Go.Proofs.Ythmeagmabidniaa
