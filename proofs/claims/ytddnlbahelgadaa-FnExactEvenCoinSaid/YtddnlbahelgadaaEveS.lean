/-
  EvenCoin by the specification.
-/
import Derived.Test.YtddnlbahelgadaaRows
import Derived.Test.YtddnlbahelgadaaArr
import Derived.Test.YtddnlbahelgadaaDieW
import Derived.Test.YtddnlbahelgadaaSortW
import Derived.Test.YtddnlbahelgadaaDicesW
import Derived.Test.YtddnlbahelgadaaOwnL
import Derived.Test.YtddnlbahelgadaaIntsW
import Derived.Test.YtddnlbahelgadaaIntsE
import Derived.Test.YtddnlbahelgadaaOpenI
import Derived.Test.YtddnlbahelgadaaOpenD
import Derived.Test.YtddnlbahelgadaaMadL
import Derived.Test.YtddnlbahelgadaaMadC
import Derived.Test.YtddnlbahelgadaaMadK
import Derived.Test.YtddnlbahelgadaaListK
import Derived.Test.YtddnlbahelgadaaThrS
import Derived.Test.YtddnlbahelgadaaOpenD
import Derived.WalkKit
import Derived.WalkLawsBesides
import Derived.WalkSpells
import Derived.ProofKit
import Derived.OpenShut
import Derived.Deep.RegionWith
import Derived.Deep.QuietTactic
import Derived.BigQuiet
namespace Go.Proofs.Ytddnlbahelgadaa
open Go.ChangeShapes Go.WideShapes Go.ChangeAt Go.RowKit
open Go.ChangeMaps (open_string shut_string)

namespace EveS
open Dice Arr DieW SortW OwnL OpenG OpenD MadL MadC IntsW MadK ListK ThrS

/-- The pairs of throws: which makes which bit. -/
def pa (f : Nat → Int) (l : Int) (k : Nat) : Bool := decide (f (2 * k) < l)
def pb (f : Nat → Int) (l : Int) (k : Nat) : Bool := decide (f (2 * k + 1) < l)
def el (f : Nat → Int) (l : Int) : Nat → List Int
  | 0 => []
  | k + 1 => if pa f l k == pb f l k then el f l k else if pa f l k then el f l k ++ [1] else el f l k ++ [0]
def en (f : Nat → Int) (l : Int) : Nat → Nat
  | 0 => 0
  | k + 1 => if pa f l k == pb f l k then en f l k + 1 else en f l k
theorem el_len (f : Nat → Int) (l : Int) : ∀ k, (el f l k).length ≤ k ∧ en f l k ≤ k
  | 0 => ⟨Nat.le_refl _, Nat.le_refl _⟩
  | k + 1 => by
    have := el_len f l k
    refine ⟨?_, ?_⟩
    · show (if pa f l k == pb f l k then el f l k else if pa f l k then el f l k ++ [1] else el f l k ++ [0]).length ≤ _
      split
      · omega
      · split
        · simp; omega
        · simp; omega
    · show (if pa f l k == pb f l k then en f l k + 1 else en f l k) ≤ _
      split
      · omega
      · omega
def okE (l : Int) (n : Nat) (f : Nat → Int) : Bool := okM 40 6 n f && decide (0 ≤ l ∧ l ≤ 6)
def oE (l : Int) (n : Nat) (f : Nat → Int) : List Int := if okE l n f then el f l (n / 2) else []
def nE (l : Int) (n : Nat) (f : Nat → Int) : Int := if okE l n f then ((en f l (n / 2) : Nat) : Int) else 0
theorem oE_len (l : Int) (n : Nat) (f : Nat → Int) : (oE l n f).length ≤ 1048576 := by
  unfold oE
  split
  case isTrue h =>
    simp only [okE, Bool.and_eq_true] at h
    have := (of_okM h.1).1
    have := el_len f l (n / 2)
    omega
  case isFalse => exact Nat.zero_le _

set_option maxRecDepth 100000 in
set_option maxHeartbeats 4000000 in
theorem specEO_any (g n : Nat) (l : Int) (f : Nat → Int) (w : World) (hA : At w g n f) (hn : n ≤ 1048576) :
    Calls Try.prog 37 #[.slice (some ⟨g, 0, none⟩) n n, .int .i64 l] w fun e w' => ∃ A c, e = .returned (.tuple #[.slice A (oE l n f).length c, .int .i64 (nE l n f), .bool (okE l n f)]) ∧ Ints w.heap.size w' A (oE l n f).length (fun i => (oE l n f).getD i 0) ∧ Below w.heap.size w w' := by
  have hth := fun w hA => specThrows_any g n 40 f w hA hn (by omega)
  have hgl := hA.lt
  cases ho : okM 40 6 n f
  · rw [ho] at hth
    have Hth := Lib.hid hth; clear hth
    have hk : okE l n f = false := by simp only [okE, ho, Bool.false_and]
    clear ho
    have e : oE l n f = [] := by simp [oE, hk]
    have e2 : nE l n f = 0 := by simp [nE, hk]
    rw [hk, e, e2]
    clear e e2 hk
    have hB := na (n0 w) (.cells #[] 3)
    have hO := own_empty w
    have hA := hA.past (.cells #[] 3)
    have HA := Lib.hid hA
    go_enter Try.func37, Try.ntmps37
    go_wp2_with fail
    refine (Hth.out _ HA.out).mono ?_
    rintro e w1 ⟨rfl, hw⟩
    have hw := hw.symm
    subst hw
    go_wp2_with fail
    refine bodyPost_ret (results_tmp3 rfl _ _ _) rfl ?_
    exact ⟨_, _, rfl, ints_empty, hB⟩
  rw [ho] at hth
  have Hth := Lib.hid hth; clear hth
  have hin := fun w => l1In_any l 0 6 w
  by_cases hl : 0 ≤ l ∧ l ≤ 6
  case neg =>
    rw [decide_eq_false hl] at hin
    have Hin := Lib.hid hin; clear hin
    have hk : okE l n f = false := by simp only [okE, decide_eq_false hl, Bool.and_false]
    clear ho hl
    have e : oE l n f = [] := by simp [oE, hk]
    have e2 : nE l n f = 0 := by simp [nE, hk]
    rw [hk, e, e2]
    clear e e2 hk
    have hB := na (n0 w) (.cells #[] 3)
    have hO := own_empty w
    have hA := hA.past (.cells #[] 3)
    have HA := Lib.hid hA
    go_enter Try.func37, Try.ntmps37
    go_wp2_with fail
    refine (Hth.out _ HA.out).mono ?_
    rintro e w1 ⟨rfl, hw⟩
    have hw := hw.symm
    subst hw
    go_wp2_with fail
    refine (Hin.out _).mono ?_
    rintro e w2 ⟨rfl, hw⟩
    have hw := hw.symm
    subst hw
    go_wp2_with fail
    refine bodyPost_ret (results_tmp3 rfl _ _ _) rfl ?_
    exact ⟨_, _, rfl, ints_empty, hB⟩
  rw [decide_eq_true hl] at hin
  have Hin := Lib.hid hin; clear hin
  have hk : okE l n f = true := by simp only [okE, ho, decide_eq_true hl, Bool.and_true]
  have e : oE l n f = el f l (n / 2) := by simp [oE, hk]
  have e2 : nE l n f = ((en f l (n / 2) : Nat) : Int) := by simp [nE, hk]
  rw [hk, e, e2]
  clear e e2 hk
  obtain ⟨h40, hf⟩ := of_okM ho
  clear ho
  have Hel := Lib.hid (el_len f l)
  have Hst : Hid (∀ k, el f l (k + 1) = if pa f l k == pb f l k then el f l k else if pa f l k then el f l k ++ [1] else el f l k ++ [0]) := fun k => rfl
  have Hsn : Hid (∀ k, en f l (k + 1) = if pa f l k == pb f l k then en f l k + 1 else en f l k) := fun k => rfl
  have Hp : Hid (∀ k, decide (f (2 * k) < l) = pa f l k ∧ decide (f (2 * k + 1) < l) = pb f l k) := fun k => ⟨rfl, rfl⟩
  obtain ⟨i0, hi0, hz0, hz1, hz2⟩ := info_parts OwnL.info_int
  have Hi := Lib.hid (And.intro hi0 (And.intro hz0 (And.intro hz1 hz2)))
  clear hi0 hz0 hz1 hz2
  have hB := na (n0 w) (.cells #[] 3)
  have hO := own_empty w
  have hA := hA.past (.cells #[] 3)
  have HA := Lib.hid hA
  go_enter Try.func37, Try.ntmps37
  go_wp2_with fail
  refine (Hth.out _ HA.out).mono ?_
  rintro e w1 ⟨rfl, hw⟩
  have hw := hw.symm
  subst hw
  go_wp2_with fail
  refine (Hin.out _).mono ?_
  rintro e w2 ⟨rfl, hw⟩
  have hw := hw.symm
  subst hw
  go_wp2_with fail
  go_loopw [7, 8, 9] (fun lv nv kv wr => ∃ k : Nat, k ≤ n / 2 ∧ kv = .int .i64 (2 * k : Nat) ∧ nv = .int .i64 (en f l k : Nat) ∧ wr.ownsRow w.heap.size 3 1 lv (el f l k).length ((el f l k).map mk) ∧ At wr g n f ∧ Below w.heap.size w wr) (fun _ _ kv _ => n - (intOf kv).toNat)
  case atStart => exact ⟨0, by omega, rfl, rfl, hO, hA, hB⟩
  case round =>
    clear hO hA hB HA
    obtain ⟨k, hk, rfl, rfl, hO, hA, hB⟩ := hrel
    by_cases hlt : k < n / 2
    · obtain ⟨p, hp⟩ : ∃ p, p = 2 * k := ⟨_, rfl⟩
      have hit : decide (((p : Nat) : Int) + 2 ≤ (n : Int)) = true := decide_eq_true (by omega)
      have hitN : decide (p + 2 ≤ n) = true := decide_eq_true (by omega)
      have c0 := hA.cell p (by omega)
      have c1 := hA.cell (p + 1) (by omega)
      have hst := Hst.out k
      have hsn := Hsn.out k
      have hlen := Hel.out k
      obtain ⟨hp1, hp2⟩ := Hp.out k
      obtain ⟨L, hL⟩ : ∃ L, L = el f l k := ⟨_, rfl⟩
      obtain ⟨N, hN⟩ : ∃ N, N = en f l k := ⟨_, rfl⟩
      rw [← hL] at hO hst hlen
      rw [← hN] at hsn hlen ⊢
      clear hL hN
      rw [← hp] at hp1 hp2 ⊢
      have hpn1 : p + 1 < n := by omega
      have hpn0 : p < n := by omega
      have Hpp := Lib.hid hp
      clear hp
      generalize f p = v0 at *
      generalize f (p + 1) = v1 at *
      cases ha : pa f l k
      · cases hb : pb f l k
        · rw [ha] at hp1 hst hsn
          rw [hb] at hp2 hst hsn
          rw [if_pos (show (false == false) = true from rfl)] at hst hsn
          have Hst1 := Lib.hid hst
          have Hsn1 := Lib.hid hsn
          clear hst hsn ha hb
          go_wp2_with fail
          go_quiet (fail)
          generalize hW : World.drewN wr _ = WW
          have hO' := own_eq hW hO
          have hA' : At WW g n f := by rw [← hW]; exact hA.drewN _
          have hB' : Below w.heap.size w WW := by rw [← hW]; exact below_dn hB _
          clear hO hA hB hW
          have hO := hO'
          have hA := hA'
          have hB := hB'
          clear hO' hA' hB'
          go_wp2_with fail
          go_roundw
          case rel => exact ⟨k + 1, by omega, by rw [show 2 * (k + 1) = p + 2 by have := Hpp.out; omega]; go_num, by rw [Hsn1.out]; try go_num, by rw [Hst1.out]; exact hO, hA, hB⟩
          case measure => simp [intOf]; omega
        · rw [ha] at hp1 hst hsn
          rw [hb] at hp2 hst hsn
          rw [if_neg (by decide)] at hst hsn
          rw [if_neg (by decide)] at hst
          have Hst1 := Lib.hid hst
          have Hsn1 := Lib.hid hsn
          clear hst hsn ha hb
          go_wp2_with fail
          go_quiet (fail)
          generalize hW : World.drewN wr _ = WW
          have hO' := own_eq hW hO
          have hA' : At WW g n f := by rw [← hW]; exact hA.drewN _
          have hB' : Below w.heap.size w WW := by rw [← hW]; exact below_dn hB _
          clear hO hA hB hW
          have hO := hO'
          have hA := hA'
          have hB := hB'
          clear hO' hA' hB'
          go_wp2_with (at_builtin; refine wpList_append_own _ rfl _ _ 22 rfl (w.heap.size) 3 i0 (.int .i64 0) 1 8 Try.underlying22 Hi.out.1 Hi.out.2.1 Hi.out.2.2.1 Hi.out.2.2.2 rfl (by decide) _ _ _ rfl (hO.alloc _) ⟨WW.heap.size, 0, none⟩ 1 1 [.int .i64 0] rfl rfl ?c1 ?c2 ?c3 ?c4 ?c5 ?_)
          case c1 => exact news_one (cell_one _ _ _)
          case c2 => intro u hu; simp at hu; subst hu; rfl
          case c3 => unfold maxLen; omega
          case c4 => omega
          case c5 => have := hB.size; rw [size_alloc]; omega
          intro lv' wN hO4 hg4 _
          have hB4 := (na hB (.cells #[.int .i64 0] 3)).grown hg4 (by rw [size_alloc]; have := hB.size; omega) (fun t e => by have := (hO.lt t e).1; omega)
          have hA4 := keptA (hA.past (.cells #[.int .i64 0] 3)) hg4 (fun e => by have := (hO.lt _ e.symm).1; omega)
          have hO4 := own_snoc hO4
          clear hO hg4 hB hA
          go_wp2_with fail
          go_roundw
          case rel => exact ⟨k + 1, by omega, by rw [show 2 * (k + 1) = p + 2 by have := Hpp.out; omega]; go_num, by rw [Hsn1.out]; try go_num, by rw [Hst1.out]; exact hO4, hA4, hB4⟩
          case measure => simp [intOf]; omega
      · cases hb : pb f l k
        · rw [ha] at hp1 hst hsn
          rw [hb] at hp2 hst hsn
          rw [if_neg (by decide)] at hst hsn
          rw [if_pos rfl] at hst
          have Hst1 := Lib.hid hst
          have Hsn1 := Lib.hid hsn
          clear hst hsn ha hb
          go_wp2_with fail
          go_quiet (fail)
          generalize hW : World.drewN wr _ = WW
          have hO' := own_eq hW hO
          have hA' : At WW g n f := by rw [← hW]; exact hA.drewN _
          have hB' : Below w.heap.size w WW := by rw [← hW]; exact below_dn hB _
          clear hO hA hB hW
          have hO := hO'
          have hA := hA'
          have hB := hB'
          clear hO' hA' hB'
          go_wp2_with (at_builtin; refine wpList_append_own _ rfl _ _ 22 rfl (w.heap.size) 3 i0 (.int .i64 0) 1 8 Try.underlying22 Hi.out.1 Hi.out.2.1 Hi.out.2.2.1 Hi.out.2.2.2 rfl (by decide) _ _ _ rfl (hO.alloc _) ⟨WW.heap.size, 0, none⟩ 1 1 [.int .i64 1] rfl rfl ?c1 ?c2 ?c3 ?c4 ?c5 ?_)
          case c1 => exact news_one (cell_one _ _ _)
          case c2 => intro u hu; simp at hu; subst hu; rfl
          case c3 => unfold maxLen; omega
          case c4 => omega
          case c5 => have := hB.size; rw [size_alloc]; omega
          intro lv' wN hO4 hg4 _
          have hB4 := (na hB (.cells #[.int .i64 1] 3)).grown hg4 (by rw [size_alloc]; have := hB.size; omega) (fun t e => by have := (hO.lt t e).1; omega)
          have hA4 := keptA (hA.past (.cells #[.int .i64 1] 3)) hg4 (fun e => by have := (hO.lt _ e.symm).1; omega)
          have hO4 := own_snoc hO4
          clear hO hg4 hB hA
          go_wp2_with fail
          go_roundw
          case rel => exact ⟨k + 1, by omega, by rw [show 2 * (k + 1) = p + 2 by have := Hpp.out; omega]; go_num, by rw [Hsn1.out]; try go_num, by rw [Hst1.out]; exact hO4, hA4, hB4⟩
          case measure => simp [intOf]; omega
        · rw [ha] at hp1 hst hsn
          rw [hb] at hp2 hst hsn
          rw [if_pos (show (true == true) = true from rfl)] at hst hsn
          have Hst1 := Lib.hid hst
          have Hsn1 := Lib.hid hsn
          clear hst hsn ha hb
          go_wp2_with fail
          go_quiet (fail)
          generalize hW : World.drewN wr _ = WW
          have hO' := own_eq hW hO
          have hA' : At WW g n f := by rw [← hW]; exact hA.drewN _
          have hB' : Below w.heap.size w WW := by rw [← hW]; exact below_dn hB _
          clear hO hA hB hW
          have hO := hO'
          have hA := hA'
          have hB := hB'
          clear hO' hA' hB'
          go_wp2_with fail
          go_roundw
          case rel => exact ⟨k + 1, by omega, by rw [show 2 * (k + 1) = p + 2 by have := Hpp.out; omega]; go_num, by rw [Hsn1.out]; try go_num, by rw [Hst1.out]; exact hO, hA, hB⟩
          case measure => simp [intOf]; omega
    · obtain rfl : k = n / 2 := by omega
      have hit : decide (((2 * (n / 2) : Nat) : Int) + 2 ≤ (n : Int)) = false := decide_eq_false (by omega)
      have hitN : decide (2 * (n / 2) + 2 ≤ n) = false := decide_eq_false (by omega)
      obtain ⟨A, c, rfl, hI⟩ := own_ints hO
      go_wp2_with fail
      refine bodyPost_ret (results_tmp3 rfl _ _ _) rfl ?_
      exact ⟨A, c, rfl, hI, hB⟩


end EveS
end Go.Proofs.Ytddnlbahelgadaa
