/-
  MakeList by the program.
-/
import Derived.Test.YtlpjmfmalejlpaaRows
import Derived.Test.YtlpjmfmalejlpaaArr
import Derived.Test.YtlpjmfmalejlpaaDieW
import Derived.Test.YtlpjmfmalejlpaaOwnL
import Derived.Test.YtlpjmfmalejlpaaOpenI
import Derived.Test.YtlpjmfmalejlpaaOpenD
import Derived.Test.YtlpjmfmalejlpaaMadLq
import Derived.Test.YtlpjmfmalejlpaaMadCq
import Derived.Test.YtlpjmfmalejlpaaFracW
import Derived.Test.YtlpjmfmalejlpaaFracL
import Derived.Test.YtlpjmfmalejlpaaAll6
import Derived.Test.YtlpjmfmalejlpaaAllL
import Derived.Test.YtlpjmfmalejlpaaMadW
import Derived.Test.YtlpjmfmalejlpaaListQ
import Derived.Test.YtlpjmfmalejlpaaMakSq
import Derived.Test.YtlpjmfmalejlpaaOpenD
import Derived.WalkKit
import Derived.WalkLawsBesides
import Derived.WalkSpells
import Derived.ProofKit
import Derived.OpenShut
import Derived.Deep.RegionWith
import Derived.Deep.QuietTactic
import Derived.BigQuiet
namespace Go.Proofs.Ytlpjmfmalejlpaa
open Go.ChangeShapes Go.WideShapes Go.ChangeAt Go.RowKit
open Go.ChangeMaps (open_string shut_string)

namespace MakIq
open Dice Arr DieW OwnL OpenG OpenD MadLq MadCq FracL All6 AllL MadW ListQ MakSq


set_option maxRecDepth 100000 in
set_option maxHeartbeats 4000000 in
theorem implML_any (m d : Int) (g n cp : Nat) (f : Nat → Int) (w : World) (hA : At w g n f) (hn : n ≤ 1048576) :
    Calls Try.prog 20 #[.int .i64 m, .int .i64 d, .slice (some ⟨g, 0, none⟩) n cp] w fun e w' => ∃ A c, e = .returned (.tuple #[.slice A (oM m d n f).length c, .int .i64 (nM m d n f), .bool (okL m d n f)]) ∧ Ints w.heap.size w' A (oM m d n f).length (fun i => (oM m d n f).getD i 0) ∧ Below w.heap.size w w' := by
  have hth := fun w hA => throws_any g n cp f w hA hn
  have hgl := hA.lt
  have hgd := fun w => implT_any m d w
  cases hT : okT m d
  · rw [hT] at hgd
    rw [tT_no hT] at hgd
    have Hgd := Lib.hid hgd; clear hgd
    have hk : okL m d n f = false := by simp only [okL, hT, Bool.false_and]
    clear hT hth
    have e : oM m d n f = [] := by simp [oM, hk]
    have e2 : nM m d n f = 0 := by simp [nM, hk]
    rw [hk, e, e2]
    clear e e2 hk
    have hB := n0 w
    have HA := Lib.hid hA
    go_enter Try.func20, Try.ntmps20
    go_wp2_with fail
    refine (Hgd.out _).mono ?_
    rintro e w0 ⟨rfl, hw⟩
    have hw := hw.symm
    subst hw
    go_wp2_with fail
    refine bodyPost_ret (results_tmp3 rfl _ _ _) rfl ?_
    exact ⟨_, _, rfl, ints_empty, hB⟩
  rw [hT] at hgd
  cases ho : okM 40 6 n f
  · rw [ho] at hth
    have Hth := Lib.hid hth; clear hth
    have Hgd := Lib.hid hgd; clear hgd
    have hk : okL m d n f = false := by simp only [okL, ho, Bool.and_false]
    clear ho hT
    have e : oM m d n f = [] := by simp [oM, hk]
    have e2 : nM m d n f = 0 := by simp [nM, hk]
    rw [hk, e, e2]
    clear e e2 hk
    have hB := n0 w
    have HA := Lib.hid hA
    generalize tT m d = t at *
    go_enter Try.func20, Try.ntmps20
    go_wp2_with fail
    refine (Hgd.out _).mono ?_
    rintro e w0 ⟨rfl, hw⟩
    have hw := hw.symm
    subst hw
    go_wp2_with fail
    refine (Hth.out _ HA.out).mono ?_
    rintro e w1 ⟨rfl, hw⟩
    have hw := hw.symm
    subst hw
    go_wp2_with fail
    refine bodyPost_ret (results_tmp3 rfl _ _ _) rfl ?_
    exact ⟨_, _, rfl, ints_empty, hB⟩
  rw [ho] at hth
  have Hth := Lib.hid hth; clear hth
  have hk : okL m d n f = true := by simp only [okL, ho, hT, Bool.and_true]
  obtain ⟨m, d, rfl, rfl, h1, h2, h3, h4, h5⟩ := of_okT hT
  rw [tT_yes hT] at hgd
  have Hgd := Lib.hid hgd; clear hgd
  have e : oM m d n f = ml m d f (n / d) := by simp [oM, hk]
  have e2 : nM m d n f = ((rf m d f (n / d) : Nat) : Int) := by simp [nM, hk]
  rw [hk, e, e2]
  clear e e2 hk hT
  obtain ⟨h40, hf⟩ := of_okM ho
  clear ho
  have Hml := Lib.hid (ml_len m d f)
  have Hdv := Lib.hid (fun k => div_lt (n := n) (k := k) h3)
  have hdn : n / d ≤ n := Nat.div_le_self _ _
  have Hst : Hid (∀ k, ml m d f (k + 1) = if yM d f k < ((tk m d : Nat) : Int) then ml m d f k ++ [(((yM d f k).toNat % m : Nat) : Int)] else ml m d f k) := fun k => rfl
  have Hsr : Hid (∀ k, rf m d f (k + 1) = if yM d f k < ((tk m d : Nat) : Int) then rf m d f k else rf m d f k + 1) := fun k => rfl
  have Hy : Hid (∀ k, k < n / d → 0 ≤ yM d f k ∧ yM d f k ≤ 46655) := fun k hk => by
    have h := (div_lt h3).1 hk
    have := nb_le (b := 6) (f := fun i => f (d * k + i)) (by omega) h4 (fun j hj => hf (d * k + j) (by omega))
    exact ⟨this.1, this.2.1⟩
  have htl := tk_le m d
  have h66 := all6_six h4
  have hm0 : (m : Int) ≠ 0 := by omega
  have hmq : ((m : Int) = 0) = False := by simp; omega
  have hd0 : (d : Int) ≠ 0 := by omega
  have hdq : ((d : Int) = 0) = False := by simp; omega
  obtain ⟨i0, hi0, hz0, hz1, hz2⟩ := info_parts OwnL.info_int
  have Hi := Lib.hid (And.intro hi0 (And.intro hz0 (And.intro hz1 hz2)))
  clear hi0 hz0 hz1 hz2
  have Hso := Lib.hid (fun w hA => source_any g n cp f w hA)
  have Hnx : Hid (∀ k, k < n / d → ∀ bu bl w, Src w bu bl g n cp f (d * k) → Calls Try.prog 33 #[.func (.func 46) #[] #[.pointer (some ⟨bu, 0, none⟩), .pointer (some ⟨bl, 0, none⟩)], .int .i64 6, .int .i64 d] w fun e w' => e = .returned (.int .i64 (yM d f k)) ∧ Src w' bu bl g n cp f (d * k + d) ∧ w.grownBy w' (some bu)) := fun k hk bu bl w hS => next_any bu bl g n cp (d * k) d 6 f w hS ((div_lt h3).1 hk) h4 (by omega) hf hn
  have Hqw := Lib.hid (quo_wrapL (x := d) (show n ≤ 1000000000000000 by omega))
  clear hf
  generalize tk m d = r at *
  have hB := n0 w
  have HA := Lib.hid hA
  go_enter Try.func20, Try.ntmps20
  go_wp2_with fail
  refine (Hgd.out _).mono ?_
  rintro e w0 ⟨rfl, hw⟩
  have hw := hw.symm
  subst hw
  go_wp2_with fail
  refine (Hth.out _ HA.out).mono ?_
  rintro e w1 ⟨rfl, hw⟩
  have hw := hw.symm
  subst hw
  go_wp2_with fail
  refine (Hso.out _ HA.out).mono ?_
  rintro e w2 ⟨bu, bl, rfl, hS, hbu, hbl, hb2⟩
  have hB := nx hB hb2
  have hul := hS.1.lt
  have hll := hS.2.1.1
  obtain ⟨B2, hB2⟩ : ∃ B2, B2 = w2.heap.size := ⟨_, rfl⟩
  have hO := own_nil w2 B2
  have hgl2 := hS.2.2.1.lt
  rw [← hB2] at hul hll hgl2
  have hwB := hB.size
  rw [← hB2] at hwB
  clear hb2
  go_wp2_with fail
  try simp only [Hqw.out.1]
  go_loopw [12, 13, 34] (fun lv nv kv wr => ∃ k : Nat, k ≤ n / d ∧ kv = .int .i64 (k : Nat) ∧ nv = .int .i64 (rf m d f k : Nat) ∧ wr.ownsRow B2 3 1 lv (ml m d f k).length ((ml m d f k).map mk) ∧ Src wr bu bl g n cp f (d * k) ∧ Below w.heap.size w wr ∧ B2 ≤ wr.heap.size) (fun _ _ kv _ => n / d - (intOf kv).toNat)
  case atStart => exact ⟨0, Nat.zero_le _, rfl, rfl, hO, hS, hB, Nat.le_of_eq hB2⟩
  case round =>
    clear hO hS hB HA hB2
    obtain ⟨k, hk, rfl, rfl, hO, hS, hB, hBl⟩ := hrel
    by_cases hlt : k < n / d
    · have HYN := Hnx.out k hlt bu bl
      have hst := Hst.out k
      have hsr := Hsr.out k
      have hlen := Hml.out k
      obtain ⟨hy0, hy1⟩ := Hy.out k hlt
      have hpd := (Hdv.out k).1 hlt
      obtain ⟨L, hL⟩ : ∃ L, L = ml m d f k := ⟨_, rfl⟩
      obtain ⟨N, hN⟩ : ∃ N, N = rf m d f k := ⟨_, rfl⟩
      rw [← hL] at hO hst hlen
      rw [← hN] at hsr hlen ⊢
      clear hL hN
      have es : d * (k + 1) = d * k + d := Nat.mul_succ d k
      obtain ⟨y, hy⟩ : ∃ y : Nat, yM d f k = y := ⟨(yM d f k).toNat, by omega⟩
      rw [hy] at hst hsr HYN hy0 hy1
      rw [Int.toNat_natCast] at hst
      have hmod : ((y : Int) % (m : Int)) = ((y % m : Nat) : Int) := by omega
      have Hmod := Lib.hid hmod
      clear hmod hy
      rw [← es] at HYN
      clear es hpd
      have HN1 := Lib.hid HYN; clear HYN
      generalize hqq : n / d = qq at *
      have hit : decide ((k : Int) < ((qq : Nat) : Int)) = true := decide_eq_true (by omega)
      have hitN : decide (k < qq) = true := decide_eq_true (by omega)
      by_cases hl : (y : Int) < ((r : Nat) : Int)
      · rw [if_pos hl] at hst hsr
        have Hst1 := Lib.hid hst
        have Hsr1 := Lib.hid hsr
        clear hst hsr
        have hd : decide ((y : Int) < (r : Int)) = true := decide_eq_true hl
        have hdN : decide (y < r) = true := decide_eq_true (by omega)
        go_wp2_with fail
        refine (HN1.out _ hS).mono ?_
        rintro e w5 ⟨rfl, hS5, hG⟩
        have hO := hO.kept hG (.inr (fun e => by have := (hO.lt _ e).1; omega))
        have hB := below_grown hB hG (by have := hB.size; omega) hbu
        have hBl := Nat.le_trans hBl hG.size
        have hS := hS5
        clear hS5 hG
        go_wp2_with (at_builtin; refine wpList_append_own _ rfl _ _ 24 rfl (B2) 3 i0 (.int .i64 0) 1 8 Try.underlying24 Hi.out.1 Hi.out.2.1 Hi.out.2.2.1 Hi.out.2.2.2 rfl (by decide) _ _ _ rfl (hO.alloc _) ⟨w5.heap.size, 0, none⟩ 1 1 [.int .i64 ((y : Int) % (m : Int))] rfl rfl ?c1 ?c2 ?c3 ?c4 ?c5 ?_)
        case c1 => exact news_one (cell_one _ _ _)
        case c2 => intro u hu; simp at hu; subst hu; rfl
        case c3 => unfold maxLen; omega
        case c4 => omega
        case c5 => rw [size_alloc]; omega
        intro lv' wN hO4 hg4 _
        have hB4 := (na hB (.cells #[.int .i64 ((y : Int) % (m : Int))] 3)).grown hg4 (by rw [size_alloc]; have := hB.size; omega) (fun t e => by have := (hO.lt t e).1; omega)
        have hS4 := (hS.past (.cells #[.int .i64 ((y : Int) % (m : Int))] 3)).kept hg4 (fun e => by have := (hO.lt _ e.symm).1; omega) (fun e => by have := (hO.lt _ e.symm).1; omega) (fun e => by have := (hO.lt _ e.symm).1; omega)
        have hO4 := own_snoc hO4
        have hg4' := hg4
        clear hO hg4 hB hS
        rw [Hmod.out] at hO4
        have hBl4 := Nat.le_trans hBl (Nat.le_trans (by rw [size_alloc]; omega) hg4'.size)
        go_wp2_with fail
        go_roundw
        case rel => exact ⟨k + 1, by omega, by go_num, by rw [Hsr1.out], by rw [Hst1.out]; exact hO4, hS4, hB4, hBl4⟩
        case measure => simp [intOf]; omega
      rw [if_neg hl] at hst hsr
      have Hst1 := Lib.hid hst
      have Hsr1 := Lib.hid hsr
      clear hst hsr
      have hd : decide ((y : Int) < (r : Int)) = false := decide_eq_false hl
      have hdN : decide (y < r) = false := decide_eq_false (by omega)
      go_wp2_with fail
      refine (HN1.out _ hS).mono ?_
      rintro e w5 ⟨rfl, hS5, hG⟩
      have hO := hO.kept hG (.inr (fun e => by have := (hO.lt _ e).1; omega))
      have hB := below_grown hB hG (by have := hB.size; omega) hbu
      have hBl := Nat.le_trans hBl hG.size
      have hS := hS5
      clear hS5 hG
      go_wp2_with fail
      go_roundw
      case rel => exact ⟨k + 1, by omega, by go_num, by rw [Hsr1.out]; try go_num, by rw [Hst1.out]; exact hO, hS, hB, hBl⟩
      case measure => simp [intOf]; omega
    · obtain rfl : k = n / d := by omega
      obtain ⟨A, c, rfl, hI⟩ := own_ints hO
      clear hO Hml Hst Hsr Hy Hdv Hnx
      have hit : decide (((n / d : Nat) : Int) < ((n / d : Nat) : Int)) = false := decide_eq_false (by omega)
      go_wp2_with fail
      refine bodyPost_ret (results_tmp3 rfl _ _ _) rfl ?_
      exact ⟨A, c, rfl, hI.mono hwB, hB⟩


end MakIq
end Go.Proofs.Ytlpjmfmalejlpaa
