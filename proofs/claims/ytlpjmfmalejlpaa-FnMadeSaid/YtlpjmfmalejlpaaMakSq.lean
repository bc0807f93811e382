/-
  MakeList by the specification.
-/
import Derived.Test.YtlpjmfmalejlpaaRows
import Derived.Test.YtlpjmfmalejlpaaArr
import Derived.Test.YtlpjmfmalejlpaaDieW
import Derived.Test.YtlpjmfmalejlpaaOwnL
import Derived.Test.YtlpjmfmalejlpaaOpenI
import Derived.Test.YtlpjmfmalejlpaaOpenD
import Derived.Test.YtlpjmfmalejlpaaMadLq
import Derived.Test.YtlpjmfmalejlpaaMadCq
import Derived.Test.YtlpjmfmalejlpaaFracW
import Derived.Test.YtlpjmfmalejlpaaFracL
import Derived.Test.YtlpjmfmalejlpaaAll6
import Derived.Test.YtlpjmfmalejlpaaAllL
import Derived.Test.YtlpjmfmalejlpaaMadW
import Derived.Test.YtlpjmfmalejlpaaListQ
import Derived.Test.YtlpjmfmalejlpaaOpenD
import Derived.WalkKit
import Derived.WalkLawsBesides
import Derived.WalkSpells
import Derived.ProofKit
import Derived.OpenShut
import Derived.Deep.RegionWith
import Derived.Deep.QuietTactic
import Derived.BigQuiet
namespace Go.Proofs.Ytlpjmfmalejlpaa
open Go.ChangeShapes Go.WideShapes Go.ChangeAt Go.RowKit
open Go.ChangeMaps (open_string shut_string)

namespace MakSq
open Dice Arr DieW OwnL OpenG OpenD MadLq MadCq FracL All6 AllL MadW ListQ

/-- The number of the next throws, the numbers that are made, and how often throws were refused. -/
def yM (d : Nat) (f : Nat → Int) (k : Nat) : Int := nb 6 (fun i => f (d * k + i)) d
def ml (m d : Nat) (f : Nat → Int) : Nat → List Int
  | 0 => []
  | k + 1 => if yM d f k < ((tk m d : Nat) : Int) then ml m d f k ++ [(((yM d f k).toNat % m : Nat) : Int)] else ml m d f k
def rf (m d : Nat) (f : Nat → Int) : Nat → Nat
  | 0 => 0
  | k + 1 => if yM d f k < ((tk m d : Nat) : Int) then rf m d f k else rf m d f k + 1
theorem ml_len (m d : Nat) (f : Nat → Int) : ∀ k, (ml m d f k).length ≤ k ∧ rf m d f k ≤ k
  | 0 => ⟨Nat.le_refl _, Nat.le_refl _⟩
  | k + 1 => by
    have := ml_len m d f k
    refine ⟨?_, ?_⟩
    · show (if yM d f k < ((tk m d : Nat) : Int) then ml m d f k ++ [(((yM d f k).toNat % m : Nat) : Int)] else ml m d f k).length ≤ _
      split
      · simp; omega
      · omega
    · show (if yM d f k < ((tk m d : Nat) : Int) then rf m d f k else rf m d f k + 1) ≤ _
      split
      · omega
      · omega
def okL (m d : Int) (n : Nat) (f : Nat → Int) : Bool := okT m d && okM 40 6 n f
def oM (m d : Int) (n : Nat) (f : Nat → Int) : List Int := if okL m d n f then ml m.toNat d.toNat f (n / d.toNat) else []
def nM (m d : Int) (n : Nat) (f : Nat → Int) : Int := if okL m d n f then ((rf m.toNat d.toNat f (n / d.toNat) : Nat) : Int) else 0
theorem oM_len (m d : Int) (n : Nat) (f : Nat → Int) : (oM m d n f).length ≤ 1048576 := by
  unfold oM
  split
  case isTrue h =>
    simp only [okL, Bool.and_eq_true] at h
    have := (of_okM h.2).1
    have h2 := (ml_len m.toNat d.toNat f (n / d.toNat)).1
    have h3 : n / d.toNat ≤ n := Nat.div_le_self _ _
    omega
  case isFalse => exact Nat.zero_le _
theorem div_lt {n d k : Nat} (hd : 1 ≤ d) : k < n / d ↔ d * k + d ≤ n := by
  rw [Nat.lt_iff_add_one_le, Nat.le_div_iff_mul_le (by omega), Nat.mul_comm (k + 1) d, Nat.mul_succ]
theorem elem_ints : Try.prog.underlying 24 = some (.slice (Try.prog.elem 24)) := by kernel_rfl
theorem elem_int : Try.prog.elem 24 = 3 := by kernel_rfl
theorem sl_mid {g n c lo d : Nat} (h1 : lo + d ≤ c) (h2 : 1 ≤ d) (w : World) : (Instr.slice 24 (.slice (some ⟨g, 0, none⟩) n c) (some (.int .i64 (lo : Nat))) (some (.int .i64 ((lo : Int) + (d : Int)))) none).run Try.prog w = .ok (.slice (some ⟨g, lo, none⟩) d (c - lo)) w := by
  have h3 : ¬ c = lo := by omega
  rw [run_slice_lh w _ _ _ _ elem_ints _ _ _ _ (by omega) (by omega) (by omega)]
  have e1 : ((lo : Nat) : Int).toNat = lo := Int.toNat_natCast _
  have e2 : ((lo : Int) + (d : Int)).toNat = lo + d := by omega
  simp [Try.sizeOf3, sliced, h3, Result.andThen, Addr.add, elem_int, e2]
  intro h
  exact h.symm

set_option maxRecDepth 100000 in
set_option maxHeartbeats 4000000 in
theorem specML_any (m d : Int) (g n cp : Nat) (f : Nat → Int) (w : World) (hA : At w g n f) (hn : n ≤ 1048576) (hcp : n ≤ cp) :
    Calls Try.prog 21 #[.int .i64 m, .int .i64 d, .slice (some ⟨g, 0, none⟩) n cp] w fun e w' => ∃ A c, e = .returned (.tuple #[.slice A (oM m d n f).length c, .int .i64 (nM m d n f), .bool (okL m d n f)]) ∧ Ints w.heap.size w' A (oM m d n f).length (fun i => (oM m d n f).getD i 0) ∧ Below w.heap.size w w' := by
  have hth := fun w hA => specThrows_any g n cp 40 f w hA hn (by omega)
  have hgl := hA.lt
  have hgd := fun w => good_any m d w
  cases hT : okT m d
  · rw [hT] at hgd
    have Hgd := Lib.hid hgd; clear hgd
    have hk : okL m d n f = false := by simp only [okL, hT, Bool.false_and]
    clear hT hth
    have e : oM m d n f = [] := by simp [oM, hk]
    have e2 : nM m d n f = 0 := by simp [nM, hk]
    rw [hk, e, e2]
    clear e e2 hk
    have hB := na (n0 w) (.cells #[] 3)
    have hO := own_empty w
    have hA := hA.past (.cells #[] 3)
    have HA := Lib.hid hA
    go_enter Try.func21, Try.ntmps21
    go_wp2_with fail
    refine (Hgd.out _).mono ?_
    rintro e w0 ⟨rfl, hw⟩
    have hw := hw.symm
    subst hw
    go_wp2_with fail
    refine bodyPost_ret (results_tmp3 rfl _ _ _) rfl ?_
    exact ⟨_, _, rfl, ints_empty, hB⟩
  rw [hT] at hgd
  cases ho : okM 40 6 n f
  · rw [ho] at hth
    have Hth := Lib.hid hth; clear hth
    have Hgd := Lib.hid hgd; clear hgd
    have hk : okL m d n f = false := by simp only [okL, ho, Bool.and_false]
    clear ho hT
    have e : oM m d n f = [] := by simp [oM, hk]
    have e2 : nM m d n f = 0 := by simp [nM, hk]
    rw [hk, e, e2]
    clear e e2 hk
    have hB := na (n0 w) (.cells #[] 3)
    have hO := own_empty w
    have hA := hA.past (.cells #[] 3)
    have HA := Lib.hid hA
    go_enter Try.func21, Try.ntmps21
    go_wp2_with fail
    refine (Hgd.out _).mono ?_
    rintro e w0 ⟨rfl, hw⟩
    have hw := hw.symm
    subst hw
    go_wp2_with fail
    refine (Hth.out _ HA.out).mono ?_
    rintro e w1 ⟨rfl, hw⟩
    have hw := hw.symm
    subst hw
    go_wp2_with fail
    refine bodyPost_ret (results_tmp3 rfl _ _ _) rfl ?_
    exact ⟨_, _, rfl, ints_empty, hB⟩
  rw [ho] at hth
  have Hth := Lib.hid hth; clear hth
  have hk : okL m d n f = true := by simp only [okL, ho, hT, Bool.and_true]
  obtain ⟨m, d, rfl, rfl, h1, h2, h3, h4, h5⟩ := of_okT hT
  have Hgd := Lib.hid hgd; clear hgd
  have e : oM m d n f = ml m d f (n / d) := by simp [oM, hk]
  have e2 : nM m d n f = ((rf m d f (n / d) : Nat) : Int) := by simp [nM, hk]
  rw [hk, e, e2]
  clear e e2 hk hT
  obtain ⟨h40, hf⟩ := of_okM ho
  clear ho
  have Hml := Lib.hid (ml_len m d f)
  have Hdv := Lib.hid (fun k => div_lt (n := n) (k := k) h3)
  have hdn : n / d ≤ n := Nat.div_le_self _ _
  have Hst : Hid (∀ k, ml m d f (k + 1) = if yM d f k < ((tk m d : Nat) : Int) then ml m d f k ++ [(((yM d f k).toNat % m : Nat) : Int)] else ml m d f k) := fun k => rfl
  have Hsr : Hid (∀ k, rf m d f (k + 1) = if yM d f k < ((tk m d : Nat) : Int) then rf m d f k else rf m d f k + 1) := fun k => rfl
  have Hy : Hid (∀ k, k < n / d → 0 ≤ yM d f k ∧ yM d f k ≤ 46655) := fun k hk => by
    have h := (div_lt h3).1 hk
    have := nb_le (b := 6) (f := fun i => f (d * k + i)) (by omega) h4 (fun j hj => hf (d * k + j) (by omega))
    exact ⟨this.1, this.2.1⟩
  have htl := tk_le m d
  have h66 := all6_six h4
  have hm0 : (m : Int) ≠ 0 := by omega
  have hmq : ((m : Int) = 0) = False := by simp; omega
  have hd0 : (d : Int) ≠ 0 := by omega
  have hdq : ((d : Int) = 0) = False := by simp; omega
  obtain ⟨i0, hi0, hz0, hz1, hz2⟩ := info_parts OwnL.info_int
  have Hi := Lib.hid (And.intro hi0 (And.intro hz0 (And.intro hz1 hz2)))
  clear hi0 hz0 hz1 hz2
  have Hnum : Hid (∀ k, k < n / d → ∀ c w, At w g n f → Calls Try.prog 30 #[.slice (some ⟨g, d * k, none⟩) d c] w fun e w' => e = .returned (.int .i64 (yM d f k)) ∧ w' = w) := fun k hk c w hA => by
    have h := (div_lt h3).1 hk
    exact number_any (some ⟨g, d * k, none⟩) d c (fun i => f (d * k + i)) w (row_of hA h) h4 (fun j hj => hf (d * k + j) (by omega))
  have Htk := Lib.hid (fun w => taken_any m d w h1 h4)
  clear hf
  generalize tk m d = r at *
  have hB := na (n0 w) (.cells #[] 3)
  have hO := own_empty w
  have hA := hA.past (.cells #[] 3)
  have HA := Lib.hid hA
  go_enter Try.func21, Try.ntmps21
  go_wp2_with fail
  refine (Hgd.out _).mono ?_
  rintro e w0 ⟨rfl, hw⟩
  have hw := hw.symm
  subst hw
  go_wp2_with fail
  refine (Hth.out _ HA.out).mono ?_
  rintro e w1 ⟨rfl, hw⟩
  have hw := hw.symm
  subst hw
  go_wp2_with fail
  go_loopw [9, 10, 11] (fun lv nv kv wr => ∃ k : Nat, k ≤ n / d ∧ kv = .int .i64 (d * k : Nat) ∧ nv = .int .i64 (rf m d f k : Nat) ∧ wr.ownsRow w.heap.size 3 1 lv (ml m d f k).length ((ml m d f k).map mk) ∧ At wr g n f ∧ Below w.heap.size w wr) (fun _ _ kv _ => n - (intOf kv).toNat)
  case atStart => exact ⟨0, Nat.zero_le _, by rw [Nat.mul_zero]; rfl, rfl, hO, hA, hB⟩
  case round =>
    clear hO hA hB HA
    obtain ⟨k, hk, rfl, rfl, hO, hA, hB⟩ := hrel
    by_cases hlt : k < n / d
    · have HYN := Hnum.out k hlt
      have hst := Hst.out k
      have hsr := Hsr.out k
      have hlen := Hml.out k
      obtain ⟨hy0, hy1⟩ := Hy.out k hlt
      have hpd := (Hdv.out k).1 hlt
      obtain ⟨L, hL⟩ : ∃ L, L = ml m d f k := ⟨_, rfl⟩
      obtain ⟨N, hN⟩ : ∃ N, N = rf m d f k := ⟨_, rfl⟩
      rw [← hL] at hO hst hlen
      rw [← hN] at hsr hlen ⊢
      clear hL hN
      have es : d * (k + 1) = d * k + d := Nat.mul_succ d k
      obtain ⟨y, hy⟩ : ∃ y : Nat, yM d f k = y := ⟨(yM d f k).toNat, by omega⟩
      rw [hy] at hst hsr HYN hy0 hy1
      rw [Int.toNat_natCast] at hst
      have hmod : ((y : Int) % (m : Int)) = ((y % m : Nat) : Int) := by omega
      have Hmod := Lib.hid hmod
      clear hmod hy
      generalize d * k = p at *
      have Es := Lib.hid es; clear es
      have hit : decide ((p : Int) + (d : Int) ≤ (n : Int)) = true := decide_eq_true (by omega)
      have hitN : decide (p + d ≤ n) = true := decide_eq_true (by omega)
      have hsl := fun (w : World) => sl_mid (g := g) (n := n) (c := cp) (lo := p) (d := d) (Nat.le_trans hpd hcp) h3 w
      have HN1 := Lib.hid HYN; clear HYN
      have HA := Lib.hid hA
      by_cases hl : (y : Int) < ((r : Nat) : Int)
      · rw [if_pos hl] at hst hsr
        have Hst1 := Lib.hid hst
        have Hsr1 := Lib.hid hsr
        clear hst hsr
        have hd : decide ((y : Int) < (r : Int)) = true := decide_eq_true hl
        have hdN : decide (y < r) = true := decide_eq_true (by omega)
        go_wp2_with fail
        refine (HN1.out _ _ HA.out).mono ?_
        rintro e w5 ⟨rfl, hw⟩
        have hw := hw.symm
        subst hw
        go_wp2_with fail
        refine (Htk.out _).mono ?_
        rintro e w6 ⟨rfl, hw⟩
        have hw := hw.symm
        subst hw
        go_wp2_with (at_builtin; refine wpList_append_own _ rfl _ _ 24 rfl (w.heap.size) 3 i0 (.int .i64 0) 1 8 Try.underlying24 Hi.out.1 Hi.out.2.1 Hi.out.2.2.1 Hi.out.2.2.2 rfl (by decide) _ _ _ rfl (hO.alloc _) ⟨wr.heap.size, 0, none⟩ 1 1 [.int .i64 ((y : Int) % (m : Int))] rfl rfl ?c1 ?c2 ?c3 ?c4 ?c5 ?_)
        case c1 => exact news_one (cell_one _ _ _)
        case c2 => intro u hu; simp at hu; subst hu; rfl
        case c3 => unfold maxLen; omega
        case c4 => omega
        case c5 => have := hB.size; rw [size_alloc]; omega
        intro lv' wN hO4 hg4 _
        have hB4 := (na hB (.cells #[.int .i64 ((y : Int) % (m : Int))] 3)).grown hg4 (by rw [size_alloc]; have := hB.size; omega) (fun t e => by have := (hO.lt t e).1; omega)
        have hA4 := keptA (hA.past (.cells #[.int .i64 ((y : Int) % (m : Int))] 3)) hg4 (fun e => by have := (hO.lt _ e.symm).1; omega)
        have hO4 := own_snoc hO4
        clear hO hg4 hB hA
        rw [Hmod.out] at hO4
        go_wp2_with fail
        go_roundw
        case rel => exact ⟨k + 1, by omega, by rw [Es.out]; go_num, by rw [Hsr1.out], by rw [Hst1.out]; exact hO4, hA4, hB4⟩
        case measure => simp [intOf]; omega
      rw [if_neg hl] at hst hsr
      have Hst1 := Lib.hid hst
      have Hsr1 := Lib.hid hsr
      clear hst hsr
      have hd : decide ((y : Int) < (r : Int)) = false := decide_eq_false hl
      have hdN : decide (y < r) = false := decide_eq_false (by omega)
      go_wp2_with fail
      refine (HN1.out _ _ HA.out).mono ?_
      rintro e w5 ⟨rfl, hw⟩
      have hw := hw.symm
      subst hw
      go_wp2_with fail
      refine (Htk.out _).mono ?_
      rintro e w6 ⟨rfl, hw⟩
      have hw := hw.symm
      subst hw
      go_wp2_with fail
      go_roundw
      case rel => exact ⟨k + 1, by omega, by rw [Es.out]; go_num, by rw [Hsr1.out]; try go_num, by rw [Hst1.out]; exact hO, hA, hB⟩
      case measure => simp [intOf]; omega
    · obtain rfl : k = n / d := by omega
      have hno : ¬ d * (n / d) + d ≤ n := fun h => hlt ((Hdv.out _).2 h)
      have hpn : d * (n / d) ≤ n := Nat.mul_div_le _ _
      obtain ⟨A, c, rfl, hI⟩ := own_ints hO
      clear hO Hml Hst Hsr Hy Hdv Hnum
      generalize d * (n / d) = p at *
      have hit : decide ((p : Int) + (d : Int) ≤ (n : Int)) = false := decide_eq_false (by omega)
      have hitN : decide (p + d ≤ n) = false := decide_eq_false (by omega)
      go_wp2_with fail
      refine bodyPost_ret (results_tmp3 rfl _ _ _) rfl ?_
      exact ⟨A, c, rfl, hI, hB⟩


end MakSq
end Go.Proofs.Ytlpjmfmalejlpaa
