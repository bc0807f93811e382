/-
  NumberOfThrows and MakeNumber, both sides.
-/
import Derived.Test.YtlpjmfmalejlpaaRows
import Derived.Test.YtlpjmfmalejlpaaArr
import Derived.Test.YtlpjmfmalejlpaaDieW
import Derived.Test.YtlpjmfmalejlpaaFracW
import Derived.Test.YtlpjmfmalejlpaaFracL
import Derived.Test.YtlpjmfmalejlpaaAll6
import Derived.Test.YtlpjmfmalejlpaaAllL
import Derived.Test.YtlpjmfmalejlpaaOpenI
import Derived.Test.YtlpjmfmalejlpaaMadLq
import Derived.Test.YtlpjmfmalejlpaaMadCq
import Derived.Test.YtlpjmfmalejlpaaMadW
import Derived.Test.YtlpjmfmalejlpaaOpenD
import Derived.WalkKit
import Derived.WalkLawsBesides
import Derived.WalkSpells
import Derived.ProofKit
import Derived.OpenShut
import Derived.Deep.RegionWith
import Derived.Deep.QuietTactic
import Derived.BigQuiet
namespace Go.Proofs.Ytlpjmfmalejlpaa
open Go.ChangeShapes Go.WideShapes Go.ChangeAt Go.RowKit
open Go.ChangeMaps (open_string shut_string)

namespace MadNq
open Dice Arr DieW FracL All6 AllL OpenG MadLq MadCq MadW

def okN (n : Nat) (f : Nat → Int) : Bool := decide (1 ≤ n) && okM 6 6 n f
def nv (n : Nat) (f : Nat → Int) : Int := if okN n f then nb 6 f n else 0
theorem okN_0 {n : Nat} {f : Nat → Int} (h : ¬ 1 ≤ n) : okN n f = false := by simp only [okN, decide_eq_false h, Bool.false_and]
theorem okN_1 {n : Nat} {f : Nat → Int} (h : okM 6 6 n f = false) : okN n f = false := by simp only [okN, h, Bool.and_false]
theorem okN_yes {n : Nat} {f : Nat → Int} (h1 : 1 ≤ n) (h : okM 6 6 n f = true) : okN n f = true := by simp only [okN, h, decide_eq_true h1, Bool.and_true]
theorem of_okN {n : Nat} {f : Nat → Int} (h : okN n f = true) : 1 ≤ n ∧ n ≤ 6 ∧ ∀ j, j < n → 0 ≤ f j ∧ f j < 6 := by
  simp only [okN, Bool.and_eq_true, decide_eq_true_eq] at h
  exact ⟨h.1, of_okM h.2⟩
theorem nv_no {n : Nat} {f : Nat → Int} (h : okN n f = false) : nv n f = 0 := by simp [nv, h]
theorem nv_yes {n : Nat} {f : Nat → Int} (h : okN n f = true) : nv n f = nb 6 f n := by simp [nv, h]
theorem row_at {w : World} {g n : Nat} {f : Nat → Int} (h : At w g n f) : RowI w (some ⟨g, 0, none⟩) n f :=
  .inr ⟨g, 0, rfl, h.lt, fun i hi => by have := h.cell i hi; rw [show 0 + i = i by omega]; exact this⟩
theorem okM_less {n : Nat} {b : Int} {f : Nat → Int} (h : n ≤ 6) : okM 6 b n f = okM 40 b n f := by
  unfold okM
  rw [decide_eq_true h, decide_eq_true (show n ≤ 40 by omega)]

set_option maxRecDepth 100000 in
set_option maxHeartbeats 4000000 in
theorem specN_any (g n cp : Nat) (f : Nat → Int) (w : World) (hA : At w g n f) (hn : n ≤ 1048576) :
    Calls Try.prog 10 #[.slice (some ⟨g, 0, none⟩) n cp] w fun e w' => e = .returned (.tuple #[.int .i64 (nv n f), .bool (okN n f)]) ∧ Below w.heap.size w w' := by
  have hth := fun w hA => specThrows_any g n cp 6 f w hA hn (by omega)
  cases ho : okM 6 6 n f
  · rw [ho] at hth
    have Hth := Lib.hid hth; clear hth
    rw [nv_no (okN_1 ho), okN_1 ho]
    have H := Lib.hid hA; clear hA ho
    go_enter Try.func10, Try.ntmps10
    go_wp2_with fail
    refine (Hth.out _ H.out).mono ?_
    rintro e w1 ⟨rfl, hw⟩
    have hw := hw.symm
    subst hw
    go_wp2_with fail
    refine bodyPost_ret (results_tmp2 rfl _ _ _) rfl ?_
    exact ⟨rfl, n0 _⟩
  rw [ho] at hth
  have Hth := Lib.hid hth; clear hth
  have H := Lib.hid hA; clear hA
  by_cases h1 : 1 ≤ n
  case neg =>
    rw [nv_no (okN_0 h1), okN_0 h1]
    obtain rfl : n = 0 := by omega
    clear ho h1
    go_enter Try.func10, Try.ntmps10
    go_wp2_with fail
    refine (Hth.out _ H.out).mono ?_
    rintro e w1 ⟨rfl, hw⟩
    have hw := hw.symm
    subst hw
    go_wp2_with fail
    refine bodyPost_ret (results_tmp2 rfl _ _ _) rfl ?_
    exact ⟨rfl, n0 _⟩
  rw [nv_yes (okN_yes h1 ho), okN_yes h1 ho]
  obtain ⟨h6, hf⟩ := of_okM ho
  have Hnum := Lib.hid (fun w h => number_any (some ⟨g, 0, none⟩) n cp f w h h6 hf)
  have hz : ((n : Int) == 0) = false := by simp; omega
  have hzq : ((n : Int) = 0) = False := by simp; omega
  clear ho hf
  generalize nb 6 f n = x at *
  go_enter Try.func10, Try.ntmps10
  go_wp2_with fail
  refine (Hth.out _ H.out).mono ?_
  rintro e w1 ⟨rfl, hw⟩
  have hw := hw.symm
  subst hw
  go_wp2_with fail
  refine (Hnum.out _ (row_at H.out)).mono ?_
  rintro e w2 ⟨rfl, hw⟩
  have hw := hw.symm
  subst hw
  go_wp2_with fail
  refine bodyPost_ret (results_tmp2 rfl _ _ _) rfl ?_
  exact ⟨rfl, n0 _⟩

set_option maxRecDepth 100000 in
set_option maxHeartbeats 4000000 in
theorem implN_any (g n cp : Nat) (f : Nat → Int) (w : World) (hA : At w g n f) (hn : n ≤ 1048576) :
    Calls Try.prog 9 #[.slice (some ⟨g, 0, none⟩) n cp] w fun e w' => e = .returned (.tuple #[.int .i64 (nv n f), .bool (okN n f)]) ∧ Below w.heap.size w w' := by
  have hth := fun w hA => throws_any g n cp f w hA hn
  have H := Lib.hid hA; clear hA
  by_cases h1 : 1 ≤ n
  case neg =>
    rw [nv_no (okN_0 h1), okN_0 h1]
    have d1 : decide ((n : Int) < 1) = true := decide_eq_true (by omega)
    have d1N : decide (n < 1) = true := decide_eq_true (by omega)
    clear hth
    go_enter Try.func9, Try.ntmps9
    go_wp2_with fail
    refine bodyPost_ret (results_tmp2 rfl _ _ _) rfl ?_
    exact ⟨rfl, n0 _⟩
  have d1 : decide ((n : Int) < 1) = false := decide_eq_false (by omega)
  have d1N : decide (n < 1) = false := decide_eq_false (by omega)
  by_cases h6 : n ≤ 6
  case neg =>
    have ho : okM 6 6 n f = false := okM_long h6
    rw [nv_no (okN_1 ho), okN_1 ho]
    have d2 : decide ((6 : Int) < (n : Int)) = true := decide_eq_true (by omega)
    have d2N : decide (6 < n) = true := decide_eq_true (by omega)
    clear hth ho
    go_enter Try.func9, Try.ntmps9
    go_wp2_with fail
    refine bodyPost_ret (results_tmp2 rfl _ _ _) rfl ?_
    exact ⟨rfl, n0 _⟩
  have d2 : decide ((6 : Int) < (n : Int)) = false := decide_eq_false (by omega)
  have d2N : decide (6 < n) = false := decide_eq_false (by omega)
  rw [← okM_less h6] at hth
  cases ho : okM 6 6 n f
  · rw [ho] at hth
    have Hth := Lib.hid hth; clear hth
    rw [nv_no (okN_1 ho), okN_1 ho]
    clear ho
    go_enter Try.func9, Try.ntmps9
    go_wp2_with fail
    refine (Hth.out _ H.out).mono ?_
    rintro e w1 ⟨rfl, hw⟩
    have hw := hw.symm
    subst hw
    go_wp2_with fail
    refine bodyPost_ret (results_tmp2 rfl _ _ _) rfl ?_
    exact ⟨rfl, n0 _⟩
  rw [ho] at hth
  have Hth := Lib.hid hth; clear hth
  rw [nv_yes (okN_yes h1 ho), okN_yes h1 ho]
  obtain ⟨_, hf⟩ := of_okM ho
  have Hso := Lib.hid (fun w hA => source_any g n cp f w hA)
  have Hnx := Lib.hid (fun (bu bl : Nat) w hS => next_any bu bl g n cp 0 n 6 f w hS (by omega) h6 (by omega) hf hn)
  have hnb : nb 6 (fun i => f (0 + i)) n = nb 6 f n := nb_congr (fun j _ => by rw [Nat.zero_add])
  rw [hnb] at Hnx
  clear hnb hf ho
  generalize nb 6 f n = x at *
  go_enter Try.func9, Try.ntmps9
  go_wp2_with fail
  refine (Hth.out _ H.out).mono ?_
  rintro e w1 ⟨rfl, hw⟩
  have hw := hw.symm
  subst hw
  go_wp2_with fail
  refine (Hso.out _ H.out).mono ?_
  rintro e w2 ⟨bu, bl, rfl, hS, hbu, hbl, hb2⟩
  go_wp2_with fail
  refine (Hnx.out bu bl _ hS).mono ?_
  rintro e w3 ⟨rfl, _, hG⟩
  have hB := below_grown hb2 hG hb2.size hbu
  clear hS hG
  go_wp2_with fail
  refine bodyPost_ret (results_tmp2 rfl _ _ _) rfl ?_
  exact ⟨rfl, hB⟩
/-- What MakeNumber answers. -/
def okV (m : Int) (n : Nat) (f : Nat → Int) : Bool := okM 6 6 n f && okT m n
def tkn (m : Int) (n : Nat) (f : Nat → Int) : Bool := okV m n f && decide (nb 6 f n < (tk m.toNat n : Nat))
def mv (m : Int) (n : Nat) (f : Nat → Int) : Int := if tkn m n f then (((nb 6 f n).toNat % m.toNat : Nat) : Int) else 0
theorem v_no {m : Int} {n : Nat} {f : Nat → Int} (h : okV m n f = false) : tkn m n f = false ∧ mv m n f = 0 := by
  have : tkn m n f = false := by simp only [tkn, h, Bool.false_and]
  exact ⟨this, by simp [mv, this]⟩
theorem v_over {m n : Nat} {f : Nat → Int} (h : okV m n f = true) (hx : ¬ nb 6 f n < (tk m n : Nat)) : tkn m n f = false ∧ mv m n f = 0 := by
  have : tkn m n f = false := by simp only [tkn, h, Bool.true_and]; exact decide_eq_false (by rw [Int.toNat_natCast]; exact hx)
  exact ⟨this, by simp [mv, this]⟩
theorem v_yes {m n : Nat} {f : Nat → Int} (h : okV m n f = true) (hx : nb 6 f n < (tk m n : Nat)) : tkn m n f = true ∧ mv m n f = (((nb 6 f n).toNat % m : Nat) : Int) := by
  have : tkn m n f = true := by simp only [tkn, h, Bool.true_and]; exact decide_eq_true (by rw [Int.toNat_natCast]; exact hx)
  exact ⟨this, by simp [mv, this]⟩

set_option maxRecDepth 100000 in
set_option maxHeartbeats 4000000 in
theorem specV_any (m : Int) (g n cp : Nat) (f : Nat → Int) (w : World) (hA : At w g n f) (hn : n ≤ 1048576) :
    Calls Try.prog 7 #[.int .i64 m, .slice (some ⟨g, 0, none⟩) n cp] w fun e w' => e = .returned (.tuple #[.int .i64 (mv m n f), .bool (tkn m n f), .bool (okV m n f)]) ∧ Below w.heap.size w w' := by
  have hth := fun w hA => specThrows_any g n cp 6 f w hA hn (by omega)
  cases ho : okM 6 6 n f
  · rw [ho] at hth
    have Hth := Lib.hid hth; clear hth
    have hv : okV m n f = false := by simp only [okV, ho, Bool.false_and]
    rw [(v_no hv).1, (v_no hv).2, hv]
    have H := Lib.hid hA; clear hA ho hv
    go_enter Try.func7, Try.ntmps7
    go_wp2_with fail
    refine (Hth.out _ H.out).mono ?_
    rintro e w1 ⟨rfl, hw⟩
    have hw := hw.symm
    subst hw
    go_wp2_with fail
    refine bodyPost_ret (results_tmp3 rfl _ _ _) rfl ?_
    exact ⟨rfl, n0 _⟩
  rw [ho] at hth
  have Hth := Lib.hid hth; clear hth
  have H := Lib.hid hA; clear hA
  have hgd := fun w => good_any m (n : Nat) w
  cases hk : okT m (n : Nat)
  · rw [hk] at hgd
    have Hgd := Lib.hid hgd; clear hgd
    have hv : okV m n f = false := by simp only [okV, hk, Bool.and_false]
    rw [(v_no hv).1, (v_no hv).2, hv]
    clear ho hv hk
    go_enter Try.func7, Try.ntmps7
    go_wp2_with fail
    refine (Hth.out _ H.out).mono ?_
    rintro e w1 ⟨rfl, hw⟩
    have hw := hw.symm
    subst hw
    go_wp2_with fail
    refine (Hgd.out _).mono ?_
    rintro e w2 ⟨rfl, hw⟩
    have hw := hw.symm
    subst hw
    go_wp2_with fail
    refine bodyPost_ret (results_tmp3 rfl _ _ _) rfl ?_
    exact ⟨rfl, n0 _⟩
  rw [hk] at hgd
  obtain ⟨m, n', rfl, hn', h1, h2, h3, h4, h5⟩ := of_okT hk
  obtain rfl : n = n' := by omega
  obtain ⟨_, hf⟩ := of_okM ho
  have hv : okV m n f = true := by simp only [okV, ho, hk, Bool.and_true]
  have hnb := nb_le (b := 6) (f := f) (by omega) h4 hf
  obtain ⟨x, hx⟩ : ∃ x : Nat, nb 6 f n = x := ⟨(nb 6 f n).toNat, by omega⟩
  have htl := tk_le m n
  have h66 := all6_six h4
  have Hgd := Lib.hid hgd; clear hgd
  have Hnum := Lib.hid (fun w h => number_any (some ⟨g, 0, none⟩) n cp f w h h4 hf)
  have Htk := Lib.hid (fun w => taken_any m n w h1 h4)
  by_cases hl : nb 6 f n < (tk m n : Nat)
  · rw [(v_yes hv hl).1, (v_yes hv hl).2, hv]
    rw [hx] at Hnum hl ⊢
    rw [Int.toNat_natCast]
    generalize tk m n = r at *
    have hd : decide ((r : Int) ≤ (x : Int)) = false := decide_eq_false (by omega)
    have hdN : decide (r ≤ x) = false := decide_eq_false (by omega)
    have hm0 : (m : Int) ≠ 0 := by omega
    have hmq : ((m : Int) = 0) = False := by simp; omega
    have hmod : ((x : Int) % (m : Int)) = ((x % m : Nat) : Int) := by omega
    have hmlt : x % m < m := Nat.mod_lt _ (by omega)
    clear hv ho hk hf hn' hnb hl
    go_enter Try.func7, Try.ntmps7
    go_wp2_with fail
    refine (Hth.out _ H.out).mono ?_
    rintro e w1 ⟨rfl, hw⟩
    have hw := hw.symm
    subst hw
    go_wp2_with fail
    refine (Hgd.out _).mono ?_
    rintro e w2 ⟨rfl, hw⟩
    have hw := hw.symm
    subst hw
    go_wp2_with fail
    refine (Hnum.out _ (row_at H.out)).mono ?_
    rintro e w3 ⟨rfl, hw⟩
    have hw := hw.symm
    subst hw
    go_wp2_with fail
    refine (Htk.out _).mono ?_
    rintro e w4 ⟨rfl, hw⟩
    have hw := hw.symm
    subst hw
    go_wp2_with fail
    refine bodyPost_ret (results_tmp3 rfl _ _ _) rfl ?_
    exact ⟨by rw [← hmod]; rfl, n0 _⟩
  · rw [(v_over hv hl).1, (v_over hv hl).2, hv]
    rw [hx] at Hnum hl
    generalize tk m n = r at *
    have hd : decide ((r : Int) ≤ (x : Int)) = true := decide_eq_true (by omega)
    have hdN : decide (r ≤ x) = true := decide_eq_true (by omega)
    clear hv ho hk hf hn' hnb hl
    go_enter Try.func7, Try.ntmps7
    go_wp2_with fail
    refine (Hth.out _ H.out).mono ?_
    rintro e w1 ⟨rfl, hw⟩
    have hw := hw.symm
    subst hw
    go_wp2_with fail
    refine (Hgd.out _).mono ?_
    rintro e w2 ⟨rfl, hw⟩
    have hw := hw.symm
    subst hw
    go_wp2_with fail
    refine (Hnum.out _ (row_at H.out)).mono ?_
    rintro e w3 ⟨rfl, hw⟩
    have hw := hw.symm
    subst hw
    go_wp2_with fail
    refine (Htk.out _).mono ?_
    rintro e w4 ⟨rfl, hw⟩
    have hw := hw.symm
    subst hw
    go_wp2_with fail
    refine bodyPost_ret (results_tmp3 rfl _ _ _) rfl ?_
    exact ⟨rfl, n0 _⟩

set_option maxRecDepth 100000 in
set_option maxHeartbeats 4000000 in
theorem implV_any (m : Int) (g n cp : Nat) (f : Nat → Int) (w : World) (hA : At w g n f) (hn : n ≤ 1048576) :
    Calls Try.prog 6 #[.int .i64 m, .slice (some ⟨g, 0, none⟩) n cp] w fun e w' => e = .returned (.tuple #[.int .i64 (mv m n f), .bool (tkn m n f), .bool (okV m n f)]) ∧ Below w.heap.size w w' := by
  have hnn := fun w hA => implN_any g n cp f w hA hn
  have htt := fun w => implT_any m (n : Nat) w
  have H := Lib.hid hA; clear hA
  cases ho : okN n f
  · rw [ho, nv_no ho] at hnn
    have hv : okV m n f = false := by
      cases h6 : okM 6 6 n f
      · simp only [okV, h6, Bool.false_and]
      · by_cases h1 : 1 ≤ n
        · rw [okN_yes h1 h6] at ho; cases ho
        · have : okT m (n : Nat) = false := okT_2 (by omega)
          simp only [okV, this, Bool.and_false]
    generalize tT m (n : Nat) = t at *
    generalize okT m (n : Nat) = z at *
    have Hn := Lib.hid hnn; clear hnn
    have Ht := Lib.hid htt; clear htt
    rw [(v_no hv).1, (v_no hv).2, hv]
    clear ho hv
    go_enter Try.func6, Try.ntmps6
    go_wp2_with fail
    refine (Hn.out _ H.out).mono ?_
    rintro e w1 ⟨rfl, hb1⟩
    go_wp2_with fail
    refine (Ht.out _).mono ?_
    rintro e w2 ⟨rfl, hw⟩
    have hw := hw.symm
    subst hw
    go_wp2_with fail
    refine bodyPost_ret (results_tmp3 rfl _ _ _) rfl ?_
    exact ⟨rfl, hb1⟩
  rw [ho, nv_yes ho] at hnn
  have ho := (by obtain ⟨a, b, c⟩ := of_okN ho; exact okM_yes b c : okM 6 6 n f = true)
  cases hk : okT m (n : Nat)
  · rw [hk, tT_no hk] at htt
    have hv : okV m n f = false := by simp only [okV, hk, Bool.and_false]
    have Hn := Lib.hid hnn; clear hnn
    have Ht := Lib.hid htt; clear htt
    rw [(v_no hv).1, (v_no hv).2, hv]
    clear ho hv hk
    generalize nb 6 f n = x at *
    go_enter Try.func6, Try.ntmps6
    go_wp2_with fail
    refine (Hn.out _ H.out).mono ?_
    rintro e w1 ⟨rfl, hb1⟩
    go_wp2_with fail
    refine (Ht.out _).mono ?_
    rintro e w2 ⟨rfl, hw⟩
    have hw := hw.symm
    subst hw
    go_wp2_with fail
    refine bodyPost_ret (results_tmp3 rfl _ _ _) rfl ?_
    exact ⟨rfl, hb1⟩
  obtain ⟨m, n', rfl, hn', h1, h2, h3, h4, h5⟩ := of_okT hk
  obtain rfl : n = n' := by omega
  obtain ⟨_, hf⟩ := of_okM ho
  have hv : okV m n f = true := by simp only [okV, ho, hk, Bool.and_true]
  have hnb := nb_le (b := 6) (f := f) (by omega) h4 hf
  obtain ⟨x, hx⟩ : ∃ x : Nat, nb 6 f n = x := ⟨(nb 6 f n).toNat, by omega⟩
  have htl := tk_le m n
  have h66 := all6_six h4
  rw [hk, tT_yes hk] at htt
  have Hn := Lib.hid hnn; clear hnn
  have Ht := Lib.hid htt; clear htt
  by_cases hl : nb 6 f n < (tk m n : Nat)
  · rw [(v_yes hv hl).1, (v_yes hv hl).2, hv]
    rw [hx] at Hn hl ⊢
    rw [Int.toNat_natCast]
    generalize tk m n = r at *
    have hd : decide ((r : Int) ≤ (x : Int)) = false := decide_eq_false (by omega)
    have hdN : decide (r ≤ x) = false := decide_eq_false (by omega)
    have hm0 : (m : Int) ≠ 0 := by omega
    have hmq : ((m : Int) = 0) = False := by simp; omega
    have hmod : ((x : Int) % (m : Int)) = ((x % m : Nat) : Int) := by omega
    have hmlt : x % m < m := Nat.mod_lt _ (by omega)
    clear hv ho hk hf hn' hnb hl
    go_enter Try.func6, Try.ntmps6
    go_wp2_with fail
    refine (Hn.out _ H.out).mono ?_
    rintro e w1 ⟨rfl, hb1⟩
    go_wp2_with fail
    refine (Ht.out _).mono ?_
    rintro e w2 ⟨rfl, hw⟩
    have hw := hw.symm
    subst hw
    go_wp2_with fail
    refine bodyPost_ret (results_tmp3 rfl _ _ _) rfl ?_
    exact ⟨by rw [← hmod]; rfl, hb1⟩
  · rw [(v_over hv hl).1, (v_over hv hl).2, hv]
    rw [hx] at Hn hl
    generalize tk m n = r at *
    have hd : decide ((r : Int) ≤ (x : Int)) = true := decide_eq_true (by omega)
    have hdN : decide (r ≤ x) = true := decide_eq_true (by omega)
    clear hv ho hk hf hn' hnb hl
    go_enter Try.func6, Try.ntmps6
    go_wp2_with fail
    refine (Hn.out _ H.out).mono ?_
    rintro e w1 ⟨rfl, hb1⟩
    go_wp2_with fail
    refine (Ht.out _).mono ?_
    rintro e w2 ⟨rfl, hw⟩
    have hw := hw.symm
    subst hw
    go_wp2_with fail
    refine bodyPost_ret (results_tmp3 rfl _ _ _) rfl ?_
    exact ⟨rfl, hb1⟩


end MadNq
end Go.Proofs.Ytlpjmfmalejlpaa
