/-
  Lists of patterns in memory; slices.Contains and slices.SortFunc of them.
-/
import Derived.Test.YtbcaahaaaodhkaaRows
import Derived.Test.YtbcaahaaaodhkaaPKey
import Derived.Test.YtbcaahaaaodhkaaShelfS4
import Derived.Test.YtbcaahaaaodhkaaPatC
import Derived.Test.YtbcaahaaaodhkaaPatS
import Derived.Test.YtbcaahaaaodhkaaPatsI
import Derived.Test.YtbcaahaaaodhkaaPlS
import Derived.Test.YtbcaahaaaodhkaaPatI
import Derived.Test.YtbcaahaaaodhkaaPlI
import Derived.Test.YtbcaahaaaodhkaaFour
import Derived.Test.YtbcaahaaaodhkaaPatM
import Derived.Test.YtbcaahaaaodhkaaSortDn
import Derived.Test.YtbcaahaaaodhkaaPlaces
import Derived.Test.YtbcaahaaaodhkaaRollWM
import Derived.Test.YtbcaahaaaodhkaaIntsM
import Derived.Test.YtbcaahaaaodhkaaPoolW
import Derived.Test.YtbcaahaaaodhkaaAll6
import Derived.Test.YtbcaahaaaodhkaaDicesW
import Derived.Test.YtbcaahaaaodhkaaOpenD
import Derived.WalkKit
import Derived.WalkLawsBesides
import Derived.WalkSpells
import Derived.ProofKit
import Derived.OpenShut
import Derived.Deep.RegionWith
import Derived.Sort.Grow
import Derived.Lib.OwnBridge
import Derived.Shelf.SlSortCmp.NoneTotal
import Derived.Shelf.SlicesQ.Contains
import Derived.Laws.StructEq
import Derived.Deep.QuietTactic
import Derived.BigQuiet
namespace Go.Proofs.Ytbcaahaaaodhkaa
open Go.ChangeShapes Go.WideShapes Go.ChangeAt Go.RowKit
open Go.ChangeMaps (open_string shut_string)

namespace KeysW
open Dice Arr OpenD DieW SortW DicesW PoolW All6 IntsW RollW Places PatM SortDn PlI Four PatI PatsI PlS PatS PatC PKey

/-- The cells of a key. -/
def enc (x : Key) : List Value := vals 4 (dec x)
theorem enc_len (x : Key) : (enc x).length = 4 := vals_len 4 _
theorem enc_get (x : Key) {j : Nat} (h : j < 4) : (enc x)[j]? = some (.int .i64 (dec x j)) := by
  obtain rfl | rfl | rfl | rfl : j = 0 ∨ j = 1 ∨ j = 2 ∨ j = 3 := by omega
  all_goals rfl
theorem enc_agg (x : Key) : (.agg (enc x).toArray : Value) = v4 (dec x) := rfl
theorem enc_one (x : Key) : ∀ v ∈ enc x, v.oneCell' = true := by
  intro v hv
  have hv : v ∈ [Value.int .i64 (dec x 0), .int .i64 (dec x 1), .int .i64 (dec x 2), .int .i64 (dec x 3)] := hv
  simp only [List.mem_cons, List.not_mem_nil, or_false] at hv
  rcases hv with rfl | rfl | rfl | rfl <;> rfl
def kc (L : List Key) : List Value := L.flatMap enc
theorem kc_append (L M : List Key) : kc (L ++ M) = kc L ++ kc M := by simp [kc]
theorem kc_snoc (L : List Key) (x : Key) : kc (L ++ [x]) = kc L ++ enc x := by simp [kc]
theorem kc_len : ∀ L : List Key, (kc L).length = L.length * 4
  | [] => rfl
  | x :: L => by
    have e : kc (x :: L) = enc x ++ kc L := by simp [kc]
    rw [e, List.length_append, enc_len, kc_len L, List.length_cons]
    omega
def kf (L : List Key) (j : Nat) : Int := dec (L.getD (j / 4) 0) (j % 4)
theorem kc_get : ∀ (L : List Key) (j : Nat), j < L.length * 4 → (kc L)[j]? = some (.int .i64 (kf L j))
  | [], j, h => by simp at h
  | x :: L, j, h => by
    have e : kc (x :: L) = enc x ++ kc L := by simp [kc]
    rw [e]
    by_cases h4 : j < 4
    · rw [List.getElem?_append_left (by rw [enc_len]; exact h4), enc_get x h4]
      unfold kf
      rw [show j / 4 = 0 by omega, show j % 4 = j by omega]
      rfl
    · rw [List.getElem?_append_right (by rw [enc_len]; omega), enc_len, kc_get L (j - 4) (by rw [List.length_cons] at h; omega)]
      unfold kf
      rw [show j / 4 = (j - 4) / 4 + 1 by omega, show j % 4 = (j - 4) % 4 by omega, List.getD_cons_succ]
theorem kf_at (L : List Key) (i : Nat) {k : Nat} (hk : k < 4) : kf L (i * 4 + k) = dec (L.getD i 0) k := by
  unfold kf
  rw [show (i * 4 + k) / 4 = i by omega, show (i * 4 + k) % 4 = k by omega]
/-- A list of m patterns in memory from block B on. -/
def Fours (B : Nat) (w : World) (A : Option Addr) (m : Nat) (f : Nat → Int) : Prop := m = 0 ∨ ∃ b, A = some ⟨b, 0, none⟩ ∧ B ≤ b ∧ At w b (m * 4) f
theorem Fours.up {B : Nat} {w w' : World} {A : Option Addr} {m : Nat} {f : Nat → Int} (h : Fours B w A m f) (hb : Below w.heap.size w w') : Fours B w' A m f := by
  rcases h with h | ⟨b, hA, hB, h⟩
  · exact .inl h
  · exact .inr ⟨b, hA, hB, h.up hb⟩
theorem Fours.mono {B B' : Nat} {w : World} {A : Option Addr} {m : Nat} {f : Nat → Int} (h : Fours B w A m f) (hB' : B' ≤ B) : Fours B' w A m f := by
  rcases h with h | ⟨b, hA, hB, h⟩
  · exact .inl h
  · exact .inr ⟨b, hA, by omega, h⟩
theorem Fours.at_ {B : Nat} {w : World} {A : Option Addr} {m : Nat} {f : Nat → Int} (h : Fours B w A m f) (hm : 0 < m) : ∃ b, A = some ⟨b, 0, none⟩ ∧ B ≤ b ∧ At w b (m * 4) f := by
  rcases h with h | h
  · omega
  · exact h
theorem keys_own {w : World} {B : Nat} {v : Value} {L : List Key} (h : w.ownsRow B 23 4 v L.length (kc L)) : ∃ A c, v = .slice A L.length c ∧ Fours B w A L.length (kf L) := by
  rcases h.2 with ⟨rfl, h0⟩ | ⟨g, cap, cur, rfl, hb, hg, hnc, hcm, hcs, htake⟩
  · exact ⟨none, 0, by rw [h0], .inl h0⟩
  · exact ⟨_, cap, rfl, .inr ⟨g, rfl, hb, (Array.getElem?_eq_some_iff.1 hg).1, fun k hk => (h.cellAt k hk).trans (kc_get L k hk), fun k => h.frozenAt k⟩⟩

/-- How two keys are told apart. -/
def same4 (x y : Key) : Bool := decide (agree (dec x) (dec y) 4)
theorem same4_eq (x y : Key) : same4 x y = decide (x = y) := by
  unfold same4
  by_cases h : x = y
  · subst h
    rw [decide_eq_true (show agree (dec x) (dec x) 4 from fun _ _ => rfl), decide_eq_true rfl]
  · rw [decide_eq_false h, decide_eq_false (fun e => h (dec_inj fun j hj => e j hj))]
theorem eql4 : EqlAt Try.prog 23 (fun x => .agg (enc x).toArray) same4 := by
  refine ⟨fun x y w => ?_, GuardAt.agg _ (by kernel_rfl)⟩
  exact run_eql_vals (P := Try.prog) w 23 3 4 Try.underlying23 Try.underlying3 Try.sizeOf3 (dec x) (dec y)

set_option maxHeartbeats 1000000 in
theorem index_none (x : Key) (w : World) :
    Calls Try.prog 106 #[.slice none 0 0, v4 (dec x)] w fun e w' => e = .returned (.int .i64 (-1)) ∧ Below w.heap.size w w' := by
  go_enter Try.func106, Try.ntmps106
  go_wp2_with fail
  go_loopw [8] (fun i wr => i = .int .i64 0 ∧ Below w.heap.size w wr) (fun _ _ => 0)
  case atStart => exact ⟨rfl, na (n0 w) _⟩
  case round =>
    obtain ⟨rfl, hb⟩ := hrel
    go_wp2_with fail
    go_ret
    exact ⟨rfl, hb⟩
set_option maxHeartbeats 1000000 in
theorem has_none (x : Key) (w : World) :
    Calls Try.prog 65 #[.slice none 0 0, v4 (dec x)] w fun e w' => e = .returned (.bool false) ∧ Below w.heap.size w w' := by
  have Hi := Lib.hid (fun w => index_none x w)
  go_enter Try.func65, Try.ntmps65
  go_wp2_with fail
  refine (Hi.out _).mono ?_
  rintro e w2 ⟨rfl, hb⟩
  go_wp2_with fail
  go_ret
  exact ⟨rfl, past1 hb⟩

set_option maxRecDepth 100000 in
theorem has_any (B : Nat) (v : Value) (L : List Key) (x : Key) (w : World) (h : w.ownsRow B 23 4 v L.length (kc L)) (hL : L.length ≤ 100000) :
    Calls Try.prog 65 #[v, v4 (dec x)] w fun e w' => e = .returned (.bool (decide (x ∈ L))) ∧ Below w.heap.size w w' := by
  obtain ⟨A, c, rfl, hF⟩ := keys_own h
  rcases h.2 with ⟨hv, h0⟩ | ⟨g, cap, cur, hv, hb, hg, hnc, hcm, hcs, htake⟩
  · have : L = [] := List.length_eq_zero_iff.1 h0
    subst this
    cases hv
    exact (has_none x w).mono fun e w' ⟨he, hw⟩ => ⟨he, hw⟩
  · cases hv
    have hc : ∀ j, j < L.length → ∀ i v, (enc L[j]!)[i]? = some v → w.cell? ⟨g, 0 + j * 4 + i, none⟩ = some v := by
      intro j hj i v hv
      have hi : i < 4 := by
        have := (List.getElem?_eq_some_iff.1 hv).1
        rwa [enc_len] at this
      rw [Nat.zero_add, h.cellAt (j * 4 + i) (by omega), kc_get L _ (by omega), kf_at L j hi, ← hv, enc_get _ hi]
      congr 3
      simp [hj]
    refine (AnyQ.slices_Contains Try.has4 4 Try.isAgg23 Try.sizeOf23 enc enc_len same4 eql4 g 0 L.length c L x w (Nat.le_refl _) (by omega) hc).mono ?_
    rintro e w' ⟨he, hw⟩
    refine ⟨he.trans ?_, hw⟩
    congr 2
    rw [List.take_length]
    by_cases hx : x ∈ L
    · rw [decide_eq_true hx, List.any_eq_true]
      exact ⟨x, hx, by rw [same4_eq]; exact decide_eq_true rfl⟩
    · rw [decide_eq_false hx, List.any_eq_false]
      intro y hy
      rw [same4_eq]
      simp only [decide_eq_true_eq]
      exact fun e => hx (e ▸ hy)

/-- The order of the program's sort, on keys. -/
noncomputable def cf (x y : Key) : Int := cpt (dec y) (dec x)
theorem lt_cf (x y : Key) : ltOf cf x y = decide (y < x) := by
  unfold ltOf cf cpt
  rw [bef_dec, bef_dec]
  by_cases h1 : x < y
  · have h2 : ¬ y < x := fun e => by have h1 : x.val < y.val := h1; have e : y.val < x.val := e; omega
    simp [h1, h2]
  · by_cases h2 : y < x
    · simp [h1, h2]
    · simp [h1, h2]
theorem swo_cf : Go.Sort.SWO (ltOf cf) where
  irrefl x := by rw [lt_cf]; exact decide_eq_false (Nat.lt_irrefl _)
  trans x y z h1 h2 := by
    rw [lt_cf, decide_eq_true_eq] at *
    exact Nat.lt_trans h2 h1
  ntrans x y z h1 h2 := by
    rw [lt_cf, decide_eq_false_iff_not] at *
    intro e
    have h1 : ¬ y.val < x.val := h1
    have h2 : ¬ z.val < y.val := h2
    have e : z.val < x.val := e
    omega
theorem tot_cf (x y : Key) (h1 : ltOf cf x y = false) (h2 : ltOf cf y x = false) : x = y := by
  rw [lt_cf, decide_eq_false_iff_not] at *
  have h1 : ¬ y.val < x.val := h1
  have h2 : ¬ x.val < y.val := h2
  exact Fin.ext (by omega)
noncomputable def le_cf (x y : Key) : Bool := !(ltOf cf) y x
theorem le_cf_eq (x y : Key) : le_cf x y = decide (y ≤ x) := by
  unfold le_cf
  rw [lt_cf]
  by_cases h : x < y
  · have h2 : ¬ y ≤ x := fun e => by have h : x.val < y.val := h; have e : y.val ≤ x.val := e; omega
    rw [decide_eq_true h, decide_eq_false h2]; rfl
  · have h2 : y ≤ x := by have h : ¬ x.val < y.val := h; show y.val ≤ x.val; omega
    rw [decide_eq_false h, decide_eq_true h2]; rfl
theorem cmpLays (blk off size : Nat) (w : World) : CmpLays Try.prog 67 #[] enc 4 cf blk off size w :=
  fun _ _ _ _ x y => closure_any (dec x) (dec y) _

theorem holds_keys {w : World} {g : Nat} {L : List Key} (h : At w g (L.length * 4) (kf L)) : Go.Sort.HoldsK enc 4 w g 0 L.toArray := by
  intro j hj
  have hj : j < L.length * 4 := by simpa using hj
  refine ⟨?_, h.free _⟩
  rw [Nat.zero_add, h.cell j hj, Go.Sort.get_flatK _ _ _ _ (by simpa using hj)]
  have h4 : j / 4 < L.length := by omega
  have e : L.toArray[j / 4]! = L.getD (j / 4) 0 := by simp [h4]
  rw [e]
  have := enc_get (L.getD (j / 4) 0) (show j % 4 < 4 by omega)
  rw [List.getElem!_eq_getElem?_getD, this]
  rfl
theorem at_keys {w : World} {g : Nat} {L : List Key} (hl : g < w.heap.size) (h : Go.Sort.HoldsK enc 4 w g 0 L.toArray) (hf : ∀ k, w.frozen? ⟨g, k, none⟩ = false) : At w g (L.length * 4) (kf L) := by
  refine ⟨hl, fun k hk => ?_, hf⟩
  have := (h k (by simpa using hk)).1
  rw [Nat.zero_add] at this
  rw [this, Go.Sort.get_flatK _ _ _ _ (by simpa using hk)]
  have h4 : k / 4 < L.length := by omega
  have e : L.toArray[k / 4]! = L.getD (k / 4) 0 := by simp [h4]
  rw [e]
  have := enc_get (L.getD (k / 4) 0) (show k % 4 < 4 by omega)
  rw [List.getElem!_eq_getElem?_getD, this]
  rfl

theorem sort_any (B : Nat) (A : Option Addr) (c : Nat) (L : List Key) (w : World) (h : Fours B w A L.length (kf L)) (hB : B ≤ w.heap.size) (hL : L.length ≤ 100000) :
    Calls Try.prog 66 #[.slice A L.length c, .func (.func 67) #[] #[]] w fun e w' => e = .returned (.tuple #[]) ∧ Fours B w' A L.length (kf (L.mergeSort le_cf)) ∧ Below B w w' := by
  rcases h with h0 | ⟨g, rfl, hg, hA⟩
  · have : L = [] := List.length_eq_zero_iff.1 h0
    subst this
    refine (AnyF.slices_SortFunc_none Try.sort4 A c _ w).mono ?_
    rintro e w' ⟨he, rfl⟩
    exact ⟨he, .inl rfl, Below.refl _ _⟩
  · have eg : ∀ args w, (callFunc 67 args).run Try.prog w = .ok (.enter 67 args) w := enters_of Try.func67 (by kernel_rfl) rfl
    have hH := holds_keys hA
    have hcon := AnyQ.slices_SortFunc_total Try.sort4 4 Try.isAgg23 Try.sizeOf23 enc enc_len enc_one cf swo_cf 67 #[] g 0 c L.toArray w eg (cmpLays g 0 _ w) hH hA.lt (by simp; omega) tot_cf
    have hsz : L.toArray.size = L.length := by simp
    rw [hsz] at hcon
    refine hcon.mono ?_
    rintro e w' ⟨he, n, os, hw⟩
    have hw : w' = sortWorldK enc 4 w g 0 n (L.mergeSort le_cf).toArray os := hw
    have hlen : (L.mergeSort le_cf).length = L.length := List.length_mergeSort ..
    have hK := Go.Proofs.holdsK_sortWorldK_c enc 4 w g 0 L.toArray (L.mergeSort le_cf).toArray n os hH hA.lt (by simp [hlen])
    have hlt := Go.Proofs.size_sortWorldK_c (enc := enc) (k := 4) (w := w) (blk := g) (off := 0) n (L.mergeSort le_cf).toArray os
    rw [← hw] at hK hlt
    have hgl := hA.lt
    have hb1 : Below B w (Go.Sort.putRowK enc 4 (Go.Sort.ahead w n) g 0 (L.mergeSort le_cf).toArray) := Lib.below_putRow (Below.refl _ _) hg
    have hb2 : Below B w w' := by rw [hw]; exact hb1.trans (below_grow _ os (Nat.le_trans hB hb1.size))
    refine ⟨he, .inr ⟨g, rfl, hg, ?_⟩, hb2⟩
    rw [← hlen]
    refine at_keys (by omega) hK fun k => ?_
    rw [hw]
    show (Go.Sort.grow _ os).frozen? _ = _
    rw [Go.Sort.frozen?_grow _ _ _ (Nat.lt_of_lt_of_le hgl hb1.size)]
    show (Go.Sort.putRow id _ g 0 _).frozen? _ = _
    rw [Go.Sort.frozen?_putRow, Go.Sort.frozen?_ahead]
    exact hA.free k


end KeysW
end Go.Proofs.Ytbcaahaaaodhkaa
