/-
  The places of a roll, in the model.
-/
import Derived.Test.YtbcaahaaaodhkaaRows
import Derived.Test.YtbcaahaaaodhkaaPlaces
import Derived.Test.YtbcaahaaaodhkaaArr
import Derived.Test.YtbcaahaaaodhkaaDieW
import Derived.Test.YtbcaahaaaodhkaaSortW
import Derived.Test.YtbcaahaaaodhkaaOpenD
import Derived.WalkKit
import Derived.WalkLawsBesides
import Derived.WalkSpells
import Derived.ProofKit
import Derived.OpenShut
import Derived.Deep.RegionWith
import Derived.Deep.QuietTactic
import Derived.BigQuiet
namespace Go.Proofs.Ytbcaahaaaodhkaa
open Go.ChangeShapes Go.WideShapes Go.ChangeAt Go.RowKit
open Go.ChangeMaps (open_string shut_string)

namespace PlS
open Dice Arr DieW SortW Places

/-- A row that is one's own, as an array. -/
theorem At.of_own {w : World} {B g n cap : Nat} {f : Nat → Int} (h : w.ownsRow B 3 1 (.slice (some ⟨g, 0, none⟩) n cap) n (vals n f)) : At w g n f :=
  ⟨(World.ownsRow.lt h g rfl).2, fun k hk => (World.ownsRow.cellAt h k (by omega)).trans (vals_get hk), fun k => World.ownsRow.frozenAt h k⟩
theorem own_form {w : World} {B n : Nat} {v : Value} {xs : List Value} (h : w.ownsRow B 3 1 v n xs) (hv : v ≠ .slice none 0 0) : ∃ g c, v = .slice (some ⟨g, 0, none⟩) n c ∧ B ≤ g ∧ g < w.heap.size := by
  have h2 := h.2
  rcases h2 with ⟨he, _⟩ | ⟨g, cap, cur, he, hb, _⟩
  · exact absurd he hv
  · subst he
    exact ⟨g, cap, rfl, hb, (World.ownsRow.lt h g rfl).2⟩
theorem vals_insert {f : Nat → Int} {i m : Nat} (hm : m ≤ i) (h1 : ∀ j, j < m → f i ≤ ds f i j) (h2 : m < i → ds f i m ≤ f i) :
    (vals m (ds f i) ++ [.int .i64 (f i)]) ++ vals (i - m) (fun t => ds f i (m + t)) = vals (i + 1) (ds f (i + 1)) := by
  refine List.ext_getElem? fun k => ?_
  by_cases hk : k < i + 1
  · rw [vals_get hk, ds_insert hm h1 h2 hk]
    by_cases h3 : k < m
    · rw [List.getElem?_append_left (by simp [vals_len]; omega), List.getElem?_append_left (by rw [vals_len]; exact h3), vals_get h3, if_pos h3]
    · by_cases h4 : k = m
      · subst h4
        rw [List.getElem?_append_left (by simp [vals_len]), List.getElem?_append_right (by rw [vals_len]; exact Nat.le_refl _), vals_len, Nat.sub_self, if_neg h3, if_pos rfl]
        rfl
      · rw [List.getElem?_append_right (by simp [vals_len]; omega), if_neg h3, if_neg h4]
        have e : k - (vals m (ds f i) ++ [Value.int .i64 (f i)]).length = k - m - 1 := by simp [vals_len]; omega
        rw [e, vals_get (by omega), show m + (k - m - 1) = k - 1 by omega]
  · rw [List.getElem?_eq_none (by simp [vals_len]; omega), List.getElem?_eq_none (by rw [vals_len]; omega)]
theorem step_if {c p q : Prop} [Decidable c] (hc : c) (h : p) : if c then p else q := by rw [if_pos hc]; exact h
theorem own_mono {w : World} {B B' n : Nat} {v : Value} {xs : List Value} (h : w.ownsRow B 3 1 v n xs) (hb : B' ≤ B) : w.ownsRow B' 3 1 v n xs :=
  ⟨h.1, h.2.imp id fun ⟨g, cap, cur, he, hb', hr⟩ => ⟨g, cap, cur, he, Nat.le_trans hb hb', hr⟩⟩
theorem own_cap {w : World} {B g n c : Nat} {xs : List Value} (h : w.ownsRow B 3 1 (.slice (some ⟨g, 0, none⟩) n c) n xs) : n ≤ c := by
  have h2 := h.2
  rcases h2 with ⟨he, _⟩ | ⟨g', cap, cur, he, hb, hg, hc, _⟩
  · cases he
  · cases he
    exact hc
theorem addr_off (b m j : Nat) : (⟨b, m, none⟩ : Addr).add j = ⟨b, m + j, none⟩ := by unfold Addr.add; split <;> simp_all
theorem info_int : (Try.prog.info? 3).map (fun i => (i.zero, i.size, i.bytes)) = some (some (.int .i64 0), 1, 8) := by kernel_rfl
theorem vals_in {n : Nat} {f : Nat → Int} {t : Nat} {u : Value} (h : (vals n f)[t]? = some u) : t < n ∧ u = .int .i64 (f t) := by
  have hlt : t < n := by rw [← vals_len n f]; exact (List.getElem?_eq_some_iff.1 h).1
  rw [vals_get hlt] at h
  injection h with h
  exact ⟨hlt, h.symm⟩

set_option maxHeartbeats 4000000 in
theorem l1Own_any (g n c : Nat) (f : Nat → Int) (w : World) (hg : g < w.heap.size) (hc : ∀ k, k < n → w.cell? ⟨g, k, none⟩ = some (.int .i64 (f k))) (hn : n ≤ 1000) :
    Calls Try.prog 115 #[.slice (some ⟨g, 0, none⟩) n c] w fun e w' => ∃ g' c', e = .returned (.slice (some ⟨g', 0, none⟩) n c') ∧ w'.ownsRow w.heap.size 3 1 (.slice (some ⟨g', 0, none⟩) n c') n (vals n f) ∧ Below w.heap.size w w' := by
  have Hc := Lib.hid hc; clear hc
  obtain ⟨i0, hi, hz0, hz1, hz2⟩ := info_parts info_int
  have Hi := Lib.hid (And.intro hi (And.intro hz0 (And.intro hz1 hz2)))
  clear hi hz0 hz1 hz2
  have hB := na (n0 w) (.cells #[] 3)
  have hO0 : (w.alloc (.cells #[] 3)).ownsRow w.heap.size 3 1 (.slice (some ⟨w.heap.size, 0, none⟩) 0 0) 0 [] := World.ownsRow_made w #[] 0 (Nat.le_refl _) (by decide) rfl
  go_enter Try.func115, Try.ntmps115
  go_wp2_with (at_builtin; refine wpList_append_own _ rfl _ _ 70 rfl w.heap.size 3 i0 (.int .i64 0) 1 8 Try.underlying70 Hi.out.1 Hi.out.2.1 Hi.out.2.2.1 Hi.out.2.2.2 rfl (by decide) _ _ _ rfl hO0 ⟨g, 0, none⟩ n c (vals n f) rfl (by rw [vals_len]; omega) ?c1 ?c2 ?c3 ?c4 ?c5 ?_)
  case c1 =>
    intro t u ht
    obtain ⟨hlt, rfl⟩ := vals_in ht
    rw [addr_add]
    exact ((Below.refl w.heap.size w).alloc (Nat.le_refl _) _ |>.cell (p := ⟨g, t, none⟩) hg).trans (Hc.out t hlt)
  case c2 => exact vals_one n f
  case c3 => unfold maxLen; omega
  case c4 => omega
  case c5 => first | (simp; omega) | simp
  · intro v' w4 hO4 hg4 hv4
    have hB4 := hB.grown hg4 (by rw [size_alloc]; omega) (fun t e => (hO0.lt t e).1)
    obtain ⟨g', c', rfl, _, _⟩ := own_form hO4 hv4
    go_wp2_with fail
    go_ret
    exact ⟨_, _, rfl, hO4, hB4⟩

set_option maxRecDepth 100000 in
set_option maxHeartbeats 8000000 in
theorem l4Places_any (g n c : Nat) (f : Nat → Int) (w : World) (h : At w g n f) (h4 : n ≤ 4) :
    Calls Try.prog 102 #[.slice (some ⟨g, 0, none⟩) n c] w fun e w' => ∃ b c', e = .returned (.slice (some ⟨b, 0, none⟩) n c') ∧ w.heap.size ≤ b ∧ At w' b n (ds f n) ∧ Below w.heap.size w w' := by
  have hgl := h.lt
  have H := Lib.hid h; clear h
  obtain ⟨i0, hi0, hz0, hz1, hz2⟩ := info_parts info_int
  have Hi := Lib.hid (And.intro hi0 (And.intro hz0 (And.intro hz1 hz2)))
  clear hi0 hz0 hz1 hz2
  have Ho := Lib.hid (fun g n c f w hg hc hn => l1Own_any g n c f w hg hc hn)
  have hO0 : (w.alloc (.cells #[] 3)).ownsRow w.heap.size 3 1 (.slice (some ⟨w.heap.size, 0, none⟩) 0 0) 0 (vals 0 (ds f 0)) := World.ownsRow_made w #[] 0 (Nat.le_refl _) (by decide) rfl
  have hB0 := na (n0 w) (.cells #[] 3)
  go_enter Try.func102, Try.ntmps102
  go_wp2_with fail
  go_loopw [3, 4] (fun ov iv wr => ∃ i b cap : Nat, i ≤ n ∧ iv = .int .i64 i ∧ ov = .slice (some ⟨b, 0, none⟩) i cap ∧ i ≤ cap ∧ w.heap.size ≤ b ∧ At wr b i (ds f i) ∧ Below w.heap.size w wr) (fun _ iv _ => n - (intOf iv).toNat)
  case atStart => exact ⟨0, w.heap.size, 0, by omega, rfl, rfl, by omega, Nat.le_refl _, At.of_own hO0, hB0⟩
  case round =>
    clear hO0 hB0
    obtain ⟨i, b, cap, hi, rfl, rfl, hcap, hbw, hA, hB⟩ := hrel
    by_cases hlt : i < n
    · obtain ⟨W0, rfl⟩ : ∃ W0, W0 = wr := ⟨wr, rfl⟩
      have hit : decide ((i : Int) < (n : Int)) = true := decide_eq_true (by omega)
      have cf := (hB.cell (p := ⟨g, i, none⟩) hgl).trans (H.out.cell i hlt)
      go_wp2_with fail
      go_loopw [5] (fun nv wx => ∃ m : Nat, m ≤ i ∧ nv = .int .i64 m ∧ Hid (∀ j, m ≤ j → j < i → ds f i j < f i) ∧ At wx b i (ds f i) ∧ Below W0.heap.size W0 wx) (fun nv _ => (intOf nv).toNat)
      case atStart => exact ⟨i, Nat.le_refl _, rfl, fun j h1 h2 => by omega, hA, n0 _⟩
      case round =>
        have HA0 := Lib.hid hA; clear hA
        obtain ⟨m, hm, rfl, hrest, hA, hU⟩ := hrel
        have hBx := hB.trans (hU.mono hB.size)
        have cf := (hBx.cell (p := ⟨g, i, none⟩) hgl).trans (H.out.cell i hlt)
        rcases m with _ | m
        · go_wp2_with fail
          go_region
          go_wp2_with fail
          have cf0 := (hB.cell (p := ⟨g, i, none⟩) hgl).trans (H.out.cell i hlt)
          have hgW : g < W0.heap.size := Nat.lt_of_lt_of_le hgl hB.size
          have Hcf := Lib.hid cf0
          clear cf0
          have hins1 : ∀ j, j < 0 → f i ≤ ds f i j := fun j hj => by omega
          have hins2 : 0 < i → ds f i 0 ≤ f i := fun h => Int.le_of_lt (hrest.out 0 (by omega) h)
          have Hins1 := Lib.hid hins1; clear hins1
          have Hins2 := Lib.hid hins2; clear hins2
          refine wp_region_any (by kernel_rfl) ?_
          change wpAny _ _ _ _ _ _ _ (World.drew _)
          refine wpAny_take (i := 0) (v := (.slice (some ⟨b, 0, none⟩) i cap)) rfl (by kernel_rfl) (by kernel_rfl) (by kernel_rfl) (fun _ _ _ h => h) (Or.inl ⟨by rfl, by intro w; go_simp⟩) ?_
          refine wpAny_take (i := 1) (v := (.int .i64 (0 : Nat))) rfl (by kernel_rfl) (by kernel_rfl) (by kernel_rfl) (fun _ _ _ h => h) (Or.inl ⟨by rfl, by intro w; go_simp⟩) ?_
          refine wpAny_take (i := 2) (v := (.slice (some ⟨b, 0, none⟩) 0 cap)) rfl (by kernel_rfl) (by kernel_rfl) (by kernel_rfl) (fun _ _ _ h => h) (Or.inl ⟨by rfl, by intro w; go_simp⟩) ?_
          refine wpAny_take (i := 4) (v := (.slice (some ⟨g, 0, none⟩) n c)) rfl (by kernel_rfl) (by kernel_rfl) (by kernel_rfl) (fun _ _ _ h => h) (Or.inl ⟨by rfl, by intro w; go_simp⟩) ?_
          refine wpAny_take (i := 5) (v := (.int .i64 (i : Int))) rfl (by kernel_rfl) (by kernel_rfl) (by kernel_rfl) (fun _ _ _ h => h) (Or.inl ⟨by rfl, by intro w; go_simp⟩) ?_
          refine wpAny_take (i := 6) (v := (.pointer (some ⟨g, i, none⟩))) rfl (by kernel_rfl) (by kernel_rfl) (by kernel_rfl) (fun _ _ _ h => h) (Or.inl ⟨by rfl, by intro w; go_simp⟩) ?_
          refine wpAny_take (i := 10) (v := (.slice (some ⟨b, 0, none⟩) i cap)) rfl (by kernel_rfl) (by kernel_rfl) (by kernel_rfl) (fun _ _ _ h => h) (Or.inl ⟨by rfl, by intro w; go_simp⟩) ?_
          refine wpAny_take (i := 11) (v := (.int .i64 (0 : Nat))) rfl (by kernel_rfl) (by kernel_rfl) (by kernel_rfl) (fun _ _ _ h => h) (Or.inl ⟨by rfl, by intro w; go_simp⟩) ?_
          refine wpAny_take (i := 12) (v := (.slice (some ⟨b, 0, none⟩) i cap)) rfl (by kernel_rfl) (by kernel_rfl) (by kernel_rfl) (fun _ _ _ h => h) (Or.inl ⟨by rfl, by intro w; go_simp⟩) ?_
          refine wpAny_ready (rs := [3, 7]) (by kernel_rfl) (by simp) ?_
          refine AllReady.cons rfl (fun K hK => ?_) ?_
          · go_simp
            refine (Ho.out b 0 cap (ds f i) _ ?_ ?_ ?_).mono ?_
            case _ => exact hA.drew.drew.lt
            case _ => exact fun k hk => hA.drew.drew.cell k (by omega)
            case _ => omega
            rintro e w5 ⟨g5, c5, rfl, hO5, hb5⟩
            have hB5 : Below W0.heap.size W0 w5 := nx (hU.drew.drew) hb5
            have cf5 := (hB5.cell (p := ⟨g, i, none⟩) hgW).trans Hcf.out
            have hO5' := own_mono hO5 (Below.size (hU.drew.drew))
            go_simp
            refine hK _ _ ?_
            clear hK K
            refine wpAny_ready (rs := [7]) (by kernel_rfl) (by simp) ?_
            refine AllReady.cons rfl (fun K hK => ?_) ?_
            · go_simp
              refine hK _ _ ?_
              clear hK K
              refine wpAny_ready (rs := [8]) (by kernel_rfl) (by simp) ?_
              refine AllReady.cons rfl (fun K hK => ?_) ?_
              · go_simp
                refine hK _ _ ?_
                clear hK K
                refine wpAny_ready (rs := [9]) (by kernel_rfl) (by simp) ?_
                refine AllReady.cons rfl (fun K hK => ?_) ?_
                · refine step_if (by rfl) ?_
                  have hOt := hO5'.alloc (.cells #[.int .i64 (f i)] 3)
                  have hBt := na hB5 (.cells #[.int .i64 (f i)] 3)
                  refine wp_append_own _ _ _ 70 rfl W0.heap.size 3 i0 (.int .i64 0) 1 8 Try.underlying70 Hi.out.1 Hi.out.2.1 Hi.out.2.2.1 Hi.out.2.2.2 rfl (by decide) _ _ _ rfl hOt ⟨w5.heap.size, 0, none⟩ 1 1 [.int .i64 (f i)] rfl rfl ?c1 ?c2 ?c3 ?c4 ?c5 ?_
                  case c1 =>
                    intro t u ht
                    match t, ht with
                    | 0, ht =>
                      simp at ht
                      subst ht
                      rw [addr_add]
                      exact World.cell?_alloc_at _ _ _ _ rfl
                  case c2 => intro u hu; simp at hu; subst hu; rfl
                  case c3 => unfold maxLen; omega
                  case c4 => omega
                  case c5 => exact hBt.size
                  intro v9 w9 hO9 hg9 hv9
                  have hB9 := hBt.grown hg9 hBt.size (fun t e => (hOt.lt t e).1)
                  clear hOt hBt hg9
                  refine hK _ _ ?_
                  clear hK K
                  refine wpAny_ready (rs := [13]) (by kernel_rfl) (by simp) ?_
                  refine AllReady.cons rfl (fun K hK => ?_) ?_
                  · refine step_if (by rfl) ?_
                    refine wp_append_own _ _ _ 70 rfl W0.heap.size 3 i0 (.int .i64 0) 1 8 Try.underlying70 Hi.out.1 Hi.out.2.1 Hi.out.2.2.1 Hi.out.2.2.2 rfl (by decide) _ _ _ rfl hO9 ⟨b, 0, none⟩ (i - 0) (cap - 0) (vals (i - 0) fun t => ds f i (0 + t)) rfl (by rw [vals_len]; omega) ?d1 ?d2 ?d3 ?d4 ?d5 ?_
                    case d1 =>
                      intro t u ht
                      obtain ⟨hlt2, rfl⟩ := vals_in ht
                      rw [addr_off]
                      exact (HA0.out.up hB9).cell _ (by omega)
                    case d2 => exact vals_one _ _
                    case d3 => unfold maxLen; omega
                    case d4 => omega
                    case d5 => exact hB9.size
                    intro v13 w13 hO13 hg13 hv13
                    have hB13 := hB9.grown hg13 hB9.size (fun t e => (hO9.lt t e).1)
                    clear hO9 hg13
                    refine hK _ _ ?_
                    clear hK K
                    refine wpAny_ready (rs := [14]) (by kernel_rfl) (by simp) ?_
                    refine AllReady.cons rfl (fun K hK => ?_) ?_
                    · go_simp
                      refine hK _ _ ?_
                      clear hK K
                      refine wpAny_done (by kernel_rfl) ?_ _
                      rw [vals_insert (by omega) Hins1.out Hins2.out] at hO13
                      have hnn : ¬ v13 = .slice none 0 0 := fun e => by
                        have e9 := (hv13.1 e).1
                        have := (hv9.1 e9).1
                        cases this
                      have hsz : 0 + 1 + (i - 0) = i + 1 := by omega
                      rw [hsz] at hO13
                      obtain ⟨g13, c13, rfl, hg13, _⟩ := own_form hO13 hnn
                      have hc13 := own_cap hO13
                      have hA13 := At.of_own hO13
                      go_wp2_with fail
                      go_roundw
                      case rel => exact ⟨i + 1, g13, c13, by omega, by go_num, rfl, hc13, Nat.le_trans hB.size hg13, hA13, hB.trans (hB13.mono hB.size)⟩
                      case measure => simp [intOf]; omega
                    exact AllReady.nil
                  exact AllReady.nil
                exact AllReady.nil
              exact AllReady.nil
            exact AllReady.nil
          refine AllReady.cons rfl (fun K hK => ?_) ?_
          · go_simp
            refine hK _ _ ?_
            clear hK K
            refine wpAny_ready (rs := [3, 8]) (by kernel_rfl) (by simp) ?_
            refine AllReady.cons rfl (fun K hK => ?_) ?_
            · go_simp
              refine (Ho.out b 0 cap (ds f i) _ ?_ ?_ ?_).mono ?_
              case _ => exact hA.drew.drew.lt
              case _ => exact fun k hk => hA.drew.drew.cell k (by omega)
              case _ => omega
              rintro e w5 ⟨g5, c5, rfl, hO5, hb5⟩
              have hB5 : Below W0.heap.size W0 w5 := nx (hU.drew.drew) hb5
              have cf5 := (hB5.cell (p := ⟨g, i, none⟩) hgW).trans Hcf.out
              have hO5' := own_mono hO5 (Below.size (hU.drew.drew))
              go_simp
              refine hK _ _ ?_
              clear hK K
              refine wpAny_ready (rs := [8]) (by kernel_rfl) (by simp) ?_
              refine AllReady.cons rfl (fun K hK => ?_) ?_
              · go_simp
                refine hK _ _ ?_
                clear hK K
                refine wpAny_ready (rs := [9]) (by kernel_rfl) (by simp) ?_
                refine AllReady.cons rfl (fun K hK => ?_) ?_
                · refine step_if (by rfl) ?_
                  have hOt := hO5'.alloc (.cells #[.int .i64 (f i)] 3)
                  have hBt := na hB5 (.cells #[.int .i64 (f i)] 3)
                  refine wp_append_own _ _ _ 70 rfl W0.heap.size 3 i0 (.int .i64 0) 1 8 Try.underlying70 Hi.out.1 Hi.out.2.1 Hi.out.2.2.1 Hi.out.2.2.2 rfl (by decide) _ _ _ rfl hOt ⟨w5.heap.size, 0, none⟩ 1 1 [.int .i64 (f i)] rfl rfl ?c1 ?c2 ?c3 ?c4 ?c5 ?_
                  case c1 =>
                    intro t u ht
                    match t, ht with
                    | 0, ht =>
                      simp at ht
                      subst ht
                      rw [addr_add]
                      exact World.cell?_alloc_at _ _ _ _ rfl
                  case c2 => intro u hu; simp at hu; subst hu; rfl
                  case c3 => unfold maxLen; omega
                  case c4 => omega
                  case c5 => exact hBt.size
                  intro v9 w9 hO9 hg9 hv9
                  have hB9 := hBt.grown hg9 hBt.size (fun t e => (hOt.lt t e).1)
                  clear hOt hBt hg9
                  refine hK _ _ ?_
                  clear hK K
                  refine wpAny_ready (rs := [13]) (by kernel_rfl) (by simp) ?_
                  refine AllReady.cons rfl (fun K hK => ?_) ?_
                  · refine step_if (by rfl) ?_
                    refine wp_append_own _ _ _ 70 rfl W0.heap.size 3 i0 (.int .i64 0) 1 8 Try.underlying70 Hi.out.1 Hi.out.2.1 Hi.out.2.2.1 Hi.out.2.2.2 rfl (by decide) _ _ _ rfl hO9 ⟨b, 0, none⟩ (i - 0) (cap - 0) (vals (i - 0) fun t => ds f i (0 + t)) rfl (by rw [vals_len]; omega) ?d1 ?d2 ?d3 ?d4 ?d5 ?_
                    case d1 =>
                      intro t u ht
                      obtain ⟨hlt2, rfl⟩ := vals_in ht
                      rw [addr_off]
                      exact (HA0.out.up hB9).cell _ (by omega)
                    case d2 => exact vals_one _ _
                    case d3 => unfold maxLen; omega
                    case d4 => omega
                    case d5 => exact hB9.size
                    intro v13 w13 hO13 hg13 hv13
                    have hB13 := hB9.grown hg13 hB9.size (fun t e => (hO9.lt t e).1)
                    clear hO9 hg13
                    refine hK _ _ ?_
                    clear hK K
                    refine wpAny_ready (rs := [14]) (by kernel_rfl) (by simp) ?_
                    refine AllReady.cons rfl (fun K hK => ?_) ?_
                    · go_simp
                      refine hK _ _ ?_
                      clear hK K
                      refine wpAny_done (by kernel_rfl) ?_ _
                      rw [vals_insert (by omega) Hins1.out Hins2.out] at hO13
                      have hnn : ¬ v13 = .slice none 0 0 := fun e => by
                        have e9 := (hv13.1 e).1
                        have := (hv9.1 e9).1
                        cases this
                      have hsz : 0 + 1 + (i - 0) = i + 1 := by omega
                      rw [hsz] at hO13
                      obtain ⟨g13, c13, rfl, hg13, _⟩ := own_form hO13 hnn
                      have hc13 := own_cap hO13
                      have hA13 := At.of_own hO13
                      go_wp2_with fail
                      go_roundw
                      case rel => exact ⟨i + 1, g13, c13, by omega, by go_num, rfl, hc13, Nat.le_trans hB.size hg13, hA13, hB.trans (hB13.mono hB.size)⟩
                      case measure => simp [intOf]; omega
                    exact AllReady.nil
                  exact AllReady.nil
                exact AllReady.nil
              exact AllReady.nil
            refine AllReady.cons rfl (fun K hK => ?_) ?_
            · go_simp
              refine hK _ _ ?_
              clear hK K
              refine wpAny_ready (rs := [3]) (by kernel_rfl) (by simp) ?_
              refine AllReady.cons rfl (fun K hK => ?_) ?_
              · go_simp
                refine (Ho.out b 0 cap (ds f i) _ ?_ ?_ ?_).mono ?_
                case _ => exact (hA.drew.drew.past _).lt
                case _ => exact fun k hk => (hA.drew.drew.past _).cell k (by omega)
                case _ => omega
                rintro e w5 ⟨g5, c5, rfl, hO5, hb5⟩
                have hB5 : Below W0.heap.size W0 w5 := nx (na hU.drew.drew _) hb5
                have cf5 := (hB5.cell (p := ⟨g, i, none⟩) hgW).trans Hcf.out
                have hO5' := own_mono hO5 (Below.size (na hU.drew.drew _))
                have cq5 := (hb5.cell (p := ⟨wr.heap.size, 0, none⟩) (show wr.heap.size < (wr.alloc (.cells #[.int .i64 (f i)] 3)).heap.size by rw [size_alloc]; exact Nat.lt_succ_self _)).trans (show World.cell? (wr.alloc (.cells #[.int .i64 (f i)] 3)) _ = some (.int .i64 (f i)) from World.cell?_alloc_at _ _ _ _ rfl)
                go_simp
                refine hK _ _ ?_
                clear hK K
                refine wpAny_ready (rs := [9]) (by kernel_rfl) (by simp) ?_
                refine AllReady.cons rfl (fun K hK => ?_) ?_
                · refine step_if (by rfl) ?_
                  have hOt := hO5'
                  have hBt := hB5
                  refine wp_append_own _ _ _ 70 rfl W0.heap.size 3 i0 (.int .i64 0) 1 8 Try.underlying70 Hi.out.1 Hi.out.2.1 Hi.out.2.2.1 Hi.out.2.2.2 rfl (by decide) _ _ _ rfl hOt ⟨wr.heap.size, 0, none⟩ 1 1 [.int .i64 (f i)] rfl rfl ?c1 ?c2 ?c3 ?c4 ?c5 ?_
                  case c1 =>
                    intro t u ht
                    match t, ht with
                    | 0, ht =>
                      simp at ht
                      subst ht
                      rw [addr_add]
                      exact cq5
                  case c2 => intro u hu; simp at hu; subst hu; rfl
                  case c3 => unfold maxLen; omega
                  case c4 => omega
                  case c5 => exact hBt.size
                  intro v9 w9 hO9 hg9 hv9
                  have hB9 := hBt.grown hg9 hBt.size (fun t e => (hOt.lt t e).1)
                  clear hOt hBt hg9
                  refine hK _ _ ?_
                  clear hK K
                  refine wpAny_ready (rs := [13]) (by kernel_rfl) (by simp) ?_
                  refine AllReady.cons rfl (fun K hK => ?_) ?_
                  · refine step_if (by rfl) ?_
                    refine wp_append_own _ _ _ 70 rfl W0.heap.size 3 i0 (.int .i64 0) 1 8 Try.underlying70 Hi.out.1 Hi.out.2.1 Hi.out.2.2.1 Hi.out.2.2.2 rfl (by decide) _ _ _ rfl hO9 ⟨b, 0, none⟩ (i - 0) (cap - 0) (vals (i - 0) fun t => ds f i (0 + t)) rfl (by rw [vals_len]; omega) ?d1 ?d2 ?d3 ?d4 ?d5 ?_
                    case d1 =>
                      intro t u ht
                      obtain ⟨hlt2, rfl⟩ := vals_in ht
                      rw [addr_off]
                      exact (HA0.out.up hB9).cell _ (by omega)
                    case d2 => exact vals_one _ _
                    case d3 => unfold maxLen; omega
                    case d4 => omega
                    case d5 => exact hB9.size
                    intro v13 w13 hO13 hg13 hv13
                    have hB13 := hB9.grown hg13 hB9.size (fun t e => (hO9.lt t e).1)
                    clear hO9 hg13
                    refine hK _ _ ?_
                    clear hK K
                    refine wpAny_ready (rs := [14]) (by kernel_rfl) (by simp) ?_
                    refine AllReady.cons rfl (fun K hK => ?_) ?_
                    · go_simp
                      refine hK _ _ ?_
                      clear hK K
                      refine wpAny_done (by kernel_rfl) ?_ _
                      rw [vals_insert (by omega) Hins1.out Hins2.out] at hO13
                      have hnn : ¬ v13 = .slice none 0 0 := fun e => by
                        have e9 := (hv13.1 e).1
                        have := (hv9.1 e9).1
                        cases this
                      have hsz : 0 + 1 + (i - 0) = i + 1 := by omega
                      rw [hsz] at hO13
                      obtain ⟨g13, c13, rfl, hg13, _⟩ := own_form hO13 hnn
                      have hc13 := own_cap hO13
                      have hA13 := At.of_own hO13
                      go_wp2_with fail
                      go_roundw
                      case rel => exact ⟨i + 1, g13, c13, by omega, by go_num, rfl, hc13, Nat.le_trans hB.size hg13, hA13, hB.trans (hB13.mono hB.size)⟩
                      case measure => simp [intOf]; omega
                    exact AllReady.nil
                  exact AllReady.nil
                exact AllReady.nil
              exact AllReady.nil
            exact AllReady.nil
          exact AllReady.nil
        · have cm := hA.cell m (by omega)
          have hm1 : ((m + 1 : Nat) : Int) - 1 = (m : Int) := by omega
          by_cases hl : ds f i m < f i
          · have hld : decide (ds f i m < f i) = true := decide_eq_true hl
            have hr' : Hid (∀ j, m ≤ j → j < i → ds f i j < f i) := fun j h1 h2 => by
              by_cases hj : j = m
              · subst hj; exact hl
              · exact hrest.out j (by omega) h2
            go_wp2_with fail
            go_region
            go_wp2_with fail
            go_roundw
            case rel => exact ⟨m, by omega, by go_num, hr', hA.drew, hU.drew⟩
            case measure => simp [intOf]
          · have hld : decide (ds f i m < f i) = false := decide_eq_false hl
            go_wp2_with fail
            go_region
            go_wp2_with fail
            have cf0 := (hB.cell (p := ⟨g, i, none⟩) hgl).trans (H.out.cell i hlt)
            have hgW : g < W0.heap.size := Nat.lt_of_lt_of_le hgl hB.size
            have Hcf := Lib.hid cf0
            clear cf0
            obtain ⟨o, hadr, hoo⟩ : ∃ o, (if cap = m + 1 then some ⟨b, 0, none⟩ else some ⟨b, m + 1, none⟩ : Option Addr) = some ⟨b, o, none⟩ ∧ ∀ t, t < i - (m + 1) → o = m + 1 := by
              by_cases hce : cap = m + 1
              · exact ⟨0, if_pos hce, fun t ht => by omega⟩
              · exact ⟨m + 1, if_neg hce, fun _ _ => rfl⟩
            have Hoo := Lib.hid hoo; clear hoo
            have hx1 : (m : Int) + 1 ≤ (i : Int) := by omega
            have hx2 : (0 : Int) ≤ (m : Int) + 1 := by omega
            have hx3 : (m : Int) + 1 ≤ (cap : Int) := by omega
            have hins1 : ∀ j, j < m + 1 → f i ≤ ds f i j := fun j hj => by
              have := ds_le f (n := i) (i := j) (j := m) (by omega) (by omega)
              omega
            have hins2 : m + 1 < i → ds f i (m + 1) ≤ f i := fun h => Int.le_of_lt (hrest.out (m + 1) (by omega) h)
            have Hins1 := Lib.hid hins1; clear hins1
            have Hins2 := Lib.hid hins2; clear hins2
            refine wp_region_any (by kernel_rfl) ?_
            change wpAny _ _ _ _ _ _ _ (World.drew _)
            refine wpAny_take (i := 0) (v := (.slice (some ⟨b, 0, none⟩) i cap)) rfl (by kernel_rfl) (by kernel_rfl) (by kernel_rfl) (fun _ _ _ h => h) (Or.inl ⟨by rfl, by intro w; go_simp⟩) ?_
            refine wpAny_take (i := 1) (v := (.int .i64 ((m + 1) : Nat))) rfl (by kernel_rfl) (by kernel_rfl) (by kernel_rfl) (fun _ _ _ h => h) (Or.inl ⟨by rfl, by intro w; go_simp⟩) ?_
            refine wpAny_take (i := 2) (v := (.slice (some ⟨b, 0, none⟩) (m + 1) cap)) rfl (by kernel_rfl) (by kernel_rfl) (by kernel_rfl) (fun _ _ _ h => h) (Or.inl ⟨by rfl, by intro w; go_simp⟩) ?_
            refine wpAny_take (i := 4) (v := (.slice (some ⟨g, 0, none⟩) n c)) rfl (by kernel_rfl) (by kernel_rfl) (by kernel_rfl) (fun _ _ _ h => h) (Or.inl ⟨by rfl, by intro w; go_simp⟩) ?_
            refine wpAny_take (i := 5) (v := (.int .i64 (i : Int))) rfl (by kernel_rfl) (by kernel_rfl) (by kernel_rfl) (fun _ _ _ h => h) (Or.inl ⟨by rfl, by intro w; go_simp⟩) ?_
            refine wpAny_take (i := 6) (v := (.pointer (some ⟨g, i, none⟩))) rfl (by kernel_rfl) (by kernel_rfl) (by kernel_rfl) (fun _ _ _ h => h) (Or.inl ⟨by rfl, by intro w; go_simp⟩) ?_
            refine wpAny_take (i := 10) (v := (.slice (some ⟨b, 0, none⟩) i cap)) rfl (by kernel_rfl) (by kernel_rfl) (by kernel_rfl) (fun _ _ _ h => h) (Or.inl ⟨by rfl, by intro w; go_simp⟩) ?_
            refine wpAny_take (i := 11) (v := (.int .i64 ((m + 1) : Nat))) rfl (by kernel_rfl) (by kernel_rfl) (by kernel_rfl) (fun _ _ _ h => h) (Or.inl ⟨by rfl, by intro w; go_simp⟩) ?_
            refine wpAny_take (i := 12) (v := (.slice (some ⟨b, o, none⟩) (i - (m + 1)) (cap - (m + 1)))) rfl (by kernel_rfl) (by kernel_rfl) (by kernel_rfl) (fun _ _ _ h => h) (Or.inl ⟨by rfl, by intro w; go_simp⟩) ?_
            refine wpAny_ready (rs := [3, 7]) (by kernel_rfl) (by simp) ?_
            refine AllReady.cons rfl (fun K hK => ?_) ?_
            · go_simp
              refine (Ho.out b (m + 1) cap (ds f i) _ ?_ ?_ ?_).mono ?_
              case _ => exact hA.drew.drew.lt
              case _ => exact fun k hk => hA.drew.drew.cell k (by omega)
              case _ => omega
              rintro e w5 ⟨g5, c5, rfl, hO5, hb5⟩
              have hB5 : Below W0.heap.size W0 w5 := nx (hU.drew.drew) hb5
              have cf5 := (hB5.cell (p := ⟨g, i, none⟩) hgW).trans Hcf.out
              have hO5' := own_mono hO5 (Below.size (hU.drew.drew))
              go_simp
              refine hK _ _ ?_
              clear hK K
              refine wpAny_ready (rs := [7]) (by kernel_rfl) (by simp) ?_
              refine AllReady.cons rfl (fun K hK => ?_) ?_
              · go_simp
                refine hK _ _ ?_
                clear hK K
                refine wpAny_ready (rs := [8]) (by kernel_rfl) (by simp) ?_
                refine AllReady.cons rfl (fun K hK => ?_) ?_
                · go_simp
                  refine hK _ _ ?_
                  clear hK K
                  refine wpAny_ready (rs := [9]) (by kernel_rfl) (by simp) ?_
                  refine AllReady.cons rfl (fun K hK => ?_) ?_
                  · refine step_if (by rfl) ?_
                    have hOt := hO5'.alloc (.cells #[.int .i64 (f i)] 3)
                    have hBt := na hB5 (.cells #[.int .i64 (f i)] 3)
                    refine wp_append_own _ _ _ 70 rfl W0.heap.size 3 i0 (.int .i64 0) 1 8 Try.underlying70 Hi.out.1 Hi.out.2.1 Hi.out.2.2.1 Hi.out.2.2.2 rfl (by decide) _ _ _ rfl hOt ⟨w5.heap.size, 0, none⟩ 1 1 [.int .i64 (f i)] rfl rfl ?c1 ?c2 ?c3 ?c4 ?c5 ?_
                    case c1 =>
                      intro t u ht
                      match t, ht with
                      | 0, ht =>
                        simp at ht
                        subst ht
                        rw [addr_add]
                        exact World.cell?_alloc_at _ _ _ _ rfl
                    case c2 => intro u hu; simp at hu; subst hu; rfl
                    case c3 => unfold maxLen; omega
                    case c4 => omega
                    case c5 => exact hBt.size
                    intro v9 w9 hO9 hg9 hv9
                    have hB9 := hBt.grown hg9 hBt.size (fun t e => (hOt.lt t e).1)
                    clear hOt hBt hg9
                    refine hK _ _ ?_
                    clear hK K
                    refine wpAny_ready (rs := [13]) (by kernel_rfl) (by simp) ?_
                    refine AllReady.cons rfl (fun K hK => ?_) ?_
                    · refine step_if (by rfl) ?_
                      refine wp_append_own _ _ _ 70 rfl W0.heap.size 3 i0 (.int .i64 0) 1 8 Try.underlying70 Hi.out.1 Hi.out.2.1 Hi.out.2.2.1 Hi.out.2.2.2 rfl (by decide) _ _ _ rfl hO9 ⟨b, o, none⟩ (i - (m + 1)) (cap - (m + 1)) (vals (i - (m + 1)) fun t => ds f i ((m + 1) + t)) rfl (by rw [vals_len]; omega) ?d1 ?d2 ?d3 ?d4 ?d5 ?_
                      case d1 =>
                        intro t u ht
                        obtain ⟨hlt2, rfl⟩ := vals_in ht
                        rw [addr_off, Hoo.out t hlt2]
                        exact (HA0.out.up hB9).cell _ (by omega)
                      case d2 => exact vals_one _ _
                      case d3 => unfold maxLen; omega
                      case d4 => omega
                      case d5 => exact hB9.size
                      intro v13 w13 hO13 hg13 hv13
                      have hB13 := hB9.grown hg13 hB9.size (fun t e => (hO9.lt t e).1)
                      clear hO9 hg13
                      refine hK _ _ ?_
                      clear hK K
                      refine wpAny_ready (rs := [14]) (by kernel_rfl) (by simp) ?_
                      refine AllReady.cons rfl (fun K hK => ?_) ?_
                      · go_simp
                        refine hK _ _ ?_
                        clear hK K
                        refine wpAny_done (by kernel_rfl) ?_ _
                        rw [vals_insert (by omega) Hins1.out Hins2.out] at hO13
                        have hnn : ¬ v13 = .slice none 0 0 := fun e => by
                          have e9 := (hv13.1 e).1
                          have := (hv9.1 e9).1
                          cases this
                        have hsz : (m + 1) + 1 + (i - (m + 1)) = i + 1 := by omega
                        rw [hsz] at hO13
                        obtain ⟨g13, c13, rfl, hg13, _⟩ := own_form hO13 hnn
                        have hc13 := own_cap hO13
                        have hA13 := At.of_own hO13
                        go_wp2_with fail
                        go_roundw
                        case rel => exact ⟨i + 1, g13, c13, by omega, by go_num, rfl, hc13, Nat.le_trans hB.size hg13, hA13, hB.trans (hB13.mono hB.size)⟩
                        case measure => simp [intOf]; omega
                      exact AllReady.nil
                    exact AllReady.nil
                  exact AllReady.nil
                exact AllReady.nil
              exact AllReady.nil
            refine AllReady.cons rfl (fun K hK => ?_) ?_
            · go_simp
              refine hK _ _ ?_
              clear hK K
              refine wpAny_ready (rs := [3, 8]) (by kernel_rfl) (by simp) ?_
              refine AllReady.cons rfl (fun K hK => ?_) ?_
              · go_simp
                refine (Ho.out b (m + 1) cap (ds f i) _ ?_ ?_ ?_).mono ?_
                case _ => exact hA.drew.drew.lt
                case _ => exact fun k hk => hA.drew.drew.cell k (by omega)
                case _ => omega
                rintro e w5 ⟨g5, c5, rfl, hO5, hb5⟩
                have hB5 : Below W0.heap.size W0 w5 := nx (hU.drew.drew) hb5
                have cf5 := (hB5.cell (p := ⟨g, i, none⟩) hgW).trans Hcf.out
                have hO5' := own_mono hO5 (Below.size (hU.drew.drew))
                go_simp
                refine hK _ _ ?_
                clear hK K
                refine wpAny_ready (rs := [8]) (by kernel_rfl) (by simp) ?_
                refine AllReady.cons rfl (fun K hK => ?_) ?_
                · go_simp
                  refine hK _ _ ?_
                  clear hK K
                  refine wpAny_ready (rs := [9]) (by kernel_rfl) (by simp) ?_
                  refine AllReady.cons rfl (fun K hK => ?_) ?_
                  · refine step_if (by rfl) ?_
                    have hOt := hO5'.alloc (.cells #[.int .i64 (f i)] 3)
                    have hBt := na hB5 (.cells #[.int .i64 (f i)] 3)
                    refine wp_append_own _ _ _ 70 rfl W0.heap.size 3 i0 (.int .i64 0) 1 8 Try.underlying70 Hi.out.1 Hi.out.2.1 Hi.out.2.2.1 Hi.out.2.2.2 rfl (by decide) _ _ _ rfl hOt ⟨w5.heap.size, 0, none⟩ 1 1 [.int .i64 (f i)] rfl rfl ?c1 ?c2 ?c3 ?c4 ?c5 ?_
                    case c1 =>
                      intro t u ht
                      match t, ht with
                      | 0, ht =>
                        simp at ht
                        subst ht
                        rw [addr_add]
                        exact World.cell?_alloc_at _ _ _ _ rfl
                    case c2 => intro u hu; simp at hu; subst hu; rfl
                    case c3 => unfold maxLen; omega
                    case c4 => omega
                    case c5 => exact hBt.size
                    intro v9 w9 hO9 hg9 hv9
                    have hB9 := hBt.grown hg9 hBt.size (fun t e => (hOt.lt t e).1)
                    clear hOt hBt hg9
                    refine hK _ _ ?_
                    clear hK K
                    refine wpAny_ready (rs := [13]) (by kernel_rfl) (by simp) ?_
                    refine AllReady.cons rfl (fun K hK => ?_) ?_
                    · refine step_if (by rfl) ?_
                      refine wp_append_own _ _ _ 70 rfl W0.heap.size 3 i0 (.int .i64 0) 1 8 Try.underlying70 Hi.out.1 Hi.out.2.1 Hi.out.2.2.1 Hi.out.2.2.2 rfl (by decide) _ _ _ rfl hO9 ⟨b, o, none⟩ (i - (m + 1)) (cap - (m + 1)) (vals (i - (m + 1)) fun t => ds f i ((m + 1) + t)) rfl (by rw [vals_len]; omega) ?d1 ?d2 ?d3 ?d4 ?d5 ?_
                      case d1 =>
                        intro t u ht
                        obtain ⟨hlt2, rfl⟩ := vals_in ht
                        rw [addr_off, Hoo.out t hlt2]
                        exact (HA0.out.up hB9).cell _ (by omega)
                      case d2 => exact vals_one _ _
                      case d3 => unfold maxLen; omega
                      case d4 => omega
                      case d5 => exact hB9.size
                      intro v13 w13 hO13 hg13 hv13
                      have hB13 := hB9.grown hg13 hB9.size (fun t e => (hO9.lt t e).1)
                      clear hO9 hg13
                      refine hK _ _ ?_
                      clear hK K
                      refine wpAny_ready (rs := [14]) (by kernel_rfl) (by simp) ?_
                      refine AllReady.cons rfl (fun K hK => ?_) ?_
                      · go_simp
                        refine hK _ _ ?_
                        clear hK K
                        refine wpAny_done (by kernel_rfl) ?_ _
                        rw [vals_insert (by omega) Hins1.out Hins2.out] at hO13
                        have hnn : ¬ v13 = .slice none 0 0 := fun e => by
                          have e9 := (hv13.1 e).1
                          have := (hv9.1 e9).1
                          cases this
                        have hsz : (m + 1) + 1 + (i - (m + 1)) = i + 1 := by omega
                        rw [hsz] at hO13
                        obtain ⟨g13, c13, rfl, hg13, _⟩ := own_form hO13 hnn
                        have hc13 := own_cap hO13
                        have hA13 := At.of_own hO13
                        go_wp2_with fail
                        go_roundw
                        case rel => exact ⟨i + 1, g13, c13, by omega, by go_num, rfl, hc13, Nat.le_trans hB.size hg13, hA13, hB.trans (hB13.mono hB.size)⟩
                        case measure => simp [intOf]; omega
                      exact AllReady.nil
                    exact AllReady.nil
                  exact AllReady.nil
                exact AllReady.nil
              refine AllReady.cons rfl (fun K hK => ?_) ?_
              · go_simp
                refine hK _ _ ?_
                clear hK K
                refine wpAny_ready (rs := [3]) (by kernel_rfl) (by simp) ?_
                refine AllReady.cons rfl (fun K hK => ?_) ?_
                · go_simp
                  refine (Ho.out b (m + 1) cap (ds f i) _ ?_ ?_ ?_).mono ?_
                  case _ => exact (hA.drew.drew.past _).lt
                  case _ => exact fun k hk => (hA.drew.drew.past _).cell k (by omega)
                  case _ => omega
                  rintro e w5 ⟨g5, c5, rfl, hO5, hb5⟩
                  have hB5 : Below W0.heap.size W0 w5 := nx (na hU.drew.drew _) hb5
                  have cf5 := (hB5.cell (p := ⟨g, i, none⟩) hgW).trans Hcf.out
                  have hO5' := own_mono hO5 (Below.size (na hU.drew.drew _))
                  have cq5 := (hb5.cell (p := ⟨wr.heap.size, 0, none⟩) (show wr.heap.size < (wr.alloc (.cells #[.int .i64 (f i)] 3)).heap.size by rw [size_alloc]; exact Nat.lt_succ_self _)).trans (show World.cell? (wr.alloc (.cells #[.int .i64 (f i)] 3)) _ = some (.int .i64 (f i)) from World.cell?_alloc_at _ _ _ _ rfl)
                  go_simp
                  refine hK _ _ ?_
                  clear hK K
                  refine wpAny_ready (rs := [9]) (by kernel_rfl) (by simp) ?_
                  refine AllReady.cons rfl (fun K hK => ?_) ?_
                  · refine step_if (by rfl) ?_
                    have hOt := hO5'
                    have hBt := hB5
                    refine wp_append_own _ _ _ 70 rfl W0.heap.size 3 i0 (.int .i64 0) 1 8 Try.underlying70 Hi.out.1 Hi.out.2.1 Hi.out.2.2.1 Hi.out.2.2.2 rfl (by decide) _ _ _ rfl hOt ⟨wr.heap.size, 0, none⟩ 1 1 [.int .i64 (f i)] rfl rfl ?c1 ?c2 ?c3 ?c4 ?c5 ?_
                    case c1 =>
                      intro t u ht
                      match t, ht with
                      | 0, ht =>
                        simp at ht
                        subst ht
                        rw [addr_add]
                        exact cq5
                    case c2 => intro u hu; simp at hu; subst hu; rfl
                    case c3 => unfold maxLen; omega
                    case c4 => omega
                    case c5 => exact hBt.size
                    intro v9 w9 hO9 hg9 hv9
                    have hB9 := hBt.grown hg9 hBt.size (fun t e => (hOt.lt t e).1)
                    clear hOt hBt hg9
                    refine hK _ _ ?_
                    clear hK K
                    refine wpAny_ready (rs := [13]) (by kernel_rfl) (by simp) ?_
                    refine AllReady.cons rfl (fun K hK => ?_) ?_
                    · refine step_if (by rfl) ?_
                      refine wp_append_own _ _ _ 70 rfl W0.heap.size 3 i0 (.int .i64 0) 1 8 Try.underlying70 Hi.out.1 Hi.out.2.1 Hi.out.2.2.1 Hi.out.2.2.2 rfl (by decide) _ _ _ rfl hO9 ⟨b, o, none⟩ (i - (m + 1)) (cap - (m + 1)) (vals (i - (m + 1)) fun t => ds f i ((m + 1) + t)) rfl (by rw [vals_len]; omega) ?d1 ?d2 ?d3 ?d4 ?d5 ?_
                      case d1 =>
                        intro t u ht
                        obtain ⟨hlt2, rfl⟩ := vals_in ht
                        rw [addr_off, Hoo.out t hlt2]
                        exact (HA0.out.up hB9).cell _ (by omega)
                      case d2 => exact vals_one _ _
                      case d3 => unfold maxLen; omega
                      case d4 => omega
                      case d5 => exact hB9.size
                      intro v13 w13 hO13 hg13 hv13
                      have hB13 := hB9.grown hg13 hB9.size (fun t e => (hO9.lt t e).1)
                      clear hO9 hg13
                      refine hK _ _ ?_
                      clear hK K
                      refine wpAny_ready (rs := [14]) (by kernel_rfl) (by simp) ?_
                      refine AllReady.cons rfl (fun K hK => ?_) ?_
                      · go_simp
                        refine hK _ _ ?_
                        clear hK K
                        refine wpAny_done (by kernel_rfl) ?_ _
                        rw [vals_insert (by omega) Hins1.out Hins2.out] at hO13
                        have hnn : ¬ v13 = .slice none 0 0 := fun e => by
                          have e9 := (hv13.1 e).1
                          have := (hv9.1 e9).1
                          cases this
                        have hsz : (m + 1) + 1 + (i - (m + 1)) = i + 1 := by omega
                        rw [hsz] at hO13
                        obtain ⟨g13, c13, rfl, hg13, _⟩ := own_form hO13 hnn
                        have hc13 := own_cap hO13
                        have hA13 := At.of_own hO13
                        go_wp2_with fail
                        go_roundw
                        case rel => exact ⟨i + 1, g13, c13, by omega, by go_num, rfl, hc13, Nat.le_trans hB.size hg13, hA13, hB.trans (hB13.mono hB.size)⟩
                        case measure => simp [intOf]; omega
                      exact AllReady.nil
                    exact AllReady.nil
                  exact AllReady.nil
                exact AllReady.nil
              exact AllReady.nil
            exact AllReady.nil
    · obtain rfl : i = n := by omega
      go_wp2_with fail
      go_ret
      exact ⟨b, cap, rfl, hbw, hA, hB⟩


end PlS
end Go.Proofs.Ytbcaahaaaodhkaa
