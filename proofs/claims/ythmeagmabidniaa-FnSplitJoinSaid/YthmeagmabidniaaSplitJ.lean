/-
  The contract of the project's own splitting, for every text up to the bound and every sign of one byte.
-/
import Derived.Test.YthmeagmabidniaaSplitI
namespace Go.Proofs.Ythmeagmabidniaa
open Go.RowKit Go.Shelf

attribute [local go_sem] Oper.semAt_some

namespace SplitJ
open Strs Split SplitW SplitI

theorem clone_plain (s : ByteArray) (w : World) (hs : s.size ≤ 1048576) :
    Calls Try.prog 28 #[.string s] w fun e w' => e = .returned (.string s) ∧ Below w.heap.size w w' := JoinW.clone_any s w hs

theorem size_mk (l : List UInt8) : (ByteArray.mk l.toArray).size = l.length := List.size_toArray
theorem own_em (v : Value) : v.ownBlock = none ∨ v.ownBlock ≠ none := Classical.em _
/-- What stands behind the copy of the text. -/
theorem after_clone {W w1 : World} {B base : Nat} {v : Value} {k : Nat} {xs : List Value} (hv : Boxed W B 26 v) (hrow : W.ownsRow base 9 1 v k xs) (hbc : Below W.drew.heap.size W.drew w1) :
    W.grownBy w1 none ∧ Boxed w1 B 26 v ∧ w1.ownsRow base 9 1 v k xs := by
  have hg : W.grownBy w1 none := ⟨hbc.os, hbc.tape, hbc.output, hbc.size, fun j hj _ => hbc.block j hj⟩
  exact ⟨hg, hv.kept hg (by simp), hrow.kept hg (own_em v)⟩
/-- .. and behind the append and the store. -/
theorem after_append {W w1 w2 : World} {B : Nat} {v v' : Value} {k m : Nat} {xs ys : List Value} {tmp : Obj} (hv : Boxed W B 26 v) (hrow : W.ownsRow (B + 1 + 1 + 1) 9 1 v k xs) (hbc : Below W.drew.heap.size W.drew w1) (hg1 : W.grownBy w1 none)
    (hv1 : Boxed w1 B 26 v) (hrow1 : w1.ownsRow (B + 1 + 1 + 1) 9 1 v k xs) (hown' : w2.ownsRow (B + 1 + 1 + 1) 9 1 v' m ys) (hgrow : (w1.alloc tmp).grownBy w2 v.ownBlock) (hW : B + 1 + 1 + 1 ≤ W.heap.size) :
    Boxed w2 B 26 v ∧ Boxed (w2.setCell ⟨B, 0, none⟩ v') B 26 v' ∧ (w2.setCell ⟨B, 0, none⟩ v').ownsRow (B + 1 + 1 + 1) 9 1 v' m ys ∧ KeepsOthers W (w2.setCell ⟨B, 0, none⟩ v') ∧
      Kp (B + 1) (B + 1 + 1) W (w2.setCell ⟨B, 0, none⟩ v') ∧ Below B W (w2.setCell ⟨B, 0, none⟩ v') := by
  have hz1 := hg1.size
  have hv2 : Boxed w2 B 26 v := (hv1.alloc tmp).kept hgrow (hv1.not_row (by decide) hrow1)
  have hblk : ∀ j, j < B + 1 + 1 + 1 → j ≠ B → (w2.setCell ⟨B, 0, none⟩ v').heap[j]? = W.heap[j]? := fun j hj hne => by
    rw [Below.heap_setCell _ _ _ j (by simpa using hne), hgrow.block j (by simp; omega) (fun e => by have := (hrow1.lt j e.symm).1; omega), Below.heap_alloc _ _ _ (by omega)]
    exact hbc.block j (by show j < W.heap.size; omega)
  refine ⟨hv2, hv2.set v', hown'.kept (grownBy_setCell' w2 B v') (.inr (hv2.not_row (by decide) hown').symm), ?_, ⟨hblk _ (by omega) (by omega), hblk _ (by omega) (by omega)⟩, ?_⟩
  · have h1 : KeepsOthers W w1 := ⟨hz1, fun j o hj _ => (hg1.block j (Array.getElem?_eq_some_iff.1 hj).1 (by simp)).trans hj⟩
    refine ((h1.trans (KeepsOthers.alloc w1 tmp)).trans (KeepsOthers.of_grownBy hgrow fun j o ej hj => ?_)).trans (KeepsOthers.setCell _ _ _)
    rcases (hrow1.alloc tmp).2 with ⟨rfl, _⟩ | ⟨g, cap, cur, rfl, _, hgb, _⟩
    · simp [Value.ownBlock] at ej
    · obtain rfl : g = j := by simpa [Value.ownBlock] using ej
      rw [hgb] at hj; cases hj; rfl
  · have h1 : Below B W w1 := ⟨hg1.os, hg1.tape, hg1.output, hz1, fun j hj => hg1.block j (by omega) (by simp)⟩
    refine ((h1.alloc (by omega) tmp).grown hgrow (by simp; omega) fun j ej => ?_).setCell (p := ⟨B, 0, none⟩) (Nat.le_refl _) v'
    have := (hrow1.lt j ej).1
    omega

set_option maxRecDepth 100000 in
set_option maxHeartbeats 2000000 in
theorem implSplit_main (s : ByteArray) (c : UInt8) (w : World) (hs : s.size ≤ 4000) :
    Calls Try.prog 10 #[.string s, .string ⟨#[c]⟩] w fun e W' => ∃ A cp, e = .returned (.tuple #[.slice A (parts c s.data.toList).length cp, .bool true]) ∧
      W'.ownsRow w.heap.size 9 1 (.slice A (parts c s.data.toList).length cp) (parts c s.data.toList).length ((parts c s.data.toList).map strV) ∧ Below w.heap.size w W' := by
  obtain ⟨i0, hi, hz0, hz1, hz2⟩ := info_parts info_str
  have e0 : decide ((4000 : Int) < (s.size : Int)) = false := decide_eq_false (by omega)
  refine (callsIn_wide (n := 9)).1 ?_
  refine callsIn_of_wp_marks Try.func10 rfl trivial ?_ rfl
  simp only [Try.ntmps10, List.size_toArray, List.length_cons, List.length_nil, Nat.reduceAdd, Nat.reduceSub, Array.replicate_succ, Array.replicate_zero, List.push_toArray, List.append_toArray, List.nil_append, List.cons_append]
  gi_wp2
  refine ⟨trivial, ?_⟩
  refine (partsOf_in Fence.wide _ trivial rfl s c.toNat _).mono ?_
  rintro e w' ⟨rfl, rfl⟩
  gi_wp2
  have bO := Boxed.new w 26 (.slice none 0 0)
  have hB0 : Below w.heap.size w (((w.alloc (.cells #[.slice none 0 0] 26)).alloc (.cells #[.string s] 9)).alloc (.cells #[.int .u8 c.toNat] 5)) := (((Below.refl _ w).alloc (Nat.le_refl _) _).alloc (by simp) _).alloc (by simp; omega) _
  have b1 := Boxed.new (w.alloc (.cells #[.slice none 0 0] 26)) 9 (.string s)
  rw [World.size_alloc] at b1
  have b2 := Boxed.new ((w.alloc (.cells #[.slice none 0 0] 26)).alloc (.cells #[.string s] 9)) 5 (.int .u8 c.toNat)
  rw [World.size_alloc, World.size_alloc] at b2
  refine wpIn_rangeFunc_ownG (F := Fence.wide) rfl (by omega) (gf := 37) (lb := #[.pointer (some ⟨w.heap.size + 1, 0, none⟩), .pointer (some ⟨w.heap.size + 1 + 1, 0, none⟩)]) rfl trivial (enters_of Try.func37 (by kernel_rfl) rfl)
    (parts_stops Fence.wide _ trivial rfl (by omega) (w.heap.size + 1) (w.heap.size + 1 + 1) s c (by omega) _ (by simp) (by simp) (b1.alloc _).cell b2.cell) ?kt ?kb (Below.refl _ _) (fun _ => rfl)
    (fun pre W => (∃ v, Boxed W w.heap.size 26 v ∧ W.ownsRow (w.heap.size + 1 + 1 + 1) 9 1 v (txs pre).length ((txs pre).map strV) ∧ True) ∧ Below w.heap.size w W ∧ w.heap.size + 1 + 1 + 1 ≤ W.heap.size)
    (fun _ _ _ => False)
    (OwnFrom.and (Own.from (holdsRow_own (w.heap.size + 1 + 1 + 1) w.heap.size 26 9 1 (fun pre : List Tx => (txs pre).length) (fun pre => (txs pre).map strV) (fun _ _ => True)) _) (OwnFrom.and (ownFrom_below (Nat.le_refl _) (by simp; omega)) (fun _ _ _ _ hs hg _ => Nat.le_trans hs hg.size)))
    (fun _ _ _ _ _ hs _ _ => hs)
    ⟨⟨_, (bO.alloc _).alloc _, World.ownsRow_nil _ _ _ _, trivial⟩, hB0, by simp⟩
    (fun x => { tmps := #[.string s, .string ⟨#[c]⟩, undef, undef, .slice none 0 0, .bool false, .pointer (some ⟨w.heap.size, 0, none⟩), .string ⟨x.1.toArray⟩, .string s, .int .i64 s.size, .bool false, .bool false, .string ⟨#[c]⟩, .int .i64 1, .bool false, .bool false, .string s, .string ⟨#[c]⟩, .int .u8 c.toNat,
      .func (.func 37) #[] #[.pointer (some ⟨w.heap.size + 1, 0, none⟩), .pointer (some ⟨w.heap.size + 1 + 1, 0, none⟩)], .string ⟨x.1.toArray⟩, undef, undef, undef, undef, undef, undef], defers := [] })
    ?assign ?body ?done ?stop
  case kt => exact fun h k => ⟨k.1.trans h.1, k.2.trans h.2⟩
  case kb => exact fun W l o o' hl _ _ _ => ⟨World.putObj_heap_other (by simp at hl; omega), World.putObj_heap_other (by simp at hl; omega)⟩
  case assign =>
    intro l x W K hK
    unfold strV
    gi_wp2
    exact hK
  case body =>
    rintro l pre x W ⟨⟨v, hv, hrow, _⟩, hB, hW3⟩ hlt
    have hc := hv.cell
    have hxs : (ByteArray.mk x.1.toArray).size ≤ 1048576 := by rw [size_mk]; exact x.2
    have hpl : (txs pre).length ≤ 1048577 := by
      rw [txs_len]
      have := parts_len c s.data.toList
      have h2 := sp_count c s.data.toList
      rw [size_data] at h2
      omega
    gi_wp2
    refine wpIn_region_any mixed ?_
    change wpAnyIn _ _ _ _ _ _ _ _ _ (World.drew _)
    refine wpAnyIn_ready (rs := [0, 1]) (by kernel_rfl) (by simp) ?_
    refine AllReadyIn.cons rfl (fun K hK => ?_) (AllReadyIn.cons rfl (fun K hK => ?_) AllReadyIn.nil)
    · go_simp
      refine hK _ _ ?_
      clear hK K
      refine wpAnyIn_ready (rs := [1]) (by kernel_rfl) (by simp) ?_
      refine AllReadyIn.cons rfl (fun K hK => ?_) AllReadyIn.nil
      go_simp
      refine hK _ _ ?_
      clear hK K
      refine wpAnyIn_ready (rs := [2]) (by kernel_rfl) (by simp) ?_
      refine AllReadyIn.cons rfl (fun K hK => ?_) AllReadyIn.nil
      go_simp
      refine ⟨trivial, ?_⟩
      refine (CallsIn.inRound l (callsIn_wide.2 (clone_plain ⟨x.1.toArray⟩ _ hxs))).mono ?_
      rintro e w1 ⟨rfl, hbc⟩
      obtain ⟨hg1, hv1, hrow1⟩ := after_clone hv hrow hbc
      have hc1 := hv1.cell
      have hc2 := (hv1.alloc (.cells #[.string ⟨x.1.toArray⟩] 9)).cell
      refine hK _ _ ?_
      clear hK K
      refine wpAnyIn_ready (rs := [3]) (by kernel_rfl) (by simp) ?_
      refine AllReadyIn.cons rfl (fun K hK => ?_) AllReadyIn.nil
      go_simp
      refine hK _ _ ?_
      clear hK K
      refine wpAnyIn_ready (rs := [4]) (by kernel_rfl) (by simp) ?_
      refine AllReadyIn.cons rfl (fun K hK => ?_) AllReadyIn.nil
      refine step_append_own_in rfl (.tmp 21) (.tmp 24) 26 rfl (w.heap.size + 1 + 1 + 1) 9 i0 (.string ByteArray.empty) 1 16 Try.underlying26 hi hz0 hz1 hz2 rfl (by decide) _ _ _ rfl (hrow1.alloc _) ⟨w1.heap.size, 0, none⟩ 1 1 [.string ⟨x.1.toArray⟩] rfl rfl (cell_new _ _ _) (str_one _) (by unfold maxLen; omega) (by omega) (by have := hbc.size; simp at this ⊢; omega) ?_
      intro v' w2 hown' hgrow
      obtain ⟨g', cap', rfl⟩ := ownsRow_succ hown'
      obtain ⟨hv2, hv3, hr3, hk3, hp3, hb3⟩ := after_append hv hrow hbc hg1 hv1 hrow1 hown' hgrow hW3
      have hc3 := hv2.cell
      have hf3 := hv2.frozen
      refine hK _ _ ?_
      clear hK K
      refine wpAnyIn_ready (rs := [5]) (by kernel_rfl) (by simp) ?_
      refine AllReadyIn.cons rfl (fun K hK => ?_) AllReadyIn.nil
      go_simp
      refine hK _ _ ?_
      clear hK K
      refine wpAnyIn_done (by kernel_rfl) ?_ _
      gi_wp2
      exact ⟨hk3.from _, hp3, ⟨⟨_, hv3, by rw [txs_snoc, List.length_append, List.map_append]; exact hr3, trivial⟩, hB.trans hb3, Nat.le_trans hW3 hk3.size⟩⟩
    · go_simp
      refine hK _ _ ?_
      clear hK K
      refine wpAnyIn_ready (rs := [0, 2]) (by kernel_rfl) (by simp) ?_
      refine AllReadyIn.cons rfl (fun K hK => ?_) (AllReadyIn.cons rfl (fun K hK => ?_) AllReadyIn.nil)
      · go_simp
        refine hK _ _ ?_
        clear hK K
        refine wpAnyIn_ready (rs := [2]) (by kernel_rfl) (by simp) ?_
        refine AllReadyIn.cons rfl (fun K hK => ?_) AllReadyIn.nil
        go_simp
        refine ⟨trivial, ?_⟩
        refine (CallsIn.inRound l (callsIn_wide.2 (clone_plain ⟨x.1.toArray⟩ _ hxs))).mono ?_
        rintro e w1 ⟨rfl, hbc⟩
        obtain ⟨hg1, hv1, hrow1⟩ := after_clone hv hrow hbc
        have hc1 := hv1.cell
        have hc2 := (hv1.alloc (.cells #[.string ⟨x.1.toArray⟩] 9)).cell
        refine hK _ _ ?_
        clear hK K
        refine wpAnyIn_ready (rs := [3]) (by kernel_rfl) (by simp) ?_
        refine AllReadyIn.cons rfl (fun K hK => ?_) AllReadyIn.nil
        go_simp
        refine hK _ _ ?_
        clear hK K
        refine wpAnyIn_ready (rs := [4]) (by kernel_rfl) (by simp) ?_
        refine AllReadyIn.cons rfl (fun K hK => ?_) AllReadyIn.nil
        refine step_append_own_in rfl (.tmp 21) (.tmp 24) 26 rfl (w.heap.size + 1 + 1 + 1) 9 i0 (.string ByteArray.empty) 1 16 Try.underlying26 hi hz0 hz1 hz2 rfl (by decide) _ _ _ rfl (hrow1.alloc _) ⟨w1.heap.size, 0, none⟩ 1 1 [.string ⟨x.1.toArray⟩] rfl rfl (cell_new _ _ _) (str_one _) (by unfold maxLen; omega) (by omega) (by have := hbc.size; simp at this ⊢; omega) ?_
        intro v' w2 hown' hgrow
        obtain ⟨g', cap', rfl⟩ := ownsRow_succ hown'
        obtain ⟨hv2, hv3, hr3, hk3, hp3, hb3⟩ := after_append hv hrow hbc hg1 hv1 hrow1 hown' hgrow hW3
        have hc3 := hv2.cell
        have hf3 := hv2.frozen
        refine hK _ _ ?_
        clear hK K
        refine wpAnyIn_ready (rs := [5]) (by kernel_rfl) (by simp) ?_
        refine AllReadyIn.cons rfl (fun K hK => ?_) AllReadyIn.nil
        go_simp
        refine hK _ _ ?_
        clear hK K
        refine wpAnyIn_done (by kernel_rfl) ?_ _
        gi_wp2
        exact ⟨hk3.from _, hp3, ⟨⟨_, hv3, by rw [txs_snoc, List.length_append, List.map_append]; exact hr3, trivial⟩, hB.trans hb3, Nat.le_trans hW3 hk3.size⟩⟩
      · go_simp
        refine ⟨trivial, ?_⟩
        refine (CallsIn.inRound l (callsIn_wide.2 (clone_plain ⟨x.1.toArray⟩ _ hxs))).mono ?_
        rintro e w1 ⟨rfl, hbc⟩
        obtain ⟨hg1, hv1, hrow1⟩ := after_clone hv hrow hbc
        have hc1 := hv1.cell
        have hc2 := (hv1.alloc (.cells #[.string ⟨x.1.toArray⟩] 9)).cell
        refine hK _ _ ?_
        clear hK K
        refine wpAnyIn_ready (rs := [0, 3]) (by kernel_rfl) (by simp) ?_
        refine AllReadyIn.cons rfl (fun K hK => ?_) (AllReadyIn.cons rfl (fun K hK => ?_) AllReadyIn.nil)
        · go_simp
          refine hK _ _ ?_
          clear hK K
          refine wpAnyIn_ready (rs := [3]) (by kernel_rfl) (by simp) ?_
          refine AllReadyIn.cons rfl (fun K hK => ?_) AllReadyIn.nil
          go_simp
          refine hK _ _ ?_
          clear hK K
          refine wpAnyIn_ready (rs := [4]) (by kernel_rfl) (by simp) ?_
          refine AllReadyIn.cons rfl (fun K hK => ?_) AllReadyIn.nil
          refine step_append_own_in rfl (.tmp 21) (.tmp 24) 26 rfl (w.heap.size + 1 + 1 + 1) 9 i0 (.string ByteArray.empty) 1 16 Try.underlying26 hi hz0 hz1 hz2 rfl (by decide) _ _ _ rfl (hrow1.alloc _) ⟨w1.heap.size, 0, none⟩ 1 1 [.string ⟨x.1.toArray⟩] rfl rfl (cell_new _ _ _) (str_one _) (by unfold maxLen; omega) (by omega) (by have := hbc.size; simp at this ⊢; omega) ?_
          intro v' w2 hown' hgrow
          obtain ⟨g', cap', rfl⟩ := ownsRow_succ hown'
          obtain ⟨hv2, hv3, hr3, hk3, hp3, hb3⟩ := after_append hv hrow hbc hg1 hv1 hrow1 hown' hgrow hW3
          have hc3 := hv2.cell
          have hf3 := hv2.frozen
          refine hK _ _ ?_
          clear hK K
          refine wpAnyIn_ready (rs := [5]) (by kernel_rfl) (by simp) ?_
          refine AllReadyIn.cons rfl (fun K hK => ?_) AllReadyIn.nil
          go_simp
          refine hK _ _ ?_
          clear hK K
          refine wpAnyIn_done (by kernel_rfl) ?_ _
          gi_wp2
          exact ⟨hk3.from _, hp3, ⟨⟨_, hv3, by rw [txs_snoc, List.length_append, List.map_append]; exact hr3, trivial⟩, hB.trans hb3, Nat.le_trans hW3 hk3.size⟩⟩
        · go_simp
          refine hK _ _ ?_
          clear hK K
          refine wpAnyIn_ready (rs := [0]) (by kernel_rfl) (by simp) ?_
          refine AllReadyIn.cons rfl (fun K hK => ?_) AllReadyIn.nil
          go_simp
          refine hK _ _ ?_
          clear hK K
          refine wpAnyIn_ready (rs := [4]) (by kernel_rfl) (by simp) ?_
          refine AllReadyIn.cons rfl (fun K hK => ?_) AllReadyIn.nil
          refine step_append_own_in rfl (.tmp 21) (.tmp 24) 26 rfl (w.heap.size + 1 + 1 + 1) 9 i0 (.string ByteArray.empty) 1 16 Try.underlying26 hi hz0 hz1 hz2 rfl (by decide) _ _ _ rfl (hrow1.alloc _) ⟨w1.heap.size, 0, none⟩ 1 1 [.string ⟨x.1.toArray⟩] rfl rfl (cell_new _ _ _) (str_one _) (by unfold maxLen; omega) (by omega) (by have := hbc.size; simp at this ⊢; omega) ?_
          intro v' w2 hown' hgrow
          obtain ⟨g', cap', rfl⟩ := ownsRow_succ hown'
          obtain ⟨hv2, hv3, hr3, hk3, hp3, hb3⟩ := after_append hv hrow hbc hg1 hv1 hrow1 hown' hgrow hW3
          have hc3 := hv2.cell
          have hf3 := hv2.frozen
          refine hK _ _ ?_
          clear hK K
          refine wpAnyIn_ready (rs := [5]) (by kernel_rfl) (by simp) ?_
          refine AllReadyIn.cons rfl (fun K hK => ?_) AllReadyIn.nil
          go_simp
          refine hK _ _ ?_
          clear hK K
          refine wpAnyIn_done (by kernel_rfl) ?_ _
          gi_wp2
          exact ⟨hk3.from _, hp3, ⟨⟨_, hv3, by rw [txs_snoc, List.length_append, List.map_append]; exact hr3, trivial⟩, hB.trans hb3, Nat.le_trans hW3 hk3.size⟩⟩
  case done =>
    rintro D ys W hD hys ⟨⟨v, hv, hrow, _⟩, hB, hW3⟩ hK
    rw [hys] at hrow
    have hrow' := hrow
    rw [parts_len] at hrow'
    obtain ⟨g, cap, rfl⟩ := ownsRow_succ hrow'
    have hrow2 : W.ownsRow w.heap.size 9 1 (.slice (some ⟨g, 0, none⟩) (parts c s.data.toList).length cap) (parts c s.data.toList).length ((parts c s.data.toList).map strV) := by
      rw [parts_len] at hrow ⊢
      rcases hrow with ⟨h1, h2⟩
      refine ⟨h1, ?_⟩
      rcases h2 with h2 | ⟨g0, cap0, cur, e, hb, rest⟩
      · exact Or.inl h2
      · exact Or.inr ⟨g0, cap0, cur, e, by omega, rest⟩
    have hc := hv.cell
    clear hrow hrow'
    gi_wp2
    refine ⟨by simp, .inl ⟨_, _, rfl, run_takeDeferred hK, ?_⟩⟩
    refine ⟨_, results_tmp2 rfl _ _ _, some ⟨g, 0, none⟩, cap, ?_, ownsRow_putObj hrow2 _ hK rfl, hB.trans (belowK_b (w := w) (Nat.le_refl _) W D _ _ (by simp at hD; omega) hK rfl rfl)⟩
    rw [parts_len]
    rfl
  case stop =>
    rintro D c' pre W _ _ h _
    exact h.elim

end SplitJ
end Go.Proofs.Ythmeagmabidniaa
