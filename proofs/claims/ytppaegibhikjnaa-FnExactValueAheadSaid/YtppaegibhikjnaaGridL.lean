/-
  A list of lists of integers whose rows grow in place.
-/
import Derived.Test.YtppaegibhikjnaaRows
import Derived.Test.YtppaegibhikjnaaArr
import Derived.Test.YtppaegibhikjnaaAll6
import Derived.Test.YtppaegibhikjnaaOwnL
import Derived.Test.YtppaegibhikjnaaOpenD
import Derived.WalkKit
import Derived.Deep.WholeRow
import Derived.Deep.AppendLies
import Derived.WalkLawsBesides
import Derived.WalkSpells
import Derived.ProofKit
import Derived.OpenShut
import Derived.Deep.RegionWith
import Derived.Deep.QuietTactic
import Derived.BigQuiet
namespace Go.Proofs.Ytppaegibhikjnaa
open Go.ChangeShapes Go.WideShapes Go.ChangeAt Go.RowKit
open Go.ChangeMaps (open_string shut_string)

namespace GridL
open Dice Arr OwnL All6


/-- Block gw holds T rows; row N has ln N numbers, its own ones from block B on. -/
structure Grid (w : World) (B gw T : Nat) (ln : Nat → Nat) (F : Nat → Nat → Int) (v : Nat → Value) : Prop where
  lt : gw < w.heap.size
  low : gw < B
  cell : ∀ N, N < T → w.cell? ⟨gw, N, none⟩ = some (v N)
  free : ∀ N, w.frozen? ⟨gw, N, none⟩ = false
  row : ∀ N, N < T → w.ownsRow B 3 1 (v N) (ln N) (vals (ln N) (F N))
  apart : ∀ N, N < T → ∀ M, M < T → N ≠ M → (v N).ownBlock = none ∨ (v N).ownBlock ≠ (v M).ownBlock
theorem Grid.up {w w' : World} {B gw T : Nat} {ln : Nat → Nat} {F : Nat → Nat → Int} {v : Nat → Value} (h : Grid w B gw T ln F v) (hb : Below w.heap.size w w') : Grid w' B gw T ln F v :=
  ⟨Nat.lt_of_lt_of_le h.lt hb.size, h.low, fun N hN => (hb.cell (p := ⟨gw, N, none⟩) h.lt).trans (h.cell N hN), fun N => (hb.frozen (p := ⟨gw, N, none⟩) h.lt).trans (h.free N), fun N hN => own_up (h.row N hN) hb, h.apart⟩
theorem Grid.congr {w : World} {B gw T : Nat} {ln ln' : Nat → Nat} {F F' : Nat → Nat → Int} {v : Nat → Value} (h : Grid w B gw T ln F v) (hl : ∀ N, N < T → ln N = ln' N) (hF : ∀ N, N < T → ∀ k, k < ln N → F N k = F' N k) : Grid w B gw T ln' F' v :=
  ⟨h.lt, h.low, h.cell, h.free, fun N hN => by rw [← hl N hN, ← vals_congr (hF N hN)]; exact h.row N hN, h.apart⟩
theorem vals_grow {f : Nat → Int} {n : Nat} {x : Int} (h : f n = x) : vals n f ++ [.int .i64 x] = vals (n + 1) f := by rw [← h, vals_snoc]
theorem own_store {w : World} {B b j e size n : Nat} {u x : Value} {xs : List Value} (h : w.ownsRow B e size u n xs) (hb : b < B) : (w.setCell ⟨b, j, none⟩ x).ownsRow B e size u n xs :=
  h.kept (row := some b) ⟨rfl, rfl, rfl, by rw [World.size_setCell]; exact Nat.le_refl _, fun k _ hne => heap_setCell_other _ _ _ _ (fun e => hne (by rw [e]))⟩ (by
    rcases hv : u.ownBlock with _ | k
    · exact .inl rfl
    · right
      intro he
      injection he with he
      have := (h.lt k hv).1
      omega)
/-- Behind an append to a row the list itself is as it was. -/
theorem Grid.outer {w w2 : World} {B gw T m : Nat} {ln : Nat → Nat} {F : Nat → Nat → Int} {v : Nat → Value} {o : Obj} (h : Grid w B gw T ln F v) (hm : m < T) (hg : (w.alloc o).grownBy w2 (v m).ownBlock) :
    w2.cell? ⟨gw, m, none⟩ = some (v m) ∧ w2.frozen? ⟨gw, m, none⟩ = false := by
  have hlow := h.low
  have hlt1 : gw < (w.alloc o).heap.size := by rw [size_alloc]; have := h.lt; omega
  have hne : some gw ≠ (v m).ownBlock := fun e => by have := ((h.row m hm).lt gw e.symm).1; omega
  have h1 := (((n0 w).alloc (Nat.le_refl _) o).cell (p := ⟨gw, m, none⟩) h.lt).trans (h.cell m hm)
  have h2 := (((n0 w).alloc (Nat.le_refl _) o).frozen (p := ⟨gw, m, none⟩) h.lt).trans (h.free m)
  exact ⟨(World.cell?_of_block (w := w.alloc o) (hg.block gw hlt1 hne)).trans h1, (World.frozen?_of_block (w := w.alloc o) (hg.block gw hlt1 hne)).trans h2⟩
/-- One row grew by a number and was stored: the others are as they were. -/
theorem Grid.grow {w w2 : World} {B gw T m : Nat} {ln : Nat → Nat} {F : Nat → Nat → Int} {v : Nat → Value} {o : Obj} {g c l : Nat} (h : Grid w B gw T ln F v) (hm : m < T) (hl : ln m = l)
    (hg : (w.alloc o).grownBy w2 (v m).ownBlock) (ho : w2.ownsRow B 3 1 (.slice (some ⟨g, 0, none⟩) (l + 1) c) (l + 1) (vals (l + 1) (F m))) (hat : (v m).ownBlock = some g ∨ g = w.heap.size + 1) :
    Grid (w2.setCell ⟨gw, m, none⟩ (.slice (some ⟨g, 0, none⟩) (l + 1) c)) B gw T (fun N => if N = m then l + 1 else ln N) F (fun N => if N = m then .slice (some ⟨g, 0, none⟩) (l + 1) c else v N) := by
  subst hl
  have hlow := h.low
  have hlt1 : gw < (w.alloc o).heap.size := by rw [size_alloc]; have := h.lt; omega
  have hne : some gw ≠ (v m).ownBlock := fun e => by have := ((h.row m hm).lt gw e.symm).1; omega
  have hcell2 : ∀ N, N < T → w2.cell? ⟨gw, N, none⟩ = some (v N) := fun N hN => by
    have h1 := (((n0 w).alloc (Nat.le_refl _) o).cell (p := ⟨gw, N, none⟩) h.lt).trans (h.cell N hN)
    exact (World.cell?_of_block (w := w.alloc o) (hg.block gw hlt1 hne)).trans h1
  have hfree2 : ∀ N, w2.frozen? ⟨gw, N, none⟩ = false := fun N => by
    have h1 := (((n0 w).alloc (Nat.le_refl _) o).frozen (p := ⟨gw, N, none⟩) h.lt).trans (h.free N)
    exact (World.frozen?_of_block (w := w.alloc o) (hg.block gw hlt1 hne)).trans h1
  refine ⟨by rw [World.size_setCell]; exact Nat.lt_of_lt_of_le hlt1 hg.size, hlow, fun N hN => ?_, fun N => by rw [World.frozen?_setCell]; exact hfree2 N, fun N hN => ?_, fun N hN M hM hNM => ?_⟩
  · by_cases hNm : N = m
    · subst hNm
      show _ = some (if N = N then _ else _)
      rw [if_pos rfl]
      exact World.cell?_setCell_same w2 _ _ (hcell2 N hN)
    · show _ = some (if N = m then _ else _)
      rw [if_neg hNm, World.cell?_setCell_other w2 ⟨gw, m, none⟩ ⟨gw, N, none⟩ _ (fun e => hNm (by cases e; rfl))]
      exact hcell2 N hN
  · show World.ownsRow _ B 3 1 (if N = m then _ else v N) (if N = m then _ else ln N) (vals (if N = m then _ else ln N) (F N))
    by_cases hNm : N = m
    · subst hNm
      simp only [if_pos]
      exact own_store ho hlow
    · simp only [if_neg hNm]
      exact own_store (((h.row N hN).alloc o).kept hg (h.apart N hN m hm hNm)) hlow
  · have hblk : ∀ k, k < T → k ≠ m → (v k).ownBlock = none ∨ (v k).ownBlock ≠ some g := fun k hk hkm => by
      rcases hat with e | e
      · rw [← e]
        exact h.apart k hk m hm hkm
      · rcases hv : (v k).ownBlock with _ | j
        · exact .inl rfl
        · right
          intro he
          injection he with he
          have := ((h.row k hk).lt j hv).2
          omega
    show (if N = m then _ else v N).ownBlock = none ∨ (if N = m then _ else v N).ownBlock ≠ (if M = m then _ else v M).ownBlock
    by_cases hNm : N = m
    · have hMm : M ≠ m := fun e => hNM (hNm.trans e.symm)
      rw [if_pos hNm, if_neg hMm]
      right
      intro he
      have he : some g = (v M).ownBlock := he
      rcases hblk M hM hMm with h0 | h0
      · rw [h0] at he
        cases he
      · exact h0 he.symm
    · rw [if_neg hNm]
      by_cases hMm : M = m
      · rw [if_pos hMm]
        exact hblk N hN hNm
      · rw [if_neg hMm]
        exact h.apart N hN M hM hNM
/-- A whole row, as an array. -/
theorem Grid.at_ {w : World} {B gw T : Nat} {ln : Nat → Nat} {F : Nat → Nat → Int} {v : Nat → Value} (h : Grid w B gw T ln F v) {N : Nat} (hN : N < T) (h1 : 1 ≤ ln N) : ∃ g c, v N = .slice (some ⟨g, 0, none⟩) (ln N) c ∧ B ≤ g ∧ At w g (ln N) (F N) := by
  have hr := h.row N hN
  obtain ⟨g, c, e, hb, _⟩ := own_form hr (fun e => by
    have := hr.1
    have h2 := hr.2
    rw [e] at h2
    rcases h2 with ⟨_, h0⟩ | ⟨g, cap, cur, he, _⟩
    · omega
    · cases he)
  refine ⟨g, c, e, hb, ?_⟩
  rw [e] at hr
  exact At.of_own hr
theorem info_slices : (Try.prog.info? 28).map (fun i => (i.zero, i.size, i.bytes)) = some (some (.slice none 0 0), 1, 24) := by kernel_rfl
theorem made_nils (n j : Nat) (h : j < n) : (madeCells (Value.slice none 0 0).cells n).toList[j]? = some (.slice none 0 0) := by
  have e2 : (madeCells (Value.slice none 0 0).cells n) = (Array.range n).map fun _ => Value.slice none 0 0 := by
    unfold madeCells
    congr 1
    funext k
    show (#[Value.slice none 0 0] : Array Value)[k % 1]! = _
    rw [Nat.mod_one]
    rfl
  rw [e2]
  simp [h]
/-- A list of empty lists that is made. -/
theorem make_grid (w : World) (n : Nat) (hn : n ≤ 1000) (F : Nat → Nat → Int) : ∃ w1, (Instr.makeSlice 78 (.int .i64 n) (.int .i64 n)).run Try.prog w = .ok (.slice (some ⟨w.heap.size, 0, none⟩) n n) w1 ∧ Grid w1 (w.heap.size + 1) w.heap.size n (fun _ => 0) F (fun _ => .slice none 0 0) ∧ Below w.heap.size w w1 ∧ w.heap.size + 1 ≤ w1.heap.size := by
  obtain ⟨i0, hi, hz0, hz1, hz2⟩ := info_parts info_slices
  obtain ⟨w1, hr, hown1, hg1⟩ := run_make_full (P := Try.prog) w w.heap.size 78 28 i0 _ 1 Try.underlying78 hi hz0 hz1 .i64 .i64 n (by rw [hz2]; omega) (by unfold maxLen; omega) (Nat.le_refl _)
  have hl := (hown1.lt _ rfl).2
  exact ⟨w1, hr, ⟨hl, Nat.lt_succ_self _, fun k hk => by rw [hown1.cellAt k (by omega)]; exact made_nils _ _ (by omega), fun k => hown1.frozenAt k, fun _ _ => World.ownsRow_nil _ _ _ _, fun _ _ _ _ _ => .inl rfl⟩, (Below.refl _ _).grown hg1 (Nat.le_refl _) (fun _ e => by cases e), hl⟩


end GridL
end Go.Proofs.Ytppaegibhikjnaa
