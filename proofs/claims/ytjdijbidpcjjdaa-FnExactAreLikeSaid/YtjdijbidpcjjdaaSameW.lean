/-
  Contracts of the functions that compare two tables.
-/
import Derived.Test.YtjdijbidpcjjdaaRows
import Derived.Test.YtjdijbidpcjjdaaQuietT
import Derived.Test.YtjdijbidpcjjdaaScaleW
import Derived.Test.YtjdijbidpcjjdaaTableSM
import Derived.Test.YtjdijbidpcjjdaaTableIM
import Derived.Test.YtjdijbidpcjjdaaTableWM
import Derived.Test.YtjdijbidpcjjdaaTableM
import Derived.Test.YtjdijbidpcjjdaaSumsM
import Derived.Test.YtjdijbidpcjjdaaDicesW
import Derived.Test.YtjdijbidpcjjdaaPoolW
import Derived.Test.YtjdijbidpcjjdaaAll6
import Derived.Test.YtjdijbidpcjjdaaSortW
import Derived.Test.YtjdijbidpcjjdaaOpenD
import Derived.WalkKit
import Derived.WalkLawsBesides
import Derived.WalkSpells
import Derived.ProofKit
import Derived.OpenShut
import Derived.Deep.RegionWith
import Derived.Deep.WholeRow
import Derived.Deep.QuietTactic
import Derived.BigQuiet
namespace Go.Proofs.Ytjdijbidpcjjdaa
open Go.ChangeShapes Go.WideShapes Go.ChangeAt Go.RowKit
open Go.ChangeMaps (open_string shut_string)

namespace SameW
open Dice Arr OpenD DieW SortW DicesW PoolW SumsW Table TableW TableI TableS All6 ScaleW QuietT


set_option maxRecDepth 100000 in
set_option maxHeartbeats 1000000 in
theorem implSame_yes (A B : Option Addr) (n m c c' : Nat) (P Q : Nat → Nat → Int) (w : World) (h : Row w A n P) (h' : Row w B m Q) (hn : n ≤ maxLen) (hm : m ≤ maxLen) (hq : isPool n P = true) (hr : isPool m Q = true) :
    Calls Try.prog 44 #[.slice A n c, .slice B m c'] w fun e w' => e = .returned (.tuple #[.bool (decide (agree (scaleTo (T P n) (all6 m) 121) (scaleTo (T Q m) (all6 n) 121) 121)), .bool true]) ∧ Below w.heap.size w w' := by
  have hp := fun w h => implTable_any A n c P w h hn
  have hp' := fun w h => implTable_any B m c' Q w h hm
  obtain ⟨_, h4, hd⟩ := of_pool hq
  obtain ⟨_, h4', hd'⟩ := of_pool hr
  rw [hq] at hp
  rw [hr] at hp'
  simp only [↓reduceIte] at hp hp'
  have Hp := Lib.hid hp; clear hp hq
  have Hp' := Lib.hid hp'; clear hp' hr
  have H := Lib.hid h; clear h
  have H' := Lib.hid h'; clear h'
  have Ho := Lib.hid (fun w => outcomes_any n w h4)
  have Ho' := Lib.hid (fun w => outcomes_any m w h4')
  have h6 := all6_le h4
  have h6' := all6_le h4'
  have Hs := Lib.hid (fun w => scaled_any (T P n) (all6 m) w (fun j hj => (tab_T h4 (die_range' hd) n (Nat.le_refl _)).small h4 j hj) h6'.1)
  have Hs' := Lib.hid (fun w => scaled_any (T Q m) (all6 n) w (fun j hj => (tab_T h4' (die_range' hd') m (Nat.le_refl _)).small h4' j hj) h6.1)
  clear h4 h4' hd hd' h6 h6' hn hm
  generalize T P n = f at *
  generalize T Q m = g at *
  generalize all6 n = N at *
  generalize all6 m = M at *
  go_enter Try.func44, Try.ntmps44
  go_wp2_with fail
  refine (Hp.out _ H.out).mono ?_
  rintro e w1 ⟨rfl, hb1⟩
  obtain ⟨w2, hst2, hA2, hB2, hK2⟩ := store_ex (fresh w1 (b := w1.heap.size) rfl) f
  have hbl2 : Below w.heap.size w w2 := (na hb1 _).trans (hB2 _ hb1.size)
  clear hB2 hK2
  have hvf := vals_len 121 f
  have hvg := vals_len 121 g
  go_wp2_with fail
  clear hst2
  generalize w1.heap.size = b1 at hA2 ⊢
  clear hb1
  refine (Hp'.out _ (H'.out.up hbl2)).mono ?_
  rintro e w3 ⟨rfl, hb3⟩
  obtain ⟨w4, hst4, hA4, hB4, hK4⟩ := store_ex (fresh w3 (b := w3.heap.size) rfl) g
  have hbl3 := nx hbl2 hb3
  have hbl4 : Below w.heap.size w w4 := (na hbl3 _).trans (hB4 _ hbl3.size)
  have hA2' := hK4 _ _ _ (Nat.ne_of_lt (hA2.up hb3).lt) ((hA2.up hb3).past _)
  clear hb3 hB4 hK4 hA2
  go_wp2_with fail
  clear hst4
  generalize w3.heap.size = b3 at hA4 ⊢
  clear Hp Hp' H H' hbl3 hbl2
  refine wp_region_quiet (C := fun w' => Below w.heap.size w w' ∧ At w' b1 121 f ∧ At w' b3 121 g) (by kernel_rfl) (by kernel_rfl) ⟨hbl4.drew, hA2'.drew, hA4.drew⟩ ?_
  clear hbl4 hA2' hA4
  refine BigFrame.wpQuiet_want rfl (fun K hK => quiet_ld _ rfl rfl (fun _ h => h.2.1) (hK _ ?_)); clear hK K; go_simp
  refine BigFrame.wpQuiet_want rfl (fun K hK => BigFrame.quiet_move _ rfl (hK _ ?_)); clear hK K; go_simp
  refine BigFrame.wpQuiet_want rfl (fun K hK => quiet_len _ rfl rfl (hK _ ?_)); clear hK K; go_simp
  refine BigFrame.wpQuiet_want rfl (fun K hK => ⟨.int .i64 M, fun w' hw' => ?_, hK _ ?_⟩)
  · clear hK K
    have Hw := Lib.hid hw'; clear hw'
    go_simp
    refine (Ho'.out _).mono ?_
    rintro e w5 ⟨rfl, rfl⟩
    exact ⟨rfl, Hw.out⟩
  clear hK K; go_simp
  refine BigFrame.wpQuiet_want rfl (fun K hK => ⟨tv (scaleTo f M 121), fun w' hw' => ?_, hK _ ?_⟩)
  · clear hK K
    have Hw := Lib.hid hw'; clear hw'
    go_simp
    refine (Hs.out _).mono ?_
    rintro e w5 ⟨rfl, hb⟩
    exact ⟨rfl, nx Hw.out.1 hb, Hw.out.2.1.up hb, Hw.out.2.2.up hb⟩
  clear hK K; go_simp
  refine BigFrame.wpQuiet_want rfl (fun K hK => quiet_ld _ rfl rfl (fun _ h => h.2.2) (hK _ ?_)); clear hK K; go_simp
  refine BigFrame.wpQuiet_want rfl (fun K hK => BigFrame.quiet_move _ rfl (hK _ ?_)); clear hK K; go_simp
  refine BigFrame.wpQuiet_want rfl (fun K hK => quiet_len _ rfl rfl (hK _ ?_)); clear hK K; go_simp
  refine BigFrame.wpQuiet_want rfl (fun K hK => ⟨.int .i64 N, fun w' hw' => ?_, hK _ ?_⟩)
  · clear hK K
    have Hw := Lib.hid hw'; clear hw'
    go_simp
    refine (Ho.out _).mono ?_
    rintro e w5 ⟨rfl, rfl⟩
    exact ⟨rfl, Hw.out⟩
  clear hK K; go_simp
  refine BigFrame.wpQuiet_want rfl (fun K hK => ⟨tv (scaleTo g N 121), fun w' hw' => ?_, hK _ ?_⟩)
  · clear hK K
    have Hw := Lib.hid hw'; clear hw'
    go_simp
    refine (Hs'.out _).mono ?_
    rintro e w5 ⟨rfl, hb⟩
    exact ⟨rfl, nx Hw.out.1 hb, Hw.out.2.1.up hb, Hw.out.2.2.up hb⟩
  clear hK K; go_simp
  refine BigFrame.wpQuiet_want rfl (fun K hK => quiet_eql _ _ rfl rfl rfl (hK _ ?_)); clear hK K; go_simp
  refine BigFrame.wpQuiet_want rfl (fun K hK => BigFrame.quiet_assign _ rfl (hK _ ?_)); clear hK K; go_simp
  refine BigFrame.wpQuiet_want rfl (fun K hK => BigFrame.quiet_assign _ rfl (hK _ ?_)); clear hK K; go_simp
  refine wpQuiet_nil ?_
  intro w' hbw _ _
  go_wp2_with fail
  go_ret2
  exact ⟨rfl, hbw⟩


end SameW
end Go.Proofs.Ytjdijbidpcjjdaa
