/-
  The draws of a die.
-/
import Derived.Test.YtbcaahaaaodhkaaRows
import Derived.Test.YtbcaahaaaodhkaaCurN
import Derived.Test.YtbcaahaaaodhkaaBubW
import Derived.Test.YtbcaahaaaodhkaaDicesW
import Derived.Test.YtbcaahaaaodhkaaSortW
import Derived.Test.YtbcaahaaaodhkaaDieW
import Derived.Test.YtbcaahaaaodhkaaOpenD
import Derived.WalkKit
import Derived.WalkLawsBesides
import Derived.WalkSpells
import Derived.ProofKit
import Derived.OpenShut
import Derived.Deep.RegionWith
import Derived.Deep.QuietTactic
import Derived.BigQuiet
namespace Go.Proofs.Ytbcaahaaaodhkaa
open Go.ChangeShapes Go.WideShapes Go.ChangeAt Go.RowKit
open Go.ChangeMaps (open_string shut_string)

namespace DieD
open Dice Arr OpenD DieW SortW DicesW CurN BubW

theorem At.but {w w' : World} {b n p : Nat} {f : Nat → Int} (h : At w b n f) (hb : b ≠ p) (hu : But p w w') : At w' b n f :=
  ⟨Nat.lt_of_lt_of_le h.lt hu.size, fun k hk => (World.cell?_of_block (w := w) (a := ⟨b, k, none⟩) (hu.2.2.2.2 b h.lt hb)).trans (h.cell k hk), fun k => (World.frozen?_of_block (w := w) (a := ⟨b, k, none⟩) (hu.2.2.2.2 b h.lt hb)).trans (h.free k)⟩
theorem But.setnew {p : Nat} {w w' : World} (h : But p w w') {D : Nat} (hD : w.heap.size ≤ D) (i : Nat) (v : Value) : But p w (w'.setCell ⟨D, i, none⟩ v) :=
  ⟨h.1, h.2.1, h.2.2.1, by have := h.2.2.2.1; simpa [World.setCell] using this, fun k hk hp => (Below.heap_setCell _ _ _ _ (by show k ≠ D; omega)).trans (h.2.2.2.2 k hk hp)⟩
theorem But.setsnew {p : Nat} {w w' : World} (h : But p w w') {D : Nat} (hD : w.heap.size ≤ D) (vs : List Value) (o : Nat) : But p w (w'.setCells D o vs) := by
  have hb : Below w.heap.size w' (w'.setCells D o vs) := setCells_below hD vs o
  exact ⟨hb.os.trans h.1, hb.tape.trans h.2.1, hb.output.trans h.2.2.1, Nat.le_trans h.2.2.2.1 hb.size, fun k hk hp => (hb.block k hk).trans (h.2.2.2.2 k hk hp)⟩
theorem Cur.setnew {w : World} {p K : Nat} {A : Option Addr} {n c : Nat} (h : Cur w p K A n c) {D : Nat} (hD : p < D) (i : Nat) (v : Value) : Cur (w.setCell ⟨D, i, none⟩ v) p K A n c :=
  h.upto ((Below.refl (p + 1) w).setCell (p := ⟨D, i, none⟩) hD v)
theorem Cur.setsnew {w : World} {p K : Nat} {A : Option Addr} {n c : Nat} (h : Cur w p K A n c) {D : Nat} (hD : p < D) (vs : List Value) (o : Nat) : Cur (w.setCells D o vs) p K A n c :=
  h.upto (setCells_below hD vs o)
theorem Cur.went {w w' : World} {p K K' : Nat} {A : Option Addr} {n c : Nat} (h : Went p K A n c w w') (hK : K ≤ K') : Cur w' p K' A n c := h.1.more hK

/-- The faces that the draws choose from. -/
def faces : List Int := [1, 2, 3, 4, 5, 6, 6, 0, 8, 9, 4, 3, 30, 12]
set_option maxHeartbeats 1000000 in
theorem face_any (p K : Nat) (A : Option Addr) (n c : Nat) (w : World) (h : Cur w p K A n c) (hK : K ≤ 1048575) (hn : n ≤ maxLen) :
    Calls Try.prog 135 #[.pointer (some ⟨p, 0, none⟩)] w fun e w' => (∃ q, e = .returned (.int .i64 q)) ∧ Went p (K + 2) A n c w w' := by
  have hp := h.1
  have H := Lib.hid fun g cp w h hg ht => among_any p K A n c g cp faces w h hK hn (by decide) (by decide) hg ht
  have Hc := Lib.hid h; clear h
  go_enter Try.func135, Try.ntmps135
  go_wp2_with fail
  have hb : Below w.heap.size w (w.alloc (.cells (faces.map fun z => Value.int .i64 z).toArray 3)) := (Below.refl _ _).alloc (Nat.le_refl _) _
  refine (H.out w.heap.size 14 _ (Hc.out.below hb) (by omega) (NsB.made w faces _)).mono ?_
  rintro e w1 ⟨⟨q, hq, rfl⟩, hw⟩
  have hw' : Went p (K + 2) A n c w w1 := ⟨hw.1, (But.of_below hb).trans hw.2⟩
  have Hw := Lib.hid hw'; clear hw' hw hb
  go_wp2_with fail
  go_ret
  exact ⟨⟨q, rfl⟩, Hw.out⟩
def odd : List Int := [-1, 31, 0, 4611686018427387904]
theorem At.sets {w : World} {b n p : Nat} {f : Nat → Int} (h : At w b n f) (hp : b ≠ p) (vs : List Value) (o : Nat) : At (w.setCells p o vs) b n f := h.keep hp vs o
def d1 (k : Nat) : Int := if k = 0 then 1 else if k = 1 then 2 else if k = 2 then 2 else if k = 3 then 3 else if k = 4 then 3 else 4

set_option maxRecDepth 20000 in
set_option maxHeartbeats 16000000 in
theorem die_any (p K : Nat) (A : Option Addr) (n c : Nat) (w : World) (h : Cur w p K A n c) (hK : K ≤ 1048000) (hn : n ≤ maxLen) :
    Calls Try.prog 111 #[.pointer (some ⟨p, 0, none⟩)] w fun e w' => (∃ d, e = .returned (dv d)) ∧ Went p (K + 30) A n c w w' := by
  have hp := h.1
  have Hs := Lib.hid (fun d w => l2Sorted_any d w)
  have Hf := Lib.hid (fun k w h hk => face_any p (K + k) A n c w h (show K + k ≤ 1048575 from hk) hn)
  have Hp := Lib.hid (fun k m w h hk h0 h1 => pick_any p (K + k) A n c m w h (show K + k ≤ 1048575 from hk) hn h0 h1)
  have Ho := Lib.hid (fun k m w h hk h0 h1 => one_any p (K + k) A n c m w h (show K + k ≤ 1048575 from hk) hn h0 h1)
  have Ha := Lib.hid (fun k g cp zs w h hk h0 h1 hg ht => among_any p (K + k) A n c g cp zs w h (show K + k ≤ 1048575 from hk) hn h0 h1 hg ht)
  have hR := (At.new6 w (fun _ => 0) 72 rfl).past (sixO (fun k => (k : Int) + 1) 72)
  have hD := At.new6 (w.alloc (.cells #[.int .i64 0, .int .i64 0, .int .i64 0, .int .i64 0, .int .i64 0, .int .i64 0] 72)) (fun k => (k : Int) + 1) 72 (b := w.heap.size + 1) (by rw [size_alloc])
  have hB : Below w.heap.size w ((w.alloc (.cells #[.int .i64 0, .int .i64 0, .int .i64 0, .int .i64 0, .int .i64 0, .int .i64 0] 72)).alloc (sixO (fun k => (k : Int) + 1) 72)) := na (na (n0 w) _) _
  have hC := h.below hB
  have hU : But p w ((w.alloc (.cells #[.int .i64 0, .int .i64 0, .int .i64 0, .int .i64 0, .int .i64 0, .int .i64 0] 72)).alloc (sixO (fun k => (k : Int) + 1) 72)) := But.of_below hB
  have hRp : p < w.heap.size := hp
  clear h hB
  go_enter Try.func111, Try.ntmps111
  go_wp2_with fail
  refine (Hp.out 0 6 _ hC (by omega) (by decide) (by decide)).mono ?_
  rintro e w1 ⟨⟨m, hm, rfl⟩, hw⟩
  have hR := At.but hR (Nat.ne_of_gt hRp) hw.2
  have hD := At.but hD (by omega) hw.2
  have hU := hU.trans hw.2
  have hC := hw.1
  clear hw
  obtain ⟨f0, hD⟩ : ∃ f0, At w1 (w.heap.size + 1) 6 f0 := ⟨_, hD⟩
  by_cases h0 : m = 0
  · subst h0
    obtain ⟨e0, e1, e2, e3, e4, e5⟩ := hD.six
    obtain ⟨r0, r1, r2, r3, r4, r5⟩ := hR.six
    obtain ⟨z0, z1, z2, z3, z4, z5⟩ := hR.free6
    go_wp2_with fail
    refine ret_cell (b := w.heap.size) (n := 6) (f := f0) Try.results111 rfl Try.underlying72 (by kernel_rfl) (hR.stored f0) rfl ⟨⟨f0, rfl⟩, ?_⟩
    exact ⟨(Cur.setsnew hC hRp (vals 6 f0) 0).more (by omega), But.setsnew hU (Nat.le_refl _) (vals 6 f0) 0⟩
  have h0' : ((m : Int) == 0) = false := by simp; omega
  by_cases h1 : m = 1
  · subst h1
    obtain ⟨e0, e1, e2, e3, e4, e5⟩ := hD.six
    obtain ⟨z0, z1, z2, z3, z4, z5⟩ := hD.free6
    have hD := hD.stored d1
    have hR := hR.keep (show w.heap.size ≠ w.heap.size + 1 by omega) (vals 6 d1) 0
    have hC := Cur.setsnew hC (show p < w.heap.size + 1 by omega) (vals 6 d1) 0
    have hU := But.setsnew hU (show w.heap.size ≤ w.heap.size + 1 by omega) (vals 6 d1) 0
    obtain ⟨e0, e1, e2, e3, e4, e5⟩ := hD.six
    go_wp2_with fail
    refine (Hs.out d1 _).mono ?_
    rintro e w8 ⟨rfl, hb⟩
    have hR := hR.up hb
    have hD := hD.up hb
    have hC := hC.below hb
    have hU := hU.trans (But.of_below hb)
    clear hb e0 e1 e2 e3 e4 e5
    obtain ⟨g, hg⟩ : ∃ g, g = srt d1 := ⟨_, rfl⟩
    rw [← hg]
    clear hg
    unfold dv
    obtain ⟨e0, e1, e2, e3, e4, e5⟩ := hD.six
    obtain ⟨z0, z1, z2, z3, z4, z5⟩ := hD.free6
    have hD := hD.stored g
    have hR := hR.keep (show w.heap.size ≠ w.heap.size + 1 by omega) (vals 6 g) 0
    have hC := Cur.setsnew hC (show p < w.heap.size + 1 by omega) (vals 6 g) 0
    have hU := But.setsnew hU (show w.heap.size ≤ w.heap.size + 1 by omega) (vals 6 g) 0
    go_wp2_with fail
    refine (Hp.out 2 50 _ hC (by omega) (by decide) (by decide)).mono ?_
    rintro e w9 ⟨⟨m2, hm2, rfl⟩, hw⟩
    clear e0 e1 e2 e3 e4 e5 z0 z1 z2 z3 z4 z5
    have hR := At.but hR (Nat.ne_of_gt hRp) hw.2
    have hD := At.but hD (by omega) hw.2
    have hU := hU.trans hw.2
    have hC := hw.1
    clear hw
    by_cases h20 : m2 = 0
    · subst h20
      go_wp2_with fail
      refine (Hp.out (2 + 2) 6 _ hC (by omega) (by decide) (by decide)).mono ?_
      rintro e w10 ⟨⟨k6, hk6, rfl⟩, hw⟩
      have hR := At.but hR (Nat.ne_of_gt hRp) hw.2
      have hD := At.but hD (by omega) hw.2
      have hU := hU.trans hw.2
      have hC := hw.1
      clear hw
      have hal : Below w10.heap.size w10 (w10.alloc (.cells (odd.map fun z => Value.int .i64 z).toArray 3)) := na (n0 _) _
      have hns := NsB.made w10 odd 3
      have hpl := hC.1
      have hR := hR.up hal
      have hD := hD.up hal
      have hC := hC.below hal
      have hU := hU.trans (But.of_below hal)
      go_wp2_with fail
      refine (Ha.out (2 + 2 + 2) w10.heap.size 4 odd _ hC (by omega) (by decide) (by decide) (by omega) hns).mono ?_
      rintro e w11 ⟨⟨z, _, rfl⟩, hw⟩
      have hR := At.but hR (Nat.ne_of_gt hRp) hw.2
      have hD := At.but hD (by omega) hw.2
      have hU := hU.trans hw.2
      have hC := hw.1
      clear hw
      clear hns hal
      have ck := hD.cell k6 hk6
      have zk := hD.free k6
      have hkk : decide ((k6 : Int) < 6) = true := decide_eq_true (by omega)
      have hD := hD.set hk6 z
      have hR := hR.other (show w.heap.size ≠ w.heap.size + 1 by omega) k6 (.int .i64 z)
      have hC := Cur.setnew hC (show p < w.heap.size + 1 by omega) k6 (.int .i64 z)
      have hU := But.setnew hU (show w.heap.size ≤ w.heap.size + 1 by omega) k6 (.int .i64 z)
      obtain ⟨e0, e1, e2, e3, e4, e5⟩ := hD.six
      obtain ⟨r0, r1, r2, r3, r4, r5⟩ := hR.six
      obtain ⟨z0, z1, z2, z3, z4, z5⟩ := hR.free6
      go_wp2_with fail
      refine ret_cell (b := w.heap.size) (n := 6) (f := (put g k6 z)) Try.results111 rfl Try.underlying72 (by kernel_rfl) (hR.stored (put g k6 z)) rfl ⟨⟨(put g k6 z), rfl⟩, ?_⟩
      exact ⟨(Cur.setsnew hC hRp (vals 6 (put g k6 z)) 0).more (by omega), But.setsnew hU (Nat.le_refl _) (vals 6 (put g k6 z)) 0⟩
    · have h20' : ((m2 : Int) == 0) = false := by simp; omega
      by_cases h21 : m2 = 1
      · subst h21
        have ck := hD.cell 0 (by omega)
        have zk := hD.free 0
        have hD := hD.set (show 0 < 6 by omega) 30
        have hR := hR.other (show w.heap.size ≠ w.heap.size + 1 by omega) 0 (.int .i64 30)
        have hC := Cur.setnew hC (show p < w.heap.size + 1 by omega) 0 (.int .i64 30)
        have hU := But.setnew hU (show w.heap.size ≤ w.heap.size + 1 by omega) 0 (.int .i64 30)
        obtain ⟨e0, e1, e2, e3, e4, e5⟩ := hD.six
        obtain ⟨r0, r1, r2, r3, r4, r5⟩ := hR.six
        obtain ⟨z0, z1, z2, z3, z4, z5⟩ := hR.free6
        go_wp2_with fail
        refine ret_cell (b := w.heap.size) (n := 6) (f := (put g 0 30)) Try.results111 rfl Try.underlying72 (by kernel_rfl) (hR.stored (put g 0 30)) rfl ⟨⟨(put g 0 30), rfl⟩, ?_⟩
        exact ⟨(Cur.setsnew hC hRp (vals 6 (put g 0 30)) 0).more (by omega), But.setsnew hU (Nat.le_refl _) (vals 6 (put g 0 30)) 0⟩
      · have h21' : ((m2 : Int) == 1) = false := by simp; omega
        obtain ⟨e0, e1, e2, e3, e4, e5⟩ := hD.six
        obtain ⟨r0, r1, r2, r3, r4, r5⟩ := hR.six
        obtain ⟨z0, z1, z2, z3, z4, z5⟩ := hR.free6
        go_wp2_with fail
        refine ret_cell (b := w.heap.size) (n := 6) (f := g) Try.results111 rfl Try.underlying72 (by kernel_rfl) (hR.stored g) rfl ⟨⟨g, rfl⟩, ?_⟩
        exact ⟨(Cur.setsnew hC hRp (vals 6 g) 0).more (by omega), But.setsnew hU (Nat.le_refl _) (vals 6 g) 0⟩
  have h1' : ((m : Int) == 1) = false := by simp; omega
  by_cases h2 : m = 2
  · subst h2
    go_wp2_with fail
    refine (Hf.out 2 _ hC (by omega)).mono ?_
    rintro e w2 ⟨⟨a, rfl⟩, hw⟩
    have hR := At.but hR (Nat.ne_of_gt hRp) hw.2
    have hD := At.but hD (by omega) hw.2
    have hU := hU.trans hw.2
    have hC := hw.1
    clear hw
    go_wp2_with fail
    refine (Hf.out 4 _ hC (by omega)).mono ?_
    rintro e w3 ⟨⟨b, rfl⟩, hw⟩
    have hR := At.but hR (Nat.ne_of_gt hRp) hw.2
    have hD := At.but hD (by omega) hw.2
    have hU := hU.trans hw.2
    have hC := hw.1
    clear hw
    go_wp2_with fail
    go_loopw [6] (fun iv wr => ∃ (k : Nat) (f : Nat → Int), k ≤ 6 ∧ iv = .int .i64 k ∧ At wr (w.heap.size + 1) 6 f ∧ At wr w.heap.size 6 (fun _ => 0) ∧ Cur wr p (K + (6 + 2 * k)) A n c ∧ But p w wr) (fun iv _ => 6 - (intOf iv).toNat)
    case atStart => exact ⟨0, f0, by omega, rfl, hD, hR, hC.more (by omega), hU⟩
    case round =>
      clear hD hR hC hU
      obtain ⟨k, f, hk, rfl, hD, hR, hC, hU⟩ := hrel
      by_cases hlt : k < 6
      · have hkk : decide ((k : Int) < 6) = true := decide_eq_true (by omega)
        have ck := hD.cell k hlt
        have zk := hD.free k
        have hD := hD.set hlt a
        have hR := hR.other (show w.heap.size ≠ w.heap.size + 1 by omega) k (.int .i64 a)
        have hC := Cur.setnew hC (show p < w.heap.size + 1 by omega) k (.int .i64 a)
        have hU := But.setnew hU (show w.heap.size ≤ w.heap.size + 1 by omega) k (.int .i64 a)
        go_wp2_with fail
        refine (Ho.out (6 + 2 * k) 3 _ hC (by omega) (by decide) (by decide)).mono ?_
        rintro e w10 ⟨⟨t, rfl⟩, hw⟩
        clear ck zk
        have hR := At.but hR (Nat.ne_of_gt hRp) hw.2
        have hD := At.but hD (by omega) hw.2
        have hU := hU.trans hw.2
        have hC := hw.1
        clear hw
        cases t
        · go_wp2_with fail
          go_roundw
          case rel => exact ⟨k + 1, _, by omega, by go_num, hD, hR, hC.more (by omega), hU⟩
          case measure => simp [intOf]; omega
        · have ck := hD.cell k hlt
          have zk := hD.free k
          have hD := hD.set hlt b
          have hR := hR.other (show w.heap.size ≠ w.heap.size + 1 by omega) k (.int .i64 b)
          have hC := Cur.setnew hC (show p < w.heap.size + 1 by omega) k (.int .i64 b)
          have hU := But.setnew hU (show w.heap.size ≤ w.heap.size + 1 by omega) k (.int .i64 b)
          go_wp2_with fail
          go_roundw
          case rel => exact ⟨k + 1, _, by omega, by go_num, hD, hR, hC.more (by omega), hU⟩
          case measure => simp [intOf]; omega
      · obtain rfl : k = 6 := by omega
        have hC := hC.more (show K + (6 + 2 * 6) ≤ K + 18 by omega)
        obtain ⟨e0, e1, e2, e3, e4, e5⟩ := hD.six
        go_wp2_with fail
        refine (Hs.out f _).mono ?_
        rintro e w8 ⟨rfl, hb⟩
        have hR := hR.up hb
        have hD := hD.up hb
        have hC := hC.below hb
        have hU := hU.trans (But.of_below hb)
        clear hb e0 e1 e2 e3 e4 e5
        obtain ⟨g, hg⟩ : ∃ g, g = srt f := ⟨_, rfl⟩
        rw [← hg]
        clear hg
        unfold dv
        obtain ⟨e0, e1, e2, e3, e4, e5⟩ := hD.six
        obtain ⟨z0, z1, z2, z3, z4, z5⟩ := hD.free6
        have hD := hD.stored g
        have hR := hR.keep (show w.heap.size ≠ w.heap.size + 1 by omega) (vals 6 g) 0
        have hC := Cur.setsnew hC (show p < w.heap.size + 1 by omega) (vals 6 g) 0
        have hU := But.setsnew hU (show w.heap.size ≤ w.heap.size + 1 by omega) (vals 6 g) 0
        go_wp2_with fail
        refine (Hp.out 18 50 _ hC (by omega) (by decide) (by decide)).mono ?_
        rintro e w9 ⟨⟨m2, hm2, rfl⟩, hw⟩
        clear e0 e1 e2 e3 e4 e5 z0 z1 z2 z3 z4 z5
        have hR := At.but hR (Nat.ne_of_gt hRp) hw.2
        have hD := At.but hD (by omega) hw.2
        have hU := hU.trans hw.2
        have hC := hw.1
        clear hw
        by_cases h20 : m2 = 0
        · subst h20
          go_wp2_with fail
          refine (Hp.out (18 + 2) 6 _ hC (by omega) (by decide) (by decide)).mono ?_
          rintro e w10 ⟨⟨k6, hk6, rfl⟩, hw⟩
          have hR := At.but hR (Nat.ne_of_gt hRp) hw.2
          have hD := At.but hD (by omega) hw.2
          have hU := hU.trans hw.2
          have hC := hw.1
          clear hw
          have hal : Below w10.heap.size w10 (w10.alloc (.cells (odd.map fun z => Value.int .i64 z).toArray 3)) := na (n0 _) _
          have hns := NsB.made w10 odd 3
          have hpl := hC.1
          have hR := hR.up hal
          have hD := hD.up hal
          have hC := hC.below hal
          have hU := hU.trans (But.of_below hal)
          go_wp2_with fail
          refine (Ha.out (18 + 2 + 2) w10.heap.size 4 odd _ hC (by omega) (by decide) (by decide) (by omega) hns).mono ?_
          rintro e w11 ⟨⟨z, _, rfl⟩, hw⟩
          have hR := At.but hR (Nat.ne_of_gt hRp) hw.2
          have hD := At.but hD (by omega) hw.2
          have hU := hU.trans hw.2
          have hC := hw.1
          clear hw
          clear hns hal
          have ck := hD.cell k6 hk6
          have zk := hD.free k6
          have hkk : decide ((k6 : Int) < 6) = true := decide_eq_true (by omega)
          have hD := hD.set hk6 z
          have hR := hR.other (show w.heap.size ≠ w.heap.size + 1 by omega) k6 (.int .i64 z)
          have hC := Cur.setnew hC (show p < w.heap.size + 1 by omega) k6 (.int .i64 z)
          have hU := But.setnew hU (show w.heap.size ≤ w.heap.size + 1 by omega) k6 (.int .i64 z)
          obtain ⟨e0, e1, e2, e3, e4, e5⟩ := hD.six
          obtain ⟨r0, r1, r2, r3, r4, r5⟩ := hR.six
          obtain ⟨z0, z1, z2, z3, z4, z5⟩ := hR.free6
          go_wp2_with fail
          refine ret_cell (b := w.heap.size) (n := 6) (f := (put g k6 z)) Try.results111 rfl Try.underlying72 (by kernel_rfl) (hR.stored (put g k6 z)) rfl ⟨⟨(put g k6 z), rfl⟩, ?_⟩
          exact ⟨(Cur.setsnew hC hRp (vals 6 (put g k6 z)) 0).more (by omega), But.setsnew hU (Nat.le_refl _) (vals 6 (put g k6 z)) 0⟩
        · have h20' : ((m2 : Int) == 0) = false := by simp; omega
          by_cases h21 : m2 = 1
          · subst h21
            have ck := hD.cell 0 (by omega)
            have zk := hD.free 0
            have hD := hD.set (show 0 < 6 by omega) 30
            have hR := hR.other (show w.heap.size ≠ w.heap.size + 1 by omega) 0 (.int .i64 30)
            have hC := Cur.setnew hC (show p < w.heap.size + 1 by omega) 0 (.int .i64 30)
            have hU := But.setnew hU (show w.heap.size ≤ w.heap.size + 1 by omega) 0 (.int .i64 30)
            obtain ⟨e0, e1, e2, e3, e4, e5⟩ := hD.six
            obtain ⟨r0, r1, r2, r3, r4, r5⟩ := hR.six
            obtain ⟨z0, z1, z2, z3, z4, z5⟩ := hR.free6
            go_wp2_with fail
            refine ret_cell (b := w.heap.size) (n := 6) (f := (put g 0 30)) Try.results111 rfl Try.underlying72 (by kernel_rfl) (hR.stored (put g 0 30)) rfl ⟨⟨(put g 0 30), rfl⟩, ?_⟩
            exact ⟨(Cur.setsnew hC hRp (vals 6 (put g 0 30)) 0).more (by omega), But.setsnew hU (Nat.le_refl _) (vals 6 (put g 0 30)) 0⟩
          · have h21' : ((m2 : Int) == 1) = false := by simp; omega
            obtain ⟨e0, e1, e2, e3, e4, e5⟩ := hD.six
            obtain ⟨r0, r1, r2, r3, r4, r5⟩ := hR.six
            obtain ⟨z0, z1, z2, z3, z4, z5⟩ := hR.free6
            go_wp2_with fail
            refine ret_cell (b := w.heap.size) (n := 6) (f := g) Try.results111 rfl Try.underlying72 (by kernel_rfl) (hR.stored g) rfl ⟨⟨g, rfl⟩, ?_⟩
            exact ⟨(Cur.setsnew hC hRp (vals 6 g) 0).more (by omega), But.setsnew hU (Nat.le_refl _) (vals 6 g) 0⟩
  have h2' : ((m : Int) == 2) = false := by simp; omega
  go_wp2_with fail
  go_loopw [7] (fun iv wr => ∃ (k : Nat) (f : Nat → Int), k ≤ 6 ∧ iv = .int .i64 k ∧ At wr (w.heap.size + 1) 6 f ∧ At wr w.heap.size 6 (fun _ => 0) ∧ Cur wr p (K + (2 + 2 * k)) A n c ∧ But p w wr) (fun iv _ => 6 - (intOf iv).toNat)
  case atStart => exact ⟨0, f0, by omega, rfl, hD, hR, hC.more (by omega), hU⟩
  case round =>
    clear hD hR hC hU
    obtain ⟨k, f, hk, rfl, hD, hR, hC, hU⟩ := hrel
    by_cases hlt : k < 6
    · have hkk : decide ((k : Int) < 6) = true := decide_eq_true (by omega)
      go_wp2_with fail
      refine (Hf.out (2 + 2 * k) _ hC (by omega)).mono ?_
      rintro e w10 ⟨⟨a, rfl⟩, hw⟩
      have hR := At.but hR (Nat.ne_of_gt hRp) hw.2
      have hD := At.but hD (by omega) hw.2
      have hU := hU.trans hw.2
      have hC := hw.1
      clear hw
      have ck := hD.cell k hlt
      have zk := hD.free k
      have hD := hD.set hlt a
      have hR := hR.other (show w.heap.size ≠ w.heap.size + 1 by omega) k (.int .i64 a)
      have hC := Cur.setnew hC (show p < w.heap.size + 1 by omega) k (.int .i64 a)
      have hU := But.setnew hU (show w.heap.size ≤ w.heap.size + 1 by omega) k (.int .i64 a)
      go_wp2_with fail
      go_roundw
      case rel => exact ⟨k + 1, _, by omega, by go_num, hD, hR, hC.more (by omega), hU⟩
      case measure => simp [intOf]; omega
    · obtain rfl : k = 6 := by omega
      have hC := hC.more (show K + (2 + 2 * 6) ≤ K + 14 by omega)
      obtain ⟨e0, e1, e2, e3, e4, e5⟩ := hD.six
      go_wp2_with fail
      refine (Hs.out f _).mono ?_
      rintro e w8 ⟨rfl, hb⟩
      have hR := hR.up hb
      have hD := hD.up hb
      have hC := hC.below hb
      have hU := hU.trans (But.of_below hb)
      clear hb e0 e1 e2 e3 e4 e5
      obtain ⟨g, hg⟩ : ∃ g, g = srt f := ⟨_, rfl⟩
      rw [← hg]
      clear hg
      unfold dv
      obtain ⟨e0, e1, e2, e3, e4, e5⟩ := hD.six
      obtain ⟨z0, z1, z2, z3, z4, z5⟩ := hD.free6
      have hD := hD.stored g
      have hR := hR.keep (show w.heap.size ≠ w.heap.size + 1 by omega) (vals 6 g) 0
      have hC := Cur.setsnew hC (show p < w.heap.size + 1 by omega) (vals 6 g) 0
      have hU := But.setsnew hU (show w.heap.size ≤ w.heap.size + 1 by omega) (vals 6 g) 0
      go_wp2_with fail
      refine (Hp.out 14 50 _ hC (by omega) (by decide) (by decide)).mono ?_
      rintro e w9 ⟨⟨m2, hm2, rfl⟩, hw⟩
      clear e0 e1 e2 e3 e4 e5 z0 z1 z2 z3 z4 z5
      have hR := At.but hR (Nat.ne_of_gt hRp) hw.2
      have hD := At.but hD (by omega) hw.2
      have hU := hU.trans hw.2
      have hC := hw.1
      clear hw
      by_cases h20 : m2 = 0
      · subst h20
        go_wp2_with fail
        refine (Hp.out (14 + 2) 6 _ hC (by omega) (by decide) (by decide)).mono ?_
        rintro e w10 ⟨⟨k6, hk6, rfl⟩, hw⟩
        have hR := At.but hR (Nat.ne_of_gt hRp) hw.2
        have hD := At.but hD (by omega) hw.2
        have hU := hU.trans hw.2
        have hC := hw.1
        clear hw
        have hal : Below w10.heap.size w10 (w10.alloc (.cells (odd.map fun z => Value.int .i64 z).toArray 3)) := na (n0 _) _
        have hns := NsB.made w10 odd 3
        have hpl := hC.1
        have hR := hR.up hal
        have hD := hD.up hal
        have hC := hC.below hal
        have hU := hU.trans (But.of_below hal)
        go_wp2_with fail
        refine (Ha.out (14 + 2 + 2) w10.heap.size 4 odd _ hC (by omega) (by decide) (by decide) (by omega) hns).mono ?_
        rintro e w11 ⟨⟨z, _, rfl⟩, hw⟩
        have hR := At.but hR (Nat.ne_of_gt hRp) hw.2
        have hD := At.but hD (by omega) hw.2
        have hU := hU.trans hw.2
        have hC := hw.1
        clear hw
        clear hns hal
        have ck := hD.cell k6 hk6
        have zk := hD.free k6
        have hkk : decide ((k6 : Int) < 6) = true := decide_eq_true (by omega)
        have hD := hD.set hk6 z
        have hR := hR.other (show w.heap.size ≠ w.heap.size + 1 by omega) k6 (.int .i64 z)
        have hC := Cur.setnew hC (show p < w.heap.size + 1 by omega) k6 (.int .i64 z)
        have hU := But.setnew hU (show w.heap.size ≤ w.heap.size + 1 by omega) k6 (.int .i64 z)
        obtain ⟨e0, e1, e2, e3, e4, e5⟩ := hD.six
        obtain ⟨r0, r1, r2, r3, r4, r5⟩ := hR.six
        obtain ⟨z0, z1, z2, z3, z4, z5⟩ := hR.free6
        go_wp2_with fail
        refine ret_cell (b := w.heap.size) (n := 6) (f := (put g k6 z)) Try.results111 rfl Try.underlying72 (by kernel_rfl) (hR.stored (put g k6 z)) rfl ⟨⟨(put g k6 z), rfl⟩, ?_⟩
        exact ⟨(Cur.setsnew hC hRp (vals 6 (put g k6 z)) 0).more (by omega), But.setsnew hU (Nat.le_refl _) (vals 6 (put g k6 z)) 0⟩
      · have h20' : ((m2 : Int) == 0) = false := by simp; omega
        by_cases h21 : m2 = 1
        · subst h21
          have ck := hD.cell 0 (by omega)
          have zk := hD.free 0
          have hD := hD.set (show 0 < 6 by omega) 30
          have hR := hR.other (show w.heap.size ≠ w.heap.size + 1 by omega) 0 (.int .i64 30)
          have hC := Cur.setnew hC (show p < w.heap.size + 1 by omega) 0 (.int .i64 30)
          have hU := But.setnew hU (show w.heap.size ≤ w.heap.size + 1 by omega) 0 (.int .i64 30)
          obtain ⟨e0, e1, e2, e3, e4, e5⟩ := hD.six
          obtain ⟨r0, r1, r2, r3, r4, r5⟩ := hR.six
          obtain ⟨z0, z1, z2, z3, z4, z5⟩ := hR.free6
          go_wp2_with fail
          refine ret_cell (b := w.heap.size) (n := 6) (f := (put g 0 30)) Try.results111 rfl Try.underlying72 (by kernel_rfl) (hR.stored (put g 0 30)) rfl ⟨⟨(put g 0 30), rfl⟩, ?_⟩
          exact ⟨(Cur.setsnew hC hRp (vals 6 (put g 0 30)) 0).more (by omega), But.setsnew hU (Nat.le_refl _) (vals 6 (put g 0 30)) 0⟩
        · have h21' : ((m2 : Int) == 1) = false := by simp; omega
          obtain ⟨e0, e1, e2, e3, e4, e5⟩ := hD.six
          obtain ⟨r0, r1, r2, r3, r4, r5⟩ := hR.six
          obtain ⟨z0, z1, z2, z3, z4, z5⟩ := hR.free6
          go_wp2_with fail
          refine ret_cell (b := w.heap.size) (n := 6) (f := g) Try.results111 rfl Try.underlying72 (by kernel_rfl) (hR.stored g) rfl ⟨⟨g, rfl⟩, ?_⟩
          exact ⟨(Cur.setsnew hC hRp (vals 6 g) 0).more (by omega), But.setsnew hU (Nat.le_refl _) (vals 6 g) 0⟩


end DieD
end Go.Proofs.Ytbcaahaaaodhkaa
