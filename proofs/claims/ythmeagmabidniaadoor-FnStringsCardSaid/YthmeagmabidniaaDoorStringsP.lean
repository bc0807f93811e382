/-
  FnStrings: for every list of bytes the law returns true, and the list reads afterwards as it read before; the tables and errors of the library that the row lists are tied to the program's text by the card.
-/
import Derived.Test.YthmeagmabidniaaDoorLaidC
import Derived.Test.YthmeagmabidniaaDoorDrawD
import Derived.Test.YthmeagmabidniaaDoorOpenB
import Derived.Test.YthmeagmabidniaaDoorTell
import Derived.Test.YthmeagmabidniaaDoorFormatW
import Derived.Test.YthmeagmabidniaaDoorParseW
import Derived.Test.YthmeagmabidniaaDoorReadW
import Derived.Test.YthmeagmabidniaaDoorSealW
import Derived.Test.YthmeagmabidniaaDoorVerifyW
import Derived.Laws.IdiomStrings
import Derived.WalkKit
import Derived.WalkLawsBesides
import Derived.SevenTiedAt
import Derived.StillTailTactics
namespace Go.Proofs.YthmeagmabidniaaDoor
open Go.ChangeShapes Go.WideShapes Go.ChangeAt Go.RowKit
open Go.ChangeMaps (open_string shut_string)

namespace StringsP
open NumW FormatW SealW Seal VerifyW Parse ParseW ReadNumW Tell DrawD

theorem maxLen_some (w : World) (h : w.ShapedOpen Tryd.prog) : ∃ m, w.cell? ⟨2, 0, none⟩ = some (.int .i64 m) := 
  cell_of_shapedOpen_int (zero := #[.int .i64 0]) (t := 3) h (of_decide_eq_true (by kernel_rfl)) (by kernel_rfl) rfl (by kernel_rfl) (by kernel_rfl) Tryd.underlying3

theorem var_kept {P : Program} {W W' : World} {n : String} {cs : Array Value} (h : Below W.heap.size W W') (hv : W.var? P n = some cs) : W'.var? P n = some cs := by
  unfold World.var? at hv ⊢
  obtain ⟨g, hg, hv'⟩ := Option.bind_eq_some_iff.1 hv
  refine Option.bind_eq_some_iff.2 ⟨g, hg, ?_⟩
  have hlt : g < W.heap.size := by
    rcases Nat.lt_or_ge g W.heap.size with h1 | h1
    · exact h1
    · rw [Array.getElem?_eq_none h1] at hv'
      cases hv'
  rw [h.block g hlt]
  exact hv'

/-- What formatting hands back. -/
def fmtS (z : Int) : ByteArray := if -999999 ≤ z ∧ z ≤ 999999 then ⟨(Lib.itoa z).toArray⟩ else ⟨#[]⟩
def fmtB (z : Int) : Bool := decide (-999999 ≤ z ∧ z ≤ 999999)
theorem specFmt (z : Int) (w : World) : Calls Tryd.prog 11 #[.int .i64 z] w fun e w' => e = .returned (.tuple #[.string (fmtS z), .bool (fmtB z)]) ∧ Below w.heap.size w w' := by
  by_cases h : -999999 ≤ z ∧ z ≤ 999999
  · refine (specFormat_yes z w h.1 h.2).mono fun e w' ⟨he, q, hq⟩ => ⟨?_, hq ▸ below_drewN (Below.refl _ _) q⟩
    rw [he]; unfold fmtS fmtB; rw [if_pos h, decide_eq_true h]
  · refine (specFormat_no z w (by omega)).mono fun e w' ⟨he, hq⟩ => ⟨?_, hq ▸ Below.refl _ _⟩
    rw [he]; unfold fmtS fmtB; rw [if_neg h, decide_eq_false h]
theorem implFmt (z : Int) (w : World) (htab : Lib.TabIs Tryd.prog w "internal/strconv.uint64pow10" .u64 Lib.pow10Tab) : Calls Tryd.prog 10 #[.int .i64 z] w fun e w' => e = .returned (.tuple #[.string (fmtS z), .bool (fmtB z)]) ∧ Below w.heap.size w w' := by
  by_cases h : -999999 ≤ z ∧ z ≤ 999999
  · refine (implFormat_yes z w h.1 h.2 htab).mono fun e w' ⟨he, hb⟩ => ⟨?_, hb⟩
    rw [he]; unfold fmtS fmtB; rw [if_pos h, decide_eq_true h]
  · refine (implFormat_no z w (by omega)).mono fun e w' ⟨he, hq⟩ => ⟨?_, hq ▸ Below.refl _ _⟩
    rw [he]; unfold fmtS fmtB; rw [if_neg h, decide_eq_false h]
theorem fmt_size (z : Int) : (fmtS z).size ≤ 30 := by
  unfold fmtS
  split
  · rw [size_toArray]
    have := Lib.itoa_length_le z (by omega) (by omega)
    omega
  · simp [ByteArray.size]
theorem fmt_back (z : Int) (h : fmtB z = true) : parseV (fmtS z).data.toList = .tuple #[.int .i64 z, .bool true] := by
  have h' : -999999 ≤ z ∧ z ≤ 999999 := of_decide_eq_true h
  unfold fmtS
  rw [if_pos h']
  exact parseV_some (parseR_itoa h'.1 h'.2)

theorem bytes_made (l : List UInt8) (w : World) : ∃ cap W, (convert 9 22 (.string ⟨l.toArray⟩)).run Tryd.prog w = .ok (.slice (some ⟨w.heap.size, 0, none⟩) l.length cap) W ∧
    (∀ j (h : j < l.length), W.cell? ⟨w.heap.size, j, none⟩ = some (.int .u8 (l[j].toNat : Int))) ∧ (∀ j, j < l.length → W.frozen? ⟨w.heap.size, j, none⟩ = false) ∧ Below w.heap.size w W ∧ W.heap.size = w.heap.size + 1 := by
  have hr := run_bytes_of_string (P := Tryd.prog) w 9 22 5 ⟨l.toArray⟩ Tryd.underlying9 Tryd.underlying22 Tryd.underlying5
  rw [show (ByteArray.mk l.toArray).size = l.length from size_toArray l] at hr
  refine ⟨_, _, hr, fun j hj => ?_, fun j hj => ?_, (Below.refl _ _).drew.alloc (Nat.le_refl _) _, by simp⟩
  · refine (World.cell?_alloc_mark w.drew _ _ _ j).trans ?_
    exact bytesRow_at ⟨l.toArray⟩ _ j (by simpa using hj)
  · refine (World.frozen?_alloc_mark w.drew _ _ _ _ j).trans ?_
    have hs : l.length ≤ (bytesRow ⟨l.toArray⟩ (grownCap w l.length 0 5)).size := by
      unfold bytesRow
      simp
    rw [decide_eq_false (by omega), Bool.false_and]

theorem xor_byte (a : UInt8) (m : Nat) : ∃ v : UInt8, v ≠ a ∧ bits .xor .u8 (a.toNat : Int) (1 + (m : Int) % 255) = (v.toNat : Int) := by
  have h1 := a.toNat_lt
  have h2 : 1 + m % 255 < 256 := by omega
  have hx : a.toNat ^^^ (1 + m % 255) < 256 := Nat.xor_lt_two_pow (n := 8) h1 h2
  refine ⟨UInt8.ofNat (a.toNat ^^^ (1 + m % 255)), fun e => ?_, ?_⟩
  · have e1 := congrArg UInt8.toNat e
    rw [UInt8.toNat_ofNat', Nat.mod_eq_of_lt hx] at e1
    have e2 : a.toNat ^^^ (a.toNat ^^^ (1 + m % 255)) = a.toNat ^^^ a.toNat := by rw [e1]
    rw [← Nat.xor_assoc, Nat.xor_self, Nat.zero_xor] at e2
    omega
  · rw [show (1 : Int) + (m : Int) % 255 = ((1 + m % 255 : Nat) : Int) by omega, u8_xor_nat _ _ h1 h2, UInt8.toNat_ofNat', Nat.mod_eq_of_lt hx]

theorem bytes_back (l : List UInt8) (k : Nat) (_hk : k < l.length) (v : UInt8) (g cap : Nat) (w : World) (hc : ∀ j (h : j < l.length), w.cell? ⟨g, j, none⟩ = some (.int .u8 (l[j].toNat : Int))) :
    (convert 22 9 (.slice (some ⟨g, 0, none⟩) l.length cap)).run Tryd.prog (w.setCell ⟨g, k, none⟩ (.int .u8 (v.toNat : Int))) = .ok (.string ⟨(l.set k v).toArray⟩) (w.setCell ⟨g, k, none⟩ (.int .u8 (v.toNat : Int))) := by
  have := run_convert_bytes_back (P := Tryd.prog) (w.setCell ⟨g, k, none⟩ (.int .u8 (v.toNat : Int))) 22 9 5 ⟨g, 0, none⟩ cap (l.set k v) Tryd.underlying22 Tryd.underlying5 Tryd.underlying9 (fun j hj => by
    rw [List.length_set] at hj
    rw [add_plain, Nat.zero_add]
    by_cases h : k = j
    · subst h
      rw [World.cell?_setCell_same _ _ _ (hc k hj)]
      simp
    · rw [World.cell?_setCell_other _ _ _ _ (by simp), hc j hj, List.getElem_set_ne h])
  rwa [List.length_set] at this
theorem told_set {x l : List UInt8} {k : Nat} {v : UInt8} (h35 : (35 : UInt8) ∉ x) (hl : l = sealed x) (hk : k < l.length) (hv : l[k] ≠ v) : verR (l.set k v) = none := by
  have e : l = l.take k ++ l[k] :: l.drop (k + 1) := by
    rw [List.getElem_cons_drop, List.take_append_drop]
  rw [List.set_eq_take_append_cons_drop, if_pos hk]
  exact told h35 (e.symm.trans hl) hv

theorem law_big (A : Option Addr) (n c : Nat) (w : World) (h : 65536 < n) (hn : n ≤ maxLen) :
    Calls Tryd.prog 3 #[.slice A n c] w fun e w' => e = .returned (.bool true) ∧ Below w.heap.size w w' := by
  have H := Lib.hid (big_yes A n c w h hn)
  go_enter Tryd.func3, Tryd.ntmps3
  go_wp2_with fail
  refine H.out.mono ?_
  rintro e w1 ⟨rfl, rfl⟩
  go_wp2_with fail
  go_ret
  exact ⟨rfl, Below.refl _ _⟩

set_option maxRecDepth 100000 in
set_option maxHeartbeats 4000000 in
theorem law_small (A : Option Addr) (n c : Nat) (w : World) (hc : CurD.Code w w.heap.size A n) (h : ¬ 65536 < n) (htab : Lib.TabIs Tryd.prog w "internal/strconv.uint64pow10" .u64 Lib.pow10Tab) (hsh : w.ShapedOpen Tryd.prog)
    (hv : (∃ tp p, w.var? Tryd.prog "strconv.ErrSyntax" = some #[.iface tp p]) ∧ ∃ tp p, w.var? Tryd.prog "strconv.ErrRange" = some #[.iface tp p]) :
    Calls Tryd.prog 3 #[.slice A n c] w fun e w' => e = .returned (.bool true) ∧ Below w.heap.size w w' := by
  have hn : n ≤ maxLen := by unfold maxLen; omega
  obtain ⟨⟨tp1, p1, hv1⟩, tp2, p2, hv2⟩ := hv
  obtain ⟨m, hm⟩ := maxLen_some w hsh
  have hlt : 2 < w.heap.size := World.block_lt_of_cell? _ _ hm
  have ht := Lib.tabBelow_of_tabIs htab
  have Hbig := Lib.hid (fun w => big_no A n c w h)
  have Hc := Lib.hid (fun w1 (hb : Below w.heap.size w w1) => show CurD.Code w1 w1.heap.size A n from (hc.below hb).mono hb.size)
  have Hdf := Lib.hid (fun w h => drawFormat_any A n c w h hn)
  have Hdp := Lib.hid (fun w h => drawParse_any A n c w h hn)
  have Hda := Lib.hid (fun w h => drawAppend_any A n c w h hn)
  have Hva := Lib.hid (fun i w (h' : CurD.Code w w.heap.size A n) hi => vAt_any A n c i w h' (by omega) hi)
  have Hfi := Lib.hid (fun z w1 (hb : Below w.heap.size w w1) => implFmt z w1 (ht _ hb))
  have Hfs := Lib.hid specFmt
  have Hpi := Lib.hid (fun s w1 hs (hb : Below w.heap.size w w1) => implParse_any s w1 hs (ht _ hb) tp1 p1 (var_kept hb hv1) tp2 p2 (var_kept hb hv2))
  have Hps := Lib.hid (fun s w hs => specParse_any s w hs)
  have Hai := Lib.hid (fun s w1 hs (hb : Below w.heap.size w w1) => implApp_any s w1 hs (ht _ hb))
  have Has := Lib.hid (fun s w hs => specApp_any s w hs)
  have Hvi := Lib.hid (fun s w1 hs (hb : Below w.heap.size w w1) => implVer_any s m w1 hs ((hb.cell (p := ⟨2, 0, none⟩) hlt).trans hm) (ht _ hb))
  clear hc htab hsh hv1 hv2 ht hm hlt
  go_enter Tryd.func3, Tryd.ntmps3
  go_wp2_with fail
  refine (Hbig.out _).mono ?_
  rintro e w0 ⟨rfl, rfl⟩
  go_wp2_with fail
  refine (Hdf.out _ (Hc.out _ (Below.refl _ _))).mono ?_
  rintro e w1 ⟨⟨z, hz0, hz1, rfl⟩, hb1⟩
  have Hb1 := Lib.hid hb1; clear hb1
  go_wp2_with fail
  refine (Hfi.out z _ Hb1.out).mono ?_
  rintro e w2 ⟨rfl, hb2⟩
  have Hb2 := Lib.hid (Hb1.out.trans (hb2.mono Hb1.out.size)); clear hb2
  go_wp2_with fail
  refine (Hfs.out z _).mono ?_
  rintro e w3 ⟨rfl, hb3⟩
  have Hb3 := Lib.hid (Hb2.out.trans (hb3.mono Hb2.out.size)); clear hb3
  go_wp2_with fail
  refine (Hdp.out _ (Hc.out _ Hb3.out)).mono ?_
  rintro e w4 ⟨⟨t, hts, rfl⟩, hb4⟩
  have Hb4 := Lib.hid (Hb3.out.trans (hb4.mono Hb3.out.size)); clear hb4
  obtain ⟨pn, pb, hpv⟩ : ∃ pn pb, parseV t.data.toList = .tuple #[.int .i64 pn, .bool pb] := ⟨_, _, rfl⟩
  go_wp2_with fail
  refine (Hpi.out t _ (by omega) Hb4.out).mono ?_
  rw [hpv]
  rintro e w5 ⟨rfl, hb5⟩
  have Hb5 := Lib.hid (Hb4.out.trans (hb5.mono Hb4.out.size)); clear hb5
  go_wp2_with fail
  refine (Hps.out t _ (by omega)).mono ?_
  rw [hpv]
  rintro e w6 ⟨rfl, q6, rfl⟩
  have Hb6 := Lib.hid (below_drewN Hb5.out q6); clear hpv
  go_wp2_with fail
  refine (Hda.out _ (Hc.out _ Hb6.out)).mono ?_
  rintro e w7 ⟨⟨x, hxs, rfl⟩, hb7⟩
  have Hb7 := Lib.hid (Hb6.out.trans (hb7.mono Hb6.out.size)); clear hb7
  obtain ⟨ys, yb, hya⟩ : ∃ ys yb, appV x.data.toList = .tuple #[.string ys, .bool yb] := ⟨_, _, rfl⟩
  go_wp2_with fail
  refine (Hai.out x _ (by omega) Hb7.out).mono ?_
  rw [hya]
  rintro e w8 ⟨rfl, hb8⟩
  have Hb8 := Lib.hid (Hb7.out.trans (hb8.mono Hb7.out.size)); clear hb8
  go_wp2_with fail
  refine (Has.out x _ (by omega)).mono ?_
  rw [hya]
  rintro e w9 ⟨rfl, q9, rfl⟩
  have Hb9 := Lib.hid (below_drewN Hb8.out q9)
  obtain ⟨bn, bb, hbv⟩ : ∃ bn bb, parseV (fmtS z).data.toList = .tuple #[.int .i64 bn, .bool bb] := ⟨_, _, rfl⟩
  have hfz := fmt_size z
  go_wp2_with fail
  refine (Hpi.out _ _ (by omega) Hb9.out).mono ?_
  rw [hbv]
  rintro e w10 ⟨rfl, hb10⟩
  have Hb10 := Lib.hid (Hb9.out.trans (hb10.mono Hb9.out.size)); clear hb10
  have hback : fmtB z = true → bb = true ∧ bn = z := fun e => by
    have := fmt_back z e
    rw [hbv] at this
    simpa [and_comm] using this
  have Hback := Lib.hid hback; clear hback hbv hfz
  generalize fmtB z = fb at Hback ⊢
  generalize fmtS z = fs at ⊢
  have Hfb : Hid (fb = false ∨ (fb = true ∧ bb = true ∧ bn = z)) := by
    cases fb
    · exact .inl rfl
    · exact .inr ⟨rfl, Hback.out rfl⟩
  clear Hback
  cases happ : appR x.data.toList with
  | none =>
    rw [appV_none happ] at hya
    obtain ⟨rfl, rfl⟩ : ys = ⟨#[]⟩ ∧ yb = false := by simpa [eq_comm] using hya
    clear hya happ
    rcases Hfb.out with rfl | ⟨rfl, rfl, rfl⟩
    all_goals
      clear Hfb
      go_wp2_with fail
      go_ret
      exact ⟨rfl, Hb10.out⟩
  | some l =>
    obtain ⟨h35, hl, hver⟩ := app_ver happ
    have hl4 := (app_some happ).2
    have hl0 : 0 < l.length := by rw [hl, sealed_len]; omega
    rw [appV_some happ] at hya
    obtain ⟨rfl, rfl⟩ : ys = ⟨l.toArray⟩ ∧ yb = true := by simpa [eq_comm] using hya
    have hvv : verV (ByteArray.mk l.toArray).data.toList = .tuple #[.string x, .bool true] := by
      rw [show (ByteArray.mk l.toArray).data.toList = l from rfl, verV_some hver]
    have Hl := Lib.hid hl; have H35 := Lib.hid h35
    have hsz : (ByteArray.mk l.toArray).size = l.length := size_toArray l
    clear hya happ hl h35 hver
    rcases Hfb.out with rfl | ⟨rfl, rfl, rfl⟩
    all_goals
      clear Hfb
      go_wp2_with fail
      refine (Hvi.out _ _ (by rw [hsz]; omega) Hb10.out).mono ?_
      rw [hvv]
      rintro e w11 ⟨rfl, hb11⟩
      have Hb11 := Lib.hid (Hb10.out.trans (hb11.mono Hb10.out.size)); clear hb11
      obtain ⟨cap, w12, hcv, hcell, hfroz, hb12, hs12⟩ := bytes_made l w11
      have Hcell := Lib.hid hcell; have Hfroz := Lib.hid hfroz; clear hcell hfroz
      have Hb12 := Lib.hid (Hb11.out.trans (hb12.mono Hb11.out.size)); clear hb12
      go_wp2_with fail
      obtain ⟨m9, hm9, hv9⟩ := vAt_val A n c 9 w12 (Hc.out _ Hb12.out) (by omega) (by omega)
      obtain ⟨m10, hm10, hv10⟩ := vAt_val A n c 10 w12 (Hc.out _ Hb12.out) (by omega) (by omega)
      have Hv10 := Lib.hid (fun w1 (hb : Below w12.heap.size w12 w1) => hv10 w1 hb); clear hv10
      refine (hv9 w12 (Below.refl _ _)).mono ?_
      clear hv9
      rintro e w13 ⟨rfl, rfl⟩
      have q9 : (l.length : Int) ≠ 0 := by omega
      have q8 : (0 : Int) ≤ (m9 : Int) := by omega
      obtain ⟨k, hk, hkl⟩ : ∃ k : Nat, (m9 : Int) % (l.length : Int) = k ∧ k < l.length := ⟨m9 % l.length, by simp, Nat.mod_lt _ hl0⟩
      obtain ⟨a, ha⟩ : ∃ a, l[k] = a := ⟨_, rfl⟩
      obtain ⟨v, hv, hvx⟩ := xor_byte a m10
      have hck := Hcell.out k hkl
      rw [ha] at hck
      have Ha := Lib.hid ha; clear ha
      have hfk := Hfroz.out k hkl
      have qk0 : (0 : Int) ≤ (k : Int) := by omega
      have qk1 : (k : Int) < (l.length : Int) := by omega
      have Hv := Lib.hid hv; clear hv
      go_wp2_with fail
      simp only [hk]
      clear hk q8 q9 hcv hsz hs12
      have qm0 : (0 : Int) ≤ (m10 : Int) := by omega
      have qm1 : (0 : Int) ≤ 1 + (m10 : Int) % 255 := by omega
      have qm2 : 1 + (m10 : Int) % 255 ≤ 255 := by omega
      have qm3 : IntKind.u8.wrap (1 + (m10 : Int) % 255) = 1 + (m10 : Int) % 255 := by rw [IntKind.wrap_u8]; omega
      have Hs10 : Hid (Calls Tryd.prog 19 #[.slice A n c, .int .i64 (10 : Nat)] w12.drew fun e w' => e = .returned (.int .i64 m10) ∧ w' = w12.drew) :=
        (Hv10.out w12.drew ((Below.refl _ _).drew)).mono fun e w' ⟨he, hw⟩ => ⟨he, hw.symm⟩
      refine wp_region_still_tail 12 (by kernel_rfl) (by kernel_rfl) ?_
      simp only [List.take_succ_cons, List.take_zero, List.drop_succ_cons, List.drop_zero]
      repeat still_step
      still_call Hs10.out
      repeat still_step
      refine wpStill_nil ?_
      change wpList _ _ _ _ _ w12.drew
      have hU : bits .xor .u8 (a.toNat : Int) (IntKind.u8.wrap (IntKind.i64.wrap (1 + (m10 : Int).tmod 255))) = (v.toNat : Int) := by
        rw [Int.tmod_eq_emod_of_nonneg qm0, IntWalk.i64_in _ (by omega), qm3, hvx]
      try rw [hU]
      obtain ⟨w15, hw15⟩ : ∃ w15, w12.drew = w15 := ⟨_, rfl⟩
      have hbk := bytes_back l k hkl v w11.heap.size cap w15 (fun j hj => by rw [← hw15]; exact Hcell.out j hj)
      have hck' : w15.cell? ⟨w11.heap.size, k, none⟩ = some (.int .u8 (a.toNat : Int)) := by rw [← hw15]; exact hck
      have hfk' : w15.frozen? ⟨w11.heap.size, k, none⟩ = false := by rw [← hw15]; exact hfk
      have Hb15 : Hid (Below w.heap.size w (w15.setCell ⟨w11.heap.size, k, none⟩ (.int .u8 (v.toNat : Int)))) := by
        rw [← hw15]; exact (Hb12.out.drew).setCell Hb11.out.size _
      rw [hw15]
      have hno : verV (ByteArray.mk (l.set k v).toArray).data.toList = .tuple #[.string ⟨#[]⟩, .bool false] := by
        rw [show (ByteArray.mk (l.set k v).toArray).data.toList = l.set k v from rfl]
        exact verV_none (told_set H35.out Hl.out hkl (by rw [Ha.out]; exact Hv.out.symm))
      have hsz' : (ByteArray.mk (l.set k v).toArray).size = l.length := by rw [size_toArray, List.length_set]
      clear hck hfk hw15 hvx hU qm1 qm2 qm3
      go_wp2_with fail
      refine (Hvi.out _ _ (by rw [hsz']; omega) Hb15.out).mono ?_
      rw [hno]
      rintro e w16 ⟨rfl, hb16⟩
      have Hb16 := Lib.hid (Hb15.out.trans (hb16.mono Hb15.out.size)); clear hb16 hno hbk hck' hfk' hsz' hvv
      go_wp2_with fail
      go_ret
      exact ⟨rfl, Hb16.out⟩

theorem law_any (A : Option Addr) (n c : Nat) (w : World) (hc : CurD.Code w w.heap.size A n) (hn : n ≤ maxLen) (htab : Lib.TabIs Tryd.prog w "internal/strconv.uint64pow10" .u64 Lib.pow10Tab) (hsh : w.ShapedOpen Tryd.prog)
    (hv : (∃ tp p, w.var? Tryd.prog "strconv.ErrSyntax" = some #[.iface tp p]) ∧ ∃ tp p, w.var? Tryd.prog "strconv.ErrRange" = some #[.iface tp p]) :
    Calls Tryd.prog 3 #[.slice A n c] w fun e w' => e = .returned (.bool true) ∧ Below w.heap.size w w' := by
  by_cases h : 65536 < n
  · exact law_big A n c w h hn
  · exact law_small A n c w hc h htab hsh hv

theorem laidOut : laidOutB Tryd.prog = true := by kernel_rfl
/-- What the walk gives, for every argument. -/
theorem contract (H : Type) (enc : TypeId × Value → H) (W : World) (base : Nat) (args : Array Value) (ds gs : List (DataW H)) (before : List MemPlace)
    (hval : ∀ (j : Nat) t v, Tryd.f3.params[j]? = some t → args[j]? = some v → Value.okWide Tryd.prog W .any base t v)
    (hW : DataW.Whole enc Tryd.prog Tryd.f3.params.toList Rows.fnStringsSpec.vars false W args.toList ds gs before) (hL : laidMetH Tryd.prog Rows.fnStringsRow.laid W) (hsh : W.ShapedOpen Tryd.prog) :
    Calls Tryd.prog 3 args W fun e W' => ∃ v, e = .returned v ∧ Rows.fnStringsSpec.post enc Tryd.prog Tryd.f3 false true false false W args v W' := by
  rw [MakeChecks.laidMetH_plain _ _ _ (by kernel_rfl)] at hL
  have htab := LaidC.tab_of hL
  have hW' := hW
  obtain ⟨p, q, hA0, hV, rfl, hfz, hnd⟩ := hW
  have hA : DataW.TrodAll enc Tryd.prog W 0 (fun _ => true) true Tryd.f3.params.toList args.toList ds p := hA0
  rw [Tryd.params3] at hA hval
  obtain ⟨v0, vs0, d0, ds0, p0, q0, hargs, rfl, rfl, h0, r0⟩ := trodAll_cons hA
  obtain ⟨rfl, rfl, rfl⟩ := trodAll_nil r0
  obtain rfl : args = #[v0] := by cases args; simp_all
  obtain ⟨rfl, rfl⟩ := trodVars_none hV
  obtain ⟨A0, n0, c0, rfl⟩ := okWide_slice Tryd.underlying22 (hval 0 22 v0 rfl rfl)
  have k0 := h0
  have lt0 : ∀ x ∈ p0, x.block < W.heap.size := fun x hx => by have := hW'.lt x (by simp [hx]); simpa using this
  obtain ⟨fu0, hf0⟩ := h0
  obtain ⟨ht0, hc0, hm0⟩ := OpenB.code_of hf0 lt0
  clear hA0
  simp only [List.append_nil] at hW'
  refine (law_any A0 n0 c0 W ht0 (Nat.le_trans hc0 hm0) htab hsh (LaidC.errs_of hL)).mono fun e W' ⟨he, hg⟩ => ?_
  subst he
  exact ⟨_, rfl, _, _, _, [], (p0 ++ []), [], hW', trodAll_cons_mk (shut_bool Tryd.underlying4 _) trodAll_mk0, trodAll_cons_mk (Below.trod laidOut (by kernel_rfl) (of_decide_eq_true (by kernel_rfl)) k0 hg lt0) trodAll_mk0, rfl, hg.frame _, fun h => by cases h⟩

theorem laid_met (os : Os) : laidMetH Tryd.prog Rows.fnStringsRow.laid ((World.doorLaid Tryd.prog 62 os).forCall (fun _ _ => 0) ⟨#[], #[.slice none 0 0], []⟩).memory := by
  rw [MakeChecks.laidMetH_plain _ _ _ (by kernel_rfl)]
  exact laidMet_of_run' 8 (by kernel_rfl) (by kernel_rfl)
theorem reads (os : Os) {H : Type} (enc : TypeId × Value → H) : ∃ places, DataW.whole enc Tryd.prog ((World.doorLaid Tryd.prog 62 os).forCall (fun _ _ => 0) ⟨#[], #[.slice none 0 0], []⟩).memory Tryd.f3.params.toList Rows.fnStringsSpec.vars false (#[.slice none 0 0] : Array Value).toList 8 = some ([.nil], [], places) :=
  ⟨[], by kernel_rfl⟩

set_option maxRecDepth 100000 in
theorem lifted (os : Os) (started : os.Started) (H : Type) (enc : TypeId × Value → H) (F : Stop.Interp) :
    ReturnsInHanded {} Tryd.checked os 3 .any ((OpenSpec.ofChange Rows.fnStringsSpec).preRow enc Tryd.prog Tryd.f3 Rows.fnStringsRow.domain false Rows.fnStringsRow.laid) (((OpenSpec.ofChange Rows.fnStringsSpec).at F).post enc Tryd.prog Tryd.f3 false true false false) := by
  obtain ⟨places, hx⟩ := reads os enc
  refine returnsInHanded_of_row (C := Tryd.checked) (s := OpenSpec.ofChange Rows.fnStringsSpec) LaidC.own started (by kernel_rfl) Tryd.func3
    (witness_row_atRef (enc := enc) (C := Tryd.checked) false (World.doorLaid Tryd.prog 62 os) #[.slice none 0 0] rfl (by kernel_rfl) (by kernel_rfl) (by kernel_rfl)
      (OpenSpec.preRow_of_cond 8 hx (by kernel_rfl) (fun k hk => by cases hk) (by kernel_rfl) (laid_met os))) ?_
  intro W base args ds gs before hval hW _ _ _ hL hsh _
  exact contract H enc W base args ds gs before hval hW hL hsh

theorem said : Rows.FnStringsSaid :=
  OpenClaim.holds_of_cond 3 Tryd.f3 rfl rfl rfl rfl rfl rfl rfl ⟨rfl, rfl, rfl, rfl, rfl⟩ rfl rfl rfl rfl rfl (by kernel_rfl) Tryd.func3 (by kernel_rfl)
    (of_decide_eq_true (by kernel_rfl)) (by unfold Func.isWrapper; rw [if_neg (by decide +kernel)]; exact ⟨rfl, rfl⟩)
    (fun os started H enc _ F => by rw [OpenClaim.pre_eq_preRow]; exact lifted os started H enc F)

theorem plain (f : FuncId) (fn : Func) (hf : Tryd.pinned.checked.prog.funcNamed "loop.example/g01210/laws.FnStrings" = some f) (hfn : Tryd.pinned.checked.prog.funcs[f]? = some fn) :
    true = Tryd.pinned.checked.prog.looks [] ∧ ∀ (j : Nat) t, fn.params[j]? = some t → Tryd.pinned.checked.prog.wantsStandIn t = false := by
  obtain rfl : f = 3 := Option.some.inj ((show Tryd.prog.funcNamed "loop.example/g01210/laws.FnStrings" = some 3 by kernel_rfl).symm.trans hf) |>.symm
  obtain rfl : fn = Tryd.f3 := (Option.some.inj (Tryd.func3.symm.trans hfn)).symm
  refine ⟨by kernel_rfl, fun j t ht => ?_⟩
  rw [Tryd.params3] at ht
  have hm : t ∈ [22] := by simpa using Array.mem_of_getElem? ht
  have hall : ([22].all fun u => !Tryd.prog.wantsStandIn u) = true := by kernel_rfl
  exact (show Tryd.prog.wantsStandIn t = false by simpa using List.all_eq_true.1 hall t hm)

theorem card : Rows.FnStringsCardSaid :=
  Claim7.holds_tied_plain_at .later [] _ _ _ _ said (fun _ h => by cases h) (by kernel_rfl) (fun _ h => by cases h) fnStrings_row_tie rfl ⟨rfl, rfl⟩ (by kernel_rfl) rfl plain (by kernel_rfl)

end StringsP
end Go.Proofs.YthmeagmabidniaaDoor
