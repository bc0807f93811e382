/-
  The contract of the draw of a list of texts and a sign: some list of few short texts.
-/
import Derived.Test.YthmeagmabidniaaCurW
import Derived.Test.YthmeagmabidniaaSplitW
namespace Go.Proofs.Ythmeagmabidniaa
open Go.RowKit

namespace DrawJ
open CurW SplitW Texts

def signs : List (List UInt8) := [[44], [59], [59], [], [97, 98]]
/-- Few texts, and short ones. -/
def Few (K : Nat) (ps : List (List UInt8)) : Prop := ps.length ≤ K ∧ lens ps ≤ 10 * K
theorem Few.snoc {K : Nat} {ps : List (List UInt8)} (h : Few K ps) {q : List UInt8} (hq : q.length ≤ 10) : Few (K + 1) (ps ++ [q]) := by
  obtain ⟨h1, h2⟩ := h
  unfold Few lens at *
  simp only [List.length_append, List.length_cons, List.length_nil, List.map_append, List.sum_append, List.map_cons, List.map_nil, List.sum_cons, List.sum_nil]
  omega
theorem size_toArray (q : List UInt8) : (ByteArray.mk q.toArray).size = q.length := by simp [ByteArray.size]

theorem own_went {w w' : World} {p K n c k : Nat} {A : Option Addr} {v : Value} {t : TypeId} {xs : List Value} (h : w.ownsRow (p + 1) t 1 v k xs) (hw : Went p K A n c w w') : w'.ownsRow (p + 1) t 1 v k xs := by
  refine h.kept hw.2.grownBy ?_
  rcases h.2 with ⟨rfl, _⟩ | ⟨g, cap, _, rfl, hg, _⟩
  · exact .inl rfl
  · exact .inr (by simp [Value.ownBlock]; omega)

theorem own_slice {w : World} {B k : Nat} {v : Value} {t : TypeId} {xs : List Value} (h : w.ownsRow B t 1 v k xs) : ∃ L cp, v = .slice L k cp := by
  rcases h.2 with ⟨rfl, rfl⟩ | ⟨g, cap, _, rfl, _⟩
  · exact ⟨_, _, rfl⟩
  · exact ⟨_, _, rfl⟩
theorem signs_len {q : List UInt8} (h : q ∈ signs) : q.length ≤ 10 := by
  have : ∀ q ∈ signs, q.length ≤ 10 := by decide
  exact this q h
theorem tail_below (w : World) : Below w.heap.size w (w.alloc (.cells (signs.map fun q => Value.string ⟨q.toArray⟩).toArray 9)) := (Below.refl _ _).alloc (Nat.le_refl _) _
theorem info_u8 : (Try.prog.info? 5).map (fun i => (i.zero, i.size, i.bytes)) = some (some (.int .u8 0), 1, 1) := by kernel_rfl
/-- So many zero bytes, made and turned into a text. -/
theorem zeros (w : World) (L : Nat) (hL : L ≤ 8192) : ∃ (C : Array Value) (r : ByteArray), r.size = L ∧
    (Instr.makeSlice 22 (.int .i64 (L : Int)) (.int .i64 (L : Int))).run Try.prog w = .ok (.slice (some ⟨w.heap.size, 0, none⟩) L L) (w.alloc (.cells C 5)) ∧
    (convert 22 9 (.slice (some ⟨w.heap.size, 0, none⟩) L L)).run Try.prog (w.alloc (.cells C 5)) = .ok (.string r) (w.alloc (.cells C 5)) := by
  obtain ⟨i0, hi, hz0, hz1, hz2⟩ := info_parts info_u8
  have hmk := run_make (P := Try.prog) w 22 5 i0 (.int .u8 0) Try.underlying22 hi hz0 .i64 .i64 L L (by omega) (Int.le_refl _) (by rw [hz2]; omega) (by omega)
  simp only [Int.toNat_natCast, hz1, Nat.mul_one] at hmk
  refine ⟨_, strOfNums (List.replicate L 0), by rw [strOfNums_size, List.length_replicate], hmk, ?_⟩
  refine run_convert_bytes_arg _ 22 5 Try.underlying22 Try.underlying5 w.heap.size 0 L L _ (List.length_replicate ..) (fun i hi => ?_) 9 Try.underlying9
  rw [World.cell?_alloc_new, Nat.zero_add]
  rw [← Array.getElem?_toList, show (Value.int IntKind.u8 0).cells = #[Value.int .u8 0] from rfl, toList_madeCells_one]
  simp [hi]

theorem drawJoin_any (A : Option Addr) (n c : Nat) (w : World) (h : CurW.Code w w.heap.size A n) (hn : n ≤ maxLen) :
    Calls Try.prog 11 #[.slice A n c] w fun e w' =>
      (∃ L cp ps s, e = .returned (.tuple #[.slice L ps.length cp, .string s]) ∧ w'.ownsRow (w.heap.size + 1) 9 1 (.slice L ps.length cp) ps.length (ps.map strV) ∧ ps.length + lens ps ≤ 8192 ∧ s.size ≤ 10) ∧ Below w.heap.size w w' := by
  obtain ⟨i0, hi, hz0, hz1, hz2⟩ := info_parts info_str
  have hcur := Lib.hid (cur_made w A n c 44 h)
  have H := Lib.hid fun K w' (hc : Cur w' w.heap.size K A n c) hK => any1_any w.heap.size K A n c w' hc hK hn
  have Hp := Lib.hid fun K (k : Nat) w' (hc : Cur w' w.heap.size K A n c) hK h0 hk => pick_any w.heap.size K A n c k w' hc hK hn h0 hk
  have H1 := Lib.hid fun K (k : Nat) w' (hc : Cur w' w.heap.size K A n c) hK h0 hk => one_any w.heap.size K A n c k w' hc hK hn h0 hk
  have Ho := Lib.hid fun K g cp w' (hc : Cur w' w.heap.size K A n c) hK hg ht => of_any w.heap.size K A n c g cp signs w' hc hK hn (by decide) (by decide) hg ht
  clear h
  go_enter Try.func11, Try.ntmps11
  go_wp2_with fail
  have hb0 : Below (w.alloc (.cells #[.slice A n c, .int .i64 0, .int .u64 0] 44)).heap.size (w.alloc (.cells #[.slice A n c, .int .i64 0, .int .u64 0] 44)) _ := (Below.refl _ _).alloc (Nat.le_refl _) (.cells #[] 9)
  refine (Hp.out 0 4 _ (hcur.out.below hb0) (by omega) (by omega) (by omega)).mono ?_
  rintro e w1 ⟨⟨m, hm, rfl⟩, hw1⟩
  have Hw1 := Lib.hid hw1; clear hw1
  go_wp2_with fail
  go_loopw [5, 7] (fun v i wr => ∃ k ps, k ≤ m ∧ i = .int .i64 k ∧ ps.length = k ∧ Hid (Few k ps) ∧ wr.ownsRow (w.heap.size + 1) 9 1 v k (ps.map strV) ∧ Hid (Cur wr w.heap.size (1 + k) A n c) ∧ Below w.heap.size w wr)
    (fun _ i _ => m - (intOf i).toNat)
  case atStart =>
    refine ⟨0, [], Nat.zero_le _, rfl, rfl, ⟨Nat.le_refl _, Nat.le_refl _⟩, ?_, Hw1.out.1, ?_⟩
    · have ho := World.ownsRow_made (w.alloc (.cells #[.slice A n c, .int .i64 0, .int .u64 0] 44)) (e := 9) (size := 1) (base := w.heap.size + 1) #[] 0 (by simp) (Nat.zero_le _) rfl
      simp only [World.size_alloc] at ho
      exact ho.kept Hw1.out.2.grownBy (.inr (by simp [Value.ownBlock]))
    · exact (((Below.refl _ _).alloc (Nat.le_refl _) _).alloc (by simp) _).trans (Hw1.out.2.below (Nat.le_refl _) (by simp; omega))
  case round =>
    obtain ⟨k, ps, hk, rfl, hl, hfew, hown, hc, hb⟩ := hrel
    by_cases hlt : k < m
    · go_wp2_with fail
      refine (H.out _ _ hc.out (by omega)).mono ?_
      rintro e w2 ⟨⟨q, hq, rfl⟩, hw2⟩
      have hown2 := own_went hown hw2
      have hb2 := hb.trans (hw2.2.below (Nat.le_refl _) hb.size)
      have hs2 := hb2.size
      have hs3 : w.heap.size < w2.heap.size := hw2.1.1
      have hf2 := Lib.hid (hfew.out.snoc (words_len hq))
      have Hw2 := Lib.hid hw2.1; clear hw2 hown hb hc hfew
      go_wp2_with (at_builtin; refine wpList_append_own _ rfl _ _ 26 rfl (w.heap.size + 1) 9 i0 (.string ByteArray.empty) 1 16 Try.underlying26 hi hz0 hz1 hz2 rfl (by decide) _ _ _ rfl (hown2.alloc _) ⟨w2.heap.size, 0, none⟩ 1 1 [.string ⟨q.toArray⟩] rfl rfl (cell_new _ _ _) (str_one _) ?c3 ?c4 ?c5 ?_)
      case c3 => unfold maxLen; omega
      case c4 => omega
      case c5 => simp; omega
      intro v' w3 hown' hgrow _
      have ho : w3.ownsRow (w.heap.size + 1) 9 1 v' (k + 1) ((ps ++ [q]).map strV) := by
        have := own_more (ps := ps) (p := q) (qs := ps ++ [q]) rfl rfl hl.symm hown'
        rwa [List.length_append, hl] at this
      have hb3 := (hb2.alloc hs2 _).grown hgrow (by simp; omega) (fun j hj => by have := (hown2.lt j hj).1; omega)
      have hc3 : Hid (Cur w3 w.heap.size (1 + (k + 1)) A n c) :=
        Hw2.out.upto (((Below.refl _ _).alloc (by omega) _).grown hgrow (by simp; omega) (fun j hj => (hown2.lt j hj).1))
      clear hown' hgrow hown2 hb2
      go_wp2_with fail
      go_roundw
      case rel => exact ⟨k + 1, ps ++ [q], by omega, by go_num, by simp [hl], hf2.out, ho, hc3, hb3⟩
      case measure => simp [intOf]; omega
    · go_wp2_with fail
      refine (H1.out _ 20 _ hc.out (by omega) (by omega) (by omega)).mono ?_
      rintro e w2 ⟨⟨b, rfl⟩, hw2⟩
      have hown2 := own_went hown hw2
      have hb2 := hb.trans (hw2.2.below (Nat.le_refl _) hb.size)
      have Hw2 := Lib.hid hw2.1; clear hw2 hown hb hc
      cases b
      · go_wp2_with fail
        have hs2 : w.heap.size < w2.heap.size := Hw2.out.1
        refine (Ho.out _ w2.heap.size 5 _ (Hw2.out.below (tail_below w2)) (by omega) (by omega) (TxB.made w2 signs _)).mono ?_
        rintro e w4 ⟨⟨q, hq, rfl⟩, hw4⟩
        have hown4 := Lib.hid (own_went (hown2.alloc _) hw4)
        have Hb4 := Lib.hid (hb2.trans ((tail_below w2).mono hb2.size |>.trans (hw4.2.below (Nat.le_refl _) (by simp; omega))))
        clear hw4 hown2 hb2
        go_wp2_with fail
        go_ret2
        obtain ⟨L, cp, rfl⟩ := own_slice hown4.out
        exact ⟨⟨L, cp, ps, ⟨q.toArray⟩, by rw [hl]; rfl, by rw [hl]; exact hown4.out, by have := hfew.out; unfold Few at this; omega, by rw [size_toArray]; exact signs_len hq⟩, Hb4.out⟩
      · go_wp2_with fail
        refine (Hp.out _ 20 _ Hw2.out (by omega) (by omega) (by omega)).mono ?_
        rintro e w3 ⟨⟨x, hx, rfl⟩, hw3⟩
        have hown3 := own_went hown2 hw3
        have hb3 := hb2.trans (hw3.2.below (Nat.le_refl _) hb2.size)
        have hs3 := hb3.size
        have hs4 : w.heap.size < w3.heap.size := hw3.1.1
        have Hw3 := Lib.hid hw3.1; clear hw3 hown2 hb2 Hw2
        obtain ⟨C, r, hr, hmk, hcv⟩ := zeros w3 (3990 + x) (by omega)
        rw [show ((3990 + x : Nat) : Int) = 3990 + (x : Int) by omega] at hmk
        go_wp2_with (at_builtin; refine wpList_append_own _ rfl _ _ 26 rfl (w.heap.size + 1) 9 i0 (.string ByteArray.empty) 1 16 Try.underlying26 hi hz0 hz1 hz2 rfl (by decide) _ _ _ rfl ((hown3.alloc _).alloc _) ⟨w3.heap.size + 1, 0, none⟩ 1 1 [.string r] rfl rfl (by have := cell_new (w3.alloc (.cells C 5)) (.string r) 9; simpa using this) (str_one _) ?c3 ?c4 ?c5 ?_)
        case c3 => unfold maxLen; omega
        case c4 => omega
        case c5 => simp; omega
        intro v' w5 hown' hgrow _
        have ho : w5.ownsRow (w.heap.size + 1) 9 1 v' (k + 1) ((ps ++ [r.data.toList]).map strV) := by
          have := own_more (ps := ps) (p := r.data.toList) (qs := ps ++ [r.data.toList]) (by unfold strV; simp) rfl hl.symm hown'
          rwa [List.length_append, hl] at this
        have hb5 := ((hb3.alloc hs3 _).alloc (by simp; omega) _).grown hgrow (by simp; omega) (fun j hj => by have := (hown3.lt j hj).1; omega)
        have hc5 := Lib.hid (Hw3.out.upto ((((Below.refl _ _).alloc (by omega) _).alloc (by simp; omega) _).grown hgrow (by simp; omega) (fun j hj => (hown3.lt j hj).1)))
        have hf5 : Hid ((ps ++ [r.data.toList]).length + lens (ps ++ [r.data.toList]) ≤ 8192) := by
          have := hfew.out
          unfold Few lens at *
          simp only [List.length_append, List.length_cons, List.length_nil, List.map_append, List.sum_append, List.map_cons, List.map_nil, List.sum_cons, List.sum_nil, size_data, hr, Hid]
          omega
        clear hown' hgrow hown3 hb3 hmk hcv
        go_wp2_with fail
        have hs5 : w.heap.size < w5.heap.size := hc5.out.1
        refine (Ho.out _ w5.heap.size 5 _ (hc5.out.below (tail_below w5)) (by omega) (by omega) (TxB.made w5 signs _)).mono ?_
        rintro e w4 ⟨⟨q, hq, rfl⟩, hw4⟩
        have hown4 := Lib.hid (own_went (ho.alloc _) hw4)
        have Hb4 := Lib.hid (hb5.trans ((tail_below w5).mono hb5.size |>.trans (hw4.2.below (Nat.le_refl _) (by simp; omega))))
        clear hw4 ho hb5
        go_wp2_with fail
        go_ret2
        obtain ⟨L, cp, rfl⟩ := own_slice hown4.out
        have hl' : (ps ++ [r.data.toList]).length = k + 1 := by simp [hl]
        exact ⟨⟨L, cp, ps ++ [r.data.toList], ⟨q.toArray⟩, by rw [hl']; rfl, by rw [hl']; exact hown4.out, hf5.out, by rw [size_toArray]; exact signs_len hq⟩, Hb4.out⟩

end DrawJ
end Go.Proofs.Ythmeagmabidniaa
