/- The statement TokenJoins, walked: for every row of tokens. -/
import Derived.Test.YtcikleomipbkmaaDoorQb
namespace Go.Proofs.YtcikleomipbkmaaDoor.tk
open Go.RowKit

set_option maxRecDepth 100000 in
set_option maxHeartbeats 4000000 in
theorem joins_long {w : World} {A : Option Addr} {n cb : Nat} (h : 60 < n) :
    Calls Tryd.prog 4 #[.slice A n cb] w fun e w' => e = .returned (.bool true) ∧ Hid (Below w.heap.size w w') := by
  have g5 : (60 : Int) < (n : Int) := by omega
  clear h
  go_enter Tryd.func4, Tryd.ntmps4
  go_wp2_with (go_at_call 5; refine (speaks_any w).mono ?_; rintro e w1 ⟨rfl, HB1⟩)
  go_ret
  exact ⟨rfl, HB1⟩

set_option maxRecDepth 100000 in
set_option maxHeartbeats 4000000 in
theorem joins_short {w : World} {A : Option Addr} {l : List Gt} {cb : Nat} (hsh : w.ShapedOpen Tryd.prog) (ha : Hid (Ta w A l)) (h : l.length ≤ 60) :
    Calls Tryd.prog 4 #[.slice A l.length cb] w fun e w' => e = .returned (.bool true) ∧ Hid (Below w.heap.size w w') := by
  obtain ⟨i0, hi, hz0, hz1, hz2⟩ := info_parts info_u8
  obtain ⟨i1, hj, hy0, hy1, hy2⟩ := info_parts info_tk
  have g5 : ¬ ((60 : Int) < (l.length : Int)) := by omega
  have HSH := Lib.hid hsh
  clear hsh
  go_enter Tryd.func4, Tryd.ntmps4
  go_upto_region 5 with (go_at_call 5; refine (speaks_any w).mono ?_; rintro e w1 ⟨rfl, HB1⟩)
  go_upto_region 6 with fail
  generalize hW : World.alloc (w1.alloc _) _ = W2
  have HX2 : Hid (Below w1.heap.size w1 W2) := Lib.hid (hW ▸ ((Below.refl _ _).alloc (Nat.le_refl _) _).alloc (by simp) _)
  have HOB2 : Hid (W2.ownsRow w1.heap.size 5 1 (.slice (some ⟨w1.heap.size, 0, none⟩) 0 0) 0 (Lib.byteCells [])) := Lib.hid (hW ▸ (World.ownsRow_made w1 (base := w1.heap.size) (e := 5) (size := 1) #[] 0 (Nat.le_refl _) (by unfold maxLen; omega) rfl).alloc _)
  have HOT2 : Hid (W2.ownsRow w1.heap.size 23 3 (.slice (some ⟨w1.heap.size + 1, 0, none⟩) 0 0) 0 (tkCells [])) := Lib.hid (by
    have := World.ownsRow_made (w1.alloc (.cells #[] 5)) (base := w1.heap.size) (e := 23) (size := 3) #[] 0 (by simp) (by unfold maxLen; omega) rfl
    rw [hW] at this
    have e : tkCells [] = [] := rfl
    rw [e]
    simpa using this)
  clear hW
  go_wp2_with fail
  go_loopw [3, 4, 20] (fun bv tv iv wr => ∃ (k n : Nat) (bs : List UInt8) (D : List Tk) (A4 : Option Addr) (c4 : Nat) (A5 : Option Addr) (c5 : Nat), k ≤ l.length ∧ iv = .int .i64 (k : Int) ∧ bv = .slice A4 n c4 ∧ tv = .slice A5 D.length c5 ∧ n ≤ k * 203 ∧ D.length ≤ k ∧ Hid (n = bs.length) ∧ Hid (Jn bs D) ∧ Hid (wr.ownsRow w1.heap.size 5 1 (.slice A4 n c4) n (Lib.byteCells bs)) ∧ Hid (wr.ownsRow w1.heap.size 23 3 (.slice A5 D.length c5) D.length (tkCells D)) ∧ Hid (Below w1.heap.size w1 wr)) (fun _ _ iv _ => l.length - (intOf iv).toNat)
  case atStart => exact ⟨0, 0, [], [], _, _, _, _, Nat.zero_le _, rfl, rfl, rfl, by omega, by simp, Lib.hid rfl, Lib.hid Jn.nil, HOB2, HOT2, HX2⟩
  case round =>
    clear HOB2 HOT2 HX2
    obtain ⟨k, n, bs, D, A4, c4, A5, c5, hk, rfl, rfl, rfl, hn, hD, HN, HJ, HOB, HOT, HX⟩ := hrel
    by_cases hlt : k < l.length
    · have g7 : (k : Int) < (l.length : Int) := by omega
      have HA := Lib.hid ((ha.out.below HB1.out).below HX.out)
      obtain ⟨K, S, P, b, off, rfl, q0, q1, q2⟩ := HA.out.at_ hlt
      clear HA
      go_upto_region 9 with fail
      generalize hW : wr.alloc _ = W3
      have HT3 : Hid (Bk W3 wr.heap.size 23 #[.int .i64 K, .string S, .int .i64 P]) := Lib.hid (hW ▸ Bk.new wr _ _)
      have HB3 : Hid (Below wr.heap.size wr W3) := Lib.hid (hW ▸ (Below.refl _ _).alloc (Nat.le_refl _) _)
      clear hW q0 q1 q2
      have HX3 : Hid (Below w1.heap.size w1 W3) := Lib.hid (HX.out.trans (HB3.out.mono HX.out.size))
      have t0 : W3.cell? ⟨wr.heap.size, 0, none⟩ = some (.int .i64 K) := HT3.out.cell 0
      have t1 : W3.cell? ⟨wr.heap.size, 1, none⟩ = some (.string S) := HT3.out.cell 1
      have t2 : W3.cell? ⟨wr.heap.size, 2, none⟩ = some (.int .i64 P) := HT3.out.cell 2
      have HBF3 : Hid (Below w.heap.size w W3) := Lib.hid (HB1.out.trans (HX3.out.mono HB1.out.size))
      have HOB3 := Lib.hid (own_below HOB.out HB3.out)
      have HOT3 := Lib.hid (own_below HOT.out HB3.out)
      clear HOB HOT
      by_cases hs : 100 < S.size
      · have g8 : (100 : Int) < (S.size : Int) := by omega
        clear hs
        go_wp2_with fail
        go_ret
        exact ⟨rfl, HBF3⟩
      · have g8 : ¬ ((100 : Int) < (S.size : Int)) := by omega
        cases hr : wordW K S.data.toList with
        | none =>
          have HR := Lib.hid hr
          clear hr
          go_wp2_with (go_at_call 6; refine (word_none HR (by omega) (shaped_below HSH.out HBF3.out)).mono ?_; rintro e w4 ⟨rfl, HB4⟩)
          go_roundw
          case rel => exact ⟨k + 1, n, bs, D, A4, c4, A5, c5, by omega, by go_num, rfl, rfl, by omega, by omega, HN, HJ, Lib.hid (own_below HOB3.out HB4.out), Lib.hid (own_below HOT3.out HB4.out), Lib.hid (HX3.out.trans (HB4.out.mono HX3.out.size))⟩
          case measure => simp [intOf]; omega
        | some W =>
          obtain ⟨j, hjK, hwh, hWl⟩ := word_got hr
          subst hjK
          have HR := Lib.hid hr
          have HWH := Lib.hid hwh
          have hWl2 : W.length ≤ 202 := by have : S.data.toList.length = S.size := by simp
                                           omega
          clear hr hwh hWl
          go_upto_region 13 with (go_at_call 6; refine (word_some HR (by omega) (shaped_below HSH.out HBF3.out)).mono ?_; rintro e w4 ⟨rfl, HB4⟩)
          have HX4 : Hid (Below w1.heap.size w1 w4) := Lib.hid (HX3.out.trans (HB4.out.mono HX3.out.size))
          have HOB4 := Lib.hid (own_below HOB3.out HB4.out)
          have HOT4 := Lib.hid (own_below HOT3.out HB4.out)
          have HT4 := Lib.hid (HT3.out.below HB4.out HT3.out.lt)
          clear HOB3 HOT3 t0 t1 t2
          have t0 : w4.cell? ⟨wr.heap.size, 0, none⟩ = some (.int .i64 (j : Int)) := HT4.out.cell 0
          have t1 : w4.cell? ⟨wr.heap.size, 1, none⟩ = some (.string S) := HT4.out.cell 1
          have t2 : w4.cell? ⟨wr.heap.size, 2, none⟩ = some (.int .i64 P) := HT4.out.cell 2
          have HM : Hid (D.length + 1 ≤ maxLen ∧ (D.length + 1) * 32 ≤ 140737488355328) := by constructor <;> (try unfold maxLen) <;> omega
          have HS4 : Hid (w1.heap.size ≤ w4.heap.size) := Lib.hid HX4.out.size
          go_upto_region 14 with (at_builtin; refine wpList_append_own _ rfl _ _ 28 rfl w1.heap.size 23 i1 _ 3 32 Tryd.underlying28 hj hy0 hy1 hy2 rfl (by decide) _ _ _ rfl (HOT4.out.alloc _) ⟨w4.heap.size, 0, none⟩ 1 1 [.int .i64 (j : Int), .string S, .int .i64 (n : Int)] rfl rfl (three_cells _ _ _ _ _) (three_one _ _ _) HM.out.1 HM.out.2 (by have := HS4.out; simp; omega) ?_; intro v5 w5 own5 gr5 _)
          obtain ⟨A6, c6, rfl, hc6⟩ := own_row3 own5
          have HX5 : Hid (Below w1.heap.size w1 w5) := Lib.hid ((HX4.out.alloc HX4.out.size _).grown gr5 (by have := HX4.out.size; simp; omega) (fun g hg => (HOT4.out.lt g hg).1))
          have HOB5 : Hid (w5.ownsRow w1.heap.size 5 1 (.slice A4 n c4) n (Lib.byteCells bs)) := Lib.hid (own_grown (HOB4.out.alloc _) gr5 (own_apart HOT4.out HOB4.out (Ne.symm u8_tk)))
          have e6 : (D ++ [(⟨j, S.data.toList, n⟩ : Tk)]).length = D.length + 1 := by rw [List.length_append]; rfl
          have HOT5 : Hid (w5.ownsRow w1.heap.size 23 3 (.slice A6 (D ++ [(⟨j, S.data.toList, n⟩ : Tk)]).length c6) (D ++ [(⟨j, S.data.toList, n⟩ : Tk)]).length (tkCells (D ++ [(⟨j, S.data.toList, n⟩ : Tk)]))) := Lib.hid (by
            rw [e6, tkCells_append]
            exact own5)
          have HL6 := Lib.hid e6
          clear own5 gr5 e6 t0 t1 t2 HOT4 HOB4 HM HS4
          have hWs : (⟨W.toArray⟩ : ByteArray).size = W.length := by show W.toArray.size = _; simp
          have HM2 : Hid (n + (⟨W.toArray⟩ : ByteArray).size ≤ maxLen ∧ n + (⟨W.toArray⟩ : ByteArray).size ≤ 140737488355328) := by
            constructor <;> rw [hWs] <;> (try unfold maxLen) <;> omega
          have HM3 : Hid (n + (⟨W.toArray⟩ : ByteArray).size + 1 ≤ maxLen ∧ (n + (⟨W.toArray⟩ : ByteArray).size + 1) * 1 ≤ 140737488355328) := by
            constructor <;> rw [hWs] <;> (try unfold maxLen) <;> omega
          go_upto_region 15 with (first
            | (at_builtin; refine Lib.wpList_append_own_string _ rfl _ _ 24 9 rfl w1.heap.size 5 i0 Tryd.underlying24 Tryd.underlying9 hi hz0 hz1 hz2 _ _ _ rfl HOB5.out ⟨W.toArray⟩ rfl HM2.out.1 HM2.out.2 HX5.out.size ?_; intro v6 w6 own6 gr6 _; have HX6 : Hid (Below w1.heap.size w1 w6) := Lib.hid (HX5.out.grown gr6 HX5.out.size (fun g hg => (HOB5.out.lt g hg).1)); have HOT6 := Lib.hid (own_grown HOT5.out gr6 (own_apart HOB5.out HOT5.out u8_tk)))
            | (at_builtin; refine wpList_append_b rfl _ _ 24 rfl w1.heap.size i0 (.int .u8 0) Tryd.underlying24 hi hz0 hz1 hz2 rfl _ _ _ rfl (Or.inl (own6.alloc _)) ⟨w6.heap.size, 0, none⟩ 1 1 [byV 32] rfl rfl (bk_one (Bk.new w6 _ _)) (by intro u hu; simp at hu; subst hu; rfl) (by omega) HM3.out.1 HM3.out.2 (by have := HX6.out.size; simp; omega) ?_; intro v7 w7 own7 gr7; have HX7 : Hid (Below w1.heap.size w1 w7) := Lib.hid ((HX6.out.alloc HX6.out.size _).grown gr7 (by have := HX6.out.size; simp; omega) (fun g hg => (own6.lt g hg).1)); have HOT7 := Lib.hid (own_grown (HOT6.out.alloc _) gr7 (own_apart own6 HOT6.out u8_tk))))
          obtain ⟨A7, c7, rfl, hc7⟩ := own_row3 own7
          have HN7 : Hid (n + (⟨W.toArray⟩ : ByteArray).size + 1 = (bs ++ W ++ [32]).length) := Lib.hid (by rw [hWs, HN.out]; simp; omega)
          have HOB7 : Hid (w7.ownsRow w1.heap.size 5 1 (.slice A7 (n + (⟨W.toArray⟩ : ByteArray).size + 1) c7) (n + (⟨W.toArray⟩ : ByteArray).size + 1) (Lib.byteCells (bs ++ W ++ [32]))) := Lib.hid (by
            have e : Lib.byteCells (bs ++ W ++ [32]) = Lib.byteCells bs ++ Lib.strCells ⟨W.toArray⟩ ++ [byV 32] := by
              simp [Lib.byteCells, Lib.strCells]
            rw [e]
            exact own7)
          have HJ7 : Hid (Jn (bs ++ W ++ [32]) (D ++ [(⟨j, S.data.toList, n⟩ : Tk)])) := Lib.hid (by
            have := HJ.out.snoc HWH.out
            rw [← HN.out] at this
            exact this)
          have hn7 : n + (⟨W.toArray⟩ : ByteArray).size + 1 ≤ (k + 1) * 203 := by rw [hWs]; omega
          clear own6 own7 gr6 gr7 HM2 HM3 hWs HOT6
          go_wp2_with fail
          go_roundw
          case rel => exact ⟨k + 1, _, bs ++ W ++ [32], D ++ [(⟨j, S.data.toList, n⟩ : Tk)], A7, c7, A6, c6, by omega, by go_num, rfl, by rw [HL6.out], hn7, by have := HL6.out; omega, HN7, HJ7, HOB7, HOT7, HX7⟩
          case measure => simp [intOf]; omega
    · obtain rfl : k = l.length := by omega
      have g7 : ¬ ((l.length : Int) < (l.length : Int)) := by omega
      have HRD := Lib.hid HJ.out.read
      have RB := Lib.hid (rb_row HOB.out HN.out)
      have HNS := Lib.hid HN.out.symm
      have hcc : n ≤ c4 := by
        obtain ⟨A', c', e, h⟩ := own_row3 HOB.out
        injection e with _ _ e
        rw [e]
        exact h
      have hn1 : n ≤ 100000 := by omega
      have hn2 : n ≤ ((n : Int)).toNat := by simp
      have CR := pread_len (w := wr) (A := A4) (n := n) (cb := c4) (m := (n : Int)) (D := D) HNS.out RB hn1 hcc hn2 HRD.out
      go_upto_region 17 with (go_at_call 8; refine CR.mono ?_; rintro e w8 ⟨A8, c8, rfl, hD8, hDc8, HO8, HB8⟩)
      have HX8 : Hid (Below w1.heap.size w1 w8) := Lib.hid (HX.out.trans (HB8.out.mono HX.out.size))
      generalize hW : w8.alloc _ = W9
      have HF9 : Hid (Bk W9 w8.heap.size 31 #[.int .i64 0, .int .i64 0]) := Lib.hid (hW ▸ Bk.new w8 _ _)
      have HB9 : Hid (Below w8.heap.size w8 W9) := Lib.hid (hW ▸ (Below.refl _ _).alloc (Nat.le_refl _) _)
      have f0 : W9.cell? ⟨w8.heap.size, 0, none⟩ = some (.int .i64 0) := HF9.out.cell 0
      have HX9 : Hid (Below w1.heap.size w1 W9) := Lib.hid (HX8.out.trans (HB9.out.mono HX8.out.size))
      have HBF : Hid (Below w.heap.size w W9) := Lib.hid (HB1.out.trans (HX9.out.mono HB1.out.size))
      have T1 : Hid (Tr W9 A8 D) := Lib.hid (Tr.of_own (own_below HO8.out HB9.out))
      have T2 : Hid (Tr W9 A5 D) := Lib.hid (Tr.of_own (own_below (own_below HOT.out HB8.out) HB9.out))
      clear hW
      go_wp2_with (go_at_call 9; refine (refSame_any T1 T2 (by omega) (by omega)).mono ?_; rintro e w10 ⟨rfl, n10, rfl⟩)
      go_ret
      exact ⟨ret_bool (by simp), Lib.hid (below_dn HBF.out _)⟩

theorem joins_any {w : World} {A : Option Addr} {l : List Gt} {cb : Nat} (hsh : w.ShapedOpen Tryd.prog) (ha : Ta w A l) :
    Calls Tryd.prog 4 #[.slice A l.length cb] w fun e w' => e = .returned (.bool true) ∧ Hid (Below w.heap.size w w') := by
  by_cases h : 60 < l.length
  · exact joins_long h
  · exact joins_short hsh (Lib.hid ha) (by omega)
end Go.Proofs.YtcikleomipbkmaaDoor.tk
