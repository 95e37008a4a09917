/- Package whole: Parse. -/
import Derived.Test.YtgmnpajecpjklaaDoorParse
namespace Go.Proofs.YtgmnpajecpjklaaDoor.wh
open Go.RowKit

/-- whether a text begins with a sign, and what stands behind it -/
def negOf : List UInt8 → Bool
  | b :: _ => b == 45
  | [] => false
def bodyOf : List UInt8 → List UInt8
  | b :: t => if b == 45 then t else b :: t
  | [] => []
def okOf (l : List UInt8) : Bool := decL (bodyOf l)
def zOf (l : List UInt8) : Int := if okOf l then (if negOf l then -(nval (bodyOf l) : Int) else (nval (bodyOf l) : Int)) else 0
theorem body_len (l : List UInt8) : (bodyOf l).length ≤ l.length := by
  cases l with
  | nil => simp [bodyOf]
  | cons b t => simp only [bodyOf]; split <;> simp

theorem cut_minus (s : ByteArray) (w : World) :
    Calls Tryd.prog 52 #[.string s, .string ⟨#[45]⟩] w fun e w' => ∃ (t : ByteArray) (b : Bool), e = .returned (.tuple #[.string t, .bool b]) ∧ Hid (t.data.toList = bodyOf s.data.toList) ∧ Hid (b = negOf s.data.toList) ∧ w = w' := by
  refine (Tryd.strings_CutPrefix s ⟨#[45]⟩ w).mono ?_
  rintro e w' ⟨rfl, rfl⟩
  have key : ∀ l : List UInt8, Lib.trimPrefix l [45] = bodyOf l ∧ Lib.hasPrefix l [45] = negOf l := by
    intro l
    cases l with
    | nil => exact ⟨rfl, rfl⟩
    | cons b t =>
      have e : Lib.hasPrefix (b :: t) [45] = (b == 45) := by
        simp only [Lib.hasPrefix, List.isPrefixOf, Bool.and_true]
        exact Bool.beq_comm
      refine ⟨?_, e⟩
      unfold Lib.trimPrefix
      rw [e]
      by_cases h : (b == 45) = true
      · simp [bodyOf, h]
      · simp [bodyOf, h]
  exact ⟨_, _, rfl, (key _).1, (key _).2, rfl⟩

theorem extract_bytes (t : ByteArray) (lo hi : Nat) : (t.extract lo hi).data.toList = (t.data.toList.take hi).drop lo := by
  rw [ByteArray.data_extract, Array.toList_extract, List.extract_eq_take_drop, List.drop_take]

/-- after j digits of the base 10^9 -/
def ParseAt (ds : List Nat) (j : Nat) (outs : List Nat) : Prop := outs.length = j ∧ Dig outs ∧ val outs = tval (ds.take (9 * j))
theorem parseAt_step {ds outs : List Nat} {j : Nat} (h : ParseAt ds j outs) (hj : 9 * j < ds.length) (hd : Ten ds) : ParseAt ds (j + 1) (outs ++ [chunk ds (9 * j) (9 * j)]) := by
  obtain ⟨h1, h2, h3⟩ := h
  have hc := chunk_lt hd (Nat.le_refl (9 * j))
  refine ⟨by simp [h1], h2.append (Dig.cons hc Dig.nil), ?_⟩
  rw [val_snoc, h1, h3, pow9]
  have e : ds.take (9 * (j + 1)) = ds.take (9 * j) ++ (ds.take (9 * j + 9)).drop (9 * j) := by
    have e1 : 9 * (j + 1) = 9 * j + 9 := by omega
    rw [e1]
    have := List.take_append_drop (9 * j) (ds.take (9 * j + 9))
    rw [List.take_take, Nat.min_eq_left (by omega)] at this
    exact this.symm
  rw [e, tval_append, List.length_take, Nat.min_eq_left (by omega)]
  rfl
theorem nval_chunk (l : List UInt8) (j hi : Nat) (hh : hi + 9 * j = l.length) : nval ((l.take hi).drop (hi - 9)) = chunk (l.reverse.map dg) (9 * j) (9 * j) := by
  unfold nval chunk
  rw [← List.map_take, ← List.map_drop]
  congr 2
  rw [List.take_reverse, List.drop_reverse, List.drop_take]
  congr 1
  rw [List.length_drop]
  congr 1
  · omega
  · congr 1
    omega
theorem ten_rev {l : List UInt8} (h : ∀ b ∈ l, isDg b = true) : Ten (l.reverse.map dg) := fun d hd => by
  obtain ⟨b, hb, rfl⟩ := List.mem_map.1 hd
  exact dg_lt (h b (List.mem_reverse.1 hb))

def GivesParse (W : World) (l : List UInt8) (e : Ending) (w' : World) : Prop :=
  ∃ neg A n c, e = .returned (.tuple #[.agg #[.bool neg, .slice A n c], .bool (okOf l)]) ∧ Hid (IsInt w' w'.heap.size 120 (.agg #[.bool neg, .slice A n c]) (zOf l)) ∧ Hid (Below W.heap.size W w')

theorem run_make_cap {z : Int} {n : Nat} (hz : z = (n : Int)) (hn : n ≤ 1000000) (W : World) :
    (Instr.makeSlice 22 (.int .i64 0) (.int .i64 z)).run Tryd.prog W = .ok (.slice (some ⟨W.heap.size, 0, none⟩) 0 n) (W.alloc (.cells (zeros n) 58)) := by
  obtain ⟨i0, hi, hz0, hz1, hz2⟩ := info_parts info_u32
  subst hz
  have h := run_make (P := Tryd.prog) W 22 58 i0 _ Tryd.underlying22 hi hz0 .i64 .i64 0 n (by omega) (by omega) (by rw [hz2]; omega) (by omega)
  rw [h]
  simp only [Int.toNat_natCast, hz1, Nat.mul_one]
  rw [show (Value.int .u32 0).cells = #[.int .u32 0] from rfl, made_zeros]
  rfl

set_option maxRecDepth 100000 in
set_option maxHeartbeats 2000000 in
theorem parse_any (s : ByteArray) (w : World) (hs : s.size ≤ 1000) :
    Calls Tryd.prog 26 #[.string s] w fun e w' => GivesParse w s.data.toList e w' := by
  obtain ⟨i0, hi, hz0, hz1, hz2⟩ := info_parts info_u32
  go_enter Tryd.func26, Tryd.ntmps26
  go_wp2_with fail
  refine (cut_minus s _).mono ?_
  rintro e w1 ⟨t, neg, rfl, ht, hneg, rfl⟩
  have htl : t.size ≤ 1000 := by
    have h1 := body_len s.data.toList
    rw [← ht.out, bytes_len, bytes_len] at h1
    omega
  go_wp2_with fail
  refine (isDecimal_any t _ htl).mono ?_
  rintro e w1 ⟨rfl, rfl⟩
  cases hok : decL t.data.toList with
  | false =>
    have HOK : Hid (okOf s.data.toList = false) := by show okOf _ = false; unfold okOf; rw [← ht.out]; exact hok
    clear hok
    have hz : Hid (zOf s.data.toList = 0) := by show zOf _ = 0; unfold zOf; rw [if_neg (by rw [HOK.out]; simp)]
    go_wp2
    refine bodyPost_ret (v := .tuple #[.agg #[.bool false, .slice none 0 0], .bool false]) (by simp [results, Tryd.results26, go_sem]) rfl ⟨false, none, 0, 0, by rw [HOK.out], by rw [hz.out]; exact isInt_zero _ _ _, (Below.refl _ _).alloc (Nat.le_refl _) _⟩
  | true =>
    have HOK : Hid (okOf s.data.toList = true) := by show okOf _ = true; unfold okOf; rw [← ht.out]; exact hok
    have hmk := run_make_cap (z := (t.size : Int) / 9 + 1) (n := t.size / 9 + 1) (by omega) (by omega)
    clear hok
    have HAL : Hid (∀ b ∈ t.data.toList, isDg b = true) := by
      have h := HOK.out
      unfold okOf at h
      rw [← ht.out] at h
      unfold decL at h
      rw [Bool.and_eq_true] at h
      exact List.all_eq_true.1 h.2
    have HX : Hid (Box ((w.alloc (.cells #[.bool false, .slice none 0 0] 24)).alloc (.cells (zeros (t.size / 9 + 1)) 58)) w.heap.size false none 0 0) := (Box.new _ _ _ _ _).alloc _
    have HB : Hid (Below w.heap.size w ((w.alloc (.cells #[.bool false, .slice none 0 0] 24)).alloc (.cells (zeros (t.size / 9 + 1)) 58))) := ((Below.refl _ _).alloc (Nat.le_refl _) _).alloc (by simp) _
    have HOWN : Hid (((w.alloc (.cells #[.bool false, .slice none 0 0] 24)).alloc (.cells (zeros (t.size / 9 + 1)) 58)).ownsRow (w.heap.size + 1) 58 1 (.slice (some ⟨w.heap.size + 1, 0, none⟩) 0 (t.size / 9 + 1)) 0 (u32s [])) := by
      have h := World.ownsRow_made (w.alloc (.cells #[.bool false, .slice none 0 0] 24)) (base := w.heap.size + 1) (e := 58) (size := 1) (zeros (t.size / 9 + 1)) (t.size / 9 + 1) (by simp) (by unfold maxLen; omega) (by simp [zeros, u32s])
      rwa [World.size_alloc] at h
    have HL : Hid (t.data.toList.length = t.size) := bytes_len t
    go_wp2
    go_loopw [6, 7] (fun dv ev wr => (∃ (j : Nat) (outs : List Nat) (A3 : Option Addr) (c3 : Nat) (z : Int), 9 * j < t.size + 9 ∧ ev = .int .i64 z ∧ Hid (z = (t.size : Int) - 9 * (j : Int)) ∧ dv = .slice A3 j c3 ∧ Hid (ParseAt (t.data.toList.reverse.map dg) j outs) ∧ Hid (wr.ownsRow (w.heap.size + 1) 58 1 (.slice A3 j c3) j (u32s outs))) ∧ Hid (Box wr w.heap.size false none 0 0) ∧ Hid (Below w.heap.size w wr)) (fun _ ev _ => (intOf ev).toNat)
    case atStart => exact ⟨⟨0, [], _, _, _, by omega, rfl, by show _ = _; omega, rfl, ⟨rfl, Dig.nil, by simp [val, tval]⟩, HOWN⟩, HX, HB⟩
    case round =>
      obtain ⟨⟨j, outs, A3, c3, z, hj, rfl, hz, rfl, hat, hown⟩, hx, hb⟩ := hrel
      by_cases hgo : 9 * j < t.size
      · obtain ⟨hi', hhi⟩ : ∃ hi' : Nat, z = (hi' : Int) := ⟨t.size - 9 * j, by have := hz.out; omega⟩
        subst hhi
        have hh1 : 0 < hi' := by have := hz.out; omega
        have hh2 : hi' ≤ t.size := by have := hz.out; omega
        have hh3 : (0 : Int) < (hi' : Int) := by omega
        have HH : Hid (hi' + 9 * j = t.data.toList.length) := by have := hz.out; have := HL.out; show _ = _; omega
        have hgs := hx.out.lt
        have HM : Hid (j + 1 ≤ maxLen ∧ (j + 1) * 4 ≤ 140737488355328) := by constructor <;> (try unfold maxLen) <;> omega
        have hmax : (max 0 ((hi' : Int) - 9)).toNat = hi' - 9 := by omega
        have HBY : Hid ((t.extract (max 0 ((hi' : Int) - 9)).toNat hi').data.toList = (t.data.toList.take hi').drop (hi' - 9)) := by show _ = _; rw [hmax, extract_bytes]
        have HSZ : Hid ((t.extract (max 0 ((hi' : Int) - 9)).toNat hi').size ≤ 9) := by
          show _ ≤ 9
          rw [← bytes_len, HBY.out, List.length_drop, List.length_take]
          omega
        have HDG : Hid (∀ b ∈ (t.extract (max 0 ((hi' : Int) - 9)).toNat hi').data.toList, isDg b = true) := by
          intro b hb
          rw [HBY.out] at hb
          exact HAL.out b (List.mem_of_mem_take (List.mem_of_mem_drop hb))
        have HJL : Hid (9 * j < (t.data.toList.reverse.map dg).length) := by show _ < _; rw [List.length_map, List.length_reverse, HL.out]; exact hgo
        obtain ⟨r, hr⟩ : ∃ r, r = chunk (t.data.toList.reverse.map dg) (9 * j) (9 * j) := ⟨_, rfl⟩
        have HR := Lib.hid hr
        have hr9 : r < 1000000000 := by rw [hr]; exact chunk_lt (ten_rev HAL.out) (Nat.le_refl _)
        have HNV : Hid (nval (t.extract (max 0 ((hi' : Int) - 9)).toNat hi').data.toList = r) := by show nval _ = r; rw [HBY.out, nval_chunk _ j hi' HH.out, ← hr]
        clear hmax hr
        go_wp2_with fail
        refine (number_any _ _ HSZ.out HDG.out).mono ?_
        rw [HNV.out]
        rintro e w2 ⟨rfl, rfl⟩
        go_wp2_with (at_builtin; refine wpList_append_own _ rfl _ _ 22 rfl (w.heap.size + 1) 58 i0 (.int .u32 0) 1 4 Tryd.underlying22 hi hz0 hz1 hz2 rfl (by decide) _ _ _ rfl (hown.out.alloc _) ⟨wr.heap.size, 0, none⟩ 1 1 [.int .u32 (r : Int)] rfl rfl (one_cell _ _ _) (one_one _ _) HM.out.1 HM.out.2 (by simp; omega) ?_)
        intro v' w3 hown' hgrow _
        obtain ⟨A4, c4, rfl, hc4⟩ := own_row hown'
        have HX3 : Hid (Box w3 w.heap.size false none 0 0) := Blk.grown (hx.out.alloc _) hgrow (fun e => by have := (hown.out.lt _ e.symm).1; omega)
        have HB3 : Hid (Below w.heap.size w w3) := (hb.out.alloc hb.out.size _).grown hgrow (by simp; omega) (fun g hg => by have := (hown.out.lt g hg).1; omega)
        have HO3 : Hid (w3.ownsRow (w.heap.size + 1) 58 1 (.slice A4 (j + 1) c4) (j + 1) (u32s (outs ++ [r]))) := by show World.ownsRow _ _ _ _ _ _ _; rw [u32s_append]; exact hown'
        clear hgrow hown'
        go_wp2
        go_roundw
        case rel => exact ⟨⟨j + 1, outs ++ [r], A4, c4, _, by omega, rfl, by have := hz.out; show _ = _; omega, rfl, by have h := parseAt_step hat.out HJL.out (ten_rev HAL.out); rw [← HR.out] at h; exact h, HO3⟩, HX3, HB3⟩
        case measure => simp [intOf]; omega
      · have hgo' : z ≤ 0 := by have := hz.out; omega
        obtain ⟨A', c', e', hc'⟩ := own_row hown.out
        have hc3 : j ≤ c3 := by injection e' with _ _ e3; omega
        have HV : Hid (val outs = nval t.data.toList) := by
          have h := hat.out.2.2
          rw [List.take_of_length_le (by rw [List.length_map, List.length_reverse, HL.out]; omega)] at h
          exact h
        have HRD : Hid (Rd wr wr.heap.size A3 outs) := Rd.of_own hown.out
        have HZO : Hid (zval neg outs = zOf s.data.toList) := by
          show _ = _
          unfold zOf zval
          rw [if_pos HOK.out, HV.out, ht.out, ← hneg.out]
        clear e'
        go_wp2_with fail
        refine (signed_any neg A3 j c3 outs wr hat.out.1 (by have := hat.out.1; unfold maxLen; omega) (by have := hat.out.1; omega) HRD.out hat.out.2.1).mono ?_
        rintro e w2 ⟨v2, rfl, hi2, hb2⟩
        obtain ⟨neg2, A2, n2, c2, ds2, rfl, k1, k2, k3, k4, k5, k6⟩ := hi2
        have HI2 : Hid (IsInt w2 wr.heap.size 120 (.agg #[.bool neg2, .slice A2 n2 c2]) (zOf s.data.toList)) := ⟨neg2, A2, n2, c2, ds2, rfl, k1, k2, by omega, k4, k5, by rw [k6]; exact HZO.out⟩
        clear k1 k2 k3 k4 k5 k6
        have hx2 := Box.over hx.out hb2
        have e0 := hx2.c0
        have e1 := hx2.c1
        have f0 := hx2.f0
        have f1 := hx2.f1
        have HPUT := Lib.hid (HI2.out.put hx2 neg2 A2 n2 c2)
        have HB2 : Hid (Below w.heap.size w (put2 w2 w.heap.size neg2 A2 n2 c2)) := below_put (hb.out.trans (hb2.mono hb.out.size)) (Nat.le_refl _) _ _ _ _
        have d0 := (hx2.put neg2 A2 n2 c2).c0
        have d1 := (hx2.put neg2 A2 n2 c2).c1
        have HSZ : Hid (wr.heap.size ≤ (put2 w2 w.heap.size neg2 A2 n2 c2).heap.size) := by show _ ≤ _; rw [put2_size]; exact hb2.size
        clear hx2
        go_wp2
        refine bodyPost_ret (v := .tuple #[.agg #[.bool neg2, .slice A2 n2 c2], .bool true]) (by simp [results, Tryd.results26, go_sem, d0, d1]) rfl ⟨neg2, A2, n2, c2, by rw [HOK.out], ?_, HB2⟩
        have h : IsInt (put2 w2 w.heap.size neg2 A2 n2 c2) (put2 w2 w.heap.size neg2 A2 n2 c2).heap.size 120 _ (zOf s.data.toList) := HPUT.out.more HSZ.out (Nat.le_refl _)
        exact h
end Go.Proofs.YtgmnpajecpjklaaDoor.wh
