/- Package whole: divide by more than one digit; divide of any two numbers. -/
import Derived.Test.YtgmnpajecpjklaaDoorDivK
namespace Go.Proofs.YtgmnpajecpjklaaDoor.wh
open Go.RowKit

theorem step_m (g off m m1 c d : Nat) (pre post : List Value) (B : Option Addr) (xs bs : List Nat) (w : World) (hlx : xs.length = m1) (hlb : bs.length = m) (h1 : m1 = m + 1) (hm : 1 ≤ m) (hm2 : m ≤ 2000)
    (hs : Seg w g off pre xs post) (hr : Rd w w.heap.size B bs) (hA : Away B g m) (hdx : Dig xs) (hdb : Dig bs) (htop : Top bs) (hlt : val xs < 1000000000 * val bs) :
    Calls Tryd.prog 57 #[.slice (some ⟨g, off, none⟩) m1 c, .slice B m d] w fun e w' => GivesStep g off pre xs bs post w e w' := by
  obtain ⟨k, rfl⟩ : ∃ k, m = k + 1 := ⟨m - 1, by omega⟩
  subst h1
  exact step_any g off k c d pre post B xs bs w hlx hlb (by omega) hs hr hA hdx hdb htop hlt
theorem one_rd (w : World) (s : Nat) : Rd (w.alloc (.cells #[.int .u32 (s : Int)] 58)) (w.alloc (.cells #[.int .u32 (s : Int)] 58)).heap.size (some ⟨w.heap.size, 0, none⟩) [s] := by
  have hblk := Blk.new w 58 #[.int .u32 (s : Int)]
  intro _
  refine ⟨w.heap.size, 0, rfl, hblk.lt, fun j hj => ?_⟩
  obtain rfl : j = 0 := by simpa using hj
  rw [hblk.cell]
  rfl
theorem val_one (s : Nat) : val [s] = s := by simp [val]
theorem one_dig {s : Nat} (h : s < 1000000000) : Dig [s] := Dig.cons h Dig.nil
theorem away_ne {g g2 m : Nat} (h : g2 ≠ g) : Away (some ⟨g2, 0, none⟩) g m := fun _ ad e => by
  cases e
  exact h
/-- the part of a row from j on -/
theorem Seg.part {w : World} {g j m : Nat} {R : List Nat} (h : Seg w g 0 [] R []) (hj : j ≤ R.length) : Seg w g j (u32s (R.take j)) ((R.drop j).take (m + 1)) (u32s (R.drop (j + (m + 1)))) := by
  refine ⟨by simp [u32s]; omega, ?_⟩
  have e : u32s (R.take j) ++ u32s ((R.drop j).take (m + 1)) ++ u32s (R.drop (j + (m + 1))) = [] ++ u32s R ++ [] := by
    simp only [u32s, List.nil_append, List.append_nil, ← List.map_append]
    rw [List.append_assoc, ← drop_part, List.take_append_drop]
  rw [e]
  exact h.2
theorem Seg.whole {w : World} {g j : Nat} {a b c : List Nat} (h : Seg w g j (u32s a) b (u32s c)) : Seg w g 0 [] (a ++ b ++ c) [] := by
  refine ⟨rfl, ?_⟩
  have e : [] ++ u32s (a ++ b ++ c) ++ [] = u32s a ++ u32s b ++ u32s c := by simp [u32s]
  rw [e]
  exact h.2

set_option maxRecDepth 100000 in
set_option maxHeartbeats 4000000 in
theorem divide_long {A B : Option Addr} {n c m d : Nat} {xs ys : List Nat} {w : World} (hx : Digs w n c A xs) (hy : Digs w m d B ys) (hn : n ≤ 1000) (hm2 : 2 ≤ m) (hle : val ys ≤ val xs) :
    Calls Tryd.prog 35 #[.slice A n c, .slice B m d] w fun e w' => GivesDiv w n m (val xs) (val ys) e w' := by
  have hmn : m ≤ n := by
    rcases Nat.lt_or_ge n m with h | h
    · have := top_short hx.dig hy.top (by rw [hx.len, hy.len]; exact h)
      omega
    · exact h
  obtain ⟨k, hk⟩ : ∃ k, m = k + 1 := ⟨m - 1, by omega⟩
  obtain ⟨e, he⟩ : ∃ e, n = m + e := ⟨n - m, by omega⟩
  have hc : ¬ cmpN (val xs) (val ys) < 0 := by
    unfold cmpN
    rw [if_neg (by omega)]
    split <;> omega
  obtain ⟨bt, hbt⟩ : ∃ x, x = ys[k]'(by rw [hy.len]; omega) := ⟨_, rfl⟩
  have hb9 : bt < 1000000000 := by rw [hbt]; exact hy.dig.get _ _
  have hb1 : 1 ≤ bt := by
    have hne : ys ≠ [] := fun e => by have := hy.len; rw [e] at this; simp at this; omega
    have h := hy.top hne
    rw [List.getLast_eq_getElem] at h
    simp only [hy.len, hk, Nat.add_sub_cancel] at h
    omega
  obtain ⟨s, hs⟩ : ∃ s, s = 1000000000 / (bt + 1) := ⟨_, rfl⟩
  have HSF := Lib.hid (scale_fits (by rw [hy.len]; exact hk) hy.dig hbt hs)
  have hs2 : s * 2 ≤ 1000000000 := by
    have h1 : s * (bt + 1) ≤ 1000000000 := by rw [hs]; exact Nat.div_mul_le_self _ _
    have h2 : s * 2 ≤ s * (bt + 1) := Nat.mul_le_mul_left _ (by omega)
    omega
  have hs1 := HSF.out.1
  have HBX : Hid (val xs < 1000000000 ^ n) := by have h := val_lt hx.dig; rwa [hx.len] at h
  have HBY : Hid (1000000000 ^ (m - 1) ≤ val ys) := by have h := top_ge hy.top (fun e => by have := hy.len; rw [e] at this; simp at this; omega); rwa [hy.len] at h
  have HX := Lib.hid hx
  have HY := Lib.hid hy
  have HK := Lib.hid hk
  have HE := Lib.hid he
  have HBT : Hid (∀ h : k < ys.length, bt = ys[k]'h) := fun _ => hbt
  have mm1 : (m : Int) - 1 = (k : Int) := by omega
  have nm : (n : Int) - (m : Int) = (e : Int) := by omega
  have wk : IntKind.i64.wrap (k : Int) = (k : Int) := IntWalk.i64_in _ (by omega)
  have we : IntKind.i64.wrap (e : Int) = (e : Int) := IntWalk.i64_in _ (by omega)
  have we1 : IntKind.i64.wrap ((e : Int) + 1) = (e : Int) + 1 := IntWalk.i64_in _ (by omega)
  have kb : (k : Int) < (m : Int) := by omega
  have k0 : (0 : Int) ≤ (k : Int) := by omega
  have m1 : ((m : Int) == 1) = false := by rw [beq_eq_false_iff_ne]; omega
  have ub : IntKind.u32.wrap ((bt : Int) + 1) = (bt : Int) + 1 := IntWalk.u32_in _ (by omega)
  have us : IntKind.u32.wrap (s : Int) = (s : Int) := IntWalk.u32_in _ (by omega)
  have bz : ((bt : Int) + 1 == 0) = false := by rw [beq_eq_false_iff_ne]; omega
  have hsq : (1000000000 : Int) / ((bt : Int) + 1) = (s : Int) := by rw [hs]; simp
  have hmk := run_make_u32 (z := (e : Int) + 1) (n := e + 1) (by omega) (by omega)
  clear hx hy hle hk he hbt hs
  go_enter Tryd.func35, Tryd.ntmps35
  go_wp2_with fail
  refine (compare_digs HX.out HY.out (by omega)).mono ?_
  rintro e1 w1 ⟨rfl, hb1⟩
  obtain ⟨bb, bo, rfl, hbw, hcell⟩ := (HY.out.over hb1.out).rd.at_ (k := k) (by rw [HY.out.len, HK.out]; omega)
  rw [← HBT.out _] at hcell
  have HX1 := Lib.hid (HX.out.over hb1.out)
  have HY1 := Lib.hid (HY.out.over hb1.out)
  have ha1 : Hid (Below w1.heap.size w1 (w1.alloc (.cells #[.int .u32 (s : Int)] 58))) := (Below.refl _ _).alloc (Nat.le_refl _) _
  clear hbw
  go_wp2_with fail
  refine (product_seg _ _ 1 1 n c [s] xs (w1.alloc (.cells #[.int .u32 (s : Int)] 58)) rfl HX1.out.len (by omega) hn (one_rd _ _) (HX1.out.over ha1.out).rd (one_dig (by omega)) HX1.out.dig).mono ?_
  rintro e2 w2 ⟨g1, R0, rfl, hg1, hR0, hdR, hvR, hsR, hb2⟩
  have hs12 : Hid (Below w1.heap.size w1 w2) := ha1.out.trans (hb2.out.mono ha1.out.size)
  have hgs1 : w1.heap.size ≤ g1 := by have := ha1.out.size; omega
  have hgl1 : Hid (g1 < w2.heap.size) := hsR.out.lt
  have HX2 := Lib.hid (HX1.out.over hs12.out)
  have HY2 := Lib.hid (HY1.out.over hs12.out)
  have ha2 : Hid (Below w2.heap.size w2 (w2.alloc (.cells #[.int .u32 (s : Int)] 58))) := (Below.refl _ _).alloc (Nat.le_refl _) _
  clear hb2 ha1 hcell
  go_wp2_with fail
  refine (product_seg _ _ 1 1 m d [s] ys (w2.alloc (.cells #[.int .u32 (s : Int)] 58)) rfl HY2.out.len (by omega) (by omega) (one_rd _ _) (HY2.out.over ha2.out).rd (one_dig (by omega)) HY2.out.dig).mono ?_
  rintro e3 w3 ⟨g2, B0, rfl, hg2, hB0, hdB, hvB, hsB, hb3⟩
  have hs23 : Hid (Below w2.heap.size w2 w3) := ha2.out.trans (hb3.out.mono ha2.out.size)
  have hgs2 : Hid (w2.heap.size ≤ g2) := by have := ha2.out.size; show _ ≤ _; omega
  have hgl2 : Hid (g2 < w3.heap.size) := hsB.out.lt
  clear hb3 ha2
  go_wp2_with fail
  refine (trim_any (some ⟨g2, 0, none⟩) (1 + m) (1 + m) B0 w3 hB0 (by rw [hB0]; unfold maxLen; omega) (by omega) hsB.out.rd).mono ?_
  rintro e4 w3' ⟨⟨m', rfl, htr⟩, rfl⟩
  have HTR := Lib.hid htr
  rw [val_one] at hvB hvR
  obtain rfl : m' = m := by
    have h0 := HTR.out.1
    have h1 := HTR.out.2.2
    rw [hvB.out] at h1
    have h2 := HTR.out.2.1
    have h3 := HSF.out.2.2
    rw [← HK.out] at h3
    have h4 := top_len h2 (m := m) (by rw [h1]; exact h3)
    rw [List.length_take, Nat.min_eq_left h0] at h4
    have h5 := val_lt (hdB.out.take m')
    rw [List.length_take, Nat.min_eq_left h0, h1] at h5
    have h6 : 1000000000 ^ (m - 1) < 1000000000 ^ m' := by
      have h7 := HBY.out
      have h8 : 1 * val ys ≤ s * val ys := Nat.mul_le_mul_right _ hs1
      omega
    have h9 := (Nat.pow_lt_pow_iff_right (a := 1000000000) (by omega)).1 h6
    omega
  obtain ⟨bs, hbs⟩ : ∃ bs, bs = B0.take m' := ⟨_, rfl⟩
  have HBL : Hid (bs.length = m') := by show _ = _; rw [hbs, List.length_take, hB0]; omega
  have HBV : Hid (val bs = s * val ys) := by show _ = _; rw [hbs, HTR.out.2.2]; exact hvB.out
  have HBD : Hid (Dig bs) := by show Dig _; rw [hbs]; exact hdB.out.take _
  have HBT2 : Hid (Top bs) := by show Top _; rw [hbs]; exact HTR.out.2.1
  have HV9 : Hid (s * val ys < 1000000000 ^ m') := by have h := HSF.out.2.2; rwa [← HK.out] at h
  have HRB : Hid (Rd w3 w3.heap.size (some ⟨g2, 0, none⟩) bs) := by show Rd _ _ _ _; rw [hbs]; exact hsB.out.rd.take _
  have HSR3 : Hid (Seg w3 g1 0 [] R0 []) := hsR.out.below hs23.out hgl1.out
  have HNE : Hid (g1 ≠ g2 ∧ g1 < w3.heap.size ∧ w.heap.size ≤ g1 ∧ g2 < w3.heap.size ∧ w.heap.size ≤ w3.heap.size) := ⟨by have := hgl1.out; have := hgs2.out; omega, by have := hgl1.out; have := hs23.out.size; omega, by have := hb1.out.size; omega, hgl2.out, by have := hb1.out.size; have := hs12.out.size; have := hs23.out.size; omega⟩
  have HB3 : Hid (Below w.heap.size w w3) := hb1.out.trans ((hs12.out.trans (hs23.out.mono hs12.out.size)).mono hb1.out.size)
  have HDK : Hid (DivK (s * val xs) (s * val ys) m' e (e + 1) R0 (List.replicate (e + 1) 0)) := by
    have h2 := HBX.out
    rw [HE.out] at h2
    exact divk_start (by rw [hR0, HE.out]; omega) hdR.out hvR.out h2 HBY.out (by omega) hs1
  have HSQ : Hid (Seg (w3.alloc (.cells (zeros (e + 1)) 58)) w3.heap.size 0 [] (List.replicate (e + 1) 0) []) := seg_zeros w3 _
  have HBA : Hid (Below w3.heap.size w3 (w3.alloc (.cells (zeros (e + 1)) 58))) := (Below.refl _ _).alloc (Nat.le_refl _) _
  clear hbs htr hdB hvB hB0 hsB hgs2 hgl2 hs23 hs12 hgl1 hsR hgs1 hR0 hdR hvR
  have e1000 : e ≤ 1000 := by have := HE.out; omega
  go_wp2
  go_loopw [10] (fun iv wr => (∃ (j : Nat) (z : Int) (R Q : List Nat), j ≤ e + 1 ∧ iv = .int .i64 z ∧ Hid (z = (j : Int) - 1) ∧ Hid (DivK (s * val xs) (s * val ys) m' e j R Q) ∧ Hid (Seg wr g1 0 [] R []) ∧ Hid (Seg wr w3.heap.size 0 [] Q [])) ∧ Hid (Rd wr w3.heap.size (some ⟨g2, 0, none⟩) bs) ∧ Hid (w3.heap.size < wr.heap.size ∧ Below w.heap.size w wr)) (fun iv _ => (intOf iv + 1).toNat)
  case atStart => exact ⟨⟨e + 1, _, R0, _, Nat.le_refl _, rfl, by show _ = _; omega, HDK, HSR3.out.below HBA.out HNE.out.2.1, HSQ⟩, HRB.out.below HBA.out, HSQ.out.lt, HB3.out.trans (HBA.out.mono HB3.out.size)⟩
  case round =>
    obtain ⟨⟨j, z, R, Q, hj, rfl, hz, hdk, hsr, hsq2⟩, hrb, hbw⟩ := hrel
    cases j with
    | zero =>
      obtain rfl : z = -1 := by have := hz.out; omega
      have HEND := Lib.hid (divk_end hdk.out HV9.out hs1)
      go_wp2_with fail
      refine (digit_any (some ⟨g1, 0, none⟩) m' (1 + n) s (R.take m') wr HEND.out.2.2 (by omega) hs1 (by omega) (hsr.out.rd.take m') (hdk.out.2.1.take m')).mono ?_
      rintro e5 w5 ⟨A5, c5, rfl, hrow, hb5⟩
      go_wp2_with fail
      refine (trim_row hrow.out (by omega)).mono ?_
      rintro e6 w6 ⟨k2, rfl, hk2, htop, rfl⟩
      have HTOP : Hid (RowTop w5 A5 k2 c5 (val xs % val ys)) := by rw [← HEND.out.2.1]; exact htop
      have HROW : Hid (RowIs w5 (some ⟨w3.heap.size, 0, none⟩) (e + 1) (e + 1) (val xs / val ys)) := ⟨Q, hdk.out.2.2.1, Nat.le_refl _, hsq2.out.rd.over hb5.out, hdk.out.2.2.2.1, HEND.out.1⟩
      go_wp2
      go_ret2
      exact ⟨_, e + 1, e + 1, A5, k2, c5, rfl, by have := HE.out; omega, hk2, HROW, HTOP, hbw.out.2.trans (hb5.out.mono hbw.out.2.size)⟩
    | succ j =>
      obtain rfl : z = (j : Int) := by have := hz.out; omega
      have HP := Lib.hid (divk_part hdk.out (by omega) HV9.out)
      have q1 : (j : Int) + (m' : Int) + 1 ≤ 1 + (n : Int) := by have := HE.out; omega
      have q2 : (j : Int) ≤ (j : Int) + (m' : Int) + 1 := by omega
      have q3 : (0 : Int) ≤ (j : Int) + (m' : Int) + 1 := by omega
      go_wp2_with fail
      refine (step_m g1 j m' (j + m' + 1 - j) (1 + n - j) (1 + m') (u32s (R.take j)) (u32s (R.drop (j + (m' + 1)))) (some ⟨g2, 0, none⟩) ((R.drop j).take (m' + 1)) bs wr (by rw [HP.out.2.2]; omega) HBL.out (by omega) (by omega) (by omega) (hsr.out.part (by rw [hdk.out.1]; omega)) (hrb.out.more (by have := hbw.out.1; omega)) (away_ne (fun h => HNE.out.1 h.symm)) ((hdk.out.2.1.drop j).take _) HBD.out HBT2.out (by rw [HBV.out]; exact HP.out.1)).mono ?_
      rintro e5 w5 ⟨ys5, q, rfl, hq9, hst, hsg5, ho5⟩
      have HST := Lib.hid (divk_step hdk.out (by omega) HV9.out HBV.out hq9 hst.out)
      have HSG := Lib.hid hsg5.out.whole
      have HS5 := Lib.hid (hsq2.out.only ho5.out (by have := HNE.out.2.1; omega))
      have hjQ : j < Q.length := by rw [hdk.out.2.2.1]; omega
      have hc := HS5.out.cell hjQ
      have hf := HS5.out.frozen j
      rw [Nat.zero_add] at hc
      have q4 : (j : Int) < (e : Int) + 1 := by omega
      clear hsg5
      go_wp2
      go_roundw
      case rel => exact ⟨⟨j, _, _, _, by omega, rfl, rfl, HST, HSG.out.only (only_set (only_refl w3.heap.size _) _ _) (by have := HNE.out.2.1; omega), by have h := HS5.out.set_ (z := (q : Int)) (v := q) hjQ rfl; rw [Nat.zero_add] at h; exact h⟩, (hrb.out.only (away_ne (fun h => HNE.out.1 h.symm)) ho5.out (by have := hbw.out.1; omega)).away (away_ne (by have := HNE.out.2.2.2.1; omega)) _ _, by have h1 := hbw.out.1; have h2 := ho5.out.size; simp only [World.setCell, Array.size_modify]; omega, (only_below hbw.out.2 ho5.out hbw.out.2.size HNE.out.2.2.1).setCell (p := ⟨w3.heap.size, j, none⟩) HNE.out.2.2.2.2 _⟩
      case measure => simp [intOf]
/-- divide of any two numbers, the second one above 0 -/
theorem divides_all (X Y : Nat) (hY : 0 < Y) : Divides X Y := by
  intro xs ys A B n c m d w hx hy dx dy hn hm hm0
  subst hx hy
  rcases Nat.lt_or_ge (val xs) (val ys) with h | h
  · exact divide_less dx dy hn h
  · by_cases hm1 : m = 1
    · subst hm1
      exact divide_one dx dy hn h
    · exact divide_long dx dy hn (by omega) h
end Go.Proofs.YtgmnpajecpjklaaDoor.wh
