/- The statements of layer 2: order of fractions, and the example of the document (speaks). -/
import Derived.Test.YtpikbhcjgcbdfaaDoorFo1
import Derived.Test.YtpikbhcjgcbdfaaDoorFr7
import Derived.Test.YtpikbhcjgcbdfaaDoorFr8
namespace Go.Proofs.YtpikbhcjgcbdfaaDoor.wh
open Go.RowKit

theorem cmpR_range (x y : Rat) : -1 ≤ cmpR x y ∧ cmpR x y ≤ 1 := by
  unfold cmpR
  split
  · omega
  · split <;> omega
theorem cmpR_lt' {x y : Rat} (h : x < y) : cmpR x y = -1 := by unfold cmpR; rw [if_pos h]
theorem cmpR_gt' {x y : Rat} (h : y < x) : cmpR x y = 1 := by
  unfold cmpR
  rw [if_neg (by grind), if_pos h]
theorem cmpR_eq' (x : Rat) : cmpR x x = 0 := by
  unfold cmpR
  rw [if_neg (by grind), if_neg (by grind)]
theorem rat_three (x y : Rat) : x < y ∨ x = y ∨ y < x := by
  by_cases h : x < y
  · exact .inl h
  · by_cases h' : y < x
    · exact .inr (.inr h')
    · exact .inr (.inl (by grind))
theorem mul_lt_pos {x y z : Rat} (h : x < y) (hz : 0 < z) : x * z < y * z := by
  have := Rat.mul_pos (show (0 : Rat) < y - x by grind) hz
  grind
theorem mul_lt_neg {x y z : Rat} (h : x < y) (hz : z < 0) : y * z < x * z := by
  have := Rat.mul_pos (show (0 : Rat) < y - x by grind) (show (0 : Rat) < -z by grind)
  grind
theorem cmpR_mul (x y z : Rat) : cmpR (x * z) (y * z) = cmpR x y * cmpR z 0 := by
  rcases rat_three z 0 with hz | hz | hz
  · rw [cmpR_lt' hz]
    rcases rat_three x y with h | h | h
    · rw [cmpR_lt' h, cmpR_gt' (mul_lt_neg h hz)]; rfl
    · rw [h, cmpR_eq', cmpR_eq']; rfl
    · rw [cmpR_gt' h, cmpR_lt' (mul_lt_neg h hz)]; rfl
  · rw [hz, Rat.mul_zero, Rat.mul_zero, cmpR_eq', Int.mul_zero]
  · rw [cmpR_gt' hz]
    rcases rat_three x y with h | h | h
    · rw [cmpR_lt' h, cmpR_lt' (mul_lt_pos h hz)]; rfl
    · rw [h, cmpR_eq', cmpR_eq']; rfl
    · rw [cmpR_gt' h, cmpR_gt' (mul_lt_pos h hz)]; rfl
theorem cmpR_neg (x y : Rat) : cmpR (-x) (-y) = -cmpR x y := by
  rcases rat_three x y with h | h | h
  · rw [cmpR_lt' h, cmpR_gt' (by grind)]; rfl
  · rw [h, cmpR_eq', cmpR_eq']; rfl
  · rw [cmpR_gt' h, cmpR_lt' (by grind)]
theorem inv_turn {x y : Rat} (hx : 0 < x) (hy : 0 < y) (h : x < y) : 1 / y < 1 / x := by
  have ha : 0 < x⁻¹ := Rat.inv_pos.2 hx
  have hb : 0 < y⁻¹ := Rat.inv_pos.2 hy
  have e1 : x * x⁻¹ = 1 := Rat.mul_inv_cancel x (by grind)
  have e2 : y * y⁻¹ = 1 := Rat.mul_inv_cancel y (by grind)
  have h3 := Rat.mul_pos (Rat.mul_pos (show (0 : Rat) < y - x by grind) ha) hb
  rw [Rat.div_def, Rat.div_def, Rat.one_mul, Rat.one_mul]
  have e3 : (y - x) * x⁻¹ * y⁻¹ = x⁻¹ * (y * y⁻¹) - (x * x⁻¹) * y⁻¹ := by grind
  rw [e3, e1, e2] at h3
  grind
theorem cmpR_inv {x y : Rat} (hx : 0 < x) (hy : 0 < y) : cmpR (((1 : Int) : Rat) / x) (((1 : Int) : Rat) / y) = -cmpR x y := by
  have e : ((1 : Int) : Rat) = 1 := rfl
  rw [e]
  rcases rat_three x y with h | h | h
  · rw [cmpR_lt' h, cmpR_gt' (inv_turn hx hy h)]; rfl
  · rw [h, cmpR_eq', cmpR_eq']; rfl
  · rw [cmpR_gt' h, cmpR_lt' (inv_turn hy hx h)]

theorem fr_zero (w : World) (p : Nat) : IsFr w p (.agg #[.bool false, .slice none 0 0, .bool false, .slice none 0 0]) 0 := ⟨false, none, 0, 0, false, none, 0, 0, rfl, isInt_zero _ _ _, isInt_zero _ _ _⟩
theorem fcmpr_any {v u : Value} {p : Nat} {x y : Rat} {w : World} {r : Int} (hp : p ≤ 400) (hx : IsFr w p v x) (hy : IsFr w p u y) (hr : cmpR x y = r) :
    Calls Tryd.prog 52 #[v, u] w fun e w' => e = .returned (.int .i64 r) ∧ Hid (Below w.heap.size w w') := by
  rw [← hr]
  exact fcmp_any hp hx hy

theorem text_m3 : textOf true [3] = [45, 51] := by simp [textOf, headOf, restOf, Lib.decDigits_one]
theorem text_m2 : textOf true [2] = [45, 50] := by simp [textOf, headOf, restOf, Lib.decDigits_one]
theorem text_2 : textOf false [2] = [50] := by simp [textOf, headOf, restOf, Lib.decDigits_one]
theorem text_32 {s : ByteArray} (h : TextFr (Rat.divInt 6 (-4)) s.data.toList) : s = ⟨#[45, 51, 47, 50]⟩ := by
  have hd : (Rat.divInt 6 (-4)).den = 2 := by decide +kernel
  have hn : (Rat.divInt 6 (-4)).num = -3 := by decide +kernel
  unfold TextFr at h
  rw [hd, hn] at h
  rcases h with ⟨h1, _⟩ | ⟨_, a, b, ha, hb, e⟩
  · exact absurd h1 (by decide)
  · have e1 : a = [45, 51] := ha.one ⟨true, [3], rfl, rfl, text_m3.symm⟩
    have e2 : b = [50] := hb.one ⟨false, [2], rfl, rfl, text_2.symm⟩
    subst e1 e2
    obtain ⟨d⟩ := s
    have e3 : d = #[45, 51, 47, 50] := by
      apply Array.toList_inj.1
      simpa using e
    rw [e3]

set_option maxRecDepth 100000 in
set_option maxHeartbeats 4000000 in
theorem speaks2_any (w : World) (htab : Tab w) : Calls Tryd.prog 37 #[] w fun e w' => e = .returned (.bool true) ∧ Hid (Below w.heap.size w w') := by
  have HTAB := Lib.hid htab
  have HFD : Hid (decide ((Rat.divInt 6 (-4)).den = 1) = false) := by show _ = _; decide +kernel
  have HFL : Hid ((Rat.divInt 6 (-4)).floor = -2) := by show _ = _; decide +kernel
  clear htab
  go_enter Tryd.func37, Tryd.ntmps37
  go_wp2_with fail
  refine (ofZ_any 6 w (by omega) (by omega)).mono ?_
  rintro e w1 ⟨x1, A1, n1, c1, rfl, hi1, hb1⟩
  go_wp2_with fail
  refine (ofZ_any (-4) w1 (by omega) (by omega)).mono ?_
  rintro e w2 ⟨x2, A2, n2, c2, rfl, hi2, hb2⟩
  go_wp2_with fail
  refine (make_any (p := 3) (by omega) (hi1.out.over hb2.out) hi2.out).mono ?_
  rintro e w3 ⟨x3, A3, n3, c3, y3, B3, m3, d3, rfl, hi3, hb3⟩
  have T3 : Hid (Mem w [(w3.heap.size, 58, [.bool x3, .slice A3 n3 c3, .bool y3, .slice B3 m3 d3])] (w3.alloc (.cells #[.bool x3, .slice A3 n3 c3, .bool y3, .slice B3 m3 d3] 58))) := (Mem.over hb3 (Mem.over hb2 (Mem.over hb1 (Mem.new w)))).push rfl 58 [.bool x3, .slice A3 n3 c3, .bool y3, .slice B3 m3 d3] rfl
  have I3 : Hid (IsFr (w3.alloc (.cells #[.bool x3, .slice A3 n3 c3, .bool y3, .slice B3 m3 d3] 58)) 3 (.agg #[.bool x3, .slice A3 n3 c3, .bool y3, .slice B3 m3 d3]) (Rat.divInt 6 (-4))) := hi3.out.kept ((Kept.refl _).alloc _)
  have C3 : (w3.alloc (.cells #[.bool x3, .slice A3 n3 c3, .bool y3, .slice B3 m3 d3] 58)).cell? ⟨w3.heap.size, 0, none⟩ = some (.bool x3) ∧ (w3.alloc (.cells #[.bool x3, .slice A3 n3 c3, .bool y3, .slice B3 m3 d3] 58)).cell? ⟨w3.heap.size, 1, none⟩ = some (.slice A3 n3 c3) ∧ (w3.alloc (.cells #[.bool x3, .slice A3 n3 c3, .bool y3, .slice B3 m3 d3] 58)).cell? ⟨w3.heap.size, 2, none⟩ = some (.bool y3) ∧ (w3.alloc (.cells #[.bool x3, .slice A3 n3 c3, .bool y3, .slice B3 m3 d3] 58)).cell? ⟨w3.heap.size, 3, none⟩ = some (.slice B3 m3 d3) := ⟨T3.out.c 0 rfl 0 rfl, T3.out.c 0 rfl 1 rfl, T3.out.c 0 rfl 2 rfl, T3.out.c 0 rfl 3 rfl⟩
  clear hi1 hb1 hi2 hb2 hi3 hb3
  go_wp2_with fail
  refine (floor_any (p := 3) (by omega) I3.out HFD.out).mono ?_
  rintro e w4 ⟨x4, A4, n4, c4, rfl, hi4, hb4⟩
  have I4 : Hid (IsInt w4 w4.heap.size 5 (.agg #[.bool x4, .slice A4 n4 c4]) (-2)) := by
    have h := hi4.out
    rw [HFL.out] at h
    exact h
  have T4 : Hid (Mem w [(w3.heap.size, 58, [.bool x3, .slice A3 n3 c3, .bool y3, .slice B3 m3 d3]), (w4.heap.size, 24, [.bool x4, .slice A4 n4 c4])] (w4.alloc (.cells #[.bool x4, .slice A4 n4 c4] 24))) := (Mem.over hb4 T3.out).push rfl 24 [.bool x4, .slice A4 n4 c4] rfl
  have J4 : Hid (IsFr (w4.alloc (.cells #[.bool x4, .slice A4 n4 c4] 24)) 3 (.agg #[.bool x3, .slice A3 n3 c3, .bool y3, .slice B3 m3 d3]) (Rat.divInt 6 (-4))) := (I3.out.over hb4.out).kept ((Kept.refl _).alloc _)
  have HAL : Hid (Below w4.heap.size w4 (w4.alloc (.cells #[.bool x4, .slice A4 n4 c4] 24))) := (Below.refl _ _).alloc (Nat.le_refl _) _
  have C4 : (w4.alloc (.cells #[.bool x4, .slice A4 n4 c4] 24)).cell? ⟨w3.heap.size, 0, none⟩ = some (.bool x3) ∧ (w4.alloc (.cells #[.bool x4, .slice A4 n4 c4] 24)).cell? ⟨w3.heap.size, 1, none⟩ = some (.slice A3 n3 c3) ∧ (w4.alloc (.cells #[.bool x4, .slice A4 n4 c4] 24)).cell? ⟨w3.heap.size, 2, none⟩ = some (.bool y3) ∧ (w4.alloc (.cells #[.bool x4, .slice A4 n4 c4] 24)).cell? ⟨w3.heap.size, 3, none⟩ = some (.slice B3 m3 d3) ∧ (w4.alloc (.cells #[.bool x4, .slice A4 n4 c4] 24)).cell? ⟨w4.heap.size, 0, none⟩ = some (.bool x4) ∧ (w4.alloc (.cells #[.bool x4, .slice A4 n4 c4] 24)).cell? ⟨w4.heap.size, 1, none⟩ = some (.slice A4 n4 c4) := ⟨T4.out.c 0 rfl 0 rfl, T4.out.c 0 rfl 1 rfl, T4.out.c 0 rfl 2 rfl, T4.out.c 0 rfl 3 rfl, T4.out.c 1 rfl 0 rfl, T4.out.c 1 rfl 1 rfl⟩
  clear C3 hi4 hb4
  go_wp2_with fail
  refine (ftext_any (p := 3) (by omega) J4.out (HTAB.out.below T4.out.below)).mono ?_
  rintro e w5 ⟨s, rfl, hs, hb5⟩
  obtain rfl : s = ⟨#[45, 51, 47, 50]⟩ := text_32 hs.out
  have T5 := Lib.hid (Mem.over hb5 T4.out)
  have HB5 : Hid (Below w4.heap.size w4 w5) := HAL.out.trans (hb5.out.mono HAL.out.size)
  have C5 : w5.cell? ⟨w3.heap.size, 0, none⟩ = some (.bool x3) ∧ w5.cell? ⟨w3.heap.size, 1, none⟩ = some (.slice A3 n3 c3) ∧ w5.cell? ⟨w3.heap.size, 2, none⟩ = some (.bool y3) ∧ w5.cell? ⟨w3.heap.size, 3, none⟩ = some (.slice B3 m3 d3) ∧ w5.cell? ⟨w4.heap.size, 0, none⟩ = some (.bool x4) ∧ w5.cell? ⟨w4.heap.size, 1, none⟩ = some (.slice A4 n4 c4) := ⟨T5.out.c 0 rfl 0 rfl, T5.out.c 0 rfl 1 rfl, T5.out.c 0 rfl 2 rfl, T5.out.c 0 rfl 3 rfl, T5.out.c 1 rfl 0 rfl, T5.out.c 1 rfl 1 rfl⟩
  clear C4 hs hb5
  go_wp2_with fail
  refine (text_small (neg := true) (ds := [2]) (by omega) I4.out HB5.out (by rfl) (by rfl) (by simp) text_m2).mono ?_
  rintro e w6 ⟨rfl, hb6⟩
  have T6 := Lib.hid (Mem.over (Lib.hid hb6) T5.out)
  go_wp2
  go_ret
  exact ⟨rfl, T6.out.below⟩
end Go.Proofs.YtpikbhcjgcbdfaaDoor.wh
