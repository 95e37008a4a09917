/- The document's answers of layer 2: Text, Cmp, Floor. -/
import Derived.Test.YtpikbhcjgcbdfaaDoorFt1
import Derived.Test.YtpikbhcjgcbdfaaDoorFo2
import Derived.Test.YtpikbhcjgcbdfaaDoorRefDiv
import Derived.Test.YtpikbhcjgcbdfaaDoorRefText
import Derived.Test.YtpikbhcjgcbdfaaDoorTextSame
namespace Go.Proofs.YtpikbhcjgcbdfaaDoor.wh
open Go.RowKit

theorem refCmpr_any {v u : Value} {p q : Nat} {a b : Int} {r : Int} {w : World} (hp : p ≤ 1000) (hq : q ≤ 1000) (hx : IsNum w w.heap.size p v a) (hy : IsNum w w.heap.size q u b) (hr : cmpZ a b = r) :
    Calls Tryd.prog 27 #[v, u] w fun e w' => e = .returned (.int .i64 r) ∧ Hid (Below w.heap.size w w') := by
  subst hr
  exact refCmp_any hp hq hx hy
theorem TextIs.short {z : Int} {l : List UInt8} {m : Nat} (h : TextIs z l) (hz : z.natAbs < 1000000000 ^ m) (hm : m ≤ 100) : l.length ≤ 1000 := by
  obtain ⟨neg, ds, hR, hv, rfl⟩ := h
  have e := zval_abs neg ds
  rw [hv] at e
  have := top_len (right_top hR) (m := m) (by rw [← e]; exact hz)
  exact text_short hR (by omega)
theorem refText1 {v : Value} {m : Nat} {z : Int} {l : List UInt8} {w : World} (hm : m ≤ 100) (ht : TextIs z l) (hv : IsNum w w.heap.size m v z) :
    Calls Tryd.prog 29 #[v] w fun e w' => ∃ s : ByteArray, e = .returned (.string s) ∧ Hid (s.data.toList = l) ∧ s.size ≤ 1000 ∧ Hid (Below w.heap.size w w') := by
  have hs : l.length ≤ 1000 := ht.short (m := m) (Nat.lt_of_lt_of_le hv.small (Nat.pow_le_pow_left (by omega) m)) hm
  refine (refText_any (by omega) hv).mono ?_
  rintro e w' ⟨rn, rds, rfl, hrz, hrT, hrP, hrn, hb⟩
  obtain ⟨neg, ds, hR, hz, rfl⟩ := ht
  have hE := text_same hR hz hrz.out hrT.out hrP.out hrn.out
  rw [hE]
  exact ⟨_, rfl, rfl, hs, hb⟩

set_option maxRecDepth 100000 in
set_option maxHeartbeats 4000000 in
theorem text2_any {v : Value} {p : Nat} {q : Rat} {l : List UInt8} {w : World} (hp : p ≤ 100) (hx : IsFn w p v q) (ht : TextFr q l) :
    Calls Tryd.prog 55 #[v] w fun e w' => ∃ s : ByteArray, e = .returned (.string s) ∧ Hid (s.data.toList = l) ∧ Hid (Below w.heap.size w w') := by
  obtain ⟨xi, Ai, ni, ci, yi, Bi, mi, di, rfl, h1, h2⟩ := hx
  have I1 := Lib.hid h1
  have I2 := Lib.hid h2
  clear h1 h2
  have HT : Hid (Mem w [(w.heap.size, 61, [.bool xi, .slice Ai ni ci, .bool yi, .slice Bi mi di])] (w.alloc (.cells #[.bool xi, .slice Ai ni ci, .bool yi, .slice Bi mi di] 61))) := ((Mem.new w).push (by simp) 61 [.bool xi, .slice Ai ni ci, .bool yi, .slice Bi mi di] rfl)
  have A0 : Hid (∀ w' : World, Mem w [(w.heap.size, 61, [.bool xi, .slice Ai ni ci, .bool yi, .slice Bi mi di])] w' → (w'.cell? ⟨w.heap.size, 0, none⟩ = some (.bool xi) ∧ w'.cell? ⟨w.heap.size, 1, none⟩ = some (.slice Ai ni ci) ∧ w'.cell? ⟨w.heap.size, 2, none⟩ = some (.bool yi) ∧ w'.cell? ⟨w.heap.size, 3, none⟩ = some (.slice Bi mi di)) ∧ (w'.frozen? ⟨w.heap.size, 0, none⟩ = false ∧ w'.frozen? ⟨w.heap.size, 1, none⟩ = false ∧ w'.frozen? ⟨w.heap.size, 2, none⟩ = false ∧ w'.frozen? ⟨w.heap.size, 3, none⟩ = false) ∧ Hid (Mem w [(w.heap.size, 61, [.bool xi, .slice Ai ni ci, .bool yi, .slice Bi mi di])] w')) := fun w' h => ⟨⟨h.c 0 rfl 0 rfl, h.c 0 rfl 1 rfl, h.c 0 rfl 2 rfl, h.c 0 rfl 3 rfl⟩, ⟨h.f 0 rfl 0, h.f 0 rfl 1, h.f 0 rfl 2, h.f 0 rfl 3⟩, h⟩
  have C0 := (A0.out _ HT.out).1
  rcases ht with ⟨hd, ht⟩ | ⟨hd, a, b, ha, hb, rfl⟩
  · have HC := Lib.hid (den_one hd)
    have HTX := Lib.hid ht
    clear hd ht
    go_enter Tryd.func55, Tryd.ntmps55
    go_wp2_with fail
    refine (refText1 (by omega) HTX.out (I1.out.over HT.out.below)).mono ?_
    rintro e w1 ⟨sa, rfl, hla, hsa, hb1⟩
    have T1 := Lib.hid (Mem.over hb1 HT.out)
    clear C0
    go_wp2
    go_region_held3 (fun w' => (w'.cell? ⟨w.heap.size, 0, none⟩ = some (.bool xi) ∧ w'.cell? ⟨w.heap.size, 1, none⟩ = some (.slice Ai ni ci) ∧ w'.cell? ⟨w.heap.size, 2, none⟩ = some (.bool yi) ∧ w'.cell? ⟨w.heap.size, 3, none⟩ = some (.slice Bi mi di)) ∧ (w'.frozen? ⟨w.heap.size, 0, none⟩ = false ∧ w'.frozen? ⟨w.heap.size, 1, none⟩ = false ∧ w'.frozen? ⟨w.heap.size, 2, none⟩ = false ∧ w'.frozen? ⟨w.heap.size, 3, none⟩ = false) ∧ Hid (Mem w [(w.heap.size, 61, [.bool xi, .slice Ai ni ci, .bool yi, .slice Bi mi di])] w')) (first | (with_reducible exact A0.out _ T1.out.drew) | (with_reducible exact A0.out _ (Mem.over hb (Mem.get (by assumption))))) (first | (go_at_call 35; refine (int_any 1 _ (by omega) (by omega)).mono ?_; rintro e w4 ⟨x4, A4, n4, c4, rfl, hi4, hb⟩; have hb4 := hb) | (go_at_call 27; refine (refCmpr_any (p := p) (q := 25) (by omega) (by omega) (I2.out.over (Mem.get (by assumption)).below) (hi4.out.kept (by repeat' (first | (with_reducible exact Kept.refl _) | (with_reducible apply Kept.drew) | (with_reducible apply Kept.alloc)))) HC.out).mono ?_; rintro e w5 ⟨rfl, hb⟩; have hb5 := hb))
    have TS := Lib.hid (Mem.get (by assumption)).below
    go_wp2
    (try simp only [Exit.inBlock, Exit.then])
    go_ret
    exact ⟨sa, rfl, hla, TS.out⟩
  · have HC := Lib.hid (den_more hd)
    have HTA := Lib.hid ha
    have HTB := Lib.hid hb
    clear hd ha hb
    go_enter Tryd.func55, Tryd.ntmps55
    go_wp2_with fail
    refine (refText1 (by omega) HTA.out (I1.out.over HT.out.below)).mono ?_
    rintro e w1 ⟨sa, rfl, hla, hsa, hb1⟩
    have hno : ¬ (9223372036854775807 < sa.size + 1) := by omega
    have T1 := Lib.hid (Mem.over hb1 HT.out)
    clear C0
    go_wp2
    go_region_held3 (fun w' => (w'.cell? ⟨w.heap.size, 0, none⟩ = some (.bool xi) ∧ w'.cell? ⟨w.heap.size, 1, none⟩ = some (.slice Ai ni ci) ∧ w'.cell? ⟨w.heap.size, 2, none⟩ = some (.bool yi) ∧ w'.cell? ⟨w.heap.size, 3, none⟩ = some (.slice Bi mi di)) ∧ (w'.frozen? ⟨w.heap.size, 0, none⟩ = false ∧ w'.frozen? ⟨w.heap.size, 1, none⟩ = false ∧ w'.frozen? ⟨w.heap.size, 2, none⟩ = false ∧ w'.frozen? ⟨w.heap.size, 3, none⟩ = false) ∧ Hid (Mem w [(w.heap.size, 61, [.bool xi, .slice Ai ni ci, .bool yi, .slice Bi mi di])] w')) (first | (with_reducible exact A0.out _ T1.out.drew) | (with_reducible exact A0.out _ (Mem.over hb (Mem.get (by assumption))))) (first | (go_at_call 35; refine (int_any 1 _ (by omega) (by omega)).mono ?_; rintro e w4 ⟨x4, A4, n4, c4, rfl, hi4, hb⟩; have hb4 := hb) | (go_at_call 27; refine (refCmpr_any (p := p) (q := 25) (by omega) (by omega) (I2.out.over (Mem.get (by assumption)).below) (hi4.out.kept (by repeat' (first | (with_reducible exact Kept.refl _) | (with_reducible apply Kept.drew) | (with_reducible apply Kept.alloc)))) HC.out).mono ?_; rintro e w5 ⟨rfl, hb⟩; have hb5 := hb))
    have T2 := Lib.hid (Mem.get (by assumption))
    have C2 := (A0.out _ T2.out).1
    go_wp2_with fail
    refine (refText1 (by omega) HTB.out (I2.out.over T2.out.below)).mono ?_
    rintro e w6 ⟨sb, rfl, hlb, hsb, hb6⟩
    have hno2 : ¬ (9223372036854775807 < sa.size + 1 + sb.size) := by omega
    have T3 := Lib.hid (Mem.over hb6 T2.out)
    go_wp2
    (try simp only [Exit.inBlock, Exit.then])
    go_ret
    refine ⟨sa ++ ⟨#[47]⟩ ++ sb, rfl, ?_, T3.out.below⟩
    show _ = _
    rw [← hla.out, ← hlb.out]
    simp

theorem fn_over {w : World} {m : Nat} {q : Rat} {n1 n2 : Bool} {A1 A2 : Option Addr} {l1 c1 l2 c2 : Nat} (h : IsFn w m (.agg #[.bool n1, .slice A1 l1 c1, .bool n2, .slice A2 l2 c2]) q) : IsNum w w.heap.size m (.agg #[.bool n1, .slice A1 l1 c1]) q.num := by
  obtain ⟨m1, B1, k1, d1, m2, B2, k2, d2, e, h1, h2⟩ := h
  cases e
  exact h1
theorem cmpR_less (x y : Rat) : cmpZ (x + -y).num 0 = cmpR x y := by
  have h := cmpR_cross (x + -y) 0
  have e1 : (0 : Rat).num = 0 := rfl
  have e2 : (((0 : Rat).den : Nat) : Int) = 1 := rfl
  rw [e1, e2, Int.mul_one, Int.zero_mul] at h
  rw [h]
  rcases rat_three x y with g | g | g
  · rw [cmpR_lt' g, cmpR_lt' (by grind)]
  · rw [g, show y + -y = 0 by grind, cmpR_eq', cmpR_eq']
  · rw [cmpR_gt' g, cmpR_gt' (by grind)]

set_option maxRecDepth 100000 in
set_option maxHeartbeats 4000000 in
theorem cmp2_any {v u : Value} {p : Nat} {x y : Rat} {r : Int} {w : World} (hp1 : 1 ≤ p) (hp : p ≤ 400) (hx : IsFn w p v x) (hy : IsFn w p u y) (hr : cmpR x y = r) :
    Calls Tryd.prog 53 #[v, u] w fun e w' => e = .returned (.int .i64 r) ∧ Hid (Below w.heap.size w w') := by
  have HR : Hid (cmpZ (x + -y).num 0 = r) := (cmpR_less x y).trans hr
  clear hr
  have HX := Lib.hid hx
  have HY := Lib.hid hy
  obtain ⟨xi, Ai, ni, ci, yi, Bi, mi, di, rfl, h1, h2⟩ := hx
  obtain ⟨xj, Aj, nj, cj, yj, Bj, mj, dj, rfl, g1, g2⟩ := hy
  clear h1 h2 g1 g2
  have HT : Hid (Mem w [(w.heap.size, 61, [.bool xi, .slice Ai ni ci, .bool yi, .slice Bi mi di]), (w.heap.size + 1, 61, [.bool xj, .slice Aj nj cj, .bool yj, .slice Bj mj dj])] ((w.alloc (.cells #[.bool xi, .slice Ai ni ci, .bool yi, .slice Bi mi di] 61)).alloc (.cells #[.bool xj, .slice Aj nj cj, .bool yj, .slice Bj mj dj] 61))) := (((Mem.new w).push (by simp) 61 [.bool xi, .slice Ai ni ci, .bool yi, .slice Bi mi di] rfl).push (by simp) 61 [.bool xj, .slice Aj nj cj, .bool yj, .slice Bj mj dj] rfl)
  have A0 : Hid (∀ w' : World, Mem w [(w.heap.size, 61, [.bool xi, .slice Ai ni ci, .bool yi, .slice Bi mi di]), (w.heap.size + 1, 61, [.bool xj, .slice Aj nj cj, .bool yj, .slice Bj mj dj])] w' → (w'.cell? ⟨w.heap.size, 0, none⟩ = some (.bool xi) ∧ w'.cell? ⟨w.heap.size, 1, none⟩ = some (.slice Ai ni ci) ∧ w'.cell? ⟨w.heap.size, 2, none⟩ = some (.bool yi) ∧ w'.cell? ⟨w.heap.size, 3, none⟩ = some (.slice Bi mi di) ∧ w'.cell? ⟨w.heap.size + 1, 0, none⟩ = some (.bool xj) ∧ w'.cell? ⟨w.heap.size + 1, 1, none⟩ = some (.slice Aj nj cj) ∧ w'.cell? ⟨w.heap.size + 1, 2, none⟩ = some (.bool yj) ∧ w'.cell? ⟨w.heap.size + 1, 3, none⟩ = some (.slice Bj mj dj)) ∧ (w'.frozen? ⟨w.heap.size, 0, none⟩ = false ∧ w'.frozen? ⟨w.heap.size, 1, none⟩ = false ∧ w'.frozen? ⟨w.heap.size, 2, none⟩ = false ∧ w'.frozen? ⟨w.heap.size, 3, none⟩ = false ∧ w'.frozen? ⟨w.heap.size + 1, 0, none⟩ = false ∧ w'.frozen? ⟨w.heap.size + 1, 1, none⟩ = false ∧ w'.frozen? ⟨w.heap.size + 1, 2, none⟩ = false ∧ w'.frozen? ⟨w.heap.size + 1, 3, none⟩ = false) ∧ Hid (Mem w [(w.heap.size, 61, [.bool xi, .slice Ai ni ci, .bool yi, .slice Bi mi di]), (w.heap.size + 1, 61, [.bool xj, .slice Aj nj cj, .bool yj, .slice Bj mj dj])] w')) := fun w' h => ⟨⟨h.c 0 rfl 0 rfl, h.c 0 rfl 1 rfl, h.c 0 rfl 2 rfl, h.c 0 rfl 3 rfl, h.c 1 rfl 0 rfl, h.c 1 rfl 1 rfl, h.c 1 rfl 2 rfl, h.c 1 rfl 3 rfl⟩, ⟨h.f 0 rfl 0, h.f 0 rfl 1, h.f 0 rfl 2, h.f 0 rfl 3, h.f 1 rfl 0, h.f 1 rfl 1, h.f 1 rfl 2, h.f 1 rfl 3⟩, h⟩
  go_enter Tryd.func53, Tryd.ntmps53
  go_wp2
  generalize hW : ((w.alloc (.cells #[.bool xi, .slice Ai ni ci, .bool yi, .slice Bi mi di] 61)).alloc (.cells #[.bool xj, .slice Aj nj cj, .bool yj, .slice Bj mj dj] 61)) = V0 at *
  clear hW
  go_cut [5] (fun sp wx => ∃ gs x6 A6 n6 c6 y6 B6 m6 d6, sp = .pointer (some ⟨gs, 0, none⟩) ∧ Hid (Mem w [(w.heap.size, 61, [.bool xi, .slice Ai ni ci, .bool yi, .slice Bi mi di]), (w.heap.size + 1, 61, [.bool xj, .slice Aj nj cj, .bool yj, .slice Bj mj dj]), (gs, 61, [.bool x6, .slice A6 n6 c6, .bool y6, .slice B6 m6 d6])] wx) ∧ Hid (IsFn wx (p + p + 2) (.agg #[.bool x6, .slice A6 n6 c6, .bool y6, .slice B6 m6 d6]) (x + -y)) ∧ Hid (Kept V0 wx) ∧ Hid (w.heap.size + 1 < gs))
  case first =>
    have hzl0 : w.heap.size < V0.heap.size := HT.out.lt 0 rfl
    have hzl1 : w.heap.size + 1 < V0.heap.size := HT.out.lt 1 rfl
    go_region_held3 (fun w' => (w'.cell? ⟨w.heap.size, 0, none⟩ = some (.bool xi) ∧ w'.cell? ⟨w.heap.size, 1, none⟩ = some (.slice Ai ni ci) ∧ w'.cell? ⟨w.heap.size, 2, none⟩ = some (.bool yi) ∧ w'.cell? ⟨w.heap.size, 3, none⟩ = some (.slice Bi mi di) ∧ w'.cell? ⟨w.heap.size + 1, 0, none⟩ = some (.bool xj) ∧ w'.cell? ⟨w.heap.size + 1, 1, none⟩ = some (.slice Aj nj cj) ∧ w'.cell? ⟨w.heap.size + 1, 2, none⟩ = some (.bool yj) ∧ w'.cell? ⟨w.heap.size + 1, 3, none⟩ = some (.slice Bj mj dj)) ∧ (w'.frozen? ⟨w.heap.size, 0, none⟩ = false ∧ w'.frozen? ⟨w.heap.size, 1, none⟩ = false ∧ w'.frozen? ⟨w.heap.size, 2, none⟩ = false ∧ w'.frozen? ⟨w.heap.size, 3, none⟩ = false ∧ w'.frozen? ⟨w.heap.size + 1, 0, none⟩ = false ∧ w'.frozen? ⟨w.heap.size + 1, 1, none⟩ = false ∧ w'.frozen? ⟨w.heap.size + 1, 2, none⟩ = false ∧ w'.frozen? ⟨w.heap.size + 1, 3, none⟩ = false) ∧ Hid (Mem w [(w.heap.size, 61, [.bool xi, .slice Ai ni ci, .bool yi, .slice Bi mi di]), (w.heap.size + 1, 61, [.bool xj, .slice Aj nj cj, .bool yj, .slice Bj mj dj])] w')) (first | (with_reducible exact A0.out _ HT.out.drew) | (with_reducible exact A0.out _ (Mem.over hb (Mem.get (by assumption)))) | (refine A0.out _ ?_; (repeat' (first | (with_reducible exact HT.out) | (with_reducible exact HMw6.out) | (with_reducible exact HMw5.out) | (with_reducible exact (Mem.over hb (Mem.get (by assumption)))) | (with_reducible apply Mem.drew) | (with_reducible apply Mem.alloc) | (with_reducible refine Mem.fill4 ?_ ?_ ?_ _ _ _ _) | omega | (simp <;> omega))))) (first | (go_at_call 51; refine (neg2_any (by omega) (HY.out.over (Mem.get (by assumption)).below)).mono ?_; rintro e w5 ⟨x5, A5, n5, c5, y5, B5, m5, d5, rfl, hi5, hb⟩; have hbw5 := hb; have HMw5 := Lib.hid (Mem.over hb (Mem.get (by assumption))); (first | (with_reducible (have hzw5 : V0.heap.size + 1 ≤ w5.heap.size := sz1 hb)) | (with_reducible (have hzw5 : V0.heap.size + 1 ≤ w5.heap.size := sz1D hb)) | (with_reducible (have hzw5 : V0.heap.size ≤ w5.heap.size := sz0D hb)) | (have hzw5 : V0.heap.size ≤ w5.heap.size := sz0 hb)); (first | (with_reducible (have zq := blk_over zq hb)) | (with_reducible (have zq := blk_under (t := 61) (cs := #[.bool false, .slice none 0 0, .bool false, .slice none 0 0]) hb)) | (with_reducible (have zq := blk_underD (t := 61) (cs := #[.bool false, .slice none 0 0, .bool false, .slice none 0 0]) hb)) | skip); (try (have qa0 := (blk_four zq).1.1; have qa1 := (blk_four zq).1.2.1; have qa2 := (blk_four zq).1.2.2.1; have qa3 := (blk_four zq).1.2.2.2; have qa4 := (blk_four zq).2.1; have qa5 := (blk_four zq).2.2.1; have qa6 := (blk_four zq).2.2.2.1; have qa7 := (blk_four zq).2.2.2.2; have qal := zq.lt))) | (go_at_call 45; refine (add2_any (p := p) hp1 hp (HX.out.over (Mem.get (by assumption)).below) (hi5.out.kept (by repeat' (first | (with_reducible exact Kept.refl _) | (with_reducible apply Kept.drew) | (with_reducible apply Kept.alloc))))).mono ?_; rintro e w6 ⟨x6, A6, n6, c6, y6, B6, m6, d6, rfl, hi6, hb⟩; have hbw6 := hb; have HMw6 := Lib.hid (Mem.over hb (Mem.get (by assumption))); (first | (with_reducible (have hzw6 : w5.heap.size + 1 ≤ w6.heap.size := sz1 hb)) | (with_reducible (have hzw6 : w5.heap.size + 1 ≤ w6.heap.size := sz1D hb)) | (with_reducible (have hzw6 : w5.heap.size ≤ w6.heap.size := sz0D hb)) | (have hzw6 : w5.heap.size ≤ w6.heap.size := sz0 hb)); (first | (with_reducible (have zq := blk_over zq hb)) | (with_reducible (have zq := blk_under (t := 61) (cs := #[.bool false, .slice none 0 0, .bool false, .slice none 0 0]) hb)) | (with_reducible (have zq := blk_underD (t := 61) (cs := #[.bool false, .slice none 0 0, .bool false, .slice none 0 0]) hb)) | skip); (try (have qa0 := (blk_four zq).1.1; have qa1 := (blk_four zq).1.2.1; have qa2 := (blk_four zq).1.2.2.1; have qa3 := (blk_four zq).1.2.2.2; have qa4 := (blk_four zq).2.1; have qa5 := (blk_four zq).2.2.1; have qa6 := (blk_four zq).2.2.2.1; have qa7 := (blk_four zq).2.2.2.2; have qal := zq.lt))))
    all_goals
      go_wp2_with fail
      go_meet
      refine ⟨_, x6, A6, n6, c6, y6, B6, m6, d6, rfl, ?mm, hi6.out.kept ?k0, ?kv, (by omega : w.heap.size + 1 < _)⟩
      case mm =>
        refine Mem.plus1' (L := [(w.heap.size, 61, [.bool xi, .slice Ai ni ci, .bool yi, .slice Bi mi di]), (w.heap.size + 1, 61, [.bool xj, .slice Aj nj cj, .bool yj, .slice Bj mj dj])]) (t1 := 61) (c1 := [.bool x6, .slice A6 n6 c6, .bool y6, .slice B6 m6 d6]) ?m ?b1 (by omega) (by simp <;> omega) rfl
        case m => (repeat' (first | (with_reducible exact HT.out) | (with_reducible exact HMw6.out) | (with_reducible exact HMw5.out) | (with_reducible exact (Mem.over hb (Mem.get (by assumption)))) | (with_reducible apply Mem.drew) | (with_reducible apply Mem.alloc) | (with_reducible refine Mem.fill4 ?_ ?_ ?_ _ _ _ _) | omega | (simp <;> omega)))
        case b1 => (repeat' (first | (with_reducible assumption) | (with_reducible exact Blk.new _ _ _) | (with_reducible apply Blk.alloc) | (with_reducible refine blk_fillz4 ?_) | omega))
      case k0 => (repeat' (first | (with_reducible exact Kept.refl _) | (with_reducible apply Kept.drew) | (with_reducible apply Kept.alloc) | (with_reducible refine kept_fillz4 (t := 61) ?_ ?_) | (with_reducible refine kept_over hbw6 ?_) | (with_reducible refine kept_over hbw5 ?_) | (with_reducible assumption) | (with_reducible exact Blk.new _ _ _) | (with_reducible apply Blk.alloc) | (with_reducible refine blk_fillz4 ?_) | omega))
      case kv => (show Kept _ _; (repeat' (first | (with_reducible exact Kept.refl _) | (with_reducible apply Kept.drew) | (with_reducible apply Kept.alloc) | (with_reducible refine kept_fillz4 (t := 61) ?_ ?_) | (with_reducible refine kept_over hbw6 ?_) | (with_reducible refine kept_over hbw5 ?_) | (with_reducible assumption) | (with_reducible exact Blk.new _ _ _) | (with_reducible apply Blk.alloc) | (with_reducible refine blk_fillz4 ?_) | omega)))
  obtain ⟨gs, x6, A6, n6, c6, y6, B6, m6, d6, rfl, T6, HD6, K6, HG6⟩ := hcut
  generalize hwc : wc = W6 at *
  clear hwc
  have A6H : Hid (∀ w' : World, Mem w [(w.heap.size, 61, [.bool xi, .slice Ai ni ci, .bool yi, .slice Bi mi di]), (w.heap.size + 1, 61, [.bool xj, .slice Aj nj cj, .bool yj, .slice Bj mj dj]), (gs, 61, [.bool x6, .slice A6 n6 c6, .bool y6, .slice B6 m6 d6])] w' → (w'.cell? ⟨w.heap.size, 0, none⟩ = some (.bool xi) ∧ w'.cell? ⟨w.heap.size, 1, none⟩ = some (.slice Ai ni ci) ∧ w'.cell? ⟨w.heap.size, 2, none⟩ = some (.bool yi) ∧ w'.cell? ⟨w.heap.size, 3, none⟩ = some (.slice Bi mi di) ∧ w'.cell? ⟨w.heap.size + 1, 0, none⟩ = some (.bool xj) ∧ w'.cell? ⟨w.heap.size + 1, 1, none⟩ = some (.slice Aj nj cj) ∧ w'.cell? ⟨w.heap.size + 1, 2, none⟩ = some (.bool yj) ∧ w'.cell? ⟨w.heap.size + 1, 3, none⟩ = some (.slice Bj mj dj) ∧ w'.cell? ⟨gs, 0, none⟩ = some (.bool x6) ∧ w'.cell? ⟨gs, 1, none⟩ = some (.slice A6 n6 c6) ∧ w'.cell? ⟨gs, 2, none⟩ = some (.bool y6) ∧ w'.cell? ⟨gs, 3, none⟩ = some (.slice B6 m6 d6)) ∧ (w'.frozen? ⟨w.heap.size, 0, none⟩ = false ∧ w'.frozen? ⟨w.heap.size, 1, none⟩ = false ∧ w'.frozen? ⟨w.heap.size, 2, none⟩ = false ∧ w'.frozen? ⟨w.heap.size, 3, none⟩ = false ∧ w'.frozen? ⟨w.heap.size + 1, 0, none⟩ = false ∧ w'.frozen? ⟨w.heap.size + 1, 1, none⟩ = false ∧ w'.frozen? ⟨w.heap.size + 1, 2, none⟩ = false ∧ w'.frozen? ⟨w.heap.size + 1, 3, none⟩ = false ∧ w'.frozen? ⟨gs, 0, none⟩ = false ∧ w'.frozen? ⟨gs, 1, none⟩ = false ∧ w'.frozen? ⟨gs, 2, none⟩ = false ∧ w'.frozen? ⟨gs, 3, none⟩ = false) ∧ Hid (Mem w [(w.heap.size, 61, [.bool xi, .slice Ai ni ci, .bool yi, .slice Bi mi di]), (w.heap.size + 1, 61, [.bool xj, .slice Aj nj cj, .bool yj, .slice Bj mj dj]), (gs, 61, [.bool x6, .slice A6 n6 c6, .bool y6, .slice B6 m6 d6])] w')) := fun w' h => ⟨⟨h.c 0 rfl 0 rfl, h.c 0 rfl 1 rfl, h.c 0 rfl 2 rfl, h.c 0 rfl 3 rfl, h.c 1 rfl 0 rfl, h.c 1 rfl 1 rfl, h.c 1 rfl 2 rfl, h.c 1 rfl 3 rfl, h.c 2 rfl 0 rfl, h.c 2 rfl 1 rfl, h.c 2 rfl 2 rfl, h.c 2 rfl 3 rfl⟩, ⟨h.f 0 rfl 0, h.f 0 rfl 1, h.f 0 rfl 2, h.f 0 rfl 3, h.f 1 rfl 0, h.f 1 rfl 1, h.f 1 rfl 2, h.f 1 rfl 3, h.f 2 rfl 0, h.f 2 rfl 1, h.f 2 rfl 2, h.f 2 rfl 3⟩, h⟩
  have HN6 := Lib.hid (fn_over HD6.out)
  go_wp2
  go_region_held3 (fun w' => (w'.cell? ⟨w.heap.size, 0, none⟩ = some (.bool xi) ∧ w'.cell? ⟨w.heap.size, 1, none⟩ = some (.slice Ai ni ci) ∧ w'.cell? ⟨w.heap.size, 2, none⟩ = some (.bool yi) ∧ w'.cell? ⟨w.heap.size, 3, none⟩ = some (.slice Bi mi di) ∧ w'.cell? ⟨w.heap.size + 1, 0, none⟩ = some (.bool xj) ∧ w'.cell? ⟨w.heap.size + 1, 1, none⟩ = some (.slice Aj nj cj) ∧ w'.cell? ⟨w.heap.size + 1, 2, none⟩ = some (.bool yj) ∧ w'.cell? ⟨w.heap.size + 1, 3, none⟩ = some (.slice Bj mj dj) ∧ w'.cell? ⟨gs, 0, none⟩ = some (.bool x6) ∧ w'.cell? ⟨gs, 1, none⟩ = some (.slice A6 n6 c6) ∧ w'.cell? ⟨gs, 2, none⟩ = some (.bool y6) ∧ w'.cell? ⟨gs, 3, none⟩ = some (.slice B6 m6 d6)) ∧ (w'.frozen? ⟨w.heap.size, 0, none⟩ = false ∧ w'.frozen? ⟨w.heap.size, 1, none⟩ = false ∧ w'.frozen? ⟨w.heap.size, 2, none⟩ = false ∧ w'.frozen? ⟨w.heap.size, 3, none⟩ = false ∧ w'.frozen? ⟨w.heap.size + 1, 0, none⟩ = false ∧ w'.frozen? ⟨w.heap.size + 1, 1, none⟩ = false ∧ w'.frozen? ⟨w.heap.size + 1, 2, none⟩ = false ∧ w'.frozen? ⟨w.heap.size + 1, 3, none⟩ = false ∧ w'.frozen? ⟨gs, 0, none⟩ = false ∧ w'.frozen? ⟨gs, 1, none⟩ = false ∧ w'.frozen? ⟨gs, 2, none⟩ = false ∧ w'.frozen? ⟨gs, 3, none⟩ = false) ∧ Hid (Mem w [(w.heap.size, 61, [.bool xi, .slice Ai ni ci, .bool yi, .slice Bi mi di]), (w.heap.size + 1, 61, [.bool xj, .slice Aj nj cj, .bool yj, .slice Bj mj dj]), (gs, 61, [.bool x6, .slice A6 n6 c6, .bool y6, .slice B6 m6 d6])] w')) (first | (with_reducible exact A6H.out _ T6.out.drew) | (with_reducible exact A6H.out _ (Mem.over hb (Mem.get (by assumption))))) (first | (go_at_call 35; refine (int_any 0 _ (by omega) (by omega)).mono ?_; rintro e w7 ⟨x7, A7, n7, c7, rfl, hi7, hb⟩; have hb7 := hb) | (go_at_call 27; refine (refCmpr_any (p := p + p + 2) (q := 25) (by omega) (by omega) (HN6.out.kept (by repeat' (first | (with_reducible exact Kept.refl _) | (with_reducible apply Kept.drew) | (with_reducible apply Kept.alloc) | (with_reducible refine kept_over hb7 ?_)))) (hi7.out.kept (by repeat' (first | (with_reducible exact Kept.refl _) | (with_reducible apply Kept.drew) | (with_reducible apply Kept.alloc)))) HR.out).mono ?_; rintro e w8 ⟨rfl, hb⟩; have hb8 := hb))
  have TS := Lib.hid (Mem.get (by assumption)).below
  go_wp2
  (try simp only [Exit.inBlock, Exit.then])
  go_ret
  exact ⟨rfl, TS.out⟩

end Go.Proofs.YtpikbhcjgcbdfaaDoor.wh
