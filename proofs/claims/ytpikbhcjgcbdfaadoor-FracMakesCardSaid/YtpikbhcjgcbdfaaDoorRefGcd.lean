/- The document's answer Gcd. -/
import Derived.Test.YtpikbhcjgcbdfaaDoorRefDiv
namespace Go.Proofs.YtpikbhcjgcbdfaaDoor.wh
open Go.RowKit

theorem rn_unique {w : World} {B B' : Nat} {A : Option Addr} {xs ys : List Nat} (h : Rn w B A xs) (k : Rn w B' A ys) (hl : xs.length = ys.length) : xs = ys := by
  refine List.ext_getElem hl fun i hi hj => ?_
  obtain ⟨b, off, rfl, _, hc⟩ := h (by omega)
  obtain ⟨b', off', e, _, hc'⟩ := k (by omega)
  cases e
  have h1 := hc i hi
  rw [hc' i hj] at h1
  simp only [Option.some.injEq, Value.int.injEq, true_and] at h1
  omega
theorem isNum_unique {w : World} {B B' m m' : Nat} {v : Value} {z z' : Int} (h : IsNum w B m v z) (k : IsNum w B' m' v z') : z = z' := by
  obtain ⟨neg, A, n, c, ds, rfl, h2, h3, _, _, _, _, _, rfl⟩ := h
  obtain ⟨neg', A', n', c', ds', e, k2, k3, _, _, _, _, _, rfl⟩ := k
  cases e
  rw [rn_unique h3 k3 (by rw [h2, k2])]
/-- the number in the box at g -/
noncomputable def numAt (w : World) (g : Nat) : Nat := @Classical.epsilon _ ⟨0⟩ fun Y => ∃ b A n c m, w.cell? ⟨g, 0, none⟩ = some (.bool b) ∧ w.cell? ⟨g, 1, none⟩ = some (.slice A n c) ∧ IsNum w w.heap.size m (.agg #[.bool b, .slice A n c]) ((Y : Nat) : Int)
theorem numAt_eq {w : World} {g Y m : Nat} {b : Bool} {A : Option Addr} {n c : Nat} (h0 : w.cell? ⟨g, 0, none⟩ = some (.bool b)) (h1 : w.cell? ⟨g, 1, none⟩ = some (.slice A n c)) (h : IsNum w w.heap.size m (.agg #[.bool b, .slice A n c]) ((Y : Nat) : Int)) : numAt w g = Y := by
  have hex : ∃ Y, ∃ b A n c m, w.cell? ⟨g, 0, none⟩ = some (.bool b) ∧ w.cell? ⟨g, 1, none⟩ = some (.slice A n c) ∧ IsNum w w.heap.size m (.agg #[.bool b, .slice A n c]) ((Y : Nat) : Int) := ⟨Y, b, A, n, c, m, h0, h1, h⟩
  obtain ⟨b', A', n', c', m', e0, e1, h2⟩ := @Classical.epsilon_spec _ (fun Y => ∃ b A n c m, w.cell? ⟨g, 0, none⟩ = some (.bool b) ∧ w.cell? ⟨g, 1, none⟩ = some (.slice A n c) ∧ IsNum w w.heap.size m (.agg #[.bool b, .slice A n c]) ((Y : Nat) : Int)) hex
  rw [h0] at e0
  rw [h1] at e1
  cases e0
  cases e1
  have := isNum_unique h2 h
  unfold numAt
  omega
theorem isNum_zero_iff {w : World} {B m : Nat} {b : Bool} {A : Option Addr} {n c Y : Nat} (h : IsNum w B m (.agg #[.bool b, .slice A n c]) ((Y : Nat) : Int)) : n = 0 ↔ Y = 0 := by
  obtain ⟨neg, A', n', c', ds, e, h2, h3, h4, h5, h6, h7, h8, h9⟩ := h
  cases e
  have e := natAbs_tz h9
  simp only [Int.natAbs_natCast] at e
  constructor
  · intro hn
    rw [e, List.eq_nil_of_length_eq_zero (h2.trans hn)]
    rfl
  · intro hy
    rcases Nat.eq_zero_or_pos n with hn | hn
    · exact hn
    · have := ttop_pos h7 (fun e2 => by rw [e2] at h2; simp at h2; omega)
      omega

set_option maxRecDepth 100000 in
set_option maxHeartbeats 4000000 in
theorem refGcd_any {v u : Value} {p : Nat} {a b : Int} {w : World} (hp : p ≤ 1000) (hx : IsNum w w.heap.size p v a) (hy : IsNum w w.heap.size p u b) :
    Calls Tryd.prog 25 #[v, u] w fun e w' => GivesNum w p ((Nat.gcd a.natAbs b.natAbs : Nat) : Int) e w' := by
  obtain ⟨nx, A, n, c, xs, rfl, hnp, TX, ZX, PX⟩ := hx.tens
  obtain ⟨ny, B, m, d, ys, rfl, hmq, TY, ZY, PY⟩ := hy.tens
  clear hx hy PX PY
  have HT : Hid (Mem w [(w.heap.size, 29, [.bool nx, .slice A n c]), (w.heap.size + 1, 29, [.bool ny, .slice B m d]), (w.heap.size + 1 + 1, 29, [.bool false, .slice none 0 0])] (((w.alloc (.cells #[.bool nx, .slice A n c] 29)).alloc (.cells #[.bool ny, .slice B m d] 29)).alloc (.cells #[.bool false, .slice none 0 0] 29))) := ((((Mem.new w).push (by simp) 29 [.bool nx, .slice A n c] rfl).push (by simp) 29 [.bool ny, .slice B m d] rfl).push (by simp) 29 [.bool false, .slice none 0 0] rfl)
  have A0 : Hid (∀ w' : World, Mem w [(w.heap.size, 29, [.bool nx, .slice A n c]), (w.heap.size + 1, 29, [.bool ny, .slice B m d]), (w.heap.size + 1 + 1, 29, [.bool false, .slice none 0 0])] w' → (w'.cell? ⟨w.heap.size, 0, none⟩ = some (.bool nx) ∧ w'.cell? ⟨w.heap.size, 1, none⟩ = some (.slice A n c) ∧ w'.cell? ⟨w.heap.size + 1, 0, none⟩ = some (.bool ny) ∧ w'.cell? ⟨w.heap.size + 1, 1, none⟩ = some (.slice B m d) ∧ w'.cell? ⟨w.heap.size + 1 + 1, 0, none⟩ = some (.bool false) ∧ w'.cell? ⟨w.heap.size + 1 + 1, 1, none⟩ = some (.slice none 0 0)) ∧ (w'.frozen? ⟨w.heap.size, 0, none⟩ = false ∧ w'.frozen? ⟨w.heap.size, 1, none⟩ = false ∧ w'.frozen? ⟨w.heap.size + 1, 0, none⟩ = false ∧ w'.frozen? ⟨w.heap.size + 1, 1, none⟩ = false ∧ w'.frozen? ⟨w.heap.size + 1 + 1, 0, none⟩ = false ∧ w'.frozen? ⟨w.heap.size + 1 + 1, 1, none⟩ = false) ∧ Hid (Mem w [(w.heap.size, 29, [.bool nx, .slice A n c]), (w.heap.size + 1, 29, [.bool ny, .slice B m d]), (w.heap.size + 1 + 1, 29, [.bool false, .slice none 0 0])] w')) := fun w' h => ⟨⟨h.c 0 rfl 0 rfl, h.c 0 rfl 1 rfl, h.c 1 rfl 0 rfl, h.c 1 rfl 1 rfl, h.c 2 rfl 0 rfl, h.c 2 rfl 1 rfl⟩, ⟨h.f 0 rfl 0, h.f 0 rfl 1, h.f 1 rfl 0, h.f 1 rfl 1, h.f 2 rfl 0, h.f 2 rfl 1⟩, h⟩
  have G0 := (A0.out _ HT.out).1
  have F0 := (A0.out _ HT.out).2.1
  have EX : Hid (tsgn false (tval xs) = ((a.natAbs : Nat) : Int)) := by show _ = _; rw [natAbs_tz ZX.out]; rfl
  have EY : Hid (tsgn false (tval ys) = ((b.natAbs : Nat) : Int)) := by show _ = _; rw [natAbs_tz ZY.out]; rfl
  clear ZX ZY
  go_enter Tryd.func25, Tryd.ntmps25
  go_wp2_with fail
  refine (make1_row false (tens_row (TX.out.over HT.out.below)) (by omega)).mono ?_
  rintro e w1 ⟨x1, A1, n1, c1, rfl, hi1, hb1⟩
  rw [EX.out] at hi1
  have T1 := Lib.hid (Mem.over hb1 HT.out)
  have T2 : Hid (Mem w [(w.heap.size, 29, [.bool x1, .slice A1 n1 c1]), (w.heap.size + 1, 29, [.bool ny, .slice B m d]), (w.heap.size + 1 + 1, 29, [.bool false, .slice none 0 0])] ((w1.setCell ⟨w.heap.size, 0, none⟩ (.bool x1)).setCell ⟨w.heap.size, 1, none⟩ (.slice A1 n1 c1))) := (T1.out.set_ 0 rfl 0 (v := .bool x1) rfl).set_ 0 rfl 1 (v := .slice A1 n1 c1) rfl
  have K2 : Hid (Kept w1 ((w1.setCell ⟨w.heap.size, 0, none⟩ (.bool x1)).setCell ⟨w.heap.size, 1, none⟩ (.slice A1 n1 c1))) := (T1.out.kept_set 0 rfl 0 (.bool x1)).trans ((T1.out.set_ 0 rfl 0 (v := .bool x1) rfl).kept_set 0 rfl 1 (.slice A1 n1 c1))
  have I2 := Lib.hid (hi1.out.kept K2.out)
  have G1 := (A0.out _ T1.out).1
  have F1 := (A0.out _ T1.out).2.1
  clear G0 F0
  have A1H : Hid (∀ w' : World, Mem w [(w.heap.size, 29, [.bool x1, .slice A1 n1 c1]), (w.heap.size + 1, 29, [.bool ny, .slice B m d]), (w.heap.size + 1 + 1, 29, [.bool false, .slice none 0 0])] w' → (w'.cell? ⟨w.heap.size, 0, none⟩ = some (.bool x1) ∧ w'.cell? ⟨w.heap.size, 1, none⟩ = some (.slice A1 n1 c1) ∧ w'.cell? ⟨w.heap.size + 1, 0, none⟩ = some (.bool ny) ∧ w'.cell? ⟨w.heap.size + 1, 1, none⟩ = some (.slice B m d) ∧ w'.cell? ⟨w.heap.size + 1 + 1, 0, none⟩ = some (.bool false) ∧ w'.cell? ⟨w.heap.size + 1 + 1, 1, none⟩ = some (.slice none 0 0)) ∧ (w'.frozen? ⟨w.heap.size, 0, none⟩ = false ∧ w'.frozen? ⟨w.heap.size, 1, none⟩ = false ∧ w'.frozen? ⟨w.heap.size + 1, 0, none⟩ = false ∧ w'.frozen? ⟨w.heap.size + 1, 1, none⟩ = false ∧ w'.frozen? ⟨w.heap.size + 1 + 1, 0, none⟩ = false ∧ w'.frozen? ⟨w.heap.size + 1 + 1, 1, none⟩ = false) ∧ Hid (Mem w [(w.heap.size, 29, [.bool x1, .slice A1 n1 c1]), (w.heap.size + 1, 29, [.bool ny, .slice B m d]), (w.heap.size + 1 + 1, 29, [.bool false, .slice none 0 0])] w')) := fun w' h => ⟨⟨h.c 0 rfl 0 rfl, h.c 0 rfl 1 rfl, h.c 1 rfl 0 rfl, h.c 1 rfl 1 rfl, h.c 2 rfl 0 rfl, h.c 2 rfl 1 rfl⟩, ⟨h.f 0 rfl 0, h.f 0 rfl 1, h.f 1 rfl 0, h.f 1 rfl 1, h.f 2 rfl 0, h.f 2 rfl 1⟩, h⟩
  have G2 := (A1H.out _ T2.out).1
  have F2 := (A1H.out _ T2.out).2.1
  go_wp2_with fail
  refine (make1_row false (tens_row (TY.out.over T2.out.below)) (by omega)).mono ?_
  rintro e w3 ⟨y1, B1, m1, d1, rfl, hi3, hb3⟩
  rw [EY.out] at hi3
  have T3 := Lib.hid (Mem.over hb3 T2.out)
  have T4 : Hid (Mem w [(w.heap.size, 29, [.bool x1, .slice A1 n1 c1]), (w.heap.size + 1, 29, [.bool y1, .slice B1 m1 d1]), (w.heap.size + 1 + 1, 29, [.bool false, .slice none 0 0])] ((w3.setCell ⟨w.heap.size + 1, 0, none⟩ (.bool y1)).setCell ⟨w.heap.size + 1, 1, none⟩ (.slice B1 m1 d1))) := (T3.out.set_ 1 rfl 0 (v := .bool y1) rfl).set_ 1 rfl 1 (v := .slice B1 m1 d1) rfl
  have K4 : Hid (Kept w3 ((w3.setCell ⟨w.heap.size + 1, 0, none⟩ (.bool y1)).setCell ⟨w.heap.size + 1, 1, none⟩ (.slice B1 m1 d1))) := (T3.out.kept_set 1 rfl 0 (.bool y1)).trans ((T3.out.set_ 1 rfl 0 (v := .bool y1) rfl).kept_set 1 rfl 1 (.slice B1 m1 d1))
  have I4 := Lib.hid ((I2.out.over hb3.out).kept K4.out)
  have J4 := Lib.hid (hi3.out.kept K4.out)
  have G3 := (A1H.out _ T3.out).1
  have F3 := (A1H.out _ T3.out).2.1
  clear G1 F1 G2 F2
  go_wp2
  go_loopw [] (fun wr => ∃ x1 A1 n1 c1 y1 B1 m1 d1 X Y, Hid (Mem w [(w.heap.size, 29, [.bool x1, .slice A1 n1 c1]), (w.heap.size + 1, 29, [.bool y1, .slice B1 m1 d1]), (w.heap.size + 1 + 1, 29, [.bool false, .slice none 0 0])] wr) ∧ Hid (IsNum wr wr.heap.size p (.agg #[.bool x1, .slice A1 n1 c1]) ((X : Nat) : Int)) ∧ Hid (IsNum wr wr.heap.size p (.agg #[.bool y1, .slice B1 m1 d1]) ((Y : Nat) : Int)) ∧ Hid (Nat.gcd X Y = Nat.gcd a.natAbs b.natAbs)) (fun wr => numAt wr (w.heap.size + 1))
  case atStart => exact ⟨x1, A1, n1, c1, y1, B1, m1, d1, a.natAbs, b.natAbs, T4, I4.out.more (Nat.le_refl _) hnp, J4.out.more (Nat.le_refl _) hmq, rfl⟩
  case round =>
    obtain ⟨x1, A1, n1, c1, y1, B1, m1, d1, X, Y, hm, hix, hiy, hg⟩ := hrel
    have A2 : Hid (∀ w' : World, Mem w [(w.heap.size, 29, [.bool x1, .slice A1 n1 c1]), (w.heap.size + 1, 29, [.bool y1, .slice B1 m1 d1]), (w.heap.size + 1 + 1, 29, [.bool false, .slice none 0 0])] w' → (w'.cell? ⟨w.heap.size, 0, none⟩ = some (.bool x1) ∧ w'.cell? ⟨w.heap.size, 1, none⟩ = some (.slice A1 n1 c1) ∧ w'.cell? ⟨w.heap.size + 1, 0, none⟩ = some (.bool y1) ∧ w'.cell? ⟨w.heap.size + 1, 1, none⟩ = some (.slice B1 m1 d1) ∧ w'.cell? ⟨w.heap.size + 1 + 1, 0, none⟩ = some (.bool false) ∧ w'.cell? ⟨w.heap.size + 1 + 1, 1, none⟩ = some (.slice none 0 0)) ∧ (w'.frozen? ⟨w.heap.size, 0, none⟩ = false ∧ w'.frozen? ⟨w.heap.size, 1, none⟩ = false ∧ w'.frozen? ⟨w.heap.size + 1, 0, none⟩ = false ∧ w'.frozen? ⟨w.heap.size + 1, 1, none⟩ = false ∧ w'.frozen? ⟨w.heap.size + 1 + 1, 0, none⟩ = false ∧ w'.frozen? ⟨w.heap.size + 1 + 1, 1, none⟩ = false) ∧ Hid (Mem w [(w.heap.size, 29, [.bool x1, .slice A1 n1 c1]), (w.heap.size + 1, 29, [.bool y1, .slice B1 m1 d1]), (w.heap.size + 1 + 1, 29, [.bool false, .slice none 0 0])] w')) := fun w' h => ⟨⟨h.c 0 rfl 0 rfl, h.c 0 rfl 1 rfl, h.c 1 rfl 0 rfl, h.c 1 rfl 1 rfl, h.c 2 rfl 0 rfl, h.c 2 rfl 1 rfl⟩, ⟨h.f 0 rfl 0, h.f 0 rfl 1, h.f 1 rfl 0, h.f 1 rfl 1, h.f 2 rfl 0, h.f 2 rfl 1⟩, h⟩
    have C := (A2.out _ hm.out).1
    have F := (A2.out _ hm.out).2.1
    by_cases hm1 : m1 = 0
    · subst hm1
      have HX : Hid (X = Nat.gcd a.natAbs b.natAbs) := by
        have h0 := (isNum_zero_iff hiy.out).1 rfl
        have h1 := hg.out
        rw [h0, Nat.gcd_zero_right] at h1
        exact h1
      have T9 := Lib.hid ((hm.out.set_ 2 rfl 0 (v := .bool x1) rfl).set_ 2 rfl 1 (v := .slice A1 n1 c1) rfl)
      have K9 := Lib.hid ((hm.out.kept_set 2 rfl 0 (.bool x1)).trans ((hm.out.set_ 2 rfl 0 (v := .bool x1) rfl).kept_set 2 rfl 1 (.slice A1 n1 c1)))
      have e0 := T9.out.c 2 rfl 0 rfl
      have e1 := T9.out.c 2 rfl 1 rfl
      have HI := Lib.hid (hix.out.kept K9.out)
      go_wp2
      (try simp only [Exit.inBlock, Exit.then])
      refine bodyPost_ret (v := .agg #[.bool x1, .slice A1 n1 c1]) (by simp [results, Tryd.results25, go_sem, e0, e1]) rfl ⟨x1, A1, n1, c1, rfl, ?_, T9.out.below⟩
      have h := HI.out
      rw [HX.out] at h
      exact h
    · have g0 : (0 : Int) < (m1 : Int) := by omega
      have HY0 : Hid (0 < Y) := by
        rcases Nat.eq_zero_or_pos Y with h | h
        · exact absurd ((isNum_zero_iff hiy.out).2 h) hm1
        · exact h
      go_wp2_with fail
      refine (refDiv_any hp hp hix.out hiy.out).mono ?_
      rintro e w5 ⟨x5, A5, n5, c5, x6, A6, n6, c6, rfl, hq5, hr6, hb5⟩
      have hre : Hid (remZ (X : Int) (Y : Int) = ((X % Y : Nat) : Int)) := by
        have := HY0.out
        show _ = _
        unfold remZ
        rw [if_neg (by omega)]
        simp
      rw [hre.out] at hr6
      have T5 := Lib.hid (Mem.over hb5 hm.out)
      have T6 : Hid (Mem w [(w.heap.size, 29, [.bool x1, .slice A1 n1 c1]), (w.heap.size + 1, 29, [.bool y1, .slice B1 m1 d1]), (w.heap.size + 1 + 1, 29, [.bool false, .slice none 0 0]), (w5.heap.size, 29, [.bool x5, .slice A5 n5 c5]), (w5.heap.size + 1, 29, [.bool x6, .slice A6 n6 c6])] ((w5.alloc (.cells #[.bool x5, .slice A5 n5 c5] 29)).alloc (.cells #[.bool x6, .slice A6 n6 c6] 29))) := (T5.out.push rfl 29 [.bool x5, .slice A5 n5 c5] rfl).push (by simp) 29 [.bool x6, .slice A6 n6 c6] rfl
      have K6 : Hid (Kept w5 ((w5.alloc (.cells #[.bool x5, .slice A5 n5 c5] 29)).alloc (.cells #[.bool x6, .slice A6 n6 c6] 29))) := ((Kept.refl _).alloc _).alloc _
      have A3 : Hid (∀ w' : World, Mem w [(w.heap.size, 29, [.bool x1, .slice A1 n1 c1]), (w.heap.size + 1, 29, [.bool y1, .slice B1 m1 d1]), (w.heap.size + 1 + 1, 29, [.bool false, .slice none 0 0]), (w5.heap.size, 29, [.bool x5, .slice A5 n5 c5]), (w5.heap.size + 1, 29, [.bool x6, .slice A6 n6 c6])] w' → (w'.cell? ⟨w.heap.size, 0, none⟩ = some (.bool x1) ∧ w'.cell? ⟨w.heap.size, 1, none⟩ = some (.slice A1 n1 c1) ∧ w'.cell? ⟨w.heap.size + 1, 0, none⟩ = some (.bool y1) ∧ w'.cell? ⟨w.heap.size + 1, 1, none⟩ = some (.slice B1 m1 d1) ∧ w'.cell? ⟨w.heap.size + 1 + 1, 0, none⟩ = some (.bool false) ∧ w'.cell? ⟨w.heap.size + 1 + 1, 1, none⟩ = some (.slice none 0 0) ∧ w'.cell? ⟨w5.heap.size, 0, none⟩ = some (.bool x5) ∧ w'.cell? ⟨w5.heap.size, 1, none⟩ = some (.slice A5 n5 c5) ∧ w'.cell? ⟨w5.heap.size + 1, 0, none⟩ = some (.bool x6) ∧ w'.cell? ⟨w5.heap.size + 1, 1, none⟩ = some (.slice A6 n6 c6)) ∧ (w'.frozen? ⟨w.heap.size, 0, none⟩ = false ∧ w'.frozen? ⟨w.heap.size, 1, none⟩ = false ∧ w'.frozen? ⟨w.heap.size + 1, 0, none⟩ = false ∧ w'.frozen? ⟨w.heap.size + 1, 1, none⟩ = false ∧ w'.frozen? ⟨w.heap.size + 1 + 1, 0, none⟩ = false ∧ w'.frozen? ⟨w.heap.size + 1 + 1, 1, none⟩ = false ∧ w'.frozen? ⟨w5.heap.size, 0, none⟩ = false ∧ w'.frozen? ⟨w5.heap.size, 1, none⟩ = false ∧ w'.frozen? ⟨w5.heap.size + 1, 0, none⟩ = false ∧ w'.frozen? ⟨w5.heap.size + 1, 1, none⟩ = false) ∧ Hid (Mem w [(w.heap.size, 29, [.bool x1, .slice A1 n1 c1]), (w.heap.size + 1, 29, [.bool y1, .slice B1 m1 d1]), (w.heap.size + 1 + 1, 29, [.bool false, .slice none 0 0]), (w5.heap.size, 29, [.bool x5, .slice A5 n5 c5]), (w5.heap.size + 1, 29, [.bool x6, .slice A6 n6 c6])] w')) := fun w' h => ⟨⟨h.c 0 rfl 0 rfl, h.c 0 rfl 1 rfl, h.c 1 rfl 0 rfl, h.c 1 rfl 1 rfl, h.c 2 rfl 0 rfl, h.c 2 rfl 1 rfl, h.c 3 rfl 0 rfl, h.c 3 rfl 1 rfl, h.c 4 rfl 0 rfl, h.c 4 rfl 1 rfl⟩, ⟨h.f 0 rfl 0, h.f 0 rfl 1, h.f 1 rfl 0, h.f 1 rfl 1, h.f 2 rfl 0, h.f 2 rfl 1, h.f 3 rfl 0, h.f 3 rfl 1, h.f 4 rfl 0, h.f 4 rfl 1⟩, h⟩
      have C6 := (A3.out _ T6.out).1
      have F6 := (A3.out _ T6.out).2.1
      have hg5 : w.heap.size + 1 + 1 < w5.heap.size := T5.out.lt 2 rfl
      have q1 : ¬ (w5.heap.size + 1 = w.heap.size) := by omega
      have q2 : ¬ (w5.heap.size + 1 = w.heap.size + 1) := by omega
      have q3 : ¬ (w5.heap.size = w.heap.size) := by omega
      have T9 := Lib.hid ((((T6.out.set_ 0 rfl 0 (v := .bool y1) rfl).set_ 0 rfl 1 (v := .slice B1 m1 d1) rfl).set_ 1 rfl 0 (v := .bool x6) rfl).set_ 1 rfl 1 (v := .slice A6 n6 c6) rfl).drew
      have K9 := Lib.hid ((((T6.out.kept_set 0 rfl 0 (.bool y1)).trans ((T6.out.set_ 0 rfl 0 (v := .bool y1) rfl).kept_set 0 rfl 1 (.slice B1 m1 d1))).trans (((T6.out.set_ 0 rfl 0 (v := .bool y1) rfl).set_ 0 rfl 1 (v := .slice B1 m1 d1) rfl).kept_set 1 rfl 0 (.bool x6))).trans ((((T6.out.set_ 0 rfl 0 (v := .bool y1) rfl).set_ 0 rfl 1 (v := .slice B1 m1 d1) rfl).set_ 1 rfl 0 (v := .bool x6) rfl).kept_set 1 rfl 1 (.slice A6 n6 c6))).drew
      have HI9 := Lib.hid (((hiy.out.over hb5.out).kept K6.out).kept K9.out)
      have HJ9 := Lib.hid ((hr6.out.kept K6.out).kept K9.out)
      have HM : Hid (numAt (((((((w5.alloc (.cells #[.bool x5, .slice A5 n5 c5] 29)).alloc (.cells #[.bool x6, .slice A6 n6 c6] 29)).setCell ⟨w.heap.size, 0, none⟩ (.bool y1)).setCell ⟨w.heap.size, 1, none⟩ (.slice B1 m1 d1)).setCell ⟨w.heap.size + 1, 0, none⟩ (.bool x6)).setCell ⟨w.heap.size + 1, 1, none⟩ (.slice A6 n6 c6)).drew) (w.heap.size + 1) < numAt wr (w.heap.size + 1)) := by
        show _ < _
        rw [numAt_eq (hm.out.c 1 rfl 0 rfl) (hm.out.c 1 rfl 1 rfl) hiy.out, numAt_eq (T9.out.c 1 rfl 0 rfl) (T9.out.c 1 rfl 1 rfl) HJ9.out]
        exact Nat.mod_lt _ HY0.out
      have HG2 : Hid (Nat.gcd Y (X % Y) = Nat.gcd a.natAbs b.natAbs) := by
        show _ = _
        rw [← hg.out, Nat.gcd_comm Y (X % Y), ← Nat.gcd_rec, Nat.gcd_comm]
      have HMM : Hid (Mem w [(w.heap.size, 29, [.bool y1, .slice B1 m1 d1]), (w.heap.size + 1, 29, [.bool x6, .slice A6 n6 c6]), (w.heap.size + 1 + 1, 29, [.bool false, .slice none 0 0])] (((((((w5.alloc (.cells #[.bool x5, .slice A5 n5 c5] 29)).alloc (.cells #[.bool x6, .slice A6 n6 c6] 29)).setCell ⟨w.heap.size, 0, none⟩ (.bool y1)).setCell ⟨w.heap.size, 1, none⟩ (.slice B1 m1 d1)).setCell ⟨w.heap.size + 1, 0, none⟩ (.bool x6)).setCell ⟨w.heap.size + 1, 1, none⟩ (.slice A6 n6 c6)).drew)) := ⟨T9.out.below, fun x hx => T9.out.blk x (List.mem_append_left _ hx), fun x hx => T9.out.ge x (List.mem_append_left _ hx), fun x hx => T9.out.ni x (List.mem_append_left _ hx), (List.pairwise_append.1 T9.out.dis).1⟩
      clear C F
      go_wp2
      go_region
      go_wp2
      go_roundw
      case rel => exact ⟨y1, B1, m1, d1, x6, A6, n6, c6, Y, X % Y, HMM, HI9, HJ9, HG2⟩
      case measure => exact HM.out
end Go.Proofs.YtpikbhcjgcbdfaaDoor.wh
