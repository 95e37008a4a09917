/- The document's answers of layer 2: Form, Make. -/
import Derived.Test.YtpikbhcjgcbdfaaDoorRg1
import Derived.Test.YtpikbhcjgcbdfaaDoorFr4
namespace Go.Proofs.YtpikbhcjgcbdfaaDoor.wh
open Go.RowKit

theorem refCmp_val {v u : Value} {p q : Nat} {a b r : Int} {w : World} (hp : p ≤ 1000) (hq : q ≤ 1000) (hx : IsNum w w.heap.size p v a) (hy : IsNum w w.heap.size q u b) (hr : cmpZ a b = r) :
    Calls Tryd.prog 27 #[v, u] w fun e w' => e = .returned (.int .i64 r) ∧ Hid (Below w.heap.size w w') := by
  subst hr
  exact refCmp_any hp hq hx hy
theorem den_one {q : Rat} (h : q.den = 1) : cmpZ (q.den : Int) 1 = 0 := by rw [h]; rfl
theorem den_more {q : Rat} (h : q.den ≠ 1) : cmpZ (q.den : Int) 1 = 1 := by
  have := q.den_pos
  unfold cmpZ
  rw [if_neg (by omega), if_pos (by omega)]

set_option maxRecDepth 100000 in
set_option maxHeartbeats 4000000 in
theorem form2_any {v : Value} {p : Nat} {q : Rat} {w : World} (hp : p ≤ 900) (hx : IsFn w p v q) :
    Calls Tryd.prog 44 #[v] w fun e w' => GivesF w p q e w' := by
  obtain ⟨xi, Ai, ni, ci, yi, Bi, mi, di, rfl, h1, h2⟩ := hx
  have I1 := Lib.hid h1
  have I2 := Lib.hid h2
  clear h1 h2
  have HT : Hid (Mem w [(w.heap.size, 61, [.bool xi, .slice Ai ni ci, .bool yi, .slice Bi mi di]), (w.heap.size + 1, 58, [.bool false, .slice none 0 0, .bool false, .slice none 0 0])] ((w.alloc (.cells #[.bool xi, .slice Ai ni ci, .bool yi, .slice Bi mi di] 61)).alloc (.cells #[.bool false, .slice none 0 0, .bool false, .slice none 0 0] 58))) := (((Mem.new w).push (by simp) 61 [.bool xi, .slice Ai ni ci, .bool yi, .slice Bi mi di] rfl).push (by simp) 58 [.bool false, .slice none 0 0, .bool false, .slice none 0 0] rfl)
  have A0 : Hid (∀ w' : World, Mem w [(w.heap.size, 61, [.bool xi, .slice Ai ni ci, .bool yi, .slice Bi mi di]), (w.heap.size + 1, 58, [.bool false, .slice none 0 0, .bool false, .slice none 0 0])] w' → (w'.cell? ⟨w.heap.size, 0, none⟩ = some (.bool xi) ∧ w'.cell? ⟨w.heap.size, 1, none⟩ = some (.slice Ai ni ci) ∧ w'.cell? ⟨w.heap.size, 2, none⟩ = some (.bool yi) ∧ w'.cell? ⟨w.heap.size, 3, none⟩ = some (.slice Bi mi di) ∧ w'.cell? ⟨w.heap.size + 1, 0, none⟩ = some (.bool false) ∧ w'.cell? ⟨w.heap.size + 1, 1, none⟩ = some (.slice none 0 0) ∧ w'.cell? ⟨w.heap.size + 1, 2, none⟩ = some (.bool false) ∧ w'.cell? ⟨w.heap.size + 1, 3, none⟩ = some (.slice none 0 0)) ∧ (w'.frozen? ⟨w.heap.size, 0, none⟩ = false ∧ w'.frozen? ⟨w.heap.size, 1, none⟩ = false ∧ w'.frozen? ⟨w.heap.size, 2, none⟩ = false ∧ w'.frozen? ⟨w.heap.size, 3, none⟩ = false ∧ w'.frozen? ⟨w.heap.size + 1, 0, none⟩ = false ∧ w'.frozen? ⟨w.heap.size + 1, 1, none⟩ = false ∧ w'.frozen? ⟨w.heap.size + 1, 2, none⟩ = false ∧ w'.frozen? ⟨w.heap.size + 1, 3, none⟩ = false) ∧ Hid (Mem w [(w.heap.size, 61, [.bool xi, .slice Ai ni ci, .bool yi, .slice Bi mi di]), (w.heap.size + 1, 58, [.bool false, .slice none 0 0, .bool false, .slice none 0 0])] w')) := fun w' h => ⟨⟨h.c 0 rfl 0 rfl, h.c 0 rfl 1 rfl, h.c 0 rfl 2 rfl, h.c 0 rfl 3 rfl, h.c 1 rfl 0 rfl, h.c 1 rfl 1 rfl, h.c 1 rfl 2 rfl, h.c 1 rfl 3 rfl⟩, ⟨h.f 0 rfl 0, h.f 0 rfl 1, h.f 0 rfl 2, h.f 0 rfl 3, h.f 1 rfl 0, h.f 1 rfl 1, h.f 1 rfl 2, h.f 1 rfl 3⟩, h⟩
  have C0 := (A0.out _ HT.out).1
  go_enter Tryd.func44, Tryd.ntmps44
  go_wp2_with fail
  refine (form_any (by omega) (I1.out.over HT.out.below)).mono ?_
  rintro e w1 ⟨x1, A1, n1, c1, rfl, hi1, hb1⟩
  have T1 : Hid (Mem w [(w.heap.size, 61, [.bool xi, .slice Ai ni ci, .bool yi, .slice Bi mi di]), (w.heap.size + 1, 58, [.bool false, .slice none 0 0, .bool false, .slice none 0 0]), (w1.heap.size, 58, [.bool x1, .slice A1 n1 c1, .bool false, .slice none 0 0])] (w1.alloc (.cells #[.bool x1, .slice A1 n1 c1, .bool false, .slice none 0 0] 58))) := ((Mem.over hb1 HT.out).push rfl 58 [.bool x1, .slice A1 n1 c1, .bool false, .slice none 0 0] rfl)
  have K1 : Hid (Kept w1 (w1.alloc (.cells #[.bool x1, .slice A1 n1 c1, .bool false, .slice none 0 0] 58))) := (Kept.refl _).alloc _
  have J1 := Lib.hid (hi1.out.kept K1.out)
  clear C0
  go_wp2
  generalize hW : (w1.alloc (.cells #[.bool x1, .slice A1 n1 c1, .bool false, .slice none 0 0] 58)) = W3 at *
  clear hW
  have A1H : Hid (∀ w' : World, Mem w [(w.heap.size, 61, [.bool xi, .slice Ai ni ci, .bool yi, .slice Bi mi di]), (w.heap.size + 1, 58, [.bool false, .slice none 0 0, .bool false, .slice none 0 0]), (w1.heap.size, 58, [.bool x1, .slice A1 n1 c1, .bool false, .slice none 0 0])] w' → (w'.cell? ⟨w.heap.size, 0, none⟩ = some (.bool xi) ∧ w'.cell? ⟨w.heap.size, 1, none⟩ = some (.slice Ai ni ci) ∧ w'.cell? ⟨w.heap.size, 2, none⟩ = some (.bool yi) ∧ w'.cell? ⟨w.heap.size, 3, none⟩ = some (.slice Bi mi di) ∧ w'.cell? ⟨w.heap.size + 1, 0, none⟩ = some (.bool false) ∧ w'.cell? ⟨w.heap.size + 1, 1, none⟩ = some (.slice none 0 0) ∧ w'.cell? ⟨w.heap.size + 1, 2, none⟩ = some (.bool false) ∧ w'.cell? ⟨w.heap.size + 1, 3, none⟩ = some (.slice none 0 0) ∧ w'.cell? ⟨w1.heap.size, 0, none⟩ = some (.bool x1) ∧ w'.cell? ⟨w1.heap.size, 1, none⟩ = some (.slice A1 n1 c1) ∧ w'.cell? ⟨w1.heap.size, 2, none⟩ = some (.bool false) ∧ w'.cell? ⟨w1.heap.size, 3, none⟩ = some (.slice none 0 0)) ∧ (w'.frozen? ⟨w.heap.size, 0, none⟩ = false ∧ w'.frozen? ⟨w.heap.size, 1, none⟩ = false ∧ w'.frozen? ⟨w.heap.size, 2, none⟩ = false ∧ w'.frozen? ⟨w.heap.size, 3, none⟩ = false ∧ w'.frozen? ⟨w.heap.size + 1, 0, none⟩ = false ∧ w'.frozen? ⟨w.heap.size + 1, 1, none⟩ = false ∧ w'.frozen? ⟨w.heap.size + 1, 2, none⟩ = false ∧ w'.frozen? ⟨w.heap.size + 1, 3, none⟩ = false ∧ w'.frozen? ⟨w1.heap.size, 0, none⟩ = false ∧ w'.frozen? ⟨w1.heap.size, 1, none⟩ = false ∧ w'.frozen? ⟨w1.heap.size, 2, none⟩ = false ∧ w'.frozen? ⟨w1.heap.size, 3, none⟩ = false) ∧ Hid (Mem w [(w.heap.size, 61, [.bool xi, .slice Ai ni ci, .bool yi, .slice Bi mi di]), (w.heap.size + 1, 58, [.bool false, .slice none 0 0, .bool false, .slice none 0 0]), (w1.heap.size, 58, [.bool x1, .slice A1 n1 c1, .bool false, .slice none 0 0])] w')) := fun w' h => ⟨⟨h.c 0 rfl 0 rfl, h.c 0 rfl 1 rfl, h.c 0 rfl 2 rfl, h.c 0 rfl 3 rfl, h.c 1 rfl 0 rfl, h.c 1 rfl 1 rfl, h.c 1 rfl 2 rfl, h.c 1 rfl 3 rfl, h.c 2 rfl 0 rfl, h.c 2 rfl 1 rfl, h.c 2 rfl 2 rfl, h.c 2 rfl 3 rfl⟩, ⟨h.f 0 rfl 0, h.f 0 rfl 1, h.f 0 rfl 2, h.f 0 rfl 3, h.f 1 rfl 0, h.f 1 rfl 1, h.f 1 rfl 2, h.f 1 rfl 3, h.f 2 rfl 0, h.f 2 rfl 1, h.f 2 rfl 2, h.f 2 rfl 3⟩, h⟩
  by_cases hd : q.den = 1
  · have HC := Lib.hid (den_one hd)
    have HU : Hid (undZ q = 0) := by show _ = _; unfold undZ; rw [if_pos hd]
    clear hd
    go_region_held3 (fun w' => (w'.cell? ⟨w.heap.size, 0, none⟩ = some (.bool xi) ∧ w'.cell? ⟨w.heap.size, 1, none⟩ = some (.slice Ai ni ci) ∧ w'.cell? ⟨w.heap.size, 2, none⟩ = some (.bool yi) ∧ w'.cell? ⟨w.heap.size, 3, none⟩ = some (.slice Bi mi di) ∧ w'.cell? ⟨w.heap.size + 1, 0, none⟩ = some (.bool false) ∧ w'.cell? ⟨w.heap.size + 1, 1, none⟩ = some (.slice none 0 0) ∧ w'.cell? ⟨w.heap.size + 1, 2, none⟩ = some (.bool false) ∧ w'.cell? ⟨w.heap.size + 1, 3, none⟩ = some (.slice none 0 0) ∧ w'.cell? ⟨w1.heap.size, 0, none⟩ = some (.bool x1) ∧ w'.cell? ⟨w1.heap.size, 1, none⟩ = some (.slice A1 n1 c1) ∧ w'.cell? ⟨w1.heap.size, 2, none⟩ = some (.bool false) ∧ w'.cell? ⟨w1.heap.size, 3, none⟩ = some (.slice none 0 0)) ∧ (w'.frozen? ⟨w.heap.size, 0, none⟩ = false ∧ w'.frozen? ⟨w.heap.size, 1, none⟩ = false ∧ w'.frozen? ⟨w.heap.size, 2, none⟩ = false ∧ w'.frozen? ⟨w.heap.size, 3, none⟩ = false ∧ w'.frozen? ⟨w.heap.size + 1, 0, none⟩ = false ∧ w'.frozen? ⟨w.heap.size + 1, 1, none⟩ = false ∧ w'.frozen? ⟨w.heap.size + 1, 2, none⟩ = false ∧ w'.frozen? ⟨w.heap.size + 1, 3, none⟩ = false ∧ w'.frozen? ⟨w1.heap.size, 0, none⟩ = false ∧ w'.frozen? ⟨w1.heap.size, 1, none⟩ = false ∧ w'.frozen? ⟨w1.heap.size, 2, none⟩ = false ∧ w'.frozen? ⟨w1.heap.size, 3, none⟩ = false) ∧ Hid (Mem w [(w.heap.size, 61, [.bool xi, .slice Ai ni ci, .bool yi, .slice Bi mi di]), (w.heap.size + 1, 58, [.bool false, .slice none 0 0, .bool false, .slice none 0 0]), (w1.heap.size, 58, [.bool x1, .slice A1 n1 c1, .bool false, .slice none 0 0])] w')) (first | (with_reducible exact A1H.out _ T1.out.drew) | (with_reducible exact A1H.out _ (Mem.over hb (Mem.get (by assumption))))) (first | (go_at_call 35; refine (int_any 1 _ (by omega) (by omega)).mono ?_; rintro e w4 ⟨x4, A4, n4, c4, rfl, hi4, hb⟩; have hb4 := hb) | (go_at_call 27; refine (refCmp_val (by omega) (by decide) ((I2.out.over (Mem.get (by assumption)).below)) hi4.out HC.out).mono ?_; rintro e w5 ⟨rfl, hb⟩; have hb5 := hb))
    have T5 := Lib.hid (Mem.get (by assumption))
    have C5 := (A1H.out _ T5.out).1
    have F5 := (A1H.out _ T5.out).2.1
    have J5 : Hid (IsInt w5 w5.heap.size p (.agg #[.bool x1, .slice A1 n1 c1]) q.num) := ((J1.out.kept ((Kept.refl _).drew)).over hb4.out).over hb5.out
    have T9 := Lib.hid ((((T5.out.set_ 1 rfl 0 (v := .bool x1) rfl).set_ 1 rfl 1 (v := .slice A1 n1 c1) rfl).set_ 1 rfl 2 (v := .bool false) rfl).set_ 1 rfl 3 (v := .slice none 0 0) rfl)
    have KT9 := Lib.hid ((((T5.out.kept_set 1 rfl 0 (.bool x1)).trans ((T5.out.set_ 1 rfl 0 (v := .bool x1) rfl).kept_set 1 rfl 1 (.slice A1 n1 c1))).trans (((T5.out.set_ 1 rfl 0 (v := .bool x1) rfl).set_ 1 rfl 1 (v := .slice A1 n1 c1) rfl).kept_set 1 rfl 2 (.bool false))).trans ((((T5.out.set_ 1 rfl 0 (v := .bool x1) rfl).set_ 1 rfl 1 (v := .slice A1 n1 c1) rfl).set_ 1 rfl 2 (v := .bool false) rfl).kept_set 1 rfl 3 (.slice none 0 0)))
    have e0 := T9.out.c 1 rfl 0 rfl
    have e1 := T9.out.c 1 rfl 1 rfl
    have e2 := T9.out.c 1 rfl 2 rfl
    have e3 := T9.out.c 1 rfl 3 rfl
    go_wp2
    (try simp only [Exit.inBlock, Exit.then])
    refine bodyPost_ret (v := .agg #[.bool x1, .slice A1 n1 c1, .bool false, .slice none 0 0]) (by simp [results, Tryd.results44, go_sem, e0, e1, e2, e3]) rfl ⟨x1, A1, n1, c1, false, none, 0, 0, rfl, ?_, T9.out.below⟩
    exact ⟨x1, A1, n1, c1, false, none, 0, 0, rfl, J5.out.kept KT9.out, by rw [HU.out]; exact isInt_zero _ _ _⟩
  · have HC := Lib.hid (den_more hd)
    have HU : Hid (undZ q = (q.den : Int)) := by show _ = _; unfold undZ; rw [if_neg hd]
    clear hd
    go_region_held3 (fun w' => (w'.cell? ⟨w.heap.size, 0, none⟩ = some (.bool xi) ∧ w'.cell? ⟨w.heap.size, 1, none⟩ = some (.slice Ai ni ci) ∧ w'.cell? ⟨w.heap.size, 2, none⟩ = some (.bool yi) ∧ w'.cell? ⟨w.heap.size, 3, none⟩ = some (.slice Bi mi di) ∧ w'.cell? ⟨w.heap.size + 1, 0, none⟩ = some (.bool false) ∧ w'.cell? ⟨w.heap.size + 1, 1, none⟩ = some (.slice none 0 0) ∧ w'.cell? ⟨w.heap.size + 1, 2, none⟩ = some (.bool false) ∧ w'.cell? ⟨w.heap.size + 1, 3, none⟩ = some (.slice none 0 0) ∧ w'.cell? ⟨w1.heap.size, 0, none⟩ = some (.bool x1) ∧ w'.cell? ⟨w1.heap.size, 1, none⟩ = some (.slice A1 n1 c1) ∧ w'.cell? ⟨w1.heap.size, 2, none⟩ = some (.bool false) ∧ w'.cell? ⟨w1.heap.size, 3, none⟩ = some (.slice none 0 0)) ∧ (w'.frozen? ⟨w.heap.size, 0, none⟩ = false ∧ w'.frozen? ⟨w.heap.size, 1, none⟩ = false ∧ w'.frozen? ⟨w.heap.size, 2, none⟩ = false ∧ w'.frozen? ⟨w.heap.size, 3, none⟩ = false ∧ w'.frozen? ⟨w.heap.size + 1, 0, none⟩ = false ∧ w'.frozen? ⟨w.heap.size + 1, 1, none⟩ = false ∧ w'.frozen? ⟨w.heap.size + 1, 2, none⟩ = false ∧ w'.frozen? ⟨w.heap.size + 1, 3, none⟩ = false ∧ w'.frozen? ⟨w1.heap.size, 0, none⟩ = false ∧ w'.frozen? ⟨w1.heap.size, 1, none⟩ = false ∧ w'.frozen? ⟨w1.heap.size, 2, none⟩ = false ∧ w'.frozen? ⟨w1.heap.size, 3, none⟩ = false) ∧ Hid (Mem w [(w.heap.size, 61, [.bool xi, .slice Ai ni ci, .bool yi, .slice Bi mi di]), (w.heap.size + 1, 58, [.bool false, .slice none 0 0, .bool false, .slice none 0 0]), (w1.heap.size, 58, [.bool x1, .slice A1 n1 c1, .bool false, .slice none 0 0])] w')) (first | (with_reducible exact A1H.out _ T1.out.drew) | (with_reducible exact A1H.out _ (Mem.over hb (Mem.get (by assumption))))) (first | (go_at_call 35; refine (int_any 1 _ (by omega) (by omega)).mono ?_; rintro e w4 ⟨x4, A4, n4, c4, rfl, hi4, hb⟩; have hb4 := hb) | (go_at_call 27; refine (refCmp_val (by omega) (by decide) ((I2.out.over (Mem.get (by assumption)).below)) hi4.out HC.out).mono ?_; rintro e w5 ⟨rfl, hb⟩; have hb5 := hb))
    have T5 := Lib.hid (Mem.get (by assumption))
    have C5 := (A1H.out _ T5.out).1
    have J5 : Hid (IsInt w5 w5.heap.size p (.agg #[.bool x1, .slice A1 n1 c1]) q.num) := ((J1.out.kept ((Kept.refl _).drew)).over hb4.out).over hb5.out
    go_wp2_with fail
    refine (form_any (by omega) (I2.out.over T5.out.below)).mono ?_
    rintro e w6 ⟨x2, A2, n2, c2, rfl, hi6, hb6⟩
    have T6 := Lib.hid (Mem.over hb6 T5.out)
    have C6 := (A1H.out _ T6.out).1
    have F6 := (A1H.out _ T6.out).2.1
    have T7 : Hid (Mem w [(w.heap.size, 61, [.bool xi, .slice Ai ni ci, .bool yi, .slice Bi mi di]), (w.heap.size + 1, 58, [.bool false, .slice none 0 0, .bool false, .slice none 0 0]), (w1.heap.size, 58, [.bool x1, .slice A1 n1 c1, .bool x2, .slice A2 n2 c2])] ((w6.setCell ⟨w1.heap.size, 2, none⟩ (.bool x2)).setCell ⟨w1.heap.size, 3, none⟩ (.slice A2 n2 c2))) := ((T6.out.set_ 2 rfl 2 (v := .bool x2) rfl).set_ 2 rfl 3 (v := .slice A2 n2 c2) rfl)
    have K7 : Hid (Kept w6 ((w6.setCell ⟨w1.heap.size, 2, none⟩ (.bool x2)).setCell ⟨w1.heap.size, 3, none⟩ (.slice A2 n2 c2))) := ((T6.out.kept_set 2 rfl 2 (.bool x2)).trans ((T6.out.set_ 2 rfl 2 (v := .bool x2) rfl).kept_set 2 rfl 3 (.slice A2 n2 c2)))
    have J7 := Lib.hid ((J5.out.over hb6.out).kept K7.out)
    have JJ7 := Lib.hid (hi6.out.kept K7.out)
    clear C5
    have A2H : Hid (∀ w' : World, Mem w [(w.heap.size, 61, [.bool xi, .slice Ai ni ci, .bool yi, .slice Bi mi di]), (w.heap.size + 1, 58, [.bool false, .slice none 0 0, .bool false, .slice none 0 0]), (w1.heap.size, 58, [.bool x1, .slice A1 n1 c1, .bool x2, .slice A2 n2 c2])] w' → (w'.cell? ⟨w.heap.size, 0, none⟩ = some (.bool xi) ∧ w'.cell? ⟨w.heap.size, 1, none⟩ = some (.slice Ai ni ci) ∧ w'.cell? ⟨w.heap.size, 2, none⟩ = some (.bool yi) ∧ w'.cell? ⟨w.heap.size, 3, none⟩ = some (.slice Bi mi di) ∧ w'.cell? ⟨w.heap.size + 1, 0, none⟩ = some (.bool false) ∧ w'.cell? ⟨w.heap.size + 1, 1, none⟩ = some (.slice none 0 0) ∧ w'.cell? ⟨w.heap.size + 1, 2, none⟩ = some (.bool false) ∧ w'.cell? ⟨w.heap.size + 1, 3, none⟩ = some (.slice none 0 0) ∧ w'.cell? ⟨w1.heap.size, 0, none⟩ = some (.bool x1) ∧ w'.cell? ⟨w1.heap.size, 1, none⟩ = some (.slice A1 n1 c1) ∧ w'.cell? ⟨w1.heap.size, 2, none⟩ = some (.bool x2) ∧ w'.cell? ⟨w1.heap.size, 3, none⟩ = some (.slice A2 n2 c2)) ∧ (w'.frozen? ⟨w.heap.size, 0, none⟩ = false ∧ w'.frozen? ⟨w.heap.size, 1, none⟩ = false ∧ w'.frozen? ⟨w.heap.size, 2, none⟩ = false ∧ w'.frozen? ⟨w.heap.size, 3, none⟩ = false ∧ w'.frozen? ⟨w.heap.size + 1, 0, none⟩ = false ∧ w'.frozen? ⟨w.heap.size + 1, 1, none⟩ = false ∧ w'.frozen? ⟨w.heap.size + 1, 2, none⟩ = false ∧ w'.frozen? ⟨w.heap.size + 1, 3, none⟩ = false ∧ w'.frozen? ⟨w1.heap.size, 0, none⟩ = false ∧ w'.frozen? ⟨w1.heap.size, 1, none⟩ = false ∧ w'.frozen? ⟨w1.heap.size, 2, none⟩ = false ∧ w'.frozen? ⟨w1.heap.size, 3, none⟩ = false) ∧ Hid (Mem w [(w.heap.size, 61, [.bool xi, .slice Ai ni ci, .bool yi, .slice Bi mi di]), (w.heap.size + 1, 58, [.bool false, .slice none 0 0, .bool false, .slice none 0 0]), (w1.heap.size, 58, [.bool x1, .slice A1 n1 c1, .bool x2, .slice A2 n2 c2])] w')) := fun w' h => ⟨⟨h.c 0 rfl 0 rfl, h.c 0 rfl 1 rfl, h.c 0 rfl 2 rfl, h.c 0 rfl 3 rfl, h.c 1 rfl 0 rfl, h.c 1 rfl 1 rfl, h.c 1 rfl 2 rfl, h.c 1 rfl 3 rfl, h.c 2 rfl 0 rfl, h.c 2 rfl 1 rfl, h.c 2 rfl 2 rfl, h.c 2 rfl 3 rfl⟩, ⟨h.f 0 rfl 0, h.f 0 rfl 1, h.f 0 rfl 2, h.f 0 rfl 3, h.f 1 rfl 0, h.f 1 rfl 1, h.f 1 rfl 2, h.f 1 rfl 3, h.f 2 rfl 0, h.f 2 rfl 1, h.f 2 rfl 2, h.f 2 rfl 3⟩, h⟩
    have C7 := (A2H.out _ T7.out).1
    have F7 := (A2H.out _ T7.out).2.1
    have T9 := Lib.hid ((((T7.out.set_ 1 rfl 0 (v := .bool x1) rfl).set_ 1 rfl 1 (v := .slice A1 n1 c1) rfl).set_ 1 rfl 2 (v := .bool x2) rfl).set_ 1 rfl 3 (v := .slice A2 n2 c2) rfl)
    have KT9 := Lib.hid ((((T7.out.kept_set 1 rfl 0 (.bool x1)).trans ((T7.out.set_ 1 rfl 0 (v := .bool x1) rfl).kept_set 1 rfl 1 (.slice A1 n1 c1))).trans (((T7.out.set_ 1 rfl 0 (v := .bool x1) rfl).set_ 1 rfl 1 (v := .slice A1 n1 c1) rfl).kept_set 1 rfl 2 (.bool x2))).trans ((((T7.out.set_ 1 rfl 0 (v := .bool x1) rfl).set_ 1 rfl 1 (v := .slice A1 n1 c1) rfl).set_ 1 rfl 2 (v := .bool x2) rfl).kept_set 1 rfl 3 (.slice A2 n2 c2)))
    have e0 := T9.out.c 1 rfl 0 rfl
    have e1 := T9.out.c 1 rfl 1 rfl
    have e2 := T9.out.c 1 rfl 2 rfl
    have e3 := T9.out.c 1 rfl 3 rfl
    go_wp2
    (try simp only [Exit.inBlock, Exit.then])
    refine bodyPost_ret (v := .agg #[.bool x1, .slice A1 n1 c1, .bool x2, .slice A2 n2 c2]) (by simp [results, Tryd.results44, go_sem, e0, e1, e2, e3]) rfl ⟨x1, A1, n1, c1, x2, A2, n2, c2, rfl, ?_, T9.out.below⟩
    exact ⟨x1, A1, n1, c1, x2, A2, n2, c2, rfl, J7.out.kept KT9.out, by rw [HU.out]; exact JJ7.out.kept KT9.out⟩

end Go.Proofs.YtpikbhcjgcbdfaaDoor.wh
