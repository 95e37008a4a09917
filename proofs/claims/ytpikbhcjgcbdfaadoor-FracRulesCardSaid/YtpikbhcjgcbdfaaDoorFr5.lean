/- Package frac: Floor, Cmp, Text. -/
import Derived.Test.YtpikbhcjgcbdfaaDoorFr4
namespace Go.Proofs.YtpikbhcjgcbdfaaDoor.wh
open Go.RowKit

/-- an integer and a truth -/
def GivesZB (W : World) (m : Nat) (z : Int) (r : Bool) (e : Ending) (w' : World) : Prop := ∃ neg A n c, e = .returned (.tuple #[.agg #[.bool neg, .slice A n c], .bool r]) ∧ Hid (IsInt w' w'.heap.size m (.agg #[.bool neg, .slice A n c]) z) ∧ Hid (Below W.heap.size W w')
theorem floor_int {q : Rat} (h : q.den = 1) : q.floor = q.num := by unfold Rat.floor; rw [if_pos h]
theorem floor_quo {q : Rat} (h : q.den ≠ 1) : quoZ q.num (q.den : Int) = q.floor ∧ remZ q.num (q.den : Int) ≠ 0 := by
  have hp := q.den_pos
  refine ⟨by unfold Rat.floor quoZ; rw [if_neg h, if_neg (by omega)], fun e => ?_⟩
  unfold remZ at e
  rw [if_neg (by omega)] at e
  have hd : q.den ∣ q.num.natAbs := Int.ofNat_dvd_left.1 (Int.dvd_of_emod_eq_zero e)
  have hr := q.reduced
  unfold Nat.Coprime at hr
  rw [Nat.gcd_eq_right hd] at hr
  exact h hr

set_option maxRecDepth 100000 in
set_option maxHeartbeats 2000000 in
theorem floor_any {v : Value} {p : Nat} {q : Rat} {r : Bool} {w : World} (hp : p ≤ 800) (hx : IsFr w p v q) (hr : decide (q.den = 1) = r) :
    Calls Tryd.prog 40 #[v] w fun e w' => GivesZB w (p + 2) q.floor r e w' := by
  obtain ⟨xi, Ai, ni, ci, yi, Bi, mi, di, rfl, h1, h2⟩ := hx
  have I1 := Lib.hid h1
  have I2 := Lib.hid h2
  have hz := und_zero h2
  clear h1 h2
  have HT : Hid (Mem w [(w.heap.size, 58, [.bool xi, .slice Ai ni ci, .bool yi, .slice Bi mi di]), (w.heap.size + 1, 24, [.bool false, .slice none 0 0])] ((w.alloc (.cells #[.bool xi, .slice Ai ni ci, .bool yi, .slice Bi mi di] 58)).alloc (.cells #[.bool false, .slice none 0 0] 24))) := (((Mem.new w).push (by simp) 58 [.bool xi, .slice Ai ni ci, .bool yi, .slice Bi mi di] rfl).push (by simp) 24 [.bool false, .slice none 0 0] rfl)
  have A0 : Hid (∀ w' : World, Mem w [(w.heap.size, 58, [.bool xi, .slice Ai ni ci, .bool yi, .slice Bi mi di]), (w.heap.size + 1, 24, [.bool false, .slice none 0 0])] w' → (w'.cell? ⟨w.heap.size, 0, none⟩ = some (.bool xi) ∧ w'.cell? ⟨w.heap.size, 1, none⟩ = some (.slice Ai ni ci) ∧ w'.cell? ⟨w.heap.size, 2, none⟩ = some (.bool yi) ∧ w'.cell? ⟨w.heap.size, 3, none⟩ = some (.slice Bi mi di) ∧ w'.cell? ⟨w.heap.size + 1, 0, none⟩ = some (.bool false) ∧ w'.cell? ⟨w.heap.size + 1, 1, none⟩ = some (.slice none 0 0)) ∧ (w'.frozen? ⟨w.heap.size, 0, none⟩ = false ∧ w'.frozen? ⟨w.heap.size, 1, none⟩ = false ∧ w'.frozen? ⟨w.heap.size, 2, none⟩ = false ∧ w'.frozen? ⟨w.heap.size, 3, none⟩ = false ∧ w'.frozen? ⟨w.heap.size + 1, 0, none⟩ = false ∧ w'.frozen? ⟨w.heap.size + 1, 1, none⟩ = false) ∧ Hid (Mem w [(w.heap.size, 58, [.bool xi, .slice Ai ni ci, .bool yi, .slice Bi mi di]), (w.heap.size + 1, 24, [.bool false, .slice none 0 0])] w')) := fun w' h => ⟨⟨h.c 0 rfl 0 rfl, h.c 0 rfl 1 rfl, h.c 0 rfl 2 rfl, h.c 0 rfl 3 rfl, h.c 1 rfl 0 rfl, h.c 1 rfl 1 rfl⟩, ⟨h.f 0 rfl 0, h.f 0 rfl 1, h.f 0 rfl 2, h.f 0 rfl 3, h.f 1 rfl 0, h.f 1 rfl 1⟩, h⟩
  have C0 := (A0.out _ HT.out).1
  have F0 := (A0.out _ HT.out).2.1
  by_cases hd : q.den = 1
  · obtain ⟨rfl, hh⟩ := hz.1 hd
    clear hh
    have HF := Lib.hid (floor_int hd)
    obtain rfl : r = true := by rw [← hr]; exact decide_eq_true hd
    clear hz hd hr
    go_enter Tryd.func40, Tryd.ntmps40
    go_wp2_with fail
    refine (isInteger_yes _).mono ?_
    rintro e w1 ⟨rfl, hb1⟩
    have T1 := Lib.hid (Mem.over hb1 HT.out)
    have C1 := (A0.out _ T1.out).1
    clear C0 F0
    go_wp2_with fail
    refine (fresh_any (by omega) (I1.out.over T1.out.below)).mono ?_
    rintro e w2 ⟨x2, A2, n2, c2, rfl, hi2, hb2⟩
    have T2 := Lib.hid (Mem.over hb2 T1.out)
    have C2 := (A0.out _ T2.out).1
    have F2 := (A0.out _ T2.out).2.1
    clear C1
    have T9 := Lib.hid ((T2.out.set_ 1 rfl 0 (v := .bool x2) rfl).set_ 1 rfl 1 (v := .slice A2 n2 c2) rfl)
    have KT9 := Lib.hid ((T2.out.kept_set 1 rfl 0 (.bool x2)).trans ((T2.out.set_ 1 rfl 0 (v := .bool x2) rfl).kept_set 1 rfl 1 (.slice A2 n2 c2)))
    have e0 := T9.out.c 1 rfl 0 rfl
    have e1 := T9.out.c 1 rfl 1 rfl
    go_wp2
    (try simp only [Exit.inBlock, Exit.then])
    refine bodyPost_ret (v := .tuple #[.agg #[.bool x2, .slice A2 n2 c2], .bool true]) (by simp [results, Tryd.results40, go_sem, e0, e1]) rfl ⟨x2, A2, n2, c2, rfl, ?_, T9.out.below⟩
    rw [HF.out]
    exact (hi2.out.kept KT9.out).more (Nat.le_refl _) (by omega)
  · obtain ⟨hl, hh⟩ := hz.2 hd
    clear hh
    have HF := Lib.hid (floor_quo hd)
    have HU : Hid (undZ q = (q.den : Int)) := by show _ = _; unfold undZ; rw [if_neg hd]
    have HN := Lib.hid (decide_eq_false HF.out.2)
    obtain rfl : r = false := by rw [← hr]; exact decide_eq_false hd
    clear hz hd hr
    go_enter Tryd.func40, Tryd.ntmps40
    go_wp2_with fail
    refine (isInteger_no _ hl).mono ?_
    rintro e w1 ⟨rfl, hb1⟩
    have T1 := Lib.hid (Mem.over hb1 HT.out)
    have C1 := (A0.out _ T1.out).1
    clear C0 F0
    go_wp2_with fail
    refine (div_all _ _ p p q.num (undZ q) _ (by omega) (by omega) (I1.out.over T1.out.below) (I2.out.over T1.out.below)).mono ?_
    rintro e w2 ⟨x2, A2, n2, c2, x3, A3, n3, c3, rfl, hi2, hi3, hb2⟩
    rw [HU.out] at hi2 hi3
    rw [HF.out.1] at hi2
    have T3 : Hid (Mem w [(w.heap.size, 58, [.bool xi, .slice Ai ni ci, .bool yi, .slice Bi mi di]), (w.heap.size + 1, 24, [.bool false, .slice none 0 0]), (w2.heap.size, 24, [.bool x2, .slice A2 n2 c2]), (w2.heap.size + 1, 24, [.bool x3, .slice A3 n3 c3])] ((w2.alloc (.cells #[.bool x2, .slice A2 n2 c2] 24)).alloc (.cells #[.bool x3, .slice A3 n3 c3] 24))) := (((Mem.over hb2 T1.out).push rfl 24 [.bool x2, .slice A2 n2 c2] rfl).push (by simp) 24 [.bool x3, .slice A3 n3 c3] rfl)
    have K3 : Hid (Kept w2 ((w2.alloc (.cells #[.bool x2, .slice A2 n2 c2] 24)).alloc (.cells #[.bool x3, .slice A3 n3 c3] 24))) := ((Kept.refl _).alloc _).alloc _
    have I3 := Lib.hid (hi2.out.kept K3.out)
    have J3 := Lib.hid (hi3.out.kept K3.out)
    have U3 : Hid (MemU w [(w.heap.size, 58, [.bool xi, .slice Ai ni ci, .bool yi, .slice Bi mi di]), (w2.heap.size, 24, [.bool x2, .slice A2 n2 c2]), (w2.heap.size + 1, 24, [.bool x3, .slice A3 n3 c3])] [(w.heap.size + 1, 24, 2)] ((w2.alloc (.cells #[.bool x2, .slice A2 n2 c2] 24)).alloc (.cells #[.bool x3, .slice A3 n3 c3] 24))) := MemU.of (T3.out.perm (.cons _ ((List.Perm.swap _ _ _).trans (.cons _ (.swap _ _ _))))) rfl
    clear C1
    go_wp2
    generalize hW : ((w2.alloc (.cells #[.bool x2, .slice A2 n2 c2] 24)).alloc (.cells #[.bool x3, .slice A3 n3 c3] 24)) = W3 at *
    clear hW
    have AU : Hid (∀ w' : World, MemU w [(w.heap.size, 58, [.bool xi, .slice Ai ni ci, .bool yi, .slice Bi mi di]), (w2.heap.size, 24, [.bool x2, .slice A2 n2 c2]), (w2.heap.size + 1, 24, [.bool x3, .slice A3 n3 c3])] [(w.heap.size + 1, 24, 2)] w' → (w'.cell? ⟨w.heap.size, 0, none⟩ = some (.bool xi) ∧ w'.cell? ⟨w.heap.size, 1, none⟩ = some (.slice Ai ni ci) ∧ w'.cell? ⟨w.heap.size, 2, none⟩ = some (.bool yi) ∧ w'.cell? ⟨w.heap.size, 3, none⟩ = some (.slice Bi mi di) ∧ w'.cell? ⟨w2.heap.size, 0, none⟩ = some (.bool x2) ∧ w'.cell? ⟨w2.heap.size, 1, none⟩ = some (.slice A2 n2 c2) ∧ w'.cell? ⟨w2.heap.size + 1, 0, none⟩ = some (.bool x3) ∧ w'.cell? ⟨w2.heap.size + 1, 1, none⟩ = some (.slice A3 n3 c3) ∧ w'.cell? ⟨w.heap.size + 1, 0, none⟩ = some (holdsAt w' (w.heap.size + 1) 0) ∧ w'.cell? ⟨w.heap.size + 1, 1, none⟩ = some (holdsAt w' (w.heap.size + 1) 1)) ∧ (w'.frozen? ⟨w.heap.size, 0, none⟩ = false ∧ w'.frozen? ⟨w.heap.size, 1, none⟩ = false ∧ w'.frozen? ⟨w.heap.size, 2, none⟩ = false ∧ w'.frozen? ⟨w.heap.size, 3, none⟩ = false ∧ w'.frozen? ⟨w2.heap.size, 0, none⟩ = false ∧ w'.frozen? ⟨w2.heap.size, 1, none⟩ = false ∧ w'.frozen? ⟨w2.heap.size + 1, 0, none⟩ = false ∧ w'.frozen? ⟨w2.heap.size + 1, 1, none⟩ = false ∧ w'.frozen? ⟨w.heap.size + 1, 0, none⟩ = false ∧ w'.frozen? ⟨w.heap.size + 1, 1, none⟩ = false) ∧ Hid (MemU w [(w.heap.size, 58, [.bool xi, .slice Ai ni ci, .bool yi, .slice Bi mi di]), (w2.heap.size, 24, [.bool x2, .slice A2 n2 c2]), (w2.heap.size + 1, 24, [.bool x3, .slice A3 n3 c3])] [(w.heap.size + 1, 24, 2)] (w'))) := fun w' h => ⟨⟨h.mem.c 0 rfl 0 rfl, h.mem.c 0 rfl 1 rfl, h.mem.c 0 rfl 2 rfl, h.mem.c 0 rfl 3 rfl, h.mem.c 1 rfl 0 rfl, h.mem.c 1 rfl 1 rfl, h.mem.c 2 rfl 0 rfl, h.mem.c 2 rfl 1 rfl, h.c 0 rfl 0 (by decide), h.c 0 rfl 1 (by decide)⟩, ⟨h.mem.f 0 rfl 0, h.mem.f 0 rfl 1, h.mem.f 0 rfl 2, h.mem.f 0 rfl 3, h.mem.f 1 rfl 0, h.mem.f 1 rfl 1, h.mem.f 2 rfl 0, h.mem.f 2 rfl 1, h.f 0 rfl 0, h.f 0 rfl 1⟩, h⟩
    have PU : Hid (∀ (w' : World) (px : Bool) (pa : Option Addr) (pn pc : Nat), MemU w [(w.heap.size, 58, [.bool xi, .slice Ai ni ci, .bool yi, .slice Bi mi di]), (w2.heap.size, 24, [.bool x2, .slice A2 n2 c2]), (w2.heap.size + 1, 24, [.bool x3, .slice A3 n3 c3])] [(w.heap.size + 1, 24, 2)] w' → (((w'.setCell ⟨w.heap.size + 1, 0, none⟩ (.bool px)).setCell ⟨w.heap.size + 1, 1, none⟩ (.slice pa pn pc)).cell? ⟨w.heap.size, 0, none⟩ = some (.bool xi) ∧ ((w'.setCell ⟨w.heap.size + 1, 0, none⟩ (.bool px)).setCell ⟨w.heap.size + 1, 1, none⟩ (.slice pa pn pc)).cell? ⟨w.heap.size, 1, none⟩ = some (.slice Ai ni ci) ∧ ((w'.setCell ⟨w.heap.size + 1, 0, none⟩ (.bool px)).setCell ⟨w.heap.size + 1, 1, none⟩ (.slice pa pn pc)).cell? ⟨w.heap.size, 2, none⟩ = some (.bool yi) ∧ ((w'.setCell ⟨w.heap.size + 1, 0, none⟩ (.bool px)).setCell ⟨w.heap.size + 1, 1, none⟩ (.slice pa pn pc)).cell? ⟨w.heap.size, 3, none⟩ = some (.slice Bi mi di) ∧ ((w'.setCell ⟨w.heap.size + 1, 0, none⟩ (.bool px)).setCell ⟨w.heap.size + 1, 1, none⟩ (.slice pa pn pc)).cell? ⟨w2.heap.size, 0, none⟩ = some (.bool x2) ∧ ((w'.setCell ⟨w.heap.size + 1, 0, none⟩ (.bool px)).setCell ⟨w.heap.size + 1, 1, none⟩ (.slice pa pn pc)).cell? ⟨w2.heap.size, 1, none⟩ = some (.slice A2 n2 c2) ∧ ((w'.setCell ⟨w.heap.size + 1, 0, none⟩ (.bool px)).setCell ⟨w.heap.size + 1, 1, none⟩ (.slice pa pn pc)).cell? ⟨w2.heap.size + 1, 0, none⟩ = some (.bool x3) ∧ ((w'.setCell ⟨w.heap.size + 1, 0, none⟩ (.bool px)).setCell ⟨w.heap.size + 1, 1, none⟩ (.slice pa pn pc)).cell? ⟨w2.heap.size + 1, 1, none⟩ = some (.slice A3 n3 c3) ∧ ((w'.setCell ⟨w.heap.size + 1, 0, none⟩ (.bool px)).setCell ⟨w.heap.size + 1, 1, none⟩ (.slice pa pn pc)).cell? ⟨w.heap.size + 1, 0, none⟩ = some (holdsAt ((w'.setCell ⟨w.heap.size + 1, 0, none⟩ (.bool px)).setCell ⟨w.heap.size + 1, 1, none⟩ (.slice pa pn pc)) (w.heap.size + 1) 0) ∧ ((w'.setCell ⟨w.heap.size + 1, 0, none⟩ (.bool px)).setCell ⟨w.heap.size + 1, 1, none⟩ (.slice pa pn pc)).cell? ⟨w.heap.size + 1, 1, none⟩ = some (holdsAt ((w'.setCell ⟨w.heap.size + 1, 0, none⟩ (.bool px)).setCell ⟨w.heap.size + 1, 1, none⟩ (.slice pa pn pc)) (w.heap.size + 1) 1)) ∧ (((w'.setCell ⟨w.heap.size + 1, 0, none⟩ (.bool px)).setCell ⟨w.heap.size + 1, 1, none⟩ (.slice pa pn pc)).frozen? ⟨w.heap.size, 0, none⟩ = false ∧ ((w'.setCell ⟨w.heap.size + 1, 0, none⟩ (.bool px)).setCell ⟨w.heap.size + 1, 1, none⟩ (.slice pa pn pc)).frozen? ⟨w.heap.size, 1, none⟩ = false ∧ ((w'.setCell ⟨w.heap.size + 1, 0, none⟩ (.bool px)).setCell ⟨w.heap.size + 1, 1, none⟩ (.slice pa pn pc)).frozen? ⟨w.heap.size, 2, none⟩ = false ∧ ((w'.setCell ⟨w.heap.size + 1, 0, none⟩ (.bool px)).setCell ⟨w.heap.size + 1, 1, none⟩ (.slice pa pn pc)).frozen? ⟨w.heap.size, 3, none⟩ = false ∧ ((w'.setCell ⟨w.heap.size + 1, 0, none⟩ (.bool px)).setCell ⟨w.heap.size + 1, 1, none⟩ (.slice pa pn pc)).frozen? ⟨w2.heap.size, 0, none⟩ = false ∧ ((w'.setCell ⟨w.heap.size + 1, 0, none⟩ (.bool px)).setCell ⟨w.heap.size + 1, 1, none⟩ (.slice pa pn pc)).frozen? ⟨w2.heap.size, 1, none⟩ = false ∧ ((w'.setCell ⟨w.heap.size + 1, 0, none⟩ (.bool px)).setCell ⟨w.heap.size + 1, 1, none⟩ (.slice pa pn pc)).frozen? ⟨w2.heap.size + 1, 0, none⟩ = false ∧ ((w'.setCell ⟨w.heap.size + 1, 0, none⟩ (.bool px)).setCell ⟨w.heap.size + 1, 1, none⟩ (.slice pa pn pc)).frozen? ⟨w2.heap.size + 1, 1, none⟩ = false ∧ ((w'.setCell ⟨w.heap.size + 1, 0, none⟩ (.bool px)).setCell ⟨w.heap.size + 1, 1, none⟩ (.slice pa pn pc)).frozen? ⟨w.heap.size + 1, 0, none⟩ = false ∧ ((w'.setCell ⟨w.heap.size + 1, 0, none⟩ (.bool px)).setCell ⟨w.heap.size + 1, 1, none⟩ (.slice pa pn pc)).frozen? ⟨w.heap.size + 1, 1, none⟩ = false) ∧ Hid (MemU w [(w.heap.size, 58, [.bool xi, .slice Ai ni ci, .bool yi, .slice Bi mi di]), (w2.heap.size, 24, [.bool x2, .slice A2 n2 c2]), (w2.heap.size + 1, 24, [.bool x3, .slice A3 n3 c3])] [(w.heap.size + 1, 24, 2)] (((w'.setCell ⟨w.heap.size + 1, 0, none⟩ (.bool px)).setCell ⟨w.heap.size + 1, 1, none⟩ (.slice pa pn pc))))) := fun w' px pa pn pc h => AU.out _ ((h.set_ 0 rfl 0 (v := .bool px) rfl).set_ 0 rfl 1 (v := .slice pa pn pc) rfl)
    go_region_held3 (fun w' => (w'.cell? ⟨w.heap.size, 0, none⟩ = some (.bool xi) ∧ w'.cell? ⟨w.heap.size, 1, none⟩ = some (.slice Ai ni ci) ∧ w'.cell? ⟨w.heap.size, 2, none⟩ = some (.bool yi) ∧ w'.cell? ⟨w.heap.size, 3, none⟩ = some (.slice Bi mi di) ∧ w'.cell? ⟨w2.heap.size, 0, none⟩ = some (.bool x2) ∧ w'.cell? ⟨w2.heap.size, 1, none⟩ = some (.slice A2 n2 c2) ∧ w'.cell? ⟨w2.heap.size + 1, 0, none⟩ = some (.bool x3) ∧ w'.cell? ⟨w2.heap.size + 1, 1, none⟩ = some (.slice A3 n3 c3) ∧ w'.cell? ⟨w.heap.size + 1, 0, none⟩ = some (holdsAt w' (w.heap.size + 1) 0) ∧ w'.cell? ⟨w.heap.size + 1, 1, none⟩ = some (holdsAt w' (w.heap.size + 1) 1)) ∧ (w'.frozen? ⟨w.heap.size, 0, none⟩ = false ∧ w'.frozen? ⟨w.heap.size, 1, none⟩ = false ∧ w'.frozen? ⟨w.heap.size, 2, none⟩ = false ∧ w'.frozen? ⟨w.heap.size, 3, none⟩ = false ∧ w'.frozen? ⟨w2.heap.size, 0, none⟩ = false ∧ w'.frozen? ⟨w2.heap.size, 1, none⟩ = false ∧ w'.frozen? ⟨w2.heap.size + 1, 0, none⟩ = false ∧ w'.frozen? ⟨w2.heap.size + 1, 1, none⟩ = false ∧ w'.frozen? ⟨w.heap.size + 1, 0, none⟩ = false ∧ w'.frozen? ⟨w.heap.size + 1, 1, none⟩ = false) ∧ Hid (MemU w [(w.heap.size, 58, [.bool xi, .slice Ai ni ci, .bool yi, .slice Bi mi di]), (w2.heap.size, 24, [.bool x2, .slice A2 n2 c2]), (w2.heap.size + 1, 24, [.bool x3, .slice A3 n3 c3])] [(w.heap.size + 1, 24, 2)] (w'))) (first | (with_reducible exact AU.out _ U3.out.drew) | (with_reducible exact AU.out _ (MemU.over hb (MemU.get (by assumption)))) | (with_reducible exact PU.out _ _ _ _ _ (MemU.get (by assumption)))) (first | (go_at_call 85; refine (isNought_any (by omega) (J3.out.kept ((Kept.refl _).drew)) HN.out).mono ?_; rintro e w5 ⟨rfl, hb⟩; have hb5 := hb))
    have T7 := Lib.hid (Mem.over hb5 T3.out.drew)
    have T9 := Lib.hid ((T7.out.set_ 1 rfl 0 (v := .bool x2) rfl).set_ 1 rfl 1 (v := .slice A2 n2 c2) rfl)
    have K9 := Lib.hid ((T7.out.kept_set 1 rfl 0 (.bool x2)).trans ((T7.out.set_ 1 rfl 0 (v := .bool x2) rfl).kept_set 1 rfl 1 (.slice A2 n2 c2)))
    have e0 := T9.out.c 1 rfl 0 rfl
    have e1 := T9.out.c 1 rfl 1 rfl
    go_wp2
    refine bodyPost_ret (v := .tuple #[.agg #[.bool x2, .slice A2 n2 c2], .bool false]) (by simp [results, Tryd.results40, go_sem, e0, e1]) rfl ⟨x2, A2, n2, c2, rfl, ?_, T9.out.below⟩
    exact ((I3.out.kept ((Kept.refl _).drew.over hb5)).kept K9.out).more (Nat.le_refl _) (by omega)

/-- how two fractions stand -/
def cmpR (x y : Rat) : Int := if x < y then -1 else if y < x then 1 else 0
theorem cmpR_cross (x y : Rat) : cmpZ (x.num * (y.den : Int)) (y.num * (x.den : Int)) = cmpR x y := (cmp_rat x y).symm
theorem cmpR_ints {x y : Rat} (hx : x.den = 1) (hy : y.den = 1) : cmpZ x.num y.num = cmpR x y := by
  rw [← cmpR_cross, hx, hy]
  simp
theorem cmpR_lt {x y : Rat} (hx : x.num < 0) (hy : 0 ≤ y.num) : cmpZ x.num y.num = cmpR x y := by
  have px := x.den_pos
  have py := y.den_pos
  have h1 : x.num * (y.den : Int) < 0 := Int.mul_neg_of_neg_of_pos hx (by omega)
  have h2 : 0 ≤ y.num * (x.den : Int) := Int.mul_nonneg hy (by omega)
  rw [← cmpR_cross]
  unfold cmpZ
  rw [if_pos (by omega), if_pos (by omega)]
theorem cmpR_gt {x y : Rat} (hx : 0 ≤ x.num) (hy : y.num < 0) : cmpZ x.num y.num = cmpR x y := by
  have px := x.den_pos
  have py := y.den_pos
  have h1 : y.num * (x.den : Int) < 0 := Int.mul_neg_of_neg_of_pos hy (by omega)
  have h2 : 0 ≤ x.num * (y.den : Int) := Int.mul_nonneg hx (by omega)
  rw [← cmpR_cross]
  unfold cmpZ
  rw [if_neg (by omega), if_pos (by omega), if_neg (by omega), if_pos (by omega)]
theorem int_signs {x : Bool} {A : Option Addr} {n c m B : Nat} {z : Int} {w : World} (h : IsInt w B m (.agg #[.bool x, .slice A n c]) z) : (x = true → z < 0) ∧ (x = false → 0 ≤ z) := by
  refine ⟨fun e => ?_, fun e => ?_⟩
  · rcases Int.lt_or_le z 0 with h0 | h0
    · exact h0
    · have := int_sign h h0
      rw [e] at this
      cases this
  · rcases Int.lt_or_le z 0 with h0 | h0
    · have := int_below h h0
      rw [e] at this
      cases this
    · exact h0

set_option maxRecDepth 100000 in
set_option maxHeartbeats 4000000 in
theorem fcmp_any {v u : Value} {p : Nat} {x y : Rat} {w : World} (hp : p ≤ 400) (hx : IsFr w p v x) (hy : IsFr w p u y) :
    Calls Tryd.prog 52 #[v, u] w fun e w' => e = .returned (.int .i64 (cmpR x y)) ∧ Hid (Below w.heap.size w w') := by
  have HX := Lib.hid hx
  have HY := Lib.hid hy
  obtain ⟨xi, Ai, ni, ci, yi, Bi, mi, di, rfl, h1, h2⟩ := hx
  obtain ⟨xj, Aj, nj, cj, yj, Bj, mj, dj, rfl, g1, g2⟩ := hy
  have I1 := Lib.hid h1
  have J1 := Lib.hid g1
  have SX := int_signs h1
  have SY := int_signs g1
  have hz := und_zero h2
  have gz := und_zero g2
  clear h1 h2 g1 g2
  by_cases hdx : x.den = 1
  · by_cases hdy : y.den = 1
    ·
      cases xi with
      | true =>
        cases xj with
        | true =>
          obtain ⟨rfl, hh⟩ := hz.1 hdx
          clear hh hz
          obtain ⟨rfl, hh⟩ := gz.1 hdy
          clear hh
          clear gz
          have HE := Lib.hid (cmpR_ints hdx hdy)
          clear SX SY hdx hdy
          have HT : Hid (Mem w [(w.heap.size, 58, [.bool true, .slice Ai ni ci, .bool yi, .slice Bi 0 di]), (w.heap.size + 1, 58, [.bool true, .slice Aj nj cj, .bool yj, .slice Bj 0 dj])] ((w.alloc (.cells #[.bool true, .slice Ai ni ci, .bool yi, .slice Bi 0 di] 58)).alloc (.cells #[.bool true, .slice Aj nj cj, .bool yj, .slice Bj 0 dj] 58))) := (((Mem.new w).push (by simp) 58 [.bool true, .slice Ai ni ci, .bool yi, .slice Bi 0 di] rfl).push (by simp) 58 [.bool true, .slice Aj nj cj, .bool yj, .slice Bj 0 dj] rfl)
          have A0 : Hid (∀ w' : World, Mem w [(w.heap.size, 58, [.bool true, .slice Ai ni ci, .bool yi, .slice Bi 0 di]), (w.heap.size + 1, 58, [.bool true, .slice Aj nj cj, .bool yj, .slice Bj 0 dj])] w' → (w'.cell? ⟨w.heap.size, 0, none⟩ = some (.bool true) ∧ w'.cell? ⟨w.heap.size, 1, none⟩ = some (.slice Ai ni ci) ∧ w'.cell? ⟨w.heap.size, 2, none⟩ = some (.bool yi) ∧ w'.cell? ⟨w.heap.size, 3, none⟩ = some (.slice Bi 0 di) ∧ w'.cell? ⟨w.heap.size + 1, 0, none⟩ = some (.bool true) ∧ w'.cell? ⟨w.heap.size + 1, 1, none⟩ = some (.slice Aj nj cj) ∧ w'.cell? ⟨w.heap.size + 1, 2, none⟩ = some (.bool yj) ∧ w'.cell? ⟨w.heap.size + 1, 3, none⟩ = some (.slice Bj 0 dj)) ∧ (w'.frozen? ⟨w.heap.size, 0, none⟩ = false ∧ w'.frozen? ⟨w.heap.size, 1, none⟩ = false ∧ w'.frozen? ⟨w.heap.size, 2, none⟩ = false ∧ w'.frozen? ⟨w.heap.size, 3, none⟩ = false ∧ w'.frozen? ⟨w.heap.size + 1, 0, none⟩ = false ∧ w'.frozen? ⟨w.heap.size + 1, 1, none⟩ = false ∧ w'.frozen? ⟨w.heap.size + 1, 2, none⟩ = false ∧ w'.frozen? ⟨w.heap.size + 1, 3, none⟩ = false) ∧ Hid (Mem w [(w.heap.size, 58, [.bool true, .slice Ai ni ci, .bool yi, .slice Bi 0 di]), (w.heap.size + 1, 58, [.bool true, .slice Aj nj cj, .bool yj, .slice Bj 0 dj])] w')) := fun w' h => ⟨⟨h.c 0 rfl 0 rfl, h.c 0 rfl 1 rfl, h.c 0 rfl 2 rfl, h.c 0 rfl 3 rfl, h.c 1 rfl 0 rfl, h.c 1 rfl 1 rfl, h.c 1 rfl 2 rfl, h.c 1 rfl 3 rfl⟩, ⟨h.f 0 rfl 0, h.f 0 rfl 1, h.f 0 rfl 2, h.f 0 rfl 3, h.f 1 rfl 0, h.f 1 rfl 1, h.f 1 rfl 2, h.f 1 rfl 3⟩, h⟩
          have C0 := (A0.out _ HT.out).1
          go_enter Tryd.func52, Tryd.ntmps52
          go_wp2_with fail
          refine (isInteger_yes _).mono ?_
          rintro e w1 ⟨rfl, hb1⟩
          have T1 := Lib.hid (Mem.over hb1 HT.out)
          have C1 := (A0.out _ T1.out).1
          clear C0
          go_wp2_with fail
          refine (isInteger_yes _).mono ?_
          rintro e w2 ⟨rfl, hb2⟩
          have T2 := Lib.hid (Mem.over hb2 T1.out)
          have C2 := (A0.out _ T2.out).1
          clear C1
          go_wp2_with fail
          refine (cmp_hid (p := p) (q := p) (by omega) (by omega) (I1.out.over T2.out.below) (J1.out.over T2.out.below)).mono ?_
          rintro e w9 ⟨rfl, hb9⟩
          rw [HE.out]
          have T9 := Lib.hid (Mem.over hb9 T2.out)
          go_wp2
          (try simp only [Exit.inBlock, Exit.then])
          go_ret
          exact ⟨rfl, T9.out.below⟩
        | false =>
          obtain ⟨rfl, hh⟩ := hz.1 hdx
          clear hh hz
          obtain ⟨rfl, hh⟩ := gz.1 hdy
          clear hh
          clear gz
          have HE := Lib.hid (cmpR_ints hdx hdy)
          clear SX SY hdx hdy
          have HT : Hid (Mem w [(w.heap.size, 58, [.bool true, .slice Ai ni ci, .bool yi, .slice Bi 0 di]), (w.heap.size + 1, 58, [.bool false, .slice Aj nj cj, .bool yj, .slice Bj 0 dj])] ((w.alloc (.cells #[.bool true, .slice Ai ni ci, .bool yi, .slice Bi 0 di] 58)).alloc (.cells #[.bool false, .slice Aj nj cj, .bool yj, .slice Bj 0 dj] 58))) := (((Mem.new w).push (by simp) 58 [.bool true, .slice Ai ni ci, .bool yi, .slice Bi 0 di] rfl).push (by simp) 58 [.bool false, .slice Aj nj cj, .bool yj, .slice Bj 0 dj] rfl)
          have A0 : Hid (∀ w' : World, Mem w [(w.heap.size, 58, [.bool true, .slice Ai ni ci, .bool yi, .slice Bi 0 di]), (w.heap.size + 1, 58, [.bool false, .slice Aj nj cj, .bool yj, .slice Bj 0 dj])] w' → (w'.cell? ⟨w.heap.size, 0, none⟩ = some (.bool true) ∧ w'.cell? ⟨w.heap.size, 1, none⟩ = some (.slice Ai ni ci) ∧ w'.cell? ⟨w.heap.size, 2, none⟩ = some (.bool yi) ∧ w'.cell? ⟨w.heap.size, 3, none⟩ = some (.slice Bi 0 di) ∧ w'.cell? ⟨w.heap.size + 1, 0, none⟩ = some (.bool false) ∧ w'.cell? ⟨w.heap.size + 1, 1, none⟩ = some (.slice Aj nj cj) ∧ w'.cell? ⟨w.heap.size + 1, 2, none⟩ = some (.bool yj) ∧ w'.cell? ⟨w.heap.size + 1, 3, none⟩ = some (.slice Bj 0 dj)) ∧ (w'.frozen? ⟨w.heap.size, 0, none⟩ = false ∧ w'.frozen? ⟨w.heap.size, 1, none⟩ = false ∧ w'.frozen? ⟨w.heap.size, 2, none⟩ = false ∧ w'.frozen? ⟨w.heap.size, 3, none⟩ = false ∧ w'.frozen? ⟨w.heap.size + 1, 0, none⟩ = false ∧ w'.frozen? ⟨w.heap.size + 1, 1, none⟩ = false ∧ w'.frozen? ⟨w.heap.size + 1, 2, none⟩ = false ∧ w'.frozen? ⟨w.heap.size + 1, 3, none⟩ = false) ∧ Hid (Mem w [(w.heap.size, 58, [.bool true, .slice Ai ni ci, .bool yi, .slice Bi 0 di]), (w.heap.size + 1, 58, [.bool false, .slice Aj nj cj, .bool yj, .slice Bj 0 dj])] w')) := fun w' h => ⟨⟨h.c 0 rfl 0 rfl, h.c 0 rfl 1 rfl, h.c 0 rfl 2 rfl, h.c 0 rfl 3 rfl, h.c 1 rfl 0 rfl, h.c 1 rfl 1 rfl, h.c 1 rfl 2 rfl, h.c 1 rfl 3 rfl⟩, ⟨h.f 0 rfl 0, h.f 0 rfl 1, h.f 0 rfl 2, h.f 0 rfl 3, h.f 1 rfl 0, h.f 1 rfl 1, h.f 1 rfl 2, h.f 1 rfl 3⟩, h⟩
          have C0 := (A0.out _ HT.out).1
          go_enter Tryd.func52, Tryd.ntmps52
          go_wp2_with fail
          refine (isInteger_yes _).mono ?_
          rintro e w1 ⟨rfl, hb1⟩
          have T1 := Lib.hid (Mem.over hb1 HT.out)
          have C1 := (A0.out _ T1.out).1
          clear C0
          go_wp2_with fail
          refine (isInteger_yes _).mono ?_
          rintro e w2 ⟨rfl, hb2⟩
          have T2 := Lib.hid (Mem.over hb2 T1.out)
          have C2 := (A0.out _ T2.out).1
          clear C1
          go_wp2_with fail
          refine (cmp_hid (p := p) (q := p) (by omega) (by omega) (I1.out.over T2.out.below) (J1.out.over T2.out.below)).mono ?_
          rintro e w9 ⟨rfl, hb9⟩
          rw [HE.out]
          have T9 := Lib.hid (Mem.over hb9 T2.out)
          go_wp2
          (try simp only [Exit.inBlock, Exit.then])
          go_ret
          exact ⟨rfl, T9.out.below⟩
      | false =>
        cases xj with
        | true =>
          obtain ⟨rfl, hh⟩ := hz.1 hdx
          clear hh hz
          obtain ⟨rfl, hh⟩ := gz.1 hdy
          clear hh
          clear gz
          have HE := Lib.hid (cmpR_ints hdx hdy)
          clear SX SY hdx hdy
          have HT : Hid (Mem w [(w.heap.size, 58, [.bool false, .slice Ai ni ci, .bool yi, .slice Bi 0 di]), (w.heap.size + 1, 58, [.bool true, .slice Aj nj cj, .bool yj, .slice Bj 0 dj])] ((w.alloc (.cells #[.bool false, .slice Ai ni ci, .bool yi, .slice Bi 0 di] 58)).alloc (.cells #[.bool true, .slice Aj nj cj, .bool yj, .slice Bj 0 dj] 58))) := (((Mem.new w).push (by simp) 58 [.bool false, .slice Ai ni ci, .bool yi, .slice Bi 0 di] rfl).push (by simp) 58 [.bool true, .slice Aj nj cj, .bool yj, .slice Bj 0 dj] rfl)
          have A0 : Hid (∀ w' : World, Mem w [(w.heap.size, 58, [.bool false, .slice Ai ni ci, .bool yi, .slice Bi 0 di]), (w.heap.size + 1, 58, [.bool true, .slice Aj nj cj, .bool yj, .slice Bj 0 dj])] w' → (w'.cell? ⟨w.heap.size, 0, none⟩ = some (.bool false) ∧ w'.cell? ⟨w.heap.size, 1, none⟩ = some (.slice Ai ni ci) ∧ w'.cell? ⟨w.heap.size, 2, none⟩ = some (.bool yi) ∧ w'.cell? ⟨w.heap.size, 3, none⟩ = some (.slice Bi 0 di) ∧ w'.cell? ⟨w.heap.size + 1, 0, none⟩ = some (.bool true) ∧ w'.cell? ⟨w.heap.size + 1, 1, none⟩ = some (.slice Aj nj cj) ∧ w'.cell? ⟨w.heap.size + 1, 2, none⟩ = some (.bool yj) ∧ w'.cell? ⟨w.heap.size + 1, 3, none⟩ = some (.slice Bj 0 dj)) ∧ (w'.frozen? ⟨w.heap.size, 0, none⟩ = false ∧ w'.frozen? ⟨w.heap.size, 1, none⟩ = false ∧ w'.frozen? ⟨w.heap.size, 2, none⟩ = false ∧ w'.frozen? ⟨w.heap.size, 3, none⟩ = false ∧ w'.frozen? ⟨w.heap.size + 1, 0, none⟩ = false ∧ w'.frozen? ⟨w.heap.size + 1, 1, none⟩ = false ∧ w'.frozen? ⟨w.heap.size + 1, 2, none⟩ = false ∧ w'.frozen? ⟨w.heap.size + 1, 3, none⟩ = false) ∧ Hid (Mem w [(w.heap.size, 58, [.bool false, .slice Ai ni ci, .bool yi, .slice Bi 0 di]), (w.heap.size + 1, 58, [.bool true, .slice Aj nj cj, .bool yj, .slice Bj 0 dj])] w')) := fun w' h => ⟨⟨h.c 0 rfl 0 rfl, h.c 0 rfl 1 rfl, h.c 0 rfl 2 rfl, h.c 0 rfl 3 rfl, h.c 1 rfl 0 rfl, h.c 1 rfl 1 rfl, h.c 1 rfl 2 rfl, h.c 1 rfl 3 rfl⟩, ⟨h.f 0 rfl 0, h.f 0 rfl 1, h.f 0 rfl 2, h.f 0 rfl 3, h.f 1 rfl 0, h.f 1 rfl 1, h.f 1 rfl 2, h.f 1 rfl 3⟩, h⟩
          have C0 := (A0.out _ HT.out).1
          go_enter Tryd.func52, Tryd.ntmps52
          go_wp2_with fail
          refine (isInteger_yes _).mono ?_
          rintro e w1 ⟨rfl, hb1⟩
          have T1 := Lib.hid (Mem.over hb1 HT.out)
          have C1 := (A0.out _ T1.out).1
          clear C0
          go_wp2_with fail
          refine (isInteger_yes _).mono ?_
          rintro e w2 ⟨rfl, hb2⟩
          have T2 := Lib.hid (Mem.over hb2 T1.out)
          have C2 := (A0.out _ T2.out).1
          clear C1
          go_wp2_with fail
          refine (cmp_hid (p := p) (q := p) (by omega) (by omega) (I1.out.over T2.out.below) (J1.out.over T2.out.below)).mono ?_
          rintro e w9 ⟨rfl, hb9⟩
          rw [HE.out]
          have T9 := Lib.hid (Mem.over hb9 T2.out)
          go_wp2
          (try simp only [Exit.inBlock, Exit.then])
          go_ret
          exact ⟨rfl, T9.out.below⟩
        | false =>
          obtain ⟨rfl, hh⟩ := hz.1 hdx
          clear hh hz
          obtain ⟨rfl, hh⟩ := gz.1 hdy
          clear hh
          clear gz
          have HE := Lib.hid (cmpR_ints hdx hdy)
          clear SX SY hdx hdy
          have HT : Hid (Mem w [(w.heap.size, 58, [.bool false, .slice Ai ni ci, .bool yi, .slice Bi 0 di]), (w.heap.size + 1, 58, [.bool false, .slice Aj nj cj, .bool yj, .slice Bj 0 dj])] ((w.alloc (.cells #[.bool false, .slice Ai ni ci, .bool yi, .slice Bi 0 di] 58)).alloc (.cells #[.bool false, .slice Aj nj cj, .bool yj, .slice Bj 0 dj] 58))) := (((Mem.new w).push (by simp) 58 [.bool false, .slice Ai ni ci, .bool yi, .slice Bi 0 di] rfl).push (by simp) 58 [.bool false, .slice Aj nj cj, .bool yj, .slice Bj 0 dj] rfl)
          have A0 : Hid (∀ w' : World, Mem w [(w.heap.size, 58, [.bool false, .slice Ai ni ci, .bool yi, .slice Bi 0 di]), (w.heap.size + 1, 58, [.bool false, .slice Aj nj cj, .bool yj, .slice Bj 0 dj])] w' → (w'.cell? ⟨w.heap.size, 0, none⟩ = some (.bool false) ∧ w'.cell? ⟨w.heap.size, 1, none⟩ = some (.slice Ai ni ci) ∧ w'.cell? ⟨w.heap.size, 2, none⟩ = some (.bool yi) ∧ w'.cell? ⟨w.heap.size, 3, none⟩ = some (.slice Bi 0 di) ∧ w'.cell? ⟨w.heap.size + 1, 0, none⟩ = some (.bool false) ∧ w'.cell? ⟨w.heap.size + 1, 1, none⟩ = some (.slice Aj nj cj) ∧ w'.cell? ⟨w.heap.size + 1, 2, none⟩ = some (.bool yj) ∧ w'.cell? ⟨w.heap.size + 1, 3, none⟩ = some (.slice Bj 0 dj)) ∧ (w'.frozen? ⟨w.heap.size, 0, none⟩ = false ∧ w'.frozen? ⟨w.heap.size, 1, none⟩ = false ∧ w'.frozen? ⟨w.heap.size, 2, none⟩ = false ∧ w'.frozen? ⟨w.heap.size, 3, none⟩ = false ∧ w'.frozen? ⟨w.heap.size + 1, 0, none⟩ = false ∧ w'.frozen? ⟨w.heap.size + 1, 1, none⟩ = false ∧ w'.frozen? ⟨w.heap.size + 1, 2, none⟩ = false ∧ w'.frozen? ⟨w.heap.size + 1, 3, none⟩ = false) ∧ Hid (Mem w [(w.heap.size, 58, [.bool false, .slice Ai ni ci, .bool yi, .slice Bi 0 di]), (w.heap.size + 1, 58, [.bool false, .slice Aj nj cj, .bool yj, .slice Bj 0 dj])] w')) := fun w' h => ⟨⟨h.c 0 rfl 0 rfl, h.c 0 rfl 1 rfl, h.c 0 rfl 2 rfl, h.c 0 rfl 3 rfl, h.c 1 rfl 0 rfl, h.c 1 rfl 1 rfl, h.c 1 rfl 2 rfl, h.c 1 rfl 3 rfl⟩, ⟨h.f 0 rfl 0, h.f 0 rfl 1, h.f 0 rfl 2, h.f 0 rfl 3, h.f 1 rfl 0, h.f 1 rfl 1, h.f 1 rfl 2, h.f 1 rfl 3⟩, h⟩
          have C0 := (A0.out _ HT.out).1
          go_enter Tryd.func52, Tryd.ntmps52
          go_wp2_with fail
          refine (isInteger_yes _).mono ?_
          rintro e w1 ⟨rfl, hb1⟩
          have T1 := Lib.hid (Mem.over hb1 HT.out)
          have C1 := (A0.out _ T1.out).1
          clear C0
          go_wp2_with fail
          refine (isInteger_yes _).mono ?_
          rintro e w2 ⟨rfl, hb2⟩
          have T2 := Lib.hid (Mem.over hb2 T1.out)
          have C2 := (A0.out _ T2.out).1
          clear C1
          go_wp2_with fail
          refine (cmp_hid (p := p) (q := p) (by omega) (by omega) (I1.out.over T2.out.below) (J1.out.over T2.out.below)).mono ?_
          rintro e w9 ⟨rfl, hb9⟩
          rw [HE.out]
          have T9 := Lib.hid (Mem.over hb9 T2.out)
          go_wp2
          (try simp only [Exit.inBlock, Exit.then])
          go_ret
          exact ⟨rfl, T9.out.below⟩
    ·
      cases xi with
      | true =>
        cases xj with
        | true =>
          obtain ⟨rfl, hh⟩ := hz.1 hdx
          clear hh hz
          obtain ⟨hm, hh⟩ := gz.2 hdy
          clear hh
          clear gz
          have HE := Lib.hid (cmpR_cross x y)
          clear SX SY hdx hdy
          have HT : Hid (Mem w [(w.heap.size, 58, [.bool true, .slice Ai ni ci, .bool yi, .slice Bi 0 di]), (w.heap.size + 1, 58, [.bool true, .slice Aj nj cj, .bool yj, .slice Bj mj dj])] ((w.alloc (.cells #[.bool true, .slice Ai ni ci, .bool yi, .slice Bi 0 di] 58)).alloc (.cells #[.bool true, .slice Aj nj cj, .bool yj, .slice Bj mj dj] 58))) := (((Mem.new w).push (by simp) 58 [.bool true, .slice Ai ni ci, .bool yi, .slice Bi 0 di] rfl).push (by simp) 58 [.bool true, .slice Aj nj cj, .bool yj, .slice Bj mj dj] rfl)
          have A0 : Hid (∀ w' : World, Mem w [(w.heap.size, 58, [.bool true, .slice Ai ni ci, .bool yi, .slice Bi 0 di]), (w.heap.size + 1, 58, [.bool true, .slice Aj nj cj, .bool yj, .slice Bj mj dj])] w' → (w'.cell? ⟨w.heap.size, 0, none⟩ = some (.bool true) ∧ w'.cell? ⟨w.heap.size, 1, none⟩ = some (.slice Ai ni ci) ∧ w'.cell? ⟨w.heap.size, 2, none⟩ = some (.bool yi) ∧ w'.cell? ⟨w.heap.size, 3, none⟩ = some (.slice Bi 0 di) ∧ w'.cell? ⟨w.heap.size + 1, 0, none⟩ = some (.bool true) ∧ w'.cell? ⟨w.heap.size + 1, 1, none⟩ = some (.slice Aj nj cj) ∧ w'.cell? ⟨w.heap.size + 1, 2, none⟩ = some (.bool yj) ∧ w'.cell? ⟨w.heap.size + 1, 3, none⟩ = some (.slice Bj mj dj)) ∧ (w'.frozen? ⟨w.heap.size, 0, none⟩ = false ∧ w'.frozen? ⟨w.heap.size, 1, none⟩ = false ∧ w'.frozen? ⟨w.heap.size, 2, none⟩ = false ∧ w'.frozen? ⟨w.heap.size, 3, none⟩ = false ∧ w'.frozen? ⟨w.heap.size + 1, 0, none⟩ = false ∧ w'.frozen? ⟨w.heap.size + 1, 1, none⟩ = false ∧ w'.frozen? ⟨w.heap.size + 1, 2, none⟩ = false ∧ w'.frozen? ⟨w.heap.size + 1, 3, none⟩ = false) ∧ Hid (Mem w [(w.heap.size, 58, [.bool true, .slice Ai ni ci, .bool yi, .slice Bi 0 di]), (w.heap.size + 1, 58, [.bool true, .slice Aj nj cj, .bool yj, .slice Bj mj dj])] w')) := fun w' h => ⟨⟨h.c 0 rfl 0 rfl, h.c 0 rfl 1 rfl, h.c 0 rfl 2 rfl, h.c 0 rfl 3 rfl, h.c 1 rfl 0 rfl, h.c 1 rfl 1 rfl, h.c 1 rfl 2 rfl, h.c 1 rfl 3 rfl⟩, ⟨h.f 0 rfl 0, h.f 0 rfl 1, h.f 0 rfl 2, h.f 0 rfl 3, h.f 1 rfl 0, h.f 1 rfl 1, h.f 1 rfl 2, h.f 1 rfl 3⟩, h⟩
          have C0 := (A0.out _ HT.out).1
          go_enter Tryd.func52, Tryd.ntmps52
          go_wp2_with fail
          refine (isInteger_yes _).mono ?_
          rintro e w1 ⟨rfl, hb1⟩
          have T1 := Lib.hid (Mem.over hb1 HT.out)
          have C1 := (A0.out _ T1.out).1
          clear C0
          go_wp2_with fail
          refine (isInteger_no _ hm).mono ?_
          rintro e w2 ⟨rfl, hb2⟩
          have T2 := Lib.hid (Mem.over hb2 T1.out)
          have C2 := (A0.out _ T2.out).1
          clear C1
          go_wp2
          go_region_held3 (fun w' => (w'.cell? ⟨w.heap.size, 0, none⟩ = some (.bool true) ∧ w'.cell? ⟨w.heap.size, 1, none⟩ = some (.slice Ai ni ci) ∧ w'.cell? ⟨w.heap.size, 2, none⟩ = some (.bool yi) ∧ w'.cell? ⟨w.heap.size, 3, none⟩ = some (.slice Bi 0 di) ∧ w'.cell? ⟨w.heap.size + 1, 0, none⟩ = some (.bool true) ∧ w'.cell? ⟨w.heap.size + 1, 1, none⟩ = some (.slice Aj nj cj) ∧ w'.cell? ⟨w.heap.size + 1, 2, none⟩ = some (.bool yj) ∧ w'.cell? ⟨w.heap.size + 1, 3, none⟩ = some (.slice Bj mj dj)) ∧ (w'.frozen? ⟨w.heap.size, 0, none⟩ = false ∧ w'.frozen? ⟨w.heap.size, 1, none⟩ = false ∧ w'.frozen? ⟨w.heap.size, 2, none⟩ = false ∧ w'.frozen? ⟨w.heap.size, 3, none⟩ = false ∧ w'.frozen? ⟨w.heap.size + 1, 0, none⟩ = false ∧ w'.frozen? ⟨w.heap.size + 1, 1, none⟩ = false ∧ w'.frozen? ⟨w.heap.size + 1, 2, none⟩ = false ∧ w'.frozen? ⟨w.heap.size + 1, 3, none⟩ = false) ∧ Hid (Mem w [(w.heap.size, 58, [.bool true, .slice Ai ni ci, .bool yi, .slice Bi 0 di]), (w.heap.size + 1, 58, [.bool true, .slice Aj nj cj, .bool yj, .slice Bj mj dj])] w')) (first | (with_reducible exact A0.out _ T2.out.drew) | (with_reducible exact A0.out _ (Mem.over hb (Mem.get (by assumption))))) (first | (go_at_call_of 86 Aj; refine (under_any (by omega) (HY.out.over (Mem.get (by assumption)).below)).mono ?_; rintro e wa ⟨xa, Aa, na, ca, rfl, hia, hb⟩; have hba := hb) | (go_at_call_of 20 Ai; refine (mul_any _ _ p (max p 3) x.num (y.den : Int) _ (by omega) (by omega) (I1.out.over (Mem.get (by assumption)).below) hia.out).mono ?_; rintro e wb ⟨xb, Ab, nb, cb, rfl, hib, hb⟩; have hbb := hb) | (go_at_call_of 86 Ai; refine (under_any (by omega) (HX.out.over (Mem.get (by assumption)).below)).mono ?_; rintro e wc ⟨xc, Ac, nc, cc, rfl, hic, hb⟩; have hbc := hb) | (go_at_call_of 20 Aj; refine (mul_any _ _ p (max p 3) y.num (x.den : Int) _ (by omega) (by omega) (J1.out.over (Mem.get (by assumption)).below) hic.out).mono ?_; rintro e wd ⟨xd, Ad, nd, cd, rfl, hid, hb⟩; have hbd := hb) | (go_at_call 26; refine (cmp_hid (p := p + max p 3) (q := p + max p 3) (by omega) (by omega) ((hib.out.over hbc.out).over hbd.out) hid.out).mono ?_; rintro e we ⟨rfl, hb⟩))
          have TS := Lib.hid (Mem.get (by assumption)).below
          go_wp2
          (try simp only [Exit.inBlock, Exit.then])
          rw [HE.out]
          go_ret
          exact ⟨rfl, TS.out⟩
        | false =>
          obtain ⟨rfl, hh⟩ := hz.1 hdx
          clear hh hz
          obtain ⟨hm, hh⟩ := gz.2 hdy
          clear hh
          clear gz
          have HE := Lib.hid (cmpR_lt (SX.1 rfl) (SY.2 rfl))
          clear SX SY hdx hdy
          have HT : Hid (Mem w [(w.heap.size, 58, [.bool true, .slice Ai ni ci, .bool yi, .slice Bi 0 di]), (w.heap.size + 1, 58, [.bool false, .slice Aj nj cj, .bool yj, .slice Bj mj dj])] ((w.alloc (.cells #[.bool true, .slice Ai ni ci, .bool yi, .slice Bi 0 di] 58)).alloc (.cells #[.bool false, .slice Aj nj cj, .bool yj, .slice Bj mj dj] 58))) := (((Mem.new w).push (by simp) 58 [.bool true, .slice Ai ni ci, .bool yi, .slice Bi 0 di] rfl).push (by simp) 58 [.bool false, .slice Aj nj cj, .bool yj, .slice Bj mj dj] rfl)
          have A0 : Hid (∀ w' : World, Mem w [(w.heap.size, 58, [.bool true, .slice Ai ni ci, .bool yi, .slice Bi 0 di]), (w.heap.size + 1, 58, [.bool false, .slice Aj nj cj, .bool yj, .slice Bj mj dj])] w' → (w'.cell? ⟨w.heap.size, 0, none⟩ = some (.bool true) ∧ w'.cell? ⟨w.heap.size, 1, none⟩ = some (.slice Ai ni ci) ∧ w'.cell? ⟨w.heap.size, 2, none⟩ = some (.bool yi) ∧ w'.cell? ⟨w.heap.size, 3, none⟩ = some (.slice Bi 0 di) ∧ w'.cell? ⟨w.heap.size + 1, 0, none⟩ = some (.bool false) ∧ w'.cell? ⟨w.heap.size + 1, 1, none⟩ = some (.slice Aj nj cj) ∧ w'.cell? ⟨w.heap.size + 1, 2, none⟩ = some (.bool yj) ∧ w'.cell? ⟨w.heap.size + 1, 3, none⟩ = some (.slice Bj mj dj)) ∧ (w'.frozen? ⟨w.heap.size, 0, none⟩ = false ∧ w'.frozen? ⟨w.heap.size, 1, none⟩ = false ∧ w'.frozen? ⟨w.heap.size, 2, none⟩ = false ∧ w'.frozen? ⟨w.heap.size, 3, none⟩ = false ∧ w'.frozen? ⟨w.heap.size + 1, 0, none⟩ = false ∧ w'.frozen? ⟨w.heap.size + 1, 1, none⟩ = false ∧ w'.frozen? ⟨w.heap.size + 1, 2, none⟩ = false ∧ w'.frozen? ⟨w.heap.size + 1, 3, none⟩ = false) ∧ Hid (Mem w [(w.heap.size, 58, [.bool true, .slice Ai ni ci, .bool yi, .slice Bi 0 di]), (w.heap.size + 1, 58, [.bool false, .slice Aj nj cj, .bool yj, .slice Bj mj dj])] w')) := fun w' h => ⟨⟨h.c 0 rfl 0 rfl, h.c 0 rfl 1 rfl, h.c 0 rfl 2 rfl, h.c 0 rfl 3 rfl, h.c 1 rfl 0 rfl, h.c 1 rfl 1 rfl, h.c 1 rfl 2 rfl, h.c 1 rfl 3 rfl⟩, ⟨h.f 0 rfl 0, h.f 0 rfl 1, h.f 0 rfl 2, h.f 0 rfl 3, h.f 1 rfl 0, h.f 1 rfl 1, h.f 1 rfl 2, h.f 1 rfl 3⟩, h⟩
          have C0 := (A0.out _ HT.out).1
          go_enter Tryd.func52, Tryd.ntmps52
          go_wp2_with fail
          refine (isInteger_yes _).mono ?_
          rintro e w1 ⟨rfl, hb1⟩
          have T1 := Lib.hid (Mem.over hb1 HT.out)
          have C1 := (A0.out _ T1.out).1
          clear C0
          go_wp2_with fail
          refine (isInteger_no _ hm).mono ?_
          rintro e w2 ⟨rfl, hb2⟩
          have T2 := Lib.hid (Mem.over hb2 T1.out)
          have C2 := (A0.out _ T2.out).1
          clear C1
          go_wp2_with fail
          refine (cmp_hid (p := p) (q := p) (by omega) (by omega) (I1.out.over T2.out.below) (J1.out.over T2.out.below)).mono ?_
          rintro e w9 ⟨rfl, hb9⟩
          rw [HE.out]
          have T9 := Lib.hid (Mem.over hb9 T2.out)
          go_wp2
          (try simp only [Exit.inBlock, Exit.then])
          go_ret
          exact ⟨rfl, T9.out.below⟩
      | false =>
        cases xj with
        | true =>
          obtain ⟨rfl, hh⟩ := hz.1 hdx
          clear hh hz
          obtain ⟨hm, hh⟩ := gz.2 hdy
          clear hh
          clear gz
          have HE := Lib.hid (cmpR_gt (SX.2 rfl) (SY.1 rfl))
          clear SX SY hdx hdy
          have HT : Hid (Mem w [(w.heap.size, 58, [.bool false, .slice Ai ni ci, .bool yi, .slice Bi 0 di]), (w.heap.size + 1, 58, [.bool true, .slice Aj nj cj, .bool yj, .slice Bj mj dj])] ((w.alloc (.cells #[.bool false, .slice Ai ni ci, .bool yi, .slice Bi 0 di] 58)).alloc (.cells #[.bool true, .slice Aj nj cj, .bool yj, .slice Bj mj dj] 58))) := (((Mem.new w).push (by simp) 58 [.bool false, .slice Ai ni ci, .bool yi, .slice Bi 0 di] rfl).push (by simp) 58 [.bool true, .slice Aj nj cj, .bool yj, .slice Bj mj dj] rfl)
          have A0 : Hid (∀ w' : World, Mem w [(w.heap.size, 58, [.bool false, .slice Ai ni ci, .bool yi, .slice Bi 0 di]), (w.heap.size + 1, 58, [.bool true, .slice Aj nj cj, .bool yj, .slice Bj mj dj])] w' → (w'.cell? ⟨w.heap.size, 0, none⟩ = some (.bool false) ∧ w'.cell? ⟨w.heap.size, 1, none⟩ = some (.slice Ai ni ci) ∧ w'.cell? ⟨w.heap.size, 2, none⟩ = some (.bool yi) ∧ w'.cell? ⟨w.heap.size, 3, none⟩ = some (.slice Bi 0 di) ∧ w'.cell? ⟨w.heap.size + 1, 0, none⟩ = some (.bool true) ∧ w'.cell? ⟨w.heap.size + 1, 1, none⟩ = some (.slice Aj nj cj) ∧ w'.cell? ⟨w.heap.size + 1, 2, none⟩ = some (.bool yj) ∧ w'.cell? ⟨w.heap.size + 1, 3, none⟩ = some (.slice Bj mj dj)) ∧ (w'.frozen? ⟨w.heap.size, 0, none⟩ = false ∧ w'.frozen? ⟨w.heap.size, 1, none⟩ = false ∧ w'.frozen? ⟨w.heap.size, 2, none⟩ = false ∧ w'.frozen? ⟨w.heap.size, 3, none⟩ = false ∧ w'.frozen? ⟨w.heap.size + 1, 0, none⟩ = false ∧ w'.frozen? ⟨w.heap.size + 1, 1, none⟩ = false ∧ w'.frozen? ⟨w.heap.size + 1, 2, none⟩ = false ∧ w'.frozen? ⟨w.heap.size + 1, 3, none⟩ = false) ∧ Hid (Mem w [(w.heap.size, 58, [.bool false, .slice Ai ni ci, .bool yi, .slice Bi 0 di]), (w.heap.size + 1, 58, [.bool true, .slice Aj nj cj, .bool yj, .slice Bj mj dj])] w')) := fun w' h => ⟨⟨h.c 0 rfl 0 rfl, h.c 0 rfl 1 rfl, h.c 0 rfl 2 rfl, h.c 0 rfl 3 rfl, h.c 1 rfl 0 rfl, h.c 1 rfl 1 rfl, h.c 1 rfl 2 rfl, h.c 1 rfl 3 rfl⟩, ⟨h.f 0 rfl 0, h.f 0 rfl 1, h.f 0 rfl 2, h.f 0 rfl 3, h.f 1 rfl 0, h.f 1 rfl 1, h.f 1 rfl 2, h.f 1 rfl 3⟩, h⟩
          have C0 := (A0.out _ HT.out).1
          go_enter Tryd.func52, Tryd.ntmps52
          go_wp2_with fail
          refine (isInteger_yes _).mono ?_
          rintro e w1 ⟨rfl, hb1⟩
          have T1 := Lib.hid (Mem.over hb1 HT.out)
          have C1 := (A0.out _ T1.out).1
          clear C0
          go_wp2_with fail
          refine (isInteger_no _ hm).mono ?_
          rintro e w2 ⟨rfl, hb2⟩
          have T2 := Lib.hid (Mem.over hb2 T1.out)
          have C2 := (A0.out _ T2.out).1
          clear C1
          go_wp2_with fail
          refine (cmp_hid (p := p) (q := p) (by omega) (by omega) (I1.out.over T2.out.below) (J1.out.over T2.out.below)).mono ?_
          rintro e w9 ⟨rfl, hb9⟩
          rw [HE.out]
          have T9 := Lib.hid (Mem.over hb9 T2.out)
          go_wp2
          (try simp only [Exit.inBlock, Exit.then])
          go_ret
          exact ⟨rfl, T9.out.below⟩
        | false =>
          obtain ⟨rfl, hh⟩ := hz.1 hdx
          clear hh hz
          obtain ⟨hm, hh⟩ := gz.2 hdy
          clear hh
          clear gz
          have HE := Lib.hid (cmpR_cross x y)
          clear SX SY hdx hdy
          have HT : Hid (Mem w [(w.heap.size, 58, [.bool false, .slice Ai ni ci, .bool yi, .slice Bi 0 di]), (w.heap.size + 1, 58, [.bool false, .slice Aj nj cj, .bool yj, .slice Bj mj dj])] ((w.alloc (.cells #[.bool false, .slice Ai ni ci, .bool yi, .slice Bi 0 di] 58)).alloc (.cells #[.bool false, .slice Aj nj cj, .bool yj, .slice Bj mj dj] 58))) := (((Mem.new w).push (by simp) 58 [.bool false, .slice Ai ni ci, .bool yi, .slice Bi 0 di] rfl).push (by simp) 58 [.bool false, .slice Aj nj cj, .bool yj, .slice Bj mj dj] rfl)
          have A0 : Hid (∀ w' : World, Mem w [(w.heap.size, 58, [.bool false, .slice Ai ni ci, .bool yi, .slice Bi 0 di]), (w.heap.size + 1, 58, [.bool false, .slice Aj nj cj, .bool yj, .slice Bj mj dj])] w' → (w'.cell? ⟨w.heap.size, 0, none⟩ = some (.bool false) ∧ w'.cell? ⟨w.heap.size, 1, none⟩ = some (.slice Ai ni ci) ∧ w'.cell? ⟨w.heap.size, 2, none⟩ = some (.bool yi) ∧ w'.cell? ⟨w.heap.size, 3, none⟩ = some (.slice Bi 0 di) ∧ w'.cell? ⟨w.heap.size + 1, 0, none⟩ = some (.bool false) ∧ w'.cell? ⟨w.heap.size + 1, 1, none⟩ = some (.slice Aj nj cj) ∧ w'.cell? ⟨w.heap.size + 1, 2, none⟩ = some (.bool yj) ∧ w'.cell? ⟨w.heap.size + 1, 3, none⟩ = some (.slice Bj mj dj)) ∧ (w'.frozen? ⟨w.heap.size, 0, none⟩ = false ∧ w'.frozen? ⟨w.heap.size, 1, none⟩ = false ∧ w'.frozen? ⟨w.heap.size, 2, none⟩ = false ∧ w'.frozen? ⟨w.heap.size, 3, none⟩ = false ∧ w'.frozen? ⟨w.heap.size + 1, 0, none⟩ = false ∧ w'.frozen? ⟨w.heap.size + 1, 1, none⟩ = false ∧ w'.frozen? ⟨w.heap.size + 1, 2, none⟩ = false ∧ w'.frozen? ⟨w.heap.size + 1, 3, none⟩ = false) ∧ Hid (Mem w [(w.heap.size, 58, [.bool false, .slice Ai ni ci, .bool yi, .slice Bi 0 di]), (w.heap.size + 1, 58, [.bool false, .slice Aj nj cj, .bool yj, .slice Bj mj dj])] w')) := fun w' h => ⟨⟨h.c 0 rfl 0 rfl, h.c 0 rfl 1 rfl, h.c 0 rfl 2 rfl, h.c 0 rfl 3 rfl, h.c 1 rfl 0 rfl, h.c 1 rfl 1 rfl, h.c 1 rfl 2 rfl, h.c 1 rfl 3 rfl⟩, ⟨h.f 0 rfl 0, h.f 0 rfl 1, h.f 0 rfl 2, h.f 0 rfl 3, h.f 1 rfl 0, h.f 1 rfl 1, h.f 1 rfl 2, h.f 1 rfl 3⟩, h⟩
          have C0 := (A0.out _ HT.out).1
          go_enter Tryd.func52, Tryd.ntmps52
          go_wp2_with fail
          refine (isInteger_yes _).mono ?_
          rintro e w1 ⟨rfl, hb1⟩
          have T1 := Lib.hid (Mem.over hb1 HT.out)
          have C1 := (A0.out _ T1.out).1
          clear C0
          go_wp2_with fail
          refine (isInteger_no _ hm).mono ?_
          rintro e w2 ⟨rfl, hb2⟩
          have T2 := Lib.hid (Mem.over hb2 T1.out)
          have C2 := (A0.out _ T2.out).1
          clear C1
          go_wp2
          go_region_held3 (fun w' => (w'.cell? ⟨w.heap.size, 0, none⟩ = some (.bool false) ∧ w'.cell? ⟨w.heap.size, 1, none⟩ = some (.slice Ai ni ci) ∧ w'.cell? ⟨w.heap.size, 2, none⟩ = some (.bool yi) ∧ w'.cell? ⟨w.heap.size, 3, none⟩ = some (.slice Bi 0 di) ∧ w'.cell? ⟨w.heap.size + 1, 0, none⟩ = some (.bool false) ∧ w'.cell? ⟨w.heap.size + 1, 1, none⟩ = some (.slice Aj nj cj) ∧ w'.cell? ⟨w.heap.size + 1, 2, none⟩ = some (.bool yj) ∧ w'.cell? ⟨w.heap.size + 1, 3, none⟩ = some (.slice Bj mj dj)) ∧ (w'.frozen? ⟨w.heap.size, 0, none⟩ = false ∧ w'.frozen? ⟨w.heap.size, 1, none⟩ = false ∧ w'.frozen? ⟨w.heap.size, 2, none⟩ = false ∧ w'.frozen? ⟨w.heap.size, 3, none⟩ = false ∧ w'.frozen? ⟨w.heap.size + 1, 0, none⟩ = false ∧ w'.frozen? ⟨w.heap.size + 1, 1, none⟩ = false ∧ w'.frozen? ⟨w.heap.size + 1, 2, none⟩ = false ∧ w'.frozen? ⟨w.heap.size + 1, 3, none⟩ = false) ∧ Hid (Mem w [(w.heap.size, 58, [.bool false, .slice Ai ni ci, .bool yi, .slice Bi 0 di]), (w.heap.size + 1, 58, [.bool false, .slice Aj nj cj, .bool yj, .slice Bj mj dj])] w')) (first | (with_reducible exact A0.out _ T2.out.drew) | (with_reducible exact A0.out _ (Mem.over hb (Mem.get (by assumption))))) (first | (go_at_call_of 86 Aj; refine (under_any (by omega) (HY.out.over (Mem.get (by assumption)).below)).mono ?_; rintro e wa ⟨xa, Aa, na, ca, rfl, hia, hb⟩; have hba := hb) | (go_at_call_of 20 Ai; refine (mul_any _ _ p (max p 3) x.num (y.den : Int) _ (by omega) (by omega) (I1.out.over (Mem.get (by assumption)).below) hia.out).mono ?_; rintro e wb ⟨xb, Ab, nb, cb, rfl, hib, hb⟩; have hbb := hb) | (go_at_call_of 86 Ai; refine (under_any (by omega) (HX.out.over (Mem.get (by assumption)).below)).mono ?_; rintro e wc ⟨xc, Ac, nc, cc, rfl, hic, hb⟩; have hbc := hb) | (go_at_call_of 20 Aj; refine (mul_any _ _ p (max p 3) y.num (x.den : Int) _ (by omega) (by omega) (J1.out.over (Mem.get (by assumption)).below) hic.out).mono ?_; rintro e wd ⟨xd, Ad, nd, cd, rfl, hid, hb⟩; have hbd := hb) | (go_at_call 26; refine (cmp_hid (p := p + max p 3) (q := p + max p 3) (by omega) (by omega) ((hib.out.over hbc.out).over hbd.out) hid.out).mono ?_; rintro e we ⟨rfl, hb⟩))
          have TS := Lib.hid (Mem.get (by assumption)).below
          go_wp2
          (try simp only [Exit.inBlock, Exit.then])
          rw [HE.out]
          go_ret
          exact ⟨rfl, TS.out⟩
  ·
    cases xi with
    | true =>
      cases xj with
      | true =>
        obtain ⟨hl, hh⟩ := hz.2 hdx
        clear hh hz
        clear gz
        have HE := Lib.hid (cmpR_cross x y)
        clear SX SY hdx
        have HT : Hid (Mem w [(w.heap.size, 58, [.bool true, .slice Ai ni ci, .bool yi, .slice Bi mi di]), (w.heap.size + 1, 58, [.bool true, .slice Aj nj cj, .bool yj, .slice Bj mj dj])] ((w.alloc (.cells #[.bool true, .slice Ai ni ci, .bool yi, .slice Bi mi di] 58)).alloc (.cells #[.bool true, .slice Aj nj cj, .bool yj, .slice Bj mj dj] 58))) := (((Mem.new w).push (by simp) 58 [.bool true, .slice Ai ni ci, .bool yi, .slice Bi mi di] rfl).push (by simp) 58 [.bool true, .slice Aj nj cj, .bool yj, .slice Bj mj dj] rfl)
        have A0 : Hid (∀ w' : World, Mem w [(w.heap.size, 58, [.bool true, .slice Ai ni ci, .bool yi, .slice Bi mi di]), (w.heap.size + 1, 58, [.bool true, .slice Aj nj cj, .bool yj, .slice Bj mj dj])] w' → (w'.cell? ⟨w.heap.size, 0, none⟩ = some (.bool true) ∧ w'.cell? ⟨w.heap.size, 1, none⟩ = some (.slice Ai ni ci) ∧ w'.cell? ⟨w.heap.size, 2, none⟩ = some (.bool yi) ∧ w'.cell? ⟨w.heap.size, 3, none⟩ = some (.slice Bi mi di) ∧ w'.cell? ⟨w.heap.size + 1, 0, none⟩ = some (.bool true) ∧ w'.cell? ⟨w.heap.size + 1, 1, none⟩ = some (.slice Aj nj cj) ∧ w'.cell? ⟨w.heap.size + 1, 2, none⟩ = some (.bool yj) ∧ w'.cell? ⟨w.heap.size + 1, 3, none⟩ = some (.slice Bj mj dj)) ∧ (w'.frozen? ⟨w.heap.size, 0, none⟩ = false ∧ w'.frozen? ⟨w.heap.size, 1, none⟩ = false ∧ w'.frozen? ⟨w.heap.size, 2, none⟩ = false ∧ w'.frozen? ⟨w.heap.size, 3, none⟩ = false ∧ w'.frozen? ⟨w.heap.size + 1, 0, none⟩ = false ∧ w'.frozen? ⟨w.heap.size + 1, 1, none⟩ = false ∧ w'.frozen? ⟨w.heap.size + 1, 2, none⟩ = false ∧ w'.frozen? ⟨w.heap.size + 1, 3, none⟩ = false) ∧ Hid (Mem w [(w.heap.size, 58, [.bool true, .slice Ai ni ci, .bool yi, .slice Bi mi di]), (w.heap.size + 1, 58, [.bool true, .slice Aj nj cj, .bool yj, .slice Bj mj dj])] w')) := fun w' h => ⟨⟨h.c 0 rfl 0 rfl, h.c 0 rfl 1 rfl, h.c 0 rfl 2 rfl, h.c 0 rfl 3 rfl, h.c 1 rfl 0 rfl, h.c 1 rfl 1 rfl, h.c 1 rfl 2 rfl, h.c 1 rfl 3 rfl⟩, ⟨h.f 0 rfl 0, h.f 0 rfl 1, h.f 0 rfl 2, h.f 0 rfl 3, h.f 1 rfl 0, h.f 1 rfl 1, h.f 1 rfl 2, h.f 1 rfl 3⟩, h⟩
        have C0 := (A0.out _ HT.out).1
        go_enter Tryd.func52, Tryd.ntmps52
        go_wp2_with fail
        refine (isInteger_no _ hl).mono ?_
        rintro e w1 ⟨rfl, hb1⟩
        have T1 := Lib.hid (Mem.over hb1 HT.out)
        have C1 := (A0.out _ T1.out).1
        clear C0
        go_wp2
        go_region_held3 (fun w' => (w'.cell? ⟨w.heap.size, 0, none⟩ = some (.bool true) ∧ w'.cell? ⟨w.heap.size, 1, none⟩ = some (.slice Ai ni ci) ∧ w'.cell? ⟨w.heap.size, 2, none⟩ = some (.bool yi) ∧ w'.cell? ⟨w.heap.size, 3, none⟩ = some (.slice Bi mi di) ∧ w'.cell? ⟨w.heap.size + 1, 0, none⟩ = some (.bool true) ∧ w'.cell? ⟨w.heap.size + 1, 1, none⟩ = some (.slice Aj nj cj) ∧ w'.cell? ⟨w.heap.size + 1, 2, none⟩ = some (.bool yj) ∧ w'.cell? ⟨w.heap.size + 1, 3, none⟩ = some (.slice Bj mj dj)) ∧ (w'.frozen? ⟨w.heap.size, 0, none⟩ = false ∧ w'.frozen? ⟨w.heap.size, 1, none⟩ = false ∧ w'.frozen? ⟨w.heap.size, 2, none⟩ = false ∧ w'.frozen? ⟨w.heap.size, 3, none⟩ = false ∧ w'.frozen? ⟨w.heap.size + 1, 0, none⟩ = false ∧ w'.frozen? ⟨w.heap.size + 1, 1, none⟩ = false ∧ w'.frozen? ⟨w.heap.size + 1, 2, none⟩ = false ∧ w'.frozen? ⟨w.heap.size + 1, 3, none⟩ = false) ∧ Hid (Mem w [(w.heap.size, 58, [.bool true, .slice Ai ni ci, .bool yi, .slice Bi mi di]), (w.heap.size + 1, 58, [.bool true, .slice Aj nj cj, .bool yj, .slice Bj mj dj])] w')) (first | (with_reducible exact A0.out _ T1.out.drew) | (with_reducible exact A0.out _ (Mem.over hb (Mem.get (by assumption))))) (first | (go_at_call_of 86 Aj; refine (under_any (by omega) (HY.out.over (Mem.get (by assumption)).below)).mono ?_; rintro e wa ⟨xa, Aa, na, ca, rfl, hia, hb⟩; have hba := hb) | (go_at_call_of 20 Ai; refine (mul_any _ _ p (max p 3) x.num (y.den : Int) _ (by omega) (by omega) (I1.out.over (Mem.get (by assumption)).below) hia.out).mono ?_; rintro e wb ⟨xb, Ab, nb, cb, rfl, hib, hb⟩; have hbb := hb) | (go_at_call_of 86 Ai; refine (under_any (by omega) (HX.out.over (Mem.get (by assumption)).below)).mono ?_; rintro e wc ⟨xc, Ac, nc, cc, rfl, hic, hb⟩; have hbc := hb) | (go_at_call_of 20 Aj; refine (mul_any _ _ p (max p 3) y.num (x.den : Int) _ (by omega) (by omega) (J1.out.over (Mem.get (by assumption)).below) hic.out).mono ?_; rintro e wd ⟨xd, Ad, nd, cd, rfl, hid, hb⟩; have hbd := hb) | (go_at_call 26; refine (cmp_hid (p := p + max p 3) (q := p + max p 3) (by omega) (by omega) ((hib.out.over hbc.out).over hbd.out) hid.out).mono ?_; rintro e we ⟨rfl, hb⟩))
        have TS := Lib.hid (Mem.get (by assumption)).below
        go_wp2
        (try simp only [Exit.inBlock, Exit.then])
        rw [HE.out]
        go_ret
        exact ⟨rfl, TS.out⟩
      | false =>
        obtain ⟨hl, hh⟩ := hz.2 hdx
        clear hh hz
        clear gz
        have HE := Lib.hid (cmpR_lt (SX.1 rfl) (SY.2 rfl))
        clear SX SY hdx
        have HT : Hid (Mem w [(w.heap.size, 58, [.bool true, .slice Ai ni ci, .bool yi, .slice Bi mi di]), (w.heap.size + 1, 58, [.bool false, .slice Aj nj cj, .bool yj, .slice Bj mj dj])] ((w.alloc (.cells #[.bool true, .slice Ai ni ci, .bool yi, .slice Bi mi di] 58)).alloc (.cells #[.bool false, .slice Aj nj cj, .bool yj, .slice Bj mj dj] 58))) := (((Mem.new w).push (by simp) 58 [.bool true, .slice Ai ni ci, .bool yi, .slice Bi mi di] rfl).push (by simp) 58 [.bool false, .slice Aj nj cj, .bool yj, .slice Bj mj dj] rfl)
        have A0 : Hid (∀ w' : World, Mem w [(w.heap.size, 58, [.bool true, .slice Ai ni ci, .bool yi, .slice Bi mi di]), (w.heap.size + 1, 58, [.bool false, .slice Aj nj cj, .bool yj, .slice Bj mj dj])] w' → (w'.cell? ⟨w.heap.size, 0, none⟩ = some (.bool true) ∧ w'.cell? ⟨w.heap.size, 1, none⟩ = some (.slice Ai ni ci) ∧ w'.cell? ⟨w.heap.size, 2, none⟩ = some (.bool yi) ∧ w'.cell? ⟨w.heap.size, 3, none⟩ = some (.slice Bi mi di) ∧ w'.cell? ⟨w.heap.size + 1, 0, none⟩ = some (.bool false) ∧ w'.cell? ⟨w.heap.size + 1, 1, none⟩ = some (.slice Aj nj cj) ∧ w'.cell? ⟨w.heap.size + 1, 2, none⟩ = some (.bool yj) ∧ w'.cell? ⟨w.heap.size + 1, 3, none⟩ = some (.slice Bj mj dj)) ∧ (w'.frozen? ⟨w.heap.size, 0, none⟩ = false ∧ w'.frozen? ⟨w.heap.size, 1, none⟩ = false ∧ w'.frozen? ⟨w.heap.size, 2, none⟩ = false ∧ w'.frozen? ⟨w.heap.size, 3, none⟩ = false ∧ w'.frozen? ⟨w.heap.size + 1, 0, none⟩ = false ∧ w'.frozen? ⟨w.heap.size + 1, 1, none⟩ = false ∧ w'.frozen? ⟨w.heap.size + 1, 2, none⟩ = false ∧ w'.frozen? ⟨w.heap.size + 1, 3, none⟩ = false) ∧ Hid (Mem w [(w.heap.size, 58, [.bool true, .slice Ai ni ci, .bool yi, .slice Bi mi di]), (w.heap.size + 1, 58, [.bool false, .slice Aj nj cj, .bool yj, .slice Bj mj dj])] w')) := fun w' h => ⟨⟨h.c 0 rfl 0 rfl, h.c 0 rfl 1 rfl, h.c 0 rfl 2 rfl, h.c 0 rfl 3 rfl, h.c 1 rfl 0 rfl, h.c 1 rfl 1 rfl, h.c 1 rfl 2 rfl, h.c 1 rfl 3 rfl⟩, ⟨h.f 0 rfl 0, h.f 0 rfl 1, h.f 0 rfl 2, h.f 0 rfl 3, h.f 1 rfl 0, h.f 1 rfl 1, h.f 1 rfl 2, h.f 1 rfl 3⟩, h⟩
        have C0 := (A0.out _ HT.out).1
        go_enter Tryd.func52, Tryd.ntmps52
        go_wp2_with fail
        refine (isInteger_no _ hl).mono ?_
        rintro e w1 ⟨rfl, hb1⟩
        have T1 := Lib.hid (Mem.over hb1 HT.out)
        have C1 := (A0.out _ T1.out).1
        clear C0
        go_wp2_with fail
        refine (cmp_hid (p := p) (q := p) (by omega) (by omega) (I1.out.over T1.out.below) (J1.out.over T1.out.below)).mono ?_
        rintro e w9 ⟨rfl, hb9⟩
        rw [HE.out]
        have T9 := Lib.hid (Mem.over hb9 T1.out)
        go_wp2
        (try simp only [Exit.inBlock, Exit.then])
        go_ret
        exact ⟨rfl, T9.out.below⟩
    | false =>
      cases xj with
      | true =>
        obtain ⟨hl, hh⟩ := hz.2 hdx
        clear hh hz
        clear gz
        have HE := Lib.hid (cmpR_gt (SX.2 rfl) (SY.1 rfl))
        clear SX SY hdx
        have HT : Hid (Mem w [(w.heap.size, 58, [.bool false, .slice Ai ni ci, .bool yi, .slice Bi mi di]), (w.heap.size + 1, 58, [.bool true, .slice Aj nj cj, .bool yj, .slice Bj mj dj])] ((w.alloc (.cells #[.bool false, .slice Ai ni ci, .bool yi, .slice Bi mi di] 58)).alloc (.cells #[.bool true, .slice Aj nj cj, .bool yj, .slice Bj mj dj] 58))) := (((Mem.new w).push (by simp) 58 [.bool false, .slice Ai ni ci, .bool yi, .slice Bi mi di] rfl).push (by simp) 58 [.bool true, .slice Aj nj cj, .bool yj, .slice Bj mj dj] rfl)
        have A0 : Hid (∀ w' : World, Mem w [(w.heap.size, 58, [.bool false, .slice Ai ni ci, .bool yi, .slice Bi mi di]), (w.heap.size + 1, 58, [.bool true, .slice Aj nj cj, .bool yj, .slice Bj mj dj])] w' → (w'.cell? ⟨w.heap.size, 0, none⟩ = some (.bool false) ∧ w'.cell? ⟨w.heap.size, 1, none⟩ = some (.slice Ai ni ci) ∧ w'.cell? ⟨w.heap.size, 2, none⟩ = some (.bool yi) ∧ w'.cell? ⟨w.heap.size, 3, none⟩ = some (.slice Bi mi di) ∧ w'.cell? ⟨w.heap.size + 1, 0, none⟩ = some (.bool true) ∧ w'.cell? ⟨w.heap.size + 1, 1, none⟩ = some (.slice Aj nj cj) ∧ w'.cell? ⟨w.heap.size + 1, 2, none⟩ = some (.bool yj) ∧ w'.cell? ⟨w.heap.size + 1, 3, none⟩ = some (.slice Bj mj dj)) ∧ (w'.frozen? ⟨w.heap.size, 0, none⟩ = false ∧ w'.frozen? ⟨w.heap.size, 1, none⟩ = false ∧ w'.frozen? ⟨w.heap.size, 2, none⟩ = false ∧ w'.frozen? ⟨w.heap.size, 3, none⟩ = false ∧ w'.frozen? ⟨w.heap.size + 1, 0, none⟩ = false ∧ w'.frozen? ⟨w.heap.size + 1, 1, none⟩ = false ∧ w'.frozen? ⟨w.heap.size + 1, 2, none⟩ = false ∧ w'.frozen? ⟨w.heap.size + 1, 3, none⟩ = false) ∧ Hid (Mem w [(w.heap.size, 58, [.bool false, .slice Ai ni ci, .bool yi, .slice Bi mi di]), (w.heap.size + 1, 58, [.bool true, .slice Aj nj cj, .bool yj, .slice Bj mj dj])] w')) := fun w' h => ⟨⟨h.c 0 rfl 0 rfl, h.c 0 rfl 1 rfl, h.c 0 rfl 2 rfl, h.c 0 rfl 3 rfl, h.c 1 rfl 0 rfl, h.c 1 rfl 1 rfl, h.c 1 rfl 2 rfl, h.c 1 rfl 3 rfl⟩, ⟨h.f 0 rfl 0, h.f 0 rfl 1, h.f 0 rfl 2, h.f 0 rfl 3, h.f 1 rfl 0, h.f 1 rfl 1, h.f 1 rfl 2, h.f 1 rfl 3⟩, h⟩
        have C0 := (A0.out _ HT.out).1
        go_enter Tryd.func52, Tryd.ntmps52
        go_wp2_with fail
        refine (isInteger_no _ hl).mono ?_
        rintro e w1 ⟨rfl, hb1⟩
        have T1 := Lib.hid (Mem.over hb1 HT.out)
        have C1 := (A0.out _ T1.out).1
        clear C0
        go_wp2_with fail
        refine (cmp_hid (p := p) (q := p) (by omega) (by omega) (I1.out.over T1.out.below) (J1.out.over T1.out.below)).mono ?_
        rintro e w9 ⟨rfl, hb9⟩
        rw [HE.out]
        have T9 := Lib.hid (Mem.over hb9 T1.out)
        go_wp2
        (try simp only [Exit.inBlock, Exit.then])
        go_ret
        exact ⟨rfl, T9.out.below⟩
      | false =>
        obtain ⟨hl, hh⟩ := hz.2 hdx
        clear hh hz
        clear gz
        have HE := Lib.hid (cmpR_cross x y)
        clear SX SY hdx
        have HT : Hid (Mem w [(w.heap.size, 58, [.bool false, .slice Ai ni ci, .bool yi, .slice Bi mi di]), (w.heap.size + 1, 58, [.bool false, .slice Aj nj cj, .bool yj, .slice Bj mj dj])] ((w.alloc (.cells #[.bool false, .slice Ai ni ci, .bool yi, .slice Bi mi di] 58)).alloc (.cells #[.bool false, .slice Aj nj cj, .bool yj, .slice Bj mj dj] 58))) := (((Mem.new w).push (by simp) 58 [.bool false, .slice Ai ni ci, .bool yi, .slice Bi mi di] rfl).push (by simp) 58 [.bool false, .slice Aj nj cj, .bool yj, .slice Bj mj dj] rfl)
        have A0 : Hid (∀ w' : World, Mem w [(w.heap.size, 58, [.bool false, .slice Ai ni ci, .bool yi, .slice Bi mi di]), (w.heap.size + 1, 58, [.bool false, .slice Aj nj cj, .bool yj, .slice Bj mj dj])] w' → (w'.cell? ⟨w.heap.size, 0, none⟩ = some (.bool false) ∧ w'.cell? ⟨w.heap.size, 1, none⟩ = some (.slice Ai ni ci) ∧ w'.cell? ⟨w.heap.size, 2, none⟩ = some (.bool yi) ∧ w'.cell? ⟨w.heap.size, 3, none⟩ = some (.slice Bi mi di) ∧ w'.cell? ⟨w.heap.size + 1, 0, none⟩ = some (.bool false) ∧ w'.cell? ⟨w.heap.size + 1, 1, none⟩ = some (.slice Aj nj cj) ∧ w'.cell? ⟨w.heap.size + 1, 2, none⟩ = some (.bool yj) ∧ w'.cell? ⟨w.heap.size + 1, 3, none⟩ = some (.slice Bj mj dj)) ∧ (w'.frozen? ⟨w.heap.size, 0, none⟩ = false ∧ w'.frozen? ⟨w.heap.size, 1, none⟩ = false ∧ w'.frozen? ⟨w.heap.size, 2, none⟩ = false ∧ w'.frozen? ⟨w.heap.size, 3, none⟩ = false ∧ w'.frozen? ⟨w.heap.size + 1, 0, none⟩ = false ∧ w'.frozen? ⟨w.heap.size + 1, 1, none⟩ = false ∧ w'.frozen? ⟨w.heap.size + 1, 2, none⟩ = false ∧ w'.frozen? ⟨w.heap.size + 1, 3, none⟩ = false) ∧ Hid (Mem w [(w.heap.size, 58, [.bool false, .slice Ai ni ci, .bool yi, .slice Bi mi di]), (w.heap.size + 1, 58, [.bool false, .slice Aj nj cj, .bool yj, .slice Bj mj dj])] w')) := fun w' h => ⟨⟨h.c 0 rfl 0 rfl, h.c 0 rfl 1 rfl, h.c 0 rfl 2 rfl, h.c 0 rfl 3 rfl, h.c 1 rfl 0 rfl, h.c 1 rfl 1 rfl, h.c 1 rfl 2 rfl, h.c 1 rfl 3 rfl⟩, ⟨h.f 0 rfl 0, h.f 0 rfl 1, h.f 0 rfl 2, h.f 0 rfl 3, h.f 1 rfl 0, h.f 1 rfl 1, h.f 1 rfl 2, h.f 1 rfl 3⟩, h⟩
        have C0 := (A0.out _ HT.out).1
        go_enter Tryd.func52, Tryd.ntmps52
        go_wp2_with fail
        refine (isInteger_no _ hl).mono ?_
        rintro e w1 ⟨rfl, hb1⟩
        have T1 := Lib.hid (Mem.over hb1 HT.out)
        have C1 := (A0.out _ T1.out).1
        clear C0
        go_wp2
        go_region_held3 (fun w' => (w'.cell? ⟨w.heap.size, 0, none⟩ = some (.bool false) ∧ w'.cell? ⟨w.heap.size, 1, none⟩ = some (.slice Ai ni ci) ∧ w'.cell? ⟨w.heap.size, 2, none⟩ = some (.bool yi) ∧ w'.cell? ⟨w.heap.size, 3, none⟩ = some (.slice Bi mi di) ∧ w'.cell? ⟨w.heap.size + 1, 0, none⟩ = some (.bool false) ∧ w'.cell? ⟨w.heap.size + 1, 1, none⟩ = some (.slice Aj nj cj) ∧ w'.cell? ⟨w.heap.size + 1, 2, none⟩ = some (.bool yj) ∧ w'.cell? ⟨w.heap.size + 1, 3, none⟩ = some (.slice Bj mj dj)) ∧ (w'.frozen? ⟨w.heap.size, 0, none⟩ = false ∧ w'.frozen? ⟨w.heap.size, 1, none⟩ = false ∧ w'.frozen? ⟨w.heap.size, 2, none⟩ = false ∧ w'.frozen? ⟨w.heap.size, 3, none⟩ = false ∧ w'.frozen? ⟨w.heap.size + 1, 0, none⟩ = false ∧ w'.frozen? ⟨w.heap.size + 1, 1, none⟩ = false ∧ w'.frozen? ⟨w.heap.size + 1, 2, none⟩ = false ∧ w'.frozen? ⟨w.heap.size + 1, 3, none⟩ = false) ∧ Hid (Mem w [(w.heap.size, 58, [.bool false, .slice Ai ni ci, .bool yi, .slice Bi mi di]), (w.heap.size + 1, 58, [.bool false, .slice Aj nj cj, .bool yj, .slice Bj mj dj])] w')) (first | (with_reducible exact A0.out _ T1.out.drew) | (with_reducible exact A0.out _ (Mem.over hb (Mem.get (by assumption))))) (first | (go_at_call_of 86 Aj; refine (under_any (by omega) (HY.out.over (Mem.get (by assumption)).below)).mono ?_; rintro e wa ⟨xa, Aa, na, ca, rfl, hia, hb⟩; have hba := hb) | (go_at_call_of 20 Ai; refine (mul_any _ _ p (max p 3) x.num (y.den : Int) _ (by omega) (by omega) (I1.out.over (Mem.get (by assumption)).below) hia.out).mono ?_; rintro e wb ⟨xb, Ab, nb, cb, rfl, hib, hb⟩; have hbb := hb) | (go_at_call_of 86 Ai; refine (under_any (by omega) (HX.out.over (Mem.get (by assumption)).below)).mono ?_; rintro e wc ⟨xc, Ac, nc, cc, rfl, hic, hb⟩; have hbc := hb) | (go_at_call_of 20 Aj; refine (mul_any _ _ p (max p 3) y.num (x.den : Int) _ (by omega) (by omega) (J1.out.over (Mem.get (by assumption)).below) hic.out).mono ?_; rintro e wd ⟨xd, Ad, nd, cd, rfl, hid, hb⟩; have hbd := hb) | (go_at_call 26; refine (cmp_hid (p := p + max p 3) (q := p + max p 3) (by omega) (by omega) ((hib.out.over hbc.out).over hbd.out) hid.out).mono ?_; rintro e we ⟨rfl, hb⟩))
        have TS := Lib.hid (Mem.get (by assumption)).below
        go_wp2
        (try simp only [Exit.inBlock, Exit.then])
        rw [HE.out]
        go_ret
        exact ⟨rfl, TS.out⟩
end Go.Proofs.YtpikbhcjgcbdfaaDoor.wh
