/- Package frac: Make, Div (over Mul), Floor. -/
import Derived.Test.YtpikbhcjgcbdfaaDoorFr3
namespace Go.Proofs.YtpikbhcjgcbdfaaDoor.wh
open Go.RowKit

theorem quo_gcd {a b : Int} (hb : b ≠ 0) : quoZ b ((Nat.gcd a.natAbs b.natAbs : Nat) : Int) ≠ 0 ∧ Nat.gcd (quoZ a ((Nat.gcd a.natAbs b.natAbs : Nat) : Int)).natAbs (quoZ b ((Nat.gcd a.natAbs b.natAbs : Nat) : Int)).natAbs = 1 ∧ Rat.divInt (quoZ a ((Nat.gcd a.natAbs b.natAbs : Nat) : Int)) (quoZ b ((Nat.gcd a.natAbs b.natAbs : Nat) : Int)) = Rat.divInt a b := by
  have hg0 : 0 < Nat.gcd a.natAbs b.natAbs := Nat.gcd_pos_of_pos_right _ (by omega)
  have h1 := Nat.gcd_dvd_left a.natAbs b.natAbs
  have h2 := Nat.gcd_dvd_right a.natAbs b.natAbs
  have h3 := Nat.coprime_div_gcd_div_gcd hg0
  generalize Nat.gcd a.natAbs b.natAbs = g at *
  obtain ⟨x, hx⟩ := Int.ofNat_dvd_left.2 h1
  obtain ⟨y, hy⟩ := Int.ofNat_dvd_left.2 h2
  have ex : quoZ a (g : Int) = x := by unfold quoZ; rw [if_neg (by omega), hx, Int.mul_ediv_cancel_left _ (by omega)]
  have ey : quoZ b (g : Int) = y := by unfold quoZ; rw [if_neg (by omega), hy, Int.mul_ediv_cancel_left _ (by omega)]
  have hy0 : y ≠ 0 := fun e => by subst e; simp at hy; exact hb hy
  rw [ex, ey]
  refine ⟨hy0, ?_, ?_⟩
  · have ax : a.natAbs = g * x.natAbs := by rw [hx, Int.natAbs_mul]; simp
    have ay : b.natAbs = g * y.natAbs := by rw [hy, Int.natAbs_mul]; simp
    rw [ax, ay, Nat.mul_div_cancel_left _ hg0, Nat.mul_div_cancel_left _ hg0] at h3
    exact h3
  · rw [hx, hy, Rat.divInt_eq_divInt_iff hy0 (Int.mul_ne_zero (by omega) hy0)]
    grind

set_option maxRecDepth 100000 in
set_option maxHeartbeats 4000000 in
theorem make_any {v u : Value} {p : Nat} {a b : Int} {w : World} (hp : p ≤ 800) (hx : IsInt w w.heap.size p v a) (hy : IsInt w w.heap.size p u b) :
    Calls Tryd.prog 58 #[v, u] w fun e w' => GivesF w p (Rat.divInt a b) e w' := by
  have HX := Lib.hid hx
  have HY := Lib.hid hy
  obtain ⟨nx, A, n, c, xs, rfl, hx2⟩ := hx
  obtain ⟨ny, B, m, d, ys, rfl, hy2⟩ := hy
  clear hx2 hy2
  have HT : Hid (Mem w [(w.heap.size, 24, [.bool nx, .slice A n c]), (w.heap.size + 1, 24, [.bool ny, .slice B m d]), (w.heap.size + 1 + 1, 58, [.bool false, .slice none 0 0, .bool false, .slice none 0 0])] (((w.alloc (.cells #[.bool nx, .slice A n c] 24)).alloc (.cells #[.bool ny, .slice B m d] 24)).alloc (.cells #[.bool false, .slice none 0 0, .bool false, .slice none 0 0] 58))) := ((((Mem.new w).push (by simp) 24 [.bool nx, .slice A n c] rfl).push (by simp) 24 [.bool ny, .slice B m d] rfl).push (by simp) 58 [.bool false, .slice none 0 0, .bool false, .slice none 0 0] rfl)
  have A0 : Hid (∀ w' : World, Mem w [(w.heap.size, 24, [.bool nx, .slice A n c]), (w.heap.size + 1, 24, [.bool ny, .slice B m d]), (w.heap.size + 1 + 1, 58, [.bool false, .slice none 0 0, .bool false, .slice none 0 0])] w' → (w'.cell? ⟨w.heap.size, 0, none⟩ = some (.bool nx) ∧ w'.cell? ⟨w.heap.size, 1, none⟩ = some (.slice A n c) ∧ w'.cell? ⟨w.heap.size + 1, 0, none⟩ = some (.bool ny) ∧ w'.cell? ⟨w.heap.size + 1, 1, none⟩ = some (.slice B m d) ∧ w'.cell? ⟨w.heap.size + 1 + 1, 0, none⟩ = some (.bool false) ∧ w'.cell? ⟨w.heap.size + 1 + 1, 1, none⟩ = some (.slice none 0 0) ∧ w'.cell? ⟨w.heap.size + 1 + 1, 2, none⟩ = some (.bool false) ∧ w'.cell? ⟨w.heap.size + 1 + 1, 3, none⟩ = some (.slice none 0 0)) ∧ (w'.frozen? ⟨w.heap.size, 0, none⟩ = false ∧ w'.frozen? ⟨w.heap.size, 1, none⟩ = false ∧ w'.frozen? ⟨w.heap.size + 1, 0, none⟩ = false ∧ w'.frozen? ⟨w.heap.size + 1, 1, none⟩ = false ∧ w'.frozen? ⟨w.heap.size + 1 + 1, 0, none⟩ = false ∧ w'.frozen? ⟨w.heap.size + 1 + 1, 1, none⟩ = false ∧ w'.frozen? ⟨w.heap.size + 1 + 1, 2, none⟩ = false ∧ w'.frozen? ⟨w.heap.size + 1 + 1, 3, none⟩ = false) ∧ Hid (Mem w [(w.heap.size, 24, [.bool nx, .slice A n c]), (w.heap.size + 1, 24, [.bool ny, .slice B m d]), (w.heap.size + 1 + 1, 58, [.bool false, .slice none 0 0, .bool false, .slice none 0 0])] w')) := fun w' h => ⟨⟨h.c 0 rfl 0 rfl, h.c 0 rfl 1 rfl, h.c 1 rfl 0 rfl, h.c 1 rfl 1 rfl, h.c 2 rfl 0 rfl, h.c 2 rfl 1 rfl, h.c 2 rfl 2 rfl, h.c 2 rfl 3 rfl⟩, ⟨h.f 0 rfl 0, h.f 0 rfl 1, h.f 1 rfl 0, h.f 1 rfl 1, h.f 2 rfl 0, h.f 2 rfl 1, h.f 2 rfl 2, h.f 2 rfl 3⟩, h⟩
  have C0 := (A0.out _ HT.out).1
  have F0 := (A0.out _ HT.out).2.1
  by_cases hb : b = 0
  · have HR : Hid (Rat.divInt a b = 0) := by show _ = _; rw [hb, Rat.divInt_zero]
    have HBD : Hid (decide (b = 0) = true) := decide_eq_true hb
    clear hb
    go_enter Tryd.func58, Tryd.ntmps58
    go_wp2_with fail
    refine (isNought_any (by omega) (HY.out.over HT.out.below) HBD.out).mono ?_
    rintro e w1 ⟨rfl, hb1⟩
    have T1 := Lib.hid (Mem.over hb1 HT.out)
    have C1 := (A0.out _ T1.out).1
    have F1 := (A0.out _ T1.out).2.1
    clear C0 F0
    have T9 := Lib.hid ((((T1.out.set_ 2 rfl 0 (v := .bool false) rfl).set_ 2 rfl 1 (v := .slice none 0 0) rfl).set_ 2 rfl 2 (v := .bool false) rfl).set_ 2 rfl 3 (v := .slice none 0 0) rfl)
    have KT9 := Lib.hid ((((T1.out.kept_set 2 rfl 0 (.bool false)).trans ((T1.out.set_ 2 rfl 0 (v := .bool false) rfl).kept_set 2 rfl 1 (.slice none 0 0))).trans (((T1.out.set_ 2 rfl 0 (v := .bool false) rfl).set_ 2 rfl 1 (v := .slice none 0 0) rfl).kept_set 2 rfl 2 (.bool false))).trans ((((T1.out.set_ 2 rfl 0 (v := .bool false) rfl).set_ 2 rfl 1 (v := .slice none 0 0) rfl).set_ 2 rfl 2 (v := .bool false) rfl).kept_set 2 rfl 3 (.slice none 0 0)))
    have e0 := T9.out.c 2 rfl 0 rfl
    have e1 := T9.out.c 2 rfl 1 rfl
    have e2 := T9.out.c 2 rfl 2 rfl
    have e3 := T9.out.c 2 rfl 3 rfl
    go_wp2
    (try simp only [Exit.inBlock, Exit.then])
    refine bodyPost_ret (v := .agg #[.bool false, .slice none 0 0, .bool false, .slice none 0 0]) (by simp [results, Tryd.results58, go_sem, e0, e1, e2, e3]) rfl ⟨false, none, 0, 0, false, none, 0, 0, rfl, ?_, T9.out.below⟩
    rw [HR.out]
    exact ⟨false, none, 0, 0, false, none, 0, 0, rfl, isInt_zero _ _ _, isInt_zero _ _ _⟩
  · have HQ := Lib.hid (quo_gcd (a := a) hb)
    have HBD : Hid (decide (b = 0) = false) := decide_eq_false hb
    clear hb
    obtain ⟨G, hG⟩ : ∃ G, G = ((Nat.gcd a.natAbs b.natAbs : Nat) : Int) := ⟨_, rfl⟩
    rw [← hG] at HQ
    have HGG := Lib.hid hG
    clear hG
    go_enter Tryd.func58, Tryd.ntmps58
    go_wp2_with fail
    refine (isNought_any (by omega) (HY.out.over HT.out.below) HBD.out).mono ?_
    rintro e w1 ⟨rfl, hb1⟩
    have T1 := Lib.hid (Mem.over hb1 HT.out)
    have C1 := (A0.out _ T1.out).1
    clear C0 F0
    go_wp2_with fail
    refine (gcd_any _ _ p p p a b _ (Nat.le_refl _) (Nat.le_refl _) (by omega) (HX.out.over T1.out.below) (HY.out.over T1.out.below)).mono ?_
    rintro e w2 ⟨x2, A2, n2, c2, rfl, hi2, hb2⟩
    rw [← HGG.out] at hi2
    have T3 : Hid (Mem w [(w.heap.size, 24, [.bool nx, .slice A n c]), (w.heap.size + 1, 24, [.bool ny, .slice B m d]), (w.heap.size + 1 + 1, 58, [.bool false, .slice none 0 0, .bool false, .slice none 0 0]), (w2.heap.size, 24, [.bool x2, .slice A2 n2 c2])] (w2.alloc (.cells #[.bool x2, .slice A2 n2 c2] 24))) := ((Mem.over hb2 T1.out).push rfl 24 [.bool x2, .slice A2 n2 c2] rfl)
    have K3 : Hid (Kept w2 (w2.alloc (.cells #[.bool x2, .slice A2 n2 c2] 24))) := (Kept.refl _).alloc _
    have I3 := Lib.hid (hi2.out.kept K3.out)
    have U3 : Hid (MemU w [(w.heap.size, 24, [.bool nx, .slice A n c]), (w.heap.size + 1, 24, [.bool ny, .slice B m d]), (w2.heap.size, 24, [.bool x2, .slice A2 n2 c2])] [(w.heap.size + 1 + 1, 58, 4)] (w2.alloc (.cells #[.bool x2, .slice A2 n2 c2] 24))) := MemU.of (T3.out.perm (.cons _ (.cons _ (.swap _ _ _)))) rfl
    clear C1
    go_wp2
    generalize hW : (w2.alloc (.cells #[.bool x2, .slice A2 n2 c2] 24)) = W3 at *
    clear hW
    have AU : Hid (∀ w' : World, MemU w [(w.heap.size, 24, [.bool nx, .slice A n c]), (w.heap.size + 1, 24, [.bool ny, .slice B m d]), (w2.heap.size, 24, [.bool x2, .slice A2 n2 c2])] [(w.heap.size + 1 + 1, 58, 4)] w' → (w'.cell? ⟨w.heap.size, 0, none⟩ = some (.bool nx) ∧ w'.cell? ⟨w.heap.size, 1, none⟩ = some (.slice A n c) ∧ w'.cell? ⟨w.heap.size + 1, 0, none⟩ = some (.bool ny) ∧ w'.cell? ⟨w.heap.size + 1, 1, none⟩ = some (.slice B m d) ∧ w'.cell? ⟨w2.heap.size, 0, none⟩ = some (.bool x2) ∧ w'.cell? ⟨w2.heap.size, 1, none⟩ = some (.slice A2 n2 c2) ∧ w'.cell? ⟨w.heap.size + 1 + 1, 0, none⟩ = some (holdsAt w' (w.heap.size + 1 + 1) 0) ∧ w'.cell? ⟨w.heap.size + 1 + 1, 1, none⟩ = some (holdsAt w' (w.heap.size + 1 + 1) 1) ∧ w'.cell? ⟨w.heap.size + 1 + 1, 2, none⟩ = some (holdsAt w' (w.heap.size + 1 + 1) 2) ∧ w'.cell? ⟨w.heap.size + 1 + 1, 3, none⟩ = some (holdsAt w' (w.heap.size + 1 + 1) 3)) ∧ (w'.frozen? ⟨w.heap.size, 0, none⟩ = false ∧ w'.frozen? ⟨w.heap.size, 1, none⟩ = false ∧ w'.frozen? ⟨w.heap.size + 1, 0, none⟩ = false ∧ w'.frozen? ⟨w.heap.size + 1, 1, none⟩ = false ∧ w'.frozen? ⟨w2.heap.size, 0, none⟩ = false ∧ w'.frozen? ⟨w2.heap.size, 1, none⟩ = false ∧ w'.frozen? ⟨w.heap.size + 1 + 1, 0, none⟩ = false ∧ w'.frozen? ⟨w.heap.size + 1 + 1, 1, none⟩ = false ∧ w'.frozen? ⟨w.heap.size + 1 + 1, 2, none⟩ = false ∧ w'.frozen? ⟨w.heap.size + 1 + 1, 3, none⟩ = false) ∧ Hid (MemU w [(w.heap.size, 24, [.bool nx, .slice A n c]), (w.heap.size + 1, 24, [.bool ny, .slice B m d]), (w2.heap.size, 24, [.bool x2, .slice A2 n2 c2])] [(w.heap.size + 1 + 1, 58, 4)] (w'))) := fun w' h => ⟨⟨h.mem.c 0 rfl 0 rfl, h.mem.c 0 rfl 1 rfl, h.mem.c 1 rfl 0 rfl, h.mem.c 1 rfl 1 rfl, h.mem.c 2 rfl 0 rfl, h.mem.c 2 rfl 1 rfl, h.c 0 rfl 0 (by decide), h.c 0 rfl 1 (by decide), h.c 0 rfl 2 (by decide), h.c 0 rfl 3 (by decide)⟩, ⟨h.mem.f 0 rfl 0, h.mem.f 0 rfl 1, h.mem.f 1 rfl 0, h.mem.f 1 rfl 1, h.mem.f 2 rfl 0, h.mem.f 2 rfl 1, h.f 0 rfl 0, h.f 0 rfl 1, h.f 0 rfl 2, h.f 0 rfl 3⟩, h⟩
    have PU : Hid (∀ (w' : World) (px : Bool) (pa : Option Addr) (pn pc : Nat) (py : Bool) (pb : Option Addr) (pm pd : Nat), MemU w [(w.heap.size, 24, [.bool nx, .slice A n c]), (w.heap.size + 1, 24, [.bool ny, .slice B m d]), (w2.heap.size, 24, [.bool x2, .slice A2 n2 c2])] [(w.heap.size + 1 + 1, 58, 4)] w' → (((((w'.setCell ⟨w.heap.size + 1 + 1, 0, none⟩ (.bool px)).setCell ⟨w.heap.size + 1 + 1, 1, none⟩ (.slice pa pn pc)).setCell ⟨w.heap.size + 1 + 1, 2, none⟩ (.bool py)).setCell ⟨w.heap.size + 1 + 1, 3, none⟩ (.slice pb pm pd)).cell? ⟨w.heap.size, 0, none⟩ = some (.bool nx) ∧ ((((w'.setCell ⟨w.heap.size + 1 + 1, 0, none⟩ (.bool px)).setCell ⟨w.heap.size + 1 + 1, 1, none⟩ (.slice pa pn pc)).setCell ⟨w.heap.size + 1 + 1, 2, none⟩ (.bool py)).setCell ⟨w.heap.size + 1 + 1, 3, none⟩ (.slice pb pm pd)).cell? ⟨w.heap.size, 1, none⟩ = some (.slice A n c) ∧ ((((w'.setCell ⟨w.heap.size + 1 + 1, 0, none⟩ (.bool px)).setCell ⟨w.heap.size + 1 + 1, 1, none⟩ (.slice pa pn pc)).setCell ⟨w.heap.size + 1 + 1, 2, none⟩ (.bool py)).setCell ⟨w.heap.size + 1 + 1, 3, none⟩ (.slice pb pm pd)).cell? ⟨w.heap.size + 1, 0, none⟩ = some (.bool ny) ∧ ((((w'.setCell ⟨w.heap.size + 1 + 1, 0, none⟩ (.bool px)).setCell ⟨w.heap.size + 1 + 1, 1, none⟩ (.slice pa pn pc)).setCell ⟨w.heap.size + 1 + 1, 2, none⟩ (.bool py)).setCell ⟨w.heap.size + 1 + 1, 3, none⟩ (.slice pb pm pd)).cell? ⟨w.heap.size + 1, 1, none⟩ = some (.slice B m d) ∧ ((((w'.setCell ⟨w.heap.size + 1 + 1, 0, none⟩ (.bool px)).setCell ⟨w.heap.size + 1 + 1, 1, none⟩ (.slice pa pn pc)).setCell ⟨w.heap.size + 1 + 1, 2, none⟩ (.bool py)).setCell ⟨w.heap.size + 1 + 1, 3, none⟩ (.slice pb pm pd)).cell? ⟨w2.heap.size, 0, none⟩ = some (.bool x2) ∧ ((((w'.setCell ⟨w.heap.size + 1 + 1, 0, none⟩ (.bool px)).setCell ⟨w.heap.size + 1 + 1, 1, none⟩ (.slice pa pn pc)).setCell ⟨w.heap.size + 1 + 1, 2, none⟩ (.bool py)).setCell ⟨w.heap.size + 1 + 1, 3, none⟩ (.slice pb pm pd)).cell? ⟨w2.heap.size, 1, none⟩ = some (.slice A2 n2 c2) ∧ ((((w'.setCell ⟨w.heap.size + 1 + 1, 0, none⟩ (.bool px)).setCell ⟨w.heap.size + 1 + 1, 1, none⟩ (.slice pa pn pc)).setCell ⟨w.heap.size + 1 + 1, 2, none⟩ (.bool py)).setCell ⟨w.heap.size + 1 + 1, 3, none⟩ (.slice pb pm pd)).cell? ⟨w.heap.size + 1 + 1, 0, none⟩ = some (holdsAt ((((w'.setCell ⟨w.heap.size + 1 + 1, 0, none⟩ (.bool px)).setCell ⟨w.heap.size + 1 + 1, 1, none⟩ (.slice pa pn pc)).setCell ⟨w.heap.size + 1 + 1, 2, none⟩ (.bool py)).setCell ⟨w.heap.size + 1 + 1, 3, none⟩ (.slice pb pm pd)) (w.heap.size + 1 + 1) 0) ∧ ((((w'.setCell ⟨w.heap.size + 1 + 1, 0, none⟩ (.bool px)).setCell ⟨w.heap.size + 1 + 1, 1, none⟩ (.slice pa pn pc)).setCell ⟨w.heap.size + 1 + 1, 2, none⟩ (.bool py)).setCell ⟨w.heap.size + 1 + 1, 3, none⟩ (.slice pb pm pd)).cell? ⟨w.heap.size + 1 + 1, 1, none⟩ = some (holdsAt ((((w'.setCell ⟨w.heap.size + 1 + 1, 0, none⟩ (.bool px)).setCell ⟨w.heap.size + 1 + 1, 1, none⟩ (.slice pa pn pc)).setCell ⟨w.heap.size + 1 + 1, 2, none⟩ (.bool py)).setCell ⟨w.heap.size + 1 + 1, 3, none⟩ (.slice pb pm pd)) (w.heap.size + 1 + 1) 1) ∧ ((((w'.setCell ⟨w.heap.size + 1 + 1, 0, none⟩ (.bool px)).setCell ⟨w.heap.size + 1 + 1, 1, none⟩ (.slice pa pn pc)).setCell ⟨w.heap.size + 1 + 1, 2, none⟩ (.bool py)).setCell ⟨w.heap.size + 1 + 1, 3, none⟩ (.slice pb pm pd)).cell? ⟨w.heap.size + 1 + 1, 2, none⟩ = some (holdsAt ((((w'.setCell ⟨w.heap.size + 1 + 1, 0, none⟩ (.bool px)).setCell ⟨w.heap.size + 1 + 1, 1, none⟩ (.slice pa pn pc)).setCell ⟨w.heap.size + 1 + 1, 2, none⟩ (.bool py)).setCell ⟨w.heap.size + 1 + 1, 3, none⟩ (.slice pb pm pd)) (w.heap.size + 1 + 1) 2) ∧ ((((w'.setCell ⟨w.heap.size + 1 + 1, 0, none⟩ (.bool px)).setCell ⟨w.heap.size + 1 + 1, 1, none⟩ (.slice pa pn pc)).setCell ⟨w.heap.size + 1 + 1, 2, none⟩ (.bool py)).setCell ⟨w.heap.size + 1 + 1, 3, none⟩ (.slice pb pm pd)).cell? ⟨w.heap.size + 1 + 1, 3, none⟩ = some (holdsAt ((((w'.setCell ⟨w.heap.size + 1 + 1, 0, none⟩ (.bool px)).setCell ⟨w.heap.size + 1 + 1, 1, none⟩ (.slice pa pn pc)).setCell ⟨w.heap.size + 1 + 1, 2, none⟩ (.bool py)).setCell ⟨w.heap.size + 1 + 1, 3, none⟩ (.slice pb pm pd)) (w.heap.size + 1 + 1) 3)) ∧ (((((w'.setCell ⟨w.heap.size + 1 + 1, 0, none⟩ (.bool px)).setCell ⟨w.heap.size + 1 + 1, 1, none⟩ (.slice pa pn pc)).setCell ⟨w.heap.size + 1 + 1, 2, none⟩ (.bool py)).setCell ⟨w.heap.size + 1 + 1, 3, none⟩ (.slice pb pm pd)).frozen? ⟨w.heap.size, 0, none⟩ = false ∧ ((((w'.setCell ⟨w.heap.size + 1 + 1, 0, none⟩ (.bool px)).setCell ⟨w.heap.size + 1 + 1, 1, none⟩ (.slice pa pn pc)).setCell ⟨w.heap.size + 1 + 1, 2, none⟩ (.bool py)).setCell ⟨w.heap.size + 1 + 1, 3, none⟩ (.slice pb pm pd)).frozen? ⟨w.heap.size, 1, none⟩ = false ∧ ((((w'.setCell ⟨w.heap.size + 1 + 1, 0, none⟩ (.bool px)).setCell ⟨w.heap.size + 1 + 1, 1, none⟩ (.slice pa pn pc)).setCell ⟨w.heap.size + 1 + 1, 2, none⟩ (.bool py)).setCell ⟨w.heap.size + 1 + 1, 3, none⟩ (.slice pb pm pd)).frozen? ⟨w.heap.size + 1, 0, none⟩ = false ∧ ((((w'.setCell ⟨w.heap.size + 1 + 1, 0, none⟩ (.bool px)).setCell ⟨w.heap.size + 1 + 1, 1, none⟩ (.slice pa pn pc)).setCell ⟨w.heap.size + 1 + 1, 2, none⟩ (.bool py)).setCell ⟨w.heap.size + 1 + 1, 3, none⟩ (.slice pb pm pd)).frozen? ⟨w.heap.size + 1, 1, none⟩ = false ∧ ((((w'.setCell ⟨w.heap.size + 1 + 1, 0, none⟩ (.bool px)).setCell ⟨w.heap.size + 1 + 1, 1, none⟩ (.slice pa pn pc)).setCell ⟨w.heap.size + 1 + 1, 2, none⟩ (.bool py)).setCell ⟨w.heap.size + 1 + 1, 3, none⟩ (.slice pb pm pd)).frozen? ⟨w2.heap.size, 0, none⟩ = false ∧ ((((w'.setCell ⟨w.heap.size + 1 + 1, 0, none⟩ (.bool px)).setCell ⟨w.heap.size + 1 + 1, 1, none⟩ (.slice pa pn pc)).setCell ⟨w.heap.size + 1 + 1, 2, none⟩ (.bool py)).setCell ⟨w.heap.size + 1 + 1, 3, none⟩ (.slice pb pm pd)).frozen? ⟨w2.heap.size, 1, none⟩ = false ∧ ((((w'.setCell ⟨w.heap.size + 1 + 1, 0, none⟩ (.bool px)).setCell ⟨w.heap.size + 1 + 1, 1, none⟩ (.slice pa pn pc)).setCell ⟨w.heap.size + 1 + 1, 2, none⟩ (.bool py)).setCell ⟨w.heap.size + 1 + 1, 3, none⟩ (.slice pb pm pd)).frozen? ⟨w.heap.size + 1 + 1, 0, none⟩ = false ∧ ((((w'.setCell ⟨w.heap.size + 1 + 1, 0, none⟩ (.bool px)).setCell ⟨w.heap.size + 1 + 1, 1, none⟩ (.slice pa pn pc)).setCell ⟨w.heap.size + 1 + 1, 2, none⟩ (.bool py)).setCell ⟨w.heap.size + 1 + 1, 3, none⟩ (.slice pb pm pd)).frozen? ⟨w.heap.size + 1 + 1, 1, none⟩ = false ∧ ((((w'.setCell ⟨w.heap.size + 1 + 1, 0, none⟩ (.bool px)).setCell ⟨w.heap.size + 1 + 1, 1, none⟩ (.slice pa pn pc)).setCell ⟨w.heap.size + 1 + 1, 2, none⟩ (.bool py)).setCell ⟨w.heap.size + 1 + 1, 3, none⟩ (.slice pb pm pd)).frozen? ⟨w.heap.size + 1 + 1, 2, none⟩ = false ∧ ((((w'.setCell ⟨w.heap.size + 1 + 1, 0, none⟩ (.bool px)).setCell ⟨w.heap.size + 1 + 1, 1, none⟩ (.slice pa pn pc)).setCell ⟨w.heap.size + 1 + 1, 2, none⟩ (.bool py)).setCell ⟨w.heap.size + 1 + 1, 3, none⟩ (.slice pb pm pd)).frozen? ⟨w.heap.size + 1 + 1, 3, none⟩ = false) ∧ Hid (MemU w [(w.heap.size, 24, [.bool nx, .slice A n c]), (w.heap.size + 1, 24, [.bool ny, .slice B m d]), (w2.heap.size, 24, [.bool x2, .slice A2 n2 c2])] [(w.heap.size + 1 + 1, 58, 4)] (((((w'.setCell ⟨w.heap.size + 1 + 1, 0, none⟩ (.bool px)).setCell ⟨w.heap.size + 1 + 1, 1, none⟩ (.slice pa pn pc)).setCell ⟨w.heap.size + 1 + 1, 2, none⟩ (.bool py)).setCell ⟨w.heap.size + 1 + 1, 3, none⟩ (.slice pb pm pd))))) := fun w' px pa pn pc py pb pm pd h => AU.out _ ((((h.set_ 0 rfl 0 (v := .bool px) rfl).set_ 0 rfl 1 (v := .slice pa pn pc) rfl).set_ 0 rfl 2 (v := .bool py) rfl).set_ 0 rfl 3 (v := .slice pb pm pd) rfl)
    go_region_held3 (fun w' => (w'.cell? ⟨w.heap.size, 0, none⟩ = some (.bool nx) ∧ w'.cell? ⟨w.heap.size, 1, none⟩ = some (.slice A n c) ∧ w'.cell? ⟨w.heap.size + 1, 0, none⟩ = some (.bool ny) ∧ w'.cell? ⟨w.heap.size + 1, 1, none⟩ = some (.slice B m d) ∧ w'.cell? ⟨w2.heap.size, 0, none⟩ = some (.bool x2) ∧ w'.cell? ⟨w2.heap.size, 1, none⟩ = some (.slice A2 n2 c2) ∧ w'.cell? ⟨w.heap.size + 1 + 1, 0, none⟩ = some (holdsAt w' (w.heap.size + 1 + 1) 0) ∧ w'.cell? ⟨w.heap.size + 1 + 1, 1, none⟩ = some (holdsAt w' (w.heap.size + 1 + 1) 1) ∧ w'.cell? ⟨w.heap.size + 1 + 1, 2, none⟩ = some (holdsAt w' (w.heap.size + 1 + 1) 2) ∧ w'.cell? ⟨w.heap.size + 1 + 1, 3, none⟩ = some (holdsAt w' (w.heap.size + 1 + 1) 3)) ∧ (w'.frozen? ⟨w.heap.size, 0, none⟩ = false ∧ w'.frozen? ⟨w.heap.size, 1, none⟩ = false ∧ w'.frozen? ⟨w.heap.size + 1, 0, none⟩ = false ∧ w'.frozen? ⟨w.heap.size + 1, 1, none⟩ = false ∧ w'.frozen? ⟨w2.heap.size, 0, none⟩ = false ∧ w'.frozen? ⟨w2.heap.size, 1, none⟩ = false ∧ w'.frozen? ⟨w.heap.size + 1 + 1, 0, none⟩ = false ∧ w'.frozen? ⟨w.heap.size + 1 + 1, 1, none⟩ = false ∧ w'.frozen? ⟨w.heap.size + 1 + 1, 2, none⟩ = false ∧ w'.frozen? ⟨w.heap.size + 1 + 1, 3, none⟩ = false) ∧ Hid (MemU w [(w.heap.size, 24, [.bool nx, .slice A n c]), (w.heap.size + 1, 24, [.bool ny, .slice B m d]), (w2.heap.size, 24, [.bool x2, .slice A2 n2 c2])] [(w.heap.size + 1 + 1, 58, 4)] (w'))) (first | (with_reducible exact AU.out _ U3.out.drew) | (with_reducible exact AU.out _ (MemU.over hb (MemU.get (by assumption)))) | (with_reducible exact PU.out _ _ _ _ _ _ _ _ _ (MemU.get (by assumption)))) (first | (go_at_call_of 87 A; refine (without_any (p := p) (q := p + 3) (a := a) (b := G) (by omega) (by omega) (HX.out.over (MemU.get (by assumption)).mem.below) (I3.out.kept ((Kept.refl _).drew))).mono ?_; rintro e w5 ⟨x5, A5, n5, c5, rfl, hi5, hb⟩; have hb5 := hb) | (go_at_call_of 87 B; refine (without_any (p := p) (q := p + 3) (a := b) (b := G) (by omega) (by omega) (HY.out.over (MemU.get (by assumption)).mem.below) (I3.out.kept (((Kept.refl _).drew).over hb5))).mono ?_; rintro e w6 ⟨x6, A6, n6, c6, rfl, hi6, hb⟩; have hb6 := hb) | (go_at_call 88; refine (lay_any (p := p) (q := p) (k := p) (Nat.le_refl _) (Nat.le_refl _) (by omega) (hi5.out.over hb6.out) hi6.out HQ.out.1 HQ.out.2.1).mono ?_; rintro e w7 ⟨x7, A7, n7, c7, y7, B7, m7, d7, rfl, hi7, hb⟩; have hb7 := hb))
    have T7 := Lib.hid (Mem.over hb7 (Mem.over hb6 (Mem.over hb5 T3.out.drew)))
    have T9 := Lib.hid ((((T7.out.set_ 2 rfl 0 (v := .bool x7) rfl).set_ 2 rfl 1 (v := .slice A7 n7 c7) rfl).set_ 2 rfl 2 (v := .bool y7) rfl).set_ 2 rfl 3 (v := .slice B7 m7 d7) rfl)
    have K9 := Lib.hid ((((T7.out.kept_set 2 rfl 0 (.bool x7)).trans ((T7.out.set_ 2 rfl 0 (v := .bool x7) rfl).kept_set 2 rfl 1 (.slice A7 n7 c7))).trans (((T7.out.set_ 2 rfl 0 (v := .bool x7) rfl).set_ 2 rfl 1 (v := .slice A7 n7 c7) rfl).kept_set 2 rfl 2 (.bool y7))).trans ((((T7.out.set_ 2 rfl 0 (v := .bool x7) rfl).set_ 2 rfl 1 (v := .slice A7 n7 c7) rfl).set_ 2 rfl 2 (v := .bool y7) rfl).kept_set 2 rfl 3 (.slice B7 m7 d7)))
    have e0 := T9.out.c 2 rfl 0 rfl
    have e1 := T9.out.c 2 rfl 1 rfl
    have e2 := T9.out.c 2 rfl 2 rfl
    have e3 := T9.out.c 2 rfl 3 rfl
    go_wp2
    refine bodyPost_ret (v := .agg #[.bool x7, .slice A7 n7 c7, .bool y7, .slice B7 m7 d7]) (by simp [results, Tryd.results58, go_sem, e0, e1, e2, e3]) rfl ⟨x7, A7, n7, c7, y7, B7, m7, d7, rfl, ?_, T9.out.below⟩
    have hh := hi7.out.kept K9.out
    rw [HQ.out.2.2] at hh
    exact hh
end Go.Proofs.YtpikbhcjgcbdfaaDoor.wh
