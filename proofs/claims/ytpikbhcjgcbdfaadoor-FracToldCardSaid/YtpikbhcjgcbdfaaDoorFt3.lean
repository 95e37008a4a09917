/- The document's answer of layer 2: Floor. -/
import Derived.Test.YtpikbhcjgcbdfaaDoorFt2
namespace Go.Proofs.YtpikbhcjgcbdfaaDoor.wh
open Go.RowKit

def GivesNB (W : World) (m : Nat) (z : Int) (r : Bool) (e : Ending) (w' : World) : Prop := ∃ neg A n c, e = .returned (.tuple #[.agg #[.bool neg, .slice A n c], .bool r]) ∧ Hid (IsNum w' w'.heap.size m (.agg #[.bool neg, .slice A n c]) z) ∧ Hid (Below W.heap.size W w')
theorem floor_parts (q : Rat) : quoZ q.num (q.den : Int) = q.floor ∧ (q.den = 1 → remZ q.num (q.den : Int) = 0) ∧ (q.den ≠ 1 → remZ q.num (q.den : Int) ≠ 0) := by
  by_cases h : q.den = 1
  · refine ⟨?_, fun _ => ?_, fun g => absurd h g⟩
    · rw [floor_int h, h]; unfold quoZ; rw [if_neg (by omega)]; simp
    · rw [h]; unfold remZ; rw [if_neg (by omega)]; simp
  · have := floor_quo h
    exact ⟨this.1, fun g => absurd g h, fun _ => this.2⟩

set_option maxRecDepth 100000 in
set_option maxHeartbeats 4000000 in
theorem floor2_any {v : Value} {p : Nat} {q : Rat} {r : Bool} {w : World} (hp : p ≤ 900) (hx : IsFn w p v q) (hr : decide (q.den = 1) = r) :
    Calls Tryd.prog 41 #[v] w fun e w' => GivesNB w (p + 2) q.floor r e w' := by
  have HFP := Lib.hid (floor_parts q)
  have HR := Lib.hid hr
  clear hr
  obtain ⟨xi, Ai, ni, ci, yi, Bi, mi, di, rfl, h1, h2⟩ := hx
  have I1 := Lib.hid h1
  have I2 := Lib.hid h2
  clear h1 h2
  have HT : Hid (Mem w [(w.heap.size, 61, [.bool xi, .slice Ai ni ci, .bool yi, .slice Bi mi di]), (w.heap.size + 1, 29, [.bool false, .slice none 0 0])] ((w.alloc (.cells #[.bool xi, .slice Ai ni ci, .bool yi, .slice Bi mi di] 61)).alloc (.cells #[.bool false, .slice none 0 0] 29))) := (((Mem.new w).push (by simp) 61 [.bool xi, .slice Ai ni ci, .bool yi, .slice Bi mi di] rfl).push (by simp) 29 [.bool false, .slice none 0 0] rfl)
  have A0 : Hid (∀ w' : World, Mem w [(w.heap.size, 61, [.bool xi, .slice Ai ni ci, .bool yi, .slice Bi mi di]), (w.heap.size + 1, 29, [.bool false, .slice none 0 0])] w' → (w'.cell? ⟨w.heap.size, 0, none⟩ = some (.bool xi) ∧ w'.cell? ⟨w.heap.size, 1, none⟩ = some (.slice Ai ni ci) ∧ w'.cell? ⟨w.heap.size, 2, none⟩ = some (.bool yi) ∧ w'.cell? ⟨w.heap.size, 3, none⟩ = some (.slice Bi mi di) ∧ w'.cell? ⟨w.heap.size + 1, 0, none⟩ = some (.bool false) ∧ w'.cell? ⟨w.heap.size + 1, 1, none⟩ = some (.slice none 0 0)) ∧ (w'.frozen? ⟨w.heap.size, 0, none⟩ = false ∧ w'.frozen? ⟨w.heap.size, 1, none⟩ = false ∧ w'.frozen? ⟨w.heap.size, 2, none⟩ = false ∧ w'.frozen? ⟨w.heap.size, 3, none⟩ = false ∧ w'.frozen? ⟨w.heap.size + 1, 0, none⟩ = false ∧ w'.frozen? ⟨w.heap.size + 1, 1, none⟩ = false) ∧ Hid (Mem w [(w.heap.size, 61, [.bool xi, .slice Ai ni ci, .bool yi, .slice Bi mi di]), (w.heap.size + 1, 29, [.bool false, .slice none 0 0])] w')) := fun w' h => ⟨⟨h.c 0 rfl 0 rfl, h.c 0 rfl 1 rfl, h.c 0 rfl 2 rfl, h.c 0 rfl 3 rfl, h.c 1 rfl 0 rfl, h.c 1 rfl 1 rfl⟩, ⟨h.f 0 rfl 0, h.f 0 rfl 1, h.f 0 rfl 2, h.f 0 rfl 3, h.f 1 rfl 0, h.f 1 rfl 1⟩, h⟩
  have C0 := (A0.out _ HT.out).1
  go_enter Tryd.func41, Tryd.ntmps41
  go_wp2_with fail
  refine (refDiv_any (p := p) (q := p) (by omega) (by omega) (I1.out.over HT.out.below) (I2.out.over HT.out.below)).mono ?_
  rintro e w1 ⟨x1, A1, n1, c1, x2, A2, n2, c2, rfl, hi1, hi2, hb1⟩
  rw [HFP.out.1] at hi1
  have he : ((n2 : Int) == 0) = r := by
    have hn := num_none hi2.out
    rw [← HR.out]
    by_cases hd : q.den = 1
    · rw [decide_eq_true hd, beq_iff_eq]
      have h0 := HFP.out.2.1 hd
      by_cases hn2 : n2 = 0
      · omega
      · exact absurd h0 (hn.2 hn2)
    · rw [decide_eq_false hd, beq_eq_false_iff_ne]
      have h0 := HFP.out.2.2 hd
      intro h3
      exact h0 (hn.1 (by omega))
  clear hi2
  have T1 : Hid (Mem w [(w.heap.size, 61, [.bool xi, .slice Ai ni ci, .bool yi, .slice Bi mi di]), (w.heap.size + 1, 29, [.bool false, .slice none 0 0]), (w1.heap.size, 29, [.bool x1, .slice A1 n1 c1]), (w1.heap.size + 1, 29, [.bool x2, .slice A2 n2 c2])] ((w1.alloc (.cells #[.bool x1, .slice A1 n1 c1] 29)).alloc (.cells #[.bool x2, .slice A2 n2 c2] 29))) := ((Mem.over hb1 HT.out).push rfl 29 [.bool x1, .slice A1 n1 c1] rfl).push (by simp) 29 [.bool x2, .slice A2 n2 c2] rfl
  have K1 : Hid (Kept w1 ((w1.alloc (.cells #[.bool x1, .slice A1 n1 c1] 29)).alloc (.cells #[.bool x2, .slice A2 n2 c2] 29))) := ((Kept.refl _).alloc _).alloc _
  have J1 := Lib.hid (hi1.out.kept K1.out)
  clear C0
  go_wp2
  generalize hW : ((w1.alloc (.cells #[.bool x1, .slice A1 n1 c1] 29)).alloc (.cells #[.bool x2, .slice A2 n2 c2] 29)) = W1 at *
  clear hW
  have U1 : Hid (MemU w [(w.heap.size, 61, [.bool xi, .slice Ai ni ci, .bool yi, .slice Bi mi di]), (w1.heap.size, 29, [.bool x1, .slice A1 n1 c1]), (w1.heap.size + 1, 29, [.bool x2, .slice A2 n2 c2])] [(w.heap.size + 1, 29, 2)] W1) := MemU.of (T1.out.perm (.cons _ ((List.Perm.swap _ _ _).trans (.cons _ (List.Perm.swap _ _ _))))) rfl
  have AW : Hid (∀ w' : World, Mem w [(w.heap.size, 61, [.bool xi, .slice Ai ni ci, .bool yi, .slice Bi mi di]), (w.heap.size + 1, 29, [.bool false, .slice none 0 0]), (w1.heap.size, 29, [.bool x1, .slice A1 n1 c1]), (w1.heap.size + 1, 29, [.bool x2, .slice A2 n2 c2])] w' → (w'.cell? ⟨w.heap.size, 0, none⟩ = some (.bool xi) ∧ w'.cell? ⟨w.heap.size, 1, none⟩ = some (.slice Ai ni ci) ∧ w'.cell? ⟨w.heap.size, 2, none⟩ = some (.bool yi) ∧ w'.cell? ⟨w.heap.size, 3, none⟩ = some (.slice Bi mi di) ∧ w'.cell? ⟨w.heap.size + 1, 0, none⟩ = some (.bool false) ∧ w'.cell? ⟨w.heap.size + 1, 1, none⟩ = some (.slice none 0 0) ∧ w'.cell? ⟨w1.heap.size, 0, none⟩ = some (.bool x1) ∧ w'.cell? ⟨w1.heap.size, 1, none⟩ = some (.slice A1 n1 c1) ∧ w'.cell? ⟨w1.heap.size + 1, 0, none⟩ = some (.bool x2) ∧ w'.cell? ⟨w1.heap.size + 1, 1, none⟩ = some (.slice A2 n2 c2)) ∧ (w'.frozen? ⟨w.heap.size, 0, none⟩ = false ∧ w'.frozen? ⟨w.heap.size, 1, none⟩ = false ∧ w'.frozen? ⟨w.heap.size, 2, none⟩ = false ∧ w'.frozen? ⟨w.heap.size, 3, none⟩ = false ∧ w'.frozen? ⟨w.heap.size + 1, 0, none⟩ = false ∧ w'.frozen? ⟨w.heap.size + 1, 1, none⟩ = false ∧ w'.frozen? ⟨w1.heap.size, 0, none⟩ = false ∧ w'.frozen? ⟨w1.heap.size, 1, none⟩ = false ∧ w'.frozen? ⟨w1.heap.size + 1, 0, none⟩ = false ∧ w'.frozen? ⟨w1.heap.size + 1, 1, none⟩ = false) ∧ Hid (Mem w [(w.heap.size, 61, [.bool xi, .slice Ai ni ci, .bool yi, .slice Bi mi di]), (w.heap.size + 1, 29, [.bool false, .slice none 0 0]), (w1.heap.size, 29, [.bool x1, .slice A1 n1 c1]), (w1.heap.size + 1, 29, [.bool x2, .slice A2 n2 c2])] w')) := fun w' h => ⟨⟨h.c 0 rfl 0 rfl, h.c 0 rfl 1 rfl, h.c 0 rfl 2 rfl, h.c 0 rfl 3 rfl, h.c 1 rfl 0 rfl, h.c 1 rfl 1 rfl, h.c 2 rfl 0 rfl, h.c 2 rfl 1 rfl, h.c 3 rfl 0 rfl, h.c 3 rfl 1 rfl⟩, ⟨h.f 0 rfl 0, h.f 0 rfl 1, h.f 0 rfl 2, h.f 0 rfl 3, h.f 1 rfl 0, h.f 1 rfl 1, h.f 2 rfl 0, h.f 2 rfl 1, h.f 3 rfl 0, h.f 3 rfl 1⟩, h⟩
  have CW := (AW.out _ T1.out).1
  have FW := (AW.out _ T1.out).2.1
  have TS : Hid (Mem w [(w.heap.size, 61, [.bool xi, .slice Ai ni ci, .bool yi, .slice Bi mi di]), (w.heap.size + 1, 29, [.bool x1, .slice A1 n1 c1]), (w1.heap.size, 29, [.bool x1, .slice A1 n1 c1]), (w1.heap.size + 1, 29, [.bool x2, .slice A2 n2 c2])] ((W1.setCell ⟨w.heap.size + 1, 0, none⟩ (.bool x1)).setCell ⟨w.heap.size + 1, 1, none⟩ (.slice A1 n1 c1))) := ((T1.out.set_ 1 rfl 0 (v := .bool x1) rfl).set_ 1 rfl 1 (v := .slice A1 n1 c1) rfl)
  have KS9 : Hid (Kept W1 ((W1.setCell ⟨w.heap.size + 1, 0, none⟩ (.bool x1)).setCell ⟨w.heap.size + 1, 1, none⟩ (.slice A1 n1 c1))) := ((T1.out.kept_set 1 rfl 0 (.bool x1)).trans ((T1.out.set_ 1 rfl 0 (v := .bool x1) rfl).kept_set 1 rfl 1 (.slice A1 n1 c1)))
  have CS : ((W1.setCell ⟨w.heap.size + 1, 0, none⟩ (.bool x1)).setCell ⟨w.heap.size + 1, 1, none⟩ (.slice A1 n1 c1)).cell? ⟨w.heap.size, 0, none⟩ = some (.bool xi) ∧ ((W1.setCell ⟨w.heap.size + 1, 0, none⟩ (.bool x1)).setCell ⟨w.heap.size + 1, 1, none⟩ (.slice A1 n1 c1)).cell? ⟨w.heap.size, 1, none⟩ = some (.slice Ai ni ci) ∧ ((W1.setCell ⟨w.heap.size + 1, 0, none⟩ (.bool x1)).setCell ⟨w.heap.size + 1, 1, none⟩ (.slice A1 n1 c1)).cell? ⟨w.heap.size, 2, none⟩ = some (.bool yi) ∧ ((W1.setCell ⟨w.heap.size + 1, 0, none⟩ (.bool x1)).setCell ⟨w.heap.size + 1, 1, none⟩ (.slice A1 n1 c1)).cell? ⟨w.heap.size, 3, none⟩ = some (.slice Bi mi di) ∧ ((W1.setCell ⟨w.heap.size + 1, 0, none⟩ (.bool x1)).setCell ⟨w.heap.size + 1, 1, none⟩ (.slice A1 n1 c1)).cell? ⟨w.heap.size + 1, 0, none⟩ = some (.bool x1) ∧ ((W1.setCell ⟨w.heap.size + 1, 0, none⟩ (.bool x1)).setCell ⟨w.heap.size + 1, 1, none⟩ (.slice A1 n1 c1)).cell? ⟨w.heap.size + 1, 1, none⟩ = some (.slice A1 n1 c1) ∧ ((W1.setCell ⟨w.heap.size + 1, 0, none⟩ (.bool x1)).setCell ⟨w.heap.size + 1, 1, none⟩ (.slice A1 n1 c1)).cell? ⟨w1.heap.size, 0, none⟩ = some (.bool x1) ∧ ((W1.setCell ⟨w.heap.size + 1, 0, none⟩ (.bool x1)).setCell ⟨w.heap.size + 1, 1, none⟩ (.slice A1 n1 c1)).cell? ⟨w1.heap.size, 1, none⟩ = some (.slice A1 n1 c1) ∧ ((W1.setCell ⟨w.heap.size + 1, 0, none⟩ (.bool x1)).setCell ⟨w.heap.size + 1, 1, none⟩ (.slice A1 n1 c1)).cell? ⟨w1.heap.size + 1, 0, none⟩ = some (.bool x2) ∧ ((W1.setCell ⟨w.heap.size + 1, 0, none⟩ (.bool x1)).setCell ⟨w.heap.size + 1, 1, none⟩ (.slice A1 n1 c1)).cell? ⟨w1.heap.size + 1, 1, none⟩ = some (.slice A2 n2 c2) := ⟨TS.out.c 0 rfl 0 rfl, TS.out.c 0 rfl 1 rfl, TS.out.c 0 rfl 2 rfl, TS.out.c 0 rfl 3 rfl, TS.out.c 1 rfl 0 rfl, TS.out.c 1 rfl 1 rfl, TS.out.c 2 rfl 0 rfl, TS.out.c 2 rfl 1 rfl, TS.out.c 3 rfl 0 rfl, TS.out.c 3 rfl 1 rfl⟩
  go_region
  have T9 := Lib.hid TS.out.drew
  have K9 := Lib.hid KS9.out.drew
  have e0 := T9.out.c 1 rfl 0 rfl
  have e1 := T9.out.c 1 rfl 1 rfl
  go_wp2
  (try simp only [Exit.inBlock, Exit.then])
  refine bodyPost_ret (v := .tuple #[.agg #[.bool x1, .slice A1 n1 c1], .bool r]) (by simp [results, Tryd.results41, go_sem, e0, e1]) rfl ⟨x1, A1, n1, c1, rfl, ?_, T9.out.below⟩
  exact J1.out.kept K9.out
end Go.Proofs.YtpikbhcjgcbdfaaDoor.wh
