/- Package frac: without, under, lay, Of, Neg. -/
import Derived.Test.YtpikbhcjgcbdfaaDoorFr
import Derived.Deep.RegionWith
import Derived.Deep.DeepCutAuto
namespace Go.Proofs.YtpikbhcjgcbdfaaDoor.wh
open Go.RowKit

theorem quo_small {a b : Int} {p : Nat} (ha : a.natAbs < 1000000000 ^ p) : (quoZ a b).natAbs < 1000000000 ^ p := by
  unfold quoZ
  split
  · simp only [Int.natAbs_zero]
    exact Nat.pow_pos (by omega)
  · have h1 := Int.natAbs_ediv_le_natAbs a b
    omega
theorem ofZ_any (n : Int) (w : World) (h1 : -9223372036854775808 ≤ n) (h2 : n ≤ 9223372036854775807) : Calls Tryd.prog 34 #[.int .i64 n] w fun e w' => GivesZ w 3 n e w' := by
  refine (of_any n w h1 h2).mono ?_
  rintro e w1 ⟨v1, rfl, hi1, hb1⟩
  have hi := hi1
  obtain ⟨neg, A, n1, c, ds, rfl, _⟩ := hi
  exact ⟨neg, A, n1, c, rfl, hi1, hb1⟩

set_option maxRecDepth 100000 in
set_option maxHeartbeats 1000000 in
theorem without_any {v u : Value} {p q : Nat} {a b : Int} {w : World} (hp : p ≤ 900) (hq : q ≤ 900) (hx : IsInt w w.heap.size p v a) (hy : IsInt w w.heap.size q u b) :
    Calls Tryd.prog 87 #[v, u] w fun e w' => GivesZ w p (quoZ a b) e w' := by
  have HS := Lib.hid (quo_small (b := b) hx.small)
  obtain ⟨nx, A, n, c, xs, rfl, hx2⟩ := hx
  obtain ⟨ny, B, m, d, ys, rfl, hy2⟩ := hy
  have IX := Lib.hid (show IsInt w w.heap.size p (.agg #[.bool nx, .slice A n c]) a from ⟨nx, A, n, c, xs, rfl, hx2⟩)
  have IY := Lib.hid (show IsInt w w.heap.size q (.agg #[.bool ny, .slice B m d]) b from ⟨ny, B, m, d, ys, rfl, hy2⟩)
  clear hx2 hy2
  have HT : Hid (Mem w [(w.heap.size, 24, [.bool nx, .slice A n c]), (w.heap.size + 1, 24, [.bool ny, .slice B m d]), (w.heap.size + 1 + 1, 24, [.bool false, .slice none 0 0])] (((w.alloc (.cells #[.bool nx, .slice A n c] 24)).alloc (.cells #[.bool ny, .slice B m d] 24)).alloc (.cells #[.bool false, .slice none 0 0] 24))) := ((((Mem.new w).push (by simp) 24 [.bool nx, .slice A n c] rfl).push (by simp) 24 [.bool ny, .slice B m d] rfl).push (by simp) 24 [.bool false, .slice none 0 0] rfl)
  have A0 : Hid (∀ w' : World, Mem w [(w.heap.size, 24, [.bool nx, .slice A n c]), (w.heap.size + 1, 24, [.bool ny, .slice B m d]), (w.heap.size + 1 + 1, 24, [.bool false, .slice none 0 0])] w' → (w'.cell? ⟨w.heap.size, 0, none⟩ = some (.bool nx) ∧ w'.cell? ⟨w.heap.size, 1, none⟩ = some (.slice A n c) ∧ w'.cell? ⟨w.heap.size + 1, 0, none⟩ = some (.bool ny) ∧ w'.cell? ⟨w.heap.size + 1, 1, none⟩ = some (.slice B m d) ∧ w'.cell? ⟨w.heap.size + 1 + 1, 0, none⟩ = some (.bool false) ∧ w'.cell? ⟨w.heap.size + 1 + 1, 1, none⟩ = some (.slice none 0 0)) ∧ (w'.frozen? ⟨w.heap.size, 0, none⟩ = false ∧ w'.frozen? ⟨w.heap.size, 1, none⟩ = false ∧ w'.frozen? ⟨w.heap.size + 1, 0, none⟩ = false ∧ w'.frozen? ⟨w.heap.size + 1, 1, none⟩ = false ∧ w'.frozen? ⟨w.heap.size + 1 + 1, 0, none⟩ = false ∧ w'.frozen? ⟨w.heap.size + 1 + 1, 1, none⟩ = false) ∧ Hid (Mem w [(w.heap.size, 24, [.bool nx, .slice A n c]), (w.heap.size + 1, 24, [.bool ny, .slice B m d]), (w.heap.size + 1 + 1, 24, [.bool false, .slice none 0 0])] w')) := fun w' h => ⟨⟨h.c 0 rfl 0 rfl, h.c 0 rfl 1 rfl, h.c 1 rfl 0 rfl, h.c 1 rfl 1 rfl, h.c 2 rfl 0 rfl, h.c 2 rfl 1 rfl⟩, ⟨h.f 0 rfl 0, h.f 0 rfl 1, h.f 1 rfl 0, h.f 1 rfl 1, h.f 2 rfl 0, h.f 2 rfl 1⟩, h⟩
  by_cases hb1 : b = 1
  · have HV : Hid (quoZ a b = a) := by show _ = _; subst hb1; unfold quoZ; simp
    have HB1 := Lib.hid hb1
    clear hb1
    go_enter Tryd.func87, Tryd.ntmps87
    go_wp2_with fail
    refine (isOne_yes (IY.out.over HT.out.below) HB1.out).mono ?_
    rintro e w1 ⟨rfl, hb1⟩
    have T1 := Lib.hid (Mem.over hb1 HT.out)
    have C1 := (A0.out _ T1.out).1
    go_wp2_with fail
    refine (fresh_any hp (IX.out.over T1.out.below)).mono ?_
    rintro e w2 ⟨x2, A2, n2, c2, rfl, hi2, hb2⟩
    rw [← HV.out] at hi2
    have T2 := Lib.hid (Mem.over hb2 T1.out)
    have C2 := (A0.out _ T2.out).1
    have F2 := (A0.out _ T2.out).2.1
    have T9 := Lib.hid ((T2.out.set_ 2 rfl 0 (v := .bool x2) rfl).set_ 2 rfl 1 (v := .slice A2 n2 c2) rfl)
    have KT9 := Lib.hid ((T2.out.kept_set 2 rfl 0 (.bool x2)).trans ((T2.out.set_ 2 rfl 0 (v := .bool x2) rfl).kept_set 2 rfl 1 (.slice A2 n2 c2)))
    have e0 := T9.out.c 2 rfl 0 rfl
    have e1 := T9.out.c 2 rfl 1 rfl
    go_wp2
    (try simp only [Exit.inBlock, Exit.then])
    refine bodyPost_ret (v := .agg #[.bool x2, .slice A2 n2 c2]) (by simp [results, Tryd.results87, go_sem, e0, e1]) rfl ⟨x2, A2, n2, c2, rfl, hi2.out.kept KT9.out, T9.out.below⟩
  · have HB1 := Lib.hid hb1
    clear hb1
    go_enter Tryd.func87, Tryd.ntmps87
    go_wp2_with fail
    refine (isOne_no (IY.out.over HT.out.below) HB1.out).mono ?_
    rintro e w1 ⟨rfl, hb1⟩
    have T1 := Lib.hid (Mem.over hb1 HT.out)
    have C1 := (A0.out _ T1.out).1
    go_wp2_with fail
    refine (div_all _ _ p q a b _ hp hq (IX.out.over T1.out.below) (IY.out.over T1.out.below)).mono ?_
    rintro e w3 ⟨x2, A2, n2, c2, x3, A3, n3, c3, rfl, hi2, hi3, hb2⟩
    have T3 := Lib.hid (Mem.over hb2 T1.out)
    have T2 : Hid (Mem w [(w.heap.size, 24, [.bool nx, .slice A n c]), (w.heap.size + 1, 24, [.bool ny, .slice B m d]), (w.heap.size + 1 + 1, 24, [.bool false, .slice none 0 0]), (w3.heap.size, 24, [.bool x2, .slice A2 n2 c2]), (w3.heap.size + 1, 24, [.bool x3, .slice A3 n3 c3])] ((w3.alloc (.cells #[.bool x2, .slice A2 n2 c2] 24)).alloc (.cells #[.bool x3, .slice A3 n3 c3] 24))) := ((T3.out.push rfl 24 [.bool x2, .slice A2 n2 c2] rfl).push (by simp) 24 [.bool x3, .slice A3 n3 c3] rfl)
    have K2 : Hid (Kept w3 ((w3.alloc (.cells #[.bool x2, .slice A2 n2 c2] 24)).alloc (.cells #[.bool x3, .slice A3 n3 c3] 24))) := ((Kept.refl _).alloc _).alloc _
    have A2H : Hid (∀ w' : World, Mem w [(w.heap.size, 24, [.bool nx, .slice A n c]), (w.heap.size + 1, 24, [.bool ny, .slice B m d]), (w.heap.size + 1 + 1, 24, [.bool false, .slice none 0 0]), (w3.heap.size, 24, [.bool x2, .slice A2 n2 c2]), (w3.heap.size + 1, 24, [.bool x3, .slice A3 n3 c3])] w' → (w'.cell? ⟨w.heap.size, 0, none⟩ = some (.bool nx) ∧ w'.cell? ⟨w.heap.size, 1, none⟩ = some (.slice A n c) ∧ w'.cell? ⟨w.heap.size + 1, 0, none⟩ = some (.bool ny) ∧ w'.cell? ⟨w.heap.size + 1, 1, none⟩ = some (.slice B m d) ∧ w'.cell? ⟨w.heap.size + 1 + 1, 0, none⟩ = some (.bool false) ∧ w'.cell? ⟨w.heap.size + 1 + 1, 1, none⟩ = some (.slice none 0 0) ∧ w'.cell? ⟨w3.heap.size, 0, none⟩ = some (.bool x2) ∧ w'.cell? ⟨w3.heap.size, 1, none⟩ = some (.slice A2 n2 c2) ∧ w'.cell? ⟨w3.heap.size + 1, 0, none⟩ = some (.bool x3) ∧ w'.cell? ⟨w3.heap.size + 1, 1, none⟩ = some (.slice A3 n3 c3)) ∧ (w'.frozen? ⟨w.heap.size, 0, none⟩ = false ∧ w'.frozen? ⟨w.heap.size, 1, none⟩ = false ∧ w'.frozen? ⟨w.heap.size + 1, 0, none⟩ = false ∧ w'.frozen? ⟨w.heap.size + 1, 1, none⟩ = false ∧ w'.frozen? ⟨w.heap.size + 1 + 1, 0, none⟩ = false ∧ w'.frozen? ⟨w.heap.size + 1 + 1, 1, none⟩ = false ∧ w'.frozen? ⟨w3.heap.size, 0, none⟩ = false ∧ w'.frozen? ⟨w3.heap.size, 1, none⟩ = false ∧ w'.frozen? ⟨w3.heap.size + 1, 0, none⟩ = false ∧ w'.frozen? ⟨w3.heap.size + 1, 1, none⟩ = false) ∧ Hid (Mem w [(w.heap.size, 24, [.bool nx, .slice A n c]), (w.heap.size + 1, 24, [.bool ny, .slice B m d]), (w.heap.size + 1 + 1, 24, [.bool false, .slice none 0 0]), (w3.heap.size, 24, [.bool x2, .slice A2 n2 c2]), (w3.heap.size + 1, 24, [.bool x3, .slice A3 n3 c3])] w')) := fun w' h => ⟨⟨h.c 0 rfl 0 rfl, h.c 0 rfl 1 rfl, h.c 1 rfl 0 rfl, h.c 1 rfl 1 rfl, h.c 2 rfl 0 rfl, h.c 2 rfl 1 rfl, h.c 3 rfl 0 rfl, h.c 3 rfl 1 rfl, h.c 4 rfl 0 rfl, h.c 4 rfl 1 rfl⟩, ⟨h.f 0 rfl 0, h.f 0 rfl 1, h.f 1 rfl 0, h.f 1 rfl 1, h.f 2 rfl 0, h.f 2 rfl 1, h.f 3 rfl 0, h.f 3 rfl 1, h.f 4 rfl 0, h.f 4 rfl 1⟩, h⟩
    have C2 := (A2H.out _ T2.out).1
    have F2 := (A2H.out _ T2.out).2.1
    clear C1
    have T9 := Lib.hid ((T2.out.set_ 2 rfl 0 (v := .bool x2) rfl).set_ 2 rfl 1 (v := .slice A2 n2 c2) rfl)
    have KT9 := Lib.hid ((T2.out.kept_set 2 rfl 0 (.bool x2)).trans ((T2.out.set_ 2 rfl 0 (v := .bool x2) rfl).kept_set 2 rfl 1 (.slice A2 n2 c2)))
    have e0 := T9.out.c 2 rfl 0 rfl
    have e1 := T9.out.c 2 rfl 1 rfl
    go_wp2
    (try simp only [Exit.inBlock, Exit.then])
    refine bodyPost_ret (v := .agg #[.bool x2, .slice A2 n2 c2]) (by simp [results, Tryd.results87, go_sem, e0, e1]) rfl ⟨x2, A2, n2, c2, rfl, ((hi2.out.kept K2.out).kept KT9.out).tight HS.out, T9.out.below⟩

set_option maxRecDepth 100000 in
set_option maxHeartbeats 1000000 in
theorem under_any {v : Value} {p : Nat} {q : Rat} {w : World} (hp : p ≤ 900) (hx : IsFr w p v q) :
    Calls Tryd.prog 86 #[v] w fun e w' => GivesZ w (max p 3) (q.den : Int) e w' := by
  obtain ⟨xi, Ai, ni, ci, yi, Bi, mi, di, rfl, h1, h2⟩ := hx
  have I2 := Lib.hid h2
  have hz := und_zero h2
  clear h1 h2
  have HT : Hid (Mem w [(w.heap.size, 58, [.bool xi, .slice Ai ni ci, .bool yi, .slice Bi mi di]), (w.heap.size + 1, 24, [.bool false, .slice none 0 0])] ((w.alloc (.cells #[.bool xi, .slice Ai ni ci, .bool yi, .slice Bi mi di] 58)).alloc (.cells #[.bool false, .slice none 0 0] 24))) := (((Mem.new w).push (by simp) 58 [.bool xi, .slice Ai ni ci, .bool yi, .slice Bi mi di] rfl).push (by simp) 24 [.bool false, .slice none 0 0] rfl)
  have A0 : Hid (∀ w' : World, Mem w [(w.heap.size, 58, [.bool xi, .slice Ai ni ci, .bool yi, .slice Bi mi di]), (w.heap.size + 1, 24, [.bool false, .slice none 0 0])] w' → (w'.cell? ⟨w.heap.size, 0, none⟩ = some (.bool xi) ∧ w'.cell? ⟨w.heap.size, 1, none⟩ = some (.slice Ai ni ci) ∧ w'.cell? ⟨w.heap.size, 2, none⟩ = some (.bool yi) ∧ w'.cell? ⟨w.heap.size, 3, none⟩ = some (.slice Bi mi di) ∧ w'.cell? ⟨w.heap.size + 1, 0, none⟩ = some (.bool false) ∧ w'.cell? ⟨w.heap.size + 1, 1, none⟩ = some (.slice none 0 0)) ∧ (w'.frozen? ⟨w.heap.size, 0, none⟩ = false ∧ w'.frozen? ⟨w.heap.size, 1, none⟩ = false ∧ w'.frozen? ⟨w.heap.size, 2, none⟩ = false ∧ w'.frozen? ⟨w.heap.size, 3, none⟩ = false ∧ w'.frozen? ⟨w.heap.size + 1, 0, none⟩ = false ∧ w'.frozen? ⟨w.heap.size + 1, 1, none⟩ = false) ∧ Hid (Mem w [(w.heap.size, 58, [.bool xi, .slice Ai ni ci, .bool yi, .slice Bi mi di]), (w.heap.size + 1, 24, [.bool false, .slice none 0 0])] w')) := fun w' h => ⟨⟨h.c 0 rfl 0 rfl, h.c 0 rfl 1 rfl, h.c 0 rfl 2 rfl, h.c 0 rfl 3 rfl, h.c 1 rfl 0 rfl, h.c 1 rfl 1 rfl⟩, ⟨h.f 0 rfl 0, h.f 0 rfl 1, h.f 0 rfl 2, h.f 0 rfl 3, h.f 1 rfl 0, h.f 1 rfl 1⟩, h⟩
  have C0 := (A0.out _ HT.out).1
  have F0 := (A0.out _ HT.out).2.1
  by_cases hd : q.den = 1
  · obtain ⟨rfl, hh⟩ := hz.1 hd
    clear hh
    have HD : Hid ((q.den : Int) = 1) := by show _ = _; rw [hd]; rfl
    clear hz hd
    go_enter Tryd.func86, Tryd.ntmps86
    go_wp2_with fail
    refine (isInteger_yes _).mono ?_
    rintro e w1 ⟨rfl, hb1⟩
    have T1 := Lib.hid (Mem.over hb1 HT.out)
    go_wp2_with fail
    refine (ofZ_any 1 _ (by omega) (by omega)).mono ?_
    rintro e w2 ⟨x2, A2, n2, c2, rfl, hi2, hb2⟩
    have T2 := Lib.hid (Mem.over hb2 T1.out)
    have C2 := (A0.out _ T2.out).1
    have F2 := (A0.out _ T2.out).2.1
    clear C0 F0
    have T9 := Lib.hid ((T2.out.set_ 1 rfl 0 (v := .bool x2) rfl).set_ 1 rfl 1 (v := .slice A2 n2 c2) rfl)
    have KT9 := Lib.hid ((T2.out.kept_set 1 rfl 0 (.bool x2)).trans ((T2.out.set_ 1 rfl 0 (v := .bool x2) rfl).kept_set 1 rfl 1 (.slice A2 n2 c2)))
    have e0 := T9.out.c 1 rfl 0 rfl
    have e1 := T9.out.c 1 rfl 1 rfl
    go_wp2
    (try simp only [Exit.inBlock, Exit.then])
    refine bodyPost_ret (v := .agg #[.bool x2, .slice A2 n2 c2]) (by simp [results, Tryd.results86, go_sem, e0, e1]) rfl ⟨x2, A2, n2, c2, rfl, ?_, T9.out.below⟩
    show IsInt _ _ _ _ _
    rw [HD.out]
    exact (hi2.out.kept KT9.out).more (Nat.le_refl _) (by omega)
  · obtain ⟨hl, hh⟩ := hz.2 hd
    clear hh
    have HD : Hid (undZ q = (q.den : Int)) := by show _ = _; unfold undZ; rw [if_neg hd]
    clear hz hd
    go_enter Tryd.func86, Tryd.ntmps86
    go_wp2_with fail
    refine (isInteger_no _ hl).mono ?_
    rintro e w1 ⟨rfl, hb1⟩
    have T1 := Lib.hid (Mem.over hb1 HT.out)
    have C1 := (A0.out _ T1.out).1
    have F1 := (A0.out _ T1.out).2.1
    clear C0 F0
    have T9 := Lib.hid ((T1.out.set_ 1 rfl 0 (v := .bool yi) rfl).set_ 1 rfl 1 (v := .slice Bi mi di) rfl)
    have KT9 := Lib.hid ((T1.out.kept_set 1 rfl 0 (.bool yi)).trans ((T1.out.set_ 1 rfl 0 (v := .bool yi) rfl).kept_set 1 rfl 1 (.slice Bi mi di)))
    have e0 := T9.out.c 1 rfl 0 rfl
    have e1 := T9.out.c 1 rfl 1 rfl
    go_wp2
    (try simp only [Exit.inBlock, Exit.then])
    refine bodyPost_ret (v := .agg #[.bool yi, .slice Bi mi di]) (by simp [results, Tryd.results86, go_sem, e0, e1]) rfl ⟨yi, Bi, mi, di, rfl, ?_, T9.out.below⟩
    have h := (I2.out.over T1.out.below).kept KT9.out
    rw [HD.out] at h
    exact h.more (Nat.le_refl _) (by omega)

set_option maxRecDepth 100000 in
set_option maxHeartbeats 1000000 in
theorem fracOf_any {v : Value} {p : Nat} {a : Int} {w : World} (hp : p ≤ 900) (hx : IsInt w w.heap.size p v a) :
    Calls Tryd.prog 60 #[v] w fun e w' => GivesF w p (a : Rat) e w' := by
  obtain ⟨nx, A, n, c, xs, rfl, hx2⟩ := hx
  have IX := Lib.hid (show IsInt w w.heap.size p (.agg #[.bool nx, .slice A n c]) a from ⟨nx, A, n, c, xs, rfl, hx2⟩)
  clear hx2
  have HT : Hid (Mem w [(w.heap.size, 24, [.bool nx, .slice A n c]), (w.heap.size + 1, 58, [.bool false, .slice none 0 0, .bool false, .slice none 0 0])] ((w.alloc (.cells #[.bool nx, .slice A n c] 24)).alloc (.cells #[.bool false, .slice none 0 0, .bool false, .slice none 0 0] 58))) := (((Mem.new w).push (by simp) 24 [.bool nx, .slice A n c] rfl).push (by simp) 58 [.bool false, .slice none 0 0, .bool false, .slice none 0 0] rfl)
  have A0 : Hid (∀ w' : World, Mem w [(w.heap.size, 24, [.bool nx, .slice A n c]), (w.heap.size + 1, 58, [.bool false, .slice none 0 0, .bool false, .slice none 0 0])] w' → (w'.cell? ⟨w.heap.size, 0, none⟩ = some (.bool nx) ∧ w'.cell? ⟨w.heap.size, 1, none⟩ = some (.slice A n c) ∧ w'.cell? ⟨w.heap.size + 1, 0, none⟩ = some (.bool false) ∧ w'.cell? ⟨w.heap.size + 1, 1, none⟩ = some (.slice none 0 0) ∧ w'.cell? ⟨w.heap.size + 1, 2, none⟩ = some (.bool false) ∧ w'.cell? ⟨w.heap.size + 1, 3, none⟩ = some (.slice none 0 0)) ∧ (w'.frozen? ⟨w.heap.size, 0, none⟩ = false ∧ w'.frozen? ⟨w.heap.size, 1, none⟩ = false ∧ w'.frozen? ⟨w.heap.size + 1, 0, none⟩ = false ∧ w'.frozen? ⟨w.heap.size + 1, 1, none⟩ = false ∧ w'.frozen? ⟨w.heap.size + 1, 2, none⟩ = false ∧ w'.frozen? ⟨w.heap.size + 1, 3, none⟩ = false) ∧ Hid (Mem w [(w.heap.size, 24, [.bool nx, .slice A n c]), (w.heap.size + 1, 58, [.bool false, .slice none 0 0, .bool false, .slice none 0 0])] w')) := fun w' h => ⟨⟨h.c 0 rfl 0 rfl, h.c 0 rfl 1 rfl, h.c 1 rfl 0 rfl, h.c 1 rfl 1 rfl, h.c 1 rfl 2 rfl, h.c 1 rfl 3 rfl⟩, ⟨h.f 0 rfl 0, h.f 0 rfl 1, h.f 1 rfl 0, h.f 1 rfl 1, h.f 1 rfl 2, h.f 1 rfl 3⟩, h⟩
  go_enter Tryd.func60, Tryd.ntmps60
  go_wp2_with fail
  refine (fresh_any hp (IX.out.over HT.out.below)).mono ?_
  rintro e w2 ⟨x2, A2, n2, c2, rfl, hi2, hb2⟩
  have T2 := Lib.hid (Mem.over hb2 HT.out)
  have C2 := (A0.out _ T2.out).1
  have F2 := (A0.out _ T2.out).2.1
  have T9 := Lib.hid ((((T2.out.set_ 1 rfl 0 (v := .bool x2) rfl).set_ 1 rfl 1 (v := .slice A2 n2 c2) rfl).set_ 1 rfl 2 (v := .bool false) rfl).set_ 1 rfl 3 (v := .slice none 0 0) rfl)
  have KT9 := Lib.hid ((((T2.out.kept_set 1 rfl 0 (.bool x2)).trans ((T2.out.set_ 1 rfl 0 (v := .bool x2) rfl).kept_set 1 rfl 1 (.slice A2 n2 c2))).trans (((T2.out.set_ 1 rfl 0 (v := .bool x2) rfl).set_ 1 rfl 1 (v := .slice A2 n2 c2) rfl).kept_set 1 rfl 2 (.bool false))).trans ((((T2.out.set_ 1 rfl 0 (v := .bool x2) rfl).set_ 1 rfl 1 (v := .slice A2 n2 c2) rfl).set_ 1 rfl 2 (v := .bool false) rfl).kept_set 1 rfl 3 (.slice none 0 0)))
  have e0 := T9.out.c 1 rfl 0 rfl
  have e1 := T9.out.c 1 rfl 1 rfl
  have e2 := T9.out.c 1 rfl 2 rfl
  have e3 := T9.out.c 1 rfl 3 rfl
  go_wp2
  (try simp only [Exit.inBlock, Exit.then])
  refine bodyPost_ret (v := .agg #[.bool x2, .slice A2 n2 c2, .bool false, .slice none 0 0]) (by simp [results, Tryd.results60, go_sem, e0, e1, e2, e3]) rfl ⟨x2, A2, n2, c2, false, none, 0, 0, rfl, ?_, T9.out.below⟩
  exact ⟨x2, A2, n2, c2, false, none, 0, 0, rfl, by rw [Rat.num_intCast]; exact hi2.out.kept KT9.out, by unfold undZ; rw [Rat.den_intCast, if_pos rfl]; exact isInt_zero _ _ _⟩
end Go.Proofs.YtpikbhcjgcbdfaaDoor.wh
