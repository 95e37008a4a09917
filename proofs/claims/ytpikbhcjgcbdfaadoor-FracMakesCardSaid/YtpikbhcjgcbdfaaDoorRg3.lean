/- The document's answer of layer 2: Make. -/
import Derived.Test.YtpikbhcjgcbdfaaDoorRg2
namespace Go.Proofs.YtpikbhcjgcbdfaaDoor.wh
open Go.RowKit

theorem make_parts {a b : Int} (hb : 0 < b) : (Rat.divInt a b).num = quoZ a ((Nat.gcd a.natAbs b.natAbs : Nat) : Int) ∧ ((Rat.divInt a b).den : Int) = quoZ b ((Nat.gcd a.natAbs b.natAbs : Nat) : Int) := by
  have h := quo_gcd (a := a) (b := b) (by omega)
  have hq : 0 ≤ quoZ b ((Nat.gcd a.natAbs b.natAbs : Nat) : Int) := by
    unfold quoZ
    split
    · omega
    · exact Int.ediv_nonneg (by omega) (by omega)
  have h2 := rat_pos (by have := h.1; omega) h.2.1
  rw [h.2.2] at h2
  exact h2
theorem quo_smallT {a b : Int} {p : Nat} (ha : a.natAbs < 10 ^ p) : (quoZ a b).natAbs < 10 ^ p := by
  unfold quoZ
  split
  · simp only [Int.natAbs_zero]
    exact Nat.pow_pos (by omega)
  · have h1 := Int.natAbs_ediv_le_natAbs a b
    omega
theorem num_none {w : World} {B m : Nat} {b : Bool} {A : Option Addr} {n c : Nat} {z : Int} (h : IsNum w B m (.agg #[.bool b, .slice A n c]) z) : (n = 0 → z = 0) ∧ (n ≠ 0 → z ≠ 0) := by
  obtain ⟨neg, A', n', c', ds, e, h2, h3, h4, h5, h6, h7, h8, h9⟩ := h
  cases e
  have e := natAbs_tz h9
  refine ⟨fun hn => ?_, fun hn hz => ?_⟩
  · rw [List.eq_nil_of_length_eq_zero (h2.trans hn)] at e
    simp [tval] at e
    omega
  · have := ttop_pos h7 (fun e2 => by rw [e2] at h2; exact hn h2.symm)
    rw [hz] at e
    simp at e
    omega

set_option maxRecDepth 100000 in
set_option maxHeartbeats 4000000 in
theorem make2_any {v u : Value} {p : Nat} {a b : Int} {w : World} (hp1 : 1 ≤ p) (hp : p ≤ 900) (hx : IsNum w w.heap.size p v a) (hy : IsNum w w.heap.size p u b) :
    Calls Tryd.prog 59 #[v, u] w fun e w' => GivesFn w p (Rat.divInt a b) e w' := by
  have HX := Lib.hid hx
  have HY := Lib.hid hy
  have HSA := Lib.hid hx.small
  have HSB := Lib.hid hy.small
  obtain ⟨nx, A, n, c, xs, rfl, hx2⟩ := hx
  obtain ⟨ny, B, m, d, ys, rfl, hy2⟩ := hy
  clear hx2 hy2
  have NX := num_none HX.out
  have NY := num_none HY.out
  have SY := num_neg HY.out
  have HT : Hid (Mem w [(w.heap.size, 29, [.bool nx, .slice A n c]), (w.heap.size + 1, 29, [.bool ny, .slice B m d]), (w.heap.size + 1 + 1, 61, [.bool false, .slice none 0 0, .bool false, .slice none 0 0])] (((w.alloc (.cells #[.bool nx, .slice A n c] 29)).alloc (.cells #[.bool ny, .slice B m d] 29)).alloc (.cells #[.bool false, .slice none 0 0, .bool false, .slice none 0 0] 61))) := ((((Mem.new w).push (by simp) 29 [.bool nx, .slice A n c] rfl).push (by simp) 29 [.bool ny, .slice B m d] rfl).push (by simp) 61 [.bool false, .slice none 0 0, .bool false, .slice none 0 0] rfl)
  have A0 : Hid (∀ w' : World, Mem w [(w.heap.size, 29, [.bool nx, .slice A n c]), (w.heap.size + 1, 29, [.bool ny, .slice B m d]), (w.heap.size + 1 + 1, 61, [.bool false, .slice none 0 0, .bool false, .slice none 0 0])] w' → (w'.cell? ⟨w.heap.size, 0, none⟩ = some (.bool nx) ∧ w'.cell? ⟨w.heap.size, 1, none⟩ = some (.slice A n c) ∧ w'.cell? ⟨w.heap.size + 1, 0, none⟩ = some (.bool ny) ∧ w'.cell? ⟨w.heap.size + 1, 1, none⟩ = some (.slice B m d) ∧ w'.cell? ⟨w.heap.size + 1 + 1, 0, none⟩ = some (.bool false) ∧ w'.cell? ⟨w.heap.size + 1 + 1, 1, none⟩ = some (.slice none 0 0) ∧ w'.cell? ⟨w.heap.size + 1 + 1, 2, none⟩ = some (.bool false) ∧ w'.cell? ⟨w.heap.size + 1 + 1, 3, none⟩ = some (.slice none 0 0)) ∧ (w'.frozen? ⟨w.heap.size, 0, none⟩ = false ∧ w'.frozen? ⟨w.heap.size, 1, none⟩ = false ∧ w'.frozen? ⟨w.heap.size + 1, 0, none⟩ = false ∧ w'.frozen? ⟨w.heap.size + 1, 1, none⟩ = false ∧ w'.frozen? ⟨w.heap.size + 1 + 1, 0, none⟩ = false ∧ w'.frozen? ⟨w.heap.size + 1 + 1, 1, none⟩ = false ∧ w'.frozen? ⟨w.heap.size + 1 + 1, 2, none⟩ = false ∧ w'.frozen? ⟨w.heap.size + 1 + 1, 3, none⟩ = false) ∧ Hid (Mem w [(w.heap.size, 29, [.bool nx, .slice A n c]), (w.heap.size + 1, 29, [.bool ny, .slice B m d]), (w.heap.size + 1 + 1, 61, [.bool false, .slice none 0 0, .bool false, .slice none 0 0])] w')) := fun w' h => ⟨⟨h.c 0 rfl 0 rfl, h.c 0 rfl 1 rfl, h.c 1 rfl 0 rfl, h.c 1 rfl 1 rfl, h.c 2 rfl 0 rfl, h.c 2 rfl 1 rfl, h.c 2 rfl 2 rfl, h.c 2 rfl 3 rfl⟩, ⟨h.f 0 rfl 0, h.f 0 rfl 1, h.f 1 rfl 0, h.f 1 rfl 1, h.f 2 rfl 0, h.f 2 rfl 1, h.f 2 rfl 2, h.f 2 rfl 3⟩, h⟩
  have C0 := (A0.out _ HT.out).1
  have F0 := (A0.out _ HT.out).2.1
  by_cases hm : m = 0
  · have HR : Hid (Rat.divInt a b = ((0 : Int) : Rat)) := by show _ = _; rw [NY.1 hm, Rat.divInt_zero]; rfl
    have hm1 : ((m : Int) == 0) = true := by rw [beq_iff_eq]; omega
    clear NX NY SY hm
    go_enter Tryd.func59, Tryd.ntmps59
    go_wp2_with fail
    refine (int2_any 0 _ (by omega) (by omega)).mono ?_
    rintro e w1 ⟨x1, A1, n1, c1, x2, A2, n2, c2, rfl, hi1, hb1⟩
    have T1 := Lib.hid (Mem.over hb1 HT.out)
    have C1 := (A0.out _ T1.out).1
    have F1 := (A0.out _ T1.out).2.1
    clear C0 F0
    have T9 := Lib.hid ((((T1.out.set_ 2 rfl 0 (v := .bool x1) rfl).set_ 2 rfl 1 (v := .slice A1 n1 c1) rfl).set_ 2 rfl 2 (v := .bool x2) rfl).set_ 2 rfl 3 (v := .slice A2 n2 c2) rfl)
    have KT9 := Lib.hid ((((T1.out.kept_set 2 rfl 0 (.bool x1)).trans ((T1.out.set_ 2 rfl 0 (v := .bool x1) rfl).kept_set 2 rfl 1 (.slice A1 n1 c1))).trans (((T1.out.set_ 2 rfl 0 (v := .bool x1) rfl).set_ 2 rfl 1 (v := .slice A1 n1 c1) rfl).kept_set 2 rfl 2 (.bool x2))).trans ((((T1.out.set_ 2 rfl 0 (v := .bool x1) rfl).set_ 2 rfl 1 (v := .slice A1 n1 c1) rfl).set_ 2 rfl 2 (v := .bool x2) rfl).kept_set 2 rfl 3 (.slice A2 n2 c2)))
    have e0 := T9.out.c 2 rfl 0 rfl
    have e1 := T9.out.c 2 rfl 1 rfl
    have e2 := T9.out.c 2 rfl 2 rfl
    have e3 := T9.out.c 2 rfl 3 rfl
    go_wp2
    (try simp only [Exit.inBlock, Exit.then])
    refine bodyPost_ret (v := .agg #[.bool x1, .slice A1 n1 c1, .bool x2, .slice A2 n2 c2]) (by simp [results, Tryd.results59, go_sem, e0, e1, e2, e3]) rfl ⟨x1, A1, n1, c1, x2, A2, n2, c2, rfl, ?_, T9.out.below⟩
    rw [HR.out]
    exact (hi1.out.kept KT9.out).more hp1
  · have hm1 : ((m : Int) == 0) = false := by rw [beq_eq_false_iff_ne]; omega
    by_cases hn : n = 0
    · have HR : Hid (Rat.divInt a b = ((0 : Int) : Rat)) := by show _ = _; rw [NX.1 hn, Rat.zero_divInt]; rfl
      have hn1 : ((n : Int) == 0) = true := by rw [beq_iff_eq]; omega
      clear NX NY SY hm hn
      go_enter Tryd.func59, Tryd.ntmps59
      go_wp2_with fail
      refine (int2_any 0 _ (by omega) (by omega)).mono ?_
      rintro e w1 ⟨x1, A1, n1, c1, x2, A2, n2, c2, rfl, hi1, hb1⟩
      have T1 := Lib.hid (Mem.over hb1 HT.out)
      have C1 := (A0.out _ T1.out).1
      have F1 := (A0.out _ T1.out).2.1
      clear C0 F0
      have T9 := Lib.hid ((((T1.out.set_ 2 rfl 0 (v := .bool x1) rfl).set_ 2 rfl 1 (v := .slice A1 n1 c1) rfl).set_ 2 rfl 2 (v := .bool x2) rfl).set_ 2 rfl 3 (v := .slice A2 n2 c2) rfl)
      have KT9 := Lib.hid ((((T1.out.kept_set 2 rfl 0 (.bool x1)).trans ((T1.out.set_ 2 rfl 0 (v := .bool x1) rfl).kept_set 2 rfl 1 (.slice A1 n1 c1))).trans (((T1.out.set_ 2 rfl 0 (v := .bool x1) rfl).set_ 2 rfl 1 (v := .slice A1 n1 c1) rfl).kept_set 2 rfl 2 (.bool x2))).trans ((((T1.out.set_ 2 rfl 0 (v := .bool x1) rfl).set_ 2 rfl 1 (v := .slice A1 n1 c1) rfl).set_ 2 rfl 2 (v := .bool x2) rfl).kept_set 2 rfl 3 (.slice A2 n2 c2)))
      have e0 := T9.out.c 2 rfl 0 rfl
      have e1 := T9.out.c 2 rfl 1 rfl
      have e2 := T9.out.c 2 rfl 2 rfl
      have e3 := T9.out.c 2 rfl 3 rfl
      go_wp2
      (try simp only [Exit.inBlock, Exit.then])
      refine bodyPost_ret (v := .agg #[.bool x1, .slice A1 n1 c1, .bool x2, .slice A2 n2 c2]) (by simp [results, Tryd.results59, go_sem, e0, e1, e2, e3]) rfl ⟨x1, A1, n1, c1, x2, A2, n2, c2, rfl, ?_, T9.out.below⟩
      rw [HR.out]
      exact (hi1.out.kept KT9.out).more hp1
    · have hn1 : ((n : Int) == 0) = false := by rw [beq_eq_false_iff_ne]; omega
      have hb0 := NY.2 hm
      cases ny with
      | true =>
        have HP : Hid ((Rat.divInt a b).num = quoZ (-a) ((Nat.gcd (-a).natAbs (-b).natAbs : Nat) : Int) ∧ ((Rat.divInt a b).den : Int) = quoZ (-b) ((Nat.gcd (-a).natAbs (-b).natAbs : Nat) : Int)) := by
          have h := make_parts (a := -a) (b := -b) (by have := SY.1 rfl; omega)
          rw [Rat.neg_divInt_neg] at h
          exact h
        have HSA' : Hid ((-a).natAbs < 10 ^ p) := by show _ < _; rw [Int.natAbs_neg]; exact HSA.out
        have HSB' : Hid ((-b).natAbs < 10 ^ p) := by show _ < _; rw [Int.natAbs_neg]; exact HSB.out
        clear NX NY SY hm hn hb0
        go_enter Tryd.func59, Tryd.ntmps59
        go_wp2_with fail
        refine (refNeg_any (by omega) (HX.out.over HT.out.below)).mono ?_
        rintro e w7 ⟨x7, A7, n7, c7, rfl, hi7, hb7⟩
        have T7 := Lib.hid (Mem.over hb7 HT.out)
        have C7 := (A0.out _ T7.out).1
        have F7 := (A0.out _ T7.out).2.1
        have S7 : Hid (Mem w [(w.heap.size, 29, [.bool x7, .slice A7 n7 c7]), (w.heap.size + 1, 29, [.bool true, .slice B m d]), (w.heap.size + 1 + 1, 61, [.bool false, .slice none 0 0, .bool false, .slice none 0 0])] ((w7.setCell ⟨w.heap.size, 0, none⟩ (.bool x7)).setCell ⟨w.heap.size, 1, none⟩ (.slice A7 n7 c7))) := ((T7.out.set_ 0 rfl 0 (v := .bool x7) rfl).set_ 0 rfl 1 (v := .slice A7 n7 c7) rfl)
        have K7 : Hid (Kept w7 ((w7.setCell ⟨w.heap.size, 0, none⟩ (.bool x7)).setCell ⟨w.heap.size, 1, none⟩ (.slice A7 n7 c7))) := ((T7.out.kept_set 0 rfl 0 (.bool x7)).trans ((T7.out.set_ 0 rfl 0 (v := .bool x7) rfl).kept_set 0 rfl 1 (.slice A7 n7 c7)))
        have J7 := Lib.hid (hi7.out.kept K7.out)
        clear C0 F0
        have A7H : Hid (∀ w' : World, Mem w [(w.heap.size, 29, [.bool x7, .slice A7 n7 c7]), (w.heap.size + 1, 29, [.bool true, .slice B m d]), (w.heap.size + 1 + 1, 61, [.bool false, .slice none 0 0, .bool false, .slice none 0 0])] w' → (w'.cell? ⟨w.heap.size, 0, none⟩ = some (.bool x7) ∧ w'.cell? ⟨w.heap.size, 1, none⟩ = some (.slice A7 n7 c7) ∧ w'.cell? ⟨w.heap.size + 1, 0, none⟩ = some (.bool true) ∧ w'.cell? ⟨w.heap.size + 1, 1, none⟩ = some (.slice B m d) ∧ w'.cell? ⟨w.heap.size + 1 + 1, 0, none⟩ = some (.bool false) ∧ w'.cell? ⟨w.heap.size + 1 + 1, 1, none⟩ = some (.slice none 0 0) ∧ w'.cell? ⟨w.heap.size + 1 + 1, 2, none⟩ = some (.bool false) ∧ w'.cell? ⟨w.heap.size + 1 + 1, 3, none⟩ = some (.slice none 0 0)) ∧ (w'.frozen? ⟨w.heap.size, 0, none⟩ = false ∧ w'.frozen? ⟨w.heap.size, 1, none⟩ = false ∧ w'.frozen? ⟨w.heap.size + 1, 0, none⟩ = false ∧ w'.frozen? ⟨w.heap.size + 1, 1, none⟩ = false ∧ w'.frozen? ⟨w.heap.size + 1 + 1, 0, none⟩ = false ∧ w'.frozen? ⟨w.heap.size + 1 + 1, 1, none⟩ = false ∧ w'.frozen? ⟨w.heap.size + 1 + 1, 2, none⟩ = false ∧ w'.frozen? ⟨w.heap.size + 1 + 1, 3, none⟩ = false) ∧ Hid (Mem w [(w.heap.size, 29, [.bool x7, .slice A7 n7 c7]), (w.heap.size + 1, 29, [.bool true, .slice B m d]), (w.heap.size + 1 + 1, 61, [.bool false, .slice none 0 0, .bool false, .slice none 0 0])] w')) := fun w' h => ⟨⟨h.c 0 rfl 0 rfl, h.c 0 rfl 1 rfl, h.c 1 rfl 0 rfl, h.c 1 rfl 1 rfl, h.c 2 rfl 0 rfl, h.c 2 rfl 1 rfl, h.c 2 rfl 2 rfl, h.c 2 rfl 3 rfl⟩, ⟨h.f 0 rfl 0, h.f 0 rfl 1, h.f 1 rfl 0, h.f 1 rfl 1, h.f 2 rfl 0, h.f 2 rfl 1, h.f 2 rfl 2, h.f 2 rfl 3⟩, h⟩
        have C8 := (A7H.out _ S7.out).1
        go_wp2_with fail
        refine (refNeg_any (by omega) (HY.out.over S7.out.below)).mono ?_
        rintro e w8 ⟨x8, A8, n8, c8, rfl, hi8, hb8⟩
        have T8 := Lib.hid (Mem.over hb8 S7.out)
        have C9 := (A7H.out _ T8.out).1
        have F9 := (A7H.out _ T8.out).2.1
        have S8 : Hid (Mem w [(w.heap.size, 29, [.bool x7, .slice A7 n7 c7]), (w.heap.size + 1, 29, [.bool x8, .slice A8 n8 c8]), (w.heap.size + 1 + 1, 61, [.bool false, .slice none 0 0, .bool false, .slice none 0 0])] ((w8.setCell ⟨w.heap.size + 1, 0, none⟩ (.bool x8)).setCell ⟨w.heap.size + 1, 1, none⟩ (.slice A8 n8 c8))) := ((T8.out.set_ 1 rfl 0 (v := .bool x8) rfl).set_ 1 rfl 1 (v := .slice A8 n8 c8) rfl)
        have K8 : Hid (Kept w8 ((w8.setCell ⟨w.heap.size + 1, 0, none⟩ (.bool x8)).setCell ⟨w.heap.size + 1, 1, none⟩ (.slice A8 n8 c8))) := ((T8.out.kept_set 1 rfl 0 (.bool x8)).trans ((T8.out.set_ 1 rfl 0 (v := .bool x8) rfl).kept_set 1 rfl 1 (.slice A8 n8 c8)))
        have IA := Lib.hid ((J7.out.over hb8.out).kept K8.out)
        have IB := Lib.hid (hi8.out.kept K8.out)
        clear C7 F7 C8
        have A8H : Hid (∀ w' : World, Mem w [(w.heap.size, 29, [.bool x7, .slice A7 n7 c7]), (w.heap.size + 1, 29, [.bool x8, .slice A8 n8 c8]), (w.heap.size + 1 + 1, 61, [.bool false, .slice none 0 0, .bool false, .slice none 0 0])] w' → (w'.cell? ⟨w.heap.size, 0, none⟩ = some (.bool x7) ∧ w'.cell? ⟨w.heap.size, 1, none⟩ = some (.slice A7 n7 c7) ∧ w'.cell? ⟨w.heap.size + 1, 0, none⟩ = some (.bool x8) ∧ w'.cell? ⟨w.heap.size + 1, 1, none⟩ = some (.slice A8 n8 c8) ∧ w'.cell? ⟨w.heap.size + 1 + 1, 0, none⟩ = some (.bool false) ∧ w'.cell? ⟨w.heap.size + 1 + 1, 1, none⟩ = some (.slice none 0 0) ∧ w'.cell? ⟨w.heap.size + 1 + 1, 2, none⟩ = some (.bool false) ∧ w'.cell? ⟨w.heap.size + 1 + 1, 3, none⟩ = some (.slice none 0 0)) ∧ (w'.frozen? ⟨w.heap.size, 0, none⟩ = false ∧ w'.frozen? ⟨w.heap.size, 1, none⟩ = false ∧ w'.frozen? ⟨w.heap.size + 1, 0, none⟩ = false ∧ w'.frozen? ⟨w.heap.size + 1, 1, none⟩ = false ∧ w'.frozen? ⟨w.heap.size + 1 + 1, 0, none⟩ = false ∧ w'.frozen? ⟨w.heap.size + 1 + 1, 1, none⟩ = false ∧ w'.frozen? ⟨w.heap.size + 1 + 1, 2, none⟩ = false ∧ w'.frozen? ⟨w.heap.size + 1 + 1, 3, none⟩ = false) ∧ Hid (Mem w [(w.heap.size, 29, [.bool x7, .slice A7 n7 c7]), (w.heap.size + 1, 29, [.bool x8, .slice A8 n8 c8]), (w.heap.size + 1 + 1, 61, [.bool false, .slice none 0 0, .bool false, .slice none 0 0])] w')) := fun w' h => ⟨⟨h.c 0 rfl 0 rfl, h.c 0 rfl 1 rfl, h.c 1 rfl 0 rfl, h.c 1 rfl 1 rfl, h.c 2 rfl 0 rfl, h.c 2 rfl 1 rfl, h.c 2 rfl 2 rfl, h.c 2 rfl 3 rfl⟩, ⟨h.f 0 rfl 0, h.f 0 rfl 1, h.f 1 rfl 0, h.f 1 rfl 1, h.f 2 rfl 0, h.f 2 rfl 1, h.f 2 rfl 2, h.f 2 rfl 3⟩, h⟩
        have CT := (A8H.out _ S8.out).1
        go_wp2_with fail
        refine (refGcd_any (p := p) (by omega) IA.out IB.out).mono ?_
        rintro e w1 ⟨x1, A1, n1, c1, rfl, hi1, hb1⟩
        have T1 : Hid (Mem w [(w.heap.size, 29, [.bool x7, .slice A7 n7 c7]), (w.heap.size + 1, 29, [.bool x8, .slice A8 n8 c8]), (w.heap.size + 1 + 1, 61, [.bool false, .slice none 0 0, .bool false, .slice none 0 0]), (w1.heap.size, 29, [.bool x1, .slice A1 n1 c1])] (w1.alloc (.cells #[.bool x1, .slice A1 n1 c1] 29))) := ((Mem.over hb1 S8.out).push rfl 29 [.bool x1, .slice A1 n1 c1] rfl)
        have K1 : Hid (Kept w1 (w1.alloc (.cells #[.bool x1, .slice A1 n1 c1] 29))) := (Kept.refl _).alloc _
        have IG := Lib.hid (hi1.out.kept K1.out)
        have IA1 := Lib.hid ((IA.out.over hb1.out).kept K1.out)
        have IB1 := Lib.hid ((IB.out.over hb1.out).kept K1.out)
        clear CT
        have G1H : Hid (∀ w' : World, Mem w [(w.heap.size, 29, [.bool x7, .slice A7 n7 c7]), (w.heap.size + 1, 29, [.bool x8, .slice A8 n8 c8]), (w.heap.size + 1 + 1, 61, [.bool false, .slice none 0 0, .bool false, .slice none 0 0]), (w1.heap.size, 29, [.bool x1, .slice A1 n1 c1])] w' → (w'.cell? ⟨w.heap.size, 0, none⟩ = some (.bool x7) ∧ w'.cell? ⟨w.heap.size, 1, none⟩ = some (.slice A7 n7 c7) ∧ w'.cell? ⟨w.heap.size + 1, 0, none⟩ = some (.bool x8) ∧ w'.cell? ⟨w.heap.size + 1, 1, none⟩ = some (.slice A8 n8 c8) ∧ w'.cell? ⟨w.heap.size + 1 + 1, 0, none⟩ = some (.bool false) ∧ w'.cell? ⟨w.heap.size + 1 + 1, 1, none⟩ = some (.slice none 0 0) ∧ w'.cell? ⟨w.heap.size + 1 + 1, 2, none⟩ = some (.bool false) ∧ w'.cell? ⟨w.heap.size + 1 + 1, 3, none⟩ = some (.slice none 0 0) ∧ w'.cell? ⟨w1.heap.size, 0, none⟩ = some (.bool x1) ∧ w'.cell? ⟨w1.heap.size, 1, none⟩ = some (.slice A1 n1 c1)) ∧ (w'.frozen? ⟨w.heap.size, 0, none⟩ = false ∧ w'.frozen? ⟨w.heap.size, 1, none⟩ = false ∧ w'.frozen? ⟨w.heap.size + 1, 0, none⟩ = false ∧ w'.frozen? ⟨w.heap.size + 1, 1, none⟩ = false ∧ w'.frozen? ⟨w.heap.size + 1 + 1, 0, none⟩ = false ∧ w'.frozen? ⟨w.heap.size + 1 + 1, 1, none⟩ = false ∧ w'.frozen? ⟨w.heap.size + 1 + 1, 2, none⟩ = false ∧ w'.frozen? ⟨w.heap.size + 1 + 1, 3, none⟩ = false ∧ w'.frozen? ⟨w1.heap.size, 0, none⟩ = false ∧ w'.frozen? ⟨w1.heap.size, 1, none⟩ = false) ∧ Hid (Mem w [(w.heap.size, 29, [.bool x7, .slice A7 n7 c7]), (w.heap.size + 1, 29, [.bool x8, .slice A8 n8 c8]), (w.heap.size + 1 + 1, 61, [.bool false, .slice none 0 0, .bool false, .slice none 0 0]), (w1.heap.size, 29, [.bool x1, .slice A1 n1 c1])] w')) := fun w' h => ⟨⟨h.c 0 rfl 0 rfl, h.c 0 rfl 1 rfl, h.c 1 rfl 0 rfl, h.c 1 rfl 1 rfl, h.c 2 rfl 0 rfl, h.c 2 rfl 1 rfl, h.c 2 rfl 2 rfl, h.c 2 rfl 3 rfl, h.c 3 rfl 0 rfl, h.c 3 rfl 1 rfl⟩, ⟨h.f 0 rfl 0, h.f 0 rfl 1, h.f 1 rfl 0, h.f 1 rfl 1, h.f 2 rfl 0, h.f 2 rfl 1, h.f 2 rfl 2, h.f 2 rfl 3, h.f 3 rfl 0, h.f 3 rfl 1⟩, h⟩
        have CG := (G1H.out _ T1.out).1
        go_wp2_with fail
        refine (refDiv_any (p := p) (q := p) (by omega) (by omega) IA1.out IG.out).mono ?_
        rintro e w2 ⟨x2, A2, n2, c2, x3, A3, n3, c3, rfl, hi2, hi3, hb2⟩
        have T2 : Hid (Mem w [(w.heap.size, 29, [.bool x7, .slice A7 n7 c7]), (w.heap.size + 1, 29, [.bool x8, .slice A8 n8 c8]), (w.heap.size + 1 + 1, 61, [.bool false, .slice none 0 0, .bool false, .slice none 0 0]), (w1.heap.size, 29, [.bool x1, .slice A1 n1 c1]), (w2.heap.size, 29, [.bool x2, .slice A2 n2 c2]), (w2.heap.size + 1, 29, [.bool x3, .slice A3 n3 c3])] ((w2.alloc (.cells #[.bool x2, .slice A2 n2 c2] 29)).alloc (.cells #[.bool x3, .slice A3 n3 c3] 29))) := (((Mem.over hb2 T1.out).push rfl 29 [.bool x2, .slice A2 n2 c2] rfl).push (by simp) 29 [.bool x3, .slice A3 n3 c3] rfl)
        have K2 : Hid (Kept w2 ((w2.alloc (.cells #[.bool x2, .slice A2 n2 c2] 29)).alloc (.cells #[.bool x3, .slice A3 n3 c3] 29))) := ((Kept.refl _).alloc _).alloc _
        have IG2 := Lib.hid ((IG.out.over hb2.out).kept K2.out)
        have IB2 := Lib.hid ((IB1.out.over hb2.out).kept K2.out)
        have IQ2 := Lib.hid ((hi2.out.kept K2.out).tight (quo_smallT HSA'.out))
        clear CG
        have G2H : Hid (∀ w' : World, Mem w [(w.heap.size, 29, [.bool x7, .slice A7 n7 c7]), (w.heap.size + 1, 29, [.bool x8, .slice A8 n8 c8]), (w.heap.size + 1 + 1, 61, [.bool false, .slice none 0 0, .bool false, .slice none 0 0]), (w1.heap.size, 29, [.bool x1, .slice A1 n1 c1]), (w2.heap.size, 29, [.bool x2, .slice A2 n2 c2]), (w2.heap.size + 1, 29, [.bool x3, .slice A3 n3 c3])] w' → (w'.cell? ⟨w.heap.size, 0, none⟩ = some (.bool x7) ∧ w'.cell? ⟨w.heap.size, 1, none⟩ = some (.slice A7 n7 c7) ∧ w'.cell? ⟨w.heap.size + 1, 0, none⟩ = some (.bool x8) ∧ w'.cell? ⟨w.heap.size + 1, 1, none⟩ = some (.slice A8 n8 c8) ∧ w'.cell? ⟨w.heap.size + 1 + 1, 0, none⟩ = some (.bool false) ∧ w'.cell? ⟨w.heap.size + 1 + 1, 1, none⟩ = some (.slice none 0 0) ∧ w'.cell? ⟨w.heap.size + 1 + 1, 2, none⟩ = some (.bool false) ∧ w'.cell? ⟨w.heap.size + 1 + 1, 3, none⟩ = some (.slice none 0 0) ∧ w'.cell? ⟨w1.heap.size, 0, none⟩ = some (.bool x1) ∧ w'.cell? ⟨w1.heap.size, 1, none⟩ = some (.slice A1 n1 c1) ∧ w'.cell? ⟨w2.heap.size, 0, none⟩ = some (.bool x2) ∧ w'.cell? ⟨w2.heap.size, 1, none⟩ = some (.slice A2 n2 c2) ∧ w'.cell? ⟨w2.heap.size + 1, 0, none⟩ = some (.bool x3) ∧ w'.cell? ⟨w2.heap.size + 1, 1, none⟩ = some (.slice A3 n3 c3)) ∧ (w'.frozen? ⟨w.heap.size, 0, none⟩ = false ∧ w'.frozen? ⟨w.heap.size, 1, none⟩ = false ∧ w'.frozen? ⟨w.heap.size + 1, 0, none⟩ = false ∧ w'.frozen? ⟨w.heap.size + 1, 1, none⟩ = false ∧ w'.frozen? ⟨w.heap.size + 1 + 1, 0, none⟩ = false ∧ w'.frozen? ⟨w.heap.size + 1 + 1, 1, none⟩ = false ∧ w'.frozen? ⟨w.heap.size + 1 + 1, 2, none⟩ = false ∧ w'.frozen? ⟨w.heap.size + 1 + 1, 3, none⟩ = false ∧ w'.frozen? ⟨w1.heap.size, 0, none⟩ = false ∧ w'.frozen? ⟨w1.heap.size, 1, none⟩ = false ∧ w'.frozen? ⟨w2.heap.size, 0, none⟩ = false ∧ w'.frozen? ⟨w2.heap.size, 1, none⟩ = false ∧ w'.frozen? ⟨w2.heap.size + 1, 0, none⟩ = false ∧ w'.frozen? ⟨w2.heap.size + 1, 1, none⟩ = false) ∧ Hid (Mem w [(w.heap.size, 29, [.bool x7, .slice A7 n7 c7]), (w.heap.size + 1, 29, [.bool x8, .slice A8 n8 c8]), (w.heap.size + 1 + 1, 61, [.bool false, .slice none 0 0, .bool false, .slice none 0 0]), (w1.heap.size, 29, [.bool x1, .slice A1 n1 c1]), (w2.heap.size, 29, [.bool x2, .slice A2 n2 c2]), (w2.heap.size + 1, 29, [.bool x3, .slice A3 n3 c3])] w')) := fun w' h => ⟨⟨h.c 0 rfl 0 rfl, h.c 0 rfl 1 rfl, h.c 1 rfl 0 rfl, h.c 1 rfl 1 rfl, h.c 2 rfl 0 rfl, h.c 2 rfl 1 rfl, h.c 2 rfl 2 rfl, h.c 2 rfl 3 rfl, h.c 3 rfl 0 rfl, h.c 3 rfl 1 rfl, h.c 4 rfl 0 rfl, h.c 4 rfl 1 rfl, h.c 5 rfl 0 rfl, h.c 5 rfl 1 rfl⟩, ⟨h.f 0 rfl 0, h.f 0 rfl 1, h.f 1 rfl 0, h.f 1 rfl 1, h.f 2 rfl 0, h.f 2 rfl 1, h.f 2 rfl 2, h.f 2 rfl 3, h.f 3 rfl 0, h.f 3 rfl 1, h.f 4 rfl 0, h.f 4 rfl 1, h.f 5 rfl 0, h.f 5 rfl 1⟩, h⟩
        have CH := (G2H.out _ T2.out).1
        go_wp2_with fail
        refine (refDiv_any (p := p) (q := p) (by omega) (by omega) IB2.out IG2.out).mono ?_
        rintro e w3 ⟨x4, A4, n4, c4, x5, A5, n5, c5, rfl, hi4, hi5, hb3⟩
        have T3 : Hid (Mem w [(w.heap.size, 29, [.bool x7, .slice A7 n7 c7]), (w.heap.size + 1, 29, [.bool x8, .slice A8 n8 c8]), (w.heap.size + 1 + 1, 61, [.bool false, .slice none 0 0, .bool false, .slice none 0 0]), (w1.heap.size, 29, [.bool x1, .slice A1 n1 c1]), (w2.heap.size, 29, [.bool x2, .slice A2 n2 c2]), (w2.heap.size + 1, 29, [.bool x3, .slice A3 n3 c3]), (w3.heap.size, 29, [.bool x4, .slice A4 n4 c4]), (w3.heap.size + 1, 29, [.bool x5, .slice A5 n5 c5])] ((w3.alloc (.cells #[.bool x4, .slice A4 n4 c4] 29)).alloc (.cells #[.bool x5, .slice A5 n5 c5] 29))) := (((Mem.over hb3 T2.out).push rfl 29 [.bool x4, .slice A4 n4 c4] rfl).push (by simp) 29 [.bool x5, .slice A5 n5 c5] rfl)
        have K3 : Hid (Kept w3 ((w3.alloc (.cells #[.bool x4, .slice A4 n4 c4] 29)).alloc (.cells #[.bool x5, .slice A5 n5 c5] 29))) := ((Kept.refl _).alloc _).alloc _
        have IQ3 := Lib.hid ((IQ2.out.over hb3.out).kept K3.out)
        have IR3 := Lib.hid ((hi4.out.kept K3.out).tight (quo_smallT HSB'.out))
        clear CH
        have G3H : Hid (∀ w' : World, Mem w [(w.heap.size, 29, [.bool x7, .slice A7 n7 c7]), (w.heap.size + 1, 29, [.bool x8, .slice A8 n8 c8]), (w.heap.size + 1 + 1, 61, [.bool false, .slice none 0 0, .bool false, .slice none 0 0]), (w1.heap.size, 29, [.bool x1, .slice A1 n1 c1]), (w2.heap.size, 29, [.bool x2, .slice A2 n2 c2]), (w2.heap.size + 1, 29, [.bool x3, .slice A3 n3 c3]), (w3.heap.size, 29, [.bool x4, .slice A4 n4 c4]), (w3.heap.size + 1, 29, [.bool x5, .slice A5 n5 c5])] w' → (w'.cell? ⟨w.heap.size, 0, none⟩ = some (.bool x7) ∧ w'.cell? ⟨w.heap.size, 1, none⟩ = some (.slice A7 n7 c7) ∧ w'.cell? ⟨w.heap.size + 1, 0, none⟩ = some (.bool x8) ∧ w'.cell? ⟨w.heap.size + 1, 1, none⟩ = some (.slice A8 n8 c8) ∧ w'.cell? ⟨w.heap.size + 1 + 1, 0, none⟩ = some (.bool false) ∧ w'.cell? ⟨w.heap.size + 1 + 1, 1, none⟩ = some (.slice none 0 0) ∧ w'.cell? ⟨w.heap.size + 1 + 1, 2, none⟩ = some (.bool false) ∧ w'.cell? ⟨w.heap.size + 1 + 1, 3, none⟩ = some (.slice none 0 0) ∧ w'.cell? ⟨w1.heap.size, 0, none⟩ = some (.bool x1) ∧ w'.cell? ⟨w1.heap.size, 1, none⟩ = some (.slice A1 n1 c1) ∧ w'.cell? ⟨w2.heap.size, 0, none⟩ = some (.bool x2) ∧ w'.cell? ⟨w2.heap.size, 1, none⟩ = some (.slice A2 n2 c2) ∧ w'.cell? ⟨w2.heap.size + 1, 0, none⟩ = some (.bool x3) ∧ w'.cell? ⟨w2.heap.size + 1, 1, none⟩ = some (.slice A3 n3 c3) ∧ w'.cell? ⟨w3.heap.size, 0, none⟩ = some (.bool x4) ∧ w'.cell? ⟨w3.heap.size, 1, none⟩ = some (.slice A4 n4 c4) ∧ w'.cell? ⟨w3.heap.size + 1, 0, none⟩ = some (.bool x5) ∧ w'.cell? ⟨w3.heap.size + 1, 1, none⟩ = some (.slice A5 n5 c5)) ∧ (w'.frozen? ⟨w.heap.size, 0, none⟩ = false ∧ w'.frozen? ⟨w.heap.size, 1, none⟩ = false ∧ w'.frozen? ⟨w.heap.size + 1, 0, none⟩ = false ∧ w'.frozen? ⟨w.heap.size + 1, 1, none⟩ = false ∧ w'.frozen? ⟨w.heap.size + 1 + 1, 0, none⟩ = false ∧ w'.frozen? ⟨w.heap.size + 1 + 1, 1, none⟩ = false ∧ w'.frozen? ⟨w.heap.size + 1 + 1, 2, none⟩ = false ∧ w'.frozen? ⟨w.heap.size + 1 + 1, 3, none⟩ = false ∧ w'.frozen? ⟨w1.heap.size, 0, none⟩ = false ∧ w'.frozen? ⟨w1.heap.size, 1, none⟩ = false ∧ w'.frozen? ⟨w2.heap.size, 0, none⟩ = false ∧ w'.frozen? ⟨w2.heap.size, 1, none⟩ = false ∧ w'.frozen? ⟨w2.heap.size + 1, 0, none⟩ = false ∧ w'.frozen? ⟨w2.heap.size + 1, 1, none⟩ = false ∧ w'.frozen? ⟨w3.heap.size, 0, none⟩ = false ∧ w'.frozen? ⟨w3.heap.size, 1, none⟩ = false ∧ w'.frozen? ⟨w3.heap.size + 1, 0, none⟩ = false ∧ w'.frozen? ⟨w3.heap.size + 1, 1, none⟩ = false) ∧ Hid (Mem w [(w.heap.size, 29, [.bool x7, .slice A7 n7 c7]), (w.heap.size + 1, 29, [.bool x8, .slice A8 n8 c8]), (w.heap.size + 1 + 1, 61, [.bool false, .slice none 0 0, .bool false, .slice none 0 0]), (w1.heap.size, 29, [.bool x1, .slice A1 n1 c1]), (w2.heap.size, 29, [.bool x2, .slice A2 n2 c2]), (w2.heap.size + 1, 29, [.bool x3, .slice A3 n3 c3]), (w3.heap.size, 29, [.bool x4, .slice A4 n4 c4]), (w3.heap.size + 1, 29, [.bool x5, .slice A5 n5 c5])] w')) := fun w' h => ⟨⟨h.c 0 rfl 0 rfl, h.c 0 rfl 1 rfl, h.c 1 rfl 0 rfl, h.c 1 rfl 1 rfl, h.c 2 rfl 0 rfl, h.c 2 rfl 1 rfl, h.c 2 rfl 2 rfl, h.c 2 rfl 3 rfl, h.c 3 rfl 0 rfl, h.c 3 rfl 1 rfl, h.c 4 rfl 0 rfl, h.c 4 rfl 1 rfl, h.c 5 rfl 0 rfl, h.c 5 rfl 1 rfl, h.c 6 rfl 0 rfl, h.c 6 rfl 1 rfl, h.c 7 rfl 0 rfl, h.c 7 rfl 1 rfl⟩, ⟨h.f 0 rfl 0, h.f 0 rfl 1, h.f 1 rfl 0, h.f 1 rfl 1, h.f 2 rfl 0, h.f 2 rfl 1, h.f 2 rfl 2, h.f 2 rfl 3, h.f 3 rfl 0, h.f 3 rfl 1, h.f 4 rfl 0, h.f 4 rfl 1, h.f 5 rfl 0, h.f 5 rfl 1, h.f 6 rfl 0, h.f 6 rfl 1, h.f 7 rfl 0, h.f 7 rfl 1⟩, h⟩
        have CI := (G3H.out _ T3.out).1
        have FI := (G3H.out _ T3.out).2.1
        have T9 := Lib.hid ((((T3.out.set_ 2 rfl 0 (v := .bool x2) rfl).set_ 2 rfl 1 (v := .slice A2 n2 c2) rfl).set_ 2 rfl 2 (v := .bool x4) rfl).set_ 2 rfl 3 (v := .slice A4 n4 c4) rfl)
        have KT9 := Lib.hid ((((T3.out.kept_set 2 rfl 0 (.bool x2)).trans ((T3.out.set_ 2 rfl 0 (v := .bool x2) rfl).kept_set 2 rfl 1 (.slice A2 n2 c2))).trans (((T3.out.set_ 2 rfl 0 (v := .bool x2) rfl).set_ 2 rfl 1 (v := .slice A2 n2 c2) rfl).kept_set 2 rfl 2 (.bool x4))).trans ((((T3.out.set_ 2 rfl 0 (v := .bool x2) rfl).set_ 2 rfl 1 (v := .slice A2 n2 c2) rfl).set_ 2 rfl 2 (v := .bool x4) rfl).kept_set 2 rfl 3 (.slice A4 n4 c4)))
        have e0 := T9.out.c 2 rfl 0 rfl
        have e1 := T9.out.c 2 rfl 1 rfl
        have e2 := T9.out.c 2 rfl 2 rfl
        have e3 := T9.out.c 2 rfl 3 rfl
        go_wp2
        (try simp only [Exit.inBlock, Exit.then])
        refine bodyPost_ret (v := .agg #[.bool x2, .slice A2 n2 c2, .bool x4, .slice A4 n4 c4]) (by simp [results, Tryd.results59, go_sem, e0, e1, e2, e3]) rfl ⟨x2, A2, n2, c2, x4, A4, n4, c4, rfl, ?_, T9.out.below⟩
        exact ⟨x2, A2, n2, c2, x4, A4, n4, c4, rfl, by rw [HP.out.1]; exact IQ3.out.kept KT9.out, by rw [HP.out.2]; exact IR3.out.kept KT9.out⟩
      | false =>
        have HP : Hid ((Rat.divInt a b).num = quoZ a ((Nat.gcd a.natAbs b.natAbs : Nat) : Int) ∧ ((Rat.divInt a b).den : Int) = quoZ b ((Nat.gcd a.natAbs b.natAbs : Nat) : Int)) := make_parts (by have := SY.2 rfl; omega)
        clear NX NY SY hm hn hb0
        have IA := Lib.hid (HX.out.over HT.out.below)
        have IB := Lib.hid (HY.out.over HT.out.below)
        have HSA' := HSA
        have HSB' := HSB
        clear C0 F0
        go_enter Tryd.func59, Tryd.ntmps59
        have CT := (A0.out _ HT.out).1
        go_wp2_with fail
        refine (refGcd_any (p := p) (by omega) IA.out IB.out).mono ?_
        rintro e w1 ⟨x1, A1, n1, c1, rfl, hi1, hb1⟩
        have T1 : Hid (Mem w [(w.heap.size, 29, [.bool nx, .slice A n c]), (w.heap.size + 1, 29, [.bool false, .slice B m d]), (w.heap.size + 1 + 1, 61, [.bool false, .slice none 0 0, .bool false, .slice none 0 0]), (w1.heap.size, 29, [.bool x1, .slice A1 n1 c1])] (w1.alloc (.cells #[.bool x1, .slice A1 n1 c1] 29))) := ((Mem.over hb1 HT.out).push rfl 29 [.bool x1, .slice A1 n1 c1] rfl)
        have K1 : Hid (Kept w1 (w1.alloc (.cells #[.bool x1, .slice A1 n1 c1] 29))) := (Kept.refl _).alloc _
        have IG := Lib.hid (hi1.out.kept K1.out)
        have IA1 := Lib.hid ((IA.out.over hb1.out).kept K1.out)
        have IB1 := Lib.hid ((IB.out.over hb1.out).kept K1.out)
        clear CT
        have G1H : Hid (∀ w' : World, Mem w [(w.heap.size, 29, [.bool nx, .slice A n c]), (w.heap.size + 1, 29, [.bool false, .slice B m d]), (w.heap.size + 1 + 1, 61, [.bool false, .slice none 0 0, .bool false, .slice none 0 0]), (w1.heap.size, 29, [.bool x1, .slice A1 n1 c1])] w' → (w'.cell? ⟨w.heap.size, 0, none⟩ = some (.bool nx) ∧ w'.cell? ⟨w.heap.size, 1, none⟩ = some (.slice A n c) ∧ w'.cell? ⟨w.heap.size + 1, 0, none⟩ = some (.bool false) ∧ w'.cell? ⟨w.heap.size + 1, 1, none⟩ = some (.slice B m d) ∧ w'.cell? ⟨w.heap.size + 1 + 1, 0, none⟩ = some (.bool false) ∧ w'.cell? ⟨w.heap.size + 1 + 1, 1, none⟩ = some (.slice none 0 0) ∧ w'.cell? ⟨w.heap.size + 1 + 1, 2, none⟩ = some (.bool false) ∧ w'.cell? ⟨w.heap.size + 1 + 1, 3, none⟩ = some (.slice none 0 0) ∧ w'.cell? ⟨w1.heap.size, 0, none⟩ = some (.bool x1) ∧ w'.cell? ⟨w1.heap.size, 1, none⟩ = some (.slice A1 n1 c1)) ∧ (w'.frozen? ⟨w.heap.size, 0, none⟩ = false ∧ w'.frozen? ⟨w.heap.size, 1, none⟩ = false ∧ w'.frozen? ⟨w.heap.size + 1, 0, none⟩ = false ∧ w'.frozen? ⟨w.heap.size + 1, 1, none⟩ = false ∧ w'.frozen? ⟨w.heap.size + 1 + 1, 0, none⟩ = false ∧ w'.frozen? ⟨w.heap.size + 1 + 1, 1, none⟩ = false ∧ w'.frozen? ⟨w.heap.size + 1 + 1, 2, none⟩ = false ∧ w'.frozen? ⟨w.heap.size + 1 + 1, 3, none⟩ = false ∧ w'.frozen? ⟨w1.heap.size, 0, none⟩ = false ∧ w'.frozen? ⟨w1.heap.size, 1, none⟩ = false) ∧ Hid (Mem w [(w.heap.size, 29, [.bool nx, .slice A n c]), (w.heap.size + 1, 29, [.bool false, .slice B m d]), (w.heap.size + 1 + 1, 61, [.bool false, .slice none 0 0, .bool false, .slice none 0 0]), (w1.heap.size, 29, [.bool x1, .slice A1 n1 c1])] w')) := fun w' h => ⟨⟨h.c 0 rfl 0 rfl, h.c 0 rfl 1 rfl, h.c 1 rfl 0 rfl, h.c 1 rfl 1 rfl, h.c 2 rfl 0 rfl, h.c 2 rfl 1 rfl, h.c 2 rfl 2 rfl, h.c 2 rfl 3 rfl, h.c 3 rfl 0 rfl, h.c 3 rfl 1 rfl⟩, ⟨h.f 0 rfl 0, h.f 0 rfl 1, h.f 1 rfl 0, h.f 1 rfl 1, h.f 2 rfl 0, h.f 2 rfl 1, h.f 2 rfl 2, h.f 2 rfl 3, h.f 3 rfl 0, h.f 3 rfl 1⟩, h⟩
        have CG := (G1H.out _ T1.out).1
        go_wp2_with fail
        refine (refDiv_any (p := p) (q := p) (by omega) (by omega) IA1.out IG.out).mono ?_
        rintro e w2 ⟨x2, A2, n2, c2, x3, A3, n3, c3, rfl, hi2, hi3, hb2⟩
        have T2 : Hid (Mem w [(w.heap.size, 29, [.bool nx, .slice A n c]), (w.heap.size + 1, 29, [.bool false, .slice B m d]), (w.heap.size + 1 + 1, 61, [.bool false, .slice none 0 0, .bool false, .slice none 0 0]), (w1.heap.size, 29, [.bool x1, .slice A1 n1 c1]), (w2.heap.size, 29, [.bool x2, .slice A2 n2 c2]), (w2.heap.size + 1, 29, [.bool x3, .slice A3 n3 c3])] ((w2.alloc (.cells #[.bool x2, .slice A2 n2 c2] 29)).alloc (.cells #[.bool x3, .slice A3 n3 c3] 29))) := (((Mem.over hb2 T1.out).push rfl 29 [.bool x2, .slice A2 n2 c2] rfl).push (by simp) 29 [.bool x3, .slice A3 n3 c3] rfl)
        have K2 : Hid (Kept w2 ((w2.alloc (.cells #[.bool x2, .slice A2 n2 c2] 29)).alloc (.cells #[.bool x3, .slice A3 n3 c3] 29))) := ((Kept.refl _).alloc _).alloc _
        have IG2 := Lib.hid ((IG.out.over hb2.out).kept K2.out)
        have IB2 := Lib.hid ((IB1.out.over hb2.out).kept K2.out)
        have IQ2 := Lib.hid ((hi2.out.kept K2.out).tight (quo_smallT HSA'.out))
        clear CG
        have G2H : Hid (∀ w' : World, Mem w [(w.heap.size, 29, [.bool nx, .slice A n c]), (w.heap.size + 1, 29, [.bool false, .slice B m d]), (w.heap.size + 1 + 1, 61, [.bool false, .slice none 0 0, .bool false, .slice none 0 0]), (w1.heap.size, 29, [.bool x1, .slice A1 n1 c1]), (w2.heap.size, 29, [.bool x2, .slice A2 n2 c2]), (w2.heap.size + 1, 29, [.bool x3, .slice A3 n3 c3])] w' → (w'.cell? ⟨w.heap.size, 0, none⟩ = some (.bool nx) ∧ w'.cell? ⟨w.heap.size, 1, none⟩ = some (.slice A n c) ∧ w'.cell? ⟨w.heap.size + 1, 0, none⟩ = some (.bool false) ∧ w'.cell? ⟨w.heap.size + 1, 1, none⟩ = some (.slice B m d) ∧ w'.cell? ⟨w.heap.size + 1 + 1, 0, none⟩ = some (.bool false) ∧ w'.cell? ⟨w.heap.size + 1 + 1, 1, none⟩ = some (.slice none 0 0) ∧ w'.cell? ⟨w.heap.size + 1 + 1, 2, none⟩ = some (.bool false) ∧ w'.cell? ⟨w.heap.size + 1 + 1, 3, none⟩ = some (.slice none 0 0) ∧ w'.cell? ⟨w1.heap.size, 0, none⟩ = some (.bool x1) ∧ w'.cell? ⟨w1.heap.size, 1, none⟩ = some (.slice A1 n1 c1) ∧ w'.cell? ⟨w2.heap.size, 0, none⟩ = some (.bool x2) ∧ w'.cell? ⟨w2.heap.size, 1, none⟩ = some (.slice A2 n2 c2) ∧ w'.cell? ⟨w2.heap.size + 1, 0, none⟩ = some (.bool x3) ∧ w'.cell? ⟨w2.heap.size + 1, 1, none⟩ = some (.slice A3 n3 c3)) ∧ (w'.frozen? ⟨w.heap.size, 0, none⟩ = false ∧ w'.frozen? ⟨w.heap.size, 1, none⟩ = false ∧ w'.frozen? ⟨w.heap.size + 1, 0, none⟩ = false ∧ w'.frozen? ⟨w.heap.size + 1, 1, none⟩ = false ∧ w'.frozen? ⟨w.heap.size + 1 + 1, 0, none⟩ = false ∧ w'.frozen? ⟨w.heap.size + 1 + 1, 1, none⟩ = false ∧ w'.frozen? ⟨w.heap.size + 1 + 1, 2, none⟩ = false ∧ w'.frozen? ⟨w.heap.size + 1 + 1, 3, none⟩ = false ∧ w'.frozen? ⟨w1.heap.size, 0, none⟩ = false ∧ w'.frozen? ⟨w1.heap.size, 1, none⟩ = false ∧ w'.frozen? ⟨w2.heap.size, 0, none⟩ = false ∧ w'.frozen? ⟨w2.heap.size, 1, none⟩ = false ∧ w'.frozen? ⟨w2.heap.size + 1, 0, none⟩ = false ∧ w'.frozen? ⟨w2.heap.size + 1, 1, none⟩ = false) ∧ Hid (Mem w [(w.heap.size, 29, [.bool nx, .slice A n c]), (w.heap.size + 1, 29, [.bool false, .slice B m d]), (w.heap.size + 1 + 1, 61, [.bool false, .slice none 0 0, .bool false, .slice none 0 0]), (w1.heap.size, 29, [.bool x1, .slice A1 n1 c1]), (w2.heap.size, 29, [.bool x2, .slice A2 n2 c2]), (w2.heap.size + 1, 29, [.bool x3, .slice A3 n3 c3])] w')) := fun w' h => ⟨⟨h.c 0 rfl 0 rfl, h.c 0 rfl 1 rfl, h.c 1 rfl 0 rfl, h.c 1 rfl 1 rfl, h.c 2 rfl 0 rfl, h.c 2 rfl 1 rfl, h.c 2 rfl 2 rfl, h.c 2 rfl 3 rfl, h.c 3 rfl 0 rfl, h.c 3 rfl 1 rfl, h.c 4 rfl 0 rfl, h.c 4 rfl 1 rfl, h.c 5 rfl 0 rfl, h.c 5 rfl 1 rfl⟩, ⟨h.f 0 rfl 0, h.f 0 rfl 1, h.f 1 rfl 0, h.f 1 rfl 1, h.f 2 rfl 0, h.f 2 rfl 1, h.f 2 rfl 2, h.f 2 rfl 3, h.f 3 rfl 0, h.f 3 rfl 1, h.f 4 rfl 0, h.f 4 rfl 1, h.f 5 rfl 0, h.f 5 rfl 1⟩, h⟩
        have CH := (G2H.out _ T2.out).1
        go_wp2_with fail
        refine (refDiv_any (p := p) (q := p) (by omega) (by omega) IB2.out IG2.out).mono ?_
        rintro e w3 ⟨x4, A4, n4, c4, x5, A5, n5, c5, rfl, hi4, hi5, hb3⟩
        have T3 : Hid (Mem w [(w.heap.size, 29, [.bool nx, .slice A n c]), (w.heap.size + 1, 29, [.bool false, .slice B m d]), (w.heap.size + 1 + 1, 61, [.bool false, .slice none 0 0, .bool false, .slice none 0 0]), (w1.heap.size, 29, [.bool x1, .slice A1 n1 c1]), (w2.heap.size, 29, [.bool x2, .slice A2 n2 c2]), (w2.heap.size + 1, 29, [.bool x3, .slice A3 n3 c3]), (w3.heap.size, 29, [.bool x4, .slice A4 n4 c4]), (w3.heap.size + 1, 29, [.bool x5, .slice A5 n5 c5])] ((w3.alloc (.cells #[.bool x4, .slice A4 n4 c4] 29)).alloc (.cells #[.bool x5, .slice A5 n5 c5] 29))) := (((Mem.over hb3 T2.out).push rfl 29 [.bool x4, .slice A4 n4 c4] rfl).push (by simp) 29 [.bool x5, .slice A5 n5 c5] rfl)
        have K3 : Hid (Kept w3 ((w3.alloc (.cells #[.bool x4, .slice A4 n4 c4] 29)).alloc (.cells #[.bool x5, .slice A5 n5 c5] 29))) := ((Kept.refl _).alloc _).alloc _
        have IQ3 := Lib.hid ((IQ2.out.over hb3.out).kept K3.out)
        have IR3 := Lib.hid ((hi4.out.kept K3.out).tight (quo_smallT HSB'.out))
        clear CH
        have G3H : Hid (∀ w' : World, Mem w [(w.heap.size, 29, [.bool nx, .slice A n c]), (w.heap.size + 1, 29, [.bool false, .slice B m d]), (w.heap.size + 1 + 1, 61, [.bool false, .slice none 0 0, .bool false, .slice none 0 0]), (w1.heap.size, 29, [.bool x1, .slice A1 n1 c1]), (w2.heap.size, 29, [.bool x2, .slice A2 n2 c2]), (w2.heap.size + 1, 29, [.bool x3, .slice A3 n3 c3]), (w3.heap.size, 29, [.bool x4, .slice A4 n4 c4]), (w3.heap.size + 1, 29, [.bool x5, .slice A5 n5 c5])] w' → (w'.cell? ⟨w.heap.size, 0, none⟩ = some (.bool nx) ∧ w'.cell? ⟨w.heap.size, 1, none⟩ = some (.slice A n c) ∧ w'.cell? ⟨w.heap.size + 1, 0, none⟩ = some (.bool false) ∧ w'.cell? ⟨w.heap.size + 1, 1, none⟩ = some (.slice B m d) ∧ w'.cell? ⟨w.heap.size + 1 + 1, 0, none⟩ = some (.bool false) ∧ w'.cell? ⟨w.heap.size + 1 + 1, 1, none⟩ = some (.slice none 0 0) ∧ w'.cell? ⟨w.heap.size + 1 + 1, 2, none⟩ = some (.bool false) ∧ w'.cell? ⟨w.heap.size + 1 + 1, 3, none⟩ = some (.slice none 0 0) ∧ w'.cell? ⟨w1.heap.size, 0, none⟩ = some (.bool x1) ∧ w'.cell? ⟨w1.heap.size, 1, none⟩ = some (.slice A1 n1 c1) ∧ w'.cell? ⟨w2.heap.size, 0, none⟩ = some (.bool x2) ∧ w'.cell? ⟨w2.heap.size, 1, none⟩ = some (.slice A2 n2 c2) ∧ w'.cell? ⟨w2.heap.size + 1, 0, none⟩ = some (.bool x3) ∧ w'.cell? ⟨w2.heap.size + 1, 1, none⟩ = some (.slice A3 n3 c3) ∧ w'.cell? ⟨w3.heap.size, 0, none⟩ = some (.bool x4) ∧ w'.cell? ⟨w3.heap.size, 1, none⟩ = some (.slice A4 n4 c4) ∧ w'.cell? ⟨w3.heap.size + 1, 0, none⟩ = some (.bool x5) ∧ w'.cell? ⟨w3.heap.size + 1, 1, none⟩ = some (.slice A5 n5 c5)) ∧ (w'.frozen? ⟨w.heap.size, 0, none⟩ = false ∧ w'.frozen? ⟨w.heap.size, 1, none⟩ = false ∧ w'.frozen? ⟨w.heap.size + 1, 0, none⟩ = false ∧ w'.frozen? ⟨w.heap.size + 1, 1, none⟩ = false ∧ w'.frozen? ⟨w.heap.size + 1 + 1, 0, none⟩ = false ∧ w'.frozen? ⟨w.heap.size + 1 + 1, 1, none⟩ = false ∧ w'.frozen? ⟨w.heap.size + 1 + 1, 2, none⟩ = false ∧ w'.frozen? ⟨w.heap.size + 1 + 1, 3, none⟩ = false ∧ w'.frozen? ⟨w1.heap.size, 0, none⟩ = false ∧ w'.frozen? ⟨w1.heap.size, 1, none⟩ = false ∧ w'.frozen? ⟨w2.heap.size, 0, none⟩ = false ∧ w'.frozen? ⟨w2.heap.size, 1, none⟩ = false ∧ w'.frozen? ⟨w2.heap.size + 1, 0, none⟩ = false ∧ w'.frozen? ⟨w2.heap.size + 1, 1, none⟩ = false ∧ w'.frozen? ⟨w3.heap.size, 0, none⟩ = false ∧ w'.frozen? ⟨w3.heap.size, 1, none⟩ = false ∧ w'.frozen? ⟨w3.heap.size + 1, 0, none⟩ = false ∧ w'.frozen? ⟨w3.heap.size + 1, 1, none⟩ = false) ∧ Hid (Mem w [(w.heap.size, 29, [.bool nx, .slice A n c]), (w.heap.size + 1, 29, [.bool false, .slice B m d]), (w.heap.size + 1 + 1, 61, [.bool false, .slice none 0 0, .bool false, .slice none 0 0]), (w1.heap.size, 29, [.bool x1, .slice A1 n1 c1]), (w2.heap.size, 29, [.bool x2, .slice A2 n2 c2]), (w2.heap.size + 1, 29, [.bool x3, .slice A3 n3 c3]), (w3.heap.size, 29, [.bool x4, .slice A4 n4 c4]), (w3.heap.size + 1, 29, [.bool x5, .slice A5 n5 c5])] w')) := fun w' h => ⟨⟨h.c 0 rfl 0 rfl, h.c 0 rfl 1 rfl, h.c 1 rfl 0 rfl, h.c 1 rfl 1 rfl, h.c 2 rfl 0 rfl, h.c 2 rfl 1 rfl, h.c 2 rfl 2 rfl, h.c 2 rfl 3 rfl, h.c 3 rfl 0 rfl, h.c 3 rfl 1 rfl, h.c 4 rfl 0 rfl, h.c 4 rfl 1 rfl, h.c 5 rfl 0 rfl, h.c 5 rfl 1 rfl, h.c 6 rfl 0 rfl, h.c 6 rfl 1 rfl, h.c 7 rfl 0 rfl, h.c 7 rfl 1 rfl⟩, ⟨h.f 0 rfl 0, h.f 0 rfl 1, h.f 1 rfl 0, h.f 1 rfl 1, h.f 2 rfl 0, h.f 2 rfl 1, h.f 2 rfl 2, h.f 2 rfl 3, h.f 3 rfl 0, h.f 3 rfl 1, h.f 4 rfl 0, h.f 4 rfl 1, h.f 5 rfl 0, h.f 5 rfl 1, h.f 6 rfl 0, h.f 6 rfl 1, h.f 7 rfl 0, h.f 7 rfl 1⟩, h⟩
        have CI := (G3H.out _ T3.out).1
        have FI := (G3H.out _ T3.out).2.1
        have T9 := Lib.hid ((((T3.out.set_ 2 rfl 0 (v := .bool x2) rfl).set_ 2 rfl 1 (v := .slice A2 n2 c2) rfl).set_ 2 rfl 2 (v := .bool x4) rfl).set_ 2 rfl 3 (v := .slice A4 n4 c4) rfl)
        have KT9 := Lib.hid ((((T3.out.kept_set 2 rfl 0 (.bool x2)).trans ((T3.out.set_ 2 rfl 0 (v := .bool x2) rfl).kept_set 2 rfl 1 (.slice A2 n2 c2))).trans (((T3.out.set_ 2 rfl 0 (v := .bool x2) rfl).set_ 2 rfl 1 (v := .slice A2 n2 c2) rfl).kept_set 2 rfl 2 (.bool x4))).trans ((((T3.out.set_ 2 rfl 0 (v := .bool x2) rfl).set_ 2 rfl 1 (v := .slice A2 n2 c2) rfl).set_ 2 rfl 2 (v := .bool x4) rfl).kept_set 2 rfl 3 (.slice A4 n4 c4)))
        have e0 := T9.out.c 2 rfl 0 rfl
        have e1 := T9.out.c 2 rfl 1 rfl
        have e2 := T9.out.c 2 rfl 2 rfl
        have e3 := T9.out.c 2 rfl 3 rfl
        go_wp2
        (try simp only [Exit.inBlock, Exit.then])
        refine bodyPost_ret (v := .agg #[.bool x2, .slice A2 n2 c2, .bool x4, .slice A4 n4 c4]) (by simp [results, Tryd.results59, go_sem, e0, e1, e2, e3]) rfl ⟨x2, A2, n2, c2, x4, A4, n4, c4, rfl, ?_, T9.out.below⟩
        exact ⟨x2, A2, n2, c2, x4, A4, n4, c4, rfl, by rw [HP.out.1]; exact IQ3.out.kept KT9.out, by rw [HP.out.2]; exact IR3.out.kept KT9.out⟩
end Go.Proofs.YtpikbhcjgcbdfaaDoor.wh
