/- Package frac: lay, Neg, Make. -/
import Derived.Test.YtpikbhcjgcbdfaaDoorFr2
namespace Go.Proofs.YtpikbhcjgcbdfaaDoor.wh
open Go.RowKit

theorem int_below {x : Bool} {A : Option Addr} {n c m B : Nat} {z : Int} {w : World} (h : IsInt w B m (.agg #[.bool x, .slice A n c]) z) (hz : z < 0) : x = true := by
  obtain ⟨neg, A', n', c', ds, hv, h2, h3, h4, h5, h6, h7⟩ := h
  cases hv
  cases x with
  | true => rfl
  | false =>
    simp [zval] at h7
    omega
theorem Mem.perm {w w' : World} {L L' : List (Nat × TypeId × List Value)} (h : Mem w L w') (p : L.Perm L') : Mem w L' w' :=
  ⟨h.below, fun x hx => h.blk x (p.mem_iff.2 hx), fun x hx => h.ge x (p.mem_iff.2 hx), fun x hx => h.ni x (p.mem_iff.2 hx), (p.pairwise_iff (fun hab => hab.symm)).1 h.dis⟩
theorem und_is {q : Rat} {z : Int} (hd : (q.den : Int) = z) : undZ q = if z = 1 then 0 else z := by
  subst hd
  unfold undZ
  by_cases h : q.den = 1
  · rw [if_pos h, if_pos (by omega)]
  · rw [if_neg h, if_neg (by omega)]

set_option maxRecDepth 100000 in
set_option maxHeartbeats 2000000 in
theorem lay_any {v u : Value} {p q k : Nat} {a b : Int} {w : World} (hp : p ≤ k) (hq : q ≤ k) (hk : k ≤ 900) (hx : IsInt w w.heap.size p v a) (hy : IsInt w w.heap.size q u b) (hb0 : b ≠ 0) (hg : Nat.gcd a.natAbs b.natAbs = 1) :
    Calls Tryd.prog 88 #[v, u] w fun e w' => GivesF w k (Rat.divInt a b) e w' := by
  have HX := Lib.hid (hx.more (Nat.le_refl _) hp)
  have HY := Lib.hid (hy.more (Nat.le_refl _) hq)
  obtain ⟨nx, A, n, c, xs, rfl, hx2⟩ := hx
  obtain ⟨ny, B, m, d, ys, rfl, hy2⟩ := hy
  clear hx2 hy2 hp hq
  have HB0 := Lib.hid hb0
  have HG := Lib.hid hg
  have HT : Hid (Mem w [(w.heap.size, 24, [.bool nx, .slice A n c]), (w.heap.size + 1, 24, [.bool ny, .slice B m d]), (w.heap.size + 1 + 1, 58, [.bool false, .slice none 0 0, .bool false, .slice none 0 0])] (((w.alloc (.cells #[.bool nx, .slice A n c] 24)).alloc (.cells #[.bool ny, .slice B m d] 24)).alloc (.cells #[.bool false, .slice none 0 0, .bool false, .slice none 0 0] 58))) := ((((Mem.new w).push (by simp) 24 [.bool nx, .slice A n c] rfl).push (by simp) 24 [.bool ny, .slice B m d] rfl).push (by simp) 58 [.bool false, .slice none 0 0, .bool false, .slice none 0 0] rfl)
  have A0 : Hid (∀ w' : World, Mem w [(w.heap.size, 24, [.bool nx, .slice A n c]), (w.heap.size + 1, 24, [.bool ny, .slice B m d]), (w.heap.size + 1 + 1, 58, [.bool false, .slice none 0 0, .bool false, .slice none 0 0])] w' → (w'.cell? ⟨w.heap.size, 0, none⟩ = some (.bool nx) ∧ w'.cell? ⟨w.heap.size, 1, none⟩ = some (.slice A n c) ∧ w'.cell? ⟨w.heap.size + 1, 0, none⟩ = some (.bool ny) ∧ w'.cell? ⟨w.heap.size + 1, 1, none⟩ = some (.slice B m d) ∧ w'.cell? ⟨w.heap.size + 1 + 1, 0, none⟩ = some (.bool false) ∧ w'.cell? ⟨w.heap.size + 1 + 1, 1, none⟩ = some (.slice none 0 0) ∧ w'.cell? ⟨w.heap.size + 1 + 1, 2, none⟩ = some (.bool false) ∧ w'.cell? ⟨w.heap.size + 1 + 1, 3, none⟩ = some (.slice none 0 0)) ∧ (w'.frozen? ⟨w.heap.size, 0, none⟩ = false ∧ w'.frozen? ⟨w.heap.size, 1, none⟩ = false ∧ w'.frozen? ⟨w.heap.size + 1, 0, none⟩ = false ∧ w'.frozen? ⟨w.heap.size + 1, 1, none⟩ = false ∧ w'.frozen? ⟨w.heap.size + 1 + 1, 0, none⟩ = false ∧ w'.frozen? ⟨w.heap.size + 1 + 1, 1, none⟩ = false ∧ w'.frozen? ⟨w.heap.size + 1 + 1, 2, none⟩ = false ∧ w'.frozen? ⟨w.heap.size + 1 + 1, 3, none⟩ = false) ∧ Hid (Mem w [(w.heap.size, 24, [.bool nx, .slice A n c]), (w.heap.size + 1, 24, [.bool ny, .slice B m d]), (w.heap.size + 1 + 1, 58, [.bool false, .slice none 0 0, .bool false, .slice none 0 0])] w')) := fun w' h => ⟨⟨h.c 0 rfl 0 rfl, h.c 0 rfl 1 rfl, h.c 1 rfl 0 rfl, h.c 1 rfl 1 rfl, h.c 2 rfl 0 rfl, h.c 2 rfl 1 rfl, h.c 2 rfl 2 rfl, h.c 2 rfl 3 rfl⟩, ⟨h.f 0 rfl 0, h.f 0 rfl 1, h.f 1 rfl 0, h.f 1 rfl 1, h.f 2 rfl 0, h.f 2 rfl 1, h.f 2 rfl 2, h.f 2 rfl 3⟩, h⟩
  have C0 := (A0.out _ HT.out).1
  have F0 := (A0.out _ HT.out).2.1
  by_cases hneg : b < 0
  · obtain rfl := int_below HY.out hneg
    have HR : Hid ((Rat.divInt a b).num = -a ∧ ((Rat.divInt a b).den : Int) = -b) := rat_neg hneg HG.out
    have HNB := Lib.hid hneg
    clear hb0 hg hneg
    go_enter Tryd.func88, Tryd.ntmps88
    go_wp2
    go_cut [] (fun wx => ∃ x5 A5 n5 c5 x6 A6 n6 c6, Hid (Mem w [(w.heap.size, 24, [.bool x5, .slice A5 n5 c5]), (w.heap.size + 1, 24, [.bool x6, .slice A6 n6 c6]), (w.heap.size + 1 + 1, 58, [.bool false, .slice none 0 0, .bool false, .slice none 0 0])] wx) ∧ Hid (IsInt wx wx.heap.size k (.agg #[.bool x5, .slice A5 n5 c5]) (-a)) ∧ Hid (IsInt wx wx.heap.size k (.agg #[.bool x6, .slice A6 n6 c6]) (-b)))
    case first =>
      go_region_with (first | (go_at_call_of 22 A; refine (neg_any _ k a _ (by omega) (HX.out.over HT.out.drew.below)).mono ?_; rintro e w5 ⟨x5, A5, n5, c5, rfl, hi5, hb5⟩; have M5 := Lib.hid (Mem.over hb5 HT.out.drew); have C5 := (A0.out _ M5.out).1) | (go_at_call_of 22 B; refine (neg_any _ k b _ (by omega) (HY.out.over M5.out.below)).mono ?_; rintro e w6 ⟨x6, A6, n6, c6, rfl, hi6, hb6⟩; have M6 := Lib.hid (Mem.over hb6 M5.out); have C6 := (A0.out _ M6.out).1; have F6 := (A0.out _ M6.out).2.1; have M9 := Lib.hid ((((M6.out.set_ 0 rfl 0 (v := .bool x5) rfl).set_ 0 rfl 1 (v := .slice A5 n5 c5) rfl).set_ 1 rfl 0 (v := .bool x6) rfl).set_ 1 rfl 1 (v := .slice A6 n6 c6) rfl); have K9 := Lib.hid (((M6.out.kept_set 0 rfl 0 (.bool x5)).trans ((M6.out.set_ 0 rfl 0 (v := .bool x5) rfl).kept_set 0 rfl 1 (.slice A5 n5 c5))).trans ((((M6.out.set_ 0 rfl 0 (v := .bool x5) rfl).set_ 0 rfl 1 (v := .slice A5 n5 c5) rfl).kept_set 1 rfl 0 (.bool x6)).trans ((((M6.out.set_ 0 rfl 0 (v := .bool x5) rfl).set_ 0 rfl 1 (v := .slice A5 n5 c5) rfl).set_ 1 rfl 0 (v := .bool x6) rfl).kept_set 1 rfl 1 (.slice A6 n6 c6)))); have HI9 := Lib.hid ((hi5.out.over hb6.out).kept K9.out); have HJ9 := Lib.hid (hi6.out.kept K9.out)))
      all_goals (go_wp2_with fail; go_meet; exact ⟨x5, A5, n5, c5, x6, A6, n6, c6, M9.out, HI9.out, HJ9.out⟩)
    obtain ⟨x5, A5, n5, c5, x6, A6, n6, c6, T3, I5, I6⟩ := hcut
    have A3 : Hid (∀ w' : World, Mem w [(w.heap.size, 24, [.bool x5, .slice A5 n5 c5]), (w.heap.size + 1, 24, [.bool x6, .slice A6 n6 c6]), (w.heap.size + 1 + 1, 58, [.bool false, .slice none 0 0, .bool false, .slice none 0 0])] w' → (w'.cell? ⟨w.heap.size, 0, none⟩ = some (.bool x5) ∧ w'.cell? ⟨w.heap.size, 1, none⟩ = some (.slice A5 n5 c5) ∧ w'.cell? ⟨w.heap.size + 1, 0, none⟩ = some (.bool x6) ∧ w'.cell? ⟨w.heap.size + 1, 1, none⟩ = some (.slice A6 n6 c6) ∧ w'.cell? ⟨w.heap.size + 1 + 1, 0, none⟩ = some (.bool false) ∧ w'.cell? ⟨w.heap.size + 1 + 1, 1, none⟩ = some (.slice none 0 0) ∧ w'.cell? ⟨w.heap.size + 1 + 1, 2, none⟩ = some (.bool false) ∧ w'.cell? ⟨w.heap.size + 1 + 1, 3, none⟩ = some (.slice none 0 0)) ∧ (w'.frozen? ⟨w.heap.size, 0, none⟩ = false ∧ w'.frozen? ⟨w.heap.size, 1, none⟩ = false ∧ w'.frozen? ⟨w.heap.size + 1, 0, none⟩ = false ∧ w'.frozen? ⟨w.heap.size + 1, 1, none⟩ = false ∧ w'.frozen? ⟨w.heap.size + 1 + 1, 0, none⟩ = false ∧ w'.frozen? ⟨w.heap.size + 1 + 1, 1, none⟩ = false ∧ w'.frozen? ⟨w.heap.size + 1 + 1, 2, none⟩ = false ∧ w'.frozen? ⟨w.heap.size + 1 + 1, 3, none⟩ = false) ∧ Hid (Mem w [(w.heap.size, 24, [.bool x5, .slice A5 n5 c5]), (w.heap.size + 1, 24, [.bool x6, .slice A6 n6 c6]), (w.heap.size + 1 + 1, 58, [.bool false, .slice none 0 0, .bool false, .slice none 0 0])] w')) := fun w' h => ⟨⟨h.c 0 rfl 0 rfl, h.c 0 rfl 1 rfl, h.c 1 rfl 0 rfl, h.c 1 rfl 1 rfl, h.c 2 rfl 0 rfl, h.c 2 rfl 1 rfl, h.c 2 rfl 2 rfl, h.c 2 rfl 3 rfl⟩, ⟨h.f 0 rfl 0, h.f 0 rfl 1, h.f 1 rfl 0, h.f 1 rfl 1, h.f 2 rfl 0, h.f 2 rfl 1, h.f 2 rfl 2, h.f 2 rfl 3⟩, h⟩
    clear C0 F0
    have HBX : Hid (Below wc.heap.size wc wc) := Below.refl _ _
    have CX := (A3.out _ T3.out).1
    have FX := (A3.out _ T3.out).2.1
    by_cases h1 : (-b) = 1
    · have H1 := Lib.hid h1
      clear h1
      go_wp2_with fail
      refine (isOne_yes (I6.out.over HBX.out) H1.out).mono ?_
      rintro e w7 ⟨rfl, hb7⟩
      have T7 := Lib.hid (Mem.over hb7 T3.out)
      have C7 := (A3.out _ T7.out).1
      have F7 := (A3.out _ T7.out).2.1
      clear CX FX
      have T9 := Lib.hid ((((T7.out.set_ 2 rfl 0 (v := .bool x5) rfl).set_ 2 rfl 1 (v := .slice A5 n5 c5) rfl).set_ 2 rfl 2 (v := .bool false) rfl).set_ 2 rfl 3 (v := .slice none 0 0) rfl)
      have KT9 := Lib.hid ((((T7.out.kept_set 2 rfl 0 (.bool x5)).trans ((T7.out.set_ 2 rfl 0 (v := .bool x5) rfl).kept_set 2 rfl 1 (.slice A5 n5 c5))).trans (((T7.out.set_ 2 rfl 0 (v := .bool x5) rfl).set_ 2 rfl 1 (v := .slice A5 n5 c5) rfl).kept_set 2 rfl 2 (.bool false))).trans ((((T7.out.set_ 2 rfl 0 (v := .bool x5) rfl).set_ 2 rfl 1 (v := .slice A5 n5 c5) rfl).set_ 2 rfl 2 (v := .bool false) rfl).kept_set 2 rfl 3 (.slice none 0 0)))
      have e0 := T9.out.c 2 rfl 0 rfl
      have e1 := T9.out.c 2 rfl 1 rfl
      have e2 := T9.out.c 2 rfl 2 rfl
      have e3 := T9.out.c 2 rfl 3 rfl
      go_wp2
      (try simp only [Exit.inBlock, Exit.then])
      refine bodyPost_ret (v := .agg #[.bool x5, .slice A5 n5 c5, .bool false, .slice none 0 0]) (by simp [results, Tryd.results88, go_sem, e0, e1, e2, e3]) rfl ⟨x5, A5, n5, c5, false, none, 0, 0, rfl, ?_, T9.out.below⟩
      refine ⟨x5, A5, n5, c5, false, none, 0, 0, rfl, ?_, ?_⟩
      · rw [HR.out.1]; exact ((I5.out.over HBX.out).over hb7.out).kept KT9.out
      · rw [und_is HR.out.2, if_pos H1.out]; exact isInt_zero _ _ _
    · have H1 := Lib.hid h1
      clear h1
      go_wp2_with fail
      refine (isOne_no (I6.out.over HBX.out) H1.out).mono ?_
      rintro e w7 ⟨rfl, hb7⟩
      have T7 := Lib.hid (Mem.over hb7 T3.out)
      have C7 := (A3.out _ T7.out).1
      have F7 := (A3.out _ T7.out).2.1
      clear CX FX
      have T9 := Lib.hid ((((T7.out.set_ 2 rfl 0 (v := .bool x5) rfl).set_ 2 rfl 1 (v := .slice A5 n5 c5) rfl).set_ 2 rfl 2 (v := .bool x6) rfl).set_ 2 rfl 3 (v := .slice A6 n6 c6) rfl)
      have KT9 := Lib.hid ((((T7.out.kept_set 2 rfl 0 (.bool x5)).trans ((T7.out.set_ 2 rfl 0 (v := .bool x5) rfl).kept_set 2 rfl 1 (.slice A5 n5 c5))).trans (((T7.out.set_ 2 rfl 0 (v := .bool x5) rfl).set_ 2 rfl 1 (v := .slice A5 n5 c5) rfl).kept_set 2 rfl 2 (.bool x6))).trans ((((T7.out.set_ 2 rfl 0 (v := .bool x5) rfl).set_ 2 rfl 1 (v := .slice A5 n5 c5) rfl).set_ 2 rfl 2 (v := .bool x6) rfl).kept_set 2 rfl 3 (.slice A6 n6 c6)))
      have e0 := T9.out.c 2 rfl 0 rfl
      have e1 := T9.out.c 2 rfl 1 rfl
      have e2 := T9.out.c 2 rfl 2 rfl
      have e3 := T9.out.c 2 rfl 3 rfl
      go_wp2
      (try simp only [Exit.inBlock, Exit.then])
      refine bodyPost_ret (v := .agg #[.bool x5, .slice A5 n5 c5, .bool x6, .slice A6 n6 c6]) (by simp [results, Tryd.results88, go_sem, e0, e1, e2, e3]) rfl ⟨x5, A5, n5, c5, x6, A6, n6, c6, rfl, ?_, T9.out.below⟩
      refine ⟨x5, A5, n5, c5, x6, A6, n6, c6, rfl, ?_, ?_⟩
      · rw [HR.out.1]; exact ((I5.out.over HBX.out).over hb7.out).kept KT9.out
      · rw [und_is HR.out.2, if_neg H1.out]; exact ((I6.out.over HBX.out).over hb7.out).kept KT9.out
  · have hny : ny = false := int_sign HY.out (by omega)
    subst hny
    have HR : Hid ((Rat.divInt a b).num = a ∧ ((Rat.divInt a b).den : Int) = b) := rat_pos (by omega) HG.out
    clear hb0 hg hneg
    go_enter Tryd.func88, Tryd.ntmps88
    have HBX : Hid (Below w.heap.size w (((w.alloc (.cells #[.bool nx, .slice A n c] 24)).alloc (.cells #[.bool false, .slice B m d] 24)).alloc (.cells #[.bool false, .slice none 0 0, .bool false, .slice none 0 0] 58))) := HT.out.below
    have CX := C0
    have FX := F0
    clear C0 F0
    by_cases h1 : (b) = 1
    · have H1 := Lib.hid h1
      clear h1
      go_wp2_with fail
      refine (isOne_yes (HY.out.over HBX.out) H1.out).mono ?_
      rintro e w7 ⟨rfl, hb7⟩
      have T7 := Lib.hid (Mem.over hb7 HT.out)
      have C7 := (A0.out _ T7.out).1
      have F7 := (A0.out _ T7.out).2.1
      clear CX FX
      have T9 := Lib.hid ((((T7.out.set_ 2 rfl 0 (v := .bool nx) rfl).set_ 2 rfl 1 (v := .slice A n c) rfl).set_ 2 rfl 2 (v := .bool false) rfl).set_ 2 rfl 3 (v := .slice none 0 0) rfl)
      have KT9 := Lib.hid ((((T7.out.kept_set 2 rfl 0 (.bool nx)).trans ((T7.out.set_ 2 rfl 0 (v := .bool nx) rfl).kept_set 2 rfl 1 (.slice A n c))).trans (((T7.out.set_ 2 rfl 0 (v := .bool nx) rfl).set_ 2 rfl 1 (v := .slice A n c) rfl).kept_set 2 rfl 2 (.bool false))).trans ((((T7.out.set_ 2 rfl 0 (v := .bool nx) rfl).set_ 2 rfl 1 (v := .slice A n c) rfl).set_ 2 rfl 2 (v := .bool false) rfl).kept_set 2 rfl 3 (.slice none 0 0)))
      have e0 := T9.out.c 2 rfl 0 rfl
      have e1 := T9.out.c 2 rfl 1 rfl
      have e2 := T9.out.c 2 rfl 2 rfl
      have e3 := T9.out.c 2 rfl 3 rfl
      go_wp2
      (try simp only [Exit.inBlock, Exit.then])
      refine bodyPost_ret (v := .agg #[.bool nx, .slice A n c, .bool false, .slice none 0 0]) (by simp [results, Tryd.results88, go_sem, e0, e1, e2, e3]) rfl ⟨nx, A, n, c, false, none, 0, 0, rfl, ?_, T9.out.below⟩
      refine ⟨nx, A, n, c, false, none, 0, 0, rfl, ?_, ?_⟩
      · rw [HR.out.1]; exact ((HX.out.over HBX.out).over hb7.out).kept KT9.out
      · rw [und_is HR.out.2, if_pos H1.out]; exact isInt_zero _ _ _
    · have H1 := Lib.hid h1
      clear h1
      go_wp2_with fail
      refine (isOne_no (HY.out.over HBX.out) H1.out).mono ?_
      rintro e w7 ⟨rfl, hb7⟩
      have T7 := Lib.hid (Mem.over hb7 HT.out)
      have C7 := (A0.out _ T7.out).1
      have F7 := (A0.out _ T7.out).2.1
      clear CX FX
      have T9 := Lib.hid ((((T7.out.set_ 2 rfl 0 (v := .bool nx) rfl).set_ 2 rfl 1 (v := .slice A n c) rfl).set_ 2 rfl 2 (v := .bool false) rfl).set_ 2 rfl 3 (v := .slice B m d) rfl)
      have KT9 := Lib.hid ((((T7.out.kept_set 2 rfl 0 (.bool nx)).trans ((T7.out.set_ 2 rfl 0 (v := .bool nx) rfl).kept_set 2 rfl 1 (.slice A n c))).trans (((T7.out.set_ 2 rfl 0 (v := .bool nx) rfl).set_ 2 rfl 1 (v := .slice A n c) rfl).kept_set 2 rfl 2 (.bool false))).trans ((((T7.out.set_ 2 rfl 0 (v := .bool nx) rfl).set_ 2 rfl 1 (v := .slice A n c) rfl).set_ 2 rfl 2 (v := .bool false) rfl).kept_set 2 rfl 3 (.slice B m d)))
      have e0 := T9.out.c 2 rfl 0 rfl
      have e1 := T9.out.c 2 rfl 1 rfl
      have e2 := T9.out.c 2 rfl 2 rfl
      have e3 := T9.out.c 2 rfl 3 rfl
      go_wp2
      (try simp only [Exit.inBlock, Exit.then])
      refine bodyPost_ret (v := .agg #[.bool nx, .slice A n c, .bool false, .slice B m d]) (by simp [results, Tryd.results88, go_sem, e0, e1, e2, e3]) rfl ⟨nx, A, n, c, false, B, m, d, rfl, ?_, T9.out.below⟩
      refine ⟨nx, A, n, c, false, B, m, d, rfl, ?_, ?_⟩
      · rw [HR.out.1]; exact ((HX.out.over HBX.out).over hb7.out).kept KT9.out
      · rw [und_is HR.out.2, if_neg H1.out]; exact ((HY.out.over HBX.out).over hb7.out).kept KT9.out

set_option maxRecDepth 100000 in
set_option maxHeartbeats 2000000 in
theorem fracNeg_any {v : Value} {p : Nat} {q : Rat} {w : World} (hp : p ≤ 900) (hx : IsFr w p v q) :
    Calls Tryd.prog 50 #[v] w fun e w' => GivesF w p (-q) e w' := by
  obtain ⟨xi, Ai, ni, ci, yi, Bi, mi, di, rfl, h1, h2⟩ := hx
  have I1 := Lib.hid h1
  have I2 := Lib.hid h2
  clear h1 h2
  have HT : Hid (Mem w [(w.heap.size, 58, [.bool xi, .slice Ai ni ci, .bool yi, .slice Bi mi di]), (w.heap.size + 1, 58, [.bool false, .slice none 0 0, .bool false, .slice none 0 0])] ((w.alloc (.cells #[.bool xi, .slice Ai ni ci, .bool yi, .slice Bi mi di] 58)).alloc (.cells #[.bool false, .slice none 0 0, .bool false, .slice none 0 0] 58))) := (((Mem.new w).push (by simp) 58 [.bool xi, .slice Ai ni ci, .bool yi, .slice Bi mi di] rfl).push (by simp) 58 [.bool false, .slice none 0 0, .bool false, .slice none 0 0] rfl)
  have AN : Hid (∀ w' : World, MemU w [(w.heap.size, 58, [.bool xi, .slice Ai ni ci, .bool yi, .slice Bi mi di])] [(w.heap.size + 1, 58, 4)] w' → (w'.cell? ⟨w.heap.size, 0, none⟩ = some (.bool xi) ∧ w'.cell? ⟨w.heap.size, 1, none⟩ = some (.slice Ai ni ci) ∧ w'.cell? ⟨w.heap.size, 2, none⟩ = some (.bool yi) ∧ w'.cell? ⟨w.heap.size, 3, none⟩ = some (.slice Bi mi di) ∧ w'.cell? ⟨w.heap.size + 1, 0, none⟩ = some (holdsAt w' (w.heap.size + 1) 0) ∧ w'.cell? ⟨w.heap.size + 1, 1, none⟩ = some (holdsAt w' (w.heap.size + 1) 1) ∧ w'.cell? ⟨w.heap.size + 1, 2, none⟩ = some (holdsAt w' (w.heap.size + 1) 2) ∧ w'.cell? ⟨w.heap.size + 1, 3, none⟩ = some (holdsAt w' (w.heap.size + 1) 3)) ∧ (w'.frozen? ⟨w.heap.size, 0, none⟩ = false ∧ w'.frozen? ⟨w.heap.size, 1, none⟩ = false ∧ w'.frozen? ⟨w.heap.size, 2, none⟩ = false ∧ w'.frozen? ⟨w.heap.size, 3, none⟩ = false ∧ w'.frozen? ⟨w.heap.size + 1, 0, none⟩ = false ∧ w'.frozen? ⟨w.heap.size + 1, 1, none⟩ = false ∧ w'.frozen? ⟨w.heap.size + 1, 2, none⟩ = false ∧ w'.frozen? ⟨w.heap.size + 1, 3, none⟩ = false) ∧ Hid (MemU w [(w.heap.size, 58, [.bool xi, .slice Ai ni ci, .bool yi, .slice Bi mi di])] [(w.heap.size + 1, 58, 4)] (w'))) := fun w' h => ⟨⟨h.mem.c 0 rfl 0 rfl, h.mem.c 0 rfl 1 rfl, h.mem.c 0 rfl 2 rfl, h.mem.c 0 rfl 3 rfl, h.c 0 rfl 0 (by decide), h.c 0 rfl 1 (by decide), h.c 0 rfl 2 (by decide), h.c 0 rfl 3 (by decide)⟩, ⟨h.mem.f 0 rfl 0, h.mem.f 0 rfl 1, h.mem.f 0 rfl 2, h.mem.f 0 rfl 3, h.f 0 rfl 0, h.f 0 rfl 1, h.f 0 rfl 2, h.f 0 rfl 3⟩, h⟩
  have PN : Hid (∀ (w' : World) (px : Bool) (pa : Option Addr) (pn pc : Nat) (py : Bool) (pb : Option Addr) (pm pd : Nat), MemU w [(w.heap.size, 58, [.bool xi, .slice Ai ni ci, .bool yi, .slice Bi mi di])] [(w.heap.size + 1, 58, 4)] w' → (((((w'.setCell ⟨w.heap.size + 1, 0, none⟩ (.bool px)).setCell ⟨w.heap.size + 1, 1, none⟩ (.slice pa pn pc)).setCell ⟨w.heap.size + 1, 2, none⟩ (.bool py)).setCell ⟨w.heap.size + 1, 3, none⟩ (.slice pb pm pd)).cell? ⟨w.heap.size, 0, none⟩ = some (.bool xi) ∧ ((((w'.setCell ⟨w.heap.size + 1, 0, none⟩ (.bool px)).setCell ⟨w.heap.size + 1, 1, none⟩ (.slice pa pn pc)).setCell ⟨w.heap.size + 1, 2, none⟩ (.bool py)).setCell ⟨w.heap.size + 1, 3, none⟩ (.slice pb pm pd)).cell? ⟨w.heap.size, 1, none⟩ = some (.slice Ai ni ci) ∧ ((((w'.setCell ⟨w.heap.size + 1, 0, none⟩ (.bool px)).setCell ⟨w.heap.size + 1, 1, none⟩ (.slice pa pn pc)).setCell ⟨w.heap.size + 1, 2, none⟩ (.bool py)).setCell ⟨w.heap.size + 1, 3, none⟩ (.slice pb pm pd)).cell? ⟨w.heap.size, 2, none⟩ = some (.bool yi) ∧ ((((w'.setCell ⟨w.heap.size + 1, 0, none⟩ (.bool px)).setCell ⟨w.heap.size + 1, 1, none⟩ (.slice pa pn pc)).setCell ⟨w.heap.size + 1, 2, none⟩ (.bool py)).setCell ⟨w.heap.size + 1, 3, none⟩ (.slice pb pm pd)).cell? ⟨w.heap.size, 3, none⟩ = some (.slice Bi mi di) ∧ ((((w'.setCell ⟨w.heap.size + 1, 0, none⟩ (.bool px)).setCell ⟨w.heap.size + 1, 1, none⟩ (.slice pa pn pc)).setCell ⟨w.heap.size + 1, 2, none⟩ (.bool py)).setCell ⟨w.heap.size + 1, 3, none⟩ (.slice pb pm pd)).cell? ⟨w.heap.size + 1, 0, none⟩ = some (holdsAt ((((w'.setCell ⟨w.heap.size + 1, 0, none⟩ (.bool px)).setCell ⟨w.heap.size + 1, 1, none⟩ (.slice pa pn pc)).setCell ⟨w.heap.size + 1, 2, none⟩ (.bool py)).setCell ⟨w.heap.size + 1, 3, none⟩ (.slice pb pm pd)) (w.heap.size + 1) 0) ∧ ((((w'.setCell ⟨w.heap.size + 1, 0, none⟩ (.bool px)).setCell ⟨w.heap.size + 1, 1, none⟩ (.slice pa pn pc)).setCell ⟨w.heap.size + 1, 2, none⟩ (.bool py)).setCell ⟨w.heap.size + 1, 3, none⟩ (.slice pb pm pd)).cell? ⟨w.heap.size + 1, 1, none⟩ = some (holdsAt ((((w'.setCell ⟨w.heap.size + 1, 0, none⟩ (.bool px)).setCell ⟨w.heap.size + 1, 1, none⟩ (.slice pa pn pc)).setCell ⟨w.heap.size + 1, 2, none⟩ (.bool py)).setCell ⟨w.heap.size + 1, 3, none⟩ (.slice pb pm pd)) (w.heap.size + 1) 1) ∧ ((((w'.setCell ⟨w.heap.size + 1, 0, none⟩ (.bool px)).setCell ⟨w.heap.size + 1, 1, none⟩ (.slice pa pn pc)).setCell ⟨w.heap.size + 1, 2, none⟩ (.bool py)).setCell ⟨w.heap.size + 1, 3, none⟩ (.slice pb pm pd)).cell? ⟨w.heap.size + 1, 2, none⟩ = some (holdsAt ((((w'.setCell ⟨w.heap.size + 1, 0, none⟩ (.bool px)).setCell ⟨w.heap.size + 1, 1, none⟩ (.slice pa pn pc)).setCell ⟨w.heap.size + 1, 2, none⟩ (.bool py)).setCell ⟨w.heap.size + 1, 3, none⟩ (.slice pb pm pd)) (w.heap.size + 1) 2) ∧ ((((w'.setCell ⟨w.heap.size + 1, 0, none⟩ (.bool px)).setCell ⟨w.heap.size + 1, 1, none⟩ (.slice pa pn pc)).setCell ⟨w.heap.size + 1, 2, none⟩ (.bool py)).setCell ⟨w.heap.size + 1, 3, none⟩ (.slice pb pm pd)).cell? ⟨w.heap.size + 1, 3, none⟩ = some (holdsAt ((((w'.setCell ⟨w.heap.size + 1, 0, none⟩ (.bool px)).setCell ⟨w.heap.size + 1, 1, none⟩ (.slice pa pn pc)).setCell ⟨w.heap.size + 1, 2, none⟩ (.bool py)).setCell ⟨w.heap.size + 1, 3, none⟩ (.slice pb pm pd)) (w.heap.size + 1) 3)) ∧ (((((w'.setCell ⟨w.heap.size + 1, 0, none⟩ (.bool px)).setCell ⟨w.heap.size + 1, 1, none⟩ (.slice pa pn pc)).setCell ⟨w.heap.size + 1, 2, none⟩ (.bool py)).setCell ⟨w.heap.size + 1, 3, none⟩ (.slice pb pm pd)).frozen? ⟨w.heap.size, 0, none⟩ = false ∧ ((((w'.setCell ⟨w.heap.size + 1, 0, none⟩ (.bool px)).setCell ⟨w.heap.size + 1, 1, none⟩ (.slice pa pn pc)).setCell ⟨w.heap.size + 1, 2, none⟩ (.bool py)).setCell ⟨w.heap.size + 1, 3, none⟩ (.slice pb pm pd)).frozen? ⟨w.heap.size, 1, none⟩ = false ∧ ((((w'.setCell ⟨w.heap.size + 1, 0, none⟩ (.bool px)).setCell ⟨w.heap.size + 1, 1, none⟩ (.slice pa pn pc)).setCell ⟨w.heap.size + 1, 2, none⟩ (.bool py)).setCell ⟨w.heap.size + 1, 3, none⟩ (.slice pb pm pd)).frozen? ⟨w.heap.size, 2, none⟩ = false ∧ ((((w'.setCell ⟨w.heap.size + 1, 0, none⟩ (.bool px)).setCell ⟨w.heap.size + 1, 1, none⟩ (.slice pa pn pc)).setCell ⟨w.heap.size + 1, 2, none⟩ (.bool py)).setCell ⟨w.heap.size + 1, 3, none⟩ (.slice pb pm pd)).frozen? ⟨w.heap.size, 3, none⟩ = false ∧ ((((w'.setCell ⟨w.heap.size + 1, 0, none⟩ (.bool px)).setCell ⟨w.heap.size + 1, 1, none⟩ (.slice pa pn pc)).setCell ⟨w.heap.size + 1, 2, none⟩ (.bool py)).setCell ⟨w.heap.size + 1, 3, none⟩ (.slice pb pm pd)).frozen? ⟨w.heap.size + 1, 0, none⟩ = false ∧ ((((w'.setCell ⟨w.heap.size + 1, 0, none⟩ (.bool px)).setCell ⟨w.heap.size + 1, 1, none⟩ (.slice pa pn pc)).setCell ⟨w.heap.size + 1, 2, none⟩ (.bool py)).setCell ⟨w.heap.size + 1, 3, none⟩ (.slice pb pm pd)).frozen? ⟨w.heap.size + 1, 1, none⟩ = false ∧ ((((w'.setCell ⟨w.heap.size + 1, 0, none⟩ (.bool px)).setCell ⟨w.heap.size + 1, 1, none⟩ (.slice pa pn pc)).setCell ⟨w.heap.size + 1, 2, none⟩ (.bool py)).setCell ⟨w.heap.size + 1, 3, none⟩ (.slice pb pm pd)).frozen? ⟨w.heap.size + 1, 2, none⟩ = false ∧ ((((w'.setCell ⟨w.heap.size + 1, 0, none⟩ (.bool px)).setCell ⟨w.heap.size + 1, 1, none⟩ (.slice pa pn pc)).setCell ⟨w.heap.size + 1, 2, none⟩ (.bool py)).setCell ⟨w.heap.size + 1, 3, none⟩ (.slice pb pm pd)).frozen? ⟨w.heap.size + 1, 3, none⟩ = false) ∧ Hid (MemU w [(w.heap.size, 58, [.bool xi, .slice Ai ni ci, .bool yi, .slice Bi mi di])] [(w.heap.size + 1, 58, 4)] (((((w'.setCell ⟨w.heap.size + 1, 0, none⟩ (.bool px)).setCell ⟨w.heap.size + 1, 1, none⟩ (.slice pa pn pc)).setCell ⟨w.heap.size + 1, 2, none⟩ (.bool py)).setCell ⟨w.heap.size + 1, 3, none⟩ (.slice pb pm pd))))) := fun w' px pa pn pc py pb pm pd h => AN.out _ ((((h.set_ 0 rfl 0 (v := .bool px) rfl).set_ 0 rfl 1 (v := .slice pa pn pc) rfl).set_ 0 rfl 2 (v := .bool py) rfl).set_ 0 rfl 3 (v := .slice pb pm pd) rfl)
  have HU : Hid (MemU w [(w.heap.size, 58, [.bool xi, .slice Ai ni ci, .bool yi, .slice Bi mi di])] [(w.heap.size + 1, 58, 4)] ((w.alloc (.cells #[.bool xi, .slice Ai ni ci, .bool yi, .slice Bi mi di] 58)).alloc (.cells #[.bool false, .slice none 0 0, .bool false, .slice none 0 0] 58))) := MemU.of HT.out rfl
  go_enter Tryd.func50, Tryd.ntmps50
  go_wp2
  go_region_held3 (fun w' => (w'.cell? ⟨w.heap.size, 0, none⟩ = some (.bool xi) ∧ w'.cell? ⟨w.heap.size, 1, none⟩ = some (.slice Ai ni ci) ∧ w'.cell? ⟨w.heap.size, 2, none⟩ = some (.bool yi) ∧ w'.cell? ⟨w.heap.size, 3, none⟩ = some (.slice Bi mi di) ∧ w'.cell? ⟨w.heap.size + 1, 0, none⟩ = some (holdsAt w' (w.heap.size + 1) 0) ∧ w'.cell? ⟨w.heap.size + 1, 1, none⟩ = some (holdsAt w' (w.heap.size + 1) 1) ∧ w'.cell? ⟨w.heap.size + 1, 2, none⟩ = some (holdsAt w' (w.heap.size + 1) 2) ∧ w'.cell? ⟨w.heap.size + 1, 3, none⟩ = some (holdsAt w' (w.heap.size + 1) 3)) ∧ (w'.frozen? ⟨w.heap.size, 0, none⟩ = false ∧ w'.frozen? ⟨w.heap.size, 1, none⟩ = false ∧ w'.frozen? ⟨w.heap.size, 2, none⟩ = false ∧ w'.frozen? ⟨w.heap.size, 3, none⟩ = false ∧ w'.frozen? ⟨w.heap.size + 1, 0, none⟩ = false ∧ w'.frozen? ⟨w.heap.size + 1, 1, none⟩ = false ∧ w'.frozen? ⟨w.heap.size + 1, 2, none⟩ = false ∧ w'.frozen? ⟨w.heap.size + 1, 3, none⟩ = false) ∧ Hid (MemU w [(w.heap.size, 58, [.bool xi, .slice Ai ni ci, .bool yi, .slice Bi mi di])] [(w.heap.size + 1, 58, 4)] (w'))) (first | (with_reducible exact AN.out _ HU.out.drew) | (with_reducible exact AN.out _ (MemU.over hb (MemU.get (by assumption)))) | (with_reducible exact PN.out _ _ _ _ _ _ _ _ _ (MemU.get (by assumption)))) (first | (go_at_call 22; refine (neg_any _ p q.num _ (by omega) (I1.out.over (MemU.get (by assumption)).mem.below)).mono ?_; rintro e w5 ⟨x5, A5, n5, c5, rfl, hi5, hb⟩; have hb5 := hb) | (go_at_call 84; refine (fresh_any hp (I2.out.over (MemU.get (by assumption)).mem.below)).mono ?_; rintro e w6 ⟨x6, A6, n6, c6, rfl, hi6, hb⟩; have hb6 := hb))
  have T5 := Lib.hid (Mem.over hb6 (Mem.over hb5 HT.out.drew))
  have T9 := Lib.hid ((((T5.out.set_ 1 rfl 0 (v := .bool x5) rfl).set_ 1 rfl 1 (v := .slice A5 n5 c5) rfl).set_ 1 rfl 2 (v := .bool x6) rfl).set_ 1 rfl 3 (v := .slice A6 n6 c6) rfl)
  have K9 := Lib.hid ((((T5.out.kept_set 1 rfl 0 (.bool x5)).trans ((T5.out.set_ 1 rfl 0 (v := .bool x5) rfl).kept_set 1 rfl 1 (.slice A5 n5 c5))).trans (((T5.out.set_ 1 rfl 0 (v := .bool x5) rfl).set_ 1 rfl 1 (v := .slice A5 n5 c5) rfl).kept_set 1 rfl 2 (.bool x6))).trans ((((T5.out.set_ 1 rfl 0 (v := .bool x5) rfl).set_ 1 rfl 1 (v := .slice A5 n5 c5) rfl).set_ 1 rfl 2 (v := .bool x6) rfl).kept_set 1 rfl 3 (.slice A6 n6 c6)))
  have e0 := T9.out.c 1 rfl 0 rfl
  have e1 := T9.out.c 1 rfl 1 rfl
  have e2 := T9.out.c 1 rfl 2 rfl
  have e3 := T9.out.c 1 rfl 3 rfl
  go_wp2
  refine bodyPost_ret (v := .agg #[.bool x5, .slice A5 n5 c5, .bool x6, .slice A6 n6 c6]) (by simp [results, Tryd.results50, go_sem, e0, e1, e2, e3]) rfl ⟨x5, A5, n5, c5, x6, A6, n6, c6, rfl, ?_, T9.out.below⟩
  refine ⟨x5, A5, n5, c5, x6, A6, n6, c6, rfl, ?_, ?_⟩
  · rw [Rat.neg_num]; exact (hi5.out.over hb6.out).kept K9.out
  · rw [show undZ (-q) = undZ q by unfold undZ; rw [Rat.neg_den]]; exact hi6.out.kept K9.out

end Go.Proofs.YtpikbhcjgcbdfaaDoor.wh
