/- The document's answers of layer 2: Int, Make, Form, Same. -/
import Derived.Test.YtpikbhcjgcbdfaaDoorFr
import Derived.Test.YtpikbhcjgcbdfaaDoorRefGcd
namespace Go.Proofs.YtpikbhcjgcbdfaaDoor.wh
open Go.RowKit

/-- The value v is two numbers of decimal digits, one through the other: the fraction q in lowest terms. -/
def IsFn (w : World) (m : Nat) (v : Value) (q : Rat) : Prop :=
  ∃ n1 A1 l1 c1 n2 A2 l2 c2, v = .agg #[.bool n1, .slice A1 l1 c1, .bool n2, .slice A2 l2 c2] ∧ IsNum w w.heap.size m (.agg #[.bool n1, .slice A1 l1 c1]) q.num ∧ IsNum w w.heap.size m (.agg #[.bool n2, .slice A2 l2 c2]) (q.den : Int)
def GivesFn (W : World) (m : Nat) (q : Rat) (e : Ending) (w' : World) : Prop :=
  ∃ n1 A1 l1 c1 n2 A2 l2 c2, e = .returned (.agg #[.bool n1, .slice A1 l1 c1, .bool n2, .slice A2 l2 c2]) ∧ Hid (IsFn w' m (.agg #[.bool n1, .slice A1 l1 c1, .bool n2, .slice A2 l2 c2]) q) ∧ Hid (Below W.heap.size W w')
theorem IsFn.kept {w w' : World} {m : Nat} {v : Value} {q : Rat} (h : IsFn w m v q) (hk : Kept w w') : IsFn w' m v q := by
  obtain ⟨n1, A1, l1, c1, n2, A2, l2, c2, rfl, h1, h2⟩ := h
  exact ⟨n1, A1, l1, c1, n2, A2, l2, c2, rfl, h1.kept hk, h2.kept hk⟩
theorem IsFn.over {w w' : World} {m : Nat} {v : Value} {q : Rat} (h : IsFn w m v q) (hb : Below w.heap.size w w') : IsFn w' m v q := h.kept (Kept.of_below hb)
theorem IsFn.more {w : World} {m m' : Nat} {v : Value} {q : Rat} (h : IsFn w m v q) (hm : m ≤ m') : IsFn w m' v q := by
  obtain ⟨n1, A1, l1, c1, n2, A2, l2, c2, rfl, h1, h2⟩ := h
  exact ⟨n1, A1, l1, c1, n2, A2, l2, c2, rfl, h1.more (Nat.le_refl _) hm, h2.more (Nat.le_refl _) hm⟩

set_option maxRecDepth 100000 in
set_option maxHeartbeats 1000000 in
theorem int2_any (n : Int) (w : World) (h1 : -9 ≤ n) (h2 : n ≤ 9) :
    Calls Tryd.prog 90 #[.int .i64 n] w fun e w' => GivesFn w 1 (n : Rat) e w' := by
  have hb10 : Hid (n.natAbs < 10 ^ 1) := by show _ < _; omega
  have HT : Hid (Mem w [(w.heap.size, 61, [.bool false, .slice none 0 0, .bool false, .slice none 0 0])] (w.alloc (.cells #[.bool false, .slice none 0 0, .bool false, .slice none 0 0] 61))) := ((Mem.new w).push (by simp) 61 [.bool false, .slice none 0 0, .bool false, .slice none 0 0] rfl)
  have A0 : Hid (∀ w' : World, Mem w [(w.heap.size, 61, [.bool false, .slice none 0 0, .bool false, .slice none 0 0])] w' → (w'.cell? ⟨w.heap.size, 0, none⟩ = some (.bool false) ∧ w'.cell? ⟨w.heap.size, 1, none⟩ = some (.slice none 0 0) ∧ w'.cell? ⟨w.heap.size, 2, none⟩ = some (.bool false) ∧ w'.cell? ⟨w.heap.size, 3, none⟩ = some (.slice none 0 0)) ∧ (w'.frozen? ⟨w.heap.size, 0, none⟩ = false ∧ w'.frozen? ⟨w.heap.size, 1, none⟩ = false ∧ w'.frozen? ⟨w.heap.size, 2, none⟩ = false ∧ w'.frozen? ⟨w.heap.size, 3, none⟩ = false) ∧ Hid (Mem w [(w.heap.size, 61, [.bool false, .slice none 0 0, .bool false, .slice none 0 0])] w')) := fun w' h => ⟨⟨h.c 0 rfl 0 rfl, h.c 0 rfl 1 rfl, h.c 0 rfl 2 rfl, h.c 0 rfl 3 rfl⟩, ⟨h.f 0 rfl 0, h.f 0 rfl 1, h.f 0 rfl 2, h.f 0 rfl 3⟩, h⟩
  have C0 := (A0.out _ HT.out).1
  have F0 := (A0.out _ HT.out).2.1
  go_enter Tryd.func90, Tryd.ntmps90
  go_wp2_with fail
  refine (int_any n _ (by omega) (by omega)).mono ?_
  rintro e w1 ⟨x1, A1, n1, c1, rfl, hi1, hb1⟩
  have T1 := Lib.hid (Mem.over hb1 HT.out)
  go_wp2_with fail
  refine (int_any 1 _ (by omega) (by omega)).mono ?_
  rintro e w2 ⟨x2, A2, n2, c2, rfl, hi2, hb2⟩
  have T2 := Lib.hid (Mem.over hb2 T1.out)
  have C2 := (A0.out _ T2.out).1
  have F2 := (A0.out _ T2.out).2.1
  clear C0 F0
  have T9 := Lib.hid ((((T2.out.set_ 0 rfl 0 (v := .bool x1) rfl).set_ 0 rfl 1 (v := .slice A1 n1 c1) rfl).set_ 0 rfl 2 (v := .bool x2) rfl).set_ 0 rfl 3 (v := .slice A2 n2 c2) rfl)
  have KT9 := Lib.hid ((((T2.out.kept_set 0 rfl 0 (.bool x1)).trans ((T2.out.set_ 0 rfl 0 (v := .bool x1) rfl).kept_set 0 rfl 1 (.slice A1 n1 c1))).trans (((T2.out.set_ 0 rfl 0 (v := .bool x1) rfl).set_ 0 rfl 1 (v := .slice A1 n1 c1) rfl).kept_set 0 rfl 2 (.bool x2))).trans ((((T2.out.set_ 0 rfl 0 (v := .bool x1) rfl).set_ 0 rfl 1 (v := .slice A1 n1 c1) rfl).set_ 0 rfl 2 (v := .bool x2) rfl).kept_set 0 rfl 3 (.slice A2 n2 c2)))
  have e0 := T9.out.c 0 rfl 0 rfl
  have e1 := T9.out.c 0 rfl 1 rfl
  have e2 := T9.out.c 0 rfl 2 rfl
  have e3 := T9.out.c 0 rfl 3 rfl
  go_wp2
  (try simp only [Exit.inBlock, Exit.then])
  refine bodyPost_ret (v := .agg #[.bool x1, .slice A1 n1 c1, .bool x2, .slice A2 n2 c2]) (by simp [results, Tryd.results90, go_sem, e0, e1, e2, e3]) rfl ⟨x1, A1, n1, c1, x2, A2, n2, c2, rfl, ?_, T9.out.below⟩
  exact ⟨x1, A1, n1, c1, x2, A2, n2, c2, rfl, by rw [Rat.num_intCast]; exact ((hi1.out.over hb2.out).kept KT9.out).tight hb10.out, by rw [Rat.den_intCast]; exact (hi2.out.kept KT9.out).tight (k := 1) (by decide)⟩

set_option maxRecDepth 100000 in
set_option maxHeartbeats 1000000 in
theorem same2_any {x1 x2 y1 y2 : Bool} {A1 A2 B1 B2 : Option Addr} {l1 c1 l2 c2 k1 d1 k2 d2 p : Nat} {a b a' b' : Int} {w : World} {r : Bool} (hp : p ≤ 100000)
    (ha : IsInt w w.heap.size p (.agg #[.bool x1, .slice A1 l1 c1]) a) (hb : IsInt w w.heap.size p (.agg #[.bool x2, .slice A2 l2 c2]) b) (ha' : IsInt w w.heap.size p (.agg #[.bool y1, .slice B1 k1 d1]) a') (hb' : IsInt w w.heap.size p (.agg #[.bool y2, .slice B2 k2 d2]) b') (hr : decide (a = a' ∧ b = b') = r) :
    Calls Tryd.prog 42 #[.agg #[.bool x1, .slice A1 l1 c1, .bool x2, .slice A2 l2 c2], .agg #[.bool y1, .slice B1 k1 d1, .bool y2, .slice B2 k2 d2]] w fun e w' => e = .returned (.bool r) ∧ Hid (Below w.heap.size w w') := by
  have HA := Lib.hid ha
  have HB := Lib.hid hb
  have HA' := Lib.hid ha'
  have HB' := Lib.hid hb'
  clear ha hb ha' hb'
  have HT : Hid (Mem w [(w.heap.size, 58, [.bool x1, .slice A1 l1 c1, .bool x2, .slice A2 l2 c2]), (w.heap.size + 1, 58, [.bool y1, .slice B1 k1 d1, .bool y2, .slice B2 k2 d2])] ((w.alloc (.cells #[.bool x1, .slice A1 l1 c1, .bool x2, .slice A2 l2 c2] 58)).alloc (.cells #[.bool y1, .slice B1 k1 d1, .bool y2, .slice B2 k2 d2] 58))) := (((Mem.new w).push (by simp) 58 [.bool x1, .slice A1 l1 c1, .bool x2, .slice A2 l2 c2] rfl).push (by simp) 58 [.bool y1, .slice B1 k1 d1, .bool y2, .slice B2 k2 d2] rfl)
  have A0 : Hid (∀ w' : World, Mem w [(w.heap.size, 58, [.bool x1, .slice A1 l1 c1, .bool x2, .slice A2 l2 c2]), (w.heap.size + 1, 58, [.bool y1, .slice B1 k1 d1, .bool y2, .slice B2 k2 d2])] w' → (w'.cell? ⟨w.heap.size, 0, none⟩ = some (.bool x1) ∧ w'.cell? ⟨w.heap.size, 1, none⟩ = some (.slice A1 l1 c1) ∧ w'.cell? ⟨w.heap.size, 2, none⟩ = some (.bool x2) ∧ w'.cell? ⟨w.heap.size, 3, none⟩ = some (.slice A2 l2 c2) ∧ w'.cell? ⟨w.heap.size + 1, 0, none⟩ = some (.bool y1) ∧ w'.cell? ⟨w.heap.size + 1, 1, none⟩ = some (.slice B1 k1 d1) ∧ w'.cell? ⟨w.heap.size + 1, 2, none⟩ = some (.bool y2) ∧ w'.cell? ⟨w.heap.size + 1, 3, none⟩ = some (.slice B2 k2 d2)) ∧ (w'.frozen? ⟨w.heap.size, 0, none⟩ = false ∧ w'.frozen? ⟨w.heap.size, 1, none⟩ = false ∧ w'.frozen? ⟨w.heap.size, 2, none⟩ = false ∧ w'.frozen? ⟨w.heap.size, 3, none⟩ = false ∧ w'.frozen? ⟨w.heap.size + 1, 0, none⟩ = false ∧ w'.frozen? ⟨w.heap.size + 1, 1, none⟩ = false ∧ w'.frozen? ⟨w.heap.size + 1, 2, none⟩ = false ∧ w'.frozen? ⟨w.heap.size + 1, 3, none⟩ = false) ∧ Hid (Mem w [(w.heap.size, 58, [.bool x1, .slice A1 l1 c1, .bool x2, .slice A2 l2 c2]), (w.heap.size + 1, 58, [.bool y1, .slice B1 k1 d1, .bool y2, .slice B2 k2 d2])] w')) := fun w' h => ⟨⟨h.c 0 rfl 0 rfl, h.c 0 rfl 1 rfl, h.c 0 rfl 2 rfl, h.c 0 rfl 3 rfl, h.c 1 rfl 0 rfl, h.c 1 rfl 1 rfl, h.c 1 rfl 2 rfl, h.c 1 rfl 3 rfl⟩, ⟨h.f 0 rfl 0, h.f 0 rfl 1, h.f 0 rfl 2, h.f 0 rfl 3, h.f 1 rfl 0, h.f 1 rfl 1, h.f 1 rfl 2, h.f 1 rfl 3⟩, h⟩
  have C0 := (A0.out _ HT.out).1
  by_cases e1 : a = a'
  · have E1 : Hid (decide (a = a') = true) := decide_eq_true e1
    have HR : Hid (decide (b = b') = r) := by show _ = _; rw [← hr]; simp [e1]
    clear e1 hr
    go_enter Tryd.func42, Tryd.ntmps42
    go_wp2_with fail
    refine (same_any hp (HA.out.over HT.out.below) (HA'.out.over HT.out.below)).mono ?_
    rintro e w1 ⟨rfl, hb1⟩
    rw [E1.out]
    have T1 := Lib.hid (Mem.over hb1 HT.out)
    have C1 := (A0.out _ T1.out).1
    clear C0
    go_wp2_with fail
    refine (same_any hp (HB.out.over T1.out.below) (HB'.out.over T1.out.below)).mono ?_
    rintro e w2 ⟨rfl, hb2⟩
    rw [HR.out]
    have T2 := Lib.hid (Mem.over hb2 T1.out)
    go_wp2
    go_ret
    exact ⟨rfl, T2.out.below⟩
  · have E1 : Hid (decide (a = a') = false) := decide_eq_false e1
    obtain rfl : r = false := by rw [← hr]; exact decide_eq_false (fun h => e1 h.1)
    clear e1 hr
    go_enter Tryd.func42, Tryd.ntmps42
    go_wp2_with fail
    refine (same_any hp (HA.out.over HT.out.below) (HA'.out.over HT.out.below)).mono ?_
    rintro e w1 ⟨rfl, hb1⟩
    rw [E1.out]
    have T1 := Lib.hid (Mem.over hb1 HT.out)
    go_wp2
    go_ret
    exact ⟨rfl, T1.out.below⟩
end Go.Proofs.YtpikbhcjgcbdfaaDoor.wh
