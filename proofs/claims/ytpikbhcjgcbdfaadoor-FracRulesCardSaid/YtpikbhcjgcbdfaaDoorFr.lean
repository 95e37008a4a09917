/- Package frac: what a fraction is in memory; isInteger, isOne, isNought, fresh. -/
import Derived.Test.YtpikbhcjgcbdfaaDoorMemA
import Derived.Test.YtpikbhcjgcbdfaaDoorRat
import Derived.Test.YtpikbhcjgcbdfaaDoorRules
namespace Go.Proofs.YtpikbhcjgcbdfaaDoor.wh
open Go.RowKit

/-- the number under the line as it is written: 0 digits for 1 -/
def undZ (q : Rat) : Int := if q.den = 1 then 0 else (q.den : Int)
/-- The value v is the fraction q, in its one form; each part has at most m digits. -/
def IsFr (w : World) (m : Nat) (v : Value) (q : Rat) : Prop :=
  ∃ n1 A1 l1 c1 n2 A2 l2 c2, v = .agg #[.bool n1, .slice A1 l1 c1, .bool n2, .slice A2 l2 c2] ∧ IsInt w w.heap.size m (.agg #[.bool n1, .slice A1 l1 c1]) q.num ∧ IsInt w w.heap.size m (.agg #[.bool n2, .slice A2 l2 c2]) (undZ q)
def GivesF (W : World) (m : Nat) (q : Rat) (e : Ending) (w' : World) : Prop :=
  ∃ n1 A1 l1 c1 n2 A2 l2 c2, e = .returned (.agg #[.bool n1, .slice A1 l1 c1, .bool n2, .slice A2 l2 c2]) ∧ Hid (IsFr w' m (.agg #[.bool n1, .slice A1 l1 c1, .bool n2, .slice A2 l2 c2]) q) ∧ Hid (Below W.heap.size W w')
theorem IsFr.kept {w w' : World} {m : Nat} {v : Value} {q : Rat} (h : IsFr w m v q) (hk : Kept w w') : IsFr w' m v q := by
  obtain ⟨n1, A1, l1, c1, n2, A2, l2, c2, rfl, h1, h2⟩ := h
  exact ⟨n1, A1, l1, c1, n2, A2, l2, c2, rfl, h1.kept hk, h2.kept hk⟩
theorem IsFr.over {w w' : World} {m : Nat} {v : Value} {q : Rat} (h : IsFr w m v q) (hb : Below w.heap.size w w') : IsFr w' m v q := h.kept (Kept.of_below hb)
theorem IsFr.more {w : World} {m m' : Nat} {v : Value} {q : Rat} (h : IsFr w m v q) (hm : m ≤ m') : IsFr w m' v q := by
  obtain ⟨n1, A1, l1, c1, n2, A2, l2, c2, rfl, h1, h2⟩ := h
  exact ⟨n1, A1, l1, c1, n2, A2, l2, c2, rfl, h1.more (Nat.le_refl _) hm, h2.more (Nat.le_refl _) hm⟩
theorem IsInt.tight {w : World} {B m k : Nat} {v : Value} {z : Int} (h : IsInt w B m v z) (hz : z.natAbs < 1000000000 ^ k) : IsInt w B k v z := by
  obtain ⟨neg, A, n, c, ds, h1, h2, h3, h4, h5, h6, h7⟩ := h
  have e := zval_abs neg ds
  rw [h7] at e
  have := top_len (right_top h6) (m := k) (by rw [← e]; exact hz)
  exact ⟨neg, A, n, c, ds, h1, h2, h3, by omega, h5, h6, h7⟩
theorem IsInt.small {w : World} {B m : Nat} {v : Value} {z : Int} (h : IsInt w B m v z) : z.natAbs < 1000000000 ^ m := by
  obtain ⟨neg, A, n, c, ds, h1, h2, h3, h4, h5, h6, h7⟩ := h
  have e := zval_abs neg ds
  rw [h7] at e
  have h8 := val_lt (right_dig h6)
  have h10 : 1000000000 ^ ds.length ≤ 1000000000 ^ m := pow_mono (by omega)
  rw [e]
  omega
theorem isInteger_yes {n1 n2 : Bool} {A1 A2 : Option Addr} {l1 c1 c2 : Nat} (w : World) :
    Calls Tryd.prog 83 #[.agg #[.bool n1, .slice A1 l1 c1, .bool n2, .slice A2 0 c2]] w fun e w' => e = .returned (.bool true) ∧ Hid (Below w.heap.size w w') := by
  go_enter Tryd.func83, Tryd.ntmps83
  go_wp2
  go_ret
  exact ⟨rfl, (Below.refl _ _).alloc (Nat.le_refl _) _⟩
theorem isInteger_no {n1 n2 : Bool} {A1 A2 : Option Addr} {l1 c1 l2 c2 : Nat} (w : World) (h : 0 < l2) :
    Calls Tryd.prog 83 #[.agg #[.bool n1, .slice A1 l1 c1, .bool n2, .slice A2 l2 c2]] w fun e w' => e = .returned (.bool false) ∧ Hid (Below w.heap.size w w') := by
  have h0 : ((l2 : Int) == 0) = false := by rw [beq_eq_false_iff_ne]; omega
  go_enter Tryd.func83, Tryd.ntmps83
  go_wp2
  go_ret
  exact ⟨rfl, (Below.refl _ _).alloc (Nat.le_refl _) _⟩
/-- whether the fraction is an integer shows in the digits under the line -/
theorem und_zero {w : World} {B m : Nat} {n2 : Bool} {A2 : Option Addr} {l2 c2 : Nat} {q : Rat} (h : IsInt w B m (.agg #[.bool n2, .slice A2 l2 c2]) (undZ q)) : (q.den = 1 → l2 = 0 ∧ n2 = false) ∧ (q.den ≠ 1 → 0 < l2 ∧ n2 = false) := by
  have hp := q.den_pos
  unfold undZ at h
  refine ⟨fun e => ?_, fun e => ?_⟩
  · rw [if_pos e] at h
    exact ⟨int_none h rfl, int_sign h (by omega)⟩
  · rw [if_neg e] at h
    refine ⟨?_, int_sign h (by omega)⟩
    rcases Nat.eq_zero_or_pos l2 with h0 | h0
    · obtain ⟨neg, A', n', c', ds, hv, h2, h3, h4, h5, h6, h7⟩ := h
      cases hv
      rw [List.eq_nil_of_length_eq_zero (h2.trans h0)] at h7
      cases n2 <;> simp [zval, val] at h7 <;> omega
    · exact h0

set_option maxRecDepth 100000 in
set_option maxHeartbeats 1000000 in
theorem isOne_yes {v : Value} {m : Nat} {z : Int} {w : World} (hi : IsInt w w.heap.size m v z) (hz : z = 1) :
    Calls Tryd.prog 89 #[v] w fun e w' => e = .returned (.bool true) ∧ Hid (Below w.heap.size w w') := by
  obtain ⟨neg, A, n, c, ds, rfl, hnm, CX, ZX⟩ := hi.cells
  clear hi
  obtain ⟨rfl, hds⟩ := zval_unique (neg' := false) (ds' := [1]) CX.out.right rfl (by rw [ZX.out, hz]; rfl)
  have hn : n = 1 := by rw [← CX.out.len, hds]; rfl
  subst hn
  subst hds
  obtain ⟨b, off, rfl, hb, hc⟩ := CX.out.rd.at_ (k := 0) (by decide)
  have hc1 : (w.alloc (.cells #[.bool false, .slice (some ⟨b, off, none⟩) 1 c] 24)).cell? ⟨b, off, none⟩ = some (.int .u32 1) := by
    rw [World.cell?_alloc_lt _ _ _ (by simpa using hb)]; exact hc
  clear hc ZX CX hz
  go_enter Tryd.func89, Tryd.ntmps89
  go_wp2
  go_ret
  exact ⟨rfl, (Below.refl _ _).alloc (Nat.le_refl _) _⟩
set_option maxRecDepth 100000 in
set_option maxHeartbeats 1000000 in
theorem isOne_no {v : Value} {m : Nat} {z : Int} {w : World} (hi : IsInt w w.heap.size m v z) (hz : z ≠ 1) :
    Calls Tryd.prog 89 #[v] w fun e w' => e = .returned (.bool false) ∧ Hid (Below w.heap.size w w') := by
  obtain ⟨neg, A, n, c, ds, rfl, hnm, CX, ZX⟩ := hi.cells
  clear hi
  cases neg with
  | true =>
    clear ZX CX hz
    go_enter Tryd.func89, Tryd.ntmps89
    go_wp2
    go_ret
    exact ⟨rfl, (Below.refl _ _).alloc (Nat.le_refl _) _⟩
  | false =>
    by_cases hn : n = 1
    · subst hn
      obtain ⟨x, hx⟩ : ∃ x, ds = [x] := by
        have := CX.out.len
        match ds, this with
        | [x], _ => exact ⟨x, rfl⟩
      subst hx
      have hx1 : x ≠ 1 := fun e => by
        subst e
        exact hz (by rw [← ZX.out]; rfl)
      obtain ⟨b, off, rfl, hb, hc⟩ := CX.out.rd.at_ (k := 0) (by simp)
      have hc1 : (w.alloc (.cells #[.bool false, .slice (some ⟨b, off, none⟩) 1 c] 24)).cell? ⟨b, off, none⟩ = some (.int .u32 (x : Int)) := by
        rw [World.cell?_alloc_lt _ _ _ (by simpa using hb)]; exact hc
      have he : ((x : Int) == 1) = false := by rw [beq_eq_false_iff_ne]; omega
      clear hc ZX CX hz hx1
      go_enter Tryd.func89, Tryd.ntmps89
      go_wp2
      go_ret
      exact ⟨rfl, (Below.refl _ _).alloc (Nat.le_refl _) _⟩
    · have he : ((n : Int) == 1) = false := by rw [beq_eq_false_iff_ne]; omega
      clear ZX CX hz hn
      go_enter Tryd.func89, Tryd.ntmps89
      go_wp2
      go_ret
      exact ⟨rfl, (Below.refl _ _).alloc (Nat.le_refl _) _⟩

set_option maxRecDepth 100000 in
set_option maxHeartbeats 1000000 in
theorem isNought_any {v : Value} {m : Nat} {z : Int} {w : World} {r : Bool} (hm : m ≤ 1000) (hi : IsInt w w.heap.size m v z) (hr : decide (z = 0) = r) :
    Calls Tryd.prog 85 #[v] w fun e w' => e = .returned (.bool r) ∧ Hid (Below w.heap.size w w') := by
  obtain ⟨neg, A, n, c, ds, rfl, h2⟩ := hi
  have HI := Lib.hid (show IsInt w w.heap.size m (.agg #[.bool neg, .slice A n c]) z from ⟨neg, A, n, c, ds, rfl, h2⟩)
  have hc : (cmpZ z 0 == 0) = r := by
    rw [← hr]
    unfold cmpZ
    by_cases h1 : z < 0
    · rw [if_pos h1]; simp; omega
    · rw [if_neg h1]
      by_cases h3 : 0 < z
      · rw [if_pos h3]; simp; omega
      · rw [if_neg h3]; simp; omega
  clear h2 hr
  have HB : Hid (Below w.heap.size w (w.alloc (.cells #[.bool neg, .slice A n c] 24))) := (Below.refl _ _).alloc (Nat.le_refl _) _
  go_enter Tryd.func85, Tryd.ntmps85
  go_wp2_with fail
  refine (cmp_hid (p := m) (q := 0) hm (by omega) (HI.out.over HB.out) (isInt_zero _ _ _)).mono ?_
  rintro e w1 ⟨rfl, hb1⟩
  go_wp2
  go_ret
  exact ⟨rfl, HB.out.trans (hb1.out.mono HB.out.size)⟩

set_option maxRecDepth 100000 in
set_option maxHeartbeats 1000000 in
theorem fresh_any {v : Value} {m : Nat} {z : Int} {w : World} (hm : m ≤ 900) (hi : IsInt w w.heap.size m v z) :
    Calls Tryd.prog 84 #[v] w fun e w' => GivesZ w m z e w' := by
  have HS := Lib.hid hi.small
  obtain ⟨neg, A, n, c, ds, rfl, h2⟩ := hi
  have HI := Lib.hid (show IsInt w w.heap.size m (.agg #[.bool neg, .slice A n c]) z from ⟨neg, A, n, c, ds, rfl, h2⟩)
  clear h2
  have HT : Hid (Mem w [(w.heap.size, 24, [.bool neg, .slice A n c]), (w.heap.size + 1, 24, [.bool false, .slice none 0 0])] ((w.alloc (.cells #[.bool neg, .slice A n c] 24)).alloc (.cells #[.bool false, .slice none 0 0] 24))) := (((Mem.new w).push (by simp) 24 [.bool neg, .slice A n c] rfl).push (by simp) 24 [.bool false, .slice none 0 0] rfl)
  have A0 : Hid (∀ w' : World, Mem w [(w.heap.size, 24, [.bool neg, .slice A n c]), (w.heap.size + 1, 24, [.bool false, .slice none 0 0])] w' → (w'.cell? ⟨w.heap.size, 0, none⟩ = some (.bool neg) ∧ w'.cell? ⟨w.heap.size, 1, none⟩ = some (.slice A n c) ∧ w'.cell? ⟨w.heap.size + 1, 0, none⟩ = some (.bool false) ∧ w'.cell? ⟨w.heap.size + 1, 1, none⟩ = some (.slice none 0 0)) ∧ (w'.frozen? ⟨w.heap.size, 0, none⟩ = false ∧ w'.frozen? ⟨w.heap.size, 1, none⟩ = false ∧ w'.frozen? ⟨w.heap.size + 1, 0, none⟩ = false ∧ w'.frozen? ⟨w.heap.size + 1, 1, none⟩ = false) ∧ Hid (Mem w [(w.heap.size, 24, [.bool neg, .slice A n c]), (w.heap.size + 1, 24, [.bool false, .slice none 0 0])] w')) := fun w' h => ⟨⟨h.c 0 rfl 0 rfl, h.c 0 rfl 1 rfl, h.c 1 rfl 0 rfl, h.c 1 rfl 1 rfl⟩, ⟨h.f 0 rfl 0, h.f 0 rfl 1, h.f 1 rfl 0, h.f 1 rfl 1⟩, h⟩
  go_enter Tryd.func84, Tryd.ntmps84
  go_wp2_with fail
  refine (add_any _ _ m 0 z 0 _ hm (by omega) (HI.out.over HT.out.below) (isInt_zero _ _ _)).mono ?_
  rintro e w1 ⟨x1, A1, n1, c1, rfl, hi1, hb1⟩
  rw [Int.add_zero] at hi1
  have T1 := Lib.hid (Mem.over hb1 HT.out)
  have C1 := (A0.out _ T1.out).1
  have F1 := (A0.out _ T1.out).2.1
  have T2 := Lib.hid ((T1.out.set_ 1 rfl 0 (v := .bool x1) rfl).set_ 1 rfl 1 (v := .slice A1 n1 c1) rfl)
  have K2 := Lib.hid ((T1.out.kept_set 1 rfl 0 (.bool x1)).trans ((T1.out.set_ 1 rfl 0 (v := .bool x1) rfl).kept_set 1 rfl 1 (.slice A1 n1 c1)))
  have e0 := T2.out.c 1 rfl 0 rfl
  have e1 := T2.out.c 1 rfl 1 rfl
  have HF := Lib.hid ((hi1.out.kept K2.out).tight HS.out)
  go_wp2
  exact bodyPost_ret (v := .agg #[.bool x1, .slice A1 n1 c1]) (by simp [results, Tryd.results84, go_sem, e0, e1]) rfl ⟨x1, A1, n1, c1, rfl, HF, T2.out.below⟩
end Go.Proofs.YtpikbhcjgcbdfaaDoor.wh
