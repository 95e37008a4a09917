/- Package whole: divideByDigit; divide where the divisor is greater, or of one digit. -/
import Derived.Test.YtgmnpajecpjklaaDoorAddZ
namespace Go.Proofs.YtgmnpajecpjklaaDoor.wh
open Go.RowKit

/-- after the digits from k on: what is in the quotient, and what is left -/
def DivAt (xs : List Nat) (y k : Nat) (cur : List Nat) (r : Nat) : Prop := cur.length = xs.length ∧ Dig cur ∧ r < y ∧ val (xs.drop k) = y * val (cur.drop k) + r
theorem divAt_step {xs cur : List Nat} {y k r x q r' : Nat} (h : DivAt xs y (k + 1) cur r) (hk : k < xs.length) (hx : x = xs[k]) (hq : r * 1000000000 + x = y * q + r') (hr : r' < y) (hq9 : q < 1000000000) : DivAt xs y k (cur.set k q) r' := by
  obtain ⟨h1, h2, h3, h4⟩ := h
  refine ⟨by simp [h1], h2.set hq9, hr, ?_⟩
  have e : (cur.set k q).drop k = q :: cur.drop (k + 1) := by
    rw [List.drop_eq_getElem_cons (by simp; omega), List.getElem_set_self, List.drop_set_of_lt (by omega)]
  rw [e, val_drop hk, ← hx, h4]
  simp only [val, Nat.mul_add]
  have e2 : y * (1000000000 * val (cur.drop (k + 1))) = 1000000000 * (y * val (cur.drop (k + 1))) := by rw [Nat.mul_left_comm]
  rw [e2]
  omega
theorem divAt_end {xs cur : List Nat} {y r : Nat} (h : DivAt xs y 0 cur r) : val cur = val xs / y ∧ r = val xs % y := by
  obtain ⟨h1, h2, h3, h4⟩ := h
  rw [List.drop_zero, List.drop_zero] at h4
  rw [h4]
  constructor
  · rw [Nat.mul_add_div (by omega), Nat.div_eq_of_lt h3, Nat.add_zero]
  · rw [Nat.mul_add_mod, Nat.mod_eq_of_lt h3]

def GivesDigit (W : World) (n v y : Nat) (e : Ending) (w' : World) : Prop := ∃ A c, e = .returned (.tuple #[.slice A n c, .int .u32 ((v % y : Nat) : Int)]) ∧ Hid (RowIs w' A n c (v / y)) ∧ Hid (Below W.heap.size W w')

set_option maxRecDepth 100000 in
set_option maxHeartbeats 1000000 in
theorem digit_any (A : Option Addr) (n c y : Nat) (xs : List Nat) (w : World) (hlx : xs.length = n) (hn : n ≤ 2000) (hy : 1 ≤ y) (hy9 : y < 1000000000) (ha : Rd w w.heap.size A xs) (hdx : Dig xs) :
    Calls Tryd.prog 55 #[.slice A n c, .int .u32 y] w fun e w' => GivesDigit w n (val xs) y e w' := by
  subst hlx
  have HRA := Lib.hid ha
  have HX := Lib.hid hdx
  clear ha hdx
  have hmk := run_make_u32 (z := (xs.length : Int)) (n := xs.length) rfl (by omega)
  have HSZ : Hid (Seg (w.alloc (.cells (zeros xs.length) 58)) w.heap.size 0 [] (List.replicate xs.length 0) []) := seg_zeros w _
  have HBW : Hid (Below w.heap.size w (w.alloc (.cells (zeros xs.length) 58))) := (Below.refl _ _).alloc (Nat.le_refl _) _
  go_enter Tryd.func55, Tryd.ntmps55
  go_wp2
  go_loopw [7, 8] (fun u i wr => (∃ (k r : Nat) (z : Int) (cur : List Nat), k ≤ xs.length ∧ u = .int .u64 r ∧ i = .int .i64 z ∧ Hid (z = (k : Int) - 1) ∧ r < 1000000000 ∧ Hid (DivAt xs y k cur r) ∧ Hid (Seg wr w.heap.size 0 [] cur [])) ∧ Hid (Below w.heap.size w wr)) (fun _ i _ => (intOf i + 1).toNat)
  case atStart => exact ⟨⟨xs.length, 0, _, _, Nat.le_refl _, rfl, rfl, rfl, by omega, ⟨by simp, Dig.replicate _, by omega, by rw [List.drop_eq_nil_of_le (by simp), List.drop_eq_nil_of_le (by simp)]; simp [val]⟩, HSZ.out⟩, HBW⟩
  case round =>
    obtain ⟨⟨k, r, z, cur, hk, rfl, rfl, hz, hr9, hat, hsg⟩, hbw⟩ := hrel
    cases k with
    | zero =>
      obtain rfl : z = -1 := by have := hz.out; omega
      have HE := Lib.hid (divAt_end hat.out)
      have HRL : Hid (cur.length = xs.length ∧ Dig cur) := ⟨hat.out.1, hat.out.2.1⟩
      go_wp2
      go_ret2
      refine ⟨_, _, by rw [← HE.out.2]; rfl, ⟨cur, HRL.out.1, Nat.le_refl _, hsg.out.rd, HRL.out.2, HE.out.1⟩, hbw⟩
    | succ k =>
      obtain rfl : z = (k : Int) := by have := hz.out; omega
      have hkl : k < xs.length := by omega
      obtain ⟨ba, offa, rfl, hba, hca⟩ := (HRA.out.below hbw.out).at_ hkl
      obtain ⟨x, hx⟩ : ∃ x, x = xs[k] := ⟨_, rfl⟩
      rw [← hx] at hca
      have hx9 : x < 1000000000 := by rw [hx]; exact HX.out.get k hkl
      have hkc : k < cur.length := by rw [hat.out.1]; exact hkl
      have hc := hsg.out.cell hkc
      have hf := hsg.out.frozen k
      rw [Nat.zero_add] at hc
      obtain ⟨q, hq⟩ : ∃ q, q = (r * 1000000000 + x) / y := ⟨_, rfl⟩
      obtain ⟨r', hr'⟩ : ∃ r', r' = (r * 1000000000 + x) % y := ⟨_, rfl⟩
      have hq1 : ((r : Int) * 1000000000 + (x : Int)) / (y : Int) = (q : Int) := by rw [hq]; simp
      have hr1 : ((r : Int) * 1000000000 + (x : Int)) % (y : Int) = (r' : Int) := by rw [hr']; simp
      have HQ : Hid (r * 1000000000 + x = y * q + r') := by show _ = _; rw [hq, hr', Nat.div_add_mod]
      have hr2 : r' < y := by rw [hr']; exact Nat.mod_lt _ (by omega)
      have hq9 : q < 1000000000 := by
        rw [hq]
        apply Nat.div_lt_of_lt_mul
        have h3 := hat.out.2.2.1
        have : y * 1000000000 ≥ (r + 1) * 1000000000 := Nat.mul_le_mul_right _ (by omega)
        omega
      have HX2 := Lib.hid hx
      clear hq hr' hx
      go_wp2
      go_roundw
      case rel => exact ⟨⟨k, r', _, _, by omega, by go_num, rfl, rfl, by omega, divAt_step hat.out hkl HX2.out HQ.out hr2 hq9, by have h := hsg.out.set_ (z := (q : Int)) (v := q) hkc rfl; rw [Nat.zero_add] at h; exact h⟩, hbw.out.setCell (p := ⟨w.heap.size, k, none⟩) (Nat.le_refl _) _⟩
      case measure => simp [intOf]
end Go.Proofs.YtgmnpajecpjklaaDoor.wh
