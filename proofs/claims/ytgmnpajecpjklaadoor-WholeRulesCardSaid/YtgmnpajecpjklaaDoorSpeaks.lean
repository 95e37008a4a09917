/- The statements' first part: the example of the document (speaks); Odd; the document's answers Right and Same. -/
import Derived.Test.YtgmnpajecpjklaaDoorTextZ
namespace Go.Proofs.YtgmnpajecpjklaaDoor.wh
open Go.RowKit

theorem zval_unique {neg neg' : Bool} {ds ds' : List Nat} (h : rightB neg ds = true) (h' : rightB neg' ds' = true) (e : zval neg ds = zval neg' ds') : neg = neg' ∧ ds = ds' := by
  have hv : val ds = val ds' := by rw [← zval_abs neg ds, e, zval_abs]
  have hd := val_inj (right_dig h) (right_dig h') (right_top h) (right_top h') hv
  subst hd
  refine ⟨?_, rfl⟩
  by_cases hn : ds.length = 0
  · have hz := List.eq_nil_of_length_eq_zero hn
    subst hz
    rw [right_nil h, right_nil h']
  · have := top_pos (right_top h) (by omega)
    cases neg <;> cases neg' <;> simp [zval] at e ⊢ <;> omega

/-- Text of an integer below 100 -/
theorem text_small {v : Value} {m : Nat} {z : Int} {neg : Bool} {ds : List Nat} {l : List UInt8} {w0 w : World} (hm : m ≤ 1000) (hi : IsInt w0 w0.heap.size m v z) (hb : Below w0.heap.size w0 w) (hR : rightB neg ds = true) (hz : zval neg ds = z) (hs : ∀ d ∈ ds, d < 100) (hl : textOf neg ds = l) :
    Calls Tryd.prog 24 #[v] w fun e w' => GivesText w l e w' := by
  obtain ⟨neg', A, n, c, ds', rfl, hnm, HC, HZ⟩ := hi.cells
  obtain ⟨rfl, rfl⟩ := zval_unique HC.out.right hR (HZ.out.trans hz.symm)
  rw [← hl]
  refine text_any neg' A n c ds' w (by omega) (HC.out.over hb) (fun d hd W _ => ?_)
  exact (small_dec d W (hs d hd)).mono fun e w' h => ⟨h.1, by rw [← h.2]; exact Below.refl _ _⟩

theorem text_m4 : textOf true [4] = [45, 52] := by
  simp [textOf, headOf, restOf, Lib.decDigits_one]
theorem text_1 : textOf false [1] = [49] := by
  simp [textOf, headOf, restOf, Lib.decDigits_one]

/-- of a divisor of one digit -/
theorem divides_one {X Y : Nat} (h0 : 0 < Y) (hY : Y < 1000000000) : Divides X Y := by
  intro xs ys A B n c m d w hx hy dx dy hn hm hm0
  subst hx hy
  have hm1 : m = 1 := by
    have := top_len dy.top (m := 1) (by omega)
    have := dy.len
    omega
  subst hm1
  rcases Nat.lt_or_ge (val xs) (val ys) with h | h
  · exact divide_less dx dy hn h
  · exact divide_one dx dy hn h

set_option maxRecDepth 100000 in
set_option maxHeartbeats 1000000 in
theorem speaks_any (w : World) : Calls Tryd.prog 7 #[] w fun e w' => e = .returned (.bool true) ∧ Below w.heap.size w w' := by
  have hd : Hid ((2 : Int) ≠ 0 → Divides (-7 : Int).natAbs (2 : Int).natAbs) := fun _ => divides_one (by decide) (by decide)
  go_enter Tryd.func7, Tryd.ntmps7
  go_wp2_with fail
  refine (of_any (-7) w (by omega) (by omega)).mono ?_
  rintro e w1 ⟨v1, rfl, hi1, hb1⟩
  go_wp2_with fail
  refine (of_any 2 w1 (by omega) (by omega)).mono ?_
  rintro e w2 ⟨v2, rfl, hi2, hb2⟩
  go_wp2_with fail
  refine (div_any v1 v2 3 3 (-7) 2 w2 (by omega) (by omega) ((hi1.below hb2).more hb2.size (Nat.le_refl _)) hi2 hd.out).mono ?_
  rintro e w3 ⟨x1, A1, n1, c1, x2, A2, n2, c2, rfl, hq, hr, hb3⟩
  have HBW : Hid (Below w.heap.size w w3) := hb1.trans ((hb2.mono hb1.size).trans (hb3.out.mono (by have := hb1.size; have := hb2.size; omega)))
  have hs3 : w.heap.size ≤ w3.heap.size := HBW.out.size
  clear hi1 hi2 hb1 hb2
  have hal : Hid (Below w3.heap.size w3 ((w3.alloc (.cells #[.bool x1, .slice A1 n1 c1] 24)).alloc (.cells #[.bool x2, .slice A2 n2 c2] 24))) := ((Below.refl _ _).alloc (Nat.le_refl _) _).alloc (by simp) _
  go_wp2_with fail
  refine (text_small (neg := true) (ds := [4]) (by omega) hq.out hal.out (by rfl) (by rfl) (by simp) text_m4).mono ?_
  rintro e w4 ⟨rfl, hb4⟩
  have hb4' : Hid (Below w3.heap.size w3 w4) := hal.out.trans (hb4.mono (by simp; omega))
  have hx4 := Box.below (w' := w4) (B := w3.heap.size + 2) (by have h := Box.new (w3.alloc (.cells #[.bool x1, .slice A1 n1 c1] 24)) x2 A2 n2 c2; rw [World.size_alloc] at h; exact h) (by simpa using hb4) (by omega)
  have c0 := hx4.c0
  have c1 := hx4.c1
  go_wp2_with fail
  refine (text_small (neg := false) (ds := [1]) (by omega) hr.out hb4'.out (by rfl) (by rfl) (by simp) text_1).mono ?_
  rintro e w5 ⟨rfl, hb5⟩
  go_wp2
  go_ret
  exact ⟨rfl, HBW.trans ((hb4'.out.mono hs3).trans (hb5.mono (by have := hb4'.out.size; omega)))⟩
end Go.Proofs.YtgmnpajecpjklaaDoor.wh
