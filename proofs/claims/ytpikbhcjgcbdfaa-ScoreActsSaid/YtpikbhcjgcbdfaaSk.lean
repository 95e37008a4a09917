/- Tables: lowered by one measure, in both packages. -/
import Derived.Test.YtpikbhcjgcbdfaaSj
import Derived.Test.YtpikbhcjgcbdfaaSe
namespace Go.Proofs.Ytpikbhcjgcbdfaa.sc
open Go.RowKit

/-- a number taken with 1e-100; all scores so -/
def mulW (x : Nat) : Nat := (Ieee.double.mul x 3110860544497550640).getD 0
def lowL (L : Nat → Nat) : Nat → Nat := fun j => keptW (mulW (L j))
theorem mul_at {x : Nat} (h : rg x ≤ I) : Ieee.double.mul x 3110860544497550640 = some (mulW x) ∧ rg (mulW x) ≤ I ∧ mulW x < 18446744073709551616 ∧ (rg x = I → x < 18446744073709551616 → mulW x = x) := by
  obtain ⟨z, e, h1, h2, h3⟩ := mul_small h (c := 3110860544497550640) (by decide) (by decide) (by decide)
  have : mulW x = z := by unfold mulW; rw [e]; rfl
  rw [this]
  exact ⟨e, h1, h2, h3⟩
/-- scores as a table has them: no NaN, and they fit -/
def Good (n : Nat) (L : Nat → Nat) : Prop := ∀ j, j < n → rg (L j) ≤ I ∧ L j < 18446744073709551616
theorem Good.fit {n : Nat} {L : Nat → Nat} (h : Good n L) : Fit n L := fun j hj => (h j hj).2
theorem kept_good {x : Nat} (h : x < 18446744073709551616) : rg (keptW x) ≤ I ∧ keptW x < 18446744073709551616 := by
  refine ⟨?_, kept_lt h⟩
  unfold keptW
  cases hn : isN x
  · rw [if_neg (by simp)]
    split
    · decide
    · have : ¬ I < rg x := by simpa [isN] using hn
      omega
  · rw [if_pos rfl]; decide
theorem low_good {n : Nat} {L : Nat → Nat} (h : Good n L) : Good n (lowL L) := fun j hj => kept_good (mul_at (h j hj).1).2.2.1
/-- an infinite score stays -/
theorem low_inf {x : Nat} (h : rg x = I) (hx : x < 18446744073709551616) : keptW (mulW x) = x := by
  rw [(mul_at (x := x) (by omega)).2.2.2 h hx]
  unfold keptW isN
  rw [h]
  have h1 : ¬ I < I := by omega
  have h2 : ¬ I = 0 := by decide
  simp [h1, h2]
/-- the scores behind k rounds -/
def midL (L : Nat → Nat) (k : Nat) : Nat → Nat := fun j => if j < k then lowL L j else L j
theorem mid_next (L : Nat → Nat) (k : Nat) : upd (midL L k) k (keptW (mulW (L k))) = midL L (k + 1) := by
  funext j
  unfold upd midL
  by_cases h : j = k
  · subst h; rw [if_pos rfl, if_pos (by omega)]; rfl
  · rw [if_neg h]
    by_cases h2 : j < k
    · rw [if_pos h2, if_pos (by omega)]
    · rw [if_neg h2, if_neg (by omega)]
theorem mid_at (L : Nat → Nat) (k : Nat) : midL L k k = L k := by unfold midL; rw [if_neg (by omega)]
theorem mid_stay {L : Nat → Nat} {k : Nat} (h : lowL L k = L k) : midL L k = midL L (k + 1) := by
  funext j
  unfold midL
  by_cases e : j = k
  · subst e; rw [if_neg (by omega), if_pos (by omega), h]
  · by_cases h2 : j < k
    · rw [if_pos h2, if_pos (by omega)]
    · rw [if_neg h2, if_neg (by omega)]
def Lowered (tt : TypeId) (w : World) (T S n : Nat) (L : Nat → Nat) (st dc : Nat) (e : Ending) (w' : World) : Prop :=
  e = .returned (.tuple #[]) ∧ Two T S w w' ∧ IsTab w' tt T S n (lowL L) (mulW st) dc
set_option maxRecDepth 100000 in
set_option maxHeartbeats 1000000 in
theorem lower_any {w : World} {T S n st dc : Nat} {L : Nat → Nat} (h : Hid (IsTab w 54 T S n L st dc)) (hg : Hid (Good n L)) (hs : Hid (rg st ≤ I)) (hn : n ≤ 1048576) :
    Calls Try.prog 30 #[.pointer (some ⟨T, 0, none⟩)] w (Lowered 54 w T S n L st dc) := by
  have c0 := h.out.c0
  go_enter Try.func30, Try.ntmps30
  go_wp2_with fail
  clear c0
  go_loopw [9] (fun i wr => ∃ k : Nat, k ≤ n ∧ i = .int .i64 (k : Int) ∧ Hid (IsTab wr 54 T S n (midL L k) st dc) ∧ Hid (Two T S w wr)) (fun i _ => n - (intOf i).toNat)
  case atStart => exact ⟨0, by omega, rfl, Lib.hid (h.out.congr (fun j _ => by unfold midL; simp)), Lib.hid (Two.refl _ _ _)⟩
  case round =>
    obtain ⟨k, hk, rfl, HT, HW⟩ := hrel
    by_cases hlt : k < n
    · have c0 := HT.out.c0
      have ck := HT.out.cs hlt
      rw [mid_at] at ck
      have fk := HT.out.fs k
      have hmul := fun W => @run_float_arith Try.prog W .mul 22 .f64 (L k) 3110860544497550640 (mulW (L k)) (mul_at (hg.out k hlt).1).1
      go_wp2_with fail
      go_region_with (go_at_call 27; refine (kept_any _ _).mono ?_; rintro e w' ⟨rfl, rfl⟩)
      all_goals
        go_wp2_with fail
        go_roundw
        case rel =>
          have hT := HT.out.setS k (keptW (mulW (L k)))
          rw [show (fun j => if j = k then keptW (mulW (L k)) else midL L k j) = upd (midL L k) k (keptW (mulW (L k))) from rfl, mid_next] at hT
          exact ⟨k + 1, by omega, by go_num, Lib.hid hT.drew, Lib.hid (HW.out.set2 _ _).drew⟩
        case measure => simp [intOf]; omega
    · obtain rfl : k = n := by omega
      have c1 := HT.out.c1
      have f1 := HT.out.f1
      have hmul := fun W => @run_float_arith Try.prog W .mul 22 .f64 st 3110860544497550640 (mulW st) (mul_at hs.out).1
      go_wp2_with fail
      go_end0
      exact ⟨rfl, HW.out.set1 _ _, (HT.out.setStep _).congr (fun j hj => by unfold midL; rw [if_pos hj])⟩
set_option maxRecDepth 100000 in
set_option maxHeartbeats 1000000 in
theorem refLower_any {w : World} {T S n st dc : Nat} {L : Nat → Nat} (h : Hid (IsTab w 35 T S n L st dc)) (hg : Hid (Good n L)) (hs : Hid (rg st ≤ I)) (hn : n ≤ 1048576) :
    Calls Try.prog 32 #[.pointer (some ⟨T, 0, none⟩)] w (Lowered 35 w T S n L st dc) := by
  go_enter Try.func32, Try.ntmps32
  go_wp2_with fail
  go_loopw [2] (fun i wr => ∃ k : Nat, k ≤ n ∧ i = .int .i64 (k : Int) ∧ Hid (IsTab wr 35 T S n (midL L k) st dc) ∧ Hid (Two T S w wr)) (fun i _ => n - (intOf i).toNat)
  case atStart => exact ⟨0, by omega, rfl, Lib.hid (h.out.congr (fun j _ => by unfold midL; simp)), Lib.hid (Two.refl _ _ _)⟩
  case round =>
    obtain ⟨k, hk, rfl, HT, HW⟩ := hrel
    have c0 := HT.out.c0
    by_cases hlt : k < n
    · have ck := HT.out.cs hlt
      rw [mid_at] at ck
      have fk := HT.out.fs k
      have hmul := fun W => @run_float_arith Try.prog W .mul 22 .f64 (L k) 3110860544497550640 (mulW (L k)) (mul_at (hg.out k hlt).1).1
      have HX := Lib.hid (hg.out k hlt).2
      cases hi : infB (L k)
      · go_wp2_with (first | (go_at_call 31; refine (refInf_any HX.out _).mono ?_; rintro e w' ⟨rfl, rfl⟩))
        go_region_with (go_at_call 15; refine (plain_any _ _).mono ?_; rintro e w' ⟨rfl, rfl⟩)
        all_goals
          go_wp2_with fail
          go_roundw
          case rel =>
            have hT := HT.out.setS k (keptW (mulW (L k)))
            rw [show (fun j => if j = k then keptW (mulW (L k)) else midL L k j) = upd (midL L k) k (keptW (mulW (L k))) from rfl, mid_next] at hT
            exact ⟨k + 1, by omega, by go_num, Lib.hid hT.drew, Lib.hid (HW.out.set2 _ _).drew⟩
          case measure => simp [intOf]; omega
      · have HI : Hid (lowL L k = L k) := Lib.hid (low_inf (by simpa [infB] using hi) HX.out)
        go_wp2_with (first | (go_at_call 31; refine (refInf_any HX.out _).mono ?_; rintro e w' ⟨rfl, rfl⟩))
        go_roundw
        case rel =>
          have hT := HT.out
          rw [mid_stay HI.out] at hT
          exact ⟨k + 1, by omega, by go_num, Lib.hid hT, HW⟩
        case measure => simp [intOf]; omega
    · obtain rfl : k = n := by omega
      have c1 := HT.out.c1
      have f1 := HT.out.f1
      have hmul := fun W => @run_float_arith Try.prog W .mul 22 .f64 st 3110860544497550640 (mulW st) (mul_at hs.out).1
      go_wp2_with fail
      go_end0
      exact ⟨rfl, HW.out.set1 _ _, (HT.out.setStep _).congr (fun j hj => by unfold midL; rw [if_pos hj])⟩
end Go.Proofs.Ytpikbhcjgcbdfaa.sc
