/- Package score and the document's answers of layer 3: order, sameness, what a table keeps, infinite ones. -/
import Derived.Test.YtpikbhcjgcbdfaaSa
namespace Go.Proofs.Ytpikbhcjgcbdfaa.sc
open Go.RowKit

set_option maxRecDepth 100000 in
theorem refLess_any (x y : Nat) (w : World) :
    Calls Try.prog 24 #[.float .f64 x, .float .f64 y] w fun e w' => e = .returned (.bool (lessB x y)) ∧ w = w' := by
  have K := Lib.hid (rk_key x y)
  rw [← fmt_eq] at K
  by_cases h : rk x = rk y
  · have H := Lib.hid h
    have h1 : (rk x != rk y) = false := by rw [h]; simp
    clear h
    go_enter Try.func24, Try.ntmps24
    go_wp2_with (first | (go_at_call 35; refine (rank_any _ _).mono ?_; rintro e w' ⟨rfl, rfl⟩))
    go_ret
    exact ⟨ret_bool (by unfold lessB; rw [← K.out, if_pos H.out]), rfl⟩
  · have H := Lib.hid h
    have h1 : (rk x != rk y) = true := by simpa using h
    clear h
    go_enter Try.func24, Try.ntmps24
    go_wp2_with (first | (go_at_call 35; refine (rank_any _ _).mono ?_; rintro e w' ⟨rfl, rfl⟩))
    go_ret
    exact ⟨ret_bool (by unfold lessB; rw [← K.out, if_neg H.out]), rfl⟩
/-- are two scores one? -/
def sameB (x y : Nat) : Bool := decide (key x = key y)
theorem same_key (x y : Nat) : (decide (rk x = rk y) && ((Ieee.double.order x y == some .eq) || isN x)) = decide (key x = key y) := by
  rw [eq_of]
  unfold rk isN
  by_cases hx : I < rg x
  · rw [key_nan hx]
    by_cases hy : I < rg y
    · rw [key_nan hy]; simp [hx, hy]
    · have := key_low (x := y) (by omega)
      have h2 : ¬ (-18446744073709551616 = key y) := by omega
      simp only [hx, hy, h2, decide_true, decide_false, if_true]
      cases sg y <;> by_cases zy : rg y = 0 <;> simp [zy]
  · by_cases hy : I < rg y
    · have := key_low (x := x) (by omega)
      rw [key_nan hy]
      have h2 : ¬ (key x = -18446744073709551616) := by omega
      simp only [hx, hy, h2, decide_true, decide_false, if_true]
      cases sg x <;> by_cases zx : rg x = 0 <;> simp [zx]
    · rw [key_num (by omega), key_num (by omega)]
      unfold sr
      simp only [hx, hy, decide_false, Bool.not_false, Bool.true_and]
      by_cases zx : rg x = 0 <;> by_cases zy : rg y = 0 <;> cases sg x <;> cases sg y <;> (rw [Bool.eq_iff_iff]; simp [zx, zy]; try omega)
set_option maxRecDepth 100000 in
theorem same_any (x y : Nat) (w : World) :
    Calls Try.prog 16 #[.float .f64 x, .float .f64 y] w fun e w' => e = .returned (.bool (sameB x y)) ∧ w = w' := by
  have K := Lib.hid (same_key x y)
  rw [← fmt_eq] at K
  by_cases h : rk x = rk y
  · have H := Lib.hid h
    have h1 : (rk x == rk y) = true := by rw [h]; simp
    clear h
    cases h2 : (FloatKind.f64.format.order x y == some Ordering.eq)
    all_goals
      go_enter Try.func16, Try.ntmps16
      go_wp2_with (first | (go_at_call 35; refine (rank_any _ _).mono ?_; rintro e w' ⟨rfl, rfl⟩) | (go_at_call 18; refine (refNan_any _ _).mono ?_; rintro e w' ⟨rfl, rfl⟩))
      go_ret
      exact ⟨ret_bool (by unfold sameB; rw [← K.out, h2]; simp [H.out]), rfl⟩
  · have H := Lib.hid h
    have h1 : (rk x == rk y) = false := by simpa using h
    clear h
    go_enter Try.func16, Try.ntmps16
    go_wp2_with (first | (go_at_call 35; refine (rank_any _ _).mono ?_; rintro e w' ⟨rfl, rfl⟩))
    go_ret
    exact ⟨ret_bool (by unfold sameB; rw [← K.out]; simp [H.out]), rfl⟩
/-- -Inf; what a table keeps for a number -/
def lowW : Nat := 18442240474082181120
def keptW (x : Nat) : Nat := if isN x then lowW else if rg x = 0 then 0 else x
theorem inf_low (w : World) :
    Calls Try.prog 41 #[.int .i64 (-1)] w fun e w' => e = .returned (.float .f64 lowW) ∧ w = w' := by
  go_enter Try.func41, Try.ntmps41
  have hc : ∀ W, (callFunc 33 #[.int .u64 18442240474082181120]).run Try.prog W = .ok (.value (.float .f64 18442240474082181120)) W := fun W => callFrom 18442240474082181120 W
  go_wp2
  go_ret
  exact ⟨rfl, rfl⟩
theorem kept_any (x : Nat) (w : World) :
    Calls Try.prog 27 #[.float .f64 x] w fun e w' => e = .returned (.float .f64 (keptW x)) ∧ w = w' := by
  have Z := Lib.hid (@eq_zero x)
  rw [← fmt_eq] at Z
  have R : Hid (keptW x = if isN x then lowW else if (FloatKind.f64.format.order x 0 == some Ordering.eq) then 0 else x) := Lib.hid (by
    unfold keptW
    rw [Z.out]
    by_cases hz : rg x = 0 <;> simp [hz])
  clear Z
  cases h1 : isN x
  · cases h4 : (FloatKind.f64.format.order x 0 == some Ordering.eq)
    all_goals
      go_enter Try.func27, Try.ntmps27
      go_wp2_with (first | (go_at_call 37; refine (isnan_any _ _).mono ?_; rintro e w' ⟨rfl, rfl⟩))
      go_ret
      exact ⟨ret_float (by rw [R.out, h1, h4]; rfl), rfl⟩
  · go_enter Try.func27, Try.ntmps27
    go_wp2_with (first | (go_at_call 37; refine (isnan_any _ _).mono ?_; rintro e w' ⟨rfl, rfl⟩) | (go_at_call 41; refine (inf_low _).mono ?_; rintro e w' ⟨rfl, rfl⟩))
    go_ret
    exact ⟨ret_float (by rw [R.out, h1]; rfl), rfl⟩
theorem zero_any (w : World) :
    Calls Try.prog 34 #[] w fun e w' => e = .returned (.int .i64 0) ∧ w = w' := by
  go_enter Try.func34, Try.ntmps34
  go_wp2
  go_ret
  exact ⟨rfl, rfl⟩
theorem plain_any (x : Nat) (w : World) :
    Calls Try.prog 15 #[.float .f64 x] w fun e w' => e = .returned (.float .f64 (keptW x)) ∧ w = w' := by
  have Z := Lib.hid (@eq_zero x)
  rw [← fmt_eq] at Z
  have R : Hid (keptW x = if isN x then lowW else if (FloatKind.f64.format.order x 0 == some Ordering.eq) then 0 else x) := Lib.hid (by
    unfold keptW
    rw [Z.out]
    by_cases hz : rg x = 0 <;> simp [hz])
  clear Z
  cases h1 : isN x
  · cases h4 : (FloatKind.f64.format.order x 0 == some Ordering.eq)
    all_goals
      go_enter Try.func15, Try.ntmps15
      go_wp2_with (first | (go_at_call 18; refine (refNan_any _ _).mono ?_; rintro e w' ⟨rfl, rfl⟩))
      go_ret
      exact ⟨ret_float (by rw [R.out, h1, h4]; rfl), rfl⟩
  · have hf : floatOfInt .f64 0 = 0 := by decide
    have hr := fun W => @run_float_arith Try.prog W .quo 22 .f64 13830554455654793216 0 lowW (by decide +kernel)
    go_enter Try.func15, Try.ntmps15
    go_wp2_with (first | (go_at_call 18; refine (refNan_any _ _).mono ?_; rintro e w' ⟨rfl, rfl⟩) | (go_at_call 34; refine (zero_any _).mono ?_; rintro e w' ⟨rfl, rfl⟩))
    go_ret
    exact ⟨ret_float (by rw [R.out, h1]; rfl), rfl⟩
end Go.Proofs.Ytpikbhcjgcbdfaa.sc
