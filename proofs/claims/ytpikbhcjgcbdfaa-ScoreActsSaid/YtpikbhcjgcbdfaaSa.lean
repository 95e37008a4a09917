/- Package score and the document's answers of layer 3: the small functions of float64: NaN, bits, order, what is kept. -/
import Derived.WalkKit
import Derived.WalkLawsBesides
import Derived.Lib.Hide
import Derived.Test.YtpikbhcjgcbdfaaRows
import Derived.Deep.QuietTactic
import Derived.BigQuiet
import Derived.Deep.RegionHeld3
import Derived.Test.YtpikbhcjgcbdfaaFm
namespace Go.Proofs.Ytpikbhcjgcbdfaa.sc
open Go.RowKit

@[go_sem] theorem callFrom (n : Nat) (w : World) : (callFunc 33 #[.int .u64 (n : Int)]).run Try.prog w = .ok (.value (.float .f64 n)) w :=
  (run_callFunc_extern (e := Extern.MathFloatBits.float64frombits) Try.func33 (by kernel_rfl) (by kernel_rfl) (by kernel_rfl) (by kernel_rfl) _ w).trans rfl
@[go_sem] theorem callBits (x : Nat) (w : World) : (callFunc 38 #[.float .f64 x]).run Try.prog w = .ok (.value (.int .u64 (x : Int))) w :=
  (run_callFunc_extern (e := Extern.MathFloatBits.float64bits) Try.func38 (by kernel_rfl) (by kernel_rfl) (by kernel_rfl) (by kernel_rfl) _ w).trans rfl

theorem ret_bool {a b : Bool} (h : a = b) : Ending.returned (.bool a) = .returned (.bool b) := by rw [h]
theorem ret_float {a b : Nat} (h : a = b) : Ending.returned (.float .f64 a) = .returned (.float .f64 b) := by rw [h]
theorem ret_int {k : IntKind} {a b : Int} (h : a = b) : Ending.returned (.int k a) = .returned (.int k b) := by rw [h]
theorem fmt_eq : FloatKind.f64.format = Ieee.double := rfl
theorem neq_self (x : Nat) : (FloatKind.f64.format.order x x != some Ordering.eq) = isN x := by
  rw [fmt_eq, bne, eq_self, Bool.not_not]

theorem isnan_any (x : Nat) (w : World) :
    Calls Try.prog 37 #[.float .f64 x] w fun e w' => e = .returned (.bool (isN x)) ∧ w = w' := by
  go_enter Try.func37, Try.ntmps37
  go_wp2
  go_ret
  exact ⟨ret_bool (neq_self x), rfl⟩
theorem refNan_any (x : Nat) (w : World) :
    Calls Try.prog 18 #[.float .f64 x] w fun e w' => e = .returned (.bool (isN x)) ∧ w = w' := by
  go_enter Try.func18, Try.ntmps18
  go_wp2
  go_ret
  exact ⟨ret_bool (neq_self x), rfl⟩
theorem of_any (n : Nat) (w : World) :
    Calls Try.prog 13 #[.int .u64 (n : Int)] w fun e w' => e = .returned (.float .f64 n) ∧ w = w' := by
  go_enter Try.func13, Try.ntmps13
  go_wp2
  go_ret
  exact ⟨rfl, rfl⟩
/-- NaN's bits -/
def nanW : Nat := 9221120237041090561
def bitsN (x : Nat) : Nat := if isN x then nanW else x
theorem bits_any (x : Nat) (w : World) :
    Calls Try.prog 20 #[.float .f64 x] w fun e w' => e = .returned (.int .u64 (bitsN x : Int)) ∧ w = w' := by
  by_cases hn : isN x = true
  all_goals
    have hn' := hn
    have E := Lib.hid hn'
    clear hn'
    go_enter Try.func20, Try.ntmps20
    go_wp2_with (go_at_call 37; refine (isnan_any _ _).mono ?_; rintro e w' ⟨rfl, rfl⟩)
    go_ret
    exact ⟨ret_int (by have := E.out; unfold bitsN nanW; simp [this]), rfl⟩
theorem sign_int {x : Nat} (h : x < 18446744073709551616) : decide (wrap64 (x : Int) < 0) = sg x := by
  unfold wrap64 sg
  have : x / 9223372036854775808 = 0 ∨ x / 9223372036854775808 = 1 := by omega
  rcases this with e | e
  · rw [e]; simp; omega
  · rw [e]; simp; omega
theorem signbit_any {x : Nat} (h : x < 18446744073709551616) (w : World) :
    Calls Try.prog 40 #[.float .f64 x] w fun e w' => e = .returned (.bool (sg x)) ∧ w = w' := by
  have E := Lib.hid h
  clear h
  go_enter Try.func40, Try.ntmps40
  go_wp2
  go_ret
  exact ⟨ret_bool (sign_int E.out), rfl⟩
/-- is a score less? -/
def lessB (x y : Nat) : Bool := decide (key x < key y)
set_option maxRecDepth 100000 in
theorem less_any {x y : Nat} (hx : x < 18446744073709551616) (hy : y < 18446744073709551616) (w : World) :
    Calls Try.prog 23 #[.float .f64 x, .float .f64 y] w fun e w' => e = .returned (.bool (lessB x y)) ∧ w = w' := by
  have EX := Lib.hid hx
  have EY := Lib.hid hy
  have K := Lib.hid (less_key x y)
  rw [← fmt_eq] at K
  clear hx hy
  cases h1 : isN x
  · cases h2 : (FloatKind.f64.format.order x y == some Ordering.lt)
    · cases h3 : (FloatKind.f64.format.order x y == some Ordering.eq)
      · go_enter Try.func23, Try.ntmps23
        go_wp2_with (first | (go_at_call 37; refine (isnan_any _ _).mono ?_; rintro e w' ⟨rfl, rfl⟩) | (go_at_call 40; (with_reducible refine (signbit_any EX.out _).mono ?_); rintro e w' ⟨rfl, rfl⟩) | (go_at_call 40; (with_reducible refine (signbit_any EY.out _).mono ?_); rintro e w' ⟨rfl, rfl⟩))
        go_ret
        exact ⟨ret_bool (by unfold lessB; rw [← K.out, h1, h2, h3]; rfl), rfl⟩
      · cases h4 : sg x
        all_goals
          go_enter Try.func23, Try.ntmps23
          go_wp2_with (first | (go_at_call 37; refine (isnan_any _ _).mono ?_; rintro e w' ⟨rfl, rfl⟩) | (go_at_call 40; (with_reducible refine (signbit_any EX.out _).mono ?_); rintro e w' ⟨rfl, rfl⟩) | (go_at_call 40; (with_reducible refine (signbit_any EY.out _).mono ?_); rintro e w' ⟨rfl, rfl⟩))
          go_ret
          exact ⟨ret_bool (by unfold lessB; rw [← K.out, h1, h2, h3, h4]; cases sg y <;> rfl), rfl⟩
    · go_enter Try.func23, Try.ntmps23
      go_wp2_with (first | (go_at_call 37; refine (isnan_any _ _).mono ?_; rintro e w' ⟨rfl, rfl⟩))
      go_ret
      exact ⟨ret_bool (by unfold lessB; rw [← K.out, h1, h2]; rfl), rfl⟩
  · go_enter Try.func23, Try.ntmps23
    go_wp2_with (first | (go_at_call 37; refine (isnan_any _ _).mono ?_; rintro e w' ⟨rfl, rfl⟩))
    go_ret
    exact ⟨ret_bool (by unfold lessB; rw [← K.out, h1]; rfl), rfl⟩

def minusB (x : Nat) : Bool := rg x == 0 && sg x
theorem one_div {x : Nat} (h : rg x = 0) : ∃ z, Ieee.double.div 4607182418800017408 x = some z ∧ (Ieee.double.order z 0 == some .lt) = sg x := by
  have hr : Ieee.double.read x = .number (sg x) 0 (-1074) := by
    unfold Ieee.Format.read
    simp only [binade_eq, sw_eq, least_eq]
    change (if rg x < _ then Ieee.Datum.number _ (rg x) _ else _) = _
    rw [h, if_pos (by omega)]; rfl
  have h1 : Ieee.double.read 4607182418800017408 = .number false 4503599627370496 (-52) := by decide
  have e : Ieee.double.div 4607182418800017408 x = some (Ieee.double.write (.infinity (false ^^ sg x))) := by
    unfold Ieee.Format.div
    rw [hr, h1]; rfl
  refine ⟨_, e, ?_⟩
  rw [Bool.false_xor]
  cases sg x <;> decide
theorem refMinus_any (x : Nat) (w : World) :
    Calls Try.prog 43 #[.float .f64 x] w fun e w' => e = .returned (.bool (minusB x)) ∧ w = w' := by
  have Z := Lib.hid (@eq_zero x)
  rw [← fmt_eq] at Z
  cases h : (FloatKind.f64.format.order x 0 == some Ordering.eq)
  · go_enter Try.func43, Try.ntmps43
    go_wp2
    go_ret
    exact ⟨ret_bool (by unfold minusB; rw [← Z.out, h]; rfl), rfl⟩
  · have hz : rg x = 0 := by have := Z.out; rw [h] at this; simpa using this.symm
    obtain ⟨z, hd, ho⟩ := one_div hz
    have HZ := Lib.hid hz
    clear hz
    have HO := Lib.hid ho
    clear ho
    have hr := fun W => @run_float_arith Try.prog W .quo 22 .f64 4607182418800017408 x z hd
    clear hd
    go_enter Try.func43, Try.ntmps43
    go_wp2
    go_ret
    exact ⟨ret_bool (by rw [fmt_eq, HO.out]; unfold minusB; rw [HZ.out]; rfl), rfl⟩
theorem rank_any (x : Nat) (w : World) :
    Calls Try.prog 35 #[.float .f64 x] w fun e w' => e = .returned (.int .i64 (rk x)) ∧ w = w' := by
  have Z := Lib.hid (@eq_zero x)
  have L := Lib.hid (@lt_zero x)
  rw [← fmt_eq] at Z L
  have R : Hid (rk x = if isN x then 0 else if (FloatKind.f64.format.order x 0 == some Ordering.lt) then 1 else if minusB x then 2 else if (FloatKind.f64.format.order x 0 == some Ordering.eq) then 3 else 4) := Lib.hid (by
    unfold rk minusB
    rw [L.out, Z.out]
    cases isN x <;> cases sg x <;> by_cases hz : rg x = 0 <;> simp [hz])
  clear Z L
  cases h1 : isN x
  · cases h2 : (FloatKind.f64.format.order x 0 == some Ordering.lt)
    · cases h3 : minusB x
      · cases h4 : (FloatKind.f64.format.order x 0 == some Ordering.eq)
        all_goals
          go_enter Try.func35, Try.ntmps35
          go_wp2_with (first | (go_at_call 18; refine (refNan_any _ _).mono ?_; rintro e w' ⟨rfl, rfl⟩) | (go_at_call 43; refine (refMinus_any _ _).mono ?_; rintro e w' ⟨rfl, rfl⟩))
          go_ret
          exact ⟨ret_int (by rw [R.out, h1, h2, h3, h4]; rfl), rfl⟩
      · go_enter Try.func35, Try.ntmps35
        go_wp2_with (first | (go_at_call 18; refine (refNan_any _ _).mono ?_; rintro e w' ⟨rfl, rfl⟩) | (go_at_call 43; refine (refMinus_any _ _).mono ?_; rintro e w' ⟨rfl, rfl⟩))
        go_ret
        exact ⟨ret_int (by rw [R.out, h1, h2, h3]; rfl), rfl⟩
    · go_enter Try.func35, Try.ntmps35
      go_wp2_with (first | (go_at_call 18; refine (refNan_any _ _).mono ?_; rintro e w' ⟨rfl, rfl⟩))
      go_ret
      exact ⟨ret_int (by rw [R.out, h1, h2]; rfl), rfl⟩
  · go_enter Try.func35, Try.ntmps35
    go_wp2_with (first | (go_at_call 18; refine (refNan_any _ _).mono ?_; rintro e w' ⟨rfl, rfl⟩))
    go_ret
    exact ⟨ret_int (by rw [R.out, h1]; rfl), rfl⟩
end Go.Proofs.Ytpikbhcjgcbdfaa.sc
