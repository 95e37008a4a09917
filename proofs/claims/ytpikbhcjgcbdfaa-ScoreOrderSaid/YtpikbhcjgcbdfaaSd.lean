/- The walk of ScoreOrder. -/
import Derived.Test.YtpikbhcjgcbdfaaSc
namespace Go.Proofs.Ytpikbhcjgcbdfaa.sc
open Go.RowKit

theorem same_bits {x y : Nat} (hx : x < 18446744073709551616) (hy : y < 18446744073709551616) : (((bitsN x : Nat) : Int) == ((bitsN y : Nat) : Int)) = sameB x y := by
  unfold sameB bitsN
  rw [Bool.eq_iff_iff]
  simp only [beq_iff_eq, decide_eq_true_eq]
  cases h1 : isN x <;> cases h2 : isN y
  · simp only [Bool.false_eq_true, if_false]
    constructor
    · intro h; rw [show x = y by omega]
    · intro h; rw [key_inj hx hy h h1]
  · simp only [Bool.false_eq_true, if_false, if_true]
    constructor
    · intro h
      obtain rfl : x = nanW := by omega
      exact absurd h1 (by decide)
    · intro h; rw [key_inj hx hy h h1] at h1; rw [h1] at h2; cases h2
  · simp only [Bool.false_eq_true, if_false, if_true]
    constructor
    · intro h
      obtain rfl : y = nanW := by omega
      exact absurd h2 (by decide)
    · intro h; rw [key_inj hy hx h.symm h2] at h2; rw [h2] at h1; cases h1
  · simp only [if_true, true_iff]
    have a : I < rg x := by simpa [isN] using h1
    have b : I < rg y := by simpa [isN] using h2
    rw [key_nan a, key_nan b]
theorem less_self (x : Nat) : lessB x x = false := by unfold lessB; simp
theorem tri (x y : Nat) : (sameB x y = true ∧ lessB x y = false ∧ lessB y x = false) ∨ (sameB x y = false ∧ lessB x y = false ∧ lessB y x = true) ∨ (sameB x y = false ∧ lessB x y = true ∧ lessB y x = false) := by
  unfold sameB lessB
  simp only [decide_eq_true_eq, decide_eq_false_iff_not]
  omega
theorem less_trans {x y z : Nat} (h1 : lessB x y = true) (h2 : lessB y z = true) : lessB x z = true := by
  unfold lessB at *
  simp only [decide_eq_true_eq] at *
  omega
theorem bits_nan {x : Nat} (h : isN x = true) : (((bitsN x : Nat) : Int) == 9221120237041090561) = true := by unfold bitsN nanW; simp [h]
theorem bits_num {x : Nat} (h : isN x = false) : (((bitsN x : Nat) : Int) == (x : Int)) = true := by unfold bitsN; simp [h]
set_option maxRecDepth 100000 in
set_option maxHeartbeats 2000000 in
theorem order_any {x y z : Nat} (hx : x < 18446744073709551616) (hy : y < 18446744073709551616) (hz : z < 18446744073709551616) (w : World) :
    Calls Try.prog 4 #[.int .u64 (x : Int), .int .u64 (y : Int), .int .u64 (z : Int)] w fun e w' => e = .returned (.bool true) ∧ Below w.heap.size w w' := by
  have EX := Lib.hid hx
  have EY := Lib.hid hy
  have EZ := Lib.hid hz
  have hb := same_bits hx hy
  have hs := less_self x
  clear hx hy hz
  have main : ∀ b : Bool, isN x = b → (if b then (((bitsN x : Nat) : Int) == 9221120237041090561) = true else (((bitsN x : Nat) : Int) == (x : Int)) = true) := fun b e => by cases b <;> first | exact bits_nan e | exact bits_num e
  have MAIN := Lib.hid main
  clear main
  have split_ : (sameB x y = true ∧ lessB x y = false ∧ lessB y x = false) ∨ (sameB x y = false ∧ lessB x y = false ∧ lessB y x = true) ∨ (sameB x y = false ∧ lessB x y = true ∧ lessB y x = false ∧ lessB y z = false) ∨ (sameB x y = false ∧ lessB x y = true ∧ lessB y x = false ∧ lessB y z = true ∧ lessB x z = true) := by
    rcases tri x y with h | h | ⟨h1, h2, h3⟩
    · exact .inl h
    · exact .inr (.inl h)
    · cases h4 : lessB y z
      · exact .inr (.inr (.inl ⟨h1, h2, h3, rfl⟩))
      · exact .inr (.inr (.inr ⟨h1, h2, h3, rfl, less_trans h2 h4⟩))
  rcases split_ with ⟨h1, h2, h3⟩ | ⟨h1, h2, h3⟩ | ⟨h1, h2, h3, h4⟩ | ⟨h1, h2, h3, h4, h5⟩
  all_goals
    cases hn : isN x
    all_goals
      have hm := MAIN.out _ hn
      simp only [Bool.false_eq_true, if_false, if_true] at hm
      go_enter Try.func4, Try.ntmps4
      go_wp2_with (first | (go_at_call 6; refine (speaks_any _).mono ?_; rintro e w1 ⟨rfl, HB⟩) | (go_at_call 13; refine (of_any _ _).mono ?_; rintro e w' ⟨rfl, rfl⟩) | (go_at_call 24; refine (refLess_any _ _ _).mono ?_; rintro e w' ⟨rfl, rfl⟩) | (go_at_call 16; refine (same_any _ _ _).mono ?_; rintro e w' ⟨rfl, rfl⟩) | (go_at_call 20; refine (bits_any _ _).mono ?_; rintro e w' ⟨rfl, rfl⟩) | (go_at_call 18; refine (refNan_any _ _).mono ?_; rintro e w' ⟨rfl, rfl⟩) | (go_at_call 23; (with_reducible refine (less_any EX.out EY.out _).mono ?_); rintro e w' ⟨rfl, rfl⟩) | (go_at_call 23; (with_reducible refine (less_any EX.out EX.out _).mono ?_); rintro e w' ⟨rfl, rfl⟩) | (go_at_call 23; (with_reducible refine (less_any EY.out EX.out _).mono ?_); rintro e w' ⟨rfl, rfl⟩) | (go_at_call 23; (with_reducible refine (less_any EY.out EZ.out _).mono ?_); rintro e w' ⟨rfl, rfl⟩) | (go_at_call 23; (with_reducible refine (less_any EX.out EZ.out _).mono ?_); rintro e w' ⟨rfl, rfl⟩))
      go_ret
      exact ⟨rfl, HB.out⟩
end Go.Proofs.Ytpikbhcjgcbdfaa.sc
