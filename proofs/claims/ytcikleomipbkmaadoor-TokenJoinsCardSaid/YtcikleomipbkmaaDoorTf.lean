/- The document's answer of layer 4: what a byte is; blanks. -/
import Derived.WalkKit
import Derived.WalkLawsBesides
import Derived.Lib.Hide
import Derived.Deep.QuietTactic
import Derived.BigQuiet
import Derived.LoopTactic
import Derived.Test.YtcikleomipbkmaaDoorRows
import Derived.Test.YtcikleomipbkmaaDoorTe
namespace Go.Proofs.YtcikleomipbkmaaDoor.tk
open Go.RowKit

theorem ret_bool {a b : Bool} (h : a = b) : Ending.returned (.bool a) = .returned (.bool b) := by rw [h]
theorem ret_int {k : IntKind} {a b : Int} (h : a = b) : Ending.returned (.int k a) = .returned (.int k b) := by rw [h]
/-- a byte as a value -/
abbrev byV (c : UInt8) : Value := .int .u8 (c.toNat : Int)
theorem byV_lt (c : UInt8) : c.toNat < 256 := c.toNat_lt
theorem beq_nat (n m : Nat) : (((n : Int) == (m : Int)) : Bool) = decide (n = m) := by
  rw [Bool.eq_iff_iff]; simp; omega
theorem digit_any (c : UInt8) (w : World) :
    Calls Tryd.prog 22 #[byV c] w fun e w' => e = .returned (.bool (isDigit c)) ∧ w = w' := by
  have E : Hid (isDigit c = (decide (48 ≤ c.toNat) && decide (c.toNat ≤ 57))) := rfl
  generalize isDigit c = r at *
  unfold byV
  generalize c.toNat = n at *
  by_cases h : 48 ≤ n
  · have h1 : decide ((48 : Int) ≤ (n : Int)) = true := decide_eq_true (by omega)
    have E2 : Hid (r = decide (n ≤ 57)) := Lib.hid (by rw [E.out]; simp [h])
    clear h
    go_enter Tryd.func22, Tryd.ntmps22
    go_wp2
    go_ret
    exact ⟨ret_bool (by rw [E2.out]; rw [Bool.eq_iff_iff]; simp; try omega), rfl⟩
  · have h1 : decide ((48 : Int) ≤ (n : Int)) = false := decide_eq_false (by omega)
    have E2 : Hid (r = false) := Lib.hid (by rw [E.out]; simp [h])
    clear h
    go_enter Tryd.func22, Tryd.ntmps22
    go_wp2
    go_ret
    exact ⟨ret_bool E2.out.symm, rfl⟩
theorem blank_any (c : UInt8) (w : World) :
    Calls Tryd.prog 21 #[byV c] w fun e w' => e = .returned (.bool (isBlank c)) ∧ w = w' := by
  have E : Hid (isBlank c = (((c.toNat : Int) == 9) || (((c.toNat : Int) == 10) || (((c.toNat : Int) == 13) || ((c.toNat : Int) == 32))))) := Lib.hid (by
    unfold isBlank
    rw [← beq_nat, ← beq_nat, ← beq_nat, ← beq_nat]; rfl)
  generalize isBlank c = r at *
  unfold byV
  generalize c.toNat = n at *
  cases h1 : ((n : Int) == 9)
  · cases h2 : ((n : Int) == 10)
    · cases h3 : ((n : Int) == 13)
      all_goals
        have E2 := Lib.hid (E.out.trans (by rw [h1, h2, h3]))
        go_enter Tryd.func21, Tryd.ntmps21
        go_wp2
        go_ret
        exact ⟨ret_bool (by rw [E2.out]; simp), rfl⟩
    · have E2 := Lib.hid (E.out.trans (by rw [h1, h2]))
      go_enter Tryd.func21, Tryd.ntmps21
      go_wp2
      go_ret
      exact ⟨ret_bool (by rw [E2.out]; simp), rfl⟩
  · have E2 := Lib.hid (E.out.trans (by rw [h1]))
    go_enter Tryd.func21, Tryd.ntmps21
    go_wp2
    go_ret
    exact ⟨ret_bool (by rw [E2.out]; simp), rfl⟩
/-- bytes by tests -/
theorem digit_as {n : Nat} {r : Bool} (h : Hid (∃ c : UInt8, c.toNat = n ∧ isDigit c = r)) (w : World) :
    Calls Tryd.prog 22 #[.int .u8 (n : Int)] w fun e w' => e = .returned (.bool r) ∧ w = w' := by
  obtain ⟨c, rfl, rfl⟩ := h.out
  exact digit_any c w
theorem dec_nat (a b : Nat) : decide ((a : Int) ≤ (b : Int)) = decide (a ≤ b) := by
  rw [Bool.eq_iff_iff]; simp
theorem hex_any (c : UInt8) (w : World) :
    Calls Tryd.prog 24 #[byV c] w fun e w' => e = .returned (.bool (isHex c)) ∧ w = w' := by
  have E : Hid (isHex c = (isDigit c || ((decide ((65 : Int) ≤ (c.toNat : Int)) && decide ((c.toNat : Int) ≤ 70)) || (decide ((97 : Int) ≤ (c.toNat : Int)) && decide ((c.toNat : Int) ≤ 102))))) := Lib.hid (by
    unfold isHex
    rw [← dec_nat, ← dec_nat, ← dec_nat, ← dec_nat]; rfl)
  obtain ⟨d, hd⟩ : ∃ d, isDigit c = d := ⟨_, rfl⟩
  have HD : Hid (∃ x : UInt8, x.toNat = c.toNat ∧ isDigit x = d) := Lib.hid ⟨c, rfl, hd⟩
  rw [hd] at E
  clear hd
  generalize isHex c = r at *
  unfold byV
  generalize c.toNat = n at *
  cases d
  · cases h1 : decide ((65 : Int) ≤ (n : Int))
    · cases h3 : decide ((97 : Int) ≤ (n : Int))
      · have E2 := Lib.hid (E.out.trans (by rw [h1, h3]))
        go_enter Tryd.func24, Tryd.ntmps24
        go_wp2_with (first | (go_at_call 22; refine (digit_as HD _).mono ?_; rintro e w' ⟨rfl, rfl⟩))
        go_ret
        exact ⟨ret_bool (by rw [E2.out]; simp), rfl⟩
      · have E2 := Lib.hid (E.out.trans (by rw [h1, h3]))
        go_enter Tryd.func24, Tryd.ntmps24
        go_wp2_with (first | (go_at_call 22; refine (digit_as HD _).mono ?_; rintro e w' ⟨rfl, rfl⟩))
        go_ret
        exact ⟨ret_bool (by rw [E2.out]; simp), rfl⟩
    · cases h2 : decide ((n : Int) ≤ 70)
      · cases h3 : decide ((97 : Int) ≤ (n : Int))
        · have E2 := Lib.hid (E.out.trans (by rw [h1, h2, h3]))
          go_enter Tryd.func24, Tryd.ntmps24
          go_wp2_with (first | (go_at_call 22; refine (digit_as HD _).mono ?_; rintro e w' ⟨rfl, rfl⟩))
          go_ret
          exact ⟨ret_bool (by rw [E2.out]; simp), rfl⟩
        · have E2 := Lib.hid (E.out.trans (by rw [h1, h2, h3]))
          go_enter Tryd.func24, Tryd.ntmps24
          go_wp2_with (first | (go_at_call 22; refine (digit_as HD _).mono ?_; rintro e w' ⟨rfl, rfl⟩))
          go_ret
          exact ⟨ret_bool (by rw [E2.out]; simp), rfl⟩
      · have E2 := Lib.hid (E.out.trans (by rw [h1, h2]))
        go_enter Tryd.func24, Tryd.ntmps24
        go_wp2_with (first | (go_at_call 22; refine (digit_as HD _).mono ?_; rintro e w' ⟨rfl, rfl⟩))
        go_ret
        exact ⟨ret_bool (by rw [E2.out]; simp), rfl⟩
  · have E2 := Lib.hid (E.out.trans (Bool.true_or _))
    go_enter Tryd.func24, Tryd.ntmps24
    go_wp2_with (first | (go_at_call 22; refine (digit_as HD _).mono ?_; rintro e w' ⟨rfl, rfl⟩))
    go_ret
    exact ⟨ret_bool (by rw [E2.out]), rfl⟩
theorem plain_any (c : UInt8) (w : World) :
    Calls Tryd.prog 25 #[byV c] w fun e w' => e = .returned (.bool (isPlain c)) ∧ w = w' := by
  have E : Hid (isPlain c = (((c.toNat : Int) == 9) || (((c.toNat : Int) == 10) || (((c.toNat : Int) == 13) || (decide ((32 : Int) ≤ (c.toNat : Int)) && decide ((c.toNat : Int) ≤ 126)))))) := Lib.hid (by
    unfold isPlain
    rw [← beq_nat, ← beq_nat, ← beq_nat, ← dec_nat, ← dec_nat]; rfl)
  generalize isPlain c = r at *
  unfold byV
  generalize c.toNat = n at *
  cases h1 : ((n : Int) == 9)
  · cases h2 : ((n : Int) == 10)
    · cases h3 : ((n : Int) == 13)
      · cases h4 : decide ((32 : Int) ≤ (n : Int))
        · have E2 := Lib.hid (E.out.trans (by rw [h1, h2, h3, h4]))
          go_enter Tryd.func25, Tryd.ntmps25
          go_wp2
          go_ret
          exact ⟨ret_bool (by rw [E2.out]; simp), rfl⟩
        · have E2 := Lib.hid (E.out.trans (by rw [h1, h2, h3, h4]))
          go_enter Tryd.func25, Tryd.ntmps25
          go_wp2
          go_ret
          exact ⟨ret_bool (by rw [E2.out]; simp), rfl⟩
      · have E2 := Lib.hid (E.out.trans (by rw [h1, h2, h3]))
        go_enter Tryd.func25, Tryd.ntmps25
        go_wp2
        go_ret
        exact ⟨ret_bool (by rw [E2.out]; simp), rfl⟩
    · have E2 := Lib.hid (E.out.trans (by rw [h1, h2]))
      go_enter Tryd.func25, Tryd.ntmps25
      go_wp2
      go_ret
      exact ⟨ret_bool (by rw [E2.out]; simp), rfl⟩
  · have E2 := Lib.hid (E.out.trans (by rw [h1]))
    go_enter Tryd.func25, Tryd.ntmps25
    go_wp2
    go_ret
    exact ⟨ret_bool (by rw [E2.out]; simp), rfl⟩
theorem marks_take {c : UInt8} {k : Nat} (hk : k < marks.length) (h : ∀ j, j < k → marks.getD j 0 ≠ c) (hn : marks.getD k 0 ≠ c) : ∀ j, j < k + 1 → marks.getD j 0 ≠ c := by
  intro j hj
  by_cases e : j = k
  · subst e; exact hn
  · exact h j (by omega)
end Go.Proofs.YtcikleomipbkmaaDoor.tk
