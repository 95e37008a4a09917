/- The document's answer of layer 4: what a byte is; blanks. -/
import Derived.WalkKit
import Derived.WalkLawsBesides
import Derived.Lib.Hide
import Derived.Deep.QuietTactic
import Derived.BigQuiet
import Derived.LoopTactic
import Derived.Test.YtmnllioeaaimcaaDoorRows
import Derived.Test.YtmnllioeaaimcaaDoorTe
namespace Go.Proofs.YtmnllioeaaimcaaDoor.tk
open Go.RowKit

theorem ret_bool {a b : Bool} (h : a = b) : Ending.returned (.bool a) = .returned (.bool b) := by rw [h]
theorem ret_int {k : IntKind} {a b : Int} (h : a = b) : Ending.returned (.int k a) = .returned (.int k b) := by rw [h]
/-- a byte as a value -/
abbrev byV (c : UInt8) : Value := .int .u8 (c.toNat : Int)
theorem byV_lt (c : UInt8) : c.toNat < 256 := c.toNat_lt
theorem beq_nat (n m : Nat) : (((n : Int) == (m : Int)) : Bool) = decide (n = m) := by
  rw [Bool.eq_iff_iff]; simp; omega
theorem digit_any (c : UInt8) (w : World) :
    Calls Tryd.prog 61 #[byV c] w fun e w' => e = .returned (.bool (isDigit c)) ∧ w = w' := by
  have E : Hid (isDigit c = (decide (48 ≤ c.toNat) && decide (c.toNat ≤ 57))) := rfl
  generalize isDigit c = r at *
  unfold byV
  generalize c.toNat = n at *
  by_cases h : 48 ≤ n
  · have h1 : decide ((48 : Int) ≤ (n : Int)) = true := decide_eq_true (by omega)
    have E2 : Hid (r = decide (n ≤ 57)) := Lib.hid (by rw [E.out]; simp [h])
    clear h
    go_enter Tryd.func61, Tryd.ntmps61
    go_wp2
    go_ret
    exact ⟨ret_bool (by rw [E2.out]; rw [Bool.eq_iff_iff]; simp; try omega), rfl⟩
  · have h1 : decide ((48 : Int) ≤ (n : Int)) = false := decide_eq_false (by omega)
    have E2 : Hid (r = false) := Lib.hid (by rw [E.out]; simp [h])
    clear h
    go_enter Tryd.func61, Tryd.ntmps61
    go_wp2
    go_ret
    exact ⟨ret_bool E2.out.symm, rfl⟩
theorem blank_any (c : UInt8) (w : World) :
    Calls Tryd.prog 60 #[byV c] w fun e w' => e = .returned (.bool (isBlank c)) ∧ w = w' := by
  have E : Hid (isBlank c = (((c.toNat : Int) == 9) || (((c.toNat : Int) == 10) || (((c.toNat : Int) == 13) || ((c.toNat : Int) == 32))))) := Lib.hid (by
    unfold isBlank
    rw [← beq_nat, ← beq_nat, ← beq_nat, ← beq_nat]; rfl)
  generalize isBlank c = r at *
  unfold byV
  generalize c.toNat = n at *
  cases h1 : ((n : Int) == 9)
  · cases h2 : ((n : Int) == 10)
    · cases h3 : ((n : Int) == 13)
      all_goals
        have E2 := Lib.hid (E.out.trans (by rw [h1, h2, h3]))
        go_enter Tryd.func60, Tryd.ntmps60
        go_wp2
        go_ret
        exact ⟨ret_bool (by rw [E2.out]; simp), rfl⟩
    · have E2 := Lib.hid (E.out.trans (by rw [h1, h2]))
      go_enter Tryd.func60, Tryd.ntmps60
      go_wp2
      go_ret
      exact ⟨ret_bool (by rw [E2.out]; simp), rfl⟩
  · have E2 := Lib.hid (E.out.trans (by rw [h1]))
    go_enter Tryd.func60, Tryd.ntmps60
    go_wp2
    go_ret
    exact ⟨ret_bool (by rw [E2.out]; simp), rfl⟩
/-- bytes by tests -/
theorem digit_as {n : Nat} {r : Bool} (h : Hid (∃ c : UInt8, c.toNat = n ∧ isDigit c = r)) (w : World) :
    Calls Tryd.prog 61 #[.int .u8 (n : Int)] w fun e w' => e = .returned (.bool r) ∧ w = w' := by
  obtain ⟨c, rfl, rfl⟩ := h.out
  exact digit_any c w
theorem dec_nat (a b : Nat) : decide ((a : Int) ≤ (b : Int)) = decide (a ≤ b) := by
  rw [Bool.eq_iff_iff]; simp
theorem hex_any (c : UInt8) (w : World) :
    Calls Tryd.prog 63 #[byV c] w fun e w' => e = .returned (.bool (isHex c)) ∧ w = w' := by
  have E : Hid (isHex c = (isDigit c || ((decide ((65 : Int) ≤ (c.toNat : Int)) && decide ((c.toNat : Int) ≤ 70)) || (decide ((97 : Int) ≤ (c.toNat : Int)) && decide ((c.toNat : Int) ≤ 102))))) := Lib.hid (by
    unfold isHex
    rw [← dec_nat, ← dec_nat, ← dec_nat, ← dec_nat]; rfl)
  obtain ⟨d, hd⟩ : ∃ d, isDigit c = d := ⟨_, rfl⟩
  have HD : Hid (∃ x : UInt8, x.toNat = c.toNat ∧ isDigit x = d) := Lib.hid ⟨c, rfl, hd⟩
  rw [hd] at E
  clear hd
  generalize isHex c = r at *
  unfold byV
  generalize c.toNat = n at *
  cases d
  · cases h1 : decide ((65 : Int) ≤ (n : Int))
    · cases h3 : decide ((97 : Int) ≤ (n : Int))
      · have E2 := Lib.hid (E.out.trans (by rw [h1, h3]))
        go_enter Tryd.func63, Tryd.ntmps63
        go_wp2_with (first | (go_at_call 61; refine (digit_as HD _).mono ?_; rintro e w' ⟨rfl, rfl⟩))
        go_ret
        exact ⟨ret_bool (by rw [E2.out]; simp), rfl⟩
      · have E2 := Lib.hid (E.out.trans (by rw [h1, h3]))
        go_enter Tryd.func63, Tryd.ntmps63
        go_wp2_with (first | (go_at_call 61; refine (digit_as HD _).mono ?_; rintro e w' ⟨rfl, rfl⟩))
        go_ret
        exact ⟨ret_bool (by rw [E2.out]; simp), rfl⟩
    · cases h2 : decide ((n : Int) ≤ 70)
      · cases h3 : decide ((97 : Int) ≤ (n : Int))
        · have E2 := Lib.hid (E.out.trans (by rw [h1, h2, h3]))
          go_enter Tryd.func63, Tryd.ntmps63
          go_wp2_with (first | (go_at_call 61; refine (digit_as HD _).mono ?_; rintro e w' ⟨rfl, rfl⟩))
          go_ret
          exact ⟨ret_bool (by rw [E2.out]; simp), rfl⟩
        · have E2 := Lib.hid (E.out.trans (by rw [h1, h2, h3]))
          go_enter Tryd.func63, Tryd.ntmps63
          go_wp2_with (first | (go_at_call 61; refine (digit_as HD _).mono ?_; rintro e w' ⟨rfl, rfl⟩))
          go_ret
          exact ⟨ret_bool (by rw [E2.out]; simp), rfl⟩
      · have E2 := Lib.hid (E.out.trans (by rw [h1, h2]))
        go_enter Tryd.func63, Tryd.ntmps63
        go_wp2_with (first | (go_at_call 61; refine (digit_as HD _).mono ?_; rintro e w' ⟨rfl, rfl⟩))
        go_ret
        exact ⟨ret_bool (by rw [E2.out]; simp), rfl⟩
  · have E2 := Lib.hid (E.out.trans (Bool.true_or _))
    go_enter Tryd.func63, Tryd.ntmps63
    go_wp2_with (first | (go_at_call 61; refine (digit_as HD _).mono ?_; rintro e w' ⟨rfl, rfl⟩))
    go_ret
    exact ⟨ret_bool (by rw [E2.out]), rfl⟩
theorem plain_any (c : UInt8) (w : World) :
    Calls Tryd.prog 64 #[byV c] w fun e w' => e = .returned (.bool (isPlain c)) ∧ w = w' := by
  have E : Hid (isPlain c = (((c.toNat : Int) == 9) || (((c.toNat : Int) == 10) || (((c.toNat : Int) == 13) || (decide ((32 : Int) ≤ (c.toNat : Int)) && decide ((c.toNat : Int) ≤ 126)))))) := Lib.hid (by
    unfold isPlain
    rw [← beq_nat, ← beq_nat, ← beq_nat, ← dec_nat, ← dec_nat]; rfl)
  generalize isPlain c = r at *
  unfold byV
  generalize c.toNat = n at *
  cases h1 : ((n : Int) == 9)
  · cases h2 : ((n : Int) == 10)
    · cases h3 : ((n : Int) == 13)
      · cases h4 : decide ((32 : Int) ≤ (n : Int))
        · have E2 := Lib.hid (E.out.trans (by rw [h1, h2, h3, h4]))
          go_enter Tryd.func64, Tryd.ntmps64
          go_wp2
          go_ret
          exact ⟨ret_bool (by rw [E2.out]; simp), rfl⟩
        · have E2 := Lib.hid (E.out.trans (by rw [h1, h2, h3, h4]))
          go_enter Tryd.func64, Tryd.ntmps64
          go_wp2
          go_ret
          exact ⟨ret_bool (by rw [E2.out]; simp), rfl⟩
      · have E2 := Lib.hid (E.out.trans (by rw [h1, h2, h3]))
        go_enter Tryd.func64, Tryd.ntmps64
        go_wp2
        go_ret
        exact ⟨ret_bool (by rw [E2.out]; simp), rfl⟩
    · have E2 := Lib.hid (E.out.trans (by rw [h1, h2]))
      go_enter Tryd.func64, Tryd.ntmps64
      go_wp2
      go_ret
      exact ⟨ret_bool (by rw [E2.out]; simp), rfl⟩
  · have E2 := Lib.hid (E.out.trans (by rw [h1]))
    go_enter Tryd.func64, Tryd.ntmps64
    go_wp2
    go_ret
    exact ⟨ret_bool (by rw [E2.out]; simp), rfl⟩
theorem marks_take {c : UInt8} {k : Nat} (hk : k < marks.length) (h : ∀ j, j < k → marks.getD j 0 ≠ c) (hn : marks.getD k 0 ≠ c) : ∀ j, j < k + 1 → marks.getD j 0 ≠ c := by
  intro j hj
  by_cases e : j = k
  · subst e; exact hn
  · exact h j (by omega)
end Go.Proofs.YtmnllioeaaimcaaDoor.tk

/- The document's answer of layer 4: a symbol's bytes; blanks and comments. -/
namespace Go.Proofs.YtmnllioeaaimcaaDoor.tk
open Go.RowKit

theorem mark_is {c : UInt8} {k : Nat} (hk : k < marks.length) (h : (marks[k]).toNat = c.toNat) : isInner c = true := by
  have e : marks[k] = c := UInt8.toNat_inj.1 h
  have hm : marks.contains c = true := by rw [List.contains_iff_mem, ← e]; exact List.getElem_mem hk
  unfold isInner
  rw [hm]
  rfl
theorem mark_not {c : UInt8} (h : ∀ j, j < 17 → marks.getD j 0 ≠ c) : marks.contains c = false := by
  rw [Bool.eq_false_iff, ne_eq, List.contains_iff_mem]
  intro hm
  obtain ⟨j, hj, e⟩ := List.mem_iff_getElem.1 hm
  refine h j hj ?_
  rw [List.getD_eq_getElem?_getD, List.getElem?_eq_getElem hj, Option.getD_some, e]
set_option maxRecDepth 100000 in
theorem inner_any (c : UInt8) (w : World) :
    Calls Tryd.prog 62 #[byV c] w fun e w' => e = .returned (.bool (isInner c)) ∧ w = w' := by
  obtain ⟨r, hr⟩ : ∃ r, isInner c = r := ⟨_, rfl⟩
  rw [hr]
  have HR := Lib.hid hr
  clear hr
  go_enter Tryd.func62, Tryd.ntmps62
  go_wp2_with fail
  go_loop [4] (fun i => ∃ k : Nat, k ≤ 17 ∧ i = .int .i64 (k : Int) ∧ Hid (∀ j, j < k → marks.getD j 0 ≠ c)) (fun i => 17 - (intOf i).toNat)
  case atStart => exact ⟨0, by omega, rfl, Lib.hid (fun j hj => by omega)⟩
  case round =>
    obtain ⟨k, hk, rfl, hd⟩ := hrel
    by_cases hlt : k < 17
    · have hkm : k < marks.length := hlt
      cases hm : (((marks[k]'hkm).toNat : Int) == (c.toNat : Int))
      · have HM := Lib.hid hm
        clear hm
        have hm : ((((⟨#[126, 33, 64, 36, 37, 94, 38, 42, 95, 45, 43, 61, 60, 62, 46, 63, 47]⟩ : ByteArray)[k]'hkm).toNat : Int) == (c.toNat : Int)) = false := HM.out
        go_wp2_with fail
        go_round
        case rel =>
          refine ⟨k + 1, by omega, by go_num, Lib.hid (marks_take hkm hd.out ?_)⟩
          intro e
          have h := HM.out
          rw [List.getD_eq_getElem?_getD, List.getElem?_eq_getElem hkm, Option.getD_some] at e
          rw [e] at h
          simp at h
        case measure => simp [intOf]; omega
      · have HM := Lib.hid hm
        clear hm
        have hm : ((((⟨#[126, 33, 64, 36, 37, 94, 38, 42, 95, 45, 43, 61, 60, 62, 46, 63, 47]⟩ : ByteArray)[k]'hkm).toNat : Int) == (c.toNat : Int)) = true := HM.out
        go_wp2_with fail
        go_ret
        exact ⟨ret_bool ((mark_is hkm (by have h := HM.out; simp at h; omega)).symm.trans HR.out), rfl⟩
    · obtain rfl : k = 17 := by omega
      have E : Hid (r = (isDigit c || ((decide ((65 : Int) ≤ (c.toNat : Int)) && decide ((c.toNat : Int) ≤ 90)) || (decide ((97 : Int) ≤ (c.toNat : Int)) && decide ((c.toNat : Int) ≤ 122))))) := Lib.hid (by
        rw [← HR.out]
        unfold isInner
        rw [mark_not hd.out, Bool.false_or, ← dec_nat, ← dec_nat, ← dec_nat, ← dec_nat]; rfl)
      obtain ⟨d, hdg⟩ : ∃ d, isDigit c = d := ⟨_, rfl⟩
      have HD : Hid (∃ x : UInt8, x.toNat = c.toNat ∧ isDigit x = d) := Lib.hid ⟨c, rfl, hdg⟩
      rw [hdg] at E
      clear hdg hd
      clear HR
      cases d
      · cases h1 : decide ((65 : Int) ≤ (c.toNat : Int))
        · cases h3 : decide ((97 : Int) ≤ (c.toNat : Int))
          · have E2 := Lib.hid (E.out.trans (by rw [h1, h3]))
            go_wp2_with (first | (go_at_call 61; refine (digit_as HD _).mono ?_; rintro e w' ⟨rfl, rfl⟩))
            go_ret
            exact ⟨ret_bool (by rw [E2.out]; simp), rfl⟩
          · have E2 := Lib.hid (E.out.trans (by rw [h1, h3]))
            go_wp2_with (first | (go_at_call 61; refine (digit_as HD _).mono ?_; rintro e w' ⟨rfl, rfl⟩))
            go_ret
            exact ⟨ret_bool (by rw [E2.out]; simp), rfl⟩
        · cases h2 : decide ((c.toNat : Int) ≤ 90)
          · cases h3 : decide ((97 : Int) ≤ (c.toNat : Int))
            · have E2 := Lib.hid (E.out.trans (by rw [h1, h2, h3]))
              go_wp2_with (first | (go_at_call 61; refine (digit_as HD _).mono ?_; rintro e w' ⟨rfl, rfl⟩))
              go_ret
              exact ⟨ret_bool (by rw [E2.out]; simp), rfl⟩
            · have E2 := Lib.hid (E.out.trans (by rw [h1, h2, h3]))
              go_wp2_with (first | (go_at_call 61; refine (digit_as HD _).mono ?_; rintro e w' ⟨rfl, rfl⟩))
              go_ret
              exact ⟨ret_bool (by rw [E2.out]; simp), rfl⟩
          · have E2 := Lib.hid (E.out.trans (by rw [h1, h2]))
            go_wp2_with (first | (go_at_call 61; refine (digit_as HD _).mono ?_; rintro e w' ⟨rfl, rfl⟩))
            go_ret
            exact ⟨ret_bool (by rw [E2.out]; simp), rfl⟩
      · have E2 := Lib.hid (E.out.trans (Bool.true_or _))
        go_wp2_with (first | (go_at_call 61; refine (digit_as HD _).mono ?_; rintro e w' ⟨rfl, rfl⟩))
        go_ret
        exact ⟨ret_bool (by rw [E2.out]), rfl⟩

/-- a slice that reads as bytes -/
def Rb (w : World) (A : Option Addr) (bs : List UInt8) : Prop :=
  0 < bs.length → ∃ b off, A = some ⟨b, off, none⟩ ∧ b < w.heap.size ∧ ∀ j (h : j < bs.length), w.cell? ⟨b, off + j, none⟩ = some (byV (bs[j]'h))
theorem Rb.below {w w' : World} {A : Option Addr} {bs : List UInt8} (h : Rb w A bs) (hb : Below w.heap.size w w') : Rb w' A bs := fun hn => by
  obtain ⟨b, off, e, hlt, hc⟩ := h hn
  exact ⟨b, off, e, Nat.lt_of_lt_of_le hlt hb.size, fun j hj => (hb.cell (p := ⟨b, off + j, none⟩) hlt).trans (hc j hj)⟩
theorem Rb.at_ {w : World} {A : Option Addr} {bs : List UInt8} (h : Rb w A bs) {k : Nat} (hk : k < bs.length) : ∃ b off, A = some ⟨b, off, none⟩ ∧ w.cell? ⟨b, off + k, none⟩ = some (byV (bs[k]'hk)) := by
  obtain ⟨b, off, e, _, hc⟩ := h (by omega)
  exact ⟨b, off, e, hc k hk⟩
def skipAt (bs : List UInt8) (p : Nat) : Nat := bs.length - (skipL (bs.drop p)).length
theorem drop_cons {bs : List UInt8} {k : Nat} (hk : k < bs.length) : bs.drop k = bs[k] :: bs.drop (k + 1) := List.drop_eq_getElem_cons hk
theorem skip_blank {bs : List UInt8} {k : Nat} (hk : k < bs.length) (h : isBlank bs[k] = true) : skipL (bs.drop k) = skipL (bs.drop (k + 1)) := by
  rw [drop_cons hk, skipL_cons, if_pos h]
theorem skip_line {bs : List UInt8} {k : Nat} (hk : k < bs.length) (h : isBlank bs[k] = false) (h2 : bs[k].toNat = 59) : skipL (bs.drop k) = skipL ((bs.drop (k + 1)).dropWhile notLine) := by
  rw [drop_cons hk, skipL_cons, if_neg (by rw [h]; simp), if_pos h2]
theorem skip_stop {bs : List UInt8} {k : Nat} (hk : k < bs.length) (h : isBlank bs[k] = false) (h2 : bs[k].toNat ≠ 59) : skipL (bs.drop k) = bs.drop k := by
  rw [drop_cons hk, skipL_cons, if_neg (by rw [h]; simp), if_neg h2]
theorem skip_end {bs : List UInt8} : skipL (bs.drop bs.length) = [] := by rw [List.drop_length, skipL]
set_option maxRecDepth 100000 in
set_option maxHeartbeats 1000000 in
theorem skip_any {w : World} {A : Option Addr} {bs : List UInt8} {cb p : Nat} (hb : Hid (Rb w A bs)) (hl : bs.length ≤ 100000000) (hp : p ≤ bs.length) :
    Calls Tryd.prog 43 #[.slice A bs.length cb, .int .i64 (p : Int)] w fun e w' => e = .returned (.int .i64 (skipAt bs p : Int)) ∧ w = w' := by
  go_enter Tryd.func43, Tryd.ntmps43
  go_wp2_with fail
  go_loop [1] (fun i => ∃ k : Nat, k ≤ bs.length ∧ i = .int .i64 (k : Int) ∧ Hid (skipL (bs.drop k) = skipL (bs.drop p))) (fun i => bs.length - (intOf i).toNat)
  case atStart => exact ⟨p, hp, rfl, Lib.hid rfl⟩
  case round =>
    obtain ⟨k, hk, rfl, HS⟩ := hrel
    by_cases hlt : k < bs.length
    · obtain ⟨b, off, rfl, hck⟩ := hb.out.at_ hlt
      obtain ⟨c, hc⟩ : ∃ c, bs[k] = c := ⟨_, rfl⟩
      rw [hc] at hck
      have HC := Lib.hid hc
      clear hc
      cases hbl : isBlank c
      · cases h59 : ((c.toNat : Int) == 59)
        · have HE : Hid (skipL (bs.drop p) = bs.drop k) := Lib.hid (by
            rw [← HS.out]
            exact skip_stop hlt (by rw [HC.out]; exact hbl) (by rw [HC.out]; simp at h59; omega))
          go_wp2_with (first | (go_at_call 60; refine (blank_any _ _).mono ?_; rintro e w' ⟨rfl, rfl⟩))
          go_ret
          exact ⟨ret_int (by unfold skipAt; rw [HE.out, List.length_drop]; omega), rfl⟩
        · have HE : Hid (skipL (bs.drop p) = skipL ((bs.drop k).dropWhile notLine)) := Lib.hid (by
            rw [← HS.out, skip_line hlt (by rw [HC.out]; exact hbl) (by rw [HC.out]; simp at h59; omega)]
            congr 1
            rw [drop_cons hlt, List.dropWhile_cons, HC.out, if_pos]
            have : c.toNat = 59 := by simp at h59; omega
            simp [notLine, this])
          go_wp2_with (first | (go_at_call 60; refine (blank_any _ _).mono ?_; rintro e w' ⟨rfl, rfl⟩))
          go_loop [1] (fun i => ∃ k2 : Nat, k ≤ k2 ∧ k2 ≤ bs.length ∧ i = .int .i64 (k2 : Int) ∧ Hid ((bs.drop k2).dropWhile notLine = (bs.drop k).dropWhile notLine)) (fun i => bs.length - (intOf i).toNat)
          case atStart => exact ⟨k, Nat.le_refl _, by omega, rfl, Lib.hid rfl⟩
          case round =>
            obtain ⟨k2, hk1, hk2, rfl, HD2⟩ := hrel
            by_cases hlt2 : k2 < bs.length
            · obtain ⟨b2, off2, e2, hck2⟩ := hb.out.at_ hlt2
              obtain ⟨d, hd⟩ : ∃ d, bs[k2] = d := ⟨_, rfl⟩
              rw [hd] at hck2
              have HDD := Lib.hid hd
              clear hd
              injection e2 with e2
              injection e2 with e3 e4
              subst e3 e4
              cases hne : ((d.toNat : Int) != 10)
              · have hd10 : d.toNat = 10 := by simp at hne; omega
                have HD10 := Lib.hid hd10
                clear hd10
                have hgt : k < k2 := by
                  rcases Nat.lt_or_ge k k2 with g | g
                  · exact g
                  · obtain rfl : k2 = k := by omega
                    have e5 := HDD.out
                    rw [HC.out] at e5
                    have := HD10.out
                    rw [← e5] at this
                    simp at h59
                    omega
                go_wp2_with fail
                go_round
                case rel =>
                  refine ⟨k2, by omega, rfl, Lib.hid ?_⟩
                  rw [HE.out, ← HD2.out, drop_cons hlt2, List.dropWhile_cons, if_neg]
                  rw [HDD.out]
                  simp [notLine, HD10.out]
                case measure => simp [intOf]; omega
              · have hd10 : d.toNat ≠ 10 := by simp at hne; omega
                have HD10 := Lib.hid hd10
                clear hd10
                go_wp2_with fail
                go_round
                case rel =>
                  refine ⟨k2 + 1, by omega, by omega, by go_num, Lib.hid ?_⟩
                  rw [← HD2.out, drop_cons hlt2, List.dropWhile_cons, if_pos]
                  rw [HDD.out]
                  simp [notLine, HD10.out]
                case measure => simp [intOf]; omega
            · obtain rfl : k2 = bs.length := by omega
              go_wp2_with fail
              go_round
              case rel =>
                refine ⟨bs.length, by omega, rfl, Lib.hid ?_⟩
                rw [HE.out, ← HD2.out, List.drop_length]
                rfl
              case measure => simp [intOf]; omega
      · go_wp2_with (first | (go_at_call 60; refine (blank_any _ _).mono ?_; rintro e w' ⟨rfl, rfl⟩))
        go_round
        case rel => exact ⟨k + 1, by omega, by go_num, Lib.hid ((skip_blank hlt (by rw [HC.out]; exact hbl)).symm.trans HS.out)⟩
        case measure => simp [intOf]; omega
    · obtain rfl : k = bs.length := by omega
      have HE : Hid (skipL (bs.drop p) = []) := Lib.hid (by rw [← HS.out]; exact skip_end)
      go_wp2_with fail
      go_ret
      exact ⟨ret_int (by unfold skipAt; rw [HE.out]; simp), rfl⟩
end Go.Proofs.YtmnllioeaaimcaaDoor.tk
