/- Package token: what a byte is. -/
import Derived.WalkKit
import Derived.WalkLawsBesides
import Derived.Lib.Hide
import Derived.Lib.Bytealg
import Derived.Lib.BytesEntry
import Derived.Lib.IndexLaws
import Derived.Laws.StandIn
import Derived.Deep.QuietTactic
import Derived.BigQuiet
import Derived.Test.YtmnllioeaaimcaaDoorTg
namespace Go.Proofs.YtmnllioeaaimcaaDoor.tk
open Go.RowKit

theorem bne_nat (n m : Nat) : (((n : Int) != (m : Int)) : Bool) = !decide (n = m) := by unfold bne; rw [beq_nat]
set_option maxRecDepth 100000 in
theorem pblank_any (c : UInt8) (w : World) :
    Calls Tryd.prog 46 #[byV c] w fun e w' => e = .returned (.bool (isBlank c)) ∧ w = w' := by
  have E : Hid (isBlank c = (((c.toNat : Int) == 9) || (((c.toNat : Int) == 10) || (((c.toNat : Int) == 13) || ((c.toNat : Int) == 32))))) := Lib.hid (by unfold isBlank; rw [← beq_nat, ← beq_nat, ← beq_nat, ← beq_nat]; rfl)
  generalize isBlank c = r at *
  unfold byV
  generalize c.toNat = n at *
  cases h0 : ((n : Int) == 9) <;> cases h1 : ((n : Int) == 10) <;> cases h2 : ((n : Int) == 13) <;> cases h3 : ((n : Int) == 32) <;> (
    go_enter Tryd.func46, Tryd.ntmps46
    go_wp2_with fail
    go_ret
    exact ⟨ret_bool (by rw [E.out, h0, h1, h2, h3] <;> rfl), rfl⟩)
set_option maxRecDepth 100000 in
theorem pbit_any (c : UInt8) (w : World) :
    Calls Tryd.prog 69 #[byV c] w fun e w' => e = .returned (.bool (isBin c)) ∧ w = w' := by
  have E : Hid (isBin c = (((c.toNat : Int) == 48) || ((c.toNat : Int) == 49))) := Lib.hid (by unfold isBin; rw [← beq_nat, ← beq_nat]; rfl)
  generalize isBin c = r at *
  unfold byV
  generalize c.toNat = n at *
  cases h0 : ((n : Int) == 48) <;> cases h1 : ((n : Int) == 49) <;> (
    go_enter Tryd.func69, Tryd.ntmps69
    go_wp2_with fail
    go_ret
    exact ⟨ret_bool (by rw [E.out, h0, h1] <;> rfl), rfl⟩)
set_option maxRecDepth 100000 in
theorem pdigit_any (c : UInt8) (w : World) :
    Calls Tryd.prog 50 #[byV c] w fun e w' => e = .returned (.bool (isDigit c)) ∧ w = w' := by
  have E : Hid (isDigit c = (decide ((48 : Int) ≤ (c.toNat : Int)) && decide ((c.toNat : Int) ≤ 57))) := Lib.hid (by unfold isDigit; rw [← dec_nat, ← dec_nat]; rfl)
  generalize isDigit c = r at *
  unfold byV
  generalize c.toNat = n at *
  cases h0 : decide ((48 : Int) ≤ (n : Int)) <;> cases h1 : decide ((n : Int) ≤ 57) <;> (
    go_enter Tryd.func50, Tryd.ntmps50
    go_wp2_with fail
    go_ret
    exact ⟨ret_bool (by rw [E.out, h0, h1] <;> rfl), rfl⟩)
def isLetter (c : UInt8) : Bool := (decide (97 ≤ c.toNat) && decide (c.toNat ≤ 122)) || (decide (65 ≤ c.toNat) && decide (c.toNat ≤ 90))
set_option maxRecDepth 100000 in
theorem pletter_any (c : UInt8) (w : World) :
    Calls Tryd.prog 76 #[byV c] w fun e w' => e = .returned (.bool (isLetter c)) ∧ w = w' := by
  have E : Hid (isLetter c = ((decide ((97 : Int) ≤ (c.toNat : Int)) && decide ((c.toNat : Int) ≤ 122)) || (decide ((65 : Int) ≤ (c.toNat : Int)) && decide ((c.toNat : Int) ≤ 90)))) := Lib.hid (by unfold isLetter; rw [← dec_nat, ← dec_nat, ← dec_nat, ← dec_nat]; rfl)
  generalize isLetter c = r at *
  unfold byV
  generalize c.toNat = n at *
  cases h0 : decide ((97 : Int) ≤ (n : Int)) <;> cases h1 : decide ((n : Int) ≤ 122) <;> cases h2 : decide ((65 : Int) ≤ (n : Int)) <;> cases h3 : decide ((n : Int) ≤ 90) <;> (
    go_enter Tryd.func76, Tryd.ntmps76
    go_wp2_with fail
    go_ret
    exact ⟨ret_bool (by rw [E.out, h0, h1, h2, h3] <;> rfl), rfl⟩)
theorem as_byte {P : Program} {f : FuncId} {p : UInt8 → Bool} (h : ∀ c w, Calls P f #[byV c] w fun e w' => e = .returned (.bool (p c)) ∧ w = w') {n : Nat} {r : Bool} (hr : Hid (∃ c : UInt8, c.toNat = n ∧ p c = r)) (w : World) :
    Calls P f #[.int .u8 (n : Int)] w fun e w' => e = .returned (.bool r) ∧ w = w' := by
  obtain ⟨c, rfl, rfl⟩ := hr.out
  exact h c w
set_option maxRecDepth 100000 in
theorem phex_any (c : UInt8) (w : World) :
    Calls Tryd.prog 68 #[byV c] w fun e w' => e = .returned (.bool (isHex c)) ∧ w = w' := by
  have E : Hid (isHex c = ((isDigit c || ((decide ((97 : Int) ≤ (c.toNat : Int)) && decide ((c.toNat : Int) ≤ 102)) || (decide ((65 : Int) ≤ (c.toNat : Int)) && decide ((c.toNat : Int) ≤ 70)))))) := Lib.hid (by unfold isHex; rw [show ((decide (65 ≤ c.toNat) && decide (c.toNat ≤ 70)) || (decide (97 ≤ c.toNat) && decide (c.toNat ≤ 102))) = ((decide (97 ≤ c.toNat) && decide (c.toNat ≤ 102)) || (decide (65 ≤ c.toNat) && decide (c.toNat ≤ 70))) from Bool.or_comm _ _, ← dec_nat, ← dec_nat, ← dec_nat, ← dec_nat]; rfl)
  obtain ⟨d, hd⟩ : ∃ d, isDigit c = d := ⟨_, rfl⟩
  have Hd : Hid (∃ x : UInt8, x.toNat = c.toNat ∧ isDigit x = d) := Lib.hid ⟨c, rfl, hd⟩
  rw [hd] at E
  clear hd
  generalize isHex c = r at *
  unfold byV
  generalize c.toNat = n at *
  cases d <;> cases h0 : decide ((97 : Int) ≤ (n : Int)) <;> cases h1 : decide ((n : Int) ≤ 102) <;> cases h2 : decide ((65 : Int) ≤ (n : Int)) <;> cases h3 : decide ((n : Int) ≤ 70) <;> (
    go_enter Tryd.func68, Tryd.ntmps68
    go_wp2_with (go_at_call 50; refine (as_byte pdigit_any Hd _).mono ?_; rintro e w' ⟨rfl, rfl⟩)
    go_ret
    exact ⟨ret_bool (by rw [E.out, h0, h1, h2, h3] <;> rfl), rfl⟩)
theorem plain_blank (c : UInt8) : isPlain c = (isBlank c || (decide (32 ≤ c.toNat) && decide (c.toNat ≤ 126))) := by
  unfold isPlain isBlank
  by_cases h : c.toNat = 32
  · simp [h]
  · simp only [decide_eq_false h, Bool.or_false, Bool.or_assoc]
set_option maxRecDepth 100000 in
theorem pplain_any (c : UInt8) (w : World) :
    Calls Tryd.prog 80 #[byV c] w fun e w' => e = .returned (.bool (isPlain c)) ∧ w = w' := by
  have E : Hid (isPlain c = ((isBlank c || (decide ((32 : Int) ≤ (c.toNat : Int)) && decide ((c.toNat : Int) ≤ 126))))) := Lib.hid (by rw [plain_blank, ← dec_nat, ← dec_nat]; rfl)
  obtain ⟨d, hd⟩ : ∃ d, isBlank c = d := ⟨_, rfl⟩
  have Hd : Hid (∃ x : UInt8, x.toNat = c.toNat ∧ isBlank x = d) := Lib.hid ⟨c, rfl, hd⟩
  rw [hd] at E
  clear hd
  generalize isPlain c = r at *
  unfold byV
  generalize c.toNat = n at *
  cases d <;> cases h0 : decide ((32 : Int) ≤ (n : Int)) <;> cases h1 : decide ((n : Int) ≤ 126) <;> (
    go_enter Tryd.func80, Tryd.ntmps80
    go_wp2_with (go_at_call 46; refine (as_byte pblank_any Hd _).mono ?_; rintro e w' ⟨rfl, rfl⟩)
    go_ret
    exact ⟨ret_bool (by rw [E.out, h0, h1] <;> rfl), rfl⟩)
def isQuo (c : UInt8) : Bool := isPlain c && !decide (c.toNat = 34)
set_option maxRecDepth 100000 in
theorem pquoted_any (c : UInt8) (w : World) :
    Calls Tryd.prog 73 #[byV c] w fun e w' => e = .returned (.bool (isQuo c)) ∧ w = w' := by
  have E : Hid (isQuo c = ((isPlain c && ((c.toNat : Int) != 34)))) := Lib.hid (by unfold isQuo; rw [← bne_nat]; rfl)
  obtain ⟨d, hd⟩ : ∃ d, isPlain c = d := ⟨_, rfl⟩
  have Hd : Hid (∃ x : UInt8, x.toNat = c.toNat ∧ isPlain x = d) := Lib.hid ⟨c, rfl, hd⟩
  rw [hd] at E
  clear hd
  generalize isQuo c = r at *
  unfold byV
  generalize c.toNat = n at *
  cases d <;> cases h0 : ((n : Int) != 34) <;> (
    go_enter Tryd.func73, Tryd.ntmps73
    go_wp2_with (go_at_call 80; refine (as_byte pplain_any Hd _).mono ?_; rintro e w' ⟨rfl, rfl⟩)
    go_ret
    exact ⟨ret_bool (by rw [E.out, h0] <;> rfl), rfl⟩)
set_option maxRecDepth 100000 in
theorem pbarred_any (c : UInt8) (w : World) :
    Calls Tryd.prog 75 #[byV c] w fun e w' => e = .returned (.bool (isBar c)) ∧ w = w' := by
  have E : Hid (isBar c = (((isPlain c && ((c.toNat : Int) != 124)) && ((c.toNat : Int) != 92)))) := Lib.hid (by unfold isBar; rw [Bool.and_assoc, show (!decide (c.toNat = 92) && !decide (c.toNat = 124)) = (!decide (c.toNat = 124) && !decide (c.toNat = 92)) from Bool.and_comm _ _, ← bne_nat, ← bne_nat]; rfl)
  obtain ⟨d, hd⟩ : ∃ d, isPlain c = d := ⟨_, rfl⟩
  have Hd : Hid (∃ x : UInt8, x.toNat = c.toNat ∧ isPlain x = d) := Lib.hid ⟨c, rfl, hd⟩
  rw [hd] at E
  clear hd
  generalize isBar c = r at *
  unfold byV
  generalize c.toNat = n at *
  cases d <;> cases h0 : ((n : Int) != 124) <;> cases h1 : ((n : Int) != 92) <;> (
    go_enter Tryd.func75, Tryd.ntmps75
    go_wp2_with (go_at_call 80; refine (as_byte pplain_any Hd _).mono ?_; rintro e w' ⟨rfl, rfl⟩)
    go_ret
    exact ⟨ret_bool (by rw [E.out, h0, h1] <;> rfl), rfl⟩)

theorem idx_ext (s : ByteArray) (c : UInt8) (w : World) : (callFunc 86 #[.string s, byV c]).run Tryd.prog w = .ok (.value (.int .i64 (Lib.indexByte s.data.toList c))) w := by
  rw [run_callFunc_extern Tryd.func86 (by kernel_rfl) (by kernel_rfl) (by kernel_rfl) (e := Extern.BytealgIndexByte.indexByte) (by kernel_rfl), Lib.run_indexByteString]
  simp [Result.andThen]
theorem sl_index (s : ByteArray) (c : UInt8) (w : World) : Calls Tryd.prog 81 #[.string s, byV c] w fun e w' => e = .returned (.int .i64 (Lib.indexByte s.data.toList c)) ∧ w = w' := by
  have h := idx_ext s c w
  go_enter Tryd.func81, Tryd.ntmps81
  go_wp2
  go_ret
  exact ⟨rfl, rfl⟩
theorem st_index (s : ByteArray) (c : UInt8) (w : World) : Calls Tryd.prog 77 #[.string s, byV c] w fun e w' => e = .returned (.int .i64 (Lib.indexByte s.data.toList c)) ∧ w = w' := by
  go_enter Tryd.func77, Tryd.ntmps77
  go_wp2_with (go_at_call 81; refine (sl_index s c _).mono ?_; rintro e w' ⟨rfl, rfl⟩)
  go_ret
  exact ⟨rfl, rfl⟩
theorem marks_index (c : UInt8) : decide ((0 : Int) ≤ Lib.indexByte marks c) = marks.contains c := by
  have hge := Lib.indexByte_ge marks c
  by_cases h : (0 : Int) ≤ Lib.indexByte marks c
  · rw [decide_eq_true h]
    obtain ⟨o, ho⟩ := Int.eq_ofNat_of_zero_le h
    have := (Lib.indexByte_some ho).1
    exact (List.contains_iff_mem.2 (List.mem_of_getElem? this)).symm
  · rw [decide_eq_false h]
    have he : Lib.indexByte marks c = -1 := by omega
    have := Lib.indexByte_none he
    symm
    rw [Bool.eq_false_iff, ne_eq, List.contains_iff_mem]
    intro hm
    obtain ⟨j, hj, e⟩ := List.mem_iff_getElem.1 hm
    exact this j (by rw [List.getElem?_eq_getElem hj, e])
theorem marks_bytes : (⟨#[126, 33, 64, 36, 37, 94, 38, 42, 95, 45, 43, 61, 60, 62, 46, 63, 47]⟩ : ByteArray).data.toList = marks := rfl
theorem st_marks {n : Nat} {z : Int} (hz : Hid (∃ c : UInt8, c.toNat = n ∧ Lib.indexByte marks c = z)) (w : World) : Calls Tryd.prog 77 #[.string ⟨#[126, 33, 64, 36, 37, 94, 38, 42, 95, 45, 43, 61, 60, 62, 46, 63, 47]⟩, .int .u8 (n : Int)] w fun e w' => e = .returned (.int .i64 z) ∧ w = w' := by
  obtain ⟨c, rfl, rfl⟩ := hz.out
  have := st_index ⟨#[126, 33, 64, 36, 37, 94, 38, 42, 95, 45, 43, 61, 60, 62, 46, 63, 47]⟩ c w
  rwa [marks_bytes] at this
theorem inner_split (c : UInt8) : isInner c = ((isLetter c || isDigit c) || marks.contains c) := by
  unfold isInner isLetter
  generalize marks.contains c = a
  generalize isDigit c = b
  generalize (decide (65 ≤ c.toNat) && decide (c.toNat ≤ 90)) = x
  generalize (decide (97 ≤ c.toNat) && decide (c.toNat ≤ 122)) = y
  cases a <;> cases b <;> cases x <;> cases y <;> rfl
set_option maxRecDepth 100000 in
theorem psymbol_any (c : UInt8) (w : World) :
    Calls Tryd.prog 56 #[byV c] w fun e w' => e = .returned (.bool (isInner c)) ∧ w = w' := by
  have E : Hid (isInner c = ((isLetter c || isDigit c) || decide ((0 : Int) ≤ Lib.indexByte marks c))) := Lib.hid (by rw [marks_index]; exact inner_split c)
  obtain ⟨d, hd⟩ : ∃ d, isLetter c = d := ⟨_, rfl⟩
  have Hd : Hid (∃ x : UInt8, x.toNat = c.toNat ∧ isLetter x = d) := Lib.hid ⟨c, rfl, hd⟩
  obtain ⟨g, hg⟩ : ∃ g, isDigit c = g := ⟨_, rfl⟩
  have Hg : Hid (∃ x : UInt8, x.toNat = c.toNat ∧ isDigit x = g) := Lib.hid ⟨c, rfl, hg⟩
  obtain ⟨z, hz⟩ : ∃ z, Lib.indexByte marks c = z := ⟨_, rfl⟩
  have Hz : Hid (∃ x : UInt8, x.toNat = c.toNat ∧ Lib.indexByte marks x = z) := Lib.hid ⟨c, rfl, hz⟩
  rw [hd, hg, hz] at E
  clear hd hg hz
  generalize isInner c = r at *
  unfold byV
  generalize c.toNat = n at *
  cases d <;> cases g <;> cases hz : decide ((0 : Int) ≤ z) <;> (
    go_enter Tryd.func56, Tryd.ntmps56
    go_wp2_with (first | (go_at_call 76; refine (as_byte pletter_any Hd _).mono ?_; rintro e w' ⟨rfl, rfl⟩) | (go_at_call 50; refine (as_byte pdigit_any Hg _).mono ?_; rintro e w' ⟨rfl, rfl⟩) | (go_at_call 77; refine (st_marks Hz _).mono ?_; rintro e w' ⟨rfl, rfl⟩))
    go_ret
    exact ⟨ret_bool (by rw [E.out, hz] <;> rfl), rfl⟩)
end Go.Proofs.YtmnllioeaaimcaaDoor.tk
