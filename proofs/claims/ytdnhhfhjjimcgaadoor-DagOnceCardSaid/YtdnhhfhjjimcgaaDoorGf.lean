/- Package dag: are all kids there; how many aren't constant. -/
import Derived.Test.YtdnhhfhjjimcgaaDoorGe
namespace Go.Proofs.YtdnhhfhjjimcgaaDoor.dg
open Go Go.RowKit

/-- one world -/
def Eqw (w w' : World) : Prop := w = w'
theorem Eqw.rfl (w : World) : Eqw w w := by unfold Eqw; simp

set_option maxRecDepth 100000 in
set_option maxHeartbeats 1000000 in
theorem hasAll_any {w : World} {F G : Nat → Prop} {a : Nat} {S : St} (H : Hid (Ar w F a S)) {ks : List Int} {A : Option Addr} {c : Nat} (hr : Hid (Ri w G ks A c)) (hl : ks.length ≤ 1000000) :
    Calls Tryd.prog 54 #[.pointer (some ⟨a, 0, none⟩), .slice A ks.length c] w fun e w' => e = .returned (.bool (ks.all S.has)) ∧ w = w' := by
  obtain ⟨r, hr2⟩ : ∃ r, ks.all S.has = r := ⟨_, rfl⟩
  have HR2 := Lib.hid hr2
  rw [hr2]
  clear hr2
  go_enter Tryd.func54, Tryd.ntmps54
  go_upto_region 2 with fail
  go_loopw [9] (fun iv wr => ∃ k : Nat, k ≤ ks.length ∧ iv = .int .i64 (k : Int) ∧ Hid (∀ j (h : j < ks.length), j < k → S.has ks[j] = true) ∧ Hid (Eqw w wr)) (fun iv _ => ks.length - (intOf iv).toNat)
  case atStart => exact ⟨0, Nat.zero_le _, rfl, Lib.hid (fun j h hj => absurd hj (by omega)), Lib.hid (Eqw.rfl _)⟩
  case round =>
    obtain ⟨k, hk, rfl, HK, HB⟩ := hrel
    obtain rfl : w = wr := HB.out
    clear HB
    by_cases hlt : k < ks.length
    · have g7 : (k : Int) < (ks.length : Int) := by omega
      obtain ⟨g, off, rfl, _, _, hc⟩ := hr.out.get hlt
      cases hh : S.has (ks[k]'hlt) with
      | true =>
        have HH := Lib.hid hh
        clear hh
        go_wp2_with (go_at_call 38; refine (has_any H _).mono ?_; rintro e w5 ⟨rfl, rfl⟩; rw [HH.out])
        go_roundw
        case rel => exact ⟨k + 1, by omega, by go_num, Lib.hid (fun j h hj => by
          by_cases e : j = k
          · subst e; exact HH.out
          · exact HK.out j h (by omega)), Lib.hid (Eqw.rfl _)⟩
        case measure => simp [intOf]; omega
      | false =>
        obtain rfl : r = false := by
          rw [← HR2.out, List.all_eq_false]
          exact ⟨_, List.getElem_mem hlt, by rw [hh]; simp⟩
        have HH := Lib.hid hh
        clear hh
        go_wp2_with (go_at_call 38; refine (has_any H _).mono ?_; rintro e w5 ⟨rfl, rfl⟩; rw [HH.out])
        go_ret
        exact ⟨rfl, rfl⟩
    · obtain rfl : k = ks.length := by omega
      have g7 : ¬ ((ks.length : Int) < (ks.length : Int)) := by omega
      obtain rfl : r = true := by
        rw [← HR2.out, List.all_eq_true]
        intro x hx
        obtain ⟨i, hi, rfl⟩ := List.getElem_of_mem hx
        exact HK.out i hi hi
      go_wp2_with fail
      go_ret
      exact ⟨rfl, rfl⟩
theorem free_take {S : St} {ks : List Int} {k : Nat} (h : k < ks.length) : S.free (ks.take (k + 1)) = S.free (ks.take k) + (if S.cst (ks[k]'h) then 0 else 1) := by
  unfold St.free
  rw [List.take_succ_eq_append_getElem h, List.filter_append, List.length_append]
  cases h : S.cst ks[k] <;> simp [h]
theorem free_le {S : St} {ks : List Int} : S.free ks ≤ ks.length := List.length_filter_le _ _
set_option maxRecDepth 100000 in
set_option maxHeartbeats 1000000 in
theorem unknowns_any {w : World} {F G : Nat → Prop} {a : Nat} {S : St} (H : Hid (Ar w F a S)) {ks : List Int} {A : Option Addr} {c : Nat} (hr : Hid (Ri w G ks A c)) (hl : ks.length ≤ 1000000) :
    Calls Tryd.prog 57 #[.pointer (some ⟨a, 0, none⟩), .slice A ks.length c] w fun e w' => e = .returned (.int .i64 (S.free ks : Int)) ∧ w = w' := by
  go_enter Tryd.func57, Tryd.ntmps57
  go_upto_region 3 with fail
  go_loopw [5, 10] (fun nv iv wr => ∃ k m : Nat, k ≤ ks.length ∧ m ≤ 1000000 ∧ iv = .int .i64 (k : Int) ∧ nv = .int .i64 (m : Int) ∧ Hid (m = S.free (ks.take k)) ∧ Hid (Eqw w wr)) (fun _ iv _ => ks.length - (intOf iv).toNat)
  case atStart => exact ⟨0, 0, Nat.zero_le _, by omega, rfl, rfl, Lib.hid rfl, Lib.hid (Eqw.rfl _)⟩
  case round =>
    obtain ⟨k, m, hk, hm, rfl, rfl, HK, HB⟩ := hrel
    obtain rfl : w = wr := HB.out
    clear HB
    by_cases hlt : k < ks.length
    · have g7 : (k : Int) < (ks.length : Int) := by omega
      obtain ⟨g, off, rfl, _, _, hc⟩ := hr.out.get hlt
      have HM : Hid (S.free (ks.take (k + 1)) ≤ k + 1) := Lib.hid (Nat.le_trans free_le (by simp; omega))
      cases hh : S.cst (ks[k]'hlt) with
      | true =>
        have HH := Lib.hid hh
        clear hh
        go_wp2_with (go_at_call 18; refine (cst_any H _).mono ?_; rintro e w5 ⟨rfl, rfl⟩; rw [HH.out])
        go_roundw
        case rel => exact ⟨k + 1, m, by omega, by omega, by go_num, rfl, Lib.hid (by rw [free_take hlt, HH.out, HK.out]; simp), Lib.hid (Eqw.rfl _)⟩
        case measure => simp [intOf]; omega
      | false =>
        have HH := Lib.hid hh
        clear hh
        have hm2 : m ≤ 999999 := by
          have h1 := HK.out
          have h2 : S.free (ks.take k) ≤ k := Nat.le_trans free_le (by simp; omega)
          omega
        go_wp2_with (go_at_call 18; refine (cst_any H _).mono ?_; rintro e w5 ⟨rfl, rfl⟩; rw [HH.out])
        go_roundw
        case rel => exact ⟨k + 1, m + 1, by omega, by omega, by go_num, by go_num, Lib.hid (by rw [free_take hlt, HH.out, HK.out]; simp), Lib.hid (Eqw.rfl _)⟩
        case measure => simp [intOf]; omega
    · obtain rfl : k = ks.length := by omega
      have g7 : ¬ ((ks.length : Int) < (ks.length : Int)) := by omega
      obtain rfl : m = S.free ks := by rw [HK.out, List.take_length]
      go_wp2_with fail
      go_ret
      exact ⟨rfl, rfl⟩
end Go.Proofs.YtdnhhfhjjimcgaaDoor.dg
