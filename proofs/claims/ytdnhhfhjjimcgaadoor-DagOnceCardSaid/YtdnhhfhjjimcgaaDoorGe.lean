/- Package dag: of which sort a term is; whether it is constant; how many there are. -/
import Derived.Test.YtdnhhfhjjimcgaaDoorGd
namespace Go.Proofs.YtdnhhfhjjimcgaaDoor.dg
open Go Go.RowKit

theorem mul6 (j : Nat) : j * 6 = j * 6 := rfl
set_option maxRecDepth 100000 in
set_option maxHeartbeats 1000000 in
theorem of_any {w : World} {F : Nat → Prop} {a : Nat} {S : St} (H : Hid (Ar w F a S)) (k : Int) :
    Calls Tryd.prog 17 #[.pointer (some ⟨a, 0, none⟩), .int .i64 k] w fun e w' => e = .returned (.int .i64 (S.of k)) ∧ w = w' := by
  obtain ⟨z, hz⟩ : ∃ z, S.of k = z := ⟨_, rfl⟩
  rw [hz]
  have HZ := Lib.hid hz
  clear hz
  cases hh : S.has k with
  | true =>
    obtain ⟨j, rfl, hj⟩ := has_nat hh
    have HH := Lib.hid hh
    obtain ⟨g, c, A, q, hF, hg, c4, t0, t1, t2, t3, t4, t5, _⟩ := H.out.term hj
    obtain rfl : S.terms[j].srt = z := by rw [← HZ.out, of_at hj]
    have h1 : (j : Int) < (S.terms.length : Int) := by omega
    clear hh
    go_enter Tryd.func17, Tryd.ntmps17
    go_wp2_with (go_at_call 38; refine (has_any H (j : Int)).mono ?_; rintro e w5 ⟨rfl, rfl⟩; rw [HH.out])
    go_ret
    exact ⟨rfl, rfl⟩
  | false =>
    obtain rfl : -1 = z := by rw [← HZ.out, of_not hh]
    have HH := Lib.hid hh
    clear hh
    go_enter Tryd.func17, Tryd.ntmps17
    go_wp2_with (go_at_call 38; refine (has_any H k).mono ?_; rintro e w5 ⟨rfl, rfl⟩; rw [HH.out])
    go_ret
    exact ⟨rfl, rfl⟩
set_option maxRecDepth 100000 in
set_option maxHeartbeats 1000000 in
theorem cst_any {w : World} {F : Nat → Prop} {a : Nat} {S : St} (H : Hid (Ar w F a S)) (k : Int) :
    Calls Tryd.prog 18 #[.pointer (some ⟨a, 0, none⟩), .int .i64 k] w fun e w' => e = .returned (.bool (S.cst k)) ∧ w = w' := by
  obtain ⟨z, hz⟩ : ∃ z, S.cst k = z := ⟨_, rfl⟩
  rw [hz]
  have HZ := Lib.hid hz
  clear hz
  cases hh : S.has k with
  | true =>
    obtain ⟨j, rfl, hj⟩ := has_nat hh
    have HH := Lib.hid hh
    obtain ⟨g, c, A, q, hF, hg, c4, t0, t1, t2, t3, t4, t5, _⟩ := H.out.term hj
    obtain rfl : S.terms[j].cst = z := by rw [← HZ.out, cst_at hj]
    have h1 : (j : Int) < (S.terms.length : Int) := by omega
    clear hh
    go_enter Tryd.func18, Tryd.ntmps18
    go_wp2_with (go_at_call 38; refine (has_any H (j : Int)).mono ?_; rintro e w5 ⟨rfl, rfl⟩; rw [HH.out])
    go_ret
    exact ⟨rfl, rfl⟩
  | false =>
    obtain rfl : false = z := by rw [← HZ.out, cst_not hh]
    have HH := Lib.hid hh
    clear hh
    go_enter Tryd.func18, Tryd.ntmps18
    go_wp2_with (go_at_call 38; refine (has_any H k).mono ?_; rintro e w5 ⟨rfl, rfl⟩; rw [HH.out])
    go_ret
    exact ⟨rfl, rfl⟩
set_option maxRecDepth 100000 in
set_option maxHeartbeats 1000000 in
theorem len_any {w : World} {F : Nat → Prop} {a : Nat} {S : St} (H : Hid (Ar w F a S)) :
    Calls Tryd.prog 11 #[.pointer (some ⟨a, 0, none⟩)] w fun e w' => e = .returned (.int .i64 (S.terms.length : Int)) ∧ w = w' := by
  obtain ⟨As, cs, Af, cf, At, ct, mb, ib, c0, c1, c2, c3, c4, c5, hlt⟩ := H.out.cells
  go_enter Tryd.func11, Tryd.ntmps11
  go_wp2_with fail
  go_ret
  exact ⟨rfl, rfl⟩
end Go.Proofs.YtdnhhfhjjimcgaaDoor.dg
