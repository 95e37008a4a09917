/- Package dag: are these sorts; a sort's key. -/
import Derived.Test.YtdnhhfhjjimcgaaDoorGt
import Derived.Test.YtdnhhfhjjimcgaaDoorGx
import Derived.Lib.BytesEntry
namespace Go.Proofs.YtdnhhfhjjimcgaaDoor.dg
open Go Go.RowKit

set_option maxRecDepth 100000 in
set_option maxHeartbeats 1000000 in
theorem areSorts_any {w : World} {F G : Nat → Prop} {a : Nat} {S : St} (H : Hid (Ar w F a S)) {ks : List Int} {A : Option Addr} {c : Nat} (hr : Hid (Ri w G ks A c)) (hl : ks.length ≤ 1000000) :
    Calls Tryd.prog 42 #[.pointer (some ⟨a, 0, none⟩), .slice A ks.length c] w fun e w' => e = .returned (.bool (ks.all S.isSort)) ∧ w = w' := by
  obtain ⟨r, hr2⟩ : ∃ r, ks.all S.isSort = r := ⟨_, rfl⟩
  have HR2 := Lib.hid hr2
  rw [hr2]
  clear hr2
  obtain ⟨As, cs, Af, cf, At, ct, mb, ib, c0, c1, c2, c3, c4, c5, hlt0⟩ := H.out.cells
  have HC1 := Lib.hid c1
  clear c0 c2 c3 c4 c5 c1
  obtain ⟨N, hN⟩ : ∃ N, S.sorts.length = N := ⟨_, rfl⟩
  rw [hN] at HC1
  have HN := Lib.hid hN
  clear hN
  go_enter Tryd.func42, Tryd.ntmps42
  go_upto_region 2 with fail
  go_loopw [9] (fun iv wr => ∃ k : Nat, k ≤ ks.length ∧ iv = .int .i64 (k : Int) ∧ Hid (∀ j (h : j < ks.length), j < k → S.isSort ks[j] = true) ∧ Hid (Eqw w wr)) (fun iv _ => ks.length - (intOf iv).toNat)
  case atStart => exact ⟨0, Nat.zero_le _, rfl, Lib.hid (fun j h hj => absurd hj (by omega)), Lib.hid (Eqw.rfl _)⟩
  case round =>
    obtain ⟨k, hk, rfl, HK, HB⟩ := hrel
    obtain rfl : w = wr := HB.out
    clear HB
    have c1 := HC1.out
    by_cases hlt : k < ks.length
    · have g7 : (k : Int) < (ks.length : Int) := by omega
      obtain ⟨g, off, rfl, _, _, hc⟩ := hr.out.get hlt
      obtain ⟨x, hx⟩ : ∃ x, ks[k]'hlt = x := ⟨_, rfl⟩
      have HX := Lib.hid hx
      rw [hx] at hc
      clear hx
      by_cases h0 : x < 0
      · obtain rfl : r = false := by
          rw [← HR2.out, List.all_eq_false]
          exact ⟨_, List.getElem_mem hlt, by rw [HX.out]; simp [St.isSort]; omega⟩
        go_wp2_with fail
        go_ret
        exact ⟨rfl, rfl⟩
      · have h0d : decide (x < 0) = false := decide_eq_false h0
        by_cases h1 : (N : Int) ≤ x
        · obtain rfl : r = false := by
            rw [← HR2.out, List.all_eq_false]
            exact ⟨_, List.getElem_mem hlt, by rw [HX.out]; simp [St.isSort, HN.out]; omega⟩
          go_wp2_with fail
          go_ret
          exact ⟨rfl, rfl⟩
        · have h1d : decide ((N : Int) ≤ x) = false := decide_eq_false h1
          have HH : Hid (S.isSort (ks[k]'hlt) = true) := Lib.hid (by rw [HX.out]; simp [St.isSort, HN.out]; omega)
          go_wp2_with fail
          go_roundw
          case rel => exact ⟨k + 1, by omega, by go_num, Lib.hid (fun j h hj => by
            by_cases e : j = k
            · subst e; exact HH.out
            · exact HK.out j h (by omega)), Lib.hid (Eqw.rfl _)⟩
          case measure => simp [intOf]; omega
    · obtain rfl : k = ks.length := by omega
      have g7 : ¬ ((ks.length : Int) < (ks.length : Int)) := by omega
      obtain rfl : r = true := by
        rw [← HR2.out, List.all_eq_true]
        intro x hx
        obtain ⟨i, hi, rfl⟩ := List.getElem_of_mem hx
        exact HK.out i hi hi
      go_wp2_with fail
      go_ret
      exact ⟨rfl, rfl⟩
theorem argB_take {l : List Int} {k : Nat} (hk : k < l.length) : argB (l.take (k + 1)) = argB (l.take k) ++ (Lib.itoa (l[k]'hk) ++ [32]) := by
  unfold argB
  rw [List.take_succ_eq_append_getElem hk, List.flatMap_append]
  simp
theorem nDigits_le (u : Nat) (h : u < 10000000) : (Lib.decDigits u).length ≤ 7 := by
  have step : ∀ u : Nat, (Lib.decDigits u).length ≤ if u < 10 then 1 else (Lib.decDigits (u / 10)).length + 1 := fun u => by
    rw [Lib.decDigits]
    split <;> simp
  have h0 := step u
  have h1 := step (u / 10)
  have h2 := step (u / 10 / 10)
  have h3 := step (u / 10 / 10 / 10)
  have h4 := step (u / 10 / 10 / 10 / 10)
  have h5 := step (u / 10 / 10 / 10 / 10 / 10)
  have h6 := step (u / 10 / 10 / 10 / 10 / 10 / 10)
  have h7 : u / 10 / 10 / 10 / 10 / 10 / 10 < 10 := by omega
  rw [if_pos h7] at h6
  split at h0 <;> split at h1 <;> split at h2 <;> split at h3 <;> split at h4 <;> split at h5 <;> omega
theorem itoa_small {a : Int} (h0 : 0 ≤ a) (h1 : a < 10000000) : (Lib.itoa a).length ≤ 7 := by
  obtain ⟨u, rfl⟩ : ∃ u : Nat, a = (u : Int) := ⟨a.toNat, by omega⟩
  rw [Lib.itoa_nonneg]
  exact nDigits_le u (by omega)
theorem argB_len : ∀ {l : List Int}, (∀ a ∈ l, 0 ≤ a ∧ a < 10000000) → (argB l).length ≤ 8 * l.length
  | [], _ => by simp [argB]
  | a :: r, h => by
    have h1 := itoa_small (h a (by simp)).1 (h a (by simp)).2
    have h2 := argB_len (l := r) fun x hx => h x (by simp [hx])
    unfold argB at h2 ⊢
    rw [List.flatMap_cons, List.length_append, List.length_append, List.length_cons]
    simp only [List.length_cons, List.length_nil]
    omega
/-- the table of powers of ten -/
def Tab (w : World) : Prop := Lib.TabIs Tryd.prog w "internal/strconv.uint64pow10" .u64 Lib.pow10Tab
end Go.Proofs.YtdnhhfhjjimcgaaDoor.dg
