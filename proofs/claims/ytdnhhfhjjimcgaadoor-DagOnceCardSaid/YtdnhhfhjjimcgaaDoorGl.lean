/- Package dag: what a number is; is a term well made. -/
import Derived.Test.YtdnhhfhjjimcgaaDoorGf
namespace Go.Proofs.YtdnhhfhjjimcgaaDoor.dg
open Go Go.RowKit

theorem byte_at {s : ByteArray} {k : Nat} (h : k < s.size) : s.data.toList[k]'(by simpa using h) = s[k] := by simp [ByteArray.getElem_eq_getElem_data]
theorem all_bytes {s : ByteArray} {p : UInt8 → Bool} (h : ∀ j (h : j < s.size), p s[j] = true) : s.data.toList.all p = true := by
  rw [List.all_eq_true]
  intro x hx
  obtain ⟨i, hi, rfl⟩ := List.getElem_of_mem hx
  have hi' : i < s.size := by simpa using hi
  rw [byte_at hi']
  exact h i hi'
theorem not_all {s : ByteArray} {p : UInt8 → Bool} {k : Nat} (h : k < s.size) (hp : p s[k] = false) : s.data.toList.all p = false := by
  rw [List.all_eq_false]
  refine ⟨s[k], ?_, by rw [hp]; simp⟩
  rw [← byte_at h]
  exact List.getElem_mem _
theorem str_is {s : ByteArray} {l : List UInt8} : ((s.toList == l) : Bool) = (s.data.toList == l) := by rw [ByteArray.toList_eq]
theorem size_list (s : ByteArray) : s.data.toList.length = s.size := by simp
theorem isNum_of {s : ByteArray} (hp : 0 < s.size) (hb : s.size ≤ 10000) (hd : s.data.toList.all isDig = true) : isNum s.data.toList = (decide (s.size = 1) || !(s[0] == 48)) := by
  unfold isNum
  rw [hd, size_list]
  have : s.data.toList.head? = some s[0] := by
    rw [← byte_at hp, List.head?_eq_getElem?, List.getElem?_eq_getElem]
  rw [this]
  simp [hp, hb]

set_option maxRecDepth 100000 in
set_option maxHeartbeats 1000000 in
theorem isNum_any {w : World} (s : ByteArray) :
    Calls Tryd.prog 64 #[.string s] w fun e w' => e = .returned (.bool (isNum s.data.toList)) ∧ w = w' := by
  obtain ⟨r, hr⟩ : ∃ r, isNum s.data.toList = r := ⟨_, rfl⟩
  rw [hr]
  have HR := Lib.hid hr
  clear hr
  by_cases h0 : s.size = 0
  · have e0 : s.toList.isEmpty = true := by rw [ByteArray.toList_eq]; have := size_list s; rw [h0] at this; rw [List.eq_nil_of_length_eq_zero this]; rfl
    obtain rfl : r = false := by rw [← HR.out]; simp [isNum, h0]
    clear h0
    go_enter Tryd.func64, Tryd.ntmps64
    go_wp2_with fail
    go_ret
    exact ⟨rfl, rfl⟩
  have e0 : s.toList.isEmpty = false := by
    rw [ByteArray.toList_eq]
    cases h : s.data.toList with
    | nil => have := size_list s; rw [h] at this; exact absurd this.symm h0
    | cons => rfl
  have hp : 0 < s.size := by omega
  have hpi : (0 : Int) < (s.size : Int) := by omega
  by_cases h1 : (10000 : Int) < (s.size : Int)
  · obtain rfl : r = false := by rw [← HR.out]; unfold isNum; rw [size_list]; have : decide (s.size ≤ 10000) = false := by simp; omega
                                 rw [this]; simp
    clear h0
    go_enter Tryd.func64, Tryd.ntmps64
    go_wp2_with fail
    go_ret
    exact ⟨rfl, rfl⟩
  have h2 : s.size ≤ 10000 := by omega
  go_enter Tryd.func64, Tryd.ntmps64
  go_upto_region 4 with fail
  go_loopw [13] (fun iv wr => ∃ k : Nat, k ≤ s.size ∧ iv = .int .i64 (k : Int) ∧ Hid (∀ j (h : j < s.size), j < k → isDig s[j] = true) ∧ Hid (Eqw w wr)) (fun iv _ => s.size - (intOf iv).toNat)
  case atStart => exact ⟨0, Nat.zero_le _, rfl, Lib.hid (fun j h hj => absurd hj (by omega)), Lib.hid (Eqw.rfl _)⟩
  case round =>
    obtain ⟨k, hk, rfl, HK, HB⟩ := hrel
    obtain rfl : w = wr := HB.out
    clear HB
    by_cases hlt : k < s.size
    · have g7 : (k : Int) < (s.size : Int) := by omega
      by_cases hlo : ((s[k].toNat : Nat) : Int) < 48
      · obtain rfl : r = false := by
          rw [← HR.out]
          unfold isNum
          rw [not_all (k := k) hlt (by unfold isDig; simp; omega)]
          simp
        go_wp2_with fail
        go_ret
        exact ⟨rfl, rfl⟩
      · by_cases hhi : (57 : Int) < ((s[k].toNat : Nat) : Int)
        · obtain rfl : r = false := by
            rw [← HR.out]
            unfold isNum
            rw [not_all (k := k) hlt (by unfold isDig; simp; omega)]
            simp
          go_wp2_with fail
          go_ret
          exact ⟨rfl, rfl⟩
        · have HD : Hid (isDig s[k] = true) := Lib.hid (by unfold isDig; simp; omega)
          go_wp2_with fail
          go_roundw
          case rel => exact ⟨k + 1, by omega, by go_num, Lib.hid (fun j h hj => by
            by_cases e : j = k
            · subst e; exact HD.out
            · exact HK.out j h (by omega)), Lib.hid (Eqw.rfl _)⟩
          case measure => simp [intOf]; omega
    · obtain rfl : k = s.size := by omega
      have g7 : ¬ ((s.size : Int) < (s.size : Int)) := by omega
      have hr2 : (decide (s.size = 1) || !(s[0] == 48)) = r := by rw [← HR.out]; exact (isNum_of hp h2 (all_bytes fun j hj => HK.out j hj hj)).symm
      have HR2 := Lib.hid hr2
      clear hr2
      by_cases k0 : s[0].toNat = 48
      · have e48 : s[0] = 48 := UInt8.toNat.inj k0
        have b0 : ((s[0].toNat : Nat) : Int) = 48 := by omega
        have b1 : ((s.toList == [48]) : Bool) = r := by
          rw [← HR2.out, ByteArray.toList_eq, e48]
          rcases Nat.lt_or_ge 1 s.size with hs | hs
          · have : ¬ s.size = 1 := by omega
            have h3 : s.data.toList ≠ [48] := fun h => by have := size_list s; rw [h] at this; simp at this; omega
            simp [this, h3]
          · have hs1 : s.size = 1 := by omega
            have h3 : s.data.toList = [48] := by
              have hl := size_list s
              rw [hs1] at hl
              obtain ⟨x, hx⟩ := List.length_eq_one_iff.1 hl
              have := byte_at hp
              simp only [hx, List.getElem_cons_zero] at this
              rw [hx, this, e48]
            simp [hs1, h3]
        clear k0 e48
        go_wp2_with fail
        go_ret
        exact ⟨rfl, rfl⟩
      · have b0 : ¬ ((s[0].toNat : Nat) : Int) = 48 := by omega
        obtain rfl : r = true := by
          rw [← HR2.out]
          have : (s[0] == 48) = false := by rw [beq_eq_false_iff_ne]; intro h; rw [h] at k0; exact k0 rfl
          rw [this]; simp
        clear k0
        go_wp2_with fail
        go_ret
        exact ⟨rfl, rfl⟩
end Go.Proofs.YtdnhhfhjjimcgaaDoor.dg
