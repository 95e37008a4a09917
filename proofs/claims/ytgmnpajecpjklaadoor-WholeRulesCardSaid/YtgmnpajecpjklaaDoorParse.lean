/- Package whole: number, isDecimal. -/
import Derived.Test.YtgmnpajecpjklaaDoorFormZ
import Derived.WalkLawsBesides
namespace Go.Proofs.YtgmnpajecpjklaaDoor.wh
open Go.RowKit

/-- a byte's digit -/
def dg (b : UInt8) : Nat := b.toNat - 48
def isDg (b : UInt8) : Bool := decide (48 ≤ b.toNat) && decide (b.toNat ≤ 57)
/-- the number of decimal digits as they are written -/
def nval (l : List UInt8) : Nat := tval (l.reverse.map dg)
theorem nval_snoc (l : List UInt8) (b : UInt8) : nval (l ++ [b]) = dg b + 10 * nval l := by
  simp [nval, tval]
/-- decimal digits alone, at least one -/
def decL (l : List UInt8) : Bool := !l.isEmpty && l.all isDg
theorem dg_lt {b : UInt8} (h : isDg b = true) : dg b < 10 := by
  unfold isDg at h
  rw [Bool.and_eq_true] at h
  have := of_decide_eq_true h.2
  unfold dg
  omega
theorem nval_lt {l : List UInt8} (h : ∀ b ∈ l, isDg b = true) : nval l < 10 ^ l.length := by
  have ht : Ten (l.reverse.map dg) := fun d hd => by
    obtain ⟨b, hb, rfl⟩ := List.mem_map.1 hd
    exact dg_lt (h b (List.mem_reverse.1 hb))
  have := tval_lt ht
  simpa [nval] using this
theorem bytes_len (s : ByteArray) : s.data.toList.length = s.size := by rw [Array.length_toList]; rfl
theorem take_snoc (s : ByteArray) (k : Nat) (h : k < s.size) : s.data.toList.take (k + 1) = s.data.toList.take k ++ [s[k]] := by
  rw [List.take_succ_eq_append_getElem (by simpa using h)]; rfl
theorem byte_mem (s : ByteArray) (k : Nat) (h : k < s.size) : s[k] ∈ s.data.toList := by
  have : s[k] = s.data.toList[k]'(by simpa using h) := rfl
  rw [this]
  exact List.getElem_mem _

set_option maxRecDepth 100000 in
set_option maxHeartbeats 1000000 in
theorem number_any (s : ByteArray) (w : World) (hs : s.size ≤ 9) (hd : ∀ b ∈ s.data.toList, isDg b = true) :
    Calls Tryd.prog 54 #[.string s] w fun e w' => e = .returned (.int .u32 (nval s.data.toList : Nat)) ∧ w = w' := by
  have HD := Lib.hid hd
  clear hd
  go_enter Tryd.func54, Tryd.ntmps54
  go_wp2
  go_loop [3, 7] (fun u i => ∃ (k n : Nat), k ≤ s.size ∧ u = .int .u32 n ∧ i = .int .i64 k ∧ Hid (n = nval (s.data.toList.take k))) (fun _ i => s.size - (intOf i).toNat)
  case atStart => exact ⟨0, 0, Nat.zero_le _, rfl, rfl, rfl⟩
  case round =>
    obtain ⟨k, n, hk, rfl, rfl, hn⟩ := hrel
    by_cases hlt : k < s.size
    · have hdk := HD.out _ (byte_mem s k hlt)
      have HT := Lib.hid (take_snoc s k hlt)
      have hlim : n < 100000000 := by
        have h1 := nval_lt (l := s.data.toList.take k) (fun b hb => HD.out b (List.mem_of_mem_take hb))
        have h2 : 10 ^ (s.data.toList.take k).length ≤ 10 ^ 8 := Nat.pow_le_pow_right (by omega) (by rw [List.length_take]; omega)
        have := hn.out
        omega
      obtain ⟨x, hx⟩ : ∃ x : Nat, x = s[k].toNat := ⟨_, rfl⟩
      have hb1 : (48 : Int) ≤ ((s[k].toNat : Nat) : Int) ∧ ((s[k].toNat : Nat) : Int) ≤ 57 := by
        unfold isDg at hdk
        rw [Bool.and_eq_true] at hdk
        have h1 := of_decide_eq_true hdk.1
        have h2 := of_decide_eq_true hdk.2
        omega
      have HN : Hid (n * 10 + (s[k].toNat - 48) = nval (s.data.toList.take (k + 1))) := by
        show _ = _
        rw [HT.out, nval_snoc, ← hn.out]
        show _ = (s[k].toNat - 48) + 10 * n
        omega
      obtain ⟨hb2, hb3⟩ := hb1
      clear hdk hx
      go_wp2
      go_round
      case rel => exact ⟨k + 1, n * 10 + (s[k].toNat - 48), by omega, by go_num, by go_num, HN.out⟩
      case measure => simp [intOf]; omega
    · have HE : Hid (n = nval s.data.toList) := by
        have h := hn.out
        rw [List.take_of_length_le (by simp; omega)] at h
        exact h
      go_wp2
      go_ret
      exact ⟨ret_int (by rw [HE.out]), rfl⟩

set_option maxRecDepth 100000 in
set_option maxHeartbeats 1000000 in
theorem isDecimal_any (s : ByteArray) (w : World) (hs : s.size ≤ 1000) :
    Calls Tryd.prog 53 #[.string s] w fun e w' => e = .returned (.bool (decL s.data.toList)) ∧ w = w' := by
  by_cases h0 : s.size < 1
  · have HE : Hid (decL s.data.toList = false) := by
      have h1 : s.data.toList.length = 0 := by rw [bytes_len]; omega
      have h2 := List.eq_nil_of_length_eq_zero h1
      show decL _ = false
      rw [h2]
      rfl
    have h0' : ((s.size : Nat) : Int) < 1 := by omega
    go_enter Tryd.func53, Tryd.ntmps53
    go_wp2
    go_ret
    exact ⟨ret_bool HE.out.symm, rfl⟩
  · have h0' : ¬ ((s.size : Nat) : Int) < 1 := by omega
    have h1' : ¬ (10000 : Int) < ((s.size : Nat) : Int) := by omega
    have HNE : Hid (s.data.toList.isEmpty = false) := by
      show List.isEmpty _ = false
      rw [List.isEmpty_eq_false_iff]
      intro e
      have h2 := bytes_len s
      rw [e] at h2
      simp only [List.length_nil] at h2
      omega
    go_enter Tryd.func53, Tryd.ntmps53
    go_wp2
    go_loop [14] (fun i => ∃ k : Nat, k ≤ s.size ∧ i = .int .i64 k ∧ Hid ((s.data.toList.take k).all isDg = true)) (fun i => s.size - (intOf i).toNat)
    case atStart => exact ⟨0, Nat.zero_le _, rfl, rfl⟩
    case round =>
      obtain ⟨k, hk, rfl, ha⟩ := hrel
      by_cases hlt : k < s.size
      · have HT := Lib.hid (take_snoc s k hlt)
        have HM := Lib.hid (byte_mem s k hlt)
        by_cases hlo : s[k].toNat < 48
        · have hlo' : ((s[k].toNat : Nat) : Int) < 48 := by omega
          have HE : Hid (decL s.data.toList = false) := by
            show decL _ = false
            unfold decL
            rw [HNE.out, Bool.not_false, Bool.true_and, List.all_eq_false]
            exact ⟨_, HM.out, by unfold isDg; simp; omega⟩
          clear hlo
          go_wp2
          go_ret
          exact ⟨ret_bool HE.out.symm, rfl⟩
        · have hlo' : ¬ ((s[k].toNat : Nat) : Int) < 48 := by omega
          by_cases hhi : 57 < s[k].toNat
          · have hhi' : (57 : Int) < ((s[k].toNat : Nat) : Int) := by omega
            have HE : Hid (decL s.data.toList = false) := by
              show decL _ = false
              unfold decL
              rw [HNE.out, Bool.not_false, Bool.true_and, List.all_eq_false]
              exact ⟨_, HM.out, by unfold isDg; simp; omega⟩
            clear hlo hhi
            go_wp2
            go_ret
            exact ⟨ret_bool HE.out.symm, rfl⟩
          · have hhi' : ¬ (57 : Int) < ((s[k].toNat : Nat) : Int) := by omega
            have HE : Hid ((s.data.toList.take (k + 1)).all isDg = true) := by
              show List.all _ _ = true
              rw [HT.out, List.all_append, ha.out]
              simp [isDg]
              omega
            clear hlo hhi
            go_wp2
            go_round
            case rel => exact ⟨k + 1, by omega, by go_num, HE.out⟩
            case measure => simp [intOf]; omega
      · have HE : Hid (decL s.data.toList = true) := by
          have h := ha.out
          rw [List.take_of_length_le (by simp; omega)] at h
          show decL _ = true
          unfold decL
          rw [HNE.out, h]
          rfl
        go_wp2
        go_ret
        exact ⟨ret_bool HE.out.symm, rfl⟩
end Go.Proofs.YtgmnpajecpjklaaDoor.wh
