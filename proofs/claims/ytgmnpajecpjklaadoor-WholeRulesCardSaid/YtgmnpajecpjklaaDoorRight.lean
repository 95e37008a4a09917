/- Package whole: Right, clean: whether an integer may be. -/
import Derived.Test.YtgmnpajecpjklaaDoorWords
import Derived.Test.YtgmnpajecpjklaaDoorRows
namespace Go.Proofs.YtgmnpajecpjklaaDoor.wh
open Go.RowKit

/-- whether digits and a sign are an integer -/
def rightB (neg : Bool) (ds : List Nat) : Bool := ds.all (fun d => decide (d < 1000000000)) && (if ds.length = 0 then !neg else decide (ds.getD (ds.length - 1) 0 ≠ 0))

theorem rightB_false {neg : Bool} {ds : List Nat} (k : Nat) (hk : k < ds.length) (h : 1000000000 ≤ ds[k]) : rightB neg ds = false := by
  unfold rightB
  rw [Bool.and_eq_false_iff]
  left
  rw [List.all_eq_false]
  exact ⟨ds[k], List.getElem_mem hk, by simp; omega⟩
theorem rightB_all {neg : Bool} {ds : List Nat} (h : ∀ j (hj : j < ds.length), ds[j] < 1000000000) : rightB neg ds = (if ds.length = 0 then !neg else decide (ds.getD (ds.length - 1) 0 ≠ 0)) := by
  unfold rightB
  have : ds.all (fun d => decide (d < 1000000000)) = true := by
    rw [List.all_eq_true]
    intro d hd
    obtain ⟨j, hj, rfl⟩ := List.getElem_of_mem hd
    simpa using h j hj
  rw [this, Bool.true_and]

set_option maxHeartbeats 400000 in
theorem right_any (neg : Bool) (A : Option Addr) (c : Nat) (ds : List Nat) (w : World) (hn : ds.length ≤ maxLen) (hr : Rd w w.heap.size A ds) :
    Calls Tryd.prog 28 #[.agg #[.bool neg, .slice A ds.length c]] w fun e w' => e = .returned (.bool (rightB neg ds)) ∧ Below w.heap.size w w' := by
  unfold maxLen at hn
  have HR := Lib.hid hr
  clear hr
  go_enter Tryd.func28, Tryd.ntmps28
  go_wp2
  go_loop [8] (fun i => ∃ k : Nat, k ≤ ds.length ∧ i = .int .i64 k ∧ Hid (∀ j (hj : j < ds.length), j < k → ds[j] < 1000000000)) (fun i => ds.length - (intOf i).toNat)
  case atStart => exact ⟨0, Nat.zero_le _, rfl, fun j _ hk => absurd hk (by omega)⟩
  case round =>
    obtain ⟨k, hk, rfl, ha⟩ := hrel
    by_cases hlt : k < ds.length
    · obtain ⟨b, off, rfl, hb, hc⟩ := HR.out.at_ hlt
      have hc1 : (w.alloc (.cells #[.bool neg, .slice (some ⟨b, off, none⟩) ds.length c] 24)).cell? ⟨b, off + k, none⟩ = some (.int .u32 ((ds[k] : Nat) : Int)) := by
        rw [World.cell?_alloc_lt _ _ _ (by simpa using hb)]; exact hc
      by_cases hd : ds[k] < 1000000000
      · have hd' : ¬ ((1000000000 : Int) ≤ ((ds[k] : Nat) : Int)) := by omega
        go_wp2
        go_round
        case rel => exact ⟨k + 1, by omega, by go_num, fun j hj hjk => by
          by_cases e : j = k
          · subst e; exact hd
          · exact ha.out j hj (by omega)⟩
        case measure => simp [intOf]; omega
      · have hd' : ((1000000000 : Int) ≤ ((ds[k] : Nat) : Int)) := by omega
        go_wp2
        go_ret
        exact ⟨ret_bool (rightB_false k hlt (by omega)).symm, (Below.refl _ _).alloc (Nat.le_refl _) _⟩
    · have hall : Hid (rightB neg ds = (if ds.length = 0 then !neg else decide (ds.getD (ds.length - 1) 0 ≠ 0))) := rightB_all fun j hj => ha.out j hj (by omega)
      by_cases h0 : ds.length = 0
      · have h0' : (((ds.length : Nat) : Int) == 0) = true := by simp [h0]
        have H0 := Lib.hid h0
        clear h0
        go_wp2
        go_ret
        refine ⟨ret_bool ?_, (Below.refl _ _).alloc (Nat.le_refl _) _⟩
        rw [hall.out, if_pos H0.out]
      · have h0' : (((ds.length : Nat) : Int) == 0) = false := by simpa using h0
        obtain ⟨b, off, rfl, hb, hc⟩ := HR.out.at_ (k := ds.length - 1) (by omega)
        have hc1 : (w.alloc (.cells #[.bool neg, .slice (some ⟨b, off, none⟩) ds.length c] 24)).cell? ⟨b, off + (ds.length - 1), none⟩ = some (.int .u32 ((ds[ds.length - 1] : Nat) : Int)) := by
          rw [World.cell?_alloc_lt _ _ _ (by simpa using hb)]; exact hc
        go_wp2
        go_ret
        refine ⟨ret_bool ?_, (Below.refl _ _).alloc (Nat.le_refl _) _⟩
        rw [hall.out, if_neg h0]
        rw [List.getD_eq_getElem?_getD, List.getElem?_eq_getElem (by omega)]
        rw [Bool.eq_iff_iff]
        simp

theorem right_yes (neg : Bool) (A : Option Addr) (n c : Nat) (ds : List Nat) (w : World) (hl : ds.length = n) (hn : ds.length ≤ maxLen) (hr : Rd w w.heap.size A ds) (hR : rightB neg ds = true) :
    Calls Tryd.prog 28 #[.agg #[.bool neg, .slice A n c]] w fun e w' => e = .returned (.bool true) ∧ Below w.heap.size w w' := by
  subst hl
  exact (right_any neg A c ds w hn hr).mono fun e w' h => by rw [hR] at h; exact h

set_option maxHeartbeats 400000 in
/-- What 'clean' gives: the same integer. -/
theorem clean_any (neg : Bool) (A : Option Addr) (n c : Nat) (ds : List Nat) (w : World) (hl : ds.length = n) (hn : ds.length ≤ maxLen) (hr : Rd w w.heap.size A ds) (hR : rightB neg ds = true) :
    Calls Tryd.prog 34 #[.agg #[.bool neg, .slice A n c]] w fun e w' => e = .returned (.agg #[.bool neg, .slice A n c]) ∧ Below w.heap.size w w' := by
  have HR := Lib.hid hr
  clear hr
  have HRB := Lib.hid hR
  clear hR
  have HL := Lib.hid hl
  clear hl
  go_enter Tryd.func34, Tryd.ntmps34
  go_wp2_with fail
  refine (right_yes _ _ _ _ ds _ HL.out hn ((HR.out.alloc' _).alloc' _) HRB.out).mono ?_
  rintro e w1 ⟨rfl, hb⟩
  obtain ⟨hc, hf⟩ := bcell hb
  have hz : w.heap.size + 1 < w1.heap.size := by have := hb.size; simp at this; omega
  go_wp2
  exact bodyPost_ret (v := .agg #[.bool neg, .slice A n c]) (by simp [results, Tryd.results34, go_sem, hc]) rfl ⟨rfl, (((((Below.refl _ _).alloc (Nat.le_refl _) _).alloc (by simp) _).trans (hb.mono (by simp; omega))).setCell (by simp) _).setCell (by simp) _⟩
end Go.Proofs.YtgmnpajecpjklaaDoor.wh
