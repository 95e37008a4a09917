/- The document's answer Right; Odd: whether integers are more than are looked at, or not right. -/
import Derived.Test.YtgmnpajecpjklaaDoorSpeaks
namespace Go.Proofs.YtgmnpajecpjklaaDoor.wh
open Go.RowKit

set_option maxHeartbeats 400000 in
theorem refRight_any (neg : Bool) (A : Option Addr) (c : Nat) (ds : List Nat) (w : World) (hn : ds.length ≤ maxLen) (hr : Rd w w.heap.size A ds) :
    Calls Tryd.prog 29 #[.agg #[.bool neg, .slice A ds.length c]] w fun e w' => e = .returned (.bool (rightB neg ds)) ∧ Below w.heap.size w w' := by
  unfold maxLen at hn
  have HR := Lib.hid hr
  clear hr
  go_enter Tryd.func29, Tryd.ntmps29
  go_wp2
  go_loop [3] (fun i => ∃ k : Nat, k ≤ ds.length ∧ i = .int .i64 k ∧ Hid (∀ j (hj : j < ds.length), j < k → ds[j] < 1000000000)) (fun i => ds.length - (intOf i).toNat)
  case atStart => exact ⟨0, Nat.zero_le _, rfl, fun j _ hk => absurd hk (by omega)⟩
  case round =>
    obtain ⟨k, hk, rfl, ha⟩ := hrel
    by_cases hlt : k < ds.length
    · obtain ⟨b, off, rfl, hb, hc⟩ := HR.out.at_ hlt
      have hc1 : (w.alloc (.cells #[.bool neg, .slice (some ⟨b, off, none⟩) ds.length c] 24)).cell? ⟨b, off + k, none⟩ = some (.int .u32 ((ds[k] : Nat) : Int)) := by
        rw [World.cell?_alloc_lt _ _ _ (by simpa using hb)]; exact hc
      by_cases hd : ds[k] < 1000000000
      · have hd' : ¬ ((999999999 : Int) < ((ds[k] : Nat) : Int)) := by omega
        go_wp2
        go_round
        case rel => exact ⟨k + 1, by omega, by go_num, fun j hj hjk => by
          by_cases e : j = k
          · subst e; exact hd
          · exact ha.out j hj (by omega)⟩
        case measure => simp [intOf]; omega
      · have hd' : ((999999999 : Int) < ((ds[k] : Nat) : Int)) := by omega
        go_wp2
        go_ret
        exact ⟨ret_bool (rightB_false k hlt (by omega)).symm, (Below.refl _ _).alloc (Nat.le_refl _) _⟩
    · have hall : Hid (rightB neg ds = (if ds.length = 0 then !neg else decide (ds.getD (ds.length - 1) 0 ≠ 0))) := rightB_all fun j hj => ha.out j hj (by omega)
      by_cases h0 : ds.length = 0
      · have h0' : (((ds.length : Nat) : Int) == 0) = true := by simp [h0]
        have H0 := Lib.hid h0
        clear h0
        go_wp2
        go_ret
        refine ⟨ret_bool ?_, (Below.refl _ _).alloc (Nat.le_refl _) _⟩
        rw [hall.out, if_pos H0.out]
      · have h0' : (((ds.length : Nat) : Int) == 0) = false := by simpa using h0
        obtain ⟨b, off, rfl, hb, hc⟩ := HR.out.at_ (k := ds.length - 1) (by omega)
        have hc1 : (w.alloc (.cells #[.bool neg, .slice (some ⟨b, off, none⟩) ds.length c] 24)).cell? ⟨b, off + (ds.length - 1), none⟩ = some (.int .u32 ((ds[ds.length - 1] : Nat) : Int)) := by
          rw [World.cell?_alloc_lt _ _ _ (by simpa using hb)]; exact hc
        go_wp2
        go_ret
        refine ⟨ret_bool ?_, (Below.refl _ _).alloc (Nat.le_refl _) _⟩
        rw [hall.out, if_neg h0]
        rw [List.getD_eq_getElem?_getD, List.getElem?_eq_getElem (by omega)]
        rw [Bool.eq_iff_iff]
        simp

/-- An integer as it came in: its sign, its slice, its digits. -/
structure El where
  neg : Bool
  A : Option Addr
  c : Nat
  ds : List Nat
def El.val (e : El) : Value := .agg #[.bool e.neg, .slice e.A e.ds.length e.c]
/-- more digits than are looked at, or none that may be -/
def El.odd (e : El) : Bool := decide (10 < e.ds.length) || !rightB e.neg e.ds
def El.Ok (w : World) (e : El) : Prop := e.ds.length ≤ maxLen ∧ Rd w w.heap.size e.A e.ds
theorem El.Ok.over {w w' : World} {e : El} (h : e.Ok w) (hb : Below w.heap.size w w') : e.Ok w' := ⟨h.1, h.2.over hb⟩
/-- the cells of a row of integers -/
def ElsAt (w : World) (g : Nat) (es : List El) : Prop := ∀ i (h : i < es.length), w.cell? ⟨g, i * 2, none⟩ = some (.bool (es[i]'h).neg) ∧ w.cell? ⟨g, i * 2 + 1, none⟩ = some (.slice (es[i]'h).A (es[i]'h).ds.length (es[i]'h).c)

set_option maxRecDepth 100000 in
set_option maxHeartbeats 1000000 in
theorem odd_any (g k : Nat) (es : List El) (w : World) (hl : es.length = k) (hk : k ≤ 1000) (hg : g < w.heap.size) (hcells : ElsAt w g es) (hok : ∀ e ∈ es, e.Ok w) :
    Calls Tryd.prog 8 #[.slice (some ⟨g, 0, none⟩) k k] w fun e w' => e = .returned (.bool (es.any El.odd)) ∧ Below w.heap.size w w' := by
  subst hl
  have HC := Lib.hid hcells
  have HO := Lib.hid hok
  clear hcells hok
  go_enter Tryd.func8, Tryd.ntmps8
  go_wp2
  go_loopw [7] (fun i wr => (∃ k : Nat, k ≤ es.length ∧ i = .int .i64 k ∧ Hid ((es.take k).any El.odd = false)) ∧ Below w.heap.size w wr) (fun i _ => es.length - (intOf i).toNat)
  case atStart => exact ⟨⟨0, Nat.zero_le _, rfl, rfl⟩, Below.refl _ _⟩
  case round =>
    obtain ⟨⟨k, hk, rfl, ha⟩, hb⟩ := hrel
    by_cases hlt : k < es.length
    · have h0 := (hb.cell (p := ⟨g, k * 2, none⟩) hg).trans (HC.out k hlt).1
      have h1 := (hb.cell (p := ⟨g, k * 2 + 1, none⟩) hg).trans (HC.out k hlt).2
      obtain ⟨x, hx⟩ : ∃ x, x = es[k] := ⟨_, rfl⟩
      rw [← hx] at h0 h1
      obtain ⟨neg, A, c, ds⟩ := x
      simp only at h0 h1
      have HX := Lib.hid hx
      clear hx
      have HIT : ∀ b : Bool, El.odd ⟨neg, A, c, ds⟩ = b → (es.take (k + 1)).any El.odd = b := fun b h => by
        rw [List.take_succ_eq_append_getElem hlt, List.any_append, ha.out, ← HX.out]
        simp [h]
      have HANY : El.odd ⟨neg, A, c, ds⟩ = true → es.any El.odd = true := fun h => by
        rw [List.any_eq_true]
        exact ⟨es[k], List.getElem_mem hlt, by rw [← HX.out]; exact h⟩
      have HI := Lib.hid HIT
      have HN := Lib.hid HANY
      have HE : Hid (El.Ok w ⟨neg, A, c, ds⟩) := by show El.Ok w _; rw [HX.out]; exact HO.out _ (List.getElem_mem hlt)
      clear HIT HANY
      by_cases h10 : 10 < ds.length
      · have h10' : (10 : Int) < ((ds.length : Nat) : Int) := by omega
        go_wp2
        go_ret
        exact ⟨ret_bool (HN.out (by unfold El.odd; simp [h10])).symm, hb.alloc hb.size _⟩
      · have h10' : ¬ (10 : Int) < ((ds.length : Nat) : Int) := by omega
        go_wp2_with fail
        refine (refRight_any neg A c ds _ HE.out.1 (((HE.out.over hb).2).alloc' _)).mono ?_
        rintro e w1 ⟨rfl, hb1⟩
        have hb2 : Below w.heap.size w w1 := (hb.alloc hb.size _).trans (hb1.mono (by simp; have := hb.size; omega))
        cases hr : rightB neg ds with
        | true =>
          have HR := Lib.hid hr
          clear hr
          go_wp2
          go_roundw
          case rel => exact ⟨⟨k + 1, by omega, by go_num, HI.out false (by unfold El.odd; rw [HR.out]; simp; omega)⟩, hb2⟩
          case measure => simp [intOf]; omega
        | false =>
          have HR := Lib.hid hr
          clear hr
          go_wp2
          go_ret
          exact ⟨ret_bool (HN.out (by unfold El.odd; rw [HR.out]; simp)).symm, hb2⟩
    · obtain rfl : k = es.length := by omega
      have HA : Hid (es.any El.odd = false) := by have h := ha.out; rwa [List.take_length] at h
      go_wp2
      go_ret
      exact ⟨ret_bool HA.out.symm, hb⟩
end Go.Proofs.YtgmnpajecpjklaaDoor.wh
