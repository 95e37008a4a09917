/- The document's Best. -/
import Derived.Test.YtpikbhcjgcbdfaaSm
namespace Go.Proofs.Ytpikbhcjgcbdfaa.sc
open Go.RowKit

theorem refLess_as {x y : Nat} {r : Bool} (hr : lessB x y = r) (w : World) :
    Calls Try.prog 24 #[.float .f64 x, .float .f64 y] w fun e w' => e = .returned (.bool r) ∧ w = w' := by
  subst hr
  exact refLess_any x y w
/-- the document's word for the best -/
def refB (o : Option Nat) : Int := match o with | none => -1 | some m => (m : Int)
def RefBestAt (w : World) (n : Nat) (L : Nat → Nat) (zs : List Int) (k : Nat) (m i : Value) (wr : World) : Prop :=
  k ≤ zs.length ∧ i = .int .i64 (k : Int) ∧ m = .int .i64 (refB (bestOf n L (zs.take k))) ∧ ∃ q, wr = w.drewN q
theorem refBest_go {w : World} {n : Nat} {L : Nat → Nat} {zs : List Int} {k : Nat} (hk : k < zs.length) {o : Option Nat} (ho : bestOf n L (zs.take k) = o) {r : Option Nat} (hr : bestStep n L o zs[k] = r) {m : Int} (hm : m = refB r) (q : Nat) :
    RefBestAt w n L zs (k + 1) (.int .i64 m) (.int .i64 ((k : Int) + 1)) (w.drewN q) := by
  subst hm
  refine ⟨hk, by simp, ?_, q, rfl⟩
  rw [take_snoc hk, bestOf_snoc, ho, hr]
set_option maxRecDepth 100000 in
set_option maxHeartbeats 1000000 in
theorem refBest_any {w : World} {T S n st dc : Nat} {L : Nat → Nat} (h : Hid (IsTab w 35 T S n L st dc)) (hn : n ≤ 1048576) {A : Option Addr} {zs : List Int} {c : Nat} (hz : Hid (Rz w A zs)) (hl : zs.length ≤ 1000) :
    Calls Try.prog 22 #[.pointer (some ⟨T, 0, none⟩), .slice A zs.length c] w (Quiet w (.int .i64 (refB (bestOf n L zs)))) := by
  have c0 := h.out.c0
  go_enter Try.func22, Try.ntmps22
  go_wp2_with fail
  go_loopw [5, 6] (fun m i wr => ∃ k : Nat, RefBestAt w n L zs k m i wr) (fun _ i _ => zs.length - (intOf i).toNat)
  case atStart => exact ⟨0, by omega, rfl, rfl, 0, rfl⟩
  case round =>
    obtain ⟨k, hk, rfl, rfl, q, rfl⟩ := hrel
    by_cases hlt : k < zs.length
    · obtain ⟨b, off, rfl, hb, hc⟩ := hz.out (by omega)
      have hck := hc k hlt
      clear hc
      obtain ⟨o, ho⟩ : ∃ o, bestOf n L (zs.take k) = o := ⟨_, rfl⟩
      have HLT := Lib.hid (bestOf_lt n L (zs.take k))
      rw [ho] at HLT ⊢
      have HO := Lib.hid ho
      clear ho
      obtain ⟨v, hv⟩ : ∃ v, zs[k] = v := ⟨_, rfl⟩
      rw [hv] at hck
      have HV := Lib.hid hv
      clear hv
      cases hh : hasB n v
      · have R : Hid (bestStep n L o v = o) := Lib.hid (by unfold bestStep; rw [hh]; rfl)
        rcases (show v < 0 ∨ (n : Int) ≤ v by have h := hh; unfold hasB at h; by_cases h0 : 0 ≤ v <;> simp [h0] at h <;> omega) with h0 | h0
        · have e0 : decide (v < 0) = true := decide_eq_true h0
          go_wp2_with fail
          go_roundw
          case rel => exact ⟨k + 1, refBest_go hlt HO.out ((congrArg (bestStep n L _) HV.out).trans R.out) rfl _⟩
          case measure => simp [intOf]; omega
        · have e0 : decide (v < 0) = false := decide_eq_false (by omega)
          have e1 : decide ((n : Int) ≤ v) = true := decide_eq_true h0
          go_wp2_with fail
          go_roundw
          case rel => exact ⟨k + 1, refBest_go hlt HO.out ((congrArg (bestStep n L _) HV.out).trans R.out) rfl _⟩
          case measure => simp [intOf]; omega
      · obtain ⟨j, rfl, hj⟩ := hasB_cases hh
        have e0 : decide ((j : Int) < 0) = false := decide_eq_false (by omega)
        have e1 : decide ((n : Int) ≤ (j : Int)) = false := decide_eq_false (by omega)
        have cj := h.out.cs hj
        cases o with
        | none =>
          have R : Hid (bestStep n L none (j : Int) = some j) := Lib.hid (by unfold bestStep; rw [hh]; rfl)
          simp only [refB]
          go_wp2_with fail
          go_quiet (fail)
          go_wp2_with fail
          go_roundw
          case rel => exact ⟨k + 1, refBest_go hlt HO.out ((congrArg (bestStep n L _) HV.out).trans R.out) rfl _⟩
          case measure => simp [intOf]; omega
        | some b0 =>
          have hb0 := HLT.out b0 rfl
          have e2 : decide ((b0 : Int) < 0) = false := decide_eq_false (by omega)
          have cb := h.out.cs hb0
          simp only [refB]
          cases l1 : lessB (L b0) (L j)
          · cases l2 : lessB (L j) (L b0)
            · by_cases hjb : j < b0
              · have e3 : decide ((j : Int) < (b0 : Int)) = true := decide_eq_true (by omega)
                have R : Hid (bestStep n L (some b0) (j : Int) = some j) := Lib.hid (by unfold bestStep betB; rw [hh]; simp [l1, l2, hjb])
                go_wp2_with fail
                go_quiet ((go_at_call 24; first | (with_reducible exact still2 (refLess_as l1 _)) | (with_reducible exact still2 (refLess_as l2 _))))
                go_wp2_with fail
                go_roundw
                case rel => exact ⟨k + 1, refBest_go hlt HO.out ((congrArg (bestStep n L _) HV.out).trans R.out) rfl _⟩
                case measure => simp [intOf]; omega
              · have e3 : decide ((j : Int) < (b0 : Int)) = false := decide_eq_false (by omega)
                have R : Hid (bestStep n L (some b0) (j : Int) = some b0) := Lib.hid (by unfold bestStep betB; rw [hh]; simp [l1, l2, hjb])
                go_wp2_with fail
                go_quiet ((go_at_call 24; first | (with_reducible exact still2 (refLess_as l1 _)) | (with_reducible exact still2 (refLess_as l2 _))))
                go_wp2_with fail
                go_roundw
                case rel => exact ⟨k + 1, refBest_go hlt HO.out ((congrArg (bestStep n L _) HV.out).trans R.out) rfl _⟩
                case measure => simp [intOf]; omega
            · have R : Hid (bestStep n L (some b0) (j : Int) = some b0) := Lib.hid (by unfold bestStep betB; rw [hh]; simp [l1, l2])
              go_wp2_with fail
              go_quiet ((go_at_call 24; first | (with_reducible exact still2 (refLess_as l1 _)) | (with_reducible exact still2 (refLess_as l2 _))))
              go_wp2_with fail
              go_roundw
              case rel => exact ⟨k + 1, refBest_go hlt HO.out ((congrArg (bestStep n L _) HV.out).trans R.out) rfl _⟩
              case measure => simp [intOf]; omega
          · have R : Hid (bestStep n L (some b0) (j : Int) = some j) := Lib.hid (by unfold bestStep betB; rw [hh]; simp [l1])
            go_wp2_with fail
            go_quiet ((go_at_call 24; first | (with_reducible exact still2 (refLess_as l1 _))))
            go_wp2_with fail
            go_roundw
            case rel => exact ⟨k + 1, refBest_go hlt HO.out ((congrArg (bestStep n L _) HV.out).trans R.out) rfl _⟩
            case measure => simp [intOf]; omega
    · have hk' : k = zs.length := by omega
      subst hk'
      rw [List.take_length]
      go_wp2_with fail
      go_ret
      exact ⟨rfl, q, rfl⟩
end Go.Proofs.Ytpikbhcjgcbdfaa.sc
