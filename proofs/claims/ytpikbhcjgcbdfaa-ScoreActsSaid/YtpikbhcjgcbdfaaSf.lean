/- Tables of package score: Best. -/
import Derived.Test.YtpikbhcjgcbdfaaSe
namespace Go.Proofs.Ytpikbhcjgcbdfaa.sc
open Go.RowKit

/-- a slice that reads as integers -/
def Rz (w : World) (A : Option Addr) (zs : List Int) : Prop :=
  0 < zs.length → ∃ b off, A = some ⟨b, off, none⟩ ∧ b < w.heap.size ∧ ∀ j (h : j < zs.length), w.cell? ⟨b, off + j, none⟩ = some (.int .i64 (zs[j]'h))
theorem Rz.drewN {w : World} {A : Option Addr} {zs : List Int} (h : Rz w A zs) (q : Nat) : Rz (w.drewN q) A zs := h
theorem Rz.below {w w' : World} {A : Option Addr} {zs : List Int} (h : Rz w A zs) (hb : Below w.heap.size w w') : Rz w' A zs := fun hn => by
  obtain ⟨b, off, e, hlt, hc⟩ := h hn
  exact ⟨b, off, e, Nat.lt_of_lt_of_le hlt hb.size, fun j hj => (hb.cell (p := ⟨b, off + j, none⟩) hlt).trans (hc j hj)⟩
/-- the best so far, by one more of the list -/
def bestStep (n : Nat) (L : Nat → Nat) (o : Option Nat) (v : Int) : Option Nat :=
  if hasB n v then (match o with | none => some v.toNat | some b => if betB L v.toNat b then some v.toNat else some b) else o
def bestOf (n : Nat) (L : Nat → Nat) (zs : List Int) : Option Nat := zs.foldl (bestStep n L) none
theorem bestOf_snoc (n : Nat) (L : Nat → Nat) (zs : List Int) (v : Int) : bestOf n L (zs ++ [v]) = bestStep n L (bestOf n L zs) v := by simp [bestOf]
theorem bestStep_lt {n : Nat} {L : Nat → Nat} {o : Option Nat} (h : ∀ b, o = some b → b < n) (v : Int) : ∀ b, bestStep n L o v = some b → b < n := by
  intro b hb
  unfold bestStep at hb
  split at hb
  · rename_i hh
    have hv : 0 ≤ v ∧ v < n := by simpa [hasB] using hh
    split at hb
    · cases hb; omega
    · split at hb
      · cases hb; omega
      · cases hb; exact h _ rfl
  · exact h b hb
theorem bestOf_lt (n : Nat) (L : Nat → Nat) (zs : List Int) : ∀ b, bestOf n L zs = some b → b < n := by
  have : ∀ (o : Option Nat), (∀ b, o = some b → b < n) → ∀ b, zs.foldl (bestStep n L) o = some b → b < n := by
    induction zs with
    | nil => exact fun o h => h
    | cons v t ih => exact fun o h => ih _ (bestStep_lt h v)
  exact this none (fun b h => by cases h)
theorem take_snoc {zs : List Int} {k : Nat} (h : k < zs.length) : zs.take (k + 1) = zs.take k ++ [zs[k]] := by
  rw [List.take_succ_eq_append_getElem h]
def BestDone (w : World) (n : Nat) (L : Nat → Nat) (zs : List Int) (e : Ending) (w' : World) : Prop :=
  e = .returned (.tuple #[.int .i64 (((bestOf n L zs).getD 0 : Nat) : Int), .bool (bestOf n L zs).isSome]) ∧ ∃ q, w' = w.drewN q
/-- where a round of Best stands -/
def BestAt (w : World) (n : Nat) (L : Nat → Nat) (zs : List Int) (k : Nat) (m f i : Value) (wr : World) : Prop :=
  k ≤ zs.length ∧ i = .int .i64 (k : Int) ∧ m = .int .i64 (((bestOf n L (zs.take k)).getD 0 : Nat) : Int) ∧ f = .bool (bestOf n L (zs.take k)).isSome ∧ ∃ q, wr = w.drewN q
theorem best_go {w : World} {n : Nat} {L : Nat → Nat} {zs : List Int} {k : Nat} (hk : k < zs.length) {o : Option Nat} (ho : bestOf n L (zs.take k) = o) {r : Option Nat} (hr : bestStep n L o zs[k] = r) {m : Int} (hm : m = ((r.getD 0 : Nat) : Int)) {f : Bool} (hf : f = r.isSome) (q : Nat) :
    BestAt w n L zs (k + 1) (.int .i64 m) (.bool f) (.int .i64 ((k : Int) + 1)) (w.drewN q) := by
  subst hm hf
  refine ⟨hk, by simp, ?_, ?_, q, rfl⟩
  · rw [take_snoc hk, bestOf_snoc, ho, hr]
  · rw [take_snoc hk, bestOf_snoc, ho, hr]
set_option maxRecDepth 100000 in
set_option maxHeartbeats 2000000 in
theorem best_any {w : World} {T S n st dc : Nat} {L : Nat → Nat} (h : Hid (IsTab w 54 T S n L st dc)) (hf : Hid (Fit n L)) {A : Option Addr} {zs : List Int} {c : Nat} (hz : Hid (Rz w A zs)) (hl : zs.length ≤ 1000) :
    Calls Try.prog 21 #[.pointer (some ⟨T, 0, none⟩), .slice A zs.length c] w (BestDone w n L zs) := by
  go_enter Try.func21, Try.ntmps21
  go_wp2_with fail
  go_loopw [6, 7, 12] (fun m f i wr => ∃ k : Nat, BestAt w n L zs k m f i wr) (fun _ _ i _ => zs.length - (intOf i).toNat)
  case atStart => exact ⟨0, by omega, rfl, rfl, rfl, 0, rfl⟩
  case round =>
    obtain ⟨k, hk, rfl, rfl, rfl, q, rfl⟩ := hrel
    by_cases hlt : k < zs.length
    · obtain ⟨b, off, rfl, hb, hc⟩ := hz.out (by omega)
      have hck := hc k hlt
      clear hc
      obtain ⟨o, ho⟩ : ∃ o, bestOf n L (zs.take k) = o := ⟨_, rfl⟩
      have HLT := Lib.hid (bestOf_lt n L (zs.take k))
      rw [ho] at HLT ⊢
      have HO := Lib.hid ho
      clear ho
      obtain ⟨v, hv⟩ : ∃ v, zs[k] = v := ⟨_, rfl⟩
      rw [hv] at hck
      have HV := Lib.hid hv
      clear hv
      cases hh : hasB n v
      · have R : Hid (bestStep n L o v = o) := Lib.hid (by unfold bestStep; rw [hh]; rfl)
        go_wp2_with (first | (go_at_call 26; refine (has_any (Lib.hid (h.out.drewN _)) _).mono ?_; rintro e w' ⟨rfl, rfl⟩))
        go_roundw
        case rel => exact ⟨k + 1, best_go hlt HO.out ((congrArg (bestStep n L _) HV.out).trans R.out) rfl rfl q⟩
        case measure => simp [intOf]; omega
      · have hv : 0 ≤ v ∧ v < n := by simpa [hasB] using hh
        obtain ⟨j, rfl⟩ := Int.eq_ofNat_of_zero_le hv.1
        have hj : j < n := by omega
        clear hv
        cases o with
        | none =>
          have R : Hid (bestStep n L none (j : Int) = some j) := Lib.hid (by unfold bestStep; rw [hh]; rfl)
          simp only [Option.getD_none, Option.isSome_none]
          go_wp2_with (first | (go_at_call 26; refine (has_any (Lib.hid (h.out.drewN _)) _).mono ?_; rintro e w' ⟨rfl, rfl⟩))
          go_roundw
          case rel => exact ⟨k + 1, best_go hlt HO.out ((congrArg (bestStep n L _) HV.out).trans R.out) rfl rfl q⟩
          case measure => simp [intOf]; omega
        | some b0 =>
          have hb0 := HLT.out b0 rfl
          simp only [Option.getD_some, Option.isSome_some]
          cases hbt : betB L j b0
          · have R : Hid (bestStep n L (some b0) (j : Int) = some b0) := Lib.hid (by unfold bestStep; rw [hh]; simp [hbt])
            go_wp2_with (first | (go_at_call 26; refine (has_any (Lib.hid (h.out.drewN _)) _).mono ?_; rintro e w' ⟨rfl, rfl⟩) | (go_at_call 39; refine (better_any (Lib.hid (h.out.drewN _)) hf hj hb0).mono ?_; rintro e w' ⟨rfl, q2, rfl⟩))
            go_roundw
            case rel => exact ⟨k + 1, best_go hlt HO.out ((congrArg (bestStep n L _) HV.out).trans R.out) rfl rfl _⟩
            case measure => simp [intOf]; omega
          · have R : Hid (bestStep n L (some b0) (j : Int) = some j) := Lib.hid (by unfold bestStep; rw [hh]; simp [hbt])
            go_wp2_with (first | (go_at_call 26; refine (has_any (Lib.hid (h.out.drewN _)) _).mono ?_; rintro e w' ⟨rfl, rfl⟩) | (go_at_call 39; refine (better_any (Lib.hid (h.out.drewN _)) hf hj hb0).mono ?_; rintro e w' ⟨rfl, q2, rfl⟩))
            go_roundw
            case rel => exact ⟨k + 1, best_go hlt HO.out ((congrArg (bestStep n L _) HV.out).trans R.out) rfl rfl _⟩
            case measure => simp [intOf]; omega
    · have hk' : k = zs.length := by omega
      subst hk'
      rw [List.take_length]
      go_wp2_with fail
      go_ret2
      exact ⟨rfl, q, rfl⟩
theorem best_len {w : World} {T S n st dc : Nat} {L : Nat → Nat} (h : Hid (IsTab w 54 T S n L st dc)) (hf : Hid (Fit n L)) {A : Option Addr} {zs : List Int} {c m : Nat} (hz : Hid (Rz w A zs)) (hl : zs.length ≤ 1000) (hm : zs.length = m) :
    Calls Try.prog 21 #[.pointer (some ⟨T, 0, none⟩), .slice A m c] w (BestDone w n L zs) := by
  subst hm
  exact best_any h hf hz hl
end Go.Proofs.Ytpikbhcjgcbdfaa.sc
