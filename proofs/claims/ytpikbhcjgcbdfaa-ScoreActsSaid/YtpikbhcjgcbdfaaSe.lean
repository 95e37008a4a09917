/- Tables of package score: Set, better, Best. -/
import Derived.Test.YtpikbhcjgcbdfaaSc
import Derived.StillTailTactics
import Derived.RegionTactic
import Derived.ChangeAlike
namespace Go.Proofs.Ytpikbhcjgcbdfaa.sc
open Go.RowKit

@[go_sem] theorem run_store_fl (P : Program) (w : World) (a : Addr) (m : Mode) (k : FloatKind) (b : Nat) : (store a (.float k b) m).run P w = stored P w a (.float k b) m := run_store P w a _ m rfl
def upd (L : Nat → Nat) (v x : Nat) : Nat → Nat := fun j => if j = v then x else L j
/-- what Set does -/
def SetDone (w : World) (T S n : Nat) (L : Nat → Nat) (st dc : Nat) (v : Int) (x : Nat) (e : Ending) (w' : World) : Prop :=
  e = .returned (.bool (hasB n v)) ∧ Two T S w w' ∧ IsTab w' 54 T S n (if hasB n v then upd L v.toNat (keptW x) else L) st dc
set_option maxRecDepth 100000 in
theorem set_any {w : World} {T S n st dc : Nat} {L : Nat → Nat} (h : Hid (IsTab w 54 T S n L st dc)) (v : Int) (x : Nat) :
    Calls Try.prog 14 #[.pointer (some ⟨T, 0, none⟩), .int .i64 v, .float .f64 x] w (SetDone w T S n L st dc v x) := by
  have c0 := h.out.c0
  cases hb : hasB n v
  · go_enter Try.func14, Try.ntmps14
    go_wp2_with (first | (go_at_call 26; refine (has_any h _).mono ?_; rintro e w' ⟨rfl, rfl⟩))
    go_ret
    exact ⟨by rw [hb]; rfl, Two.refl _ _ _, by rw [hb]; exact h.out⟩
  · have hv : 0 ≤ v ∧ v < n := by simpa [hasB] using hb
    obtain ⟨k, rfl⟩ := Int.eq_ofNat_of_zero_le hv.1
    have hk : k < n := by omega
    have ck := h.out.cs hk
    have fk := h.out.fs k
    clear hv
    go_enter Try.func14, Try.ntmps14
    go_wp2_with (first | (go_at_call 26; refine (has_any h _).mono ?_; rintro e w' ⟨rfl, rfl⟩))
    go_region_with (go_at_call 27; refine (kept_any _ _).mono ?_; rintro e w' ⟨rfl, rfl⟩)
    all_goals
      go_wp2
      go_ret
      exact ⟨by rw [hb]; rfl, ((Two.refl _ _ _).set2 _ _).drew, by rw [hb]; exact (h.out.setS k _).drew⟩
/-- a call that leaves the world alone, met in a quiet region -/
theorem still {P : Program} {f : FuncId} {args : Array Value} {w : World} {n : Nat} {v : Value} (h : Calls P f args (w.drewN n) fun e w' => e = .returned v ∧ w.drewN n = w') :
    Calls P f args (w.drewN n) fun e w'' => e = .returned v ∧ ∃ m, w'' = w.drewN m :=
  Calls.mono h fun _ _ hh => ⟨hh.1, n, hh.2 ▸ rfl⟩
theorem still2 {P : Program} {f : FuncId} {args : Array Value} {w : World} {a n : Nat} {v : Value} (h : Calls P f args (w.drewN (a + n)) fun e w' => e = .returned v ∧ w.drewN (a + n) = w') :
    Calls P f args (w.drewN (a + n)) fun e w'' => e = .returned v ∧ ∃ m, w'' = w.drewN (a + m) :=
  Calls.mono h fun _ _ hh => ⟨hh.1, n, hh.2 ▸ rfl⟩
theorem less_as {x y : Nat} {r : Bool} (hx : x < 18446744073709551616) (hy : y < 18446744073709551616) (hr : lessB x y = r) (w : World) :
    Calls Try.prog 23 #[.float .f64 x, .float .f64 y] w fun e w' => e = .returned (.bool r) ∧ w = w' := by
  subst hr
  exact less_any hx hy w
/-- all scores fit -/
def Fit (n : Nat) (L : Nat → Nat) : Prop := ∀ j, j < n → L j < 18446744073709551616
/-- does v come ahead of b? -/
def betB (L : Nat → Nat) (v b : Nat) : Bool := lessB (L b) (L v) || (decide (v < b) && !lessB (L v) (L b))
def Quiet (w : World) (v : Value) (e : Ending) (w' : World) : Prop := e = .returned v ∧ ∃ q, w' = w.drewN q
set_option maxRecDepth 100000 in
theorem better_any {w : World} {T S n st dc : Nat} {L : Nat → Nat} (h : Hid (IsTab w 54 T S n L st dc)) (hf : Hid (Fit n L)) {v b : Nat} (hv : v < n) (hb : b < n) :
    Calls Try.prog 39 #[.pointer (some ⟨T, 0, none⟩), .int .i64 (v : Int), .int .i64 (b : Int)] w (Quiet w (.bool (betB L v b))) := by
  have c0 := h.out.c0
  have cv := h.out.cs hv
  have cb := h.out.cs hb
  have EV := Lib.hid (hf.out v hv)
  have EB := Lib.hid (hf.out b hb)
  have fin : ∀ r, betB L v b = r → ∀ W', (∃ q, W' = w.drewN q) → Quiet w (.bool (betB L v b)) (.returned (.bool r)) W' := fun r e W' hq => ⟨by rw [e], hq⟩
  have FIN := Lib.hid fin
  clear fin
  cases h1 : lessB (L b) (L v)
  · by_cases hlt : v < b
    · have hd : decide ((v : Int) < (b : Int)) = true := by simpa using hlt
      have R : Hid (betB L v b = !lessB (L v) (L b)) := Lib.hid (by unfold betB; rw [h1]; simp [hlt])
      go_enter Try.func39, Try.ntmps39
      go_wp2_with fail
      go_quiet ((go_at_call 23; exact still (less_as EB.out EV.out h1 _)))
      go_wp2_with fail
      go_quiet ((go_at_call 23; exact still2 (less_any EV.out EB.out _)))
      go_wp2_with fail
      go_ret
      exact FIN.out _ R.out _ (by first | exact ⟨_, rfl⟩ | exact ⟨_, World.drewN_drewN _ _ _⟩)
    · have hd : decide ((v : Int) < (b : Int)) = false := by simpa using hlt
      have R : Hid (betB L v b = false) := Lib.hid (by unfold betB; rw [h1]; simp [hlt])
      go_enter Try.func39, Try.ntmps39
      go_wp2_with fail
      go_quiet ((go_at_call 23; exact still (less_as EB.out EV.out h1 _)))
      go_wp2_with fail
      go_quiet (fail)
      go_wp2_with fail
      go_ret
      exact FIN.out _ R.out _ (by first | exact ⟨_, rfl⟩ | exact ⟨_, World.drewN_drewN _ _ _⟩)
  · have R : Hid (betB L v b = true) := Lib.hid (by unfold betB; rw [h1]; simp)
    go_enter Try.func39, Try.ntmps39
    go_wp2_with fail
    go_quiet ((go_at_call 23; exact still (less_as EB.out EV.out h1 _)))
    go_wp2_with fail
    go_ret
    exact FIN.out _ R.out _ (by first | exact ⟨_, rfl⟩ | exact ⟨_, World.drewN_drewN _ _ _⟩)
end Go.Proofs.Ytpikbhcjgcbdfaa.sc
