/- Package whole: Neg. -/
import Derived.Test.YtgmnpajecpjklaaDoorDivide
namespace Go.Proofs.YtgmnpajecpjklaaDoor.wh
open Go.RowKit

/-- a variable that is known, and one that is there -/
structure Duo (w : World) (g : Nat) (x : Bool) (a : Option Addr) (n c : Nat) (r : Nat) (w' : World) : Prop where
  below : Below w.heap.size w w'
  one : Box w' g x a n c
  res : ∃ y b m d, Box w' r y b m d
  le : w.heap.size ≤ g ∧ w.heap.size ≤ r ∧ g ≠ r
section
variable {w w' w1 : World} {g n c r : Nat} {x : Bool} {a : Option Addr}
theorem Duo.all (h : Duo w g x a n c r w') : (w'.cell? ⟨g, 0, none⟩ = some (.bool x) ∧ w'.cell? ⟨g, 1, none⟩ = some (.slice a n c) ∧ w'.cell? ⟨r, 0, none⟩ = some (cellOf w' r 0) ∧ w'.cell? ⟨r, 1, none⟩ = some (cellOf w' r 1)) ∧
    (w'.frozen? ⟨g, 0, none⟩ = false ∧ w'.frozen? ⟨g, 1, none⟩ = false ∧ w'.frozen? ⟨r, 0, none⟩ = false ∧ w'.frozen? ⟨r, 1, none⟩ = false) ∧ Hid (Duo w g x a n c r w') := by
  obtain ⟨y, b, m, d, hr⟩ := h.res
  exact ⟨⟨h.one.c0, h.one.c1, cellOf_box hr⟩, ⟨h.one.f0, h.one.f1, hr.f0, hr.f1⟩, h⟩
theorem Duo.get {P Q : Prop} (h : P ∧ Q ∧ Hid (Duo w g x a n c r w')) : Duo w g x a n c r w' := h.2.2
theorem Duo.over (hb : Hid (Below w'.heap.size w' w1)) (h : Duo w g x a n c r w') : Duo w g x a n c r w1 := by
  obtain ⟨y, b, m, d, hr⟩ := h.res
  exact ⟨h.below.trans (hb.out.mono h.below.size), h.one.over hb.out, ⟨y, b, m, d, hr.over hb.out⟩, h.le⟩
theorem Duo.put1 (h : Duo w g x a n c r w') (y : Bool) (b : Option Addr) (m d : Nat) : Duo w g y b m d r (put2 w' g y b m d) := by
  obtain ⟨y', b', m', d', hr⟩ := h.res
  obtain ⟨l1, l2, l3⟩ := h.le
  exact ⟨below_put h.below l1 _ _ _ _, h.one.put _ _ _ _, ⟨y', b', m', d', hr.far (fun e => l3 e.symm) _ _ _ _⟩, h.le⟩
theorem Duo.put3 (h : Duo w g x a n c r w') (y : Bool) (b : Option Addr) (m d : Nat) : Duo w g x a n c r (put2 w' r y b m d) := by
  obtain ⟨y', b', m', d', hr⟩ := h.res
  obtain ⟨l1, l2, l3⟩ := h.le
  exact ⟨below_put h.below l2 _ _ _ _, h.one.far l3 _ _ _ _, ⟨_, _, _, _, hr.put _ _ _ _⟩, h.le⟩
theorem Duo.drew (h : Duo w g x a n c r w') : Duo w g x a n c r w'.drew := by
  obtain ⟨y, b, m, d, hr⟩ := h.res
  exact ⟨h.below.drew, h.one.drew, ⟨y, b, m, d, hr.drew⟩, h.le⟩
end
theorem Digs.row {w : World} {n c : Nat} {A : Option Addr} {ds : List Nat} (h : Digs w n c A ds) : RowIs w A n c (val ds) := ⟨ds, h.len, h.cap, h.rd, h.dig, rfl⟩
theorem sgn_not {nx : Bool} {xs : List Nat} {a : Int} (h : zval nx xs = a) : sgn (!nx) (val xs) = -a := by
  subst h
  cases nx <;> simp [sgn, zval]

set_option maxRecDepth 100000 in
set_option maxHeartbeats 1000000 in
theorem neg_any (v : Value) (p : Nat) (a : Int) (w : World) (hp : p ≤ 1000) (hx : IsInt w w.heap.size p v a) :
    Calls Tryd.prog 18 #[v] w fun e w' => GivesZ w p (-a) e w' := by
  obtain ⟨nx, A, n, c, xs, rfl, hnp, CX, ZX⟩ := hx.cells
  clear hx
  have HT : Hid (Duo w w.heap.size nx A n c (w.heap.size + 1) ((w.alloc (.cells #[.bool nx, .slice A n c] 24)).alloc (.cells #[.bool false, .slice none 0 0] 24))) :=
    ⟨((Below.refl _ _).alloc (Nat.le_refl _) _).alloc (by simp) _, (Box.new _ _ _ _ _).alloc _,
      ⟨false, none, 0, 0, by have h := Box.new (w.alloc (.cells #[.bool nx, .slice A n c] 24)) false none 0 0; rwa [World.size_alloc] at h⟩, by omega⟩
  go_enter Tryd.func18, Tryd.ntmps18
  go_wp2_with fail
  refine (clean_cells CX.out (by omega) HT.out.below).mono ?_
  rintro e w1 ⟨rfl, hb⟩
  have T1 := Lib.hid (Duo.over hb HT.out)
  have HE : Hid (Duo w w.heap.size nx A n c (w.heap.size + 1) (put2 w1 w.heap.size nx A n c)) := T1.out.put1 nx A n c
  have f0 := T1.out.one.f0
  have f1 := T1.out.one.f1
  have c0 := T1.out.one.c0
  have c1 := T1.out.one.c1
  go_wp2
  have HE2 : Hid (Duo w w.heap.size nx A n c (w.heap.size + 1) ((w1.setCell ⟨w.heap.size, 0, none⟩ (.bool nx)).setCell ⟨w.heap.size, 1, none⟩ (.slice A n c))) := HE
  clear HE
  generalize (w1.setCell ⟨w.heap.size, 0, none⟩ (.bool nx)).setCell ⟨w.heap.size, 1, none⟩ (.slice A n c) = W at *
  clear f0 f1 c0 c1
  go_region_held3 (fun w' => (w'.cell? ⟨w.heap.size, 0, none⟩ = some (.bool nx) ∧ w'.cell? ⟨w.heap.size, 1, none⟩ = some (.slice A n c) ∧ w'.cell? ⟨w.heap.size + 1, 0, none⟩ = some (cellOf w' (w.heap.size + 1) 0) ∧ w'.cell? ⟨w.heap.size + 1, 1, none⟩ = some (cellOf w' (w.heap.size + 1) 1)) ∧ (w'.frozen? ⟨w.heap.size, 0, none⟩ = false ∧ w'.frozen? ⟨w.heap.size, 1, none⟩ = false ∧ w'.frozen? ⟨w.heap.size + 1, 0, none⟩ = false ∧ w'.frozen? ⟨w.heap.size + 1, 1, none⟩ = false) ∧ Hid (Duo w (w.heap.size) nx A n c (w.heap.size + 1) w'))
    (first | (with_reducible exact HE2.out.drew.all) | (with_reducible exact (Duo.over hb (Duo.get (by assumption))).all) | (with_reducible exact (Duo.put3 (Duo.get (by assumption)) _ _ _ _).all))
    (first
      | (go_at_call 45; refine (clone_digs (CX.out.over (Duo.get (by assumption)).below).digs (by omega)).mono ?_; rintro e w2 ⟨A2, c2, rfl, hrow, hb⟩; have hb2 := hb)
      | (go_at_call 38; refine (signed_row _ A2 _ c2 _ _ (by omega) hrow.out.row).mono ?_; rintro e w3 ⟨neg3, A3, n3, c3, rfl, hint, hb⟩; have hb3 := hb))
  have T3 := (Duo.over hb3 (Duo.over hb2 HE2.out.drew))
  obtain ⟨y3, b3, m3, d3, hr3⟩ := T3.res
  have HI := Lib.hid (hint.out.put hr3 neg3 A3 n3 c3)
  have c0 := (hr3.put neg3 A3 n3 c3).c0
  have c1 := (hr3.put neg3 A3 n3 c3).c1
  have HB := Lib.hid (T3.put3 neg3 A3 n3 c3).below
  have HSZ := Lib.hid (put2_size w3 (w.heap.size + 1) neg3 A3 n3 c3)
  go_wp2
  refine bodyPost_ret (v := .agg #[.bool neg3, .slice A3 n3 c3]) (by simp [results, Tryd.results18, go_sem, c0, c1]) rfl ⟨neg3, A3, n3, c3, rfl, ?_, HB⟩
  have h : IsInt (put2 w3 (w.heap.size + 1) neg3 A3 n3 c3) (put2 w3 (w.heap.size + 1) neg3 A3 n3 c3).heap.size p _ _ := HI.out.more (by rw [HSZ.out]; exact Nat.le_refl _) (by omega)
  rw [sgn_not ZX.out] at h
  exact h
end Go.Proofs.YtgmnpajecpjklaaDoor.wh
