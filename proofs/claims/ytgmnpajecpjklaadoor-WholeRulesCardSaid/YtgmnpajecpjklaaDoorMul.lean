/- Package whole: Add, Neg, Mul. -/
import Derived.Test.YtgmnpajecpjklaaDoorCmp
namespace Go.Proofs.YtgmnpajecpjklaaDoor.wh
open Go.RowKit

/-- what a cell holds -/
def cellOf (w : World) (g i : Nat) : Value := (w.cell? ⟨g, i, none⟩).getD undef

/-- two variables that are known, and a third one that is there -/
structure Three (w : World) (g : Nat) (x : Bool) (a : Option Addr) (n c : Nat) (g' : Nat) (x' : Bool) (a' : Option Addr) (n' c' : Nat) (r : Nat) (w' : World) : Prop where
  below : Below w.heap.size w w'
  one : Box w' g x a n c
  two : Box w' g' x' a' n' c'
  res : ∃ y b m d, Box w' r y b m d
  le : w.heap.size ≤ g ∧ w.heap.size ≤ g' ∧ w.heap.size ≤ r ∧ g ≠ g' ∧ g ≠ r ∧ g' ≠ r
section
variable {w w' w1 : World} {g g' n n' c c' r : Nat} {x x' : Bool} {a a' : Option Addr}
theorem cellOf_box {y : Bool} {b : Option Addr} {m d : Nat} (h : Box w r y b m d) : w.cell? ⟨r, 0, none⟩ = some (cellOf w r 0) ∧ w.cell? ⟨r, 1, none⟩ = some (cellOf w r 1) := by
  unfold cellOf
  rw [h.c0, h.c1]
  exact ⟨rfl, rfl⟩
theorem Three.all (h : Three w g x a n c g' x' a' n' c' r w') : (w'.cell? ⟨g, 0, none⟩ = some (.bool x) ∧ w'.cell? ⟨g, 1, none⟩ = some (.slice a n c) ∧ w'.cell? ⟨g', 0, none⟩ = some (.bool x') ∧ w'.cell? ⟨g', 1, none⟩ = some (.slice a' n' c') ∧ w'.cell? ⟨r, 0, none⟩ = some (cellOf w' r 0) ∧ w'.cell? ⟨r, 1, none⟩ = some (cellOf w' r 1)) ∧
    (w'.frozen? ⟨g, 0, none⟩ = false ∧ w'.frozen? ⟨g, 1, none⟩ = false ∧ w'.frozen? ⟨g', 0, none⟩ = false ∧ w'.frozen? ⟨g', 1, none⟩ = false ∧ w'.frozen? ⟨r, 0, none⟩ = false ∧ w'.frozen? ⟨r, 1, none⟩ = false) ∧ Hid (Three w g x a n c g' x' a' n' c' r w') := by
  obtain ⟨y, b, m, d, hr⟩ := h.res
  exact ⟨⟨h.one.c0, h.one.c1, h.two.c0, h.two.c1, cellOf_box hr⟩, ⟨h.one.f0, h.one.f1, h.two.f0, h.two.f1, hr.f0, hr.f1⟩, h⟩
theorem Three.get {P Q : Prop} (h : P ∧ Q ∧ Hid (Three w g x a n c g' x' a' n' c' r w')) : Three w g x a n c g' x' a' n' c' r w' := h.2.2
theorem Three.over (hb : Hid (Below w'.heap.size w' w1)) (h : Three w g x a n c g' x' a' n' c' r w') : Three w g x a n c g' x' a' n' c' r w1 := by
  obtain ⟨y, b, m, d, hr⟩ := h.res
  exact ⟨h.below.trans (hb.out.mono h.below.size), h.one.over hb.out, h.two.over hb.out, ⟨y, b, m, d, hr.over hb.out⟩, h.le⟩
theorem Three.put1 (h : Three w g x a n c g' x' a' n' c' r w') (y : Bool) (b : Option Addr) (m d : Nat) : Three w g y b m d g' x' a' n' c' r (put2 w' g y b m d) := by
  obtain ⟨y', b', m', d', hr⟩ := h.res
  obtain ⟨l1, l2, l3, l4, l5, l6⟩ := h.le
  exact ⟨below_put h.below l1 _ _ _ _, h.one.put _ _ _ _, h.two.far (fun e => l4 e.symm) _ _ _ _, ⟨y', b', m', d', hr.far (fun e => l5 e.symm) _ _ _ _⟩, h.le⟩
theorem Three.put2 (h : Three w g x a n c g' x' a' n' c' r w') (y : Bool) (b : Option Addr) (m d : Nat) : Three w g x a n c g' y b m d r (wh.put2 w' g' y b m d) := by
  obtain ⟨y', b', m', d', hr⟩ := h.res
  obtain ⟨l1, l2, l3, l4, l5, l6⟩ := h.le
  exact ⟨below_put h.below l2 _ _ _ _, h.one.far l4 _ _ _ _, h.two.put _ _ _ _, ⟨y', b', m', d', hr.far (fun e => l6 e.symm) _ _ _ _⟩, h.le⟩
theorem Three.put3 (h : Three w g x a n c g' x' a' n' c' r w') (y : Bool) (b : Option Addr) (m d : Nat) : Three w g x a n c g' x' a' n' c' r (wh.put2 w' r y b m d) := by
  obtain ⟨y', b', m', d', hr⟩ := h.res
  obtain ⟨l1, l2, l3, l4, l5, l6⟩ := h.le
  exact ⟨below_put h.below l3 _ _ _ _, h.one.far l5 _ _ _ _, h.two.far l6 _ _ _ _, ⟨_, _, _, _, hr.put _ _ _ _⟩, h.le⟩
theorem Three.drew (h : Three w g x a n c g' x' a' n' c' r w') : Three w g x a n c g' x' a' n' c' r w'.drew := by
  obtain ⟨y, b, m, d, hr⟩ := h.res
  exact ⟨h.below.drew, h.one.drew, h.two.drew, ⟨y, b, m, d, hr.drew⟩, h.le⟩
/-- an integer that a callee gave, behind the store into the third variable -/
theorem Three.int3 {B m : Nat} {v : Value} {z : Int} (h : Three w g x a n c g' x' a' n' c' r w') (hi : IsInt w' B m v z) (y : Bool) (b : Option Addr) (k d : Nat) : IsInt (wh.put2 w' r y b k d) B m v z := by
  obtain ⟨y', b', m', d', hr⟩ := h.res
  exact hi.put hr _ _ _ _
end

/-- the slice reads as digits of the number v -/
def RowIs (w : World) (A : Option Addr) (n c v : Nat) : Prop := ∃ ds, ds.length = n ∧ n ≤ c ∧ Rd w w.heap.size A ds ∧ Dig ds ∧ val ds = v
def GivesR (W : World) (n v : Nat) (e : Ending) (w' : World) : Prop := ∃ A c, e = .returned (.slice A n c) ∧ Hid (RowIs w' A n c v) ∧ Hid (Below W.heap.size W w')
theorem GivesRow.hid {W w' : World} {n v : Nat} {e : Ending} (h : GivesRow W n v e w') : GivesR W n v e w' := by
  obtain ⟨A, c, ds, h1, h2, h3, h4, h5, h6, h7⟩ := h
  exact ⟨A, c, h1, ⟨ds, h2, h3, h4, h5, h6⟩, h7⟩
theorem RowIs.over {w w' : World} {A : Option Addr} {n c v : Nat} (h : RowIs w A n c v) (hb : Below w.heap.size w w') : RowIs w' A n c v := by
  obtain ⟨ds, h1, h2, h3, h4⟩ := h
  exact ⟨ds, h1, h2, h3.over hb, h4⟩
/-- an integer of known cells -/
def GivesZ (W : World) (m : Nat) (z : Int) (e : Ending) (w' : World) : Prop := ∃ neg A n c, e = .returned (.agg #[.bool neg, .slice A n c]) ∧ Hid (IsInt w' w'.heap.size m (.agg #[.bool neg, .slice A n c]) z) ∧ Hid (Below W.heap.size W w')
theorem GivesInt.hid {W w' : World} {B m : Nat} {z : Int} {e : Ending} (h : GivesInt W B m z e w') (hB : B ≤ w'.heap.size) : GivesZ W m z e w' := by
  obtain ⟨v, rfl, hi, hb⟩ := h
  have hi2 := hi.more hB (Nat.le_refl m)
  obtain ⟨neg, A, n, c, ds, rfl, h2⟩ := hi
  exact ⟨neg, A, n, c, rfl, hi2, hb⟩
def sgn (neg : Bool) (v : Nat) : Int := if neg then -(v : Int) else (v : Int)
theorem signed_row (neg : Bool) (A : Option Addr) (n c v : Nat) (w : World) (hn : n ≤ 10000) (hr : RowIs w A n c v) :
    Calls Tryd.prog 38 #[.bool neg, .slice A n c] w fun e w' => GivesZ w n (sgn neg v) e w' := by
  obtain ⟨ds, h1, h2, h3, h4, h5⟩ := hr
  refine (signed_any neg A n c ds w h1 (by unfold maxLen; omega) (by omega) h3 h4).mono fun e w' h => ?_
  have hb := h
  obtain ⟨_, _, _, hb⟩ := hb
  have hz : zval neg ds = sgn neg v := by unfold zval sgn; rw [h5]
  rw [← hz]
  exact h.hid hb.size

/-- what of an integer's cells the walks use -/
structure Cells (w : World) (n c : Nat) (neg : Bool) (A : Option Addr) (ds : List Nat) : Prop where
  len : ds.length = n
  rd : Rd w w.heap.size A ds
  cap : n ≤ c
  right : rightB neg ds = true
theorem Cells.over {w w' : World} {n c : Nat} {neg : Bool} {A : Option Addr} {ds : List Nat} (h : Cells w n c neg A ds) (hb : Below w.heap.size w w') : Cells w' n c neg A ds := ⟨h.len, h.rd.over hb, h.cap, h.right⟩
theorem clean_cells {neg : Bool} {A : Option Addr} {n c : Nat} {ds : List Nat} {w0 w : World} (h : Cells w0 n c neg A ds) (hn : n ≤ 10000) (hb : Below w0.heap.size w0 w) :
    Calls Tryd.prog 34 #[.agg #[.bool neg, .slice A n c]] w fun e w' => e = .returned (.agg #[.bool neg, .slice A n c]) ∧ Hid (Below w.heap.size w w') :=
  clean_any neg A n c ds w h.len (by rw [h.len]; unfold maxLen; omega) (h.over hb).rd h.right
theorem sum_cells {nx ny : Bool} {A B : Option Addr} {n c m d : Nat} {xs ys : List Nat} {w0 w : World} (hx : Cells w0 n c nx A xs) (hy : Cells w0 m d ny B ys) (hn : n ≤ 1000) (hm : m ≤ 1000) (hb : Below w0.heap.size w0 w) :
    Calls Tryd.prog 36 #[.slice A n c, .slice B m d] w fun e w' => GivesR w (max n m + 1) (val xs + val ys) e w' :=
  (sum_any A B n c m d xs ys w hx.len hy.len hn hm (hx.over hb).rd (hy.over hb).rd (right_dig hx.right) (right_dig hy.right)).mono fun _ _ h => h.hid
theorem difference_cells {nx ny : Bool} {A B : Option Addr} {n c m d : Nat} {xs ys : List Nat} {w0 w : World} (hx : Cells w0 n c nx A xs) (hy : Cells w0 m d ny B ys) (hn : n ≤ 1000) (hle : val ys ≤ val xs) (hb : Below w0.heap.size w0 w) :
    Calls Tryd.prog 37 #[.slice A n c, .slice B m d] w fun e w' => GivesR w n (val xs - val ys) e w' := by
  have hmn : m ≤ n := by
    rcases Nat.lt_or_ge n m with h | h
    · have := top_short (right_dig hx.right) (right_top hy.right) (by rw [hx.len, hy.len]; exact h)
      omega
    · exact h
  exact (difference_any A B n c m d xs ys w hx.len hy.len hn hmn hle (hx.over hb).rd (hy.over hb).rd (right_dig hx.right) (right_dig hy.right)).mono fun _ _ h => h.hid
theorem product_cells {nx ny : Bool} {A B : Option Addr} {n c m d : Nat} {xs ys : List Nat} {w0 w : World} (hx : Cells w0 n c nx A xs) (hy : Cells w0 m d ny B ys) (hn : n ≤ 1000) (hm : m ≤ 1000) (hb : Below w0.heap.size w0 w) :
    Calls Tryd.prog 44 #[.slice A n c, .slice B m d] w fun e w' => GivesR w (n + m) (val xs * val ys) e w' :=
  (product_any A B n c m d xs ys w hx.len hy.len hn hm (hx.over hb).rd (hy.over hb).rd (right_dig hx.right) (right_dig hy.right)).mono fun _ _ h => h.hid
theorem compare_cells {nx ny : Bool} {A B : Option Addr} {n c m d : Nat} {xs ys : List Nat} {w0 w : World} (hx : Cells w0 n c nx A xs) (hy : Cells w0 m d ny B ys) (hn : n ≤ 10000) (hb : Below w0.heap.size w0 w) :
    Calls Tryd.prog 42 #[.slice A n c, .slice B m d] w fun e w' => e = .returned (.int .i64 (cmpN (val xs) (val ys))) ∧ Hid (Below w.heap.size w w') :=
  compare_any A B n m c d xs ys w hx.len hy.len (by rw [hx.len]; unfold maxLen; omega) (hx.over hb).rd (hy.over hb).rd (right_dig hx.right) (right_dig hy.right) (right_top hx.right) (right_top hy.right)
theorem IsInt.cells {w : World} {m : Nat} {v : Value} {z : Int} (h : IsInt w w.heap.size m v z) : ∃ neg A n c ds, v = .agg #[.bool neg, .slice A n c] ∧ n ≤ m ∧ Hid (Cells w n c neg A ds) ∧ Hid (zval neg ds = z) := by
  obtain ⟨neg, A, n, c, ds, h1, h2, h3, h4, h5, h6, h7⟩ := h
  exact ⟨neg, A, n, c, ds, h1, h4, ⟨h2, h3, h5, h6⟩, h7⟩

theorem sgn_mul {nx ny : Bool} {xs ys : List Nat} {a b : Int} (hx : zval nx xs = a) (hy : zval ny ys = b) : sgn (nx != ny) (val xs * val ys) = a * b := by
  subst hx hy
  cases nx <;> cases ny <;> simp [sgn, zval, Int.natCast_mul, Int.neg_mul, Int.mul_neg]

set_option maxRecDepth 100000 in
set_option maxHeartbeats 1000000 in
theorem mul_any (v u : Value) (p q : Nat) (a b : Int) (w : World) (hp : p ≤ 1000) (hq : q ≤ 1000) (hx : IsInt w w.heap.size p v a) (hy : IsInt w w.heap.size q u b) :
    Calls Tryd.prog 16 #[v, u] w fun e w' => GivesZ w (p + q) (a * b) e w' := by
  obtain ⟨nx, A, n, c, xs, rfl, hnp, CX, ZX⟩ := hx.cells
  obtain ⟨ny, B, m, d, ys, rfl, hmq, CY, ZY⟩ := hy.cells
  clear hx hy
  have HT : Hid (Three w w.heap.size nx A n c (w.heap.size + 1) ny B m d (w.heap.size + 2) (((w.alloc (.cells #[.bool nx, .slice A n c] 24)).alloc (.cells #[.bool ny, .slice B m d] 24)).alloc (.cells #[.bool false, .slice none 0 0] 24))) :=
    ⟨(((Below.refl _ _).alloc (Nat.le_refl _) _).alloc (by simp) _).alloc (by simp; omega) _, ((Box.new _ _ _ _ _).alloc _).alloc _, by have h := (Box.new (w.alloc (.cells #[.bool nx, .slice A n c] 24)) ny B m d).alloc (.cells #[.bool false, .slice none 0 0] 24); rwa [World.size_alloc] at h,
      ⟨false, none, 0, 0, by have h := Box.new ((w.alloc (.cells #[.bool nx, .slice A n c] 24)).alloc (.cells #[.bool ny, .slice B m d] 24)) false none 0 0; rwa [World.size_alloc, World.size_alloc] at h⟩, by omega⟩
  go_enter Tryd.func16, Tryd.ntmps16
  go_wp2
  go_region_held3 (fun w' => (w'.cell? ⟨w.heap.size, 0, none⟩ = some (.bool nx) ∧ w'.cell? ⟨w.heap.size, 1, none⟩ = some (.slice A n c) ∧ w'.cell? ⟨w.heap.size + 1, 0, none⟩ = some (.bool ny) ∧ w'.cell? ⟨w.heap.size + 1, 1, none⟩ = some (.slice B m d) ∧ w'.cell? ⟨w.heap.size + 2, 0, none⟩ = some (cellOf w' (w.heap.size + 2) 0) ∧ w'.cell? ⟨w.heap.size + 2, 1, none⟩ = some (cellOf w' (w.heap.size + 2) 1)) ∧ (w'.frozen? ⟨w.heap.size, 0, none⟩ = false ∧ w'.frozen? ⟨w.heap.size, 1, none⟩ = false ∧ w'.frozen? ⟨w.heap.size + 1, 0, none⟩ = false ∧ w'.frozen? ⟨w.heap.size + 1, 1, none⟩ = false ∧ w'.frozen? ⟨w.heap.size + 2, 0, none⟩ = false ∧ w'.frozen? ⟨w.heap.size + 2, 1, none⟩ = false) ∧ Hid (Three w (w.heap.size) nx A n c (w.heap.size + 1) ny B m d (w.heap.size + 2) w'))
    (first | (with_reducible exact HT.out.drew.all) | (with_reducible exact (Three.over hb (Three.get (by assumption))).all) | (with_reducible exact (Three.put1 (Three.get (by assumption)) _ _ _ _).all) | (with_reducible exact (Three.put2 (Three.get (by assumption)) _ _ _ _).all) | (with_reducible exact (Three.put3 (Three.get (by assumption)) _ _ _ _).all))
    (first
      | (go_at_call_of 34 A; refine (clean_cells CX.out (by omega) (Three.get (by assumption)).below).mono ?_; rintro e w1 ⟨rfl, hb⟩)
      | (go_at_call_of 34 B; refine (clean_cells CY.out (by omega) (Three.get (by assumption)).below).mono ?_; rintro e w1 ⟨rfl, hb⟩))
  generalize ((((w1.setCell ⟨w.heap.size, 0, none⟩ (.bool nx)).setCell ⟨w.heap.size, 1, none⟩ (.slice A n c)).setCell ⟨w.heap.size + 1, 0, none⟩ (.bool ny)).setCell ⟨w.heap.size + 1, 1, none⟩ (.slice B m d)) = W at *
  have HE : Hid (Three w w.heap.size nx A n c (w.heap.size + 1) ny B m d (w.heap.size + 2) W) := Three.get (by assumption)
  go_wp2
  go_region_held3 (fun w' => (w'.cell? ⟨w.heap.size, 0, none⟩ = some (.bool nx) ∧ w'.cell? ⟨w.heap.size, 1, none⟩ = some (.slice A n c) ∧ w'.cell? ⟨w.heap.size + 1, 0, none⟩ = some (.bool ny) ∧ w'.cell? ⟨w.heap.size + 1, 1, none⟩ = some (.slice B m d) ∧ w'.cell? ⟨w.heap.size + 2, 0, none⟩ = some (cellOf w' (w.heap.size + 2) 0) ∧ w'.cell? ⟨w.heap.size + 2, 1, none⟩ = some (cellOf w' (w.heap.size + 2) 1)) ∧ (w'.frozen? ⟨w.heap.size, 0, none⟩ = false ∧ w'.frozen? ⟨w.heap.size, 1, none⟩ = false ∧ w'.frozen? ⟨w.heap.size + 1, 0, none⟩ = false ∧ w'.frozen? ⟨w.heap.size + 1, 1, none⟩ = false ∧ w'.frozen? ⟨w.heap.size + 2, 0, none⟩ = false ∧ w'.frozen? ⟨w.heap.size + 2, 1, none⟩ = false) ∧ Hid (Three w (w.heap.size) nx A n c (w.heap.size + 1) ny B m d (w.heap.size + 2) w'))
    (first | (with_reducible exact HE.out.drew.all) | (with_reducible exact (Three.over hb (Three.get (by assumption))).all) | (with_reducible exact (Three.put1 (Three.get (by assumption)) _ _ _ _).all) | (with_reducible exact (Three.put2 (Three.get (by assumption)) _ _ _ _).all) | (with_reducible exact (Three.put3 (Three.get (by assumption)) _ _ _ _).all))
    (first
      | (go_at_call 44; refine (product_cells CX.out CY.out (by omega) (by omega) (Three.get (by assumption)).below).mono ?_; rintro e w2 ⟨A2, c2, rfl, hrow, hb⟩; have hb2 := hb)
      | (go_at_call 38; refine (signed_row _ A2 _ c2 _ _ (by omega) hrow.out).mono ?_; rintro e w3 ⟨neg3, A3, n3, c3, rfl, hint, hb⟩; have hb3 := hb))
  have T3 := (Three.over hb3 (Three.over hb2 HE.out.drew))
  obtain ⟨y3, b3, m3, d3, hr3⟩ := T3.res
  have HI := Lib.hid (T3.int3 hint.out neg3 A3 n3 c3)
  have c0 := (hr3.put neg3 A3 n3 c3).c0
  have c1 := (hr3.put neg3 A3 n3 c3).c1
  have HB := Lib.hid (T3.put3 neg3 A3 n3 c3).below
  have HSZ := Lib.hid (put2_size w3 (w.heap.size + 2) neg3 A3 n3 c3)
  go_wp2
  refine bodyPost_ret (v := .agg #[.bool neg3, .slice A3 n3 c3]) (by simp [results, Tryd.results16, go_sem, c0, c1]) rfl ⟨neg3, A3, n3, c3, rfl, ?_, HB⟩
  have h : IsInt (put2 w3 (w.heap.size + 2) neg3 A3 n3 c3) (put2 w3 (w.heap.size + 2) neg3 A3 n3 c3).heap.size (p + q) _ _ := HI.out.more (by rw [HSZ.out]; exact Nat.le_refl _) (by omega)
  rw [show sgn (!nx == ny) (val xs * val ys) = a * b from sgn_mul ZX.out ZY.out] at h
  exact h
end Go.Proofs.YtgmnpajecpjklaaDoor.wh
