/- Package whole: Cmp, Add, Neg, Mul. -/
import Derived.Test.YtgmnpajecpjklaaDoorProd
namespace Go.Proofs.YtgmnpajecpjklaaDoor.wh
open Go.RowKit

/-- two variables of type api.Int, in a world that has kept what was there as the call began -/
structure Two (w : World) (g : Nat) (x : Bool) (a : Option Addr) (n c : Nat) (g' : Nat) (x' : Bool) (a' : Option Addr) (n' c' : Nat) (w' : World) : Prop where
  below : Below w.heap.size w w'
  one : Box w' g x a n c
  two : Box w' g' x' a' n' c'
  le : w.heap.size ≤ g ∧ w.heap.size ≤ g' ∧ g ≠ g'
section
variable {w w' w1 : World} {g g' n n' c c' : Nat} {x x' : Bool} {a a' : Option Addr}
theorem Two.all (h : Two w g x a n c g' x' a' n' c' w') : (w'.cell? ⟨g, 0, none⟩ = some (.bool x) ∧ w'.cell? ⟨g, 1, none⟩ = some (.slice a n c) ∧ w'.cell? ⟨g', 0, none⟩ = some (.bool x') ∧ w'.cell? ⟨g', 1, none⟩ = some (.slice a' n' c')) ∧
    (w'.frozen? ⟨g, 0, none⟩ = false ∧ w'.frozen? ⟨g, 1, none⟩ = false ∧ w'.frozen? ⟨g', 0, none⟩ = false ∧ w'.frozen? ⟨g', 1, none⟩ = false) ∧ Hid (Two w g x a n c g' x' a' n' c' w') :=
  ⟨⟨h.one.c0, h.one.c1, h.two.c0, h.two.c1⟩, ⟨h.one.f0, h.one.f1, h.two.f0, h.two.f1⟩, h⟩
theorem Two.get {P Q : Prop} (h : P ∧ Q ∧ Hid (Two w g x a n c g' x' a' n' c' w')) : Two w g x a n c g' x' a' n' c' w' := h.2.2
theorem Two.over (hb : Below w'.heap.size w' w1) (h : Two w g x a n c g' x' a' n' c' w') : Two w g x a n c g' x' a' n' c' w1 :=
  ⟨h.below.trans (hb.mono h.below.size), h.one.over hb, h.two.over hb, h.le⟩
theorem Two.put1 (h : Two w g x a n c g' x' a' n' c' w') : Two w g x a n c g' x' a' n' c' (put2 w' g x a n c) :=
  ⟨below_put h.below h.le.1 _ _ _ _, h.one.put _ _ _ _, h.two.far (fun e => h.le.2.2 e.symm) _ _ _ _, h.le⟩
theorem Two.put2 (h : Two w g x a n c g' x' a' n' c' w') : Two w g x a n c g' x' a' n' c' (wh.put2 w' g' x' a' n' c') :=
  ⟨below_put h.below h.le.2.1 _ _ _ _, h.one.far h.le.2.2 _ _ _ _, h.two.put _ _ _ _, h.le⟩
theorem Two.drew (h : Two w g x a n c g' x' a' n' c' w') : Two w g x a n c g' x' a' n' c' w'.drew := ⟨h.below.drew, h.one.drew, h.two.drew, h.le⟩
end

theorem cmpN_zval (nx ny : Bool) (xs ys : List Nat) (hx : rightB nx xs = true) (hy : rightB ny ys = true) :
    cmpZ (zval nx xs) (zval ny ys) = (if nx && ny then cmpN (val ys) (val xs) else if nx then -1 else if ny then 1 else cmpN (val xs) (val ys)) := by
  have pos : ∀ {zs : List Nat}, rightB true zs = true → 0 < val zs := fun {zs} h => by
    have hn : zs ≠ [] := fun e => by subst e; simp [rightB] at h
    have h1 := top_ge (right_top h) hn
    have h2 : 0 < 1000000000 ^ (zs.length - 1) := Nat.pow_pos (by omega)
    omega
  cases nx with
  | true =>
    have h1 := pos hx
    cases ny with
    | true =>
      simp only [zval, if_true, Bool.and_true, cmpZ, cmpN]
      repeat' split
      all_goals first | rfl | omega
    | false =>
      simp [zval, cmpZ]
      omega
  | false =>
    cases ny with
    | true =>
      have h1 := pos hy
      simp [zval, cmpZ]
      repeat' split
      all_goals first | rfl | omega
    | false =>
      simp [zval, cmpZ, cmpN]

set_option maxRecDepth 100000 in
set_option maxHeartbeats 1000000 in
theorem cmp_any (v u : Value) (p q : Nat) (a b : Int) (w : World) (hp : p ≤ 1000) (hq : q ≤ 1000) (hx : IsInt w w.heap.size p v a) (hy : IsInt w w.heap.size q u b) :
    Calls Tryd.prog 22 #[v, u] w fun e w' => e = .returned (.int .i64 (cmpZ a b)) ∧ Below w.heap.size w w' := by
  obtain ⟨nx, A, n, c, xs, rfl, hlx, hrx, hnx, hcx, hRx, hzx⟩ := hx
  obtain ⟨ny, B, m, d, ys, rfl, hly, hry, hny, hcy, hRy, hzy⟩ := hy
  have HLX := Lib.hid hlx
  have HLY := Lib.hid hly
  have HRX := Lib.hid hrx
  have HRY := Lib.hid hry
  have HX := Lib.hid hRx
  have HY := Lib.hid hRy
  have HZ : Hid (cmpZ a b = (if nx && ny then cmpN (val ys) (val xs) else if nx then -1 else if ny then 1 else cmpN (val xs) (val ys))) := by
    show _ = _
    rw [← hzx, ← hzy]
    exact cmpN_zval nx ny xs ys hRx hRy
  have HN : Hid (xs.length ≤ maxLen ∧ ys.length ≤ maxLen) := by constructor <;> unfold maxLen <;> omega
  clear hlx hly hrx hry hRx hRy hzx hzy
  have HT : Hid (Two w w.heap.size nx A n c (w.heap.size + 1) ny B m d ((w.alloc (.cells #[.bool nx, .slice A n c] 24)).alloc (.cells #[.bool ny, .slice B m d] 24))) :=
    ⟨((Below.refl _ _).alloc (Nat.le_refl _) _).alloc (by simp) _, (Box.new _ _ _ _ _).alloc _, by have h := Box.new (w.alloc (.cells #[.bool nx, .slice A n c] 24)) ny B m d; rwa [World.size_alloc] at h, Nat.le_refl _, by omega, by omega⟩
  go_enter Tryd.func22, Tryd.ntmps22
  go_wp2
  go_region_held3 (fun w' => (w'.cell? ⟨w.heap.size, 0, none⟩ = some (.bool nx) ∧ w'.cell? ⟨w.heap.size, 1, none⟩ = some (.slice A n c) ∧ w'.cell? ⟨w.heap.size + 1, 0, none⟩ = some (.bool ny) ∧ w'.cell? ⟨w.heap.size + 1, 1, none⟩ = some (.slice B m d)) ∧
    (w'.frozen? ⟨w.heap.size, 0, none⟩ = false ∧ w'.frozen? ⟨w.heap.size, 1, none⟩ = false ∧ w'.frozen? ⟨w.heap.size + 1, 0, none⟩ = false ∧ w'.frozen? ⟨w.heap.size + 1, 1, none⟩ = false) ∧ Hid (Two w w.heap.size nx A n c (w.heap.size + 1) ny B m d w'))
    (first | (with_reducible exact HT.out.drew.all) | (with_reducible exact (Two.over hb (Two.get (by assumption))).all) | (with_reducible exact (Two.put1 (Two.get (by assumption))).all) | (with_reducible exact (Two.put2 (Two.get (by assumption))).all))
    (first
      | (go_at_call_of 34 A; refine (clean_any nx A n c xs _ HLX.out HN.out.1 (HRX.out.below (Two.get (by assumption)).below |>.more (Two.get (by assumption)).below.size) HX.out).mono ?_; rintro e w1 ⟨rfl, hb⟩)
      | (go_at_call_of 34 B; refine (clean_any ny B m d ys _ HLY.out HN.out.2 (HRY.out.below (Two.get (by assumption)).below |>.more (Two.get (by assumption)).below.size) HY.out).mono ?_; rintro e w1 ⟨rfl, hb⟩))
  generalize ((((w1.setCell ⟨w.heap.size, 0, none⟩ (.bool nx)).setCell ⟨w.heap.size, 1, none⟩ (.slice A n c)).setCell ⟨w.heap.size + 1, 0, none⟩ (.bool ny)).setCell ⟨w.heap.size + 1, 1, none⟩ (.slice B m d)) = W at *
  have HE : Hid (Two w w.heap.size nx A n c (w.heap.size + 1) ny B m d W) := Two.get (by assumption)
  have hbe := HE.out.below
  have HXW : Hid (Rd W W.heap.size A xs) := (HRX.out.below hbe).more hbe.size
  have HYW : Hid (Rd W W.heap.size B ys) := (HRY.out.below hbe).more hbe.size
  cases nx with
  | true =>
    cases ny with
    | true =>
      go_wp2_with fail
      refine (compare_any B A m n d c ys xs W HLY.out HLX.out HN.out.2 HYW.out HXW.out (right_dig HY.out) (right_dig HX.out) (right_top HY.out) (right_top HX.out)).mono ?_
      rintro e w2 ⟨rfl, hb2⟩
      go_wp2
      go_ret
      exact ⟨ret_int (by rw [HZ.out]; rfl), hbe.trans (hb2.mono hbe.size)⟩
    | false =>
      go_wp2
      go_ret
      exact ⟨ret_int (by rw [HZ.out]; rfl), hbe⟩
  | false =>
    cases ny with
    | true =>
      go_wp2
      go_ret
      exact ⟨ret_int (by rw [HZ.out]; rfl), hbe⟩
    | false =>
      go_wp2_with fail
      refine (compare_any A B n m c d xs ys W HLX.out HLY.out HN.out.1 HXW.out HYW.out (right_dig HX.out) (right_dig HY.out) (right_top HX.out) (right_top HY.out)).mono ?_
      rintro e w2 ⟨rfl, hb2⟩
      go_wp2
      go_ret
      exact ⟨ret_int (by rw [HZ.out]; rfl), hbe.trans (hb2.mono hbe.size)⟩
end Go.Proofs.YtgmnpajecpjklaaDoor.wh
