/- Tables: bumped and faded, in both packages. -/
import Derived.Test.YtpikbhcjgcbdfaaSk
namespace Go.Proofs.Ytpikbhcjgcbdfaa.sc
open Go.RowKit

/-- the NaN that an addition draws -/
def nanOf (W : World) (x y : Nat) : Nat := (Question.nanBits .f64 x y).cut (W.tape W.drawn (.nanBits .f64 x y))
theorem nanOf_is (W : World) (x y : Nat) : isN (nanOf W x y) = true := by
  unfold nanOf isN rg
  generalize W.tape W.drawn (.nanBits .f64 x y) = t
  rw [decide_eq_true_eq]
  show I < (t % 2 * 2 ^ 63 + 0x7ff0000000000000 + 1 + (t / 2) % (2 ^ 52 - 1)) % 9223372036854775808
  have hI : I = 9218868437227405312 := rfl
  have e1 : (2 : Nat) ^ 63 = 9223372036854775808 := by decide
  have e2 : (2 : Nat) ^ 52 - 1 = 4503599627370495 := by decide
  rw [e1, e2, hI]
  have hr : t / 2 % 4503599627370495 < 4503599627370495 := Nat.mod_lt _ (by omega)
  generalize t / 2 % 4503599627370495 = r at *
  rcases Nat.mod_two_eq_zero_or_one t with h | h <;> rw [h] <;> omega
theorem run_add_nan {P : Program} {t : TypeId} {x y : Nat} (h : Ieee.double.add x y = none) (W : World) : (binOp .add t (.float .f64 x) (.float .f64 y)).run P W = .ok (.float .f64 (nanOf W x y)) W.drew := by
  simp [binOp, Op.floatArith, fmt_eq, h, Question.forced, nanOf]
theorem turned {P : Program} {f : FuncId} {args : Array Value} {w : World} {v : Value} (h : Calls P f args w fun e w' => e = .returned v ∧ w = w') : Calls P f args w fun e w' => e = .returned v ∧ w' = w :=
  Calls.mono h fun _ _ hh => ⟨hh.1, hh.2.symm⟩
/-- what a score comes to by a bump -/
def addK (x st : Nat) : Nat := match Ieee.double.add x st with | some z => keptW z | none => lowW
theorem addK_good (x st : Nat) : rg (addK x st) ≤ I ∧ addK x st < 18446744073709551616 := by
  unfold addK
  cases h : Ieee.double.add x st with
  | none => exact ⟨by decide, by decide⟩
  | some z => exact kept_good (add_lt h)
theorem keptNan_any (x y : Nat) (W w : World) :
    Calls Try.prog 27 #[.float .f64 (nanOf W x y)] w fun e w' => e = .returned (.float .f64 lowW) ∧ w = w' :=
  (kept_any _ w).mono fun _ _ h => ⟨h.1.trans (ret_float (by unfold keptW; rw [nanOf_is, if_pos rfl])), h.2⟩
theorem plainNan_any (x y : Nat) (W w : World) :
    Calls Try.prog 15 #[.float .f64 (nanOf W x y)] w fun e w' => e = .returned (.float .f64 lowW) ∧ w = w' :=
  (plain_any _ w).mono fun _ _ h => ⟨h.1.trans (ret_float (by unfold keptW; rw [nanOf_is, if_pos rfl])), h.2⟩
theorem kept_as {z y : Nat} (h : Hid (keptW z = y)) (w : World) :
    Calls Try.prog 27 #[.float .f64 z] w fun e w' => e = .returned (.float .f64 y) ∧ w = w' :=
  (kept_any _ w).mono fun _ _ hh => ⟨hh.1.trans (ret_float h.out), hh.2⟩
theorem plain_as {z y : Nat} (h : Hid (keptW z = y)) (w : World) :
    Calls Try.prog 15 #[.float .f64 z] w fun e w' => e = .returned (.float .f64 y) ∧ w = w' :=
  (plain_any _ w).mono fun _ _ hh => ⟨hh.1.trans (ret_float h.out), hh.2⟩
theorem upd_good {n : Nat} {L : Nat → Nat} (h : Good n L) {v x : Nat} (hx : rg x ≤ I ∧ x < 18446744073709551616) : Good n (upd L v x) := by
  intro j hj
  unfold upd
  split
  · exact hx
  · exact h j hj
/-- are the scores lowered? -/
def bumpB (y : Nat) : Bool := abvB y && !infB y
def bumpL (L : Nat → Nat) (v st : Nat) : Nat → Nat := if bumpB (addK (L v) st) then lowL (upd L v (addK (L v) st)) else upd L v (addK (L v) st)
def bumpS (L : Nat → Nat) (v st : Nat) : Nat := if bumpB (addK (L v) st) then mulW st else st
def Bumped (tt : TypeId) (w : World) (T S n : Nat) (L : Nat → Nat) (st dc v : Nat) (r : Ending) (e : Ending) (w' : World) : Prop :=
  e = r ∧ Two T S w w' ∧ IsTab w' tt T S n (bumpL L v st) (bumpS L v st) dc
theorem bumped_no {tt : TypeId} {w w' : World} {T S n st dc v : Nat} {L : Nat → Nat} {r : Ending} (hb : bumpB (addK (L v) st) = false) (ht : Two T S w w') (h : IsTab w' tt T S n (upd L v (addK (L v) st)) st dc) : Bumped tt w T S n L st dc v r r w' :=
  ⟨rfl, ht, by unfold bumpL bumpS; rw [hb]; exact h⟩
theorem bumped_yes {tt : TypeId} {w w' : World} {T S n st dc v : Nat} {L : Nat → Nat} {r : Ending} (hb : bumpB (addK (L v) st) = true) (ht : Two T S w w') (h : IsTab w' tt T S n (lowL (upd L v (addK (L v) st))) (mulW st) dc) : Bumped tt w T S n L st dc v r r w' :=
  ⟨rfl, ht, by unfold bumpL bumpS; rw [hb, if_pos rfl, if_pos rfl]; exact h⟩
theorem hasNo_any {w : World} {T S n st dc : Nat} {L : Nat → Nat} (h : Hid (IsTab w 54 T S n L st dc)) {v : Int} (hv : hasB n v = false) :
    Calls Try.prog 9 #[.pointer (some ⟨T, 0, none⟩), .int .i64 v] w fun e w' => e = .returned (.bool false) ∧ w = w' := by
  go_enter Try.func9, Try.ntmps9
  go_wp2_with (first | (go_at_call 26; refine (has_any h _).mono ?_; rintro e w' ⟨rfl, rfl⟩))
  go_ret
  exact ⟨rfl, rfl⟩
theorem pat0 {α : Type} {o : α} {t : List α} : (List.toArray (o :: t))[0]? = some o := rfl
theorem pat1 {α : Type} {a0 o : α} {t : List α} : (List.toArray (a0 :: o :: t))[1]? = some o := rfl
theorem pat2 {α : Type} {a0 a1 o : α} {t : List α} : (List.toArray (a0 :: a1 :: o :: t))[2]? = some o := rfl
theorem pat3 {α : Type} {a0 a1 a2 o : α} {t : List α} : (List.toArray (a0 :: a1 :: a2 :: o :: t))[3]? = some o := rfl
theorem pat4 {α : Type} {a0 a1 a2 a3 o : α} {t : List α} : (List.toArray (a0 :: a1 :: a2 :: a3 :: o :: t))[4]? = some o := rfl
theorem pat5 {α : Type} {a0 a1 a2 a3 a4 o : α} {t : List α} : (List.toArray (a0 :: a1 :: a2 :: a3 :: a4 :: o :: t))[5]? = some o := rfl
theorem pat6 {α : Type} {a0 a1 a2 a3 a4 a5 o : α} {t : List α} : (List.toArray (a0 :: a1 :: a2 :: a3 :: a4 :: a5 :: o :: t))[6]? = some o := rfl
theorem pat7 {α : Type} {a0 a1 a2 a3 a4 a5 a6 o : α} {t : List α} : (List.toArray (a0 :: a1 :: a2 :: a3 :: a4 :: a5 :: a6 :: o :: t))[7]? = some o := rfl
theorem pat8 {α : Type} {a0 a1 a2 a3 a4 a5 a6 a7 o : α} {t : List α} : (List.toArray (a0 :: a1 :: a2 :: a3 :: a4 :: a5 :: a6 :: a7 :: o :: t))[8]? = some o := rfl
theorem pat9 {α : Type} {a0 a1 a2 a3 a4 a5 a6 a7 a8 o : α} {t : List α} : (List.toArray (a0 :: a1 :: a2 :: a3 :: a4 :: a5 :: a6 :: a7 :: a8 :: o :: t))[9]? = some o := rfl
theorem pat10 {α : Type} {a0 a1 a2 a3 a4 a5 a6 a7 a8 a9 o : α} {t : List α} : (List.toArray (a0 :: a1 :: a2 :: a3 :: a4 :: a5 :: a6 :: a7 :: a8 :: a9 :: o :: t))[10]? = some o := rfl
theorem pat11 {α : Type} {a0 a1 a2 a3 a4 a5 a6 a7 a8 a9 a10 o : α} {t : List α} : (List.toArray (a0 :: a1 :: a2 :: a3 :: a4 :: a5 :: a6 :: a7 :: a8 :: a9 :: a10 :: o :: t))[11]? = some o := rfl
theorem pat12 {α : Type} {a0 a1 a2 a3 a4 a5 a6 a7 a8 a9 a10 a11 o : α} {t : List α} : (List.toArray (a0 :: a1 :: a2 :: a3 :: a4 :: a5 :: a6 :: a7 :: a8 :: a9 :: a10 :: a11 :: o :: t))[12]? = some o := rfl
theorem pat13 {α : Type} {a0 a1 a2 a3 a4 a5 a6 a7 a8 a9 a10 a11 a12 o : α} {t : List α} : (List.toArray (a0 :: a1 :: a2 :: a3 :: a4 :: a5 :: a6 :: a7 :: a8 :: a9 :: a10 :: a11 :: a12 :: o :: t))[13]? = some o := rfl
theorem pat14 {α : Type} {a0 a1 a2 a3 a4 a5 a6 a7 a8 a9 a10 a11 a12 a13 o : α} {t : List α} : (List.toArray (a0 :: a1 :: a2 :: a3 :: a4 :: a5 :: a6 :: a7 :: a8 :: a9 :: a10 :: a11 :: a12 :: a13 :: o :: t))[14]? = some o := rfl
theorem pat15 {α : Type} {a0 a1 a2 a3 a4 a5 a6 a7 a8 a9 a10 a11 a12 a13 a14 o : α} {t : List α} : (List.toArray (a0 :: a1 :: a2 :: a3 :: a4 :: a5 :: a6 :: a7 :: a8 :: a9 :: a10 :: a11 :: a12 :: a13 :: a14 :: o :: t))[15]? = some o := rfl
theorem pat16 {α : Type} {a0 a1 a2 a3 a4 a5 a6 a7 a8 a9 a10 a11 a12 a13 a14 a15 o : α} {t : List α} : (List.toArray (a0 :: a1 :: a2 :: a3 :: a4 :: a5 :: a6 :: a7 :: a8 :: a9 :: a10 :: a11 :: a12 :: a13 :: a14 :: a15 :: o :: t))[16]? = some o := rfl
theorem pat17 {α : Type} {a0 a1 a2 a3 a4 a5 a6 a7 a8 a9 a10 a11 a12 a13 a14 a15 a16 o : α} {t : List α} : (List.toArray (a0 :: a1 :: a2 :: a3 :: a4 :: a5 :: a6 :: a7 :: a8 :: a9 :: a10 :: a11 :: a12 :: a13 :: a14 :: a15 :: a16 :: o :: t))[17]? = some o := rfl
theorem pat18 {α : Type} {a0 a1 a2 a3 a4 a5 a6 a7 a8 a9 a10 a11 a12 a13 a14 a15 a16 a17 o : α} {t : List α} : (List.toArray (a0 :: a1 :: a2 :: a3 :: a4 :: a5 :: a6 :: a7 :: a8 :: a9 :: a10 :: a11 :: a12 :: a13 :: a14 :: a15 :: a16 :: a17 :: o :: t))[18]? = some o := rfl
theorem pat19 {α : Type} {a0 a1 a2 a3 a4 a5 a6 a7 a8 a9 a10 a11 a12 a13 a14 a15 a16 a17 a18 o : α} {t : List α} : (List.toArray (a0 :: a1 :: a2 :: a3 :: a4 :: a5 :: a6 :: a7 :: a8 :: a9 :: a10 :: a11 :: a12 :: a13 :: a14 :: a15 :: a16 :: a17 :: a18 :: o :: t))[19]? = some o := rfl
/-- worlds of a region that stores into one cell of a table's row at last -/
def Stored (w : World) (S v : Nat) (w' : World) : Prop := ∃ q u, w' = w.drewN q ∨ w' = (w.setCell ⟨S, v, none⟩ (.float .f64 u)).drewN q
theorem stored_1 {w : World} {S v : Nat} : Stored w S v w.drew := ⟨1, 0, .inl rfl⟩
theorem stored_2 {w : World} {S v : Nat} : Stored w S v w.drew.drew := ⟨2, 0, .inl rfl⟩
theorem stored_3 {w : World} {S v u : Nat} : Stored w S v (w.setCell ⟨S, v, none⟩ (.float .f64 u)).drew.drew := ⟨2, u, .inr rfl⟩
theorem stored_facts {w w' : World} {tt : TypeId} {T S n st dc v : Nat} {L : Nat → Nat} (h : IsTab w tt T S n L st dc) (hs : Stored w S v w') : w'.cell? ⟨T, 0, none⟩ = some (.slice (some ⟨S, 0, none⟩) n n) ∧ w'.cell? ⟨T, 1, none⟩ = some (.float .f64 st) ∧ w'.frozen? ⟨S, v, none⟩ = false := by
  obtain ⟨q, u, rfl | rfl⟩ := hs
  · exact ⟨h.c0, h.c1, h.fs v⟩
  · have h2 := h.setS v u
    exact ⟨h2.c0, h2.c1, h2.fs v⟩
set_option maxRecDepth 100000 in
set_option maxHeartbeats 4000000 in
theorem bump_any {w : World} {T S n st dc : Nat} {L : Nat → Nat} (h : Hid (IsTab w 54 T S n L st dc)) (hg : Hid (Good n L)) (hs : Hid (rg st ≤ I)) (hn : n ≤ 1048576) {v : Nat} (hv : v < n) :
    Calls Try.prog 9 #[.pointer (some ⟨T, 0, none⟩), .int .i64 (v : Int)] w (Bumped 54 w T S n L st dc v (.returned (.bool true))) := by
  have c0 := h.out.c0
  have c1 := h.out.c1
  have cv := h.out.cs hv
  have fv := h.out.fs v
  have hTS := h.out.2.2
  have hST := Ne.symm hTS
  have hh : hasB n (v : Int) = true := by rw [hasB_nat]; simpa using hv
  obtain ⟨y, hy⟩ : ∃ y, addK (L v) st = y := ⟨_, rfl⟩
  have HG : Hid (Good n (upd L v y)) := Lib.hid (upd_good hg.out (by rw [← hy]; exact addK_good _ _))
  have HY1 : Hid (y < 18446744073709551616) := Lib.hid (by rw [← hy]; exact (addK_good _ _).2)
  have HY := Lib.hid hy
  clear hy
  have hadd : (∃ z, Ieee.double.add (L v) st = some z ∧ keptW z = y) ∨ (Ieee.double.add (L v) st = none ∧ lowW = y) := by
    have := HY.out
    unfold addK at this
    cases e : Ieee.double.add (L v) st with
    | none => rw [e] at this; exact .inr ⟨rfl, this⟩
    | some z => rw [e] at this; exact .inl ⟨z, rfl, this⟩
  rcases hadd with ⟨z, ha, hk⟩ | ⟨ha, rfl⟩
  · have HK := Lib.hid hk
    clear hk
    have hrun := fun W => @run_float_arith Try.prog W .add 22 .f64 (L v) st z ha
    clear ha
    cases ha : abvB y
    · have HB : Hid (bumpB y = false) := Lib.hid (by unfold bumpB; rw [ha]; rfl)
      go_enter Try.func9, Try.ntmps9
      go_wp2_with (first | (go_at_call 26; refine (has_any h _).mono ?_; rintro e w' ⟨rfl, rfl⟩))
      refine wp_region_still_tail 19 (by kernel_rfl) (by kernel_rfl) ?_
      simp only [List.take_succ_cons, List.take_zero, List.drop_succ_cons, List.drop_zero]
      show wpStill _ _ w.drew (fun a' => wpList _ _ _ _ a' w.drew) _ _
      repeat still_step
      still_call (turned (kept_as HK _))
      repeat still_step
      refine wpStill_nil ?_
      go_wp2_with (first | (go_at_call 28; refine (above_any _ _).mono ?_; rintro e w' ⟨rfl, rfl⟩))
      go_ret
      exact bumped_no (by rw [HY.out]; exact HB.out) (((Two.refl _ _ _).drew).set2 _ _) (by rw [HY.out]; exact (h.out.setS v y))
    · cases hi : infB y
      · have HB : Hid (bumpB y = true) := Lib.hid (by unfold bumpB; rw [ha, hi]; rfl)
        go_enter Try.func9, Try.ntmps9
        go_wp2_with (first | (go_at_call 26; refine (has_any h _).mono ?_; rintro e w' ⟨rfl, rfl⟩))
        refine wp_region_still_tail 19 (by kernel_rfl) (by kernel_rfl) ?_
        simp only [List.take_succ_cons, List.take_zero, List.drop_succ_cons, List.drop_zero]
        show wpStill _ _ w.drew (fun a' => wpList _ _ _ _ a' w.drew) _ _
        repeat still_step
        still_call (turned (kept_as HK _))
        repeat still_step
        refine wpStill_nil ?_
        go_wp2_with (first | (go_at_call 28; refine (above_any _ _).mono ?_; rintro e w' ⟨rfl, rfl⟩) | (go_at_call 29; refine (isinf_any ha _).mono ?_; rintro e w' ⟨rfl, rfl⟩) | (go_at_call 30; refine (lower_any (Lib.hid (h.out.setS v y).drew) HG hs hn).mono ?_; rintro e w5 ⟨rfl, hw, ht⟩; have HW := Lib.hid hw; have HT := Lib.hid ht; clear hw ht))
        go_ret
        exact bumped_yes (by rw [HY.out]; exact HB.out) ((((Two.refl _ _ _).drew).set2 _ _).trans HW.out) (by rw [HY.out]; exact HT.out)
      · have HB : Hid (bumpB y = false) := Lib.hid (by unfold bumpB; rw [ha, hi]; rfl)
        go_enter Try.func9, Try.ntmps9
        go_wp2_with (first | (go_at_call 26; refine (has_any h _).mono ?_; rintro e w' ⟨rfl, rfl⟩))
        refine wp_region_still_tail 19 (by kernel_rfl) (by kernel_rfl) ?_
        simp only [List.take_succ_cons, List.take_zero, List.drop_succ_cons, List.drop_zero]
        show wpStill _ _ w.drew (fun a' => wpList _ _ _ _ a' w.drew) _ _
        repeat still_step
        still_call (turned (kept_as HK _))
        repeat still_step
        refine wpStill_nil ?_
        go_wp2_with (first | (go_at_call 28; refine (above_any _ _).mono ?_; rintro e w' ⟨rfl, rfl⟩) | (go_at_call 29; refine (isinf_any ha _).mono ?_; rintro e w' ⟨rfl, rfl⟩))
        go_ret
        exact bumped_no (by rw [HY.out]; exact HB.out) (((Two.refl _ _ _).drew).set2 _ _) (by rw [HY.out]; exact (h.out.setS v y))
  · have HB : Hid (bumpB lowW = false) := Lib.hid (by decide)
    have ha0 : abvB lowW = false := by decide
    have hrun := fun W => @run_add_nan Try.prog 22 _ _ ha W
    clear ha
    have K0 : Hid (∀ w', Stored w S v w' → (w'.cell? ⟨T, 0, none⟩ = some (.slice (some ⟨S, 0, none⟩) n n) ∧ w'.cell? ⟨T, 1, none⟩ = some (.float .f64 st) ∧ w'.frozen? ⟨S, v, none⟩ = false)) := Lib.hid (fun w' hs => stored_facts h.out hs)
    go_enter Try.func9, Try.ntmps9
    go_wp2_with (first | (go_at_call 26; refine (has_any h _).mono ?_; rintro e w' ⟨rfl, rfl⟩))
    refine wp_region_held_drew (S := (fun w' => w'.cell? ⟨T, 0, none⟩ = some (.slice (some ⟨S, 0, none⟩) n n) ∧ w'.cell? ⟨T, 1, none⟩ = some (.float .f64 st) ∧ w'.frozen? ⟨S, v, none⟩ = false)) (by kernel_rfl) (K0.out _ stored_1) (fun hHeld => ?_)
    refine wpAnyH_take (i := 0) (v := ?_) pat0 (by kernel_rfl) (by kernel_rfl) (by kernel_rfl) (fun _ _ _ h => h) (Or.inl ⟨by rfl, ?_⟩) (by assumption) ?_
    rotate_left
    · (intro w hSw; (try dsimp only at hSw); go_simp; (try with_reducible rfl))
    (try simp only [Act.put, List.setIfInBounds_toArray, List.set_cons_zero, List.set_cons_succ])
    refine wpAnyH_take (i := 1) (v := ?_) pat1 (by kernel_rfl) (by kernel_rfl) (by kernel_rfl) (fun _ _ _ h => h) (Or.inl ⟨by rfl, ?_⟩) (by assumption) ?_
    rotate_left
    · (intro w hSw; (try dsimp only at hSw); go_simp; (try with_reducible rfl))
    (try simp only [Act.put, List.setIfInBounds_toArray, List.set_cons_zero, List.set_cons_succ])
    refine wpAnyH_take (i := 2) (v := ?_) pat2 (by kernel_rfl) (by kernel_rfl) (by kernel_rfl) (fun _ _ _ h => h) (Or.inl ⟨by rfl, ?_⟩) (by assumption) ?_
    rotate_left
    · (intro w hSw; (try dsimp only at hSw); go_simp; (try with_reducible rfl))
    (try simp only [Act.put, List.setIfInBounds_toArray, List.set_cons_zero, List.set_cons_succ])
    refine wpAnyH_take (i := 3) (v := ?_) pat3 (by kernel_rfl) (by kernel_rfl) (by kernel_rfl) (fun _ _ _ h => h) (Or.inl ⟨by rfl, ?_⟩) (by assumption) ?_
    rotate_left
    · (intro w hSw; (try dsimp only at hSw); go_simp; (try with_reducible rfl))
    (try simp only [Act.put, List.setIfInBounds_toArray, List.set_cons_zero, List.set_cons_succ])
    refine wpAnyH_take (i := 4) (v := ?_) pat4 (by kernel_rfl) (by kernel_rfl) (by kernel_rfl) (fun _ _ _ h => h) (Or.inl ⟨by rfl, ?_⟩) (by assumption) ?_
    rotate_left
    · (intro w hSw; (try dsimp only at hSw); go_simp; (try with_reducible rfl))
    (try simp only [Act.put, List.setIfInBounds_toArray, List.set_cons_zero, List.set_cons_succ])
    refine wpAnyH_take (i := 5) (v := ?_) pat5 (by kernel_rfl) (by kernel_rfl) (by kernel_rfl) (fun _ _ _ h => h) (Or.inl ⟨by rfl, ?_⟩) (by assumption) ?_
    rotate_left
    · (intro w hSw; (try dsimp only at hSw); go_simp; (try with_reducible rfl))
    (try simp only [Act.put, List.setIfInBounds_toArray, List.set_cons_zero, List.set_cons_succ])
    refine wpAnyH_take (i := 6) (v := ?_) pat6 (by kernel_rfl) (by kernel_rfl) (by kernel_rfl) (fun _ _ _ h => h) (Or.inl ⟨by rfl, ?_⟩) (by assumption) ?_
    rotate_left
    · (intro w hSw; (try dsimp only at hSw); go_simp; (try with_reducible rfl))
    (try simp only [Act.put, List.setIfInBounds_toArray, List.set_cons_zero, List.set_cons_succ])
    refine wpAnyH_take (i := 7) (v := ?_) pat7 (by kernel_rfl) (by kernel_rfl) (by kernel_rfl) (fun _ _ _ h => h) (Or.inl ⟨by rfl, ?_⟩) (by assumption) ?_
    rotate_left
    · (intro w hSw; (try dsimp only at hSw); go_simp; (try with_reducible rfl))
    (try simp only [Act.put, List.setIfInBounds_toArray, List.set_cons_zero, List.set_cons_succ])
    refine wpAnyH_take (i := 8) (v := ?_) pat8 (by kernel_rfl) (by kernel_rfl) (by kernel_rfl) (fun _ _ _ h => h) (Or.inl ⟨by rfl, ?_⟩) (by assumption) ?_
    rotate_left
    · (intro w hSw; (try dsimp only at hSw); go_simp; (try with_reducible rfl))
    (try simp only [Act.put, List.setIfInBounds_toArray, List.set_cons_zero, List.set_cons_succ])
    refine wpAnyH_take (i := 9) (v := ?_) pat9 (by kernel_rfl) (by kernel_rfl) (by kernel_rfl) (fun _ _ _ h => h) (Or.inl ⟨by rfl, ?_⟩) (by assumption) ?_
    rotate_left
    · (intro w hSw; (try dsimp only at hSw); go_simp; (try with_reducible rfl))
    (try simp only [Act.put, List.setIfInBounds_toArray, List.set_cons_zero, List.set_cons_succ])
    refine wpAnyH_take (i := 10) (v := ?_) pat10 (by kernel_rfl) (by kernel_rfl) (by kernel_rfl) (fun _ _ _ h => h) (Or.inl ⟨by rfl, ?_⟩) (by assumption) ?_
    rotate_left
    · (intro w hSw; (try dsimp only at hSw); go_simp; (try with_reducible rfl))
    (try simp only [Act.put, List.setIfInBounds_toArray, List.set_cons_zero, List.set_cons_succ])
    refine wpAnyH_take (i := 12) (v := ?_) pat12 (by kernel_rfl) (by kernel_rfl) (by kernel_rfl) (fun _ _ _ h => h) (Or.inl ⟨by rfl, ?_⟩) (by assumption) ?_
    rotate_left
    · (intro w hSw; (try dsimp only at hSw); go_simp; (try with_reducible rfl))
    (try simp only [Act.put, List.setIfInBounds_toArray, List.set_cons_zero, List.set_cons_succ])
    refine wpAnyH_take (i := 13) (v := ?_) pat13 (by kernel_rfl) (by kernel_rfl) (by kernel_rfl) (fun _ _ _ h => h) (Or.inl ⟨by rfl, ?_⟩) (by assumption) ?_
    rotate_left
    · (intro w hSw; (try dsimp only at hSw); go_simp; (try with_reducible rfl))
    (try simp only [Act.put, List.setIfInBounds_toArray, List.set_cons_zero, List.set_cons_succ])
    refine wpAnyH_take (i := 14) (v := ?_) pat14 (by kernel_rfl) (by kernel_rfl) (by kernel_rfl) (fun _ _ _ h => h) (Or.inl ⟨by rfl, ?_⟩) (by assumption) ?_
    rotate_left
    · (intro w hSw; (try dsimp only at hSw); go_simp; (try with_reducible rfl))
    (try simp only [Act.put, List.setIfInBounds_toArray, List.set_cons_zero, List.set_cons_succ])
    refine wpAnyH_take (i := 15) (v := ?_) pat15 (by kernel_rfl) (by kernel_rfl) (by kernel_rfl) (fun _ _ _ h => h) (Or.inl ⟨by rfl, ?_⟩) (by assumption) ?_
    rotate_left
    · (intro w hSw; (try dsimp only at hSw); go_simp; (try with_reducible rfl))
    (try simp only [Act.put, List.setIfInBounds_toArray, List.set_cons_zero, List.set_cons_succ])
    refine wpAnyH_ready (rs := [11]) (by kernel_rfl) (by simp) ?_
    refine AllReadyH.cons pat11 (fun K hK => ?_) AllReadyH.nil
    go_simp
    refine hK.out _ _ (K0.out _ stored_1) (fun hHeld2 => ?_)
    clear hK K hHeld
    have hHeld := hHeld2
    clear hHeld2
    (try simp only [Act.put, List.setIfInBounds_toArray, List.set_cons_zero, List.set_cons_succ])
    refine wpAnyH_ready (rs := [16]) (by kernel_rfl) (by simp) ?_
    refine AllReadyH.cons pat16 (fun K hK => ?_) AllReadyH.nil
    go_simp
    refine hK.out _ _ (K0.out _ stored_2) (fun hHeld2 => ?_)
    clear hK K hHeld
    have hHeld := hHeld2
    clear hHeld2
    (try simp only [Act.put, List.setIfInBounds_toArray, List.set_cons_zero, List.set_cons_succ])
    refine wpAnyH_ready (rs := [17]) (by kernel_rfl) (by simp) ?_
    refine AllReadyH.cons pat17 (fun K hK => ?_) AllReadyH.nil
    go_simp
    (go_at_call 27; refine (keptNan_any _ _ _ _).mono ?_; rintro e w1 ⟨rfl, rfl⟩)
    refine hK.out _ _ (K0.out _ stored_2) (fun hHeld2 => ?_)
    clear hK K hHeld
    have hHeld := hHeld2
    clear hHeld2
    (try simp only [Act.put, List.setIfInBounds_toArray, List.set_cons_zero, List.set_cons_succ])
    refine wpAnyH_take (i := 18) (v := ?_) pat18 (by kernel_rfl) (by kernel_rfl) (by kernel_rfl) (fun _ _ _ h => h) (Or.inl ⟨by rfl, ?_⟩) (by assumption) ?_
    rotate_left
    · (intro w hSw; (try dsimp only at hSw); go_simp; (try with_reducible rfl))
    (try simp only [Act.put, List.setIfInBounds_toArray, List.set_cons_zero, List.set_cons_succ])
    refine wpAnyH_ready (rs := [19]) (by kernel_rfl) (by simp) ?_
    refine AllReadyH.cons pat19 (fun K hK => ?_) AllReadyH.nil
    go_simp
    refine hK.out _ _ (K0.out _ stored_3) (fun hHeld2 => ?_)
    clear hK K hHeld
    have hHeld := hHeld2
    clear hHeld2
    (try simp only [Act.put, List.setIfInBounds_toArray, List.set_cons_zero, List.set_cons_succ])
    refine wpAnyH_done (by kernel_rfl) ?_ _
    go_wp2_with (first | (go_at_call 28; refine (above_any _ _).mono ?_; rintro e w' ⟨rfl, rfl⟩))
    go_ret
    exact bumped_no (by rw [HY.out]; exact HB.out) (((Two.refl _ _ _).set2 _ _).drew.drew) (by rw [HY.out]; exact (h.out.setS v lowW))
end Go.Proofs.Ytpikbhcjgcbdfaa.sc
