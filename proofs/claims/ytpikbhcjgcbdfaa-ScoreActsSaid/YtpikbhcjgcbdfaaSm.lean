/- The document's Bump; Fade of both packages. -/
import Derived.Test.YtpikbhcjgcbdfaaSl
namespace Go.Proofs.Ytpikbhcjgcbdfaa.sc
open Go.RowKit

set_option maxRecDepth 100000 in
set_option maxHeartbeats 4000000 in
theorem refBump_any {w : World} {T S n st dc : Nat} {L : Nat → Nat} (h : Hid (IsTab w 35 T S n L st dc)) (hg : Hid (Good n L)) (hs : Hid (rg st ≤ I)) (hn : n ≤ 1048576) {v : Nat} (hv : v < n) :
    Calls Try.prog 10 #[.pointer (some ⟨T, 0, none⟩), .int .i64 (v : Int)] w (Bumped 35 w T S n L st dc v (.returned (.tuple #[]))) := by
  have c0 := h.out.c0
  have c1 := h.out.c1
  have cv := h.out.cs hv
  have fv := h.out.fs v
  have hTS := h.out.2.2
  have hST := Ne.symm hTS
  have hh : hasB n (v : Int) = true := by rw [hasB_nat]; simpa using hv
  obtain ⟨y, hy⟩ : ∃ y, addK (L v) st = y := ⟨_, rfl⟩
  have HG : Hid (Good n (upd L v y)) := Lib.hid (upd_good hg.out (by rw [← hy]; exact addK_good _ _))
  have HY1 : Hid (y < 18446744073709551616) := Lib.hid (by rw [← hy]; exact (addK_good _ _).2)
  have HY := Lib.hid hy
  clear hy
  have hadd : (∃ z, Ieee.double.add (L v) st = some z ∧ keptW z = y) ∨ (Ieee.double.add (L v) st = none ∧ lowW = y) := by
    have := HY.out
    unfold addK at this
    cases e : Ieee.double.add (L v) st with
    | none => rw [e] at this; exact .inr ⟨rfl, this⟩
    | some z => rw [e] at this; exact .inl ⟨z, rfl, this⟩
  rcases hadd with ⟨z, ha, hk⟩ | ⟨ha, rfl⟩
  · have HK := Lib.hid hk
    clear hk
    have hrun := fun W => @run_float_arith Try.prog W .add 22 .f64 (L v) st z ha
    clear ha
    cases ha : abvB y
    · have HB : Hid (bumpB y = false) := Lib.hid (by unfold bumpB; rw [ha]; rfl)
      have hgt : (FloatKind.f64.format.order y 6103021453049119613 == some Ordering.gt) = false := ha
      go_enter Try.func10, Try.ntmps10
      go_wp2_with fail
      go_quiet ((go_at_call 15; exact still (plain_as HK _)))
      go_wp2_with fail
      go_end0
      exact bumped_no (by rw [HY.out]; exact HB.out) (((Two.refl _ _ _).drewN _).set2 _ _) (by rw [HY.out]; exact (h.out.setS v y))
    · cases hi : infB y
      · have HB : Hid (bumpB y = true) := Lib.hid (by unfold bumpB; rw [ha, hi]; rfl)
        have hgt : (FloatKind.f64.format.order y 6103021453049119613 == some Ordering.gt) = true := ha
        go_enter Try.func10, Try.ntmps10
        go_wp2_with fail
        go_quiet ((go_at_call 15; exact still (plain_as HK _)))
        go_wp2_with (first | (go_at_call 31; refine (refInf_any HY1.out _).mono ?_; rintro e w' ⟨rfl, rfl⟩) | (go_at_call 32; refine (refLower_any (Lib.hid ((h.out.setS v y).drewN _)) HG hs hn).mono ?_; rintro e w5 ⟨rfl, hw, ht⟩; have HW := Lib.hid hw; have HT := Lib.hid ht; clear hw ht))
        go_end0
        exact bumped_yes (by rw [HY.out]; exact HB.out) ((((Two.refl _ _ _).drewN _).set2 _ _).trans HW.out) (by rw [HY.out]; exact HT.out)
      · have HB : Hid (bumpB y = false) := Lib.hid (by unfold bumpB; rw [ha, hi]; rfl)
        have hgt : (FloatKind.f64.format.order y 6103021453049119613 == some Ordering.gt) = true := ha
        go_enter Try.func10, Try.ntmps10
        go_wp2_with fail
        go_quiet ((go_at_call 15; exact still (plain_as HK _)))
        go_wp2_with (first | (go_at_call 31; refine (refInf_any HY1.out _).mono ?_; rintro e w' ⟨rfl, rfl⟩))
        go_end0
        exact bumped_no (by rw [HY.out]; exact HB.out) (((Two.refl _ _ _).drewN _).set2 _ _) (by rw [HY.out]; exact (h.out.setS v y))
  · have HB : Hid (bumpB lowW = false) := Lib.hid (by decide)
    have ha0 : abvB lowW = false := by decide
    have hgt : (FloatKind.f64.format.order lowW 6103021453049119613 == some Ordering.gt) = false := ha0
    have hrun := fun W => @run_add_nan Try.prog 22 _ _ ha W
    clear ha
    have K0 : Hid (∀ w', Stored w S v w' → (w'.cell? ⟨T, 0, none⟩ = some (.slice (some ⟨S, 0, none⟩) n n) ∧ w'.cell? ⟨T, 1, none⟩ = some (.float .f64 st) ∧ w'.frozen? ⟨S, v, none⟩ = false)) := Lib.hid (fun w' hs => stored_facts h.out hs)
    go_enter Try.func10, Try.ntmps10
    go_wp2_with fail
    refine wp_region_held_drew (S := (fun w' => w'.cell? ⟨T, 0, none⟩ = some (.slice (some ⟨S, 0, none⟩) n n) ∧ w'.cell? ⟨T, 1, none⟩ = some (.float .f64 st) ∧ w'.frozen? ⟨S, v, none⟩ = false)) (by kernel_rfl) (K0.out _ stored_1) (fun hHeld => ?_)
    refine wpAnyH_take (i := 0) (v := ?_) pat0 (by kernel_rfl) (by kernel_rfl) (by kernel_rfl) (fun _ _ _ h => h) (Or.inl ⟨by rfl, ?_⟩) (by assumption) ?_
    rotate_left
    · (intro w hSw; (try dsimp only at hSw); go_simp; (try with_reducible rfl))
    (try simp only [Act.put, List.setIfInBounds_toArray, List.set_cons_zero, List.set_cons_succ])
    refine wpAnyH_take (i := 1) (v := ?_) pat1 (by kernel_rfl) (by kernel_rfl) (by kernel_rfl) (fun _ _ _ h => h) (Or.inl ⟨by rfl, ?_⟩) (by assumption) ?_
    rotate_left
    · (intro w hSw; (try dsimp only at hSw); go_simp; (try with_reducible rfl))
    (try simp only [Act.put, List.setIfInBounds_toArray, List.set_cons_zero, List.set_cons_succ])
    refine wpAnyH_take (i := 2) (v := ?_) pat2 (by kernel_rfl) (by kernel_rfl) (by kernel_rfl) (fun _ _ _ h => h) (Or.inl ⟨by rfl, ?_⟩) (by assumption) ?_
    rotate_left
    · (intro w hSw; (try dsimp only at hSw); go_simp; (try with_reducible rfl))
    (try simp only [Act.put, List.setIfInBounds_toArray, List.set_cons_zero, List.set_cons_succ])
    refine wpAnyH_take (i := 3) (v := ?_) pat3 (by kernel_rfl) (by kernel_rfl) (by kernel_rfl) (fun _ _ _ h => h) (Or.inl ⟨by rfl, ?_⟩) (by assumption) ?_
    rotate_left
    · (intro w hSw; (try dsimp only at hSw); go_simp; (try with_reducible rfl))
    (try simp only [Act.put, List.setIfInBounds_toArray, List.set_cons_zero, List.set_cons_succ])
    refine wpAnyH_take (i := 4) (v := ?_) pat4 (by kernel_rfl) (by kernel_rfl) (by kernel_rfl) (fun _ _ _ h => h) (Or.inl ⟨by rfl, ?_⟩) (by assumption) ?_
    rotate_left
    · (intro w hSw; (try dsimp only at hSw); go_simp; (try with_reducible rfl))
    (try simp only [Act.put, List.setIfInBounds_toArray, List.set_cons_zero, List.set_cons_succ])
    refine wpAnyH_take (i := 5) (v := ?_) pat5 (by kernel_rfl) (by kernel_rfl) (by kernel_rfl) (fun _ _ _ h => h) (Or.inl ⟨by rfl, ?_⟩) (by assumption) ?_
    rotate_left
    · (intro w hSw; (try dsimp only at hSw); go_simp; (try with_reducible rfl))
    (try simp only [Act.put, List.setIfInBounds_toArray, List.set_cons_zero, List.set_cons_succ])
    refine wpAnyH_take (i := 7) (v := ?_) pat7 (by kernel_rfl) (by kernel_rfl) (by kernel_rfl) (fun _ _ _ h => h) (Or.inl ⟨by rfl, ?_⟩) (by assumption) ?_
    rotate_left
    · (intro w hSw; (try dsimp only at hSw); go_simp; (try with_reducible rfl))
    (try simp only [Act.put, List.setIfInBounds_toArray, List.set_cons_zero, List.set_cons_succ])
    refine wpAnyH_take (i := 8) (v := ?_) pat8 (by kernel_rfl) (by kernel_rfl) (by kernel_rfl) (fun _ _ _ h => h) (Or.inl ⟨by rfl, ?_⟩) (by assumption) ?_
    rotate_left
    · (intro w hSw; (try dsimp only at hSw); go_simp; (try with_reducible rfl))
    (try simp only [Act.put, List.setIfInBounds_toArray, List.set_cons_zero, List.set_cons_succ])
    refine wpAnyH_take (i := 9) (v := ?_) pat9 (by kernel_rfl) (by kernel_rfl) (by kernel_rfl) (fun _ _ _ h => h) (Or.inl ⟨by rfl, ?_⟩) (by assumption) ?_
    rotate_left
    · (intro w hSw; (try dsimp only at hSw); go_simp; (try with_reducible rfl))
    (try simp only [Act.put, List.setIfInBounds_toArray, List.set_cons_zero, List.set_cons_succ])
    refine wpAnyH_take (i := 10) (v := ?_) pat10 (by kernel_rfl) (by kernel_rfl) (by kernel_rfl) (fun _ _ _ h => h) (Or.inl ⟨by rfl, ?_⟩) (by assumption) ?_
    rotate_left
    · (intro w hSw; (try dsimp only at hSw); go_simp; (try with_reducible rfl))
    (try simp only [Act.put, List.setIfInBounds_toArray, List.set_cons_zero, List.set_cons_succ])
    refine wpAnyH_ready (rs := [6]) (by kernel_rfl) (by simp) ?_
    refine AllReadyH.cons pat6 (fun K hK => ?_) AllReadyH.nil
    go_simp
    refine hK.out _ _ (K0.out _ stored_1) (fun hHeld2 => ?_)
    clear hK K hHeld
    have hHeld := hHeld2
    clear hHeld2
    (try simp only [Act.put, List.setIfInBounds_toArray, List.set_cons_zero, List.set_cons_succ])
    refine wpAnyH_ready (rs := [11]) (by kernel_rfl) (by simp) ?_
    refine AllReadyH.cons pat11 (fun K hK => ?_) AllReadyH.nil
    go_simp
    refine hK.out _ _ (K0.out _ stored_2) (fun hHeld2 => ?_)
    clear hK K hHeld
    have hHeld := hHeld2
    clear hHeld2
    (try simp only [Act.put, List.setIfInBounds_toArray, List.set_cons_zero, List.set_cons_succ])
    refine wpAnyH_ready (rs := [12]) (by kernel_rfl) (by simp) ?_
    refine AllReadyH.cons pat12 (fun K hK => ?_) AllReadyH.nil
    go_simp
    (go_at_call 15; refine (plainNan_any _ _ _ _).mono ?_; rintro e w1 ⟨rfl, rfl⟩)
    refine hK.out _ _ (K0.out _ stored_2) (fun hHeld2 => ?_)
    clear hK K hHeld
    have hHeld := hHeld2
    clear hHeld2
    (try simp only [Act.put, List.setIfInBounds_toArray, List.set_cons_zero, List.set_cons_succ])
    refine wpAnyH_take (i := 13) (v := ?_) pat13 (by kernel_rfl) (by kernel_rfl) (by kernel_rfl) (fun _ _ _ h => h) (Or.inl ⟨by rfl, ?_⟩) (by assumption) ?_
    rotate_left
    · (intro w hSw; (try dsimp only at hSw); go_simp; (try with_reducible rfl))
    (try simp only [Act.put, List.setIfInBounds_toArray, List.set_cons_zero, List.set_cons_succ])
    refine wpAnyH_done (by kernel_rfl) ?_ _
    go_wp2_with fail
    go_end0
    exact bumped_no (by rw [HY.out]; exact HB.out) (((Two.refl _ _ _).set2 _ _).drew.drew) (by rw [HY.out]; exact (h.out.setS v lowW))
/-- the step behind a Fade, ahead of what is lowered -/
def divW (st dc : Nat) : Nat := (Ieee.double.div st dc).getD 0
theorem div_at {st dc : Nat} (h : rg st ≤ I) (h1 : rg dc < I) (h2 : 0 < rg dc) : Ieee.double.div st dc = some (divW st dc) ∧ rg (divW st dc) ≤ I ∧ divW st dc < 18446744073709551616 := by
  obtain ⟨z, e, h3, h4⟩ := div_small h h1 h2
  have : divW st dc = z := by unfold divW; rw [e]; rfl
  rw [this]
  exact ⟨e, h3, h4⟩
def fadeL (L : Nat → Nat) (st dc : Nat) : Nat → Nat := if abvB (divW st dc) then lowL L else L
def fadeS (st dc : Nat) : Nat := if abvB (divW st dc) then mulW (divW st dc) else divW st dc
def Faded (tt : TypeId) (w : World) (T S n : Nat) (L : Nat → Nat) (st dc : Nat) (e : Ending) (w' : World) : Prop :=
  e = .returned (.tuple #[]) ∧ Two T S w w' ∧ IsTab w' tt T S n (fadeL L st dc) (fadeS st dc) dc
theorem faded_no {tt : TypeId} {w w' : World} {T S n st dc : Nat} {L : Nat → Nat} (hb : abvB (divW st dc) = false) (ht : Two T S w w') (h : IsTab w' tt T S n L (divW st dc) dc) : Faded tt w T S n L st dc (.returned (.tuple #[])) w' :=
  ⟨rfl, ht, by unfold fadeL fadeS; rw [hb]; exact h⟩
theorem faded_yes {tt : TypeId} {w w' : World} {T S n st dc : Nat} {L : Nat → Nat} (hb : abvB (divW st dc) = true) (ht : Two T S w w') (h : IsTab w' tt T S n (lowL L) (mulW (divW st dc)) dc) : Faded tt w T S n L st dc (.returned (.tuple #[])) w' :=
  ⟨rfl, ht, by unfold fadeL fadeS; rw [hb, if_pos rfl, if_pos rfl]; exact h⟩
set_option maxRecDepth 100000 in
set_option maxHeartbeats 4000000 in
theorem fade_any {w : World} {T S n st dc : Nat} {L : Nat → Nat} (h : Hid (IsTab w 54 T S n L st dc)) (hg : Hid (Good n L)) (hs : Hid (rg st ≤ I)) (hd : Hid (rg dc < I ∧ 0 < rg dc)) (hn : n ≤ 1048576) :
    Calls Try.prog 11 #[.pointer (some ⟨T, 0, none⟩)] w (Faded 54 w T S n L st dc) := by
  have c1 := h.out.c1
  have c2 := h.out.c2
  have f1 := h.out.f1
  have hrun := fun W => @run_float_arith Try.prog W .quo 22 .f64 st dc (divW st dc) (div_at hs.out hd.out.1 hd.out.2).1
  have HS : Hid (rg (divW st dc) ≤ I) := Lib.hid (div_at hs.out hd.out.1 hd.out.2).2.1
  obtain ⟨y, hy⟩ : ∃ y, divW st dc = y := ⟨_, rfl⟩
  rw [hy] at hrun HS
  have HY := Lib.hid hy
  clear hy
  cases ha : abvB y
  · have HB := Lib.hid ha
    go_enter Try.func11, Try.ntmps11
    go_wp2_with fail
    refine wp_region_still_tail 11 (by kernel_rfl) (by kernel_rfl) ?_
    simp only [List.take_succ_cons, List.take_zero, List.drop_succ_cons, List.drop_zero]
    show wpStill _ _ w.drew (fun a' => wpList _ _ _ _ a' w.drew) _ _
    repeat still_step
    refine wpStill_nil ?_
    go_wp2_with (first | (go_at_call 28; refine (above_any _ _).mono ?_; rintro e w' ⟨rfl, rfl⟩))
    go_end0
    exact faded_no (by rw [HY.out]; exact HB.out) (((Two.refl _ _ _).drew).set1 _ _) (by rw [HY.out]; exact (h.out.setStep y).drew)
  · have HB := Lib.hid ha
    go_enter Try.func11, Try.ntmps11
    go_wp2_with fail
    refine wp_region_still_tail 11 (by kernel_rfl) (by kernel_rfl) ?_
    simp only [List.take_succ_cons, List.take_zero, List.drop_succ_cons, List.drop_zero]
    show wpStill _ _ w.drew (fun a' => wpList _ _ _ _ a' w.drew) _ _
    repeat still_step
    refine wpStill_nil ?_
    go_wp2_with (first | (go_at_call 28; refine (above_any _ _).mono ?_; rintro e w' ⟨rfl, rfl⟩) | (go_at_call 30; refine (lower_any (Lib.hid (h.out.setStep y).drew) hg HS hn).mono ?_; rintro e w5 ⟨rfl, hw, ht⟩; have HW := Lib.hid hw; have HT := Lib.hid ht; clear hw ht))
    go_end0
    exact faded_yes (by rw [HY.out]; exact HB.out) ((((Two.refl _ _ _).drew).set1 _ _).trans HW.out) (by rw [HY.out]; exact HT.out)
set_option maxRecDepth 100000 in
set_option maxHeartbeats 4000000 in
theorem refFade_any {w : World} {T S n st dc : Nat} {L : Nat → Nat} (h : Hid (IsTab w 35 T S n L st dc)) (hg : Hid (Good n L)) (hs : Hid (rg st ≤ I)) (hd : Hid (rg dc < I ∧ 0 < rg dc)) (hn : n ≤ 1048576) :
    Calls Try.prog 12 #[.pointer (some ⟨T, 0, none⟩)] w (Faded 35 w T S n L st dc) := by
  have c1 := h.out.c1
  have c2 := h.out.c2
  have f1 := h.out.f1
  have hrun := fun W => @run_float_arith Try.prog W .quo 22 .f64 st dc (divW st dc) (div_at hs.out hd.out.1 hd.out.2).1
  have HS : Hid (rg (divW st dc) ≤ I) := Lib.hid (div_at hs.out hd.out.1 hd.out.2).2.1
  obtain ⟨y, hy⟩ : ∃ y, divW st dc = y := ⟨_, rfl⟩
  rw [hy] at hrun HS
  have HY := Lib.hid hy
  clear hy
  cases ha : abvB y
  · have hgt : (FloatKind.f64.format.order y 6103021453049119613 == some Ordering.gt) = false := ha
    have HB := Lib.hid ha
    go_enter Try.func12, Try.ntmps12
    go_wp2_with fail
    refine wp_region_still_tail 12 (by kernel_rfl) (by kernel_rfl) ?_
    simp only [List.take_succ_cons, List.take_zero, List.drop_succ_cons, List.drop_zero]
    show wpStill _ _ w.drew (fun a' => wpList _ _ _ _ a' w.drew) _ _
    repeat still_step
    refine wpStill_nil ?_
    go_wp2_with fail
    go_end0
    exact faded_no (by rw [HY.out]; exact HB.out) (((Two.refl _ _ _).drew).set1 _ _) (by rw [HY.out]; exact (h.out.setStep y).drew)
  · have hgt : (FloatKind.f64.format.order y 6103021453049119613 == some Ordering.gt) = true := ha
    have HB := Lib.hid ha
    go_enter Try.func12, Try.ntmps12
    go_wp2_with fail
    refine wp_region_still_tail 12 (by kernel_rfl) (by kernel_rfl) ?_
    simp only [List.take_succ_cons, List.take_zero, List.drop_succ_cons, List.drop_zero]
    show wpStill _ _ w.drew (fun a' => wpList _ _ _ _ a' w.drew) _ _
    repeat still_step
    refine wpStill_nil ?_
    go_wp2_with (first | (go_at_call 32; refine (refLower_any (Lib.hid (h.out.setStep y).drew) hg HS hn).mono ?_; rintro e w5 ⟨rfl, hw, ht⟩; have HW := Lib.hid hw; have HT := Lib.hid ht; clear hw ht))
    go_end0
    exact faded_yes (by rw [HY.out]; exact HB.out) ((((Two.refl _ _ _).drew).set1 _ _).trans HW.out) (by rw [HY.out]; exact HT.out)
end Go.Proofs.Ytpikbhcjgcbdfaa.sc
