/- Package frac: Right, and the document's answer Right, of parts that may be anything. -/
import Derived.Test.YtpikbhcjgcbdfaaDoorFo2
namespace Go.Proofs.YtpikbhcjgcbdfaaDoor.wh
open Go.RowKit

theorem rightQ_nought (a : Int) : rightQ a 0 = true := by
  have h := rat_pos (a := a) (b := 1) (by omega) (by simp)
  have e : quoQ a 0 = Rat.divInt a 1 := by unfold quoQ orOne; rw [if_pos rfl]
  unfold rightQ
  rw [e]
  have hu : undZ (Rat.divInt a 1) = 0 := by unfold undZ; rw [if_pos (by have := h.2; omega)]
  rw [hu, h.1]
  simp
theorem rightQ_one (a : Int) : rightQ a 1 = false := by
  have h := rat_pos (a := a) (b := 1) (by omega) (by simp)
  have e : quoQ a 1 = Rat.divInt a 1 := by unfold quoQ orOne; rw [if_neg (by omega)]
  unfold rightQ
  rw [e]
  have hu : undZ (Rat.divInt a 1) = 0 := by unfold undZ; rw [if_pos (by have := h.2; omega)]
  rw [hu]
  simp
theorem rightQ_cop {a b : Int} (hb : 1 < b) (hg : Nat.gcd a.natAbs b.natAbs = 1) : rightQ a b = true := by
  have h := rat_pos (a := a) (b := b) (by omega) hg
  have e : quoQ a b = Rat.divInt a b := by unfold quoQ orOne; rw [if_neg (by omega)]
  unfold rightQ
  rw [e]
  have hu : undZ (Rat.divInt a b) = b := by unfold undZ; rw [if_neg (by have := h.2; omega)]; exact h.2
  rw [hu, h.1]
  simp
  omega
theorem rightQ_not {a b : Int} (hb : 1 < b) (hg : Nat.gcd a.natAbs b.natAbs ≠ 1) : rightQ a b = false := by
  unfold rightQ
  generalize quoQ a b = q
  rw [Bool.and_eq_false_iff]
  refine .inr (decide_eq_false fun ⟨h1, h2⟩ => ?_)
  unfold undZ at h2
  split at h2
  · omega
  · apply hg
    rw [h1, h2, Int.natAbs_natCast]
    exact q.reduced
theorem rightQ_neg {a b : Int} (hb : b < 0) : rightQ a b = false := by
  unfold rightQ
  rw [decide_eq_false (by omega)]
  rfl
theorem isOne_r {v : Value} {m : Nat} {z : Int} {w : World} {r : Bool} (hi : IsInt w w.heap.size m v z) (hr : decide (z = 1) = r) :
    Calls Tryd.prog 89 #[v] w fun e w' => e = .returned (.bool r) ∧ Hid (Below w.heap.size w w') := by
  subst hr
  by_cases h : z = 1
  · rw [decide_eq_true h]
    exact isOne_yes hi h
  · rw [decide_eq_false h]
    exact isOne_no hi h
/-- whether a fraction may be -/
def Fe.may (e : Fe) : Bool := rightB e.o.neg e.o.ds && (rightB e.u.neg e.u.ds && e.rt)
theorem right_elr {neg : Bool} {A : Option Addr} {c l : Nat} {ds : List Nat} {r : Bool} {w0 w : World} (h : (El.mk neg A c ds).Ok w0) (hl : ds.length = l) (hb : Below w0.heap.size w0 w) (hr : rightB neg ds = r) :
    Calls Tryd.prog 32 #[.agg #[.bool neg, .slice A l c]] w fun e w' => e = .returned (.bool r) ∧ Hid (Below w.heap.size w w') := by
  subst hl hr
  exact right_el h hb
theorem refRight_elr {neg : Bool} {A : Option Addr} {c l : Nat} {ds : List Nat} {r : Bool} {w0 w : World} (h : (El.mk neg A c ds).Ok w0) (hl : ds.length = l) (hb : Below w0.heap.size w0 w) (hr : rightB neg ds = r) :
    Calls Tryd.prog 33 #[.agg #[.bool neg, .slice A l c]] w fun e w' => e = .returned (.bool r) ∧ Hid (Below w.heap.size w w') := by
  subst hl hr
  exact refRight_el h hb
theorem el_int {neg : Bool} {A : Option Addr} {c l m : Nat} {ds : List Nat} {w : World} (h : (El.mk neg A c ds).Ok w ∧ ds.length ≤ c) (hl : ds.length = l) (hm : ds.length ≤ m) (hr : rightB neg ds = true) : IsInt w w.heap.size m (.agg #[.bool neg, .slice A l c]) (zval neg ds) := by
  subst hl
  exact ⟨neg, A, _, c, ds, rfl, rfl, h.1.2, hm, h.2, hr, rfl⟩
theorem int_len {x : Bool} {A : Option Addr} {n c m B : Nat} {z : Int} {w : World} (h : IsInt w B m (.agg #[.bool x, .slice A n c]) z) : (z = 0 → n = 0) ∧ (z ≠ 0 → 0 < n) := by
  refine ⟨fun e => int_none h e, fun e => ?_⟩
  rcases Nat.eq_zero_or_pos n with h0 | h0
  · obtain ⟨neg, A', n', c', ds, hv, h2, h3, h4, h5, h6, h7⟩ := h
    cases hv
    rw [List.eq_nil_of_length_eq_zero (h2.trans h0)] at h7
    cases x <;> simp [zval, val] at h7 <;> omega
  · exact h0

set_option maxRecDepth 100000 in
set_option maxHeartbeats 4000000 in
theorem fright_any {no nu : Bool} {Ao Au : Option Addr} {lo co lu cu : Nat} {os us : List Nat} {w : World} {r : Bool} (hok : Fe.Ok w ⟨⟨no, Ao, co, os⟩, ⟨nu, Au, cu, us⟩⟩) (hlo : os.length = lo) (hlu : us.length = lu) (h8 : os.length ≤ 8 ∧ us.length ≤ 8) (hr : Fe.may ⟨⟨no, Ao, co, os⟩, ⟨nu, Au, cu, us⟩⟩ = r) :
    Calls Tryd.prog 56 #[.agg #[.bool no, .slice Ao lo co, .bool nu, .slice Au lu cu]] w fun e w' => e = .returned (.bool r) ∧ Hid (Below w.heap.size w w') := by
  have EO := Lib.hid hok.1.1
  have EU := Lib.hid hok.2.1
  have EC := Lib.hid hok
  have HR : Hid ((rightB no os && (rightB nu us && rightQ (zval no os) (zval nu us))) = r) := hr
  clear hok hr
  have HT : Hid (Mem w [(w.heap.size, 58, [.bool no, .slice Ao lo co, .bool nu, .slice Au lu cu])] (w.alloc (.cells #[.bool no, .slice Ao lo co, .bool nu, .slice Au lu cu] 58))) := ((Mem.new w).push (by simp) 58 [.bool no, .slice Ao lo co, .bool nu, .slice Au lu cu] rfl)
  have A0 : Hid (∀ w' : World, Mem w [(w.heap.size, 58, [.bool no, .slice Ao lo co, .bool nu, .slice Au lu cu])] w' → (w'.cell? ⟨w.heap.size, 0, none⟩ = some (.bool no) ∧ w'.cell? ⟨w.heap.size, 1, none⟩ = some (.slice Ao lo co) ∧ w'.cell? ⟨w.heap.size, 2, none⟩ = some (.bool nu) ∧ w'.cell? ⟨w.heap.size, 3, none⟩ = some (.slice Au lu cu)) ∧ (w'.frozen? ⟨w.heap.size, 0, none⟩ = false ∧ w'.frozen? ⟨w.heap.size, 1, none⟩ = false ∧ w'.frozen? ⟨w.heap.size, 2, none⟩ = false ∧ w'.frozen? ⟨w.heap.size, 3, none⟩ = false) ∧ Hid (Mem w [(w.heap.size, 58, [.bool no, .slice Ao lo co, .bool nu, .slice Au lu cu])] w')) := fun w' h => ⟨⟨h.c 0 rfl 0 rfl, h.c 0 rfl 1 rfl, h.c 0 rfl 2 rfl, h.c 0 rfl 3 rfl⟩, ⟨h.f 0 rfl 0, h.f 0 rfl 1, h.f 0 rfl 2, h.f 0 rfl 3⟩, h⟩
  have C0 := (A0.out _ HT.out).1
  cases ro : rightB no os with
  | false =>
    have RO := Lib.hid ro
    clear ro
    obtain rfl : r = false := by rw [← HR.out, RO.out]; rfl
    go_enter Tryd.func56, Tryd.ntmps56
    go_wp2_with fail
    refine (right_elr EO.out hlo HT.out.below RO.out).mono ?_
    rintro e w1 ⟨rfl, hb1⟩
    have T1 := Lib.hid (Mem.over hb1 HT.out)
    have C1 := (A0.out _ T1.out).1
    clear C0
    go_wp2
    (try simp only [Exit.inBlock, Exit.then])
    go_ret
    exact ⟨rfl, T1.out.below⟩
  | true =>
    have RO := Lib.hid ro
    clear ro
    cases ru : rightB nu us with
    | false =>
      have RU := Lib.hid ru
      clear ru
      obtain rfl : r = false := by rw [← HR.out, RO.out, RU.out]; rfl
      go_enter Tryd.func56, Tryd.ntmps56
      go_wp2_with fail
      refine (right_elr EO.out hlo HT.out.below RO.out).mono ?_
      rintro e w1 ⟨rfl, hb1⟩
      have T1 := Lib.hid (Mem.over hb1 HT.out)
      have C1 := (A0.out _ T1.out).1
      clear C0
      go_wp2_with fail
      refine (right_elr EU.out hlu T1.out.below RU.out).mono ?_
      rintro e w2 ⟨rfl, hb2⟩
      have T2 := Lib.hid (Mem.over hb2 T1.out)
      have C2 := (A0.out _ T2.out).1
      clear C1
      go_wp2
      (try simp only [Exit.inBlock, Exit.then])
      go_ret
      exact ⟨rfl, T2.out.below⟩
    | true =>
      have RU := Lib.hid ru
      clear ru
      obtain rfl : rightQ (zval no os) (zval nu us) = r := by rw [← HR.out, RO.out, RU.out]; simp
      have IO := Lib.hid (el_int EC.out.1 hlo h8.1 RO.out)
      have IU := Lib.hid (el_int EC.out.2 hlu h8.2 RU.out)
      obtain ⟨a, ha⟩ : ∃ a, a = zval no os := ⟨_, rfl⟩
      obtain ⟨b, hb⟩ : ∃ b, b = zval nu us := ⟨_, rfl⟩
      rw [← ha] at IO
      rw [← hb] at IU
      rw [← ha, ← hb]
      clear ha hb HR EC
      obtain ⟨r, hr⟩ : ∃ r, rightQ a b = r := ⟨_, rfl⟩
      rw [hr]
      have SU := int_signs IU.out
      cases nu with
      | true =>
        obtain rfl : r = false := by rw [← hr]; exact rightQ_neg (SU.1 rfl)
        clear SU hr
        go_enter Tryd.func56, Tryd.ntmps56
        go_wp2_with fail
        refine (right_elr EO.out hlo HT.out.below RO.out).mono ?_
        rintro e w1 ⟨rfl, hb1⟩
        have T1 := Lib.hid (Mem.over hb1 HT.out)
        have C1 := (A0.out _ T1.out).1
        clear C0
        go_wp2_with fail
        refine (right_elr EU.out hlu T1.out.below RU.out).mono ?_
        rintro e w2 ⟨rfl, hb2⟩
        have T2 := Lib.hid (Mem.over hb2 T1.out)
        have C2 := (A0.out _ T2.out).1
        clear C1
        go_wp2
        (try simp only [Exit.inBlock, Exit.then])
        go_ret
        exact ⟨rfl, T2.out.below⟩
      | false =>
        have SU2 := SU.2 rfl
        clear SU
        have LU := int_len IU.out
        by_cases hz : b = 0
        · obtain rfl := LU.1 hz
          subst hz
          obtain rfl : r = true := by rw [← hr]; exact rightQ_nought a
          clear LU hr SU2
          go_enter Tryd.func56, Tryd.ntmps56
          go_wp2_with fail
          refine (right_elr EO.out hlo HT.out.below RO.out).mono ?_
          rintro e w1 ⟨rfl, hb1⟩
          have T1 := Lib.hid (Mem.over hb1 HT.out)
          have C1 := (A0.out _ T1.out).1
          clear C0
          go_wp2_with fail
          refine (right_elr EU.out hlu T1.out.below RU.out).mono ?_
          rintro e w2 ⟨rfl, hb2⟩
          have T2 := Lib.hid (Mem.over hb2 T1.out)
          have C2 := (A0.out _ T2.out).1
          clear C1
          go_wp2_with fail
          refine (isInteger_yes _).mono ?_
          rintro e w3 ⟨rfl, hb3⟩
          have T3 := Lib.hid (Mem.over hb3 T2.out)
          clear C2
          go_wp2
          (try simp only [Exit.inBlock, Exit.then])
          go_ret
          exact ⟨rfl, T3.out.below⟩
        · have hpos := LU.2 hz
          clear LU
          by_cases h1 : b = 1
          · obtain rfl : r = false := by rw [← hr, h1]; exact rightQ_one a
            clear hr SU2 hz
            go_enter Tryd.func56, Tryd.ntmps56
            go_wp2_with fail
            refine (right_elr EO.out hlo HT.out.below RO.out).mono ?_
            rintro e w1 ⟨rfl, hb1⟩
            have T1 := Lib.hid (Mem.over hb1 HT.out)
            have C1 := (A0.out _ T1.out).1
            clear C0
            go_wp2_with fail
            refine (right_elr EU.out hlu T1.out.below RU.out).mono ?_
            rintro e w2 ⟨rfl, hb2⟩
            have T2 := Lib.hid (Mem.over hb2 T1.out)
            have C2 := (A0.out _ T2.out).1
            clear C1
            go_wp2_with fail
            refine (isInteger_no _ hpos).mono ?_
            rintro e w3 ⟨rfl, hb3⟩
            have T3 := Lib.hid (Mem.over hb3 T2.out)
            have C3 := (A0.out _ T3.out).1
            clear C2
            go_wp2_with fail
            refine (isOne_yes (IU.out.over T3.out.below) h1).mono ?_
            rintro e w4 ⟨rfl, hb4⟩
            have T4 := Lib.hid (Mem.over hb4 T3.out)
            clear C3
            go_wp2
            (try simp only [Exit.inBlock, Exit.then])
            go_ret
            exact ⟨rfl, T4.out.below⟩
          · have H1 := Lib.hid h1
            have hgt : 1 < b := by omega
            clear h1 SU2 hz
            obtain ⟨r', hr'⟩ : ∃ r', decide (((Nat.gcd a.natAbs b.natAbs : Nat) : Int) = 1) = r' := ⟨_, rfl⟩
            have HRR : Hid (r' = r) := by
              show _ = _
              rw [← hr', ← hr]
              by_cases hg : Nat.gcd a.natAbs b.natAbs = 1
              · rw [rightQ_cop hgt hg, decide_eq_true (by omega)]
              · rw [rightQ_not hgt hg, decide_eq_false (by omega)]
            have HG := Lib.hid hr'
            obtain rfl := HRR.out
            clear hr hr' hgt HRR
            go_enter Tryd.func56, Tryd.ntmps56
            go_wp2_with fail
            refine (right_elr EO.out hlo HT.out.below RO.out).mono ?_
            rintro e w1 ⟨rfl, hb1⟩
            have T1 := Lib.hid (Mem.over hb1 HT.out)
            have C1 := (A0.out _ T1.out).1
            clear C0
            go_wp2_with fail
            refine (right_elr EU.out hlu T1.out.below RU.out).mono ?_
            rintro e w2 ⟨rfl, hb2⟩
            have T2 := Lib.hid (Mem.over hb2 T1.out)
            have C2 := (A0.out _ T2.out).1
            clear C1
            go_wp2_with fail
            refine (isInteger_no _ hpos).mono ?_
            rintro e w3 ⟨rfl, hb3⟩
            have T3 := Lib.hid (Mem.over hb3 T2.out)
            have C3 := (A0.out _ T3.out).1
            clear C2
            go_wp2_with fail
            refine (isOne_no (IU.out.over T3.out.below) H1.out).mono ?_
            rintro e w4 ⟨rfl, hb4⟩
            have T4 := Lib.hid (Mem.over hb4 T3.out)
            have C4 := (A0.out _ T4.out).1
            clear C3
            go_wp2_with fail
            refine (gcd_any _ _ 8 8 8 _ _ _ (by omega) (by omega) (by omega) (IO.out.over T4.out.below) (IU.out.over T4.out.below)).mono ?_
            rintro e w5 ⟨x5, A5, n5, c5, rfl, hi5, hb5⟩
            have T5 := Lib.hid (Mem.over hb5 T4.out)
            clear C4
            go_wp2_with fail
            refine (isOne_r hi5.out HG.out).mono ?_
            rintro e w6 ⟨rfl, hb6⟩
            have T6 := Lib.hid (Mem.over hb6 T5.out)
            go_wp2
            (try simp only [Exit.inBlock, Exit.then])
            go_ret
            exact ⟨rfl, T6.out.below⟩

set_option maxRecDepth 100000 in
set_option maxHeartbeats 4000000 in
theorem right3_any {no nu : Bool} {Ao Au : Option Addr} {lo co lu cu : Nat} {os us : List Nat} {w : World} {r : Bool} (hok : Fe.Ok w ⟨⟨no, Ao, co, os⟩, ⟨nu, Au, cu, us⟩⟩) (hlo : os.length = lo) (hlu : us.length = lu) (h8 : os.length ≤ 8 ∧ us.length ≤ 8) (hr : Fe.may ⟨⟨no, Ao, co, os⟩, ⟨nu, Au, cu, us⟩⟩ = r) :
    Calls Tryd.prog 57 #[.agg #[.bool no, .slice Ao lo co, .bool nu, .slice Au lu cu]] w fun e w' => e = .returned (.bool r) ∧ Hid (Below w.heap.size w w') := by
  have EO := Lib.hid hok.1.1
  have EU := Lib.hid hok.2.1
  have EC := Lib.hid hok
  have HR : Hid ((rightB no os && (rightB nu us && rightQ (zval no os) (zval nu us))) = r) := hr
  clear hok hr
  have HT : Hid (Mem w [(w.heap.size, 58, [.bool no, .slice Ao lo co, .bool nu, .slice Au lu cu])] (w.alloc (.cells #[.bool no, .slice Ao lo co, .bool nu, .slice Au lu cu] 58))) := ((Mem.new w).push (by simp) 58 [.bool no, .slice Ao lo co, .bool nu, .slice Au lu cu] rfl)
  have A0 : Hid (∀ w' : World, Mem w [(w.heap.size, 58, [.bool no, .slice Ao lo co, .bool nu, .slice Au lu cu])] w' → (w'.cell? ⟨w.heap.size, 0, none⟩ = some (.bool no) ∧ w'.cell? ⟨w.heap.size, 1, none⟩ = some (.slice Ao lo co) ∧ w'.cell? ⟨w.heap.size, 2, none⟩ = some (.bool nu) ∧ w'.cell? ⟨w.heap.size, 3, none⟩ = some (.slice Au lu cu)) ∧ (w'.frozen? ⟨w.heap.size, 0, none⟩ = false ∧ w'.frozen? ⟨w.heap.size, 1, none⟩ = false ∧ w'.frozen? ⟨w.heap.size, 2, none⟩ = false ∧ w'.frozen? ⟨w.heap.size, 3, none⟩ = false) ∧ Hid (Mem w [(w.heap.size, 58, [.bool no, .slice Ao lo co, .bool nu, .slice Au lu cu])] w')) := fun w' h => ⟨⟨h.c 0 rfl 0 rfl, h.c 0 rfl 1 rfl, h.c 0 rfl 2 rfl, h.c 0 rfl 3 rfl⟩, ⟨h.f 0 rfl 0, h.f 0 rfl 1, h.f 0 rfl 2, h.f 0 rfl 3⟩, h⟩
  have C0 := (A0.out _ HT.out).1
  cases ro : rightB no os with
  | false =>
    have RO := Lib.hid ro
    clear ro
    obtain rfl : r = false := by rw [← HR.out, RO.out]; rfl
    go_enter Tryd.func57, Tryd.ntmps57
    go_wp2_with fail
    refine (refRight_elr EO.out hlo HT.out.below RO.out).mono ?_
    rintro e w1 ⟨rfl, hb1⟩
    have T1 := Lib.hid (Mem.over hb1 HT.out)
    have C1 := (A0.out _ T1.out).1
    clear C0
    go_wp2
    (try simp only [Exit.inBlock, Exit.then])
    go_ret
    exact ⟨rfl, T1.out.below⟩
  | true =>
    have RO := Lib.hid ro
    clear ro
    cases ru : rightB nu us with
    | false =>
      have RU := Lib.hid ru
      clear ru
      obtain rfl : r = false := by rw [← HR.out, RO.out, RU.out]; rfl
      go_enter Tryd.func57, Tryd.ntmps57
      go_wp2_with fail
      refine (refRight_elr EO.out hlo HT.out.below RO.out).mono ?_
      rintro e w1 ⟨rfl, hb1⟩
      have T1 := Lib.hid (Mem.over hb1 HT.out)
      have C1 := (A0.out _ T1.out).1
      clear C0
      go_wp2_with fail
      refine (refRight_elr EU.out hlu T1.out.below RU.out).mono ?_
      rintro e w2 ⟨rfl, hb2⟩
      have T2 := Lib.hid (Mem.over hb2 T1.out)
      have C2 := (A0.out _ T2.out).1
      clear C1
      go_wp2
      (try simp only [Exit.inBlock, Exit.then])
      go_ret
      exact ⟨rfl, T2.out.below⟩
    | true =>
      have hq : rightQ (zval no os) (zval nu us) = r := by rw [← HR.out, RO.out, ru]; simp
      exact right2_any (p := 8) (by omega) (by omega) (el_int EC.out.1 hlo h8.1 RO.out) (el_int EC.out.2 hlu h8.2 ru) hq
end Go.Proofs.YtpikbhcjgcbdfaaDoor.wh
