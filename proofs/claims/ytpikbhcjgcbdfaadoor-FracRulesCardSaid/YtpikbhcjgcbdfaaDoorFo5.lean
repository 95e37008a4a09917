/- The statement FracRules: the walk of its function. -/
import Derived.Test.YtpikbhcjgcbdfaaDoorFo3
import Derived.Test.YtpikbhcjgcbdfaaDoorMk1
import Derived.Test.YtpikbhcjgcbdfaaDoorFa
import Derived.Deep.DeepCutAuto
import Derived.BigQuiet
import Derived.Deep.QuietTactic
namespace Go.Proofs.YtpikbhcjgcbdfaaDoor.wh
open Go.RowKit

theorem samefr_any {v u : Value} {p : Nat} {x y : Rat} {w : World} (hp : p ≤ 100000) (hx : IsFr w p v x) (hy : IsFr w p u y) (h : x = y) :
    Calls Tryd.prog 42 #[v, u] w fun e w' => e = .returned (.bool true) ∧ Hid (Below w.heap.size w w') := by
  subst h
  obtain ⟨n1, A1, l1, c1, n2, A2, l2, c2, rfl, h1, h2⟩ := hx
  obtain ⟨m1, B1, k1, d1, m2, B2, k2, d2, rfl, g1, g2⟩ := hy
  exact same2_any hp h1 h2 g1 g2 (decide_eq_true ⟨rfl, rfl⟩)
theorem cmpR_add (x y z : Rat) : cmpR (x + z) (y + z) = cmpR x y := by
  rcases rat_three x y with h | h | h
  · rw [cmpR_lt' h, cmpR_lt' (by grind)]
  · rw [h, cmpR_eq', cmpR_eq']
  · rw [cmpR_gt' h, cmpR_gt' (by grind)]
theorem floor_cases (x : Rat) : ∃ r r1, decide (x.den = 1) = r ∧ cmpR ((x.floor : Int) : Rat) x = r1 ∧ ((r = true ∧ r1 = 0) ∨ (r = false ∧ r1 = -1)) := by
  by_cases h : x.den = 1
  · refine ⟨true, 0, decide_eq_true h, ?_, .inl ⟨rfl, rfl⟩⟩
    rw [floor_int h, ← rat_int h]
    exact cmpR_eq' x
  · refine ⟨false, -1, decide_eq_false h, cmpR_lt' ?_, .inr ⟨rfl, rfl⟩⟩
    have h1 := Rat.floor_le x
    have h2 : ((x.floor : Int) : Rat) ≠ x := fun e => h (by rw [← e, Rat.den_intCast])
    rcases rat_three ((x.floor : Int) : Rat) x with h3 | h3 | h3
    · exact h3
    · exact absurd h3 h2
    · grind
theorem floor_next (x : Rat) : cmpR x (((x.floor : Int) : Rat) + ((1 : Int) : Rat)) = -1 := by
  refine cmpR_lt' ?_
  have h := Rat.lt_floor_add_one x
  rwa [Rat.intCast_add] at h

set_option maxRecDepth 100000 in
set_option maxHeartbeats 16000000 in
theorem frules_any (ex ey ez : Fe) (w : World) (hx : ex.Ok w) (hy : ey.Ok w) (hz : ez.Ok w) (htab : Tab w) :
    Calls Tryd.prog 9 #[ex.val, ey.val, ez.val] w fun e w' => e = .returned (.bool true) ∧ Below w.heap.size w w' := by
  have EX := Lib.hid hx
  have EY := Lib.hid hy
  have EZ := Lib.hid hz
  have HTAB := Lib.hid htab
  clear hx hy hz htab
  obtain ⟨⟨o1, A1, c1, xs1⟩, ⟨u1, B1, d1, ys1⟩⟩ := ex
  obtain ⟨⟨o2, A2, c2, xs2⟩, ⟨u2, B2, d2, ys2⟩⟩ := ey
  obtain ⟨⟨o3, A3, c3, xs3⟩, ⟨u3, B3, d3, ys3⟩⟩ := ez
  simp only [Fe.val] at *
  have HT : Hid (Mem w [(w.heap.size, 58, [.bool o1, .slice A1 xs1.length c1, .bool u1, .slice B1 ys1.length d1]), (w.heap.size + 1, 58, [.bool o2, .slice A2 xs2.length c2, .bool u2, .slice B2 ys2.length d2]), (w.heap.size + 1 + 1, 58, [.bool o3, .slice A3 xs3.length c3, .bool u3, .slice B3 ys3.length d3])] (((w.alloc (.cells #[.bool o1, .slice A1 xs1.length c1, .bool u1, .slice B1 ys1.length d1] 58)).alloc (.cells #[.bool o2, .slice A2 xs2.length c2, .bool u2, .slice B2 ys2.length d2] 58)).alloc (.cells #[.bool o3, .slice A3 xs3.length c3, .bool u3, .slice B3 ys3.length d3] 58))) := ((((Mem.new w).push (by simp) 58 [.bool o1, .slice A1 xs1.length c1, .bool u1, .slice B1 ys1.length d1] rfl).push (by simp) 58 [.bool o2, .slice A2 xs2.length c2, .bool u2, .slice B2 ys2.length d2] rfl).push (by simp) 58 [.bool o3, .slice A3 xs3.length c3, .bool u3, .slice B3 ys3.length d3] rfl)
  have A0 : Hid (∀ w' : World, Mem w [(w.heap.size, 58, [.bool o1, .slice A1 xs1.length c1, .bool u1, .slice B1 ys1.length d1]), (w.heap.size + 1, 58, [.bool o2, .slice A2 xs2.length c2, .bool u2, .slice B2 ys2.length d2]), (w.heap.size + 1 + 1, 58, [.bool o3, .slice A3 xs3.length c3, .bool u3, .slice B3 ys3.length d3])] w' → (w'.cell? ⟨w.heap.size, 0, none⟩ = some (.bool o1) ∧ w'.cell? ⟨w.heap.size, 1, none⟩ = some (.slice A1 xs1.length c1) ∧ w'.cell? ⟨w.heap.size, 2, none⟩ = some (.bool u1) ∧ w'.cell? ⟨w.heap.size, 3, none⟩ = some (.slice B1 ys1.length d1) ∧ w'.cell? ⟨w.heap.size + 1, 0, none⟩ = some (.bool o2) ∧ w'.cell? ⟨w.heap.size + 1, 1, none⟩ = some (.slice A2 xs2.length c2) ∧ w'.cell? ⟨w.heap.size + 1, 2, none⟩ = some (.bool u2) ∧ w'.cell? ⟨w.heap.size + 1, 3, none⟩ = some (.slice B2 ys2.length d2) ∧ w'.cell? ⟨w.heap.size + 1 + 1, 0, none⟩ = some (.bool o3) ∧ w'.cell? ⟨w.heap.size + 1 + 1, 1, none⟩ = some (.slice A3 xs3.length c3) ∧ w'.cell? ⟨w.heap.size + 1 + 1, 2, none⟩ = some (.bool u3) ∧ w'.cell? ⟨w.heap.size + 1 + 1, 3, none⟩ = some (.slice B3 ys3.length d3)) ∧ (w'.frozen? ⟨w.heap.size, 0, none⟩ = false ∧ w'.frozen? ⟨w.heap.size, 1, none⟩ = false ∧ w'.frozen? ⟨w.heap.size, 2, none⟩ = false ∧ w'.frozen? ⟨w.heap.size, 3, none⟩ = false ∧ w'.frozen? ⟨w.heap.size + 1, 0, none⟩ = false ∧ w'.frozen? ⟨w.heap.size + 1, 1, none⟩ = false ∧ w'.frozen? ⟨w.heap.size + 1, 2, none⟩ = false ∧ w'.frozen? ⟨w.heap.size + 1, 3, none⟩ = false ∧ w'.frozen? ⟨w.heap.size + 1 + 1, 0, none⟩ = false ∧ w'.frozen? ⟨w.heap.size + 1 + 1, 1, none⟩ = false ∧ w'.frozen? ⟨w.heap.size + 1 + 1, 2, none⟩ = false ∧ w'.frozen? ⟨w.heap.size + 1 + 1, 3, none⟩ = false) ∧ Hid (Mem w [(w.heap.size, 58, [.bool o1, .slice A1 xs1.length c1, .bool u1, .slice B1 ys1.length d1]), (w.heap.size + 1, 58, [.bool o2, .slice A2 xs2.length c2, .bool u2, .slice B2 ys2.length d2]), (w.heap.size + 1 + 1, 58, [.bool o3, .slice A3 xs3.length c3, .bool u3, .slice B3 ys3.length d3])] w')) := fun w' h => ⟨⟨h.c 0 rfl 0 rfl, h.c 0 rfl 1 rfl, h.c 0 rfl 2 rfl, h.c 0 rfl 3 rfl, h.c 1 rfl 0 rfl, h.c 1 rfl 1 rfl, h.c 1 rfl 2 rfl, h.c 1 rfl 3 rfl, h.c 2 rfl 0 rfl, h.c 2 rfl 1 rfl, h.c 2 rfl 2 rfl, h.c 2 rfl 3 rfl⟩, ⟨h.f 0 rfl 0, h.f 0 rfl 1, h.f 0 rfl 2, h.f 0 rfl 3, h.f 1 rfl 0, h.f 1 rfl 1, h.f 1 rfl 2, h.f 1 rfl 3, h.f 2 rfl 0, h.f 2 rfl 1, h.f 2 rfl 2, h.f 2 rfl 3⟩, h⟩
  go_enter Tryd.func9, Tryd.ntmps9
  go_wp2_with fail
  refine (speaks2_any _ (HTAB.out.below HT.out.below)).mono ?_
  rintro e w1 ⟨rfl, hb1⟩
  have T1 := Lib.hid (Mem.over hb1 HT.out)
  have C1 := (A0.out _ T1.out).1
  have hels : Hid (FesAt (w1.alloc (.cells #[.bool o1, .slice A1 xs1.length c1, .bool u1, .slice B1 ys1.length d1, .bool o2, .slice A2 xs2.length c2, .bool u2, .slice B2 ys2.length d2, .bool o3, .slice A3 xs3.length c3, .bool u3, .slice B3 ys3.length d3] 58)) w1.heap.size [(⟨⟨o1, A1, c1, xs1⟩, ⟨u1, B1, d1, ys1⟩⟩ : Fe), ⟨⟨o2, A2, c2, xs2⟩, ⟨u2, B2, d2, ys2⟩⟩, ⟨⟨o3, A3, c3, xs3⟩, ⟨u3, B3, d3, ys3⟩⟩]) := by
    have hblk := Blk.new w1 58 #[.bool o1, .slice A1 xs1.length c1, .bool u1, .slice B1 ys1.length d1, .bool o2, .slice A2 xs2.length c2, .bool u2, .slice B2 ys2.length d2, .bool o3, .slice A3 xs3.length c3, .bool u3, .slice B3 ys3.length d3]
    intro i hi
    match i, hi with
    | 0, _ => exact ⟨by rw [hblk.cell]; rfl, by rw [hblk.cell]; rfl, by rw [hblk.cell]; rfl, by rw [hblk.cell]; rfl⟩
    | 1, _ => exact ⟨by rw [hblk.cell]; rfl, by rw [hblk.cell]; rfl, by rw [hblk.cell]; rfl, by rw [hblk.cell]; rfl⟩
    | 2, _ => exact ⟨by rw [hblk.cell]; rfl, by rw [hblk.cell]; rfl, by rw [hblk.cell]; rfl, by rw [hblk.cell]; rfl⟩
  have T2 : Hid (Mem w [(w.heap.size, 58, [.bool o1, .slice A1 xs1.length c1, .bool u1, .slice B1 ys1.length d1]), (w.heap.size + 1, 58, [.bool o2, .slice A2 xs2.length c2, .bool u2, .slice B2 ys2.length d2]), (w.heap.size + 1 + 1, 58, [.bool o3, .slice A3 xs3.length c3, .bool u3, .slice B3 ys3.length d3])] (w1.alloc (.cells #[.bool o1, .slice A1 xs1.length c1, .bool u1, .slice B1 ys1.length d1, .bool o2, .slice A2 xs2.length c2, .bool u2, .slice B2 ys2.length d2, .bool o3, .slice A3 xs3.length c3, .bool u3, .slice B3 ys3.length d3] 58))) := T1.out.alloc _
  have hoks : Hid (∀ e ∈ [(⟨⟨o1, A1, c1, xs1⟩, ⟨u1, B1, d1, ys1⟩⟩ : Fe), ⟨⟨o2, A2, c2, xs2⟩, ⟨u2, B2, d2, ys2⟩⟩, ⟨⟨o3, A3, c3, xs3⟩, ⟨u3, B3, d3, ys3⟩⟩], e.Ok (w1.alloc (.cells #[.bool o1, .slice A1 xs1.length c1, .bool u1, .slice B1 ys1.length d1, .bool o2, .slice A2 xs2.length c2, .bool u2, .slice B2 ys2.length d2, .bool o3, .slice A3 xs3.length c3, .bool u3, .slice B3 ys3.length d3] 58))) := by
    intro e he
    simp only [List.mem_cons, List.not_mem_nil, or_false] at he
    rcases he with rfl | rfl | rfl
    · exact EX.out.over T2.out.below
    · exact EY.out.over T2.out.below
    · exact EZ.out.over T2.out.below
  go_wp2_with fail
  refine (odd2_any w1.heap.size 3 _ _ rfl (by omega) (by simp) hels.out hoks.out).mono ?_
  rintro e w2 ⟨rfl, hb2⟩
  have T3 := Lib.hid (Mem.over hb2 T2.out)
  clear C1 hels hoks hb1 hb2 HTAB T1 T2 HT
  cases hodd : List.any [(⟨⟨o1, A1, c1, xs1⟩, ⟨u1, B1, d1, ys1⟩⟩ : Fe), ⟨⟨o2, A2, c2, xs2⟩, ⟨u2, B2, d2, ys2⟩⟩, ⟨⟨o3, A3, c3, xs3⟩, ⟨u3, B3, d3, ys3⟩⟩] Fe.odd with
  | true =>
    go_wp2
    go_ret
    exact ⟨rfl, T3.out.below⟩
  | false =>
    have hall : Fe.odd ⟨⟨o1, A1, c1, xs1⟩, ⟨u1, B1, d1, ys1⟩⟩ = false ∧ Fe.odd ⟨⟨o2, A2, c2, xs2⟩, ⟨u2, B2, d2, ys2⟩⟩ = false ∧ Fe.odd ⟨⟨o3, A3, c3, xs3⟩, ⟨u3, B3, d3, ys3⟩⟩ = false := by
      simpa [List.any_cons, Bool.or_eq_false_iff] using hodd
    obtain ⟨x, hx⟩ : ∃ x, x = Fe.q ⟨⟨o1, A1, c1, xs1⟩, ⟨u1, B1, d1, ys1⟩⟩ := ⟨_, rfl⟩
    obtain ⟨y, hy⟩ : ∃ x, x = Fe.q ⟨⟨o2, A2, c2, xs2⟩, ⟨u2, B2, d2, ys2⟩⟩ := ⟨_, rfl⟩
    obtain ⟨z, hz⟩ : ∃ x, x = Fe.q ⟨⟨o3, A3, c3, xs3⟩, ⟨u3, B3, d3, ys3⟩⟩ := ⟨_, rfl⟩
    have IX : Hid (IsFr w 10 (.agg #[.bool o1, .slice A1 xs1.length c1, .bool u1, .slice B1 ys1.length d1]) x) := by
      have h := Fe.fr EX.out hall.1
      rw [← hx] at h
      exact h
    have IY : Hid (IsFr w 10 (.agg #[.bool o2, .slice A2 xs2.length c2, .bool u2, .slice B2 ys2.length d2]) y) := by
      have h := Fe.fr EY.out hall.2.1
      rw [← hy] at h
      exact h
    have IZ : Hid (IsFr w 10 (.agg #[.bool o3, .slice A3 xs3.length c3, .bool u3, .slice B3 ys3.length d3]) z) := by
      have h := Fe.fr EZ.out hall.2.2
      rw [← hz] at h
      exact h
    clear hodd hall hx hy hz EX EY EZ
    generalize xs2.length = l2 at *
    have E1 : Hid (x + y = y + x) := Rat.add_comm x y
    have E2 : Hid (x * y = y * x) := Rat.mul_comm x y
    have E3 : Hid (x * (y + z) = x * y + x * z) := Rat.mul_add x y z
    have E4 : Hid (x + y + -y = x) := by show _ = _; grind
    have HNY : Hid (0 < l2 → x * y / y = x) := fun h => by
      have h2 := int_len (fr_parts IY.out).1.out
      have h3 : y ≠ 0 := fun e => by
        have h4 := h2.1 (by rw [e]; rfl)
        omega
      rw [Rat.div_def, Rat.mul_assoc, Rat.mul_inv_cancel y h3, Rat.mul_one]
    go_upto_region 5 with (fail)
    go_cut [61] (fun sb wx => sb = .bool false ∧ Hid (Mem w [(w.heap.size, 58, [.bool o1, .slice A1 xs1.length c1, .bool u1, .slice B1 ys1.length d1]), (w.heap.size + 1, 58, [.bool o2, .slice A2 l2 c2, .bool u2, .slice B2 ys2.length d2]), (w.heap.size + 1 + 1, 58, [.bool o3, .slice A3 xs3.length c3, .bool u3, .slice B3 ys3.length d3])] wx))
    case first =>
      go_region_held3 (fun w' => (w'.cell? ⟨w.heap.size, 0, none⟩ = some (.bool o1) ∧ w'.cell? ⟨w.heap.size, 1, none⟩ = some (.slice A1 xs1.length c1) ∧ w'.cell? ⟨w.heap.size, 2, none⟩ = some (.bool u1) ∧ w'.cell? ⟨w.heap.size, 3, none⟩ = some (.slice B1 ys1.length d1) ∧ w'.cell? ⟨w.heap.size + 1, 0, none⟩ = some (.bool o2) ∧ w'.cell? ⟨w.heap.size + 1, 1, none⟩ = some (.slice A2 l2 c2) ∧ w'.cell? ⟨w.heap.size + 1, 2, none⟩ = some (.bool u2) ∧ w'.cell? ⟨w.heap.size + 1, 3, none⟩ = some (.slice B2 ys2.length d2) ∧ w'.cell? ⟨w.heap.size + 1 + 1, 0, none⟩ = some (.bool o3) ∧ w'.cell? ⟨w.heap.size + 1 + 1, 1, none⟩ = some (.slice A3 xs3.length c3) ∧ w'.cell? ⟨w.heap.size + 1 + 1, 2, none⟩ = some (.bool u3) ∧ w'.cell? ⟨w.heap.size + 1 + 1, 3, none⟩ = some (.slice B3 ys3.length d3)) ∧ (w'.frozen? ⟨w.heap.size, 0, none⟩ = false ∧ w'.frozen? ⟨w.heap.size, 1, none⟩ = false ∧ w'.frozen? ⟨w.heap.size, 2, none⟩ = false ∧ w'.frozen? ⟨w.heap.size, 3, none⟩ = false ∧ w'.frozen? ⟨w.heap.size + 1, 0, none⟩ = false ∧ w'.frozen? ⟨w.heap.size + 1, 1, none⟩ = false ∧ w'.frozen? ⟨w.heap.size + 1, 2, none⟩ = false ∧ w'.frozen? ⟨w.heap.size + 1, 3, none⟩ = false ∧ w'.frozen? ⟨w.heap.size + 1 + 1, 0, none⟩ = false ∧ w'.frozen? ⟨w.heap.size + 1 + 1, 1, none⟩ = false ∧ w'.frozen? ⟨w.heap.size + 1 + 1, 2, none⟩ = false ∧ w'.frozen? ⟨w.heap.size + 1 + 1, 3, none⟩ = false) ∧ Hid (Mem w [(w.heap.size, 58, [.bool o1, .slice A1 xs1.length c1, .bool u1, .slice B1 ys1.length d1]), (w.heap.size + 1, 58, [.bool o2, .slice A2 l2 c2, .bool u2, .slice B2 ys2.length d2]), (w.heap.size + 1 + 1, 58, [.bool o3, .slice A3 xs3.length c3, .bool u3, .slice B3 ys3.length d3])] w')) (first | (with_reducible exact A0.out _ T3.out.drew) | (with_reducible exact A0.out _ (Mem.over hb (Mem.get (by assumption))))) (first | (go_at_call_of 43 Pe; refine (fadd_any (p := 21) (by omega) (by omega) (hie.out.kept (by repeat' (first | (with_reducible exact Kept.refl _) | (with_reducible apply Kept.drew) | (with_reducible refine kept_over hbf ?_)))) ((hif.out.kept (by repeat' (first | (with_reducible exact Kept.refl _) | (with_reducible apply Kept.drew)))).more (by omega))).mono ?_; rintro e wg ⟨xg, Pg, ng, cg, yg, Qg, mg, dg, rfl, hig, hb⟩; have hbg := hb) | (go_at_call_of 43 Pb; refine (fadd_any (p := 20) (by omega) (by omega) (hib.out.kept (by repeat' (first | (with_reducible exact Kept.refl _) | (with_reducible apply Kept.drew) | (with_reducible refine kept_over hbc ?_)))) (hic.out.kept (by repeat' (first | (with_reducible exact Kept.refl _) | (with_reducible apply Kept.drew))))).mono ?_; rintro e wd ⟨xd, Pd, nd, cd, yd, Qd, md, dd, rfl, hid, hb⟩; have hbd := hb) | (go_at_call_of 43 A3; refine (fadd_any (p := 10) (by omega) (by omega) (IY.out.over (Mem.get (by assumption)).below) (IZ.out.over (Mem.get (by assumption)).below)).mono ?_; rintro e w9 ⟨x9, P9, n9, c9, y9, Q9, m9, d9, rfl, hi9, hb⟩; have hb9 := hb) | (have hpre := hid; clear hpre; go_at_call_of 43 A1; refine (fadd_any (p := 10) (by omega) (by omega) (IX.out.over (Mem.get (by assumption)).below) (IY.out.over (Mem.get (by assumption)).below)).mono ?_; rintro e we ⟨xe, Pe, ne, ce, ye, Qe, me, de, rfl, hie, hb⟩; have hbe := hb) | (have hpre := hi5; clear hpre; go_at_call_of 43 A1; refine (fadd_any (p := 10) (by omega) (by omega) (IY.out.over (Mem.get (by assumption)).below) (IX.out.over (Mem.get (by assumption)).below)).mono ?_; rintro e w6 ⟨x6, P6, n6, c6, y6, Q6, m6, d6, rfl, hi6, hb⟩; have hb6 := hb) | (go_at_call_of 43 A1; refine (fadd_any (p := 10) (by omega) (by omega) (IX.out.over (Mem.get (by assumption)).below) (IY.out.over (Mem.get (by assumption)).below)).mono ?_; rintro e w5 ⟨x5, P5, n5, c5, y5, Q5, m5, d5, rfl, hi5, hb⟩; have hb5 := hb) | (go_at_call_of 46 P9; refine (fmul_any (p := 21) (by omega) (by omega) ((IX.out.over (Mem.get (by assumption)).below).more (by omega)) (hi9.out.kept (by repeat' (first | (with_reducible exact Kept.refl _) | (with_reducible apply Kept.drew))))).mono ?_; rintro e wa ⟨xa, Pa, na, ca, ya, Qa, ma, da, rfl, hia, hb⟩; have hba := hb) | (go_at_call_of 46 A3; refine (fmul_any (p := 10) (by omega) (by omega) (IX.out.over (Mem.get (by assumption)).below) (IZ.out.over (Mem.get (by assumption)).below)).mono ?_; rintro e wc ⟨xc, Pc, nc, cc, yc, Qc, mc, dc, rfl, hic, hb⟩; have hbc := hb) | (have hpre := hi9; clear hpre; go_at_call_of 46 A1; refine (fmul_any (p := 10) (by omega) (by omega) (IX.out.over (Mem.get (by assumption)).below) (IY.out.over (Mem.get (by assumption)).below)).mono ?_; rintro e wb ⟨xb, Pb, nb, cb, yb, Qb, mb, db, rfl, hib, hb⟩; have hbb := hb) | (have hpre := hi7; clear hpre; go_at_call_of 46 A1; refine (fmul_any (p := 10) (by omega) (by omega) (IY.out.over (Mem.get (by assumption)).below) (IX.out.over (Mem.get (by assumption)).below)).mono ?_; rintro e w8 ⟨x8, P8, n8, c8, y8, Q8, m8, d8, rfl, hi8, hb⟩; have hb8 := hb) | (go_at_call_of 46 A1; refine (fmul_any (p := 10) (by omega) (by omega) (IX.out.over (Mem.get (by assumption)).below) (IY.out.over (Mem.get (by assumption)).below)).mono ?_; rintro e w7 ⟨x7, P7, n7, c7, y7, Q7, m7, d7, rfl, hi7, hb⟩; have hb7 := hb) | (go_at_call 50; refine (fracNeg_any (p := 10) (by omega) (IY.out.over (Mem.get (by assumption)).below)).mono ?_; rintro e wf ⟨xf, Pf, nf, cf, yf, Qf, mf, df, rfl, hif, hb⟩; have hbf := hb) | (go_at_call_of 42 Pg; refine (samefr_any (p := 43) (by omega) (hig.out.kept (by repeat' (first | (with_reducible exact Kept.refl _) | (with_reducible apply Kept.drew)))) ((IX.out.over (Mem.get (by assumption)).below).more (by omega)) E4.out).mono ?_; rintro e ws ⟨rfl, hb⟩; have hbs := hb) | (go_at_call_of 42 Pa; refine (samefr_any (p := 42) (by omega) (hia.out.kept (by repeat' (first | (with_reducible exact Kept.refl _) | (with_reducible apply Kept.drew) | (with_reducible refine kept_over hbd ?_) | (with_reducible refine kept_over hbc ?_) | (with_reducible refine kept_over hbb ?_)))) ((hid.out.kept (by repeat' (first | (with_reducible exact Kept.refl _) | (with_reducible apply Kept.drew)))).more (by omega)) E3.out).mono ?_; rintro e ws ⟨rfl, hb⟩; have hbs := hb) | (go_at_call_of 42 P7; refine (samefr_any (p := 20) (by omega) (hi7.out.kept (by repeat' (first | (with_reducible exact Kept.refl _) | (with_reducible apply Kept.drew) | (with_reducible refine kept_over hb8 ?_)))) (hi8.out.kept (by repeat' (first | (with_reducible exact Kept.refl _) | (with_reducible apply Kept.drew)))) E2.out).mono ?_; rintro e ws ⟨rfl, hb⟩; have hbs := hb) | (go_at_call_of 42 P5; refine (samefr_any (p := 21) (by omega) (hi5.out.kept (by repeat' (first | (with_reducible exact Kept.refl _) | (with_reducible apply Kept.drew) | (with_reducible refine kept_over hb6 ?_)))) (hi6.out.kept (by repeat' (first | (with_reducible exact Kept.refl _) | (with_reducible apply Kept.drew)))) E1.out).mono ?_; rintro e ws ⟨rfl, hb⟩; have hbs := hb))
      have T4 := Lib.hid (Mem.get (by assumption))
      go_wp2_with fail
      go_meet
      exact ⟨rfl, T4.out⟩
    obtain ⟨rfl, T4⟩ := hcut
    generalize hwc : wc = W4 at *
    clear hwc
    have C4 := (A0.out _ T4.out).1
    go_upto_region 7 with (fail)
    go_cut [76] (fun sb wx => sb = .bool false ∧ Hid (Mem w [(w.heap.size, 58, [.bool o1, .slice A1 xs1.length c1, .bool u1, .slice B1 ys1.length d1]), (w.heap.size + 1, 58, [.bool o2, .slice A2 l2 c2, .bool u2, .slice B2 ys2.length d2]), (w.heap.size + 1 + 1, 58, [.bool o3, .slice A3 xs3.length c3, .bool u3, .slice B3 ys3.length d3])] wx))
    case first =>
      by_cases hlen : 0 < l2
      · have hl : (0 : Int) < ((l2 : Nat) : Int) := by omega
        have hld : decide ((0 : Int) < ((l2 : Nat) : Int)) = true := decide_eq_true hl
        have hldn : decide (0 < l2) = true := decide_eq_true hlen
        have E5 : Hid (x * y / y = x) := HNY.out hlen
        clear C4
        go_region_held3 (fun w' => (w'.cell? ⟨w.heap.size, 0, none⟩ = some (.bool o1) ∧ w'.cell? ⟨w.heap.size, 1, none⟩ = some (.slice A1 xs1.length c1) ∧ w'.cell? ⟨w.heap.size, 2, none⟩ = some (.bool u1) ∧ w'.cell? ⟨w.heap.size, 3, none⟩ = some (.slice B1 ys1.length d1) ∧ w'.cell? ⟨w.heap.size + 1, 0, none⟩ = some (.bool o2) ∧ w'.cell? ⟨w.heap.size + 1, 1, none⟩ = some (.slice A2 l2 c2) ∧ w'.cell? ⟨w.heap.size + 1, 2, none⟩ = some (.bool u2) ∧ w'.cell? ⟨w.heap.size + 1, 3, none⟩ = some (.slice B2 ys2.length d2) ∧ w'.cell? ⟨w.heap.size + 1 + 1, 0, none⟩ = some (.bool o3) ∧ w'.cell? ⟨w.heap.size + 1 + 1, 1, none⟩ = some (.slice A3 xs3.length c3) ∧ w'.cell? ⟨w.heap.size + 1 + 1, 2, none⟩ = some (.bool u3) ∧ w'.cell? ⟨w.heap.size + 1 + 1, 3, none⟩ = some (.slice B3 ys3.length d3)) ∧ (w'.frozen? ⟨w.heap.size, 0, none⟩ = false ∧ w'.frozen? ⟨w.heap.size, 1, none⟩ = false ∧ w'.frozen? ⟨w.heap.size, 2, none⟩ = false ∧ w'.frozen? ⟨w.heap.size, 3, none⟩ = false ∧ w'.frozen? ⟨w.heap.size + 1, 0, none⟩ = false ∧ w'.frozen? ⟨w.heap.size + 1, 1, none⟩ = false ∧ w'.frozen? ⟨w.heap.size + 1, 2, none⟩ = false ∧ w'.frozen? ⟨w.heap.size + 1, 3, none⟩ = false ∧ w'.frozen? ⟨w.heap.size + 1 + 1, 0, none⟩ = false ∧ w'.frozen? ⟨w.heap.size + 1 + 1, 1, none⟩ = false ∧ w'.frozen? ⟨w.heap.size + 1 + 1, 2, none⟩ = false ∧ w'.frozen? ⟨w.heap.size + 1 + 1, 3, none⟩ = false) ∧ Hid (Mem w [(w.heap.size, 58, [.bool o1, .slice A1 xs1.length c1, .bool u1, .slice B1 ys1.length d1]), (w.heap.size + 1, 58, [.bool o2, .slice A2 l2 c2, .bool u2, .slice B2 ys2.length d2]), (w.heap.size + 1 + 1, 58, [.bool o3, .slice A3 xs3.length c3, .bool u3, .slice B3 ys3.length d3])] w')) (first | (with_reducible exact A0.out _ T4.out.drew) | (with_reducible exact A0.out _ (Mem.over hb (Mem.get (by assumption))))) (first | (go_at_call_of 46 A1; refine (fmul_any (p := 10) (by omega) (by omega) (IX.out.over (Mem.get (by assumption)).below) (IY.out.over (Mem.get (by assumption)).below)).mono ?_; rintro e wh ⟨xh, Ph, nh, ch, yh, Qh, mh, dh, rfl, hih, hb⟩; have hbh := hb) | (go_at_call_of 48 Ph; refine (fdiv_any (p := 20) (by omega) (by omega) (hih.out.kept (by repeat' (first | (with_reducible exact Kept.refl _) | (with_reducible apply Kept.drew)))) ((IY.out.over (Mem.get (by assumption)).below).more (by omega))).mono ?_; rintro e wi ⟨xi, Pi, ni, ci, yi, Qi, mi, di, rfl, hii, hb⟩; have hbi := hb) | (go_at_call_of 42 Pi; refine (samefr_any (p := 40) (by omega) (hii.out.kept (by repeat' (first | (with_reducible exact Kept.refl _) | (with_reducible apply Kept.drew)))) ((IX.out.over (Mem.get (by assumption)).below).more (by omega)) E5.out).mono ?_; rintro e ws ⟨rfl, hb⟩; have hbs := hb))
        have T5 := Lib.hid (Mem.get (by assumption))
        go_wp2_with fail
        go_meet
        exact ⟨rfl, T5.out⟩
      · have hl : ¬ (0 : Int) < ((l2 : Nat) : Int) := by omega
        have hld : decide ((0 : Int) < ((l2 : Nat) : Int)) = false := decide_eq_false hl
        have hldn : decide (0 < l2) = false := decide_eq_false hlen
        go_quiet (fail)
        go_wp2_with fail
        go_meet
        exact ⟨rfl, T4.out.drewN _⟩
    obtain ⟨rfl, T5⟩ := hcut
    generalize hwc : wc = W5 at *
    clear hwc C4
    have C5 := (A0.out _ T5.out).1
    obtain ⟨r, r1, hr, hr1, hcase⟩ := floor_cases x
    have HFD := Lib.hid hr
    have HC1 := Lib.hid hr1
    have HC2 := Lib.hid (floor_next x)
    obtain ⟨c0, hc0⟩ : ∃ c, cmpR x y = c := ⟨_, rfl⟩
    have HC0 := Lib.hid hc0
    have HCZ : Hid (cmpR (x + z) (y + z) = c0) := by show _ = _; rw [cmpR_add, hc0]
    clear hr hr1 hc0 E1 E2 E3 E4 HNY
    rcases hcase with ⟨rfl, rfl⟩ | ⟨rfl, rfl⟩
    all_goals
      go_wp2_with fail
      refine (floor_any (p := 10) (by omega) (IX.out.over T5.out.below) HFD.out).mono ?_
      rintro e w6 ⟨x6, A6, n6, c6, rfl, hi6, hb6⟩
      have T6 : Hid (Mem w [(w.heap.size, 58, [.bool o1, .slice A1 xs1.length c1, .bool u1, .slice B1 ys1.length d1]), (w.heap.size + 1, 58, [.bool o2, .slice A2 l2 c2, .bool u2, .slice B2 ys2.length d2]), (w.heap.size + 1 + 1, 58, [.bool o3, .slice A3 xs3.length c3, .bool u3, .slice B3 ys3.length d3]), (w6.heap.size, 24, [.bool x6, .slice A6 n6 c6])] (w6.alloc (.cells #[.bool x6, .slice A6 n6 c6] 24))) := (Mem.over hb6 T5.out).push rfl 24 [.bool x6, .slice A6 n6 c6] rfl
      have I6 : Hid (IsInt (w6.alloc (.cells #[.bool x6, .slice A6 n6 c6] 24)) (w6.alloc (.cells #[.bool x6, .slice A6 n6 c6] 24)).heap.size 12 (.agg #[.bool x6, .slice A6 n6 c6]) x.floor) := hi6.out.kept ((Kept.refl _).alloc _)
      have A6H : Hid (∀ w' : World, Mem w [(w.heap.size, 58, [.bool o1, .slice A1 xs1.length c1, .bool u1, .slice B1 ys1.length d1]), (w.heap.size + 1, 58, [.bool o2, .slice A2 l2 c2, .bool u2, .slice B2 ys2.length d2]), (w.heap.size + 1 + 1, 58, [.bool o3, .slice A3 xs3.length c3, .bool u3, .slice B3 ys3.length d3]), (w6.heap.size, 24, [.bool x6, .slice A6 n6 c6])] w' → (w'.cell? ⟨w.heap.size, 0, none⟩ = some (.bool o1) ∧ w'.cell? ⟨w.heap.size, 1, none⟩ = some (.slice A1 xs1.length c1) ∧ w'.cell? ⟨w.heap.size, 2, none⟩ = some (.bool u1) ∧ w'.cell? ⟨w.heap.size, 3, none⟩ = some (.slice B1 ys1.length d1) ∧ w'.cell? ⟨w.heap.size + 1, 0, none⟩ = some (.bool o2) ∧ w'.cell? ⟨w.heap.size + 1, 1, none⟩ = some (.slice A2 l2 c2) ∧ w'.cell? ⟨w.heap.size + 1, 2, none⟩ = some (.bool u2) ∧ w'.cell? ⟨w.heap.size + 1, 3, none⟩ = some (.slice B2 ys2.length d2) ∧ w'.cell? ⟨w.heap.size + 1 + 1, 0, none⟩ = some (.bool o3) ∧ w'.cell? ⟨w.heap.size + 1 + 1, 1, none⟩ = some (.slice A3 xs3.length c3) ∧ w'.cell? ⟨w.heap.size + 1 + 1, 2, none⟩ = some (.bool u3) ∧ w'.cell? ⟨w.heap.size + 1 + 1, 3, none⟩ = some (.slice B3 ys3.length d3) ∧ w'.cell? ⟨w6.heap.size, 0, none⟩ = some (.bool x6) ∧ w'.cell? ⟨w6.heap.size, 1, none⟩ = some (.slice A6 n6 c6)) ∧ (w'.frozen? ⟨w.heap.size, 0, none⟩ = false ∧ w'.frozen? ⟨w.heap.size, 1, none⟩ = false ∧ w'.frozen? ⟨w.heap.size, 2, none⟩ = false ∧ w'.frozen? ⟨w.heap.size, 3, none⟩ = false ∧ w'.frozen? ⟨w.heap.size + 1, 0, none⟩ = false ∧ w'.frozen? ⟨w.heap.size + 1, 1, none⟩ = false ∧ w'.frozen? ⟨w.heap.size + 1, 2, none⟩ = false ∧ w'.frozen? ⟨w.heap.size + 1, 3, none⟩ = false ∧ w'.frozen? ⟨w.heap.size + 1 + 1, 0, none⟩ = false ∧ w'.frozen? ⟨w.heap.size + 1 + 1, 1, none⟩ = false ∧ w'.frozen? ⟨w.heap.size + 1 + 1, 2, none⟩ = false ∧ w'.frozen? ⟨w.heap.size + 1 + 1, 3, none⟩ = false ∧ w'.frozen? ⟨w6.heap.size, 0, none⟩ = false ∧ w'.frozen? ⟨w6.heap.size, 1, none⟩ = false) ∧ Hid (Mem w [(w.heap.size, 58, [.bool o1, .slice A1 xs1.length c1, .bool u1, .slice B1 ys1.length d1]), (w.heap.size + 1, 58, [.bool o2, .slice A2 l2 c2, .bool u2, .slice B2 ys2.length d2]), (w.heap.size + 1 + 1, 58, [.bool o3, .slice A3 xs3.length c3, .bool u3, .slice B3 ys3.length d3]), (w6.heap.size, 24, [.bool x6, .slice A6 n6 c6])] w')) := fun w' h => ⟨⟨h.c 0 rfl 0 rfl, h.c 0 rfl 1 rfl, h.c 0 rfl 2 rfl, h.c 0 rfl 3 rfl, h.c 1 rfl 0 rfl, h.c 1 rfl 1 rfl, h.c 1 rfl 2 rfl, h.c 1 rfl 3 rfl, h.c 2 rfl 0 rfl, h.c 2 rfl 1 rfl, h.c 2 rfl 2 rfl, h.c 2 rfl 3 rfl, h.c 3 rfl 0 rfl, h.c 3 rfl 1 rfl⟩, ⟨h.f 0 rfl 0, h.f 0 rfl 1, h.f 0 rfl 2, h.f 0 rfl 3, h.f 1 rfl 0, h.f 1 rfl 1, h.f 1 rfl 2, h.f 1 rfl 3, h.f 2 rfl 0, h.f 2 rfl 1, h.f 2 rfl 2, h.f 2 rfl 3, h.f 3 rfl 0, h.f 3 rfl 1⟩, h⟩
      have C6 := (A6H.out _ T6.out).1
      clear C5
      go_wp2_with fail
      refine (fracOf_any (p := 12) (by omega) I6.out).mono ?_
      rintro e w7 ⟨x7, P7, n7, c7, y7, Q7, m7, d7, rfl, hi7, hb7⟩
      have T7 : Hid (Mem w [(w.heap.size, 58, [.bool o1, .slice A1 xs1.length c1, .bool u1, .slice B1 ys1.length d1]), (w.heap.size + 1, 58, [.bool o2, .slice A2 l2 c2, .bool u2, .slice B2 ys2.length d2]), (w.heap.size + 1 + 1, 58, [.bool o3, .slice A3 xs3.length c3, .bool u3, .slice B3 ys3.length d3]), (w6.heap.size, 24, [.bool x6, .slice A6 n6 c6]), (w7.heap.size, 58, [.bool x7, .slice P7 n7 c7, .bool y7, .slice Q7 m7 d7])] (w7.alloc (.cells #[.bool x7, .slice P7 n7 c7, .bool y7, .slice Q7 m7 d7] 58))) := (Mem.over hb7 T6.out).push rfl 58 [.bool x7, .slice P7 n7 c7, .bool y7, .slice Q7 m7 d7] rfl
      have I7 : Hid (IsFr (w7.alloc (.cells #[.bool x7, .slice P7 n7 c7, .bool y7, .slice Q7 m7 d7] 58)) 12 (.agg #[.bool x7, .slice P7 n7 c7, .bool y7, .slice Q7 m7 d7]) ((x.floor : Int) : Rat)) := hi7.out.kept ((Kept.refl _).alloc _)
      have KX := Lib.hid (IX.out.over T7.out.below)
      have KY := Lib.hid (IY.out.over T7.out.below)
      have KZ := Lib.hid (IZ.out.over T7.out.below)
      clear C6 I6
      go_wp2
      generalize hW : (w7.alloc (.cells #[.bool x7, .slice P7 n7 c7, .bool y7, .slice Q7 m7 d7] 58)) = W7 at *
      clear hW
      have AV : Hid (∀ w' : World, Lo W7 w' → (w'.cell? ⟨w.heap.size, 0, none⟩ = some (.bool o1) ∧ w'.cell? ⟨w.heap.size, 1, none⟩ = some (.slice A1 xs1.length c1) ∧ w'.cell? ⟨w.heap.size, 2, none⟩ = some (.bool u1) ∧ w'.cell? ⟨w.heap.size, 3, none⟩ = some (.slice B1 ys1.length d1) ∧ w'.cell? ⟨w.heap.size + 1, 0, none⟩ = some (.bool o2) ∧ w'.cell? ⟨w.heap.size + 1, 1, none⟩ = some (.slice A2 l2 c2) ∧ w'.cell? ⟨w.heap.size + 1, 2, none⟩ = some (.bool u2) ∧ w'.cell? ⟨w.heap.size + 1, 3, none⟩ = some (.slice B2 ys2.length d2) ∧ w'.cell? ⟨w.heap.size + 1 + 1, 0, none⟩ = some (.bool o3) ∧ w'.cell? ⟨w.heap.size + 1 + 1, 1, none⟩ = some (.slice A3 xs3.length c3) ∧ w'.cell? ⟨w.heap.size + 1 + 1, 2, none⟩ = some (.bool u3) ∧ w'.cell? ⟨w.heap.size + 1 + 1, 3, none⟩ = some (.slice B3 ys3.length d3) ∧ w'.cell? ⟨w6.heap.size, 0, none⟩ = some (.bool x6) ∧ w'.cell? ⟨w6.heap.size, 1, none⟩ = some (.slice A6 n6 c6) ∧ w'.cell? ⟨w7.heap.size, 0, none⟩ = some (.bool x7) ∧ w'.cell? ⟨w7.heap.size, 1, none⟩ = some (.slice P7 n7 c7) ∧ w'.cell? ⟨w7.heap.size, 2, none⟩ = some (.bool y7) ∧ w'.cell? ⟨w7.heap.size, 3, none⟩ = some (.slice Q7 m7 d7)) ∧ Hid (Lo W7 w')) := fun w' h => ⟨⟨h.c (T7.out.lt 0 rfl) (T7.out.c 0 rfl 0 rfl), h.c (T7.out.lt 0 rfl) (T7.out.c 0 rfl 1 rfl), h.c (T7.out.lt 0 rfl) (T7.out.c 0 rfl 2 rfl), h.c (T7.out.lt 0 rfl) (T7.out.c 0 rfl 3 rfl), h.c (T7.out.lt 1 rfl) (T7.out.c 1 rfl 0 rfl), h.c (T7.out.lt 1 rfl) (T7.out.c 1 rfl 1 rfl), h.c (T7.out.lt 1 rfl) (T7.out.c 1 rfl 2 rfl), h.c (T7.out.lt 1 rfl) (T7.out.c 1 rfl 3 rfl), h.c (T7.out.lt 2 rfl) (T7.out.c 2 rfl 0 rfl), h.c (T7.out.lt 2 rfl) (T7.out.c 2 rfl 1 rfl), h.c (T7.out.lt 2 rfl) (T7.out.c 2 rfl 2 rfl), h.c (T7.out.lt 2 rfl) (T7.out.c 2 rfl 3 rfl), h.c (T7.out.lt 3 rfl) (T7.out.c 3 rfl 0 rfl), h.c (T7.out.lt 3 rfl) (T7.out.c 3 rfl 1 rfl), h.c (T7.out.lt 4 rfl) (T7.out.c 4 rfl 0 rfl), h.c (T7.out.lt 4 rfl) (T7.out.c 4 rfl 1 rfl), h.c (T7.out.lt 4 rfl) (T7.out.c 4 rfl 2 rfl), h.c (T7.out.lt 4 rfl) (T7.out.c 4 rfl 3 rfl)⟩, h⟩
      go_region_held3 (fun w' => (w'.cell? ⟨w.heap.size, 0, none⟩ = some (.bool o1) ∧ w'.cell? ⟨w.heap.size, 1, none⟩ = some (.slice A1 xs1.length c1) ∧ w'.cell? ⟨w.heap.size, 2, none⟩ = some (.bool u1) ∧ w'.cell? ⟨w.heap.size, 3, none⟩ = some (.slice B1 ys1.length d1) ∧ w'.cell? ⟨w.heap.size + 1, 0, none⟩ = some (.bool o2) ∧ w'.cell? ⟨w.heap.size + 1, 1, none⟩ = some (.slice A2 l2 c2) ∧ w'.cell? ⟨w.heap.size + 1, 2, none⟩ = some (.bool u2) ∧ w'.cell? ⟨w.heap.size + 1, 3, none⟩ = some (.slice B2 ys2.length d2) ∧ w'.cell? ⟨w.heap.size + 1 + 1, 0, none⟩ = some (.bool o3) ∧ w'.cell? ⟨w.heap.size + 1 + 1, 1, none⟩ = some (.slice A3 xs3.length c3) ∧ w'.cell? ⟨w.heap.size + 1 + 1, 2, none⟩ = some (.bool u3) ∧ w'.cell? ⟨w.heap.size + 1 + 1, 3, none⟩ = some (.slice B3 ys3.length d3) ∧ w'.cell? ⟨w6.heap.size, 0, none⟩ = some (.bool x6) ∧ w'.cell? ⟨w6.heap.size, 1, none⟩ = some (.slice A6 n6 c6) ∧ w'.cell? ⟨w7.heap.size, 0, none⟩ = some (.bool x7) ∧ w'.cell? ⟨w7.heap.size, 1, none⟩ = some (.slice P7 n7 c7) ∧ w'.cell? ⟨w7.heap.size, 2, none⟩ = some (.bool y7) ∧ w'.cell? ⟨w7.heap.size, 3, none⟩ = some (.slice Q7 m7 d7)) ∧ Hid (Lo W7 w')) (first | (with_reducible exact AV.out _ (Lo.mk (Below.refl _ _).drew)) | (with_reducible exact AV.out _ (Lo.over hb (Lo.get (by assumption))))) (first | (go_at_call_of 52 Pe; refine (fcmpr_any (p := 21) (by omega) (hie.out.kept (by repeat' (first | (with_reducible exact Kept.refl _) | (with_reducible apply Kept.drew) | (with_reducible refine kept_over hbf ?_)))) (hif.out.kept (by repeat' (first | (with_reducible exact Kept.refl _) | (with_reducible apply Kept.drew)))) HCZ.out).mono ?_; rintro e ws ⟨rfl, hb⟩; have hbs := hb) | (go_at_call_of 52 Pd; refine (fcmpr_any (p := 25) (by omega) ((KX.out.over (Lo.get (by assumption)).below).more (by omega)) (hid.out.kept (by repeat' (first | (with_reducible exact Kept.refl _) | (with_reducible apply Kept.drew)))) HC2.out).mono ?_; rintro e ws ⟨rfl, hb⟩; have hbs := hb) | (go_at_call_of 52 P7; refine (fcmpr_any (p := 12) (by omega) (I7.out.over (Lo.get (by assumption)).below) ((KX.out.over (Lo.get (by assumption)).below).more (by omega)) HC1.out).mono ?_; rintro e ws ⟨rfl, hb⟩; have hbs := hb) | (go_at_call_of 52 A2; refine (fcmpr_any (p := 10) (by omega) (KX.out.over (Lo.get (by assumption)).below) (KY.out.over (Lo.get (by assumption)).below) HC0.out).mono ?_; rintro e ws ⟨rfl, hb⟩; have hbs := hb) | (go_at_call_of 43 P7; refine (fadd_any (p := 12) (by omega) (by omega) (I7.out.over (Lo.get (by assumption)).below) ((hic.out.kept (by repeat' (first | (with_reducible exact Kept.refl _) | (with_reducible apply Kept.drew)))).more (by omega))).mono ?_; rintro e wd ⟨xd, Pd, nd, cd, yd, Qd, md, dd, rfl, hid, hb⟩; have hbd := hb) | (go_at_call_of 43 A1; refine (fadd_any (p := 10) (by omega) (by omega) (KX.out.over (Lo.get (by assumption)).below) (KZ.out.over (Lo.get (by assumption)).below)).mono ?_; rintro e we ⟨xe, Pe, ne, ce, ye, Qe, me, de, rfl, hie, hb⟩; have hbe := hb) | (go_at_call_of 43 A2; refine (fadd_any (p := 10) (by omega) (by omega) (KY.out.over (Lo.get (by assumption)).below) (KZ.out.over (Lo.get (by assumption)).below)).mono ?_; rintro e wf ⟨xf, Pf, nf, cf, yf, Qf, mf, df, rfl, hif, hb⟩; have hbf := hb) | (go_at_call 34; refine (ofZ_any 1 _ (by omega) (by omega)).mono ?_; rintro e wb ⟨xb, Ab, nb, cb, rfl, hib, hb⟩; have hbb := hb) | (go_at_call 60; refine (fracOf_any (p := 3) (by omega) (hib.out.kept (by repeat' (first | (with_reducible exact Kept.refl _) | (with_reducible apply Kept.drew))))).mono ?_; rintro e wc ⟨xc, Pc, nc, cc', yc, Qc, mc, dc, rfl, hic, hb⟩; have hbc := hb))
      have TE := Lib.hid (Lo.get (by assumption)).below
      go_wp2
      (try simp only [Exit.inBlock, Exit.then])
      go_ret
      exact ⟨rfl, T7.out.below.trans (TE.out.mono T7.out.below.size)⟩
end Go.Proofs.YtpikbhcjgcbdfaaDoor.wh
