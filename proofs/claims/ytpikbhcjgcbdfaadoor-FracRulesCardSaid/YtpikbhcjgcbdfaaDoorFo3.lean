/- The statement FracOrder: the walk of its function. -/
import Derived.Test.YtpikbhcjgcbdfaaDoorFo2
import Derived.Deep.DeepCutAuto
namespace Go.Proofs.YtpikbhcjgcbdfaaDoor.wh
open Go.RowKit

theorem cmpR_le0 {x : Rat} (h : ¬ 0 < x) : cmpR x 0 ≤ 0 := by
  unfold cmpR
  rw [if_neg h]
  split <;> omega
structure Lo (V w' : World) : Prop where
  below : Below V.heap.size V w'
theorem Lo.get {V w' : World} {P : Prop} (h : P ∧ Hid (Lo V w')) : Lo V w' := h.2.out
theorem Lo.over {V w' w1 : World} (hb : Hid (Below w'.heap.size w' w1)) (h : Lo V w') : Lo V w1 := ⟨h.below.trans (hb.out.mono h.below.size)⟩
theorem Lo.c {V w' : World} (h : Lo V w') {g j : Nat} {v : Option Value} (hg : g < V.heap.size) (hc : V.cell? ⟨g, j, none⟩ = v) : w'.cell? ⟨g, j, none⟩ = v := (h.below.cell (p := ⟨g, j, none⟩) hg).trans hc

set_option maxRecDepth 100000 in
set_option maxHeartbeats 8000000 in
theorem ford_any (ex ey ez : Fe) (w : World) (hx : ex.Ok w) (hy : ey.Ok w) (hz : ez.Ok w) (htab : Tab w) :
    Calls Tryd.prog 10 #[ex.val, ey.val, ez.val] w fun e w' => e = .returned (.bool true) ∧ Below w.heap.size w w' := by
  have EX := Lib.hid hx
  have EY := Lib.hid hy
  have EZ := Lib.hid hz
  have HTAB := Lib.hid htab
  clear hx hy hz htab
  obtain ⟨⟨o1, A1, c1, xs1⟩, ⟨u1, B1, d1, ys1⟩⟩ := ex
  obtain ⟨⟨o2, A2, c2, xs2⟩, ⟨u2, B2, d2, ys2⟩⟩ := ey
  obtain ⟨⟨o3, A3, c3, xs3⟩, ⟨u3, B3, d3, ys3⟩⟩ := ez
  simp only [Fe.val] at *
  have HT : Hid (Mem w [(w.heap.size, 58, [.bool o1, .slice A1 xs1.length c1, .bool u1, .slice B1 ys1.length d1]), (w.heap.size + 1, 58, [.bool o2, .slice A2 xs2.length c2, .bool u2, .slice B2 ys2.length d2]), (w.heap.size + 1 + 1, 58, [.bool o3, .slice A3 xs3.length c3, .bool u3, .slice B3 ys3.length d3])] (((w.alloc (.cells #[.bool o1, .slice A1 xs1.length c1, .bool u1, .slice B1 ys1.length d1] 58)).alloc (.cells #[.bool o2, .slice A2 xs2.length c2, .bool u2, .slice B2 ys2.length d2] 58)).alloc (.cells #[.bool o3, .slice A3 xs3.length c3, .bool u3, .slice B3 ys3.length d3] 58))) := ((((Mem.new w).push (by simp) 58 [.bool o1, .slice A1 xs1.length c1, .bool u1, .slice B1 ys1.length d1] rfl).push (by simp) 58 [.bool o2, .slice A2 xs2.length c2, .bool u2, .slice B2 ys2.length d2] rfl).push (by simp) 58 [.bool o3, .slice A3 xs3.length c3, .bool u3, .slice B3 ys3.length d3] rfl)
  have A0 : Hid (∀ w' : World, Mem w [(w.heap.size, 58, [.bool o1, .slice A1 xs1.length c1, .bool u1, .slice B1 ys1.length d1]), (w.heap.size + 1, 58, [.bool o2, .slice A2 xs2.length c2, .bool u2, .slice B2 ys2.length d2]), (w.heap.size + 1 + 1, 58, [.bool o3, .slice A3 xs3.length c3, .bool u3, .slice B3 ys3.length d3])] w' → (w'.cell? ⟨w.heap.size, 0, none⟩ = some (.bool o1) ∧ w'.cell? ⟨w.heap.size, 1, none⟩ = some (.slice A1 xs1.length c1) ∧ w'.cell? ⟨w.heap.size, 2, none⟩ = some (.bool u1) ∧ w'.cell? ⟨w.heap.size, 3, none⟩ = some (.slice B1 ys1.length d1) ∧ w'.cell? ⟨w.heap.size + 1, 0, none⟩ = some (.bool o2) ∧ w'.cell? ⟨w.heap.size + 1, 1, none⟩ = some (.slice A2 xs2.length c2) ∧ w'.cell? ⟨w.heap.size + 1, 2, none⟩ = some (.bool u2) ∧ w'.cell? ⟨w.heap.size + 1, 3, none⟩ = some (.slice B2 ys2.length d2) ∧ w'.cell? ⟨w.heap.size + 1 + 1, 0, none⟩ = some (.bool o3) ∧ w'.cell? ⟨w.heap.size + 1 + 1, 1, none⟩ = some (.slice A3 xs3.length c3) ∧ w'.cell? ⟨w.heap.size + 1 + 1, 2, none⟩ = some (.bool u3) ∧ w'.cell? ⟨w.heap.size + 1 + 1, 3, none⟩ = some (.slice B3 ys3.length d3)) ∧ (w'.frozen? ⟨w.heap.size, 0, none⟩ = false ∧ w'.frozen? ⟨w.heap.size, 1, none⟩ = false ∧ w'.frozen? ⟨w.heap.size, 2, none⟩ = false ∧ w'.frozen? ⟨w.heap.size, 3, none⟩ = false ∧ w'.frozen? ⟨w.heap.size + 1, 0, none⟩ = false ∧ w'.frozen? ⟨w.heap.size + 1, 1, none⟩ = false ∧ w'.frozen? ⟨w.heap.size + 1, 2, none⟩ = false ∧ w'.frozen? ⟨w.heap.size + 1, 3, none⟩ = false ∧ w'.frozen? ⟨w.heap.size + 1 + 1, 0, none⟩ = false ∧ w'.frozen? ⟨w.heap.size + 1 + 1, 1, none⟩ = false ∧ w'.frozen? ⟨w.heap.size + 1 + 1, 2, none⟩ = false ∧ w'.frozen? ⟨w.heap.size + 1 + 1, 3, none⟩ = false) ∧ Hid (Mem w [(w.heap.size, 58, [.bool o1, .slice A1 xs1.length c1, .bool u1, .slice B1 ys1.length d1]), (w.heap.size + 1, 58, [.bool o2, .slice A2 xs2.length c2, .bool u2, .slice B2 ys2.length d2]), (w.heap.size + 1 + 1, 58, [.bool o3, .slice A3 xs3.length c3, .bool u3, .slice B3 ys3.length d3])] w')) := fun w' h => ⟨⟨h.c 0 rfl 0 rfl, h.c 0 rfl 1 rfl, h.c 0 rfl 2 rfl, h.c 0 rfl 3 rfl, h.c 1 rfl 0 rfl, h.c 1 rfl 1 rfl, h.c 1 rfl 2 rfl, h.c 1 rfl 3 rfl, h.c 2 rfl 0 rfl, h.c 2 rfl 1 rfl, h.c 2 rfl 2 rfl, h.c 2 rfl 3 rfl⟩, ⟨h.f 0 rfl 0, h.f 0 rfl 1, h.f 0 rfl 2, h.f 0 rfl 3, h.f 1 rfl 0, h.f 1 rfl 1, h.f 1 rfl 2, h.f 1 rfl 3, h.f 2 rfl 0, h.f 2 rfl 1, h.f 2 rfl 2, h.f 2 rfl 3⟩, h⟩
  go_enter Tryd.func10, Tryd.ntmps10
  go_wp2_with fail
  refine (speaks2_any _ (HTAB.out.below HT.out.below)).mono ?_
  rintro e w1 ⟨rfl, hb1⟩
  have T1 := Lib.hid (Mem.over hb1 HT.out)
  have C1 := (A0.out _ T1.out).1
  have hels : Hid (FesAt (w1.alloc (.cells #[.bool o1, .slice A1 xs1.length c1, .bool u1, .slice B1 ys1.length d1, .bool o2, .slice A2 xs2.length c2, .bool u2, .slice B2 ys2.length d2, .bool o3, .slice A3 xs3.length c3, .bool u3, .slice B3 ys3.length d3] 58)) w1.heap.size [(⟨⟨o1, A1, c1, xs1⟩, ⟨u1, B1, d1, ys1⟩⟩ : Fe), ⟨⟨o2, A2, c2, xs2⟩, ⟨u2, B2, d2, ys2⟩⟩, ⟨⟨o3, A3, c3, xs3⟩, ⟨u3, B3, d3, ys3⟩⟩]) := by
    have hblk := Blk.new w1 58 #[.bool o1, .slice A1 xs1.length c1, .bool u1, .slice B1 ys1.length d1, .bool o2, .slice A2 xs2.length c2, .bool u2, .slice B2 ys2.length d2, .bool o3, .slice A3 xs3.length c3, .bool u3, .slice B3 ys3.length d3]
    intro i hi
    match i, hi with
    | 0, _ => exact ⟨by rw [hblk.cell]; rfl, by rw [hblk.cell]; rfl, by rw [hblk.cell]; rfl, by rw [hblk.cell]; rfl⟩
    | 1, _ => exact ⟨by rw [hblk.cell]; rfl, by rw [hblk.cell]; rfl, by rw [hblk.cell]; rfl, by rw [hblk.cell]; rfl⟩
    | 2, _ => exact ⟨by rw [hblk.cell]; rfl, by rw [hblk.cell]; rfl, by rw [hblk.cell]; rfl, by rw [hblk.cell]; rfl⟩
  have T2 : Hid (Mem w [(w.heap.size, 58, [.bool o1, .slice A1 xs1.length c1, .bool u1, .slice B1 ys1.length d1]), (w.heap.size + 1, 58, [.bool o2, .slice A2 xs2.length c2, .bool u2, .slice B2 ys2.length d2]), (w.heap.size + 1 + 1, 58, [.bool o3, .slice A3 xs3.length c3, .bool u3, .slice B3 ys3.length d3])] (w1.alloc (.cells #[.bool o1, .slice A1 xs1.length c1, .bool u1, .slice B1 ys1.length d1, .bool o2, .slice A2 xs2.length c2, .bool u2, .slice B2 ys2.length d2, .bool o3, .slice A3 xs3.length c3, .bool u3, .slice B3 ys3.length d3] 58))) := T1.out.alloc _
  have hoks : Hid (∀ e ∈ [(⟨⟨o1, A1, c1, xs1⟩, ⟨u1, B1, d1, ys1⟩⟩ : Fe), ⟨⟨o2, A2, c2, xs2⟩, ⟨u2, B2, d2, ys2⟩⟩, ⟨⟨o3, A3, c3, xs3⟩, ⟨u3, B3, d3, ys3⟩⟩], e.Ok (w1.alloc (.cells #[.bool o1, .slice A1 xs1.length c1, .bool u1, .slice B1 ys1.length d1, .bool o2, .slice A2 xs2.length c2, .bool u2, .slice B2 ys2.length d2, .bool o3, .slice A3 xs3.length c3, .bool u3, .slice B3 ys3.length d3] 58))) := by
    intro e he
    simp only [List.mem_cons, List.not_mem_nil, or_false] at he
    rcases he with rfl | rfl | rfl
    · exact EX.out.over T2.out.below
    · exact EY.out.over T2.out.below
    · exact EZ.out.over T2.out.below
  go_wp2_with fail
  refine (odd2_any w1.heap.size 3 _ _ rfl (by omega) (by simp) hels.out hoks.out).mono ?_
  rintro e w2 ⟨rfl, hb2⟩
  have T3 := Lib.hid (Mem.over hb2 T2.out)
  clear C1 hels hoks hb1 hb2 HTAB T1 T2 HT
  cases hodd : List.any [(⟨⟨o1, A1, c1, xs1⟩, ⟨u1, B1, d1, ys1⟩⟩ : Fe), ⟨⟨o2, A2, c2, xs2⟩, ⟨u2, B2, d2, ys2⟩⟩, ⟨⟨o3, A3, c3, xs3⟩, ⟨u3, B3, d3, ys3⟩⟩] Fe.odd with
  | true =>
    go_wp2
    go_ret
    exact ⟨rfl, T3.out.below⟩
  | false =>
    have hall : Fe.odd ⟨⟨o1, A1, c1, xs1⟩, ⟨u1, B1, d1, ys1⟩⟩ = false ∧ Fe.odd ⟨⟨o2, A2, c2, xs2⟩, ⟨u2, B2, d2, ys2⟩⟩ = false ∧ Fe.odd ⟨⟨o3, A3, c3, xs3⟩, ⟨u3, B3, d3, ys3⟩⟩ = false := by
      simpa [List.any_cons, Bool.or_eq_false_iff] using hodd
    obtain ⟨x, hx⟩ : ∃ x, x = Fe.q ⟨⟨o1, A1, c1, xs1⟩, ⟨u1, B1, d1, ys1⟩⟩ := ⟨_, rfl⟩
    obtain ⟨y, hy⟩ : ∃ x, x = Fe.q ⟨⟨o2, A2, c2, xs2⟩, ⟨u2, B2, d2, ys2⟩⟩ := ⟨_, rfl⟩
    obtain ⟨z, hz⟩ : ∃ x, x = Fe.q ⟨⟨o3, A3, c3, xs3⟩, ⟨u3, B3, d3, ys3⟩⟩ := ⟨_, rfl⟩
    have IX : Hid (IsFr w 10 (.agg #[.bool o1, .slice A1 xs1.length c1, .bool u1, .slice B1 ys1.length d1]) x) := by
      have h := Fe.fr EX.out hall.1
      rw [← hx] at h
      exact h
    have IY : Hid (IsFr w 10 (.agg #[.bool o2, .slice A2 xs2.length c2, .bool u2, .slice B2 ys2.length d2]) y) := by
      have h := Fe.fr EY.out hall.2.1
      rw [← hy] at h
      exact h
    have IZ : Hid (IsFr w 10 (.agg #[.bool o3, .slice A3 xs3.length c3, .bool u3, .slice B3 ys3.length d3]) z) := by
      have h := Fe.fr EZ.out hall.2.2
      rw [← hz] at h
      exact h
    clear hodd hall hx hy hz EX EY EZ
    obtain ⟨cc, hc⟩ : ∃ c, cmpR x y = c := ⟨_, rfl⟩
    obtain ⟨ss, hs⟩ : ∃ s, cmpR z 0 = s := ⟨_, rfl⟩
    obtain ⟨mm, hm⟩ : ∃ m, cc * ss = m := ⟨_, rfl⟩
    have HC := Lib.hid hc
    have HS := Lib.hid hs
    have HM : Hid (cmpR (x * z) (y * z) = mm) := by show _ = _; rw [cmpR_mul, hc, hs, hm]
    have HNG : Hid (cmpR (-x) (-y) = -cc) := by show _ = _; rw [cmpR_neg, hc]
    have rc : -1 ≤ cc ∧ cc ≤ 1 := by rw [← hc]; exact cmpR_range x y
    have rm : -1 ≤ mm ∧ mm ≤ 1 := by rw [← HM.out]; exact cmpR_range _ _
    have im : IntKind.i64.wrap mm = mm := IntWalk.i64_in _ (by omega)
    have ic : IntKind.i64.wrap (-cc) = -cc := IntWalk.i64_in _ (by omega)
    clear rc rm hc hs
    go_wp2
    go_region_held3 (fun w' => (w'.cell? ⟨w.heap.size, 0, none⟩ = some (.bool o1) ∧ w'.cell? ⟨w.heap.size, 1, none⟩ = some (.slice A1 xs1.length c1) ∧ w'.cell? ⟨w.heap.size, 2, none⟩ = some (.bool u1) ∧ w'.cell? ⟨w.heap.size, 3, none⟩ = some (.slice B1 ys1.length d1) ∧ w'.cell? ⟨w.heap.size + 1, 0, none⟩ = some (.bool o2) ∧ w'.cell? ⟨w.heap.size + 1, 1, none⟩ = some (.slice A2 xs2.length c2) ∧ w'.cell? ⟨w.heap.size + 1, 2, none⟩ = some (.bool u2) ∧ w'.cell? ⟨w.heap.size + 1, 3, none⟩ = some (.slice B2 ys2.length d2) ∧ w'.cell? ⟨w.heap.size + 1 + 1, 0, none⟩ = some (.bool o3) ∧ w'.cell? ⟨w.heap.size + 1 + 1, 1, none⟩ = some (.slice A3 xs3.length c3) ∧ w'.cell? ⟨w.heap.size + 1 + 1, 2, none⟩ = some (.bool u3) ∧ w'.cell? ⟨w.heap.size + 1 + 1, 3, none⟩ = some (.slice B3 ys3.length d3)) ∧ (w'.frozen? ⟨w.heap.size, 0, none⟩ = false ∧ w'.frozen? ⟨w.heap.size, 1, none⟩ = false ∧ w'.frozen? ⟨w.heap.size, 2, none⟩ = false ∧ w'.frozen? ⟨w.heap.size, 3, none⟩ = false ∧ w'.frozen? ⟨w.heap.size + 1, 0, none⟩ = false ∧ w'.frozen? ⟨w.heap.size + 1, 1, none⟩ = false ∧ w'.frozen? ⟨w.heap.size + 1, 2, none⟩ = false ∧ w'.frozen? ⟨w.heap.size + 1, 3, none⟩ = false ∧ w'.frozen? ⟨w.heap.size + 1 + 1, 0, none⟩ = false ∧ w'.frozen? ⟨w.heap.size + 1 + 1, 1, none⟩ = false ∧ w'.frozen? ⟨w.heap.size + 1 + 1, 2, none⟩ = false ∧ w'.frozen? ⟨w.heap.size + 1 + 1, 3, none⟩ = false) ∧ Hid (Mem w [(w.heap.size, 58, [.bool o1, .slice A1 xs1.length c1, .bool u1, .slice B1 ys1.length d1]), (w.heap.size + 1, 58, [.bool o2, .slice A2 xs2.length c2, .bool u2, .slice B2 ys2.length d2]), (w.heap.size + 1 + 1, 58, [.bool o3, .slice A3 xs3.length c3, .bool u3, .slice B3 ys3.length d3])] w')) (first | (with_reducible exact A0.out _ T3.out.drew) | (with_reducible exact A0.out _ (Mem.over hb (Mem.get (by assumption))))) (first | (go_at_call_of 52 A1; refine (fcmpr_any (p := 10) (by omega) (IX.out.over (Mem.get (by assumption)).below) (IY.out.over (Mem.get (by assumption)).below) HC.out).mono ?_; rintro e w4 ⟨rfl, hb⟩) | (go_at_call_of 52 A3; refine (fcmpr_any (p := 10) (by omega) (IZ.out.over (Mem.get (by assumption)).below) (fr_zero _ _) HS.out).mono ?_; rintro e w5 ⟨rfl, hb⟩))
    have T4 := Lib.hid (Mem.get (by assumption))
    (try go_wp2)
    go_region_held3 (fun w' => (w'.cell? ⟨w.heap.size, 0, none⟩ = some (.bool o1) ∧ w'.cell? ⟨w.heap.size, 1, none⟩ = some (.slice A1 xs1.length c1) ∧ w'.cell? ⟨w.heap.size, 2, none⟩ = some (.bool u1) ∧ w'.cell? ⟨w.heap.size, 3, none⟩ = some (.slice B1 ys1.length d1) ∧ w'.cell? ⟨w.heap.size + 1, 0, none⟩ = some (.bool o2) ∧ w'.cell? ⟨w.heap.size + 1, 1, none⟩ = some (.slice A2 xs2.length c2) ∧ w'.cell? ⟨w.heap.size + 1, 2, none⟩ = some (.bool u2) ∧ w'.cell? ⟨w.heap.size + 1, 3, none⟩ = some (.slice B2 ys2.length d2) ∧ w'.cell? ⟨w.heap.size + 1 + 1, 0, none⟩ = some (.bool o3) ∧ w'.cell? ⟨w.heap.size + 1 + 1, 1, none⟩ = some (.slice A3 xs3.length c3) ∧ w'.cell? ⟨w.heap.size + 1 + 1, 2, none⟩ = some (.bool u3) ∧ w'.cell? ⟨w.heap.size + 1 + 1, 3, none⟩ = some (.slice B3 ys3.length d3)) ∧ (w'.frozen? ⟨w.heap.size, 0, none⟩ = false ∧ w'.frozen? ⟨w.heap.size, 1, none⟩ = false ∧ w'.frozen? ⟨w.heap.size, 2, none⟩ = false ∧ w'.frozen? ⟨w.heap.size, 3, none⟩ = false ∧ w'.frozen? ⟨w.heap.size + 1, 0, none⟩ = false ∧ w'.frozen? ⟨w.heap.size + 1, 1, none⟩ = false ∧ w'.frozen? ⟨w.heap.size + 1, 2, none⟩ = false ∧ w'.frozen? ⟨w.heap.size + 1, 3, none⟩ = false ∧ w'.frozen? ⟨w.heap.size + 1 + 1, 0, none⟩ = false ∧ w'.frozen? ⟨w.heap.size + 1 + 1, 1, none⟩ = false ∧ w'.frozen? ⟨w.heap.size + 1 + 1, 2, none⟩ = false ∧ w'.frozen? ⟨w.heap.size + 1 + 1, 3, none⟩ = false) ∧ Hid (Mem w [(w.heap.size, 58, [.bool o1, .slice A1 xs1.length c1, .bool u1, .slice B1 ys1.length d1]), (w.heap.size + 1, 58, [.bool o2, .slice A2 xs2.length c2, .bool u2, .slice B2 ys2.length d2]), (w.heap.size + 1 + 1, 58, [.bool o3, .slice A3 xs3.length c3, .bool u3, .slice B3 ys3.length d3])] w')) (first | (with_reducible exact A0.out _ T4.out.drew) | (with_reducible exact A0.out _ (Mem.over hb (Mem.get (by assumption))))) (first | (go_at_call_of 46 A1; refine (fmul_any (p := 10) (by omega) (by omega) (IX.out.over (Mem.get (by assumption)).below) (IZ.out.over (Mem.get (by assumption)).below)).mono ?_; rintro e w6 ⟨x6, P6, n6, c6, y6, Q6, m6, d6, rfl, hi6, hb⟩; have hb6 := hb) | (go_at_call_of 46 A2; refine (fmul_any (p := 10) (by omega) (by omega) (IY.out.over (Mem.get (by assumption)).below) (IZ.out.over (Mem.get (by assumption)).below)).mono ?_; rintro e w7 ⟨x7, P7, n7, c7, y7, Q7, m7, d7, rfl, hi7, hb⟩; have hb7 := hb) | (go_at_call_of 52 P6; refine (fcmpr_any (p := 20) (by omega) (hi6.out.over hb7.out) hi7.out HM.out).mono ?_; rintro e w8 ⟨rfl, hb⟩) | (go_at_call_of 50 A1; refine (fracNeg_any (p := 10) (by omega) (IX.out.over (Mem.get (by assumption)).below)).mono ?_; rintro e w9 ⟨x9, P9, n9, c9, y9, Q9, m9, d9, rfl, hi9, hb⟩; have hb9 := hb) | (go_at_call_of 50 A2; refine (fracNeg_any (p := 10) (by omega) (IY.out.over (Mem.get (by assumption)).below)).mono ?_; rintro e wa ⟨xa, Pa, na, ca, ya, Qa, ma, da, rfl, hia, hb⟩; have hba := hb) | (go_at_call_of 52 P9; refine (fcmpr_any (p := 10) (by omega) (hi9.out.over hba.out) hia.out HNG.out).mono ?_; rintro e wb ⟨rfl, hb⟩))
    have T5 := Lib.hid (Mem.get (by assumption))
    have C5 := (A0.out _ T5.out).1
    go_wp2_with fail
    refine (ofZ_any 1 _ (by omega) (by omega)).mono ?_
    rintro e wc ⟨xc, Ac, nc, cc', rfl, hic, hbc⟩
    go_wp2_with fail
    refine (fracOf_any (p := 3) (by omega) hic.out).mono ?_
    rintro e we ⟨xo, Po, no, co, yo, Qo, mo, do', rfl, hio, hbe⟩
    have T8 : Hid (Mem w [(w.heap.size, 58, [.bool o1, .slice A1 xs1.length c1, .bool u1, .slice B1 ys1.length d1]), (w.heap.size + 1, 58, [.bool o2, .slice A2 xs2.length c2, .bool u2, .slice B2 ys2.length d2]), (w.heap.size + 1 + 1, 58, [.bool o3, .slice A3 xs3.length c3, .bool u3, .slice B3 ys3.length d3]), (we.heap.size, 58, [.bool xo, .slice Po no co, .bool yo, .slice Qo mo do'])] (we.alloc (.cells #[.bool xo, .slice Po no co, .bool yo, .slice Qo mo do'] 58))) := (Mem.over hbe (Mem.over hbc T5.out)).push rfl 58 [.bool xo, .slice Po no co, .bool yo, .slice Qo mo do'] rfl
    have IO : Hid (IsFr (we.alloc (.cells #[.bool xo, .slice Po no co, .bool yo, .slice Qo mo do'] 58)) 3 (.agg #[.bool xo, .slice Po no co, .bool yo, .slice Qo mo do']) ((1 : Int) : Rat)) := hio.out.kept ((Kept.refl _).alloc _)
    have AM : Hid (∀ w' : World, Mem w [(w.heap.size, 58, [.bool o1, .slice A1 xs1.length c1, .bool u1, .slice B1 ys1.length d1]), (w.heap.size + 1, 58, [.bool o2, .slice A2 xs2.length c2, .bool u2, .slice B2 ys2.length d2]), (w.heap.size + 1 + 1, 58, [.bool o3, .slice A3 xs3.length c3, .bool u3, .slice B3 ys3.length d3]), (we.heap.size, 58, [.bool xo, .slice Po no co, .bool yo, .slice Qo mo do'])] w' → (w'.cell? ⟨w.heap.size, 0, none⟩ = some (.bool o1) ∧ w'.cell? ⟨w.heap.size, 1, none⟩ = some (.slice A1 xs1.length c1) ∧ w'.cell? ⟨w.heap.size, 2, none⟩ = some (.bool u1) ∧ w'.cell? ⟨w.heap.size, 3, none⟩ = some (.slice B1 ys1.length d1) ∧ w'.cell? ⟨w.heap.size + 1, 0, none⟩ = some (.bool o2) ∧ w'.cell? ⟨w.heap.size + 1, 1, none⟩ = some (.slice A2 xs2.length c2) ∧ w'.cell? ⟨w.heap.size + 1, 2, none⟩ = some (.bool u2) ∧ w'.cell? ⟨w.heap.size + 1, 3, none⟩ = some (.slice B2 ys2.length d2) ∧ w'.cell? ⟨w.heap.size + 1 + 1, 0, none⟩ = some (.bool o3) ∧ w'.cell? ⟨w.heap.size + 1 + 1, 1, none⟩ = some (.slice A3 xs3.length c3) ∧ w'.cell? ⟨w.heap.size + 1 + 1, 2, none⟩ = some (.bool u3) ∧ w'.cell? ⟨w.heap.size + 1 + 1, 3, none⟩ = some (.slice B3 ys3.length d3) ∧ w'.cell? ⟨we.heap.size, 0, none⟩ = some (.bool xo) ∧ w'.cell? ⟨we.heap.size, 1, none⟩ = some (.slice Po no co) ∧ w'.cell? ⟨we.heap.size, 2, none⟩ = some (.bool yo) ∧ w'.cell? ⟨we.heap.size, 3, none⟩ = some (.slice Qo mo do')) ∧ (w'.frozen? ⟨w.heap.size, 0, none⟩ = false ∧ w'.frozen? ⟨w.heap.size, 1, none⟩ = false ∧ w'.frozen? ⟨w.heap.size, 2, none⟩ = false ∧ w'.frozen? ⟨w.heap.size, 3, none⟩ = false ∧ w'.frozen? ⟨w.heap.size + 1, 0, none⟩ = false ∧ w'.frozen? ⟨w.heap.size + 1, 1, none⟩ = false ∧ w'.frozen? ⟨w.heap.size + 1, 2, none⟩ = false ∧ w'.frozen? ⟨w.heap.size + 1, 3, none⟩ = false ∧ w'.frozen? ⟨w.heap.size + 1 + 1, 0, none⟩ = false ∧ w'.frozen? ⟨w.heap.size + 1 + 1, 1, none⟩ = false ∧ w'.frozen? ⟨w.heap.size + 1 + 1, 2, none⟩ = false ∧ w'.frozen? ⟨w.heap.size + 1 + 1, 3, none⟩ = false ∧ w'.frozen? ⟨we.heap.size, 0, none⟩ = false ∧ w'.frozen? ⟨we.heap.size, 1, none⟩ = false ∧ w'.frozen? ⟨we.heap.size, 2, none⟩ = false ∧ w'.frozen? ⟨we.heap.size, 3, none⟩ = false) ∧ Hid (Mem w [(w.heap.size, 58, [.bool o1, .slice A1 xs1.length c1, .bool u1, .slice B1 ys1.length d1]), (w.heap.size + 1, 58, [.bool o2, .slice A2 xs2.length c2, .bool u2, .slice B2 ys2.length d2]), (w.heap.size + 1 + 1, 58, [.bool o3, .slice A3 xs3.length c3, .bool u3, .slice B3 ys3.length d3]), (we.heap.size, 58, [.bool xo, .slice Po no co, .bool yo, .slice Qo mo do'])] w')) := fun w' h => ⟨⟨h.c 0 rfl 0 rfl, h.c 0 rfl 1 rfl, h.c 0 rfl 2 rfl, h.c 0 rfl 3 rfl, h.c 1 rfl 0 rfl, h.c 1 rfl 1 rfl, h.c 1 rfl 2 rfl, h.c 1 rfl 3 rfl, h.c 2 rfl 0 rfl, h.c 2 rfl 1 rfl, h.c 2 rfl 2 rfl, h.c 2 rfl 3 rfl, h.c 3 rfl 0 rfl, h.c 3 rfl 1 rfl, h.c 3 rfl 2 rfl, h.c 3 rfl 3 rfl⟩, ⟨h.f 0 rfl 0, h.f 0 rfl 1, h.f 0 rfl 2, h.f 0 rfl 3, h.f 1 rfl 0, h.f 1 rfl 1, h.f 1 rfl 2, h.f 1 rfl 3, h.f 2 rfl 0, h.f 2 rfl 1, h.f 2 rfl 2, h.f 2 rfl 3, h.f 3 rfl 0, h.f 3 rfl 1, h.f 3 rfl 2, h.f 3 rfl 3⟩, h⟩
    have C8 := (AM.out _ T8.out).1
    clear C5 hic hbc hio hbe
    by_cases hx0 : 0 < x
    · have HCX : Hid (cmpR x 0 = 1) := cmpR_gt' hx0
      have HX0 := Lib.hid hx0
      clear hx0
      go_wp2_with fail
      refine (fcmpr_any (p := 10) (by omega) (IX.out.over T8.out.below) (fr_zero _ _) HCX.out).mono ?_
      rintro e wf ⟨rfl, hbf⟩
      have T9 := Lib.hid (Mem.over hbf T8.out)
      have C9 := (AM.out _ T9.out).1
      clear C8
      by_cases hy0 : 0 < y
      · have HCY : Hid (cmpR y 0 = 1) := cmpR_gt' hy0
        have HINV : Hid (cmpR (((1 : Int) : Rat) / x) (((1 : Int) : Rat) / y) = -cc) := by show _ = _; rw [cmpR_inv HX0.out hy0, HC.out]
        clear hy0
        go_wp2_with fail
        refine (fcmpr_any (p := 10) (by omega) (IY.out.over T9.out.below) (fr_zero _ _) HCY.out).mono ?_
        rintro e wg ⟨rfl, hbg⟩
        have Ta := Lib.hid (Mem.over hbg T9.out)
        have JO : Hid (IsFr wg 10 (.agg #[.bool xo, .slice Po no co, .bool yo, .slice Qo mo do']) ((1 : Int) : Rat)) := ((IO.out.over hbf.out).over hbg.out).more (by omega)
        have KX := Lib.hid (IX.out.over Ta.out.below)
        have KY := Lib.hid (IY.out.over Ta.out.below)
        have AV : Hid (∀ w' : World, Lo wg w' → (w'.cell? ⟨w.heap.size, 0, none⟩ = some (.bool o1) ∧ w'.cell? ⟨w.heap.size, 1, none⟩ = some (.slice A1 xs1.length c1) ∧ w'.cell? ⟨w.heap.size, 2, none⟩ = some (.bool u1) ∧ w'.cell? ⟨w.heap.size, 3, none⟩ = some (.slice B1 ys1.length d1) ∧ w'.cell? ⟨w.heap.size + 1, 0, none⟩ = some (.bool o2) ∧ w'.cell? ⟨w.heap.size + 1, 1, none⟩ = some (.slice A2 xs2.length c2) ∧ w'.cell? ⟨w.heap.size + 1, 2, none⟩ = some (.bool u2) ∧ w'.cell? ⟨w.heap.size + 1, 3, none⟩ = some (.slice B2 ys2.length d2) ∧ w'.cell? ⟨w.heap.size + 1 + 1, 0, none⟩ = some (.bool o3) ∧ w'.cell? ⟨w.heap.size + 1 + 1, 1, none⟩ = some (.slice A3 xs3.length c3) ∧ w'.cell? ⟨w.heap.size + 1 + 1, 2, none⟩ = some (.bool u3) ∧ w'.cell? ⟨w.heap.size + 1 + 1, 3, none⟩ = some (.slice B3 ys3.length d3) ∧ w'.cell? ⟨we.heap.size, 0, none⟩ = some (.bool xo) ∧ w'.cell? ⟨we.heap.size, 1, none⟩ = some (.slice Po no co) ∧ w'.cell? ⟨we.heap.size, 2, none⟩ = some (.bool yo) ∧ w'.cell? ⟨we.heap.size, 3, none⟩ = some (.slice Qo mo do')) ∧ Hid (Lo wg w')) := fun w' h => ⟨⟨h.c (Ta.out.lt 0 rfl) (AM.out _ Ta.out).1.1, h.c (Ta.out.lt 0 rfl) (AM.out _ Ta.out).1.2.1, h.c (Ta.out.lt 0 rfl) (AM.out _ Ta.out).1.2.2.1, h.c (Ta.out.lt 0 rfl) (AM.out _ Ta.out).1.2.2.2.1, h.c (Ta.out.lt 1 rfl) (AM.out _ Ta.out).1.2.2.2.2.1, h.c (Ta.out.lt 1 rfl) (AM.out _ Ta.out).1.2.2.2.2.2.1, h.c (Ta.out.lt 1 rfl) (AM.out _ Ta.out).1.2.2.2.2.2.2.1, h.c (Ta.out.lt 1 rfl) (AM.out _ Ta.out).1.2.2.2.2.2.2.2.1, h.c (Ta.out.lt 2 rfl) (AM.out _ Ta.out).1.2.2.2.2.2.2.2.2.1, h.c (Ta.out.lt 2 rfl) (AM.out _ Ta.out).1.2.2.2.2.2.2.2.2.2.1, h.c (Ta.out.lt 2 rfl) (AM.out _ Ta.out).1.2.2.2.2.2.2.2.2.2.2.1, h.c (Ta.out.lt 2 rfl) (AM.out _ Ta.out).1.2.2.2.2.2.2.2.2.2.2.2.1, h.c (Ta.out.lt 3 rfl) (AM.out _ Ta.out).1.2.2.2.2.2.2.2.2.2.2.2.2.1, h.c (Ta.out.lt 3 rfl) (AM.out _ Ta.out).1.2.2.2.2.2.2.2.2.2.2.2.2.2.1, h.c (Ta.out.lt 3 rfl) (AM.out _ Ta.out).1.2.2.2.2.2.2.2.2.2.2.2.2.2.2.1, h.c (Ta.out.lt 3 rfl) (AM.out _ Ta.out).1.2.2.2.2.2.2.2.2.2.2.2.2.2.2.2⟩, h⟩
        clear C9
        go_wp2
        go_region_held3 (fun w' => (w'.cell? ⟨w.heap.size, 0, none⟩ = some (.bool o1) ∧ w'.cell? ⟨w.heap.size, 1, none⟩ = some (.slice A1 xs1.length c1) ∧ w'.cell? ⟨w.heap.size, 2, none⟩ = some (.bool u1) ∧ w'.cell? ⟨w.heap.size, 3, none⟩ = some (.slice B1 ys1.length d1) ∧ w'.cell? ⟨w.heap.size + 1, 0, none⟩ = some (.bool o2) ∧ w'.cell? ⟨w.heap.size + 1, 1, none⟩ = some (.slice A2 xs2.length c2) ∧ w'.cell? ⟨w.heap.size + 1, 2, none⟩ = some (.bool u2) ∧ w'.cell? ⟨w.heap.size + 1, 3, none⟩ = some (.slice B2 ys2.length d2) ∧ w'.cell? ⟨w.heap.size + 1 + 1, 0, none⟩ = some (.bool o3) ∧ w'.cell? ⟨w.heap.size + 1 + 1, 1, none⟩ = some (.slice A3 xs3.length c3) ∧ w'.cell? ⟨w.heap.size + 1 + 1, 2, none⟩ = some (.bool u3) ∧ w'.cell? ⟨w.heap.size + 1 + 1, 3, none⟩ = some (.slice B3 ys3.length d3) ∧ w'.cell? ⟨we.heap.size, 0, none⟩ = some (.bool xo) ∧ w'.cell? ⟨we.heap.size, 1, none⟩ = some (.slice Po no co) ∧ w'.cell? ⟨we.heap.size, 2, none⟩ = some (.bool yo) ∧ w'.cell? ⟨we.heap.size, 3, none⟩ = some (.slice Qo mo do')) ∧ Hid (Lo wg w')) (first | (with_reducible exact AV.out _ (Lo.mk (Below.refl _ _).drew)) | (with_reducible exact AV.out _ (Lo.over hb (Lo.get (by assumption))))) (first | (go_at_call_of 48 A1; refine (fdiv_any (p := 10) (by omega) (by omega) (JO.out.over (Lo.get (by assumption)).below) (KX.out.over (Lo.get (by assumption)).below)).mono ?_; rintro e wh ⟨xh, Ph, nh, ch, yh, Qh, mh, dh, rfl, hih, hb⟩; have hbh := hb) | (go_at_call_of 48 A2; refine (fdiv_any (p := 10) (by omega) (by omega) (JO.out.over (Lo.get (by assumption)).below) (KY.out.over (Lo.get (by assumption)).below)).mono ?_; rintro e wi ⟨xi, Pi, ni, ci, yi, Qi, mi, di, rfl, hii, hb⟩; have hbi := hb) | (go_at_call_of 52 Ph; refine (fcmpr_any (p := 20) (by omega) (hih.out.over hbi.out) hii.out HINV.out).mono ?_; rintro e wj ⟨rfl, hb⟩))
        have TE := Lib.hid (Lo.get (by assumption)).below
        go_wp2
        (try simp only [Exit.inBlock, Exit.then])
        go_ret
        exact ⟨rfl, Ta.out.below.trans (TE.out.mono Ta.out.below.size)⟩
      · obtain ⟨r, hr⟩ : ∃ r, cmpR y 0 = r := ⟨_, rfl⟩
        have hle : r ≤ 0 := by rw [← hr]; exact cmpR_le0 hy0
        have HR := Lib.hid hr
        clear hr hy0
        go_wp2_with fail
        refine (fcmpr_any (p := 10) (by omega) (IY.out.over T9.out.below) (fr_zero _ _) HR.out).mono ?_
        rintro e wg ⟨rfl, hbg⟩
        have Ta := Lib.hid (Mem.over hbg T9.out)
        clear C9
        go_wp2
        go_ret
        exact ⟨rfl, Ta.out.below⟩
    · obtain ⟨r, hr⟩ : ∃ r, cmpR x 0 = r := ⟨_, rfl⟩
      have hle : r ≤ 0 := by rw [← hr]; exact cmpR_le0 hx0
      have HR := Lib.hid hr
      clear hr hx0
      go_wp2_with fail
      refine (fcmpr_any (p := 10) (by omega) (IX.out.over T8.out.below) (fr_zero _ _) HR.out).mono ?_
      rintro e wf ⟨rfl, hbf⟩
      have T9 := Lib.hid (Mem.over hbf T8.out)
      clear C8
      go_wp2
      go_ret
      exact ⟨rfl, T9.out.below⟩
end Go.Proofs.YtpikbhcjgcbdfaaDoor.wh
