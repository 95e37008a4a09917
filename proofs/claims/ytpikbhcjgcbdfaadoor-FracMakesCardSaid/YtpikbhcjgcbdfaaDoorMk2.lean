/- The statement FracMakes: the walk of its function. -/
import Derived.Test.YtpikbhcjgcbdfaaDoorMk1
import Derived.Deep.DeepCutAuto
namespace Go.Proofs.YtpikbhcjgcbdfaaDoor.wh
open Go.RowKit

set_option maxRecDepth 100000 in
set_option maxHeartbeats 8000000 in
theorem fmakes_any (ex ey : El) (ez : Fe) (w : World) (hx : ex.Ok w) (hy : ey.Ok w) (hz : ez.Ok w) (hcx : ex.ds.length ≤ ex.c) (hcy : ey.ds.length ≤ ey.c) (htab : Tab w) :
    Calls Tryd.prog 8 #[ex.val, ey.val, ez.val] w fun e w' => e = .returned (.bool true) ∧ Below w.heap.size w w' := by
  have HIX : ex.odd = false → Hid (IsInt w w.heap.size 10 ex.val (zval ex.neg ex.ds)) := fun h => El.int hx hcx h
  have HIY : ey.odd = false → Hid (IsInt w w.heap.size 10 ey.val (zval ey.neg ey.ds)) := fun h => El.int hy hcy h
  have EX := Lib.hid hx
  have EY := Lib.hid hy
  have EZ := Lib.hid hz
  have JX := Lib.hid HIX
  have JY := Lib.hid HIY
  have HTAB := Lib.hid htab
  clear hx hy hz hcx hcy HIX HIY htab
  obtain ⟨nx, Ax, cx, xs⟩ := ex
  obtain ⟨ny, Ay, cy, ys⟩ := ey
  obtain ⟨⟨no, Ao, co, os⟩, ⟨nu, Au, cu, us⟩⟩ := ez
  simp only [El.val, Fe.val] at *
  have HT : Hid (Mem w [(w.heap.size, 24, [.bool nx, .slice Ax xs.length cx]), (w.heap.size + 1, 24, [.bool ny, .slice Ay ys.length cy]), (w.heap.size + 1 + 1, 58, [.bool no, .slice Ao os.length co, .bool nu, .slice Au us.length cu])] (((w.alloc (.cells #[.bool nx, .slice Ax xs.length cx] 24)).alloc (.cells #[.bool ny, .slice Ay ys.length cy] 24)).alloc (.cells #[.bool no, .slice Ao os.length co, .bool nu, .slice Au us.length cu] 58))) := ((((Mem.new w).push (by simp) 24 [.bool nx, .slice Ax xs.length cx] rfl).push (by simp) 24 [.bool ny, .slice Ay ys.length cy] rfl).push (by simp) 58 [.bool no, .slice Ao os.length co, .bool nu, .slice Au us.length cu] rfl)
  have A0 : Hid (∀ w' : World, Mem w [(w.heap.size, 24, [.bool nx, .slice Ax xs.length cx]), (w.heap.size + 1, 24, [.bool ny, .slice Ay ys.length cy]), (w.heap.size + 1 + 1, 58, [.bool no, .slice Ao os.length co, .bool nu, .slice Au us.length cu])] w' → (w'.cell? ⟨w.heap.size, 0, none⟩ = some (.bool nx) ∧ w'.cell? ⟨w.heap.size, 1, none⟩ = some (.slice Ax xs.length cx) ∧ w'.cell? ⟨w.heap.size + 1, 0, none⟩ = some (.bool ny) ∧ w'.cell? ⟨w.heap.size + 1, 1, none⟩ = some (.slice Ay ys.length cy) ∧ w'.cell? ⟨w.heap.size + 1 + 1, 0, none⟩ = some (.bool no) ∧ w'.cell? ⟨w.heap.size + 1 + 1, 1, none⟩ = some (.slice Ao os.length co) ∧ w'.cell? ⟨w.heap.size + 1 + 1, 2, none⟩ = some (.bool nu) ∧ w'.cell? ⟨w.heap.size + 1 + 1, 3, none⟩ = some (.slice Au us.length cu)) ∧ (w'.frozen? ⟨w.heap.size, 0, none⟩ = false ∧ w'.frozen? ⟨w.heap.size, 1, none⟩ = false ∧ w'.frozen? ⟨w.heap.size + 1, 0, none⟩ = false ∧ w'.frozen? ⟨w.heap.size + 1, 1, none⟩ = false ∧ w'.frozen? ⟨w.heap.size + 1 + 1, 0, none⟩ = false ∧ w'.frozen? ⟨w.heap.size + 1 + 1, 1, none⟩ = false ∧ w'.frozen? ⟨w.heap.size + 1 + 1, 2, none⟩ = false ∧ w'.frozen? ⟨w.heap.size + 1 + 1, 3, none⟩ = false) ∧ Hid (Mem w [(w.heap.size, 24, [.bool nx, .slice Ax xs.length cx]), (w.heap.size + 1, 24, [.bool ny, .slice Ay ys.length cy]), (w.heap.size + 1 + 1, 58, [.bool no, .slice Ao os.length co, .bool nu, .slice Au us.length cu])] w')) := fun w' h => ⟨⟨h.c 0 rfl 0 rfl, h.c 0 rfl 1 rfl, h.c 1 rfl 0 rfl, h.c 1 rfl 1 rfl, h.c 2 rfl 0 rfl, h.c 2 rfl 1 rfl, h.c 2 rfl 2 rfl, h.c 2 rfl 3 rfl⟩, ⟨h.f 0 rfl 0, h.f 0 rfl 1, h.f 1 rfl 0, h.f 1 rfl 1, h.f 2 rfl 0, h.f 2 rfl 1, h.f 2 rfl 2, h.f 2 rfl 3⟩, h⟩
  go_enter Tryd.func8, Tryd.ntmps8
  go_wp2_with fail
  refine (speaks2_any _ (HTAB.out.below HT.out.below)).mono ?_
  rintro e w1 ⟨rfl, hb1⟩
  have T1 := Lib.hid (Mem.over hb1 HT.out)
  have C1 := (A0.out _ T1.out).1
  have hels : Hid (ElsAt (w1.alloc (.cells #[.bool nx, .slice Ax xs.length cx, .bool ny, .slice Ay ys.length cy] 24)) w1.heap.size [(⟨nx, Ax, cx, xs⟩ : El), ⟨ny, Ay, cy, ys⟩]) := by
    have hblk := Blk.new w1 24 #[.bool nx, .slice Ax xs.length cx, .bool ny, .slice Ay ys.length cy]
    intro i hi
    match i, hi with
    | 0, _ => exact ⟨hblk.cell 0, by rw [hblk.cell]; rfl⟩
    | 1, _ => exact ⟨hblk.cell 2, by rw [hblk.cell]; rfl⟩
  have T2 : Hid (Mem w [(w.heap.size, 24, [.bool nx, .slice Ax xs.length cx]), (w.heap.size + 1, 24, [.bool ny, .slice Ay ys.length cy]), (w.heap.size + 1 + 1, 58, [.bool no, .slice Ao os.length co, .bool nu, .slice Au us.length cu])] (w1.alloc (.cells #[.bool nx, .slice Ax xs.length cx, .bool ny, .slice Ay ys.length cy] 24))) := T1.out.alloc _
  have hoks : Hid (∀ e ∈ [(⟨nx, Ax, cx, xs⟩ : El), ⟨ny, Ay, cy, ys⟩], e.Ok (w1.alloc (.cells #[.bool nx, .slice Ax xs.length cx, .bool ny, .slice Ay ys.length cy] 24))) := by
    intro e he
    simp only [List.mem_cons, List.not_mem_nil, or_false] at he
    rcases he with rfl | rfl
    · exact EX.out.over T2.out.below
    · exact EY.out.over T2.out.below
  go_wp2_with fail
  refine (odd_any w1.heap.size 2 _ _ rfl (by omega) (by simp) hels.out hoks.out).mono ?_
  rintro e w2 ⟨rfl, hb2⟩
  have T3 := Lib.hid (Mem.over (Lib.hid hb2) T2.out)
  have C3 := (A0.out _ T3.out).1
  clear C1 hels hoks hb1 hb2 HTAB T1 T2 HT
  cases hodd : List.any [(⟨nx, Ax, cx, xs⟩ : El), ⟨ny, Ay, cy, ys⟩] El.odd with
  | true =>
    go_wp2
    go_ret
    exact ⟨rfl, T3.out.below⟩
  | false =>
    have hall : El.odd ⟨nx, Ax, cx, xs⟩ = false ∧ El.odd ⟨ny, Ay, cy, ys⟩ = false := by
      simpa [List.any_cons, Bool.or_eq_false_iff] using hodd
    have IX := Lib.hid (JX.out hall.1).out
    have IY := Lib.hid (JY.out hall.2).out
    obtain ⟨a, ha⟩ : ∃ a, a = zval nx xs := ⟨_, rfl⟩
    obtain ⟨b, hb⟩ : ∃ b, b = zval ny ys := ⟨_, rfl⟩
    rw [← ha] at IX
    rw [← hb] at IY
    clear hodd hall ha hb JX JY EX EY
    by_cases g5 : 8 < os.length
    · have g5' : (8 : Int) < ((os.length : Nat) : Int) := by omega
      clear g5
      go_wp2
      go_ret
      exact ⟨rfl, T3.out.below⟩
    · have g5' : ¬ (8 : Int) < ((os.length : Nat) : Int) := by omega
      have G5 := Lib.hid g5
      clear g5
      by_cases g6 : 8 < us.length
      · have g6' : (8 : Int) < ((us.length : Nat) : Int) := by omega
        clear g6
        go_wp2
        go_ret
        exact ⟨rfl, T3.out.below⟩
      · have g6' : ¬ (8 : Int) < ((us.length : Nat) : Int) := by omega
        have H8 : Hid (os.length ≤ 8 ∧ us.length ≤ 8) := ⟨by have := G5.out; omega, by omega⟩
        clear g6 G5
        obtain ⟨r, hr⟩ : ∃ r, Fe.may ⟨⟨no, Ao, co, os⟩, ⟨nu, Au, cu, us⟩⟩ = r := ⟨_, rfl⟩
        have HR := Lib.hid hr
        have HOF : Hid (decide (((a : Int) : Rat).num = a ∧ undZ ((a : Int) : Rat) = 0) = true) := decide_eq_true ⟨rfl, rfl⟩
        clear hr
        go_wp2
        clear C3 g5' g6'
        rcases r with _ | _
        all_goals
          go_region_held3 (fun w' => (w'.cell? ⟨w.heap.size, 0, none⟩ = some (.bool nx) ∧ w'.cell? ⟨w.heap.size, 1, none⟩ = some (.slice Ax xs.length cx) ∧ w'.cell? ⟨w.heap.size + 1, 0, none⟩ = some (.bool ny) ∧ w'.cell? ⟨w.heap.size + 1, 1, none⟩ = some (.slice Ay ys.length cy) ∧ w'.cell? ⟨w.heap.size + 1 + 1, 0, none⟩ = some (.bool no) ∧ w'.cell? ⟨w.heap.size + 1 + 1, 1, none⟩ = some (.slice Ao os.length co) ∧ w'.cell? ⟨w.heap.size + 1 + 1, 2, none⟩ = some (.bool nu) ∧ w'.cell? ⟨w.heap.size + 1 + 1, 3, none⟩ = some (.slice Au us.length cu)) ∧ (w'.frozen? ⟨w.heap.size, 0, none⟩ = false ∧ w'.frozen? ⟨w.heap.size, 1, none⟩ = false ∧ w'.frozen? ⟨w.heap.size + 1, 0, none⟩ = false ∧ w'.frozen? ⟨w.heap.size + 1, 1, none⟩ = false ∧ w'.frozen? ⟨w.heap.size + 1 + 1, 0, none⟩ = false ∧ w'.frozen? ⟨w.heap.size + 1 + 1, 1, none⟩ = false ∧ w'.frozen? ⟨w.heap.size + 1 + 1, 2, none⟩ = false ∧ w'.frozen? ⟨w.heap.size + 1 + 1, 3, none⟩ = false) ∧ Hid (Mem w [(w.heap.size, 24, [.bool nx, .slice Ax xs.length cx]), (w.heap.size + 1, 24, [.bool ny, .slice Ay ys.length cy]), (w.heap.size + 1 + 1, 58, [.bool no, .slice Ao os.length co, .bool nu, .slice Au us.length cu])] w')) (first | (with_reducible exact A0.out _ T3.out.drew) | (with_reducible exact A0.out _ (Mem.over hb (Mem.get (by assumption))))) (first | (go_at_call 56; refine (fright_any (EZ.out.over (Mem.get (by assumption)).below) rfl rfl H8.out HR.out).mono ?_; rintro e w1 ⟨rfl, hb⟩) | (go_at_call 57; refine (right3_any (EZ.out.over (Mem.get (by assumption)).below) rfl rfl H8.out HR.out).mono ?_; rintro e w2 ⟨rfl, hb⟩) | (go_at_call 58; refine (make_any (p := 10) (by omega) (IX.out.over (Mem.get (by assumption)).below) (IY.out.over (Mem.get (by assumption)).below)).mono ?_; rintro e w3 ⟨x3, A3, n3, c3, y3, B3, m3, d3, rfl, hi3, hb⟩) | (go_at_call_of 13 Ax; refine (refOf_any (m := 10) (by omega) (IX.out.over (Mem.get (by assumption)).below)).mono ?_; rintro e w5 ⟨x5, A5, n5, c5, rfl, hi5, hb⟩; have hb5 := hb) | (go_at_call_of 13 Ay; refine (refOf_any (m := 10) (by omega) (IY.out.over (Mem.get (by assumption)).below)).mono ?_; rintro e w6 ⟨x6, A6, n6, c6, rfl, hi6, hb⟩; have hb6 := hb) | (go_at_call 59; refine (make2_any (p := 90) (by omega) (by omega) (hi5.out.over hb6.out) hi6.out).mono ?_; rintro e w7 ⟨x7, A7, n7, c7, y7, B7, m7, d7, rfl, hi7, hb⟩; have hb7 := hb) | (go_at_call 44; refine (form2_any (p := 90) (by omega) hi7.out).mono ?_; rintro e w8 ⟨x8, A8, n8, c8, y8, B8, m8, d8, rfl, hi8, hb⟩; have hb8 := hb) | (go_at_call_of 42 A3; refine (same2_any (p := 90) (by omega) ((fr_parts ((((hi3.out.over hb5.out).over hb6.out).over hb7.out).over hb8.out)).1.out.more (Nat.le_refl _) (by omega)) ((fr_parts ((((hi3.out.over hb5.out).over hb6.out).over hb7.out).over hb8.out)).2.out.more (Nat.le_refl _) (by omega)) (fr_parts hi8.out).1.out (fr_parts hi8.out).2.out (decide_eq_true ⟨rfl, rfl⟩)).mono ?_; rintro e w9 ⟨rfl, hb⟩) | (go_at_call 60; refine (fracOf_any (p := 10) (by omega) (IX.out.over (Mem.get (by assumption)).below)).mono ?_; rintro e wa ⟨xa, Aa, na, ca, ya, Ba, ma, da, rfl, hia, hb⟩) | (go_at_call_of 42 Aa; refine (same2_any (p := 10) (by omega) (fr_parts hia.out).1.out (fr_parts hia.out).2.out (IX.out.over (Mem.get (by assumption)).below) (isInt_zero _ _ _) HOF.out).mono ?_; rintro e wb ⟨rfl, hb⟩))
          have TE := Lib.hid (Mem.get (by assumption)).below
          go_wp2
          (try simp only [Exit.inBlock, Exit.then])
          go_ret
          exact ⟨rfl, TE.out⟩
end Go.Proofs.YtpikbhcjgcbdfaaDoor.wh
