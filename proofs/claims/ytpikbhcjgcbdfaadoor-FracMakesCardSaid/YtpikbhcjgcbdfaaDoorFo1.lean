/- The statements of layer 2: what is looked at (Odd). -/
import Derived.Test.YtpikbhcjgcbdfaaDoorRg4
namespace Go.Proofs.YtpikbhcjgcbdfaaDoor.wh
open Go.RowKit

/-- A fraction as it came in. -/
structure Fe where
  o : El
  u : El
def Fe.val (e : Fe) : Value := .agg #[.bool e.o.neg, .slice e.o.A e.o.ds.length e.o.c, .bool e.u.neg, .slice e.u.A e.u.ds.length e.u.c]
def Fe.rt (e : Fe) : Bool := rightQ (zval e.o.neg e.o.ds) (zval e.u.neg e.u.ds)
def Fe.odd (e : Fe) : Bool := (e.o.odd || e.u.odd) || (decide (5 < e.o.ds.length) || (decide (5 < e.u.ds.length) || !e.rt))
def Fe.q (e : Fe) : Rat := quoQ (zval e.o.neg e.o.ds) (zval e.u.neg e.u.ds)
def Fe.Ok (w : World) (e : Fe) : Prop := (e.o.Ok w ∧ e.o.ds.length ≤ e.o.c) ∧ (e.u.Ok w ∧ e.u.ds.length ≤ e.u.c)
theorem Fe.Ok.over {w w' : World} {e : Fe} (h : e.Ok w) (hb : Below w.heap.size w w') : e.Ok w' := ⟨⟨h.1.1.over hb, h.1.2⟩, ⟨h.2.1.over hb, h.2.2⟩⟩
def FesAt (w : World) (g : Nat) (es : List Fe) : Prop := ∀ i (h : i < es.length), w.cell? ⟨g, i * 4, none⟩ = some (.bool (es[i]'h).o.neg) ∧ w.cell? ⟨g, i * 4 + 1, none⟩ = some (.slice (es[i]'h).o.A (es[i]'h).o.ds.length (es[i]'h).o.c) ∧ w.cell? ⟨g, i * 4 + 2, none⟩ = some (.bool (es[i]'h).u.neg) ∧ w.cell? ⟨g, i * 4 + 3, none⟩ = some (.slice (es[i]'h).u.A (es[i]'h).u.ds.length (es[i]'h).u.c)
theorem Fe.fr {e : Fe} {w : World} (h : e.Ok w) (ho : e.odd = false) : IsFr w 10 e.val e.q := by
  simp only [Fe.odd, Bool.or_eq_false_iff] at ho
  obtain ⟨⟨h1, h2⟩, _, _, h5⟩ := ho
  have h6 : e.rt = true := by simpa using h5
  unfold Fe.rt rightQ at h6
  rw [Bool.and_eq_true] at h6
  have h7 := of_decide_eq_true h6.2
  have a := El.int h.1.1 h.1.2 h1
  have b := El.int h.2.1 h.2.2 h2
  rw [h7.1] at a
  rw [h7.2] at b
  exact ⟨_, _, _, _, _, _, _, _, rfl, a, b⟩

set_option maxRecDepth 100000 in
set_option maxHeartbeats 4000000 in
theorem odd2_any (g k : Nat) (es : List Fe) (w : World) (hl : es.length = k) (hk : k ≤ 1000) (hg : g < w.heap.size) (hcells : FesAt w g es) (hok : ∀ e ∈ es, e.Ok w) :
    Calls Tryd.prog 38 #[.slice (some ⟨g, 0, none⟩) k k] w fun e w' => e = .returned (.bool (es.any Fe.odd)) ∧ Hid (Below w.heap.size w w') := by
  subst hl
  have HC := Lib.hid hcells
  have HO := Lib.hid hok
  clear hcells hok
  go_enter Tryd.func38, Tryd.ntmps38
  go_wp2
  go_loopw [7] (fun i wr => (∃ k : Nat, k ≤ es.length ∧ i = .int .i64 k ∧ Hid ((es.take k).any Fe.odd = false)) ∧ Below w.heap.size w wr) (fun i _ => es.length - (intOf i).toNat)
  case atStart => exact ⟨⟨0, Nat.zero_le _, rfl, rfl⟩, Below.refl _ _⟩
  case round =>
    obtain ⟨⟨k, hk, rfl, ha⟩, hb⟩ := hrel
    by_cases hlt : k < es.length
    · have h0 := (hb.cell (p := ⟨g, k * 4, none⟩) hg).trans (HC.out k hlt).1
      have h1 := (hb.cell (p := ⟨g, k * 4 + 1, none⟩) hg).trans (HC.out k hlt).2.1
      have h2 := (hb.cell (p := ⟨g, k * 4 + 2, none⟩) hg).trans (HC.out k hlt).2.2.1
      have h3 := (hb.cell (p := ⟨g, k * 4 + 3, none⟩) hg).trans (HC.out k hlt).2.2.2
      obtain ⟨x, hx⟩ : ∃ x, x = es[k] := ⟨_, rfl⟩
      rw [← hx] at h0 h1 h2 h3
      obtain ⟨⟨no, Ao, co, os⟩, ⟨nu, Au, cu, us⟩⟩ := x
      simp only at h0 h1 h2 h3
      have HX := Lib.hid hx
      clear hx
      have HI : Hid (∀ b : Bool, Fe.odd ⟨⟨no, Ao, co, os⟩, ⟨nu, Au, cu, us⟩⟩ = b → (es.take (k + 1)).any Fe.odd = b) := fun b h => by
        rw [List.take_succ_eq_append_getElem hlt, List.any_append, ha.out, ← HX.out]
        simp [h]
      have HN : Hid (Fe.odd ⟨⟨no, Ao, co, os⟩, ⟨nu, Au, cu, us⟩⟩ = true → es.any Fe.odd = true) := fun h => by
        rw [List.any_eq_true]
        exact ⟨es[k], List.getElem_mem hlt, by rw [← HX.out]; exact h⟩
      have HE : Hid (Fe.Ok w ⟨⟨no, Ao, co, os⟩, ⟨nu, Au, cu, us⟩⟩) := by show Fe.Ok w _; rw [HX.out]; exact HO.out _ (List.getElem_mem hlt)
      have HB := Lib.hid hb
      have HT : Hid (Mem wr [(wr.heap.size, 58, [.bool no, .slice Ao os.length co, .bool nu, .slice Au us.length cu])] (wr.alloc (.cells #[.bool no, .slice Ao os.length co, .bool nu, .slice Au us.length cu] 58))) := ((Mem.new wr).push (by simp) 58 [.bool no, .slice Ao os.length co, .bool nu, .slice Au us.length cu] rfl)
      have A0 : Hid (∀ w' : World, Mem wr [(wr.heap.size, 58, [.bool no, .slice Ao os.length co, .bool nu, .slice Au us.length cu])] w' → (w'.cell? ⟨wr.heap.size, 0, none⟩ = some (.bool no) ∧ w'.cell? ⟨wr.heap.size, 1, none⟩ = some (.slice Ao os.length co) ∧ w'.cell? ⟨wr.heap.size, 2, none⟩ = some (.bool nu) ∧ w'.cell? ⟨wr.heap.size, 3, none⟩ = some (.slice Au us.length cu)) ∧ (w'.frozen? ⟨wr.heap.size, 0, none⟩ = false ∧ w'.frozen? ⟨wr.heap.size, 1, none⟩ = false ∧ w'.frozen? ⟨wr.heap.size, 2, none⟩ = false ∧ w'.frozen? ⟨wr.heap.size, 3, none⟩ = false) ∧ Hid (Mem wr [(wr.heap.size, 58, [.bool no, .slice Ao os.length co, .bool nu, .slice Au us.length cu])] w')) := fun w' h => ⟨⟨h.c 0 rfl 0 rfl, h.c 0 rfl 1 rfl, h.c 0 rfl 2 rfl, h.c 0 rfl 3 rfl⟩, ⟨h.f 0 rfl 0, h.f 0 rfl 1, h.f 0 rfl 2, h.f 0 rfl 3⟩, h⟩
      have T0 : Hid (Mem wr [(wr.heap.size, 58, [.bool no, .slice Ao os.length co, .bool nu, .slice Au us.length cu])] ((wr.alloc (.cells #[.bool no, .slice Ao os.length co, .bool nu, .slice Au us.length cu] 58)).alloc (.cells #[.bool no, .slice Ao os.length co, .bool nu, .slice Au us.length cu] 24))) := HT.out.alloc _
      have hels : Hid (ElsAt ((wr.alloc (.cells #[.bool no, .slice Ao os.length co, .bool nu, .slice Au us.length cu] 58)).alloc (.cells #[.bool no, .slice Ao os.length co, .bool nu, .slice Au us.length cu] 24)) (wr.heap.size + 1) [⟨no, Ao, co, os⟩, ⟨nu, Au, cu, us⟩]) := by
        have hblk := Blk.new (wr.alloc (.cells #[.bool no, .slice Ao os.length co, .bool nu, .slice Au us.length cu] 58)) 24 #[.bool no, .slice Ao os.length co, .bool nu, .slice Au us.length cu]
        rw [World.size_alloc] at hblk
        intro i hi
        match i, hi with
        | 0, _ => exact ⟨hblk.cell 0, by rw [hblk.cell]; rfl⟩
        | 1, _ => exact ⟨hblk.cell 2, by rw [hblk.cell]; rfl⟩
      have hb0 : Hid (Below w.heap.size w ((wr.alloc (.cells #[.bool no, .slice Ao os.length co, .bool nu, .slice Au us.length cu] 58)).alloc (.cells #[.bool no, .slice Ao os.length co, .bool nu, .slice Au us.length cu] 24))) := HB.out.trans (T0.out.below.mono HB.out.size)
      have hoks : Hid (∀ e ∈ [(⟨no, Ao, co, os⟩ : El), ⟨nu, Au, cu, us⟩], e.Ok ((wr.alloc (.cells #[.bool no, .slice Ao os.length co, .bool nu, .slice Au us.length cu] 58)).alloc (.cells #[.bool no, .slice Ao os.length co, .bool nu, .slice Au us.length cu] 24))) := by
        intro e he
        simp only [List.mem_cons, List.not_mem_nil, or_false] at he
        rcases he with rfl | rfl
        · exact HE.out.1.1.over hb0.out
        · exact HE.out.2.1.over hb0.out
      go_wp2_with fail
      refine (odd_any (wr.heap.size + 1) 2 _ _ rfl (by omega) (by simp) hels.out hoks.out).mono ?_
      rintro e w1 ⟨rfl, hb1⟩
      have T1 := Lib.hid (Mem.over hb1 T0.out)
      have C1 := (A0.out _ T1.out).1
      have HB1 : Hid (Below w.heap.size w w1) := HB.out.trans (T1.out.below.mono HB.out.size)
      clear h0 h1 h2 h3 hels hoks hb1 T0 HT hb0
      cases hodd : List.any [(⟨no, Ao, co, os⟩ : El), ⟨nu, Au, cu, us⟩] El.odd with
      | true =>
        have HD := Lib.hid hodd
        clear hodd
        go_wp2
        go_ret
        refine ⟨ret_bool (HN.out ?_).symm, HB1.out⟩
        have h : (El.odd ⟨no, Ao, co, os⟩ || El.odd ⟨nu, Au, cu, us⟩) = true := by simpa [List.any_cons] using HD.out
        show ((El.odd _ || El.odd _) || _) = true
        rw [h]
        rfl
      | false =>
        have hod2 : (El.odd ⟨no, Ao, co, os⟩ || El.odd ⟨nu, Au, cu, us⟩) = false := by simpa [List.any_cons] using hodd
        have HD := Lib.hid hod2
        clear hod2
        clear hodd
        by_cases g5 : 5 < os.length
        · have g5' : (5 : Int) < ((os.length : Nat) : Int) := by omega
          have G5 := Lib.hid g5
          clear g5
          go_wp2
          go_ret
          refine ⟨ret_bool (HN.out ?_).symm, HB1.out⟩
          simp [Fe.odd, G5.out]
        · have g5' : ¬ (5 : Int) < ((os.length : Nat) : Int) := by omega
          have G5 := Lib.hid g5
          clear g5
          by_cases g6 : 5 < us.length
          · have g6' : (5 : Int) < ((us.length : Nat) : Int) := by omega
            have G6 := Lib.hid g6
            clear g6
            go_wp2
            go_ret
            refine ⟨ret_bool (HN.out ?_).symm, HB1.out⟩
            simp [Fe.odd, G6.out]
          · have g6' : ¬ (5 : Int) < ((us.length : Nat) : Int) := by omega
            have G6 := Lib.hid g6
            clear g6
            have HD2 := Bool.or_eq_false_iff.1 HD.out
            have IO := Lib.hid (El.int HE.out.1.1 HE.out.1.2 HD2.1)
            have IU := Lib.hid (El.int HE.out.2.1 HE.out.2.2 HD2.2)
            clear HD2
            obtain ⟨r, hr⟩ : ∃ r, rightQ (zval no os) (zval nu us) = r := ⟨_, rfl⟩
            have HR := Lib.hid hr
            clear hr
            go_wp2_with fail
            refine (right2_any (p := 10) (by omega) (by omega) (IO.out.over HB1.out) (IU.out.over HB1.out) HR.out).mono ?_
            rintro e w2 ⟨rfl, hb2⟩
            have HB2 : Hid (Below w.heap.size w w2) := HB1.out.trans (hb2.out.mono HB1.out.size)
            clear C1
            have HF : Hid (Fe.odd ⟨⟨no, Ao, co, os⟩, ⟨nu, Au, cu, us⟩⟩ = !r) := by
              show ((El.odd _ || El.odd _) || (decide (5 < os.length) || (decide (5 < us.length) || !(rightQ (zval no os) (zval nu us))))) = !r
              rw [HD.out, HR.out, decide_eq_false G5.out, decide_eq_false G6.out]
              simp
            cases r with
            | true =>
              go_wp2
              go_roundw
              case rel => exact ⟨⟨k + 1, by omega, by go_num, HI.out false HF.out⟩, HB2.out⟩
              case measure => simp [intOf]; omega
            | false =>
              go_wp2
              go_ret
              exact ⟨ret_bool (HN.out HF.out).symm, HB2.out⟩
    · obtain rfl : k = es.length := by omega
      have HA : Hid (es.any Fe.odd = false) := by have h := ha.out; rwa [List.take_length] at h
      go_wp2
      go_ret
      exact ⟨ret_bool HA.out.symm, hb⟩
end Go.Proofs.YtpikbhcjgcbdfaaDoor.wh
