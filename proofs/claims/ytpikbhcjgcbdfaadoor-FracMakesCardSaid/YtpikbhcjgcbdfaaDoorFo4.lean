/- The statements of layer 2: how a fraction comes in, and that it stays. -/
import Derived.Test.YtpikbhcjgcbdfaaDoorFo1
import Derived.Test.YtpikbhcjgcbdfaaDoorOpen
namespace Go.Proofs.YtpikbhcjgcbdfaaDoor.wh
open Go.ChangeShapes Go.WideShapes Go.ChangeAt Go.RowKit Go.Joins Go.Deep

theorem cellsFrac : Tryd.prog.cellsOf 58 = 4 := by kernel_rfl
section
variable {H : Type} {enc : TypeId × Value → H} {P : Program} {w : World} {base : Nat} {spare : Nat → Bool} {held : Bool}
theorem open_row2 {t : TypeId} {f0 f1 : Field} {c0 c1 : Value} {n : Nat} {y : DataW H × List MemPlace} (hs : P.underlying t = some (.struct #[f0, f1])) (hone : oneCellFields P #[f0, f1] = true) (h : DataW.trod enc P w base spare held n t [c0, c1] = some y) :
    ∃ (y0 y1 : DataW H × List MemPlace) (m : Nat), DataW.trod enc P w base spare held m f0.type [c0] = some y0 ∧ DataW.trod enc P w base spare held m f1.type [c1] = some y1 := by
  obtain ⟨y0, y1, m, hx, _, h0, h1⟩ := trod_struct2 hs h
  obtain ⟨o0, k0⟩ := hone_of hone 0 f0 rfl
  obtain ⟨o1, k1⟩ := hone_of hone 1 f1 rfl
  exact ⟨y0, y1, m, by simpa [o0, k0] using h0, by simpa [o1, k1] using h1⟩
theorem open_two {t : TypeId} {f0 f1 : Field} {c0 c1 c2 c3 : Value} {n : Nat} {y : DataW H × List MemPlace} (hs : P.underlying t = some (.struct #[f0, f1])) (o0 : f0.offset = 0) (o1 : f1.offset = 2) (k0 : P.cellsOf f0.type = 2) (k1 : P.cellsOf f1.type = 2) (h : DataW.trod enc P w base spare held n t [c0, c1, c2, c3] = some y) :
    ∃ (y0 y1 : DataW H × List MemPlace) (m : Nat), DataW.trod enc P w base spare held m f0.type [c0, c1] = some y0 ∧ DataW.trod enc P w base spare held m f1.type [c2, c3] = some y1 := by
  obtain ⟨y0, y1, m, hx, _, h0, h1⟩ := trod_struct2 hs h
  exact ⟨y0, y1, m, by simpa [o0, k0] using h0, by simpa [o1, k1] using h1⟩
end

set_option maxRecDepth 100000 in
theorem el_of {H : Type} {enc : TypeId × Value → H} {W : World} {n : Nat} {c0 c1 : Value} {y : DataW H × List MemPlace} (h : DataW.trod enc Tryd.prog W 0 (fun _ => true) true n 24 [c0, c1] = some y) :
    ∃ e : El, c0 = .bool e.neg ∧ c1 = .slice e.A e.ds.length e.c ∧ e.Ok W ∧ e.ds.length ≤ e.c := by
  obtain ⟨y0, y1, m, hy0, hy1⟩ := open_row2 Tryd.underlying24 (by kernel_rfl) h
  obtain ⟨b, e0, _⟩ := DataW.trod_bool Tryd.underlying4 hy0
  obtain rfl : c0 = .bool b := by simpa using e0
  rcases open_ints Tryd.underlying22 Tryd.underlying82 cells58 hy1 with ⟨e1, _⟩ | ⟨a, len, cap, zs, e1, _, hl, hm, hz, _, hcell, hwf⟩
  · obtain rfl : c1 = .slice none 0 0 := by simpa using e1
    exact ⟨⟨b, none, 0, []⟩, rfl, rfl, ⟨by simp, Rd.nil⟩, by simp⟩
  · obtain rfl : c1 = .slice (some a) len cap := by simpa using e1
    simp only [if_true] at hz
    have hlen : ((zs.take len).map Int.toNat).length = len := by simp; omega
    refine ⟨⟨b, some a, cap, (zs.take len).map Int.toNat⟩, rfl, ?_, ⟨by show _ ≤ _; rw [hlen]; omega, ?_⟩, by show _ ≤ _; rw [hlen]; exact hl⟩
    · simp only [hlen]
    · intro hpos
      simp only [hlen] at hpos
      obtain ⟨b', off, rfl, hc⟩ := ints_at hcell (by omega)
      have h0 := hc 0 (by omega)
      refine ⟨b', off, rfl, World.block_lt_of_cell? W _ h0, fun j hj => ?_⟩
      simp only [hlen] at hj
      rw [hc j (by omega)]
      have hmem : zs.getD j 0 ∈ zs := by
        rw [List.getD_eq_getElem?_getD, List.getElem?_eq_getElem (by omega)]
        exact List.getElem_mem _
      have hw := hwf _ hmem
      have h1 := u32_nonneg hw
      have e : ((zs.take len).map Int.toNat)[j]'(by rw [hlen]; exact hj) = (zs.getD j 0).toNat := by
        rw [List.getElem_map, List.getElem_take, List.getD_eq_getElem?_getD, List.getElem?_eq_getElem (by omega), Option.getD_some]
      rw [e]
      congr 2
      omega

set_option maxRecDepth 100000 in
theorem open_fe {H : Type} {enc : TypeId × Value → H} {W : World} {base : Nat} {v : Value} {d : DataW H} {p : List MemPlace}
    (hv : Value.okWide Tryd.prog W .any base 58 v) (h : DataW.Trod enc Tryd.prog W 0 (fun _ => true) true 58 v d p) : ∃ e : Fe, v = e.val ∧ e.Ok W := by
  obtain ⟨cs, rfl, hsz⟩ := okWide_struct Tryd.underlying58 hv
  obtain ⟨c0, c1, c2, c3, rfl⟩ := array4 (hsz.trans cellsFrac)
  obtain ⟨fuel, hf⟩ := h
  obtain ⟨y0, y1, m, h0, h1⟩ := open_two (c0 := c0) (c1 := c1) (c2 := c2) (c3 := c3) Tryd.underlying58 rfl rfl cells24 cells24 (by simpa [Value.cells] using hf)
  obtain ⟨o, rfl, rfl, ho⟩ := el_of h0
  obtain ⟨u, rfl, rfl, hu⟩ := el_of h1
  exact ⟨⟨o, u⟩, rfl, ho, hu⟩

theorem readsFrac : Tryd.prog.readableRec 58 = true := by kernel_rfl
theorem rowFrac : 58 < Tryd.prog.types.size := of_decide_eq_true (by kernel_rfl)
theorem staysFrac {H : Type} {enc : TypeId × Value → H} {W W' : World} {sp' : Nat → Bool} {v : Value} {d : DataW H} {ps : List MemPlace} (h : DataW.Trod enc Tryd.prog W 0 (fun _ => true) true 58 v d ps) (hb : Below W.heap.size W W') (hlt : ∀ x ∈ ps, x.block < W.heap.size) (hs : ∀ p ∈ ps, sp' p.block = true) :
    DataW.Trod enc Tryd.prog W' 0 sp' true 58 v d ps := WideElems.Trod_stays laidOut readsFrac rowFrac h (fun x hx => hb.same (hlt x hx)) hs
end Go.Proofs.YtpikbhcjgcbdfaaDoor.wh
