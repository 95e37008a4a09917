/- How a list of tokens comes in, and stays. -/
import Derived.Test.YtmnllioeaaimcaaDoorQb
import Derived.Test.YtmnllioeaaimcaaDoorPv
import Derived.Deep.Slices
namespace Go.Proofs.YtmnllioeaaimcaaDoor.tk
open Go.ChangeShapes Go.WideShapes Go.ChangeAt Go.RowKit Go.Joins

theorem cellsTk : Tryd.prog.cellsOf 35 = 3 := by kernel_rfl
theorem cellsIn : Tryd.prog.cellsOf 3 = 1 := by kernel_rfl
theorem cellsSt : Tryd.prog.cellsOf 9 = 1 := by kernel_rfl
set_option maxRecDepth 100000 in
/-- one token, opened: its three cells -/
theorem open_one {H : Type} {enc : TypeId × Value → H} {W : World} {base fuel : Nat} {sp : Nat → Bool} {held : Bool} {cs : List Value} {x : DataW H × List MemPlace} (h : DataW.trod enc Tryd.prog W base sp held fuel 35 cs = some x) :
    ∃ (a : Int) (s : ByteArray) (b : Int), cs = [.int .i64 a, .string s, .int .i64 b] := by
  obtain ⟨xs, n, _, _, hl, hx, hf⟩ := DataW.trod_struct Tryd.underlying35 h
  rw [cellsTk] at hl
  have hx : xs.length = 3 := hx
  match cs, hl, xs, hx with
  | [c0, c1, c2], _, [y0, y1, y2], _ =>
    have f0 := hf 0 _ rfl
    have f1 := hf 1 _ rfl
    have f2 := hf 2 _ rfl
    have f0 : DataW.trod enc Tryd.prog W base sp held n 3 (List.take (Tryd.prog.cellsOf 3) [c0, c1, c2]) = some y0 := f0
    have f1 : DataW.trod enc Tryd.prog W base sp held n 9 (List.take (Tryd.prog.cellsOf 9) [c1, c2]) = some y1 := f1
    have f2 : DataW.trod enc Tryd.prog W base sp held n 3 (List.take (Tryd.prog.cellsOf 3) [c2]) = some y2 := f2
    rw [cellsIn] at f0 f2
    rw [cellsSt] at f1
    obtain ⟨a, ea, _⟩ := DataW.trod_int Tryd.underlying3 f0
    obtain ⟨s, es, _⟩ := DataW.trod_string Tryd.underlying9 f1
    obtain ⟨b, eb, _⟩ := DataW.trod_int Tryd.underlying3 f2
    simp only [List.take_succ_cons, List.take_zero, List.cons.injEq, and_true] at ea es eb
    exact ⟨a, s, b, by rw [ea, es, eb]⟩
set_option maxRecDepth 100000 in
theorem open_tks {H : Type} {enc : TypeId × Value → H} {W : World} {base : Nat} {v : Value} {d : DataW H} {p : List MemPlace}
    (hv : Value.okWide Tryd.prog W .any base 22 v) (h : DataW.Trod enc Tryd.prog W 0 (fun _ => true) true 22 v d p) :
    ∃ A l c, v = .slice A (l : List Gt).length c ∧ Ta W A l := by
  obtain ⟨A0, l0, c0, rfl⟩ := okWide_slice Tryd.underlying22 hv
  obtain ⟨fuel, h⟩ := h
  rcases Go.Deep.open_slice Tryd.underlying22 h with ⟨e1, _⟩ | ⟨a, len, cap, m, n, D, Pl, e1, _, hl, _, hm, _, hel⟩
  · obtain ⟨rfl, rfl, rfl⟩ : A0 = none ∧ l0 = 0 ∧ c0 = 0 := by simpa [Value.cells] using e1
    exact ⟨none, [], 0, rfl, fun h => absurd h (by simp)⟩
  · obtain ⟨rfl, rfl, rfl⟩ : A0 = some a ∧ l0 = len ∧ c0 = cap := by simpa [Value.cells] using e1
    simp only [if_true] at hm
    have one : ∀ i, i < l0 → ∃ x : Gt, ∀ j (hj : j < 3), W.cell? (a.add (i * 3 + j)) = some ([Value.int .i64 x.k, .string x.s, .int .i64 x.p][j]) := by
      intro i hi
      obtain ⟨cs', hc, ht⟩ := hel i (by omega)
      rw [cellsTk] at hc
      obtain ⟨z1, z2, z3, rfl⟩ := open_one ht
      obtain ⟨_, _, hat⟩ := World.cells?_some hc
      refine ⟨⟨z1, z2, z3⟩, fun j hj => ?_⟩
      have := hat j hj
      rw [Go.Deep.add_add] at this
      rw [this, List.getElem?_eq_getElem (by simpa using hj)]
    have all : ∃ f : Nat → Gt, ∀ i, i < l0 → ∀ j (hj : j < 3), W.cell? (a.add (i * 3 + j)) = some ([Value.int .i64 (f i).k, .string (f i).s, .int .i64 (f i).p][j]) := by
      refine ⟨fun i => if hi : i < l0 then (one i hi).choose else ⟨0, ⟨#[]⟩, 0⟩, fun i hi => ?_⟩
      have := (one i hi).choose_spec
      simp only [hi, dif_pos]
      exact this
    obtain ⟨f, hf⟩ := all
    refine ⟨some a, (List.range l0).map f, c0, by simp, ?_⟩
    intro hpos
    have hp : 0 < l0 := by simpa using hpos
    obtain ⟨b, off, spot⟩ := a
    have hspot : spot = none := by simpa [Addr.add] using World.cell?_spot (hf 0 hp 0 (by omega))
    subst hspot
    have at_ : ∀ i, i < l0 → ∀ j (hj : j < 3), W.cell? ⟨b, off + (i * 3 + j), none⟩ = some ([Value.int .i64 (f i).k, .string (f i).s, .int .i64 (f i).p][j]) := fun i hi j hj => by
      rw [← Go.WideShapes.add_plain]
      exact hf i hi j hj
    refine ⟨b, off, rfl, World.block_lt_of_cell? W _ (at_ 0 hp 0 (by omega)), fun j hj => ?_⟩
    have hj' : j < l0 := by simpa using hj
    simp only [List.getElem_map, List.getElem_range]
    refine ⟨at_ j hj' 0 (by omega), ?_, ?_⟩
    · rw [Nat.add_assoc]; exact at_ j hj' 1 (by omega)
    · rw [Nat.add_assoc]; exact at_ j hj' 2 (by omega)
theorem readsTs : Tryd.prog.readableRec 22 = true := by kernel_rfl
theorem rowTs : 22 < Tryd.prog.types.size := of_decide_eq_true (by kernel_rfl)
theorem staysTs {H : Type} {enc : TypeId × Value → H} {W W' : World} {sp' : Nat → Bool} {v : Value} {d : DataW H} {ps : List MemPlace} (h : DataW.Trod enc Tryd.prog W 0 (fun _ => true) true 22 v d ps) (hb : Below W.heap.size W W') (hlt : ∀ x ∈ ps, x.block < W.heap.size) (hs : ∀ p ∈ ps, sp' p.block = true) :
    DataW.Trod enc Tryd.prog W' 0 sp' true 22 v d ps := WideElems.Trod_stays laidOut readsTs rowTs h (fun x hx => hb.same (hlt x hx)) hs
end Go.Proofs.YtmnllioeaaimcaaDoor.tk
