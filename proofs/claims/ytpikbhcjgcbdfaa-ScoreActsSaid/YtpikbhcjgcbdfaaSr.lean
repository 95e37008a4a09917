/- How a list of acts comes in, and stays. -/
import Derived.Test.YtpikbhcjgcbdfaaSq
import Derived.Test.YtpikbhcjgcbdfaaSp
import Derived.Deep.Slices
namespace Go.Proofs.Ytpikbhcjgcbdfaa.sc
open Go.ChangeShapes Go.WideShapes Go.ChangeAt Go.RowKit Go.Joins

theorem cellsA : Try.prog.cellsOf 32 = 4 := by kernel_rfl
/-- one act, opened: its four cells -/
theorem open_act {H : Type} {enc : TypeId × Value → H} {W : World} {base fuel : Nat} {sp : Nat → Bool} {held : Bool} {cs : List Value} {x : DataW H × List MemPlace} (h : DataW.trod enc Try.prog W base sp held fuel 32 cs = some x) :
    ∃ (a b c : Int) (d : Nat), cs = [.int .i64 a, .int .i64 b, .int .i64 c, .int .u64 (d : Int)] ∧ d < 18446744073709551616 := by
  obtain ⟨xs, n, _, _, hl, hx, hf⟩ := DataW.trod_struct Try.underlying32 h
  rw [cellsA] at hl
  have hx : xs.length = 4 := hx
  match cs, hl, xs, hx with
  | [c0, c1, c2, c3], _, [y0, y1, y2, y3], _ =>
    have f0 := hf 0 _ rfl
    have f1 := hf 1 _ rfl
    have f2 := hf 2 _ rfl
    have f3 := hf 3 _ rfl
    have f0 : DataW.trod enc Try.prog W base sp held n 3 (List.take (Try.prog.cellsOf 3) [c0, c1, c2, c3]) = some y0 := f0
    have f1 : DataW.trod enc Try.prog W base sp held n 3 (List.take (Try.prog.cellsOf 3) [c1, c2, c3]) = some y1 := f1
    have f2 : DataW.trod enc Try.prog W base sp held n 3 (List.take (Try.prog.cellsOf 3) [c2, c3]) = some y2 := f2
    have f3 : DataW.trod enc Try.prog W base sp held n 30 (List.take (Try.prog.cellsOf 30) [c3]) = some y3 := f3
    rw [cellsI] at f0 f1 f2
    rw [cellsU] at f3
    obtain ⟨a, ea, _, _⟩ := DataW.trod_int Try.underlying3 f0
    obtain ⟨b, eb, _, _⟩ := DataW.trod_int Try.underlying3 f1
    obtain ⟨c, ec, _, _⟩ := DataW.trod_int Try.underlying3 f2
    obtain ⟨d, ed, _, wd⟩ := DataW.trod_int Try.underlying30 f3
    obtain ⟨k, rfl, hk⟩ := u64_nat wd
    simp only [List.take_succ_cons, List.take_zero, List.cons.injEq, and_true] at ea eb ec ed
    exact ⟨a, b, c, k, by rw [ea, eb, ec, ed], hk⟩
theorem open_acts {H : Type} {enc : TypeId × Value → H} {W : World} {base : Nat} {v : Value} {d : DataW H} {p : List MemPlace}
    (hv : Value.okWide Try.prog W .any base 23 v) (h : DataW.Trod enc Try.prog W 0 (fun _ => true) true 23 v d p) :
    ∃ A acs c, v = .slice A acs.length c ∧ Ra W A acs ∧ ∀ a ∈ acs, a.bits < 18446744073709551616 := by
  obtain ⟨A0, l0, c0, rfl⟩ := okWide_slice Try.underlying23 hv
  obtain ⟨fuel, h⟩ := h
  rcases Go.Deep.open_slice Try.underlying23 h with ⟨e1, _⟩ | ⟨a, len, cap, m, n, D, Pl, e1, _, hl, _, hm, _, hel⟩
  · obtain ⟨rfl, rfl, rfl⟩ : A0 = none ∧ l0 = 0 ∧ c0 = 0 := by simpa [Value.cells] using e1
    exact ⟨none, [], 0, rfl, fun h => absurd h (by simp), by simp⟩
  · obtain ⟨rfl, rfl, rfl⟩ : A0 = some a ∧ l0 = len ∧ c0 = cap := by simpa [Value.cells] using e1
    simp only [if_true] at hm
    have one : ∀ i, i < l0 → ∃ x : Ac, x.bits < 18446744073709551616 ∧ ∀ j (hj : j < 4), W.cell? (a.add (i * 4 + j)) = some ([Value.int .i64 x.what, .int .i64 x.v, .int .i64 x.n, .int .u64 (x.bits : Int)][j]) := by
      intro i hi
      obtain ⟨cs', hc, ht⟩ := hel i (by omega)
      rw [cellsA] at hc
      obtain ⟨z1, z2, z3, k, rfl, hk⟩ := open_act ht
      obtain ⟨_, _, hat⟩ := World.cells?_some hc
      refine ⟨⟨z1, z2, z3, k⟩, hk, fun j hj => ?_⟩
      have := hat j hj
      rw [Go.Deep.add_add] at this
      rw [this, List.getElem?_eq_getElem (by simpa using hj)]
    have all : ∃ f : Nat → Ac, ∀ i, i < l0 → (f i).bits < 18446744073709551616 ∧ ∀ j (hj : j < 4), W.cell? (a.add (i * 4 + j)) = some ([Value.int .i64 (f i).what, .int .i64 (f i).v, .int .i64 (f i).n, .int .u64 ((f i).bits : Int)][j]) := by
      refine ⟨fun i => if hi : i < l0 then (one i hi).choose else ⟨0, 0, 0, 0⟩, fun i hi => ?_⟩
      have := (one i hi).choose_spec
      simp only [hi, dif_pos]
      exact this
    obtain ⟨f, hf⟩ := all
    refine ⟨some a, (List.range l0).map f, c0, by simp, ?_, ?_⟩
    · intro hpos
      have hp : 0 < l0 := by simpa using hpos
      obtain ⟨b, off, spot⟩ := a
      have hspot : spot = none := by simpa [Addr.add] using World.cell?_spot ((hf 0 hp).2 0 (by omega))
      subst hspot
      have at_ : ∀ i, i < l0 → ∀ j (hj : j < 4), W.cell? ⟨b, off + (i * 4 + j), none⟩ = some ([Value.int .i64 (f i).what, .int .i64 (f i).v, .int .i64 (f i).n, .int .u64 ((f i).bits : Int)][j]) := fun i hi j hj => by
        rw [← Go.WideShapes.add_plain]
        exact (hf i hi).2 j hj
      refine ⟨b, off, rfl, World.block_lt_of_cell? W _ (at_ 0 hp 0 (by omega)), fun j hj => ?_⟩
      have hj' : j < l0 := by simpa using hj
      simp only [List.getElem_map, List.getElem_range]
      refine ⟨at_ j hj' 0 (by omega), ?_, ?_, ?_⟩
      · rw [Nat.add_assoc]; exact at_ j hj' 1 (by omega)
      · rw [Nat.add_assoc]; exact at_ j hj' 2 (by omega)
      · rw [Nat.add_assoc]; exact at_ j hj' 3 (by omega)
    · intro x hx
      simp only [List.mem_map, List.mem_range] at hx
      obtain ⟨i, hi, rfl⟩ := hx
      exact (hf i hi).1
theorem readsA : Try.prog.readableRec 23 = true := by kernel_rfl
theorem rowA : 23 < Try.prog.types.size := of_decide_eq_true (by kernel_rfl)
theorem staysA {H : Type} {enc : TypeId × Value → H} {W W' : World} {sp' : Nat → Bool} {v : Value} {d : DataW H} {ps : List MemPlace} (h : DataW.Trod enc Try.prog W 0 (fun _ => true) true 23 v d ps) (hb : Below W.heap.size W W') (hlt : ∀ x ∈ ps, x.block < W.heap.size) (hs : ∀ p ∈ ps, sp' p.block = true) :
    DataW.Trod enc Try.prog W' 0 sp' true 23 v d ps := WideElems.Trod_stays laidOut readsA rowA h (fun x hx => hb.same (hlt x hx)) hs
end Go.Proofs.Ytpikbhcjgcbdfaa.sc
