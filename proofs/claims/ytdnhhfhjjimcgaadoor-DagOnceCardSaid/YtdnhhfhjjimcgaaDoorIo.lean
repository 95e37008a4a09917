/- The statements of layer 6, their frame: a slice of acts that is nil has no room. -/
import Derived.Test.YtdnhhfhjjimcgaaDoorId
import Derived.Test.YtdnhhfhjjimcgaaDoorIn
namespace Go.Proofs.YtdnhhfhjjimcgaaDoor.dg
open Go.ChangeShapes Go.WideShapes Go.ChangeAt Go.RowKit Go.Joins

set_option maxRecDepth 100000 in
theorem open_acs2 {H : Type} {enc : TypeId × Value → H} {W : World} {base : Nat} {v : Value} {d : DataW H} {p : List MemPlace}
    (hv : Value.okWide Tryd.prog W .any base 22 v) (h : DataW.Trod enc Tryd.prog W 0 (fun _ => true) true 22 v d p) :
    ∃ A l c, v = .slice A (l : List Ac).length c ∧ Acs W W.heap.size l A c ∧ (A = none → c = 0) := by
  obtain ⟨A, l, c, rfl, ha⟩ := open_acs hv h
  refine ⟨A, l, c, rfl, ha, fun e => ?_⟩
  subst e
  obtain ⟨fuel, h⟩ := h
  rcases Go.Deep.open_slice Tryd.underlying22 h with ⟨e1, _⟩ | ⟨a, len, cap, m, n, D, Pl, e1, _⟩
  · have : l.length = 0 ∧ c = 0 := by simpa [Value.cells] using e1
    exact this.2
  · simp [Value.cells] at e1
end Go.Proofs.YtdnhhfhjjimcgaaDoor.dg
