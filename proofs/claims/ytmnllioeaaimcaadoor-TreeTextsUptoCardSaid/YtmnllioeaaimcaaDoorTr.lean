/- A slice that reads as tokens. -/
import Derived.Deep.Draws
import Derived.Laws.StructEq
import Derived.Deep.RegionHeld3
import Derived.Test.YtmnllioeaaimcaaDoorTp
import Derived.Test.YtmnllioeaaimcaaDoorTq
namespace Go.Proofs.YtmnllioeaaimcaaDoor.tk
open Go.RowKit

/-- a slice that reads as tokens -/
def Tr (w : World) (A : Option Addr) (D : List Tk) : Prop := 0 < D.length → ∃ g, A = some ⟨g, 0, none⟩ ∧ ∀ j (h : j < D.length), w.cell? ⟨g, j * 3, none⟩ = some (.int .i64 (D[j].kind : Int)) ∧ w.cell? ⟨g, j * 3 + 1, none⟩ = some (.string ⟨D[j].text.toArray⟩) ∧ w.cell? ⟨g, j * 3 + 2, none⟩ = some (.int .i64 (D[j].at_ : Int))
theorem tkCells_at (D : List Tk) : ∀ j (h : j < D.length), (tkCells D)[j * 3]? = some (.int .i64 (D[j].kind : Int)) ∧ (tkCells D)[j * 3 + 1]? = some (.string ⟨D[j].text.toArray⟩) ∧ (tkCells D)[j * 3 + 2]? = some (.int .i64 (D[j].at_ : Int)) := by
  induction D with
  | nil => intro j h; simp at h
  | cons x r ih =>
    intro j h
    have e : tkCells (x :: r) = .int .i64 (x.kind : Int) :: .string ⟨x.text.toArray⟩ :: .int .i64 (x.at_ : Int) :: tkCells r := rfl
    rw [e]
    cases j with
    | zero => exact ⟨rfl, rfl, rfl⟩
    | succ j =>
      have := ih j (by simpa using h)
      rw [show (j + 1) * 3 = j * 3 + 3 by omega]
      exact this
theorem Tr.of_own {w : World} {base n c : Nat} {e : TypeId} {A : Option Addr} {D : List Tk} (h : w.ownsRow base e 3 (.slice A n c) n (tkCells D)) : Tr w A D := by
  intro h0
  have hl : D.length = n := by have := h.1; rw [tkCells_len] at this; omega
  rcases h.2 with ⟨_, e2⟩ | ⟨g, cap, cur, e1, _, e3, hn, _, hs, ht⟩
  · omega
  · have hA : A = some ⟨g, 0, none⟩ := by injection e1
    refine ⟨g, hA, fun j hj => ?_⟩
    obtain ⟨h1, h2, h3⟩ := tkCells_at D j hj
    rw [← ht] at h1 h2 h3
    have cell : ∀ i v, (cur.toList.take (n * 3))[i]? = some v → w.cell? ⟨g, i, none⟩ = some v := by
      intro i v hv
      rw [cell_of_row w g i cur e (0, 0) e3]
      rw [List.getElem?_take] at hv
      split at hv
      · simpa using hv
      · cases hv
    exact ⟨cell _ _ h1, cell _ _ h2, cell _ _ h3⟩
theorem Tr.at_ {w : World} {A : Option Addr} {D : List Tk} (h : Tr w A D) {j : Nat} (hj : j < D.length) : ∃ g, A = some ⟨g, 0, none⟩ ∧ w.cell? ⟨g, j * 3, none⟩ = some (.int .i64 (D[j].kind : Int)) ∧ w.cell? ⟨g, j * 3 + 1, none⟩ = some (.string ⟨D[j].text.toArray⟩) ∧ w.cell? ⟨g, j * 3 + 2, none⟩ = some (.int .i64 (D[j].at_ : Int)) := by
  obtain ⟨g, e, hc⟩ := h (by omega)
  exact ⟨g, e, hc j hj⟩

theorem take_one {D E : List Tk} {k : Nat} (h : k < D.length) (h2 : k < E.length) : D.take (k + 1) = E.take (k + 1) ↔ D.take k = E.take k ∧ D[k] = E[k] := by
  rw [List.take_succ_eq_append_getElem h, List.take_succ_eq_append_getElem h2]
  constructor
  · intro e
    have := List.append_inj e (by rw [List.length_take, List.length_take]; omega)
    exact ⟨this.1, by simpa using this.2⟩
  · rintro ⟨e1, e2⟩
    rw [e1, e2]
@[go_sem] theorem tok_neq (w : World) (a b a' b' : Int) (s s' : ByteArray) : (binOp .neq 35 (.agg #[.int .i64 a, .string s, .int .i64 b]) (.agg #[.int .i64 a', .string s', .int .i64 b'])).run Tryd.prog w = .ok (.bool (!(a == a' && (s.toList == s'.toList && b == b')))) w := by
  have hp : Tryd.prog.stoodInHeld 35 = false := by kernel_rfl
  have ht : Tryd.prog.underlying 35 = some (.struct (Tryd.prog.fieldsOf 35)) := by simp [Program.fieldsOf, Tryd.underlying35]
  rw [run_neq_struct, run_equalIn_agg w _ _ _ _ ht hp]
  simp [Program.fieldsOf, Tryd.underlying35, Op.eqFields, go_sem, Tryd.underlying3, Tryd.underlying9]
  by_cases h1 : a = a' <;> by_cases h2 : s.toList = s'.toList <;> by_cases h3 : b = b' <;> simp [h1, h2, h3]
@[go_sem] theorem tok_guard (w : World) (x y : Operand) (xs ys : Array Value) : (eqGuard .neq 35 x y (.agg xs) (.agg ys)).run Tryd.prog w = .ok () w := run_eqGuard_agg w _ _ _ _ _ _ (by kernel_rfl)

end Go.Proofs.YtmnllioeaaimcaaDoor.tk
