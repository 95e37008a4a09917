/- How tokens come in; rows that the call makes. -/
import Derived.Test.YtmnllioeaaimcaaDoorPm
namespace Go.Proofs.YtmnllioeaaimcaaDoor.tk
open Go.RowKit

/-- a token, as it comes in -/
structure Gt where
  k : Int
  s : ByteArray
  p : Int
/-- a slice that reads as such tokens -/
def Ta (w : World) (A : Option Addr) (l : List Gt) : Prop :=
  0 < l.length → ∃ b off, A = some ⟨b, off, none⟩ ∧ b < w.heap.size ∧ ∀ j (h : j < l.length), w.cell? ⟨b, off + j * 3, none⟩ = some (.int .i64 (l[j]'h).k) ∧ w.cell? ⟨b, off + j * 3 + 1, none⟩ = some (.string (l[j]'h).s) ∧ w.cell? ⟨b, off + j * 3 + 2, none⟩ = some (.int .i64 (l[j]'h).p)
theorem Ta.below {w w' : World} {A : Option Addr} {l : List Gt} (h : Ta w A l) (hb : Below w.heap.size w w') : Ta w' A l := fun hn => by
  obtain ⟨b, off, e, hlt, hc⟩ := h hn
  have k := fun o => hb.cell (p := ⟨b, o, none⟩) hlt
  exact ⟨b, off, e, Nat.lt_of_lt_of_le hlt hb.size, fun j hj => ⟨(k _).trans (hc j hj).1, (k _).trans (hc j hj).2.1, (k _).trans (hc j hj).2.2⟩⟩
theorem Ta.at_ {w : World} {A : Option Addr} {l : List Gt} (h : Ta w A l) {j : Nat} (hj : j < l.length) : ∃ K S P b off, A = some ⟨b, off, none⟩ ∧ w.cell? ⟨b, off + j * 3, none⟩ = some (.int .i64 K) ∧ w.cell? ⟨b, off + j * 3 + 1, none⟩ = some (.string S) ∧ w.cell? ⟨b, off + j * 3 + 2, none⟩ = some (.int .i64 P) := by
  obtain ⟨b, off, e, _, hc⟩ := h (by omega)
  exact ⟨_, _, _, b, off, e, hc j hj⟩

/-- two rows that the call has made, of two types: they lie apart -/
theorem own_apart {w : World} {base size size2 n m : Nat} {e e2 : TypeId} {v v2 : Value} {xs ys : List Value} (h : w.ownsRow base e size v n xs) (h2 : w.ownsRow base e2 size2 v2 m ys) (hne : e ≠ e2) : ∀ g, v2.ownBlock = some g → v.ownBlock ≠ some g := by
  intro g hg hv
  rcases h.2 with ⟨rfl, _⟩ | ⟨b, cap, cur, rfl, _, e3, _⟩
  · simp [Value.ownBlock] at hv
  rcases h2.2 with ⟨rfl, _⟩ | ⟨b2, cap2, cur2, rfl, _, e4, _⟩
  · simp [Value.ownBlock] at hg
  simp only [Value.ownBlock, Option.some.injEq] at hg hv
  subst hg
  rw [hv] at e3
  rw [e3] at e4
  injection e4 with e4
  injection e4 with _ e5 _
  exact hne e5
theorem own_grown {w w' : World} {base size n : Nat} {e : TypeId} {v : Value} {xs : List Value} {r : Option Nat} (h : w.ownsRow base e size v n xs) (hg : w.grownBy w' r) (hne : ∀ g, v.ownBlock = some g → r ≠ some g) : w'.ownsRow base e size v n xs := by
  refine ⟨h.1, h.2.imp id ?_⟩
  rintro ⟨g, cap, cur, rfl, e2, e3, q⟩
  have hlt : g < w.heap.size := (Array.getElem?_eq_some_iff.1 e3).1
  exact ⟨g, cap, cur, rfl, e2, (hg.block g hlt (fun x => hne g rfl x.symm)).trans e3, q⟩
end Go.Proofs.YtmnllioeaaimcaaDoor.tk
