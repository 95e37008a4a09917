/- How lists of words and of integers come in, and stay. -/
import Derived.Test.YtpikbhcjgcbdfaaSi
import Derived.Test.YtpikbhcjgcbdfaaSo
namespace Go.Proofs.Ytpikbhcjgcbdfaa.sc
open Go.ChangeShapes Go.WideShapes Go.ChangeAt Go.RowKit Go.Joins

theorem cellsU : Try.prog.cellsOf 30 = 1 := by kernel_rfl
theorem cellsI : Try.prog.cellsOf 3 = 1 := by kernel_rfl
theorem laidOut : laidOutB Try.prog = true := by kernel_rfl
theorem open_us {H : Type} {enc : TypeId × Value → H} {W : World} {base : Nat} {v : Value} {d : DataW H} {p : List MemPlace}
    (hv : Value.okWide Try.prog W .any base 51 v) (h : DataW.Trod enc Try.prog W 0 (fun _ => true) true 51 v d p) :
    ∃ A xs c, v = .slice A xs.length c ∧ Ru W A xs ∧ (∀ x ∈ xs, x < 18446744073709551616) ∧ (A = none → xs.length = 0 ∧ c = 0) := by
  obtain ⟨A0, l0, c0, rfl⟩ := okWide_slice Try.underlying51 hv
  obtain ⟨fuel, h⟩ := h
  rcases open_ints Try.underlying51 Try.underlying30 cellsU h with ⟨e1, _⟩ | ⟨a, len, cap, zs, e1, _, hl, hm, hz, _, hcell, hwf⟩
  · obtain ⟨rfl, rfl, rfl⟩ : A0 = none ∧ l0 = 0 ∧ c0 = 0 := by simpa [Value.cells] using e1
    exact ⟨none, [], 0, rfl, fun h => absurd h (by simp), by simp, fun _ => ⟨rfl, rfl⟩⟩
  · obtain ⟨rfl, rfl, rfl⟩ : A0 = some a ∧ l0 = len ∧ c0 = cap := by simpa [Value.cells] using e1
    simp only [if_true] at hz
    have hlen : ((zs.take l0).map Int.toNat).length = l0 := by simp; omega
    refine ⟨some a, (zs.take l0).map Int.toNat, c0, by rw [hlen], ?_, ?_, fun e => by cases e⟩
    · intro hpos
      rw [hlen] at hpos
      obtain ⟨b', off, rfl, hc⟩ := ints_at hcell (by omega)
      have h0 := hc 0 (by omega)
      refine ⟨b', off, rfl, World.block_lt_of_cell? W _ h0, fun j hj => ?_⟩
      rw [hlen] at hj
      rw [hc j (by omega)]
      have hmem : zs.getD j 0 ∈ zs := by
        rw [List.getD_eq_getElem?_getD, List.getElem?_eq_getElem (by omega)]
        exact List.getElem_mem _
      obtain ⟨k, hk, _⟩ := u64_nat (hwf _ hmem)
      have e : ((zs.take l0).map Int.toNat)[j]'(by rw [hlen]; exact hj) = (zs.getD j 0).toNat := by
        rw [List.getElem_map, List.getElem_take, List.getD_eq_getElem?_getD, List.getElem?_eq_getElem (by omega), Option.getD_some]
      rw [e, hk]
      rfl
    · intro x hx
      simp only [List.mem_map] at hx
      obtain ⟨z, hz2, rfl⟩ := hx
      obtain ⟨k, hk, hk2⟩ := u64_nat (hwf _ (List.mem_of_mem_take hz2))
      rw [hk]
      exact hk2
theorem open_zs {H : Type} {enc : TypeId × Value → H} {W : World} {base : Nat} {v : Value} {d : DataW H} {p : List MemPlace}
    (hv : Value.okWide Try.prog W .any base 24 v) (h : DataW.Trod enc Try.prog W 0 (fun _ => true) true 24 v d p) :
    ∃ A xs c, v = .slice A xs.length c ∧ Rz W A xs ∧ (A = none → xs.length = 0 ∧ c = 0) := by
  obtain ⟨A0, l0, c0, rfl⟩ := okWide_slice Try.underlying24 hv
  obtain ⟨fuel, h⟩ := h
  rcases open_ints Try.underlying24 Try.underlying3 cellsI h with ⟨e1, _⟩ | ⟨a, len, cap, zs, e1, _, hl, hm, hz, _, hcell, hwf⟩
  · obtain ⟨rfl, rfl, rfl⟩ : A0 = none ∧ l0 = 0 ∧ c0 = 0 := by simpa [Value.cells] using e1
    exact ⟨none, [], 0, rfl, fun h => absurd h (by simp), fun _ => ⟨rfl, rfl⟩⟩
  · obtain ⟨rfl, rfl, rfl⟩ : A0 = some a ∧ l0 = len ∧ c0 = cap := by simpa [Value.cells] using e1
    simp only [if_true] at hz
    have hlen : (zs.take l0).length = l0 := by simp; omega
    refine ⟨some a, zs.take l0, c0, by rw [hlen], ?_, fun e => by cases e⟩
    intro hpos
    rw [hlen] at hpos
    obtain ⟨b', off, rfl, hc⟩ := ints_at hcell (by omega)
    have h0 := hc 0 (by omega)
    refine ⟨b', off, rfl, World.block_lt_of_cell? W _ h0, fun j hj => ?_⟩
    rw [hlen] at hj
    rw [hc j (by omega)]
    congr 2
    rw [List.getElem_take, List.getD_eq_getElem?_getD, List.getElem?_eq_getElem (by omega), Option.getD_some]
theorem readsU : Try.prog.readableRec 51 = true := by kernel_rfl
theorem rowU : 51 < Try.prog.types.size := of_decide_eq_true (by kernel_rfl)
theorem readsI : Try.prog.readableRec 24 = true := by kernel_rfl
theorem rowI : 24 < Try.prog.types.size := of_decide_eq_true (by kernel_rfl)
theorem staysU {H : Type} {enc : TypeId × Value → H} {W W' : World} {sp' : Nat → Bool} {v : Value} {d : DataW H} {ps : List MemPlace} (h : DataW.Trod enc Try.prog W 0 (fun _ => true) true 51 v d ps) (hb : Below W.heap.size W W') (hlt : ∀ x ∈ ps, x.block < W.heap.size) (hs : ∀ p ∈ ps, sp' p.block = true) :
    DataW.Trod enc Try.prog W' 0 sp' true 51 v d ps := WideElems.Trod_stays laidOut readsU rowU h (fun x hx => hb.same (hlt x hx)) hs
theorem staysI {H : Type} {enc : TypeId × Value → H} {W W' : World} {sp' : Nat → Bool} {v : Value} {d : DataW H} {ps : List MemPlace} (h : DataW.Trod enc Try.prog W 0 (fun _ => true) true 24 v d ps) (hb : Below W.heap.size W W') (hlt : ∀ x ∈ ps, x.block < W.heap.size) (hs : ∀ p ∈ ps, sp' p.block = true) :
    DataW.Trod enc Try.prog W' 0 sp' true 24 v d ps := WideElems.Trod_stays laidOut readsI rowI h (fun x hx => hb.same (hlt x hx)) hs
end Go.Proofs.Ytpikbhcjgcbdfaa.sc
