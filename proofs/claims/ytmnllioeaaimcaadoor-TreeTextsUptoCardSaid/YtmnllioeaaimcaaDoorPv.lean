/- The statements' frame for layer 4: what the post asks of what is left; how texts come in, and stay. -/
import Derived.Test.YtmnllioeaaimcaaDoorRows
import Derived.Test.YtmnllioeaaimcaaDoorTg
import Derived.ProofKit
import Derived.OpenShut
import Derived.Lib.SmallJoins
import Derived.Deep.DeepHandedRow
namespace Go.Proofs.YtmnllioeaaimcaaDoor.tk
open Go.ChangeShapes Go.WideShapes Go.ChangeAt Go.RowKit Go.Joins

/-- What the post asks where below the heap's size all is as it was (marks of new blocks may stand). -/
theorem post_kept {H : Type} {enc : TypeId × Value → H} {P : Program} {f : Func} {s : ChangeSpec} {apart fresh handsOn again : Bool} {W W' : World} {args : Array Value} {v : Value} {ds gs : List (DataW H)} {before pa pv : List MemPlace}
    (hW : DataW.Whole enc P f.params.toList s.vars apart W args.toList ds gs before)
    (hres : ∀ (b : Nat) (sp : Nat → Bool) (hd : Bool), DataW.TrodAll enc P W' b sp hd f.resultTypes.toList (v.resultList f.resultTypes.size) (s.fn H (ds ++ gs)).results [])
    (hargs : ∀ sp : Nat → Bool, (∀ p ∈ before, sp p.block = true) → DataW.TrodAll enc P W' 0 sp true f.params.toList args.toList (s.fn H (ds ++ gs)).args pa)
    (hvars : ∀ sp : Nat → Bool, (∀ p ∈ before, sp p.block = true) → DataW.TrodVars enc P W' sp s.vars (s.fn H (ds ++ gs)).vars pv)
    (hps : before = pa ++ pv) (hb : Below W.heap.size W W')
    (hok : ∀ (j : Nat) (t : TypeId) (r : Value), f.resultTypes[j]? = some t → (v.resultList f.resultTypes.size)[j]? = some r → Value.okWide P W' .any 0 t r) :
    s.post enc P f apart fresh handsOn again W args v W' := by
  have lower : ∀ p ∈ before, p.block < W.heap.size := fun p hp => hW.lt p hp
  have was : ∀ p ∈ before, (fun b => decide (b < W.heap.size)) p.block = true := fun p hp => decide_eq_true (lower p hp)
  refine ⟨ds, gs, before, [], pa, pv, hW, hres _ _ _, hargs _ was, hvars _ was, World.keptBut_mono (fun p hp => ⟨hp, .inr ?_⟩) (hb.frame (· ∈ before)), fun _ => ?_⟩
  · rw [hps, List.mem_append] at hp
    exact hp
  · obtain ⟨_, _, _, _, _, hz, hn⟩ := hW
    refine ⟨hok, _, _, ([] ++ pa) ++ pv, ⟨[] ++ pa, pv, trodAll_append (hargs _ (fun _ _ => rfl)) (hres _ _ _), hvars _ (fun _ _ => rfl), rfl, ?_, ?_⟩, fun p hp _ => by rw [hps]; simpa using hp⟩
    · intro b off hp
      have inb : MemPlace.cell b off ∈ before := by rw [hps]; simpa using hp
      rw [hb.frozen (lower _ inb)]
      exact hz b off inb
    · intro ha
      have h := hn ha
      rw [hps] at h
      simpa using h

theorem u8_nat {x : Int} (h : (Lit.int .u8 x).wf = true) : ∃ c : UInt8, x = (c.toNat : Int) := by
  simp [Lit.wf, IntKind.min, IntKind.max, IntKind.signed, IntKind.bits] at h
  refine ⟨UInt8.ofNat x.toNat, ?_⟩
  rw [UInt8.toNat_ofNat']
  omega
theorem cellsB : Tryd.prog.cellsOf 5 = 1 := by kernel_rfl
theorem laidOut : laidOutB Tryd.prog = true := by kernel_rfl
set_option maxRecDepth 100000 in
theorem open_bs {H : Type} {enc : TypeId × Value → H} {W : World} {base : Nat} {v : Value} {d : DataW H} {p : List MemPlace}
    (hv : Value.okWide Tryd.prog W .any base 44 v) (h : DataW.Trod enc Tryd.prog W 0 (fun _ => true) true 44 v d p) :
    ∃ A bs c, v = .slice A bs.length c ∧ Rb W A bs ∧ bs.length ≤ c ∧ (A = none → bs.length = 0 ∧ c = 0) := by
  obtain ⟨A0, l0, c0, rfl⟩ := okWide_slice Tryd.underlying44 hv
  obtain ⟨fuel, h⟩ := h
  rcases open_ints Tryd.underlying44 Tryd.underlying5 cellsB h with ⟨e1, _⟩ | ⟨a, len, cap, zs, e1, _, hl, hm, hz, _, hcell, hwf⟩
  · obtain ⟨rfl, rfl, rfl⟩ : A0 = none ∧ l0 = 0 ∧ c0 = 0 := by simpa [Value.cells] using e1
    exact ⟨none, [], 0, rfl, fun h => absurd h (by simp), Nat.le_refl _, fun _ => ⟨rfl, rfl⟩⟩
  · obtain ⟨rfl, rfl, rfl⟩ : A0 = some a ∧ l0 = len ∧ c0 = cap := by simpa [Value.cells] using e1
    simp only [if_true] at hz
    have hlen : ((zs.take l0).map fun z => UInt8.ofNat z.toNat).length = l0 := by simp; omega
    refine ⟨some a, (zs.take l0).map fun z => UInt8.ofNat z.toNat, c0, by rw [hlen], ?_, by rw [hlen]; exact hl, fun e => by cases e⟩
    intro hpos
    rw [hlen] at hpos
    obtain ⟨b', off, rfl, hc⟩ := ints_at hcell (by omega)
    have h0 := hc 0 (by omega)
    refine ⟨b', off, rfl, World.block_lt_of_cell? W _ h0, fun j hj => ?_⟩
    rw [hlen] at hj
    rw [hc j (by omega)]
    have hmem : zs.getD j 0 ∈ zs := by
      rw [List.getD_eq_getElem?_getD, List.getElem?_eq_getElem (by omega)]
      exact List.getElem_mem _
    obtain ⟨k, hk⟩ := u8_nat (hwf _ hmem)
    have e : ((zs.take l0).map fun z => UInt8.ofNat z.toNat)[j]'(by rw [hlen]; exact hj) = UInt8.ofNat (zs.getD j 0).toNat := by
      rw [List.getElem_map, List.getElem_take, List.getD_eq_getElem?_getD, List.getElem?_eq_getElem (by omega), Option.getD_some]
    rw [e, hk]
    congr 2
    rw [Int.toNat_natCast]
    simp
theorem readsB : Tryd.prog.readableRec 44 = true := by kernel_rfl
theorem rowB : 44 < Tryd.prog.types.size := of_decide_eq_true (by kernel_rfl)
theorem staysB {H : Type} {enc : TypeId × Value → H} {W W' : World} {sp' : Nat → Bool} {v : Value} {d : DataW H} {ps : List MemPlace} (h : DataW.Trod enc Tryd.prog W 0 (fun _ => true) true 44 v d ps) (hb : Below W.heap.size W W') (hlt : ∀ x ∈ ps, x.block < W.heap.size) (hs : ∀ p ∈ ps, sp' p.block = true) :
    DataW.Trod enc Tryd.prog W' 0 sp' true 44 v d ps := WideElems.Trod_stays laidOut readsB rowB h (fun x hx => hb.same (hlt x hx)) hs
end Go.Proofs.YtmnllioeaaimcaaDoor.tk
