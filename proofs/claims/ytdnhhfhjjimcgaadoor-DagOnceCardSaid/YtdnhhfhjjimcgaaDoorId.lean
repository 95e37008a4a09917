/- The statements of layer 6, their frame: what the post asks of what is left; how acts and terms come in, and stay. -/
import Derived.Test.YtdnhhfhjjimcgaaDoorIa
import Derived.ProofKit
import Derived.OpenShut
import Derived.Lib.SmallJoins
import Derived.Deep.DeepHandedRow
import Derived.Deep.Slices
import Derived.Lib.LaidTab
namespace Go.Proofs.YtdnhhfhjjimcgaaDoor.dg
open Go.ChangeShapes Go.WideShapes Go.ChangeAt Go.RowKit Go.Joins

/-- What the post asks where below the heap's size all is as it was (marks of new blocks may stand). -/
theorem post_kept {H : Type} {enc : TypeId × Value → H} {P : Program} {f : Func} {s : ChangeSpec} {apart fresh handsOn again : Bool} {W W' : World} {args : Array Value} {v : Value} {ds gs : List (DataW H)} {before pa pv : List MemPlace}
    (hW : DataW.Whole enc P f.params.toList s.vars apart W args.toList ds gs before)
    (hres : ∀ (b : Nat) (sp : Nat → Bool) (hd : Bool), DataW.TrodAll enc P W' b sp hd f.resultTypes.toList (v.resultList f.resultTypes.size) (s.fn H (ds ++ gs)).results [])
    (hargs : ∀ sp : Nat → Bool, (∀ p ∈ before, sp p.block = true) → DataW.TrodAll enc P W' 0 sp true f.params.toList args.toList (s.fn H (ds ++ gs)).args pa)
    (hvars : ∀ sp : Nat → Bool, (∀ p ∈ before, sp p.block = true) → DataW.TrodVars enc P W' sp s.vars (s.fn H (ds ++ gs)).vars pv)
    (hps : before = pa ++ pv) (hb : Below W.heap.size W W')
    (hok : ∀ (j : Nat) (t : TypeId) (r : Value), f.resultTypes[j]? = some t → (v.resultList f.resultTypes.size)[j]? = some r → Value.okWide P W' .any 0 t r) :
    s.post enc P f apart fresh handsOn again W args v W' := by
  have lower : ∀ p ∈ before, p.block < W.heap.size := fun p hp => hW.lt p hp
  have was : ∀ p ∈ before, (fun b => decide (b < W.heap.size)) p.block = true := fun p hp => decide_eq_true (lower p hp)
  refine ⟨ds, gs, before, [], pa, pv, hW, hres _ _ _, hargs _ was, hvars _ was, World.keptBut_mono (fun p hp => ⟨hp, .inr ?_⟩) (hb.frame (· ∈ before)), fun _ => ?_⟩
  · rw [hps, List.mem_append] at hp
    exact hp
  · obtain ⟨_, _, _, _, _, hz, hn⟩ := hW
    refine ⟨hok, _, _, ([] ++ pa) ++ pv, ⟨[] ++ pa, pv, trodAll_append (hargs _ (fun _ _ => rfl)) (hres _ _ _), hvars _ (fun _ _ => rfl), rfl, ?_, ?_⟩, fun p hp _ => by rw [hps]; simpa using hp⟩
    · intro b off hp
      have inb : MemPlace.cell b off ∈ before := by rw [hps]; simpa using hp
      rw [hb.frozen (lower _ inb)]
      exact hz b off inb
    · intro ha
      have h := hn ha
      rw [hps] at h
      simpa using h
theorem cellsAct : Tryd.prog.cellsOf 49 = 8 := by kernel_rfl
theorem cellsTerm : Tryd.prog.cellsOf 41 = 4 := by kernel_rfl
theorem cellsIn : Tryd.prog.cellsOf 3 = 1 := by kernel_rfl
theorem cellsSt : Tryd.prog.cellsOf 9 = 1 := by kernel_rfl
theorem cellsIs : Tryd.prog.cellsOf 33 = 1 := by kernel_rfl
/-- a slice of ints, opened -/
theorem open_ri {H : Type} {enc : TypeId × Value → H} {W : World} {base fuel : Nat} {sp : Nat → Bool} {held : Bool} {cs : List Value} {x : DataW H × List MemPlace} (h : DataW.trod enc Tryd.prog W base sp held fuel 33 cs = some x) :
    ∃ A xs c, cs = [.slice A (xs : List Int).length c] ∧ Ri W (fun g => g < W.heap.size) xs A c := by
  rcases open_ints Tryd.underlying33 Tryd.underlying3 cellsIn h with ⟨e1, _⟩ | ⟨a, len, cap, zs, e1, _, hl, hm, hz, _, hcell, hwf⟩
  · exact ⟨none, [], 0, e1, Nat.le_refl _, fun h => absurd h (by simp)⟩
  · have hzl : len ≤ zs.length := by rw [hz]; split <;> omega
    have hlen : (zs.take len).length = len := by simp; omega
    refine ⟨some a, zs.take len, cap, by rw [hlen, e1], by rw [hlen]; exact hl, ?_⟩
    intro hpos
    rw [hlen] at hpos
    obtain ⟨b', off, rfl, hc⟩ := ints_at hcell (by omega)
    have h0 := hc 0 (by omega)
    have hlt := World.block_lt_of_cell? W _ h0
    refine ⟨b', off, rfl, hlt, hlt, fun j hj => ?_⟩
    rw [hlen] at hj
    rw [hc j (by omega), List.getElem_take, List.getD_eq_getElem?_getD, List.getElem?_eq_getElem (by omega), Option.getD_some]
set_option maxRecDepth 100000 in
/-- a term, opened -/
theorem open_tm {H : Type} {enc : TypeId × Value → H} {W : World} {base fuel : Nat} {sp : Nat → Bool} {held : Bool} {cs : List Value} {x : DataW H × List MemPlace} (h : DataW.trod enc Tryd.prog W base sp held fuel 41 cs = some x) :
    ∃ (t : Tm) (A : Option Addr) (c : Nat), cs = [.int .i64 t.op, .int .i64 t.fn, .slice A t.kids.length c, .string t.num] ∧ Ri W (fun g => g < W.heap.size) t.kids A c := by
  obtain ⟨xs, n, _, _, hl, hx, hf⟩ := DataW.trod_struct Tryd.underlying41 h
  rw [cellsTerm] at hl
  have hx : xs.length = 4 := hx
  match cs, hl, xs, hx with
  | [c0, c1, c2, c3], _, [y0, y1, y2, y3], _ =>
    have f0 : DataW.trod enc Tryd.prog W base sp held n 3 (List.take (Tryd.prog.cellsOf 3) [c0, c1, c2, c3]) = some y0 := hf 0 _ rfl
    have f1 : DataW.trod enc Tryd.prog W base sp held n 3 (List.take (Tryd.prog.cellsOf 3) [c1, c2, c3]) = some y1 := hf 1 _ rfl
    have f2 : DataW.trod enc Tryd.prog W base sp held n 33 (List.take (Tryd.prog.cellsOf 33) [c2, c3]) = some y2 := hf 2 _ rfl
    have f3 : DataW.trod enc Tryd.prog W base sp held n 9 (List.take (Tryd.prog.cellsOf 9) [c3]) = some y3 := hf 3 _ rfl
    rw [cellsIn] at f0 f1
    rw [cellsIs] at f2
    rw [cellsSt] at f3
    obtain ⟨a, e0, _⟩ := DataW.trod_int Tryd.underlying3 f0
    obtain ⟨b, e1, _⟩ := DataW.trod_int Tryd.underlying3 f1
    obtain ⟨A, ks, c, e2, hr⟩ := open_ri f2
    obtain ⟨s, e3, _⟩ := DataW.trod_string Tryd.underlying9 f3
    simp only [List.take_succ_cons, List.take_zero, List.cons.injEq, and_true] at e0 e1 e2 e3
    exact ⟨⟨a, b, ks, s⟩, A, c, by rw [e0, e1, e2, e3], hr⟩
set_option maxRecDepth 100000 in
/-- an act, opened -/
theorem open_act {H : Type} {enc : TypeId × Value → H} {W : World} {base fuel : Nat} {sp : Nat → Bool} {held : Bool} {cs : List Value} {x : DataW H × List MemPlace} (h : DataW.trod enc Tryd.prog W base sp held fuel 49 cs = some x) :
    ∃ a : Ac, AcC W (fun g => g < W.heap.size) a cs := by
  obtain ⟨xs, n, _, _, hl, hx, hf⟩ := DataW.trod_struct Tryd.underlying49 h
  rw [cellsAct] at hl
  have hx : xs.length = 5 := hx
  match cs, hl, xs, hx with
  | [c0, c1, c2, c3, c4, c5, c6, c7], _, [y0, y1, y2, y3, y4], _ =>
    have f0 : DataW.trod enc Tryd.prog W base sp held n 3 (List.take (Tryd.prog.cellsOf 3) [c0, c1, c2, c3, c4, c5, c6, c7]) = some y0 := hf 0 _ rfl
    have f1 : DataW.trod enc Tryd.prog W base sp held n 9 (List.take (Tryd.prog.cellsOf 9) [c1, c2, c3, c4, c5, c6, c7]) = some y1 := hf 1 _ rfl
    have f2 : DataW.trod enc Tryd.prog W base sp held n 33 (List.take (Tryd.prog.cellsOf 33) [c2, c3, c4, c5, c6, c7]) = some y2 := hf 2 _ rfl
    have f3 : DataW.trod enc Tryd.prog W base sp held n 3 (List.take (Tryd.prog.cellsOf 3) [c3, c4, c5, c6, c7]) = some y3 := hf 3 _ rfl
    have f4 : DataW.trod enc Tryd.prog W base sp held n 41 (List.take (Tryd.prog.cellsOf 41) [c4, c5, c6, c7]) = some y4 := hf 4 _ rfl
    rw [cellsIn] at f0 f3
    rw [cellsSt] at f1
    rw [cellsIs] at f2
    rw [cellsTerm] at f4
    obtain ⟨a, e0, _⟩ := DataW.trod_int Tryd.underlying3 f0
    obtain ⟨s, e1, _⟩ := DataW.trod_string Tryd.underlying9 f1
    obtain ⟨A, ks, c, e2, hr⟩ := open_ri f2
    obtain ⟨b, e3, _⟩ := DataW.trod_int Tryd.underlying3 f3
    obtain ⟨t, B, d, e4, hr2⟩ := open_tm f4
    simp only [List.take_succ_cons, List.take_zero, List.cons.injEq, and_true] at e0 e1 e2 e3 e4
    obtain ⟨rfl, rfl, rfl, rfl⟩ := e4
    exact ⟨⟨a, s, ks, b, t⟩, A, c, B, d, by rw [e0, e1, e2, e3], hr, hr2⟩
set_option maxRecDepth 100000 in
/-- a slice of acts, opened -/
theorem open_acs {H : Type} {enc : TypeId × Value → H} {W : World} {base : Nat} {v : Value} {d : DataW H} {p : List MemPlace}
    (hv : Value.okWide Tryd.prog W .any base 22 v) (h : DataW.Trod enc Tryd.prog W 0 (fun _ => true) true 22 v d p) :
    ∃ A l c, v = .slice A (l : List Ac).length c ∧ Acs W W.heap.size l A c := by
  obtain ⟨A0, l0, c0, rfl⟩ := okWide_slice Tryd.underlying22 hv
  obtain ⟨fuel, h⟩ := h
  rcases Go.Deep.open_slice Tryd.underlying22 h with ⟨e1, _⟩ | ⟨a, len, cap, m, n, D, Pl, e1, _, hl, _, hm, _, hel⟩
  · obtain ⟨rfl, rfl, rfl⟩ : A0 = none ∧ l0 = 0 ∧ c0 = 0 := by simpa [Value.cells] using e1
    exact ⟨none, [], 0, rfl, Nat.le_refl _, fun h => absurd h (by simp)⟩
  · obtain ⟨rfl, rfl, rfl⟩ : A0 = some a ∧ l0 = len ∧ c0 = cap := by simpa [Value.cells] using e1
    simp only [if_true] at hm
    have one : ∀ i, i < l0 → ∃ x : Ac, ∃ cs, AcC W (fun g => g < W.heap.size) x cs ∧ ∀ j, j < 8 → W.cell? (a.add (i * 8 + j)) = cs[j]? := by
      intro i hi
      obtain ⟨cs', hc, ht⟩ := hel i (by omega)
      rw [cellsAct] at hc
      obtain ⟨x, hx⟩ := open_act ht
      obtain ⟨_, hcl, hat⟩ := World.cells?_some hc
      refine ⟨x, cs', hx, fun j hj => ?_⟩
      have := hat j hj
      rw [Go.Deep.add_add] at this
      exact this
    have all : ∃ f : Nat → Ac, ∀ i, i < l0 → ∃ cs, AcC W (fun g => g < W.heap.size) (f i) cs ∧ ∀ j, j < 8 → W.cell? (a.add (i * 8 + j)) = cs[j]? := by
      refine ⟨fun i => if hi : i < l0 then (one i hi).choose else ⟨0, ⟨#[]⟩, [], 0, ⟨0, 0, [], ⟨#[]⟩⟩⟩, fun i hi => ?_⟩
      have := (one i hi).choose_spec
      simp only [hi, dif_pos]
      exact this
    obtain ⟨f, hf⟩ := all
    refine ⟨some a, (List.range l0).map f, c0, by simp, by simpa using hl, ?_⟩
    intro hpos
    have hp : 0 < l0 := by simpa using hpos
    obtain ⟨b, off, spot⟩ := a
    obtain ⟨cs0, ⟨A0, c00, B0, d0, e0, _, _⟩, hc0⟩ := hf 0 hp
    have hc00 := hc0 0 (by omega)
    rw [e0, List.getElem?_cons_zero] at hc00
    have hspot : spot = none := by simpa [Addr.add] using World.cell?_spot hc00
    subst hspot
    have hlt : b < W.heap.size := by
      have := World.block_lt_of_cell? W _ hc00
      simpa [Addr.add] using this
    refine ⟨b, off, rfl, hlt, fun j hj => ?_⟩
    have hj' : j < l0 := by simpa using hj
    obtain ⟨cs, h1, h2⟩ := hf j hj'
    refine ⟨cs, by simpa using h1, fun i hi => ?_⟩
    have := h2 i hi
    rw [Go.WideShapes.add_plain] at this
    rw [show off + j * 8 + i = off + (j * 8 + i) by omega]
    exact this
theorem readsAs : Tryd.prog.readableRec 22 = true := by kernel_rfl
theorem rowAs : 22 < Tryd.prog.types.size := of_decide_eq_true (by kernel_rfl)
theorem staysAs {H : Type} {enc : TypeId × Value → H} {W W' : World} {sp' : Nat → Bool} {v : Value} {d : DataW H} {ps : List MemPlace} (h : DataW.Trod enc Tryd.prog W 0 (fun _ => true) true 22 v d ps) (hb : Below W.heap.size W W') (hlt : ∀ x ∈ ps, x.block < W.heap.size) (hs : ∀ p ∈ ps, sp' p.block = true) :
    DataW.Trod enc Tryd.prog W' 0 sp' true 22 v d ps := WideElems.Trod_stays laidOut readsAs rowAs h (fun x hx => hb.same (hlt x hx)) hs
/-- what the program's text lays: the library's table -/
theorem tab_laid {W : World} (h : laidMet Tryd.prog [("internal/strconv.uint64pow10", Lib.tabData .u64 Lib.pow10Tab)] W) : Tab W :=
  Lib.tabIs_of_head (g := 0) (t := 116) (e := 52) (n := 20) (by kernel_rfl) (by kernel_rfl) Tryd.underlying116 Tryd.underlying52 (by kernel_rfl) (by kernel_rfl) h
end Go.Proofs.YtdnhhfhjjimcgaaDoor.dg
