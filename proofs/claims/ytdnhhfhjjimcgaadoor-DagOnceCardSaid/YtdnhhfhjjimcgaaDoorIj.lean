/- The statement DagOnce, as mathematics: what is a term once, is one later on. -/
import Derived.Test.YtdnhhfhjjimcgaaDoorIf
namespace Go.Proofs.YtdnhhfhjjimcgaaDoor.dg
open Go Go.RowKit
set_option linter.unusedVariables false
set_option linter.unusedSimpArgs false

/-- T is S with more -/
structure Ext (S T : St) : Prop where
  t : ∃ r, T.terms = S.terms ++ r
  f : ∃ r, T.funs = S.funs ++ r
section
variable {S T : St} (h : Ext S T)
include h
theorem Ext.has {k : Int} (hk : S.has k = true) : T.has k = true := by
  obtain ⟨r, e⟩ := h.t
  simp only [St.has, Bool.and_eq_true, decide_eq_true_eq] at hk ⊢
  rw [e, List.length_append]
  omega
theorem Ext.of {k : Int} (hk : S.has k = true) : T.of k = S.of k := by
  obtain ⟨r, e⟩ := h.t
  simp only [St.has, Bool.and_eq_true, decide_eq_true_eq] at hk
  unfold St.of
  rw [if_pos hk.1, if_pos hk.1, e, List.getElem?_append_left (by omega)]
theorem Ext.cst {k : Int} (hk : S.has k = true) : T.cst k = S.cst k := by
  obtain ⟨r, e⟩ := h.t
  simp only [St.has, Bool.and_eq_true, decide_eq_true_eq] at hk
  unfold St.cst
  rw [if_pos hk.1, if_pos hk.1, e, List.getElem?_append_left (by omega)]
theorem Ext.hasFun {k : Int} (hk : S.hasFun k = true) : T.hasFun k = true := by
  obtain ⟨r, e⟩ := h.f
  simp only [St.hasFun, Bool.and_eq_true, decide_eq_true_eq] at hk ⊢
  rw [e, List.length_append]
  omega
theorem Ext.fnAt {k : Int} (hk : S.hasFun k = true) : T.fnAt k = S.fnAt k := by
  obtain ⟨r, e⟩ := h.f
  simp only [St.hasFun, Bool.and_eq_true, decide_eq_true_eq] at hk
  unfold St.fnAt
  rw [if_pos hk.1, if_pos hk.1, e, List.getElem?_append_left (by omega)]
theorem Ext.wrong {t : Tm} (hw : S.wrong t = 0) : T.wrong t = 0 := by
  unfold St.wrong at hw
  split at hw
  · exact absurd hw (by decide)
  rename_i h1
  split at hw
  · exact absurd hw (by decide)
  rename_i h2
  split at hw
  · exact absurd hw (by decide)
  rename_i h3
  split at hw
  · exact absurd hw (by decide)
  rename_i h4
  split at hw
  · exact absurd hw (by decide)
  rename_i h5
  split at hw
  · exact absurd hw (by decide)
  rename_i h6
  have hall : ∀ k ∈ t.kids, S.has k = true := List.all_eq_true.1 (by simpa using h3)
  have hfun : t.op = 3 → S.hasFun t.fn = true := fun e => by
    cases e2 : S.hasFun t.fn with
    | true => rfl
    | false => exact absurd ⟨e, e2⟩ h2
  have hgd : ∀ i, i < t.kids.length → S.has (t.kids.getD i 0) = true := fun i hi => by
    rw [List.getD_eq_getElem?_getD, List.getElem?_eq_getElem hi]
    exact hall _ (List.getElem_mem hi)
  have htk : T.takes t = S.takes t := by
    unfold St.takes
    by_cases e : t.op = 3
    · rw [h.fnAt (hfun e)]
    · simp only [e, if_false]
  have hct : T.counted t = S.counted t := by unfold St.counted; rw [htk]
  have hwt : ∀ i, i < t.kids.length → T.wants t i = S.wants t i := fun i hi => by
    unfold St.wants
    by_cases e : t.op = 3
    · rw [h.fnAt (hfun e), if_pos e, if_pos e]
    · simp only [e, if_false]
      by_cases e2 : i = 0
      · subst e2
        simp only [if_true]
        rw [h.of (hgd 0 hi)]
      · simp only [e2, if_false]
        rw [h.of (hgd 0 (by omega)), h.of (hgd 1 (by omega))]
  have hft : T.fits t = S.fits t := by
    unfold St.fits
    rw [Bool.eq_iff_iff, List.all_eq_true, List.all_eq_true]
    constructor
    · intro hx i hi
      have hi' : i < t.kids.length := List.mem_range.1 hi
      have := hx i hi
      rw [hwt i hi', h.of (hgd i hi')] at this
      exact this
    · intro hx i hi
      have hi' : i < t.kids.length := List.mem_range.1 hi
      rw [hwt i hi', h.of (hgd i hi')]
      exact hx i hi
  have hfr : T.free t.kids = S.free t.kids := by
    unfold St.free
    rw [List.filter_congr (fun k hk => by rw [h.cst (hall k hk)])]
  unfold St.wrong
  rw [if_neg h1, if_neg (fun hx => by have := h.hasFun (hfun hx.1); rw [this] at hx; exact absurd hx.2 (by decide)), if_neg (by
    rw [Bool.not_eq_false]
    exact List.all_eq_true.2 fun k hk => h.has (hall k hk)), hct, if_neg h4, hft, if_neg h5, hfr, if_neg h6]
end
theorem Ext.refl (S : St) : Ext S S := ⟨⟨[], by simp⟩, ⟨[], by simp⟩⟩

/-- what holds of terms, wherever they were added -/
structure Tk (S : St) : Prop where
  w : ∀ (i : Nat) (h : i < S.terms.length), S.wrong (S.terms[i]).t = 0
  p : ∀ (i : Nat) (h : i < S.terms.length), S.placeT (S.terms[i]).t = some i
  k : ∀ (i : Nat) (h : i < S.terms.length), ∀ k ∈ (S.terms[i]).t.kids, k < (i : Int)
theorem Tk.new (m : Int) : Tk (St.new m) := ⟨fun i h => absurd h (by simp [St.new]), fun i h => absurd h (by simp [St.new]), fun i h => absurd h (by simp [St.new])⟩
theorem Tk.same {S T : St} (h : Tk S) (e : T.terms = S.terms) (x : Ext S T) : Tk T := by
  obtain ⟨m, ss, fs, ts⟩ := T
  have e : ts = S.terms := e
  subst e
  exact ⟨fun i hi => x.wrong (h.w i hi), h.p, h.k⟩
theorem Tk.sort {S S' : St} (h : Tk S) {n : ByteArray} {l : List Int} {z er : Int} (hz : S.sort n l = (z, er, S')) : Tk S' ∧ S'.terms = S.terms := by
  unfold St.sort at hz
  split at hz
  · simp only [Prod.mk.injEq] at hz
    obtain ⟨rfl, rfl, rfl⟩ := hz
    exact ⟨h, rfl⟩
  · split at hz
    · simp only [Prod.mk.injEq] at hz
      obtain ⟨rfl, rfl, rfl⟩ := hz
      exact ⟨h, rfl⟩
    · simp only [Prod.mk.injEq] at hz
      obtain ⟨rfl, rfl, rfl⟩ := hz
      exact ⟨h.same rfl ⟨⟨[], by simp⟩, ⟨[], by simp⟩⟩, rfl⟩
theorem Tk.fun_ {S S' : St} (h : Tk S) {f : Fnn} {z er : Int} (hz : S.fun_ f = (z, er, S')) : Tk S' ∧ S'.terms = S.terms := by
  unfold St.fun_ at hz
  split at hz
  · simp only [Prod.mk.injEq] at hz
    obtain ⟨rfl, rfl, rfl⟩ := hz
    exact ⟨h, rfl⟩
  · simp only [Prod.mk.injEq] at hz
    obtain ⟨rfl, rfl, rfl⟩ := hz
    exact ⟨h.same rfl ⟨⟨[], by simp⟩, ⟨[f], rfl⟩⟩, rfl⟩
/-- an accepted term: where it is, and what is there then -/
theorem Tk.term {S S' : St} (h : Tk S) {t : Tm} {z : Int} (hz : S.term t = (z, 0, S')) :
    Tk S' ∧ ∃ q : Nat, z = (q : Int) ∧ (∀ k ∈ t.kids, k < (q : Int)) ∧ ((q < S.terms.length ∧ S' = S ∧ (S.terms.map (·.t))[q]? = some t) ∨ (q = S.terms.length ∧ S'.terms.map (·.t) = S.terms.map (·.t) ++ [t])) := by
  unfold St.term at hz
  split at hz
  · rename_i h0
    simp only [Prod.mk.injEq] at hz
    exact absurd hz.2.1 h0
  · rename_i h0
    have h0 : S.wrong t = 0 := by simpa using h0
    split at hz
    · rename_i q hq
      simp only [Prod.mk.injEq] at hz
      obtain ⟨rfl, _, rfl⟩ := hz
      obtain ⟨h1, h2, _⟩ := find_some hq
      have h2 := sameT_iff.1 h2
      exact ⟨h, q, rfl, fun k hk => h.k q h1 k (by rw [h2]; exact hk), .inl ⟨h1, rfl, by rw [List.getElem?_map, List.getElem?_eq_getElem h1]; simp [h2]⟩⟩
    · rename_i hq
      split at hz
      · simp only [Prod.mk.injEq] at hz
        exact absurd hz.2.1 (by decide)
      · simp only [Prod.mk.injEq] at hz
        obtain ⟨rfl, _, rfl⟩ := hz
        have hx : Ext S (S.addT t) := ⟨⟨_, rfl⟩, ⟨[], by simp [St.addT]⟩⟩
        have hkid : ∀ k ∈ t.kids, k < (S.terms.length : Int) := fun k hk => by
          have hall : t.kids.all S.has = true := by
            cases e : t.kids.all S.has with
            | true => rfl
            | false =>
              exfalso
              unfold St.wrong at h0
              rw [e] at h0
              split at h0
              · exact absurd h0 (by decide)
              · split at h0
                · exact absurd h0 (by decide)
                · simp at h0
          have := List.all_eq_true.1 hall k hk
          simp only [St.has, Bool.and_eq_true, decide_eq_true_eq] at this
          exact this.2
        refine ⟨⟨fun i hi => ?_, fun i hi => ?_, fun i hi => ?_⟩, S.terms.length, rfl, hkid, .inr ⟨rfl, by simp [St.addT]⟩⟩
        · have hi2 : i < S.terms.length + 1 := by simpa [St.addT] using hi
          by_cases hl : i < S.terms.length
          · simp only [St.addT, List.getElem_append_left hl]
            exact hx.wrong (h.w i hl)
          · obtain rfl : i = S.terms.length := by omega
            simp only [St.addT, List.getElem_concat_length]
            exact hx.wrong h0
        · have hi2 : i < S.terms.length + 1 := by simpa [St.addT] using hi
          by_cases hl : i < S.terms.length
          · simp only [St.addT, List.getElem_append_left hl]
            exact find_append _ (h.p i hl)
          · obtain rfl : i = S.terms.length := by omega
            simp only [St.addT, List.getElem_concat_length]
            refine find_at (by simp) (by simp [sameT_iff]) fun j hj => ?_
            simp only [List.getElem_append_left hj]
            exact find_none hq j hj
        · have hi2 : i < S.terms.length + 1 := by simpa [St.addT] using hi
          by_cases hl : i < S.terms.length
          · simp only [St.addT, List.getElem_append_left hl]
            exact h.k i hl
          · obtain rfl : i = S.terms.length := by omega
            simp only [St.addT, List.getElem_concat_length]
            exact hkid
/-- a term that is there is found again -/
theorem Tk.again {S : St} (h : Tk S) {i : Nat} {t : Tm} (hi : (S.terms.map (·.t))[i]? = some t) : S.term t = ((i : Int), 0, S) := by
  rw [List.getElem?_map, Option.map_eq_some_iff] at hi
  obtain ⟨e, h1, rfl⟩ := hi
  obtain ⟨hl, rfl⟩ := List.getElem?_eq_some_iff.1 h1
  unfold St.term
  rw [if_neg (by rw [h.w i hl]; simp), h.p i hl]
theorem formed_num {t : Tm} (h : formed t = true) : t.num.size ≤ 10000 := by
  unfold formed at h
  split at h
  · cases h
  · split at h
    · cases h
    · split at h
      · simp only [isNum, Bool.and_eq_true, decide_eq_true_eq] at h
        exact h.2.1
      · have := of_decide_eq_true h
        omega
theorem wrong_formed {S : St} {t : Tm} (h : S.wrong t = 0) : formed t = true := by
  cases e : formed t with
  | true => rfl
  | false =>
    unfold St.wrong at h
    rw [e] at h
    exact absurd h (by simp)
theorem Tk.small {S : St} (h : Tk S) (hk : ∀ e ∈ S.terms, e.t.kids.length ≤ 1000000) {i : Nat} {t : Tm} (hi : (S.terms.map (·.t))[i]? = some t) : t.kids.length ≤ 1000000 ∧ t.num.size ≤ 1000000 := by
  rw [List.getElem?_map, Option.map_eq_some_iff] at hi
  obtain ⟨e, h1, rfl⟩ := hi
  obtain ⟨hl, rfl⟩ := List.getElem?_eq_some_iff.1 h1
  exact ⟨hk _ (List.getElem_mem hl), Nat.le_trans (formed_num (wrong_formed (h.w i hl))) (by omega)⟩
end Go.Proofs.YtdnhhfhjjimcgaaDoor.dg
