/- The statement DagOnce: the map of places to terms; acts that the call has put together. -/
import Derived.Test.YtdnhhfhjjimcgaaDoorIj
import Derived.Maps.RangeWalk
import Derived.Laws.AppendOwnNone
namespace Go.Proofs.YtdnhhfhjjimcgaaDoor.dg
open Go Go.RowKit
set_option linter.unusedVariables false
set_option linter.unusedSimpArgs false

/-- a value that reads as a term; its kids lie below n -/
def Tv (w : World) (n : Nat) (t : Tm) (v : Value) : Prop := ∃ A c, v = .agg #[.int .i64 t.op, .int .i64 t.fn, .slice A t.kids.length c, .string t.num] ∧ Ri w (fun q => q < n) t.kids A c
theorem Tv.stays {w w' : World} {n : Nat} {t : Tm} {v : Value} (h : Tv w n t v) (hs : w.heap.size ≤ w'.heap.size) (hb : ∀ g, g < n → g < w.heap.size → w'.heap[g]? = w.heap[g]?) : Tv w' n t v := by
  obtain ⟨A, c, e, h⟩ := h
  exact ⟨A, c, e, h.stays hs fun g hg hl => ⟨hg, hb g hg hl⟩⟩
theorem intKeyed : Maps.Keyed Tryd.prog 3 := Maps.int_keyed Tryd.underlying3
theorem wf64 {p : Nat} (h : p ≤ 1000000000) : (Lit.int .i64 (p : Int)).wf = true := by
  simp [Lit.wf, IntKind.min, IntKind.max, IntKind.signed, IntKind.bits]
  omega
theorem keyOf_int {p : Nat} (h : p ≤ 1000000000) : keyOf Tryd.prog 3 (.int .i64 (p : Int)) = some (.int .i64 (p : Int)) := by
  have := wf64 h
  simp [keyOf, Tryd.underlying3, mapKey, this]
/-- block b is a map that gives each place its term -/
def Pm (w : World) (n b : Nat) (T : List Tm) : Prop :=
  ∃ D : DataW Value, w.ownsMap Tryd.prog 3 heldR b T.length D ∧ Maps.size D = T.length ∧
    (∀ p : Int, Maps.has D (.int .i64 p) = (decide (0 ≤ p) && decide (p < (T.length : Int)))) ∧
    ∀ (p : Nat) (t : Tm), T[p]? = some t → ∃ v, (∀ z, D.atKey (.int .i64 (p : Int)) z = .held v) ∧ Tv w n t v
theorem Pm.stays {w w' : World} {n b : Nat} {T : List Tm} (h : Pm w n b T) (hs : w.heap.size ≤ w'.heap.size) (hb : ∀ g, (g < n ∨ g = b) → g < w.heap.size → w'.heap[g]? = w.heap[g]?) : Pm w' n b T := by
  obtain ⟨D, h1, h2, h3, h4⟩ := h
  refine ⟨D, ?_, h2, h3, fun p t ht => ?_⟩
  · have hlt := h1.lt
    obtain ⟨es, clock, h5, h6⟩ := h1
    exact ⟨es, clock, (hb b (.inr rfl) hlt).trans h5, h6⟩
  · obtain ⟨v, k1, k2⟩ := h4 p t ht
    exact ⟨v, k1, k2.stays hs fun g hg hl => hb g (.inl hg) hl⟩
theorem Pm.lt {w : World} {n b : Nat} {T : List Tm} (h : Pm w n b T) : b < w.heap.size := by
  obtain ⟨D, h1, _⟩ := h
  exact h1.lt
theorem Pm.made (w : World) (n : Nat) : Pm (w.alloc (.map #[] 0)) n w.heap.size [] := by
  refine ⟨_, World.ownsMap_made w _ _ _, rfl, fun p => ?_, fun p t h => by simp at h⟩
  have : Maps.has (DataW.map [] : DataW Value) (.int .i64 p) = false := rfl
  rw [this]
  symm
  rw [Bool.and_eq_false_iff]
  simp only [decide_eq_false_iff_not, List.length_nil]
  omega
theorem own_tight {w : World} {b n m : Nat} {D : DataW Value} (h : w.ownsMap Tryd.prog 3 heldR b n D) (hm : Maps.size D ≤ m) : w.ownsMap Tryd.prog 3 heldR b m D := by
  obtain ⟨es, clock, hb, F, hs, rfl⟩ := h
  have e1 : Maps.size (DataW.map ((es.toList.map (WideElems.rg Tryd.prog 3 heldR)).foldr DataW.insert [])) = es.size := by simp [Maps.size, length_sorted]
  exact ⟨es, clock, hb, F, by omega, rfl⟩
/-- a place is given its term: a new one, or the one it had -/
theorem Pm.put {w : World} {n b : Nat} {T T' : List Tm} (h : Pm w n b T) {p : Nat} {t : Tm} {v : Value} (hv : Tv w n t v) (hl : T.length ≤ 1000000) (hb : n ≤ b) (hT : (p < T.length ∧ T' = T ∧ T[p]? = some t) ∨ (p = T.length ∧ T' = T ++ [t])) :
    ∃ w', (Instr.mapUpdate 57 (.map (some b)) (.int .i64 (p : Int)) v).run Tryd.prog w = .ok () w' ∧ Pm w' n b T' ∧ w.mapTurned w' b := by
  obtain ⟨D, hown, h2, h3, h4⟩ := h
  have hp : p ≤ 1000000 := by rcases hT with h | h <;> omega
  obtain ⟨w', hrun, hown', ht⟩ := hown.store (val := v) intKeyed Tryd.underlying57 (by unfold maxLen; omega) (keyOf_int (p := p) (by omega)) rfl
  have hg := ht.grown
  have hlt := hown.lt
  have hst : ∀ g, g < n → g < w.heap.size → w'.heap[g]? = w.heap[g]? := fun g h1 h2 => hg.block g h2 (by simp; omega)
  have hsz : Maps.size (D.put (.int .i64 (p : Int)) (.held v)) = T'.length := by
    rw [Maps.size_put (hown.tidy intKeyed), h3]
    rcases hT with ⟨h5, rfl, _⟩ | ⟨h5, rfl⟩
    · rw [if_pos (by simp; omega), h2]
    · rw [if_neg (by simp; omega), h2, List.length_append]; rfl
  have hkey : WideAt.IsKeyLit (.int .i64 (p : Int)) := by simp [WideAt.IsKeyLit]
  refine ⟨w', hrun, ⟨_, own_tight hown' (by rw [hsz]; exact Nat.le_refl _), hsz, fun q => ?_, fun q u hq => ?_⟩, ht⟩
  · by_cases e : q = (p : Int)
    · subst e
      rw [Maps.has_put_same hown.isMap hkey]
      symm
      rw [Bool.and_eq_true, decide_eq_true_eq, decide_eq_true_eq]
      rcases hT with ⟨h5, rfl, _⟩ | ⟨h5, rfl⟩
      · omega
      · rw [List.length_append, List.length_singleton]; omega
    · rw [Maps.has_put_other (by intro e2; injection e2 with _ e2; exact e e2), h3]
      rcases hT with ⟨h5, rfl, _⟩ | ⟨h5, rfl⟩
      · rfl
      · rw [List.length_append, List.length_singleton, Bool.eq_iff_iff]
        simp only [Bool.and_eq_true, decide_eq_true_eq]
        omega
  · by_cases e : q = p
    · subst e
      obtain rfl : u = t := by
        rcases hT with ⟨h5, rfl, h6⟩ | ⟨h5, rfl⟩
        · rw [h6] at hq; exact (Option.some.inj hq).symm
        · rw [h5, List.getElem?_concat_length] at hq; exact (Option.some.inj hq).symm
      exact ⟨v, fun z => Maps.atKey_put_same hown.isMap hkey _ _, hv.stays hg.size hst⟩
    · have hq2 : T[q]? = some u := by
        rcases hT with ⟨h5, rfl, _⟩ | ⟨h5, rfl⟩
        · exact hq
        · have : q < T.length := by
            have := (List.getElem?_eq_some_iff.1 hq).1
            rw [List.length_append, List.length_singleton] at this
            omega
          rw [List.getElem?_append_left this] at hq
          exact hq
      obtain ⟨v2, k1, k2⟩ := h4 q u hq2
      exact ⟨v2, fun z => by rw [Maps.atKey_put_other (by intro e2; injection e2 with _ e2; exact e (by omega))]; exact k1 z, k2.stays hg.size hst⟩
def zeroTm : Value := .agg #[.int .i64 0, .int .i64 0, .slice none 0 0, .string ⟨#[]⟩]
theorem zeroTerm (w : World) : (zeroValue 41).run Tryd.prog w = .ok zeroTm w := by kernel_rfl
theorem Pm.look {w : World} {n b : Nat} {T : List Tm} (h : Pm w n b T) {p : Nat} (hp : p ≤ 1000000) :
    ∃ v, (Instr.lookup 57 (.map (some b)) (.int .i64 (p : Int)) true).run Tryd.prog w = .ok (.tuple #[v, .bool (decide (p < T.length))]) w ∧ (∀ t, T[p]? = some t → Tv w n t v) ∧ (T[p]? = none → v = zeroTm) := by
  obtain ⟨D, hown, h2, h3, h4⟩ := h
  obtain ⟨v, ps, hrun, hv⟩ := hown.look_ok intKeyed Tryd.underlying57 (zeroTerm w) rfl (keyOf_int (p := p) (by omega))
  have hh : Maps.has D (.int .i64 (p : Int)) = decide (p < T.length) := by
    rw [h3, decide_eq_true (show (0 : Int) ≤ (p : Int) by omega), Bool.true_and, decide_eq_decide]
    omega
  simp only [heldR, Option.some.injEq, Prod.mk.injEq] at hv
  refine ⟨v, by rw [hrun, hh], fun t ht => ?_, fun hno => ?_⟩
  · obtain ⟨v2, k1, k2⟩ := h4 p t ht
    rw [k1] at hv
    have := hv.1
    injection this with this
    rw [this]
    exact k2
  · have : T.length ≤ p := by rw [List.getElem?_eq_none_iff] at hno; exact hno
    rw [decide_eq_false (by omega)] at hh
    rw [Maps.atKey_of_not_has hh] at hv
    have := hv.1
    injection this
theorem Pm.len {w : World} {n b : Nat} {T : List Tm} (h : Pm w n b T) (ty : TypeId) : (Builtin.len_ #[57] ty #[.map (some b)]).run Tryd.prog w = .ok (.int .i64 (T.length : Int)) w := by
  obtain ⟨D, hown, h2, _⟩ := h
  rw [hown.len Tryd.underlying57 ty, h2]

/-! ### acts put together -/
theorem ch_of {α : Type} {w : World} {ok : α → List Value → Prop} {size g : Nat} (hn : ∀ x cs, ok x cs → cs.length = size) : ∀ {l : List α} {off : Nat}, (∀ j (h : j < l.length), ∃ cs, ok l[j] cs ∧ ∀ i, i < size → w.cell? ⟨g, off + j * size + i, none⟩ = cs[i]?) →
    ∃ xs, Ch ok l xs ∧ xs.length = l.length * size ∧ ∀ j, j < l.length * size → w.cell? ⟨g, off + j, none⟩ = xs[j]?
  | [], off, _ => ⟨[], rfl, by simp, fun j h => by simp at h⟩
  | x :: r, off, h => by
    obtain ⟨cs, h1, h2⟩ := h 0 (by simp)
    obtain ⟨xs, k1, k2, k3⟩ := ch_of hn (l := r) (off := off + size) (fun j hj => by
      obtain ⟨cs, q1, q2⟩ := h (j + 1) (by simpa using hj)
      refine ⟨cs, by simpa using q1, fun i hi => ?_⟩
      have := q2 i hi
      rw [show off + (j + 1) * size + i = off + size + j * size + i by rw [Nat.add_mul]; omega] at this
      exact this)
    have hl := hn x cs (by simpa using h1)
    refine ⟨cs ++ xs, ⟨cs, xs, rfl, by simpa using h1, k1⟩, by rw [List.length_append, hl, k2, List.length_cons, Nat.add_mul]; omega, fun j hj => ?_⟩
    by_cases hjs : j < size
    · rw [List.getElem?_append_left (by omega)]
      have := h2 j hjs
      rw [Nat.zero_mul, Nat.add_zero] at this
      exact this
    · rw [List.getElem?_append_right (by omega), hl]
      have := k3 (j - size) (by rw [List.length_cons, Nat.add_mul] at hj; omega)
      rw [show off + size + (j - size) = off + j by omega] at this
      exact this
theorem Ch.app {α : Type} {ok : α → List Value → Prop} : ∀ {l m : List α} {xs ys : List Value}, Ch ok l xs → Ch ok m ys → Ch ok (l ++ m) (xs ++ ys)
  | [], m, xs, ys, h, k => by have h : xs = [] := h; subst h; exact k
  | x :: r, m, _, ys, ⟨cs, zs, e, h1, h2⟩, k => ⟨cs, zs ++ ys, by rw [e, List.append_assoc], h1, h2.app k⟩
theorem AcC.len {w : World} {I : Nat → Prop} (x : Ac) (cs : List Value) (h : AcC w I x cs) : cs.length = 8 := by obtain ⟨_, _, _, _, rfl, _⟩ := h; rfl
theorem AcC.one {w : World} {I : Nat → Prop} (x : Ac) (cs : List Value) (h : AcC w I x cs) : ∀ u ∈ cs, u.oneCell' = true := by
  obtain ⟨_, _, _, _, rfl, _⟩ := h
  intro u hu
  simp only [List.mem_cons, List.not_mem_nil, or_false] at hu
  rcases hu with rfl | rfl | rfl | rfl | rfl | rfl | rfl | rfl <;> rfl
theorem AcC.stays {w w' : World} {n : Nat} (hs : w.heap.size ≤ w'.heap.size) (hb : ∀ g, g < n → g < w.heap.size → w'.heap[g]? = w.heap[g]?) (x : Ac) (cs : List Value) (h : AcC w (fun q => q < n) x cs) : AcC w' (fun q => q < n) x cs := by
  obtain ⟨A, c, B, d, e, r1, r2⟩ := h
  exact ⟨A, c, B, d, e, r1.stays hs fun g hg hl => ⟨hg, hb g hg hl⟩, r2.stays hs fun g hg hl => ⟨hg, hb g hg hl⟩⟩
theorem Acs.news {w : World} {n : Nat} {l : List Ac} {A : Option Addr} {c : Nat} (h : Acs w n l A c) : ∃ news, Ch (AcC w (fun q => q < n)) l news ∧ news.length = l.length * 8 ∧ ∀ ad, A = some ad → ∀ j u, news[j]? = some u → w.cell? (ad.add j) = some u := by
  by_cases h0 : 0 < l.length
  · obtain ⟨g, off, e, hg, hc⟩ := h.2 h0
    obtain ⟨xs, k1, k2, k3⟩ := ch_of AcC.len hc
    refine ⟨xs, k1, k2, fun ad ha j u hu => ?_⟩
    rw [e] at ha
    injection ha with ha
    subst ha
    have hj := (List.getElem?_eq_some_iff.1 hu).1
    rw [Go.WideShapes.add_plain, k3 j (by omega), hu]
  · obtain rfl : l = [] := List.eq_nil_of_length_eq_zero (by omega)
    exact ⟨[], rfl, rfl, fun _ _ j u hu => by simp at hu⟩
theorem infoAct : (Tryd.prog.info? 49).map (fun i => (i.zero, i.size, i.bytes)) = some (some (.agg #[.int .i64 0, .string ⟨#[]⟩, .slice none 0 0, .int .i64 0, .int .i64 0, .int .i64 0, .slice none 0 0, .string ⟨#[]⟩]), 8, 112) := by kernel_rfl
/-- an append of whatever is there: a nil slice too, nothing too -/
theorem wpList_append_both {P : Program} {w : World} {ops : Array Oper} {rest : List Oper} {o : Oper} {a : Act} {Q : Exit → Act → World → Prop} (hgd : o.guard = none) (s x : Operand) (t : TypeId)
    (ho : o.op = .call { callee := .builtin .append, args := #[s, x], argTypes := #[t, t] })
    (base : Nat) (e : TypeId) (i : TypeInfo) (z : Value) (size bytes : Nat) (ht : P.underlying t = some (.slice e)) (hi : P.info? e = some i) (hz : i.zero = some z)
    (hsize : i.size = size) (hby : i.bytes = bytes) (hzs : z.cells.size = size) (hsz : 0 < size)
    (g n cap : Nat) (xs : List Value) (hs : a.eval s = .slice (some ⟨g, 0, none⟩) n cap) (hown : w.ownsRow base e size (.slice (some ⟨g, 0, none⟩) n cap) n xs)
    (A : Option Addr) (m c : Nat) (news : List Value) (hA : A = none → m = 0 ∧ c = 0) (hx : a.eval x = .slice A m c) (hl : news.length = m * size) (hnews : ∀ ad, A = some ad → ∀ j u, news[j]? = some u → w.cell? (ad.add j) = some u) (h1 : ∀ u ∈ news, u.oneCell' = true)
    (h63 : n + m ≤ maxLen) (hbytes : (n + m) * bytes ≤ 140737488355328) (hbase : base ≤ w.heap.size)
    (h : ∀ g' cap' w', w'.ownsRow base e size (.slice (some ⟨g', 0, none⟩) (n + m) cap') (n + m) (xs ++ news) → w.grownBy w' (some g) → (g' = g ∨ g' = w.heap.size) → wpList P ops Q rest (a.put o.dst (.slice (some ⟨g', 0, none⟩) (n + m) cap')) w') : wpList P ops Q (o :: rest) a w := by
  have hcap : n ≤ cap := by
    obtain ⟨_, _, e1, _, h2⟩ := own_slice hown
    injection e1 with _ _ e1
    subst e1
    exact h2
  cases A with
  | none =>
    obtain ⟨rfl, rfl⟩ := hA rfl
    have hne : news = [] := List.eq_nil_of_length_eq_zero (by simpa using hl)
    subst hne
    exact wpList_append_own_none hgd s x t ho base e i size ht hi _ n xs hs hown hx (h g cap w (by simpa using hown) ⟨rfl, rfl, rfl, Nat.le_refl _, fun _ _ _ => rfl⟩ (.inl rfl))
  | some ad =>
    rcases Nat.eq_zero_or_pos m with rfl | hm
    · obtain ⟨w', hrun, k1, k2⟩ := run_append_fits w base t o.type e i size ht hi hsize g n cap xs hown ad 0 c news hl (hnews ad rfl) h1 hcap
      refine wpList_plain hgd fun K hK => ?_
      unfold Oper.wp
      simp [execOp, ho, resolve, invoke, builtin, hs, hx, hrun, Result.andThen]
      exact hK _ _ (h g cap w' k1 k2 (.inl rfl))
    · refine wpList_append_lies w hgd s x t ho base e i z size bytes ht hi hz hsize hby hzs hsz _ n xs hs hown ad m c news hx hl (hnews ad rfl) h1 hm h63 hbytes hbase w.heap.size rfl fun g' cap' w' k1 k2 k3 _ => h g' cap' w' k1 k2 (k3.imp (fun e => ?_) id)
      simp only [Value.ownBlock, Option.some.injEq] at e
      exact e.symm
theorem ranges_stays {w w' : World} {b r n cnt : Nat} {D : DataW Value} {left : Lit → Bool} (h : w.ranges Tryd.prog 3 heldR b r n D left cnt) (hb : w'.heap[b]? = w.heap[b]?) (hr : w'.heap[r]? = w.heap[r]?) : w'.ranges Tryd.prog 3 heldR b r n D left cnt := by
  obtain ⟨es, clock, since, seen, c0, h1, F, hs, hD, h2, rest⟩ := h
  exact ⟨es, clock, since, seen, c0, hb.trans h1, F, hs, hD, hr.trans h2, rest⟩
end Go.Proofs.YtdnhhfhjjimcgaaDoor.dg
