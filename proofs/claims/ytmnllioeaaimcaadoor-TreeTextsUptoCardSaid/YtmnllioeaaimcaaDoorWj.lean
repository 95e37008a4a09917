/- Rows that the statements make: appended tokens, appended trees. -/
import Derived.Test.YtmnllioeaaimcaaDoorVj
namespace Go.Proofs.YtmnllioeaaimcaaDoor.tr
open Go Go.RowKit Go.Proofs.YtmnllioeaaimcaaDoor.tk

theorem run_append_none {P : Program} {w : World} (base : Nat) (t ty e : TypeId) (i : TypeInfo) (size c : Nat) (ht : P.underlying t = some (.slice e)) (hi : P.info? e = some i)
    (v : Value) (n : Nat) (xs : List Value) (hown : w.ownsRow base e size v n xs) :
    (Builtin.append_ #[t, t] ty #[v, .slice none 0 c]).run P w = .ok v w := by
  rcases hown.2 with ⟨rfl, rfl⟩ | ⟨g, cap, cur, rfl, _, _, hnc, _⟩
  · simp [Builtin.append_, run_underlying ht, sizeOf, typeInfo, hi, Builtin.lenOf, Builtin.firstCells]
  · simp [Builtin.append_, run_underlying ht, sizeOf, typeInfo, hi, Builtin.lenOf, Builtin.firstCells, hnc, storeCells]
/-- append onto a row of the call's own, of whatever slice, nil or not -/
theorem wpList_append_row {P : Program} (w : World) {ops : Array Oper} {rest : List Oper} {o : Oper} {a : Act} {Q : Exit → Act → World → Prop} (hgd : Region.wanted o (yielded ops a.tmps) = true) (s x : Operand) (t : TypeId)
    (ho : o.op = .call { callee := .builtin .append, args := #[s, x], argTypes := #[t, t] })
    (base : Nat) (e : TypeId) (i : TypeInfo) (z : Value) (size bytes : Nat) (ht : P.underlying t = some (.slice e)) (hi : P.info? e = some i) (hz : i.zero = some z)
    (hsize : i.size = size) (hby : i.bytes = bytes) (hzs : z.cells.size = size) (hsz : 0 < size)
    (v : Value) (n : Nat) (xs : List Value) (hs : a.eval s = v) (hown : w.ownsRow base e size v n xs)
    (A : Option Addr) (m c : Nat) (news : List Value) (hx : a.eval x = .slice A m c) (hA : A = none → m = 0) (hl : news.length = m * size) (hnews : ∀ ad, A = some ad → ∀ j u, news[j]? = some u → w.cell? (ad.add j) = some u) (h1 : ∀ u ∈ news, u.oneCell' = true)
    (h63 : n + m ≤ maxLen) (hbytes : (n + m) * bytes ≤ 140737488355328) (hbase : base ≤ w.heap.size)
    (h : ∀ v' w', w'.ownsRow base e size v' (n + m) (xs ++ news) → w.grownBy w' v.ownBlock → wpList P ops Q rest (a.put o.dst v') w') : wpList P ops Q (o :: rest) a w := by
  cases A with
  | some ad =>
    refine wpList_step fun K hK => ?_
    rw [if_pos hgd]
    exact wp_append_own w s x t ho base e i z size bytes ht hi hz hsize hby hzs hsz v n xs hs hown ad m c news hx hl (hnews ad rfl) h1 h63 hbytes hbase fun v' w' h2 h3 _ => hK _ _ (h v' w' h2 h3)
  | none =>
    obtain rfl := hA rfl
    have hn : news = [] := List.eq_nil_of_length_eq_zero (by simpa using hl)
    subst hn
    refine wpList_step fun K hK => ?_
    rw [if_pos hgd]
    have hrun := run_append_none (P := P) (w := w) base t o.type e i size c ht hi v n xs hown
    unfold Oper.wp
    simp [execOp, ho, resolve, invoke, builtin, hs, hx, hrun, Result.andThen]
    exact hK _ _ (h v w (by simpa using hown) ⟨rfl, rfl, rfl, Nat.le_refl _, fun _ _ _ => rfl⟩)
theorem own_slice {w : World} {base size n : Nat} {e : TypeId} {v : Value} {xs : List Value} (h : w.ownsRow base e size v n xs) : ∃ A c, v = .slice A n c ∧ (A = none → n = 0) ∧ n ≤ c := by
  rcases h.2 with ⟨rfl, rfl⟩ | ⟨g, cap, _, rfl, _, _, h2, _⟩
  · exact ⟨none, 0, rfl, fun _ => rfl, Nat.le_refl _⟩
  · exact ⟨_, _, rfl, (fun h => by cases h), h2⟩

/-- tokens' cells, one behind the other -/
def tokCells : List Tok → List Value
  | [] => []
  | t :: r => .int .i64 t.k :: .string ⟨t.s.toArray⟩ :: .int .i64 t.p :: tokCells r
theorem tokCells_len : ∀ (l : List Tok), (tokCells l).length = l.length * 3
  | [] => rfl
  | t :: r => by simp only [tokCells, List.length_cons, tokCells_len r]; omega
theorem tokCells_append : ∀ (a b : List Tok), tokCells (a ++ b) = tokCells a ++ tokCells b
  | [], b => rfl
  | t :: r, b => by simp only [List.cons_append, tokCells, tokCells_append r b]
theorem tokCells_at : ∀ (l : List Tok) (q : Nat) (h : q < l.length), (tokCells l)[q * 3]? = some (.int .i64 l[q].k) ∧ (tokCells l)[q * 3 + 1]? = some (.string ⟨l[q].s.toArray⟩) ∧ (tokCells l)[q * 3 + 2]? = some (.int .i64 l[q].p)
  | [], q, h => by simp at h
  | t :: r, 0, _ => ⟨rfl, rfl, rfl⟩
  | t :: r, q + 1, h => by
    have := tokCells_at r q (by simpa using h)
    rw [show (q + 1) * 3 = q * 3 + 3 by omega]
    exact this
theorem tokCells_one : ∀ (l : List Tok), ∀ u ∈ tokCells l, u.oneCell' = true
  | [], u, h => by simp [tokCells] at h
  | t :: r, u, h => by
    simp only [tokCells, List.mem_cons] at h
    rcases h with rfl | rfl | rfl | h
    · rfl
    · rfl
    · rfl
    · exact tokCells_one r u h
theorem tm_none {w : World} {B : Nat} {l : List Tok} (h : Tm w B none l) : l.length = 0 := by
  cases hl : l.length with
  | zero => rfl
  | succ n => obtain ⟨b, off, e, _⟩ := h (by omega); cases e
theorem tm_news {w : World} {B : Nat} {A : Option Addr} {l : List Tok} (h : Tm w B A l) : ∀ ad, A = some ad → ∀ j u, (tokCells l)[j]? = some u → w.cell? (ad.add j) = some u := by
  intro ad hA j u hj
  have hjl : j < l.length * 3 := by rw [← tokCells_len]; exact (List.getElem?_eq_some_iff.1 hj).1
  obtain ⟨b, off, e, _, _, hc⟩ := h (by omega)
  rw [hA] at e
  injection e with e
  subst e
  obtain ⟨q, r, hr, rfl⟩ : ∃ q r, r < 3 ∧ j = q * 3 + r := ⟨j / 3, j % 3, by omega, by omega⟩
  have hq : q < l.length := by omega
  obtain ⟨h1, h2, h3⟩ := hc q hq
  obtain ⟨k1, k2, k3⟩ := tokCells_at l q hq
  rw [Go.WideShapes.add_plain, show off + (q * 3 + r) = off + q * 3 + r by omega]
  match r, hr with
  | 0, _ => rw [← hj]; exact h1.trans k1.symm
  | 1, _ => rw [← hj]; exact h2.trans k2.symm
  | 2, _ => rw [← hj]; exact h3.trans k3.symm
theorem tm_own {w : World} {base n c : Nat} {A : Option Addr} {l : List Tok} (h : w.ownsRow base 35 3 (.slice A n c) n (tokCells l)) : Tm w w.heap.size A l := fun hn => by
  have hl : l.length = n := by have := h.1; rw [tokCells_len] at this; omega
  rcases h.2 with ⟨_, e2⟩ | ⟨g, cap, cur, e1, _, e3, _⟩
  · omega
  · have hA : A = some ⟨g, 0, none⟩ := by injection e1
    subst hA
    have hlt := (Array.getElem?_eq_some_iff.1 e3).1
    refine ⟨g, 0, rfl, hlt, hlt, fun j hj => ?_⟩
    obtain ⟨k1, k2, k3⟩ := tokCells_at l j hj
    simp only [Nat.zero_add]
    exact ⟨(h.cellAt _ (by omega)).trans k1, (h.cellAt _ (by omega)).trans k2, (h.cellAt _ (by omega)).trans k3⟩
/-- trees that lie in a row: their cells -/
theorem Vt.one {w : World} {F : Nat → Prop} {t : Tree} {cs : List Value} (h : Vt w F t cs) : ∀ u ∈ cs, u.oneCell' = true := by
  obtain ⟨l, x, ks⟩ := t
  unfold Vt at h
  obtain ⟨A, c, rfl, _⟩ := h
  exact fun u hu => five_one hu rfl rfl rfl rfl rfl
theorem Vr.cells {w : World} {F : Nat → Prop} {g : Nat} : ∀ {ks : List Tree} {off : Nat}, Vr w F ks g off → ∃ xs, xs.length = ks.length * 5 ∧ Av w F ks xs ∧ (∀ j u, xs[j]? = some u → w.cell? ⟨g, off + j, none⟩ = some u) ∧ ∀ u ∈ xs, u.oneCell' = true
  | [], off, _ => ⟨[], rfl, rfl, fun j u h => by simp at h, fun u h => by simp at h⟩
  | t :: r, off, h => by
    unfold Vr at h
    obtain ⟨⟨cs, h1, h2⟩, h3⟩ := h
    obtain ⟨xs, k1, k2, k3, k4⟩ := Vr.cells h3
    have h5 := h1.five
    refine ⟨cs ++ xs, by simp only [List.length_append, List.length_cons]; omega, ⟨cs, xs, rfl, h1, k2⟩, fun j u hj => ?_, fun u hu => ?_⟩
    · rcases Nat.lt_or_ge j 5 with hj5 | hj5
      · rw [List.getElem?_append_left (by omega)] at hj
        rw [h2 j hj5, hj]
      · rw [List.getElem?_append_right (by omega), h5] at hj
        have := k3 (j - 5) u hj
        rw [show off + 5 + (j - 5) = off + j by omega] at this
        exact this
    · rcases List.mem_append.1 hu with hu | hu
      · exact h1.one u hu
      · exact k4 u hu
theorem Rw.cells {w : World} {F : Nat → Prop} {ks : List Tree} {A : Option Addr} {n c : Nat} (h : Rw w F ks (.slice A n c)) : n = ks.length ∧ (A = none → n = 0) ∧ ∃ xs, xs.length = n * 5 ∧ Av w F ks xs ∧ (∀ ad, A = some ad → ∀ j u, xs[j]? = some u → w.cell? (ad.add j) = some u) ∧ ∀ u ∈ xs, u.oneCell' = true := by
  obtain ⟨A', c', e, _, hr⟩ := h
  simp only [Value.slice.injEq] at e
  obtain ⟨rfl, rfl, rfl⟩ := e
  rcases Nat.eq_zero_or_pos ks.length with h0 | h0
  · obtain rfl := List.eq_nil_of_length_eq_zero h0
    exact ⟨rfl, fun _ => rfl, [], rfl, rfl, fun _ _ j u h => by simp at h, fun u h => by simp at h⟩
  · obtain ⟨g, off, rfl, _, _, hv⟩ := hr h0
    obtain ⟨xs, k1, k2, k3, k4⟩ := Vr.cells hv
    refine ⟨rfl, (fun h => by cases h), xs, k1, k2, ?_, k4⟩
    intro ad e j u hj
    injection e with e
    subst e
    rw [Go.WideShapes.add_plain]
    exact k3 j u hj
theorem Av.append {w : World} {F : Nat → Prop} : ∀ {a b : List Tree} {xs ys : List Value}, Av w F a xs → Av w F b ys → Av w F (a ++ b) (xs ++ ys)
  | [], _, _, _, h, k => by
    have h : _ = [] := h
    subst h
    exact k
  | t :: r, _, _, _, ⟨cs, zs, e, h1, h2⟩, k => ⟨cs, zs ++ _, by rw [e, List.append_assoc], h1, h2.append k⟩
theorem read_code {deep : Int} {l : List Tok} {code : Nat} {p : Int} (h : read deep l = .error (code, p)) : code = 4 ∨ code = 11 := by
  have step_code : ∀ {x : Tok} {s : State}, step deep x s = .error (code, p) → code = 4 ∨ code = 11 := by
    intro x s h
    obtain ⟨ks, st⟩ := s
    unfold step at h
    dsimp only at h
    split at h
    · split at h
      · injection h with h; injection h with h; exact .inl h.symm
      · cases h
    · split at h
      · split at h
        · injection h with h; injection h with h; exact .inr h.symm
        · cases h
      · cases h
  have run_code : ∀ (l : List Tok) (s : State), run deep l s = .error (code, p) → code = 4 ∨ code = 11 := by
    intro l
    induction l with
    | nil => intro s h; cases h
    | cons x r ih =>
      intro s h
      unfold run at h
      split at h
      · rename_i hx; injection h with h; subst h; exact step_code hx
      · exact ih _ h
  unfold read at h
  split at h
  · rename_i hx; injection h with h; subst h; exact run_code l _ hx
  · cases h
  · injection h with h; injection h with h; exact .inr h.symm
end Go.Proofs.YtmnllioeaaimcaaDoor.tr
