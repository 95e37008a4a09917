/- Package tree: going through a tree: what comes, and what is left; the rows that are left, in memory. -/
import Derived.Test.YtmnllioeaaimcaaDoorUc
import Derived.Test.YtmnllioeaaimcaaDoorVa
import Derived.Test.YtmnllioeaaimcaaDoorWa
import Derived.Deep.AppendLies
import Derived.OwnWalkIn
import Derived.Laws.OwnMore
namespace Go.Proofs.YtmnllioeaaimcaaDoor.tr
open Go Go.RowKit

/-- what comes: a list begins, or ends, or a token stands -/
inductive Ev where
  | op (t : Tok)
  | cl
  | st (t : Tok)
def tokV (t : Tok) : Value := .agg #[.int .i64 t.k, .string ⟨t.s.toArray⟩, .int .i64 t.p]
def zeroT : Tok := ⟨0, [], 0⟩
def Ev.kind : Ev → Int
  | .op _ => 0
  | .cl => 1
  | .st _ => 2
def Ev.tok : Ev → Tok
  | .op t => t
  | .cl => zeroT
  | .st t => t
def Ev.enc (e : Ev) : Array Value := #[.int .i64 e.kind, tokV e.tok]
mutual
def evs : Tree → List Ev
  | .mk l t ks => if l then .op t :: (evss ks ++ [.cl]) else [.st t]
def evss : List Tree → List Ev
  | [] => []
  | t :: r => evs t ++ evss r
end
/-- what is still to come, by the rows that are left, the innermost first -/
def rem : List (List Tree) → List Ev
  | [] => []
  | [r] => evss r
  | r :: q :: s => evss r ++ .cl :: rem (q :: s)
theorem rem_pop (q : List Tree) (s : List (List Tree)) : rem ([] :: q :: s) = .cl :: rem (q :: s) := by simp [rem, evss]
theorem rem_last : rem [[]] = [] := by simp [rem, evss]
theorem rem_st (t : Tok) (ks r : List Tree) (s : List (List Tree)) : rem ((.mk false t ks :: r) :: s) = .st t :: rem (r :: s) := by
  cases s <;> simp [rem, evss, evs]
theorem rem_op (t : Tok) (ks r : List Tree) (s : List (List Tree)) : rem ((.mk true t ks :: r) :: s) = .op t :: rem (ks :: r :: s) := by
  cases s <;> simp [rem, evss, evs]
mutual
theorem evs_size : ∀ (t : Tree), (evs t).length = size t
  | .mk l t ks => by
    have := evss_size ks
    cases l <;> simp [evs, size]; omega
theorem evss_size : ∀ (ks : List Tree), (evss ks).length = sizes ks
  | [] => by simp [evss, sizes]
  | t :: r => by
    have := evs_size t
    have := evss_size r
    simp only [evss, sizes, List.length_append]
    omega
end

theorem cellsK : Tryd.prog.cellsOf 24 = 1 := by kernel_rfl
theorem infoK : (Tryd.prog.info? 24).map (fun i => (i.zero, i.size, i.bytes)) = some (some (.slice none 0 0), 1, 24) := by kernel_rfl
theorem infoT : (Tryd.prog.info? 37).map (fun i => (i.zero, i.size, i.bytes)) = some (some (.agg #[.bool false, .int .i64 0, .string ⟨#[]⟩, .int .i64 0, .slice none 0 0]), 5, 64) := by kernel_rfl

/-- these values read as these rows -/
def Al (w : World) (F : Nat → Prop) : List (List Tree) → List Value → Prop
  | [], [] => True
  | r :: s, v :: vs => Rw w F r v ∧ Al w F s vs
  | _, _ => False
theorem Al.stays {w w' : World} {F F' : Nat → Prop} (hs : w.heap.size ≤ w'.heap.size) (hb : ∀ g, F g → g < w.heap.size → F' g ∧ w'.heap[g]? = w.heap[g]?) : ∀ {s : List (List Tree)} {vs : List Value}, Al w F s vs → Al w' F' s vs
  | [], [], _ => trivial
  | _ :: _, _ :: _, h => ⟨h.1.stays hs hb, h.2.stays hs hb⟩
  | [], _ :: _, h => h.elim
  | _ :: _, [], h => h.elim
theorem Al.len {w : World} {F : Nat → Prop} : ∀ {s : List (List Tree)} {vs : List Value}, Al w F s vs → vs.length = s.length
  | [], [], _ => rfl
  | _ :: _, _ :: _, h => by simp [h.2.len]
  | [], _ :: _, h => h.elim
  | _ :: _, [], h => h.elim

/-- the rows that are left: the slice g of slices; X: what the walk has made -/
structure Lf (w : World) (n0 g c : Nat) (S : List (List Tree)) (X : Nat → Prop) (vals : List Value) : Prop where
  row : w.ownsRow n0 24 1 (.slice (some ⟨g, 0, none⟩) S.length c) S.length vals.reverse
  al : Al w (fun b => b ≠ g ∧ (b < n0 ∨ X b)) S vals
  xg : X g
  lt : ∀ b, X b → n0 ≤ b ∧ b < w.heap.size
section
variable {w : World} {n0 g c : Nat} {S : List (List Tree)} {X : Nat → Prop} {vals : List Value}
/-- it stays where what lies below n0, and what is its own, is as it was -/
theorem Lf.kept (h : Lf w n0 g c S X vals) {w' : World} (hk : Kps n0 X w w') : Lf w' n0 g c S X vals := by
  have hX : ∀ b, X b → w'.heap[b]? = w.heap[b]? := fun b hb => hk.own b hb (h.lt b hb).2
  refine ⟨⟨h.row.1, ?_⟩, h.al.stays hk.bel.size (fun b hb hl => ⟨hb, hb.2.elim (fun h2 => hk.bel.block b h2) (fun h2 => hX b h2)⟩), h.xg, fun b hb => ⟨(h.lt b hb).1, Nat.lt_of_lt_of_le (h.lt b hb).2 hk.bel.size⟩⟩
  rcases h.row.2 with h2 | ⟨g', cap, cur, e1, e2, e3, e4⟩
  · exact .inl h2
  · simp only [Value.slice.injEq, Option.some.injEq, Addr.mk.injEq, and_true, true_and] at e1
    obtain ⟨rfl, rfl⟩ := e1
    exact .inr ⟨g, c, cur, rfl, e2, (hX g h.xg).trans e3, e4⟩
/-- a new block of the walk's own -/
theorem Lf.alloc (h : Lf w n0 g c S X vals) (o : Obj) : Lf (w.alloc o) n0 g c S X vals :=
  ⟨h.row.alloc o, h.al.stays (by simp) (fun b hb hl => ⟨hb, Below.heap_alloc w o b hl⟩), h.xg, fun b hb => ⟨(h.lt b hb).1, by have := (h.lt b hb).2; simp; omega⟩⟩
/-- the last row's place -/
theorem Lf.top {r : List Tree} {s : List (List Tree)} (h : Lf w n0 g c (r :: s) X vals) : ∃ A c' vs, vals = .slice A r.length c' :: vs ∧ r.length ≤ c' ∧ (0 < r.length → ∃ b off, A = some ⟨b, off, none⟩ ∧ (b ≠ g ∧ (b < n0 ∨ X b)) ∧ b < w.heap.size ∧ Vr w (fun b => b ≠ g ∧ (b < n0 ∨ X b)) r b off) ∧
    w.cell? ⟨g, s.length, none⟩ = some (.slice A r.length c') ∧ Al w (fun b => b ≠ g ∧ (b < n0 ∨ X b)) s vs := by
  obtain ⟨row, al, _, _⟩ := h
  cases vals with
  | nil => exact al.elim
  | cons v vs =>
    obtain ⟨⟨A, c', rfl, h1, h2⟩, h3⟩ := al
    refine ⟨A, c', vs, rfl, h1, h2, ?_, h3⟩
    rw [row.cellAt s.length (by simp), List.reverse_cons, List.getElem?_append_right (by rw [List.length_reverse, h3.len]; exact Nat.le_refl _)]
    simp [h3.len]
theorem Lf.frozen (h : Lf w n0 g c S X vals) (j : Nat) : w.frozen? ⟨g, j, none⟩ = false := h.row.frozenAt j
/-- the last row is done with -/
theorem Lf.pop {r : List Tree} {s : List (List Tree)} {v : Value} {vs : List Value} (h : Lf w n0 g c (r :: s) X (v :: vs)) : Lf w n0 g c s X vs := by
  obtain ⟨row, al, xg, lt⟩ := h
  have hl : vs.length = s.length := al.2.len
  refine ⟨⟨by simp [hl], ?_⟩, al.2, xg, lt⟩
  rcases row.2 with ⟨h2, _⟩ | ⟨g', cap, cur, e1, e2, e3, e4, e5, e6, e7⟩
  · simp at h2
  · simp only [Value.slice.injEq, Option.some.injEq, Addr.mk.injEq, and_true, true_and] at e1
    obtain ⟨rfl, rfl⟩ := e1
    refine .inr ⟨g, c, cur, rfl, e2, e3, by simp at e4; omega, e5, e6, ?_⟩
    have : cur.toList.take (s.length * 1) = (cur.toList.take ((s.length + 1) * 1)).take s.length := by rw [List.take_take]; congr 1; omega
    rw [this]
    simp only [List.length_cons] at e7
    rw [e7, List.reverse_cons, List.take_left' (by simp [hl])]
/-- the last row's first tree is taken off -/
theorem Lf.next {t : Tree} {r : List Tree} {s : List (List Tree)} {A : Option Addr} {c' : Nat} {vs : List Value} (h : Lf w n0 g c ((t :: r) :: s) X (.slice A (r.length + 1) c' :: vs)) {w' : World} (hw : w.setCell ⟨g, s.length, none⟩ (.slice (if c' = 1 then A else A.map (·.add 5)) r.length (c' - 1)) = w') :
    Lf w' n0 g c (r :: s) X (.slice (if c' = 1 then A else A.map (·.add 5)) r.length (c' - 1) :: vs) ∧ Sft X w w' := by
  obtain ⟨row, al, xg, lt⟩ := h
  obtain ⟨⟨A', c2, e, h1, h2⟩, h3⟩ := al
  simp only [List.length_cons, Value.slice.injEq, true_and] at e
  obtain ⟨rfl, rfl⟩ := e
  have hl : vs.length = s.length := h3.len
  have hs := row.stored s.length (.slice (if c' = 1 then A else A.map (·.add 5)) r.length (c' - 1))
  rw [hw] at hs
  have hsz : w'.heap.size = w.heap.size := by rw [← hw]; simp
  have stay : ∀ b, (b ≠ g ∧ (b < n0 ∨ X b)) → b < w.heap.size → (b ≠ g ∧ (b < n0 ∨ X b)) ∧ w'.heap[b]? = w.heap[b]? := fun b hb hl => ⟨hb, hs.2.block b hl (fun e => hb.1 (by injection e))⟩
  refine ⟨⟨?_, ⟨⟨_, _, rfl, by simp at h1; omega, fun hp => ?_⟩, h3.stays (by omega) stay⟩, xg, fun b hb => by rw [hsz]; exact lt b hb⟩, Sft.of_grown hs.2 (fun b e => by injection e with e; exact e ▸ xg)⟩
  · have := hs.1
    rw [List.reverse_cons, List.set_append_right _ _ (by simp [hl])] at this
    simpa [hl] using this
  · have hc1 : c' ≠ 1 := by simp at h1; omega
    rw [if_neg hc1]
    obtain ⟨b, off, rfl, hF, hlt, hr⟩ := h2 (by simp)
    refine ⟨b, off + 5, rfl, hF, by omega, ?_⟩
    unfold Vr at hr
    exact Vr.stays (by omega) stay hF hlt r hr.2
/-- a list's kids are a row of their own -/
theorem Lf.push {ks : List Tree} {v : Value} (h : Lf w n0 g c S X vals) (hv : Rw w (fun b => b ≠ g ∧ (b < n0 ∨ X b)) ks v) {g' c2 : Nat} {w' : World} (h1 : w'.ownsRow n0 24 1 (.slice (some ⟨g', 0, none⟩) (S.length + 1) c2) (S.length + 1) (vals.reverse ++ [v]))
    (h2 : w.grownBy w' (some g)) (h3 : some g = some g' ∨ g' = w.heap.size) (h4 : g' < w'.heap.size) (hn : n0 ≤ w.heap.size) :
    Lf w' n0 g' c2 (ks :: S) (fun b => b = g' ∨ (X b ∧ b ≠ g)) (v :: vals) ∧ Sft X w w' := by
  have stay : ∀ b, (b ≠ g ∧ (b < n0 ∨ X b)) → b < w.heap.size → (b ≠ g' ∧ (b < n0 ∨ (b = g' ∨ (X b ∧ b ≠ g)))) ∧ w'.heap[b]? = w.heap[b]? := fun b hb hl => by
    refine ⟨⟨?_, hb.2.imp id (fun hx => .inr ⟨hx, hb.1⟩)⟩, h2.block b hl (fun e => hb.1 (by injection e))⟩
    rcases h3 with h3 | h3
    · injection h3 with h3; exact h3 ▸ hb.1
    · omega
  refine ⟨⟨by simpa using h1, ⟨hv.stays h2.size stay, h.al.stays h2.size stay⟩, .inl rfl, ?_⟩, Sft.of_grown h2 (fun b e => by injection e with e; exact e ▸ h.xg)⟩
  rintro b (rfl | ⟨hb, _⟩)
  · refine ⟨?_, h4⟩
    rcases h3 with h3 | h3
    · injection h3 with h3; exact h3 ▸ (h.lt g h.xg).1
    · omega
  · exact ⟨(h.lt b hb).1, Nat.lt_of_lt_of_le (h.lt b hb).2 h2.size⟩
end

theorem Lf.start {W : World} {n0 : Nat} {l : Bool} {u : Tok} {ks : List Tree} {A : Option Addr} {c : Nat} (hv : Vt W (fun b => b < n0) (.mk l u ks) [.bool l, .int .i64 u.k, .string ⟨u.s.toArray⟩, .int .i64 u.p, .slice A ks.length c]) (hn : n0 ≤ W.heap.size) {W1 : World}
    (hW : (W.alloc (.cells #[.bool l, .int .i64 u.k, .string ⟨u.s.toArray⟩, .int .i64 u.p, .slice A ks.length c] 37)).alloc (.cells #[.slice (some ⟨W.heap.size, 0, none⟩) 1 1] 24) = W1) :
    Lf W1 n0 (W.heap.size + 1) 1 [[.mk l u ks]] (fun b => b = W.heap.size ∨ b = W.heap.size + 1) [.slice (some ⟨W.heap.size, 0, none⟩) 1 1] ∧ Sft (fun _ => False) W W1 := by
  obtain ⟨o, ho⟩ : ∃ o, Obj.cells #[.bool l, .int .i64 u.k, .string ⟨u.s.toArray⟩, .int .i64 u.p, .slice A ks.length c] 37 = o := ⟨_, rfl⟩
  rw [ho] at hW
  have hS : Sft (fun _ => False) W W1 := by
    rw [← hW]
    exact (Sft.alloc _ W _).trans (Sft.alloc (fun _ => False) _ _) (fun _ h => h.elim)
  have hsz : W1.heap.size = W.heap.size + 2 := by rw [← hW]; simp
  have hb : W1.heap[W.heap.size]? = some o := by
    rw [← hW]
    exact (Below.heap_alloc _ _ _ (by simp)).trans (World.alloc_heap_new W _)
  refine ⟨⟨?_, ⟨⟨_, _, rfl, Nat.le_refl _, fun _ => ⟨W.heap.size, 0, rfl, ⟨by omega, .inr (.inl rfl)⟩, by omega, ?_⟩⟩, trivial⟩, .inr rfl, ?_⟩, hS⟩
  · have := World.ownsRow_lit (base := n0) (e := 24) (size := 1) (W.alloc o) #[.slice (some ⟨W.heap.size, 0, none⟩) 1 1] 1 (by simp; omega) (by decide) rfl
    rw [hW, World.size_alloc] at this
    exact this
  · unfold Vr
    refine ⟨⟨_, hv.stays (by omega) (F' := fun b => b ≠ W.heap.size + 1 ∧ (b < n0 ∨ (b = W.heap.size ∨ b = W.heap.size + 1))) (fun g hg hl => ⟨⟨by omega, .inl hg⟩, hS.block g hl id⟩), fun j hj => ?_⟩, by unfold Vr; trivial⟩
    rw [cell_of_row W1 W.heap.size (0 + j) _ _ (0, 0) (ho ▸ hb)]
    match j, hj with
    | 0, _ | 1, _ | 2, _ | 3, _ | 4, _ => rfl
  · rintro b (rfl | rfl)
    · exact ⟨hn, by omega⟩
    · exact ⟨by omega, by omega⟩

/-- append, and where the new slice lies, within a fence -/
theorem wpListIn_append_lies {F : Fence} {n : Nat} {P : Program} (w : World) {ops : Array Oper} {rest : List Oper} {o : Oper} {a : Act} {Q : Exit → Act → World → Prop} (hgd : o.guard = none) (s x : Operand) (t : TypeId)
    (ho : o.op = .call { callee := .builtin .append, args := #[s, x], argTypes := #[t, t] })
    (base : Nat) (e : TypeId) (i : TypeInfo) (z : Value) (size bytes : Nat) (ht : P.underlying t = some (.slice e)) (hi : P.info? e = some i) (hz : i.zero = some z)
    (hsize : i.size = size) (hby : i.bytes = bytes) (hzs : z.cells.size = size) (hsz : 0 < size)
    (v : Value) (k : Nat) (xs : List Value) (hs : a.eval s = v) (hown : w.ownsRow base e size v k xs)
    (ad : Addr) (m c : Nat) (news : List Value) (hx : a.eval x = .slice (some ad) m c) (hl : news.length = m * size) (hnews : ∀ j u, news[j]? = some u → w.cell? (ad.add j) = some u) (h1 : ∀ u ∈ news, u.oneCell' = true)
    (hm : 0 < m) (h63 : k + m ≤ maxLen) (hbytes : (k + m) * bytes ≤ 140737488355328) (hbase : base ≤ w.heap.size)
    (h : ∀ g cap w', w'.ownsRow base e size (.slice (some ⟨g, 0, none⟩) (k + m) cap) (k + m) (xs ++ news) → w.grownBy w' v.ownBlock → (v.ownBlock = some g ∨ g = w.heap.size) → g < w'.heap.size → wpListIn F n P ops Q rest (a.put o.dst (.slice (some ⟨g, 0, none⟩) (k + m) cap)) w') :
    wpListIn F n P ops Q (o :: rest) a w := by
  refine wpListIn_plain hgd fun K hK => ?_
  obtain ⟨g, cap, w', hrun, r1, r2, r3, r4⟩ := run_append_lies (P := P) w t o.type base e i z size bytes ht hi hz hsize hby hzs hsz v k xs hown ad m c news hl hnews h1 hm h63 hbytes hbase _ rfl
  unfold Oper.wpIn
  refine ⟨by simp [Oper.about, ho, resolve, Target.leads, Sem.run_pure], ?_⟩
  rw [Oper.semAt_plain F _ _ (by rw [ho]; intro c hc'; cases hc')]
  simp [execOp, ho, resolve, invoke, builtin, hs, hx, hrun, Result.andThen]
  exact hK _ _ (h g cap w' r1 r2 r3 r4)
end Go.Proofs.YtmnllioeaaimcaaDoor.tr
