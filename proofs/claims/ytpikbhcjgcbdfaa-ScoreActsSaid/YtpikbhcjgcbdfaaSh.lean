/- Rows of integers that a call makes: appends, whatever the source. -/
import Derived.Test.YtpikbhcjgcbdfaaSg
import Derived.Laws.AppendOwnNone
import Derived.Laws.OwnMore
import Derived.Deep.AppendLies
namespace Go.Proofs.Ytpikbhcjgcbdfaa.sc
open Go.RowKit

def i64z (zs : List Int) : List Value := zs.map (Value.int .i64)
theorem i64z_get {zs : List Int} {k : Nat} (h : k < zs.length) : (i64z zs)[k]? = some (.int .i64 (zs[k]'h)) := by simp [i64z, h]
theorem i64z_append (a b : List Int) : i64z (a ++ b) = i64z a ++ i64z b := by simp [i64z]
theorem own_row {w : World} {base n : Nat} {e : TypeId} {v : Value} {xs : List Value} (h : w.ownsRow base e 1 v n xs) : ∃ A c, v = .slice A n c ∧ n ≤ c := by
  obtain ⟨_, (⟨e1, e2⟩ | ⟨g, cap, cur, e1, _, _, hc, _⟩)⟩ := h
  · subst e2; exact ⟨none, 0, e1, Nat.le_refl _⟩
  · exact ⟨some ⟨g, 0, none⟩, cap, e1, hc⟩
theorem Rz.of_own {w : World} {base n c : Nat} {A : Option Addr} {zs : List Int} (h : w.ownsRow base 3 1 (.slice A n c) n (i64z zs)) : Rz w A zs := fun hn => by
  have hl : zs.length = n := by have := h.1; simpa [i64z] using this
  obtain ⟨g, cap, hv, _, hlt⟩ := World.ownsRow.form h (by omega)
  have hA : A = some ⟨g, 0, none⟩ := by injection hv
  subst hA
  refine ⟨g, 0, rfl, hlt, fun j hj => ?_⟩
  have := World.ownsRow.cells h (g := g) rfl j _ (i64z_get hj)
  rw [← this]
  unfold Addr.add
  by_cases h0 : j = 0 <;> simp [h0]
theorem own_ge {w : World} {base n : Nat} {e : TypeId} {v : Value} {xs : List Value} (h : w.ownsRow base e 1 v n xs) {g : Nat} (hg : v.ownBlock = some g) : base ≤ g := by
  obtain ⟨_, (⟨e1, _⟩ | ⟨g', cap, cur, e1, hb, _⟩)⟩ := h
  · subst e1; cases hg
  · subst e1; injection hg with hg; rw [← hg]; exact hb
theorem info_int : (Try.prog.info? 3).map (fun i => (i.zero, i.size, i.bytes)) = some (some (.int .i64 0), 1, 8) := by kernel_rfl
theorem own_nil (W : World) {base : Nat} (hb : base ≤ W.heap.size) : (W.alloc (.cells #[] 3)).ownsRow base 3 1 (.slice (some ⟨W.heap.size, 0, none⟩) 0 0) 0 (i64z []) :=
  ⟨rfl, .inr ⟨W.heap.size, 0, #[], rfl, hb, Blk.new W _ _, Nat.le_refl _, by decide, rfl, rfl⟩⟩
theorem own_one (W : World) (v : Int) {base : Nat} (hb : base ≤ W.heap.size) : (W.alloc (.cells #[.int .i64 v] 3)).ownsRow base 3 1 (.slice (some ⟨W.heap.size, 0, none⟩) 1 1) 1 (i64z [v]) :=
  ⟨rfl, .inr ⟨W.heap.size, 1, #[.int .i64 v], rfl, hb, Blk.new W _ _, Nat.le_refl _, by decide, rfl, rfl⟩⟩
theorem ones (zs : List Int) : ∀ u ∈ i64z zs, u.oneCell' = true := by
  intro u hu
  simp only [i64z, List.mem_map] at hu
  obtain ⟨z, _, rfl⟩ := hu
  rfl
theorem wpList_app {w : World} {ops : Array Oper} {rest : List Oper} {o : Oper} {a : Act} {Q : Exit → Act → World → Prop} (hgd : o.guard = none) (s x : Operand)
    (ho : o.op = .call { callee := .builtin .append, args := #[s, x], argTypes := #[24, 24] })
    (base : Nat) {v : Value} {n : Nat} {zs : List Int} (hs : a.eval s = v) (hown : w.ownsRow base 3 1 v n (i64z zs))
    {A : Option Addr} {m c : Nat} {ys : List Int} (hx : a.eval x = .slice A m c) (hA : A = none → m = 0 ∧ c = 0) (hr : Rz w A ys) (hm : m = ys.length)
    (h1 : n + m ≤ 1000) (hbase : base ≤ w.heap.size)
    (h : ∀ v' w', w'.ownsRow base 3 1 v' (n + m) (i64z (zs ++ ys)) → w.grownBy w' v.ownBlock → wpList Try.prog ops Q rest (a.put o.dst v') w') : wpList Try.prog ops Q (o :: rest) a w := by
  obtain ⟨i0, hi, hz0, hz1, hz2⟩ := info_parts info_int
  cases A with
  | none =>
    obtain ⟨rfl, rfl⟩ := hA rfl
    have hy : ys = [] := List.eq_nil_of_length_eq_zero hm.symm
    subst hy
    refine wpList_append_own_none hgd s x _ ho base 3 i0 1 Try.underlying24 hi v n _ hs hown hx (h v w ?_ ⟨rfl, rfl, rfl, Nat.le_refl _, fun _ _ _ => rfl⟩)
    simpa using hown
  | some ad =>
    refine wpList_append_own w hgd s x _ ho base 3 i0 (.int .i64 0) 1 8 Try.underlying24 hi hz0 hz1 hz2 rfl (by decide) v n _ hs hown ad m c (i64z ys) hx (by simp [i64z, hm]) ?_ (ones ys) (by unfold maxLen; omega) (by omega) hbase (fun v' w' h1 h2 _ => h v' w' (by rw [i64z_append]; exact h1) h2)
    intro j u hj
    have hjl : j < ys.length := by
      rcases Nat.lt_or_ge j ys.length with g | g
      · exact g
      · rw [List.getElem?_eq_none (by simpa [i64z] using g)] at hj; cases hj
    obtain ⟨b, off, e, _, hc⟩ := hr (by omega)
    injection e with e
    subst e
    rw [i64z_get hjl] at hj
    injection hj with hj
    subst hj
    rw [← hc j hjl]
    unfold Addr.add
    by_cases h0 : j = 0 <;> simp [h0]
end Go.Proofs.Ytpikbhcjgcbdfaa.sc
