/- Package dag: an arena to which a term is added: what lies where. -/
import Derived.Test.YtdnhhfhjjimcgaaDoorGs
import Derived.Test.YtdnhhfhjjimcgaaDoorGx
namespace Go.Proofs.YtdnhhfhjjimcgaaDoor.dg
open Go Go.RowKit

/-- an arena but for its table -/
structure Az (w : World) (F I J : Nat → Prop) (a : Nat) (S : St) (sv fv tv : Value) (mb ib : Nat) : Prop where
  box : Bk w a 77 #[.int .i64 S.most, sv, .map (some mb), fv, tv, .pointer (some ⟨ib, 0, none⟩)]
  srt : Ro w F 67 2 (SrtC w I) S.sorts sv
  fns : Ro w F 63 3 (FnnC w I) S.funs fv
  trm : Ro w F 82 6 (EnC w I) S.terms tv
  map : Mp w mb S.sorts
  fa : F a
  fm : F mb
  ii : ∀ g, I g → F g ∧ Ty w g 3
  jj : ∀ g, J g → F g ∧ ¬ I g
  lt : ∀ g, F g → g < w.heap.size
section
variable {w w' : World} {F I J : Nat → Prop} {a : Nat} {S : St} {sv fv tv : Value} {mb ib n : Nat}
theorem Ax.az (h : Ax w F I J a S sv fv tv mb ib n) : Az w F I J a S sv fv tv mb ib := ⟨h.box, h.srt, h.fns, h.trm, h.map, h.fa, h.fm, h.ii, h.jj, h.lt⟩
theorem Az.ax (h : Az w F I J a S sv fv tv mb ib) (ht : Tb w F J ib (hashes S) n S.terms.length) (hn : Nb n S.terms.length) : Ax w F I J a S sv fv tv mb ib n := ⟨h.box, h.srt, h.fns, h.trm, h.map, ht, hn, h.fa, h.fm, h.ii, h.jj, h.lt⟩
/-- the table's own blocks -/
def Ft (w : World) (F : Nat → Prop) (g : Nat) : Prop := F g ∧ (Ty w g 86 ∨ Ty w g 52 ∨ Ty w g 33)
theorem Tb.own {hs : List Int} {k : Nat} (h : Tb w F J ib hs n k) : Tb w (Ft w F) J ib hs n k := h.stays (fun g e ht he hF => ⟨⟨hF, by rcases he with rfl | rfl | rfl; exact .inl ht; exact .inr (.inl ht); exact .inr (.inr ht)⟩, rfl⟩) fun g _ hJ => ⟨hJ, rfl⟩
theorem Ft.ne {g g' : Nat} {e : TypeId} (h : Ft w F g) (ht : Ty w g' e) (h1 : e ≠ 86) (h2 : e ≠ 52) (h3 : e ≠ 33) : g' ≠ g := by
  rcases h.2 with h | h | h
  · exact ht.ne h h1
  · exact ht.ne h h2
  · exact ht.ne h h3
theorem Mp.keep {l : List Srt} {b : Nat} (h : Mp w b l) {X : Nat → Prop} (hs : Sft X w w') (hX : ∀ g, X g → ∃ e, Ty w g e) : Mp w' b l := h.stays (hs.block b h.lt fun hx => by
  obtain ⟨e, ht⟩ := hX b hx
  exact h.ne ht rfl)
/-- the table is worked on -/
theorem Az.tbl (h : Az w F I J a S sv fv tv mb ib) {F' J' : Nat → Prop} (hs : Sft (fun g => Ft w F g ∨ J g) w w') (hJt : ∀ g, J g → Ty w g 3) (hF' : ∀ g, F' g → Ft w F g ∨ w.heap.size ≤ g) (hJ' : ∀ g, J' g → J g ∨ w.heap.size ≤ g) (hl : ∀ g, F' g ∨ J' g → g < w'.heap.size) :
    Az w' (fun g => F g ∨ F' g ∨ J' g) I J' a S sv fv tv mb ib := by
  have k : ∀ g e, Ty w g e → e ≠ 86 → e ≠ 52 → e ≠ 33 → e ≠ 3 → w'.heap[g]? = w.heap[g]? := fun g e ht h1 h2 h3 h4 => hs.block g ht.lt fun hx => by
    rcases hx with hx | hx
    · exact hx.ne ht h1 h2 h3 rfl
    · exact ht.ne (hJt g hx) h4 rfl
  have ki : ∀ g, I g → w'.heap[g]? = w.heap[g]? := fun g hg => hs.block g (h.ii g hg).2.lt fun hx => by
    rcases hx with hx | hx
    · exact hx.ne (h.ii g hg).2 (by decide) (by decide) (by decide) rfl
    · exact (h.jj g hx).2 hg
  exact {
    box := (k a _ h.box.ty (by decide) (by decide) (by decide) (by decide)).trans h.box
    srt := h.srt.stays (fun g hg => ⟨.inl (h.srt.ty g hg).2, k g _ (h.srt.ty g hg).1 (by decide) (by decide) (by decide) (by decide)⟩) fun _ _ _ => SrtC.stays hs.size fun g hg _ => ⟨hg, ki g hg⟩
    fns := h.fns.stays (fun g hg => ⟨.inl (h.fns.ty g hg).2, k g _ (h.fns.ty g hg).1 (by decide) (by decide) (by decide) (by decide)⟩) fun _ _ _ => FnnC.stays hs.size fun g hg _ => ⟨hg, ki g hg⟩
    trm := h.trm.stays (fun g hg => ⟨.inl (h.trm.ty g hg).2, k g _ (h.trm.ty g hg).1 (by decide) (by decide) (by decide) (by decide)⟩) fun _ _ _ => EnC.stays hs.size fun g hg _ => ⟨hg, ki g hg⟩
    map := h.map.keep hs fun g hx => by
      rcases hx with ⟨_, hx | hx | hx⟩ | hx
      · exact ⟨_, hx⟩
      · exact ⟨_, hx⟩
      · exact ⟨_, hx⟩
      · exact ⟨_, hJt g hx⟩
    fa := .inl h.fa
    fm := .inl h.fm
    ii := fun g hg => ⟨.inl (h.ii g hg).1, (h.ii g hg).2.stays (ki g hg)⟩
    jj := fun g hg => ⟨.inr (.inr hg), fun hi => by
      rcases hJ' g hg with h1 | h1
      · exact (h.jj g h1).2 hi
      · have := (h.ii g hi).2.lt; omega⟩
    lt := fun g hg => by
      rcases hg with hg | hg
      · exact Nat.lt_of_lt_of_le (h.lt g hg) hs.size
      · exact hl g hg }
/-- one more entry -/
theorem Az.push (h : Az w F I J a S sv fv tv mb ib) {K : Nat → Prop} (hK : ∀ g, K g → ¬ F g ∧ Ty w g 3) {e : En} {A : Option Addr} {c : Nat} (hr : Ri w K e.t.kids A c) {xs : List Value} (hx : Ch (EnC w I) S.terms xs) (hto : w.ownsRow 0 82 6 tv S.terms.length xs) {o : Obj} {W3 : World} {g' c' : Nat}
    (hown : W3.ownsRow 0 82 6 (.slice (some ⟨g', 0, none⟩) (S.terms.length + 1) c') (S.terms.length + 1) (xs ++ [.int .i64 e.t.op, .int .i64 e.t.fn, .slice A e.t.kids.length c, .string e.t.num, .int .i64 e.srt, .bool e.cst])) (hg : (w.alloc o).grownBy W3 tv.ownBlock) (hat : tv.ownBlock = some g' ∨ g' = w.heap.size + 1 ∨ g' = w.heap.size) (hl3 : g' < W3.heap.size) :
    Az (W3.setCell ⟨a, 4, none⟩ (.slice (some ⟨g', 0, none⟩) (S.terms.length + 1) c')) (fun g => F g ∨ K g ∨ g = g') (fun g => I g ∨ K g) J a { S with terms := S.terms ++ [e] } sv fv (.slice (some ⟨g', 0, none⟩) (S.terms.length + 1) c') mb ib ∧
      Sft F w (W3.setCell ⟨a, 4, none⟩ (.slice (some ⟨g', 0, none⟩) (S.terms.length + 1) c')) ∧ (F g' ∨ w.heap.size ≤ g') ∧ Bk W3 a 77 #[.int .i64 S.most, sv, .map (some mb), fv, tv, .pointer (some ⟨ib, 0, none⟩)] ∧ Bk (W3.setCell ⟨a, 4, none⟩ (.slice (some ⟨g', 0, none⟩) (S.terms.length + 1) c')) a 77 #[.int .i64 S.most, sv, .map (some mb), fv, .slice (some ⟨g', 0, none⟩) (S.terms.length + 1) c', .pointer (some ⟨ib, 0, none⟩)] ∧
      ∀ g e, Ty w g e → e ≠ 82 → e ≠ 77 → (W3.setCell ⟨a, 4, none⟩ (.slice (some ⟨g', 0, none⟩) (S.terms.length + 1) c')).heap[g]? = w.heap[g]? := by
  have hs3 : Sft (fun g => tv.ownBlock = some g) w W3 := (Sft.alloc _ w o).trans (Sft.of_grown hg (fun r e => e)) (fun _ h => .inl h)
  have kk : ∀ g e, Ty w g e → e ≠ 82 → W3.heap[g]? = w.heap[g]? := fun g e ht hne => hs3.block g ht.lt (fun hv => ht.ne (own_ty hto g hv) hne rfl)
  have kset : ∀ g, g ≠ a → (W3.setCell ⟨a, 4, none⟩ (.slice (some ⟨g', 0, none⟩) (S.terms.length + 1) c')).heap[g]? = W3.heap[g]? := fun g hg => Below.heap_setCell _ _ _ _ hg
  have hsz : (W3.setCell ⟨a, 4, none⟩ (.slice (some ⟨g', 0, none⟩) (S.terms.length + 1) c')).heap.size = W3.heap.size := by simp [World.setCell]
  have k2 : ∀ g e, Ty w g e → e ≠ 82 → e ≠ 77 → (W3.setCell ⟨a, 4, none⟩ (.slice (some ⟨g', 0, none⟩) (S.terms.length + 1) c')).heap[g]? = w.heap[g]? := fun g e ht hne hn2 => (kset g (ht.ne h.box.ty hn2)).trans (kk g e ht hne)
  have hsize : w.heap.size ≤ (W3.setCell ⟨a, 4, none⟩ (.slice (some ⟨g', 0, none⟩) (S.terms.length + 1) c')).heap.size := by rw [hsz]; exact hs3.size
  have ki : ∀ g, I g → (W3.setCell ⟨a, 4, none⟩ (.slice (some ⟨g', 0, none⟩) (S.terms.length + 1) c')).heap[g]? = w.heap[g]? := fun g hg => k2 g _ (h.ii g hg).2 (by decide) (by decide)
  have kK : ∀ g, K g → (W3.setCell ⟨a, 4, none⟩ (.slice (some ⟨g', 0, none⟩) (S.terms.length + 1) c')).heap[g]? = w.heap[g]? := fun g hg => k2 g _ (hK g hg).2 (by decide) (by decide)
  have hb3 := (kk a _ h.box.ty (by decide)).trans h.box
  have hb4 : Bk (W3.setCell ⟨a, 4, none⟩ (.slice (some ⟨g', 0, none⟩) (S.terms.length + 1) c')) a 77 #[.int .i64 S.most, sv, .map (some mb), fv, .slice (some ⟨g', 0, none⟩) (S.terms.length + 1) c', .pointer (some ⟨ib, 0, none⟩)] := by
    have := Bk.set_ hb3 4 (.slice (some ⟨g', 0, none⟩) (S.terms.length + 1) c')
    simpa using this
  have hga : g' ≠ a := (own_ty hown g' rfl).ne (Bk.ty hb3) (by decide)
  have hgF : F g' ∨ w.heap.size ≤ g' := by
    rcases hat with h1 | h1 | h1
    · exact .inl (h.trm.ty g' h1).2
    · exact .inr (by omega)
    · exact .inr (by omega)
  refine ⟨{
    box := hb4
    srt := h.srt.stays (fun g hg => ⟨.inl (h.srt.ty g hg).2, k2 g _ (h.srt.ty g hg).1 (by decide) (by decide)⟩) fun _ _ _ => SrtC.stays hsize fun g hg _ => ⟨.inl hg, ki g hg⟩
    fns := h.fns.stays (fun g hg => ⟨.inl (h.fns.ty g hg).2, k2 g _ (h.fns.ty g hg).1 (by decide) (by decide)⟩) fun _ _ _ => FnnC.stays hsize fun g hg _ => ⟨.inl hg, ki g hg⟩
    trm := by
      refine ⟨_, ?_, (hx.mono fun _ _ _ => EnC.stays (I' := fun g => I g ∨ K g) hsize fun g hg _ => ⟨.inl hg, ki g hg⟩).snoc ⟨A, c, rfl, hr.stays hsize fun g hg _ => ⟨.inr hg, kK g hg⟩⟩, fun g hg => ?_⟩
      · rw [List.length_append]
        refine own_stays hown fun g hg => kset g ?_
        simp only [Value.ownBlock, Option.some.injEq] at hg
        rw [← hg]; exact hga
      · simp only [Value.ownBlock, Option.some.injEq] at hg
        exact .inr (.inr hg.symm)
    map := h.map.stays ((kset mb (h.map.ne h.box.ty)).trans (hs3.block mb h.map.lt fun hv => h.map.ne (own_ty hto mb hv) rfl))
    fa := .inl h.fa
    fm := .inl h.fm
    ii := fun g hg => hg.elim (fun hg => ⟨.inl (h.ii g hg).1, (h.ii g hg).2.stays (ki g hg)⟩) fun hg => ⟨.inr (.inl hg), (hK g hg).2.stays (kK g hg)⟩
    jj := fun g hg => ⟨.inl (h.jj g hg).1, fun hi => hi.elim (h.jj g hg).2 fun hk => (hK g hk).1 (h.jj g hg).1⟩
    lt := fun g hg => by
      rw [hsz]
      rcases hg with hg | hg | rfl
      · exact Nat.lt_of_lt_of_le (h.lt g hg) hs3.size
      · exact Nat.lt_of_lt_of_le (hK g hg).2.lt hs3.size
      · exact hl3 }, ?_, hgF, hb3, hb4, k2⟩
  exact ⟨hs3.os, hs3.tape, hs3.output, hsize, fun g hg1 hx => (kset g (fun e => hx (e ▸ h.fa))).trans (hs3.block g hg1 fun hv => hx (h.trm.ty g hv).2)⟩
end
/-- what comes of a call on an arena -/
def ArEnd (w w' : World) (F : Nat → Prop) (a : Nat) (S' : St) : Prop := ∃ F', Ar w' F' a S' ∧ Sft F w w' ∧ ∀ g, F' g → F g ∨ w.heap.size ≤ g
theorem ArEnd.same {w w' : World} {F : Nat → Prop} {a : Nat} {S : St} (h : Ar w F a S) (hb : Below w.heap.size w w') : ArEnd w w' F a S := ⟨F, h.below hb, Sft.of_below hb, fun _ h => .inl h⟩
theorem Tb.jty {w : World} {F J : Nat → Prop} {ib : Nat} {hs : List Int} {n k : Nat} (h : Tb w F J ib hs n k) : Tb w F (fun g => J g ∧ Ty w g 3) ib hs n k := h.stays (fun g _ _ _ hF => ⟨hF, rfl⟩) fun g ht hJ => ⟨⟨hJ, ht⟩, rfl⟩
theorem Az.jless {w : World} {F I J J' : Nat → Prop} {a : Nat} {S : St} {sv fv tv : Value} {mb ib : Nat} (h : Az w F I J a S sv fv tv mb ib) (hJ : ∀ g, J' g → J g) : Az w F I J' a S sv fv tv mb ib := { h with jj := fun g hg => h.jj g (hJ g hg) }
end Go.Proofs.YtdnhhfhjjimcgaaDoor.dg
