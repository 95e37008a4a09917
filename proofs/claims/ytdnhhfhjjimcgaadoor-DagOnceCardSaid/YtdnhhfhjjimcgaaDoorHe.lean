/- Package dag: an arena to which a sort, or a function, is added: what lies where. -/
import Derived.Test.YtdnhhfhjjimcgaaDoorGy
namespace Go.Proofs.YtdnhhfhjjimcgaaDoor.dg
open Go Go.RowKit

theorem Ax.pushS1 {w : World} {F I J : Nat → Prop} {a : Nat} {S : St} {sv fv tv : Value} {mb ib n : Nat} (h : Ax w F I J a S sv fv tv mb ib n) {xs news : List Value} {N : Nat} (hto : w.ownsRow 0 67 2 sv N xs) {o : Obj} {W3 : World} {g' c' : Nat}
    (hown : W3.ownsRow 0 67 2 (.slice (some ⟨g', 0, none⟩) (N + 1) c') (N + 1) (xs ++ news)) (hg : (w.alloc o).grownBy W3 sv.ownBlock) :
    Bk W3 a 77 #[.int .i64 S.most, sv, .map (some mb), fv, tv, .pointer (some ⟨ib, 0, none⟩)] ∧ Bk (W3.setCell ⟨a, 1, none⟩ (.slice (some ⟨g', 0, none⟩) (N + 1) c')) a 77 #[.int .i64 S.most, .slice (some ⟨g', 0, none⟩) (N + 1) c', .map (some mb), fv, tv, .pointer (some ⟨ib, 0, none⟩)] ∧ Mp (W3.setCell ⟨a, 1, none⟩ (.slice (some ⟨g', 0, none⟩) (N + 1) c')) mb S.sorts ∧ Sft (fun g => sv.ownBlock = some g) w W3 ∧
      (∀ g e, Ty w g e → e ≠ 67 → e ≠ 77 → (W3.setCell ⟨a, 1, none⟩ (.slice (some ⟨g', 0, none⟩) (N + 1) c')).heap[g]? = w.heap[g]?) ∧ g' ≠ a := by
  have hs3 : Sft (fun g => sv.ownBlock = some g) w W3 := (Sft.alloc _ w o).trans (Sft.of_grown hg (fun r e => e)) (fun _ h => .inl h)
  have kk : ∀ g e, Ty w g e → e ≠ 67 → W3.heap[g]? = w.heap[g]? := fun g e ht hne => hs3.block g ht.lt (fun hv => ht.ne (own_ty hto g hv) hne rfl)
  have kset : ∀ g, g ≠ a → (W3.setCell ⟨a, 1, none⟩ (.slice (some ⟨g', 0, none⟩) (N + 1) c')).heap[g]? = W3.heap[g]? := fun g hg => Below.heap_setCell _ _ _ _ hg
  have hb3 := (kk a _ h.box.ty (by decide)).trans h.box
  refine ⟨hb3, ?_, h.map.stays ((kset mb (h.map.ne h.box.ty)).trans (hs3.block mb h.map.lt fun hv => h.map.ne (own_ty hto mb hv) rfl)), hs3, fun g e ht hne hn2 => (kset g (ht.ne h.box.ty hn2)).trans (kk g e ht hne), (own_ty hown g' rfl).ne (Bk.ty hb3) (by decide)⟩
  have := Bk.set_ hb3 1 (.slice (some ⟨g', 0, none⟩) (N + 1) c')
  simpa using this
theorem Ax.pushS2 {w : World} {F I J : Nat → Prop} {a : Nat} {S : St} {sv fv tv : Value} {mb ib n : Nat} (h : Ax w F I J a S sv fv tv mb ib n) {K : Nat → Prop} (hK : ∀ g, K g → ¬ F g ∧ Ty w g 3) {s : Srt} {A : Option Addr} {c : Nat} (hr : Ri w K s.args A c) {xs : List Value} (hx : Ch (SrtC w I) S.sorts xs) (hto : w.ownsRow 0 67 2 sv S.sorts.length xs) {o : Obj} {W3 : World} {g' c' : Nat}
    (hown : W3.ownsRow 0 67 2 (.slice (some ⟨g', 0, none⟩) (S.sorts.length + 1) c') (S.sorts.length + 1) (xs ++ [.string s.name, .slice A s.args.length c])) (hg : (w.alloc o).grownBy W3 sv.ownBlock) (hat : sv.ownBlock = some g' ∨ g' = w.heap.size + 1) (hl3 : g' < W3.heap.size)
    {W5 : World} (h5 : Sft (fun g => g = mb) (W3.setCell ⟨a, 1, none⟩ (.slice (some ⟨g', 0, none⟩) (S.sorts.length + 1) c')) W5) (hm : Mp W5 mb (S.sorts ++ [s])) :
    Ar W5 (fun g => F g ∨ K g ∨ g = g') a { S with sorts := S.sorts ++ [s] } ∧ Sft F w W5 ∧ ∀ g, (F g ∨ K g ∨ g = g') → F g ∨ K g ∨ w.heap.size ≤ g := by
  obtain ⟨hb3, hb4, hm4, hs3, k4, hga⟩ := h.pushS1 hto hown hg
  have kset : ∀ g, g ≠ a → (W3.setCell ⟨a, 1, none⟩ (.slice (some ⟨g', 0, none⟩) (S.sorts.length + 1) c')).heap[g]? = W3.heap[g]? := fun g hg => Below.heap_setCell _ _ _ _ hg
  have hsz : (W3.setCell ⟨a, 1, none⟩ (.slice (some ⟨g', 0, none⟩) (S.sorts.length + 1) c')).heap.size = W3.heap.size := by simp [World.setCell]
  have hsz5 : W3.heap.size ≤ W5.heap.size := by have := h5.size; rw [hsz] at this; exact this
  have hsize : w.heap.size ≤ W5.heap.size := Nat.le_trans hs3.size hsz5
  have k2 : ∀ g e, Ty w g e → e ≠ 67 → e ≠ 77 → W5.heap[g]? = w.heap[g]? := fun g e ht hne hn2 => (h5.block g (by rw [hsz]; exact Nat.lt_of_lt_of_le ht.lt hs3.size) (fun hx => h.map.ne ht hx.symm)).trans (k4 g e ht hne hn2)
  have ki : ∀ g, I g → W5.heap[g]? = w.heap[g]? := fun g hg => k2 g _ (h.ii g hg).2 (by decide) (by decide)
  have kK : ∀ g, K g → W5.heap[g]? = w.heap[g]? := fun g hg => k2 g _ (hK g hg).2 (by decide) (by decide)
  have hgF : F g' ∨ w.heap.size ≤ g' := hat.imp (fun h1 => (h.srt.ty g' h1).2) fun h1 => by omega
  refine ⟨⟨fun g => I g ∨ K g, fun g => J g ∧ Ty w g 3, _, fv, tv, mb, ib, n, {
    box := (h5.block a hb4.lt (fun hx => hm4.ne hb4.ty hx.symm)).trans hb4
    fns := h.fns.stays (fun g hg => ⟨.inl (h.fns.ty g hg).2, k2 g _ (h.fns.ty g hg).1 (by decide) (by decide)⟩) fun _ _ _ => FnnC.stays hsize fun g hg _ => ⟨.inl hg, ki g hg⟩
    trm := h.trm.stays (fun g hg => ⟨.inl (h.trm.ty g hg).2, k2 g _ (h.trm.ty g hg).1 (by decide) (by decide)⟩) fun _ _ _ => EnC.stays hsize fun g hg _ => ⟨.inl hg, ki g hg⟩
    srt := by
      refine ⟨_, ?_, (hx.mono fun _ _ _ => SrtC.stays (I' := fun g => I g ∨ K g) hsize fun g hg _ => ⟨.inl hg, ki g hg⟩).snoc ⟨A, c, rfl, hr.stays hsize fun g hg _ => ⟨.inr hg, kK g hg⟩⟩, fun g hg => ?_⟩
      · rw [List.length_append]
        refine own_stays hown fun g hg => ?_
        simp only [Value.ownBlock, Option.some.injEq] at hg
        rw [← hg]
        exact (h5.block g' (by rw [hsz]; exact hl3) (fun hx => hm4.ne (e := 67) (Ty.stays (own_ty hown g' rfl) (kset g' hga)) hx.symm)).trans (kset g' hga)
      · simp only [Value.ownBlock, Option.some.injEq] at hg
        exact .inr (.inr hg.symm)
    map := hm
    tab := h.tab.jty.stays (fun g e ht he hg => ⟨.inl hg, k2 g e ht (by rcases he with rfl | rfl | rfl <;> decide) (by rcases he with rfl | rfl | rfl <;> decide)⟩) fun g ht hg => ⟨hg, k2 g _ ht (by decide) (by decide)⟩
    nb := h.nb
    fa := .inl h.fa
    fm := .inl h.fm
    ii := fun g hg => hg.elim (fun hg => ⟨.inl (h.ii g hg).1, (h.ii g hg).2.stays (ki g hg)⟩) fun hg => ⟨.inr (.inl hg), (hK g hg).2.stays (kK g hg)⟩
    jj := fun g hg => ⟨.inl (h.jj g hg.1).1, fun hi => hi.elim (h.jj g hg.1).2 fun hk => (hK g hk).1 (h.jj g hg.1).1⟩
    lt := fun g hg => by
      rcases hg with hg | hg | rfl
      · exact Nat.lt_of_lt_of_le (h.lt g hg) hsize
      · exact Nat.lt_of_lt_of_le (hK g hg).2.lt hsize
      · exact Nat.lt_of_lt_of_le hl3 hsz5 }⟩, ?_, ?_⟩
  · refine ⟨h5.os.trans hs3.os, h5.tape.trans hs3.tape, h5.output.trans hs3.output, hsize, fun g hg1 hx => ?_⟩
    exact (h5.block g (by rw [hsz]; exact Nat.lt_of_lt_of_le hg1 hs3.size) (fun e => hx (e ▸ h.fm))).trans ((kset g (fun e => hx (e ▸ h.fa))).trans (hs3.block g hg1 fun hv => hx (h.srt.ty g hv).2))
  · rintro g (h1 | h1 | rfl)
    · exact .inl h1
    · exact .inr (.inl h1)
    · exact hgF.imp id .inr
theorem Ax.pushF1 {w : World} {F I J : Nat → Prop} {a : Nat} {S : St} {sv fv tv : Value} {mb ib n : Nat} (h : Ax w F I J a S sv fv tv mb ib n) {xs news : List Value} {N : Nat} (hto : w.ownsRow 0 63 3 fv N xs) {o : Obj} {W3 : World} {g' c' : Nat}
    (hown : W3.ownsRow 0 63 3 (.slice (some ⟨g', 0, none⟩) (N + 1) c') (N + 1) (xs ++ news)) (hg : (w.alloc o).grownBy W3 fv.ownBlock) :
    Bk W3 a 77 #[.int .i64 S.most, sv, .map (some mb), fv, tv, .pointer (some ⟨ib, 0, none⟩)] ∧ Bk (W3.setCell ⟨a, 3, none⟩ (.slice (some ⟨g', 0, none⟩) (N + 1) c')) a 77 #[.int .i64 S.most, sv, .map (some mb), .slice (some ⟨g', 0, none⟩) (N + 1) c', tv, .pointer (some ⟨ib, 0, none⟩)] ∧ Mp (W3.setCell ⟨a, 3, none⟩ (.slice (some ⟨g', 0, none⟩) (N + 1) c')) mb S.sorts ∧ Sft (fun g => fv.ownBlock = some g) w W3 ∧
      (∀ g e, Ty w g e → e ≠ 63 → e ≠ 77 → (W3.setCell ⟨a, 3, none⟩ (.slice (some ⟨g', 0, none⟩) (N + 1) c')).heap[g]? = w.heap[g]?) ∧ g' ≠ a := by
  have hs3 : Sft (fun g => fv.ownBlock = some g) w W3 := (Sft.alloc _ w o).trans (Sft.of_grown hg (fun r e => e)) (fun _ h => .inl h)
  have kk : ∀ g e, Ty w g e → e ≠ 63 → W3.heap[g]? = w.heap[g]? := fun g e ht hne => hs3.block g ht.lt (fun hv => ht.ne (own_ty hto g hv) hne rfl)
  have kset : ∀ g, g ≠ a → (W3.setCell ⟨a, 3, none⟩ (.slice (some ⟨g', 0, none⟩) (N + 1) c')).heap[g]? = W3.heap[g]? := fun g hg => Below.heap_setCell _ _ _ _ hg
  have hb3 := (kk a _ h.box.ty (by decide)).trans h.box
  refine ⟨hb3, ?_, h.map.stays ((kset mb (h.map.ne h.box.ty)).trans (hs3.block mb h.map.lt fun hv => h.map.ne (own_ty hto mb hv) rfl)), hs3, fun g e ht hne hn2 => (kset g (ht.ne h.box.ty hn2)).trans (kk g e ht hne), (own_ty hown g' rfl).ne (Bk.ty hb3) (by decide)⟩
  have := Bk.set_ hb3 3 (.slice (some ⟨g', 0, none⟩) (N + 1) c')
  simpa using this
theorem Ax.pushF2 {w : World} {F I J : Nat → Prop} {a : Nat} {S : St} {sv fv tv : Value} {mb ib n : Nat} (h : Ax w F I J a S sv fv tv mb ib n) {K : Nat → Prop} (hK : ∀ g, K g → ¬ F g ∧ Ty w g 3) {s : Fnn} {A : Option Addr} {c : Nat} (hr : Ri w K s.args A c) {xs : List Value} (hx : Ch (FnnC w I) S.funs xs) (hto : w.ownsRow 0 63 3 fv S.funs.length xs) {o : Obj} {W3 : World} {g' c' : Nat}
    (hown : W3.ownsRow 0 63 3 (.slice (some ⟨g', 0, none⟩) (S.funs.length + 1) c') (S.funs.length + 1) (xs ++ [.string s.name, .slice A s.args.length c, .int .i64 s.res])) (hg : (w.alloc o).grownBy W3 fv.ownBlock) (hat : fv.ownBlock = some g' ∨ g' = w.heap.size + 1) (hl3 : g' < W3.heap.size)
    {W5 : World} (h5 : Sft (fun g => g = mb) (W3.setCell ⟨a, 3, none⟩ (.slice (some ⟨g', 0, none⟩) (S.funs.length + 1) c')) W5) (hm : Mp W5 mb S.sorts) :
    Ar W5 (fun g => F g ∨ K g ∨ g = g') a { S with funs := S.funs ++ [s] } ∧ Sft F w W5 ∧ ∀ g, (F g ∨ K g ∨ g = g') → F g ∨ K g ∨ w.heap.size ≤ g := by
  obtain ⟨hb3, hb4, hm4, hs3, k4, hga⟩ := h.pushF1 hto hown hg
  have kset : ∀ g, g ≠ a → (W3.setCell ⟨a, 3, none⟩ (.slice (some ⟨g', 0, none⟩) (S.funs.length + 1) c')).heap[g]? = W3.heap[g]? := fun g hg => Below.heap_setCell _ _ _ _ hg
  have hsz : (W3.setCell ⟨a, 3, none⟩ (.slice (some ⟨g', 0, none⟩) (S.funs.length + 1) c')).heap.size = W3.heap.size := by simp [World.setCell]
  have hsz5 : W3.heap.size ≤ W5.heap.size := by have := h5.size; rw [hsz] at this; exact this
  have hsize : w.heap.size ≤ W5.heap.size := Nat.le_trans hs3.size hsz5
  have k2 : ∀ g e, Ty w g e → e ≠ 63 → e ≠ 77 → W5.heap[g]? = w.heap[g]? := fun g e ht hne hn2 => (h5.block g (by rw [hsz]; exact Nat.lt_of_lt_of_le ht.lt hs3.size) (fun hx => h.map.ne ht hx.symm)).trans (k4 g e ht hne hn2)
  have ki : ∀ g, I g → W5.heap[g]? = w.heap[g]? := fun g hg => k2 g _ (h.ii g hg).2 (by decide) (by decide)
  have kK : ∀ g, K g → W5.heap[g]? = w.heap[g]? := fun g hg => k2 g _ (hK g hg).2 (by decide) (by decide)
  have hgF : F g' ∨ w.heap.size ≤ g' := hat.imp (fun h1 => (h.fns.ty g' h1).2) fun h1 => by omega
  refine ⟨⟨fun g => I g ∨ K g, fun g => J g ∧ Ty w g 3, sv, _, tv, mb, ib, n, {
    box := (h5.block a hb4.lt (fun hx => hm4.ne hb4.ty hx.symm)).trans hb4
    srt := h.srt.stays (fun g hg => ⟨.inl (h.srt.ty g hg).2, k2 g _ (h.srt.ty g hg).1 (by decide) (by decide)⟩) fun _ _ _ => SrtC.stays hsize fun g hg _ => ⟨.inl hg, ki g hg⟩
    trm := h.trm.stays (fun g hg => ⟨.inl (h.trm.ty g hg).2, k2 g _ (h.trm.ty g hg).1 (by decide) (by decide)⟩) fun _ _ _ => EnC.stays hsize fun g hg _ => ⟨.inl hg, ki g hg⟩
    fns := by
      refine ⟨_, ?_, (hx.mono fun _ _ _ => FnnC.stays (I' := fun g => I g ∨ K g) hsize fun g hg _ => ⟨.inl hg, ki g hg⟩).snoc ⟨A, c, rfl, hr.stays hsize fun g hg _ => ⟨.inr hg, kK g hg⟩⟩, fun g hg => ?_⟩
      · rw [List.length_append]
        refine own_stays hown fun g hg => ?_
        simp only [Value.ownBlock, Option.some.injEq] at hg
        rw [← hg]
        exact (h5.block g' (by rw [hsz]; exact hl3) (fun hx => hm4.ne (e := 63) (Ty.stays (own_ty hown g' rfl) (kset g' hga)) hx.symm)).trans (kset g' hga)
      · simp only [Value.ownBlock, Option.some.injEq] at hg
        exact .inr (.inr hg.symm)
    map := hm
    tab := h.tab.jty.stays (fun g e ht he hg => ⟨.inl hg, k2 g e ht (by rcases he with rfl | rfl | rfl <;> decide) (by rcases he with rfl | rfl | rfl <;> decide)⟩) fun g ht hg => ⟨hg, k2 g _ ht (by decide) (by decide)⟩
    nb := h.nb
    fa := .inl h.fa
    fm := .inl h.fm
    ii := fun g hg => hg.elim (fun hg => ⟨.inl (h.ii g hg).1, (h.ii g hg).2.stays (ki g hg)⟩) fun hg => ⟨.inr (.inl hg), (hK g hg).2.stays (kK g hg)⟩
    jj := fun g hg => ⟨.inl (h.jj g hg.1).1, fun hi => hi.elim (h.jj g hg.1).2 fun hk => (hK g hk).1 (h.jj g hg.1).1⟩
    lt := fun g hg => by
      rcases hg with hg | hg | rfl
      · exact Nat.lt_of_lt_of_le (h.lt g hg) hsize
      · exact Nat.lt_of_lt_of_le (hK g hg).2.lt hsize
      · exact Nat.lt_of_lt_of_le hl3 hsz5 }⟩, ?_, ?_⟩
  · refine ⟨h5.os.trans hs3.os, h5.tape.trans hs3.tape, h5.output.trans hs3.output, hsize, fun g hg1 hx => ?_⟩
    exact (h5.block g (by rw [hsz]; exact Nat.lt_of_lt_of_le hg1 hs3.size) (fun e => hx (e ▸ h.fm))).trans ((kset g (fun e => hx (e ▸ h.fa))).trans (hs3.block g hg1 fun hv => hx (h.fns.ty g hv).2))
  · rintro g (h1 | h1 | rfl)
    · exact .inl h1
    · exact .inr (.inl h1)
    · exact hgF.imp id .inr
end Go.Proofs.YtdnhhfhjjimcgaaDoor.dg
