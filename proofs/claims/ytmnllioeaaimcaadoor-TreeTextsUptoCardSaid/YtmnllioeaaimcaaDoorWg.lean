/- Package tree: a tree as a text. -/
import Derived.Test.YtmnllioeaaimcaaDoorWd
import Derived.Test.YtmnllioeaaimcaaDoorWf
import Derived.Shelf.Strings.BuilderK
namespace Go.Proofs.YtmnllioeaaimcaaDoor.tr
open Go Go.RowKit Go.Proofs.YtmnllioeaaimcaaDoor.tk
attribute [local go_sem] Oper.semAt_some

theorem word_len {k : Int} {T W : List UInt8} (h : wordW k T = some W) : W.length ≤ 2 * T.length + 2 := (cands_two k T).2.2 W (List.mem_of_find?_eq_some h)
/-- how long what is written of parts may be -/
def wt : List Ev → Nat
  | [] => 0
  | e :: r => 2 * e.tok.s.length + 4 + wt r
theorem wt_append (a b : List Ev) : wt (a ++ b) = wt a + wt b := by
  induction a with
  | nil => simp [wt]
  | cons e a ih => simp only [List.cons_append, wt, ih]; omega
theorem wordE_len {e : Ev} {W : List UInt8} (h : wordE e = some W) : W.length ≤ 2 * e.tok.s.length + 2 := by
  cases e with
  | op t => simp [wordE] at h; subst h; simp
  | cl => simp [wordE] at h; subst h; simp
  | st t =>
    simp only [wordE] at h
    split at h
    · cases h
    · exact word_len h
theorem go_len : ∀ (E : List Ev) {B0 B : List UInt8} {f0 f : Bool}, go E (B0, f0) = some (B, f) → B.length ≤ B0.length + wt E
  | [], B0, B, f0, f, h => by simp [go] at h; obtain ⟨rfl, _⟩ := h; simp
  | e :: r, B0, B, f0, f, h => by
    simp only [go] at h
    split at h
    · cases h
    · rename_i W hw
      have h1 := go_len r h
      have h2 := wordE_len hw
      have h3 : (lead f0 e).length ≤ 1 := by unfold lead; split <;> simp
      simp only [List.length_append] at h1
      simp only [wt]
      omega
theorem wt_fits {E pre : List Ev} {x : Ev} (h : pre ++ [x] <+: E) : wt pre + 2 * x.tok.s.length + 4 ≤ wt E := by
  obtain ⟨r, rfl⟩ := h
  rw [wt_append, wt_append]
  simp only [wt]
  omega

/-- of what Text has: its two results' boxes, its builder, whether nothing stands ahead -/
structure Tx (w : World) (B : List UInt8) (f : Bool) (X : Nat → Prop) (W : World) : Prop where
  tb : Tb w.heap.size (w.heap.size + 3) B X W
  fst : Boxed W (w.heap.size + 4) 4 (.bool f)
  r0 : Boxed W (w.heap.size + 1) 9 (.string ⟨#[]⟩)
  r1 : Boxed W (w.heap.size + 2) 4 (.bool false)
  n4 : ¬ X (w.heap.size + 4)
  n1 : ¬ X (w.heap.size + 1)
  n2 : ¬ X (w.heap.size + 2)
  bel : Below w.heap.size w W
  ge : ∀ b, X b → w.heap.size ≤ b
theorem Boxed.stab {W W' : World} {b : Nat} {t : TypeId} {v : Value} {X : Nat → Prop} (h : Boxed W b t v) (hn : ¬ X b) (hs : Sft X W W') : Boxed W' b t v := (hs.block b h.lt hn).trans h
theorem not_stab {W : World} {b : Nat} {t : TypeId} {v : Value} {X X' : Nat → Prop} (h : Boxed W b t v) (hn : ¬ X b) (hX : ∀ g, X' g → X g ∨ W.heap.size ≤ g) : ¬ X' b := fun hx => (hX b hx).elim hn (fun hl => by have := h.lt; omega)
theorem Tx.stab {w : World} {B : List UInt8} {f : Bool} {X X' : Nat → Prop} {W W' : World} (h : Tx w B f X W) (hs : Sft X W W') (hX : ∀ g, X' g → X g ∨ W.heap.size ≤ g) : Tx w B f X' W' :=
  ⟨h.tb.stab hs hX, Boxed.stab h.fst h.n4 hs, Boxed.stab h.r0 h.n1 hs, Boxed.stab h.r1 h.n2 hs, not_stab h.fst h.n4 hX, not_stab h.r0 h.n1 hX, not_stab h.r1 h.n2 hX, h.bel.trans (hs.below h.bel.size h.ge), fun b hb => (hX b hb).elim (h.ge b) (fun _ => by have := h.bel.size; omega)⟩
theorem Tx.new {w : World} {B : List UInt8} {f : Bool} {X : Nat → Prop} {W W' : World} (h : Tx w B f X W) (hX : ∀ g, X g → g < W.heap.size) (hb : Below W.heap.size W W') : Tx w B f X W' ∧ Kps w.heap.size X W W' :=
  have hs : Sft (fun g => W.heap.size ≤ g) W W' := Sft.of_below hb (fun _ h => h)
  have hs0 : Sft X W W' := ⟨hs.os, hs.tape, hs.output, hs.size, fun g hl _ => hb.block g hl⟩
  ⟨h.stab hs0 (fun _ h => .inl h), ⟨hb.mono h.bel.size, fun g hx _ => hb.block g (hX g hx)⟩⟩
/-- a box isn't the builder's row -/
theorem Tb.far {n0 b q : Nat} {bs : List UInt8} {X : Nat → Prop} {W : World} {t : TypeId} {v : Value} (h : Tb n0 b bs X W) (hq : Boxed W q t v) (ht : t ≠ 5) (hb : b ≠ q) (v' : Value) : Tb n0 b bs X (W.setCell ⟨q, 0, none⟩ v') := by
  have hk : ∀ g, g ≠ q → (W.setCell ⟨q, 0, none⟩ v').heap[g]? = W.heap[g]? := fun g hg => Below.heap_setCell W _ _ g hg
  have far : ∀ {p : Value}, TbAt n0 b p bs X W → TbAt n0 b p bs X (W.setCell ⟨q, 0, none⟩ v') := by
    rintro p ⟨A, c, h1, h2, h3, h4, h5, h6⟩
    refine ⟨A, c, (hk _ hb).trans h1, ⟨h2.1, h2.2.imp id ?_⟩, h3, h4, h5, h6⟩
    rintro ⟨g, cap, cur, e1, e2, e3, e4⟩
    refine ⟨g, cap, cur, e1, e2, (hk _ (fun e => ?_)).trans e3, e4⟩
    have := (show W.heap[q]? = _ from hq)
    rw [← e, e3] at this
    injection this with this
    injection this with _ this
    exact ht this.symm
  exact h.imp far far
theorem Tb.wide {n0 b q : Nat} {bs : List UInt8} {X : Nat → Prop} {W : World} {t : TypeId} {v : Value} (h : Tb n0 b bs X W) (hq : Boxed W q t v) (ht : t ≠ 5) (hb : b ≠ q) : Tb n0 b bs (fun g => X g ∨ g = q) W := by
  have far : ∀ {p : Value}, TbAt n0 b p bs X W → TbAt n0 b p bs (fun g => X g ∨ g = q) W := by
    rintro p ⟨A, c, h1, h2, h3, h4, h5, h6⟩
    refine ⟨A, c, h1, h2, h3, h4, fun h => h.elim h5 hb, fun g hg hx => hx.elim (h6 g hg) (fun e => ?_)⟩
    rcases h2.2 with ⟨e1, _⟩ | ⟨g', cap, cur, e1, _, e3, _⟩
    · rw [e1] at hg; simp [Value.ownBlock] at hg
    · rw [e1] at hg
      simp only [Value.ownBlock, Option.some.injEq] at hg
      have := (show W.heap[q]? = _ from hq)
      rw [← e, ← hg, e3] at this
      injection this with this
      injection this with _ this
      exact ht this.symm
  exact h.imp far far
theorem Tb.less {n0 b : Nat} {bs : List UInt8} {X Y : Nat → Prop} {W : World} (h : Tb n0 b bs Y W) (hs : ∀ g, X g → Y g) : Tb n0 b bs X W := by
  have far : ∀ {p : Value}, TbAt n0 b p bs Y W → TbAt n0 b p bs X W := by
    rintro p ⟨A, c, h1, h2, h3, h4, h5, h6⟩
    exact ⟨A, c, h1, h2, h3, h4, fun h => h5 (hs _ h), fun g hg hx => h6 g hg (hs _ hx)⟩
  exact h.imp far far
theorem bool_u8 : (4 : TypeId) ≠ 5 := by decide
theorem str_u8 : (9 : TypeId) ≠ 5 := by decide
theorem Tx.first {w : World} {B : List UInt8} {f : Bool} {X : Nat → Prop} {W : World} (h : Tx w B f X W) (f' : Bool) : Tx w B f' X (W.setCell ⟨w.heap.size + 4, 0, none⟩ (.bool f')) ∧ Kps w.heap.size X W (W.setCell ⟨w.heap.size + 4, 0, none⟩ (.bool f')) := by
  have hk : ∀ g, g ≠ w.heap.size + 4 → (W.setCell ⟨w.heap.size + 4, 0, none⟩ (.bool f')).heap[g]? = W.heap[g]? := fun g hg => Below.heap_setCell W _ _ g hg
  have hs : Sft (fun g => g = w.heap.size + 4) W (W.setCell ⟨w.heap.size + 4, 0, none⟩ (.bool f')) := Sft.setCell (X := fun g => g = w.heap.size + 4) (p := ⟨w.heap.size + 4, 0, none⟩) rfl _
  exact ⟨⟨h.tb.far h.fst bool_u8 (by omega) _, h.fst.set _, (hk _ (by omega)).trans h.r0, (hk _ (by omega)).trans h.r1, h.n4, h.n1, h.n2, h.bel.trans (hs.below h.bel.size (fun g e => by omega)), h.ge⟩, Kps.set (by omega) h.n4 0 _⟩
theorem Tx.res {w : World} {B : List UInt8} {f : Bool} {X : Nat → Prop} {W : World} (h : Tx w B f X W) : Tx w B f X ((W.setCell ⟨w.heap.size + 1, 0, none⟩ (.string ⟨#[]⟩)).setCell ⟨w.heap.size + 2, 0, none⟩ (.bool false)) ∧ Kps w.heap.size X W ((W.setCell ⟨w.heap.size + 1, 0, none⟩ (.string ⟨#[]⟩)).setCell ⟨w.heap.size + 2, 0, none⟩ (.bool false)) := by
  have hk1 : ∀ g, g ≠ w.heap.size + 1 → (W.setCell ⟨w.heap.size + 1, 0, none⟩ (.string ⟨#[]⟩)).heap[g]? = W.heap[g]? := fun g hg => Below.heap_setCell W _ _ g hg
  have hk2 : ∀ g, g ≠ w.heap.size + 2 → ((W.setCell ⟨w.heap.size + 1, 0, none⟩ (.string ⟨#[]⟩)).setCell ⟨w.heap.size + 2, 0, none⟩ (.bool false)).heap[g]? = (W.setCell ⟨w.heap.size + 1, 0, none⟩ (.string ⟨#[]⟩)).heap[g]? := fun g hg => Below.heap_setCell _ _ _ g hg
  have b1 : Boxed (W.setCell ⟨w.heap.size + 1, 0, none⟩ (.string ⟨#[]⟩)) (w.heap.size + 2) 4 (.bool false) := (hk1 _ (by omega)).trans h.r1
  have k := (Kps.set (n0 := w.heap.size) (W := W) (by omega) h.n1 0 (.string ⟨#[]⟩)).trans (Kps.set (by omega) h.n2 0 (.bool false))
  exact ⟨⟨(h.tb.far h.r0 str_u8 (by omega) _).far b1 bool_u8 (by omega) _, (hk2 _ (by omega)).trans ((hk1 _ (by omega)).trans h.fst), (hk2 _ (by omega)).trans (h.r0.set _), b1.set _, h.n4, h.n1, h.n2, h.bel.trans k.bel, h.ge⟩, k⟩
theorem Tx.spread {w : World} {B : List UInt8} {f : Bool} {X : Nat → Prop} {W : World} (h : Tx w B f X W) : Tb w.heap.size (w.heap.size + 3) B (fun g => ((X g ∨ g = w.heap.size + 4) ∨ g = w.heap.size + 1) ∨ g = w.heap.size + 2) W :=
  ((h.tb.wide h.fst bool_u8 (by omega)).wide h.r0 str_u8 (by omega)).wide h.r1 bool_u8 (by omega)
theorem Tx.spread_lt {w : World} {B : List UInt8} {f : Bool} {X : Nat → Prop} {W : World} (h : Tx w B f X W) (hX : ∀ g, X g → g < W.heap.size) : ∀ g, (((X g ∨ g = w.heap.size + 4) ∨ g = w.heap.size + 1) ∨ g = w.heap.size + 2) → g < W.heap.size := by
  rintro g (((hg | rfl) | rfl) | rfl)
  · exact hX g hg
  · exact h.fst.lt
  · exact h.r0.lt
  · exact h.r1.lt
theorem Tx.call {w : World} {B B' : List UInt8} {f : Bool} {X : Nat → Prop} {W W' : World} (h : Tx w B f X W) (ht : Tb w.heap.size (w.heap.size + 3) B' (fun g => ((X g ∨ g = w.heap.size + 4) ∨ g = w.heap.size + 1) ∨ g = w.heap.size + 2) W') (hk : Kps w.heap.size (fun g => ((X g ∨ g = w.heap.size + 4) ∨ g = w.heap.size + 1) ∨ g = w.heap.size + 2) W W') : Tx w B' f X W' ∧ Kps w.heap.size X W W' :=
  ⟨⟨ht.less fun _ h => .inl (.inl (.inl h)), (hk.own _ (.inl (.inl (.inr rfl))) h.fst.lt).trans h.fst, (hk.own _ (.inl (.inr rfl)) h.r0.lt).trans h.r0, (hk.own _ (.inr rfl) h.r1.lt).trans h.r1, h.n4, h.n1, h.n2, h.bel.trans hk.bel, h.ge⟩, hk.mono fun _ h => .inl (.inl (.inl h))⟩
theorem tbyte {w : World} {B : List UInt8} {f : Bool} {X : Nat → Prop} {W : World} (h : Tx w B f X W) (hX : ∀ g, X g → g < W.heap.size) (hl : B.length ≤ 1000000000) :
    Calls Tryd.prog 21 #[.pointer (some ⟨w.heap.size + 3, 0, none⟩), .int .u8 32] W fun e w' => e = .returned .nilIface ∧ Hid (Tx w (B ++ [32]) f X w' ∧ Kps w.heap.size X W w') :=
  (writeByte_x (x := 32) h.spread rfl hl h.bel.size (h.spread_lt hX)).mono fun _ _ r => ⟨r.1, Lib.hid (h.call r.2.1.out r.2.2.out)⟩
theorem tstring {w : World} {B s : List UInt8} {f : Bool} {X : Nat → Prop} {W : World} (h : Tx w B f X W) (hX : ∀ g, X g → g < W.heap.size) (hl : B.length ≤ 1000000000) (hs : s.length ≤ 1000000000) :
    Calls Tryd.prog 22 #[.pointer (some ⟨w.heap.size + 3, 0, none⟩), .string ⟨s.toArray⟩] W fun e w' => (∃ v, e = .returned v) ∧ Hid (Tx w (B ++ s) f X w' ∧ Kps w.heap.size X W w') :=
  (writeString_x h.spread hl hs h.bel.size (h.spread_lt hX)).mono fun _ _ r => ⟨r.1, Lib.hid (h.call r.2.1.out r.2.2.out)⟩

def TextI (w : World) (pre : List Ev) (X : Nat → Prop) (W : World) : Prop := ∃ B f, go pre ([], true) = some (B, f) ∧ Tx w B f X W
theorem TextI.stab (w : World) : Stab (TextI w) := by
  rintro pre X X' W W' ⟨B, f, h1, h2⟩ hs hX
  exact ⟨B, f, h1, h2.stab hs hX⟩
/-- where a part can't be written -/
def TextX (w : World) (E : List Ev) (c : Code) (_ : List Ev) (X : Nat → Prop) (W : World) : Prop := c = .ret ∧ go E ([], true) = none ∧ ∃ B f, Tx w B f X W
theorem TextX.stab (w : World) (E : List Ev) (c : Code) : Stab (TextX w E c) := by
  rintro pre X X' W W' ⟨h0, h1, B, f, h2⟩ hs hX
  exact ⟨h0, h1, B, f, h2.stab hs hX⟩

theorem string_k {B b : Nat} {l : List UInt8} {w : World} (h : Bld B b (Lib.byteCells l) w) (hBw : B ≤ w.heap.size) :
    Calls Tryd.prog 23 #[.pointer (some ⟨b, 0, none⟩)] w fun e w' => e = .returned (.string ⟨l.toArray⟩) ∧ (Lib.IsBuilderF 54 5 B b (Lib.byteCells l) w' ∧ Below B w w' ∧ Lib.OthersKept 5 (some b) w w') := Any.Builder_String_any_k Tryd.lays169 Tryd.Builder_Extra_169 B b l w (Lib.IsBuilderF.of h) hBw
theorem kept_box {b q : Nat} {t : TypeId} {v : Value} {W W' : World} (hk : Lib.OthersKept 5 (some b) W W') (h : Boxed W q t v) (hq : q ≠ b) (ht : t ≠ 5) : Boxed W' q t v :=
  hk _ _ h (by simpa using hq) (fun c m e => by injection e with _ e _; exact ht e)
theorem boxed_put {W : World} {q D : Nat} {t : TypeId} {v : Value} (h : Boxed W q t v) (hq : q ≠ D) (o : Obj) : Boxed (W.putObj D o) q t v := (World.putObj_heap_other hq).trans h
theorem boxed_other {W : World} {q p : Nat} {t : TypeId} {v : Value} (h : Boxed W q t v) (hq : q ≠ p) (v' : Value) : Boxed (W.setCell ⟨p, 0, none⟩ v') q t v := (Below.heap_setCell W _ _ q hq).trans h

theorem tx_start (w : World) (o o' : Obj) : ∀ W0, ((((((w.alloc o).alloc (.cells #[.string ⟨#[]⟩] 9)).alloc (.cells #[.bool false] 4)).alloc (.cells #[.pointer none, .slice none 0 0] 54)).alloc (.cells #[.bool true] 4)).alloc o') = W0 →
    Tx w [] true (fun _ => False) W0 ∧ W0.heap[w.heap.size + 5]? = some o' ∧ W0.heap.size = w.heap.size + 6 := by
  rintro W0 rfl
  have step : ∀ (V : World) (g : Nat) (p q : Obj), V.heap[g]? = some p → (V.alloc q).heap[g]? = some p := fun V g p q h => (Below.heap_alloc V q g (Array.getElem?_eq_some_iff.1 h).1).trans h
  have new : ∀ (V : World) (g : Nat) (q : Obj), V.heap.size = g → (V.alloc q).heap[g]? = some q := fun V g q h => by rw [← h]; exact World.alloc_heap_new V q
  refine ⟨⟨.inl ⟨none, 0, ?_, World.ownsRow_nil _ _ _ _, by simp [Value.ownBlock], by omega, id, fun _ _ => id⟩, ?_, ?_, ?_, id, id, id, ?_, fun _ h => h.elim⟩, ?_, by simp⟩
  · exact step _ _ _ _ (step _ _ _ _ (new _ _ _ (by simp)))
  · exact step _ _ _ _ (new _ _ _ (by simp))
  · exact step _ _ _ _ (step _ _ _ _ (step _ _ _ _ (step _ _ _ _ (new _ _ _ (by simp)))))
  · exact step _ _ _ _ (step _ _ _ _ (step _ _ _ _ (new _ _ _ (by simp))))
  · exact ((((((Below.refl _ w).alloc (Nat.le_refl _) _).alloc (by simp) _).alloc (by simp; omega) _).alloc (by simp; omega) _).alloc (by simp; omega) _).alloc (by simp; omega) _
  · exact new _ _ _ (by simp)

set_option maxRecDepth 100000 in
set_option maxHeartbeats 4000000 in
theorem text_any {lb : Bool} {u : Tok} {ks : List Tree} {A : Option Addr} {c : Nat} {w : World} (hv : Vt w (fun b => b < w.heap.size) (.mk lb u ks) [.bool lb, .int .i64 u.k, .string ⟨u.s.toArray⟩, .int .i64 u.p, .slice A ks.length c]) (hsz : size (.mk lb u ks) ≤ 100000000)
    (hwt : wt (evs (.mk lb u ks)) ≤ 40000000) (hsh : w.ShapedOpen Tryd.prog) :
    Calls Tryd.prog 11 #[.agg #[.bool lb, .int .i64 u.k, .string ⟨u.s.toArray⟩, .int .i64 u.p, .slice A ks.length c]] w fun e w' => Hid (WordIs (text (.mk lb u ks)) e) ∧ Hid (Below w.heap.size w w') := by
  have HV := Lib.hid hv
  have HS := Lib.hid hsz
  have HWT := Lib.hid hwt
  have HSH := Lib.hid hsh
  clear hv hsz hwt hsh
  refine (callsIn_wide (n := 4)).1 ?_
  refine callsIn_of_wp_marks Tryd.func11 rfl trivial ?_ rfl
  simp only [Tryd.ntmps11, List.size_toArray, List.length_cons, List.length_nil, Nat.reduceAdd, Nat.reduceSub, Array.replicate_succ, Array.replicate_zero, List.push_toArray, List.append_toArray, List.nil_append, List.cons_append]
  gi_wp2_with (refine ⟨trivial, ?_⟩; gi_at_call 19; refine (parts_in trivial rfl).mono ?_; rintro e w' ⟨rfl, rfl⟩)
  generalize hW : World.alloc _ _ = W0
  have HX : Hid (Tx w [] true (fun _ => False) W0 ∧ Bk W0 (w.heap.size + 5) 37 #[.bool lb, .int .i64 u.k, .string ⟨u.s.toArray⟩, .int .i64 u.p, .slice A ks.length c] ∧ W0.heap.size = w.heap.size + 6) := Lib.hid (by
    rw [← hW]
    exact tx_start w _ _ _ rfl)
  clear hW
  refine rangeFunc_own rfl (by omega) (gf := 30) (lb := #[.pointer (some ⟨w.heap.size + 5, 0, none⟩)]) rfl trivial (enters_of Tryd.func30 (by kernel_rfl) rfl)
    (parts_seq trivial rfl (by omega) HX.out.2.1 (HV.out.stays HX.out.1.bel.size (fun g hg hl => ⟨hg, HX.out.1.bel.block g hl⟩)) HX.out.1.bel.size HS.out) HX.out.1.bel.size (fun _ => rfl)
    (TextI w) (TextX w (evs (.mk lb u ks))) (TextI.stab w) (TextX.stab w _) ⟨[], true, rfl, HX.out.1⟩ ?round ?done ?stop
  case round =>
    rintro l pre x X W hI hX hpre
    obtain ⟨B, f, hgo, hT⟩ := hI
    have HGO := Lib.hid hgo
    have HXL := Lib.hid hX
    have HPRE := Lib.hid hpre
    have HT := Lib.hid hT
    clear hgo hX hpre hT
    dsimp only [Ev.enc, tokV]
    gi_wp2
    refine ⟨Kps.alloc HT.out.bel.size _, fun W2 hs hz => ?_⟩
    have HN := HT.out.new HXL.out ((Below.refl W.heap.size W).alloc (Nat.le_refl _) (.cells #[.int .i64 x.tok.k, .string ⟨x.tok.s.toArray⟩, .int .i64 x.tok.p] 35))
    have HT2 := Lib.hid (HN.1.stab hs (fun _ h => .inl h))
    have HBX : Hid (Bk W2 W.heap.size 35 #[.int .i64 x.tok.k, .string ⟨x.tok.s.toArray⟩, .int .i64 x.tok.p]) := Lib.hid ((hs.block _ (by simp) (fun h => by have := HXL.out _ h; omega)).trans (Bk.new W _ _))
    have HXL2 : Hid (∀ g, X g → g < W2.heap.size) := Lib.hid (fun g hg => by have := HXL.out g hg; rw [hz]; simp; omega)
    have HP := Lib.hid (wordOf_any (w := W2) x (by have := wt_fits HPRE.out; have := HWT.out; omega) (shaped_below HSH.out HT2.out.bel))
    have HWL := Lib.hid (wt_fits HPRE.out)
    clear hs hz HN HT HXL
    cases hw : wordE x with
    | none =>
      have HW := Lib.hid hw
      have HNO := Lib.hid (go_pre HPRE.out HGO.out hw)
      clear hw
      cases x with
      | op t => exact absurd HW.out (by simp [wordE])
      | cl => exact absurd HW.out (by simp [wordE])
      | st t =>
        dsimp only [Ev.kind, Ev.tok, Ev.enc, tokV] at HP HBX ⊢
        have q0 := HBX.out.cell 0
        have q1 := HBX.out.cell 1
        have q2 := HBX.out.cell 2
        gi_wp2_with (refine ⟨trivial, ?_⟩; gi_at_call 20; refine (CallsIn.inRound l (callsIn_wide.2 (HP.out))).mono ?_; rintro e w3 ⟨h, hb⟩; rw [HW.out] at h; have h := h.out; simp only [WordIs] at h; subst h; have H3 := Lib.hid (HT2.out.new HXL2.out hb.out); have HX3 : Hid (∀ g, X g → g < w3.heap.size) := Lib.hid (fun g hg => Nat.lt_of_lt_of_le (HXL2.out g hg) hb.out.size); have c0 := H3.out.1.r0.cell; have f0 := H3.out.1.r0.frozen; have c1 := H3.out.1.r1.cell; have f1 := H3.out.1.r1.frozen; clear hb)
        exact ⟨H3.out.2.trans H3.out.1.res.2, rfl, HNO.out, B, f, H3.out.1.res.1⟩
    | some Wd =>
      have HW := Lib.hid hw
      have HGS := Lib.hid (go_snoc HGO.out hw)
      have HLW := Lib.hid (wordE_len hw)
      have HLB := Lib.hid (go_len _ HGO.out)
      have hlB : B.length ≤ 100000000 := by have h1 := HLB.out; have h2 := HWL.out; have h3 := HWT.out; simp at h1; omega
      have hlW : Wd.length ≤ 100000000 := by have h1 := HLW.out; have h2 := HWL.out; have h3 := HWT.out; omega
      clear hw
      cases x with
      | op t =>
        dsimp only [Ev.kind, Ev.tok, Ev.enc, tokV, zeroT] at HP HBX ⊢
        have q0 := HBX.out.cell 0
        have q1 := HBX.out.cell 1
        have q2 := HBX.out.cell 2
        cases f with
        | true =>
          gi_wp2_with (first | (refine ⟨trivial, ?_⟩; gi_at_call 20; refine (CallsIn.inRound l (callsIn_wide.2 (HP.out))).mono ?_; rintro e w3 ⟨h, hb⟩; rw [HW.out] at h; have h := h.out; simp only [WordIs] at h; subst h; have H3 := Lib.hid (HT2.out.new HXL2.out hb.out); have HX3 : Hid (∀ g, X g → g < w3.heap.size) := Lib.hid (fun g hg => Nat.lt_of_lt_of_le (HXL2.out g hg) hb.out.size); have c0 := H3.out.1.fst.cell; have f0 := H3.out.1.fst.frozen; clear hb) | (refine ⟨trivial, ?_⟩; gi_at_call 22; refine (CallsIn.inRound l (callsIn_wide.2 (tstring H3.out.1 HX3.out (by omega) (by omega)))).mono ?_; rintro e w5 ⟨⟨v5, rfl⟩, H5⟩; have c5 := H5.out.1.fst.cell; have f5 := H5.out.1.fst.frozen))
          exact ⟨(H3.out.2.trans H5.out.2).trans (H5.out.1.first true).2, _, _, by have := HGS.out; simpa [lead, isOp, Ev.kind] using this, (H5.out.1.first true).1⟩
        | false =>
          gi_wp2_with (first | (refine ⟨trivial, ?_⟩; gi_at_call 20; refine (CallsIn.inRound l (callsIn_wide.2 (HP.out))).mono ?_; rintro e w3 ⟨h, hb⟩; rw [HW.out] at h; have h := h.out; simp only [WordIs] at h; subst h; have H3 := Lib.hid (HT2.out.new HXL2.out hb.out); have HX3 : Hid (∀ g, X g → g < w3.heap.size) := Lib.hid (fun g hg => Nat.lt_of_lt_of_le (HXL2.out g hg) hb.out.size); have c0 := H3.out.1.fst.cell; have f0 := H3.out.1.fst.frozen; clear hb) | (refine ⟨trivial, ?_⟩; gi_at_call 21; refine (CallsIn.inRound l (callsIn_wide.2 (tbyte H3.out.1 HX3.out (by omega)))).mono ?_; rintro e w4 ⟨rfl, H4⟩; have HX4 : Hid (∀ g, X g → g < w4.heap.size) := Lib.hid (fun g hg => Nat.lt_of_lt_of_le (HX3.out g hg) H4.out.2.bel.size)) | (refine ⟨trivial, ?_⟩; gi_at_call 22; refine (CallsIn.inRound l (callsIn_wide.2 (tstring H4.out.1 HX4.out (by simp; omega) (by omega)))).mono ?_; rintro e w5 ⟨⟨v5, rfl⟩, H5⟩; have c5 := H5.out.1.fst.cell; have f5 := H5.out.1.fst.frozen))
          exact ⟨((H3.out.2.trans H4.out.2).trans H5.out.2).trans (H5.out.1.first true).2, _, _, by have := HGS.out; simpa [lead, isOp, Ev.kind] using this, (H5.out.1.first true).1⟩
      | cl =>
        dsimp only [Ev.kind, Ev.tok, Ev.enc, tokV, zeroT] at HP HBX ⊢
        have q0 := HBX.out.cell 0
        have q1 := HBX.out.cell 1
        have q2 := HBX.out.cell 2
        cases f with
        | true =>
          gi_wp2_with (first | (refine ⟨trivial, ?_⟩; gi_at_call 20; refine (CallsIn.inRound l (callsIn_wide.2 (HP.out))).mono ?_; rintro e w3 ⟨h, hb⟩; rw [HW.out] at h; have h := h.out; simp only [WordIs] at h; subst h; have H3 := Lib.hid (HT2.out.new HXL2.out hb.out); have HX3 : Hid (∀ g, X g → g < w3.heap.size) := Lib.hid (fun g hg => Nat.lt_of_lt_of_le (HXL2.out g hg) hb.out.size); have c0 := H3.out.1.fst.cell; have f0 := H3.out.1.fst.frozen; clear hb) | (refine ⟨trivial, ?_⟩; gi_at_call 22; refine (CallsIn.inRound l (callsIn_wide.2 (tstring H3.out.1 HX3.out (by omega) (by omega)))).mono ?_; rintro e w5 ⟨⟨v5, rfl⟩, H5⟩; have c5 := H5.out.1.fst.cell; have f5 := H5.out.1.fst.frozen))
          exact ⟨(H3.out.2.trans H5.out.2).trans (H5.out.1.first false).2, _, _, by have := HGS.out; simpa [lead, isOp, Ev.kind] using this, (H5.out.1.first false).1⟩
        | false =>
          gi_wp2_with (first | (refine ⟨trivial, ?_⟩; gi_at_call 20; refine (CallsIn.inRound l (callsIn_wide.2 (HP.out))).mono ?_; rintro e w3 ⟨h, hb⟩; rw [HW.out] at h; have h := h.out; simp only [WordIs] at h; subst h; have H3 := Lib.hid (HT2.out.new HXL2.out hb.out); have HX3 : Hid (∀ g, X g → g < w3.heap.size) := Lib.hid (fun g hg => Nat.lt_of_lt_of_le (HXL2.out g hg) hb.out.size); have c0 := H3.out.1.fst.cell; have f0 := H3.out.1.fst.frozen; clear hb) | (refine ⟨trivial, ?_⟩; gi_at_call 22; refine (CallsIn.inRound l (callsIn_wide.2 (tstring H3.out.1 HX3.out (by omega) (by omega)))).mono ?_; rintro e w5 ⟨⟨v5, rfl⟩, H5⟩; have c5 := H5.out.1.fst.cell; have f5 := H5.out.1.fst.frozen))
          exact ⟨(H3.out.2.trans H5.out.2).trans (H5.out.1.first false).2, _, _, by have := HGS.out; simpa [lead, isOp, Ev.kind] using this, (H5.out.1.first false).1⟩
      | st t =>
        dsimp only [Ev.kind, Ev.tok, Ev.enc, tokV, zeroT] at HP HBX ⊢
        have q0 := HBX.out.cell 0
        have q1 := HBX.out.cell 1
        have q2 := HBX.out.cell 2
        cases f with
        | true =>
          gi_wp2_with (first | (refine ⟨trivial, ?_⟩; gi_at_call 20; refine (CallsIn.inRound l (callsIn_wide.2 (HP.out))).mono ?_; rintro e w3 ⟨h, hb⟩; rw [HW.out] at h; have h := h.out; simp only [WordIs] at h; subst h; have H3 := Lib.hid (HT2.out.new HXL2.out hb.out); have HX3 : Hid (∀ g, X g → g < w3.heap.size) := Lib.hid (fun g hg => Nat.lt_of_lt_of_le (HXL2.out g hg) hb.out.size); have c0 := H3.out.1.fst.cell; have f0 := H3.out.1.fst.frozen; clear hb) | (refine ⟨trivial, ?_⟩; gi_at_call 22; refine (CallsIn.inRound l (callsIn_wide.2 (tstring H3.out.1 HX3.out (by omega) (by omega)))).mono ?_; rintro e w5 ⟨⟨v5, rfl⟩, H5⟩; have c5 := H5.out.1.fst.cell; have f5 := H5.out.1.fst.frozen))
          exact ⟨(H3.out.2.trans H5.out.2).trans (H5.out.1.first false).2, _, _, by have := HGS.out; simpa [lead, isOp, Ev.kind] using this, (H5.out.1.first false).1⟩
        | false =>
          gi_wp2_with (first | (refine ⟨trivial, ?_⟩; gi_at_call 20; refine (CallsIn.inRound l (callsIn_wide.2 (HP.out))).mono ?_; rintro e w3 ⟨h, hb⟩; rw [HW.out] at h; have h := h.out; simp only [WordIs] at h; subst h; have H3 := Lib.hid (HT2.out.new HXL2.out hb.out); have HX3 : Hid (∀ g, X g → g < w3.heap.size) := Lib.hid (fun g hg => Nat.lt_of_lt_of_le (HXL2.out g hg) hb.out.size); have c0 := H3.out.1.fst.cell; have f0 := H3.out.1.fst.frozen; clear hb) | (refine ⟨trivial, ?_⟩; gi_at_call 21; refine (CallsIn.inRound l (callsIn_wide.2 (tbyte H3.out.1 HX3.out (by omega)))).mono ?_; rintro e w4 ⟨rfl, H4⟩; have HX4 : Hid (∀ g, X g → g < w4.heap.size) := Lib.hid (fun g hg => Nat.lt_of_lt_of_le (HX3.out g hg) H4.out.2.bel.size)) | (refine ⟨trivial, ?_⟩; gi_at_call 22; refine (CallsIn.inRound l (callsIn_wide.2 (tstring H4.out.1 HX4.out (by simp; omega) (by omega)))).mono ?_; rintro e w5 ⟨⟨v5, rfl⟩, H5⟩; have c5 := H5.out.1.fst.cell; have f5 := H5.out.1.fst.frozen))
          exact ⟨((H3.out.2.trans H4.out.2).trans H5.out.2).trans (H5.out.1.first false).2, _, _, by have := HGS.out; simpa [lead, isOp, Ev.kind] using this, (H5.out.1.first false).1⟩
  case done =>
    rintro D X W hD hXD ⟨B, f, hgo, hT⟩ hK
    have HTX : Hid (text (.mk lb u ks) = some B) := Lib.hid (by
      have := go_whole (.mk lb u ks)
      rw [hgo] at this
      cases ht : text (.mk lb u ks) with
      | none => rw [ht] at this; cases this
      | some s => rw [ht] at this; simp at this; rw [this.1])
    have HT := Lib.hid hT
    have HK := Lib.hid hK
    have HD := Lib.hid hD
    have HZ := HX.out.2.2
    clear hgo hT hK hD
    gi_wp2_with (refine ⟨trivial, ?_⟩; gi_at_call 23; refine (callsIn_wide.2 (string_k HT.out.tb.bld HT.out.bel.size)).mono ?_; rintro e w5 ⟨rfl, _, hb5, ho5⟩; have B1 := Lib.hid (kept_box ho5 HT.out.r0 (by omega) str_u8); have B2 := Lib.hid (kept_box ho5 HT.out.r1 (by omega) bool_u8); have HK5 : Hid (w5.heap[D]? = some (.deferred (some []))) := Lib.hid (ho5 _ _ HK.out (by have := HD.out; simp; omega) (fun _ _ e => by cases e)); have HB5 := Lib.hid (HT.out.bel.trans hb5); have c1 := B1.out.cell; have f1 := B1.out.frozen; have c2 := B2.out.cell; have f2 := B2.out.frozen; clear ho5 hb5)
    have hD := HD.out
    have b1 := Lib.hid (boxed_other (B1.out.set (.string ⟨B.toArray⟩)) (p := w.heap.size + 2) (by omega) (.bool true))
    have b2 := Lib.hid ((boxed_other B2.out (p := w.heap.size + 1) (by omega) (.string ⟨B.toArray⟩)).set (.bool true))
    have k6 := Lib.hid ((Below.heap_setCell (w5.setCell ⟨w.heap.size + 1, 0, none⟩ (.string ⟨B.toArray⟩)) ⟨w.heap.size + 2, 0, none⟩ (.bool true) D (by show D ≠ w.heap.size + 2; omega)).trans ((Below.heap_setCell w5 ⟨w.heap.size + 1, 0, none⟩ (.string ⟨B.toArray⟩) D (by show D ≠ w.heap.size + 1; omega)).trans HK5.out))
    have HB6 := Lib.hid ((HB5.out.setCell (p := ⟨w.heap.size + 1, 0, none⟩) (by simp) (.string ⟨B.toArray⟩)).setCell (p := ⟨w.heap.size + 2, 0, none⟩) (by simp) (.bool true))
    refine ⟨by simp, .inl ⟨_, _, rfl, run_takeDeferred k6.out, ?_⟩⟩
    have e1 := (boxed_put b1.out (D := D) (by omega) (.deferred none)).cell
    have e2 := (boxed_put b2.out (D := D) (by omega) (.deferred none)).cell
    refine ⟨.tuple #[.string ⟨B.toArray⟩, .bool true], by simp [results, Tryd.results11, go_sem, e1, e2], Lib.hid (by rw [HTX.out]; rfl), Lib.hid (HB6.out.trans ((Sft.putObj (X := fun g => g = D) rfl _).below HB6.out.size (fun g e => by omega)))⟩
  case stop =>
    rintro D c pre X W hD hXD _ ⟨rfl, hgo, B, f, hT⟩ hK
    have HTX : Hid (text (.mk lb u ks) = none) := Lib.hid (by
      have := go_whole (.mk lb u ks)
      rw [hgo] at this
      cases ht : text (.mk lb u ks) with
      | none => rfl
      | some s => rw [ht] at this; cases this)
    have HZ := HX.out.2.2
    gi_wp2
    refine ⟨by simp, .inl ⟨_, _, rfl, run_takeDeferred hK, ?_⟩⟩
    have e1 := (boxed_put hT.r0 (D := D) (by omega) (.deferred none)).cell
    have e2 := (boxed_put hT.r1 (D := D) (by omega) (.deferred none)).cell
    refine ⟨.tuple #[.string ⟨#[]⟩, .bool false], by simp [results, Tryd.results11, go_sem, e1, e2], Lib.hid (by rw [HTX.out]; rfl), Lib.hid (hT.bel.trans ((Sft.putObj (X := fun g => g = D) rfl _).below hT.bel.size (fun g e => by omega)))⟩
end Go.Proofs.YtmnllioeaaimcaaDoor.tr
