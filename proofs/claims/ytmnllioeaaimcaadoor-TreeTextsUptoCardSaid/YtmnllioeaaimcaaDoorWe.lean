/- strings.Builder beside an iterator: what is written turns none of the iterator's blocks. -/
import Derived.Deep.AppendLies
import Derived.Test.YtmnllioeaaimcaaDoorWa
import Derived.Test.YtmnllioeaaimcaaDoorPu
namespace Go.Proofs.YtmnllioeaaimcaaDoor.tr
open Go Go.RowKit Go.Proofs.YtmnllioeaaimcaaDoor.tk

section
variable {P : Program} (w : World)
/-- a string is appended: where the new slice lies -/
theorem run_append_string_at (base : Nat) (t u ty e : TypeId) (i : TypeInfo) (ht : P.underlying t = some (.slice e)) (hu : P.underlying u = some .string) (hi : P.info? e = some i) (hz : i.zero = some (.int .u8 0))
    (hsize : i.size = 1) (hby : i.bytes = 1) (v : Value) (n : Nat) (xs : List Value) (hown : w.ownsRow base e 1 v n xs) (s : ByteArray)
    (h63 : n + s.size ≤ maxLen) (hbytes : n + s.size ≤ 140737488355328) (hbase : base ≤ w.heap.size) :
    ∃ v' w', (Builtin.append_ #[t, u] ty #[v, .string s]).run P w = .ok v' w' ∧ w'.ownsRow base e 1 v' (n + s.size) (xs ++ Lib.strCells s) ∧ w.grownBy w' v.ownBlock ∧ (v'.ownBlock = v.ownBlock ∨ v'.ownBlock = some w.heap.size) := by
  obtain ⟨v', w', hr, h2, h3, h4⟩ := Lib.run_append_own_string (P := P) w base t u ty e i ht hu hi hz hsize hby v n xs hown s h63 hbytes hbase
  refine ⟨v', w', hr, h2, h3, ?_⟩
  have hsmall : n + s.size ≤ 9223372036854775807 := by simp only [maxLen] at h63; omega
  rcases hown.2 with ⟨rfl, rfl⟩ | ⟨g, cap, cur, rfl, _, hg, _, _, hcs, _⟩
  · by_cases hm : s.size = 0
    · left; rw [h4.2 ⟨rfl, hm⟩]
    · have hr2 := run_append_nil_string (P := P) w t u ty e i (.int .u8 0) ht hu hi hz s (by omega) (by omega) (by rw [hby]; omega)
      rw [hr] at hr2
      injection hr2 with e1 _
      right; rw [e1]; rfl
  · by_cases hroom : n + s.size ≤ cap
    · have hcs' : cur.size = cap := by simpa using hcs
      have hr2 := Lib.run_append_room_string (P := P) w t u ty e i ht hu hi hsize g n cap cur hg s hroom (by omega)
      rw [hr] at hr2
      injection hr2 with e1 _
      left; rw [e1]; rfl
    · have holds : ∀ j u, xs[j]? = some u → w.cell? ((⟨g, 0, none⟩ : Addr).add j) = some u := hown.cells (g := g) rfl
      have hxl : xs.length = n := by simpa using hown.1
      have hr2 := Lib.run_append_grow_string (P := P) w t u ty e i (.int .u8 0) ht hu hi hz ⟨g, 0, none⟩ n cap xs (by rw [hsize]; simpa using hxl) holds s (by omega) (by omega) (by rw [hby]; exact growslice_fits (by omega) (by omega))
      rw [hr] at hr2
      injection hr2 with e1 _
      right; rw [e1]; rfl
theorem wpList_append_string_at {ops : Array Oper} {rest : List Oper} {o : Oper} {a : Act} {Q : Exit → Act → World → Prop} (hgd : o.guard = none) (sl x : Operand) (t u : TypeId)
    (ho : o.op = .call { callee := .builtin .append, args := #[sl, x], argTypes := #[t, u] })
    (base : Nat) (e : TypeId) (i : TypeInfo) (ht : P.underlying t = some (.slice e)) (hu : P.underlying u = some .string) (hi : P.info? e = some i) (hz : i.zero = some (.int .u8 0))
    (hsize : i.size = 1) (hby : i.bytes = 1) (v : Value) (n : Nat) (xs : List Value) (hs : a.eval sl = v) (hown : w.ownsRow base e 1 v n xs) (s : ByteArray) (hx : a.eval x = .string s)
    (h63 : n + s.size ≤ maxLen) (hbytes : n + s.size ≤ 140737488355328) (hbase : base ≤ w.heap.size)
    (h : ∀ v' w', w'.ownsRow base e 1 v' (n + s.size) (xs ++ Lib.strCells s) → w.grownBy w' v.ownBlock → (v'.ownBlock = v.ownBlock ∨ v'.ownBlock = some w.heap.size) → wpList P ops Q rest (a.put o.dst v') w') : wpList P ops Q (o :: rest) a w := by
  refine wpList_plain hgd fun K hK => ?_
  obtain ⟨v', w', hr, h2, h3, h4⟩ := run_append_string_at (P := P) w base t u o.type e i ht hu hi hz hsize hby v n xs hown s h63 hbytes hbase
  unfold Oper.wp execOp
  simp only [ho, resolve, invoke, builtin, Sem.run_bind, Sem.run_pure, Result.andThen_ok, List.map_toArray, List.map_cons, List.map_nil, hs, hx, hr]
  exact hK _ _ (h v' w' h2 h3 h4)
end

/-- the builder b holds bs; none of its blocks is the iterator's -/
def TbAt (n0 b : Nat) (p : Value) (bs : List UInt8) (X : Nat → Prop) (W : World) : Prop :=
  ∃ A c, W.heap[b]? = some (.cells #[p, .slice A bs.length c] 54 (0, 0)) ∧ W.ownsRow n0 5 1 (.slice A bs.length c) bs.length (Lib.byteCells bs) ∧ (Value.slice A bs.length c).ownBlock ≠ some b ∧ n0 ≤ b ∧ ¬ X b ∧ ∀ g, (Value.slice A bs.length c).ownBlock = some g → ¬ X g
def Tb (n0 b : Nat) (bs : List UInt8) (X : Nat → Prop) (W : World) : Prop := TbAt n0 b (.pointer none) bs X W ∨ TbAt n0 b (.pointer (some ⟨b, 0, none⟩)) bs X W
section
variable {n0 b : Nat} {p : Value} {bs : List UInt8} {X : Nat → Prop} {W W' : World}
theorem TbAt.bld (h : TbAt n0 b p bs X W) : BldAt n0 b p (Lib.byteCells bs) W := by
  obtain ⟨A, c, h1, h2, h3, h4, _, _⟩ := h
  exact ⟨h4, _, h1, by rw [byteCells_len]; exact h2, h3⟩
theorem Tb.bld (h : Tb n0 b bs X W) : Bld n0 b (Lib.byteCells bs) W := h.imp TbAt.bld TbAt.bld
theorem TbAt.stab (h : TbAt n0 b p bs X W) (hs : Sft X W W') {X' : Nat → Prop} (hX : ∀ g, X' g → X g ∨ W.heap.size ≤ g) : TbAt n0 b p bs X' W' := by
  obtain ⟨A, c, h1, h2, h3, h4, h5, h6⟩ := h
  have hl := (Array.getElem?_eq_some_iff.1 h1).1
  refine ⟨A, c, (hs.block b hl h5).trans h1, ⟨h2.1, h2.2.imp id ?_⟩, h3, h4, fun h => (hX b h).elim h5 (fun _ => by omega), fun g hg h => ?_⟩
  · rintro ⟨g, cap, cur, e1, e2, e3, e4⟩
    exact ⟨g, cap, cur, e1, e2, (hs.block g (Array.getElem?_eq_some_iff.1 e3).1 (h6 g (by rw [e1]; rfl))).trans e3, e4⟩
  · have := (h2.lt g hg).2
    exact (hX g h).elim (h6 g hg) (fun _ => by omega)
theorem Tb.stab (h : Tb n0 b bs X W) (hs : Sft X W W') {X' : Nat → Prop} (hX : ∀ g, X' g → X g ∨ W.heap.size ≤ g) : Tb n0 b bs X' W' := h.imp (fun h => h.stab hs hX) (fun h => h.stab hs hX)
theorem Tb.lt (h : Tb n0 b bs X W) : b < W.heap.size := by
  rcases h with ⟨A, c, h1, _⟩ | ⟨A, c, h1, _⟩ <;> exact (Array.getElem?_eq_some_iff.1 h1).1
theorem Kps.set (hb : n0 ≤ b) (hX : ¬ X b) (j : Nat) (v : Value) : Kps n0 X W (W.setCell ⟨b, j, none⟩ v) := ⟨(Below.refl _ W).setCell (p := ⟨b, j, none⟩) hb v, fun g hg _ => Below.heap_setCell W _ _ g (fun e => hX (by rw [← show g = b from e]; exact hg))⟩
theorem Kps.grown {row : Option Nat} (hg : W.grownBy W' row) (hn : n0 ≤ W.heap.size) (hr : ∀ g, row = some g → n0 ≤ g ∧ ¬ X g) : Kps n0 X W W' :=
  ⟨(Below.refl _ W).grown hg hn (fun k e => (hr k e).1), fun g hx hl => hg.block g hl (fun e => (hr g e.symm).2 hx)⟩
theorem Kps.alloc (hn : n0 ≤ W.heap.size) (o : Obj) : Kps n0 X W (W.alloc o) := ⟨(Below.refl _ W).alloc hn o, fun g _ hl => Below.heap_alloc W o g hl⟩
theorem Kps.sft (h : Kps n0 X W W') : Below n0 W W' := h.bel
end

set_option maxRecDepth 100000 in
set_option maxHeartbeats 1000000 in
theorem copyCheck_x (n0 b : Nat) (bs : List UInt8) (X : Nat → Prop) (w : World) (h : Tb n0 b bs X w) :
    Calls Tryd.prog 32 #[.pointer (some ⟨b, 0, none⟩)] w fun e w' => e = .returned (.tuple #[]) ∧ Hid (TbAt n0 b (.pointer (some ⟨b, 0, none⟩)) bs X w') ∧ Hid (Kps n0 X w w') := by
  obtain ⟨j, hj, hjs⟩ := Option.map_eq_some_iff.1 builder_size
  rcases h with h | h
  · have hB := h.bld
    have c0 := hB.cell0
    have f0 := hB.frozen0
    have hto : (convert 52 86 (.pointer (some ⟨b, 0, none⟩))).run Tryd.prog w = .ok (.pointer (some ⟨b, 0, none⟩)) w :=
      Lib.run_to_unsafe w ⟨b, 0, none⟩ Tryd.underlying52 Tryd.underlying86 hj (by rw [hjs]; decide) hB.shape (by show 0 < 2; omega)
    have hno := no_escape (.pointer (some ⟨b, 0, none⟩)) w
    have hfrom : (convert 86 52 (.pointer (some ⟨b, 0, none⟩))).run Tryd.prog w = .ok (.pointer (some ⟨b, 0, none⟩)) w :=
      Lib.run_from_unsafe w ⟨b, 0, none⟩ Tryd.underlying86 Tryd.underlying52 hj hB.shape builder_lies
    have HB := Lib.hid h
    clear h hj hjs hB
    go_enter Tryd.func32, Tryd.ntmps32
    go_wp2
    go_end0
    obtain ⟨A, c, h1, h2, h3, h4, h5, h6⟩ := HB.out
    exact ⟨rfl, Lib.hid ⟨A, c, heap_setCell_same w b 0 _ _ _ h1, h2.kept (grownBy_setCell' w b _) (.inr h3), h3, h4, h5, h6⟩, Lib.hid (Kps.set h4 h5 0 _)⟩
  · have hB := h.bld
    have c0 := hB.cell0
    have hne : (binOp .neq 52 (.pointer (some ⟨b, 0, none⟩)) (.pointer (some ⟨b, 0, none⟩))).run Tryd.prog w = .ok (.bool false) w := Lib.run_neq_ptr_same w ⟨b, 0, none⟩ Tryd.underlying52 hj
    have HB := Lib.hid h
    clear h hj hjs hB
    go_enter Tryd.func32, Tryd.ntmps32
    go_wp2
    go_end0
    exact ⟨rfl, HB, Lib.hid (Kps.refl _ _ _)⟩

/-- what is put into the builder's second cell -/
theorem TbAt.put {n0 b : Nat} {bs' : List UInt8} {X : Nat → Prop} {W : World} {v A' : Value} {p : Value} (hb : W.heap[b]? = some (.cells #[p, v] 54 (0, 0))) (hB : n0 ≤ b) (hX : ¬ X b)
    (hown : W.ownsRow n0 5 1 A' bs'.length (Lib.byteCells bs')) (hne : A'.ownBlock ≠ some b) (hXv : ∀ g, A'.ownBlock = some g → ¬ X g) : TbAt n0 b p bs' X (W.setCell ⟨b, 1, none⟩ A') := by
  have : ∃ A c, A' = .slice A bs'.length c := by
    rcases hown.2 with ⟨e, h0⟩ | ⟨g, cap, _, e, _⟩
    · exact ⟨none, 0, by rw [e, h0]⟩
    · exact ⟨_, _, e⟩
  obtain ⟨A, c, rfl⟩ := this
  exact ⟨A, c, heap_setCell_same W b 1 _ _ _ hb, hown.kept (row := some b) (by have h := grownBy_setCell' W b; exact ⟨rfl, rfl, rfl, (KeepsWalks.setCell W _ _).size, fun k _ hk => Below.heap_setCell _ _ _ k (fun e => hk (by rw [e]))⟩) (.inr hne), hne, hB, hX, hXv⟩

set_option maxRecDepth 100000 in
set_option maxHeartbeats 1000000 in
theorem writeByte_x {n0 b : Nat} {bs : List UInt8} {x : UInt8} {xv : Int} {X : Nat → Prop} {w : World} (h : Tb n0 b bs X w) (hxv : xv = (x.toNat : Int)) (hlen : bs.length ≤ 1000000000) (hn : n0 ≤ w.heap.size) (hX : ∀ g, X g → g < w.heap.size) :
    Calls Tryd.prog 21 #[.pointer (some ⟨b, 0, none⟩), .int .u8 xv] w fun e w' => e = .returned .nilIface ∧ Hid (Tb n0 b (bs ++ [x]) X w') ∧ Hid (Kps n0 X w w') := by
  obtain ⟨i0, hi, hz0, hz1, hz2⟩ := info_parts info_u8
  have H := Lib.hid h
  have HXV := Lib.hid hxv
  have HN := Lib.hid hn
  have HX := Lib.hid hX
  clear h hxv hn hX
  go_enter Tryd.func21, Tryd.ntmps21
  go_wp2_with fail
  refine (copyCheck_x n0 b bs X w H.out).mono ?_
  rintro e w1 ⟨rfl, h1, hb1⟩
  obtain ⟨A, c, hbk, hown, hne, hB, hXb, hXo⟩ := h1.out
  have c1 : w1.cell? ⟨b, 1, none⟩ = some (.slice A bs.length c) := by rw [Lib.cell_of_heap hbk]; rfl
  have hlt := (Array.getElem?_eq_some_iff.1 hbk).1
  have HBK := Lib.hid hbk
  have HOWN := Lib.hid hown
  have HNE := Lib.hid hne
  have HXB := Lib.hid hXb
  have HXO := Lib.hid hXo
  have hsz := hb1.out.bel.size
  have HN1 : Hid (n0 ≤ w1.heap.size) := Lib.hid (by have := HN.out; omega)
  clear hbk hown hne hXb hXo
  go_wp2_with (at_builtin; refine wpList_append_lies _ rfl _ _ 44 rfl n0 5 i0 (.int .u8 0) 1 1 Tryd.underlying44 hi hz0 hz1 hz2 rfl (by decide) _ _ _ rfl (HOWN.out.alloc _) ⟨w1.heap.size, 0, none⟩ 1 1 [.int .u8 xv] rfl rfl ?c1 ?c2 (by decide) ?c3 ?c4 ?c5 _ rfl ?_)
  case c1 =>
    intro j u hj
    match j, hj with
    | 0, hj => simp at hj; subst hj; simp [Addr.add]
  case c2 => intro u hu; simp at hu; subst hu; rfl
  case c3 => unfold maxLen; omega
  case c4 => omega
  case c5 => have := HN1.out; simp; omega
  intro g cap w2 hown' hgrow hat _
  have hbk2 : w2.heap[b]? = some (.cells #[.pointer (some ⟨b, 0, none⟩), .slice A bs.length c] 54 (0, 0)) := by
    rw [hgrow.block b (by simp; omega) (fun e => HNE.out e.symm), Below.heap_alloc w1 _ b hlt]
    exact HBK.out
  have HOWN2 := Lib.hid hown'
  have HK2 : Hid (Kps n0 X w w2) := Lib.hid ((hb1.out.trans (Kps.alloc HN1.out _)).trans (Kps.grown hgrow (by have := HN1.out; simp; omega) (fun g hg => ⟨(HOWN.out.lt g hg).1, HXO.out g hg⟩)))
  have HG : Hid (g ≠ b ∧ ¬ X g) := Lib.hid (by
    rcases hat with hat | hat
    · exact ⟨fun e => HNE.out (by rw [hat, e]), HXO.out g hat⟩
    · exact ⟨by omega, fun hx => by have := HX.out g hx; omega⟩)
  have d1 : w2.cell? ⟨b, 1, none⟩ = some (.slice A bs.length c) := by rw [Lib.cell_of_heap hbk2]; rfl
  have f1 : w2.frozen? ⟨b, 1, none⟩ = false := Lib.frozen_of_heap hbk2 1
  have HBK2 := Lib.hid hbk2
  clear hown' hgrow hbk2 hat
  go_wp2
  go_ret
  refine ⟨rfl, Lib.hid (.inr (TbAt.put HBK2.out hB HXB.out (by simpa [Lib.byteCells, HXV.out] using HOWN2.out) (by simp [Value.ownBlock]; exact HG.out.1) (fun q hq => by simp only [Value.ownBlock, Option.some.injEq] at hq; exact hq ▸ HG.out.2))), Lib.hid (HK2.out.trans (Kps.set hB HXB.out 1 _))⟩

set_option maxRecDepth 100000 in
set_option maxHeartbeats 1000000 in
theorem writeString_x {n0 b : Nat} {bs s : List UInt8} {X : Nat → Prop} {w : World} (h : Tb n0 b bs X w) (hlen : bs.length ≤ 1000000000) (hs : s.length ≤ 1000000000) (hn : n0 ≤ w.heap.size) (hX : ∀ g, X g → g < w.heap.size) :
    Calls Tryd.prog 22 #[.pointer (some ⟨b, 0, none⟩), .string ⟨s.toArray⟩] w fun e w' => (∃ v, e = .returned v) ∧ Hid (Tb n0 b (bs ++ s) X w') ∧ Hid (Kps n0 X w w') := by
  obtain ⟨i0, hi, hz0, hz1, hz2⟩ := info_parts info_u8
  have H := Lib.hid h
  have HN := Lib.hid hn
  have HX := Lib.hid hX
  have hss : (⟨s.toArray⟩ : ByteArray).size = s.length := by show s.toArray.size = _; rw [List.size_toArray]
  clear h hn hX
  obtain ⟨S, hS⟩ : ∃ S : ByteArray, S = ⟨s.toArray⟩ := ⟨_, rfl⟩
  rw [← hS] at hss ⊢
  have HSS := Lib.hid hS
  clear hS
  go_enter Tryd.func22, Tryd.ntmps22
  go_wp2_with fail
  refine (copyCheck_x n0 b bs X w H.out).mono ?_
  rintro e w1 ⟨rfl, h1, hb1⟩
  obtain ⟨A, c, hbk, hown, hne, hB, hXb, hXo⟩ := h1.out
  have c1 : w1.cell? ⟨b, 1, none⟩ = some (.slice A bs.length c) := by rw [Lib.cell_of_heap hbk]; rfl
  have hlt := (Array.getElem?_eq_some_iff.1 hbk).1
  have HBK := Lib.hid hbk
  have HOWN := Lib.hid hown
  have HNE := Lib.hid hne
  have HXB := Lib.hid hXb
  have HXO := Lib.hid hXo
  have hsz := hb1.out.bel.size
  have HN1 : Hid (n0 ≤ w1.heap.size) := Lib.hid (by have := HN.out; omega)
  clear hbk hown hne hXb hXo
  go_wp2_with (at_builtin; refine wpList_append_string_at _ rfl _ _ 44 9 rfl n0 5 i0 Tryd.underlying44 Tryd.underlying9 hi hz0 hz1 hz2 _ _ _ rfl HOWN.out S rfl ?c3 ?c4 ?c5 ?_)
  case c3 => unfold maxLen; omega
  case c4 => omega
  case c5 => exact HN1.out
  intro v' w2 hown' hgrow hat
  have hbk2 : w2.heap[b]? = some (.cells #[.pointer (some ⟨b, 0, none⟩), .slice A bs.length c] 54 (0, 0)) := by
    rw [hgrow.block b hlt (fun e => HNE.out e.symm)]
    exact HBK.out
  have HOWN2 := Lib.hid hown'
  have HK2 : Hid (Kps n0 X w w2) := Lib.hid (hb1.out.trans (Kps.grown hgrow HN1.out (fun g hg => ⟨(HOWN.out.lt g hg).1, HXO.out g hg⟩)))
  have HG : Hid (v'.ownBlock ≠ some b ∧ ∀ g, v'.ownBlock = some g → ¬ X g) := Lib.hid (by
    rcases hat with hat | hat
    · rw [hat]; exact ⟨HNE.out, HXO.out⟩
    · rw [hat]
      refine ⟨fun e => by injection e with e; omega, fun g hg hx => ?_⟩
      injection hg with hg
      have := HX.out g hx
      omega)
  obtain ⟨A', n', cap, rfl⟩ : ∃ A' n' cap, v' = .slice A' n' cap := by
    rcases hown'.2 with ⟨hv, _⟩ | ⟨g, cap, cur, hv, _⟩
    · exact ⟨_, _, _, hv⟩
    · exact ⟨_, _, _, hv⟩
  have d1 : w2.cell? ⟨b, 1, none⟩ = some (.slice A bs.length c) := by rw [Lib.cell_of_heap hbk2]; rfl
  have f1 : w2.frozen? ⟨b, 1, none⟩ = false := Lib.frozen_of_heap hbk2 1
  have HBK2 := Lib.hid hbk2
  clear hown' hgrow hbk2 hat
  go_wp2
  go_ret2
  refine ⟨⟨_, rfl⟩, Lib.hid (.inr (TbAt.put HBK2.out hB HXB.out (by have h := HOWN2.out; rw [show Lib.strCells S = Lib.byteCells s by rw [HSS.out, strCells_mk], byteCells_append] at h; simpa using h) HG.out.1 HG.out.2)), Lib.hid (HK2.out.trans (Kps.set hB HXB.out 1 _))⟩
end Go.Proofs.YtmnllioeaaimcaaDoor.tr
