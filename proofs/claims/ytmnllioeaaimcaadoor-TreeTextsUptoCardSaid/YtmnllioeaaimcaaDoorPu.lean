/- strings.Builder, as package token calls it. -/
import Derived.Lib.Builder
import Derived.Lib.AppendStr
import Derived.Lib.UnsafeStr
import Derived.Laws.OwnMore
import Derived.Laws.AppendOwn
import Derived.Deep.AppendLies
import Derived.Test.YtmnllioeaaimcaaDoorShelf
import Derived.Test.YtmnllioeaaimcaaDoorPg
import Derived.Test.YtmnllioeaaimcaaDoorTn
namespace Go.Proofs.YtmnllioeaaimcaaDoor.tk
open Go.RowKit

theorem builder_size : (Tryd.prog.info? 54).map (fun i => i.size) = some 2 := by kernel_rfl
theorem builder_lies : liesAt Tryd.prog Tryd.prog.depth 54 (2 / Tryd.prog.cellsOf 54) 0 54 1 = true := by kernel_rfl
theorem no_escape (x : Value) (w : World) : (callFunc 42 #[x]).run Tryd.prog w = .ok (.value x) w := by
  rw [run_callFunc_extern Tryd.func42 (by kernel_rfl) (by kernel_rfl) (by kernel_rfl) (e := Extern.AbiNoEscape.same) (by kernel_rfl), Lib.run_noEscape]
  rfl

abbrev Bld (B b : Nat) (bs : List Value) (w : World) : Prop := Lib.IsBuilder 54 5 B b bs w
abbrev BldAt (B b : Nat) (p : Value) (bs : List Value) (w : World) : Prop := Lib.BuilderAt 54 5 B b p bs w

set_option maxRecDepth 100000 in
set_option maxHeartbeats 1000000 in
/-- copyCheck: behind it the builder holds its own address. -/
theorem copyCheck_any (B b : Nat) (bs : List Value) (w : World) (h : Bld B b bs w) :
    Calls Tryd.prog 32 #[.pointer (some ⟨b, 0, none⟩)] w fun e w' => e = .returned (.tuple #[]) ∧ Hid (BldAt B b (.pointer (some ⟨b, 0, none⟩)) bs w') ∧ Hid (Below B w w') := by
  obtain ⟨j, hj, hjs⟩ := Option.map_eq_some_iff.1 builder_size
  rcases h with h | h
  · have c0 := h.cell0
    have f0 := h.frozen0
    have hto : (convert 52 86 (.pointer (some ⟨b, 0, none⟩))).run Tryd.prog w = .ok (.pointer (some ⟨b, 0, none⟩)) w :=
      Lib.run_to_unsafe w ⟨b, 0, none⟩ Tryd.underlying52 Tryd.underlying86 hj (by rw [hjs]; decide) h.shape (by show 0 < 2; omega)
    have hno := no_escape (.pointer (some ⟨b, 0, none⟩)) w
    have hfrom : (convert 86 52 (.pointer (some ⟨b, 0, none⟩))).run Tryd.prog w = .ok (.pointer (some ⟨b, 0, none⟩)) w :=
      Lib.run_from_unsafe w ⟨b, 0, none⟩ Tryd.underlying86 Tryd.underlying52 hj h.shape builder_lies
    have HB : Hid (BldAt B b (.pointer none) bs w) := h
    clear h hj hjs
    go_enter Tryd.func32, Tryd.ntmps32
    go_wp2
    go_end0
    exact ⟨rfl, HB.out.used _, (Below.refl B w).setCell (p := ⟨b, 0, none⟩) HB.out.1 _⟩
  · have c0 := h.cell0
    have hne : (binOp .neq 52 (.pointer (some ⟨b, 0, none⟩)) (.pointer (some ⟨b, 0, none⟩))).run Tryd.prog w = .ok (.bool false) w := Lib.run_neq_ptr_same w ⟨b, 0, none⟩ Tryd.underlying52 hj
    have HB : Hid (BldAt B b (.pointer (some ⟨b, 0, none⟩)) bs w) := h
    clear h hj hjs
    go_enter Tryd.func32, Tryd.ntmps32
    go_wp2
    go_end0
    exact ⟨rfl, HB.out, Below.refl B w⟩

/-- a builder's two cells, and that it is one -/
theorem bld_cells {B b : Nat} {p : Value} {bs : List Value} {w : World} (h : BldAt B b p bs w) : ∃ A c, w.heap[b]? = some (.cells #[p, .slice A bs.length c] 54 (0, 0)) ∧ w.ownsRow B 5 1 (.slice A bs.length c) bs.length bs ∧ (Value.slice A bs.length c).ownBlock ≠ some b ∧ B ≤ b ∧ b < w.heap.size := by
  obtain ⟨hB, v, hbk, hown, hne⟩ := h
  have hlt : b < w.heap.size := (Array.getElem?_eq_some_iff.1 hbk).1
  rcases hown.2 with ⟨rfl, h0⟩ | ⟨g, cap, cur, rfl, _⟩
  · rw [← h0] at *
    exact ⟨none, bs.length, by rw [h0] at *; exact hbk, by rw [h0] at *; exact hown, hne, hB, hlt⟩
  · exact ⟨_, _, hbk, hown, hne, hB, hlt⟩

set_option maxRecDepth 100000 in
set_option maxHeartbeats 1000000 in
theorem writeByte_any (B b : Nat) (bs : List Value) (x : Int) (w : World) (h : Bld B b bs w) (hlen : bs.length ≤ 1000000000) (hBw : B ≤ w.heap.size) :
    Calls Tryd.prog 21 #[.pointer (some ⟨b, 0, none⟩), .int .u8 x] w fun e w' => e = .returned .nilIface ∧ Hid (Bld B b (bs ++ [.int .u8 x]) w') ∧ Hid (Below B w w') := by
  obtain ⟨i0, hi, hz0, hz1, hz2⟩ := info_parts info_u8
  have H := Lib.hid h
  clear h
  go_enter Tryd.func21, Tryd.ntmps21
  go_wp2_with fail
  refine (copyCheck_any B b bs w H.out).mono ?_
  rintro e w1 ⟨rfl, h1, hb1⟩
  obtain ⟨A, c, hbk, hown, hne, hB, hlt⟩ := bld_cells h1.out
  have c1 : w1.cell? ⟨b, 1, none⟩ = some (.slice A bs.length c) := by rw [Lib.cell_of_heap hbk]; rfl
  have HBK := Lib.hid hbk
  have HOWN := Lib.hid hown
  have HNE := Lib.hid hne
  have hsz := hb1.out.size
  clear hbk hown hne
  go_wp2_with (at_builtin; refine wpList_append_own _ rfl _ _ 44 rfl B 5 i0 (.int .u8 0) 1 1 Tryd.underlying44 hi hz0 hz1 hz2 rfl (by decide) _ _ _ rfl (HOWN.out.alloc _) ⟨w1.heap.size, 0, none⟩ 1 1 [.int .u8 x] rfl rfl ?c1 ?c2 ?c3 ?c4 ?c5 ?_)
  case c1 =>
    intro j u hj
    match j, hj with
    | 0, hj => simp at hj; subst hj; simp [Addr.add]
  case c2 => intro u hu; simp at hu; subst hu; rfl
  case c3 => unfold maxLen; omega
  case c4 => omega
  case c5 => simp; omega
  intro v' w2 hown' hgrow _
  have hbk2 : w2.heap[b]? = some (.cells #[.pointer (some ⟨b, 0, none⟩), .slice A bs.length c] 54 (0, 0)) := by
    rw [hgrow.block b (by simp; omega) (fun e => HNE.out e.symm), Below.heap_alloc w1 _ b hlt]
    exact HBK.out
  have HOWN2 := Lib.hid hown'
  have HBW : Hid (Below B w w2) := (hb1.out.alloc (by omega) _).grown hgrow (by simp; omega) (fun k hk => (HOWN.out.lt k hk).1)
  obtain ⟨g, cap, rfl⟩ : ∃ g cap, v' = .slice (some ⟨g, 0, none⟩) (bs.length + 1) cap := by
    rcases hown'.2 with ⟨_, h0⟩ | ⟨g, cap, cur, hv, _⟩
    · omega
    · exact ⟨g, cap, hv⟩
  have d1 : w2.cell? ⟨b, 1, none⟩ = some (.slice A bs.length c) := by rw [Lib.cell_of_heap hbk2]; rfl
  have f1 : w2.frozen? ⟨b, 1, none⟩ = false := Lib.frozen_of_heap hbk2 1
  have HBK2 := Lib.hid hbk2
  clear hown' hgrow hbk2
  go_wp2
  go_ret
  exact ⟨rfl, .inr (Lib.BuilderAt.put (T := 54) (e := 5) hB HBK2.out (bs' := bs ++ [.int .u8 x]) (by simpa using HOWN2.out) (by decide)), HBW.out.setCell (p := ⟨b, 1, none⟩) hB _⟩

set_option maxRecDepth 100000 in
set_option maxHeartbeats 1000000 in
theorem writeString_any (B b : Nat) (bs : List Value) (s : ByteArray) (w : World) (h : Bld B b bs w) (hlen : bs.length ≤ 1000000000) (hs : s.size ≤ 1000000000) (hBw : B ≤ w.heap.size) :
    Calls Tryd.prog 22 #[.pointer (some ⟨b, 0, none⟩), .string s] w fun e w' => e = .returned (.tuple #[.int .i64 s.size, .nilIface]) ∧ Hid (Bld B b (bs ++ Lib.strCells s) w') ∧ Hid (Below B w w') := by
  obtain ⟨i0, hi, hz0, hz1, hz2⟩ := info_parts info_u8
  have H := Lib.hid h
  clear h
  go_enter Tryd.func22, Tryd.ntmps22
  go_wp2_with fail
  refine (copyCheck_any B b bs w H.out).mono ?_
  rintro e w1 ⟨rfl, h1, hb1⟩
  obtain ⟨A, c, hbk, hown, hne, hB, hlt⟩ := bld_cells h1.out
  have c1 : w1.cell? ⟨b, 1, none⟩ = some (.slice A bs.length c) := by rw [Lib.cell_of_heap hbk]; rfl
  have HBK := Lib.hid hbk
  have HOWN := Lib.hid hown
  have HNE := Lib.hid hne
  have hsz := hb1.out.size
  clear hbk hown hne
  go_wp2_with (at_builtin; refine Lib.wpList_append_own_string _ rfl _ _ 44 9 rfl B 5 i0 Tryd.underlying44 Tryd.underlying9 hi hz0 hz1 hz2 _ _ _ rfl HOWN.out s rfl ?c3 ?c4 ?c5 ?_)
  case c3 => unfold maxLen; omega
  case c4 => omega
  case c5 => omega
  intro v' w2 hown' hgrow _
  have hbk2 : w2.heap[b]? = some (.cells #[.pointer (some ⟨b, 0, none⟩), .slice A bs.length c] 54 (0, 0)) := by
    rw [hgrow.block b hlt (fun e => HNE.out e.symm)]
    exact HBK.out
  have HOWN2 := Lib.hid hown'
  have HBW : Hid (Below B w w2) := hb1.out.grown hgrow (by omega) (fun k hk => (HOWN.out.lt k hk).1)
  obtain ⟨A', n', cap, rfl⟩ : ∃ A' n' cap, v' = .slice A' n' cap := by
    rcases hown'.2 with ⟨hv, _⟩ | ⟨g, cap, cur, hv, _⟩
    · exact ⟨_, _, _, hv⟩
    · exact ⟨_, _, _, hv⟩
  have d1 : w2.cell? ⟨b, 1, none⟩ = some (.slice A bs.length c) := by rw [Lib.cell_of_heap hbk2]; rfl
  have f1 : w2.frozen? ⟨b, 1, none⟩ = false := Lib.frozen_of_heap hbk2 1
  have HBK2 := Lib.hid hbk2
  clear hown' hgrow hbk2
  go_wp2
  go_ret2
  exact ⟨rfl, .inr (Lib.BuilderAt.put (T := 54) (e := 5) hB HBK2.out (bs' := bs ++ Lib.strCells s) (by simpa [Lib.strCells] using HOWN2.out) (by decide)), HBW.out.setCell (p := ⟨b, 1, none⟩) hB _⟩


theorem strCells_mk (l : List UInt8) : Lib.strCells ⟨l.toArray⟩ = Lib.byteCells l := by simp [Lib.strCells, Lib.byteCells]
theorem bld_but {B b R : Nat} {bs : List Value} {w w' : World} (h : Bld B b bs w) (hb : But R w w') (hR : R < B) : Bld B b bs w' := by
  have one : ∀ {p : Value}, BldAt B b p bs w → BldAt B b p bs w' := fun {p} h => by
    obtain ⟨hB, v, hbk, hown, hne⟩ := h
    have hlt : b < w.heap.size := (Array.getElem?_eq_some_iff.1 hbk).1
    refine ⟨hB, v, (hb.block b hlt (by omega)).trans hbk, ?_, hne⟩
    refine ⟨hown.1, ?_⟩
    rcases hown.2 with h0 | ⟨g, cap, cur, rfl, h1, h2, h3⟩
    · exact .inl h0
    · exact .inr ⟨g, cap, cur, rfl, h1, (hb.block g (Array.getElem?_eq_some_iff.1 h2).1 (by omega)).trans h2, h3⟩
  rcases h with h | h
  · exact .inl (one h)
  · exact .inr (one h)
theorem bld_far {B b : Nat} {bs : List Value} {w : World} (h : Bld B b bs w) {p : Addr} (hp : p.block < B) (u : Value) : Bld B b bs (w.setCell p u) := by
  have one : ∀ {q : Value}, BldAt B b q bs w → BldAt B b q bs (w.setCell p u) := fun {q} h => by
    obtain ⟨hB, v, hbk, hown, hne⟩ := h
    refine ⟨hB, v, (Below.heap_setCell _ _ _ _ (by omega)).trans hbk, ?_, hne⟩
    refine ⟨hown.1, ?_⟩
    rcases hown.2 with h0 | ⟨g, cap, cur, rfl, h1, h2, h3⟩
    · exact .inl h0
    · exact .inr ⟨g, cap, cur, rfl, h1, (Below.heap_setCell _ _ _ _ (by omega)).trans h2, h3⟩
  rcases h with h | h
  · exact .inl (one h)
  · exact .inr (one h)
section
variable {w W W' : World} {R : Nat} {A : Option Addr} {bs : List UInt8} {cb q k p : Nat} {t : List UInt8}
theorem Rs.over {B : Nat} (h : Rs W R A bs cb q) (hR : R < B) (hA : 0 < bs.length → ∀ a, A = some a → a.block < B) (hb : Below B W W') : Rs W' R A bs cb q := by
  refine ⟨h.box.below hb hR, fun hn => ?_, h.ne⟩
  obtain ⟨b, off, e, hlt, hc⟩ := h.rb hn
  exact ⟨b, off, e, Nat.lt_of_lt_of_le hlt hb.size, fun j hj => (hb.cell (p := ⟨b, off + j, none⟩) (show b < B from hA hn _ e)).trans (hc j hj)⟩
theorem But.over (h : But R w W) (hb : Below w.heap.size W W') : But R w W' :=
  ⟨hb.os.trans h.os, hb.tape.trans h.tape, hb.output.trans h.output, Nat.le_trans h.size hb.size, fun i hi hr => (hb.block i hi).trans (h.block i hi hr)⟩
theorem Pt.over (h : Pt w W R A bs cb q k t p) (hA : ∀ a, A = some a → a.block < w.heap.size) (hb : Below (w.heap.size + 2) W W') : Pt w W' R A bs cb q k t p :=
  ⟨h.rs.over (by have := h.lt; omega) (fun _ a e => by have := hA a e; omega) hb, h.res.below hb (by omega), h.tok.below hb (by omega), h.but.over (hb.mono (by omega)), h.lt⟩
end
end Go.Proofs.YtmnllioeaaimcaaDoor.tk
