/- Package whole: what Text calls of strings.Builder, and decimal digits below 100. Package whole: Text, out of decimal's contract at its digits. The statements' first part: the example of the document (speaks); Odd; the document's answers Right and Same. The document's answer Right; Odd: whether integers are more than are looked at, or not right. -/
import Derived.Test.YtpikbhcjgcbdfaaDoorWhC
import Derived.Test.YtpikbhcjgcbdfaaDoorShelf
import Derived.Lib.Builder
import Derived.Lib.AppendStr
/- Package whole: what Text calls of strings.Builder, and decimal digits below 100. -/
namespace Go.Proofs.YtpikbhcjgcbdfaaDoor.wh
open Go.RowKit

theorem builder_size : (Tryd.prog.info? 99).map (fun i => i.size) = some 2 := by kernel_rfl
theorem builder_lies : liesAt Tryd.prog Tryd.prog.depth 99 (2 / Tryd.prog.cellsOf 99) 0 99 1 = true := by kernel_rfl
theorem info_u8 : (Tryd.prog.info? 5).map (fun i => (i.zero, i.size, i.bytes)) = some (some (.int .u8 0), 1, 1) := by kernel_rfl
theorem no_escape (x : Value) (w : World) : (callFunc 99 #[x]).run Tryd.prog w = .ok (.value x) w := by
  rw [run_callFunc_extern Tryd.func99 (by kernel_rfl) (by kernel_rfl) (by kernel_rfl) (e := Extern.AbiNoEscape.same) (by kernel_rfl), Lib.run_noEscape]
  rfl

abbrev Bld (B b : Nat) (bs : List Value) (w : World) : Prop := Lib.IsBuilder 99 5 B b bs w
abbrev BldAt (B b : Nat) (p : Value) (bs : List Value) (w : World) : Prop := Lib.BuilderAt 99 5 B b p bs w

set_option maxRecDepth 100000 in
set_option maxHeartbeats 1000000 in
/-- copyCheck: behind it the builder holds its own address. -/
theorem copyCheck_any (B b : Nat) (bs : List Value) (w : World) (h : Bld B b bs w) :
    Calls Tryd.prog 96 #[.pointer (some ⟨b, 0, none⟩)] w fun e w' => e = .returned (.tuple #[]) ∧ Hid (BldAt B b (.pointer (some ⟨b, 0, none⟩)) bs w') ∧ Hid (Below B w w') := by
  obtain ⟨j, hj, hjs⟩ := Option.map_eq_some_iff.1 builder_size
  rcases h with h | h
  · have c0 := h.cell0
    have f0 := h.frozen0
    have hto : (convert 96 121 (.pointer (some ⟨b, 0, none⟩))).run Tryd.prog w = .ok (.pointer (some ⟨b, 0, none⟩)) w :=
      Lib.run_to_unsafe w ⟨b, 0, none⟩ Tryd.underlying96 Tryd.underlying121 hj (by rw [hjs]; decide) h.shape (by show 0 < 2; omega)
    have hno := no_escape (.pointer (some ⟨b, 0, none⟩)) w
    have hfrom : (convert 121 96 (.pointer (some ⟨b, 0, none⟩))).run Tryd.prog w = .ok (.pointer (some ⟨b, 0, none⟩)) w :=
      Lib.run_from_unsafe w ⟨b, 0, none⟩ Tryd.underlying121 Tryd.underlying96 hj h.shape builder_lies
    have HB : Hid (BldAt B b (.pointer none) bs w) := h
    clear h hj hjs
    go_enter Tryd.func96, Tryd.ntmps96
    go_wp2
    go_end0
    exact ⟨rfl, HB.out.used _, (Below.refl B w).setCell (p := ⟨b, 0, none⟩) HB.out.1 _⟩
  · have c0 := h.cell0
    have hne : (binOp .neq 96 (.pointer (some ⟨b, 0, none⟩)) (.pointer (some ⟨b, 0, none⟩))).run Tryd.prog w = .ok (.bool false) w := Lib.run_neq_ptr_same w ⟨b, 0, none⟩ Tryd.underlying96 hj
    have HB : Hid (BldAt B b (.pointer (some ⟨b, 0, none⟩)) bs w) := h
    clear h hj hjs
    go_enter Tryd.func96, Tryd.ntmps96
    go_wp2
    go_end0
    exact ⟨rfl, HB.out, Below.refl B w⟩

/-- a builder's two cells, and that it is one -/
theorem bld_cells {B b : Nat} {p : Value} {bs : List Value} {w : World} (h : BldAt B b p bs w) : ∃ A c, w.heap[b]? = some (.cells #[p, .slice A bs.length c] 99 (0, 0)) ∧ w.ownsRow B 5 1 (.slice A bs.length c) bs.length bs ∧ (Value.slice A bs.length c).ownBlock ≠ some b ∧ B ≤ b ∧ b < w.heap.size := by
  obtain ⟨hB, v, hbk, hown, hne⟩ := h
  have hlt : b < w.heap.size := (Array.getElem?_eq_some_iff.1 hbk).1
  rcases hown.2 with ⟨rfl, h0⟩ | ⟨g, cap, cur, rfl, _⟩
  · rw [← h0] at *
    exact ⟨none, bs.length, by rw [h0] at *; exact hbk, by rw [h0] at *; exact hown, hne, hB, hlt⟩
  · exact ⟨_, _, hbk, hown, hne, hB, hlt⟩

set_option maxRecDepth 100000 in
set_option maxHeartbeats 1000000 in
theorem writeByte_any (B b : Nat) (bs : List Value) (x : Int) (w : World) (h : Bld B b bs w) (hlen : bs.length ≤ 1000000) (hBw : B ≤ w.heap.size) :
    Calls Tryd.prog 76 #[.pointer (some ⟨b, 0, none⟩), .int .u8 x] w fun e w' => e = .returned .nilIface ∧ Hid (Bld B b (bs ++ [.int .u8 x]) w') ∧ Hid (Below B w w') := by
  obtain ⟨i0, hi, hz0, hz1, hz2⟩ := info_parts info_u8
  have H := Lib.hid h
  clear h
  go_enter Tryd.func76, Tryd.ntmps76
  go_wp2_with fail
  refine (copyCheck_any B b bs w H.out).mono ?_
  rintro e w1 ⟨rfl, h1, hb1⟩
  obtain ⟨A, c, hbk, hown, hne, hB, hlt⟩ := bld_cells h1.out
  have c1 : w1.cell? ⟨b, 1, none⟩ = some (.slice A bs.length c) := by rw [Lib.cell_of_heap hbk]; rfl
  have HBK := Lib.hid hbk
  have HOWN := Lib.hid hown
  have HNE := Lib.hid hne
  have hsz := hb1.out.size
  clear hbk hown hne
  go_wp2_with (at_builtin; refine wpList_append_own _ rfl _ _ 97 rfl B 5 i0 (.int .u8 0) 1 1 Tryd.underlying97 hi hz0 hz1 hz2 rfl (by decide) _ _ _ rfl (HOWN.out.alloc _) ⟨w1.heap.size, 0, none⟩ 1 1 [.int .u8 x] rfl rfl ?c1 ?c2 ?c3 ?c4 ?c5 ?_)
  case c1 =>
    intro j u hj
    match j, hj with
    | 0, hj => simp at hj; subst hj; simp [Addr.add]
  case c2 => intro u hu; simp at hu; subst hu; rfl
  case c3 => unfold maxLen; omega
  case c4 => omega
  case c5 => simp; omega
  intro v' w2 hown' hgrow _
  have hbk2 : w2.heap[b]? = some (.cells #[.pointer (some ⟨b, 0, none⟩), .slice A bs.length c] 99 (0, 0)) := by
    rw [hgrow.block b (by simp; omega) (fun e => HNE.out e.symm), Below.heap_alloc w1 _ b hlt]
    exact HBK.out
  have HOWN2 := Lib.hid hown'
  have HBW : Hid (Below B w w2) := (hb1.out.alloc (by omega) _).grown hgrow (by simp; omega) (fun k hk => (HOWN.out.lt k hk).1)
  obtain ⟨g, cap, rfl⟩ : ∃ g cap, v' = .slice (some ⟨g, 0, none⟩) (bs.length + 1) cap := by
    rcases hown'.2 with ⟨_, h0⟩ | ⟨g, cap, cur, hv, _⟩
    · omega
    · exact ⟨g, cap, hv⟩
  have d1 : w2.cell? ⟨b, 1, none⟩ = some (.slice A bs.length c) := by rw [Lib.cell_of_heap hbk2]; rfl
  have f1 : w2.frozen? ⟨b, 1, none⟩ = false := Lib.frozen_of_heap hbk2 1
  have HBK2 := Lib.hid hbk2
  clear hown' hgrow hbk2
  go_wp2
  go_ret
  exact ⟨rfl, .inr (Lib.BuilderAt.put (T := 99) (e := 5) hB HBK2.out (bs' := bs ++ [.int .u8 x]) (by simpa using HOWN2.out) (by decide)), HBW.out.setCell (p := ⟨b, 1, none⟩) hB _⟩

set_option maxRecDepth 100000 in
set_option maxHeartbeats 1000000 in
theorem writeString_any (B b : Nat) (bs : List Value) (s : ByteArray) (w : World) (h : Bld B b bs w) (hlen : bs.length ≤ 1000000) (hs : s.size ≤ 1000000) (hBw : B ≤ w.heap.size) :
    Calls Tryd.prog 77 #[.pointer (some ⟨b, 0, none⟩), .string s] w fun e w' => e = .returned (.tuple #[.int .i64 s.size, .nilIface]) ∧ Hid (Bld B b (bs ++ Lib.strCells s) w') ∧ Hid (Below B w w') := by
  obtain ⟨i0, hi, hz0, hz1, hz2⟩ := info_parts info_u8
  have H := Lib.hid h
  clear h
  go_enter Tryd.func77, Tryd.ntmps77
  go_wp2_with fail
  refine (copyCheck_any B b bs w H.out).mono ?_
  rintro e w1 ⟨rfl, h1, hb1⟩
  obtain ⟨A, c, hbk, hown, hne, hB, hlt⟩ := bld_cells h1.out
  have c1 : w1.cell? ⟨b, 1, none⟩ = some (.slice A bs.length c) := by rw [Lib.cell_of_heap hbk]; rfl
  have HBK := Lib.hid hbk
  have HOWN := Lib.hid hown
  have HNE := Lib.hid hne
  have hsz := hb1.out.size
  clear hbk hown hne
  go_wp2_with (at_builtin; refine Lib.wpList_append_own_string _ rfl _ _ 97 9 rfl B 5 i0 Tryd.underlying97 Tryd.underlying9 hi hz0 hz1 hz2 _ _ _ rfl HOWN.out s rfl ?c3 ?c4 ?c5 ?_)
  case c3 => unfold maxLen; omega
  case c4 => omega
  case c5 => omega
  intro v' w2 hown' hgrow _
  have hbk2 : w2.heap[b]? = some (.cells #[.pointer (some ⟨b, 0, none⟩), .slice A bs.length c] 99 (0, 0)) := by
    rw [hgrow.block b hlt (fun e => HNE.out e.symm)]
    exact HBK.out
  have HOWN2 := Lib.hid hown'
  have HBW : Hid (Below B w w2) := hb1.out.grown hgrow (by omega) (fun k hk => (HOWN.out.lt k hk).1)
  obtain ⟨A', n', cap, rfl⟩ : ∃ A' n' cap, v' = .slice A' n' cap := by
    rcases hown'.2 with ⟨hv, _⟩ | ⟨g, cap, cur, hv, _⟩
    · exact ⟨_, _, _, hv⟩
    · exact ⟨_, _, _, hv⟩
  have d1 : w2.cell? ⟨b, 1, none⟩ = some (.slice A bs.length c) := by rw [Lib.cell_of_heap hbk2]; rfl
  have f1 : w2.frozen? ⟨b, 1, none⟩ = false := Lib.frozen_of_heap hbk2 1
  have HBK2 := Lib.hid hbk2
  clear hown' hgrow hbk2
  go_wp2
  go_ret2
  exact ⟨rfl, .inr (Lib.BuilderAt.put (T := 99) (e := 5) hB HBK2.out (bs' := bs ++ Lib.strCells s) (by simpa [Lib.strCells] using HOWN2.out) (by decide)), HBW.out.setCell (p := ⟨b, 1, none⟩) hB _⟩

/-- the decimal digits of a number below 100 -/
theorem small_dec (d : Nat) (w : World) (hd : d < 100) :
    Calls Tryd.prog 78 #[.int .u32 d] w fun e w' => e = .returned (.string ⟨(Lib.decDigits d).toArray⟩) ∧ w = w' := by
  have h1 : ∀ W : World, Calls Tryd.prog 100 #[.int .u64 d, .int .i64 10] W fun e w' => e = .returned (.string ⟨(Lib.decDigits d).toArray⟩) ∧ W = w' := fun W => by
    go_enter Tryd.func100, Tryd.ntmps100
    go_wp2_with fail
    refine (Tryd.internal_strconv_small d hd W).mono ?_
    rintro e w' ⟨rfl, rfl⟩
    go_wp2
    go_ret
    exact ⟨rfl, rfl⟩
  have h2 : ∀ W : World, Calls Tryd.prog 97 #[.int .u64 d, .int .i64 10] W fun e w' => e = .returned (.string ⟨(Lib.decDigits d).toArray⟩) ∧ W = w' := fun W => by
    have H1 := Lib.hid h1
    clear h1
    go_enter Tryd.func97, Tryd.ntmps97
    go_wp2_with fail
    refine (H1.out W).mono ?_
    rintro e w' ⟨rfl, rfl⟩
    go_wp2
    go_ret
    exact ⟨rfl, rfl⟩
  have H2 := Lib.hid h2
  clear h1 h2
  go_enter Tryd.func78, Tryd.ntmps78
  go_wp2_with fail
  refine (H2.out w).mono ?_
  rintro e w' ⟨rfl, rfl⟩
  go_wp2
  go_ret
  exact ⟨rfl, rfl⟩
end Go.Proofs.YtpikbhcjgcbdfaaDoor.wh

/- Package whole: Text, out of decimal's contract at its digits. -/
namespace Go.Proofs.YtpikbhcjgcbdfaaDoor.wh
open Go.RowKit

def DecFor (w : World) (ds : List Nat) : Prop := ∀ d, d ∈ ds → ∀ W, Below w.heap.size w W →
  Calls Tryd.prog 78 #[.int .u32 d] W fun e w' => e = .returned (.string ⟨(Lib.decDigits d).toArray⟩) ∧ Hid (Below W.heap.size W w')

def pad9 (l : List UInt8) : List UInt8 := List.replicate (9 - l.length) 48 ++ l
/-- the digits' text behind the first one, down to place k -/
def restOf (ds : List Nat) (k : Nat) : List UInt8 := ((ds.take (ds.length - 1)).drop k).reverse.flatMap fun d => pad9 (Lib.decDigits d)
def headOf (neg : Bool) (ds : List Nat) : List UInt8 := (if neg then [45] else []) ++ Lib.decDigits (ds.getD (ds.length - 1) 0)
def textOf (neg : Bool) (ds : List Nat) : List UInt8 := if ds.length = 0 then [48] else headOf neg ds ++ restOf ds 0

theorem rest_start (ds : List Nat) : restOf ds (ds.length - 1) = [] := by
  unfold restOf
  rw [List.drop_eq_nil_of_le (by rw [List.length_take]; omega)]
  rfl
theorem rest_step {ds : List Nat} {k : Nat} (hk : k + 1 < ds.length) : restOf ds k = restOf ds (k + 1) ++ pad9 (Lib.decDigits (ds[k]'(by omega))) := by
  unfold restOf
  rw [List.drop_eq_getElem_cons (by rw [List.length_take]; omega)]
  simp
theorem nDigits9 {d : Nat} (h : d < 1000000000) : (Lib.decDigits d).length ≤ 9 := by
  rw [Lib.decDigits_length]
  have hk : ∀ (k u : Nat), u < 10 ^ (k + 1) → Lib.nDigits u ≤ k + 1 := by
    intro k
    induction k with
    | zero => intro u hu; rw [Lib.nDigits_small (by omega)]; omega
    | succ k ih =>
      intro u hu
      by_cases h : u < 10
      · rw [Lib.nDigits_small h]; omega
      · rw [Lib.nDigits_big h]
        have := ih (u / 10) (by rw [Nat.pow_succ] at hu; omega)
        omega
  exact hk 8 d (by omega)
theorem strCells_mk (l : List UInt8) : Lib.strCells ⟨l.toArray⟩ = Lib.byteCells l := by simp [Lib.strCells, Lib.byteCells]
theorem byteCells_append (a b : List UInt8) : Lib.byteCells a ++ Lib.byteCells b = Lib.byteCells (a ++ b) := by simp [Lib.byteCells]
theorem byteCells_len (a : List UInt8) : (Lib.byteCells a).length = a.length := by simp [Lib.byteCells]

theorem bld_over {B b : Nat} {bs : List Value} {w w' : World} (h : Bld B b bs w) (hb : Below w.heap.size w w') : Bld B b bs w' := by
  have one : ∀ {p : Value}, BldAt B b p bs w → BldAt B b p bs w' := fun {p} h => by
    obtain ⟨hB, v, hbk, hown, hne⟩ := h
    have hlt : b < w.heap.size := (Array.getElem?_eq_some_iff.1 hbk).1
    refine ⟨hB, v, (hb.block b hlt).trans hbk, ?_, hne⟩
    refine ⟨hown.1, ?_⟩
    rcases hown.2 with h0 | ⟨g, cap, cur, rfl, h1, h2, h3⟩
    · exact .inl h0
    · exact .inr ⟨g, cap, cur, rfl, h1, (hb.block g (Array.getElem?_eq_some_iff.1 h2).1).trans h2, h3⟩
  rcases h with h | h
  · exact .inl (one h)
  · exact .inr (one h)

def GivesText (W : World) (l : List UInt8) (e : Ending) (w' : World) : Prop := e = .returned (.string ⟨l.toArray⟩) ∧ Below W.heap.size W w'

theorem noughts_size (k : Nat) : (({ data := #[48, 48, 48, 48, 48, 48, 48, 48, 48] } : ByteArray).extract k 9).size ≤ 1000000 := by
  rw [ByteArray.size_extract]
  have h : ({ data := #[48, 48, 48, 48, 48, 48, 48, 48, 48] } : ByteArray).size = 9 := rfl
  rw [h]
  omega
theorem noughts_cells {k : Nat} (h : k ≤ 9) : Lib.strCells (({ data := #[48, 48, 48, 48, 48, 48, 48, 48, 48] } : ByteArray).extract k 9) = Lib.byteCells (List.replicate (9 - k) 48) := by
  match k, h with
  | 0, _ | 1, _ | 2, _ | 3, _ | 4, _ | 5, _ | 6, _ | 7, _ | 8, _ | 9, _ => rfl
theorem rest_len {ds : List Nat} (hd : Dig ds) (k : Nat) : (restOf ds k).length ≤ 9 * ds.length := by
  unfold restOf
  rw [List.length_flatMap]
  have h : ∀ l : List Nat, (∀ d ∈ l, d < 1000000000) → (l.map fun d => (pad9 (Lib.decDigits d)).length).sum ≤ 9 * l.length := by
    intro l
    induction l with
    | nil => intro _; simp
    | cons d l ih =>
      intro hl
      have h1 := ih (fun x hx => hl x (by simp [hx]))
      have h2 := nDigits9 (hl d (by simp))
      simp only [List.map_cons, List.sum_cons, List.length_cons, pad9, List.length_append, List.length_replicate]
      simp only [pad9, List.length_append, List.length_replicate] at h1
      omega
  have h1 := h ((ds.take (ds.length - 1)).drop k).reverse (fun d hm => hd d (List.mem_of_mem_take (List.mem_of_mem_drop (List.mem_reverse.1 hm))))
  have h2 : ((ds.take (ds.length - 1)).drop k).reverse.length ≤ ds.length := by simp; omega
  omega
theorem text_len {n k : Nat} {neg : Bool} {ds : List Nat} (hR : rightB neg ds = true) (hl : ds.length = n + 1) (hn : n + 1 ≤ 1000) : (headOf neg ds ++ restOf ds k).length ≤ 900000 := by
  have h1 := rest_len (right_dig hR) k
  have h2 : (headOf neg ds).length ≤ 10 := by
    unfold headOf
    rw [List.getD_eq_getElem?_getD, List.getElem?_eq_getElem (by omega), Option.getD_some]
    have := nDigits9 (right_dig hR _ (List.getElem_mem (show ds.length - 1 < ds.length by omega)))
    rw [List.length_append]
    cases neg <;> simp <;> omega
  rw [List.length_append]
  omega

set_option maxRecDepth 100000 in
set_option maxHeartbeats 2000000 in
theorem text_any (neg : Bool) (A : Option Addr) (n c : Nat) (ds : List Nat) (w : World) (hn : n ≤ 1000) (hc : Cells w n c neg A ds) (hdec : DecFor w ds) :
    Calls Tryd.prog 28 #[.agg #[.bool neg, .slice A n c]] w fun e w' => GivesText w (textOf neg ds) e w' := by
  have HC := Lib.hid hc
  have HD := Lib.hid hdec
  clear hc hdec
  go_enter Tryd.func28, Tryd.ntmps28
  go_wp2_with fail
  refine (clean_cells HC.out (by omega) ((Below.refl _ _).alloc (Nat.le_refl _) _)).mono ?_
  rintro e w1 ⟨rfl, hb1⟩
  have hx1 := (Box.new w neg A n c).over hb1.out
  have c0 := hx1.c0
  have c1 := hx1.c1
  have f0 := hx1.f0
  have f1 := hx1.f1
  have hb : Below w.heap.size w w1 := ((Below.refl _ _).alloc (Nat.le_refl _) _).trans (hb1.out.mono (by simp))
  cases n with
  | zero =>
    have HT : Hid (textOf neg ds = [48]) := by show textOf neg ds = [48]; unfold textOf; rw [if_pos HC.out.len]
    go_wp2
    go_ret
    exact ⟨by rw [HT.out]; rfl, below_put hb (Nat.le_refl _) _ _ _ _⟩
  | succ n =>
    have h0 : (((n + 1 : Nat) : Int) == 0) = false := by simp; omega
    have HX1 := Lib.hid hx1
    have HB := Lib.hid hb
    have hlt : w.heap.size < w1.heap.size := hx1.lt
    clear hx1 hb
    have HBL : Hid (Bld w1.heap.size w1.heap.size [] ((put2 w1 w.heap.size neg A (n + 1) c).alloc (.cells #[.pointer none, .slice none 0 0] 99))) := by
      refine .inl ⟨Nat.le_refl _, .slice none 0 0, ?_, World.ownsRow_nil _ _ _ _, by simp [Value.ownBlock]⟩
      have h := heap_alloc_new (put2 w1 w.heap.size neg A (n + 1) c) (.cells #[.pointer none, .slice none 0 0] 99)
      rwa [put2_size] at h
    have HX2 : Hid (Box ((put2 w1 w.heap.size neg A (n + 1) c).alloc (.cells #[.pointer none, .slice none 0 0] 99)) w.heap.size neg A (n + 1) c) := (HX1.out.put neg A (n + 1) c).alloc _
    have HB2 : Hid (Below w.heap.size w ((put2 w1 w.heap.size neg A (n + 1) c).alloc (.cells #[.pointer none, .slice none 0 0] 99))) := (below_put HB.out (Nat.le_refl _) _ _ _ _).alloc (by rw [put2_size]; omega) _
    cases neg with
    | true =>
      go_wp2_with fail
      refine (writeByte_any w1.heap.size w1.heap.size [] 45 _ HBL.out (by simp) (by simp)).mono ?_
      rintro e w3 ⟨rfl, hbl3, hb3⟩
      have HB3 : Hid (Below w.heap.size w w3) := HB2.out.trans (hb3.out.mono (by omega))
      have HX3 := Lib.hid (HX2.out.below hb3.out hlt)
      have hl3 : w1.heap.size < w3.heap.size := by have := hb3.out.size; simp at this; exact this
      have HP3 : Hid (Bld w1.heap.size w1.heap.size (Lib.byteCells [45]) w3) := hbl3.out
      clear hbl3
      have c13 := HX3.out.c1
      have hlen : ds.length = n + 1 := HC.out.len
      obtain ⟨b, off, rfl, hbb, hcell⟩ := (HC.out.over HB3.out).rd.at_ (k := n) (by omega)
      obtain ⟨d, hd⟩ : ∃ d, d = ds[n] := ⟨_, rfl⟩
      rw [← hd] at hcell
      have HDM : Hid (d ∈ ds) := by show d ∈ ds; rw [hd]; exact List.getElem_mem _
      have HH : Hid (headOf true ds = [45] ++ Lib.decDigits d) := by
        show _ = _
        unfold headOf
        rw [List.getD_eq_getElem?_getD, List.getElem?_eq_getElem (by omega)]
        simp only [hlen, Nat.add_sub_cancel, hd]
        rfl
      have HLEN := Lib.hid hlen
      clear hlen hd
      go_wp2_with fail
      refine (HD.out d HDM.out w3 HB3.out).mono ?_
      rintro e w4 ⟨rfl, hb4⟩
      have HX4 := Lib.hid (HX3.out.over hb4.out)
      have HB4 : Hid (Below w.heap.size w w4) := HB3.out.trans (hb4.out.mono (by omega))
      have hl4 : w1.heap.size < w4.heap.size := by have := hb4.out.size; omega
      have HP4 := Lib.hid (bld_over HP3.out hb4.out)
      have hd9 := nDigits9 (right_dig HC.out.right d HDM.out)
      go_wp2_with fail
      refine (writeString_any w1.heap.size w1.heap.size (Lib.byteCells [45]) ⟨(Lib.decDigits d).toArray⟩ w4 HP4.out (by simp [Lib.byteCells]) (by simpa [ByteArray.size] using (show (Lib.decDigits d).length ≤ 1000000 by omega)) (by omega)).mono ?_
      rintro e w5 ⟨rfl, hp5, hb5⟩
      have HP5 : Hid (Bld w1.heap.size w1.heap.size (Lib.byteCells (headOf true ds ++ restOf ds n)) w5) := by
        show Bld _ _ _ _
        have hr : restOf ds n = [] := by have := rest_start ds; rwa [HLEN.out, Nat.add_sub_cancel] at this
        rw [hr, List.append_nil, HH.out, ← byteCells_append, ← strCells_mk]
        exact hp5.out
      have HX5 := Lib.hid (HX4.out.below hb5.out hlt)
      have HB5 : Hid (Below w.heap.size w w5) := HB4.out.trans (hb5.out.mono (by omega))
      have hl5 : w1.heap.size < w5.heap.size := by have := hb5.out.size; omega
      clear hp5 hd9
      go_wp2
      go_loopw [5] (fun i wr => (∃ (k : Nat) (q : Int), k ≤ n ∧ i = .int .i64 q ∧ Hid (q = (k : Int) - 1) ∧ Hid (Bld w1.heap.size w1.heap.size (Lib.byteCells (headOf true ds ++ restOf ds k)) wr)) ∧ Hid (Box wr w.heap.size true (some ⟨b, off, none⟩) (n + 1) c) ∧ Hid (Below w.heap.size w wr) ∧ w1.heap.size < wr.heap.size) (fun i _ => (intOf i + 1).toNat)
      case atStart => exact ⟨⟨n, _, Nat.le_refl _, rfl, rfl, HP5⟩, HX5, HB5, hl5⟩
      case round =>
        obtain ⟨⟨k, q, hk, rfl, hq, hp⟩, hxr, hbr, hlr⟩ := hrel
        cases k with
        | zero =>
          obtain rfl : q = -1 := by have := hq.out; omega
          go_wp2_with fail
          refine (Tryd.Builder_String_any w1.heap.size w1.heap.size _ _ hp.out (by omega)).mono ?_
          rintro e w6 ⟨rfl, hb6⟩
          have HE : Hid (textOf true ds = headOf true ds ++ restOf ds 0) := by show _ = _; unfold textOf; rw [if_neg (by have := HLEN.out; omega)]
          go_wp2
          go_ret
          exact ⟨by rw [HE.out]; rfl, hbr.out.trans (hb6.mono (by omega))⟩
        | succ k =>
          obtain rfl : q = (k : Int) := by have := hq.out; omega
          have d13 := hxr.out.c1
          obtain ⟨b', off', he, _, hcell2⟩ := (HC.out.over hbr.out).rd.at_ (k := k) (by have := HLEN.out; omega)
          injection he with he
          injection he with he1 he2
          subst he1
          subst he2
          obtain ⟨y, hy⟩ : ∃ y, y = ds[k]'(by have := HLEN.out; omega) := ⟨_, rfl⟩
          rw [← hy] at hcell2
          have HYM : Hid (y ∈ ds) := by show y ∈ ds; rw [hy]; exact List.getElem_mem _
          have HR : Hid (restOf ds k = restOf ds (k + 1) ++ pad9 (Lib.decDigits y)) := by show _ = _; rw [hy]; exact rest_step (by have := HLEN.out; omega)
          have hy9 := nDigits9 (right_dig HC.out.right y HYM.out)
          clear hy
          obtain ⟨l, hl⟩ : ∃ l, l = Lib.decDigits y := ⟨_, rfl⟩
          have HL := Lib.hid hl
          rw [← hl] at hy9
          clear hl
          go_wp2_with fail
          refine (HD.out y HYM.out _ hbr.out).mono ?_
          rintro e w6 ⟨rfl, hb6⟩
          rw [← HL.out]
          have HB6 : Hid (Below w.heap.size w w6) := hbr.out.trans (hb6.out.mono (by have := hbr.out.size; omega))
          have hl6 : w1.heap.size < w6.heap.size := by have := hb6.out.size; omega
          have HTL : Hid ((headOf true ds ++ restOf ds (k + 1)).length ≤ 900000) := text_len HC.out.right HLEN.out hn
          go_wp2_with fail
          refine (writeString_any w1.heap.size w1.heap.size _ _ w6 (bld_over hp.out hb6.out) (by rw [byteCells_len]; have := HTL.out; omega) (noughts_size l.length) (by omega)).mono ?_
          rintro e w7 ⟨rfl, hp7, hb7⟩
          have HB7 : Hid (Below w.heap.size w w7) := HB6.out.trans (hb7.out.mono (by omega))
          have hl7 : w1.heap.size < w7.heap.size := by have := hb7.out.size; omega
          have HP7 : Hid (Bld w1.heap.size w1.heap.size (Lib.byteCells ((headOf true ds ++ restOf ds (k + 1)) ++ List.replicate (9 - l.length) 48)) w7) := by
            show Bld _ _ _ _
            rw [← byteCells_append, ← noughts_cells hy9]
            exact hp7.out
          go_wp2_with fail
          refine (writeString_any w1.heap.size w1.heap.size _ ⟨l.toArray⟩ w7 HP7.out (by rw [byteCells_len, List.length_append, List.length_replicate]; have := HTL.out; omega) (by show l.toArray.size ≤ 1000000; simp; omega) (by omega)).mono ?_
          rintro e w8 ⟨rfl, hp8, hb8⟩
          have HB8 : Hid (Below w.heap.size w w8) := HB7.out.trans (hb8.out.mono (by omega))
          have hl8 : w1.heap.size < w8.heap.size := by have := hb8.out.size; omega
          have HX8 := Lib.hid (((hxr.out.over hb6.out).below hb7.out hlt).below hb8.out hlt)
          have HP8 : Hid (Bld w1.heap.size w1.heap.size (Lib.byteCells (headOf true ds ++ restOf ds k)) w8) := by
            show Bld _ _ _ _
            have e : Lib.byteCells (headOf true ds ++ restOf ds k) = Lib.byteCells ((headOf true ds ++ restOf ds (k + 1)) ++ List.replicate (9 - l.length) 48) ++ Lib.strCells ⟨l.toArray⟩ := by
              rw [HR.out, ← HL.out, strCells_mk, byteCells_append, pad9]
              simp only [List.append_assoc]
            rw [e]
            exact hp8.out
          clear hp7 hp8
          go_wp2
          go_roundw
          case rel => exact ⟨⟨k, _, by omega, rfl, rfl, HP8⟩, HX8, HB8, hl8⟩
          case measure => simp [intOf]
    | false =>
      have HB3 := HB2
      have HX3 := HX2
      have HP3 : Hid (Bld w1.heap.size w1.heap.size (Lib.byteCells []) ((put2 w1 w.heap.size false A (n + 1) c).alloc (.cells #[.pointer none, .slice none 0 0] 99))) := HBL
      clear HB2 HX2 HBL
      have hlen : ds.length = n + 1 := HC.out.len
      obtain ⟨b, off, rfl, hbb, hcell⟩ := (HC.out.over HB3.out).rd.at_ (k := n) (by omega)
      obtain ⟨d, hd⟩ : ∃ d, d = ds[n] := ⟨_, rfl⟩
      rw [← hd] at hcell
      have HDM : Hid (d ∈ ds) := by show d ∈ ds; rw [hd]; exact List.getElem_mem _
      have HH : Hid (headOf false ds = [] ++ Lib.decDigits d) := by
        show _ = _
        unfold headOf
        rw [List.getD_eq_getElem?_getD, List.getElem?_eq_getElem (by omega)]
        simp only [hlen, Nat.add_sub_cancel, hd]
        rfl
      have HLEN := Lib.hid hlen
      clear hlen hd
      go_wp2_with fail
      refine (HD.out d HDM.out _ HB3.out).mono ?_
      rintro e w4 ⟨rfl, hb4⟩
      have HX4 := Lib.hid (HX3.out.over hb4.out)
      have HB4 : Hid (Below w.heap.size w w4) := HB3.out.trans (hb4.out.mono (by simp; omega))
      have hl4 : w1.heap.size < w4.heap.size := by have := hb4.out.size; simp at this; omega
      have HP4 := Lib.hid (bld_over HP3.out hb4.out)
      have hd9 := nDigits9 (right_dig HC.out.right d HDM.out)
      go_wp2_with fail
      refine (writeString_any w1.heap.size w1.heap.size (Lib.byteCells []) ⟨(Lib.decDigits d).toArray⟩ w4 HP4.out (by simp [Lib.byteCells]) (by simpa [ByteArray.size] using (show (Lib.decDigits d).length ≤ 1000000 by omega)) (by omega)).mono ?_
      rintro e w5 ⟨rfl, hp5, hb5⟩
      have HP5 : Hid (Bld w1.heap.size w1.heap.size (Lib.byteCells (headOf false ds ++ restOf ds n)) w5) := by
        show Bld _ _ _ _
        have hr : restOf ds n = [] := by have := rest_start ds; rwa [HLEN.out, Nat.add_sub_cancel] at this
        rw [hr, List.append_nil, HH.out, ← byteCells_append, ← strCells_mk]
        exact hp5.out
      have HX5 := Lib.hid (HX4.out.below hb5.out hlt)
      have HB5 : Hid (Below w.heap.size w w5) := HB4.out.trans (hb5.out.mono (by omega))
      have hl5 : w1.heap.size < w5.heap.size := by have := hb5.out.size; omega
      clear hp5 hd9
      go_wp2
      go_loopw [5] (fun i wr => (∃ (k : Nat) (q : Int), k ≤ n ∧ i = .int .i64 q ∧ Hid (q = (k : Int) - 1) ∧ Hid (Bld w1.heap.size w1.heap.size (Lib.byteCells (headOf false ds ++ restOf ds k)) wr)) ∧ Hid (Box wr w.heap.size false (some ⟨b, off, none⟩) (n + 1) c) ∧ Hid (Below w.heap.size w wr) ∧ w1.heap.size < wr.heap.size) (fun i _ => (intOf i + 1).toNat)
      case atStart => exact ⟨⟨n, _, Nat.le_refl _, rfl, rfl, HP5⟩, HX5, HB5, hl5⟩
      case round =>
        obtain ⟨⟨k, q, hk, rfl, hq, hp⟩, hxr, hbr, hlr⟩ := hrel
        cases k with
        | zero =>
          obtain rfl : q = -1 := by have := hq.out; omega
          go_wp2_with fail
          refine (Tryd.Builder_String_any w1.heap.size w1.heap.size _ _ hp.out (by omega)).mono ?_
          rintro e w6 ⟨rfl, hb6⟩
          have HE : Hid (textOf false ds = headOf false ds ++ restOf ds 0) := by show _ = _; unfold textOf; rw [if_neg (by have := HLEN.out; omega)]
          go_wp2
          go_ret
          exact ⟨by rw [HE.out]; rfl, hbr.out.trans (hb6.mono (by omega))⟩
        | succ k =>
          obtain rfl : q = (k : Int) := by have := hq.out; omega
          have d13 := hxr.out.c1
          obtain ⟨b', off', he, _, hcell2⟩ := (HC.out.over hbr.out).rd.at_ (k := k) (by have := HLEN.out; omega)
          injection he with he
          injection he with he1 he2
          subst he1
          subst he2
          obtain ⟨y, hy⟩ : ∃ y, y = ds[k]'(by have := HLEN.out; omega) := ⟨_, rfl⟩
          rw [← hy] at hcell2
          have HYM : Hid (y ∈ ds) := by show y ∈ ds; rw [hy]; exact List.getElem_mem _
          have HR : Hid (restOf ds k = restOf ds (k + 1) ++ pad9 (Lib.decDigits y)) := by show _ = _; rw [hy]; exact rest_step (by have := HLEN.out; omega)
          have hy9 := nDigits9 (right_dig HC.out.right y HYM.out)
          clear hy
          obtain ⟨l, hl⟩ : ∃ l, l = Lib.decDigits y := ⟨_, rfl⟩
          have HL := Lib.hid hl
          rw [← hl] at hy9
          clear hl
          go_wp2_with fail
          refine (HD.out y HYM.out _ hbr.out).mono ?_
          rintro e w6 ⟨rfl, hb6⟩
          rw [← HL.out]
          have HB6 : Hid (Below w.heap.size w w6) := hbr.out.trans (hb6.out.mono (by have := hbr.out.size; omega))
          have hl6 : w1.heap.size < w6.heap.size := by have := hb6.out.size; omega
          have HTL : Hid ((headOf false ds ++ restOf ds (k + 1)).length ≤ 900000) := text_len HC.out.right HLEN.out hn
          go_wp2_with fail
          refine (writeString_any w1.heap.size w1.heap.size _ _ w6 (bld_over hp.out hb6.out) (by rw [byteCells_len]; have := HTL.out; omega) (noughts_size l.length) (by omega)).mono ?_
          rintro e w7 ⟨rfl, hp7, hb7⟩
          have HB7 : Hid (Below w.heap.size w w7) := HB6.out.trans (hb7.out.mono (by omega))
          have hl7 : w1.heap.size < w7.heap.size := by have := hb7.out.size; omega
          have HP7 : Hid (Bld w1.heap.size w1.heap.size (Lib.byteCells ((headOf false ds ++ restOf ds (k + 1)) ++ List.replicate (9 - l.length) 48)) w7) := by
            show Bld _ _ _ _
            rw [← byteCells_append, ← noughts_cells hy9]
            exact hp7.out
          go_wp2_with fail
          refine (writeString_any w1.heap.size w1.heap.size _ ⟨l.toArray⟩ w7 HP7.out (by rw [byteCells_len, List.length_append, List.length_replicate]; have := HTL.out; omega) (by show l.toArray.size ≤ 1000000; simp; omega) (by omega)).mono ?_
          rintro e w8 ⟨rfl, hp8, hb8⟩
          have HB8 : Hid (Below w.heap.size w w8) := HB7.out.trans (hb8.out.mono (by omega))
          have hl8 : w1.heap.size < w8.heap.size := by have := hb8.out.size; omega
          have HX8 := Lib.hid (((hxr.out.over hb6.out).below hb7.out hlt).below hb8.out hlt)
          have HP8 : Hid (Bld w1.heap.size w1.heap.size (Lib.byteCells (headOf false ds ++ restOf ds k)) w8) := by
            show Bld _ _ _ _
            have e : Lib.byteCells (headOf false ds ++ restOf ds k) = Lib.byteCells ((headOf false ds ++ restOf ds (k + 1)) ++ List.replicate (9 - l.length) 48) ++ Lib.strCells ⟨l.toArray⟩ := by
              rw [HR.out, ← HL.out, strCells_mk, byteCells_append, pad9]
              simp only [List.append_assoc]
            rw [e]
            exact hp8.out
          clear hp7 hp8
          go_wp2
          go_roundw
          case rel => exact ⟨⟨k, _, by omega, rfl, rfl, HP8⟩, HX8, HB8, hl8⟩
          case measure => simp [intOf]
end Go.Proofs.YtpikbhcjgcbdfaaDoor.wh

/- The statements' first part: the example of the document (speaks); Odd; the document's answers Right and Same. -/
namespace Go.Proofs.YtpikbhcjgcbdfaaDoor.wh
open Go.RowKit

theorem zval_unique {neg neg' : Bool} {ds ds' : List Nat} (h : rightB neg ds = true) (h' : rightB neg' ds' = true) (e : zval neg ds = zval neg' ds') : neg = neg' ∧ ds = ds' := by
  have hv : val ds = val ds' := by rw [← zval_abs neg ds, e, zval_abs]
  have hd := val_inj (right_dig h) (right_dig h') (right_top h) (right_top h') hv
  subst hd
  refine ⟨?_, rfl⟩
  by_cases hn : ds.length = 0
  · have hz := List.eq_nil_of_length_eq_zero hn
    subst hz
    rw [right_nil h, right_nil h']
  · have := top_pos (right_top h) (by omega)
    cases neg <;> cases neg' <;> simp [zval] at e ⊢ <;> omega

/-- Text of an integer below 100 -/
theorem text_small {v : Value} {m : Nat} {z : Int} {neg : Bool} {ds : List Nat} {l : List UInt8} {w0 w : World} (hm : m ≤ 1000) (hi : IsInt w0 w0.heap.size m v z) (hb : Below w0.heap.size w0 w) (hR : rightB neg ds = true) (hz : zval neg ds = z) (hs : ∀ d ∈ ds, d < 100) (hl : textOf neg ds = l) :
    Calls Tryd.prog 28 #[v] w fun e w' => GivesText w l e w' := by
  obtain ⟨neg', A, n, c, ds', rfl, hnm, HC, HZ⟩ := hi.cells
  obtain ⟨rfl, rfl⟩ := zval_unique HC.out.right hR (HZ.out.trans hz.symm)
  rw [← hl]
  refine text_any neg' A n c ds' w (by omega) (HC.out.over hb) (fun d hd W _ => ?_)
  exact (small_dec d W (hs d hd)).mono fun e w' h => ⟨h.1, by rw [← h.2]; exact Below.refl _ _⟩

theorem text_m4 : textOf true [4] = [45, 52] := by
  simp [textOf, headOf, restOf, Lib.decDigits_one]
theorem text_1 : textOf false [1] = [49] := by
  simp [textOf, headOf, restOf, Lib.decDigits_one]

/-- of a divisor of one digit -/
theorem divides_one {X Y : Nat} (h0 : 0 < Y) (hY : Y < 1000000000) : Divides X Y := by
  intro xs ys A B n c m d w hx hy dx dy hn hm hm0
  subst hx hy
  have hm1 : m = 1 := by
    have := top_len dy.top (m := 1) (by omega)
    have := dy.len
    omega
  subst hm1
  rcases Nat.lt_or_ge (val xs) (val ys) with h | h
  · exact divide_less dx dy hn h
  · exact divide_one dx dy hn h

set_option maxRecDepth 100000 in
set_option maxHeartbeats 1000000 in
theorem speaks_any (w : World) : Calls Tryd.prog 11 #[] w fun e w' => e = .returned (.bool true) ∧ Below w.heap.size w w' := by
  have hd : Hid ((2 : Int) ≠ 0 → Divides (-7 : Int).natAbs (2 : Int).natAbs) := fun _ => divides_one (by decide) (by decide)
  go_enter Tryd.func11, Tryd.ntmps11
  go_wp2_with fail
  refine (of_any (-7) w (by omega) (by omega)).mono ?_
  rintro e w1 ⟨v1, rfl, hi1, hb1⟩
  go_wp2_with fail
  refine (of_any 2 w1 (by omega) (by omega)).mono ?_
  rintro e w2 ⟨v2, rfl, hi2, hb2⟩
  go_wp2_with fail
  refine (div_any v1 v2 3 3 (-7) 2 w2 (by omega) (by omega) ((hi1.below hb2).more hb2.size (Nat.le_refl _)) hi2 hd.out).mono ?_
  rintro e w3 ⟨x1, A1, n1, c1, x2, A2, n2, c2, rfl, hq, hr, hb3⟩
  have HBW : Hid (Below w.heap.size w w3) := hb1.trans ((hb2.mono hb1.size).trans (hb3.out.mono (by have := hb1.size; have := hb2.size; omega)))
  have hs3 : w.heap.size ≤ w3.heap.size := HBW.out.size
  clear hi1 hi2 hb1 hb2
  have hal : Hid (Below w3.heap.size w3 ((w3.alloc (.cells #[.bool x1, .slice A1 n1 c1] 24)).alloc (.cells #[.bool x2, .slice A2 n2 c2] 24))) := ((Below.refl _ _).alloc (Nat.le_refl _) _).alloc (by simp) _
  go_wp2_with fail
  refine (text_small (neg := true) (ds := [4]) (by omega) hq.out hal.out (by rfl) (by rfl) (by simp) text_m4).mono ?_
  rintro e w4 ⟨rfl, hb4⟩
  have hb4' : Hid (Below w3.heap.size w3 w4) := hal.out.trans (hb4.mono (by simp; omega))
  have hx4 := Box.below (w' := w4) (B := w3.heap.size + 2) (by have h := Box.new (w3.alloc (.cells #[.bool x1, .slice A1 n1 c1] 24)) x2 A2 n2 c2; rw [World.size_alloc] at h; exact h) (by simpa using hb4) (by omega)
  have c0 := hx4.c0
  have c1 := hx4.c1
  go_wp2_with fail
  refine (text_small (neg := false) (ds := [1]) (by omega) hr.out hb4'.out (by rfl) (by rfl) (by simp) text_1).mono ?_
  rintro e w5 ⟨rfl, hb5⟩
  go_wp2
  go_ret
  exact ⟨rfl, HBW.trans ((hb4'.out.mono hs3).trans (hb5.mono (by have := hb4'.out.size; omega)))⟩
end Go.Proofs.YtpikbhcjgcbdfaaDoor.wh

/- The document's answer Right; Odd: whether integers are more than are looked at, or not right. -/
namespace Go.Proofs.YtpikbhcjgcbdfaaDoor.wh
open Go.RowKit

set_option maxHeartbeats 400000 in
theorem refRight_any (neg : Bool) (A : Option Addr) (c : Nat) (ds : List Nat) (w : World) (hn : ds.length ≤ maxLen) (hr : Rd w w.heap.size A ds) :
    Calls Tryd.prog 33 #[.agg #[.bool neg, .slice A ds.length c]] w fun e w' => e = .returned (.bool (rightB neg ds)) ∧ Below w.heap.size w w' := by
  unfold maxLen at hn
  have HR := Lib.hid hr
  clear hr
  go_enter Tryd.func33, Tryd.ntmps33
  go_wp2
  go_loop [3] (fun i => ∃ k : Nat, k ≤ ds.length ∧ i = .int .i64 k ∧ Hid (∀ j (hj : j < ds.length), j < k → ds[j] < 1000000000)) (fun i => ds.length - (intOf i).toNat)
  case atStart => exact ⟨0, Nat.zero_le _, rfl, fun j _ hk => absurd hk (by omega)⟩
  case round =>
    obtain ⟨k, hk, rfl, ha⟩ := hrel
    by_cases hlt : k < ds.length
    · obtain ⟨b, off, rfl, hb, hc⟩ := HR.out.at_ hlt
      have hc1 : (w.alloc (.cells #[.bool neg, .slice (some ⟨b, off, none⟩) ds.length c] 24)).cell? ⟨b, off + k, none⟩ = some (.int .u32 ((ds[k] : Nat) : Int)) := by
        rw [World.cell?_alloc_lt _ _ _ (by simpa using hb)]; exact hc
      by_cases hd : ds[k] < 1000000000
      · have hd' : ¬ ((999999999 : Int) < ((ds[k] : Nat) : Int)) := by omega
        go_wp2
        go_round
        case rel => exact ⟨k + 1, by omega, by go_num, fun j hj hjk => by
          by_cases e : j = k
          · subst e; exact hd
          · exact ha.out j hj (by omega)⟩
        case measure => simp [intOf]; omega
      · have hd' : ((999999999 : Int) < ((ds[k] : Nat) : Int)) := by omega
        go_wp2
        go_ret
        exact ⟨ret_bool (rightB_false k hlt (by omega)).symm, (Below.refl _ _).alloc (Nat.le_refl _) _⟩
    · have hall : Hid (rightB neg ds = (if ds.length = 0 then !neg else decide (ds.getD (ds.length - 1) 0 ≠ 0))) := rightB_all fun j hj => ha.out j hj (by omega)
      by_cases h0 : ds.length = 0
      · have h0' : (((ds.length : Nat) : Int) == 0) = true := by simp [h0]
        have H0 := Lib.hid h0
        clear h0
        go_wp2
        go_ret
        refine ⟨ret_bool ?_, (Below.refl _ _).alloc (Nat.le_refl _) _⟩
        rw [hall.out, if_pos H0.out]
      · have h0' : (((ds.length : Nat) : Int) == 0) = false := by simpa using h0
        obtain ⟨b, off, rfl, hb, hc⟩ := HR.out.at_ (k := ds.length - 1) (by omega)
        have hc1 : (w.alloc (.cells #[.bool neg, .slice (some ⟨b, off, none⟩) ds.length c] 24)).cell? ⟨b, off + (ds.length - 1), none⟩ = some (.int .u32 ((ds[ds.length - 1] : Nat) : Int)) := by
          rw [World.cell?_alloc_lt _ _ _ (by simpa using hb)]; exact hc
        go_wp2
        go_ret
        refine ⟨ret_bool ?_, (Below.refl _ _).alloc (Nat.le_refl _) _⟩
        rw [hall.out, if_neg h0]
        rw [List.getD_eq_getElem?_getD, List.getElem?_eq_getElem (by omega)]
        rw [Bool.eq_iff_iff]
        simp

/-- An integer as it came in: its sign, its slice, its digits. -/
structure El where
  neg : Bool
  A : Option Addr
  c : Nat
  ds : List Nat
def El.val (e : El) : Value := .agg #[.bool e.neg, .slice e.A e.ds.length e.c]
/-- more digits than are looked at, or none that may be -/
def El.odd (e : El) : Bool := decide (10 < e.ds.length) || !rightB e.neg e.ds
def El.Ok (w : World) (e : El) : Prop := e.ds.length ≤ maxLen ∧ Rd w w.heap.size e.A e.ds
theorem El.Ok.over {w w' : World} {e : El} (h : e.Ok w) (hb : Below w.heap.size w w') : e.Ok w' := ⟨h.1, h.2.over hb⟩
/-- the cells of a row of integers -/
def ElsAt (w : World) (g : Nat) (es : List El) : Prop := ∀ i (h : i < es.length), w.cell? ⟨g, i * 2, none⟩ = some (.bool (es[i]'h).neg) ∧ w.cell? ⟨g, i * 2 + 1, none⟩ = some (.slice (es[i]'h).A (es[i]'h).ds.length (es[i]'h).c)

set_option maxRecDepth 100000 in
set_option maxHeartbeats 1000000 in
theorem odd_any (g k : Nat) (es : List El) (w : World) (hl : es.length = k) (hk : k ≤ 1000) (hg : g < w.heap.size) (hcells : ElsAt w g es) (hok : ∀ e ∈ es, e.Ok w) :
    Calls Tryd.prog 12 #[.slice (some ⟨g, 0, none⟩) k k] w fun e w' => e = .returned (.bool (es.any El.odd)) ∧ Below w.heap.size w w' := by
  subst hl
  have HC := Lib.hid hcells
  have HO := Lib.hid hok
  clear hcells hok
  go_enter Tryd.func12, Tryd.ntmps12
  go_wp2
  go_loopw [7] (fun i wr => (∃ k : Nat, k ≤ es.length ∧ i = .int .i64 k ∧ Hid ((es.take k).any El.odd = false)) ∧ Below w.heap.size w wr) (fun i _ => es.length - (intOf i).toNat)
  case atStart => exact ⟨⟨0, Nat.zero_le _, rfl, rfl⟩, Below.refl _ _⟩
  case round =>
    obtain ⟨⟨k, hk, rfl, ha⟩, hb⟩ := hrel
    by_cases hlt : k < es.length
    · have h0 := (hb.cell (p := ⟨g, k * 2, none⟩) hg).trans (HC.out k hlt).1
      have h1 := (hb.cell (p := ⟨g, k * 2 + 1, none⟩) hg).trans (HC.out k hlt).2
      obtain ⟨x, hx⟩ : ∃ x, x = es[k] := ⟨_, rfl⟩
      rw [← hx] at h0 h1
      obtain ⟨neg, A, c, ds⟩ := x
      simp only at h0 h1
      have HX := Lib.hid hx
      clear hx
      have HIT : ∀ b : Bool, El.odd ⟨neg, A, c, ds⟩ = b → (es.take (k + 1)).any El.odd = b := fun b h => by
        rw [List.take_succ_eq_append_getElem hlt, List.any_append, ha.out, ← HX.out]
        simp [h]
      have HANY : El.odd ⟨neg, A, c, ds⟩ = true → es.any El.odd = true := fun h => by
        rw [List.any_eq_true]
        exact ⟨es[k], List.getElem_mem hlt, by rw [← HX.out]; exact h⟩
      have HI := Lib.hid HIT
      have HN := Lib.hid HANY
      have HE : Hid (El.Ok w ⟨neg, A, c, ds⟩) := by show El.Ok w _; rw [HX.out]; exact HO.out _ (List.getElem_mem hlt)
      clear HIT HANY
      by_cases h10 : 10 < ds.length
      · have h10' : (10 : Int) < ((ds.length : Nat) : Int) := by omega
        go_wp2
        go_ret
        exact ⟨ret_bool (HN.out (by unfold El.odd; simp [h10])).symm, hb.alloc hb.size _⟩
      · have h10' : ¬ (10 : Int) < ((ds.length : Nat) : Int) := by omega
        go_wp2_with fail
        refine (refRight_any neg A c ds _ HE.out.1 (((HE.out.over hb).2).alloc' _)).mono ?_
        rintro e w1 ⟨rfl, hb1⟩
        have hb2 : Below w.heap.size w w1 := (hb.alloc hb.size _).trans (hb1.mono (by simp; have := hb.size; omega))
        cases hr : rightB neg ds with
        | true =>
          have HR := Lib.hid hr
          clear hr
          go_wp2
          go_roundw
          case rel => exact ⟨⟨k + 1, by omega, by go_num, HI.out false (by unfold El.odd; rw [HR.out]; simp; omega)⟩, hb2⟩
          case measure => simp [intOf]; omega
        | false =>
          have HR := Lib.hid hr
          clear hr
          go_wp2
          go_ret
          exact ⟨ret_bool (HN.out (by unfold El.odd; rw [HR.out]; simp)).symm, hb2⟩
    · obtain rfl : k = es.length := by omega
      have HA : Hid (es.any El.odd = false) := by have h := ha.out; rwa [List.take_length] at h
      go_wp2
      go_ret
      exact ⟨ret_bool HA.out.symm, hb⟩
end Go.Proofs.YtpikbhcjgcbdfaaDoor.wh
