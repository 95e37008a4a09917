/- Package whole: Text, out of decimal's contract at its digits. -/
import Derived.Test.YtgmnpajecpjklaaDoorText
namespace Go.Proofs.YtgmnpajecpjklaaDoor.wh
open Go.RowKit

def DecFor (w : World) (ds : List Nat) : Prop := ∀ d, d ∈ ds → ∀ W, Below w.heap.size w W →
  Calls Tryd.prog 50 #[.int .u32 d] W fun e w' => e = .returned (.string ⟨(Lib.decDigits d).toArray⟩) ∧ Hid (Below W.heap.size W w')

def pad9 (l : List UInt8) : List UInt8 := List.replicate (9 - l.length) 48 ++ l
/-- the digits' text behind the first one, down to place k -/
def restOf (ds : List Nat) (k : Nat) : List UInt8 := ((ds.take (ds.length - 1)).drop k).reverse.flatMap fun d => pad9 (Lib.decDigits d)
def headOf (neg : Bool) (ds : List Nat) : List UInt8 := (if neg then [45] else []) ++ Lib.decDigits (ds.getD (ds.length - 1) 0)
def textOf (neg : Bool) (ds : List Nat) : List UInt8 := if ds.length = 0 then [48] else headOf neg ds ++ restOf ds 0

theorem rest_start (ds : List Nat) : restOf ds (ds.length - 1) = [] := by
  unfold restOf
  rw [List.drop_eq_nil_of_le (by rw [List.length_take]; omega)]
  rfl
theorem rest_step {ds : List Nat} {k : Nat} (hk : k + 1 < ds.length) : restOf ds k = restOf ds (k + 1) ++ pad9 (Lib.decDigits (ds[k]'(by omega))) := by
  unfold restOf
  rw [List.drop_eq_getElem_cons (by rw [List.length_take]; omega)]
  simp
theorem nDigits9 {d : Nat} (h : d < 1000000000) : (Lib.decDigits d).length ≤ 9 := by
  rw [Lib.decDigits_length]
  have hk : ∀ (k u : Nat), u < 10 ^ (k + 1) → Lib.nDigits u ≤ k + 1 := by
    intro k
    induction k with
    | zero => intro u hu; rw [Lib.nDigits_small (by omega)]; omega
    | succ k ih =>
      intro u hu
      by_cases h : u < 10
      · rw [Lib.nDigits_small h]; omega
      · rw [Lib.nDigits_big h]
        have := ih (u / 10) (by rw [Nat.pow_succ] at hu; omega)
        omega
  exact hk 8 d (by omega)
theorem strCells_mk (l : List UInt8) : Lib.strCells ⟨l.toArray⟩ = Lib.byteCells l := by simp [Lib.strCells, Lib.byteCells]
theorem byteCells_append (a b : List UInt8) : Lib.byteCells a ++ Lib.byteCells b = Lib.byteCells (a ++ b) := by simp [Lib.byteCells]
theorem byteCells_len (a : List UInt8) : (Lib.byteCells a).length = a.length := by simp [Lib.byteCells]

theorem bld_over {B b : Nat} {bs : List Value} {w w' : World} (h : Bld B b bs w) (hb : Below w.heap.size w w') : Bld B b bs w' := by
  have one : ∀ {p : Value}, BldAt B b p bs w → BldAt B b p bs w' := fun {p} h => by
    obtain ⟨hB, v, hbk, hown, hne⟩ := h
    have hlt : b < w.heap.size := (Array.getElem?_eq_some_iff.1 hbk).1
    refine ⟨hB, v, (hb.block b hlt).trans hbk, ?_, hne⟩
    refine ⟨hown.1, ?_⟩
    rcases hown.2 with h0 | ⟨g, cap, cur, rfl, h1, h2, h3⟩
    · exact .inl h0
    · exact .inr ⟨g, cap, cur, rfl, h1, (hb.block g (Array.getElem?_eq_some_iff.1 h2).1).trans h2, h3⟩
  rcases h with h | h
  · exact .inl (one h)
  · exact .inr (one h)

def GivesText (W : World) (l : List UInt8) (e : Ending) (w' : World) : Prop := e = .returned (.string ⟨l.toArray⟩) ∧ Below W.heap.size W w'

theorem noughts_size (k : Nat) : (({ data := #[48, 48, 48, 48, 48, 48, 48, 48, 48] } : ByteArray).extract k 9).size ≤ 1000000 := by
  rw [ByteArray.size_extract]
  have h : ({ data := #[48, 48, 48, 48, 48, 48, 48, 48, 48] } : ByteArray).size = 9 := rfl
  rw [h]
  omega
theorem noughts_cells {k : Nat} (h : k ≤ 9) : Lib.strCells (({ data := #[48, 48, 48, 48, 48, 48, 48, 48, 48] } : ByteArray).extract k 9) = Lib.byteCells (List.replicate (9 - k) 48) := by
  match k, h with
  | 0, _ | 1, _ | 2, _ | 3, _ | 4, _ | 5, _ | 6, _ | 7, _ | 8, _ | 9, _ => rfl
theorem rest_len {ds : List Nat} (hd : Dig ds) (k : Nat) : (restOf ds k).length ≤ 9 * ds.length := by
  unfold restOf
  rw [List.length_flatMap]
  have h : ∀ l : List Nat, (∀ d ∈ l, d < 1000000000) → (l.map fun d => (pad9 (Lib.decDigits d)).length).sum ≤ 9 * l.length := by
    intro l
    induction l with
    | nil => intro _; simp
    | cons d l ih =>
      intro hl
      have h1 := ih (fun x hx => hl x (by simp [hx]))
      have h2 := nDigits9 (hl d (by simp))
      simp only [List.map_cons, List.sum_cons, List.length_cons, pad9, List.length_append, List.length_replicate]
      simp only [pad9, List.length_append, List.length_replicate] at h1
      omega
  have h1 := h ((ds.take (ds.length - 1)).drop k).reverse (fun d hm => hd d (List.mem_of_mem_take (List.mem_of_mem_drop (List.mem_reverse.1 hm))))
  have h2 : ((ds.take (ds.length - 1)).drop k).reverse.length ≤ ds.length := by simp; omega
  omega
theorem text_len {n k : Nat} {neg : Bool} {ds : List Nat} (hR : rightB neg ds = true) (hl : ds.length = n + 1) (hn : n + 1 ≤ 1000) : (headOf neg ds ++ restOf ds k).length ≤ 900000 := by
  have h1 := rest_len (right_dig hR) k
  have h2 : (headOf neg ds).length ≤ 10 := by
    unfold headOf
    rw [List.getD_eq_getElem?_getD, List.getElem?_eq_getElem (by omega), Option.getD_some]
    have := nDigits9 (right_dig hR _ (List.getElem_mem (show ds.length - 1 < ds.length by omega)))
    rw [List.length_append]
    cases neg <;> simp <;> omega
  rw [List.length_append]
  omega

set_option maxRecDepth 100000 in
set_option maxHeartbeats 2000000 in
theorem text_any (neg : Bool) (A : Option Addr) (n c : Nat) (ds : List Nat) (w : World) (hn : n ≤ 1000) (hc : Cells w n c neg A ds) (hdec : DecFor w ds) :
    Calls Tryd.prog 24 #[.agg #[.bool neg, .slice A n c]] w fun e w' => GivesText w (textOf neg ds) e w' := by
  have HC := Lib.hid hc
  have HD := Lib.hid hdec
  clear hc hdec
  go_enter Tryd.func24, Tryd.ntmps24
  go_wp2_with fail
  refine (clean_cells HC.out (by omega) ((Below.refl _ _).alloc (Nat.le_refl _) _)).mono ?_
  rintro e w1 ⟨rfl, hb1⟩
  have hx1 := (Box.new w neg A n c).over hb1.out
  have c0 := hx1.c0
  have c1 := hx1.c1
  have f0 := hx1.f0
  have f1 := hx1.f1
  have hb : Below w.heap.size w w1 := ((Below.refl _ _).alloc (Nat.le_refl _) _).trans (hb1.out.mono (by simp))
  cases n with
  | zero =>
    have HT : Hid (textOf neg ds = [48]) := by show textOf neg ds = [48]; unfold textOf; rw [if_pos HC.out.len]
    go_wp2
    go_ret
    exact ⟨by rw [HT.out]; rfl, below_put hb (Nat.le_refl _) _ _ _ _⟩
  | succ n =>
    have h0 : (((n + 1 : Nat) : Int) == 0) = false := by simp; omega
    have HX1 := Lib.hid hx1
    have HB := Lib.hid hb
    have hlt : w.heap.size < w1.heap.size := hx1.lt
    clear hx1 hb
    have HBL : Hid (Bld w1.heap.size w1.heap.size [] ((put2 w1 w.heap.size neg A (n + 1) c).alloc (.cells #[.pointer none, .slice none 0 0] 75))) := by
      refine .inl ⟨Nat.le_refl _, .slice none 0 0, ?_, World.ownsRow_nil _ _ _ _, by simp [Value.ownBlock]⟩
      have h := heap_alloc_new (put2 w1 w.heap.size neg A (n + 1) c) (.cells #[.pointer none, .slice none 0 0] 75)
      rwa [put2_size] at h
    have HX2 : Hid (Box ((put2 w1 w.heap.size neg A (n + 1) c).alloc (.cells #[.pointer none, .slice none 0 0] 75)) w.heap.size neg A (n + 1) c) := (HX1.out.put neg A (n + 1) c).alloc _
    have HB2 : Hid (Below w.heap.size w ((put2 w1 w.heap.size neg A (n + 1) c).alloc (.cells #[.pointer none, .slice none 0 0] 75))) := (below_put HB.out (Nat.le_refl _) _ _ _ _).alloc (by rw [put2_size]; omega) _
    cases neg with
    | true =>
      go_wp2_with fail
      refine (writeByte_any w1.heap.size w1.heap.size [] 45 _ HBL.out (by simp) (by simp)).mono ?_
      rintro e w3 ⟨rfl, hbl3, hb3⟩
      have HB3 : Hid (Below w.heap.size w w3) := HB2.out.trans (hb3.out.mono (by omega))
      have HX3 := Lib.hid (HX2.out.below hb3.out hlt)
      have hl3 : w1.heap.size < w3.heap.size := by have := hb3.out.size; simp at this; exact this
      have HP3 : Hid (Bld w1.heap.size w1.heap.size (Lib.byteCells [45]) w3) := hbl3.out
      clear hbl3
      have c13 := HX3.out.c1
      have hlen : ds.length = n + 1 := HC.out.len
      obtain ⟨b, off, rfl, hbb, hcell⟩ := (HC.out.over HB3.out).rd.at_ (k := n) (by omega)
      obtain ⟨d, hd⟩ : ∃ d, d = ds[n] := ⟨_, rfl⟩
      rw [← hd] at hcell
      have HDM : Hid (d ∈ ds) := by show d ∈ ds; rw [hd]; exact List.getElem_mem _
      have HH : Hid (headOf true ds = [45] ++ Lib.decDigits d) := by
        show _ = _
        unfold headOf
        rw [List.getD_eq_getElem?_getD, List.getElem?_eq_getElem (by omega)]
        simp only [hlen, Nat.add_sub_cancel, hd]
        rfl
      have HLEN := Lib.hid hlen
      clear hlen hd
      go_wp2_with fail
      refine (HD.out d HDM.out w3 HB3.out).mono ?_
      rintro e w4 ⟨rfl, hb4⟩
      have HX4 := Lib.hid (HX3.out.over hb4.out)
      have HB4 : Hid (Below w.heap.size w w4) := HB3.out.trans (hb4.out.mono (by omega))
      have hl4 : w1.heap.size < w4.heap.size := by have := hb4.out.size; omega
      have HP4 := Lib.hid (bld_over HP3.out hb4.out)
      have hd9 := nDigits9 (right_dig HC.out.right d HDM.out)
      go_wp2_with fail
      refine (writeString_any w1.heap.size w1.heap.size (Lib.byteCells [45]) ⟨(Lib.decDigits d).toArray⟩ w4 HP4.out (by simp [Lib.byteCells]) (by simpa [ByteArray.size] using (show (Lib.decDigits d).length ≤ 1000000 by omega)) (by omega)).mono ?_
      rintro e w5 ⟨rfl, hp5, hb5⟩
      have HP5 : Hid (Bld w1.heap.size w1.heap.size (Lib.byteCells (headOf true ds ++ restOf ds n)) w5) := by
        show Bld _ _ _ _
        have hr : restOf ds n = [] := by have := rest_start ds; rwa [HLEN.out, Nat.add_sub_cancel] at this
        rw [hr, List.append_nil, HH.out, ← byteCells_append, ← strCells_mk]
        exact hp5.out
      have HX5 := Lib.hid (HX4.out.below hb5.out hlt)
      have HB5 : Hid (Below w.heap.size w w5) := HB4.out.trans (hb5.out.mono (by omega))
      have hl5 : w1.heap.size < w5.heap.size := by have := hb5.out.size; omega
      clear hp5 hd9
      go_wp2
      go_loopw [5] (fun i wr => (∃ (k : Nat) (q : Int), k ≤ n ∧ i = .int .i64 q ∧ Hid (q = (k : Int) - 1) ∧ Hid (Bld w1.heap.size w1.heap.size (Lib.byteCells (headOf true ds ++ restOf ds k)) wr)) ∧ Hid (Box wr w.heap.size true (some ⟨b, off, none⟩) (n + 1) c) ∧ Hid (Below w.heap.size w wr) ∧ w1.heap.size < wr.heap.size) (fun i _ => (intOf i + 1).toNat)
      case atStart => exact ⟨⟨n, _, Nat.le_refl _, rfl, rfl, HP5⟩, HX5, HB5, hl5⟩
      case round =>
        obtain ⟨⟨k, q, hk, rfl, hq, hp⟩, hxr, hbr, hlr⟩ := hrel
        cases k with
        | zero =>
          obtain rfl : q = -1 := by have := hq.out; omega
          go_wp2_with fail
          refine (Tryd.Builder_String_any w1.heap.size w1.heap.size _ _ hp.out (by omega)).mono ?_
          rintro e w6 ⟨rfl, hb6⟩
          have HE : Hid (textOf true ds = headOf true ds ++ restOf ds 0) := by show _ = _; unfold textOf; rw [if_neg (by have := HLEN.out; omega)]
          go_wp2
          go_ret
          exact ⟨by rw [HE.out]; rfl, hbr.out.trans (hb6.mono (by omega))⟩
        | succ k =>
          obtain rfl : q = (k : Int) := by have := hq.out; omega
          have d13 := hxr.out.c1
          obtain ⟨b', off', he, _, hcell2⟩ := (HC.out.over hbr.out).rd.at_ (k := k) (by have := HLEN.out; omega)
          injection he with he
          injection he with he1 he2
          subst he1
          subst he2
          obtain ⟨y, hy⟩ : ∃ y, y = ds[k]'(by have := HLEN.out; omega) := ⟨_, rfl⟩
          rw [← hy] at hcell2
          have HYM : Hid (y ∈ ds) := by show y ∈ ds; rw [hy]; exact List.getElem_mem _
          have HR : Hid (restOf ds k = restOf ds (k + 1) ++ pad9 (Lib.decDigits y)) := by show _ = _; rw [hy]; exact rest_step (by have := HLEN.out; omega)
          have hy9 := nDigits9 (right_dig HC.out.right y HYM.out)
          clear hy
          obtain ⟨l, hl⟩ : ∃ l, l = Lib.decDigits y := ⟨_, rfl⟩
          have HL := Lib.hid hl
          rw [← hl] at hy9
          clear hl
          go_wp2_with fail
          refine (HD.out y HYM.out _ hbr.out).mono ?_
          rintro e w6 ⟨rfl, hb6⟩
          rw [← HL.out]
          have HB6 : Hid (Below w.heap.size w w6) := hbr.out.trans (hb6.out.mono (by have := hbr.out.size; omega))
          have hl6 : w1.heap.size < w6.heap.size := by have := hb6.out.size; omega
          have HTL : Hid ((headOf true ds ++ restOf ds (k + 1)).length ≤ 900000) := text_len HC.out.right HLEN.out hn
          go_wp2_with fail
          refine (writeString_any w1.heap.size w1.heap.size _ _ w6 (bld_over hp.out hb6.out) (by rw [byteCells_len]; have := HTL.out; omega) (noughts_size l.length) (by omega)).mono ?_
          rintro e w7 ⟨rfl, hp7, hb7⟩
          have HB7 : Hid (Below w.heap.size w w7) := HB6.out.trans (hb7.out.mono (by omega))
          have hl7 : w1.heap.size < w7.heap.size := by have := hb7.out.size; omega
          have HP7 : Hid (Bld w1.heap.size w1.heap.size (Lib.byteCells ((headOf true ds ++ restOf ds (k + 1)) ++ List.replicate (9 - l.length) 48)) w7) := by
            show Bld _ _ _ _
            rw [← byteCells_append, ← noughts_cells hy9]
            exact hp7.out
          go_wp2_with fail
          refine (writeString_any w1.heap.size w1.heap.size _ ⟨l.toArray⟩ w7 HP7.out (by rw [byteCells_len, List.length_append, List.length_replicate]; have := HTL.out; omega) (by show l.toArray.size ≤ 1000000; simp; omega) (by omega)).mono ?_
          rintro e w8 ⟨rfl, hp8, hb8⟩
          have HB8 : Hid (Below w.heap.size w w8) := HB7.out.trans (hb8.out.mono (by omega))
          have hl8 : w1.heap.size < w8.heap.size := by have := hb8.out.size; omega
          have HX8 := Lib.hid (((hxr.out.over hb6.out).below hb7.out hlt).below hb8.out hlt)
          have HP8 : Hid (Bld w1.heap.size w1.heap.size (Lib.byteCells (headOf true ds ++ restOf ds k)) w8) := by
            show Bld _ _ _ _
            have e : Lib.byteCells (headOf true ds ++ restOf ds k) = Lib.byteCells ((headOf true ds ++ restOf ds (k + 1)) ++ List.replicate (9 - l.length) 48) ++ Lib.strCells ⟨l.toArray⟩ := by
              rw [HR.out, ← HL.out, strCells_mk, byteCells_append, pad9]
              simp only [List.append_assoc]
            rw [e]
            exact hp8.out
          clear hp7 hp8
          go_wp2
          go_roundw
          case rel => exact ⟨⟨k, _, by omega, rfl, rfl, HP8⟩, HX8, HB8, hl8⟩
          case measure => simp [intOf]
    | false =>
      have HB3 := HB2
      have HX3 := HX2
      have HP3 : Hid (Bld w1.heap.size w1.heap.size (Lib.byteCells []) ((put2 w1 w.heap.size false A (n + 1) c).alloc (.cells #[.pointer none, .slice none 0 0] 75))) := HBL
      clear HB2 HX2 HBL
      have hlen : ds.length = n + 1 := HC.out.len
      obtain ⟨b, off, rfl, hbb, hcell⟩ := (HC.out.over HB3.out).rd.at_ (k := n) (by omega)
      obtain ⟨d, hd⟩ : ∃ d, d = ds[n] := ⟨_, rfl⟩
      rw [← hd] at hcell
      have HDM : Hid (d ∈ ds) := by show d ∈ ds; rw [hd]; exact List.getElem_mem _
      have HH : Hid (headOf false ds = [] ++ Lib.decDigits d) := by
        show _ = _
        unfold headOf
        rw [List.getD_eq_getElem?_getD, List.getElem?_eq_getElem (by omega)]
        simp only [hlen, Nat.add_sub_cancel, hd]
        rfl
      have HLEN := Lib.hid hlen
      clear hlen hd
      go_wp2_with fail
      refine (HD.out d HDM.out _ HB3.out).mono ?_
      rintro e w4 ⟨rfl, hb4⟩
      have HX4 := Lib.hid (HX3.out.over hb4.out)
      have HB4 : Hid (Below w.heap.size w w4) := HB3.out.trans (hb4.out.mono (by simp; omega))
      have hl4 : w1.heap.size < w4.heap.size := by have := hb4.out.size; simp at this; omega
      have HP4 := Lib.hid (bld_over HP3.out hb4.out)
      have hd9 := nDigits9 (right_dig HC.out.right d HDM.out)
      go_wp2_with fail
      refine (writeString_any w1.heap.size w1.heap.size (Lib.byteCells []) ⟨(Lib.decDigits d).toArray⟩ w4 HP4.out (by simp [Lib.byteCells]) (by simpa [ByteArray.size] using (show (Lib.decDigits d).length ≤ 1000000 by omega)) (by omega)).mono ?_
      rintro e w5 ⟨rfl, hp5, hb5⟩
      have HP5 : Hid (Bld w1.heap.size w1.heap.size (Lib.byteCells (headOf false ds ++ restOf ds n)) w5) := by
        show Bld _ _ _ _
        have hr : restOf ds n = [] := by have := rest_start ds; rwa [HLEN.out, Nat.add_sub_cancel] at this
        rw [hr, List.append_nil, HH.out, ← byteCells_append, ← strCells_mk]
        exact hp5.out
      have HX5 := Lib.hid (HX4.out.below hb5.out hlt)
      have HB5 : Hid (Below w.heap.size w w5) := HB4.out.trans (hb5.out.mono (by omega))
      have hl5 : w1.heap.size < w5.heap.size := by have := hb5.out.size; omega
      clear hp5 hd9
      go_wp2
      go_loopw [5] (fun i wr => (∃ (k : Nat) (q : Int), k ≤ n ∧ i = .int .i64 q ∧ Hid (q = (k : Int) - 1) ∧ Hid (Bld w1.heap.size w1.heap.size (Lib.byteCells (headOf false ds ++ restOf ds k)) wr)) ∧ Hid (Box wr w.heap.size false (some ⟨b, off, none⟩) (n + 1) c) ∧ Hid (Below w.heap.size w wr) ∧ w1.heap.size < wr.heap.size) (fun i _ => (intOf i + 1).toNat)
      case atStart => exact ⟨⟨n, _, Nat.le_refl _, rfl, rfl, HP5⟩, HX5, HB5, hl5⟩
      case round =>
        obtain ⟨⟨k, q, hk, rfl, hq, hp⟩, hxr, hbr, hlr⟩ := hrel
        cases k with
        | zero =>
          obtain rfl : q = -1 := by have := hq.out; omega
          go_wp2_with fail
          refine (Tryd.Builder_String_any w1.heap.size w1.heap.size _ _ hp.out (by omega)).mono ?_
          rintro e w6 ⟨rfl, hb6⟩
          have HE : Hid (textOf false ds = headOf false ds ++ restOf ds 0) := by show _ = _; unfold textOf; rw [if_neg (by have := HLEN.out; omega)]
          go_wp2
          go_ret
          exact ⟨by rw [HE.out]; rfl, hbr.out.trans (hb6.mono (by omega))⟩
        | succ k =>
          obtain rfl : q = (k : Int) := by have := hq.out; omega
          have d13 := hxr.out.c1
          obtain ⟨b', off', he, _, hcell2⟩ := (HC.out.over hbr.out).rd.at_ (k := k) (by have := HLEN.out; omega)
          injection he with he
          injection he with he1 he2
          subst he1
          subst he2
          obtain ⟨y, hy⟩ : ∃ y, y = ds[k]'(by have := HLEN.out; omega) := ⟨_, rfl⟩
          rw [← hy] at hcell2
          have HYM : Hid (y ∈ ds) := by show y ∈ ds; rw [hy]; exact List.getElem_mem _
          have HR : Hid (restOf ds k = restOf ds (k + 1) ++ pad9 (Lib.decDigits y)) := by show _ = _; rw [hy]; exact rest_step (by have := HLEN.out; omega)
          have hy9 := nDigits9 (right_dig HC.out.right y HYM.out)
          clear hy
          obtain ⟨l, hl⟩ : ∃ l, l = Lib.decDigits y := ⟨_, rfl⟩
          have HL := Lib.hid hl
          rw [← hl] at hy9
          clear hl
          go_wp2_with fail
          refine (HD.out y HYM.out _ hbr.out).mono ?_
          rintro e w6 ⟨rfl, hb6⟩
          rw [← HL.out]
          have HB6 : Hid (Below w.heap.size w w6) := hbr.out.trans (hb6.out.mono (by have := hbr.out.size; omega))
          have hl6 : w1.heap.size < w6.heap.size := by have := hb6.out.size; omega
          have HTL : Hid ((headOf false ds ++ restOf ds (k + 1)).length ≤ 900000) := text_len HC.out.right HLEN.out hn
          go_wp2_with fail
          refine (writeString_any w1.heap.size w1.heap.size _ _ w6 (bld_over hp.out hb6.out) (by rw [byteCells_len]; have := HTL.out; omega) (noughts_size l.length) (by omega)).mono ?_
          rintro e w7 ⟨rfl, hp7, hb7⟩
          have HB7 : Hid (Below w.heap.size w w7) := HB6.out.trans (hb7.out.mono (by omega))
          have hl7 : w1.heap.size < w7.heap.size := by have := hb7.out.size; omega
          have HP7 : Hid (Bld w1.heap.size w1.heap.size (Lib.byteCells ((headOf false ds ++ restOf ds (k + 1)) ++ List.replicate (9 - l.length) 48)) w7) := by
            show Bld _ _ _ _
            rw [← byteCells_append, ← noughts_cells hy9]
            exact hp7.out
          go_wp2_with fail
          refine (writeString_any w1.heap.size w1.heap.size _ ⟨l.toArray⟩ w7 HP7.out (by rw [byteCells_len, List.length_append, List.length_replicate]; have := HTL.out; omega) (by show l.toArray.size ≤ 1000000; simp; omega) (by omega)).mono ?_
          rintro e w8 ⟨rfl, hp8, hb8⟩
          have HB8 : Hid (Below w.heap.size w w8) := HB7.out.trans (hb8.out.mono (by omega))
          have hl8 : w1.heap.size < w8.heap.size := by have := hb8.out.size; omega
          have HX8 := Lib.hid (((hxr.out.over hb6.out).below hb7.out hlt).below hb8.out hlt)
          have HP8 : Hid (Bld w1.heap.size w1.heap.size (Lib.byteCells (headOf false ds ++ restOf ds k)) w8) := by
            show Bld _ _ _ _
            have e : Lib.byteCells (headOf false ds ++ restOf ds k) = Lib.byteCells ((headOf false ds ++ restOf ds (k + 1)) ++ List.replicate (9 - l.length) 48) ++ Lib.strCells ⟨l.toArray⟩ := by
              rw [HR.out, ← HL.out, strCells_mk, byteCells_append, pad9]
              simp only [List.append_assoc]
            rw [e]
            exact hp8.out
          clear hp7 hp8
          go_wp2
          go_roundw
          case rel => exact ⟨⟨k, _, by omega, rfl, rfl, HP8⟩, HX8, HB8, hl8⟩
          case measure => simp [intOf]
end Go.Proofs.YtgmnpajecpjklaaDoor.wh
