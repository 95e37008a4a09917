/- Package whole: divide where the divisor is greater, or of one digit. -/
import Derived.Test.YtgmnpajecpjklaaDoorDigit
namespace Go.Proofs.YtgmnpajecpjklaaDoor.wh
open Go.RowKit

/-- digits without noughts last, in memory -/
structure Digs (w : World) (n c : Nat) (A : Option Addr) (ds : List Nat) : Prop where
  len : ds.length = n
  rd : Rd w w.heap.size A ds
  cap : n ≤ c
  dig : Dig ds
  top : Top ds
theorem Digs.over {w w' : World} {n c : Nat} {A : Option Addr} {ds : List Nat} (h : Digs w n c A ds) (hb : Below w.heap.size w w') : Digs w' n c A ds := ⟨h.len, h.rd.over hb, h.cap, h.dig, h.top⟩
theorem Digs.drew {w : World} {n c : Nat} {A : Option Addr} {ds : List Nat} (h : Digs w n c A ds) : Digs w.drew n c A ds := ⟨h.len, h.rd, h.cap, h.dig, h.top⟩
theorem Cells.digs {w : World} {n c : Nat} {neg : Bool} {A : Option Addr} {ds : List Nat} (h : Cells w n c neg A ds) : Digs w n c A ds := ⟨h.len, h.rd, h.cap, right_dig h.right, right_top h.right⟩
def RowTop (w : World) (A : Option Addr) (n c v : Nat) : Prop := ∃ ds, Digs w n c A ds ∧ val ds = v
theorem RowTop.over {w w' : World} {A : Option Addr} {n c v : Nat} (h : RowTop w A n c v) (hb : Below w.heap.size w w') : RowTop w' A n c v := by
  obtain ⟨ds, h1, h2⟩ := h
  exact ⟨ds, h1.over hb, h2⟩
theorem RowTop.row {w : World} {A : Option Addr} {n c v : Nat} (h : RowTop w A n c v) : RowIs w A n c v := by
  obtain ⟨ds, h1, h2⟩ := h
  exact ⟨ds, h1.len, h1.cap, h1.rd, h1.dig, h2⟩

def GivesDiv (W : World) (p q a b : Nat) (e : Ending) (w' : World) : Prop :=
  ∃ A1 n1 c1 A2 n2 c2, e = .returned (.tuple #[.slice A1 n1 c1, .slice A2 n2 c2]) ∧ n1 ≤ p ∧ n2 ≤ q ∧ Hid (RowIs w' A1 n1 c1 (a / b)) ∧ Hid (RowTop w' A2 n2 c2 (a % b)) ∧ Hid (Below W.heap.size W w')

theorem compare_digs {A B : Option Addr} {n c m d : Nat} {xs ys : List Nat} {w : World} (hx : Digs w n c A xs) (hy : Digs w m d B ys) (hn : n ≤ 10000) :
    Calls Tryd.prog 42 #[.slice A n c, .slice B m d] w fun e w' => e = .returned (.int .i64 (cmpN (val xs) (val ys))) ∧ Hid (Below w.heap.size w w') :=
  compare_any A B n m c d xs ys w hx.len hy.len (by rw [hx.len]; unfold maxLen; omega) hx.rd hy.rd hx.dig hy.dig hx.top hy.top

/-- Clone of digits -/
theorem clone_digs {A : Option Addr} {n c : Nat} {xs : List Nat} {w : World} (hx : Digs w n c A xs) (hn : n ≤ 1000) :
    Calls Tryd.prog 45 #[.slice A n c] w fun e w' => ∃ A2 c2, e = .returned (.slice A2 n c2) ∧ Hid (Digs w' n c2 A2 xs) ∧ Hid (Below w.heap.size w w') := by
  refine (clone_any A n c xs w hx.len hn hx.rd).mono ?_
  rintro e w' (⟨g, cap, post, rfl, hsg, hg, hcap, hb⟩ | ⟨A', cap, h0, rfl, hb⟩)
  · exact ⟨_, cap, rfl, ⟨hx.len, hsg.rd, hcap, hx.dig, hx.top⟩, hb⟩
  · subst h0
    have h1 := List.eq_nil_of_length_eq_zero hx.len
    subst h1
    exact ⟨A', cap, rfl, ⟨rfl, Rd.nil, Nat.zero_le _, Dig.nil, Top.nil⟩, hb⟩
/-- trim of digits -/
theorem trim_row {A : Option Addr} {n c v : Nat} {w : World} (hx : RowIs w A n c v) (hn : n ≤ 10000) :
    Calls Tryd.prog 56 #[.slice A n c] w fun e w' => ∃ k, e = .returned (.slice A k c) ∧ k ≤ n ∧ Hid (RowTop w A k c v) ∧ w = w' := by
  obtain ⟨ds, h1, h2, h3, h4, h5⟩ := hx
  refine (trim_any A n c ds w h1 (by rw [h1]; unfold maxLen; omega) (by omega) h3).mono ?_
  rintro e w' ⟨⟨k, rfl, ht⟩, rfl⟩
  refine ⟨k, rfl, by rw [← h1]; exact ht.1, ⟨ds.take k, ⟨by rw [List.length_take]; have := ht.1; omega, h3.take k, by have := ht.1; omega, h4.take k, ht.2.1⟩, by rw [ht.2.2, h5]⟩, rfl⟩

set_option maxRecDepth 100000 in
set_option maxHeartbeats 1000000 in
theorem divide_less {A B : Option Addr} {n c m d : Nat} {xs ys : List Nat} {w : World} (hx : Digs w n c A xs) (hy : Digs w m d B ys) (hn : n ≤ 1000) (hlt : val xs < val ys) :
    Calls Tryd.prog 35 #[.slice A n c, .slice B m d] w fun e w' => GivesDiv w n m (val xs) (val ys) e w' := by
  have HX := Lib.hid hx
  have HY := Lib.hid hy
  have HLT := Lib.hid hlt
  have hc : cmpN (val xs) (val ys) = -1 := cmpN_lt hlt
  have hnm : n ≤ m := by
    rcases Nat.lt_or_ge m n with h | h
    · have := top_short hy.dig hx.top (by rw [hx.len, hy.len]; exact h)
      omega
    · exact h
  clear hx hy hlt
  go_enter Tryd.func35, Tryd.ntmps35
  go_wp2_with fail
  refine (compare_digs HX.out HY.out (by omega)).mono ?_
  rintro e w1 ⟨rfl, hb1⟩
  go_wp2_with fail
  refine (clone_digs (HX.out.over hb1.out) hn).mono ?_
  rintro e w2 ⟨A2, c2, rfl, hd2, hb2⟩
  go_wp2
  go_ret2
  exact ⟨none, 0, 0, A2, n, c2, rfl, Nat.zero_le _, hnm, ⟨[], rfl, Nat.le_refl _, Rd.nil, Dig.nil, by rw [Nat.div_eq_of_lt HLT.out]; rfl⟩, ⟨xs, hd2.out, by rw [Nat.mod_eq_of_lt HLT.out]⟩, hb1.out.trans (hb2.out.mono hb1.out.size)⟩

set_option maxRecDepth 100000 in
set_option maxHeartbeats 1000000 in
theorem divide_one {A B : Option Addr} {n c d : Nat} {xs ys : List Nat} {w : World} (hx : Digs w n c A xs) (hy : Digs w 1 d B ys) (hn : n ≤ 1000) (hle : val ys ≤ val xs) :
    Calls Tryd.prog 35 #[.slice A n c, .slice B 1 d] w fun e w' => GivesDiv w n 1 (val xs) (val ys) e w' := by
  have HX := Lib.hid hx
  have HY := Lib.hid hy
  have hc : ¬ cmpN (val xs) (val ys) < 0 := by
    unfold cmpN
    rw [if_neg (by omega)]
    split <;> omega
  obtain ⟨y, rfl⟩ : ∃ y, ys = [y] := by
    match ys, hy.len with
    | [y], _ => exact ⟨y, rfl⟩
  have hy9 : y < 1000000000 := hy.dig y (by simp)
  have hy1 : 1 ≤ y := by have := hy.top (by simp); simp at this; omega
  have HV : Hid (val [y] = y) := by show _ = _; simp [val]
  clear hx hy hle
  go_enter Tryd.func35, Tryd.ntmps35
  go_wp2_with fail
  refine (compare_digs HX.out HY.out (by omega)).mono ?_
  rintro e w1 ⟨rfl, hb1⟩
  obtain ⟨b, off, rfl, hbw, hcell⟩ := (HY.out.over hb1.out).rd.at_ (k := 0) (by simp)
  simp only [List.getElem_cons_zero, Nat.add_zero] at hcell
  go_wp2_with fail
  refine (digit_any A n c y xs w1 HX.out.len (by omega) hy1 hy9 (HX.out.over hb1.out).rd HX.out.dig).mono ?_
  rintro e w2 ⟨A2, c2, rfl, hrow, hb2⟩
  obtain ⟨r, hr⟩ : ∃ r, r = val xs % y := ⟨_, rfl⟩
  have hr9 : r < 1000000000 := by rw [hr]; have := Nat.mod_lt (val xs) (show y > 0 by omega); omega
  rw [← hr]
  have HR := Lib.hid hr
  clear hr
  have HW : Hid (RowIs (w2.alloc (.cells #[.int .u32 (r : Int)] 58)) (some ⟨w2.heap.size, 0, none⟩) 1 1 r) := by
    have hblk := Blk.new w2 58 #[.int .u32 (r : Int)]
    refine ⟨[r], rfl, Nat.le_refl _, fun _ => ⟨w2.heap.size, 0, rfl, hblk.lt, fun j hj => ?_⟩, Dig.cons hr9 Dig.nil, by simp [val]⟩
    obtain rfl : j = 0 := by simpa using hj
    rw [hblk.cell]
    rfl
  go_wp2_with fail
  refine (trim_row HW.out (by omega)).mono ?_
  rintro e w3 ⟨k, rfl, hk, htop, rfl⟩
  go_wp2
  go_ret2
  refine ⟨A2, n, c2, _, k, 1, rfl, Nat.le_refl _, hk, ?_, ?_, ?_⟩
  · have h := hrow.out.over ((Below.refl w2.heap.size w2).alloc (Nat.le_refl _) (.cells #[.int .u32 (r : Int)] 58))
    rw [HV.out]
    exact h
  · rw [HV.out, ← HR.out]
    exact htop
  · exact (hb1.out.trans (hb2.out.mono hb1.out.size)).alloc (by have := hb1.out.size; have := hb2.out.size; omega) _
end Go.Proofs.YtgmnpajecpjklaaDoor.wh
