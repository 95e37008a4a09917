/- Package whole: divideByDigit; divide where the divisor is greater, or of one digit. Package whole: divide where the divisor is greater, or of one digit. Package whole: Div, out of what divide gives. -/
import Derived.Test.YtpikbhcjgcbdfaaDoorWhB
/- Package whole: divideByDigit; divide where the divisor is greater, or of one digit. -/
namespace Go.Proofs.YtpikbhcjgcbdfaaDoor.wh
open Go.RowKit

/-- after the digits from k on: what is in the quotient, and what is left -/
def DivAt (xs : List Nat) (y k : Nat) (cur : List Nat) (r : Nat) : Prop := cur.length = xs.length ∧ Dig cur ∧ r < y ∧ val (xs.drop k) = y * val (cur.drop k) + r
theorem divAt_step {xs cur : List Nat} {y k r x q r' : Nat} (h : DivAt xs y (k + 1) cur r) (hk : k < xs.length) (hx : x = xs[k]) (hq : r * 1000000000 + x = y * q + r') (hr : r' < y) (hq9 : q < 1000000000) : DivAt xs y k (cur.set k q) r' := by
  obtain ⟨h1, h2, h3, h4⟩ := h
  refine ⟨by simp [h1], h2.set hq9, hr, ?_⟩
  have e : (cur.set k q).drop k = q :: cur.drop (k + 1) := by
    rw [List.drop_eq_getElem_cons (by simp; omega), List.getElem_set_self, List.drop_set_of_lt (by omega)]
  rw [e, val_drop hk, ← hx, h4]
  simp only [val, Nat.mul_add]
  have e2 : y * (1000000000 * val (cur.drop (k + 1))) = 1000000000 * (y * val (cur.drop (k + 1))) := by rw [Nat.mul_left_comm]
  rw [e2]
  omega
theorem divAt_end {xs cur : List Nat} {y r : Nat} (h : DivAt xs y 0 cur r) : val cur = val xs / y ∧ r = val xs % y := by
  obtain ⟨h1, h2, h3, h4⟩ := h
  rw [List.drop_zero, List.drop_zero] at h4
  rw [h4]
  constructor
  · rw [Nat.mul_add_div (by omega), Nat.div_eq_of_lt h3, Nat.add_zero]
  · rw [Nat.mul_add_mod, Nat.mod_eq_of_lt h3]

def GivesDigit (W : World) (n v y : Nat) (e : Ending) (w' : World) : Prop := ∃ A c, e = .returned (.tuple #[.slice A n c, .int .u32 ((v % y : Nat) : Int)]) ∧ Hid (RowIs w' A n c (v / y)) ∧ Hid (Below W.heap.size W w')

set_option maxRecDepth 100000 in
set_option maxHeartbeats 1000000 in
theorem digit_any (A : Option Addr) (n c y : Nat) (xs : List Nat) (w : World) (hlx : xs.length = n) (hn : n ≤ 2000) (hy : 1 ≤ y) (hy9 : y < 1000000000) (ha : Rd w w.heap.size A xs) (hdx : Dig xs) :
    Calls Tryd.prog 91 #[.slice A n c, .int .u32 y] w fun e w' => GivesDigit w n (val xs) y e w' := by
  subst hlx
  have HRA := Lib.hid ha
  have HX := Lib.hid hdx
  clear ha hdx
  have hmk := run_make_u32 (z := (xs.length : Int)) (n := xs.length) rfl (by omega)
  have HSZ : Hid (Seg (w.alloc (.cells (zeros xs.length) 82)) w.heap.size 0 [] (List.replicate xs.length 0) []) := seg_zeros w _
  have HBW : Hid (Below w.heap.size w (w.alloc (.cells (zeros xs.length) 82))) := (Below.refl _ _).alloc (Nat.le_refl _) _
  go_enter Tryd.func91, Tryd.ntmps91
  go_wp2
  go_loopw [7, 8] (fun u i wr => (∃ (k r : Nat) (z : Int) (cur : List Nat), k ≤ xs.length ∧ u = .int .u64 r ∧ i = .int .i64 z ∧ Hid (z = (k : Int) - 1) ∧ r < 1000000000 ∧ Hid (DivAt xs y k cur r) ∧ Hid (Seg wr w.heap.size 0 [] cur [])) ∧ Hid (Below w.heap.size w wr)) (fun _ i _ => (intOf i + 1).toNat)
  case atStart => exact ⟨⟨xs.length, 0, _, _, Nat.le_refl _, rfl, rfl, rfl, by omega, ⟨by simp, Dig.replicate _, by omega, by rw [List.drop_eq_nil_of_le (by simp), List.drop_eq_nil_of_le (by simp)]; simp [val]⟩, HSZ.out⟩, HBW⟩
  case round =>
    obtain ⟨⟨k, r, z, cur, hk, rfl, rfl, hz, hr9, hat, hsg⟩, hbw⟩ := hrel
    cases k with
    | zero =>
      obtain rfl : z = -1 := by have := hz.out; omega
      have HE := Lib.hid (divAt_end hat.out)
      have HRL : Hid (cur.length = xs.length ∧ Dig cur) := ⟨hat.out.1, hat.out.2.1⟩
      go_wp2
      go_ret2
      refine ⟨_, _, by rw [← HE.out.2]; rfl, ⟨cur, HRL.out.1, Nat.le_refl _, hsg.out.rd, HRL.out.2, HE.out.1⟩, hbw⟩
    | succ k =>
      obtain rfl : z = (k : Int) := by have := hz.out; omega
      have hkl : k < xs.length := by omega
      obtain ⟨ba, offa, rfl, hba, hca⟩ := (HRA.out.below hbw.out).at_ hkl
      obtain ⟨x, hx⟩ : ∃ x, x = xs[k] := ⟨_, rfl⟩
      rw [← hx] at hca
      have hx9 : x < 1000000000 := by rw [hx]; exact HX.out.get k hkl
      have hkc : k < cur.length := by rw [hat.out.1]; exact hkl
      have hc := hsg.out.cell hkc
      have hf := hsg.out.frozen k
      rw [Nat.zero_add] at hc
      obtain ⟨q, hq⟩ : ∃ q, q = (r * 1000000000 + x) / y := ⟨_, rfl⟩
      obtain ⟨r', hr'⟩ : ∃ r', r' = (r * 1000000000 + x) % y := ⟨_, rfl⟩
      have hq1 : ((r : Int) * 1000000000 + (x : Int)) / (y : Int) = (q : Int) := by rw [hq]; simp
      have hr1 : ((r : Int) * 1000000000 + (x : Int)) % (y : Int) = (r' : Int) := by rw [hr']; simp
      have HQ : Hid (r * 1000000000 + x = y * q + r') := by show _ = _; rw [hq, hr', Nat.div_add_mod]
      have hr2 : r' < y := by rw [hr']; exact Nat.mod_lt _ (by omega)
      have hq9 : q < 1000000000 := by
        rw [hq]
        apply Nat.div_lt_of_lt_mul
        have h3 := hat.out.2.2.1
        have : y * 1000000000 ≥ (r + 1) * 1000000000 := Nat.mul_le_mul_right _ (by omega)
        omega
      have HX2 := Lib.hid hx
      clear hq hr' hx
      go_wp2
      go_roundw
      case rel => exact ⟨⟨k, r', _, _, by omega, by go_num, rfl, rfl, by omega, divAt_step hat.out hkl HX2.out HQ.out hr2 hq9, by have h := hsg.out.set_ (z := (q : Int)) (v := q) hkc rfl; rw [Nat.zero_add] at h; exact h⟩, hbw.out.setCell (p := ⟨w.heap.size, k, none⟩) (Nat.le_refl _) _⟩
      case measure => simp [intOf]
end Go.Proofs.YtpikbhcjgcbdfaaDoor.wh

/- Package whole: divide where the divisor is greater, or of one digit. -/
namespace Go.Proofs.YtpikbhcjgcbdfaaDoor.wh
open Go.RowKit

/-- digits without noughts last, in memory -/
structure Digs (w : World) (n c : Nat) (A : Option Addr) (ds : List Nat) : Prop where
  len : ds.length = n
  rd : Rd w w.heap.size A ds
  cap : n ≤ c
  dig : Dig ds
  top : Top ds
theorem Digs.over {w w' : World} {n c : Nat} {A : Option Addr} {ds : List Nat} (h : Digs w n c A ds) (hb : Below w.heap.size w w') : Digs w' n c A ds := ⟨h.len, h.rd.over hb, h.cap, h.dig, h.top⟩
theorem Digs.drew {w : World} {n c : Nat} {A : Option Addr} {ds : List Nat} (h : Digs w n c A ds) : Digs w.drew n c A ds := ⟨h.len, h.rd, h.cap, h.dig, h.top⟩
theorem Cells.digs {w : World} {n c : Nat} {neg : Bool} {A : Option Addr} {ds : List Nat} (h : Cells w n c neg A ds) : Digs w n c A ds := ⟨h.len, h.rd, h.cap, right_dig h.right, right_top h.right⟩
def RowTop (w : World) (A : Option Addr) (n c v : Nat) : Prop := ∃ ds, Digs w n c A ds ∧ val ds = v
theorem RowTop.over {w w' : World} {A : Option Addr} {n c v : Nat} (h : RowTop w A n c v) (hb : Below w.heap.size w w') : RowTop w' A n c v := by
  obtain ⟨ds, h1, h2⟩ := h
  exact ⟨ds, h1.over hb, h2⟩
theorem RowTop.row {w : World} {A : Option Addr} {n c v : Nat} (h : RowTop w A n c v) : RowIs w A n c v := by
  obtain ⟨ds, h1, h2⟩ := h
  exact ⟨ds, h1.len, h1.cap, h1.rd, h1.dig, h2⟩

def GivesDiv (W : World) (p q a b : Nat) (e : Ending) (w' : World) : Prop :=
  ∃ A1 n1 c1 A2 n2 c2, e = .returned (.tuple #[.slice A1 n1 c1, .slice A2 n2 c2]) ∧ n1 ≤ p ∧ n2 ≤ q ∧ Hid (RowIs w' A1 n1 c1 (a / b)) ∧ Hid (RowTop w' A2 n2 c2 (a % b)) ∧ Hid (Below W.heap.size W w')

theorem compare_digs {A B : Option Addr} {n c m d : Nat} {xs ys : List Nat} {w : World} (hx : Digs w n c A xs) (hy : Digs w m d B ys) (hn : n ≤ 10000) :
    Calls Tryd.prog 70 #[.slice A n c, .slice B m d] w fun e w' => e = .returned (.int .i64 (cmpN (val xs) (val ys))) ∧ Hid (Below w.heap.size w w') :=
  compare_any A B n m c d xs ys w hx.len hy.len (by rw [hx.len]; unfold maxLen; omega) hx.rd hy.rd hx.dig hy.dig hx.top hy.top

/-- Clone of digits -/
theorem clone_digs {A : Option Addr} {n c : Nat} {xs : List Nat} {w : World} (hx : Digs w n c A xs) (hn : n ≤ 1000) :
    Calls Tryd.prog 73 #[.slice A n c] w fun e w' => ∃ A2 c2, e = .returned (.slice A2 n c2) ∧ Hid (Digs w' n c2 A2 xs) ∧ Hid (Below w.heap.size w w') := by
  refine (clone_any A n c xs w hx.len hn hx.rd).mono ?_
  rintro e w' (⟨g, cap, post, rfl, hsg, hg, hcap, hb⟩ | ⟨A', cap, h0, rfl, hb⟩)
  · exact ⟨_, cap, rfl, ⟨hx.len, hsg.rd, hcap, hx.dig, hx.top⟩, hb⟩
  · subst h0
    have h1 := List.eq_nil_of_length_eq_zero hx.len
    subst h1
    exact ⟨A', cap, rfl, ⟨rfl, Rd.nil, Nat.zero_le _, Dig.nil, Top.nil⟩, hb⟩
/-- trim of digits -/
theorem trim_row {A : Option Addr} {n c v : Nat} {w : World} (hx : RowIs w A n c v) (hn : n ≤ 10000) :
    Calls Tryd.prog 92 #[.slice A n c] w fun e w' => ∃ k, e = .returned (.slice A k c) ∧ k ≤ n ∧ Hid (RowTop w A k c v) ∧ w = w' := by
  obtain ⟨ds, h1, h2, h3, h4, h5⟩ := hx
  refine (trim_any A n c ds w h1 (by rw [h1]; unfold maxLen; omega) (by omega) h3).mono ?_
  rintro e w' ⟨⟨k, rfl, ht⟩, rfl⟩
  refine ⟨k, rfl, by rw [← h1]; exact ht.1, ⟨ds.take k, ⟨by rw [List.length_take]; have := ht.1; omega, h3.take k, by have := ht.1; omega, h4.take k, ht.2.1⟩, by rw [ht.2.2, h5]⟩, rfl⟩

set_option maxRecDepth 100000 in
set_option maxHeartbeats 1000000 in
theorem divide_less {A B : Option Addr} {n c m d : Nat} {xs ys : List Nat} {w : World} (hx : Digs w n c A xs) (hy : Digs w m d B ys) (hn : n ≤ 1000) (hlt : val xs < val ys) :
    Calls Tryd.prog 63 #[.slice A n c, .slice B m d] w fun e w' => GivesDiv w n m (val xs) (val ys) e w' := by
  have HX := Lib.hid hx
  have HY := Lib.hid hy
  have HLT := Lib.hid hlt
  have hc : cmpN (val xs) (val ys) = -1 := cmpN_lt hlt
  have hnm : n ≤ m := by
    rcases Nat.lt_or_ge m n with h | h
    · have := top_short hy.dig hx.top (by rw [hx.len, hy.len]; exact h)
      omega
    · exact h
  clear hx hy hlt
  go_enter Tryd.func63, Tryd.ntmps63
  go_wp2_with fail
  refine (compare_digs HX.out HY.out (by omega)).mono ?_
  rintro e w1 ⟨rfl, hb1⟩
  go_wp2_with fail
  refine (clone_digs (HX.out.over hb1.out) hn).mono ?_
  rintro e w2 ⟨A2, c2, rfl, hd2, hb2⟩
  go_wp2
  go_ret2
  exact ⟨none, 0, 0, A2, n, c2, rfl, Nat.zero_le _, hnm, ⟨[], rfl, Nat.le_refl _, Rd.nil, Dig.nil, by rw [Nat.div_eq_of_lt HLT.out]; rfl⟩, ⟨xs, hd2.out, by rw [Nat.mod_eq_of_lt HLT.out]⟩, hb1.out.trans (hb2.out.mono hb1.out.size)⟩

set_option maxRecDepth 100000 in
set_option maxHeartbeats 1000000 in
theorem divide_one {A B : Option Addr} {n c d : Nat} {xs ys : List Nat} {w : World} (hx : Digs w n c A xs) (hy : Digs w 1 d B ys) (hn : n ≤ 1000) (hle : val ys ≤ val xs) :
    Calls Tryd.prog 63 #[.slice A n c, .slice B 1 d] w fun e w' => GivesDiv w n 1 (val xs) (val ys) e w' := by
  have HX := Lib.hid hx
  have HY := Lib.hid hy
  have hc : ¬ cmpN (val xs) (val ys) < 0 := by
    unfold cmpN
    rw [if_neg (by omega)]
    split <;> omega
  obtain ⟨y, rfl⟩ : ∃ y, ys = [y] := by
    match ys, hy.len with
    | [y], _ => exact ⟨y, rfl⟩
  have hy9 : y < 1000000000 := hy.dig y (by simp)
  have hy1 : 1 ≤ y := by have := hy.top (by simp); simp at this; omega
  have HV : Hid (val [y] = y) := by show _ = _; simp [val]
  clear hx hy hle
  go_enter Tryd.func63, Tryd.ntmps63
  go_wp2_with fail
  refine (compare_digs HX.out HY.out (by omega)).mono ?_
  rintro e w1 ⟨rfl, hb1⟩
  obtain ⟨b, off, rfl, hbw, hcell⟩ := (HY.out.over hb1.out).rd.at_ (k := 0) (by simp)
  simp only [List.getElem_cons_zero, Nat.add_zero] at hcell
  go_wp2_with fail
  refine (digit_any A n c y xs w1 HX.out.len (by omega) hy1 hy9 (HX.out.over hb1.out).rd HX.out.dig).mono ?_
  rintro e w2 ⟨A2, c2, rfl, hrow, hb2⟩
  obtain ⟨r, hr⟩ : ∃ r, r = val xs % y := ⟨_, rfl⟩
  have hr9 : r < 1000000000 := by rw [hr]; have := Nat.mod_lt (val xs) (show y > 0 by omega); omega
  rw [← hr]
  have HR := Lib.hid hr
  clear hr
  have HW : Hid (RowIs (w2.alloc (.cells #[.int .u32 (r : Int)] 82)) (some ⟨w2.heap.size, 0, none⟩) 1 1 r) := by
    have hblk := Blk.new w2 82 #[.int .u32 (r : Int)]
    refine ⟨[r], rfl, Nat.le_refl _, fun _ => ⟨w2.heap.size, 0, rfl, hblk.lt, fun j hj => ?_⟩, Dig.cons hr9 Dig.nil, by simp [val]⟩
    obtain rfl : j = 0 := by simpa using hj
    rw [hblk.cell]
    rfl
  go_wp2_with fail
  refine (trim_row HW.out (by omega)).mono ?_
  rintro e w3 ⟨k, rfl, hk, htop, rfl⟩
  go_wp2
  go_ret2
  refine ⟨A2, n, c2, _, k, 1, rfl, Nat.le_refl _, hk, ?_, ?_, ?_⟩
  · have h := hrow.out.over ((Below.refl w2.heap.size w2).alloc (Nat.le_refl _) (.cells #[.int .u32 (r : Int)] 82))
    rw [HV.out]
    exact h
  · rw [HV.out, ← HR.out]
    exact htop
  · exact (hb1.out.trans (hb2.out.mono hb1.out.size)).alloc (by have := hb1.out.size; have := hb2.out.size; omega) _
end Go.Proofs.YtpikbhcjgcbdfaaDoor.wh

/- Package whole: Div, out of what divide gives. -/
namespace Go.Proofs.YtpikbhcjgcbdfaaDoor.wh
open Go.RowKit

/-- two variables that are known, and two that are there -/
structure Four (w : World) (g : Nat) (x : Bool) (a : Option Addr) (n c : Nat) (g' : Nat) (x' : Bool) (a' : Option Addr) (n' c' : Nat) (r s : Nat) (w' : World) : Prop where
  below : Below w.heap.size w w'
  one : Box w' g x a n c
  two : Box w' g' x' a' n' c'
  res : ∃ y b m d, Box w' r y b m d
  ult : ∃ y b m d, Box w' s y b m d
  le : (w.heap.size ≤ g ∧ w.heap.size ≤ g' ∧ w.heap.size ≤ r ∧ w.heap.size ≤ s) ∧ g ≠ g' ∧ g ≠ r ∧ g' ≠ r ∧ g ≠ s ∧ g' ≠ s ∧ r ≠ s
section
variable {w w' w1 : World} {g g' n n' c c' r s : Nat} {x x' : Bool} {a a' : Option Addr}
theorem Four.all (h : Four w g x a n c g' x' a' n' c' r s w') : (w'.cell? ⟨g, 0, none⟩ = some (.bool x) ∧ w'.cell? ⟨g, 1, none⟩ = some (.slice a n c) ∧ w'.cell? ⟨g', 0, none⟩ = some (.bool x') ∧ w'.cell? ⟨g', 1, none⟩ = some (.slice a' n' c')) ∧
    (w'.frozen? ⟨g, 0, none⟩ = false ∧ w'.frozen? ⟨g, 1, none⟩ = false ∧ w'.frozen? ⟨g', 0, none⟩ = false ∧ w'.frozen? ⟨g', 1, none⟩ = false) ∧ Hid (Four w g x a n c g' x' a' n' c' r s w') :=
  ⟨⟨h.one.c0, h.one.c1, h.two.c0, h.two.c1⟩, ⟨h.one.f0, h.one.f1, h.two.f0, h.two.f1⟩, h⟩
theorem Four.get {P Q : Prop} (h : P ∧ Q ∧ Hid (Four w g x a n c g' x' a' n' c' r s w')) : Four w g x a n c g' x' a' n' c' r s w' := h.2.2
theorem Four.over (hb : Hid (Below w'.heap.size w' w1)) (h : Four w g x a n c g' x' a' n' c' r s w') : Four w g x a n c g' x' a' n' c' r s w1 := by
  obtain ⟨y, b, m, d, hr⟩ := h.res
  obtain ⟨y2, b2, m2, d2, hs⟩ := h.ult
  exact ⟨h.below.trans (hb.out.mono h.below.size), h.one.over hb.out, h.two.over hb.out, ⟨y, b, m, d, hr.over hb.out⟩, ⟨y2, b2, m2, d2, hs.over hb.out⟩, h.le⟩
theorem Four.put1 (h : Four w g x a n c g' x' a' n' c' r s w') (y : Bool) (b : Option Addr) (m d : Nat) : Four w g y b m d g' x' a' n' c' r s (put2 w' g y b m d) := by
  obtain ⟨y', b', m', d', hr⟩ := h.res
  obtain ⟨y2, b2, m2, d2, hs⟩ := h.ult
  obtain ⟨⟨l1, l2, l3, l7⟩, l4, l5, l6, l8, l9, l10⟩ := h.le
  exact ⟨below_put h.below l1 _ _ _ _, h.one.put _ _ _ _, h.two.far (fun e => l4 e.symm) _ _ _ _, ⟨y', b', m', d', hr.far (fun e => l5 e.symm) _ _ _ _⟩, ⟨y2, b2, m2, d2, hs.far (fun e => l8 e.symm) _ _ _ _⟩, h.le⟩
theorem Four.put2 (h : Four w g x a n c g' x' a' n' c' r s w') (y : Bool) (b : Option Addr) (m d : Nat) : Four w g x a n c g' y b m d r s (wh.put2 w' g' y b m d) := by
  obtain ⟨y', b', m', d', hr⟩ := h.res
  obtain ⟨y2, b2, m2, d2, hs⟩ := h.ult
  obtain ⟨⟨l1, l2, l3, l7⟩, l4, l5, l6, l8, l9, l10⟩ := h.le
  exact ⟨below_put h.below l2 _ _ _ _, h.one.far l4 _ _ _ _, h.two.put _ _ _ _, ⟨y', b', m', d', hr.far (fun e => l6 e.symm) _ _ _ _⟩, ⟨y2, b2, m2, d2, hs.far (fun e => l9 e.symm) _ _ _ _⟩, h.le⟩
theorem Four.drew (h : Four w g x a n c g' x' a' n' c' r s w') : Four w g x a n c g' x' a' n' c' r s w'.drew := by
  obtain ⟨y, b, m, d, hr⟩ := h.res
  obtain ⟨y2, b2, m2, d2, hs⟩ := h.ult
  exact ⟨h.below.drew, h.one.drew, h.two.drew, ⟨y, b, m, d, hr.drew⟩, ⟨y2, b2, m2, d2, hs.drew⟩, h.le⟩
/-- both results stored -/
theorem Four.done (h : Four w g x a n c g' x' a' n' c' r s w') {p q : Nat} {v u : Int} {x1 x2 : Bool} {a1 a2 : Option Addr} {n1 c1 n2 c2 : Nat}
    (hi : IsInt w' w'.heap.size p (.agg #[.bool x1, .slice a1 n1 c1]) v) (hj : IsInt w' w'.heap.size q (.agg #[.bool x2, .slice a2 n2 c2]) u) :
    (wh.put2 (wh.put2 w' r x1 a1 n1 c1) s x2 a2 n2 c2).cell? ⟨r, 0, none⟩ = some (.bool x1) ∧ (wh.put2 (wh.put2 w' r x1 a1 n1 c1) s x2 a2 n2 c2).cell? ⟨r, 1, none⟩ = some (.slice a1 n1 c1) ∧
    (wh.put2 (wh.put2 w' r x1 a1 n1 c1) s x2 a2 n2 c2).cell? ⟨s, 0, none⟩ = some (.bool x2) ∧ (wh.put2 (wh.put2 w' r x1 a1 n1 c1) s x2 a2 n2 c2).cell? ⟨s, 1, none⟩ = some (.slice a2 n2 c2) ∧
    Hid (IsInt (wh.put2 (wh.put2 w' r x1 a1 n1 c1) s x2 a2 n2 c2) (wh.put2 (wh.put2 w' r x1 a1 n1 c1) s x2 a2 n2 c2).heap.size p (.agg #[.bool x1, .slice a1 n1 c1]) v) ∧
    Hid (IsInt (wh.put2 (wh.put2 w' r x1 a1 n1 c1) s x2 a2 n2 c2) (wh.put2 (wh.put2 w' r x1 a1 n1 c1) s x2 a2 n2 c2).heap.size q (.agg #[.bool x2, .slice a2 n2 c2]) u) ∧
    Hid (Below w.heap.size w (wh.put2 (wh.put2 w' r x1 a1 n1 c1) s x2 a2 n2 c2)) := by
  obtain ⟨y, b, m, d, hr⟩ := h.res
  obtain ⟨y2, b2, m2, d2, hs⟩ := h.ult
  obtain ⟨⟨l1, l2, l3, l7⟩, l4, l5, l6, l8, l9, l10⟩ := h.le
  have hs' := hs.far (fun e => l10 e.symm) x1 a1 n1 c1
  have hr' := (hr.put x1 a1 n1 c1).far l10 x2 a2 n2 c2
  have hs2 := hs'.put x2 a2 n2 c2
  refine ⟨hr'.c0, hr'.c1, hs2.c0, hs2.c1, ?_, ?_, below_put (below_put h.below l3 _ _ _ _) l7 _ _ _ _⟩
  · have := (hi.put hr x1 a1 n1 c1).put hs' x2 a2 n2 c2
    show IsInt _ _ _ _ _
    rw [put2_size, put2_size]
    exact this
  · have := (hj.put hr x1 a1 n1 c1).put hs' x2 a2 n2 c2
    show IsInt _ _ _ _ _
    rw [put2_size, put2_size]
    exact this
theorem Four.stores (h : Four w g x a n c g' x' a' n' c' r s w') : (w'.cell? ⟨r, 0, none⟩ = some (cellOf w' r 0) ∧ w'.cell? ⟨r, 1, none⟩ = some (cellOf w' r 1) ∧ w'.cell? ⟨s, 0, none⟩ = some (cellOf w' s 0) ∧ w'.cell? ⟨s, 1, none⟩ = some (cellOf w' s 1)) ∧
    (w'.frozen? ⟨r, 0, none⟩ = false ∧ w'.frozen? ⟨r, 1, none⟩ = false ∧ w'.frozen? ⟨s, 0, none⟩ = false ∧ w'.frozen? ⟨s, 1, none⟩ = false) := by
  obtain ⟨y, b, m, d, hr⟩ := h.res
  obtain ⟨y2, b2, m2, d2, hs⟩ := h.ult
  exact ⟨⟨(cellOf_box hr).1, (cellOf_box hr).2, (cellOf_box hs).1, (cellOf_box hs).2⟩, hr.f0, hr.f1, hs.f0, hs.f1⟩
end

/-- the quotient and what is left, as the document has them -/
def quoZ (a b : Int) : Int := if b = 0 then 0 else a / b
def remZ (a b : Int) : Int := if b = 0 then 0 else a % b
theorem div_unique {a b q r : Int} (hb : b ≠ 0) (h : a = q * b + r) (h0 : 0 ≤ r) (h1 : r < (b.natAbs : Int)) : quoZ a b = q ∧ remZ a b = r := by
  unfold quoZ remZ
  rw [if_neg hb, if_neg hb]
  have hr : r % b = r := by
    rcases Int.lt_or_gt_of_ne hb with hn | hp
    · rw [← Int.emod_neg]; exact Int.emod_eq_of_lt h0 (by omega)
    · exact Int.emod_eq_of_lt h0 (by omega)
  have hr2 : r / b = 0 := by
    rcases Int.lt_or_gt_of_ne hb with hn | hp
    · rw [show b = -(-b) by omega, Int.ediv_neg, Int.ediv_eq_zero_of_lt h0 (by omega)]; rfl
    · exact Int.ediv_eq_zero_of_lt h0 (by omega)
  rw [h, Int.mul_comm]
  constructor
  · rw [Int.mul_add_ediv_left _ _ hb, hr2, Int.add_zero]
  · rw [Int.mul_add_emod_self_left, hr]
theorem natdiv (X Y : Nat) : (X : Int) = (Y : Int) * ((X / Y : Nat) : Int) + ((X % Y : Nat) : Int) := by
  have := Nat.div_add_mod X Y
  omega
theorem div_pos {xs ys : List Nat} {ny : Bool} {a b : Int} (hx : zval false xs = a) (hy : zval ny ys = b) (hy0 : 0 < val ys) : sgn ny (val xs / val ys) = quoZ a b ∧ sgn false (val xs % val ys) = remZ a b := by
  have e := natdiv (val xs) (val ys)
  have hm := Nat.mod_lt (val xs) hy0
  generalize val xs / val ys = Q at *
  generalize val xs % val ys = R at *
  subst hx hy
  have h := div_unique (a := zval false xs) (b := zval ny ys) (q := sgn ny Q) (r := sgn false R) (by cases ny <;> simp [zval] <;> omega)
    (by cases ny <;> simp [zval, sgn, Int.neg_mul, Int.mul_neg] <;> rw [e, Int.mul_comm]) (by simp [sgn]) (by cases ny <;> simp [zval, sgn] <;> omega)
  exact ⟨h.1.symm, h.2.symm⟩
theorem div_neg0 {xs ys : List Nat} {ny : Bool} {a b : Int} (hx : zval true xs = a) (hy : zval ny ys = b) (hy0 : 0 < val ys) (hm : val xs % val ys = 0) : sgn (!ny) (val xs / val ys) = quoZ a b ∧ sgn false (val xs % val ys) = remZ a b := by
  have e := natdiv (val xs) (val ys)
  rw [hm] at e ⊢
  generalize val xs / val ys = Q at *
  subst hx hy
  have h := div_unique (a := zval true xs) (b := zval ny ys) (q := sgn (!ny) Q) (r := sgn false 0) (by cases ny <;> simp [zval] <;> omega)
    (by cases ny <;> simp [zval, sgn, Int.neg_mul, Int.mul_neg] <;> rw [e, Int.mul_comm] <;> simp) (by simp [sgn]) (by cases ny <;> simp [zval, sgn] <;> omega)
  exact ⟨h.1.symm, h.2.symm⟩
theorem div_neg1 {xs ys : List Nat} {ny : Bool} {a b : Int} (hx : zval true xs = a) (hy : zval ny ys = b) (hy0 : 0 < val ys) (hm : 0 < val xs % val ys) : sgn (!ny) (val xs / val ys + 1) = quoZ a b ∧ sgn false (val ys - val xs % val ys) = remZ a b := by
  have e := natdiv (val xs) (val ys)
  have hl := Nat.mod_lt (val xs) hy0
  generalize val xs / val ys = Q at *
  generalize val xs % val ys = R at *
  subst hx hy
  have e1 : ((val ys - R : Nat) : Int) = (val ys : Int) - (R : Int) := by omega
  have e2 : ((Q : Int) + 1) * (val ys : Int) = (val ys : Int) * (Q : Int) + (val ys : Int) := by rw [Int.add_mul, Int.one_mul, Int.mul_comm]
  have h := div_unique (a := zval true xs) (b := zval ny ys) (q := sgn (!ny) (Q + 1)) (r := sgn false (val ys - R)) (by cases ny <;> simp [zval] <;> omega)
    (by cases ny <;> simp [zval, sgn, e1, Int.neg_mul, Int.mul_neg, e2] <;> omega) (by simp [sgn]) (by cases ny <;> simp [zval, sgn] <;> omega)
  exact ⟨h.1.symm, h.2.symm⟩
theorem top_pos {ds : List Nat} (h : Top ds) (hn : 0 < ds.length) : 0 < val ds := by
  have h1 := top_ge h (fun e => by subst e; simp at hn)
  have h2 : 0 < 1000000000 ^ (ds.length - 1) := Nat.pow_pos (by omega)
  omega

/-- what divide is asked of: digits of these two numbers -/
def Divides (X Y : Nat) : Prop := ∀ (xs ys : List Nat) (A B : Option Addr) (n c m d : Nat) (w : World), val xs = X → val ys = Y → Digs w n c A xs → Digs w m d B ys → n ≤ 1000 → m ≤ 1000 → 0 < m →
  Calls Tryd.prog 63 #[.slice A n c, .slice B m d] w fun e w' => GivesDiv w n m X Y e w'

def GivesTwo (W : World) (p q : Nat) (v u : Int) (e : Ending) (w' : World) : Prop :=
  ∃ x1 A1 n1 c1 x2 A2 n2 c2, e = .returned (.tuple #[.agg #[.bool x1, .slice A1 n1 c1], .agg #[.bool x2, .slice A2 n2 c2]]) ∧
    Hid (IsInt w' w'.heap.size p (.agg #[.bool x1, .slice A1 n1 c1]) v) ∧ Hid (IsInt w' w'.heap.size q (.agg #[.bool x2, .slice A2 n2 c2]) u) ∧ Hid (Below W.heap.size W w')

theorem sum_rows {A B : Option Addr} {n c m d X Y : Nat} {w : World} (hx : RowIs w A n c X) (hy : RowIs w B m d Y) (hn : n ≤ 1000) (hm : m ≤ 1000) :
    Calls Tryd.prog 64 #[.slice A n c, .slice B m d] w fun e w' => GivesR w (max n m + 1) (X + Y) e w' := by
  obtain ⟨xs, h1, h2, h3, h4, rfl⟩ := hx
  obtain ⟨ys, g1, g2, g3, g4, rfl⟩ := hy
  exact (sum_any A B n c m d xs ys w h1 g1 hn hm h3 g3 h4 g4).mono fun _ _ h => h.hid
theorem difference_rows {A B : Option Addr} {n c m d X Y : Nat} {w : World} (hx : RowTop w A n c X) (hy : RowTop w B m d Y) (hn : n ≤ 1000) (hle : Y ≤ X) :
    Calls Tryd.prog 65 #[.slice A n c, .slice B m d] w fun e w' => GivesR w n (X - Y) e w' := by
  obtain ⟨xs, h1, rfl⟩ := hx
  obtain ⟨ys, g1, rfl⟩ := hy
  have hmn : m ≤ n := by
    rcases Nat.lt_or_ge n m with h | h
    · have := top_short h1.dig g1.top (by rw [h1.len, g1.len]; exact h)
      omega
    · exact h
  exact (difference_any A B n c m d xs ys w h1.len g1.len hn hmn hle h1.rd g1.rd h1.dig g1.dig).mono fun _ _ h => h.hid

set_option maxRecDepth 100000 in
set_option maxHeartbeats 4000000 in
theorem div_any (v u : Value) (p q : Nat) (a b : Int) (w : World) (hp : p ≤ 900) (hq : q ≤ 900) (hx : IsInt w w.heap.size p v a) (hy : IsInt w w.heap.size q u b) (hdiv : b ≠ 0 → Divides a.natAbs b.natAbs) :
    Calls Tryd.prog 14 #[v, u] w fun e w' => GivesTwo w (p + 2) q (quoZ a b) (remZ a b) e w' := by
  obtain ⟨nx, A, n, c, xs, rfl, hnp, CX, ZX⟩ := hx.cells
  obtain ⟨ny, B, m, d, ys, rfl, hmq, CY, ZY⟩ := hy.cells
  clear hx hy
  have HT : Hid (Four w w.heap.size nx A n c (w.heap.size + 1) ny B m d (w.heap.size + 2) (w.heap.size + 3) ((((w.alloc (.cells #[.bool nx, .slice A n c] 24)).alloc (.cells #[.bool ny, .slice B m d] 24)).alloc (.cells #[.bool false, .slice none 0 0] 24)).alloc (.cells #[.bool false, .slice none 0 0] 24))) :=
    ⟨((((Below.refl _ _).alloc (Nat.le_refl _) _).alloc (by simp) _).alloc (by simp; omega) _).alloc (by simp; omega) _, (((Box.new _ _ _ _ _).alloc _).alloc _).alloc _, by have h := ((Box.new (w.alloc (.cells #[.bool nx, .slice A n c] 24)) ny B m d).alloc (.cells #[.bool false, .slice none 0 0] 24)).alloc (.cells #[.bool false, .slice none 0 0] 24); rwa [World.size_alloc] at h,
      ⟨false, none, 0, 0, by have h := (Box.new ((w.alloc (.cells #[.bool nx, .slice A n c] 24)).alloc (.cells #[.bool ny, .slice B m d] 24)) false none 0 0).alloc (.cells #[.bool false, .slice none 0 0] 24); rwa [World.size_alloc, World.size_alloc] at h⟩, ⟨false, none, 0, 0, by have h := Box.new (((w.alloc (.cells #[.bool nx, .slice A n c] 24)).alloc (.cells #[.bool ny, .slice B m d] 24)).alloc (.cells #[.bool false, .slice none 0 0] 24)) false none 0 0; rwa [World.size_alloc, World.size_alloc, World.size_alloc] at h⟩, by omega⟩
  have HD := Lib.hid hdiv
  clear hdiv
  have AX : Hid (val xs = a.natAbs) := by show _ = _; rw [← ZX.out, zval_abs]
  have AY : Hid (val ys = b.natAbs) := by show _ = _; rw [← ZY.out, zval_abs]
  go_enter Tryd.func14, Tryd.ntmps14
  go_wp2
  go_region_held3 (fun w' => (w'.cell? ⟨w.heap.size, 0, none⟩ = some (.bool nx) ∧ w'.cell? ⟨w.heap.size, 1, none⟩ = some (.slice A n c) ∧ w'.cell? ⟨w.heap.size + 1, 0, none⟩ = some (.bool ny) ∧ w'.cell? ⟨w.heap.size + 1, 1, none⟩ = some (.slice B m d)) ∧ (w'.frozen? ⟨w.heap.size, 0, none⟩ = false ∧ w'.frozen? ⟨w.heap.size, 1, none⟩ = false ∧ w'.frozen? ⟨w.heap.size + 1, 0, none⟩ = false ∧ w'.frozen? ⟨w.heap.size + 1, 1, none⟩ = false) ∧ Hid (Four w (w.heap.size) nx A n c (w.heap.size + 1) ny B m d (w.heap.size + 2) (w.heap.size + 3) w'))
    (first | (with_reducible exact HT.out.drew.all) | (with_reducible exact (Four.over hb (Four.get (by assumption))).all) | (with_reducible exact (Four.put1 (Four.get (by assumption)) _ _ _ _).all) | (with_reducible exact (Four.put2 (Four.get (by assumption)) _ _ _ _).all))
    (first
      | (go_at_call_of 62 A; refine (clean_cells CX.out (by omega) (Four.get (by assumption)).below).mono ?_; rintro e w1 ⟨rfl, hb⟩)
      | (go_at_call_of 62 B; refine (clean_cells CY.out (by omega) (Four.get (by assumption)).below).mono ?_; rintro e w1 ⟨rfl, hb⟩))
  generalize ((((w1.setCell ⟨w.heap.size, 0, none⟩ (.bool nx)).setCell ⟨w.heap.size, 1, none⟩ (.slice A n c)).setCell ⟨w.heap.size + 1, 0, none⟩ (.bool ny)).setCell ⟨w.heap.size + 1, 1, none⟩ (.slice B m d)) = W at *
  have HE : Hid (Four w w.heap.size nx A n c (w.heap.size + 1) ny B m d (w.heap.size + 2) (w.heap.size + 3) W) := Four.get (by assumption)
  by_cases hm0 : m = 0
  · subst hm0
    have hb0 : Hid (quoZ a b = 0 ∧ remZ a b = 0) := by
      have h1 := List.eq_nil_of_length_eq_zero CY.out.len
      have h2 := ZY.out
      rw [h1] at h2
      have h3 : b = 0 := by rw [← h2]; cases ny <;> simp [zval, val]
      subst h3
      exact ⟨rfl, rfl⟩
    have MW := HE.out.stores
    obtain ⟨e0, e1, e2, e3, hI, hJ, hB⟩ := HE.out.done (isInt_zero W W.heap.size (p + 2)) (isInt_zero W W.heap.size q)
    go_wp2
    refine bodyPost_ret (v := .tuple #[.agg #[.bool false, .slice none 0 0], .agg #[.bool false, .slice none 0 0]]) (by simp [results, Tryd.results14, go_sem, e0, e1, e2, e3]) rfl ⟨false, none, 0, 0, false, none, 0, 0, rfl, ?_, ?_, hB⟩
    · rw [hb0.out.1]; exact hI
    · rw [hb0.out.2]; exact hJ
  · have hm1 : ((m : Int) == 0) = false := by simpa using hm0
    have hy0 : Hid (0 < val ys) := top_pos (right_top CY.out.right) (by have := CY.out.len; omega)
    have hbne : Hid (b ≠ 0) := by
      intro h
      have := AY.out
      rw [h] at this
      have := hy0.out
      omega
    have CXW := Lib.hid (CX.out.over HE.out.below).digs
    have CYW := Lib.hid (CY.out.over HE.out.below).digs
    go_wp2_with fail
    refine (HD.out hbne.out xs ys A B n c m d W AX.out AY.out CXW.out CYW.out (by omega) (by omega) (by omega)).mono ?_
    rintro e w2 ⟨A2, n2, c2, A3, n3, c3, rfl, hn2, hn3, hq2, hr3, hb2⟩
    rw [← AX.out, ← AY.out] at hq2 hr3
    have T2 := Lib.hid (Four.over hb2 HE.out)
    have M2 := T2.out.all.1
    cases nx with
    | false =>
      go_wp2_with fail
      refine (signed_row _ _ _ _ _ _ (by omega) hq2.out).mono ?_
      rintro e w6 ⟨x6, A6, n6, c6, rfl, hi6, hb6⟩
      have T6 := Lib.hid (Four.over hb6 T2.out)
      have M6 := T6.out.all.1
      go_wp2_with fail
      refine (signed_row _ _ _ _ _ _ (by omega) (hr3.out.row.over hb6.out)).mono ?_
      rintro e w7 ⟨x7, A7, n7, c7, rfl, hi7, hb7⟩
      have T7 := Lib.hid (Four.over hb7 T6.out)
      have M7 := T7.out.stores
      have HM := div_pos ZX.out ZY.out hy0.out
      rw [HM.1] at hi6
      rw [HM.2] at hi7
      obtain ⟨e0, e1, e2, e3, hI, hJ, hB⟩ := T7.out.done ((hi6.out.below hb7.out).more hb7.out.size (Nat.le_refl _)) hi7.out
      clear M6 HM
      go_wp2
      refine bodyPost_ret (v := .tuple #[.agg #[.bool x6, .slice A6 n6 c6], .agg #[.bool x7, .slice A7 n7 c7]]) (by simp [results, Tryd.results14, go_sem, e0, e1, e2, e3]) rfl ⟨x6, A6, n6, c6, x7, A7, n7, c7, rfl, hI.out.more (Nat.le_refl _) (by omega), hJ.out.more (Nat.le_refl _) (by omega), hB⟩
    | true =>
      by_cases h30 : n3 = 0
      · subst h30
        have hmod : Hid (val xs % val ys = 0) := by
          obtain ⟨ds, h1, h2⟩ := hr3.out
          have h3 := List.eq_nil_of_length_eq_zero h1.len
          rw [h3] at h2
          exact h2.symm
        go_wp2_with fail
        refine (signed_row _ _ _ _ _ _ (by omega) hq2.out).mono ?_
        rintro e w6 ⟨x6, A6, n6, c6, rfl, hi6, hb6⟩
        have T6 := Lib.hid (Four.over hb6 T2.out)
        have M6 := T6.out.all.1
        go_wp2_with fail
        refine (signed_row _ _ _ _ _ _ (by omega) (hr3.out.row.over hb6.out)).mono ?_
        rintro e w7 ⟨x7, A7, n7, c7, rfl, hi7, hb7⟩
        have T7 := Lib.hid (Four.over hb7 T6.out)
        have M7 := T7.out.stores
        have HM := div_neg0 ZX.out ZY.out hy0.out hmod.out
        rw [HM.1] at hi6
        rw [HM.2] at hi7
        obtain ⟨e0, e1, e2, e3, hI, hJ, hB⟩ := T7.out.done ((hi6.out.below hb7.out).more hb7.out.size (Nat.le_refl _)) hi7.out
        clear M6 HM
        go_wp2
        refine bodyPost_ret (v := .tuple #[.agg #[.bool x6, .slice A6 n6 c6], .agg #[.bool x7, .slice A7 n7 c7]]) (by simp [results, Tryd.results14, go_sem, e0, e1, e2, e3]) rfl ⟨x6, A6, n6, c6, x7, A7, n7, c7, rfl, hI.out.more (Nat.le_refl _) (by omega), hJ.out.more (Nat.le_refl _) (by omega), hB⟩
      · have h31 : (0 : Int) < (n3 : Int) := by omega
        have hmod : Hid (0 < val xs % val ys) := by
          obtain ⟨ds, h1, h2⟩ := hr3.out
          rw [← h2]
          exact top_pos h1.top (by have := h1.len; omega)
        have HONE : Hid (RowIs (w2.alloc (.cells #[.int .u32 1] 82)) (some ⟨w2.heap.size, 0, none⟩) 1 1 1) := by
          have hblk := Blk.new w2 82 #[.int .u32 1]
          refine ⟨[1], rfl, Nat.le_refl _, fun _ => ⟨w2.heap.size, 0, rfl, hblk.lt, fun j hj => ?_⟩, Dig.cons (by omega) Dig.nil, by simp [val]⟩
          obtain rfl : j = 0 := by simpa using hj
          rw [hblk.cell]
          rfl
        have HBA : Hid (Below w2.heap.size w2 (w2.alloc (.cells #[.int .u32 1] 82))) := (Below.refl _ _).alloc (Nat.le_refl _) _
        have T3 := Lib.hid (Four.over HBA T2.out)
        go_wp2_with fail
        refine (sum_rows (hq2.out.over HBA.out) HONE.out (by omega) (by omega)).mono ?_
        rintro e w4 ⟨A4, c4, rfl, hs4, hb4⟩
        have T4 := Lib.hid (Four.over hb4 T3.out)
        have M4 := T4.out.all.1
        clear M2
        go_wp2_with fail
        refine (difference_rows (n := m) (Y := val xs % val ys) (X := val ys) ⟨ys, (CY.out.over T4.out.below).digs, rfl⟩ ((hr3.out.over HBA.out).over hb4.out) (by omega) (Nat.le_of_lt (Nat.mod_lt _ hy0.out))).mono ?_
        rintro e w5 ⟨A5, c5, rfl, hd5, hb5⟩
        have T5 := Lib.hid (Four.over hb5 T4.out)
        have M5 := T5.out.all.1
        clear M4
        go_wp2_with fail
        refine (signed_row _ _ _ _ _ _ (by omega) (hs4.out.over hb5.out)).mono ?_
        rintro e w6 ⟨x6, A6, n6, c6, rfl, hi6, hb6⟩
        have T6 := Lib.hid (Four.over hb6 T5.out)
        have M6 := T6.out.all.1
        go_wp2_with fail
        refine (signed_row _ _ _ _ _ _ (by omega) (hd5.out.over hb6.out)).mono ?_
        rintro e w7 ⟨x7, A7, n7, c7, rfl, hi7, hb7⟩
        have T7 := Lib.hid (Four.over hb7 T6.out)
        have M7 := T7.out.stores
        have HM := div_neg1 ZX.out ZY.out hy0.out hmod.out
        rw [HM.1] at hi6
        rw [HM.2] at hi7
        obtain ⟨e0, e1, e2, e3, hI, hJ, hB⟩ := T7.out.done ((hi6.out.below hb7.out).more hb7.out.size (Nat.le_refl _)) hi7.out
        clear M6 HM
        go_wp2
        refine bodyPost_ret (v := .tuple #[.agg #[.bool x6, .slice A6 n6 c6], .agg #[.bool x7, .slice A7 n7 c7]]) (by simp [results, Tryd.results14, go_sem, e0, e1, e2, e3]) rfl ⟨x6, A6, n6, c6, x7, A7, n7, c7, rfl, hI.out.more (Nat.le_refl _) (by omega), hJ.out.more (Nat.le_refl _) (by omega), hB⟩
end Go.Proofs.YtpikbhcjgcbdfaaDoor.wh
