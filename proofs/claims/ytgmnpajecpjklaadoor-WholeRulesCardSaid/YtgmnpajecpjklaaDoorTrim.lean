/- Package whole: trim, signed, compare. -/
import Derived.Test.YtgmnpajecpjklaaDoorRight
import Derived.Test.YtgmnpajecpjklaaDoorNum
import Derived.Deep.QuietTactic
import Derived.BigQuiet
import Derived.Deep.RegionHeld3
namespace Go.Proofs.YtgmnpajecpjklaaDoor.wh
open Go.RowKit

/-- k is the place behind the last digit that isn't 0 -/
def TrimAt (ds : List Nat) (k : Nat) : Prop := k ≤ ds.length ∧ Top (ds.take k) ∧ val (ds.take k) = val ds
/-- nothing but noughts from k on -/
def Noughts (ds : List Nat) (k : Nat) : Prop := ∀ j (h : j < ds.length), k ≤ j → ds[j] = 0
theorem noughts_val {ds : List Nat} {k : Nat} (hk : k ≤ ds.length) (h : Noughts ds k) : val (ds.take k) = val ds := by
  have e : val ds = val (ds.take k ++ ds.drop k) := by rw [List.take_append_drop]
  rw [e, val_append]
  have : ds.drop k = List.replicate (ds.length - k) 0 := by
    apply List.ext_getElem
    · simp
    · intro i h1 h2
      simp at h1
      simp [h (k + i) (by omega) (by omega)]
  rw [this, val_zeros]
  simp
theorem trimAt_zero {ds : List Nat} (h : Noughts ds 0) : TrimAt ds 0 := ⟨Nat.zero_le _, by simp [Top.nil], noughts_val (Nat.zero_le _) h⟩
theorem trimAt_last {ds : List Nat} {k : Nat} (hk : k + 1 ≤ ds.length) (h : Noughts ds (k + 1)) (hz : ds[k] ≠ 0) : TrimAt ds (k + 1) := by
  refine ⟨hk, ?_, noughts_val hk h⟩
  intro hn
  rw [List.getLast_eq_getElem]
  simpa [Nat.min_eq_left hk] using hz
theorem noughts_step {ds : List Nat} {k : Nat} (hk : k + 1 ≤ ds.length) (h : Noughts ds (k + 1)) (hz : ds[k] = 0) : Noughts ds k := fun j hj hkj => by
  by_cases e : j = k
  · subst e; exact hz
  · exact h j hj (by omega)

def Trimmed (A : Option Addr) (c : Nat) (ds : List Nat) (e : Ending) : Prop := ∃ k, e = .returned (.slice A k c) ∧ TrimAt ds k

set_option maxHeartbeats 400000 in
theorem trim_any (A : Option Addr) (n c : Nat) (ds : List Nat) (w : World) (hl : ds.length = n) (hn : ds.length ≤ maxLen) (hnc : ds.length ≤ c) (hr : Rd w w.heap.size A ds) :
    Calls Tryd.prog 56 #[.slice A n c] w fun e w' => Trimmed A c ds e ∧ w = w' := by
  subst hl
  unfold maxLen at hn
  have HR := Lib.hid hr
  clear hr
  go_enter Tryd.func56, Tryd.ntmps56
  go_wp2
  go_loop [0] (fun v => ∃ k : Nat, k ≤ ds.length ∧ v = .slice A k c ∧ Hid (Noughts ds k)) (fun v => match v with | .slice _ k _ => k | _ => 0)
  case atStart => exact ⟨ds.length, Nat.le_refl _, rfl, fun j hj hk => absurd hk (by omega)⟩
  case round =>
    obtain ⟨k, hk, rfl, ha⟩ := hrel
    cases k with
    | zero =>
      go_wp2
      go_ret
      exact ⟨⟨0, rfl, trimAt_zero ha.out⟩, rfl⟩
    | succ k =>
      obtain ⟨b, off, rfl, hb, hc⟩ := HR.out.at_ (k := k) (by omega)
      by_cases hz : ds[k] = 0
      · have hz' : (((ds[k] : Nat) : Int) == 0) = true := by simpa using hz
        have HZ := Lib.hid hz
        clear hz
        go_wp2
        go_round
        case rel => exact ⟨k, by omega, rfl, noughts_step hk ha.out HZ.out⟩
        case measure => simp
      · have hz' : (((ds[k] : Nat) : Int) == 0) = false := by simpa using hz
        go_wp2
        go_ret
        exact ⟨⟨k + 1, rfl, trimAt_last hk ha.out hz⟩, rfl⟩

/-- The value v is the integer z: its digits lie below block B, and are at most m. -/
def IsInt (w : World) (B m : Nat) (v : Value) (z : Int) : Prop :=
  ∃ neg A n c ds, v = .agg #[.bool neg, .slice A n c] ∧ ds.length = n ∧ Rd w B A ds ∧ n ≤ m ∧ n ≤ c ∧ rightB neg ds = true ∧ zval neg ds = z

theorem right_dig {neg : Bool} {ds : List Nat} (h : rightB neg ds = true) : Dig ds := by
  unfold rightB at h
  rw [Bool.and_eq_true] at h
  intro d hd
  simpa using List.all_eq_true.1 h.1 d hd
theorem right_top {neg : Bool} {ds : List Nat} (h : rightB neg ds = true) : Top ds := by
  intro hn
  rw [rightB_all (fun j hj => right_dig h _ (List.getElem_mem hj))] at h
  have hl : ds.length ≠ 0 := fun e => hn (List.eq_nil_of_length_eq_zero e)
  rw [if_neg hl] at h
  rw [List.getLast_eq_getElem]
  have := of_decide_eq_true h
  rwa [List.getD_eq_getElem?_getD, List.getElem?_eq_getElem (by omega)] at this
theorem right_nil {neg : Bool} (h : rightB neg [] = true) : neg = false := by
  simpa [rightB] using h
theorem right_mk {neg : Bool} {ds : List Nat} (hd : Dig ds) (ht : Top ds) (h0 : ds = [] → neg = false) : rightB neg ds = true := by
  rw [rightB_all (fun j hj => hd _ (List.getElem_mem hj))]
  by_cases hl : ds.length = 0
  · rw [if_pos hl, h0 (List.eq_nil_of_length_eq_zero hl)]; rfl
  · rw [if_neg hl]
    have hn : ds ≠ [] := fun e => hl (by rw [e]; rfl)
    have := ht hn
    rw [List.getLast_eq_getElem] at this
    rw [List.getD_eq_getElem?_getD, List.getElem?_eq_getElem (by omega)]
    exact decide_eq_true this

theorem IsInt.more {w : World} {B B' m m' : Nat} {v : Value} {z : Int} (h : IsInt w B m v z) (hB : B ≤ B') (hm : m ≤ m') : IsInt w B' m' v z := by
  obtain ⟨neg, A, n, c, ds, h1, h2, h3, h4, h5⟩ := h
  exact ⟨neg, A, n, c, ds, h1, h2, h3.more hB, by omega, h5⟩
theorem IsInt.below {w w' : World} {B m : Nat} {v : Value} {z : Int} (h : IsInt w B m v z) (hb : Below B w w') : IsInt w' B m v z := by
  obtain ⟨neg, A, n, c, ds, h1, h2, h3, h4⟩ := h
  exact ⟨neg, A, n, c, ds, h1, h2, h3.below hb, h4⟩

/-- Block g is a variable of type api.Int: its two cells. -/
def Box (w : World) (g : Nat) (x : Bool) (a : Option Addr) (n c : Nat) : Prop := Blk w g 24 #[.bool x, .slice a n c]
/-- both cells of a variable are stored -/
abbrev put2 (w : World) (g : Nat) (x : Bool) (a : Option Addr) (n c : Nat) : World := (w.setCell ⟨g, 0, none⟩ (.bool x)).setCell ⟨g, 1, none⟩ (.slice a n c)
section
variable {w w' : World} {g B : Nat} {x y : Bool} {a a' : Option Addr} {n c n' c' : Nat}
theorem Box.new (w : World) (x : Bool) (a : Option Addr) (n c : Nat) : Box (w.alloc (.cells #[.bool x, .slice a n c] 24)) w.heap.size x a n c := Blk.new _ _ _
theorem Box.c0 (h : Box w g x a n c) : w.cell? ⟨g, 0, none⟩ = some (.bool x) := Blk.cell h 0
theorem Box.c1 (h : Box w g x a n c) : w.cell? ⟨g, 1, none⟩ = some (.slice a n c) := Blk.cell h 1
theorem Box.f0 (h : Box w g x a n c) : w.frozen? ⟨g, 0, none⟩ = false := Blk.frozen h 0
theorem Box.f1 (h : Box w g x a n c) : w.frozen? ⟨g, 1, none⟩ = false := Blk.frozen h 1
theorem Box.put (h : Box w g x a n c) (y : Bool) (a' : Option Addr) (n' c' : Nat) : Box (put2 w g y a' n' c') g y a' n' c' := (Blk.set_ (Blk.set_ h 0 (.bool y)) 1 (.slice a' n' c'))
theorem Box.far (h : Box w g x a n c) {k : Nat} (hk : g ≠ k) (y : Bool) (a' : Option Addr) (n' c' : Nat) : Box (put2 w k y a' n' c') g x a n c := Blk.far (Blk.far h (p := ⟨k, 0, none⟩) hk _) (p := ⟨k, 1, none⟩) hk _
theorem Box.below (h : Box w g x a n c) (hb : Below B w w') (hg : g < B) : Box w' g x a n c := Blk.below h hb hg
theorem Box.over (h : Box w g x a n c) (hb : Below w.heap.size w w') : Box w' g x a n c := Blk.below h hb (Blk.lt h)
theorem Box.alloc (h : Box w g x a n c) (o : Obj) : Box (w.alloc o) g x a n c := Blk.alloc h o
theorem Box.drew (h : Box w g x a n c) : Box w.drew g x a n c := h
theorem Box.drewN (h : Box w g x a n c) (k : Nat) : Box (w.drewN k) g x a n c := h
theorem Box.lt (h : Box w g x a n c) : g < w.heap.size := Blk.lt h
theorem Box.no_int (h : Box w g x a n c) (i : Nat) (d : Int) : w.cell? ⟨g, i, none⟩ ≠ some (.int .u32 d) := by
  rw [Blk.cell h i]
  match i with
  | 0 => simp
  | 1 => simp
  | i + 2 => simp
theorem Rd.put {A : Option Addr} {ds : List Nat} (h : Rd w B A ds) (hx : Box w g x a n c) (y : Bool) (a' : Option Addr) (n' c' : Nat) : Rd (put2 w g y a' n' c') B A ds := fun hn => by
  obtain ⟨b, off, e, hb, hc⟩ := h hn
  have hne : b ≠ g := fun e => by subst e; exact hx.no_int _ _ (hc 0 hn)
  refine ⟨b, off, e, hb, fun j hj => ?_⟩
  rw [World.cell?_setCell_far _ _ _ _ (fun e => hne e.symm), World.cell?_setCell_far _ _ _ _ (fun e => hne e.symm)]
  exact hc j hj
theorem IsInt.put {m : Nat} {v : Value} {z : Int} (h : IsInt w B m v z) (hx : Box w g x a n c) (y : Bool) (a' : Option Addr) (n' c' : Nat) : IsInt (put2 w g y a' n' c') B m v z := by
  obtain ⟨neg, A, n, c, ds, h1, h2, h3, h4⟩ := h
  exact ⟨neg, A, n, c, ds, h1, h2, h3.put hx _ _ _ _, h4⟩
theorem below_put {w0 : World} (h : Below B w0 w) (hg : B ≤ g) (y : Bool) (a' : Option Addr) (n' c' : Nat) : Below B w0 (put2 w g y a' n' c') := (h.setCell (p := ⟨g, 0, none⟩) hg _).setCell (p := ⟨g, 1, none⟩) hg _
theorem put2_size (w : World) (g : Nat) (y : Bool) (a' : Option Addr) (n' c' : Nat) : (put2 w g y a' n' c').heap.size = w.heap.size := by simp [put2, World.setCell]
end

/-- the nought -/
def zeroInt : Value := .agg #[.bool false, .slice none 0 0]
theorem isInt_zero (w : World) (B m : Nat) : IsInt w B m (.agg #[.bool false, .slice none 0 0]) 0 :=
  ⟨false, none, 0, 0, [], rfl, rfl, Rd.nil, Nat.zero_le _, Nat.le_refl _, by simp [rightB], by simp [zval, val]⟩

def GivesInt (W : World) (B m : Nat) (z : Int) (e : Ending) (w' : World) : Prop := ∃ v, e = .returned v ∧ IsInt w' B m v z ∧ Below W.heap.size W w'

set_option maxHeartbeats 400000 in
theorem signed_any (neg : Bool) (A : Option Addr) (n c : Nat) (ds : List Nat) (w : World) (hl : ds.length = n) (hn : ds.length ≤ maxLen) (hnc : ds.length ≤ c) (hr : Rd w w.heap.size A ds) (hd : Dig ds) :
    Calls Tryd.prog 38 #[.bool neg, .slice A n c] w fun e w' => GivesInt w w.heap.size n (zval neg ds) e w' := by
  have HR := Lib.hid hr
  clear hr
  have HL := Lib.hid hl
  clear hl
  go_enter Tryd.func38, Tryd.ntmps38
  go_wp2_with fail
  refine (trim_any _ _ _ ds _ HL.out hn hnc (HR.out.alloc' _)).mono ?_
  rintro e w1 ⟨⟨k, rfl, ht⟩, rfl⟩
  have HT := Lib.hid ht
  clear ht
  cases k with
  | zero =>
    go_wp2
    refine bodyPost_ret (v := .agg #[.bool false, .slice none 0 0]) (by simp [results, Tryd.results38, go_sem]) rfl ⟨_, rfl, ?_, ?_⟩
    · have h0 : zval neg ds = 0 := by
        have := HT.out.2.2
        simp [val] at this
        cases neg <;> simp [zval, ← this]
      rw [h0]
      exact isInt_zero _ _ _
    · exact (Below.refl _ _).alloc (Nat.le_refl _) _
  | succ k =>
    have h0 : (((k + 1 : Nat) : Int) == 0) = false := by simp; omega
    go_wp2
    refine bodyPost_ret (v := .agg #[.bool neg, .slice A (k + 1) c]) (by simp [results, Tryd.results38, go_sem]) rfl ⟨_, rfl, ?_, ?_⟩
    · obtain ⟨hk, ht, hv⟩ := HT.out
      have hL := HL.out
      have hlt : (ds.take (k + 1)).length = k + 1 := by rw [List.length_take]; omega
      exact ⟨neg, A, k + 1, c, ds.take (k + 1), rfl, hlt, ((HR.out.take _).alloc (Nat.le_refl _) _), by omega, by omega,
        right_mk (hd.take _) ht (fun e => by rw [e] at hlt; simp at hlt), by simp [zval, hv]⟩
    · exact (Below.refl _ _).alloc (Nat.le_refl _) _

/-- digits behind k are one -/
def SameFrom (a b : List Nat) (k : Nat) : Prop := a.drop k = b.drop k
theorem same_step {a b : List Nat} {k : Nat} (ha : k < a.length) (hb : k < b.length) (h : SameFrom a b (k + 1)) (e : a[k] = b[k]) : SameFrom a b k := by
  unfold SameFrom at *
  rw [List.drop_eq_getElem_cons ha, List.drop_eq_getElem_cons hb, e, h]

set_option maxHeartbeats 400000 in
theorem compare_any (A B : Option Addr) (n m c d : Nat) (xs bs : List Nat) (w : World) (hla : xs.length = n) (hlb : bs.length = m) (hn : xs.length ≤ maxLen) (hra : Rd w w.heap.size A xs) (hrb : Rd w w.heap.size B bs)
    (hda : Dig xs) (hdb : Dig bs) (hta : Top xs) (htb : Top bs) :
    Calls Tryd.prog 42 #[.slice A n c, .slice B m d] w fun e w' => e = .returned (.int .i64 (cmpN (val xs) (val bs))) ∧ Below w.heap.size w w' := by
  subst hla
  subst hlb
  unfold maxLen at hn
  have HA := Lib.hid hra
  have HB := Lib.hid hrb
  clear hra hrb
  rcases Nat.lt_trichotomy xs.length bs.length with hlt | heq | hgt
  · have h1 : (((xs.length : Nat) : Int) != ((bs.length : Nat) : Int)) = true := by simp; omega
    have h2 : ((xs.length : Nat) : Int) < ((bs.length : Nat) : Int) := by omega
    go_enter Tryd.func42, Tryd.ntmps42
    go_wp2
    go_ret
    exact ⟨ret_int (cmpN_lt (top_short hda htb hlt)).symm, Below.refl _ _⟩
  · have h1 : (((xs.length : Nat) : Int) != ((bs.length : Nat) : Int)) = false := by simp; omega
    have HL := Lib.hid heq
    clear heq
    go_enter Tryd.func42, Tryd.ntmps42
    go_wp2
    go_loopw [5] (fun i wr => (∃ (k : Nat) (q : Int), k ≤ xs.length ∧ i = .int .i64 q ∧ Hid (q = (k : Int) - 1) ∧ Hid (SameFrom xs bs k)) ∧ Below w.heap.size w wr) (fun i _ => (intOf i + 1).toNat)
    case atStart => exact ⟨⟨xs.length, _, Nat.le_refl _, rfl, rfl, by have := HL.out; show xs.drop _ = bs.drop _; rw [List.drop_eq_nil_of_le (by omega), List.drop_eq_nil_of_le (by omega)]⟩, Below.refl _ _⟩
    case round =>
      obtain ⟨⟨k, q, hk, rfl, hq, ha⟩, hbw⟩ := hrel
      cases k with
      | zero =>
        obtain rfl : q = -1 := by have := hq.out; omega
        go_wp2
        go_ret
        exact ⟨ret_int (cmpN_eq (by have h0 := ha.out; unfold SameFrom at h0; rw [List.drop_zero, List.drop_zero] at h0; rw [h0])).symm, hbw⟩
      | succ k =>
        obtain rfl : q = (k : Int) := by have := hq.out; omega
        have hkb : k < bs.length := by have := HL.out; omega
        obtain ⟨b, off, rfl, hb, hc⟩ := (HA.out.below hbw).at_ (k := k) (by omega)
        obtain ⟨b', off', rfl, hb', hc'⟩ := (HB.out.below hbw).at_ (k := k) hkb
        rcases Nat.lt_trichotomy xs[k] bs[k] with hlt | he | hgt
        · have hc1 : ((xs[k] : Nat) : Int) < ((bs[k] : Nat) : Int) := by omega
          have HQ := Lib.hid (val_at hda k hk hkb ha.out hlt)
          clear hlt
          go_wp2
          go_quiet (fail)
          go_wp2
          go_ret
          exact ⟨ret_int (cmpN_lt HQ.out).symm, below_drewN hbw _⟩
        · have hc1 : ¬ ((xs[k] : Nat) : Int) < ((bs[k] : Nat) : Int) := by omega
          have hc2 : ¬ ((bs[k] : Nat) : Int) < ((xs[k] : Nat) : Int) := by omega
          have HE := Lib.hid (same_step hk hkb ha.out he)
          clear he
          go_wp2
          go_quiet (fail)
          go_wp2
          go_quiet (fail)
          go_wp2
          go_roundw
          case rel => exact ⟨⟨k, _, by omega, rfl, rfl, HE.out⟩, below_drewN hbw _⟩
          case measure => simp [intOf]
        · have hc1 : ¬ ((xs[k] : Nat) : Int) < ((bs[k] : Nat) : Int) := by omega
          have hc2 : ((bs[k] : Nat) : Int) < ((xs[k] : Nat) : Int) := by omega
          have HQ := Lib.hid (val_at hdb k hkb hk (Eq.symm ha.out) hgt)
          clear hgt
          go_wp2
          go_quiet (fail)
          go_wp2
          go_quiet (fail)
          go_wp2
          go_ret
          exact ⟨ret_int (cmpN_gt HQ.out).symm, below_drewN (below_drewN hbw _) _⟩
  · have h1 : (((xs.length : Nat) : Int) != ((bs.length : Nat) : Int)) = true := by simp; omega
    have h2 : ¬ ((xs.length : Nat) : Int) < ((bs.length : Nat) : Int) := by omega
    go_enter Tryd.func42, Tryd.ntmps42
    go_wp2
    go_ret
    exact ⟨ret_int (cmpN_gt (top_short hdb hta hgt)).symm, Below.refl _ _⟩
end Go.Proofs.YtgmnpajecpjklaaDoor.wh
