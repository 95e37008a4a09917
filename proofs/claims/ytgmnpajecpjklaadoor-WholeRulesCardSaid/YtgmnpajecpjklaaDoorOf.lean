/- Package whole: join, Of, Small. -/
import Derived.Test.YtgmnpajecpjklaaDoorSplit
namespace Go.Proofs.YtgmnpajecpjklaaDoor.wh
open Go.RowKit

theorem val_drop {ds : List Nat} {k : Nat} (hk : k < ds.length) : val (ds.drop k) = ds[k] + 1000000000 * val (ds.drop (k + 1)) := by
  rw [List.drop_eq_getElem_cons hk]; rfl
theorem val_drop_le (ds : List Nat) (k : Nat) : val (ds.drop k) ≤ val ds := by
  have e : val ds = val (ds.take k ++ ds.drop k) := by rw [List.take_append_drop]
  rw [e, val_append]
  have h : 1 ≤ 1000000000 ^ (ds.take k).length := Nat.pow_pos (by omega)
  have : 1 * val (ds.drop k) ≤ 1000000000 ^ (ds.take k).length * val (ds.drop k) := Nat.mul_le_mul_right _ h
  omega

/-- the number of the digits from k on -/
def HighIs (ds : List Nat) (k t : Nat) : Prop := t = val (ds.drop k)

set_option maxRecDepth 100000 in
set_option maxHeartbeats 400000 in
theorem join_any (A : Option Addr) (n c : Nat) (ds : List Nat) (w : World) (hl : ds.length = n) (hn : ds.length ≤ maxLen) (hr : Rd w w.heap.size A ds) (hd : Dig ds) (hv : W64 (val ds)) :
    Calls Tryd.prog 46 #[.slice A n c] w fun e w' => e = .returned (.int .u64 (val ds : Nat)) ∧ w = w' := by
  subst hl
  unfold maxLen at hn
  have HR := Lib.hid hr
  clear hr
  have HD := Lib.hid hd
  clear hd
  go_enter Tryd.func46, Tryd.ntmps46
  go_wp2
  go_loop [3, 4] (fun u i => ∃ (k t : Nat) (q : Int), k ≤ ds.length ∧ u = .int .u64 t ∧ i = .int .i64 q ∧ Hid (q = (k : Int) - 1) ∧ Hid (HighIs ds k t)) (fun _ i => (intOf i + 1).toNat)
  case atStart => exact ⟨ds.length, 0, _, Nat.le_refl _, rfl, rfl, rfl, by show 0 = val (ds.drop ds.length); rw [List.drop_length]; rfl⟩
  case round =>
    obtain ⟨k, t, q, hk, rfl, rfl, hq, ht⟩ := hrel
    cases k with
    | zero =>
      obtain rfl : q = -1 := by have := hq.out; omega
      have HT : Hid (t = val ds) := by have h := ht.out; unfold HighIs at h; rw [List.drop_zero] at h; exact h
      go_wp2
      go_ret
      exact ⟨ret_int (by rw [HT.out]), rfl⟩
    | succ k =>
      obtain rfl : q = (k : Int) := by have := hq.out; omega
      obtain ⟨b, off, rfl, hb, hc⟩ := HR.out.at_ (k := k) (by omega)
      obtain ⟨s, hs⟩ : ∃ s : Nat, s = ds[k] := ⟨_, rfl⟩
      have hs9 : s < 1000000000 := by rw [hs]; exact HD.out.get k _
      have hsum : val (ds.drop k) = s + 1000000000 * t := by rw [hs, ht.out]; exact val_drop (by omega)
      have hle := val_drop_le ds k
      have hb1 : (t : Int) * 1000000000 + (s : Int) ≤ 18446744073709551615 := by have := hv.le; omega
      have HS : Hid (HighIs ds k (t * 1000000000 + s)) := by show _ = _; omega
      rw [← hs] at hc
      clear hs hsum hle
      go_wp2
      go_round
      case rel => exact ⟨k, t * 1000000000 + s, _, by omega, by go_num, rfl, rfl, HS.out⟩
      case measure => simp [intOf]

def magN (n : Int) : Nat := n.natAbs
def GivesI (W : World) (z : Int) (e : Ending) (w' : World) : Prop := ∃ v, e = .returned v ∧ IsInt w' w'.heap.size 3 v z ∧ Below W.heap.size W w'

theorem GivesInt.of {W w' : World} {B m : Nat} {z : Int} {e : Ending} (h : GivesInt W B m z e w') (hB : B ≤ w'.heap.size) (hm : m ≤ 3) : GivesI W z e w' := by
  obtain ⟨v, h1, h2, h3⟩ := h
  exact ⟨v, h1, h2.more hB hm, h3⟩

set_option maxRecDepth 100000 in
set_option maxHeartbeats 400000 in
theorem of_any (n : Int) (w : World) (h1 : -9223372036854775808 ≤ n) (h2 : n ≤ 9223372036854775807) :
    Calls Tryd.prog 30 #[.int .i64 n] w fun e w' => GivesI w n e w' := by
  obtain ⟨s, hs⟩ : ∃ s : Nat, s = n.natAbs := ⟨_, rfl⟩
  have hs2 : W64 s := by unfold W64; omega
  by_cases h0 : n < 0
  · obtain ⟨a, ha⟩ : ∃ a, IntKind.u64.wrap n = a := ⟨_, rfl⟩
    have hb : IntKind.u64.wrap (-a) = (s : Int) := by rw [← ha]; simp [IntKind.wrap, IntKind.bits, IntKind.signed]; omega
    have HS := Lib.hid hs
    clear hs
    go_enter Tryd.func30, Tryd.ntmps30
    go_wp2_with fail
    refine (split_any _ _ hs2).mono ?_
    rintro e w1 ⟨A, m, c, ds, rfl, hl, hr, hmc, hm3, hd, hv, hbw⟩
    have HL := Lib.hid hl
    have HV := Lib.hid hv
    have HRD := Lib.hid hr
    clear hl hv hr
    go_wp2_with fail
    refine (signed_any true A m c ds _ HL.out (by have := HL.out; unfold maxLen; omega) (by have := HL.out; omega) HRD.out hd).mono ?_
    rintro e w2 ⟨v, rfl, hi, hb2⟩
    obtain ⟨neg, A', n', c', ds', rfl, hl', hr', hm', hc', hR', hz'⟩ := hi
    have hzz : zval neg ds' = n := by rw [hz']; have := HV.out; have := HS.out; simp [zval]; omega
    have hw1 := hbw.size
    have hw2 := hb2.size
    have hx := ((Box.new w false none 0 0).over hbw).over hb2
    have c0 := hx.c0
    have c1 := hx.c1
    have f0 := hx.f0
    have f1 := hx.f1
    rw [World.size_alloc] at hw1
    go_wp2
    refine bodyPost_ret (v := .agg #[.bool neg, .slice A' n' c']) (by simp [results, Tryd.results30, go_sem, c0, c1]) rfl ⟨_, rfl, ?_, ?_⟩
    · have hi2 : IsInt w2 w1.heap.size m (.agg #[.bool neg, .slice A' n' c']) n := ⟨neg, A', n', c', ds', rfl, hl', hr', hm', hc', hR', hzz⟩
      exact (hi2.put hx _ _ _ _).more (by rw [put2_size]; omega) hm3
    · exact below_put ((((Below.refl _ _).alloc (Nat.le_refl _) _).trans (hbw.mono (by simp))).trans (hb2.mono (by omega))) (Nat.le_refl _) _ _ _ _
  · obtain ⟨u, rfl⟩ := Int.eq_ofNat_of_zero_le (show 0 ≤ n by omega)
    obtain rfl : s = u := by simpa using hs
    clear hs
    have h0' : ¬ ((s : Int) < 0) := by omega
    go_enter Tryd.func30, Tryd.ntmps30
    go_wp2_with fail
    refine (split_any _ _ hs2).mono ?_
    rintro e w1 ⟨A, m, c, ds, rfl, hl, hr, hmc, hm3, hd, hv, hbw⟩
    have HL := Lib.hid hl
    have HV := Lib.hid hv
    have HRD := Lib.hid hr
    clear hl hv hr
    go_wp2_with fail
    refine (signed_any false A m c ds _ HL.out (by have := HL.out; unfold maxLen; omega) (by have := HL.out; omega) HRD.out hd).mono ?_
    rintro e w2 ⟨v, rfl, hi, hb2⟩
    obtain ⟨neg, A', n', c', ds', rfl, hl', hr', hm', hc', hR', hz'⟩ := hi
    have hzz : Hid (zval neg ds' = (s : Int)) := by show zval neg ds' = (s : Int); rw [hz']; have := HV.out; simp [zval]; omega
    clear hz'
    have hw1 := hbw.size
    have hw2 := hb2.size
    have hx := ((Box.new w false none 0 0).over hbw).over hb2
    have c0 := hx.c0
    have c1 := hx.c1
    have f0 := hx.f0
    have f1 := hx.f1
    rw [World.size_alloc] at hw1
    go_wp2
    refine bodyPost_ret (v := .agg #[.bool neg, .slice A' n' c']) (by simp [results, Tryd.results30, go_sem, c0, c1]) rfl ⟨_, rfl, ?_, ?_⟩
    · have hi2 : IsInt w2 w1.heap.size m (.agg #[.bool neg, .slice A' n' c']) (s : Int) := ⟨neg, A', n', c', ds', rfl, hl', hr', hm', hc', hR', hzz.out⟩
      exact (hi2.put hx _ _ _ _).more (by rw [put2_size]; omega) hm3
    · exact below_put ((((Below.refl _ _).alloc (Nat.le_refl _) _).trans (hbw.mono (by simp))).trans (hb2.mono (by omega))) (Nat.le_refl _) _ _ _ _

/-- what an int of -2^62 to 2^62 is -/
def smallZ (z : Int) : Int := if -4611686018427387904 ≤ z ∧ z ≤ 4611686018427387904 then z else 0
def isSmall (z : Int) : Bool := decide (-4611686018427387904 ≤ z ∧ z ≤ 4611686018427387904)
theorem small_no {z : Int} (h : ¬ (-4611686018427387904 ≤ z ∧ z ≤ 4611686018427387904)) : smallZ z = 0 ∧ isSmall z = false := by
  unfold smallZ isSmall
  exact ⟨if_neg h, decide_eq_false h⟩
theorem small_yes {z : Int} (h : -4611686018427387904 ≤ z ∧ z ≤ 4611686018427387904) : smallZ z = z ∧ isSmall z = true := by
  unfold smallZ isSmall
  exact ⟨if_pos h, decide_eq_true h⟩
theorem zval_abs (neg : Bool) (ds : List Nat) : (zval neg ds).natAbs = val ds := by cases neg <;> simp [zval]

def GivesSmall (W : World) (z : Int) (e : Ending) (w' : World) : Prop := e = .returned (.tuple #[.int .i64 (smallZ z), .bool (isSmall z)]) ∧ Below W.heap.size W w'

set_option maxRecDepth 100000 in
set_option maxHeartbeats 400000 in
theorem small_any (v : Value) (m : Nat) (z : Int) (w : World) (hm : m ≤ maxLen) (hi : IsInt w w.heap.size m v z) :
    Calls Tryd.prog 32 #[v] w fun e w' => GivesSmall w z e w' := by
  obtain ⟨neg, A, n, c, ds, rfl, hl, hr, hnm, hnc, hR, hz⟩ := hi
  have hn : ds.length ≤ maxLen := by omega
  have HL := Lib.hid hl
  have HRD := Lib.hid hr
  have HR := Lib.hid hR
  have HZ := Lib.hid hz
  clear hl hr hR hz
  go_enter Tryd.func32, Tryd.ntmps32
  go_wp2_with fail
  refine (clean_any _ _ _ _ ds _ HL.out hn (HRD.out.alloc' _) HR.out).mono ?_
  rintro e w1 ⟨rfl, hb⟩
  have hw1 := hb.size
  rw [World.size_alloc] at hw1
  have hx := (Box.new w neg A n c).over hb
  have c0 := hx.c0
  have c1 := hx.c1
  have f0 := hx.f0
  have f1 := hx.f1
  have hbelow : Below w.heap.size w (put2 w1 w.heap.size neg A n c) := below_put (((Below.refl _ _).alloc (Nat.le_refl _) _).trans (hb.mono (by simp))) (Nat.le_refl _) _ _ _ _
  have hrd : Hid (Rd (put2 w1 w.heap.size neg A n c) w.heap.size A ds) := HRD.out.below hbelow
  by_cases h3 : 3 < n
  · have h3' : (3 : Int) < (n : Int) := by omega
    have hno : Hid (smallZ z = 0 ∧ isSmall z = false) := by
      refine small_no ?_
      have h1 := top_ge (right_top HR.out) (fun e => by have := HL.out; rw [e] at this; simp at this; omega)
      have h2 : 1000000000 ^ 3 ≤ 1000000000 ^ (ds.length - 1) := pow_mono (by have := HL.out; omega)
      have h4 := zval_abs neg ds
      rw [HZ.out] at h4
      omega
    go_wp2
    go_ret2
    exact ⟨by rw [hno.out.1, hno.out.2]; rfl, hbelow⟩
  · have h3' : ¬ (3 : Int) < (n : Int) := by omega
    by_cases hbig : ∃ h : 2 < ds.length, 4 < ds[2]
    · obtain ⟨h2, h4⟩ := hbig
      obtain rfl : n = 3 := by have := HL.out; omega
      obtain ⟨b, off, rfl, hb', hc⟩ := hrd.out.at_ (k := 2) h2
      have h4' : (4 : Int) < ((ds[2] : Nat) : Int) := by omega
      have hno : Hid (smallZ z = 0 ∧ isSmall z = false) := by
        refine small_no ?_
        have hv : val ds = val (ds.take 2) + 1000000000 ^ 2 * val (ds.drop 2) := by
          conv => lhs; rw [← List.take_append_drop 2 ds]
          rw [val_append, List.length_take, Nat.min_eq_left (by omega)]
        rw [val_drop h2] at hv
        have h5 := zval_abs neg ds
        rw [HZ.out] at h5
        omega
      go_wp2
      go_ret2
      exact ⟨by rw [hno.out.1, hno.out.2]; rfl, hbelow⟩
    · have hlow : Hid (val ds < 5000000000000000000) := by
        show _ < _
        have hd := right_dig HR.out
        have hlen := HL.out
        by_cases h2 : 2 < ds.length
        · have hv : val ds = val (ds.take 2) + 1000000000 ^ 2 * val (ds.drop 2) := by
            conv => lhs; rw [← List.take_append_drop 2 ds]
            rw [val_append, List.length_take, Nat.min_eq_left (by omega)]
          rw [val_drop h2, List.drop_eq_nil_of_le (by omega)] at hv
          have hlt := val_lt (hd.take 2)
          rw [List.length_take, Nat.min_eq_left (by omega)] at hlt
          have : ¬ 4 < ds[2] := fun h => hbig ⟨h2, h⟩
          simp only [val] at hv
          omega
        · have h1 := val_lt hd
          have h2 : 1000000000 ^ ds.length ≤ 1000000000 ^ 2 := pow_mono (by omega)
          omega
      obtain ⟨s, hs⟩ : ∃ s : Nat, s = val ds := ⟨_, rfl⟩
      have hw64 : W64 (val ds) := by have := hlow.out; unfold W64; omega
      have HS : Hid ((zval neg ds).natAbs = s) := by show _ = s; rw [hs]; exact zval_abs neg ds
      have HD : Hid (Dig ds) := right_dig HR.out
      have hjoin : ∀ W : World, Rd W W.heap.size A ds → Calls Tryd.prog 46 #[.slice A n c] W fun e w' => e = .returned (.int .u64 (s : Nat)) ∧ W = w' := by
        intro W hW
        rw [hs]
        exact join_any A n c ds W HL.out hn hW HD.out hw64
      have HJ := Lib.hid hjoin
      clear hjoin hs
      have hsz : w.heap.size ≤ (put2 w1 w.heap.size neg A n c).heap.size := by rw [put2_size]; omega
      have HC : ∀ h : n = 3, ∃ b off d2 : Nat, A = some ⟨b, off, none⟩ ∧ (put2 w1 w.heap.size neg A n c).cell? ⟨b, off + 2, none⟩ = some (.int .u32 (d2 : Int)) ∧ ¬ 4 < d2 := fun h => by
        have h2 : 2 < ds.length := by have := HL.out; omega
        obtain ⟨b, off, e, _, hc⟩ := hrd.out.at_ (k := 2) h2
        exact ⟨b, off, ds[2], e, hc, fun h4 => hbig ⟨h2, h4⟩⟩
      by_cases hn3 : n = 3
      · obtain ⟨b, off, d2, rfl, hc, h4⟩ := HC hn3
        subst hn3
        have h4' : ¬ (4 : Int) < ((d2 : Nat) : Int) := by omega
        clear HC hbig
        go_wp2_with fail
        refine (HJ.out _ (hrd.out.more hsz)).mono ?_
        rintro e w' ⟨rfl, rfl⟩
        by_cases hgt : (4611686018427387904 : Int) < (s : Int)
        · have hno : Hid (smallZ z = 0 ∧ isSmall z = false) := small_no (by have := HS.out; rw [HZ.out] at this; omega)
          go_wp2
          go_ret2
          exact ⟨by rw [hno.out.1, hno.out.2]; rfl, hbelow⟩
        · cases neg with
          | true =>
            have hyes : Hid (smallZ z = -(s : Int) ∧ isSmall z = true) := by
              have h1 := HZ.out
              have h2 := HS.out
              rw [h1] at h2
              simp only [zval, if_true] at h1
              have := small_yes (z := z) (by omega)
              exact ⟨by rw [this.1]; omega, this.2⟩
            go_wp2
            go_ret2
            exact ⟨by rw [hyes.out.1, hyes.out.2]; rfl, hbelow⟩
          | false =>
            have hyes : Hid (smallZ z = (s : Int) ∧ isSmall z = true) := by
              have h1 := HZ.out
              have h2 := HS.out
              rw [h1] at h2
              simp only [zval] at h1
              have := small_yes (z := z) (by omega)
              exact ⟨by rw [this.1]; simp at h1; omega, this.2⟩
            go_wp2
            go_ret2
            exact ⟨by rw [hyes.out.1, hyes.out.2]; rfl, hbelow⟩
      · have hn3' : ((n : Int) == 3) = false := by simp; omega
        clear HC hbig
        go_wp2_with fail
        refine (HJ.out _ (hrd.out.more hsz)).mono ?_
        rintro e w' ⟨rfl, rfl⟩
        by_cases hgt : (4611686018427387904 : Int) < (s : Int)
        · have hno : Hid (smallZ z = 0 ∧ isSmall z = false) := small_no (by have := HS.out; rw [HZ.out] at this; omega)
          go_wp2
          go_ret2
          exact ⟨by rw [hno.out.1, hno.out.2]; rfl, hbelow⟩
        · cases neg with
          | true =>
            have hyes : Hid (smallZ z = -(s : Int) ∧ isSmall z = true) := by
              have h1 := HZ.out
              have h2 := HS.out
              rw [h1] at h2
              simp only [zval, if_true] at h1
              have := small_yes (z := z) (by omega)
              exact ⟨by rw [this.1]; omega, this.2⟩
            go_wp2
            go_ret2
            exact ⟨by rw [hyes.out.1, hyes.out.2]; rfl, hbelow⟩
          | false =>
            have hyes : Hid (smallZ z = (s : Int) ∧ isSmall z = true) := by
              have h1 := HZ.out
              have h2 := HS.out
              rw [h1] at h2
              simp only [zval] at h1
              have := small_yes (z := z) (by omega)
              exact ⟨by rw [this.1]; simp at h1; omega, this.2⟩
            go_wp2
            go_ret2
            exact ⟨by rw [hyes.out.1, hyes.out.2]; rfl, hbelow⟩
end Go.Proofs.YtgmnpajecpjklaaDoor.wh
