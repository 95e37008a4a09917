/- Package dag: a term is sought among those of its hash. -/
import Derived.Test.YtdnhhfhjjimcgaaDoorGq
namespace Go.Proofs.YtdnhhfhjjimcgaaDoor.dg
open Go Go.RowKit

/-- the bucket where a term must be -/
def homeB (S : St) (t : Tm) (n : Nat) : List Int := bucket (hashes S) n (slot (hash t) n) S.terms.length
section
variable {S : St} {t : Tm} {n : Nat}
theorem home_at {k : Nat} (hk : k < (homeB S t n).length) : ∃ i : Nat, (homeB S t n)[k]'hk = (i : Int) ∧ i < S.terms.length := by
  obtain ⟨i, h1, h2, _⟩ := bucket_mem (List.getElem_mem hk)
  exact ⟨i, h1, h2⟩
theorem home_has {i : Nat} (hi : i < S.terms.length) (hs : sameT S.terms[i].t t = true) : (i : Int) ∈ homeB S t n := by
  have := bucket_has (hs := hashes S) (n := n) hi
  rw [hash_at hi, sameT_iff.1 hs] at this
  exact this
theorem place_home {k i : Nat} (hk : k < (homeB S t n).length) (hi : (homeB S t n)[k]'hk = (i : Int)) (hil : i < S.terms.length) (hs : sameT S.terms[i].t t = true)
    (hno : ∀ j (hj : j < (homeB S t n).length) (m : Nat) (hm : m < S.terms.length), j < k → (homeB S t n)[j]'hj = (m : Int) → sameT S.terms[m].t t = false) : S.placeT t = some i := by
  refine find_at hil hs fun m hm => ?_
  cases e : sameT (S.terms[m]'(by omega)).t t with
  | false => rfl
  | true =>
    obtain ⟨j, hj, ej⟩ := List.getElem_of_mem (home_has (n := n) (show m < S.terms.length by omega) e)
    have hp := List.pairwise_iff_getElem.1 (bucket_rise (hs := hashes S) (n := n) (b := slot (hash t) n) (k := S.terms.length))
    have hjk : j < k := by
      rcases Nat.lt_trichotomy j k with h | h | h
      · exact h
      · subst h
        have := ej.symm.trans hi
        omega
      · have h2 : (homeB S t n)[k]'hk < (homeB S t n)[j]'hj := hp k j hk hj h
        rw [hi, ej] at h2
        omega
    have h3 := hno j hj m (by omega) hjk ej
    rw [h3] at e
    cases e
theorem place_none (hno : ∀ j (hj : j < (homeB S t n).length) (m : Nat) (hm : m < S.terms.length), (homeB S t n)[j]'hj = (m : Int) → sameT S.terms[m].t t = false) : S.placeT t = none := by
  refine find_no fun i hi => ?_
  cases e : sameT S.terms[i].t t with
  | false => rfl
  | true =>
    obtain ⟨j, hj, ej⟩ := List.getElem_of_mem (home_has (n := n) hi e)
    have := hno j hj i hi ej
    rw [this] at e
    cases e
end
theorem mix_range (h n : Int) : 0 ≤ mix h n ∧ mix h n < 18446744073709551616 := by
  unfold mix
  rw [IntKind.wrap_u64]
  omega
theorem mixL_range {h : Int} (h0 : 0 ≤ h ∧ h < 18446744073709551616) : ∀ (l : List Int), 0 ≤ mixL h l ∧ mixL h l < 18446744073709551616 := by
  intro l
  induction l generalizing h with
  | nil => exact h0
  | cons x r ih => exact ih (mix_range h x)
theorem hash_range (t : Tm) : 0 ≤ hash t ∧ hash t < 18446744073709551616 := mixL_range (mixL_range (mixL_range (by decide) _) _) _

set_option maxRecDepth 100000 in
set_option maxHeartbeats 4000000 in
theorem first_any {w : World} {F FT J G : Nat → Prop} {a ib n : Nat} {S : St} (H : Hid (Ar w F a S)) (HT : Hid (Tb w FT J ib (hashes S) n S.terms.length)) (hn : 0 < n) (hn2 : n ≤ 4000000) {t : Tm} {A : Option Addr} {c : Nat} (hr : Hid (Ri w G t.kids A c)) {pa pt : Nat}
    (hpa : Hid (Bk w pa 25 #[.pointer (some ⟨a, 0, none⟩)])) (hpt : Hid (Bk w pt 41 #[.int .i64 t.op, .int .i64 t.fn, .slice A t.kids.length c, .string t.num])) (hl : Hid (∀ e ∈ S.terms, e.t.kids.length ≤ 1000000)) (hN : S.terms.length ≤ 1000000)
    (hF : ∀ g, (FT g ∨ J g) → g < w.heap.size) :
    Calls Tryd.prog 58 #[.pointer (some ⟨ib, 0, none⟩), .int .u64 (hash t), .func (.func 59) #[] #[.pointer (some ⟨pa, 0, none⟩), .pointer (some ⟨pt, 0, none⟩)]] w fun e w' => e = .returned (match S.placeT t with | some p => .tuple #[.int .i64 (p : Int), .bool true] | none => .tuple #[.int .i64 0, .bool false]) ∧ Hid (Below w.heap.size w w') := by
  obtain ⟨gb, cb, Ah, ch, A2, c2, h1, h2, h3, h4, h5⟩ := HT.out.read hn (slot_lt (hash t) hn)
  obtain ⟨r, hr2⟩ : ∃ r, (match S.placeT t with | some p => Value.tuple #[.int .i64 (p : Int), .bool true] | none => .tuple #[.int .i64 0, .bool false]) = r := ⟨_, rfl⟩
  rw [hr2]
  have HR := Lib.hid hr2
  clear hr2
  obtain ⟨h, hh⟩ : ∃ h, hash t = h := ⟨_, rfl⟩
  have HH := Lib.hid hh
  have HRG : Hid (0 ≤ h ∧ h < 18446744073709551616) := Lib.hid (hh ▸ hash_range t)
  obtain ⟨b, hb⟩ : ∃ b, slot h n = b := ⟨_, rfl⟩
  have hbn : (b : Int) < (n : Int) := by have := slot_lt h hn; omega
  obtain ⟨bs, hbs⟩ : ∃ bs, bucket (hashes S) n b S.terms.length = bs := ⟨_, rfl⟩
  have HBS : Hid (homeB S t n = bs) := Lib.hid (by unfold homeB; rw [hh, hb, hbs])
  rw [hh] at h3 h4 ⊢
  rw [hb, hbs] at h3 h4
  have hbl : bs.length ≤ 1000000 := by rw [← hbs]; exact Nat.le_trans bucket_len hN
  have H4 := Lib.hid h4
  have H5 := Lib.hid h5
  have HTB := Lib.hid h1
  have PQ : ∀ m, Calls Tryd.prog 67 #[.pointer (some ⟨ib, 0, none⟩), .int .u64 h] (w.drewN m) fun e w'' => e = .returned (.int .i64 (b : Int)) ∧ ∃ q, w'' = w.drewN q := fun m =>
    (at_any (w := w.drewN m) (Lib.hid (HT.out.drewN m)) hn hn2 HRG).mono fun _ _ hx => ⟨by rw [hx.1, hb], m, hx.2.symm⟩
  have c0 := h1.cell 0
  have c1 := h1.cell 1
  clear h1 h4 h5 hh hb hbs
  go_enter Tryd.func58, Tryd.ntmps58
  go_upto_region 1 with fail
  go_quiet (exact PQ _)
  have HB0 : Hid (Below w.heap.size w (w.drewN nq)) := Lib.hid (below_drewN (Below.refl _ w) nq)
  clear PQ c0 c1 h3
  generalize w.drewN nq = W0 at *
  go_upto_region 2 with fail
  go_loopw [20] (fun iv wr => ∃ k : Nat, k ≤ bs.length ∧ iv = .int .i64 (k : Int) ∧ Hid (∀ j (hj : j < bs.length) (m : Nat) (hm : m < S.terms.length), j < k → bs[j] = (m : Int) → sameT S.terms[m].t t = false) ∧ Hid (Below w.heap.size w wr)) (fun iv _ => bs.length - (intOf iv).toNat)
  case atStart => exact ⟨0, Nat.zero_le _, rfl, Lib.hid (fun j hj m hm h0 => absurd h0 (by omega)), HB0⟩
  case round =>
    clear HB0
    obtain ⟨k, hk, rfl, HK, HB⟩ := hrel
    by_cases hlt : k < bs.length
    · have g7 : (k : Int) < (bs.length : Int) := by omega
      obtain ⟨g, off, rfl, _, _, hc⟩ := (H4.out.below HB.out).get hlt
      obtain ⟨i, hi, hil⟩ : ∃ i : Nat, bs[k] = (i : Int) ∧ i < S.terms.length := by
        have hb := HBS.out
        subst hb
        exact home_at hlt
      obtain ⟨gh, rfl, hch⟩ := H5.out i (by rw [hashes_len]; exact hil)
      have HCH : Hid (wr.cell? ⟨gh, i, none⟩ = some (.int .u64 (hash S.terms[i].t))) := Lib.hid (by
        have hlt2 : gh < w.heap.size := World.block_lt_of_cell? w _ hch
        rw [HB.out.cell (p := ⟨gh, i, none⟩) hlt2, hch]
        have := hash_at hil
        simp only [List.getD, hashes_len, hil, List.getElem?_eq_getElem, Option.getD_some] at this
        rw [this])
      have HTW := Lib.hid (HTB.out.below HB.out HTB.out.lt)
      have c0 := HTW.out.cell 0
      have c1 := HTW.out.cell 1
      have HLN := hashes_len S
      rw [hashes_len] at c0
      have hcc := HCH.out
      rw [hi] at hc
      have hil2 : (i : Int) < (S.terms.length : Int) := by omega
      have HI := Lib.hid hi
      clear hi hch HLN
      obtain ⟨x, hx⟩ : ∃ x, hash (S.terms[i]'hil).t = x := ⟨_, rfl⟩
      have HX := Lib.hid hx
      rw [hx] at hcc
      clear hx HCH
      have HA := Lib.hid (H.out.below HB.out)
      have HRR := Lib.hid (hr.out.below HB.out)
      have HP1 := Lib.hid (hpa.out.below HB.out hpa.out.lt)
      have HP2 := Lib.hid (hpt.out.below HB.out hpt.out.lt)
      have hkl : (S.terms[i]'hil).t.kids.length ≤ 1000000 := hl.out _ (List.getElem_mem hil)
      cases e1 : (x == h) with
      | false =>
        have HNO : Hid (sameT (S.terms[i]'hil).t t = false) := Lib.hid (by
          cases e : sameT (S.terms[i]'hil).t t with
          | false => rfl
          | true =>
            have := sameT_iff.1 e
            rw [← HX.out, this, HH.out] at e1
            simp at e1)
        go_wp2_with fail
        go_roundw
        case rel => exact ⟨k + 1, by omega, by go_num, Lib.hid (fun j hj m hm hjk ej => by
          by_cases e : j = k
          · subst e
            obtain rfl : m = i := by have := ej.symm.trans HI.out; omega
            exact HNO.out
          · exact HK.out j hj m hm (by omega) ej), HB⟩
        case measure => simp [intOf]; omega
      | true =>
        cases e2 : sameT (S.terms[i]'hil).t t with
        | false =>
          have HNO := Lib.hid e2
          clear e2
          go_wp2_with (go_at_call 59; refine (find1_any HA HRR HP1 HP2 hil hkl).mono ?_; rw [HNO.out]; rintro e w5 ⟨rfl, HB5⟩)
          go_roundw
          case rel => exact ⟨k + 1, by omega, by go_num, Lib.hid (fun j hj m hm hjk ej => by
            by_cases e : j = k
            · subst e
              obtain rfl : m = i := by have := ej.symm.trans HI.out; omega
              exact HNO.out
            · exact HK.out j hj m hm (by omega) ej), Lib.hid (HB.out.trans (HB5.out.mono HB.out.size))⟩
          case measure => simp [intOf]; omega
        | true =>
          have HNO := Lib.hid e2
          obtain rfl : Value.tuple #[.int .i64 (i : Int), .bool true] = r := by
            rw [← HR.out]
            have hb := HBS.out
            subst hb
            rw [place_home hlt HI.out hil e2 (fun j hj m hm hjk ej => HK.out j hj m hm hjk ej)]
          clear e2
          go_wp2_with (go_at_call 59; refine (find1_any HA HRR HP1 HP2 hil hkl).mono ?_; rw [HNO.out]; rintro e w5 ⟨rfl, HB5⟩)
          go_ret2
          exact ⟨rfl, Lib.hid (HB.out.trans (HB5.out.mono HB.out.size))⟩
    · obtain rfl : k = bs.length := by omega
      have g7 : ¬ ((bs.length : Int) < (bs.length : Int)) := by omega
      obtain rfl : Value.tuple #[.int .i64 0, .bool false] = r := by
        rw [← HR.out]
        have hb := HBS.out
        rw [place_none (n := n) (fun j hj m hm ej => by
          simp only [hb] at hj ej
          exact HK.out j hj m hm hj ej)]
      go_wp2_with fail
      go_ret2
      exact ⟨rfl, HB⟩
end Go.Proofs.YtdnhhfhjjimcgaaDoor.dg
