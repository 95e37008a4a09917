/- The text of an integer by digits to the base of 10^9, and by decimal digits, is one. Plain mathematics. -/
import Derived.Test.YtpikbhcjgcbdfaaDoorWhF
import Derived.Test.YtpikbhcjgcbdfaaDoorRefText
namespace Go.Proofs.YtpikbhcjgcbdfaaDoor.wh
open Go.RowKit

theorem tval_inj_len {a b : List Nat} (ha : Ten a) (hb : Ten b) (hl : a.length = b.length) (h : tval a = tval b) : a = b := by
  induction a generalizing b with
  | nil => cases b with
    | nil => rfl
    | cons _ _ => simp at hl
  | cons x t ih => cases b with
    | nil => simp at hl
    | cons y u =>
      simp only [tval] at h
      have h1 := ha.head
      have h2 := hb.head
      have hx : x = y := by omega
      subst hx
      rw [ih ha.tail hb.tail (by simpa using hl) (by omega)]
theorem tval_inj {a b : List Nat} (ha : Ten a) (hb : Ten b) (ta : Top a) (tb : Top b) (h : tval a = tval b) : a = b := by
  refine tval_inj_len ha hb ?_ h
  have h1 := ttop_len ta (m := b.length) (by rw [h]; exact tval_lt hb)
  have h2 := ttop_len tb (m := a.length) (by rw [← h]; exact tval_lt ha)
  omega
theorem db_dg {b : UInt8} (h : isDg b = true) : db (dg b) = b ∧ dg b < 10 := by
  unfold isDg at h
  unfold dg db
  simp only [Bool.and_eq_true, decide_eq_true_eq] at h
  refine ⟨?_, by omega⟩
  apply UInt8.toNat_inj.1
  rw [UInt8.toNat_ofNat']
  omega
theorem dec_top {d : Nat} (hd : 0 < d) : ∃ b t, Lib.decDigits d = b :: t ∧ dg b ≠ 0 := by
  induction d using Nat.strongRecOn with
  | _ u ih =>
    by_cases h : u < 10
    · rw [Lib.decDigits_one h]
      exact ⟨_, [], rfl, by rw [(dg_of h).1]; omega⟩
    · rw [Lib.decDigits, dif_neg h]
      obtain ⟨b, t, e, hb⟩ := ih (u / 10) (by omega) (by omega)
      exact ⟨b, t ++ _, by rw [e]; rfl, hb⟩
theorem body_unique {body : List UInt8} {ts : List Nat} (hb : ∀ b ∈ body, isDg b = true) (htop : ∃ b t, body = b :: t ∧ dg b ≠ 0) (hT : Ten ts) (hP : Top ts) (hv : nval body = tval ts) : body = ts.reverse.map db := by
  have h1 : (body.reverse.map dg) = ts := by
    refine tval_inj (fun d hd => ?_) hT (fun hn => ?_) hP hv
    · obtain ⟨b, hb2, rfl⟩ := List.mem_map.1 hd
      exact (db_dg (hb b (List.mem_reverse.1 hb2))).2
    · obtain ⟨b, t, rfl, hne⟩ := htop
      simpa using hne
    
  rw [← h1, ← List.map_reverse, List.reverse_reverse, List.map_map]
  conv => lhs; rw [← List.map_id body]
  exact List.map_congr_left fun b h => (db_dg (hb b h)).1.symm
theorem natAbs_tzz {neg : Bool} {ds : List Nat} {a : Int} (h : tz neg ds = a) : a.natAbs = tval ds := by
  subst h
  cases neg <;> simp [tz]
theorem text_same {nx neg : Bool} {xs ds : List Nat} {z : Int} (hR : rightB nx xs = true) (hz : zval nx xs = z) (ht : tz neg ds = z) (hT : Ten ds) (hP : Top ds) (hn : neg = true → 0 < tval ds) :
    (if ds.length = 0 then [48] else textD neg ds 0) = textOf nx xs := by
  by_cases h0 : xs.length = 0
  · have e := List.eq_nil_of_length_eq_zero h0
    subst e
    have hz0 : z = 0 := by rw [← hz]; cases nx <;> rfl
    have e2 := natAbs_tzz ht
    have : ds.length = 0 := by
      rcases Nat.eq_zero_or_pos ds.length with h | h
      · exact h
      · have := ttop_pos hP (fun e => by subst e; simp at h)
        rw [hz0] at e2
        simp at e2
        omega
    rw [if_pos this]
    rfl
  · obtain ⟨b1, b2⟩ := body_reads (right_dig hR) (by omega)
    have ht0 : xs.getD (xs.length - 1) 0 ≠ 0 := by
      have h1 := right_top hR (fun e => by subst e; simp at h0)
      rw [List.getLast_eq_getElem] at h1
      rw [List.getD_eq_getElem?_getD, List.getElem?_eq_getElem (by omega), Option.getD_some]
      exact h1
    obtain ⟨b, t, hbt, hb0⟩ := dec_top (Nat.pos_of_ne_zero ht0)
    have hvv : val xs = tval ds := by
      have e1 := zval_abs nx xs
      rw [hz] at e1
      rw [← e1, natAbs_tzz ht]
    have hbody := body_unique b1 ⟨b, t ++ restOf xs 0, by rw [hbt]; rfl, hb0⟩ hT hP (by rw [b2, hvv])
    have hpos : 0 < tval ds := by rw [← hvv]; exact top_pos (right_top hR) (by omega)
    have hneg : neg = nx := by
      subst hz
      cases nx <;> cases neg <;> simp [zval, tz] at ht ⊢ <;> omega
    have hd0 : ds.length ≠ 0 := fun e => by
      rw [List.eq_nil_of_length_eq_zero e] at hpos
      simp [tval] at hpos
    rw [if_neg hd0]
    unfold textOf headOf textD
    rw [if_neg h0, List.append_assoc, hbody, hneg, List.drop_zero]
end Go.Proofs.YtpikbhcjgcbdfaaDoor.wh
