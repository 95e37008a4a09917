/- Package whole: subtractTimes, slices.Clone, difference: digits taken off in place. -/
import Derived.Test.YtgmnpajecpjklaaDoorAdd
namespace Go.Proofs.YtgmnpajecpjklaaDoor.wh
open Go.RowKit

/-- after k rounds of subtractTimes: the digits done, and what is borrowed -/
def SubAt (xs bs : List Nat) (t k : Nat) (res : List Nat) (q : Nat) : Prop :=
  res.length = k ∧ Dig res ∧ q ≤ t ∧ val (xs.take k) + 1000000000 ^ k * q = val res + t * val (bs.take k)
theorem subAt_zero (xs bs : List Nat) (t : Nat) : SubAt xs bs t 0 [] 0 := ⟨rfl, Dig.nil, by omega, by simp [val]⟩
theorem subAt_step {xs bs res : List Nat} {t k q x b r s q' : Nat} (h : SubAt xs bs t k res q) (hr : r < 1000000000) (hs : s = q + b * t) (hrs : r + s = x + 1000000000 * q') (hq : q' ≤ t)
    (hxs : val (xs.take (k + 1)) = val (xs.take k) + 1000000000 ^ k * x) (hbs : val (bs.take (k + 1)) = val (bs.take k) + 1000000000 ^ k * b) :
    SubAt xs bs t (k + 1) (res ++ [r]) q' := by
  obtain ⟨h1, h2, h3, h4⟩ := h
  refine ⟨by simp [h1], h2.append (Dig.cons hr Dig.nil), hq, ?_⟩
  rw [val_snoc, h1, hxs, hbs, Nat.pow_succ, Nat.mul_assoc, Nat.add_assoc, ← Nat.mul_add, ← hrs, Nat.mul_add, hs, Nat.mul_add, Nat.mul_add]
  have e : t * (1000000000 ^ k * b) = 1000000000 ^ k * (b * t) := by rw [Nat.mul_comm t, Nat.mul_assoc]
  omega
/-- what subtractTimes leaves: digits, and what is borrowed of the digit behind the last -/
def Subbed (xs bs : List Nat) (t : Nat) (ys : List Nat) (q : Nat) : Prop := ys.length = xs.length ∧ Dig ys ∧ q ≤ t ∧ val xs + 1000000000 ^ xs.length * q = val ys + t * val bs
theorem subbed_early {xs bs res : List Nat} {t k : Nat} (h : SubAt xs bs t k res 0) (hk : k ≤ xs.length) (hm : bs.length ≤ k) (hd : Dig xs) : Subbed xs bs t (res ++ xs.drop k) 0 := by
  obtain ⟨h1, h2, h3, h4⟩ := h
  refine ⟨by simp [h1]; omega, h2.append (hd.drop _), h3, ?_⟩
  rw [val_append, h1, val_split xs k hk]
  rw [List.take_of_length_le hm] at h4
  simp only [Nat.mul_zero, Nat.add_zero] at h4 ⊢
  omega
theorem subbed_end {xs bs res : List Nat} {t q : Nat} (h : SubAt xs bs t xs.length res q) (hm : bs.length ≤ xs.length) : Subbed xs bs t res q := by
  obtain ⟨h1, h2, h3, h4⟩ := h
  refine ⟨h1, h2, h3, ?_⟩
  rwa [List.take_of_length_le hm, List.take_of_length_le (Nat.le_refl _)] at h4
theorem setset {res : List Nat} {xs : List Nat} {k r a : Nat} (h : res.length = k) (hlt : k < xs.length) : ((res ++ xs.drop k).set k a).set k r = (res ++ [r]) ++ xs.drop (k + 1) := by
  rw [List.set_set, List.set_append_right _ _ (by omega), h, Nat.sub_self, List.drop_eq_getElem_cons hlt, List.set_cons_zero, List.append_assoc]
  rfl
theorem setone {res : List Nat} {xs : List Nat} {k r : Nat} (h : res.length = k) (hlt : k < xs.length) : (res ++ xs.drop k).set k r = (res ++ [r]) ++ xs.drop (k + 1) := by
  rw [List.set_append_right _ _ (by omega), h, Nat.sub_self, List.drop_eq_getElem_cons hlt, List.set_cons_zero, List.append_assoc]
  rfl

def GivesSub (g off : Nat) (pre : List Value) (xs bs : List Nat) (t : Nat) (post : List Value) (W : World) (e : Ending) (w' : World) : Prop :=
  ∃ ys q, e = .returned (.bool (q != 0)) ∧ Subbed xs bs t ys q ∧ Seg w' g off pre ys post ∧ Only g W w'

set_option maxRecDepth 100000 in
set_option maxHeartbeats 1000000 in
theorem subtract_any (g off n c m d t : Nat) (pre post : List Value) (A : Option Addr) (xs bs : List Nat) (w : World) (hlx : xs.length = n) (hlb : bs.length = m) (hmn : m ≤ n) (hn : n ≤ maxLen) (ht : t < 1000000000)
    (hs : Seg w g off pre xs post) (hr : Rd w w.heap.size A bs) (hA : Away A g m) (hdx : Dig xs) (hdb : Dig bs) :
    Calls Tryd.prog 59 #[.slice (some ⟨g, off, none⟩) n c, .slice A m d, .int .u64 t] w fun e w' => GivesSub g off pre xs bs t post w e w' := by
  subst hlx
  subst hlb
  unfold maxLen at hn
  have HS := Lib.hid hs
  have HR := Lib.hid hr
  have HA := Lib.hid hA
  have HX := Lib.hid hdx
  have HB := Lib.hid hdb
  clear hs hr hA hdx hdb
  go_enter Tryd.func59, Tryd.ntmps59
  go_wp2
  go_loopw [7, 13] (fun u i wr => (∃ (k q : Nat) (res : List Nat), k ≤ xs.length ∧ u = .int .u64 q ∧ i = .int .i64 k ∧ q ≤ t ∧ Hid (SubAt xs bs t k res q) ∧ Hid (Seg wr g off pre (res ++ xs.drop k) post)) ∧ Hid (Rd wr w.heap.size A bs) ∧ Hid (Only g w wr)) (fun _ i _ => xs.length - (intOf i).toNat)
  case atStart => exact ⟨⟨0, 0, [], Nat.zero_le _, rfl, rfl, by omega, subAt_zero _ _ _, HS.out⟩, HR.out, only_refl _ _⟩
  case round =>
    obtain ⟨⟨k, q, res, hk, rfl, rfl, hq, hat, hsg⟩, hrd, ho⟩ := hrel
    by_cases hlt : k < xs.length
    · have hlen : k < (res ++ xs.drop k).length := by rw [List.length_append, List.length_drop, hat.out.1]; omega
      have hc := hsg.out.cell hlen
      have hf := hsg.out.frozen (off + k)
      obtain ⟨x, hx⟩ : ∃ x, x = xs[k] := ⟨_, rfl⟩
      have hgx : (res ++ xs.drop k)[k]'hlen = x := by
        rw [List.getElem_append_right (by rw [hat.out.1]; exact Nat.le_refl _)]
        simp [hat.out.1, hx]
      rw [hgx] at hc
      have hx9 : x < 1000000000 := by rw [hx]; exact HX.out.get k hlt
      have hxs : Hid (val (xs.take (k + 1)) = val (xs.take k) + 1000000000 ^ k * x) := by show _ = _; rw [hx]; exact val_take_succ hlt
      have HLEN := Lib.hid hlen
      clear hx hgx hlen
      by_cases hkm : k < bs.length
      · obtain ⟨b', off', rfl, hb', hc'⟩ := hrd.out.at_ hkm
        obtain ⟨b, hb⟩ : ∃ b, b = bs[k] := ⟨_, rfl⟩
        rw [← hb] at hc'
        have hb9 : b < 1000000000 := by rw [hb]; exact HB.out.get k hkm
        have hbs : Hid (val (bs.take (k + 1)) = val (bs.take k) + 1000000000 ^ k * b) := by show _ = _; rw [hb]; exact val_take_succ hkm
        clear hb
        obtain ⟨p, hp⟩ : ∃ p, p = b * t := ⟨_, rfl⟩
        have hp1 : (b : Int) * (t : Int) = (p : Int) := by rw [hp]; simp
        have hp2 : p ≤ 999999999 * t := by rw [hp]; exact Nat.mul_le_mul_right _ (by omega)
        obtain ⟨l, hl⟩ : ∃ l, l = (q + p) % 1000000000 := ⟨_, rfl⟩
        obtain ⟨f, hf0⟩ : ∃ f, f = (q + p) / 1000000000 := ⟨_, rfl⟩
        have hl1 : ((q : Int) + (p : Int)) % 1000000000 = (l : Int) := by omega
        have hf1 : ((q : Int) + (p : Int)) / 1000000000 = (f : Int) := by omega
        have hl9 : l < 1000000000 := by omega
        have hf9 : f ≤ t := by omega
        have HP := Lib.hid hp
        have HL : Hid (q + p = 1000000000 * f + l) := by show _ = _; omega
        clear hp hl hf0
        by_cases hxl : x < l
        · have hxl' : (x : Int) < (l : Int) := by omega
          have HF : Hid (f + 1 ≤ t) := by have := HL.out; show _ ≤ _; omega
          go_wp2
          go_roundw
          case rel => exact ⟨⟨k + 1, f + 1, res ++ [x + 1000000000 - l], by omega, by go_num, by go_num, HF.out, subAt_step (s := q + p) hat.out (by omega) (by rw [HP.out]) (by have := HL.out; omega) HF.out hxs.out hbs.out, by have h := (hsg.out.set_ (z := (x : Int) + 1000000000) (v := x + 1000000000) HLEN.out (by omega)).set_ (k := k) (z := (x : Int) + 1000000000 - l) (v := x + 1000000000 - l) (by rw [List.length_set]; exact HLEN.out) (by omega); rw [setset hat.out.1 hlt] at h; exact h⟩, (hrd.out.away HA.out _ _).away HA.out _ _, only_set (only_set ho.out _ _) _ _⟩
          case measure => simp [intOf]; omega
        · have hxl' : ¬ (x : Int) < (l : Int) := by omega
          go_wp2
          go_roundw
          case rel => exact ⟨⟨k + 1, f, res ++ [x - l], by omega, by go_num, by go_num, hf9, subAt_step (s := q + p) hat.out (by omega) (by rw [HP.out]) (by have := HL.out; omega) hf9 hxs.out hbs.out, by have h := hsg.out.set_ (z := (x : Int) - l) (v := x - l) HLEN.out (by omega); rw [setone hat.out.1 hlt] at h; exact h⟩, hrd.out.away HA.out _ _, only_set ho.out _ _⟩
          case measure => simp [intOf]; omega
      · have hkm1 : ((bs.length : Nat) : Int) ≤ (k : Int) := by omega
        have hkm2 : ¬ (k : Int) < ((bs.length : Nat) : Int) := by omega
        have hbs : Hid (val (bs.take (k + 1)) = val (bs.take k) + 1000000000 ^ k * 0) := by
          show _ = _
          rw [List.take_of_length_le (by omega), List.take_of_length_le (by omega)]; simp
        by_cases hq0 : q = 0
        · subst hq0
          have HE := Lib.hid (subbed_early hat.out hk (by omega) HX.out)
          go_wp2
          go_ret
          exact ⟨_, 0, rfl, HE.out, hsg.out, ho.out⟩
        · have hq1 : ((q : Int) == 0) = false := by simpa using hq0
          have hl1 : (q : Int) % 1000000000 = (q : Int) := by omega
          have hf1 : (q : Int) / 1000000000 = 0 := by omega
          by_cases hxl : x < q
          · have hxl' : (x : Int) < (q : Int) := by omega
            go_wp2
            go_roundw
            case rel => exact ⟨⟨k + 1, 1, res ++ [x + 1000000000 - q], by omega, by go_num, by go_num, by omega, subAt_step (s := q) (b := 0) hat.out (by omega) (by omega) (by omega) (by omega) hxs.out hbs.out, by have h := (hsg.out.set_ (z := (x : Int) + 1000000000) (v := x + 1000000000) HLEN.out (by omega)).set_ (k := k) (z := (x : Int) + 1000000000 - q) (v := x + 1000000000 - q) (by rw [List.length_set]; exact HLEN.out) (by omega); rw [setset hat.out.1 hlt] at h; exact h⟩, (hrd.out.away HA.out _ _).away HA.out _ _, only_set (only_set ho.out _ _) _ _⟩
            case measure => simp [intOf]; omega
          · have hxl' : ¬ (x : Int) < (q : Int) := by omega
            go_wp2
            go_roundw
            case rel => exact ⟨⟨k + 1, 0, res ++ [x - q], by omega, by go_num, by go_num, by omega, subAt_step (s := q) (b := 0) hat.out (by omega) (by omega) (by omega) (by omega) hxs.out hbs.out, by have h := hsg.out.set_ (z := (x : Int) - q) (v := x - q) HLEN.out (by omega); rw [setone hat.out.1 hlt] at h; exact h⟩, hrd.out.away HA.out _ _, only_set ho.out _ _⟩
            case measure => simp [intOf]; omega
    · obtain rfl : k = xs.length := by omega
      have HE := Lib.hid (subbed_end hat.out hmn)
      have hsg2 : Hid (Seg wr g off pre res post) := by have h := hsg.out; rw [List.drop_length, List.append_nil] at h; exact h
      go_wp2
      go_ret
      exact ⟨_, q, ret_bool (by rw [Bool.eq_iff_iff]; simp), HE.out, hsg2.out, ho.out⟩
end Go.Proofs.YtgmnpajecpjklaaDoor.wh
