/- Package whole: product. -/
import Derived.Test.YtgmnpajecpjklaaDoorClone
import Derived.Deep.LoopGhost
namespace Go.Proofs.YtgmnpajecpjklaaDoor.wh
open Go.RowKit

theorem val_set {ds : List Nat} {k v : Nat} (hk : k < ds.length) : val (ds.set k v) + 1000000000 ^ k * ds[k] = val ds + 1000000000 ^ k * v := by
  have e : ds.set k v = ds.take k ++ v :: ds.drop (k + 1) := by
    conv => lhs; rw [show ds = ds.take k ++ ds[k] :: ds.drop (k + 1) by simp]
    rw [List.set_append_right _ _ (by rw [List.length_take]; omega), List.length_take, Nat.min_eq_left (by omega), Nat.sub_self, List.set_cons_zero]
  have e2 : val ds = val (ds.take k ++ ds[k] :: ds.drop (k + 1)) := by simp
  rw [e, e2, val_append, val_append, List.length_take, Nat.min_eq_left (by omega)]
  simp only [val, Nat.mul_add]
  omega
theorem Dig.set {ds : List Nat} (h : Dig ds) {k v : Nat} (hv : v < 1000000000) : Dig (ds.set k v) := fun x hx => by
  rcases List.mem_or_eq_of_mem_set hx with h1 | h1
  · exact h x h1
  · omega

/-- what stands in out ahead of row i: the product of the digits so far, noughts behind it -/
def ProdAt (xs bs : List Nat) (i : Nat) (cur : List Nat) : Prop :=
  cur.length = xs.length + bs.length ∧ Dig cur ∧ cur.drop (i + bs.length) = List.replicate (xs.length - i) 0 ∧ val cur = val (xs.take i) * val bs
/-- within row i, ahead of place j -/
def RowAt (xs bs : List Nat) (i x j : Nat) (was cur : List Nat) (q : Nat) : Prop :=
  cur.length = xs.length + bs.length ∧ Dig cur ∧ q < 1000000000 ∧ cur.drop (i + j) = was.drop (i + j) ∧ val cur + 1000000000 ^ (i + j) * q = val was + 1000000000 ^ i * (x * val (bs.take j))
theorem prodAt_zero (xs bs : List Nat) : ProdAt xs bs 0 (List.replicate (xs.length + bs.length) 0) := by
  refine ⟨by simp, Dig.replicate _, ?_, by simp [val_zeros, val]⟩
  simp
theorem rowAt_zero {xs bs was : List Nat} {i : Nat} (x : Nat) (h : ProdAt xs bs i was) : RowAt xs bs i x 0 was was 0 :=
  ⟨h.1, h.2.1, by omega, rfl, by simp [val]⟩
theorem rowAt_step {xs bs was cur : List Nat} {i x j q o p l f y : Nat} (h : RowAt xs bs i x j was cur q) (hk : i + j < cur.length) (ho : o = cur[i + j]) (hp : p = x * y) (hl : p + o + q = 1000000000 * f + l) (hl9 : l < 1000000000) (hf9 : f < 1000000000)
    (hbs : val (bs.take (j + 1)) = val (bs.take j) + 1000000000 ^ j * y) : RowAt xs bs i x (j + 1) was (cur.set (i + j) l) f := by
  obtain ⟨h1, h2, h3, h4, h5⟩ := h
  refine ⟨by simp [h1], h2.set hl9, hf9, ?_, ?_⟩
  · rw [List.drop_set_of_lt (by omega)]
    have := congrArg (List.drop 1) h4
    simpa [List.drop_drop, Nat.add_assoc] using this
  · have hv := val_set (v := l) hk
    rw [← ho] at hv
    have e1 : 1000000000 ^ (i + (j + 1)) * f = 1000000000 ^ (i + j) * (1000000000 * f) := by rw [← Nat.add_assoc, Nat.pow_succ, Nat.mul_assoc]
    have e2 : 1000000000 ^ i * (x * val (bs.take (j + 1))) = 1000000000 ^ i * (x * val (bs.take j)) + 1000000000 ^ (i + j) * p := by
      rw [hbs, Nat.mul_add, Nat.mul_add, hp, Nat.pow_add]
      congr 1
      rw [Nat.mul_left_comm x, Nat.mul_assoc]
    have e3 : 1000000000 ^ (i + j) * (p + o + q) = 1000000000 ^ (i + j) * (1000000000 * f) + 1000000000 ^ (i + j) * l := by rw [hl, Nat.mul_add]
    rw [Nat.mul_add, Nat.mul_add] at e3
    omega
theorem prodAt_step {xs bs was cur : List Nat} {i x q : Nat} (h0 : ProdAt xs bs i was) (h : RowAt xs bs i x bs.length was cur q) (hi : i < xs.length) (hx : x = xs[i]) : ProdAt xs bs (i + 1) (cur.set (i + bs.length) q) := by
  obtain ⟨h1, h2, h3, h4⟩ := h0
  obtain ⟨g1, g2, g3, g4, g5⟩ := h
  have hk : i + bs.length < cur.length := by omega
  have hz : cur[i + bs.length] = 0 := by
    have e : cur.drop (i + bs.length) = List.replicate (xs.length - i) 0 := by rw [g4, h3]
    rw [List.drop_eq_getElem_cons hk, show xs.length - i = (xs.length - i - 1) + 1 by omega, List.replicate_succ] at e
    injection e
  refine ⟨by simp [g1], g2.set g3, ?_, ?_⟩
  · rw [List.drop_set_of_lt (by omega)]
    have e : cur.drop (i + bs.length) = List.replicate (xs.length - i) 0 := by rw [g4, h3]
    have := congrArg (List.drop 1) e
    rw [List.drop_drop] at this
    rw [show i + 1 + bs.length = i + bs.length + 1 by omega, this]
    simp
    omega
  · have hv := val_set (v := q) hk
    rw [hz] at hv
    rw [List.take_of_length_le (Nat.le_refl _)] at g5
    rw [val_take_succ hi, ← hx, Nat.add_mul, ← h4, Nat.mul_assoc]
    omega

set_option maxRecDepth 100000 in
set_option maxHeartbeats 1000000 in
theorem product_any (A B : Option Addr) (n c m d : Nat) (xs bs : List Nat) (w : World) (hlx : xs.length = n) (hlb : bs.length = m) (hn : n ≤ 1000) (hm : m ≤ 1000)
    (ha : Rd w w.heap.size A xs) (hb : Rd w w.heap.size B bs) (hdx : Dig xs) (hdb : Dig bs) :
    Calls Tryd.prog 44 #[.slice A n c, .slice B m d] w fun e w' => GivesRow w (n + m) (val xs * val bs) e w' := by
  subst hlx
  subst hlb
  have HRA := Lib.hid ha
  have HRB := Lib.hid hb
  have HX := Lib.hid hdx
  have HB := Lib.hid hdb
  clear ha hb hdx hdb
  have hmk := run_make_u32 (z := (xs.length : Int) + (bs.length : Int)) (n := xs.length + bs.length) (by omega) (by omega)
  have HSZ : Hid (Seg (w.alloc (.cells (zeros (xs.length + bs.length)) 58)) w.heap.size 0 [] (List.replicate (xs.length + bs.length) 0) []) := seg_zeros w _
  have HBW : Hid (Below w.heap.size w (w.alloc (.cells (zeros (xs.length + bs.length)) 58))) := (Below.refl _ _).alloc (Nat.le_refl _) _
  go_enter Tryd.func44, Tryd.ntmps44
  go_wp2
  go_loopw [20] (fun i wr => (∃ (k : Nat) (cur : List Nat), k ≤ xs.length ∧ i = .int .i64 k ∧ Hid (ProdAt xs bs k cur) ∧ Hid (Seg wr w.heap.size 0 [] cur [])) ∧ Hid (Below w.heap.size w wr)) (fun i _ => xs.length - (intOf i).toNat)
  case atStart => exact ⟨⟨0, _, Nat.zero_le _, rfl, prodAt_zero _ _, HSZ.out⟩, HBW⟩
  case round =>
    obtain ⟨⟨i, was, hi, rfl, hat, hsg⟩, hbw⟩ := hrel
    by_cases hlt : i < xs.length
    · obtain ⟨ba, offa, rfl, hba, hca⟩ := (HRA.out.below hbw.out).at_ hlt
      obtain ⟨x, hx⟩ : ∃ x, x = xs[i] := ⟨_, rfl⟩
      rw [← hx] at hca
      have hx9 : x < 1000000000 := by rw [hx]; exact HX.out.get i hlt
      have HXI := Lib.hid hx
      clear hx
      go_wp2
      go_loopw [8, 27] (fun u jv wi => (∃ (j q : Nat) (cur : List Nat), j ≤ bs.length ∧ u = .int .u64 q ∧ jv = .int .i64 j ∧ q < 1000000000 ∧ Hid (RowAt xs bs i x j was cur q) ∧ Hid (Seg wi w.heap.size 0 [] cur [])) ∧ Hid (Below w.heap.size w wi)) (fun _ jv _ => bs.length - (intOf jv).toNat)
      case atStart => exact ⟨⟨0, 0, was, Nat.zero_le _, rfl, rfl, by omega, rowAt_zero x hat.out, hsg.out⟩, hbw.out⟩
      case round =>
        obtain ⟨⟨j, q, cur, hj, rfl, rfl, hq9, hrow, hsi⟩, hbi⟩ := hrel
        by_cases hjl : j < bs.length
        · have hk : i + j < cur.length := by rw [hrow.out.1]; omega
          have hc := hsi.out.cell hk
          have hf := hsi.out.frozen (i + j)
          rw [Nat.zero_add] at hc
          obtain ⟨o, ho⟩ : ∃ o, o = cur[i + j] := ⟨_, rfl⟩
          rw [← ho] at hc
          have ho9 : o < 1000000000 := by rw [ho]; exact hrow.out.2.1.get _ hk
          obtain ⟨bb, offb, rfl, hbb, hcb⟩ := (HRB.out.below hbi.out).at_ hjl
          obtain ⟨y, hy⟩ : ∃ y, y = bs[j] := ⟨_, rfl⟩
          rw [← hy] at hcb
          have hy9 : y < 1000000000 := by rw [hy]; exact HB.out.get j hjl
          have hbs : Hid (val (bs.take (j + 1)) = val (bs.take j) + 1000000000 ^ j * y) := by show _ = _; rw [hy]; exact val_take_succ hjl
          obtain ⟨p, hp⟩ : ∃ p, p = x * y := ⟨_, rfl⟩
          have hp1 : (x : Int) * (y : Int) = (p : Int) := by rw [hp]; simp
          have hp2 : p ≤ 999999999 * 999999999 := by rw [hp]; exact Nat.mul_le_mul (by omega) (by omega)
          obtain ⟨l, hl⟩ : ∃ l, l = (p + o + q) % 1000000000 := ⟨_, rfl⟩
          obtain ⟨f, hf0⟩ : ∃ f, f = (p + o + q) / 1000000000 := ⟨_, rfl⟩
          have hl1 : ((p : Int) + (o : Int) + (q : Int)) % 1000000000 = (l : Int) := by omega
          have hf1 : ((p : Int) + (o : Int) + (q : Int)) / 1000000000 = (f : Int) := by omega
          have hl9 : l < 1000000000 := by omega
          have hf9 : f < 1000000000 := by omega
          have hsum : (p : Int) + (o : Int) + (q : Int) ≤ 18446744073709551615 := by omega
          have HO := Lib.hid ho
          have HP := Lib.hid hp
          have HL : Hid (p + o + q = 1000000000 * f + l) := by show _ = _; omega
          clear hp hl hf0 hp2 ho hy
          go_wp2
          go_roundw
          case rel => exact ⟨⟨j + 1, f, _, by omega, by go_num, by go_num, hf9, rowAt_step hrow.out hk HO.out HP.out HL.out hl9 hf9 hbs.out, by have h := hsi.out.set_ (z := (l : Int)) (v := l) hk rfl; rw [Nat.zero_add] at h; exact h⟩, hbi.out.setCell (p := ⟨w.heap.size, i + j, none⟩) (Nat.le_refl _) _⟩
          case measure => simp [intOf]; omega
        · obtain rfl : j = bs.length := by omega
          have hk : i + bs.length < cur.length := by rw [hrow.out.1]; omega
          have hc := hsi.out.cell hk
          have hf := hsi.out.frozen (i + bs.length)
          rw [Nat.zero_add] at hc
          go_wp2
          go_roundw
          case rel => exact ⟨⟨i + 1, _, by omega, by go_num, prodAt_step hat.out hrow.out hlt HXI.out, by have h := hsi.out.set_ (z := (q : Int)) (v := q) hk rfl; rw [Nat.zero_add] at h; exact h⟩, hbi.out.setCell (p := ⟨w.heap.size, i + bs.length, none⟩) (Nat.le_refl _) _⟩
          case measure => simp [intOf]; omega
    · obtain rfl : i = xs.length := by omega
      go_wp2
      go_ret
      exact ⟨_, _, was, rfl, hat.out.1, Nat.le_refl _, hsg.out.rd, hat.out.2.1, by rw [hat.out.2.2.2, List.take_of_length_le (Nat.le_refl _)], hbw.out⟩
end Go.Proofs.YtgmnpajecpjklaaDoor.wh
