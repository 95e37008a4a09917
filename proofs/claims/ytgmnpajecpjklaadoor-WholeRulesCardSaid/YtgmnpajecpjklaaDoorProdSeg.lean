/- Package whole: product, with what it lays in memory; divide by more than one digit. -/
import Derived.Test.YtgmnpajecpjklaaDoorStep
namespace Go.Proofs.YtgmnpajecpjklaaDoor.wh
open Go.RowKit

def GivesSeg (W : World) (n v : Nat) (e : Ending) (w' : World) : Prop :=
  ∃ g ds, e = .returned (.slice (some ⟨g, 0, none⟩) n n) ∧ W.heap.size ≤ g ∧ ds.length = n ∧ Hid (Dig ds) ∧ Hid (val ds = v) ∧ Hid (Seg w' g 0 [] ds []) ∧ Hid (Below W.heap.size W w')

set_option maxRecDepth 100000 in
set_option maxHeartbeats 1000000 in
theorem product_seg (A B : Option Addr) (n c m d : Nat) (xs bs : List Nat) (w : World) (hlx : xs.length = n) (hlb : bs.length = m) (hn : n ≤ 1000) (hm : m ≤ 1000)
    (ha : Rd w w.heap.size A xs) (hb : Rd w w.heap.size B bs) (hdx : Dig xs) (hdb : Dig bs) :
    Calls Tryd.prog 44 #[.slice A n c, .slice B m d] w fun e w' => GivesSeg w (n + m) (val xs * val bs) e w' := by
  subst hlx
  subst hlb
  have HRA := Lib.hid ha
  have HRB := Lib.hid hb
  have HX := Lib.hid hdx
  have HB := Lib.hid hdb
  clear ha hb hdx hdb
  have hmk := run_make_u32 (z := (xs.length : Int) + (bs.length : Int)) (n := xs.length + bs.length) (by omega) (by omega)
  have HSZ : Hid (Seg (w.alloc (.cells (zeros (xs.length + bs.length)) 58)) w.heap.size 0 [] (List.replicate (xs.length + bs.length) 0) []) := seg_zeros w _
  have HBW : Hid (Below w.heap.size w (w.alloc (.cells (zeros (xs.length + bs.length)) 58))) := (Below.refl _ _).alloc (Nat.le_refl _) _
  go_enter Tryd.func44, Tryd.ntmps44
  go_wp2
  go_loopw [20] (fun i wr => (∃ (k : Nat) (cur : List Nat), k ≤ xs.length ∧ i = .int .i64 k ∧ Hid (ProdAt xs bs k cur) ∧ Hid (Seg wr w.heap.size 0 [] cur [])) ∧ Hid (Below w.heap.size w wr)) (fun i _ => xs.length - (intOf i).toNat)
  case atStart => exact ⟨⟨0, _, Nat.zero_le _, rfl, prodAt_zero _ _, HSZ.out⟩, HBW⟩
  case round =>
    obtain ⟨⟨i, was, hi, rfl, hat, hsg⟩, hbw⟩ := hrel
    by_cases hlt : i < xs.length
    · obtain ⟨ba, offa, rfl, hba, hca⟩ := (HRA.out.below hbw.out).at_ hlt
      obtain ⟨x, hx⟩ : ∃ x, x = xs[i] := ⟨_, rfl⟩
      rw [← hx] at hca
      have hx9 : x < 1000000000 := by rw [hx]; exact HX.out.get i hlt
      have HXI := Lib.hid hx
      clear hx
      go_wp2
      go_loopw [8, 27] (fun u jv wi => (∃ (j q : Nat) (cur : List Nat), j ≤ bs.length ∧ u = .int .u64 q ∧ jv = .int .i64 j ∧ q < 1000000000 ∧ Hid (RowAt xs bs i x j was cur q) ∧ Hid (Seg wi w.heap.size 0 [] cur [])) ∧ Hid (Below w.heap.size w wi)) (fun _ jv _ => bs.length - (intOf jv).toNat)
      case atStart => exact ⟨⟨0, 0, was, Nat.zero_le _, rfl, rfl, by omega, rowAt_zero x hat.out, hsg.out⟩, hbw.out⟩
      case round =>
        obtain ⟨⟨j, q, cur, hj, rfl, rfl, hq9, hrow, hsi⟩, hbi⟩ := hrel
        by_cases hjl : j < bs.length
        · have hk : i + j < cur.length := by rw [hrow.out.1]; omega
          have hc := hsi.out.cell hk
          have hf := hsi.out.frozen (i + j)
          rw [Nat.zero_add] at hc
          obtain ⟨o, ho⟩ : ∃ o, o = cur[i + j] := ⟨_, rfl⟩
          rw [← ho] at hc
          have ho9 : o < 1000000000 := by rw [ho]; exact hrow.out.2.1.get _ hk
          obtain ⟨bb, offb, rfl, hbb, hcb⟩ := (HRB.out.below hbi.out).at_ hjl
          obtain ⟨y, hy⟩ : ∃ y, y = bs[j] := ⟨_, rfl⟩
          rw [← hy] at hcb
          have hy9 : y < 1000000000 := by rw [hy]; exact HB.out.get j hjl
          have hbs : Hid (val (bs.take (j + 1)) = val (bs.take j) + 1000000000 ^ j * y) := by show _ = _; rw [hy]; exact val_take_succ hjl
          obtain ⟨p, hp⟩ : ∃ p, p = x * y := ⟨_, rfl⟩
          have hp1 : (x : Int) * (y : Int) = (p : Int) := by rw [hp]; simp
          have hp2 : p ≤ 999999999 * 999999999 := by rw [hp]; exact Nat.mul_le_mul (by omega) (by omega)
          obtain ⟨l, hl⟩ : ∃ l, l = (p + o + q) % 1000000000 := ⟨_, rfl⟩
          obtain ⟨f, hf0⟩ : ∃ f, f = (p + o + q) / 1000000000 := ⟨_, rfl⟩
          have hl1 : ((p : Int) + (o : Int) + (q : Int)) % 1000000000 = (l : Int) := by omega
          have hf1 : ((p : Int) + (o : Int) + (q : Int)) / 1000000000 = (f : Int) := by omega
          have hl9 : l < 1000000000 := by omega
          have hf9 : f < 1000000000 := by omega
          have hsum : (p : Int) + (o : Int) + (q : Int) ≤ 18446744073709551615 := by omega
          have HO := Lib.hid ho
          have HP := Lib.hid hp
          have HL : Hid (p + o + q = 1000000000 * f + l) := by show _ = _; omega
          clear hp hl hf0 hp2 ho hy
          go_wp2
          go_roundw
          case rel => exact ⟨⟨j + 1, f, _, by omega, by go_num, by go_num, hf9, rowAt_step hrow.out hk HO.out HP.out HL.out hl9 hf9 hbs.out, by have h := hsi.out.set_ (z := (l : Int)) (v := l) hk rfl; rw [Nat.zero_add] at h; exact h⟩, hbi.out.setCell (p := ⟨w.heap.size, i + j, none⟩) (Nat.le_refl _) _⟩
          case measure => simp [intOf]; omega
        · obtain rfl : j = bs.length := by omega
          have hk : i + bs.length < cur.length := by rw [hrow.out.1]; omega
          have hc := hsi.out.cell hk
          have hf := hsi.out.frozen (i + bs.length)
          rw [Nat.zero_add] at hc
          go_wp2
          go_roundw
          case rel => exact ⟨⟨i + 1, _, by omega, by go_num, prodAt_step hat.out hrow.out hlt HXI.out, by have h := hsi.out.set_ (z := (q : Int)) (v := q) hk rfl; rw [Nat.zero_add] at h; exact h⟩, hbi.out.setCell (p := ⟨w.heap.size, i + bs.length, none⟩) (Nat.le_refl _) _⟩
          case measure => simp [intOf]; omega
    · obtain rfl : i = xs.length := by omega
      go_wp2
      go_ret
      exact ⟨w.heap.size, was, rfl, Nat.le_refl _, hat.out.1, hat.out.2.1, by show _ = _; rw [hat.out.2.2.2, List.take_of_length_le (Nat.le_refl _)], hsg, hbw⟩
end Go.Proofs.YtgmnpajecpjklaaDoor.wh
