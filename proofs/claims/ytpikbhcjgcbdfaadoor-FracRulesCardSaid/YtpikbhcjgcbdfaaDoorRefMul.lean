/- The document's answer Mul: digits in a row of their own that is written in place. -/
import Derived.Test.YtpikbhcjgcbdfaaDoorRfB
import Derived.Test.YtpikbhcjgcbdfaaDoorWhB
import Derived.BigQuiet
import Derived.Deep.QuietTactic
namespace Go.Proofs.YtpikbhcjgcbdfaaDoor.wh
open Go.RowKit

/-- Block g holds the decimal digits ds, and nothing else. -/
def SegI (w : World) (g : Nat) (ds : List Nat) : Prop := Blk w g 3 (i64s ds).toArray
section
variable {w w' : World} {g : Nat} {ds : List Nat}
theorem SegI.lt (h : SegI w g ds) : g < w.heap.size := Blk.lt h
theorem SegI.cell (h : SegI w g ds) {k : Nat} (hk : k < ds.length) : w.cell? ⟨g, k, none⟩ = some (.int .i64 ((ds[k]'hk : Nat) : Int)) := by
  rw [Blk.cell h]
  simp [i64s, hk]
theorem SegI.frozen (h : SegI w g ds) (k : Nat) : w.frozen? ⟨g, k, none⟩ = false := Blk.frozen h k
theorem SegI.set_ (h : SegI w g ds) {k v : Nat} {z : Int} (hz : z = (v : Int)) : SegI (w.setCell ⟨g, k, none⟩ (.int .i64 z)) g (ds.set k v) := by
  have h1 := Blk.set_ h k (.int .i64 z)
  subst hz
  have e : (i64s ds).toArray.setIfInBounds k (.int .i64 (v : Int)) = (i64s (ds.set k v)).toArray := by
    rw [List.setIfInBounds_toArray]
    simp [i64s, List.map_set]
  rw [e] at h1
  exact h1
theorem SegI.over (h : SegI w g ds) (hb : Below w.heap.size w w') : SegI w' g ds := Blk.below h hb (Blk.lt h)
theorem SegI.drew (h : SegI w g ds) : SegI w.drew g ds := h
theorem SegI.drewN (h : SegI w g ds) (k : Nat) : SegI (w.drewN k) g ds := h
theorem SegI.alloc (h : SegI w g ds) (o : Obj) : SegI (w.alloc o) g ds := Blk.alloc h o
theorem SegI.far (h : SegI w g ds) {p : Addr} (hp : g ≠ p.block) (u : Value) : SegI (w.setCell p u) g ds := Blk.far h hp u
theorem SegI.rn (h : SegI w g ds) : Rn w w.heap.size (some ⟨g, 0, none⟩) ds := fun _ => ⟨g, 0, rfl, h.lt, fun j hj => by rw [Nat.zero_add]; exact h.cell hj⟩
end
theorem Rn.far {w : World} {B g : Nat} {A : Option Addr} {ds : List Nat} (h : Rn w B A ds) (hg : B ≤ g) (i : Nat) (u : Value) : Rn (w.setCell ⟨g, i, none⟩ u) B A ds := h.setCell (p := ⟨g, i, none⟩) hg u

/-- a new row of noughts -/
def zerosI (n : Nat) : Array Value := (i64s (List.replicate n 0)).toArray
theorem made_zerosI (n : Nat) : madeCells (#[.int .i64 0] : Array Value) n = zerosI n := by
  apply Array.ext
  · simp [madeCells, zerosI, i64s]
  · intro i h1 h2
    simp [madeCells, zerosI, i64s, Nat.mod_one]
theorem run_make_int {z : Int} {n : Nat} (hz : z = (n : Int)) (hn : n ≤ 1000000) (W : World) :
    (Instr.makeSlice 27 (.int .i64 z) (.int .i64 z)).run Tryd.prog W = .ok (.slice (some ⟨W.heap.size, 0, none⟩) n n) (W.alloc (.cells (zerosI n) 3)) := by
  obtain ⟨i0, hi, hz0, hz1, hz2⟩ := info_parts info_int
  subst hz
  have h := run_make (P := Tryd.prog) W 27 3 i0 _ Tryd.underlying27 hi hz0 .i64 .i64 n n (by omega) (by omega) (by rw [hz2]; omega) (by omega)
  rw [h]
  simp only [Int.toNat_natCast, hz1, Nat.mul_one]
  rw [show (Value.int .i64 0).cells = #[.int .i64 0] from rfl, made_zerosI]
theorem segI_zeros (W : World) (n : Nat) : SegI (W.alloc (.cells (zerosI n) 3)) W.heap.size (List.replicate n 0) := Blk.new W 3 (zerosI n)

theorem tval_set {ds : List Nat} {k v : Nat} (hk : k < ds.length) : tval (ds.set k v) + 10 ^ k * ds[k] = tval ds + 10 ^ k * v := by
  have e : ds.set k v = ds.take k ++ v :: ds.drop (k + 1) := by
    conv => lhs; rw [show ds = ds.take k ++ ds[k] :: ds.drop (k + 1) by simp]
    rw [List.set_append_right _ _ (by rw [List.length_take]; omega), List.length_take, Nat.min_eq_left (by omega), Nat.sub_self, List.set_cons_zero]
  have e2 : tval ds = tval (ds.take k ++ ds[k] :: ds.drop (k + 1)) := by simp
  rw [e, e2, tval_append, tval_append, List.length_take, Nat.min_eq_left (by omega)]
  simp only [tval, Nat.mul_add]
  omega
theorem Ten.set {ds : List Nat} (h : Ten ds) {k v : Nat} (hv : v < 10) : Ten (ds.set k v) := fun x hx => by
  rcases List.mem_or_eq_of_mem_set hx with h1 | h1
  · exact h x h1
  · omega

/-- what stands in out ahead of row i: the product of the digits so far, noughts behind it -/
def MulAt (xs bs : List Nat) (i : Nat) (cur : List Nat) : Prop :=
  cur.length = xs.length + bs.length + 1 ∧ Ten cur ∧ cur.drop (i + bs.length) = List.replicate (xs.length + 1 - i) 0 ∧ tval cur = tval (xs.take i) * tval bs
/-- within row i, ahead of place j -/
def RowM (xs bs : List Nat) (i x j : Nat) (was cur : List Nat) (q : Nat) : Prop :=
  cur.length = xs.length + bs.length + 1 ∧ Ten cur ∧ q < 10 ∧ cur.drop (i + j) = was.drop (i + j) ∧ tval cur + 10 ^ (i + j) * q = tval was + 10 ^ i * (x * tval (bs.take j))
theorem mulAt_zero (xs bs : List Nat) : MulAt xs bs 0 (List.replicate (xs.length + bs.length + 1) 0) := by
  refine ⟨by simp, fun d hd => by rw [List.mem_replicate] at hd; omega, ?_, by simp [tval_zeros, tval]⟩
  simp
  omega
theorem rowM_zero {xs bs was : List Nat} {i : Nat} (x : Nat) (h : MulAt xs bs i was) : RowM xs bs i x 0 was was 0 :=
  ⟨h.1, h.2.1, by omega, rfl, by simp [tval]⟩
theorem rowM_step {xs bs was cur : List Nat} {i x j q o p l f : Nat} (h : RowM xs bs i x j was cur q) (hk : i + j < cur.length) (ho : o = cur[i + j]) (hp : p = x * at0 bs j) (hl : p + o + q = 10 * f + l) (hl9 : l < 10) (hf9 : f < 10) : RowM xs bs i x (j + 1) was (cur.set (i + j) l) f := by
  obtain ⟨h1, h2, h3, h4, h5⟩ := h
  refine ⟨by simp [h1], h2.set hl9, hf9, ?_, ?_⟩
  · rw [List.drop_set_of_lt (by omega)]
    have := congrArg (List.drop 1) h4
    simpa [List.drop_drop, Nat.add_assoc] using this
  · have hv := tval_set (v := l) hk
    rw [← ho] at hv
    have e1 : 10 ^ (i + (j + 1)) * f = 10 ^ (i + j) * (10 * f) := by rw [← Nat.add_assoc, Nat.pow_succ, Nat.mul_assoc]
    have e2 : 10 ^ i * (x * tval (bs.take (j + 1))) = 10 ^ i * (x * tval (bs.take j)) + 10 ^ (i + j) * p := by
      rw [tval_take_at, Nat.mul_add, Nat.mul_add, hp, Nat.pow_add]
      congr 1
      rw [Nat.mul_left_comm x, Nat.mul_assoc]
    have e3 : 10 ^ (i + j) * (p + o + q) = 10 ^ (i + j) * (10 * f) + 10 ^ (i + j) * l := by rw [hl, Nat.mul_add]
    rw [Nat.mul_add, Nat.mul_add] at e3
    omega
theorem mulAt_step {xs bs was cur : List Nat} {i x j : Nat} (h0 : MulAt xs bs i was) (h : RowM xs bs i x j was cur 0) (hj : bs.length ≤ j) (hj2 : j ≤ bs.length + 1) (hi : i < xs.length) (hx : x = xs[i]) : MulAt xs bs (i + 1) cur := by
  obtain ⟨h1, h2, h3, h4⟩ := h0
  obtain ⟨g1, g2, g3, g4, g5⟩ := h
  refine ⟨g1, g2, ?_, ?_⟩
  · have e : cur.drop (i + 1 + bs.length) = was.drop (i + 1 + bs.length) := by
      have := congrArg (List.drop (bs.length + 1 - j)) g4
      rw [List.drop_drop, List.drop_drop] at this
      rw [show i + 1 + bs.length = i + j + (bs.length + 1 - j) by omega]
      exact this
    have e2 := congrArg (List.drop 1) h3
    rw [List.drop_drop] at e2
    rw [e, show i + 1 + bs.length = i + bs.length + 1 by omega, e2]
    simp
    omega
  · rw [List.take_of_length_le hj] at g5
    have e : tval (xs.take (i + 1)) = tval (xs.take i) + 10 ^ i * x := by rw [tval_take_at, at0_in hi, hx]
    rw [e, Nat.add_mul, ← h4, Nat.mul_assoc]
    omega
/-- behind the last digit of the other number nothing has been written yet -/
theorem rowM_out {xs bs was cur : List Nat} {i x j q : Nat} (h0 : MulAt xs bs i was) (h : RowM xs bs i x j was cur q) (hj : bs.length ≤ j) (hk : i + j < cur.length) : cur[i + j] = 0 := by
  obtain ⟨h1, h2, h3, h4⟩ := h0
  obtain ⟨g1, g2, g3, g4, g5⟩ := h
  have e : cur.drop (i + j) = List.replicate (xs.length + 1 - i - (j - bs.length)) 0 := by
    rw [g4]
    have := congrArg (List.drop (j - bs.length)) h3
    rw [List.drop_drop, List.drop_replicate] at this
    rw [show i + j = i + bs.length + (j - bs.length) by omega]
    exact this
  rw [List.drop_eq_getElem_cons hk] at e
  have hpos : 0 < xs.length + 1 - i - (j - bs.length) := by omega
  obtain ⟨m, hm⟩ : ∃ m, xs.length + 1 - i - (j - bs.length) = m + 1 := ⟨_, (Nat.succ_pred_eq_of_pos hpos).symm⟩
  rw [hm, List.replicate_succ] at e
  injection e

section
variable {w w' : World} {g g' n n' c c' r : Nat} {x x' : Bool} {a a' : Option Addr}
theorem TreN.drewN (h : TreN w g x a n c g' x' a' n' c' r w') (k : Nat) : TreN w g x a n c g' x' a' n' c' r (w'.drewN k) := by
  obtain ⟨y, b, m, d, hr⟩ := h.res
  exact ⟨below_drewN h.below k, Blk.drewN h.one k, Blk.drewN h.two k, ⟨y, b, m, d, Blk.drewN hr k⟩, h.le⟩
theorem TreN.store (h : TreN w g x a n c g' x' a' n' c' r w') {b : Nat} (h0 : w.heap.size ≤ b) (h1 : g ≠ b) (h2 : g' ≠ b) (h3 : r ≠ b) (i : Nat) (u : Value) : TreN w g x a n c g' x' a' n' c' r (w'.setCell ⟨b, i, none⟩ u) := by
  obtain ⟨y, b', m, d, hr⟩ := h.res
  exact ⟨h.below.setCell (p := ⟨b, i, none⟩) h0 _, Blk.far h.one (p := ⟨b, i, none⟩) h1 _, Blk.far h.two (p := ⟨b, i, none⟩) h2 _, ⟨y, b', m, d, Blk.far hr (p := ⟨b, i, none⟩) h3 _⟩, h.le⟩
theorem TreN.alloc (h : TreN w g x a n c g' x' a' n' c' r w') (o : Obj) : TreN w g x a n c g' x' a' n' c' r (w'.alloc o) := by
  obtain ⟨y, b', m, d, hr⟩ := h.res
  exact ⟨h.below.alloc h.below.size _, Blk.alloc h.one _, Blk.alloc h.two _, ⟨y, b', m, d, Blk.alloc hr _⟩, h.le⟩
end
theorem tz_mul {nx ny : Bool} {xs ys : List Nat} {a b : Int} (hx : tz nx xs = a) (hy : tz ny ys = b) : tsgn (nx != ny) (tval xs * tval ys) = a * b := by
  subst hx hy
  cases nx <;> cases ny <;> simp [tsgn, tz, Int.neg_mul, Int.mul_neg]

set_option maxRecDepth 100000 in
set_option maxHeartbeats 4000000 in
theorem refMul_any {v u : Value} {p q : Nat} {a b : Int} {w : World} (hp : p ≤ 1000) (hq : q ≤ 1000) (hx : IsNum w w.heap.size p v a) (hy : IsNum w w.heap.size q u b) :
    Calls Tryd.prog 21 #[v, u] w fun e w' => GivesNum w (p + q + 1) (a * b) e w' := by
  obtain ⟨nx, A, n, c, xs, rfl, hnp, TX, ZX, PX⟩ := hx.tens
  obtain ⟨ny, B, m, d, ys, rfl, hmq, TY, ZY, PY⟩ := hy.tens
  clear hx hy PX PY
  have HT : Hid (TreN w w.heap.size nx A n c (w.heap.size + 1) ny B m d (w.heap.size + 2) (((w.alloc (.cells #[.bool nx, .slice A n c] 29)).alloc (.cells #[.bool ny, .slice B m d] 29)).alloc (.cells #[.bool false, .slice none 0 0] 29))) :=
    ⟨(((Below.refl _ _).alloc (Nat.le_refl _) _).alloc (by simp) _).alloc (by simp; omega) _, ((BoxN.new _ _ _ _ _).alloc _).alloc _, by have h := (BoxN.new (w.alloc (.cells #[.bool nx, .slice A n c] 29)) ny B m d).alloc (.cells #[.bool false, .slice none 0 0] 29); rwa [World.size_alloc] at h,
      ⟨false, none, 0, 0, by have h := BoxN.new ((w.alloc (.cells #[.bool nx, .slice A n c] 29)).alloc (.cells #[.bool ny, .slice B m d] 29)) false none 0 0; rwa [World.size_alloc, World.size_alloc] at h⟩, by omega⟩
  have HV := Lib.hid (tz_mul ZX.out ZY.out)
  clear ZX ZY
  have hmk := run_make_int (z := (n : Int) + (m : Int) + 1) (n := n + m + 1) (by omega) (by omega)
  have HT1 := Lib.hid (HT.out.alloc (.cells (zerosI (n + m + 1)) 3))
  have HSG : Hid (SegI ((((w.alloc (.cells #[.bool nx, .slice A n c] 29)).alloc (.cells #[.bool ny, .slice B m d] 29)).alloc (.cells #[.bool false, .slice none 0 0] 29)).alloc (.cells (zerosI (n + m + 1)) 3)) (w.heap.size + 1 + 1 + 1) (List.replicate (n + m + 1) 0)) := by
    have h := segI_zeros (((w.alloc (.cells #[.bool nx, .slice A n c] 29)).alloc (.cells #[.bool ny, .slice B m d] 29)).alloc (.cells #[.bool false, .slice none 0 0] 29)) (n + m + 1)
    rwa [World.size_alloc, World.size_alloc, World.size_alloc] at h
  have HAT : Hid (MulAt xs ys 0 (List.replicate (n + m + 1) 0)) := by have h := mulAt_zero xs ys; rw [TX.out.len, TY.out.len] at h; exact h
  have G0 := HT.out.all.1
  go_enter Tryd.func21, Tryd.ntmps21
  go_wp2
  clear G0
  go_loopw [6] (fun iv wr => (∃ (i : Nat) (cur : List Nat), i ≤ n ∧ iv = .int .i64 (i : Int) ∧ Hid (MulAt xs ys i cur) ∧ Hid (SegI wr (w.heap.size + 1 + 1 + 1) cur)) ∧ Hid (TreN w w.heap.size nx A n c (w.heap.size + 1) ny B m d (w.heap.size + 2) wr)) (fun iv _ => n - (intOf iv).toNat)
  case atStart => exact ⟨⟨0, _, Nat.zero_le _, rfl, HAT, HSG⟩, HT1⟩
  case round =>
    obtain ⟨⟨i, was, hi, rfl, hat, hsg⟩, ht⟩ := hrel
    have C1 := ht.out.all.1
    by_cases hlt : i < n
    · have gl : (i : Int) < (n : Int) := by omega
      have hix : i < xs.length := by rw [TX.out.len]; exact hlt
      obtain ⟨x, hxx⟩ : ∃ x, x = xs[i] := ⟨_, rfl⟩
      have hx9 : x < 10 := by rw [hxx]; exact TX.out.ten.get _ _
      have HXX := Lib.hid hxx
      clear hxx
      go_wp2
      go_loopw [7, 8] (fun cv kv wi => (∃ (k q : Nat) (cur : List Nat), k ≤ m + 1 ∧ (k = m + 1 → q = 0) ∧ cv = .int .i64 (q : Int) ∧ kv = .int .i64 (k : Int) ∧ q < 10 ∧ Hid (RowM xs ys i x k was cur q) ∧ Hid (SegI wi (w.heap.size + 1 + 1 + 1) cur)) ∧ Hid (TreN w w.heap.size nx A n c (w.heap.size + 1) ny B m d (w.heap.size + 2) wi)) (fun _ kv _ => m + 1 - (intOf kv).toNat)
      case atStart => exact ⟨⟨0, 0, was, by omega, fun _ => rfl, rfl, rfl, by omega, rowM_zero x hat.out, hsg⟩, ht⟩
      case round =>
        obtain ⟨⟨k, q, cur, hk, hkq, rfl, rfl, hq9, hrow, hsi⟩, hti⟩ := hrel
        clear C1
        have C1 := hti.out.all.1
        have hlen := hrow.out.1
        rw [TX.out.len, TY.out.len] at hlen
        by_cases hkm : k < m
        · have gk : (k : Int) < (m : Int) := by omega
          have hik : i + k < cur.length := by omega
          have hc := hsi.out.cell hik
          have hf := hsi.out.frozen (i + k)
          obtain ⟨o, ho⟩ : ∃ o, o = cur[i + k] := ⟨_, rfl⟩
          rw [← ho] at hc
          have ho9 : o < 10 := by rw [ho]; exact hrow.out.2.1.get _ hik
          have HO := Lib.hid ho
          clear ho
          have hky : k < ys.length := by rw [TY.out.len]; exact hkm
          obtain ⟨b1, o1, rfl, _, cx⟩ := (TX.out.over hti.out.below).rd.at_ hix
          rw [← HXX.out] at cx
          obtain ⟨b2, o2, rfl, _, cy⟩ := (TY.out.over hti.out.below).rd.at_ hky
          obtain ⟨y, hyy⟩ : ∃ y, y = ys[k] := ⟨_, rfl⟩
          rw [← hyy] at cy
          have hy9 : y < 10 := by rw [hyy]; exact TY.out.ten.get _ _
          have HYY : Hid (y = at0 ys k) := by show _ = _; rw [at0_in hky, hyy]
          clear hyy
          obtain ⟨s1, hs1⟩ : ∃ s1, s1 = q + o := ⟨_, rfl⟩
          obtain ⟨p1, hp1⟩ : ∃ p1, p1 = x * y := ⟨_, rfl⟩
          obtain ⟨s, hs⟩ : ∃ s, s = s1 + p1 := ⟨_, rfl⟩
          have p81 : p1 ≤ 9 * 9 := by rw [hp1]; exact Nat.mul_le_mul (by omega) (by omega)
          have e1 : (q : Int) + (o : Int) = (s1 : Int) := by omega
          have e2 : (x : Int) * (y : Int) = (p1 : Int) := by rw [hp1]; simp
          have e3 : (s1 : Int) + (p1 : Int) = (s : Int) := by omega
          have s18 : s1 ≤ 18 := by omega
          have s99 : s ≤ 99 := by omega
          have w2 : IntKind.i64.wrap (p1 : Int) = (p1 : Int) := IntWalk.i64_in _ (by omega)
          have w3 : IntKind.i64.wrap (s : Int) = (s : Int) := IntWalk.i64_in _ (by omega)
          obtain ⟨l, hl⟩ : ∃ l, l = s % 10 := ⟨_, rfl⟩
          obtain ⟨f, hff⟩ : ∃ f, f = s / 10 := ⟨_, rfl⟩
          have r1 : (s : Int) % 10 = (l : Int) := by omega
          have r2 : (s : Int) / 10 = (f : Int) := by omega
          have HST := Lib.hid (rowM_step (l := l) (f := f) hrow.out hik HO.out (by rw [← HYY.out]; try exact hp1) (by omega) (by omega) (by omega))
          have f9 : f < 10 := by omega
          clear hs1 hp1 hs hl hff hlen
          go_wp2
          go_quiet (fail)
          go_wp2
          go_roundw
          case rel => exact ⟨⟨k + 1, f, _, by omega, fun h => by omega, rfl, by go_num, f9, HST, by have h := hsi.out.set_ (k := i + k) (z := (l : Int)) (v := l) rfl; exact h⟩, (hti.out.drewN _).store (by omega) (by omega) (by omega) (by omega) _ _⟩
          case measure => simp [intOf]; omega
        · have gk : ¬ (k : Int) < (m : Int) := by omega
          by_cases hq0 : q = 0
          · subst hq0
            have HST := Lib.hid (mulAt_step hat.out hrow.out (by rw [TY.out.len]; omega) (by rw [TY.out.len]; exact hk) hix HXX.out)
            go_wp2
            go_roundw
            case rel => exact ⟨⟨i + 1, cur, by omega, by go_num, HST, hsi⟩, hti⟩
            case measure => simp [intOf]; omega
          · have gq : (0 : Int) < (q : Int) := by omega
            obtain rfl : k = m := by omega
            have hik : i + k < cur.length := by omega
            have hc := hsi.out.cell hik
            have hf := hsi.out.frozen (i + k)
            have h0 := rowM_out hat.out hrow.out (by rw [TY.out.len]; omega) hik
            rw [h0] at hc
            have r1 : (q : Int) % 10 = (q : Int) := by omega
            have r2 : (q : Int) / 10 = 0 := by omega
            have HST := Lib.hid (rowM_step (l := q) (f := 0) (p := 0) hrow.out hik h0.symm (by rw [at0_out (by rw [TY.out.len]; omega), Nat.mul_zero]) (by omega) hq9 (by omega))
            clear h0 hlen
            go_wp2
            go_roundw
            case rel => exact ⟨⟨k + 1, 0, _, by omega, fun h => rfl, rfl, by go_num, by omega, HST, by have h := hsi.out.set_ (k := i + k) (z := (q : Int)) (v := q) rfl; exact h⟩, hti.out.store (by omega) (by omega) (by omega) (by omega) _ _⟩
            case measure => simp [intOf]
    · have gl : ¬ (i : Int) < (n : Int) := by omega
      obtain rfl : i = n := by omega
      have HLR : Hid (was.length = i + m + 1) := by have := hat.out.1; rw [TX.out.len, TY.out.len] at this; exact this
      have HVV : Hid (tz (nx != ny) was = a * b) := by
        show _ = _
        rw [← HV.out]
        have h := hat.out.2.2.2
        rw [List.take_of_length_le (by rw [TX.out.len]; exact Nat.le_refl _)] at h
        unfold tz tsgn
        rw [h]
      have HRN := Lib.hid hsg.out.rn
      have HTEN := Lib.hid hat.out.2.1
      go_wp2_with fail
      refine (make1_any (nx != ny) (some ⟨w.heap.size + 1 + 1 + 1, 0, none⟩) (i + m + 1) (i + m + 1) was wr HLR.out (by omega) (Nat.le_refl _) HRN.out HTEN.out).mono ?_
      rintro e w3 ⟨neg3, A3, n3, c3, rfl, hint, hb3⟩
      have T3 := TreN.over hb3 ht.out
      obtain ⟨y3, b3, m3, d3, hr3⟩ := T3.res
      have HI := Lib.hid (T3.int3 hint.out neg3 A3 n3 c3)
      have c0 := (hr3.put neg3 A3 n3 c3).c0
      have c1 := (hr3.put neg3 A3 n3 c3).c1
      have r0 := hr3.c0
      have r1 := hr3.c1
      have s0 := hr3.f0
      have s1 := hr3.f1
      have HB := Lib.hid (T3.put3 neg3 A3 n3 c3).below
      have HSZ := Lib.hid (put2_size w3 (w.heap.size + 2) neg3 A3 n3 c3)
      clear hr3
      go_wp2
      refine bodyPost_ret (v := .agg #[.bool neg3, .slice A3 n3 c3]) (by simp [results, Tryd.results21, go_sem, c0, c1]) rfl ⟨neg3, A3, n3, c3, rfl, ?_, HB⟩
      have h : IsNum (put2 w3 (w.heap.size + 2) neg3 A3 n3 c3) (put2 w3 (w.heap.size + 2) neg3 A3 n3 c3).heap.size (p + q + 1) _ _ := HI.out.more (by rw [HSZ.out]; exact Nat.le_refl _) (by omega)
      rw [HVV.out] at h
      exact h
end Go.Proofs.YtpikbhcjgcbdfaaDoor.wh
