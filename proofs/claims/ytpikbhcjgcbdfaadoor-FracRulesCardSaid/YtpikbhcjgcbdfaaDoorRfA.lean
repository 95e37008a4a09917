/- The document's answers reckon with decimal digits as ints: how such a row reads, and its number. Plain theorems. The document's answers Same, make1, Int. The document's answers Int and Form. The document's answer Form: decimal digits as digits to the base of 10^9. Package whole: number, isDecimal. Package whole: Parse. The document's answer Parse. -/
import Derived.Test.YtpikbhcjgcbdfaaDoorWhD
import Derived.WalkLawsBesides
/- The document's answers reckon with decimal digits as ints: how such a row reads, and its number. Plain theorems. -/
namespace Go.Proofs.YtpikbhcjgcbdfaaDoor.wh
open Go.RowKit

/-- The digits of a []int as cells. -/
def i64s (ds : List Nat) : List Value := ds.map fun (d : Nat) => Value.int .i64 (d : Int)
theorem i64s_length (ds : List Nat) : (i64s ds).length = ds.length := by simp [i64s]
theorem i64s_get {ds : List Nat} {k : Nat} (h : k < ds.length) : (i64s ds)[k]? = some (.int .i64 ((ds[k]'h : Nat) : Int)) := by simp [i64s, h]
theorem i64s_take (ds : List Nat) (k : Nat) : (i64s ds).take k = i64s (ds.take k) := by simp [i64s, List.map_take]
theorem i64s_drop (ds : List Nat) (k : Nat) : (i64s ds).drop k = i64s (ds.drop k) := by simp [i64s, List.map_drop]
theorem i64s_append (a b : List Nat) : i64s (a ++ b) = i64s a ++ i64s b := by simp [i64s]

/-- The slice '.slice A n c' reads as the digits ds, in a block below B. -/
def Rn (w : World) (B : Nat) (A : Option Addr) (ds : List Nat) : Prop :=
  0 < ds.length → ∃ b off, A = some ⟨b, off, none⟩ ∧ b < B ∧ ∀ j (h : j < ds.length), w.cell? ⟨b, off + j, none⟩ = some (.int .i64 ((ds[j]'h : Nat) : Int))

section
variable {w w' : World} {B B' : Nat} {A : Option Addr} {ds : List Nat}
theorem Rn.nil : Rn w B A [] := fun h => absurd h (by simp)
theorem Rn.keep (h : Rn w B A ds) (hk : ∀ p : Addr, p.block < B → w'.cell? p = w.cell? p) : Rn w' B A ds := fun hn => by
  obtain ⟨b, off, e, hb, hc⟩ := h hn
  exact ⟨b, off, e, hb, fun j hj => (hk ⟨b, off + j, none⟩ hb).trans (hc j hj)⟩
theorem Rn.more (h : Rn w B A ds) (hB : B ≤ B') : Rn w B' A ds := fun hn => by
  obtain ⟨b, off, e, hb, hc⟩ := h hn
  exact ⟨b, off, e, by omega, hc⟩
theorem Rn.below (h : Rn w B A ds) (hb : Below B w w') : Rn w' B A ds := h.keep fun _ hp => hb.cell hp
/-- over a callee that keeps all that was there -/
theorem Rn.over (h : Rn w w.heap.size A ds) (hb : Below w.heap.size w w') : Rn w' w'.heap.size A ds := (h.below hb).more hb.size
theorem Rn.drewN (h : Rn w B A ds) (k : Nat) : Rn (w.drewN k) B A ds := h
theorem Rn.drew (h : Rn w B A ds) : Rn w.drew B A ds := h
theorem Rn.alloc (h : Rn w B A ds) (hB : B ≤ w.heap.size) (o : Obj) : Rn (w.alloc o) B A ds := h.keep fun p hp => World.cell?_alloc_lt w o p (by omega)
theorem Rn.alloc' (h : Rn w w.heap.size A ds) (o : Obj) : Rn (w.alloc o) (w.alloc o).heap.size A ds := (h.alloc (Nat.le_refl _) o).more (by simp)
theorem Rn.setCell (h : Rn w B A ds) {p : Addr} (hB : B ≤ p.block) (u : Value) : Rn (w.setCell p u) B A ds :=
  h.keep fun q hq => World.cell?_setCell_other w p q u (fun e => by subst e; omega)
theorem Rn.grown (h : Rn w B A ds) {row : Option Nat} (hg : w.grownBy w' row) (hB : B ≤ w.heap.size) (hr : ∀ g, row = some g → B ≤ g) : Rn w' B A ds :=
  h.keep fun p hp => World.cell?_of_block (hg.block p.block (by omega) (fun e => by have := hr _ e.symm; omega))
theorem Rn.at_ {k : Nat} (h : Rn w B A ds) (hk : k < ds.length) : ∃ b off, A = some ⟨b, off, none⟩ ∧ b < B ∧ w.cell? ⟨b, off + k, none⟩ = some (.int .i64 ((ds[k]'hk : Nat) : Int)) := by
  obtain ⟨b, off, e, hb, hc⟩ := h (by omega)
  exact ⟨b, off, e, hb, hc k hk⟩
theorem Rn.take (h : Rn w B A ds) (k : Nat) : Rn w B A (ds.take k) := fun hn => by
  have hl : k.min ds.length ≤ ds.length := Nat.min_le_right ..
  simp only [List.length_take] at hn
  obtain ⟨b, off, e, hb, hc⟩ := h (by omega)
  exact ⟨b, off, e, hb, fun j hj => by simp only [List.length_take] at hj; rw [hc j (by omega)]; simp⟩
theorem Rn.of_own {base e n c : Nat} (h : w.ownsRow base e 1 (.slice A n c) n (i64s ds)) : Rn w w.heap.size A ds := fun hn => by
  have hl : ds.length = n := by have := h.1; rw [i64s_length] at this; omega
  obtain ⟨g, cap, hv, _, hlt⟩ := h.form (by omega)
  have hA : A = some ⟨g, 0, none⟩ := by injection hv
  subst hA
  refine ⟨g, 0, rfl, hlt, fun j hj => ?_⟩
  have := h.cells (g := g) rfl j _ (i64s_get hj)
  rw [← this]
  unfold Addr.add
  by_cases h0 : j = 0 <;> simp [h0]
end


def tval : List Nat → Nat
  | [] => 0
  | d :: t => d + 10 * tval t
/-- each digit is below 10 -/
def Ten (ds : List Nat) : Prop := ∀ d ∈ ds, d < 10
theorem Ten.nil : Ten [] := fun _ h => by cases h
theorem Ten.cons {d : Nat} {t : List Nat} (h : d < 10) (ht : Ten t) : Ten (d :: t) := fun x hx => by
  rcases List.mem_cons.1 hx with rfl | hx
  · exact h
  · exact ht x hx
theorem Ten.head {d : Nat} {t : List Nat} (h : Ten (d :: t)) : d < 10 := h d (by simp)
theorem Ten.tail {d : Nat} {t : List Nat} (h : Ten (d :: t)) : Ten t := fun x hx => h x (by simp [hx])
theorem Ten.get {ds : List Nat} (h : Ten ds) (k : Nat) (hk : k < ds.length) : ds[k] < 10 := h _ (List.getElem_mem hk)
theorem Ten.append {a b : List Nat} (ha : Ten a) (hb : Ten b) : Ten (a ++ b) := fun x hx => by
  rcases List.mem_append.1 hx with hx | hx
  · exact ha x hx
  · exact hb x hx
theorem Ten.take {a : List Nat} (ha : Ten a) (k : Nat) : Ten (a.take k) := fun x hx => ha x (List.mem_of_mem_take hx)
theorem Ten.drop {a : List Nat} (ha : Ten a) (k : Nat) : Ten (a.drop k) := fun x hx => ha x (List.mem_of_mem_drop hx)
theorem tval_append (a b : List Nat) : tval (a ++ b) = tval a + 10 ^ a.length * tval b := by
  induction a with
  | nil => simp [tval]
  | cons d t ih =>
    simp only [List.cons_append, tval, ih, List.length_cons, Nat.pow_succ, Nat.mul_add]
    rw [← Nat.mul_assoc, Nat.mul_comm 10 (10 ^ t.length)]
    omega
theorem tval_snoc (a : List Nat) (d : Nat) : tval (a ++ [d]) = tval a + 10 ^ a.length * d := by
  rw [tval_append]; simp [tval]
theorem tval_lt {a : List Nat} (h : Ten a) : tval a < 10 ^ a.length := by
  induction a with
  | nil => simp [tval]
  | cons d t ih =>
    have h1 := ih h.tail
    have h2 := h.head
    simp only [tval, List.length_cons, Nat.pow_succ]
    omega
theorem tval_zeros (n : Nat) : tval (List.replicate n 0) = 0 := by
  induction n with
  | zero => rfl
  | succ n ih => simp [List.replicate_succ, tval, ih]
theorem ttop_ge {a : List Nat} (h : Top a) (hn : a ≠ []) : 10 ^ (a.length - 1) ≤ tval a := by
  have e := List.dropLast_concat_getLast hn
  have hl : a.getLast hn ≠ 0 := h hn
  rw [← e, tval_snoc]
  simp only [List.length_append, List.length_dropLast, List.length_cons, List.length_nil, Nat.zero_add, Nat.add_sub_cancel]
  have : 10 ^ (a.length - 1) * 1 ≤ 10 ^ (a.length - 1) * a.getLast hn := Nat.mul_le_mul_left _ (by omega)
  omega
theorem tval_drop {ds : List Nat} {k : Nat} (hk : k < ds.length) : tval (ds.drop k) = ds[k] + 10 * tval (ds.drop (k + 1)) := by
  rw [List.drop_eq_getElem_cons hk]; rfl
theorem tval_split (ds : List Nat) (k : Nat) (hk : k ≤ ds.length) : tval ds = tval (ds.take k) + 10 ^ k * tval (ds.drop k) := by
  conv => lhs; rw [← List.take_append_drop k ds]
  rw [tval_append, List.length_take, Nat.min_eq_left hk]
/-- the number of a sign and decimal digits -/
def tz (neg : Bool) (ds : List Nat) : Int := if neg then -(tval ds : Int) else (tval ds : Int)

/-- The value v (a sign, and decimal digits) is the integer z: its digits lie below block B, and are at most m. -/
def IsNum (w : World) (B m : Nat) (v : Value) (z : Int) : Prop :=
  ∃ neg A n c ds, v = .agg #[.bool neg, .slice A n c] ∧ ds.length = n ∧ Rn w B A ds ∧ n ≤ m ∧ n ≤ c ∧ Ten ds ∧ Top ds ∧ (ds = [] → neg = false) ∧ tz neg ds = z
theorem IsNum.more {w : World} {B B' m m' : Nat} {v : Value} {z : Int} (h : IsNum w B m v z) (hB : B ≤ B') (hm : m ≤ m') : IsNum w B' m' v z := by
  obtain ⟨neg, A, n, c, ds, h1, h2, h3, h4, h5⟩ := h
  exact ⟨neg, A, n, c, ds, h1, h2, h3.more hB, by omega, h5⟩
theorem IsNum.over {w w' : World} {m : Nat} {v : Value} {z : Int} (h : IsNum w w.heap.size m v z) (hb : Below w.heap.size w w') : IsNum w' w'.heap.size m v z := by
  obtain ⟨neg, A, n, c, ds, h1, h2, h3, h4⟩ := h
  exact ⟨neg, A, n, c, ds, h1, h2, h3.over hb, h4⟩

/-- nothing but noughts from k on: cut there -/
def CutAt (ds : List Nat) (k : Nat) : Prop := k ≤ ds.length ∧ Top (ds.take k) ∧ tval (ds.take k) = tval ds
theorem noughts_tval {ds : List Nat} {k : Nat} (hk : k ≤ ds.length) (h : Noughts ds k) : tval (ds.take k) = tval ds := by
  rw [tval_split ds k hk]
  have : ds.drop k = List.replicate (ds.length - k) 0 := by
    apply List.ext_getElem
    · simp
    · intro i h1 h2
      simp at h1
      simp [h (k + i) (by omega) (by omega)]
  rw [this, tval_zeros]
  simp
theorem cutAt_zero {ds : List Nat} (h : Noughts ds 0) : CutAt ds 0 := ⟨Nat.zero_le _, by simp [Top.nil], noughts_tval (Nat.zero_le _) h⟩
theorem cutAt_last {ds : List Nat} {k : Nat} (hk : k + 1 ≤ ds.length) (h : Noughts ds (k + 1)) (hz : ds[k] ≠ 0) : CutAt ds (k + 1) := by
  refine ⟨hk, ?_, noughts_tval hk h⟩
  intro hn
  rw [List.getLast_eq_getElem]
  simpa [Nat.min_eq_left hk] using hz

def CutTo (A : Option Addr) (c : Nat) (ds : List Nat) (e : Ending) : Prop := ∃ k, e = .returned (.slice A k c) ∧ CutAt ds k

set_option maxHeartbeats 400000 in
theorem cut_any (A : Option Addr) (n c : Nat) (ds : List Nat) (w : World) (hl : ds.length = n) (hn : ds.length ≤ maxLen) (hnc : ds.length ≤ c) (hr : Rn w w.heap.size A ds) :
    Calls Tryd.prog 67 #[.slice A n c] w fun e w' => CutTo A c ds e ∧ w = w' := by
  subst hl
  unfold maxLen at hn
  have HR := Lib.hid hr
  clear hr
  go_enter Tryd.func67, Tryd.ntmps67
  go_wp2
  go_loop [3] (fun v => ∃ k : Nat, k ≤ ds.length ∧ v = .int .i64 k ∧ Hid (Noughts ds k)) (fun v => (intOf v).toNat)
  case atStart => exact ⟨ds.length, Nat.le_refl _, rfl, fun j hj hk => absurd hk (by omega)⟩
  case round =>
    obtain ⟨k, hk, rfl, ha⟩ := hrel
    cases k with
    | zero =>
      go_wp2
      go_ret
      exact ⟨⟨0, rfl, cutAt_zero ha.out⟩, rfl⟩
    | succ k =>
      obtain ⟨b, off, rfl, hb, hc⟩ := HR.out.at_ (k := k) (by omega)
      by_cases hz : ds[k] = 0
      · have hz' : (((ds[k] : Nat) : Int) == 0) = true := by simpa using hz
        have HZ := Lib.hid hz
        clear hz
        go_wp2
        go_round
        case rel => exact ⟨k, by omega, by go_num, noughts_step hk ha.out HZ.out⟩
        case measure => simp [intOf]
      · have hz' : (((ds[k] : Nat) : Int) == 0) = false := by simpa using hz
        go_wp2
        go_ret
        exact ⟨⟨k + 1, rfl, cutAt_last hk ha.out hz⟩, rfl⟩
end Go.Proofs.YtpikbhcjgcbdfaaDoor.wh

/- The document's answers Same, make1, Int. -/
namespace Go.Proofs.YtpikbhcjgcbdfaaDoor.wh
open Go.RowKit

theorem same_iff {nx ny : Bool} {xs ys : List Nat} {a b : Int} (hx : rightB nx xs = true) (hy : rightB ny ys = true) (ha : zval nx xs = a) (hb : zval ny ys = b) : decide (nx = ny ∧ xs = ys) = decide (a = b) := by
  subst ha hb
  rw [Bool.eq_iff_iff, decide_eq_true_iff, decide_eq_true_iff]
  constructor
  · rintro ⟨rfl, rfl⟩; rfl
  · intro h; exact zval_unique hx hy h

theorem take_ne {xs ys : List Nat} {k : Nat} (hx : k < xs.length) (hy : k < ys.length) (h : xs[k] ≠ ys[k]) : xs ≠ ys := fun e => by subst e; exact h rfl
theorem take_step {xs ys : List Nat} {k : Nat} (hx : k < xs.length) (hy : k < ys.length) (h : xs.take k = ys.take k) (e : xs[k] = ys[k]) : xs.take (k + 1) = ys.take (k + 1) := by
  rw [List.take_succ_eq_append_getElem hx, List.take_succ_eq_append_getElem hy, h, e]

set_option maxRecDepth 100000 in
set_option maxHeartbeats 1000000 in
theorem same_any {v u : Value} {p q : Nat} {a b : Int} {w : World} (hp : p ≤ 100000) (hx : IsInt w w.heap.size p v a) (hy : IsInt w w.heap.size q u b) :
    Calls Tryd.prog 16 #[v, u] w fun e w' => e = .returned (.bool (decide (a = b))) ∧ Hid (Below w.heap.size w w') := by
  obtain ⟨nx, A, n, c, xs, rfl, hnp, CX, ZX⟩ := hx.cells
  obtain ⟨ny, B, m, d, ys, rfl, hmq, CY, ZY⟩ := hy.cells
  rw [← same_iff CX.out.right CY.out.right ZX.out ZY.out]
  clear hx hy ZX ZY
  have HT : Hid (Two w w.heap.size nx A n c (w.heap.size + 1) ny B m d ((w.alloc (.cells #[.bool nx, .slice A n c] 24)).alloc (.cells #[.bool ny, .slice B m d] 24))) :=
    ⟨((Below.refl _ _).alloc (Nat.le_refl _) _).alloc (by simp) _, (Box.new _ _ _ _ _).alloc _, by have h := Box.new (w.alloc (.cells #[.bool nx, .slice A n c] 24)) ny B m d; rwa [World.size_alloc] at h, Nat.le_refl _, by omega, by omega⟩
  by_cases hneg : nx = ny
  · subst hneg
    by_cases hlen : n = m
    · subst hlen
      go_enter Tryd.func16, Tryd.ntmps16
      go_wp2
      go_loopw [5] (fun i wr => (∃ k : Nat, k ≤ n ∧ i = .int .i64 k ∧ Hid (xs.take k = ys.take k)) ∧ Hid (Two w w.heap.size nx A n c (w.heap.size + 1) nx B n d wr)) (fun i _ => n - (intOf i).toNat)
      case atStart => exact ⟨⟨0, Nat.zero_le _, rfl, rfl⟩, HT⟩
      case round =>
        obtain ⟨⟨k, hk, rfl, ha⟩, ht⟩ := hrel
        have c1 := ht.out.one.c1
        have c2 := ht.out.two.c1
        by_cases hlt : k < n
        · have hkx : k < xs.length := by rw [CX.out.len]; exact hlt
          have hky : k < ys.length := by rw [CY.out.len]; exact hlt
          obtain ⟨b1, off1, rfl, _, hc1⟩ := (CX.out.over ht.out.below).rd.at_ hkx
          obtain ⟨b2, off2, rfl, _, hc2⟩ := (CY.out.over ht.out.below).rd.at_ hky
          by_cases he : xs[k] = ys[k]
          · have he' : (((xs[k] : Nat) : Int) != ((ys[k] : Nat) : Int)) = false := by simp [he]
            have HE := Lib.hid (take_step hkx hky ha.out he)
            clear he
            go_wp2
            go_quiet (fail)
            go_wp2
            go_roundw
            case rel => exact ⟨⟨k + 1, by omega, by go_num, HE.out⟩, ⟨below_drewN ht.out.below _, ht.out.one.drewN _, ht.out.two.drewN _, ht.out.le⟩⟩
            case measure => simp [intOf]; omega
          · have he' : (((xs[k] : Nat) : Int) != ((ys[k] : Nat) : Int)) = true := by simp; omega
            have HE : Hid (xs ≠ ys) := take_ne hkx hky he
            clear he
            go_wp2
            go_quiet (fail)
            go_wp2
            go_ret
            exact ⟨ret_bool (by simp [HE.out]), below_drewN ht.out.below _⟩
        · have HE : Hid (xs = ys) := by
            have h := ha.out
            obtain rfl : k = n := by omega
            rwa [List.take_of_length_le (by rw [CX.out.len]; exact Nat.le_refl _), List.take_of_length_le (by rw [CY.out.len]; exact Nat.le_refl _)] at h
          go_wp2
          go_ret
          exact ⟨ret_bool (by simp [HE.out]), ht.out.below⟩
    · have hl' : (((n : Nat) : Int) != ((m : Nat) : Int)) = true := by simp; omega
      have HE : Hid (xs ≠ ys) := fun e => hlen (by rw [← CX.out.len, ← CY.out.len, e])
      clear hlen
      go_enter Tryd.func16, Tryd.ntmps16
      go_wp2
      go_ret
      exact ⟨ret_bool (by simp [HE.out]), HT.out.below⟩
  · have hn' : (nx != ny) = true := by simp [hneg]
    have HE := Lib.hid hneg
    clear hneg
    go_enter Tryd.func16, Tryd.ntmps16
    go_wp2
    go_ret
    exact ⟨ret_bool (by simp [HE.out]), HT.out.below⟩

/-- a sign and decimal digits of known cells -/
def GivesNum (W : World) (m : Nat) (z : Int) (e : Ending) (w' : World) : Prop := ∃ neg A n c, e = .returned (.agg #[.bool neg, .slice A n c]) ∧ Hid (IsNum w' w'.heap.size m (.agg #[.bool neg, .slice A n c]) z) ∧ Hid (Below W.heap.size W w')

theorem tz_cut {neg : Bool} {ds : List Nat} {k : Nat} (h : CutAt ds k) : tz neg (ds.take k) = tz neg ds := by unfold tz; rw [h.2.2]

set_option maxRecDepth 100000 in
set_option maxHeartbeats 1000000 in
theorem make1_any (neg : Bool) (A : Option Addr) (n c : Nat) (ds : List Nat) (w : World) (hl : ds.length = n) (hn : n ≤ 1000000) (hnc : n ≤ c) (hr : Rn w w.heap.size A ds) (hd : Ten ds) :
    Calls Tryd.prog 61 #[.bool neg, .slice A n c] w fun e w' => GivesNum w n (tz neg ds) e w' := by
  have HR := Lib.hid hr
  have HL := Lib.hid hl
  have HD := Lib.hid hd
  clear hr hl hd
  go_enter Tryd.func61, Tryd.ntmps61
  go_wp2_with fail
  refine (cut_any A n c ds _ HL.out (by have := HL.out; unfold maxLen; omega) (by have := HL.out; omega) (HR.out.alloc' _)).mono ?_
  rintro e w1 ⟨⟨k, rfl, ht⟩, rfl⟩
  have HT := Lib.hid ht
  clear ht
  cases k with
  | zero =>
    have hz : Hid (tz neg ds = 0) := by
      have h := HT.out.2.2
      simp [tval] at h
      show tz neg ds = 0
      cases neg <;> simp [tz, ← h]
    cases neg with
    | true =>
      go_wp2
      refine bodyPost_ret (v := .agg #[.bool false, .slice A 0 c]) (by simp [results, Tryd.results61, go_sem]) rfl ⟨false, A, 0, c, rfl, ⟨false, A, 0, c, [], rfl, rfl, Rn.nil, Nat.zero_le _, Nat.zero_le _, Ten.nil, Top.nil, fun _ => rfl, by rw [hz.out]; rfl⟩, (Below.refl _ _).alloc (Nat.le_refl _) _⟩
    | false =>
      go_wp2
      refine bodyPost_ret (v := .agg #[.bool false, .slice A 0 c]) (by simp [results, Tryd.results61, go_sem]) rfl ⟨false, A, 0, c, rfl, ⟨false, A, 0, c, [], rfl, rfl, Rn.nil, Nat.zero_le _, Nat.zero_le _, Ten.nil, Top.nil, fun _ => rfl, by rw [hz.out]; rfl⟩, (Below.refl _ _).alloc (Nat.le_refl _) _⟩
  | succ k =>
    have hlen : Hid ((ds.take (k + 1)).length = k + 1) := by show _ = _; rw [List.length_take]; have := HT.out.1; omega
    have hnum : ∀ o : Obj, Hid (IsNum (w.alloc o) (w.alloc o).heap.size n (.agg #[.bool neg, .slice A (k + 1) c]) (tz neg ds)) := fun o => by
      have h1 := HT.out.1
      have h2 := HL.out
      exact ⟨neg, A, k + 1, c, ds.take (k + 1), rfl, hlen.out, (HR.out.take _).alloc' _, by omega, by omega, HD.out.take _, HT.out.2.1, fun e => by have := hlen.out; rw [e] at this; simp at this, tz_cut HT.out⟩
    have HN := Lib.hid hnum
    clear hnum
    cases neg with
    | true =>
      go_wp2
      exact bodyPost_ret (v := .agg #[.bool true, .slice A (k + 1) c]) (by simp [results, Tryd.results61, go_sem]) rfl ⟨true, A, k + 1, c, rfl, HN.out _, (Below.refl _ _).alloc (Nat.le_refl _) _⟩
    | false =>
      go_wp2
      exact bodyPost_ret (v := .agg #[.bool false, .slice A (k + 1) c]) (by simp [results, Tryd.results61, go_sem]) rfl ⟨false, A, k + 1, c, rfl, HN.out _, (Below.refl _ _).alloc (Nat.le_refl _) _⟩
end Go.Proofs.YtpikbhcjgcbdfaaDoor.wh

/- The document's answers Int and Form. -/
namespace Go.Proofs.YtpikbhcjgcbdfaaDoor.wh
open Go.RowKit

theorem info_int : (Tryd.prog.info? 3).map (fun i => (i.zero, i.size, i.bytes)) = some (some (.int .i64 0), 1, 8) := by kernel_rfl

/-- Block g is a variable of the type Num: its two cells. -/
def BoxN (w : World) (g : Nat) (x : Bool) (a : Option Addr) (n c : Nat) : Prop := Blk w g 29 #[.bool x, .slice a n c]
section
variable {w w' : World} {g B : Nat} {x y : Bool} {a a' : Option Addr} {n c n' c' : Nat}
theorem BoxN.new (w : World) (x : Bool) (a : Option Addr) (n c : Nat) : BoxN (w.alloc (.cells #[.bool x, .slice a n c] 29)) w.heap.size x a n c := Blk.new _ _ _
theorem BoxN.c0 (h : BoxN w g x a n c) : w.cell? ⟨g, 0, none⟩ = some (.bool x) := Blk.cell h 0
theorem BoxN.c1 (h : BoxN w g x a n c) : w.cell? ⟨g, 1, none⟩ = some (.slice a n c) := Blk.cell h 1
theorem BoxN.f0 (h : BoxN w g x a n c) : w.frozen? ⟨g, 0, none⟩ = false := Blk.frozen h 0
theorem BoxN.f1 (h : BoxN w g x a n c) : w.frozen? ⟨g, 1, none⟩ = false := Blk.frozen h 1
theorem BoxN.put (h : BoxN w g x a n c) (y : Bool) (a' : Option Addr) (n' c' : Nat) : BoxN (put2 w g y a' n' c') g y a' n' c' := (Blk.set_ (Blk.set_ h 0 (.bool y)) 1 (.slice a' n' c'))
theorem BoxN.far (h : BoxN w g x a n c) {k : Nat} (hk : g ≠ k) (y : Bool) (a' : Option Addr) (n' c' : Nat) : BoxN (put2 w k y a' n' c') g x a n c := Blk.far (Blk.far h (p := ⟨k, 0, none⟩) hk _) (p := ⟨k, 1, none⟩) hk _
theorem BoxN.over (h : BoxN w g x a n c) (hb : Below w.heap.size w w') : BoxN w' g x a n c := Blk.below h hb (Blk.lt h)
theorem BoxN.alloc (h : BoxN w g x a n c) (o : Obj) : BoxN (w.alloc o) g x a n c := Blk.alloc h o
theorem BoxN.grown {row : Option Nat} (h : BoxN w g x a n c) (hb : w.grownBy w' row) (hg : some g ≠ row) : BoxN w' g x a n c := Blk.grown h hb hg
theorem BoxN.lt (h : BoxN w g x a n c) : g < w.heap.size := Blk.lt h
theorem BoxN.no_int (h : BoxN w g x a n c) (i : Nat) (d : Int) : w.cell? ⟨g, i, none⟩ ≠ some (.int .i64 d) := by
  rw [Blk.cell h i]
  match i with
  | 0 => simp
  | 1 => simp
  | i + 2 => simp
theorem IsNum.put {m : Nat} {v : Value} {z : Int} (h : IsNum w B m v z) (hx : BoxN w g x a n c) (y : Bool) (a' : Option Addr) (n' c' : Nat) : IsNum (put2 w g y a' n' c') B m v z := by
  obtain ⟨neg, A, n, c, ds, h1, h2, h3, h4⟩ := h
  refine ⟨neg, A, n, c, ds, h1, h2, fun hn => ?_, h4⟩
  obtain ⟨b, off, e, hb, hc⟩ := h3 hn
  have hne : b ≠ g := fun e => by subst e; exact hx.no_int _ _ (hc 0 hn)
  refine ⟨b, off, e, hb, fun j hj => ?_⟩
  rw [World.cell?_setCell_far _ _ _ _ (fun e => hne e.symm), World.cell?_setCell_far _ _ _ _ (fun e => hne e.symm)]
  exact hc j hj
end

def TenAt (n : Nat) (ds : List Nat) (q : Nat) : Prop := Ten ds ∧ tval ds + 10 ^ ds.length * q = n
theorem ten_step {n q : Nat} {ds : List Nat} (h : TenAt n ds q) : TenAt n (ds ++ [q % 10]) (q / 10) := by
  obtain ⟨h1, h2⟩ := h
  refine ⟨h1.append (Ten.cons (Nat.mod_lt _ (by omega)) Ten.nil), ?_⟩
  rw [tval_snoc, List.length_append, List.length_singleton, Nat.pow_succ]
  rw [← h2, Nat.add_assoc, Nat.mul_assoc, ← Nat.mul_add, Nat.mod_add_div]
theorem ten_len {n q : Nat} {ds : List Nat} (h : TenAt n ds q) (hq : 0 < q) (hn : W64 n) : ds.length ≤ 19 := by
  obtain ⟨_, h2⟩ := h
  unfold W64 at hn
  rcases Nat.lt_or_ge 19 ds.length with hlt | hge
  · have h3 : 10 ^ 20 ≤ 10 ^ ds.length := Nat.pow_le_pow_right (by omega) (by omega)
    have h4 : 10 ^ ds.length * 1 ≤ 10 ^ ds.length * q := Nat.mul_le_mul_left _ hq
    omega
  · exact hge
/-- an int that is not below 0 has it -/
def W63 (n : Nat) : Prop := n < 9223372036854775808
theorem W63.le {n : Nat} (h : W63 n) : (n : Int) ≤ 9223372036854775807 := by unfold W63 at h; omega

theorem own_row {w : World} {base n : Nat} {e : TypeId} {v : Value} {xs : List Value} (h : w.ownsRow base e 1 v n xs) : ∃ A c, v = .slice A n c ∧ n ≤ c := by
  rcases h.2 with ⟨rfl, rfl⟩ | ⟨g, cap, cur, rfl, _, _, hn, _⟩
  · exact ⟨_, _, rfl, Nat.le_refl _⟩
  · exact ⟨_, _, rfl, hn⟩

set_option maxRecDepth 100000 in
set_option maxHeartbeats 1000000 in
theorem int_any (n : Int) (w : World) (h1 : -9223372036854775807 ≤ n) (h2 : n ≤ 9223372036854775807) :
    Calls Tryd.prog 35 #[.int .i64 n] w fun e w' => GivesNum w 25 n e w' := by
  obtain ⟨i0, hi, hz0, hz1, hz2⟩ := info_parts info_int
  obtain ⟨s, hs⟩ : ∃ s : Nat, s = n.natAbs := ⟨_, rfl⟩
  obtain ⟨neg, hneg⟩ : ∃ neg : Bool, neg = decide (n < 0) := ⟨_, rfl⟩
  have hs63 : W63 s := by unfold W63; omega
  have HW : Hid (W64 s) := by show s < _; omega
  have HZ : Hid (∀ ds, tval ds = s → tz neg ds = n) := by
    intro ds hd
    unfold tz
    rw [hneg, hd, hs]
    by_cases h : n < 0
    · simp [h]; omega
    · simp [h]; omega
  have hsn : (if neg then -n else n) = (s : Int) := by
    rw [hneg, hs]
    by_cases h : n < 0
    · simp [h]; omega
    · simp [h]; omega
  have HB : Hid (Below w.heap.size w ((w.alloc (.cells #[.bool false, .slice none 0 0] 29)).alloc (.cells #[] 3))) := ((Below.refl _ _).alloc (Nat.le_refl _) _).alloc (by simp) _
  have HX : Hid (BoxN ((w.alloc (.cells #[.bool false, .slice none 0 0] 29)).alloc (.cells #[] 3)) w.heap.size false none 0 0) := (BoxN.new _ _ _ _ _).alloc _
  have HOWN : Hid (((w.alloc (.cells #[.bool false, .slice none 0 0] 29)).alloc (.cells #[] 3)).ownsRow (w.heap.size + 1) 3 1 (.slice (some ⟨w.heap.size + 1, 0, none⟩) 0 0) 0 (i64s [])) := by
    have h := World.ownsRow_made (w.alloc (.cells #[.bool false, .slice none 0 0] 29)) (base := w.heap.size + 1) (e := 3) (size := 1) #[] 0 (by simp) (by unfold maxLen; omega) rfl
    rwa [World.size_alloc] at h
  cases neg with
  | true =>
    have hlt : n < 0 := by simpa using hneg
    have hn2 : -n = (s : Int) := by simpa using hsn
    clear hneg hsn hs
    go_enter Tryd.func35, Tryd.ntmps35
    go_wp2
    go_loopw [0, 4] (fun u v wr => (∃ (q : Nat) (ds : List Nat), W63 q ∧ u = .int .i64 q ∧ Hid (wr.ownsRow (w.heap.size + 1) 3 1 v ds.length (i64s ds)) ∧ Hid (TenAt s ds q) ∧ ds.length ≤ 20) ∧ Hid (BoxN wr w.heap.size false none 0 0) ∧ Hid (Below w.heap.size w wr)) (fun u _ _ => (intOf u).toNat)
    case atStart => exact ⟨⟨s, [], hs63, rfl, HOWN, ⟨Ten.nil, by simp [tval]⟩, by simp⟩, HX, HB⟩
    case round =>
      obtain ⟨⟨q, ds, hq, rfl, hown, hten, hl20⟩, hx, hb⟩ := hrel
      by_cases h0 : 0 < q
      · have hl := ten_len hten.out h0 HW.out
        have hq1 : (0 : Int) < (q : Int) := by omega
        have hq2 := hq.le
        obtain ⟨r, hr⟩ : ∃ r : Nat, r = q % 10 := ⟨_, rfl⟩
        obtain ⟨p, hp⟩ : ∃ p : Nat, p = q / 10 := ⟨_, rfl⟩
        have hr1 : ((q : Int) % 10) = (r : Int) := by omega
        have hp1 : ((q : Int) / 10) = (p : Int) := by omega
        have hp3 : p < q := by omega
        have HR := Lib.hid hr
        have HP := Lib.hid hp
        have hgs := hx.out.lt
        clear hr hp
        go_wp2_with (at_builtin; refine wpList_append_own _ rfl _ _ 27 rfl (w.heap.size + 1) 3 i0 (.int .i64 0) 1 8 Tryd.underlying27 hi hz0 hz1 hz2 rfl (by decide) _ _ _ rfl (hown.out.alloc _) ⟨wr.heap.size, 0, none⟩ 1 1 [.int .i64 (r : Int)] rfl rfl ?c1 ?c2 ?c3 ?c4 ?c5 ?_)
        case c1 =>
          intro j u hj
          match j, hj with
          | 0, hj => simp at hj; subst hj; simp [Addr.add]
        case c2 => intro u hu; simp at hu; subst hu; rfl
        case c3 => unfold maxLen; omega
        case c4 => omega
        case c5 => simp; omega
        intro v' w1 hown' hgrow _
        have hne : ∀ k, u4.ownBlock = some k → w.heap.size + 1 ≤ k := fun k hk => (hown.out.lt k hk).1
        have HX1 : Hid (BoxN w1 w.heap.size false none 0 0) := (hx.out.alloc _).grown hgrow (fun e => by have := hne _ e.symm; omega)
        have HB1 : Hid (Below w.heap.size w w1) := (hb.out.alloc hb.out.size _).grown hgrow (by simp; omega) (fun g hg => by have := hne g hg; omega)
        have HOWN1 : Hid (w1.ownsRow (w.heap.size + 1) 3 1 v' (ds ++ [r]).length (i64s (ds ++ [r]))) := by
          show World.ownsRow _ _ _ _ _ _ _
          rw [List.length_append, i64s_append]
          exact hown'
        clear hgrow hown' hne
        go_wp2
        go_roundw
        case rel => exact ⟨⟨p, ds ++ [r], by have := hq; unfold W63 at *; omega, rfl, HOWN1, by have h := ten_step hten.out; rw [← HR.out, ← HP.out] at h; exact h, by simp; omega⟩, HX1, HB1⟩
        case measure => simp [intOf]; omega
      · have hq1 : ¬ (0 : Int) < (q : Int) := by omega
        obtain ⟨A, c, rfl, hc⟩ := own_row hown.out
        have hv : Hid (tval ds = s) := by
          have h := hten.out.2
          have h0 : q = 0 := by omega
          rw [h0] at h
          show tval ds = s
          simpa using h
        have HRN : Hid (Rn wr wr.heap.size A ds) := Rn.of_own hown.out
        go_wp2_with fail
        refine (make1_any true A ds.length c ds wr rfl (by omega) hc HRN.out hten.out.1).mono ?_
        rintro e w2 ⟨neg2, A2, n2, c2, rfl, hi2, hb2⟩
        have hx2 := hx.out.over hb2.out
        have c0 := hx2.c0
        have c1 := hx2.c1
        have f0 := hx2.f0
        have f1 := hx2.f1
        have HI := Lib.hid (hi2.out.put hx2 neg2 A2 n2 c2)
        have HB2 : Hid (Below w.heap.size w (put2 w2 w.heap.size neg2 A2 n2 c2)) := below_put (hb.out.trans (hb2.out.mono hb.out.size)) (Nat.le_refl _) _ _ _ _
        have HSZ := Lib.hid (put2_size w2 w.heap.size neg2 A2 n2 c2)
        go_wp2
        refine bodyPost_ret (v := .agg #[.bool neg2, .slice A2 n2 c2]) (by simp [results, Tryd.results35, go_sem, c0, c1]) rfl ⟨neg2, A2, n2, c2, rfl, ?_, HB2⟩
        have h : IsNum (put2 w2 w.heap.size neg2 A2 n2 c2) (put2 w2 w.heap.size neg2 A2 n2 c2).heap.size 25 _ _ := HI.out.more (by rw [HSZ.out]; exact Nat.le_refl _) (by omega)
        rw [HZ.out ds hv.out] at h
        exact h
  | false =>
    have hlt : ¬ n < 0 := by simpa using hneg
    obtain rfl : n = (s : Int) := by simpa using hsn
    clear hneg hsn hs
    go_enter Tryd.func35, Tryd.ntmps35
    go_wp2
    go_loopw [0, 4] (fun u v wr => (∃ (q : Nat) (ds : List Nat), W63 q ∧ u = .int .i64 q ∧ Hid (wr.ownsRow (w.heap.size + 1) 3 1 v ds.length (i64s ds)) ∧ Hid (TenAt s ds q) ∧ ds.length ≤ 20) ∧ Hid (BoxN wr w.heap.size false none 0 0) ∧ Hid (Below w.heap.size w wr)) (fun u _ _ => (intOf u).toNat)
    case atStart => exact ⟨⟨s, [], hs63, rfl, HOWN, ⟨Ten.nil, by simp [tval]⟩, by simp⟩, HX, HB⟩
    case round =>
      obtain ⟨⟨q, ds, hq, rfl, hown, hten, hl20⟩, hx, hb⟩ := hrel
      by_cases h0 : 0 < q
      · have hl := ten_len hten.out h0 HW.out
        have hq1 : (0 : Int) < (q : Int) := by omega
        have hq2 := hq.le
        obtain ⟨r, hr⟩ : ∃ r : Nat, r = q % 10 := ⟨_, rfl⟩
        obtain ⟨p, hp⟩ : ∃ p : Nat, p = q / 10 := ⟨_, rfl⟩
        have hr1 : ((q : Int) % 10) = (r : Int) := by omega
        have hp1 : ((q : Int) / 10) = (p : Int) := by omega
        have hp3 : p < q := by omega
        have HR := Lib.hid hr
        have HP := Lib.hid hp
        have hgs := hx.out.lt
        clear hr hp
        go_wp2_with (at_builtin; refine wpList_append_own _ rfl _ _ 27 rfl (w.heap.size + 1) 3 i0 (.int .i64 0) 1 8 Tryd.underlying27 hi hz0 hz1 hz2 rfl (by decide) _ _ _ rfl (hown.out.alloc _) ⟨wr.heap.size, 0, none⟩ 1 1 [.int .i64 (r : Int)] rfl rfl ?c1 ?c2 ?c3 ?c4 ?c5 ?_)
        case c1 =>
          intro j u hj
          match j, hj with
          | 0, hj => simp at hj; subst hj; simp [Addr.add]
        case c2 => intro u hu; simp at hu; subst hu; rfl
        case c3 => unfold maxLen; omega
        case c4 => omega
        case c5 => simp; omega
        intro v' w1 hown' hgrow _
        have hne : ∀ k, u4.ownBlock = some k → w.heap.size + 1 ≤ k := fun k hk => (hown.out.lt k hk).1
        have HX1 : Hid (BoxN w1 w.heap.size false none 0 0) := (hx.out.alloc _).grown hgrow (fun e => by have := hne _ e.symm; omega)
        have HB1 : Hid (Below w.heap.size w w1) := (hb.out.alloc hb.out.size _).grown hgrow (by simp; omega) (fun g hg => by have := hne g hg; omega)
        have HOWN1 : Hid (w1.ownsRow (w.heap.size + 1) 3 1 v' (ds ++ [r]).length (i64s (ds ++ [r]))) := by
          show World.ownsRow _ _ _ _ _ _ _
          rw [List.length_append, i64s_append]
          exact hown'
        clear hgrow hown' hne
        go_wp2
        go_roundw
        case rel => exact ⟨⟨p, ds ++ [r], by have := hq; unfold W63 at *; omega, rfl, HOWN1, by have h := ten_step hten.out; rw [← HR.out, ← HP.out] at h; exact h, by simp; omega⟩, HX1, HB1⟩
        case measure => simp [intOf]; omega
      · have hq1 : ¬ (0 : Int) < (q : Int) := by omega
        obtain ⟨A, c, rfl, hc⟩ := own_row hown.out
        have hv : Hid (tval ds = s) := by
          have h := hten.out.2
          have h0 : q = 0 := by omega
          rw [h0] at h
          show tval ds = s
          simpa using h
        have HRN : Hid (Rn wr wr.heap.size A ds) := Rn.of_own hown.out
        go_wp2_with fail
        refine (make1_any false A ds.length c ds wr rfl (by omega) hc HRN.out hten.out.1).mono ?_
        rintro e w2 ⟨neg2, A2, n2, c2, rfl, hi2, hb2⟩
        have hx2 := hx.out.over hb2.out
        have c0 := hx2.c0
        have c1 := hx2.c1
        have f0 := hx2.f0
        have f1 := hx2.f1
        have HI := Lib.hid (hi2.out.put hx2 neg2 A2 n2 c2)
        have HB2 : Hid (Below w.heap.size w (put2 w2 w.heap.size neg2 A2 n2 c2)) := below_put (hb.out.trans (hb2.out.mono hb.out.size)) (Nat.le_refl _) _ _ _ _
        have HSZ := Lib.hid (put2_size w2 w.heap.size neg2 A2 n2 c2)
        go_wp2
        refine bodyPost_ret (v := .agg #[.bool neg2, .slice A2 n2 c2]) (by simp [results, Tryd.results35, go_sem, c0, c1]) rfl ⟨neg2, A2, n2, c2, rfl, ?_, HB2⟩
        have h : IsNum (put2 w2 w.heap.size neg2 A2 n2 c2) (put2 w2 w.heap.size neg2 A2 n2 c2).heap.size 25 _ _ := HI.out.more (by rw [HSZ.out]; exact Nat.le_refl _) (by omega)
        rw [HZ.out ds hv.out] at h
        exact h
end Go.Proofs.YtpikbhcjgcbdfaaDoor.wh

/- The document's answer Form: decimal digits as digits to the base of 10^9. -/
namespace Go.Proofs.YtpikbhcjgcbdfaaDoor.wh
open Go.RowKit

theorem pow9 (j : Nat) : (1000000000 : Nat) ^ j = 10 ^ (9 * j) := by
  rw [show (1000000000 : Nat) = 10 ^ 9 by decide, ← Nat.pow_mul]
/-- after j digits of the base 10^9 -/
def FormAt (ds : List Nat) (j : Nat) (outs : List Nat) : Prop := outs.length = j ∧ Dig outs ∧ val outs = tval (ds.take (9 * j)) ∧ (ds.length ≤ 9 * j → Top outs)
theorem formAt_zero (ds : List Nat) : FormAt ds 0 [] := ⟨rfl, Dig.nil, by simp [val, tval], fun _ => Top.nil⟩
/-- the digits of place i to i + 8, from k on -/
def chunk (ds : List Nat) (i k : Nat) : Nat := tval ((ds.take (i + 9)).drop k)
theorem chunk_end (ds : List Nat) (i : Nat) : chunk ds i (i + 9) = 0 := by
  unfold chunk
  rw [List.drop_eq_nil_of_le (by rw [List.length_take]; omega)]
  rfl
theorem chunk_in {ds : List Nat} {i k : Nat} (hk : k < ds.length) (hi : k < i + 9) : chunk ds i k = ds[k] + 10 * chunk ds i (k + 1) := by
  unfold chunk
  rw [tval_drop (by rw [List.length_take]; omega), List.getElem_take]
theorem chunk_out {ds : List Nat} {i k : Nat} (hk : ds.length ≤ k) : chunk ds i k = 0 := by
  unfold chunk
  rw [List.drop_eq_nil_of_le (by rw [List.length_take]; omega)]
  rfl
theorem chunk_lt {ds : List Nat} (hd : Ten ds) {i k : Nat} (hi : i ≤ k) : chunk ds i k < 1000000000 := by
  unfold chunk
  have h := tval_lt ((hd.take (i + 9)).drop k)
  have h2 : ((ds.take (i + 9)).drop k).length ≤ 9 := by simp; omega
  have h3 : 10 ^ ((ds.take (i + 9)).drop k).length ≤ 10 ^ 9 := Nat.pow_le_pow_right (by omega) h2
  omega
theorem formAt_step {ds outs : List Nat} {j : Nat} (h : FormAt ds j outs) (hj : 9 * j < ds.length) (hd : Ten ds) (ht : Top ds) : FormAt ds (j + 1) (outs ++ [chunk ds (9 * j) (9 * j)]) := by
  obtain ⟨h1, h2, h3, h4⟩ := h
  have hc := chunk_lt hd (Nat.le_refl (9 * j))
  refine ⟨by simp [h1], h2.append (Dig.cons hc Dig.nil), ?_, fun hl => ?_⟩
  · rw [val_snoc, h1, h3, pow9]
    have e : ds.take (9 * (j + 1)) = ds.take (9 * j) ++ (ds.take (9 * j + 9)).drop (9 * j) := by
      have e1 : 9 * (j + 1) = 9 * j + 9 := by omega
      rw [e1]
      have := List.take_append_drop (9 * j) (ds.take (9 * j + 9))
      rw [List.take_take, Nat.min_eq_left (by omega)] at this
      exact this.symm
    rw [e, tval_append, List.length_take, Nat.min_eq_left (by omega)]
    rfl
  · intro hn
    rw [List.getLast_append_of_ne_nil _ (by simp)]
    show chunk ds (9 * j) (9 * j) ≠ 0
    unfold chunk
    rw [List.take_of_length_le (by omega)]
    have htd : Top (ds.drop (9 * j)) := by
      intro hne
      rw [List.getLast_drop hne]
      exact ht _
    have h5 := ttop_ge htd (by intro e; have := congrArg List.length e; simp at this; omega)
    have h6 : 0 < 10 ^ ((ds.drop (9 * j)).length - 1) := Nat.pow_pos (by omega)
    omega
theorem formAt_end {neg : Bool} {ds outs : List Nat} {j : Nat} (h : FormAt ds j outs) (hj : ds.length ≤ 9 * j) (hj2 : 9 * j < ds.length + 9) (h0 : ds = [] → neg = false) : rightB neg outs = true ∧ zval neg outs = tz neg ds := by
  obtain ⟨h1, h2, h3, h4⟩ := h
  rw [List.take_of_length_le hj] at h3
  refine ⟨right_mk h2 (h4 hj) (fun e => h0 ?_), by unfold zval tz; rw [h3]⟩
  subst e
  simp at h1
  subst h1
  exact List.eq_nil_of_length_eq_zero (by omega)

theorem one_cell (W : World) (t : TypeId) (u : Value) : ∀ j x, [u][j]? = some x → (W.alloc (.cells #[u] t)).cell? ((⟨W.heap.size, 0, none⟩ : Addr).add j) = some x := by
  intro j x hj
  match j, hj with
  | 0, hj => simp at hj; subst hj; simp [Addr.add]
theorem one_one (k : IntKind) (z : Int) : ∀ u ∈ [Value.int k z], u.oneCell' = true := by
  intro u hu
  simp at hu
  subst hu
  rfl
/-- the variables of Form: the number that came in, the result, what has been put together -/
structure FormMem (w : World) (neg : Bool) (A : Option Addr) (n c : Nat) (A3 : Option Addr) (j c3 : Nat) (w' : World) : Prop where
  below : Below w.heap.size w w'
  num : BoxN w' w.heap.size neg A n c
  res : Box w' (w.heap.size + 1) false none 0 0
  out_ : Box w' (w.heap.size + 1 + 1) neg A3 j c3
  size : w.heap.size + 3 ≤ w'.heap.size
section
variable {w w' w1 : World} {neg : Bool} {A A3 : Option Addr} {n c j c3 : Nat}
theorem FormMem.alloc (h : FormMem w neg A n c A3 j c3 w') (o : Obj) : FormMem w neg A n c A3 j c3 (w'.alloc o) := ⟨h.below.alloc h.below.size _, h.num.alloc _, h.res.alloc _, h.out_.alloc _, by have := h.size; simp; omega⟩
theorem FormMem.grown {row : Option Nat} (h : FormMem w neg A n c A3 j c3 w') (hg : w'.grownBy w1 row) (hr : ∀ g, row = some g → w.heap.size + 3 ≤ g) : FormMem w neg A n c A3 j c3 w1 :=
  ⟨h.below.grown hg h.below.size (fun g e => by have := hr g e; omega), h.num.grown hg (fun e => by have := hr _ e.symm; omega), Blk.grown h.res hg (fun e => by have := hr _ e.symm; omega), Blk.grown h.out_ hg (fun e => by have := hr _ e.symm; omega), Nat.le_trans h.size hg.size⟩
theorem FormMem.set_ (h : FormMem w neg A n c A3 j c3 w') (A4 : Option Addr) (j' c4 : Nat) : FormMem w neg A n c A4 j' c4 (w'.setCell ⟨w.heap.size + 1 + 1, 1, none⟩ (.slice A4 j' c4)) :=
  ⟨h.below.setCell (p := ⟨w.heap.size + 1 + 1, 1, none⟩) (by show _ ≤ _ + 1 + 1; omega) _, Blk.far h.num (p := ⟨w.heap.size + 1 + 1, 1, none⟩) (by show _ ≠ _ + 1 + 1; omega) _, Blk.far h.res (p := ⟨w.heap.size + 1 + 1, 1, none⟩) (by show _ + 1 ≠ _ + 1 + 1; omega) _, Blk.set_ h.out_ 1 _, by have := h.size; simpa [World.setCell] using this⟩
end

set_option maxRecDepth 100000 in
set_option maxHeartbeats 2000000 in
theorem form_any {v : Value} {m : Nat} {z : Int} {w : World} (hm : m ≤ 1000) (hv : IsNum w w.heap.size m v z) :
    Calls Tryd.prog 18 #[v] w fun e w' => GivesZ w m z e w' := by
  obtain ⟨i0, hi, hz0, hz1, hz2⟩ := info_parts info_u32
  obtain ⟨neg, A, n, c, ds, rfl, hl, hr, hnm, hnc, hd, ht, hn0, hz⟩ := hv
  subst hl
  have HR := Lib.hid hr
  have HD := Lib.hid hd
  have HT := Lib.hid ht
  have HN := Lib.hid hn0
  have HZ := Lib.hid hz
  clear hr hd ht hn0 hz
  have HF : Hid (FormMem w neg A ds.length c none 0 0 (((w.alloc (.cells #[.bool neg, .slice A ds.length c] 29)).alloc (.cells #[.bool false, .slice none 0 0] 24)).alloc (.cells #[.bool neg, .slice none 0 0] 24))) :=
    ⟨(((Below.refl _ _).alloc (Nat.le_refl _) _).alloc (by simp) _).alloc (by simp; omega) _, ((BoxN.new _ _ _ _ _).alloc _).alloc _,
      by have h := (Box.new (w.alloc (.cells #[.bool neg, .slice A ds.length c] 29)) false none 0 0).alloc (.cells #[.bool neg, .slice none 0 0] 24); rwa [World.size_alloc] at h,
      by have h := Box.new ((w.alloc (.cells #[.bool neg, .slice A ds.length c] 29)).alloc (.cells #[.bool false, .slice none 0 0] 24)) neg none 0 0; rwa [World.size_alloc, World.size_alloc] at h,
      by simp⟩
  go_enter Tryd.func18, Tryd.ntmps18
  go_wp2
  go_loopw [4] (fun iv wr => (∃ (j : Nat) (outs : List Nat) (A3 : Option Addr) (c3 : Nat), 9 * j < ds.length + 9 ∧ iv = .int .i64 ((9 * j : Nat) : Int) ∧ Hid (FormAt ds j outs) ∧ Hid (FormMem w neg A ds.length c A3 j c3 wr) ∧ Hid (wr.ownsRow (w.heap.size + 3) 82 1 (.slice A3 j c3) j (u32s outs)))) (fun iv _ => (ds.length + 9 - (intOf iv).toNat))
  case atStart => exact ⟨0, [], none, 0, by omega, rfl, formAt_zero ds, HF, World.ownsRow_nil _ _ _ _⟩
  case round =>
    obtain ⟨j, outs, A3, c3, hj, rfl, hf, hmem, hown⟩ := hrel
    have c1 := hmem.out.num.c1
    obtain ⟨i, hi9⟩ : ∃ i, i = 9 * j := ⟨_, rfl⟩
    rw [← hi9]
    have HI9 := Lib.hid hi9
    rw [← hi9] at hj
    clear hi9
    by_cases hlt : i < ds.length
    · go_wp2
      go_loop [5, 6] (fun nv kv => ∃ (k t : Nat) (q : Int), i ≤ k ∧ k ≤ i + 9 ∧ nv = .int .i64 t ∧ kv = .int .i64 q ∧ Hid (q = (k : Int) - 1) ∧ Hid (t = chunk ds i k)) (fun _ kv => (intOf kv + 1 - i).toNat)
      case atStart => exact ⟨i + 9, 0, _, by omega, Nat.le_refl _, rfl, rfl, by show _ = _; omega, (chunk_end ds i).symm⟩
      case round =>
        obtain ⟨k, t, q, hik, hki, rfl, rfl, hq, htk⟩ := hrel
        have ht9 : t < 1000000000 := by rw [htk.out]; exact chunk_lt HD.out hik
        by_cases hgo : i < k
        · obtain ⟨k, rfl⟩ : ∃ k', k = k' + 1 := ⟨k - 1, by omega⟩
          obtain rfl : q = (k : Int) := by have := hq.out; omega
          have hge : (i : Int) ≤ (k : Int) := by omega
          by_cases hkl : k < ds.length
          · obtain ⟨b, off, rfl, _, hcell⟩ := (HR.out.below hmem.out.below).at_ hkl
            obtain ⟨x, hx⟩ : ∃ x, x = ds[k] := ⟨_, rfl⟩
            rw [← hx] at hcell
            have hx10 : x < 10 := by rw [hx]; exact HD.out.get k hkl
            have HC : Hid (x + 10 * t = chunk ds i k) := by show _ = _; rw [chunk_in hkl (by omega), ← htk.out, hx]
            clear hx
            go_wp2
            go_round
            case rel => exact ⟨k, x + 10 * t, _, by omega, by omega, by go_num, rfl, rfl, HC.out⟩
            case measure => simp [intOf]; omega
          · have hkl' : ¬ (k : Int) < ((ds.length : Nat) : Int) := by omega
            have HC : Hid (10 * t = chunk ds i k) := by
              show _ = _
              rw [htk.out, chunk_out (by omega : ds.length ≤ k + 1), chunk_out (by omega : ds.length ≤ k)]
            go_wp2
            go_round
            case rel => exact ⟨k, 10 * t, _, by omega, by omega, by go_num, rfl, rfl, HC.out⟩
            case measure => simp [intOf]; omega
        · obtain rfl : k = i := by omega
          have hge : q < (k : Int) := by have := hq.out; omega
          have c3' := hmem.out.out_.c1
          have f3' := hmem.out.out_.f1
          have hsz := hmem.out.size
          have HM : Hid (j + 1 ≤ maxLen ∧ (j + 1) * 4 ≤ 140737488355328) := by have := HI9.out; constructor <;> (try unfold maxLen) <;> omega
          go_wp2_with (at_builtin; refine wpList_append_own _ rfl _ _ 22 rfl (w.heap.size + 3) 82 i0 (.int .u32 0) 1 4 Tryd.underlying22 hi hz0 hz1 hz2 rfl (by decide) _ _ _ rfl (hown.out.alloc _) ⟨wr.heap.size, 0, none⟩ 1 1 [.int .u32 (t : Int)] rfl rfl (one_cell _ _ _) (one_one _ _) HM.out.1 HM.out.2 (by simp; omega) ?_)
          intro v' w1 hown' hgrow _
          obtain ⟨A4, c4, rfl, hc4⟩ := own_row hown'
          have hm1 : FormMem w neg A ds.length c A3 j c3 w1 := (hmem.out.alloc _).grown hgrow (fun g hg => (hown.out.lt g hg).1)
          have HM1 := Lib.hid hm1
          have HO1 := Lib.hid hown'
          have d1 := hm1.out_.c1
          have g1 := hm1.out_.f1
          clear hgrow hown' hm1
          go_wp2
          go_roundw
          case rel => exact ⟨j + 1, outs ++ [t], A4, c4, by have := HI9.out; omega, by have := HI9.out; go_num, by have h := formAt_step hf.out (by have := HI9.out; omega) HD.out HT.out; rw [← HI9.out, ← htk.out] at h; exact h, HM1.out.set_ A4 (j + 1) c4, by have h := ownsRow_setCell_below HO1.out (a := ⟨w.heap.size + 1 + 1, 1, none⟩) (by show _ + 1 + 1 < _; omega) (.slice A4 (j + 1) c4); rw [u32s_append]; exact h⟩
          case measure => simp [intOf]; omega
    · have hlt' : ¬ (i : Int) < ((ds.length : Nat) : Int) := by omega
      have HE := Lib.hid (formAt_end (neg := neg) hf.out (by have := HI9.out; omega) (by have := HI9.out; omega) HN.out)
      have o0 := hmem.out.out_.c0
      have o1 := hmem.out.out_.c1
      have r0 := hmem.out.res.c0
      have r1 := hmem.out.res.c1
      have q0 := hmem.out.res.f0
      have q1 := hmem.out.res.f1
      have HA : Hid (A3 = A3) := rfl
      obtain ⟨hform, hright⟩ : FormAt ds j outs ∧ rightB neg outs = true := ⟨hf.out, HE.out.1⟩
      have HI3 : Hid (IsInt wr wr.heap.size m (.agg #[.bool neg, .slice A3 j c3]) z) := by
        obtain ⟨A', c', e, hc'⟩ := own_row hown.out
        injection e with e1 _ e3
        refine ⟨neg, A3, j, c3, outs, rfl, hf.out.1, Rd.of_own hown.out, by have := HI9.out; omega, by omega, HE.out.1, by rw [HE.out.2]; exact HZ.out⟩
      have HPUT := Lib.hid (HI3.out.put hmem.out.res neg A3 j c3)
      have d0 := (hmem.out.res.put neg A3 j c3).c0
      have d1 := (hmem.out.res.put neg A3 j c3).c1
      have HBL : Hid (Below w.heap.size w (put2 wr (w.heap.size + 1) neg A3 j c3)) := below_put hmem.out.below (by omega) _ _ _ _
      have HSZ := Lib.hid (put2_size wr (w.heap.size + 1) neg A3 j c3)
      clear HA hform hright
      go_wp2
      refine bodyPost_ret (v := .agg #[.bool neg, .slice A3 j c3]) (by simp [results, Tryd.results18, go_sem, d0, d1]) rfl ⟨neg, A3, j, c3, rfl, ?_, HBL⟩
      have h : IsInt (put2 wr (w.heap.size + 1) neg A3 j c3) (put2 wr (w.heap.size + 1) neg A3 j c3).heap.size m _ z := HPUT.out.more (by rw [HSZ.out]; exact Nat.le_refl _) (Nat.le_refl _)
      exact h
end Go.Proofs.YtpikbhcjgcbdfaaDoor.wh

/- Package whole: number, isDecimal. -/
namespace Go.Proofs.YtpikbhcjgcbdfaaDoor.wh
open Go.RowKit

/-- a byte's digit -/
def dg (b : UInt8) : Nat := b.toNat - 48
def isDg (b : UInt8) : Bool := decide (48 ≤ b.toNat) && decide (b.toNat ≤ 57)
/-- the number of decimal digits as they are written -/
def nval (l : List UInt8) : Nat := tval (l.reverse.map dg)
theorem nval_snoc (l : List UInt8) (b : UInt8) : nval (l ++ [b]) = dg b + 10 * nval l := by
  simp [nval, tval]
/-- decimal digits alone, at least one -/
def decL (l : List UInt8) : Bool := !l.isEmpty && l.all isDg
theorem dg_lt {b : UInt8} (h : isDg b = true) : dg b < 10 := by
  unfold isDg at h
  rw [Bool.and_eq_true] at h
  have := of_decide_eq_true h.2
  unfold dg
  omega
theorem nval_lt {l : List UInt8} (h : ∀ b ∈ l, isDg b = true) : nval l < 10 ^ l.length := by
  have ht : Ten (l.reverse.map dg) := fun d hd => by
    obtain ⟨b, hb, rfl⟩ := List.mem_map.1 hd
    exact dg_lt (h b (List.mem_reverse.1 hb))
  have := tval_lt ht
  simpa [nval] using this
theorem bytes_len (s : ByteArray) : s.data.toList.length = s.size := by rw [Array.length_toList]; rfl
theorem take_snoc (s : ByteArray) (k : Nat) (h : k < s.size) : s.data.toList.take (k + 1) = s.data.toList.take k ++ [s[k]] := by
  rw [List.take_succ_eq_append_getElem (by simpa using h)]; rfl
theorem byte_mem (s : ByteArray) (k : Nat) (h : k < s.size) : s[k] ∈ s.data.toList := by
  have : s[k] = s.data.toList[k]'(by simpa using h) := rfl
  rw [this]
  exact List.getElem_mem _

set_option maxRecDepth 100000 in
set_option maxHeartbeats 1000000 in
theorem number_any (s : ByteArray) (w : World) (hs : s.size ≤ 9) (hd : ∀ b ∈ s.data.toList, isDg b = true) :
    Calls Tryd.prog 82 #[.string s] w fun e w' => e = .returned (.int .u32 (nval s.data.toList : Nat)) ∧ w = w' := by
  have HD := Lib.hid hd
  clear hd
  go_enter Tryd.func82, Tryd.ntmps82
  go_wp2
  go_loop [3, 7] (fun u i => ∃ (k n : Nat), k ≤ s.size ∧ u = .int .u32 n ∧ i = .int .i64 k ∧ Hid (n = nval (s.data.toList.take k))) (fun _ i => s.size - (intOf i).toNat)
  case atStart => exact ⟨0, 0, Nat.zero_le _, rfl, rfl, rfl⟩
  case round =>
    obtain ⟨k, n, hk, rfl, rfl, hn⟩ := hrel
    by_cases hlt : k < s.size
    · have hdk := HD.out _ (byte_mem s k hlt)
      have HT := Lib.hid (take_snoc s k hlt)
      have hlim : n < 100000000 := by
        have h1 := nval_lt (l := s.data.toList.take k) (fun b hb => HD.out b (List.mem_of_mem_take hb))
        have h2 : 10 ^ (s.data.toList.take k).length ≤ 10 ^ 8 := Nat.pow_le_pow_right (by omega) (by rw [List.length_take]; omega)
        have := hn.out
        omega
      obtain ⟨x, hx⟩ : ∃ x : Nat, x = s[k].toNat := ⟨_, rfl⟩
      have hb1 : (48 : Int) ≤ ((s[k].toNat : Nat) : Int) ∧ ((s[k].toNat : Nat) : Int) ≤ 57 := by
        unfold isDg at hdk
        rw [Bool.and_eq_true] at hdk
        have h1 := of_decide_eq_true hdk.1
        have h2 := of_decide_eq_true hdk.2
        omega
      have HN : Hid (n * 10 + (s[k].toNat - 48) = nval (s.data.toList.take (k + 1))) := by
        show _ = _
        rw [HT.out, nval_snoc, ← hn.out]
        show _ = (s[k].toNat - 48) + 10 * n
        omega
      obtain ⟨hb2, hb3⟩ := hb1
      clear hdk hx
      go_wp2
      go_round
      case rel => exact ⟨k + 1, n * 10 + (s[k].toNat - 48), by omega, by go_num, by go_num, HN.out⟩
      case measure => simp [intOf]; omega
    · have HE : Hid (n = nval s.data.toList) := by
        have h := hn.out
        rw [List.take_of_length_le (by simp; omega)] at h
        exact h
      go_wp2
      go_ret
      exact ⟨ret_int (by rw [HE.out]), rfl⟩

set_option maxRecDepth 100000 in
set_option maxHeartbeats 1000000 in
theorem isDecimal_any (s : ByteArray) (w : World) (hs : s.size ≤ 1000) :
    Calls Tryd.prog 81 #[.string s] w fun e w' => e = .returned (.bool (decL s.data.toList)) ∧ w = w' := by
  by_cases h0 : s.size < 1
  · have HE : Hid (decL s.data.toList = false) := by
      have h1 : s.data.toList.length = 0 := by rw [bytes_len]; omega
      have h2 := List.eq_nil_of_length_eq_zero h1
      show decL _ = false
      rw [h2]
      rfl
    have h0' : ((s.size : Nat) : Int) < 1 := by omega
    go_enter Tryd.func81, Tryd.ntmps81
    go_wp2
    go_ret
    exact ⟨ret_bool HE.out.symm, rfl⟩
  · have h0' : ¬ ((s.size : Nat) : Int) < 1 := by omega
    have h1' : ¬ (10000 : Int) < ((s.size : Nat) : Int) := by omega
    have HNE : Hid (s.data.toList.isEmpty = false) := by
      show List.isEmpty _ = false
      rw [List.isEmpty_eq_false_iff]
      intro e
      have h2 := bytes_len s
      rw [e] at h2
      simp only [List.length_nil] at h2
      omega
    go_enter Tryd.func81, Tryd.ntmps81
    go_wp2
    go_loop [14] (fun i => ∃ k : Nat, k ≤ s.size ∧ i = .int .i64 k ∧ Hid ((s.data.toList.take k).all isDg = true)) (fun i => s.size - (intOf i).toNat)
    case atStart => exact ⟨0, Nat.zero_le _, rfl, rfl⟩
    case round =>
      obtain ⟨k, hk, rfl, ha⟩ := hrel
      by_cases hlt : k < s.size
      · have HT := Lib.hid (take_snoc s k hlt)
        have HM := Lib.hid (byte_mem s k hlt)
        by_cases hlo : s[k].toNat < 48
        · have hlo' : ((s[k].toNat : Nat) : Int) < 48 := by omega
          have HE : Hid (decL s.data.toList = false) := by
            show decL _ = false
            unfold decL
            rw [HNE.out, Bool.not_false, Bool.true_and, List.all_eq_false]
            exact ⟨_, HM.out, by unfold isDg; simp; omega⟩
          clear hlo
          go_wp2
          go_ret
          exact ⟨ret_bool HE.out.symm, rfl⟩
        · have hlo' : ¬ ((s[k].toNat : Nat) : Int) < 48 := by omega
          by_cases hhi : 57 < s[k].toNat
          · have hhi' : (57 : Int) < ((s[k].toNat : Nat) : Int) := by omega
            have HE : Hid (decL s.data.toList = false) := by
              show decL _ = false
              unfold decL
              rw [HNE.out, Bool.not_false, Bool.true_and, List.all_eq_false]
              exact ⟨_, HM.out, by unfold isDg; simp; omega⟩
            clear hlo hhi
            go_wp2
            go_ret
            exact ⟨ret_bool HE.out.symm, rfl⟩
          · have hhi' : ¬ (57 : Int) < ((s[k].toNat : Nat) : Int) := by omega
            have HE : Hid ((s.data.toList.take (k + 1)).all isDg = true) := by
              show List.all _ _ = true
              rw [HT.out, List.all_append, ha.out]
              simp [isDg]
              omega
            clear hlo hhi
            go_wp2
            go_round
            case rel => exact ⟨k + 1, by omega, by go_num, HE.out⟩
            case measure => simp [intOf]; omega
      · have HE : Hid (decL s.data.toList = true) := by
          have h := ha.out
          rw [List.take_of_length_le (by simp; omega)] at h
          show decL _ = true
          unfold decL
          rw [HNE.out, h]
          rfl
        go_wp2
        go_ret
        exact ⟨ret_bool HE.out.symm, rfl⟩
end Go.Proofs.YtpikbhcjgcbdfaaDoor.wh

/- Package whole: Parse. -/
namespace Go.Proofs.YtpikbhcjgcbdfaaDoor.wh
open Go.RowKit

/-- whether a text begins with a sign, and what stands behind it -/
def negOf : List UInt8 → Bool
  | b :: _ => b == 45
  | [] => false
def bodyOf : List UInt8 → List UInt8
  | b :: t => if b == 45 then t else b :: t
  | [] => []
def okOf (l : List UInt8) : Bool := decL (bodyOf l)
def zOf (l : List UInt8) : Int := if okOf l then (if negOf l then -(nval (bodyOf l) : Int) else (nval (bodyOf l) : Int)) else 0
theorem body_len (l : List UInt8) : (bodyOf l).length ≤ l.length := by
  cases l with
  | nil => simp [bodyOf]
  | cons b t => simp only [bodyOf]; split <;> simp

theorem cut_minus (s : ByteArray) (w : World) :
    Calls Tryd.prog 80 #[.string s, .string ⟨#[45]⟩] w fun e w' => ∃ (t : ByteArray) (b : Bool), e = .returned (.tuple #[.string t, .bool b]) ∧ Hid (t.data.toList = bodyOf s.data.toList) ∧ Hid (b = negOf s.data.toList) ∧ w = w' := by
  refine (Tryd.strings_CutPrefix s ⟨#[45]⟩ w).mono ?_
  rintro e w' ⟨rfl, rfl⟩
  have key : ∀ l : List UInt8, Lib.trimPrefix l [45] = bodyOf l ∧ Lib.hasPrefix l [45] = negOf l := by
    intro l
    cases l with
    | nil => exact ⟨rfl, rfl⟩
    | cons b t =>
      have e : Lib.hasPrefix (b :: t) [45] = (b == 45) := by
        simp only [Lib.hasPrefix, List.isPrefixOf, Bool.and_true]
        exact Bool.beq_comm
      refine ⟨?_, e⟩
      unfold Lib.trimPrefix
      rw [e]
      by_cases h : (b == 45) = true
      · simp [bodyOf, h]
      · simp [bodyOf, h]
  exact ⟨_, _, rfl, (key _).1, (key _).2, rfl⟩

theorem extract_bytes (t : ByteArray) (lo hi : Nat) : (t.extract lo hi).data.toList = (t.data.toList.take hi).drop lo := by
  rw [ByteArray.data_extract, Array.toList_extract, List.extract_eq_take_drop, List.drop_take]

/-- after j digits of the base 10^9 -/
def ParseAt (ds : List Nat) (j : Nat) (outs : List Nat) : Prop := outs.length = j ∧ Dig outs ∧ val outs = tval (ds.take (9 * j))
theorem parseAt_step {ds outs : List Nat} {j : Nat} (h : ParseAt ds j outs) (hj : 9 * j < ds.length) (hd : Ten ds) : ParseAt ds (j + 1) (outs ++ [chunk ds (9 * j) (9 * j)]) := by
  obtain ⟨h1, h2, h3⟩ := h
  have hc := chunk_lt hd (Nat.le_refl (9 * j))
  refine ⟨by simp [h1], h2.append (Dig.cons hc Dig.nil), ?_⟩
  rw [val_snoc, h1, h3, pow9]
  have e : ds.take (9 * (j + 1)) = ds.take (9 * j) ++ (ds.take (9 * j + 9)).drop (9 * j) := by
    have e1 : 9 * (j + 1) = 9 * j + 9 := by omega
    rw [e1]
    have := List.take_append_drop (9 * j) (ds.take (9 * j + 9))
    rw [List.take_take, Nat.min_eq_left (by omega)] at this
    exact this.symm
  rw [e, tval_append, List.length_take, Nat.min_eq_left (by omega)]
  rfl
theorem nval_chunk (l : List UInt8) (j hi : Nat) (hh : hi + 9 * j = l.length) : nval ((l.take hi).drop (hi - 9)) = chunk (l.reverse.map dg) (9 * j) (9 * j) := by
  unfold nval chunk
  rw [← List.map_take, ← List.map_drop]
  congr 2
  rw [List.take_reverse, List.drop_reverse, List.drop_take]
  congr 1
  rw [List.length_drop]
  congr 1
  · omega
  · congr 1
    omega
theorem ten_rev {l : List UInt8} (h : ∀ b ∈ l, isDg b = true) : Ten (l.reverse.map dg) := fun d hd => by
  obtain ⟨b, hb, rfl⟩ := List.mem_map.1 hd
  exact dg_lt (h b (List.mem_reverse.1 hb))

def GivesParse (W : World) (l : List UInt8) (e : Ending) (w' : World) : Prop :=
  ∃ neg A n c, e = .returned (.tuple #[.agg #[.bool neg, .slice A n c], .bool (okOf l)]) ∧ Hid (IsInt w' w'.heap.size 120 (.agg #[.bool neg, .slice A n c]) (zOf l)) ∧ Hid (Below W.heap.size W w')

theorem run_make_cap {z : Int} {n : Nat} (hz : z = (n : Int)) (hn : n ≤ 1000000) (W : World) :
    (Instr.makeSlice 22 (.int .i64 0) (.int .i64 z)).run Tryd.prog W = .ok (.slice (some ⟨W.heap.size, 0, none⟩) 0 n) (W.alloc (.cells (zeros n) 82)) := by
  obtain ⟨i0, hi, hz0, hz1, hz2⟩ := info_parts info_u32
  subst hz
  have h := run_make (P := Tryd.prog) W 22 82 i0 _ Tryd.underlying22 hi hz0 .i64 .i64 0 n (by omega) (by omega) (by rw [hz2]; omega) (by omega)
  rw [h]
  simp only [Int.toNat_natCast, hz1, Nat.mul_one]
  rw [show (Value.int .u32 0).cells = #[.int .u32 0] from rfl, made_zeros]
  rfl

set_option maxRecDepth 100000 in
set_option maxHeartbeats 2000000 in
theorem parse_any (s : ByteArray) (w : World) (hs : s.size ≤ 1000) :
    Calls Tryd.prog 30 #[.string s] w fun e w' => GivesParse w s.data.toList e w' := by
  obtain ⟨i0, hi, hz0, hz1, hz2⟩ := info_parts info_u32
  go_enter Tryd.func30, Tryd.ntmps30
  go_wp2_with fail
  refine (cut_minus s _).mono ?_
  rintro e w1 ⟨t, neg, rfl, ht, hneg, rfl⟩
  have htl : t.size ≤ 1000 := by
    have h1 := body_len s.data.toList
    rw [← ht.out, bytes_len, bytes_len] at h1
    omega
  go_wp2_with fail
  refine (isDecimal_any t _ htl).mono ?_
  rintro e w1 ⟨rfl, rfl⟩
  cases hok : decL t.data.toList with
  | false =>
    have HOK : Hid (okOf s.data.toList = false) := by show okOf _ = false; unfold okOf; rw [← ht.out]; exact hok
    clear hok
    have hz : Hid (zOf s.data.toList = 0) := by show zOf _ = 0; unfold zOf; rw [if_neg (by rw [HOK.out]; simp)]
    go_wp2
    refine bodyPost_ret (v := .tuple #[.agg #[.bool false, .slice none 0 0], .bool false]) (by simp [results, Tryd.results30, go_sem]) rfl ⟨false, none, 0, 0, by rw [HOK.out], by rw [hz.out]; exact isInt_zero _ _ _, (Below.refl _ _).alloc (Nat.le_refl _) _⟩
  | true =>
    have HOK : Hid (okOf s.data.toList = true) := by show okOf _ = true; unfold okOf; rw [← ht.out]; exact hok
    have hmk := run_make_cap (z := (t.size : Int) / 9 + 1) (n := t.size / 9 + 1) (by omega) (by omega)
    clear hok
    have HAL : Hid (∀ b ∈ t.data.toList, isDg b = true) := by
      have h := HOK.out
      unfold okOf at h
      rw [← ht.out] at h
      unfold decL at h
      rw [Bool.and_eq_true] at h
      exact List.all_eq_true.1 h.2
    have HX : Hid (Box ((w.alloc (.cells #[.bool false, .slice none 0 0] 24)).alloc (.cells (zeros (t.size / 9 + 1)) 82)) w.heap.size false none 0 0) := (Box.new _ _ _ _ _).alloc _
    have HB : Hid (Below w.heap.size w ((w.alloc (.cells #[.bool false, .slice none 0 0] 24)).alloc (.cells (zeros (t.size / 9 + 1)) 82))) := ((Below.refl _ _).alloc (Nat.le_refl _) _).alloc (by simp) _
    have HOWN : Hid (((w.alloc (.cells #[.bool false, .slice none 0 0] 24)).alloc (.cells (zeros (t.size / 9 + 1)) 82)).ownsRow (w.heap.size + 1) 82 1 (.slice (some ⟨w.heap.size + 1, 0, none⟩) 0 (t.size / 9 + 1)) 0 (u32s [])) := by
      have h := World.ownsRow_made (w.alloc (.cells #[.bool false, .slice none 0 0] 24)) (base := w.heap.size + 1) (e := 82) (size := 1) (zeros (t.size / 9 + 1)) (t.size / 9 + 1) (by simp) (by unfold maxLen; omega) (by simp [zeros, u32s])
      rwa [World.size_alloc] at h
    have HL : Hid (t.data.toList.length = t.size) := bytes_len t
    go_wp2
    go_loopw [6, 7] (fun dv ev wr => (∃ (j : Nat) (outs : List Nat) (A3 : Option Addr) (c3 : Nat) (z : Int), 9 * j < t.size + 9 ∧ ev = .int .i64 z ∧ Hid (z = (t.size : Int) - 9 * (j : Int)) ∧ dv = .slice A3 j c3 ∧ Hid (ParseAt (t.data.toList.reverse.map dg) j outs) ∧ Hid (wr.ownsRow (w.heap.size + 1) 82 1 (.slice A3 j c3) j (u32s outs))) ∧ Hid (Box wr w.heap.size false none 0 0) ∧ Hid (Below w.heap.size w wr)) (fun _ ev _ => (intOf ev).toNat)
    case atStart => exact ⟨⟨0, [], _, _, _, by omega, rfl, by show _ = _; omega, rfl, ⟨rfl, Dig.nil, by simp [val, tval]⟩, HOWN⟩, HX, HB⟩
    case round =>
      obtain ⟨⟨j, outs, A3, c3, z, hj, rfl, hz, rfl, hat, hown⟩, hx, hb⟩ := hrel
      by_cases hgo : 9 * j < t.size
      · obtain ⟨hi', hhi⟩ : ∃ hi' : Nat, z = (hi' : Int) := ⟨t.size - 9 * j, by have := hz.out; omega⟩
        subst hhi
        have hh1 : 0 < hi' := by have := hz.out; omega
        have hh2 : hi' ≤ t.size := by have := hz.out; omega
        have hh3 : (0 : Int) < (hi' : Int) := by omega
        have HH : Hid (hi' + 9 * j = t.data.toList.length) := by have := hz.out; have := HL.out; show _ = _; omega
        have hgs := hx.out.lt
        have HM : Hid (j + 1 ≤ maxLen ∧ (j + 1) * 4 ≤ 140737488355328) := by constructor <;> (try unfold maxLen) <;> omega
        have hmax : (max 0 ((hi' : Int) - 9)).toNat = hi' - 9 := by omega
        have HBY : Hid ((t.extract (max 0 ((hi' : Int) - 9)).toNat hi').data.toList = (t.data.toList.take hi').drop (hi' - 9)) := by show _ = _; rw [hmax, extract_bytes]
        have HSZ : Hid ((t.extract (max 0 ((hi' : Int) - 9)).toNat hi').size ≤ 9) := by
          show _ ≤ 9
          rw [← bytes_len, HBY.out, List.length_drop, List.length_take]
          omega
        have HDG : Hid (∀ b ∈ (t.extract (max 0 ((hi' : Int) - 9)).toNat hi').data.toList, isDg b = true) := by
          intro b hb
          rw [HBY.out] at hb
          exact HAL.out b (List.mem_of_mem_take (List.mem_of_mem_drop hb))
        have HJL : Hid (9 * j < (t.data.toList.reverse.map dg).length) := by show _ < _; rw [List.length_map, List.length_reverse, HL.out]; exact hgo
        obtain ⟨r, hr⟩ : ∃ r, r = chunk (t.data.toList.reverse.map dg) (9 * j) (9 * j) := ⟨_, rfl⟩
        have HR := Lib.hid hr
        have hr9 : r < 1000000000 := by rw [hr]; exact chunk_lt (ten_rev HAL.out) (Nat.le_refl _)
        have HNV : Hid (nval (t.extract (max 0 ((hi' : Int) - 9)).toNat hi').data.toList = r) := by show nval _ = r; rw [HBY.out, nval_chunk _ j hi' HH.out, ← hr]
        clear hmax hr
        go_wp2_with fail
        refine (number_any _ _ HSZ.out HDG.out).mono ?_
        rw [HNV.out]
        rintro e w2 ⟨rfl, rfl⟩
        go_wp2_with (at_builtin; refine wpList_append_own _ rfl _ _ 22 rfl (w.heap.size + 1) 82 i0 (.int .u32 0) 1 4 Tryd.underlying22 hi hz0 hz1 hz2 rfl (by decide) _ _ _ rfl (hown.out.alloc _) ⟨wr.heap.size, 0, none⟩ 1 1 [.int .u32 (r : Int)] rfl rfl (one_cell _ _ _) (one_one _ _) HM.out.1 HM.out.2 (by simp; omega) ?_)
        intro v' w3 hown' hgrow _
        obtain ⟨A4, c4, rfl, hc4⟩ := own_row hown'
        have HX3 : Hid (Box w3 w.heap.size false none 0 0) := Blk.grown (hx.out.alloc _) hgrow (fun e => by have := (hown.out.lt _ e.symm).1; omega)
        have HB3 : Hid (Below w.heap.size w w3) := (hb.out.alloc hb.out.size _).grown hgrow (by simp; omega) (fun g hg => by have := (hown.out.lt g hg).1; omega)
        have HO3 : Hid (w3.ownsRow (w.heap.size + 1) 82 1 (.slice A4 (j + 1) c4) (j + 1) (u32s (outs ++ [r]))) := by show World.ownsRow _ _ _ _ _ _ _; rw [u32s_append]; exact hown'
        clear hgrow hown'
        go_wp2
        go_roundw
        case rel => exact ⟨⟨j + 1, outs ++ [r], A4, c4, _, by omega, rfl, by have := hz.out; show _ = _; omega, rfl, by have h := parseAt_step hat.out HJL.out (ten_rev HAL.out); rw [← HR.out] at h; exact h, HO3⟩, HX3, HB3⟩
        case measure => simp [intOf]; omega
      · have hgo' : z ≤ 0 := by have := hz.out; omega
        obtain ⟨A', c', e', hc'⟩ := own_row hown.out
        have hc3 : j ≤ c3 := by injection e' with _ _ e3; omega
        have HV : Hid (val outs = nval t.data.toList) := by
          have h := hat.out.2.2
          rw [List.take_of_length_le (by rw [List.length_map, List.length_reverse, HL.out]; omega)] at h
          exact h
        have HRD : Hid (Rd wr wr.heap.size A3 outs) := Rd.of_own hown.out
        have HZO : Hid (zval neg outs = zOf s.data.toList) := by
          show _ = _
          unfold zOf zval
          rw [if_pos HOK.out, HV.out, ht.out, ← hneg.out]
        clear e'
        go_wp2_with fail
        refine (signed_any neg A3 j c3 outs wr hat.out.1 (by have := hat.out.1; unfold maxLen; omega) (by have := hat.out.1; omega) HRD.out hat.out.2.1).mono ?_
        rintro e w2 ⟨v2, rfl, hi2, hb2⟩
        obtain ⟨neg2, A2, n2, c2, ds2, rfl, k1, k2, k3, k4, k5, k6⟩ := hi2
        have HI2 : Hid (IsInt w2 wr.heap.size 120 (.agg #[.bool neg2, .slice A2 n2 c2]) (zOf s.data.toList)) := ⟨neg2, A2, n2, c2, ds2, rfl, k1, k2, by omega, k4, k5, by rw [k6]; exact HZO.out⟩
        clear k1 k2 k3 k4 k5 k6
        have hx2 := Box.over hx.out hb2
        have e0 := hx2.c0
        have e1 := hx2.c1
        have f0 := hx2.f0
        have f1 := hx2.f1
        have HPUT := Lib.hid (HI2.out.put hx2 neg2 A2 n2 c2)
        have HB2 : Hid (Below w.heap.size w (put2 w2 w.heap.size neg2 A2 n2 c2)) := below_put (hb.out.trans (hb2.mono hb.out.size)) (Nat.le_refl _) _ _ _ _
        have d0 := (hx2.put neg2 A2 n2 c2).c0
        have d1 := (hx2.put neg2 A2 n2 c2).c1
        have HSZ : Hid (wr.heap.size ≤ (put2 w2 w.heap.size neg2 A2 n2 c2).heap.size) := by show _ ≤ _; rw [put2_size]; exact hb2.size
        clear hx2
        go_wp2
        refine bodyPost_ret (v := .tuple #[.agg #[.bool neg2, .slice A2 n2 c2], .bool true]) (by simp [results, Tryd.results30, go_sem, d0, d1]) rfl ⟨neg2, A2, n2, c2, by rw [HOK.out], ?_, HB2⟩
        have h : IsInt (put2 w2 w.heap.size neg2 A2 n2 c2) (put2 w2 w.heap.size neg2 A2 n2 c2).heap.size 120 _ (zOf s.data.toList) := HPUT.out.more HSZ.out (Nat.le_refl _)
        exact h
end Go.Proofs.YtpikbhcjgcbdfaaDoor.wh

/- The document's answer Parse. -/
namespace Go.Proofs.YtpikbhcjgcbdfaaDoor.wh
open Go.RowKit

def GivesRefParse (W : World) (l : List UInt8) (e : Ending) (w' : World) : Prop :=
  ∃ neg A n c, e = .returned (.tuple #[.agg #[.bool neg, .slice A n c], .bool (okOf l)]) ∧ Hid (okOf l = true → IsNum w' w'.heap.size 1000 (.agg #[.bool neg, .slice A n c]) (zOf l)) ∧ Hid (Below W.heap.size W w')

/-- the body's bytes within the text -/
def BodyAt (s : ByteArray) (body : List UInt8) (a : Nat) : Prop := body.length + a = s.size ∧ ∀ k (h : k < body.length), ∃ h2 : k + a < s.size, s[k + a]'h2 = body[k]
theorem bytes_get (s : ByteArray) (k : Nat) (h : k < s.size) : s[k] = s.data.toList[k]'(by rw [bytes_len]; exact h) := rfl
theorem body_sign {s : ByteArray} (h : 0 < s.size) (hb : s[0].toNat = 45) : negOf s.data.toList = true ∧ BodyAt s (bodyOf s.data.toList) 1 := by
  have hl := bytes_len s
  have key : ∀ k (h : k < s.size), s.data.toList[k]? = some s[k] := fun k h => by
    rw [List.getElem?_eq_getElem (by rw [bytes_len]; exact h)]
    rfl
  have e0 := key 0 h
  obtain ⟨l, hd⟩ : ∃ l, l = s.data.toList := ⟨_, rfl⟩
  rw [← hd] at hl e0 key ⊢
  cases l with
  | nil => simp at e0
  | cons b t =>
    have hb2 : b = 45 := by
      have : b = s[0] := by simpa using e0
      rw [this]
      exact UInt8.toNat_inj.1 (by rw [hb]; rfl)
    subst hb2
    simp only [List.length_cons] at hl
    refine ⟨rfl, ⟨by simp only [bodyOf]; simpa using hl, fun k hk => ?_⟩⟩
    have hk' : k < t.length := by simpa [bodyOf] using hk
    refine ⟨by omega, ?_⟩
    have e := key (k + 1) (by omega)
    rw [List.getElem?_cons_succ, List.getElem?_eq_getElem hk'] at e
    have := Option.some.inj e
    simp [bodyOf, this]
theorem body_plain {s : ByteArray} (h : s.size = 0 ∨ ∃ h : 0 < s.size, s[0].toNat ≠ 45) : negOf s.data.toList = false ∧ BodyAt s (bodyOf s.data.toList) 0 := by
  have hl := bytes_len s
  have hbody : bodyOf s.data.toList = s.data.toList ∧ negOf s.data.toList = false := by
    rcases h with h | ⟨h, hb⟩
    · have : s.data.toList = [] := List.eq_nil_of_length_eq_zero (by omega)
      rw [this]
      exact ⟨rfl, rfl⟩
    · have e0 : s.data.toList[0]? = some s[0] := by
        rw [List.getElem?_eq_getElem (by rw [bytes_len]; exact h)]
        rfl
      obtain ⟨l, hd⟩ : ∃ l, l = s.data.toList := ⟨_, rfl⟩
      rw [← hd] at hl e0 ⊢
      cases l with
      | nil => simp at e0
      | cons b t =>
        have hb1 : b = s[0] := by simpa using e0
        have hb2 : (b == 45) = false := by
          rw [beq_eq_false_iff_ne]
          intro e
          exact hb (by rw [← hb1, e]; rfl)
        exact ⟨by simp [bodyOf, hb2], by simp [negOf, hb2]⟩
  refine ⟨hbody.2, ?_⟩
  rw [hbody.1]
  exact ⟨by omega, fun k hk => ⟨by omega, rfl⟩⟩
theorem rev_step {l : List UInt8} {k : Nat} (hk : k < l.length) : (l.drop k).reverse.map dg = (l.drop (k + 1)).reverse.map dg ++ [dg l[k]] := by
  rw [List.drop_eq_getElem_cons hk, List.reverse_cons, List.map_append]
  rfl
theorem dec_bad {l : List UInt8} {k : Nat} (hk : k < l.length) (h : isDg l[k] = false) : decL l = false := by
  unfold decL
  rw [Bool.and_eq_false_iff]
  right
  rw [List.all_eq_false]
  exact ⟨_, List.getElem_mem hk, by rw [h]; simp⟩
theorem dec_good {l : List UInt8} (h : ∀ b ∈ l, isDg b = true) : decL l = decide (0 < l.length) := by
  unfold decL
  rw [List.all_eq_true.2 h, Bool.and_true]
  cases l <;> simp

set_option maxRecDepth 100000 in
set_option maxHeartbeats 4000000 in
theorem refParse_any (s : ByteArray) (w : World) (hs : s.size ≤ 1000) :
    Calls Tryd.prog 31 #[.string s] w fun e w' => GivesRefParse w s.data.toList e w' := by
  obtain ⟨i0, hi, hz0, hz1, hz2⟩ := info_parts info_int
  have HB : Hid (Below w.heap.size w ((w.alloc (.cells #[.bool false, .slice none 0 0] 29)).alloc (.cells #[] 3))) := ((Below.refl _ _).alloc (Nat.le_refl _) _).alloc (by simp) _
  have HX : Hid (BoxN ((w.alloc (.cells #[.bool false, .slice none 0 0] 29)).alloc (.cells #[] 3)) w.heap.size false none 0 0) := (BoxN.new _ _ _ _ _).alloc _
  have HOWN : Hid (((w.alloc (.cells #[.bool false, .slice none 0 0] 29)).alloc (.cells #[] 3)).ownsRow (w.heap.size + 1) 3 1 (.slice (some ⟨w.heap.size + 1, 0, none⟩) 0 0) 0 (i64s [])) := by
    have h := World.ownsRow_made (w.alloc (.cells #[.bool false, .slice none 0 0] 29)) (base := w.heap.size + 1) (e := 3) (size := 1) #[] 0 (by simp) (by unfold maxLen; omega) rfl
    rwa [World.size_alloc] at h
  obtain ⟨body, hbody⟩ : ∃ body, body = bodyOf s.data.toList := ⟨_, rfl⟩
  have HOK : Hid (okOf s.data.toList = decL body) := by show _ = _; rw [hbody]; rfl
  by_cases hsg : ∃ h : 0 < s.size, s[0].toNat = 45
  · obtain ⟨hpos, h45⟩ := hsg
    have HS := Lib.hid (body_sign hpos h45)
    have hp1 : (0 : Int) < ((s.size : Nat) : Int) := by omega
    have hp2 : ((s[0].toNat : Int) == 45) = true := by rw [beq_iff_eq]; omega
    have HBA : Hid (BodyAt s body 1) := by show BodyAt _ _ _; rw [hbody]; exact HS.out.2
    have HNEG : Hid (negOf s.data.toList = true) := HS.out.1
    have HBODY := Lib.hid hbody
    clear h45 hbody HS
    go_enter Tryd.func31, Tryd.ntmps31
    go_wp2
    go_loopw [6, 7] (fun dv iv wr => (∃ (k : Nat) (z : Int) (A3 : Option Addr) (c3 : Nat), k ≤ body.length ∧ iv = .int .i64 z ∧ Hid (z = (k : Int) + 1 - 1) ∧ dv = .slice A3 (body.length - k) c3 ∧ Hid (∀ b ∈ body.drop k, isDg b = true) ∧ Hid (wr.ownsRow (w.heap.size + 1) 3 1 (.slice A3 (body.length - k) c3) (body.length - k) (i64s ((body.drop k).reverse.map dg)))) ∧ Hid (BoxN wr w.heap.size false none 0 0) ∧ Hid (Below w.heap.size w wr)) (fun _ iv _ => (intOf iv + 1).toNat)
    case atStart => exact ⟨⟨body.length, _, _, _, Nat.le_refl _, rfl, by have := HBA.out.1; show _ = _; omega, by rw [Nat.sub_self], (fun b hb => by rw [List.drop_length] at hb; cases hb), by rw [List.drop_length, Nat.sub_self]; exact HOWN⟩, HX, HB⟩
    case round =>
      obtain ⟨⟨k, z, A3, c3, hk, rfl, hz, rfl, hdig, hown⟩, hx, hb⟩ := hrel
      cases k with
      | succ k =>
        obtain rfl : z = ((k + 1 : Nat) : Int) := by have := hz.out; omega
        obtain ⟨hin, heq⟩ := HBA.out.2 k (by omega)
        have hin' : k + 1 < s.size := hin
        have HEQ : Hid (s[k + 1] = body[k]) := heq
        clear heq hin
        have hgs := hx.out.lt
        by_cases hlo : s[k + 1].toNat < 48
        · have hlo' : ((s[k + 1].toNat : Nat) : Int) < 48 := by omega
          have HBAD : Hid (okOf s.data.toList = false) := by
            show okOf _ = false
            rw [HOK.out]
            refine dec_bad (k := k) (by omega) ?_
            rw [← HEQ.out]
            unfold isDg
            simp
            omega
          have c0 := hx.out.c0
          have c1 := hx.out.c1
          have f0 := hx.out.f0
          have f1 := hx.out.f1
          have d0 := (hx.out.put false none 0 0).c0
          have d1 := (hx.out.put false none 0 0).c1
          have HBL : Hid (Below w.heap.size w (put2 wr w.heap.size false none 0 0)) := below_put hb.out (Nat.le_refl _) _ _ _ _
          clear hlo
          go_wp2
          (try simp only [Exit.inBlock, Exit.then])
          exact bodyPost_ret (v := .tuple #[.agg #[.bool false, .slice none 0 0], .bool false]) (by simp [results, Tryd.results31, go_sem, d0, d1]) rfl ⟨false, none, 0, 0, by rw [HBAD.out], (fun h => by rw [HBAD.out] at h; cases h), HBL⟩
        · have hlo' : ¬ ((s[k + 1].toNat : Nat) : Int) < 48 := by omega
          by_cases hhi : 57 < s[k + 1].toNat
          · have hhi' : (57 : Int) < ((s[k + 1].toNat : Nat) : Int) := by omega
            have HBAD : Hid (okOf s.data.toList = false) := by
              show okOf _ = false
              rw [HOK.out]
              refine dec_bad (k := k) (by omega) ?_
              rw [← HEQ.out]
              unfold isDg
              simp
              omega
            have c0 := hx.out.c0
            have c1 := hx.out.c1
            have f0 := hx.out.f0
            have f1 := hx.out.f1
            have d0 := (hx.out.put false none 0 0).c0
            have d1 := (hx.out.put false none 0 0).c1
            have HBL : Hid (Below w.heap.size w (put2 wr w.heap.size false none 0 0)) := below_put hb.out (Nat.le_refl _) _ _ _ _
            clear hlo hhi
            go_wp2
            (try simp only [Exit.inBlock, Exit.then])
            exact bodyPost_ret (v := .tuple #[.agg #[.bool false, .slice none 0 0], .bool false]) (by simp [results, Tryd.results31, go_sem, d0, d1]) rfl ⟨false, none, 0, 0, by rw [HBAD.out], (fun h => by rw [HBAD.out] at h; cases h), HBL⟩
          · have hhi' : ¬ (57 : Int) < ((s[k + 1].toNat : Nat) : Int) := by omega
            have HISD : Hid (isDg body[k] = true) := by
              show isDg _ = true
              rw [← HEQ.out]
              unfold isDg
              simp
              omega
            have HDGV : Hid ((s[k + 1].toNat : Int) - 48 = ((dg body[k] : Nat) : Int)) := by
              show _ = _
              rw [← HEQ.out]
              unfold dg
              omega
            have HKL : Hid (body.length - k = body.length - (k + 1) + 1) := by show _ = _; omega
            have HM : Hid (body.length - (k + 1) + 1 ≤ maxLen ∧ (body.length - (k + 1) + 1) * 8 ≤ 140737488355328) := by have := HBA.out.1; constructor <;> (try unfold maxLen) <;> omega
            clear hlo hhi
            go_wp2_with (at_builtin; refine wpList_append_own _ rfl _ _ 27 rfl (w.heap.size + 1) 3 i0 (.int .i64 0) 1 8 Tryd.underlying27 hi hz0 hz1 hz2 rfl (by decide) _ _ _ rfl (hown.out.alloc _) ⟨wr.heap.size, 0, none⟩ 1 1 [.int .i64 ((s[k + 1].toNat : Int) - 48)] rfl rfl (one_cell _ _ _) (one_one _ _) HM.out.1 HM.out.2 (by simp; omega) ?_)
            intro v' w3 hown' hgrow _
            obtain ⟨A4, c4, rfl, hc4⟩ := own_row hown'
            have HX3 : Hid (BoxN w3 w.heap.size false none 0 0) := (hx.out.alloc _).grown hgrow (fun e => by have := (hown.out.lt _ e.symm).1; omega)
            have HB3 : Hid (Below w.heap.size w w3) := (hb.out.alloc hb.out.size _).grown hgrow (by simp; omega) (fun g hg => by have := (hown.out.lt g hg).1; omega)
            have HO3 : Hid (w3.ownsRow (w.heap.size + 1) 3 1 (.slice A4 (body.length - (k + 1) + 1) c4) (body.length - (k + 1) + 1) (i64s ((body.drop k).reverse.map dg))) := by
              show World.ownsRow _ _ _ _ _ _ _
              rw [rev_step (by omega), i64s_append]
              have e : i64s [dg body[k]] = [Value.int .i64 ((s[k + 1].toNat : Int) - 48)] := by rw [HDGV.out]; rfl
              rw [e]
              simpa only [List.map_reverse, List.map_drop] using hown'
            have HDR : Hid (∀ b ∈ body.drop k, isDg b = true) := Lib.hid (by
              intro b hb
              rw [List.drop_eq_getElem_cons (by omega)] at hb
              rcases List.mem_cons.1 hb with rfl | hb
              · exact HISD.out
              · exact hdig.out b hb)
            clear hgrow hown'
            go_wp2
            go_roundw
            case rel => exact ⟨⟨k, _, A4, c4, by omega, rfl, by show _ = _; omega, by rw [HKL.out], HDR, by have h := HO3.out; rw [← HKL.out] at h; exact h⟩, HX3, HB3⟩
            case measure => simp only [intOf]; omega
      | zero =>
        obtain rfl : z = 1 - 1 := by have := hz.out; omega
        have HALL : Hid (∀ b ∈ body, isDg b = true) := by have h := hdig.out; rwa [List.drop_zero] at h
        obtain ⟨A', c', e', hc'⟩ := own_row hown.out
        have hc3 : body.length ≤ c3 := by injection e' with _ _ e3; omega
        have HRN : Hid (Rn wr wr.heap.size A3 (body.reverse.map dg)) := by have h := Rn.of_own hown.out; rwa [List.drop_zero] at h
        have HZO : Hid (okOf s.data.toList = true → tz true (body.reverse.map dg) = zOf s.data.toList) := by
          intro hok
          unfold zOf
          rw [if_pos hok, HNEG.out, ← HBODY.out]
          rfl
        have HOKV : Hid (okOf s.data.toList = decide (0 < body.length)) := by show _ = _; rw [HOK.out]; exact dec_good HALL.out
        have HLB : Hid (body.length + 1 = s.size) := HBA.out.1
        clear e'
        go_wp2_with fail
        refine (make1_any true A3 (body.length - 0) c3 (body.reverse.map dg) wr (by simp) (by have := HLB.out; omega) (by omega) HRN.out (ten_rev HALL.out)).mono ?_
        rintro e w2 ⟨neg2, A2, n2, c2, rfl, hi2, hb2⟩
        have hx2 := hx.out.over hb2.out
        have c0 := hx2.c0
        have c1 := hx2.c1
        have f0 := hx2.f0
        have f1 := hx2.f1
        have d0 := (hx2.put neg2 A2 n2 c2).c0
        have d1 := (hx2.put neg2 A2 n2 c2).c1
        have HI := Lib.hid (hi2.out.put hx2 neg2 A2 n2 c2)
        have HBL : Hid (Below w.heap.size w (put2 w2 w.heap.size neg2 A2 n2 c2)) := below_put (hb.out.trans (hb2.out.mono hb.out.size)) (Nat.le_refl _) _ _ _ _
        have HFIN : Hid (okOf s.data.toList = true → IsNum (put2 w2 w.heap.size neg2 A2 n2 c2) (put2 w2 w.heap.size neg2 A2 n2 c2).heap.size 1000 (.agg #[.bool neg2, .slice A2 n2 c2]) (zOf s.data.toList)) := by
          intro hok
          rw [← HZO.out hok, put2_size]
          exact HI.out.more (Nat.le_refl _) (by have := HLB.out; omega)
        by_cases hb0 : 0 < body.length
        · have hgt : (1 : Int) < ((s.size : Nat) : Int) := by have := HLB.out; omega
          have hle : ((s.size : Nat) : Int) - 1 ≤ 10000 := by omega
          go_wp2
          (try simp only [Exit.inBlock, Exit.then])
          exact bodyPost_ret (v := .tuple #[.agg #[.bool neg2, .slice A2 n2 c2], .bool true]) (by simp [results, Tryd.results31, go_sem, d0, d1]) rfl ⟨neg2, A2, n2, c2, by rw [HOKV.out]; simp [hb0], HFIN, HBL⟩
        · have hgt : ¬ (1 : Int) < ((s.size : Nat) : Int) := by have := HLB.out; omega
          go_wp2
          (try simp only [Exit.inBlock, Exit.then])
          exact bodyPost_ret (v := .tuple #[.agg #[.bool neg2, .slice A2 n2 c2], .bool false]) (by simp [results, Tryd.results31, go_sem, d0, d1]) rfl ⟨neg2, A2, n2, c2, by rw [HOKV.out]; simp [hb0], HFIN, HBL⟩
  · by_cases hz : s.size = 0
    · have HS := Lib.hid (body_plain (Or.inl hz))
      have hp1 : ¬ (0 : Int) < ((s.size : Nat) : Int) := by omega
      have HBA : Hid (BodyAt s body 0) := by show BodyAt _ _ _; rw [hbody]; exact HS.out.2
      have HNEG : Hid (negOf s.data.toList = false) := HS.out.1
      have HBODY := Lib.hid hbody
      clear hz hbody HS hsg
      go_enter Tryd.func31, Tryd.ntmps31
      go_wp2
      go_loopw [6, 7] (fun dv iv wr => (∃ (k : Nat) (z : Int) (A3 : Option Addr) (c3 : Nat), k ≤ body.length ∧ iv = .int .i64 z ∧ Hid (z = (k : Int) + 0 - 1) ∧ dv = .slice A3 (body.length - k) c3 ∧ Hid (∀ b ∈ body.drop k, isDg b = true) ∧ Hid (wr.ownsRow (w.heap.size + 1) 3 1 (.slice A3 (body.length - k) c3) (body.length - k) (i64s ((body.drop k).reverse.map dg)))) ∧ Hid (BoxN wr w.heap.size false none 0 0) ∧ Hid (Below w.heap.size w wr)) (fun _ iv _ => (intOf iv + 1).toNat)
      case atStart => exact ⟨⟨body.length, _, _, _, Nat.le_refl _, rfl, by have := HBA.out.1; show _ = _; omega, by rw [Nat.sub_self], (fun b hb => by rw [List.drop_length] at hb; cases hb), by rw [List.drop_length, Nat.sub_self]; exact HOWN⟩, HX, HB⟩
      case round =>
        obtain ⟨⟨k, z, A3, c3, hk, rfl, hz, rfl, hdig, hown⟩, hx, hb⟩ := hrel
        cases k with
        | succ k =>
          exfalso
          have := HBA.out.1
          omega
        | zero =>
          obtain rfl : z = 0 - 1 := by have := hz.out; omega
          have HALL : Hid (∀ b ∈ body, isDg b = true) := by have h := hdig.out; rwa [List.drop_zero] at h
          obtain ⟨A', c', e', hc'⟩ := own_row hown.out
          have hc3 : body.length ≤ c3 := by injection e' with _ _ e3; omega
          have HRN : Hid (Rn wr wr.heap.size A3 (body.reverse.map dg)) := by have h := Rn.of_own hown.out; rwa [List.drop_zero] at h
          have HZO : Hid (okOf s.data.toList = true → tz false (body.reverse.map dg) = zOf s.data.toList) := by
            intro hok
            unfold zOf
            rw [if_pos hok, HNEG.out, ← HBODY.out]
            rfl
          have HOKV : Hid (okOf s.data.toList = decide (0 < body.length)) := by show _ = _; rw [HOK.out]; exact dec_good HALL.out
          have HLB : Hid (body.length + 0 = s.size) := HBA.out.1
          clear e'
          go_wp2_with fail
          refine (make1_any false A3 (body.length - 0) c3 (body.reverse.map dg) wr (by simp) (by have := HLB.out; omega) (by omega) HRN.out (ten_rev HALL.out)).mono ?_
          rintro e w2 ⟨neg2, A2, n2, c2, rfl, hi2, hb2⟩
          have hx2 := hx.out.over hb2.out
          have c0 := hx2.c0
          have c1 := hx2.c1
          have f0 := hx2.f0
          have f1 := hx2.f1
          have d0 := (hx2.put neg2 A2 n2 c2).c0
          have d1 := (hx2.put neg2 A2 n2 c2).c1
          have HI := Lib.hid (hi2.out.put hx2 neg2 A2 n2 c2)
          have HBL : Hid (Below w.heap.size w (put2 w2 w.heap.size neg2 A2 n2 c2)) := below_put (hb.out.trans (hb2.out.mono hb.out.size)) (Nat.le_refl _) _ _ _ _
          have HFIN : Hid (okOf s.data.toList = true → IsNum (put2 w2 w.heap.size neg2 A2 n2 c2) (put2 w2 w.heap.size neg2 A2 n2 c2).heap.size 1000 (.agg #[.bool neg2, .slice A2 n2 c2]) (zOf s.data.toList)) := by
            intro hok
            rw [← HZO.out hok, put2_size]
            exact HI.out.more (Nat.le_refl _) (by have := HLB.out; omega)
          have hb0 : ¬ 0 < body.length := by have := HLB.out; omega
          have hgt : ¬ (0 : Int) < ((s.size : Nat) : Int) := by have := HLB.out; omega
          go_wp2
          (try simp only [Exit.inBlock, Exit.then])
          exact bodyPost_ret (v := .tuple #[.agg #[.bool neg2, .slice A2 n2 c2], .bool false]) (by simp [results, Tryd.results31, go_sem, d0, d1]) rfl ⟨neg2, A2, n2, c2, by rw [HOKV.out]; simp [hb0], HFIN, HBL⟩
    · have hpos : 0 < s.size := by omega
      have h45 : s[0].toNat ≠ 45 := fun e => hsg ⟨hpos, e⟩
      have HS := Lib.hid (body_plain (Or.inr ⟨hpos, h45⟩))
      have hp1 : (0 : Int) < ((s.size : Nat) : Int) := by omega
      have hp2 : ((s[0].toNat : Int) == 45) = false := by rw [beq_eq_false_iff_ne]; omega
      have HBA : Hid (BodyAt s body 0) := by show BodyAt _ _ _; rw [hbody]; exact HS.out.2
      have HNEG : Hid (negOf s.data.toList = false) := HS.out.1
      have HBODY := Lib.hid hbody
      clear h45 hz hbody HS hsg
      go_enter Tryd.func31, Tryd.ntmps31
      go_wp2
      go_loopw [6, 7] (fun dv iv wr => (∃ (k : Nat) (z : Int) (A3 : Option Addr) (c3 : Nat), k ≤ body.length ∧ iv = .int .i64 z ∧ Hid (z = (k : Int) + 0 - 1) ∧ dv = .slice A3 (body.length - k) c3 ∧ Hid (∀ b ∈ body.drop k, isDg b = true) ∧ Hid (wr.ownsRow (w.heap.size + 1) 3 1 (.slice A3 (body.length - k) c3) (body.length - k) (i64s ((body.drop k).reverse.map dg)))) ∧ Hid (BoxN wr w.heap.size false none 0 0) ∧ Hid (Below w.heap.size w wr)) (fun _ iv _ => (intOf iv + 1).toNat)
      case atStart => exact ⟨⟨body.length, _, _, _, Nat.le_refl _, rfl, by have := HBA.out.1; show _ = _; omega, by rw [Nat.sub_self], (fun b hb => by rw [List.drop_length] at hb; cases hb), by rw [List.drop_length, Nat.sub_self]; exact HOWN⟩, HX, HB⟩
      case round =>
        obtain ⟨⟨k, z, A3, c3, hk, rfl, hz, rfl, hdig, hown⟩, hx, hb⟩ := hrel
        cases k with
        | succ k =>
          obtain rfl : z = ((k : Nat) : Int) := by have := hz.out; omega
          obtain ⟨hin, heq⟩ := HBA.out.2 k (by omega)
          have hin' : k < s.size := hin
          have HEQ : Hid (s[k] = body[k]) := heq
          clear heq hin
          have hgs := hx.out.lt
          by_cases hlo : s[k].toNat < 48
          · have hlo' : ((s[k].toNat : Nat) : Int) < 48 := by omega
            have HBAD : Hid (okOf s.data.toList = false) := by
              show okOf _ = false
              rw [HOK.out]
              refine dec_bad (k := k) (by omega) ?_
              rw [← HEQ.out]
              unfold isDg
              simp
              omega
            have c0 := hx.out.c0
            have c1 := hx.out.c1
            have f0 := hx.out.f0
            have f1 := hx.out.f1
            have d0 := (hx.out.put false none 0 0).c0
            have d1 := (hx.out.put false none 0 0).c1
            have HBL : Hid (Below w.heap.size w (put2 wr w.heap.size false none 0 0)) := below_put hb.out (Nat.le_refl _) _ _ _ _
            clear hlo
            go_wp2
            (try simp only [Exit.inBlock, Exit.then])
            exact bodyPost_ret (v := .tuple #[.agg #[.bool false, .slice none 0 0], .bool false]) (by simp [results, Tryd.results31, go_sem, d0, d1]) rfl ⟨false, none, 0, 0, by rw [HBAD.out], (fun h => by rw [HBAD.out] at h; cases h), HBL⟩
          · have hlo' : ¬ ((s[k].toNat : Nat) : Int) < 48 := by omega
            by_cases hhi : 57 < s[k].toNat
            · have hhi' : (57 : Int) < ((s[k].toNat : Nat) : Int) := by omega
              have HBAD : Hid (okOf s.data.toList = false) := by
                show okOf _ = false
                rw [HOK.out]
                refine dec_bad (k := k) (by omega) ?_
                rw [← HEQ.out]
                unfold isDg
                simp
                omega
              have c0 := hx.out.c0
              have c1 := hx.out.c1
              have f0 := hx.out.f0
              have f1 := hx.out.f1
              have d0 := (hx.out.put false none 0 0).c0
              have d1 := (hx.out.put false none 0 0).c1
              have HBL : Hid (Below w.heap.size w (put2 wr w.heap.size false none 0 0)) := below_put hb.out (Nat.le_refl _) _ _ _ _
              clear hlo hhi
              go_wp2
              (try simp only [Exit.inBlock, Exit.then])
              exact bodyPost_ret (v := .tuple #[.agg #[.bool false, .slice none 0 0], .bool false]) (by simp [results, Tryd.results31, go_sem, d0, d1]) rfl ⟨false, none, 0, 0, by rw [HBAD.out], (fun h => by rw [HBAD.out] at h; cases h), HBL⟩
            · have hhi' : ¬ (57 : Int) < ((s[k].toNat : Nat) : Int) := by omega
              have HISD : Hid (isDg body[k] = true) := by
                show isDg _ = true
                rw [← HEQ.out]
                unfold isDg
                simp
                omega
              have HDGV : Hid ((s[k].toNat : Int) - 48 = ((dg body[k] : Nat) : Int)) := by
                show _ = _
                rw [← HEQ.out]
                unfold dg
                omega
              have HKL : Hid (body.length - k = body.length - (k + 1) + 1) := by show _ = _; omega
              have HM : Hid (body.length - (k + 1) + 1 ≤ maxLen ∧ (body.length - (k + 1) + 1) * 8 ≤ 140737488355328) := by have := HBA.out.1; constructor <;> (try unfold maxLen) <;> omega
              clear hlo hhi
              go_wp2_with (at_builtin; refine wpList_append_own _ rfl _ _ 27 rfl (w.heap.size + 1) 3 i0 (.int .i64 0) 1 8 Tryd.underlying27 hi hz0 hz1 hz2 rfl (by decide) _ _ _ rfl (hown.out.alloc _) ⟨wr.heap.size, 0, none⟩ 1 1 [.int .i64 ((s[k].toNat : Int) - 48)] rfl rfl (one_cell _ _ _) (one_one _ _) HM.out.1 HM.out.2 (by simp; omega) ?_)
              intro v' w3 hown' hgrow _
              obtain ⟨A4, c4, rfl, hc4⟩ := own_row hown'
              have HX3 : Hid (BoxN w3 w.heap.size false none 0 0) := (hx.out.alloc _).grown hgrow (fun e => by have := (hown.out.lt _ e.symm).1; omega)
              have HB3 : Hid (Below w.heap.size w w3) := (hb.out.alloc hb.out.size _).grown hgrow (by simp; omega) (fun g hg => by have := (hown.out.lt g hg).1; omega)
              have HO3 : Hid (w3.ownsRow (w.heap.size + 1) 3 1 (.slice A4 (body.length - (k + 1) + 1) c4) (body.length - (k + 1) + 1) (i64s ((body.drop k).reverse.map dg))) := by
                show World.ownsRow _ _ _ _ _ _ _
                rw [rev_step (by omega), i64s_append]
                have e : i64s [dg body[k]] = [Value.int .i64 ((s[k].toNat : Int) - 48)] := by rw [HDGV.out]; rfl
                rw [e]
                simpa only [List.map_reverse, List.map_drop] using hown'
              have HDR : Hid (∀ b ∈ body.drop k, isDg b = true) := Lib.hid (by
                intro b hb
                rw [List.drop_eq_getElem_cons (by omega)] at hb
                rcases List.mem_cons.1 hb with rfl | hb
                · exact HISD.out
                · exact hdig.out b hb)
              clear hgrow hown'
              go_wp2
              go_roundw
              case rel => exact ⟨⟨k, _, A4, c4, by omega, rfl, by show _ = _; omega, by rw [HKL.out], HDR, by have h := HO3.out; rw [← HKL.out] at h; exact h⟩, HX3, HB3⟩
              case measure => simp only [intOf]; omega
        | zero =>
          obtain rfl : z = 0 - 1 := by have := hz.out; omega
          have HALL : Hid (∀ b ∈ body, isDg b = true) := by have h := hdig.out; rwa [List.drop_zero] at h
          obtain ⟨A', c', e', hc'⟩ := own_row hown.out
          have hc3 : body.length ≤ c3 := by injection e' with _ _ e3; omega
          have HRN : Hid (Rn wr wr.heap.size A3 (body.reverse.map dg)) := by have h := Rn.of_own hown.out; rwa [List.drop_zero] at h
          have HZO : Hid (okOf s.data.toList = true → tz false (body.reverse.map dg) = zOf s.data.toList) := by
            intro hok
            unfold zOf
            rw [if_pos hok, HNEG.out, ← HBODY.out]
            rfl
          have HOKV : Hid (okOf s.data.toList = decide (0 < body.length)) := by show _ = _; rw [HOK.out]; exact dec_good HALL.out
          have HLB : Hid (body.length + 0 = s.size) := HBA.out.1
          clear e'
          go_wp2_with fail
          refine (make1_any false A3 (body.length - 0) c3 (body.reverse.map dg) wr (by simp) (by have := HLB.out; omega) (by omega) HRN.out (ten_rev HALL.out)).mono ?_
          rintro e w2 ⟨neg2, A2, n2, c2, rfl, hi2, hb2⟩
          have hx2 := hx.out.over hb2.out
          have c0 := hx2.c0
          have c1 := hx2.c1
          have f0 := hx2.f0
          have f1 := hx2.f1
          have d0 := (hx2.put neg2 A2 n2 c2).c0
          have d1 := (hx2.put neg2 A2 n2 c2).c1
          have HI := Lib.hid (hi2.out.put hx2 neg2 A2 n2 c2)
          have HBL : Hid (Below w.heap.size w (put2 w2 w.heap.size neg2 A2 n2 c2)) := below_put (hb.out.trans (hb2.out.mono hb.out.size)) (Nat.le_refl _) _ _ _ _
          have HFIN : Hid (okOf s.data.toList = true → IsNum (put2 w2 w.heap.size neg2 A2 n2 c2) (put2 w2 w.heap.size neg2 A2 n2 c2).heap.size 1000 (.agg #[.bool neg2, .slice A2 n2 c2]) (zOf s.data.toList)) := by
            intro hok
            rw [← HZO.out hok, put2_size]
            exact HI.out.more (Nat.le_refl _) (by have := HLB.out; omega)
          by_cases hb0 : 0 < body.length
          · have hgt : (0 : Int) < ((s.size : Nat) : Int) := by have := HLB.out; omega
            have hle : ((s.size : Nat) : Int) ≤ 10000 := by omega
            go_wp2
            (try simp only [Exit.inBlock, Exit.then])
            exact bodyPost_ret (v := .tuple #[.agg #[.bool neg2, .slice A2 n2 c2], .bool true]) (by simp [results, Tryd.results31, go_sem, d0, d1]) rfl ⟨neg2, A2, n2, c2, by rw [HOKV.out]; simp [hb0], HFIN, HBL⟩
          · exfalso
            have := HLB.out
            omega
end Go.Proofs.YtpikbhcjgcbdfaaDoor.wh
