/- Package whole: addTo, sum: digits added in place. Package whole: subtractTimes, slices.Clone, difference: digits taken off in place. Package whole: slices.Clone, difference. Package whole: product. Package whole: Cmp, Add, Neg, Mul. Package whole: Add, Neg, Mul. Package whole: Add, Neg. -/
import Derived.Test.YtpikbhcjgcbdfaaDoorWhA
import Derived.Laws.CopyOwn
import Derived.WalkSpells
import Derived.Deep.LoopGhost
/- Package whole: addTo, sum: digits added in place. -/
namespace Go.Proofs.YtpikbhcjgcbdfaaDoor.wh
open Go.RowKit

/-- Block g holds the digits ds from place off on, behind pre, ahead of post. -/
def Seg (w : World) (g off : Nat) (pre : List Value) (ds : List Nat) (post : List Value) : Prop := pre.length = off ∧ Blk w g 82 (pre ++ u32s ds ++ post).toArray
section
variable {w w' : World} {g off : Nat} {pre post : List Value} {ds : List Nat}
theorem Seg.lt (h : Seg w g off pre ds post) : g < w.heap.size := h.2.lt
theorem Seg.cell (h : Seg w g off pre ds post) {k : Nat} (hk : k < ds.length) : w.cell? ⟨g, off + k, none⟩ = some (.int .u32 ((ds[k]'hk : Nat) : Int)) := by
  rw [h.2.cell]
  have := h.1
  subst this
  simp [u32s, List.getElem?_append, hk]
theorem Seg.frozen (h : Seg w g off pre ds post) (k : Nat) : w.frozen? ⟨g, k, none⟩ = false := h.2.frozen k
theorem Seg.set_ (h : Seg w g off pre ds post) {k v : Nat} {z : Int} (hk : k < ds.length) (hz : z = (v : Int)) : Seg (w.setCell ⟨g, off + k, none⟩ (.int .u32 z)) g off pre (ds.set k v) post := by
  refine ⟨h.1, ?_⟩
  have h1 := h.2.set_ (off + k) (.int .u32 z)
  have := h.1
  subst this
  subst hz
  have e : (pre ++ u32s ds ++ post).toArray.setIfInBounds (pre.length + k) (.int .u32 (v : Int)) = (pre ++ u32s (ds.set k v) ++ post).toArray := by
    rw [List.setIfInBounds_toArray, List.append_assoc, List.set_append_right _ _ (by omega), Nat.add_sub_cancel_left, List.set_append_left _ _ (by rw [u32s_length]; exact hk)]
    rw [List.append_assoc]
    congr 3
    simp [u32s, List.map_set]
  rw [e] at h1
  exact h1
theorem Seg.below {B : Nat} (h : Seg w g off pre ds post) (hb : Below B w w') (hg : g < B) : Seg w' g off pre ds post := ⟨h.1, h.2.below hb hg⟩
theorem Seg.drewN (h : Seg w g off pre ds post) (k : Nat) : Seg (w.drewN k) g off pre ds post := h
theorem Seg.rd (h : Seg w g off pre ds post) : Rd w w.heap.size (some ⟨g, off, none⟩) ds := fun _ => ⟨g, off, rfl, h.lt, fun _ hj => h.cell hj⟩
theorem Seg.rd_take (h : Seg w g off pre ds post) (k : Nat) : Rd w w.heap.size (some ⟨g, off, none⟩) (ds.take k) := h.rd.take k
end

/-- The slice at A lies in another block than g. -/
def Away (A : Option Addr) (g n : Nat) : Prop := 0 < n → ∀ ad, A = some ad → ad.block ≠ g
theorem Rd.away_of {w : World} {B g : Nat} {A : Option Addr} {ds : List Nat} (h : Rd w B A ds) (hg : B ≤ g) : Away A g ds.length := fun hn ad e => by
  obtain ⟨b, off, e', hb, _⟩ := h hn
  rw [e] at e'
  injection e' with e'
  subst e'
  show b ≠ g
  omega
theorem Rd.away {w : World} {B g : Nat} {A : Option Addr} {ds : List Nat} (h : Rd w B A ds) (hA : Away A g ds.length) (i : Nat) (u : Value) : Rd (w.setCell ⟨g, i, none⟩ u) B A ds := fun hn => by
  obtain ⟨b, off, e, hb, hc⟩ := h hn
  have hne : b ≠ g := hA hn _ e
  exact ⟨b, off, e, hb, fun j hj => by rw [World.cell?_setCell_far _ _ _ _ (fun e => hne e.symm)]; exact hc j hj⟩

/-- w' is w but for block g, and new blocks. -/
abbrev Only (g : Nat) (w w' : World) : Prop := w.grownBy w' (some g)
theorem only_refl (g : Nat) (w : World) : Only g w w := ⟨rfl, rfl, rfl, Nat.le_refl _, fun _ _ _ => rfl⟩
theorem only_set {g : Nat} {a w : World} (h : Only g a w) (i : Nat) (u : Value) : Only g a (w.setCell ⟨g, i, none⟩ u) :=
  ⟨h.os, h.tape, h.output, by simpa [World.setCell] using h.size, fun k hk hne => (Below.heap_setCell w ⟨g, i, none⟩ u k (fun e => hne (by rw [e]))).trans (h.block k hk hne)⟩
theorem only_drewN {g : Nat} {a w : World} (h : Only g a w) (n : Nat) : Only g a (w.drewN n) := ⟨h.os, h.tape, h.output, h.size, h.block⟩
theorem only_trans {g : Nat} {a b c : World} (h : Only g a b) (k : Only g b c) : Only g a c :=
  ⟨k.os.trans h.os, k.tape.trans h.tape, k.output.trans h.output, Nat.le_trans h.size k.size, fun i hi hne => (k.block i (Nat.lt_of_lt_of_le hi h.size) hne).trans (h.block i hi hne)⟩
theorem only_of_below {g : Nat} {a w : World} (h : Below a.heap.size a w) : Only g a w := ⟨h.os, h.tape, h.output, h.size, fun i hi _ => h.block i hi⟩
theorem only_below {g B : Nat} {a b c : World} (h : Below B a b) (k : Only g b c) (hB : B ≤ b.heap.size) (hg : B ≤ g) : Below B a c := h.grown k hB (fun x hx => by injection hx with hx; omega)
theorem Rd.only {w w' : World} {B g : Nat} {A : Option Addr} {ds : List Nat} (h : Rd w B A ds) (hA : Away A g ds.length) (ho : Only g w w') (hB : B ≤ w.heap.size) : Rd w' B A ds := fun hn => by
  obtain ⟨b, off, e, hb, hc⟩ := h hn
  have hne : b ≠ g := hA hn _ e
  exact ⟨b, off, e, hb, fun j hj => (World.cell?_of_block (ho.block b (by omega) (fun e => hne (by injection e)))).trans (hc j hj)⟩
theorem Blk.only {w w' : World} {g k : Nat} {t : TypeId} {cs : Array Value} (h : Blk w k t cs) (ho : Only g w w') (hne : k ≠ g) : Blk w' k t cs := h.grown ho (fun e => hne (by injection e))
theorem Seg.only {w w' : World} {g k off : Nat} {pre post : List Value} {ds : List Nat} (h : Seg w k off pre ds post) (ho : Only g w w') (hne : k ≠ g) : Seg w' k off pre ds post := ⟨h.1, h.2.only ho hne⟩

theorem val_take_succ {ds : List Nat} {k : Nat} (hk : k < ds.length) : val (ds.take (k + 1)) = val (ds.take k) + 1000000000 ^ k * ds[k] := by
  rw [List.take_succ_eq_append_getElem hk, val_snoc, List.length_take, Nat.min_eq_left (by omega)]
theorem val_split (ds : List Nat) (k : Nat) (hk : k ≤ ds.length) : val ds = val (ds.take k) + 1000000000 ^ k * val (ds.drop k) := by
  conv => lhs; rw [← List.take_append_drop k ds]
  rw [val_append, List.length_take, Nat.min_eq_left hk]

/-- after k rounds of addTo: the digits done, and the carry -/
def AddAt (xs bs : List Nat) (k : Nat) (res : List Nat) (q : Nat) : Prop :=
  res.length = k ∧ Dig res ∧ q ≤ 1 ∧ val res + 1000000000 ^ k * q = val (xs.take k) + val (bs.take k)
theorem addAt_zero (xs bs : List Nat) : AddAt xs bs 0 [] 0 := ⟨rfl, Dig.nil, by omega, by simp [val]⟩
theorem addAt_step {xs bs res : List Nat} {k q x b : Nat} (h : AddAt xs bs k res q) (hx : x < 1000000000) (hb : b < 1000000000)
    (hxs : val (xs.take (k + 1)) = val (xs.take k) + 1000000000 ^ k * x) (hbs : val (bs.take (k + 1)) = val (bs.take k) + 1000000000 ^ k * b) :
    AddAt xs bs (k + 1) (res ++ [(x + q + b) % 1000000000]) ((x + q + b) / 1000000000) := by
  obtain ⟨h1, h2, h3, h4⟩ := h
  refine ⟨by simp [h1], h2.append (Dig.cons (Nat.mod_lt _ (by omega)) Dig.nil), by omega, ?_⟩
  rw [val_snoc, h1, hxs, hbs, Nat.pow_succ, Nat.add_assoc, Nat.mul_assoc, ← Nat.mul_add, Nat.mod_add_div]
  rw [Nat.mul_add, Nat.mul_add]
  omega
/-- what addTo leaves: digits, and whether 1 is left over -/
def Added (xs bs ys : List Nat) (over : Bool) : Prop := ys.length = xs.length ∧ Dig ys ∧ val ys + (if over then 1000000000 ^ xs.length else 0) = val xs + val bs
theorem added_early {xs bs res : List Nat} {k : Nat} (h : AddAt xs bs k res 0) (hk : k ≤ xs.length) (hm : bs.length ≤ k) (hd : Dig xs) : Added xs bs (res ++ xs.drop k) false := by
  obtain ⟨h1, h2, _, h4⟩ := h
  refine ⟨by simp [h1]; omega, h2.append (hd.drop _), ?_⟩
  rw [val_append, h1, val_split xs k hk]
  rw [List.take_of_length_le hm] at h4
  simp at h4 ⊢
  omega
theorem added_end {xs bs res : List Nat} {q : Nat} (h : AddAt xs bs xs.length res q) (hm : bs.length ≤ xs.length) : Added xs bs res (q != 0) := by
  obtain ⟨h1, h2, h3, h4⟩ := h
  refine ⟨h1, h2, ?_⟩
  rw [List.take_of_length_le hm, List.take_of_length_le (Nat.le_refl _)] at h4
  rcases Nat.eq_zero_or_pos q with e | e
  · subst e; simpa using h4
  · obtain rfl : q = 1 := by omega
    simpa using h4

def GivesAdded (g off : Nat) (pre : List Value) (xs bs : List Nat) (post : List Value) (W : World) (e : Ending) (w' : World) : Prop :=
  ∃ ys over, e = .returned (.bool over) ∧ Added xs bs ys over ∧ Seg w' g off pre ys post ∧ Only g W w'

set_option maxHeartbeats 400000 in
theorem addTo_any (g off n c m d : Nat) (pre post : List Value) (A : Option Addr) (xs bs : List Nat) (w : World) (hlx : xs.length = n) (hlb : bs.length = m) (hmn : m ≤ n) (hn : n ≤ maxLen)
    (hs : Seg w g off pre xs post) (hr : Rd w w.heap.size A bs) (hA : Away A g m) (hdx : Dig xs) (hdb : Dig bs) :
    Calls Tryd.prog 94 #[.slice (some ⟨g, off, none⟩) n c, .slice A m d] w fun e w' => GivesAdded g off pre xs bs post w e w' := by
  subst hlx
  subst hlb
  unfold maxLen at hn
  have HS := Lib.hid hs
  have HR := Lib.hid hr
  have HA := Lib.hid hA
  have HX := Lib.hid hdx
  have HB := Lib.hid hdb
  clear hs hr hA hdx hdb
  go_enter Tryd.func94, Tryd.ntmps94
  go_wp2
  go_loopw [5, 10] (fun u i wr => (∃ (k q : Nat) (res : List Nat), k ≤ xs.length ∧ u = .int .u32 q ∧ i = .int .i64 k ∧ q ≤ 1 ∧ Hid (AddAt xs bs k res q) ∧ Hid (Seg wr g off pre (res ++ xs.drop k) post)) ∧ Hid (Rd wr w.heap.size A bs) ∧ Hid (Only g w wr)) (fun _ i _ => xs.length - (intOf i).toNat)
  case atStart => exact ⟨⟨0, 0, [], Nat.zero_le _, rfl, rfl, by omega, addAt_zero _ _, HS.out⟩, HR.out, only_refl _ _⟩
  case round =>
    obtain ⟨⟨k, q, res, hk, rfl, rfl, hq, hat, hsg⟩, hrd, ho⟩ := hrel
    by_cases hlt : k < xs.length
    · have hlen : k < (res ++ xs.drop k).length := by rw [List.length_append, List.length_drop, hat.out.1]; omega
      have hc := hsg.out.cell hlen
      have hf := hsg.out.frozen (off + k)
      obtain ⟨x, hx⟩ : ∃ x, x = xs[k] := ⟨_, rfl⟩
      have hgx : (res ++ xs.drop k)[k]'hlen = x := by
        rw [List.getElem_append_right (by rw [hat.out.1]; exact Nat.le_refl _)]
        simp [hat.out.1, hx]
      rw [hgx] at hc
      have hx9 : x < 1000000000 := by rw [hx]; exact HX.out.get k hlt
      have hxs : Hid (val (xs.take (k + 1)) = val (xs.take k) + 1000000000 ^ k * x) := by show _ = _; rw [hx]; exact val_take_succ hlt
      have hset : ∀ r : Nat, (res ++ xs.drop k).set k r = (res ++ [r]) ++ xs.drop (k + 1) := fun r => by
        rw [List.set_append_right _ _ (by rw [hat.out.1]; exact Nat.le_refl _), hat.out.1, Nat.sub_self, List.drop_eq_getElem_cons hlt, List.set_cons_zero, List.append_assoc]
        rfl
      have HSET := Lib.hid hset
      clear hset hx hgx
      by_cases hkm : k < bs.length
      · obtain ⟨b', off', rfl, hb', hc'⟩ := hrd.out.at_ hkm
        obtain ⟨b, hb⟩ : ∃ b, b = bs[k] := ⟨_, rfl⟩
        rw [← hb] at hc'
        have hb9 : b < 1000000000 := by rw [hb]; exact HB.out.get k hkm
        have hbs : Hid (val (bs.take (k + 1)) = val (bs.take k) + 1000000000 ^ k * b) := by show _ = _; rw [hb]; exact val_take_succ hkm
        clear hb
        go_wp2
        go_roundw
        case rel => exact ⟨⟨k + 1, (x + q + b) / 1000000000, _, by omega, by go_num, by go_num, by omega, addAt_step hat.out hx9 hb9 hxs.out hbs.out, by have h := hsg.out.set_ (z := ((x : Int) + q + b) % 1000000000) hlen rfl; rw [HSET.out] at h; exact h⟩, hrd.out.away HA.out _ _, only_set ho.out _ _⟩
        case measure => simp [intOf]; omega
      · have hkm1 : ((bs.length : Nat) : Int) ≤ (k : Int) := by omega
        have hkm2 : ¬ (k : Int) < ((bs.length : Nat) : Int) := by omega
        have hbs : Hid (val (bs.take (k + 1)) = val (bs.take k) + 1000000000 ^ k * 0) := by
          show _ = _
          rw [List.take_of_length_le (by omega), List.take_of_length_le (by omega)]; simp
        by_cases hq0 : q = 0
        · subst hq0
          have HE := Lib.hid (added_early hat.out hk (by omega) HX.out)
          go_wp2
          go_ret
          exact ⟨_, false, rfl, HE.out, hsg.out, ho.out⟩
        · have hq1 : ((q : Int) == 0) = false := by simpa using hq0
          go_wp2
          go_roundw
          case rel => exact ⟨⟨k + 1, (x + q + 0) / 1000000000, _, by omega, by go_num, by go_num, by omega, addAt_step (b := 0) hat.out hx9 (by omega) hxs.out hbs.out, by have h := hsg.out.set_ (z := ((x : Int) + q) % 1000000000) (v := (x + q + 0) % 1000000000) hlen (by omega); rw [HSET.out] at h; exact h⟩, hrd.out.away HA.out _ _, only_set ho.out _ _⟩
          case measure => simp [intOf]; omega
    · obtain rfl : k = xs.length := by omega
      have HE := Lib.hid (added_end hat.out hmn)
      have hsg2 : Hid (Seg wr g off pre res post) := by have h := hsg.out; rw [List.drop_length, List.append_nil] at h; exact h
      go_wp2
      go_ret
      exact ⟨_, _, ret_bool (by rw [Bool.eq_iff_iff]; simp), HE.out, hsg2.out, ho.out⟩

/-- a new row of noughts -/
def zeros (n : Nat) : Array Value := (u32s (List.replicate n 0)).toArray
theorem made_zeros (n : Nat) : madeCells (#[.int .u32 0] : Array Value) n = zeros n := by
  apply Array.ext
  · simp [madeCells, zeros, u32s]
  · intro i h1 h2
    simp [madeCells, zeros, u32s, Nat.mod_one]
theorem run_make_u32 {z : Int} {n : Nat} (hz : z = (n : Int)) (hn : n ≤ 1000000) (W : World) :
    (Instr.makeSlice 22 (.int .i64 z) (.int .i64 z)).run Tryd.prog W = .ok (.slice (some ⟨W.heap.size, 0, none⟩) n n) (W.alloc (.cells (zeros n) 82)) := by
  obtain ⟨i0, hi, hz0, hz1, hz2⟩ := info_parts info_u32
  subst hz
  have h := run_make (P := Tryd.prog) W 22 82 i0 _ Tryd.underlying22 hi hz0 .i64 .i64 n n (by omega) (by omega) (by rw [hz2]; omega) (by omega)
  rw [h]
  simp only [Int.toNat_natCast, hz1, Nat.mul_one]
  rw [show (Value.int .u32 0).cells = #[.int .u32 0] from rfl, made_zeros]
theorem seg_zeros (W : World) (n : Nat) : Seg (W.alloc (.cells (zeros n) 82)) W.heap.size 0 [] (List.replicate n 0) [] :=
  ⟨rfl, by have h := Blk.new W 82 (zeros n); simpa [zeros] using h⟩

def GivesRow (W : World) (n : Nat) (v : Nat) (e : Ending) (w' : World) : Prop :=
  ∃ A c ds, e = .returned (.slice A n c) ∧ ds.length = n ∧ n ≤ c ∧ Rd w' w'.heap.size A ds ∧ Dig ds ∧ val ds = v ∧ Below W.heap.size W w'


theorem splice_row (xs : List Nat) : splice (u32s (List.replicate (xs.length + 1) 0)) 0 (u32s xs) = [] ++ u32s (xs ++ [0]) ++ [] := by
  simp [splice, u32s]
theorem sum_done {xs bs ys : List Nat} {over : Bool} (h : Added (xs ++ [0]) bs ys over) (hdx : Dig xs) (hdb : Dig bs) (hl : bs.length ≤ xs.length) : val ys = val xs + val bs := by
  obtain ⟨_, _, h3⟩ := h
  rw [val_snoc] at h3
  simp only [List.length_append, List.length_singleton, Nat.mul_zero, Nat.add_zero] at h3
  have h1 := val_lt hdx
  have h2 := val_lt hdb
  have h4 : 1000000000 ^ bs.length ≤ 1000000000 ^ xs.length := pow_mono hl
  rw [Nat.pow_succ] at h3
  cases over with
  | false => simpa using h3
  | true => simp at h3; omega
theorem dig_snoc0 {xs : List Nat} (h : Dig xs) : Dig (xs ++ [0]) := h.append (Dig.cons (by omega) Dig.nil)

set_option maxRecDepth 100000 in
set_option maxHeartbeats 1000000 in
theorem sum_any (A B : Option Addr) (n c m d : Nat) (xs bs : List Nat) (w : World) (hlx : xs.length = n) (hlb : bs.length = m) (hn : n ≤ 1000) (hm : m ≤ 1000)
    (ha : Rd w w.heap.size A xs) (hb : Rd w w.heap.size B bs) (hdx : Dig xs) (hdb : Dig bs) :
    Calls Tryd.prog 64 #[.slice A n c, .slice B m d] w fun e w' => GivesRow w (max n m + 1) (val xs + val bs) e w' := by
  subst hlx
  subst hlb
  have HRA := Lib.hid ha
  have HRB := Lib.hid hb
  have HX := Lib.hid hdx
  have HB := Lib.hid hdb
  clear ha hb hdx hdb
  by_cases hlt : xs.length < bs.length
  · rw [show max xs.length bs.length + 1 = bs.length + 1 by omega]
    have hmk := run_make_u32 (z := (bs.length : Int) + 1) (n := bs.length + 1) (by omega) (by omega)
    have HSZ : Hid (Seg (w.alloc (.cells (zeros (bs.length + 1)) 82)) w.heap.size 0 [] (List.replicate (bs.length + 1) 0) []) := seg_zeros w _
    have HG : Hid ((w.alloc (.cells (zeros (bs.length + 1)) 82)).heap[w.heap.size]? = some (.cells ([] ++ u32s (List.replicate (bs.length + 1) 0) ++ []).toArray 82 (0, 0))) := HSZ.out.2
    have HBW : Hid (Below w.heap.size w (w.alloc (.cells (zeros (bs.length + 1)) 82))) := (Below.refl _ _).alloc (Nat.le_refl _) _
    have HSR := Lib.hid (HRB.out.alloc (Nat.le_refl _) (.cells (zeros (bs.length + 1)) 82))
    go_enter Tryd.func64, Tryd.ntmps64
    go_wp2_with (with_reducible refine wpList_copy_splice rfl (.tmp 17) (.tmp 18) 22 22 rfl 82 Tryd.underlying22 (by kernel_rfl) (some ⟨w.heap.size, 0, none⟩) B (bs.length + 1) (bs.length + 1) bs.length d rfl rfl w.heap.size 0 ([] ++ u32s (List.replicate (bs.length + 1) 0) ++ []) 82 HG.out (u32s bs) ?c1 ?c2 ?c3 ?c4 w.heap.size w HBW.out (Nat.le_refl _) ?_)
    case c1 => rw [u32s_length]; exact (Nat.min_eq_left (by omega)).symm
    case c2 =>
      intro h0
      rw [u32s_length] at h0
      obtain ⟨b, off, e, _, hc⟩ := HSR.out h0
      refine ⟨_, e, fun j v hj => ?_⟩
      have hjl : j < bs.length := by
        have := (List.getElem?_eq_some_iff.1 hj).1
        rwa [u32s_length] at this
      rw [u32s_get hjl] at hj
      injection hj with hj
      subst hj
      rw [← hc j hjl]
      unfold Addr.add
      by_cases hj0 : j = 0 <;> simp [hj0]
    case c3 => simp [u32s]
    case c4 =>
      intro v hv
      simp only [u32s, List.mem_map] at hv
      obtain ⟨_, _, rfl⟩ := hv
      rfl
    intro w1 hg1 hb1
    have hsg : Hid (Seg w1 w.heap.size 0 [] (bs ++ [0]) []) := ⟨rfl, by have h := hg1.out; rw [splice_row bs] at h; exact h⟩
    have hrd : Hid (Rd w1 w1.heap.size A xs) := (HRA.out.below hb1).more hb1.size
    have haw : Hid (Away A w.heap.size xs.length) := HRA.out.away_of (Nat.le_refl _)
    clear hg1
    go_wp2_with fail
    refine (addTo_any w.heap.size 0 (bs.length + 1) (bs.length + 1) xs.length c [] [] A (bs ++ [0]) xs w1 (by simp) rfl (by omega) (by unfold maxLen; omega) hsg.out hrd.out haw.out (dig_snoc0 HB.out) HX.out).mono ?_
    rintro e w2 ⟨ys, over, rfl, hadd, hseg, honly⟩
    go_wp2
    go_ret
    exact ⟨_, _, ys, rfl, by rw [hadd.1]; simp, by omega, hseg.rd, hadd.2.1, by rw [sum_done hadd HB.out HX.out (by omega)]; omega, only_below hb1 honly hb1.size (Nat.le_refl _)⟩
  · rw [show max xs.length bs.length + 1 = xs.length + 1 by omega]
    have hmk := run_make_u32 (z := (xs.length : Int) + 1) (n := xs.length + 1) (by omega) (by omega)
    have HSZ : Hid (Seg (w.alloc (.cells (zeros (xs.length + 1)) 82)) w.heap.size 0 [] (List.replicate (xs.length + 1) 0) []) := seg_zeros w _
    have HG : Hid ((w.alloc (.cells (zeros (xs.length + 1)) 82)).heap[w.heap.size]? = some (.cells ([] ++ u32s (List.replicate (xs.length + 1) 0) ++ []).toArray 82 (0, 0))) := HSZ.out.2
    have HBW : Hid (Below w.heap.size w (w.alloc (.cells (zeros (xs.length + 1)) 82))) := (Below.refl _ _).alloc (Nat.le_refl _) _
    have HSR := Lib.hid (HRA.out.alloc (Nat.le_refl _) (.cells (zeros (xs.length + 1)) 82))
    go_enter Tryd.func64, Tryd.ntmps64
    go_wp2_with (with_reducible refine wpList_copy_splice rfl (.tmp 17) (.tmp 18) 22 22 rfl 82 Tryd.underlying22 (by kernel_rfl) (some ⟨w.heap.size, 0, none⟩) A (xs.length + 1) (xs.length + 1) xs.length c rfl rfl w.heap.size 0 ([] ++ u32s (List.replicate (xs.length + 1) 0) ++ []) 82 HG.out (u32s xs) ?c1 ?c2 ?c3 ?c4 w.heap.size w HBW.out (Nat.le_refl _) ?_)
    case c1 => rw [u32s_length]; exact (Nat.min_eq_left (by omega)).symm
    case c2 =>
      intro h0
      rw [u32s_length] at h0
      obtain ⟨b, off, e, _, hc⟩ := HSR.out h0
      refine ⟨_, e, fun j v hj => ?_⟩
      have hjl : j < xs.length := by
        have := (List.getElem?_eq_some_iff.1 hj).1
        rwa [u32s_length] at this
      rw [u32s_get hjl] at hj
      injection hj with hj
      subst hj
      rw [← hc j hjl]
      unfold Addr.add
      by_cases hj0 : j = 0 <;> simp [hj0]
    case c3 => simp [u32s]
    case c4 =>
      intro v hv
      simp only [u32s, List.mem_map] at hv
      obtain ⟨_, _, rfl⟩ := hv
      rfl
    intro w1 hg1 hb1
    have hsg : Hid (Seg w1 w.heap.size 0 [] (xs ++ [0]) []) := ⟨rfl, by have h := hg1.out; rw [splice_row xs] at h; exact h⟩
    have hrd : Hid (Rd w1 w1.heap.size B bs) := (HRB.out.below hb1).more hb1.size
    have haw : Hid (Away B w.heap.size bs.length) := HRB.out.away_of (Nat.le_refl _)
    clear hg1
    go_wp2_with fail
    refine (addTo_any w.heap.size 0 (xs.length + 1) (xs.length + 1) bs.length d [] [] B (xs ++ [0]) bs w1 (by simp) rfl (by omega) (by unfold maxLen; omega) hsg.out hrd.out haw.out (dig_snoc0 HX.out) HB.out).mono ?_
    rintro e w2 ⟨ys, over, rfl, hadd, hseg, honly⟩
    go_wp2
    go_ret
    exact ⟨_, _, ys, rfl, by rw [hadd.1]; simp, by omega, hseg.rd, hadd.2.1, by rw [sum_done hadd HX.out HB.out (by omega)], only_below hb1 honly hb1.size (Nat.le_refl _)⟩
end Go.Proofs.YtpikbhcjgcbdfaaDoor.wh

/- Package whole: subtractTimes, slices.Clone, difference: digits taken off in place. -/
namespace Go.Proofs.YtpikbhcjgcbdfaaDoor.wh
open Go.RowKit

/-- after k rounds of subtractTimes: the digits done, and what is borrowed -/
def SubAt (xs bs : List Nat) (t k : Nat) (res : List Nat) (q : Nat) : Prop :=
  res.length = k ∧ Dig res ∧ q ≤ t ∧ val (xs.take k) + 1000000000 ^ k * q = val res + t * val (bs.take k)
theorem subAt_zero (xs bs : List Nat) (t : Nat) : SubAt xs bs t 0 [] 0 := ⟨rfl, Dig.nil, by omega, by simp [val]⟩
theorem subAt_step {xs bs res : List Nat} {t k q x b r s q' : Nat} (h : SubAt xs bs t k res q) (hr : r < 1000000000) (hs : s = q + b * t) (hrs : r + s = x + 1000000000 * q') (hq : q' ≤ t)
    (hxs : val (xs.take (k + 1)) = val (xs.take k) + 1000000000 ^ k * x) (hbs : val (bs.take (k + 1)) = val (bs.take k) + 1000000000 ^ k * b) :
    SubAt xs bs t (k + 1) (res ++ [r]) q' := by
  obtain ⟨h1, h2, h3, h4⟩ := h
  refine ⟨by simp [h1], h2.append (Dig.cons hr Dig.nil), hq, ?_⟩
  rw [val_snoc, h1, hxs, hbs, Nat.pow_succ, Nat.mul_assoc, Nat.add_assoc, ← Nat.mul_add, ← hrs, Nat.mul_add, hs, Nat.mul_add, Nat.mul_add]
  have e : t * (1000000000 ^ k * b) = 1000000000 ^ k * (b * t) := by rw [Nat.mul_comm t, Nat.mul_assoc]
  omega
/-- what subtractTimes leaves: digits, and what is borrowed of the digit behind the last -/
def Subbed (xs bs : List Nat) (t : Nat) (ys : List Nat) (q : Nat) : Prop := ys.length = xs.length ∧ Dig ys ∧ q ≤ t ∧ val xs + 1000000000 ^ xs.length * q = val ys + t * val bs
theorem subbed_early {xs bs res : List Nat} {t k : Nat} (h : SubAt xs bs t k res 0) (hk : k ≤ xs.length) (hm : bs.length ≤ k) (hd : Dig xs) : Subbed xs bs t (res ++ xs.drop k) 0 := by
  obtain ⟨h1, h2, h3, h4⟩ := h
  refine ⟨by simp [h1]; omega, h2.append (hd.drop _), h3, ?_⟩
  rw [val_append, h1, val_split xs k hk]
  rw [List.take_of_length_le hm] at h4
  simp only [Nat.mul_zero, Nat.add_zero] at h4 ⊢
  omega
theorem subbed_end {xs bs res : List Nat} {t q : Nat} (h : SubAt xs bs t xs.length res q) (hm : bs.length ≤ xs.length) : Subbed xs bs t res q := by
  obtain ⟨h1, h2, h3, h4⟩ := h
  refine ⟨h1, h2, h3, ?_⟩
  rwa [List.take_of_length_le hm, List.take_of_length_le (Nat.le_refl _)] at h4
theorem setset {res : List Nat} {xs : List Nat} {k r a : Nat} (h : res.length = k) (hlt : k < xs.length) : ((res ++ xs.drop k).set k a).set k r = (res ++ [r]) ++ xs.drop (k + 1) := by
  rw [List.set_set, List.set_append_right _ _ (by omega), h, Nat.sub_self, List.drop_eq_getElem_cons hlt, List.set_cons_zero, List.append_assoc]
  rfl
theorem setone {res : List Nat} {xs : List Nat} {k r : Nat} (h : res.length = k) (hlt : k < xs.length) : (res ++ xs.drop k).set k r = (res ++ [r]) ++ xs.drop (k + 1) := by
  rw [List.set_append_right _ _ (by omega), h, Nat.sub_self, List.drop_eq_getElem_cons hlt, List.set_cons_zero, List.append_assoc]
  rfl

def GivesSub (g off : Nat) (pre : List Value) (xs bs : List Nat) (t : Nat) (post : List Value) (W : World) (e : Ending) (w' : World) : Prop :=
  ∃ ys q, e = .returned (.bool (q != 0)) ∧ Subbed xs bs t ys q ∧ Seg w' g off pre ys post ∧ Only g W w'

set_option maxRecDepth 100000 in
set_option maxHeartbeats 1000000 in
theorem subtract_any (g off n c m d t : Nat) (pre post : List Value) (A : Option Addr) (xs bs : List Nat) (w : World) (hlx : xs.length = n) (hlb : bs.length = m) (hmn : m ≤ n) (hn : n ≤ maxLen) (ht : t < 1000000000)
    (hs : Seg w g off pre xs post) (hr : Rd w w.heap.size A bs) (hA : Away A g m) (hdx : Dig xs) (hdb : Dig bs) :
    Calls Tryd.prog 95 #[.slice (some ⟨g, off, none⟩) n c, .slice A m d, .int .u64 t] w fun e w' => GivesSub g off pre xs bs t post w e w' := by
  subst hlx
  subst hlb
  unfold maxLen at hn
  have HS := Lib.hid hs
  have HR := Lib.hid hr
  have HA := Lib.hid hA
  have HX := Lib.hid hdx
  have HB := Lib.hid hdb
  clear hs hr hA hdx hdb
  go_enter Tryd.func95, Tryd.ntmps95
  go_wp2
  go_loopw [7, 13] (fun u i wr => (∃ (k q : Nat) (res : List Nat), k ≤ xs.length ∧ u = .int .u64 q ∧ i = .int .i64 k ∧ q ≤ t ∧ Hid (SubAt xs bs t k res q) ∧ Hid (Seg wr g off pre (res ++ xs.drop k) post)) ∧ Hid (Rd wr w.heap.size A bs) ∧ Hid (Only g w wr)) (fun _ i _ => xs.length - (intOf i).toNat)
  case atStart => exact ⟨⟨0, 0, [], Nat.zero_le _, rfl, rfl, by omega, subAt_zero _ _ _, HS.out⟩, HR.out, only_refl _ _⟩
  case round =>
    obtain ⟨⟨k, q, res, hk, rfl, rfl, hq, hat, hsg⟩, hrd, ho⟩ := hrel
    by_cases hlt : k < xs.length
    · have hlen : k < (res ++ xs.drop k).length := by rw [List.length_append, List.length_drop, hat.out.1]; omega
      have hc := hsg.out.cell hlen
      have hf := hsg.out.frozen (off + k)
      obtain ⟨x, hx⟩ : ∃ x, x = xs[k] := ⟨_, rfl⟩
      have hgx : (res ++ xs.drop k)[k]'hlen = x := by
        rw [List.getElem_append_right (by rw [hat.out.1]; exact Nat.le_refl _)]
        simp [hat.out.1, hx]
      rw [hgx] at hc
      have hx9 : x < 1000000000 := by rw [hx]; exact HX.out.get k hlt
      have hxs : Hid (val (xs.take (k + 1)) = val (xs.take k) + 1000000000 ^ k * x) := by show _ = _; rw [hx]; exact val_take_succ hlt
      have HLEN := Lib.hid hlen
      clear hx hgx hlen
      by_cases hkm : k < bs.length
      · obtain ⟨b', off', rfl, hb', hc'⟩ := hrd.out.at_ hkm
        obtain ⟨b, hb⟩ : ∃ b, b = bs[k] := ⟨_, rfl⟩
        rw [← hb] at hc'
        have hb9 : b < 1000000000 := by rw [hb]; exact HB.out.get k hkm
        have hbs : Hid (val (bs.take (k + 1)) = val (bs.take k) + 1000000000 ^ k * b) := by show _ = _; rw [hb]; exact val_take_succ hkm
        clear hb
        obtain ⟨p, hp⟩ : ∃ p, p = b * t := ⟨_, rfl⟩
        have hp1 : (b : Int) * (t : Int) = (p : Int) := by rw [hp]; simp
        have hp2 : p ≤ 999999999 * t := by rw [hp]; exact Nat.mul_le_mul_right _ (by omega)
        obtain ⟨l, hl⟩ : ∃ l, l = (q + p) % 1000000000 := ⟨_, rfl⟩
        obtain ⟨f, hf0⟩ : ∃ f, f = (q + p) / 1000000000 := ⟨_, rfl⟩
        have hl1 : ((q : Int) + (p : Int)) % 1000000000 = (l : Int) := by omega
        have hf1 : ((q : Int) + (p : Int)) / 1000000000 = (f : Int) := by omega
        have hl9 : l < 1000000000 := by omega
        have hf9 : f ≤ t := by omega
        have HP := Lib.hid hp
        have HL : Hid (q + p = 1000000000 * f + l) := by show _ = _; omega
        clear hp hl hf0
        by_cases hxl : x < l
        · have hxl' : (x : Int) < (l : Int) := by omega
          have HF : Hid (f + 1 ≤ t) := by have := HL.out; show _ ≤ _; omega
          go_wp2
          go_roundw
          case rel => exact ⟨⟨k + 1, f + 1, res ++ [x + 1000000000 - l], by omega, by go_num, by go_num, HF.out, subAt_step (s := q + p) hat.out (by omega) (by rw [HP.out]) (by have := HL.out; omega) HF.out hxs.out hbs.out, by have h := (hsg.out.set_ (z := (x : Int) + 1000000000) (v := x + 1000000000) HLEN.out (by omega)).set_ (k := k) (z := (x : Int) + 1000000000 - l) (v := x + 1000000000 - l) (by rw [List.length_set]; exact HLEN.out) (by omega); rw [setset hat.out.1 hlt] at h; exact h⟩, (hrd.out.away HA.out _ _).away HA.out _ _, only_set (only_set ho.out _ _) _ _⟩
          case measure => simp [intOf]; omega
        · have hxl' : ¬ (x : Int) < (l : Int) := by omega
          go_wp2
          go_roundw
          case rel => exact ⟨⟨k + 1, f, res ++ [x - l], by omega, by go_num, by go_num, hf9, subAt_step (s := q + p) hat.out (by omega) (by rw [HP.out]) (by have := HL.out; omega) hf9 hxs.out hbs.out, by have h := hsg.out.set_ (z := (x : Int) - l) (v := x - l) HLEN.out (by omega); rw [setone hat.out.1 hlt] at h; exact h⟩, hrd.out.away HA.out _ _, only_set ho.out _ _⟩
          case measure => simp [intOf]; omega
      · have hkm1 : ((bs.length : Nat) : Int) ≤ (k : Int) := by omega
        have hkm2 : ¬ (k : Int) < ((bs.length : Nat) : Int) := by omega
        have hbs : Hid (val (bs.take (k + 1)) = val (bs.take k) + 1000000000 ^ k * 0) := by
          show _ = _
          rw [List.take_of_length_le (by omega), List.take_of_length_le (by omega)]; simp
        by_cases hq0 : q = 0
        · subst hq0
          have HE := Lib.hid (subbed_early hat.out hk (by omega) HX.out)
          go_wp2
          go_ret
          exact ⟨_, 0, rfl, HE.out, hsg.out, ho.out⟩
        · have hq1 : ((q : Int) == 0) = false := by simpa using hq0
          have hl1 : (q : Int) % 1000000000 = (q : Int) := by omega
          have hf1 : (q : Int) / 1000000000 = 0 := by omega
          by_cases hxl : x < q
          · have hxl' : (x : Int) < (q : Int) := by omega
            go_wp2
            go_roundw
            case rel => exact ⟨⟨k + 1, 1, res ++ [x + 1000000000 - q], by omega, by go_num, by go_num, by omega, subAt_step (s := q) (b := 0) hat.out (by omega) (by omega) (by omega) (by omega) hxs.out hbs.out, by have h := (hsg.out.set_ (z := (x : Int) + 1000000000) (v := x + 1000000000) HLEN.out (by omega)).set_ (k := k) (z := (x : Int) + 1000000000 - q) (v := x + 1000000000 - q) (by rw [List.length_set]; exact HLEN.out) (by omega); rw [setset hat.out.1 hlt] at h; exact h⟩, (hrd.out.away HA.out _ _).away HA.out _ _, only_set (only_set ho.out _ _) _ _⟩
            case measure => simp [intOf]; omega
          · have hxl' : ¬ (x : Int) < (q : Int) := by omega
            go_wp2
            go_roundw
            case rel => exact ⟨⟨k + 1, 0, res ++ [x - q], by omega, by go_num, by go_num, by omega, subAt_step (s := q) (b := 0) hat.out (by omega) (by omega) (by omega) (by omega) hxs.out hbs.out, by have h := hsg.out.set_ (z := (x : Int) - q) (v := x - q) HLEN.out (by omega); rw [setone hat.out.1 hlt] at h; exact h⟩, hrd.out.away HA.out _ _, only_set ho.out _ _⟩
            case measure => simp [intOf]; omega
    · obtain rfl : k = xs.length := by omega
      have HE := Lib.hid (subbed_end hat.out hmn)
      have hsg2 : Hid (Seg wr g off pre res post) := by have h := hsg.out; rw [List.drop_length, List.append_nil] at h; exact h
      go_wp2
      go_ret
      exact ⟨_, q, ret_bool (by rw [Bool.eq_iff_iff]; simp), HE.out, hsg2.out, ho.out⟩
end Go.Proofs.YtpikbhcjgcbdfaaDoor.wh

/- Package whole: slices.Clone, difference. -/
namespace Go.Proofs.YtpikbhcjgcbdfaaDoor.wh
open Go.RowKit

/-- what Clone gives: a row of its own, which holds the digits -/
def GivesClone (W : World) (n : Nat) (xs : List Nat) (e : Ending) (w' : World) : Prop :=
  (∃ g cap post, e = .returned (.slice (some ⟨g, 0, none⟩) n cap) ∧ Seg w' g 0 [] xs post ∧ W.heap.size ≤ g ∧ n ≤ cap ∧ Below W.heap.size W w') ∨
  (∃ A cap, n = 0 ∧ e = .returned (.slice A 0 cap) ∧ Below W.heap.size W w')

theorem own_cases {w : World} {base n : Nat} {v : Value} {xs : List Nat} (h : w.ownsRow base 82 1 v n (u32s xs)) :
    (v = .slice none 0 0 ∧ n = 0) ∨ ∃ g cap post, v = .slice (some ⟨g, 0, none⟩) n cap ∧ Seg w g 0 [] xs post ∧ base ≤ g ∧ n ≤ cap := by
  obtain ⟨hl, h⟩ := h
  rcases h with h | ⟨g, cap, cur, rfl, hb, hg, hn, _, hs, ht⟩
  · exact .inl h
  · refine .inr ⟨g, cap, cur.toList.drop n, rfl, ⟨rfl, ?_⟩, hb, hn⟩
    have e : cur = ([] ++ u32s xs ++ cur.toList.drop n).toArray := by
      rw [← ht, Nat.mul_one, List.nil_append, List.take_append_drop]
    unfold Blk
    rw [← e]
    exact hg

set_option maxHeartbeats 1000000 in
set_option maxRecDepth 100000 in
theorem clone_any (A : Option Addr) (n c : Nat) (xs : List Nat) (w : World) (hl : xs.length = n) (hn : n ≤ 1000) (hr : Rd w w.heap.size A xs) :
    Calls Tryd.prog 73 #[.slice A n c] w fun e w' => GivesClone w n xs e w' := by
  obtain ⟨i0, hi, hz0, hz1, hz2⟩ := info_parts info_u32
  subst hl
  have HR := Lib.hid hr
  clear hr
  cases A with
  | none =>
    have h0 : xs.length = 0 := by
      rcases Nat.eq_zero_or_pos xs.length with h | h
      · exact h
      · obtain ⟨b, off, e, _⟩ := HR.out h
        cases e
    have H0 := Lib.hid h0
    clear h0
    have hnil : ∀ W : World, (binOp .eql 22 (.slice none xs.length c) (.slice none 0 0)).run Tryd.prog W = .ok (.bool true) W := fun W => Lib.run_eql_slice_nil W 22 82 none _ _ _ _ Tryd.underlying22
    go_enter Tryd.func73, Tryd.ntmps73
    go_wp2
    go_ret
    exact .inr ⟨none, 0, H0.out, rfl, Below.refl _ _⟩
  | some ad =>
    have hown : (w.alloc (.cells #[] 82)).ownsRow w.heap.size 82 1 (.slice (some ⟨w.heap.size, 0, none⟩) 0 0) 0 [] := World.ownsRow_made w #[] 0 (Nat.le_refl _) (by unfold maxLen; omega) rfl
    have HOWN := Lib.hid hown
    clear hown
    have hnil : ∀ W : World, (binOp .eql 22 (.slice (some ad) xs.length c) (.slice none 0 0)).run Tryd.prog W = .ok (.bool false) W := fun W => Lib.run_eql_slice_nil W 22 82 (some ad) _ _ _ _ Tryd.underlying22
    go_enter Tryd.func73, Tryd.ntmps73
    go_wp2_with (at_builtin; refine wpList_append_own _ rfl (.tmp 5) (.tmp 6) 22 rfl w.heap.size 82 i0 (.int .u32 0) 1 4 Tryd.underlying22 hi hz0 hz1 hz2 rfl (by decide) _ _ _ rfl HOWN.out ad xs.length c (u32s xs) rfl ?c0 ?c1 ?c2 ?c3 ?c4 ?c5 ?_)
    case c0 => rw [u32s_length, Nat.mul_one]
    case c1 =>
      intro j u hj
      have hjl : j < xs.length := by
        have := (List.getElem?_eq_some_iff.1 hj).1
        rwa [u32s_length] at this
      obtain ⟨b, off, e, _, hc⟩ := (HR.out.alloc (Nat.le_refl _) (.cells #[] 82)) (by omega)
      injection e with e
      subst e
      rw [u32s_get hjl] at hj
      injection hj with hj
      subst hj
      rw [← hc j hjl]
      unfold Addr.add
      by_cases hj0 : j = 0 <;> simp [hj0]
    case c2 =>
      intro v hv
      simp only [u32s, List.mem_map] at hv
      obtain ⟨_, _, rfl⟩ := hv
      rfl
    case c3 => unfold maxLen; omega
    case c4 => omega
    case c5 => simp
    intro v' w1 hown' hgrow hnn
    have hb1 : Below w.heap.size w w1 := ((Below.refl _ _).alloc (Nat.le_refl _) _).grown hgrow (by simp) (fun g hg => by simp [Value.ownBlock] at hg; omega)
    have HOWN' := Lib.hid hown'
    clear hown' hgrow hnn
    go_wp2
    go_ret
    rcases own_cases HOWN'.out with ⟨rfl, h⟩ | ⟨g, cap, post, rfl, hsg, hg, hcap⟩
    · exact .inr ⟨none, 0, h, rfl, hb1⟩
    · exact .inl ⟨g, cap, post, rfl, hsg, hg, hcap, hb1⟩

theorem subtract_none (A B : Option Addr) (c d t : Nat) (w : World) :
    Calls Tryd.prog 95 #[.slice A 0 c, .slice B 0 d, .int .u64 t] w fun e w' => e = .returned (.bool false) ∧ w = w' := by
  go_enter Tryd.func95, Tryd.ntmps95
  go_wp2
  go_loop [7, 13] (fun u i => u = .int .u64 0 ∧ i = .int .i64 0) (fun _ _ => 0)
  case atStart => exact ⟨rfl, rfl⟩
  case round =>
    obtain ⟨rfl, rfl⟩ := hrel
    go_wp2
    go_ret
    exact ⟨rfl, rfl⟩

theorem diff_done {xs bs ys : List Nat} {q : Nat} (h : Subbed xs bs 1 ys q) (hle : val bs ≤ val xs) : val ys = val xs - val bs := by
  obtain ⟨h1, h2, h3, h4⟩ := h
  have hlt := val_lt h2
  rw [h1] at hlt
  rcases Nat.eq_zero_or_pos q with e | e
  · subst e; omega
  · obtain rfl : q = 1 := by omega
    omega

set_option maxRecDepth 100000 in
set_option maxHeartbeats 1000000 in
theorem difference_any (A B : Option Addr) (n c m d : Nat) (xs bs : List Nat) (w : World) (hlx : xs.length = n) (hlb : bs.length = m) (hn : n ≤ 1000) (hmn : m ≤ n) (hle : val bs ≤ val xs)
    (ha : Rd w w.heap.size A xs) (hb : Rd w w.heap.size B bs) (hdx : Dig xs) (hdb : Dig bs) :
    Calls Tryd.prog 65 #[.slice A n c, .slice B m d] w fun e w' => GivesRow w n (val xs - val bs) e w' := by
  have HRA := Lib.hid ha
  have HRB := Lib.hid hb
  have HX := Lib.hid hdx
  have HB := Lib.hid hdb
  have HLX := Lib.hid hlx
  have HLB := Lib.hid hlb
  have HLE := Lib.hid hle
  clear ha hb hdx hdb hlx hlb hle
  go_enter Tryd.func65, Tryd.ntmps65
  go_wp2_with fail
  refine (clone_any A n c xs w HLX.out hn HRA.out).mono ?_
  rintro e w1 (⟨g, cap, post, rfl, hsg, hg, hcap, hb1⟩ | ⟨A', cap, h0, rfl, hb1⟩)
  · have HSG := Lib.hid hsg
    clear hsg
    go_wp2_with fail
    refine (subtract_any g 0 n cap m d 1 [] post B xs bs w1 HLX.out HLB.out hmn (by unfold maxLen; omega) (by omega) HSG.out (HRB.out.over hb1) (by have h := HRB.out.away_of hg; rw [HLB.out] at h; exact h) HX.out HB.out).mono ?_
    rintro e w2 ⟨ys, q, rfl, hsub, hseg, honly⟩
    have HSUB := Lib.hid hsub
    clear hsub
    go_wp2
    go_ret
    exact ⟨_, _, ys, rfl, by rw [HSUB.out.1, HLX.out], hcap, hseg.rd, HSUB.out.2.1, diff_done HSUB.out HLE.out, only_below hb1 honly hb1.size hg⟩
  · subst h0
    obtain rfl : m = 0 := by omega
    go_wp2_with fail
    refine (subtract_none _ _ _ _ 1 _).mono ?_
    rintro e w' ⟨rfl, rfl⟩
    go_wp2
    go_ret
    have hx := List.eq_nil_of_length_eq_zero HLX.out
    subst hx
    exact ⟨_, _, [], rfl, rfl, Nat.zero_le _, Rd.nil, Dig.nil, by simp [val], hb1⟩
end Go.Proofs.YtpikbhcjgcbdfaaDoor.wh

/- Package whole: product. -/
namespace Go.Proofs.YtpikbhcjgcbdfaaDoor.wh
open Go.RowKit

theorem val_set {ds : List Nat} {k v : Nat} (hk : k < ds.length) : val (ds.set k v) + 1000000000 ^ k * ds[k] = val ds + 1000000000 ^ k * v := by
  have e : ds.set k v = ds.take k ++ v :: ds.drop (k + 1) := by
    conv => lhs; rw [show ds = ds.take k ++ ds[k] :: ds.drop (k + 1) by simp]
    rw [List.set_append_right _ _ (by rw [List.length_take]; omega), List.length_take, Nat.min_eq_left (by omega), Nat.sub_self, List.set_cons_zero]
  have e2 : val ds = val (ds.take k ++ ds[k] :: ds.drop (k + 1)) := by simp
  rw [e, e2, val_append, val_append, List.length_take, Nat.min_eq_left (by omega)]
  simp only [val, Nat.mul_add]
  omega
theorem Dig.set {ds : List Nat} (h : Dig ds) {k v : Nat} (hv : v < 1000000000) : Dig (ds.set k v) := fun x hx => by
  rcases List.mem_or_eq_of_mem_set hx with h1 | h1
  · exact h x h1
  · omega

/-- what stands in out ahead of row i: the product of the digits so far, noughts behind it -/
def ProdAt (xs bs : List Nat) (i : Nat) (cur : List Nat) : Prop :=
  cur.length = xs.length + bs.length ∧ Dig cur ∧ cur.drop (i + bs.length) = List.replicate (xs.length - i) 0 ∧ val cur = val (xs.take i) * val bs
/-- within row i, ahead of place j -/
def RowAt (xs bs : List Nat) (i x j : Nat) (was cur : List Nat) (q : Nat) : Prop :=
  cur.length = xs.length + bs.length ∧ Dig cur ∧ q < 1000000000 ∧ cur.drop (i + j) = was.drop (i + j) ∧ val cur + 1000000000 ^ (i + j) * q = val was + 1000000000 ^ i * (x * val (bs.take j))
theorem prodAt_zero (xs bs : List Nat) : ProdAt xs bs 0 (List.replicate (xs.length + bs.length) 0) := by
  refine ⟨by simp, Dig.replicate _, ?_, by simp [val_zeros, val]⟩
  simp
theorem rowAt_zero {xs bs was : List Nat} {i : Nat} (x : Nat) (h : ProdAt xs bs i was) : RowAt xs bs i x 0 was was 0 :=
  ⟨h.1, h.2.1, by omega, rfl, by simp [val]⟩
theorem rowAt_step {xs bs was cur : List Nat} {i x j q o p l f y : Nat} (h : RowAt xs bs i x j was cur q) (hk : i + j < cur.length) (ho : o = cur[i + j]) (hp : p = x * y) (hl : p + o + q = 1000000000 * f + l) (hl9 : l < 1000000000) (hf9 : f < 1000000000)
    (hbs : val (bs.take (j + 1)) = val (bs.take j) + 1000000000 ^ j * y) : RowAt xs bs i x (j + 1) was (cur.set (i + j) l) f := by
  obtain ⟨h1, h2, h3, h4, h5⟩ := h
  refine ⟨by simp [h1], h2.set hl9, hf9, ?_, ?_⟩
  · rw [List.drop_set_of_lt (by omega)]
    have := congrArg (List.drop 1) h4
    simpa [List.drop_drop, Nat.add_assoc] using this
  · have hv := val_set (v := l) hk
    rw [← ho] at hv
    have e1 : 1000000000 ^ (i + (j + 1)) * f = 1000000000 ^ (i + j) * (1000000000 * f) := by rw [← Nat.add_assoc, Nat.pow_succ, Nat.mul_assoc]
    have e2 : 1000000000 ^ i * (x * val (bs.take (j + 1))) = 1000000000 ^ i * (x * val (bs.take j)) + 1000000000 ^ (i + j) * p := by
      rw [hbs, Nat.mul_add, Nat.mul_add, hp, Nat.pow_add]
      congr 1
      rw [Nat.mul_left_comm x, Nat.mul_assoc]
    have e3 : 1000000000 ^ (i + j) * (p + o + q) = 1000000000 ^ (i + j) * (1000000000 * f) + 1000000000 ^ (i + j) * l := by rw [hl, Nat.mul_add]
    rw [Nat.mul_add, Nat.mul_add] at e3
    omega
theorem prodAt_step {xs bs was cur : List Nat} {i x q : Nat} (h0 : ProdAt xs bs i was) (h : RowAt xs bs i x bs.length was cur q) (hi : i < xs.length) (hx : x = xs[i]) : ProdAt xs bs (i + 1) (cur.set (i + bs.length) q) := by
  obtain ⟨h1, h2, h3, h4⟩ := h0
  obtain ⟨g1, g2, g3, g4, g5⟩ := h
  have hk : i + bs.length < cur.length := by omega
  have hz : cur[i + bs.length] = 0 := by
    have e : cur.drop (i + bs.length) = List.replicate (xs.length - i) 0 := by rw [g4, h3]
    rw [List.drop_eq_getElem_cons hk, show xs.length - i = (xs.length - i - 1) + 1 by omega, List.replicate_succ] at e
    injection e
  refine ⟨by simp [g1], g2.set g3, ?_, ?_⟩
  · rw [List.drop_set_of_lt (by omega)]
    have e : cur.drop (i + bs.length) = List.replicate (xs.length - i) 0 := by rw [g4, h3]
    have := congrArg (List.drop 1) e
    rw [List.drop_drop] at this
    rw [show i + 1 + bs.length = i + bs.length + 1 by omega, this]
    simp
    omega
  · have hv := val_set (v := q) hk
    rw [hz] at hv
    rw [List.take_of_length_le (Nat.le_refl _)] at g5
    rw [val_take_succ hi, ← hx, Nat.add_mul, ← h4, Nat.mul_assoc]
    omega

set_option maxRecDepth 100000 in
set_option maxHeartbeats 1000000 in
theorem product_any (A B : Option Addr) (n c m d : Nat) (xs bs : List Nat) (w : World) (hlx : xs.length = n) (hlb : bs.length = m) (hn : n ≤ 1000) (hm : m ≤ 1000)
    (ha : Rd w w.heap.size A xs) (hb : Rd w w.heap.size B bs) (hdx : Dig xs) (hdb : Dig bs) :
    Calls Tryd.prog 72 #[.slice A n c, .slice B m d] w fun e w' => GivesRow w (n + m) (val xs * val bs) e w' := by
  subst hlx
  subst hlb
  have HRA := Lib.hid ha
  have HRB := Lib.hid hb
  have HX := Lib.hid hdx
  have HB := Lib.hid hdb
  clear ha hb hdx hdb
  have hmk := run_make_u32 (z := (xs.length : Int) + (bs.length : Int)) (n := xs.length + bs.length) (by omega) (by omega)
  have HSZ : Hid (Seg (w.alloc (.cells (zeros (xs.length + bs.length)) 82)) w.heap.size 0 [] (List.replicate (xs.length + bs.length) 0) []) := seg_zeros w _
  have HBW : Hid (Below w.heap.size w (w.alloc (.cells (zeros (xs.length + bs.length)) 82))) := (Below.refl _ _).alloc (Nat.le_refl _) _
  go_enter Tryd.func72, Tryd.ntmps72
  go_wp2
  go_loopw [20] (fun i wr => (∃ (k : Nat) (cur : List Nat), k ≤ xs.length ∧ i = .int .i64 k ∧ Hid (ProdAt xs bs k cur) ∧ Hid (Seg wr w.heap.size 0 [] cur [])) ∧ Hid (Below w.heap.size w wr)) (fun i _ => xs.length - (intOf i).toNat)
  case atStart => exact ⟨⟨0, _, Nat.zero_le _, rfl, prodAt_zero _ _, HSZ.out⟩, HBW⟩
  case round =>
    obtain ⟨⟨i, was, hi, rfl, hat, hsg⟩, hbw⟩ := hrel
    by_cases hlt : i < xs.length
    · obtain ⟨ba, offa, rfl, hba, hca⟩ := (HRA.out.below hbw.out).at_ hlt
      obtain ⟨x, hx⟩ : ∃ x, x = xs[i] := ⟨_, rfl⟩
      rw [← hx] at hca
      have hx9 : x < 1000000000 := by rw [hx]; exact HX.out.get i hlt
      have HXI := Lib.hid hx
      clear hx
      go_wp2
      go_loopw [8, 27] (fun u jv wi => (∃ (j q : Nat) (cur : List Nat), j ≤ bs.length ∧ u = .int .u64 q ∧ jv = .int .i64 j ∧ q < 1000000000 ∧ Hid (RowAt xs bs i x j was cur q) ∧ Hid (Seg wi w.heap.size 0 [] cur [])) ∧ Hid (Below w.heap.size w wi)) (fun _ jv _ => bs.length - (intOf jv).toNat)
      case atStart => exact ⟨⟨0, 0, was, Nat.zero_le _, rfl, rfl, by omega, rowAt_zero x hat.out, hsg.out⟩, hbw.out⟩
      case round =>
        obtain ⟨⟨j, q, cur, hj, rfl, rfl, hq9, hrow, hsi⟩, hbi⟩ := hrel
        by_cases hjl : j < bs.length
        · have hk : i + j < cur.length := by rw [hrow.out.1]; omega
          have hc := hsi.out.cell hk
          have hf := hsi.out.frozen (i + j)
          rw [Nat.zero_add] at hc
          obtain ⟨o, ho⟩ : ∃ o, o = cur[i + j] := ⟨_, rfl⟩
          rw [← ho] at hc
          have ho9 : o < 1000000000 := by rw [ho]; exact hrow.out.2.1.get _ hk
          obtain ⟨bb, offb, rfl, hbb, hcb⟩ := (HRB.out.below hbi.out).at_ hjl
          obtain ⟨y, hy⟩ : ∃ y, y = bs[j] := ⟨_, rfl⟩
          rw [← hy] at hcb
          have hy9 : y < 1000000000 := by rw [hy]; exact HB.out.get j hjl
          have hbs : Hid (val (bs.take (j + 1)) = val (bs.take j) + 1000000000 ^ j * y) := by show _ = _; rw [hy]; exact val_take_succ hjl
          obtain ⟨p, hp⟩ : ∃ p, p = x * y := ⟨_, rfl⟩
          have hp1 : (x : Int) * (y : Int) = (p : Int) := by rw [hp]; simp
          have hp2 : p ≤ 999999999 * 999999999 := by rw [hp]; exact Nat.mul_le_mul (by omega) (by omega)
          obtain ⟨l, hl⟩ : ∃ l, l = (p + o + q) % 1000000000 := ⟨_, rfl⟩
          obtain ⟨f, hf0⟩ : ∃ f, f = (p + o + q) / 1000000000 := ⟨_, rfl⟩
          have hl1 : ((p : Int) + (o : Int) + (q : Int)) % 1000000000 = (l : Int) := by omega
          have hf1 : ((p : Int) + (o : Int) + (q : Int)) / 1000000000 = (f : Int) := by omega
          have hl9 : l < 1000000000 := by omega
          have hf9 : f < 1000000000 := by omega
          have hsum : (p : Int) + (o : Int) + (q : Int) ≤ 18446744073709551615 := by omega
          have HO := Lib.hid ho
          have HP := Lib.hid hp
          have HL : Hid (p + o + q = 1000000000 * f + l) := by show _ = _; omega
          clear hp hl hf0 hp2 ho hy
          go_wp2
          go_roundw
          case rel => exact ⟨⟨j + 1, f, _, by omega, by go_num, by go_num, hf9, rowAt_step hrow.out hk HO.out HP.out HL.out hl9 hf9 hbs.out, by have h := hsi.out.set_ (z := (l : Int)) (v := l) hk rfl; rw [Nat.zero_add] at h; exact h⟩, hbi.out.setCell (p := ⟨w.heap.size, i + j, none⟩) (Nat.le_refl _) _⟩
          case measure => simp [intOf]; omega
        · obtain rfl : j = bs.length := by omega
          have hk : i + bs.length < cur.length := by rw [hrow.out.1]; omega
          have hc := hsi.out.cell hk
          have hf := hsi.out.frozen (i + bs.length)
          rw [Nat.zero_add] at hc
          go_wp2
          go_roundw
          case rel => exact ⟨⟨i + 1, _, by omega, by go_num, prodAt_step hat.out hrow.out hlt HXI.out, by have h := hsi.out.set_ (z := (q : Int)) (v := q) hk rfl; rw [Nat.zero_add] at h; exact h⟩, hbi.out.setCell (p := ⟨w.heap.size, i + bs.length, none⟩) (Nat.le_refl _) _⟩
          case measure => simp [intOf]; omega
    · obtain rfl : i = xs.length := by omega
      go_wp2
      go_ret
      exact ⟨_, _, was, rfl, hat.out.1, Nat.le_refl _, hsg.out.rd, hat.out.2.1, by rw [hat.out.2.2.2, List.take_of_length_le (Nat.le_refl _)], hbw.out⟩
end Go.Proofs.YtpikbhcjgcbdfaaDoor.wh

/- Package whole: Cmp, Add, Neg, Mul. -/
namespace Go.Proofs.YtpikbhcjgcbdfaaDoor.wh
open Go.RowKit

/-- two variables of type api.Int, in a world that has kept what was there as the call began -/
structure Two (w : World) (g : Nat) (x : Bool) (a : Option Addr) (n c : Nat) (g' : Nat) (x' : Bool) (a' : Option Addr) (n' c' : Nat) (w' : World) : Prop where
  below : Below w.heap.size w w'
  one : Box w' g x a n c
  two : Box w' g' x' a' n' c'
  le : w.heap.size ≤ g ∧ w.heap.size ≤ g' ∧ g ≠ g'
section
variable {w w' w1 : World} {g g' n n' c c' : Nat} {x x' : Bool} {a a' : Option Addr}
theorem Two.all (h : Two w g x a n c g' x' a' n' c' w') : (w'.cell? ⟨g, 0, none⟩ = some (.bool x) ∧ w'.cell? ⟨g, 1, none⟩ = some (.slice a n c) ∧ w'.cell? ⟨g', 0, none⟩ = some (.bool x') ∧ w'.cell? ⟨g', 1, none⟩ = some (.slice a' n' c')) ∧
    (w'.frozen? ⟨g, 0, none⟩ = false ∧ w'.frozen? ⟨g, 1, none⟩ = false ∧ w'.frozen? ⟨g', 0, none⟩ = false ∧ w'.frozen? ⟨g', 1, none⟩ = false) ∧ Hid (Two w g x a n c g' x' a' n' c' w') :=
  ⟨⟨h.one.c0, h.one.c1, h.two.c0, h.two.c1⟩, ⟨h.one.f0, h.one.f1, h.two.f0, h.two.f1⟩, h⟩
theorem Two.get {P Q : Prop} (h : P ∧ Q ∧ Hid (Two w g x a n c g' x' a' n' c' w')) : Two w g x a n c g' x' a' n' c' w' := h.2.2
theorem Two.over (hb : Below w'.heap.size w' w1) (h : Two w g x a n c g' x' a' n' c' w') : Two w g x a n c g' x' a' n' c' w1 :=
  ⟨h.below.trans (hb.mono h.below.size), h.one.over hb, h.two.over hb, h.le⟩
theorem Two.put1 (h : Two w g x a n c g' x' a' n' c' w') : Two w g x a n c g' x' a' n' c' (put2 w' g x a n c) :=
  ⟨below_put h.below h.le.1 _ _ _ _, h.one.put _ _ _ _, h.two.far (fun e => h.le.2.2 e.symm) _ _ _ _, h.le⟩
theorem Two.put2 (h : Two w g x a n c g' x' a' n' c' w') : Two w g x a n c g' x' a' n' c' (wh.put2 w' g' x' a' n' c') :=
  ⟨below_put h.below h.le.2.1 _ _ _ _, h.one.far h.le.2.2 _ _ _ _, h.two.put _ _ _ _, h.le⟩
theorem Two.drew (h : Two w g x a n c g' x' a' n' c' w') : Two w g x a n c g' x' a' n' c' w'.drew := ⟨h.below.drew, h.one.drew, h.two.drew, h.le⟩
end

theorem cmpN_zval (nx ny : Bool) (xs ys : List Nat) (hx : rightB nx xs = true) (hy : rightB ny ys = true) :
    cmpZ (zval nx xs) (zval ny ys) = (if nx && ny then cmpN (val ys) (val xs) else if nx then -1 else if ny then 1 else cmpN (val xs) (val ys)) := by
  have pos : ∀ {zs : List Nat}, rightB true zs = true → 0 < val zs := fun {zs} h => by
    have hn : zs ≠ [] := fun e => by subst e; simp [rightB] at h
    have h1 := top_ge (right_top h) hn
    have h2 : 0 < 1000000000 ^ (zs.length - 1) := Nat.pow_pos (by omega)
    omega
  cases nx with
  | true =>
    have h1 := pos hx
    cases ny with
    | true =>
      simp only [zval, if_true, Bool.and_true, cmpZ, cmpN]
      repeat' split
      all_goals first | rfl | omega
    | false =>
      simp [zval, cmpZ]
      omega
  | false =>
    cases ny with
    | true =>
      have h1 := pos hy
      simp [zval, cmpZ]
      repeat' split
      all_goals first | rfl | omega
    | false =>
      simp [zval, cmpZ, cmpN]

set_option maxRecDepth 100000 in
set_option maxHeartbeats 1000000 in
theorem cmp_any (v u : Value) (p q : Nat) (a b : Int) (w : World) (hp : p ≤ 1000) (hq : q ≤ 1000) (hx : IsInt w w.heap.size p v a) (hy : IsInt w w.heap.size q u b) :
    Calls Tryd.prog 26 #[v, u] w fun e w' => e = .returned (.int .i64 (cmpZ a b)) ∧ Below w.heap.size w w' := by
  obtain ⟨nx, A, n, c, xs, rfl, hlx, hrx, hnx, hcx, hRx, hzx⟩ := hx
  obtain ⟨ny, B, m, d, ys, rfl, hly, hry, hny, hcy, hRy, hzy⟩ := hy
  have HLX := Lib.hid hlx
  have HLY := Lib.hid hly
  have HRX := Lib.hid hrx
  have HRY := Lib.hid hry
  have HX := Lib.hid hRx
  have HY := Lib.hid hRy
  have HZ : Hid (cmpZ a b = (if nx && ny then cmpN (val ys) (val xs) else if nx then -1 else if ny then 1 else cmpN (val xs) (val ys))) := by
    show _ = _
    rw [← hzx, ← hzy]
    exact cmpN_zval nx ny xs ys hRx hRy
  have HN : Hid (xs.length ≤ maxLen ∧ ys.length ≤ maxLen) := by constructor <;> unfold maxLen <;> omega
  clear hlx hly hrx hry hRx hRy hzx hzy
  have HT : Hid (Two w w.heap.size nx A n c (w.heap.size + 1) ny B m d ((w.alloc (.cells #[.bool nx, .slice A n c] 24)).alloc (.cells #[.bool ny, .slice B m d] 24))) :=
    ⟨((Below.refl _ _).alloc (Nat.le_refl _) _).alloc (by simp) _, (Box.new _ _ _ _ _).alloc _, by have h := Box.new (w.alloc (.cells #[.bool nx, .slice A n c] 24)) ny B m d; rwa [World.size_alloc] at h, Nat.le_refl _, by omega, by omega⟩
  go_enter Tryd.func26, Tryd.ntmps26
  go_wp2
  go_region_held3 (fun w' => (w'.cell? ⟨w.heap.size, 0, none⟩ = some (.bool nx) ∧ w'.cell? ⟨w.heap.size, 1, none⟩ = some (.slice A n c) ∧ w'.cell? ⟨w.heap.size + 1, 0, none⟩ = some (.bool ny) ∧ w'.cell? ⟨w.heap.size + 1, 1, none⟩ = some (.slice B m d)) ∧
    (w'.frozen? ⟨w.heap.size, 0, none⟩ = false ∧ w'.frozen? ⟨w.heap.size, 1, none⟩ = false ∧ w'.frozen? ⟨w.heap.size + 1, 0, none⟩ = false ∧ w'.frozen? ⟨w.heap.size + 1, 1, none⟩ = false) ∧ Hid (Two w w.heap.size nx A n c (w.heap.size + 1) ny B m d w'))
    (first | (with_reducible exact HT.out.drew.all) | (with_reducible exact (Two.over hb (Two.get (by assumption))).all) | (with_reducible exact (Two.put1 (Two.get (by assumption))).all) | (with_reducible exact (Two.put2 (Two.get (by assumption))).all))
    (first
      | (go_at_call_of 62 A; refine (clean_any nx A n c xs _ HLX.out HN.out.1 (HRX.out.below (Two.get (by assumption)).below |>.more (Two.get (by assumption)).below.size) HX.out).mono ?_; rintro e w1 ⟨rfl, hb⟩)
      | (go_at_call_of 62 B; refine (clean_any ny B m d ys _ HLY.out HN.out.2 (HRY.out.below (Two.get (by assumption)).below |>.more (Two.get (by assumption)).below.size) HY.out).mono ?_; rintro e w1 ⟨rfl, hb⟩))
  generalize ((((w1.setCell ⟨w.heap.size, 0, none⟩ (.bool nx)).setCell ⟨w.heap.size, 1, none⟩ (.slice A n c)).setCell ⟨w.heap.size + 1, 0, none⟩ (.bool ny)).setCell ⟨w.heap.size + 1, 1, none⟩ (.slice B m d)) = W at *
  have HE : Hid (Two w w.heap.size nx A n c (w.heap.size + 1) ny B m d W) := Two.get (by assumption)
  have hbe := HE.out.below
  have HXW : Hid (Rd W W.heap.size A xs) := (HRX.out.below hbe).more hbe.size
  have HYW : Hid (Rd W W.heap.size B ys) := (HRY.out.below hbe).more hbe.size
  cases nx with
  | true =>
    cases ny with
    | true =>
      go_wp2_with fail
      refine (compare_any B A m n d c ys xs W HLY.out HLX.out HN.out.2 HYW.out HXW.out (right_dig HY.out) (right_dig HX.out) (right_top HY.out) (right_top HX.out)).mono ?_
      rintro e w2 ⟨rfl, hb2⟩
      go_wp2
      go_ret
      exact ⟨ret_int (by rw [HZ.out]; rfl), hbe.trans (hb2.mono hbe.size)⟩
    | false =>
      go_wp2
      go_ret
      exact ⟨ret_int (by rw [HZ.out]; rfl), hbe⟩
  | false =>
    cases ny with
    | true =>
      go_wp2
      go_ret
      exact ⟨ret_int (by rw [HZ.out]; rfl), hbe⟩
    | false =>
      go_wp2_with fail
      refine (compare_any A B n m c d xs ys W HLX.out HLY.out HN.out.1 HXW.out HYW.out (right_dig HX.out) (right_dig HY.out) (right_top HX.out) (right_top HY.out)).mono ?_
      rintro e w2 ⟨rfl, hb2⟩
      go_wp2
      go_ret
      exact ⟨ret_int (by rw [HZ.out]; rfl), hbe.trans (hb2.mono hbe.size)⟩
end Go.Proofs.YtpikbhcjgcbdfaaDoor.wh

/- Package whole: Add, Neg, Mul. -/
namespace Go.Proofs.YtpikbhcjgcbdfaaDoor.wh
open Go.RowKit

/-- what a cell holds -/
def cellOf (w : World) (g i : Nat) : Value := (w.cell? ⟨g, i, none⟩).getD undef

/-- two variables that are known, and a third one that is there -/
structure Three (w : World) (g : Nat) (x : Bool) (a : Option Addr) (n c : Nat) (g' : Nat) (x' : Bool) (a' : Option Addr) (n' c' : Nat) (r : Nat) (w' : World) : Prop where
  below : Below w.heap.size w w'
  one : Box w' g x a n c
  two : Box w' g' x' a' n' c'
  res : ∃ y b m d, Box w' r y b m d
  le : w.heap.size ≤ g ∧ w.heap.size ≤ g' ∧ w.heap.size ≤ r ∧ g ≠ g' ∧ g ≠ r ∧ g' ≠ r
section
variable {w w' w1 : World} {g g' n n' c c' r : Nat} {x x' : Bool} {a a' : Option Addr}
theorem cellOf_box {y : Bool} {b : Option Addr} {m d : Nat} (h : Box w r y b m d) : w.cell? ⟨r, 0, none⟩ = some (cellOf w r 0) ∧ w.cell? ⟨r, 1, none⟩ = some (cellOf w r 1) := by
  unfold cellOf
  rw [h.c0, h.c1]
  exact ⟨rfl, rfl⟩
theorem Three.all (h : Three w g x a n c g' x' a' n' c' r w') : (w'.cell? ⟨g, 0, none⟩ = some (.bool x) ∧ w'.cell? ⟨g, 1, none⟩ = some (.slice a n c) ∧ w'.cell? ⟨g', 0, none⟩ = some (.bool x') ∧ w'.cell? ⟨g', 1, none⟩ = some (.slice a' n' c') ∧ w'.cell? ⟨r, 0, none⟩ = some (cellOf w' r 0) ∧ w'.cell? ⟨r, 1, none⟩ = some (cellOf w' r 1)) ∧
    (w'.frozen? ⟨g, 0, none⟩ = false ∧ w'.frozen? ⟨g, 1, none⟩ = false ∧ w'.frozen? ⟨g', 0, none⟩ = false ∧ w'.frozen? ⟨g', 1, none⟩ = false ∧ w'.frozen? ⟨r, 0, none⟩ = false ∧ w'.frozen? ⟨r, 1, none⟩ = false) ∧ Hid (Three w g x a n c g' x' a' n' c' r w') := by
  obtain ⟨y, b, m, d, hr⟩ := h.res
  exact ⟨⟨h.one.c0, h.one.c1, h.two.c0, h.two.c1, cellOf_box hr⟩, ⟨h.one.f0, h.one.f1, h.two.f0, h.two.f1, hr.f0, hr.f1⟩, h⟩
theorem Three.get {P Q : Prop} (h : P ∧ Q ∧ Hid (Three w g x a n c g' x' a' n' c' r w')) : Three w g x a n c g' x' a' n' c' r w' := h.2.2
theorem Three.over (hb : Hid (Below w'.heap.size w' w1)) (h : Three w g x a n c g' x' a' n' c' r w') : Three w g x a n c g' x' a' n' c' r w1 := by
  obtain ⟨y, b, m, d, hr⟩ := h.res
  exact ⟨h.below.trans (hb.out.mono h.below.size), h.one.over hb.out, h.two.over hb.out, ⟨y, b, m, d, hr.over hb.out⟩, h.le⟩
theorem Three.put1 (h : Three w g x a n c g' x' a' n' c' r w') (y : Bool) (b : Option Addr) (m d : Nat) : Three w g y b m d g' x' a' n' c' r (put2 w' g y b m d) := by
  obtain ⟨y', b', m', d', hr⟩ := h.res
  obtain ⟨l1, l2, l3, l4, l5, l6⟩ := h.le
  exact ⟨below_put h.below l1 _ _ _ _, h.one.put _ _ _ _, h.two.far (fun e => l4 e.symm) _ _ _ _, ⟨y', b', m', d', hr.far (fun e => l5 e.symm) _ _ _ _⟩, h.le⟩
theorem Three.put2 (h : Three w g x a n c g' x' a' n' c' r w') (y : Bool) (b : Option Addr) (m d : Nat) : Three w g x a n c g' y b m d r (wh.put2 w' g' y b m d) := by
  obtain ⟨y', b', m', d', hr⟩ := h.res
  obtain ⟨l1, l2, l3, l4, l5, l6⟩ := h.le
  exact ⟨below_put h.below l2 _ _ _ _, h.one.far l4 _ _ _ _, h.two.put _ _ _ _, ⟨y', b', m', d', hr.far (fun e => l6 e.symm) _ _ _ _⟩, h.le⟩
theorem Three.put3 (h : Three w g x a n c g' x' a' n' c' r w') (y : Bool) (b : Option Addr) (m d : Nat) : Three w g x a n c g' x' a' n' c' r (wh.put2 w' r y b m d) := by
  obtain ⟨y', b', m', d', hr⟩ := h.res
  obtain ⟨l1, l2, l3, l4, l5, l6⟩ := h.le
  exact ⟨below_put h.below l3 _ _ _ _, h.one.far l5 _ _ _ _, h.two.far l6 _ _ _ _, ⟨_, _, _, _, hr.put _ _ _ _⟩, h.le⟩
theorem Three.drew (h : Three w g x a n c g' x' a' n' c' r w') : Three w g x a n c g' x' a' n' c' r w'.drew := by
  obtain ⟨y, b, m, d, hr⟩ := h.res
  exact ⟨h.below.drew, h.one.drew, h.two.drew, ⟨y, b, m, d, hr.drew⟩, h.le⟩
/-- an integer that a callee gave, behind the store into the third variable -/
theorem Three.int3 {B m : Nat} {v : Value} {z : Int} (h : Three w g x a n c g' x' a' n' c' r w') (hi : IsInt w' B m v z) (y : Bool) (b : Option Addr) (k d : Nat) : IsInt (wh.put2 w' r y b k d) B m v z := by
  obtain ⟨y', b', m', d', hr⟩ := h.res
  exact hi.put hr _ _ _ _
end

/-- the slice reads as digits of the number v -/
def RowIs (w : World) (A : Option Addr) (n c v : Nat) : Prop := ∃ ds, ds.length = n ∧ n ≤ c ∧ Rd w w.heap.size A ds ∧ Dig ds ∧ val ds = v
def GivesR (W : World) (n v : Nat) (e : Ending) (w' : World) : Prop := ∃ A c, e = .returned (.slice A n c) ∧ Hid (RowIs w' A n c v) ∧ Hid (Below W.heap.size W w')
theorem GivesRow.hid {W w' : World} {n v : Nat} {e : Ending} (h : GivesRow W n v e w') : GivesR W n v e w' := by
  obtain ⟨A, c, ds, h1, h2, h3, h4, h5, h6, h7⟩ := h
  exact ⟨A, c, h1, ⟨ds, h2, h3, h4, h5, h6⟩, h7⟩
theorem RowIs.over {w w' : World} {A : Option Addr} {n c v : Nat} (h : RowIs w A n c v) (hb : Below w.heap.size w w') : RowIs w' A n c v := by
  obtain ⟨ds, h1, h2, h3, h4⟩ := h
  exact ⟨ds, h1, h2, h3.over hb, h4⟩
/-- an integer of known cells -/
def GivesZ (W : World) (m : Nat) (z : Int) (e : Ending) (w' : World) : Prop := ∃ neg A n c, e = .returned (.agg #[.bool neg, .slice A n c]) ∧ Hid (IsInt w' w'.heap.size m (.agg #[.bool neg, .slice A n c]) z) ∧ Hid (Below W.heap.size W w')
theorem GivesInt.hid {W w' : World} {B m : Nat} {z : Int} {e : Ending} (h : GivesInt W B m z e w') (hB : B ≤ w'.heap.size) : GivesZ W m z e w' := by
  obtain ⟨v, rfl, hi, hb⟩ := h
  have hi2 := hi.more hB (Nat.le_refl m)
  obtain ⟨neg, A, n, c, ds, rfl, h2⟩ := hi
  exact ⟨neg, A, n, c, rfl, hi2, hb⟩
def sgn (neg : Bool) (v : Nat) : Int := if neg then -(v : Int) else (v : Int)
theorem signed_row (neg : Bool) (A : Option Addr) (n c v : Nat) (w : World) (hn : n ≤ 10000) (hr : RowIs w A n c v) :
    Calls Tryd.prog 66 #[.bool neg, .slice A n c] w fun e w' => GivesZ w n (sgn neg v) e w' := by
  obtain ⟨ds, h1, h2, h3, h4, h5⟩ := hr
  refine (signed_any neg A n c ds w h1 (by unfold maxLen; omega) (by omega) h3 h4).mono fun e w' h => ?_
  have hb := h
  obtain ⟨_, _, _, hb⟩ := hb
  have hz : zval neg ds = sgn neg v := by unfold zval sgn; rw [h5]
  rw [← hz]
  exact h.hid hb.size

/-- what of an integer's cells the walks use -/
structure Cells (w : World) (n c : Nat) (neg : Bool) (A : Option Addr) (ds : List Nat) : Prop where
  len : ds.length = n
  rd : Rd w w.heap.size A ds
  cap : n ≤ c
  right : rightB neg ds = true
theorem Cells.over {w w' : World} {n c : Nat} {neg : Bool} {A : Option Addr} {ds : List Nat} (h : Cells w n c neg A ds) (hb : Below w.heap.size w w') : Cells w' n c neg A ds := ⟨h.len, h.rd.over hb, h.cap, h.right⟩
theorem clean_cells {neg : Bool} {A : Option Addr} {n c : Nat} {ds : List Nat} {w0 w : World} (h : Cells w0 n c neg A ds) (hn : n ≤ 10000) (hb : Below w0.heap.size w0 w) :
    Calls Tryd.prog 62 #[.agg #[.bool neg, .slice A n c]] w fun e w' => e = .returned (.agg #[.bool neg, .slice A n c]) ∧ Hid (Below w.heap.size w w') :=
  clean_any neg A n c ds w h.len (by rw [h.len]; unfold maxLen; omega) (h.over hb).rd h.right
theorem sum_cells {nx ny : Bool} {A B : Option Addr} {n c m d : Nat} {xs ys : List Nat} {w0 w : World} (hx : Cells w0 n c nx A xs) (hy : Cells w0 m d ny B ys) (hn : n ≤ 1000) (hm : m ≤ 1000) (hb : Below w0.heap.size w0 w) :
    Calls Tryd.prog 64 #[.slice A n c, .slice B m d] w fun e w' => GivesR w (max n m + 1) (val xs + val ys) e w' :=
  (sum_any A B n c m d xs ys w hx.len hy.len hn hm (hx.over hb).rd (hy.over hb).rd (right_dig hx.right) (right_dig hy.right)).mono fun _ _ h => h.hid
theorem difference_cells {nx ny : Bool} {A B : Option Addr} {n c m d : Nat} {xs ys : List Nat} {w0 w : World} (hx : Cells w0 n c nx A xs) (hy : Cells w0 m d ny B ys) (hn : n ≤ 1000) (hle : val ys ≤ val xs) (hb : Below w0.heap.size w0 w) :
    Calls Tryd.prog 65 #[.slice A n c, .slice B m d] w fun e w' => GivesR w n (val xs - val ys) e w' := by
  have hmn : m ≤ n := by
    rcases Nat.lt_or_ge n m with h | h
    · have := top_short (right_dig hx.right) (right_top hy.right) (by rw [hx.len, hy.len]; exact h)
      omega
    · exact h
  exact (difference_any A B n c m d xs ys w hx.len hy.len hn hmn hle (hx.over hb).rd (hy.over hb).rd (right_dig hx.right) (right_dig hy.right)).mono fun _ _ h => h.hid
theorem product_cells {nx ny : Bool} {A B : Option Addr} {n c m d : Nat} {xs ys : List Nat} {w0 w : World} (hx : Cells w0 n c nx A xs) (hy : Cells w0 m d ny B ys) (hn : n ≤ 1000) (hm : m ≤ 1000) (hb : Below w0.heap.size w0 w) :
    Calls Tryd.prog 72 #[.slice A n c, .slice B m d] w fun e w' => GivesR w (n + m) (val xs * val ys) e w' :=
  (product_any A B n c m d xs ys w hx.len hy.len hn hm (hx.over hb).rd (hy.over hb).rd (right_dig hx.right) (right_dig hy.right)).mono fun _ _ h => h.hid
theorem compare_cells {nx ny : Bool} {A B : Option Addr} {n c m d : Nat} {xs ys : List Nat} {w0 w : World} (hx : Cells w0 n c nx A xs) (hy : Cells w0 m d ny B ys) (hn : n ≤ 10000) (hb : Below w0.heap.size w0 w) :
    Calls Tryd.prog 70 #[.slice A n c, .slice B m d] w fun e w' => e = .returned (.int .i64 (cmpN (val xs) (val ys))) ∧ Hid (Below w.heap.size w w') :=
  compare_any A B n m c d xs ys w hx.len hy.len (by rw [hx.len]; unfold maxLen; omega) (hx.over hb).rd (hy.over hb).rd (right_dig hx.right) (right_dig hy.right) (right_top hx.right) (right_top hy.right)
theorem IsInt.cells {w : World} {m : Nat} {v : Value} {z : Int} (h : IsInt w w.heap.size m v z) : ∃ neg A n c ds, v = .agg #[.bool neg, .slice A n c] ∧ n ≤ m ∧ Hid (Cells w n c neg A ds) ∧ Hid (zval neg ds = z) := by
  obtain ⟨neg, A, n, c, ds, h1, h2, h3, h4, h5, h6, h7⟩ := h
  exact ⟨neg, A, n, c, ds, h1, h4, ⟨h2, h3, h5, h6⟩, h7⟩

theorem sgn_mul {nx ny : Bool} {xs ys : List Nat} {a b : Int} (hx : zval nx xs = a) (hy : zval ny ys = b) : sgn (nx != ny) (val xs * val ys) = a * b := by
  subst hx hy
  cases nx <;> cases ny <;> simp [sgn, zval, Int.natCast_mul, Int.neg_mul, Int.mul_neg]

set_option maxRecDepth 100000 in
set_option maxHeartbeats 1000000 in
theorem mul_any (v u : Value) (p q : Nat) (a b : Int) (w : World) (hp : p ≤ 1000) (hq : q ≤ 1000) (hx : IsInt w w.heap.size p v a) (hy : IsInt w w.heap.size q u b) :
    Calls Tryd.prog 20 #[v, u] w fun e w' => GivesZ w (p + q) (a * b) e w' := by
  obtain ⟨nx, A, n, c, xs, rfl, hnp, CX, ZX⟩ := hx.cells
  obtain ⟨ny, B, m, d, ys, rfl, hmq, CY, ZY⟩ := hy.cells
  clear hx hy
  have HT : Hid (Three w w.heap.size nx A n c (w.heap.size + 1) ny B m d (w.heap.size + 2) (((w.alloc (.cells #[.bool nx, .slice A n c] 24)).alloc (.cells #[.bool ny, .slice B m d] 24)).alloc (.cells #[.bool false, .slice none 0 0] 24))) :=
    ⟨(((Below.refl _ _).alloc (Nat.le_refl _) _).alloc (by simp) _).alloc (by simp; omega) _, ((Box.new _ _ _ _ _).alloc _).alloc _, by have h := (Box.new (w.alloc (.cells #[.bool nx, .slice A n c] 24)) ny B m d).alloc (.cells #[.bool false, .slice none 0 0] 24); rwa [World.size_alloc] at h,
      ⟨false, none, 0, 0, by have h := Box.new ((w.alloc (.cells #[.bool nx, .slice A n c] 24)).alloc (.cells #[.bool ny, .slice B m d] 24)) false none 0 0; rwa [World.size_alloc, World.size_alloc] at h⟩, by omega⟩
  go_enter Tryd.func20, Tryd.ntmps20
  go_wp2
  go_region_held3 (fun w' => (w'.cell? ⟨w.heap.size, 0, none⟩ = some (.bool nx) ∧ w'.cell? ⟨w.heap.size, 1, none⟩ = some (.slice A n c) ∧ w'.cell? ⟨w.heap.size + 1, 0, none⟩ = some (.bool ny) ∧ w'.cell? ⟨w.heap.size + 1, 1, none⟩ = some (.slice B m d) ∧ w'.cell? ⟨w.heap.size + 2, 0, none⟩ = some (cellOf w' (w.heap.size + 2) 0) ∧ w'.cell? ⟨w.heap.size + 2, 1, none⟩ = some (cellOf w' (w.heap.size + 2) 1)) ∧ (w'.frozen? ⟨w.heap.size, 0, none⟩ = false ∧ w'.frozen? ⟨w.heap.size, 1, none⟩ = false ∧ w'.frozen? ⟨w.heap.size + 1, 0, none⟩ = false ∧ w'.frozen? ⟨w.heap.size + 1, 1, none⟩ = false ∧ w'.frozen? ⟨w.heap.size + 2, 0, none⟩ = false ∧ w'.frozen? ⟨w.heap.size + 2, 1, none⟩ = false) ∧ Hid (Three w (w.heap.size) nx A n c (w.heap.size + 1) ny B m d (w.heap.size + 2) w'))
    (first | (with_reducible exact HT.out.drew.all) | (with_reducible exact (Three.over hb (Three.get (by assumption))).all) | (with_reducible exact (Three.put1 (Three.get (by assumption)) _ _ _ _).all) | (with_reducible exact (Three.put2 (Three.get (by assumption)) _ _ _ _).all) | (with_reducible exact (Three.put3 (Three.get (by assumption)) _ _ _ _).all))
    (first
      | (go_at_call_of 62 A; refine (clean_cells CX.out (by omega) (Three.get (by assumption)).below).mono ?_; rintro e w1 ⟨rfl, hb⟩)
      | (go_at_call_of 62 B; refine (clean_cells CY.out (by omega) (Three.get (by assumption)).below).mono ?_; rintro e w1 ⟨rfl, hb⟩))
  generalize ((((w1.setCell ⟨w.heap.size, 0, none⟩ (.bool nx)).setCell ⟨w.heap.size, 1, none⟩ (.slice A n c)).setCell ⟨w.heap.size + 1, 0, none⟩ (.bool ny)).setCell ⟨w.heap.size + 1, 1, none⟩ (.slice B m d)) = W at *
  have HE : Hid (Three w w.heap.size nx A n c (w.heap.size + 1) ny B m d (w.heap.size + 2) W) := Three.get (by assumption)
  go_wp2
  go_region_held3 (fun w' => (w'.cell? ⟨w.heap.size, 0, none⟩ = some (.bool nx) ∧ w'.cell? ⟨w.heap.size, 1, none⟩ = some (.slice A n c) ∧ w'.cell? ⟨w.heap.size + 1, 0, none⟩ = some (.bool ny) ∧ w'.cell? ⟨w.heap.size + 1, 1, none⟩ = some (.slice B m d) ∧ w'.cell? ⟨w.heap.size + 2, 0, none⟩ = some (cellOf w' (w.heap.size + 2) 0) ∧ w'.cell? ⟨w.heap.size + 2, 1, none⟩ = some (cellOf w' (w.heap.size + 2) 1)) ∧ (w'.frozen? ⟨w.heap.size, 0, none⟩ = false ∧ w'.frozen? ⟨w.heap.size, 1, none⟩ = false ∧ w'.frozen? ⟨w.heap.size + 1, 0, none⟩ = false ∧ w'.frozen? ⟨w.heap.size + 1, 1, none⟩ = false ∧ w'.frozen? ⟨w.heap.size + 2, 0, none⟩ = false ∧ w'.frozen? ⟨w.heap.size + 2, 1, none⟩ = false) ∧ Hid (Three w (w.heap.size) nx A n c (w.heap.size + 1) ny B m d (w.heap.size + 2) w'))
    (first | (with_reducible exact HE.out.drew.all) | (with_reducible exact (Three.over hb (Three.get (by assumption))).all) | (with_reducible exact (Three.put1 (Three.get (by assumption)) _ _ _ _).all) | (with_reducible exact (Three.put2 (Three.get (by assumption)) _ _ _ _).all) | (with_reducible exact (Three.put3 (Three.get (by assumption)) _ _ _ _).all))
    (first
      | (go_at_call 72; refine (product_cells CX.out CY.out (by omega) (by omega) (Three.get (by assumption)).below).mono ?_; rintro e w2 ⟨A2, c2, rfl, hrow, hb⟩; have hb2 := hb)
      | (go_at_call 66; refine (signed_row _ A2 _ c2 _ _ (by omega) hrow.out).mono ?_; rintro e w3 ⟨neg3, A3, n3, c3, rfl, hint, hb⟩; have hb3 := hb))
  have T3 := (Three.over hb3 (Three.over hb2 HE.out.drew))
  obtain ⟨y3, b3, m3, d3, hr3⟩ := T3.res
  have HI := Lib.hid (T3.int3 hint.out neg3 A3 n3 c3)
  have c0 := (hr3.put neg3 A3 n3 c3).c0
  have c1 := (hr3.put neg3 A3 n3 c3).c1
  have HB := Lib.hid (T3.put3 neg3 A3 n3 c3).below
  have HSZ := Lib.hid (put2_size w3 (w.heap.size + 2) neg3 A3 n3 c3)
  go_wp2
  refine bodyPost_ret (v := .agg #[.bool neg3, .slice A3 n3 c3]) (by simp [results, Tryd.results20, go_sem, c0, c1]) rfl ⟨neg3, A3, n3, c3, rfl, ?_, HB⟩
  have h : IsInt (put2 w3 (w.heap.size + 2) neg3 A3 n3 c3) (put2 w3 (w.heap.size + 2) neg3 A3 n3 c3).heap.size (p + q) _ _ := HI.out.more (by rw [HSZ.out]; exact Nat.le_refl _) (by omega)
  rw [show sgn (!nx == ny) (val xs * val ys) = a * b from sgn_mul ZX.out ZY.out] at h
  exact h
end Go.Proofs.YtpikbhcjgcbdfaaDoor.wh

/- Package whole: Add, Neg. -/
namespace Go.Proofs.YtpikbhcjgcbdfaaDoor.wh
open Go.RowKit

theorem sgn_add {nx : Bool} {xs ys : List Nat} {a b : Int} (hx : zval nx xs = a) (hy : zval nx ys = b) : sgn nx (val xs + val ys) = a + b := by
  subst hx hy
  cases nx <;> simp [sgn, zval] <;> omega
theorem sgn_sub {nx ny : Bool} {xs ys : List Nat} {a b : Int} (hx : zval nx xs = a) (hy : zval ny ys = b) (hn : nx ≠ ny) (hle : val ys ≤ val xs) : sgn nx (val xs - val ys) = a + b := by
  subst hx hy
  cases nx <;> cases ny <;> simp [sgn, zval] at hn ⊢ <;> omega
theorem sgn_neg {nx : Bool} {xs : List Nat} {a : Int} (hx : zval nx xs = a) : sgn (!nx) (val xs) = -a := by
  subst hx
  cases nx <;> simp [sgn, zval]

set_option maxRecDepth 100000 in
set_option maxHeartbeats 2000000 in
theorem add_any (v u : Value) (p q : Nat) (a b : Int) (w : World) (hp : p ≤ 900) (hq : q ≤ 900) (hx : IsInt w w.heap.size p v a) (hy : IsInt w w.heap.size q u b) :
    Calls Tryd.prog 17 #[v, u] w fun e w' => GivesZ w (max p q + 1) (a + b) e w' := by
  obtain ⟨nx, A, n, c, xs, rfl, hnp, CX, ZX⟩ := hx.cells
  obtain ⟨ny, B, m, d, ys, rfl, hmq, CY, ZY⟩ := hy.cells
  clear hx hy
  have HT : Hid (Three w w.heap.size nx A n c (w.heap.size + 1) ny B m d (w.heap.size + 2) (((w.alloc (.cells #[.bool nx, .slice A n c] 24)).alloc (.cells #[.bool ny, .slice B m d] 24)).alloc (.cells #[.bool false, .slice none 0 0] 24))) :=
    ⟨(((Below.refl _ _).alloc (Nat.le_refl _) _).alloc (by simp) _).alloc (by simp; omega) _, ((Box.new _ _ _ _ _).alloc _).alloc _, by have h := (Box.new (w.alloc (.cells #[.bool nx, .slice A n c] 24)) ny B m d).alloc (.cells #[.bool false, .slice none 0 0] 24); rwa [World.size_alloc] at h,
      ⟨false, none, 0, 0, by have h := Box.new ((w.alloc (.cells #[.bool nx, .slice A n c] 24)).alloc (.cells #[.bool ny, .slice B m d] 24)) false none 0 0; rwa [World.size_alloc, World.size_alloc] at h⟩, by omega⟩
  go_enter Tryd.func17, Tryd.ntmps17
  go_wp2
  go_region_held3 (fun w' => (w'.cell? ⟨w.heap.size, 0, none⟩ = some (.bool nx) ∧ w'.cell? ⟨w.heap.size, 1, none⟩ = some (.slice A n c) ∧ w'.cell? ⟨w.heap.size + 1, 0, none⟩ = some (.bool ny) ∧ w'.cell? ⟨w.heap.size + 1, 1, none⟩ = some (.slice B m d) ∧ w'.cell? ⟨w.heap.size + 2, 0, none⟩ = some (cellOf w' (w.heap.size + 2) 0) ∧ w'.cell? ⟨w.heap.size + 2, 1, none⟩ = some (cellOf w' (w.heap.size + 2) 1)) ∧ (w'.frozen? ⟨w.heap.size, 0, none⟩ = false ∧ w'.frozen? ⟨w.heap.size, 1, none⟩ = false ∧ w'.frozen? ⟨w.heap.size + 1, 0, none⟩ = false ∧ w'.frozen? ⟨w.heap.size + 1, 1, none⟩ = false ∧ w'.frozen? ⟨w.heap.size + 2, 0, none⟩ = false ∧ w'.frozen? ⟨w.heap.size + 2, 1, none⟩ = false) ∧ Hid (Three w (w.heap.size) nx A n c (w.heap.size + 1) ny B m d (w.heap.size + 2) w'))
    (first | (with_reducible exact HT.out.drew.all) | (with_reducible exact (Three.over hb (Three.get (by assumption))).all) | (with_reducible exact (Three.put1 (Three.get (by assumption)) _ _ _ _).all) | (with_reducible exact (Three.put2 (Three.get (by assumption)) _ _ _ _).all) | (with_reducible exact (Three.put3 (Three.get (by assumption)) _ _ _ _).all))
    (first
      | (go_at_call_of 62 A; refine (clean_cells CX.out (by omega) (Three.get (by assumption)).below).mono ?_; rintro e w1 ⟨rfl, hb⟩)
      | (go_at_call_of 62 B; refine (clean_cells CY.out (by omega) (Three.get (by assumption)).below).mono ?_; rintro e w1 ⟨rfl, hb⟩))
  generalize ((((w1.setCell ⟨w.heap.size, 0, none⟩ (.bool nx)).setCell ⟨w.heap.size, 1, none⟩ (.slice A n c)).setCell ⟨w.heap.size + 1, 0, none⟩ (.bool ny)).setCell ⟨w.heap.size + 1, 1, none⟩ (.slice B m d)) = W at *
  have HE : Hid (Three w w.heap.size nx A n c (w.heap.size + 1) ny B m d (w.heap.size + 2) W) := Three.get (by assumption)
  by_cases hs : nx = ny
  · subst hs
    go_wp2
    go_region_held3 (fun w' => (w'.cell? ⟨w.heap.size, 0, none⟩ = some (.bool nx) ∧ w'.cell? ⟨w.heap.size, 1, none⟩ = some (.slice A n c) ∧ w'.cell? ⟨w.heap.size + 1, 0, none⟩ = some (.bool nx) ∧ w'.cell? ⟨w.heap.size + 1, 1, none⟩ = some (.slice B m d) ∧ w'.cell? ⟨w.heap.size + 2, 0, none⟩ = some (cellOf w' (w.heap.size + 2) 0) ∧ w'.cell? ⟨w.heap.size + 2, 1, none⟩ = some (cellOf w' (w.heap.size + 2) 1)) ∧ (w'.frozen? ⟨w.heap.size, 0, none⟩ = false ∧ w'.frozen? ⟨w.heap.size, 1, none⟩ = false ∧ w'.frozen? ⟨w.heap.size + 1, 0, none⟩ = false ∧ w'.frozen? ⟨w.heap.size + 1, 1, none⟩ = false ∧ w'.frozen? ⟨w.heap.size + 2, 0, none⟩ = false ∧ w'.frozen? ⟨w.heap.size + 2, 1, none⟩ = false) ∧ Hid (Three w (w.heap.size) nx A n c (w.heap.size + 1) nx B m d (w.heap.size + 2) w'))
      (first | (with_reducible exact HE.out.drew.all) | (with_reducible exact (Three.over hb (Three.get (by assumption))).all) | (with_reducible exact (Three.put1 (Three.get (by assumption)) _ _ _ _).all) | (with_reducible exact (Three.put2 (Three.get (by assumption)) _ _ _ _).all) | (with_reducible exact (Three.put3 (Three.get (by assumption)) _ _ _ _).all))
      (first
        | (go_at_call 64; refine (sum_cells CX.out CY.out (by omega) (by omega) (Three.get (by assumption)).below).mono ?_; rintro e w2 ⟨A2, c2, rfl, hrow, hb⟩; have hb2 := hb)
        | (go_at_call 66; refine (signed_row _ A2 _ c2 _ _ (by omega) hrow.out).mono ?_; rintro e w3 ⟨neg3, A3, n3, c3, rfl, hint, hb⟩; have hb3 := hb))
    have T3 := (Three.over hb3 (Three.over hb2 HE.out.drew))
    obtain ⟨y3, b3, m3, d3, hr3⟩ := T3.res
    have HI := Lib.hid (T3.int3 hint.out neg3 A3 n3 c3)
    have c0 := (hr3.put neg3 A3 n3 c3).c0
    have c1 := (hr3.put neg3 A3 n3 c3).c1
    have HB := Lib.hid (T3.put3 neg3 A3 n3 c3).below
    have HSZ := Lib.hid (put2_size w3 (w.heap.size + 2) neg3 A3 n3 c3)
    go_wp2
    refine bodyPost_ret (v := .agg #[.bool neg3, .slice A3 n3 c3]) (by simp [results, Tryd.results17, go_sem, c0, c1]) rfl ⟨neg3, A3, n3, c3, rfl, ?_, HB⟩
    have h : IsInt (put2 w3 (w.heap.size + 2) neg3 A3 n3 c3) (put2 w3 (w.heap.size + 2) neg3 A3 n3 c3).heap.size (max p q + 1) _ _ := HI.out.more (by rw [HSZ.out]; exact Nat.le_refl _) (by omega)
    rw [show sgn nx (val xs + val ys) = a + b from sgn_add ZX.out ZY.out] at h
    exact h
  · have hne : (nx == ny) = false := by simpa using hs
    have HS := Lib.hid hs
    clear hs
    go_wp2_with fail
    refine (compare_cells CX.out CY.out (by omega) HE.out.below).mono ?_
    rintro e w4 ⟨rfl, hb4⟩
    have T4 := Lib.hid (Three.over hb4 HE.out)
    have A4 := T4.out.all.1
    have F4 := T4.out.all.2.1
    by_cases hlt : val xs < val ys
    · have hc : cmpN (val xs) (val ys) = -1 := cmpN_lt hlt
      have HLT := Lib.hid hlt
      clear hlt
      go_wp2
      have T5 : Hid (Three w w.heap.size ny B m d (w.heap.size + 1) nx A n c (w.heap.size + 2) ((((w4.setCell ⟨w.heap.size, 0, none⟩ (.bool ny)).setCell ⟨w.heap.size, 1, none⟩ (.slice B m d)).setCell ⟨w.heap.size + 1, 0, none⟩ (.bool nx)).setCell ⟨w.heap.size + 1, 1, none⟩ (.slice A n c))) := (T4.out.put1 ny B m d).put2 nx A n c
      generalize ((((w4.setCell ⟨w.heap.size, 0, none⟩ (.bool ny)).setCell ⟨w.heap.size, 1, none⟩ (.slice B m d)).setCell ⟨w.heap.size + 1, 0, none⟩ (.bool nx)).setCell ⟨w.heap.size + 1, 1, none⟩ (.slice A n c)) = W5 at *
      clear A4 F4
      go_region_held3 (fun w' => (w'.cell? ⟨w.heap.size, 0, none⟩ = some (.bool ny) ∧ w'.cell? ⟨w.heap.size, 1, none⟩ = some (.slice B m d) ∧ w'.cell? ⟨w.heap.size + 1, 0, none⟩ = some (.bool nx) ∧ w'.cell? ⟨w.heap.size + 1, 1, none⟩ = some (.slice A n c) ∧ w'.cell? ⟨w.heap.size + 2, 0, none⟩ = some (cellOf w' (w.heap.size + 2) 0) ∧ w'.cell? ⟨w.heap.size + 2, 1, none⟩ = some (cellOf w' (w.heap.size + 2) 1)) ∧ (w'.frozen? ⟨w.heap.size, 0, none⟩ = false ∧ w'.frozen? ⟨w.heap.size, 1, none⟩ = false ∧ w'.frozen? ⟨w.heap.size + 1, 0, none⟩ = false ∧ w'.frozen? ⟨w.heap.size + 1, 1, none⟩ = false ∧ w'.frozen? ⟨w.heap.size + 2, 0, none⟩ = false ∧ w'.frozen? ⟨w.heap.size + 2, 1, none⟩ = false) ∧ Hid (Three w (w.heap.size) ny B m d (w.heap.size + 1) nx A n c (w.heap.size + 2) w'))
        (first | (with_reducible exact T5.out.drew.all) | (with_reducible exact (Three.over hb (Three.get (by assumption))).all) | (with_reducible exact (Three.put1 (Three.get (by assumption)) _ _ _ _).all) | (with_reducible exact (Three.put2 (Three.get (by assumption)) _ _ _ _).all) | (with_reducible exact (Three.put3 (Three.get (by assumption)) _ _ _ _).all))
        (first
          | (go_at_call 65; refine (difference_cells CY.out CX.out (by omega) (Nat.le_of_lt HLT.out) (Three.get (by assumption)).below).mono ?_; rintro e w2 ⟨A2, c2, rfl, hrow, hb⟩; have hb2 := hb)
          | (go_at_call 66; refine (signed_row _ A2 _ c2 _ _ (by omega) hrow.out).mono ?_; rintro e w3 ⟨neg3, A3, n3, c3, rfl, hint, hb⟩; have hb3 := hb))
      have T3 := (Three.over hb3 (Three.over hb2 T5.out.drew))
      obtain ⟨y3, b3, m3, d3, hr3⟩ := T3.res
      have HI := Lib.hid (T3.int3 hint.out neg3 A3 n3 c3)
      have c0 := (hr3.put neg3 A3 n3 c3).c0
      have c1 := (hr3.put neg3 A3 n3 c3).c1
      have HB := Lib.hid (T3.put3 neg3 A3 n3 c3).below
      have HSZ := Lib.hid (put2_size w3 (w.heap.size + 2) neg3 A3 n3 c3)
      go_wp2
      refine bodyPost_ret (v := .agg #[.bool neg3, .slice A3 n3 c3]) (by simp [results, Tryd.results17, go_sem, c0, c1]) rfl ⟨neg3, A3, n3, c3, rfl, ?_, HB⟩
      have h : IsInt (put2 w3 (w.heap.size + 2) neg3 A3 n3 c3) (put2 w3 (w.heap.size + 2) neg3 A3 n3 c3).heap.size (max p q + 1) _ _ := HI.out.more (by rw [HSZ.out]; exact Nat.le_refl _) (by omega)
      rw [show sgn ny (val ys - val xs) = a + b from (sgn_sub ZY.out ZX.out (fun e => HS.out e.symm) (Nat.le_of_lt HLT.out)).trans (Int.add_comm _ _)] at h
      exact h
    · have hc : ¬ cmpN (val xs) (val ys) < 0 := by
        unfold cmpN
        rw [if_neg hlt]
        split <;> omega
      have HLE : Hid (val ys ≤ val xs) := Nat.le_of_not_lt hlt
      clear hlt
      go_wp2
      go_region_held3 (fun w' => (w'.cell? ⟨w.heap.size, 0, none⟩ = some (.bool nx) ∧ w'.cell? ⟨w.heap.size, 1, none⟩ = some (.slice A n c) ∧ w'.cell? ⟨w.heap.size + 1, 0, none⟩ = some (.bool ny) ∧ w'.cell? ⟨w.heap.size + 1, 1, none⟩ = some (.slice B m d) ∧ w'.cell? ⟨w.heap.size + 2, 0, none⟩ = some (cellOf w' (w.heap.size + 2) 0) ∧ w'.cell? ⟨w.heap.size + 2, 1, none⟩ = some (cellOf w' (w.heap.size + 2) 1)) ∧ (w'.frozen? ⟨w.heap.size, 0, none⟩ = false ∧ w'.frozen? ⟨w.heap.size, 1, none⟩ = false ∧ w'.frozen? ⟨w.heap.size + 1, 0, none⟩ = false ∧ w'.frozen? ⟨w.heap.size + 1, 1, none⟩ = false ∧ w'.frozen? ⟨w.heap.size + 2, 0, none⟩ = false ∧ w'.frozen? ⟨w.heap.size + 2, 1, none⟩ = false) ∧ Hid (Three w (w.heap.size) nx A n c (w.heap.size + 1) ny B m d (w.heap.size + 2) w'))
        (first | (with_reducible exact T4.out.drew.all) | (with_reducible exact (Three.over hb (Three.get (by assumption))).all) | (with_reducible exact (Three.put1 (Three.get (by assumption)) _ _ _ _).all) | (with_reducible exact (Three.put2 (Three.get (by assumption)) _ _ _ _).all) | (with_reducible exact (Three.put3 (Three.get (by assumption)) _ _ _ _).all))
        (first
          | (go_at_call 65; refine (difference_cells CX.out CY.out (by omega) HLE.out (Three.get (by assumption)).below).mono ?_; rintro e w2 ⟨A2, c2, rfl, hrow, hb⟩; have hb2 := hb)
          | (go_at_call 66; refine (signed_row _ A2 _ c2 _ _ (by omega) hrow.out).mono ?_; rintro e w3 ⟨neg3, A3, n3, c3, rfl, hint, hb⟩; have hb3 := hb))
      have T3 := (Three.over hb3 (Three.over hb2 T4.out.drew))
      obtain ⟨y3, b3, m3, d3, hr3⟩ := T3.res
      have HI := Lib.hid (T3.int3 hint.out neg3 A3 n3 c3)
      have c0 := (hr3.put neg3 A3 n3 c3).c0
      have c1 := (hr3.put neg3 A3 n3 c3).c1
      have HB := Lib.hid (T3.put3 neg3 A3 n3 c3).below
      have HSZ := Lib.hid (put2_size w3 (w.heap.size + 2) neg3 A3 n3 c3)
      go_wp2
      refine bodyPost_ret (v := .agg #[.bool neg3, .slice A3 n3 c3]) (by simp [results, Tryd.results17, go_sem, c0, c1]) rfl ⟨neg3, A3, n3, c3, rfl, ?_, HB⟩
      have h : IsInt (put2 w3 (w.heap.size + 2) neg3 A3 n3 c3) (put2 w3 (w.heap.size + 2) neg3 A3 n3 c3).heap.size (max p q + 1) _ _ := HI.out.more (by rw [HSZ.out]; exact Nat.le_refl _) (by omega)
      rw [show sgn nx (val xs - val ys) = a + b from sgn_sub ZX.out ZY.out HS.out HLE.out] at h
      exact h
end Go.Proofs.YtpikbhcjgcbdfaaDoor.wh
