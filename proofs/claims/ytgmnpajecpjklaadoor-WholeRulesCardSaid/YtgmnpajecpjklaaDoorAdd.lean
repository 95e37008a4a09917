/- Package whole: addTo, sum: digits added in place. -/
import Derived.Test.YtgmnpajecpjklaaDoorOf
import Derived.Laws.CopyOwn
namespace Go.Proofs.YtgmnpajecpjklaaDoor.wh
open Go.RowKit

/-- Block g holds the digits ds from place off on, behind pre, ahead of post. -/
def Seg (w : World) (g off : Nat) (pre : List Value) (ds : List Nat) (post : List Value) : Prop := pre.length = off ∧ Blk w g 58 (pre ++ u32s ds ++ post).toArray
section
variable {w w' : World} {g off : Nat} {pre post : List Value} {ds : List Nat}
theorem Seg.lt (h : Seg w g off pre ds post) : g < w.heap.size := h.2.lt
theorem Seg.cell (h : Seg w g off pre ds post) {k : Nat} (hk : k < ds.length) : w.cell? ⟨g, off + k, none⟩ = some (.int .u32 ((ds[k]'hk : Nat) : Int)) := by
  rw [h.2.cell]
  have := h.1
  subst this
  simp [u32s, List.getElem?_append, hk]
theorem Seg.frozen (h : Seg w g off pre ds post) (k : Nat) : w.frozen? ⟨g, k, none⟩ = false := h.2.frozen k
theorem Seg.set_ (h : Seg w g off pre ds post) {k v : Nat} {z : Int} (hk : k < ds.length) (hz : z = (v : Int)) : Seg (w.setCell ⟨g, off + k, none⟩ (.int .u32 z)) g off pre (ds.set k v) post := by
  refine ⟨h.1, ?_⟩
  have h1 := h.2.set_ (off + k) (.int .u32 z)
  have := h.1
  subst this
  subst hz
  have e : (pre ++ u32s ds ++ post).toArray.setIfInBounds (pre.length + k) (.int .u32 (v : Int)) = (pre ++ u32s (ds.set k v) ++ post).toArray := by
    rw [List.setIfInBounds_toArray, List.append_assoc, List.set_append_right _ _ (by omega), Nat.add_sub_cancel_left, List.set_append_left _ _ (by rw [u32s_length]; exact hk)]
    rw [List.append_assoc]
    congr 3
    simp [u32s, List.map_set]
  rw [e] at h1
  exact h1
theorem Seg.below {B : Nat} (h : Seg w g off pre ds post) (hb : Below B w w') (hg : g < B) : Seg w' g off pre ds post := ⟨h.1, h.2.below hb hg⟩
theorem Seg.drewN (h : Seg w g off pre ds post) (k : Nat) : Seg (w.drewN k) g off pre ds post := h
theorem Seg.rd (h : Seg w g off pre ds post) : Rd w w.heap.size (some ⟨g, off, none⟩) ds := fun _ => ⟨g, off, rfl, h.lt, fun _ hj => h.cell hj⟩
theorem Seg.rd_take (h : Seg w g off pre ds post) (k : Nat) : Rd w w.heap.size (some ⟨g, off, none⟩) (ds.take k) := h.rd.take k
end

/-- The slice at A lies in another block than g. -/
def Away (A : Option Addr) (g n : Nat) : Prop := 0 < n → ∀ ad, A = some ad → ad.block ≠ g
theorem Rd.away_of {w : World} {B g : Nat} {A : Option Addr} {ds : List Nat} (h : Rd w B A ds) (hg : B ≤ g) : Away A g ds.length := fun hn ad e => by
  obtain ⟨b, off, e', hb, _⟩ := h hn
  rw [e] at e'
  injection e' with e'
  subst e'
  show b ≠ g
  omega
theorem Rd.away {w : World} {B g : Nat} {A : Option Addr} {ds : List Nat} (h : Rd w B A ds) (hA : Away A g ds.length) (i : Nat) (u : Value) : Rd (w.setCell ⟨g, i, none⟩ u) B A ds := fun hn => by
  obtain ⟨b, off, e, hb, hc⟩ := h hn
  have hne : b ≠ g := hA hn _ e
  exact ⟨b, off, e, hb, fun j hj => by rw [World.cell?_setCell_far _ _ _ _ (fun e => hne e.symm)]; exact hc j hj⟩

/-- w' is w but for block g, and new blocks. -/
abbrev Only (g : Nat) (w w' : World) : Prop := w.grownBy w' (some g)
theorem only_refl (g : Nat) (w : World) : Only g w w := ⟨rfl, rfl, rfl, Nat.le_refl _, fun _ _ _ => rfl⟩
theorem only_set {g : Nat} {a w : World} (h : Only g a w) (i : Nat) (u : Value) : Only g a (w.setCell ⟨g, i, none⟩ u) :=
  ⟨h.os, h.tape, h.output, by simpa [World.setCell] using h.size, fun k hk hne => (Below.heap_setCell w ⟨g, i, none⟩ u k (fun e => hne (by rw [e]))).trans (h.block k hk hne)⟩
theorem only_drewN {g : Nat} {a w : World} (h : Only g a w) (n : Nat) : Only g a (w.drewN n) := ⟨h.os, h.tape, h.output, h.size, h.block⟩
theorem only_trans {g : Nat} {a b c : World} (h : Only g a b) (k : Only g b c) : Only g a c :=
  ⟨k.os.trans h.os, k.tape.trans h.tape, k.output.trans h.output, Nat.le_trans h.size k.size, fun i hi hne => (k.block i (Nat.lt_of_lt_of_le hi h.size) hne).trans (h.block i hi hne)⟩
theorem only_of_below {g : Nat} {a w : World} (h : Below a.heap.size a w) : Only g a w := ⟨h.os, h.tape, h.output, h.size, fun i hi _ => h.block i hi⟩
theorem only_below {g B : Nat} {a b c : World} (h : Below B a b) (k : Only g b c) (hB : B ≤ b.heap.size) (hg : B ≤ g) : Below B a c := h.grown k hB (fun x hx => by injection hx with hx; omega)
theorem Rd.only {w w' : World} {B g : Nat} {A : Option Addr} {ds : List Nat} (h : Rd w B A ds) (hA : Away A g ds.length) (ho : Only g w w') (hB : B ≤ w.heap.size) : Rd w' B A ds := fun hn => by
  obtain ⟨b, off, e, hb, hc⟩ := h hn
  have hne : b ≠ g := hA hn _ e
  exact ⟨b, off, e, hb, fun j hj => (World.cell?_of_block (ho.block b (by omega) (fun e => hne (by injection e)))).trans (hc j hj)⟩
theorem Blk.only {w w' : World} {g k : Nat} {t : TypeId} {cs : Array Value} (h : Blk w k t cs) (ho : Only g w w') (hne : k ≠ g) : Blk w' k t cs := h.grown ho (fun e => hne (by injection e))
theorem Seg.only {w w' : World} {g k off : Nat} {pre post : List Value} {ds : List Nat} (h : Seg w k off pre ds post) (ho : Only g w w') (hne : k ≠ g) : Seg w' k off pre ds post := ⟨h.1, h.2.only ho hne⟩

theorem val_take_succ {ds : List Nat} {k : Nat} (hk : k < ds.length) : val (ds.take (k + 1)) = val (ds.take k) + 1000000000 ^ k * ds[k] := by
  rw [List.take_succ_eq_append_getElem hk, val_snoc, List.length_take, Nat.min_eq_left (by omega)]
theorem val_split (ds : List Nat) (k : Nat) (hk : k ≤ ds.length) : val ds = val (ds.take k) + 1000000000 ^ k * val (ds.drop k) := by
  conv => lhs; rw [← List.take_append_drop k ds]
  rw [val_append, List.length_take, Nat.min_eq_left hk]

/-- after k rounds of addTo: the digits done, and the carry -/
def AddAt (xs bs : List Nat) (k : Nat) (res : List Nat) (q : Nat) : Prop :=
  res.length = k ∧ Dig res ∧ q ≤ 1 ∧ val res + 1000000000 ^ k * q = val (xs.take k) + val (bs.take k)
theorem addAt_zero (xs bs : List Nat) : AddAt xs bs 0 [] 0 := ⟨rfl, Dig.nil, by omega, by simp [val]⟩
theorem addAt_step {xs bs res : List Nat} {k q x b : Nat} (h : AddAt xs bs k res q) (hx : x < 1000000000) (hb : b < 1000000000)
    (hxs : val (xs.take (k + 1)) = val (xs.take k) + 1000000000 ^ k * x) (hbs : val (bs.take (k + 1)) = val (bs.take k) + 1000000000 ^ k * b) :
    AddAt xs bs (k + 1) (res ++ [(x + q + b) % 1000000000]) ((x + q + b) / 1000000000) := by
  obtain ⟨h1, h2, h3, h4⟩ := h
  refine ⟨by simp [h1], h2.append (Dig.cons (Nat.mod_lt _ (by omega)) Dig.nil), by omega, ?_⟩
  rw [val_snoc, h1, hxs, hbs, Nat.pow_succ, Nat.add_assoc, Nat.mul_assoc, ← Nat.mul_add, Nat.mod_add_div]
  rw [Nat.mul_add, Nat.mul_add]
  omega
/-- what addTo leaves: digits, and whether 1 is left over -/
def Added (xs bs ys : List Nat) (over : Bool) : Prop := ys.length = xs.length ∧ Dig ys ∧ val ys + (if over then 1000000000 ^ xs.length else 0) = val xs + val bs
theorem added_early {xs bs res : List Nat} {k : Nat} (h : AddAt xs bs k res 0) (hk : k ≤ xs.length) (hm : bs.length ≤ k) (hd : Dig xs) : Added xs bs (res ++ xs.drop k) false := by
  obtain ⟨h1, h2, _, h4⟩ := h
  refine ⟨by simp [h1]; omega, h2.append (hd.drop _), ?_⟩
  rw [val_append, h1, val_split xs k hk]
  rw [List.take_of_length_le hm] at h4
  simp at h4 ⊢
  omega
theorem added_end {xs bs res : List Nat} {q : Nat} (h : AddAt xs bs xs.length res q) (hm : bs.length ≤ xs.length) : Added xs bs res (q != 0) := by
  obtain ⟨h1, h2, h3, h4⟩ := h
  refine ⟨h1, h2, ?_⟩
  rw [List.take_of_length_le hm, List.take_of_length_le (Nat.le_refl _)] at h4
  rcases Nat.eq_zero_or_pos q with e | e
  · subst e; simpa using h4
  · obtain rfl : q = 1 := by omega
    simpa using h4

def GivesAdded (g off : Nat) (pre : List Value) (xs bs : List Nat) (post : List Value) (W : World) (e : Ending) (w' : World) : Prop :=
  ∃ ys over, e = .returned (.bool over) ∧ Added xs bs ys over ∧ Seg w' g off pre ys post ∧ Only g W w'

set_option maxHeartbeats 400000 in
theorem addTo_any (g off n c m d : Nat) (pre post : List Value) (A : Option Addr) (xs bs : List Nat) (w : World) (hlx : xs.length = n) (hlb : bs.length = m) (hmn : m ≤ n) (hn : n ≤ maxLen)
    (hs : Seg w g off pre xs post) (hr : Rd w w.heap.size A bs) (hA : Away A g m) (hdx : Dig xs) (hdb : Dig bs) :
    Calls Tryd.prog 58 #[.slice (some ⟨g, off, none⟩) n c, .slice A m d] w fun e w' => GivesAdded g off pre xs bs post w e w' := by
  subst hlx
  subst hlb
  unfold maxLen at hn
  have HS := Lib.hid hs
  have HR := Lib.hid hr
  have HA := Lib.hid hA
  have HX := Lib.hid hdx
  have HB := Lib.hid hdb
  clear hs hr hA hdx hdb
  go_enter Tryd.func58, Tryd.ntmps58
  go_wp2
  go_loopw [5, 10] (fun u i wr => (∃ (k q : Nat) (res : List Nat), k ≤ xs.length ∧ u = .int .u32 q ∧ i = .int .i64 k ∧ q ≤ 1 ∧ Hid (AddAt xs bs k res q) ∧ Hid (Seg wr g off pre (res ++ xs.drop k) post)) ∧ Hid (Rd wr w.heap.size A bs) ∧ Hid (Only g w wr)) (fun _ i _ => xs.length - (intOf i).toNat)
  case atStart => exact ⟨⟨0, 0, [], Nat.zero_le _, rfl, rfl, by omega, addAt_zero _ _, HS.out⟩, HR.out, only_refl _ _⟩
  case round =>
    obtain ⟨⟨k, q, res, hk, rfl, rfl, hq, hat, hsg⟩, hrd, ho⟩ := hrel
    by_cases hlt : k < xs.length
    · have hlen : k < (res ++ xs.drop k).length := by rw [List.length_append, List.length_drop, hat.out.1]; omega
      have hc := hsg.out.cell hlen
      have hf := hsg.out.frozen (off + k)
      obtain ⟨x, hx⟩ : ∃ x, x = xs[k] := ⟨_, rfl⟩
      have hgx : (res ++ xs.drop k)[k]'hlen = x := by
        rw [List.getElem_append_right (by rw [hat.out.1]; exact Nat.le_refl _)]
        simp [hat.out.1, hx]
      rw [hgx] at hc
      have hx9 : x < 1000000000 := by rw [hx]; exact HX.out.get k hlt
      have hxs : Hid (val (xs.take (k + 1)) = val (xs.take k) + 1000000000 ^ k * x) := by show _ = _; rw [hx]; exact val_take_succ hlt
      have hset : ∀ r : Nat, (res ++ xs.drop k).set k r = (res ++ [r]) ++ xs.drop (k + 1) := fun r => by
        rw [List.set_append_right _ _ (by rw [hat.out.1]; exact Nat.le_refl _), hat.out.1, Nat.sub_self, List.drop_eq_getElem_cons hlt, List.set_cons_zero, List.append_assoc]
        rfl
      have HSET := Lib.hid hset
      clear hset hx hgx
      by_cases hkm : k < bs.length
      · obtain ⟨b', off', rfl, hb', hc'⟩ := hrd.out.at_ hkm
        obtain ⟨b, hb⟩ : ∃ b, b = bs[k] := ⟨_, rfl⟩
        rw [← hb] at hc'
        have hb9 : b < 1000000000 := by rw [hb]; exact HB.out.get k hkm
        have hbs : Hid (val (bs.take (k + 1)) = val (bs.take k) + 1000000000 ^ k * b) := by show _ = _; rw [hb]; exact val_take_succ hkm
        clear hb
        go_wp2
        go_roundw
        case rel => exact ⟨⟨k + 1, (x + q + b) / 1000000000, _, by omega, by go_num, by go_num, by omega, addAt_step hat.out hx9 hb9 hxs.out hbs.out, by have h := hsg.out.set_ (z := ((x : Int) + q + b) % 1000000000) hlen rfl; rw [HSET.out] at h; exact h⟩, hrd.out.away HA.out _ _, only_set ho.out _ _⟩
        case measure => simp [intOf]; omega
      · have hkm1 : ((bs.length : Nat) : Int) ≤ (k : Int) := by omega
        have hkm2 : ¬ (k : Int) < ((bs.length : Nat) : Int) := by omega
        have hbs : Hid (val (bs.take (k + 1)) = val (bs.take k) + 1000000000 ^ k * 0) := by
          show _ = _
          rw [List.take_of_length_le (by omega), List.take_of_length_le (by omega)]; simp
        by_cases hq0 : q = 0
        · subst hq0
          have HE := Lib.hid (added_early hat.out hk (by omega) HX.out)
          go_wp2
          go_ret
          exact ⟨_, false, rfl, HE.out, hsg.out, ho.out⟩
        · have hq1 : ((q : Int) == 0) = false := by simpa using hq0
          go_wp2
          go_roundw
          case rel => exact ⟨⟨k + 1, (x + q + 0) / 1000000000, _, by omega, by go_num, by go_num, by omega, addAt_step (b := 0) hat.out hx9 (by omega) hxs.out hbs.out, by have h := hsg.out.set_ (z := ((x : Int) + q) % 1000000000) (v := (x + q + 0) % 1000000000) hlen (by omega); rw [HSET.out] at h; exact h⟩, hrd.out.away HA.out _ _, only_set ho.out _ _⟩
          case measure => simp [intOf]; omega
    · obtain rfl : k = xs.length := by omega
      have HE := Lib.hid (added_end hat.out hmn)
      have hsg2 : Hid (Seg wr g off pre res post) := by have h := hsg.out; rw [List.drop_length, List.append_nil] at h; exact h
      go_wp2
      go_ret
      exact ⟨_, _, ret_bool (by rw [Bool.eq_iff_iff]; simp), HE.out, hsg2.out, ho.out⟩

/-- a new row of noughts -/
def zeros (n : Nat) : Array Value := (u32s (List.replicate n 0)).toArray
theorem made_zeros (n : Nat) : madeCells (#[.int .u32 0] : Array Value) n = zeros n := by
  apply Array.ext
  · simp [madeCells, zeros, u32s]
  · intro i h1 h2
    simp [madeCells, zeros, u32s, Nat.mod_one]
theorem run_make_u32 {z : Int} {n : Nat} (hz : z = (n : Int)) (hn : n ≤ 1000000) (W : World) :
    (Instr.makeSlice 22 (.int .i64 z) (.int .i64 z)).run Tryd.prog W = .ok (.slice (some ⟨W.heap.size, 0, none⟩) n n) (W.alloc (.cells (zeros n) 58)) := by
  obtain ⟨i0, hi, hz0, hz1, hz2⟩ := info_parts info_u32
  subst hz
  have h := run_make (P := Tryd.prog) W 22 58 i0 _ Tryd.underlying22 hi hz0 .i64 .i64 n n (by omega) (by omega) (by rw [hz2]; omega) (by omega)
  rw [h]
  simp only [Int.toNat_natCast, hz1, Nat.mul_one]
  rw [show (Value.int .u32 0).cells = #[.int .u32 0] from rfl, made_zeros]
theorem seg_zeros (W : World) (n : Nat) : Seg (W.alloc (.cells (zeros n) 58)) W.heap.size 0 [] (List.replicate n 0) [] :=
  ⟨rfl, by have h := Blk.new W 58 (zeros n); simpa [zeros] using h⟩

def GivesRow (W : World) (n : Nat) (v : Nat) (e : Ending) (w' : World) : Prop :=
  ∃ A c ds, e = .returned (.slice A n c) ∧ ds.length = n ∧ n ≤ c ∧ Rd w' w'.heap.size A ds ∧ Dig ds ∧ val ds = v ∧ Below W.heap.size W w'


theorem splice_row (xs : List Nat) : splice (u32s (List.replicate (xs.length + 1) 0)) 0 (u32s xs) = [] ++ u32s (xs ++ [0]) ++ [] := by
  simp [splice, u32s]
theorem sum_done {xs bs ys : List Nat} {over : Bool} (h : Added (xs ++ [0]) bs ys over) (hdx : Dig xs) (hdb : Dig bs) (hl : bs.length ≤ xs.length) : val ys = val xs + val bs := by
  obtain ⟨_, _, h3⟩ := h
  rw [val_snoc] at h3
  simp only [List.length_append, List.length_singleton, Nat.mul_zero, Nat.add_zero] at h3
  have h1 := val_lt hdx
  have h2 := val_lt hdb
  have h4 : 1000000000 ^ bs.length ≤ 1000000000 ^ xs.length := pow_mono hl
  rw [Nat.pow_succ] at h3
  cases over with
  | false => simpa using h3
  | true => simp at h3; omega
theorem dig_snoc0 {xs : List Nat} (h : Dig xs) : Dig (xs ++ [0]) := h.append (Dig.cons (by omega) Dig.nil)

set_option maxRecDepth 100000 in
set_option maxHeartbeats 1000000 in
theorem sum_any (A B : Option Addr) (n c m d : Nat) (xs bs : List Nat) (w : World) (hlx : xs.length = n) (hlb : bs.length = m) (hn : n ≤ 1000) (hm : m ≤ 1000)
    (ha : Rd w w.heap.size A xs) (hb : Rd w w.heap.size B bs) (hdx : Dig xs) (hdb : Dig bs) :
    Calls Tryd.prog 36 #[.slice A n c, .slice B m d] w fun e w' => GivesRow w (max n m + 1) (val xs + val bs) e w' := by
  subst hlx
  subst hlb
  have HRA := Lib.hid ha
  have HRB := Lib.hid hb
  have HX := Lib.hid hdx
  have HB := Lib.hid hdb
  clear ha hb hdx hdb
  by_cases hlt : xs.length < bs.length
  · rw [show max xs.length bs.length + 1 = bs.length + 1 by omega]
    have hmk := run_make_u32 (z := (bs.length : Int) + 1) (n := bs.length + 1) (by omega) (by omega)
    have HSZ : Hid (Seg (w.alloc (.cells (zeros (bs.length + 1)) 58)) w.heap.size 0 [] (List.replicate (bs.length + 1) 0) []) := seg_zeros w _
    have HG : Hid ((w.alloc (.cells (zeros (bs.length + 1)) 58)).heap[w.heap.size]? = some (.cells ([] ++ u32s (List.replicate (bs.length + 1) 0) ++ []).toArray 58 (0, 0))) := HSZ.out.2
    have HBW : Hid (Below w.heap.size w (w.alloc (.cells (zeros (bs.length + 1)) 58))) := (Below.refl _ _).alloc (Nat.le_refl _) _
    have HSR := Lib.hid (HRB.out.alloc (Nat.le_refl _) (.cells (zeros (bs.length + 1)) 58))
    go_enter Tryd.func36, Tryd.ntmps36
    go_wp2_with (with_reducible refine wpList_copy_splice rfl (.tmp 17) (.tmp 18) 22 22 rfl 58 Tryd.underlying22 (by kernel_rfl) (some ⟨w.heap.size, 0, none⟩) B (bs.length + 1) (bs.length + 1) bs.length d rfl rfl w.heap.size 0 ([] ++ u32s (List.replicate (bs.length + 1) 0) ++ []) 58 HG.out (u32s bs) ?c1 ?c2 ?c3 ?c4 w.heap.size w HBW.out (Nat.le_refl _) ?_)
    case c1 => rw [u32s_length]; exact (Nat.min_eq_left (by omega)).symm
    case c2 =>
      intro h0
      rw [u32s_length] at h0
      obtain ⟨b, off, e, _, hc⟩ := HSR.out h0
      refine ⟨_, e, fun j v hj => ?_⟩
      have hjl : j < bs.length := by
        have := (List.getElem?_eq_some_iff.1 hj).1
        rwa [u32s_length] at this
      rw [u32s_get hjl] at hj
      injection hj with hj
      subst hj
      rw [← hc j hjl]
      unfold Addr.add
      by_cases hj0 : j = 0 <;> simp [hj0]
    case c3 => simp [u32s]
    case c4 =>
      intro v hv
      simp only [u32s, List.mem_map] at hv
      obtain ⟨_, _, rfl⟩ := hv
      rfl
    intro w1 hg1 hb1
    have hsg : Hid (Seg w1 w.heap.size 0 [] (bs ++ [0]) []) := ⟨rfl, by have h := hg1.out; rw [splice_row bs] at h; exact h⟩
    have hrd : Hid (Rd w1 w1.heap.size A xs) := (HRA.out.below hb1).more hb1.size
    have haw : Hid (Away A w.heap.size xs.length) := HRA.out.away_of (Nat.le_refl _)
    clear hg1
    go_wp2_with fail
    refine (addTo_any w.heap.size 0 (bs.length + 1) (bs.length + 1) xs.length c [] [] A (bs ++ [0]) xs w1 (by simp) rfl (by omega) (by unfold maxLen; omega) hsg.out hrd.out haw.out (dig_snoc0 HB.out) HX.out).mono ?_
    rintro e w2 ⟨ys, over, rfl, hadd, hseg, honly⟩
    go_wp2
    go_ret
    exact ⟨_, _, ys, rfl, by rw [hadd.1]; simp, by omega, hseg.rd, hadd.2.1, by rw [sum_done hadd HB.out HX.out (by omega)]; omega, only_below hb1 honly hb1.size (Nat.le_refl _)⟩
  · rw [show max xs.length bs.length + 1 = xs.length + 1 by omega]
    have hmk := run_make_u32 (z := (xs.length : Int) + 1) (n := xs.length + 1) (by omega) (by omega)
    have HSZ : Hid (Seg (w.alloc (.cells (zeros (xs.length + 1)) 58)) w.heap.size 0 [] (List.replicate (xs.length + 1) 0) []) := seg_zeros w _
    have HG : Hid ((w.alloc (.cells (zeros (xs.length + 1)) 58)).heap[w.heap.size]? = some (.cells ([] ++ u32s (List.replicate (xs.length + 1) 0) ++ []).toArray 58 (0, 0))) := HSZ.out.2
    have HBW : Hid (Below w.heap.size w (w.alloc (.cells (zeros (xs.length + 1)) 58))) := (Below.refl _ _).alloc (Nat.le_refl _) _
    have HSR := Lib.hid (HRA.out.alloc (Nat.le_refl _) (.cells (zeros (xs.length + 1)) 58))
    go_enter Tryd.func36, Tryd.ntmps36
    go_wp2_with (with_reducible refine wpList_copy_splice rfl (.tmp 17) (.tmp 18) 22 22 rfl 58 Tryd.underlying22 (by kernel_rfl) (some ⟨w.heap.size, 0, none⟩) A (xs.length + 1) (xs.length + 1) xs.length c rfl rfl w.heap.size 0 ([] ++ u32s (List.replicate (xs.length + 1) 0) ++ []) 58 HG.out (u32s xs) ?c1 ?c2 ?c3 ?c4 w.heap.size w HBW.out (Nat.le_refl _) ?_)
    case c1 => rw [u32s_length]; exact (Nat.min_eq_left (by omega)).symm
    case c2 =>
      intro h0
      rw [u32s_length] at h0
      obtain ⟨b, off, e, _, hc⟩ := HSR.out h0
      refine ⟨_, e, fun j v hj => ?_⟩
      have hjl : j < xs.length := by
        have := (List.getElem?_eq_some_iff.1 hj).1
        rwa [u32s_length] at this
      rw [u32s_get hjl] at hj
      injection hj with hj
      subst hj
      rw [← hc j hjl]
      unfold Addr.add
      by_cases hj0 : j = 0 <;> simp [hj0]
    case c3 => simp [u32s]
    case c4 =>
      intro v hv
      simp only [u32s, List.mem_map] at hv
      obtain ⟨_, _, rfl⟩ := hv
      rfl
    intro w1 hg1 hb1
    have hsg : Hid (Seg w1 w.heap.size 0 [] (xs ++ [0]) []) := ⟨rfl, by have h := hg1.out; rw [splice_row xs] at h; exact h⟩
    have hrd : Hid (Rd w1 w1.heap.size B bs) := (HRB.out.below hb1).more hb1.size
    have haw : Hid (Away B w.heap.size bs.length) := HRB.out.away_of (Nat.le_refl _)
    clear hg1
    go_wp2_with fail
    refine (addTo_any w.heap.size 0 (xs.length + 1) (xs.length + 1) bs.length d [] [] B (xs ++ [0]) bs w1 (by simp) rfl (by omega) (by unfold maxLen; omega) hsg.out hrd.out haw.out (dig_snoc0 HX.out) HB.out).mono ?_
    rintro e w2 ⟨ys, over, rfl, hadd, hseg, honly⟩
    go_wp2
    go_ret
    exact ⟨_, _, ys, rfl, by rw [hadd.1]; simp, by omega, hseg.rd, hadd.2.1, by rw [sum_done hadd HX.out HB.out (by omega)], only_below hb1 honly hb1.size (Nat.le_refl _)⟩
end Go.Proofs.YtgmnpajecpjklaaDoor.wh
