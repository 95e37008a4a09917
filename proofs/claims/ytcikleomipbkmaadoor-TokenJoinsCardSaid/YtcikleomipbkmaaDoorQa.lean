/- The statement TokenWords, walked: for every token and every comment. -/
import Derived.Laws.AppendOwn
import Derived.ArgAppend
import Derived.Lib.AppendStr
import Derived.Lib.SlBytesConst
import Derived.Deep.LoopGhost
import Derived.Test.YtcikleomipbkmaaDoorPn
import Derived.Test.YtcikleomipbkmaaDoorPy
namespace Go.Proofs.YtcikleomipbkmaaDoor.tk
open Go.RowKit

/-- bytes that the call has made: its own row, or a literal that is full -/
def OwnB (w : World) (base : Nat) (v : Value) (n : Nat) (xs : List Value) : Prop :=
  w.ownsRow base 5 1 v n xs ∨ ∃ g, v = .slice (some ⟨g, 0, none⟩) n n ∧ base ≤ g ∧ g < w.heap.size ∧ xs.length = n ∧ ∀ j u, xs[j]? = some u → w.cell? ((⟨g, 0, none⟩ : Addr).add j) = some u
section
variable {w w' : World} {base n : Nat} {v : Value} {xs : List Value}
theorem addr_blk (g j : Nat) : ((⟨g, 0, none⟩ : Addr).add j).block = g := by unfold Addr.add; split <;> rfl
theorem OwnB.below (h : OwnB w base v n xs) (hb : Below w.heap.size w w') : OwnB w' base v n xs := by
  rcases h with h | ⟨g, e, h1, h2, h3, h4⟩
  · exact Or.inl (own_below h hb)
  · exact Or.inr ⟨g, e, h1, Nat.lt_of_lt_of_le h2 hb.size, h3, fun j u hj => (hb.cell (by rw [addr_blk]; exact h2)).trans (h4 j u hj)⟩
theorem OwnB.form (h : OwnB w base v n xs) : ∃ A c, v = .slice A n c ∧ n ≤ c := by
  rcases h with h | ⟨g, e, _⟩
  · exact own_row3 h
  · exact ⟨_, _, e, Nat.le_refl _⟩
theorem OwnB.blk (h : OwnB w base v n xs) : ∀ k, v.ownBlock = some k → base ≤ k := by
  rcases h with h | ⟨g, rfl, h1, _⟩
  · exact fun k hk => (h.lt k hk).1
  · intro k hk
    simp [Value.ownBlock] at hk
    omega
end
theorem wpList_append_b {P : Program} {w : World} {ops : Array Oper} {rest : List Oper} {o : Oper} {a : Act} {Q : Exit → Act → World → Prop} (hgd : o.guard = none) (s x : Operand) (t : TypeId)
    (ho : o.op = .call { callee := .builtin .append, args := #[s, x], argTypes := #[t, t] })
    (base : Nat) (i : TypeInfo) (z : Value) (ht : P.underlying t = some (.slice 5)) (hi : P.info? 5 = some i) (hz : i.zero = some z)
    (hsize : i.size = 1) (hby : i.bytes = 1) (hzs : z.cells.size = 1)
    (v : Value) (n : Nat) (xs : List Value) (hs : a.eval s = v) (hown : OwnB w base v n xs)
    (ad : Addr) (m c : Nat) (news : List Value) (hx : a.eval x = .slice (some ad) m c) (hl : news.length = m * 1) (hnews : ∀ j u, news[j]? = some u → w.cell? (ad.add j) = some u) (h1 : ∀ u ∈ news, u.oneCell' = true)
    (hm : 0 < m) (h63 : n + m ≤ maxLen) (hbytes : (n + m) * 1 ≤ 140737488355328) (hbase : base ≤ w.heap.size)
    (h : ∀ v' w', w'.ownsRow base 5 1 v' (n + m) (xs ++ news) → w.grownBy w' v.ownBlock → wpList P ops Q rest (a.put o.dst v') w') : wpList P ops Q (o :: rest) a w := by
  rcases hown with hown | ⟨g, rfl, hg1, hg2, hxl, hc⟩
  · exact wpList_append_own w hgd s x t ho base 5 i z 1 1 ht hi hz hsize hby hzs (by decide) v n xs hs hown ad m c news hx hl hnews h1 h63 hbytes hbase fun v' w' h2 h3 _ => h v' w' h2 h3
  · refine wpList_append_grows w hgd s x t ho 5 i z 1 1 ht hi hz hsize hby hzs (by decide) (some ⟨g, 0, none⟩) n n xs hs (fun e => by cases e) (by omega) (fun b e => by injection e with e; subst e; exact hc) ad m c news hx hl hnews h1 (by omega) h63 hbytes fun v' w' h2 h3 => ?_
    exact h v' w' (own_mono h2 hbase) ⟨h3.os, h3.tape, h3.output, h3.size, fun k hk _ => h3.block k hk (by simp)⟩
theorem own_lit {w : World} {base g : Nat} {cs : Array Value} {fr : Nat × Nat} {bs : List UInt8} {n : Nat} (h : w.heap[g]? = some (.cells cs 5 fr)) (hb : base ≤ g) (hc : cs.toList = Lib.byteCells bs) (hn : n = bs.length) : OwnB w base (.slice (some ⟨g, 0, none⟩) n n) n (Lib.byteCells bs) := by
  subst hn
  refine Or.inr ⟨g, rfl, hb, (Array.getElem?_eq_some_iff.1 h).1, Lib.byteCells_length _, fun j u hj => ?_⟩
  have e : (⟨g, 0, none⟩ : Addr).add j = ⟨g, j, none⟩ := by unfold Addr.add; split <;> simp_all
  rw [e, cell_of_row w g _ _ _ _ h, ← Array.getElem?_toList, hc, hj]
theorem bk_one {w : World} {g : Nat} {x : Value} {t : TypeId} (h : Bk w g t #[x]) : ∀ j u, [x][j]? = some u → w.cell? ((⟨g, 0, none⟩ : Addr).add j) = some u := by
  intro j u hj
  have := h.cell j
  match j, hj with
  | 0, hj => simp at hj; subst hj; simpa [Addr.add] using this
/-- the comment's bytes that are told -/
def keep (l : List UInt8) : List UInt8 := l.filter fun c => c != 10
theorem keep_no {l : List UInt8} {k : Nat} {c : UInt8} (h : l[k]? = some c) (hc : c = 10) : keep (l.take (k + 1)) = keep (l.take k) := by
  unfold keep
  rw [List.take_add_one, h, Option.toList_some, List.filter_append]
  simp [hc]
theorem keep_yes {l : List UInt8} {k : Nat} {c : UInt8} (h : l[k]? = some c) (hc : c ≠ 10) : keep (l.take (k + 1)) = keep (l.take k) ++ [c] := by
  unfold keep
  rw [List.take_add_one, h, Option.toList_some, List.filter_append]
  simp [hc]
theorem keep_len (l : List UInt8) (k : Nat) : (keep (l.take k)).length ≤ k := by
  unfold keep
  have h1 := (List.filter_sublist (p := fun c => c != 10) (l := l.take k)).length_le
  have h2 := List.length_take_le k l
  omega
theorem keep_not (l : List UInt8) : ∀ c ∈ keep l, c.toNat ≠ 10 := by
  intro c hc e
  unfold keep at hc
  simp at hc
  exact hc.2 (UInt8.toNat_inj.1 e)
/-- a word among blanks and a comment is read as its token -/
theorem read_word {K : Int} {T W fl : List UInt8} (hw : wordW K T = some W) (hf : ∀ c ∈ fl, c.toNat ≠ 10) : ∃ j : Nat, K = (j : Int) ∧ readL (9 :: 59 :: fl ++ [10] ++ W ++ [32, 13, 10]) = .ok [⟨j, T, fl.length + 3⟩] := by
  obtain ⟨j, hj, hwh⟩ := word_whole hw
  refine ⟨j, hj, ?_⟩
  have e : (9 :: 59 :: fl ++ [10] ++ W ++ [32, 13, 10] : List UInt8) = (9 :: 59 :: (fl ++ [10])) ++ (W ++ [32, 13, 10]) := by simp
  rw [readL_ok, e]
  have h1 : skipL ((9 :: 59 :: (fl ++ [10])) ++ (W ++ [32, 13, 10])) = W ++ [32, 13, 10] := by
    have := skip_comment (X := W ++ [32, 13, 10]) hf
    rw [hwh.ahead] at this
    have e3 : ((9 :: 59 :: (fl ++ [10])) ++ (W ++ [32, 13, 10]) : List UInt8) = 9 :: 59 :: (fl ++ 10 :: (W ++ [32, 13, 10])) := by simp
    rw [e3]
    exact this
  have := rd_word hwh h1 (by decide) (by simp [skipL, isBlank])
  have e2 : (9 :: 59 :: (fl ++ [10]) : List UInt8).length = fl.length + 3 := by simp
  rw [e2] at this
  exact this
theorem rb_row {w : World} {base n c : Nat} {A : Option Addr} {bs : List UInt8} (h : w.ownsRow base 5 1 (.slice A n c) n (Lib.byteCells bs)) (hn : n = bs.length) : Rb w A bs := fun h0 => by
  subst hn
  rcases h.2 with ⟨_, e2⟩ | ⟨g, cap, cur, e1, _, e3, _⟩
  · omega
  · have hA : A = some ⟨g, 0, none⟩ := by injection e1
    subst hA
    refine ⟨g, 0, rfl, (Array.getElem?_eq_some_iff.1 e3).1, fun j hj => ?_⟩
    rw [Nat.zero_add, h.cellAt j (by omega)]
    simp [Lib.byteCells, List.getElem?_map, List.getElem?_eq_getElem hj]
theorem pread_len {w : World} {A : Option Addr} {bs : List UInt8} {n cb : Nat} {m : Int} {D : List Tk} (hn : bs.length = n) (hb : Hid (Rb w A bs)) (hl : n ≤ 100000) (hcap : n ≤ cb) (hm : n ≤ m.toNat) (h : readL bs = .ok D) : Calls Tryd.prog 8 #[.slice A n cb, .int .i64 m] w fun e w' => ∃ A3 c, e = .returned (.tuple #[.slice A3 D.length c, .agg #[.int .i64 0, .int .i64 0]]) ∧ D.length ≤ n ∧ D.length ≤ c ∧ Hid (w'.ownsRow w.heap.size 23 3 (.slice A3 D.length c) D.length (tkCells D)) ∧ Hid (Below w.heap.size w w') := by
  subst hn
  exact pread_ok hb hl hcap hm h
theorem below_dn {B : Nat} {w w' : World} (h : Below B w w') (n : Nat) : Below B w (w'.drewN n) := ⟨h.os, h.tape, h.output, h.size, h.block⟩
theorem tr_one {w : World} {g : Nat} {x : Tk} {S : ByteArray} {z : Int} (hS : S.data.toList = x.text) (hz : z = (x.at_ : Int)) (h : Bk w g 23 #[.int .i64 (x.kind : Int), .string S, .int .i64 z]) : Tr w (some ⟨g, 0, none⟩) [x] := fun _ => by
  subst hz
  refine ⟨g, rfl, fun j hj => ?_⟩
  obtain rfl : j = 0 := by simpa using hj
  refine ⟨h.cell 0, ?_, h.cell 2⟩
  have hS' : S = ⟨x.text.toArray⟩ := by rw [← hS]
  have := h.cell 1
  rw [hS'] at this
  exact this
theorem words_at {w : World} {K P : Int} {S : ByteArray} (hS : S.size ≤ 20000) (hsh : w.ShapedOpen Tryd.prog) {r : Option (List UInt8)} (hr : wordW K S.data.toList = r) :
    Calls Tryd.prog 6 #[.agg #[.int .i64 K, .string S, .int .i64 P]] w fun e w' => Hid (WordIs r e) ∧ Hid (Below w.heap.size w w') := hr ▸ pword_any hS hsh
theorem word_some {w : World} {K P : Int} {S : ByteArray} {W : List UInt8} (hr : Hid (wordW K S.data.toList = some W)) (hS : S.size ≤ 20000) (hsh : w.ShapedOpen Tryd.prog) :
    Calls Tryd.prog 6 #[.agg #[.int .i64 K, .string S, .int .i64 P]] w fun e w' => e = .returned (.tuple #[.string ⟨W.toArray⟩, .bool true]) ∧ Hid (Below w.heap.size w w') :=
  (words_at hS hsh hr.out).mono fun _ _ ⟨h1, h2⟩ => ⟨h1.out, h2⟩
theorem word_none {w : World} {K P : Int} {S : ByteArray} (hr : Hid (wordW K S.data.toList = none)) (hS : S.size ≤ 20000) (hsh : w.ShapedOpen Tryd.prog) :
    Calls Tryd.prog 6 #[.agg #[.int .i64 K, .string S, .int .i64 P]] w fun e w' => e = .returned (.tuple #[.string ⟨#[]⟩, .bool false]) ∧ Hid (Below w.heap.size w w') :=
  (words_at hS hsh hr.out).mono fun _ _ ⟨h1, h2⟩ => ⟨h1.out, h2⟩
theorem rword_some {w : World} {K P : Int} {S : ByteArray} {W : List UInt8} (hr : Hid (wordW K S.data.toList = some W)) (hS : S.size ≤ 20000) :
    Calls Tryd.prog 7 #[.agg #[.int .i64 K, .string S, .int .i64 P]] w fun e w' => e = .returned (.tuple #[.string ⟨W.toArray⟩, .bool true]) ∧ Hid (Below w.heap.size w w') :=
  (refWord_any hS).mono fun _ _ ⟨h1, h2⟩ => ⟨by have := h1.out; rw [hr.out] at this; exact this, h2⟩
theorem rword_none {w : World} {K P : Int} {S : ByteArray} (hr : Hid (wordW K S.data.toList = none)) (hS : S.size ≤ 20000) :
    Calls Tryd.prog 7 #[.agg #[.int .i64 K, .string S, .int .i64 P]] w fun e w' => e = .returned (.tuple #[.string ⟨#[]⟩, .bool false]) ∧ Hid (Below w.heap.size w w') :=
  (refWord_any hS).mono fun _ _ ⟨h1, h2⟩ => ⟨by have := h1.out; rw [hr.out] at this; exact this, h2⟩
theorem find_len {k : Int} {T W : List UInt8} (h : wordW k T = some W) : W.length ≤ 2 * T.length + 2 := (cands_two k T).2.2 W (List.mem_of_find?_eq_some h)

set_option maxRecDepth 100000 in
set_option maxHeartbeats 4000000 in
theorem words_long1 {w : World} {K P : Int} {S : ByteArray} {A : Option Addr} {n cb : Nat} (h : 500 < S.size) :
    Calls Tryd.prog 3 #[.agg #[.int .i64 K, .string S, .int .i64 P], .slice A n cb] w fun e w' => e = .returned (.bool true) ∧ Hid (Below w.heap.size w w') := by
  have g5 : (500 : Int) < (S.size : Int) := by omega
  clear h
  go_enter Tryd.func3, Tryd.ntmps3
  go_upto_region 1 with fail
  generalize hW : w.alloc _ = W0
  have HT0 : Hid (Bk W0 w.heap.size 23 #[.int .i64 K, .string S, .int .i64 P]) := Lib.hid (hW ▸ Bk.new w _ _)
  have hBl : Hid (Below w.heap.size w W0) := Lib.hid (hW ▸ (Below.refl _ _).alloc (Nat.le_refl _) _)
  clear hW
  go_upto_region 3 with (go_at_call 5; refine (speaks_any W0).mono ?_; rintro e w1 ⟨rfl, HB1⟩)
  have HT1 := Lib.hid (HT0.out.below HB1.out HT0.out.lt)
  have HBw : Hid (Below w.heap.size w w1) := Lib.hid (hBl.out.trans (HB1.out.mono hBl.out.size))
  have t0 : w1.cell? ⟨w.heap.size, 0, none⟩ = some (.int .i64 K) := HT1.out.cell 0
  have t1 : w1.cell? ⟨w.heap.size, 1, none⟩ = some (.string S) := HT1.out.cell 1
  have t2 : w1.cell? ⟨w.heap.size, 2, none⟩ = some (.int .i64 P) := HT1.out.cell 2
  go_wp2_with fail
  go_ret
  exact ⟨rfl, HBw⟩

set_option maxRecDepth 100000 in
set_option maxHeartbeats 4000000 in
theorem words_long2 {w : World} {K P : Int} {S : ByteArray} {A : Option Addr} {n cb : Nat} (h : S.size ≤ 500) (h2 : 200 < n) :
    Calls Tryd.prog 3 #[.agg #[.int .i64 K, .string S, .int .i64 P], .slice A n cb] w fun e w' => e = .returned (.bool true) ∧ Hid (Below w.heap.size w w') := by
  have g5 : ¬ ((500 : Int) < (S.size : Int)) := by omega
  have g6 : (200 : Int) < (n : Int) := by omega
  clear h h2
  go_enter Tryd.func3, Tryd.ntmps3
  go_upto_region 1 with fail
  generalize hW : w.alloc _ = W0
  have HT0 : Hid (Bk W0 w.heap.size 23 #[.int .i64 K, .string S, .int .i64 P]) := Lib.hid (hW ▸ Bk.new w _ _)
  have hBl : Hid (Below w.heap.size w W0) := Lib.hid (hW ▸ (Below.refl _ _).alloc (Nat.le_refl _) _)
  clear hW
  go_upto_region 3 with (go_at_call 5; refine (speaks_any W0).mono ?_; rintro e w1 ⟨rfl, HB1⟩)
  have HT1 := Lib.hid (HT0.out.below HB1.out HT0.out.lt)
  have HBw : Hid (Below w.heap.size w w1) := Lib.hid (hBl.out.trans (HB1.out.mono hBl.out.size))
  have t0 : w1.cell? ⟨w.heap.size, 0, none⟩ = some (.int .i64 K) := HT1.out.cell 0
  have t1 : w1.cell? ⟨w.heap.size, 1, none⟩ = some (.string S) := HT1.out.cell 1
  have t2 : w1.cell? ⟨w.heap.size, 2, none⟩ = some (.int .i64 P) := HT1.out.cell 2
  go_wp2_with fail
  go_ret
  exact ⟨rfl, HBw⟩

set_option maxRecDepth 100000 in
set_option maxHeartbeats 4000000 in
theorem words_none {w : World} {K P : Int} {S : ByteArray} {A : Option Addr} {cm : List UInt8} {cb : Nat} (hsh : w.ShapedOpen Tryd.prog) (h : S.size ≤ 500) (h2 : cm.length ≤ 200) (hr : wordW K S.data.toList = none) :
    Calls Tryd.prog 3 #[.agg #[.int .i64 K, .string S, .int .i64 P], .slice A cm.length cb] w fun e w' => e = .returned (.bool true) ∧ Hid (Below w.heap.size w w') := by
  have g5 : ¬ ((500 : Int) < (S.size : Int)) := by omega
  have g6 : ¬ ((200 : Int) < (cm.length : Int)) := by omega
  have HSH := Lib.hid hsh
  clear hsh
  have HR := Lib.hid hr
  clear hr
  go_enter Tryd.func3, Tryd.ntmps3
  go_upto_region 1 with fail
  generalize hW : w.alloc _ = W0
  have HT0 : Hid (Bk W0 w.heap.size 23 #[.int .i64 K, .string S, .int .i64 P]) := Lib.hid (hW ▸ Bk.new w _ _)
  have hBl : Hid (Below w.heap.size w W0) := Lib.hid (hW ▸ (Below.refl _ _).alloc (Nat.le_refl _) _)
  clear hW
  go_upto_region 3 with (go_at_call 5; refine (speaks_any W0).mono ?_; rintro e w1 ⟨rfl, HB1⟩)
  have HT1 := Lib.hid (HT0.out.below HB1.out HT0.out.lt)
  have HBw : Hid (Below w.heap.size w w1) := Lib.hid (hBl.out.trans (HB1.out.mono hBl.out.size))
  have t0 : w1.cell? ⟨w.heap.size, 0, none⟩ = some (.int .i64 K) := HT1.out.cell 0
  have t1 : w1.cell? ⟨w.heap.size, 1, none⟩ = some (.string S) := HT1.out.cell 1
  have t2 : w1.cell? ⟨w.heap.size, 2, none⟩ = some (.int .i64 P) := HT1.out.cell 2
  go_upto_region 6 with (go_at_call 6; refine (word_none HR (by omega) (shaped_below HSH.out HBw.out)).mono ?_; rintro e w2 ⟨rfl, HB2⟩)
  have HT2 := Lib.hid (HT1.out.below HB2.out HT1.out.lt)
  have HBw2 : Hid (Below w.heap.size w w2) := Lib.hid (HBw.out.trans (HB2.out.mono HBw.out.size))
  clear t0 t1 t2
  have t0 : w2.cell? ⟨w.heap.size, 0, none⟩ = some (.int .i64 K) := HT2.out.cell 0
  have t1 : w2.cell? ⟨w.heap.size, 1, none⟩ = some (.string S) := HT2.out.cell 1
  have t2 : w2.cell? ⟨w.heap.size, 2, none⟩ = some (.int .i64 P) := HT2.out.cell 2
  go_wp2_with (go_at_call 7; refine (rword_none HR (by omega)).mono ?_; rintro e w3 ⟨rfl, HB3⟩)
  go_ret
  exact ⟨rfl, Lib.hid (HBw2.out.trans (HB3.out.mono HBw2.out.size))⟩

set_option maxRecDepth 100000 in
set_option maxHeartbeats 4000000 in
theorem words_some {w : World} {K P : Int} {S : ByteArray} {A : Option Addr} {cm : List UInt8} {cb : Nat} (hsh : w.ShapedOpen Tryd.prog) {W : List UInt8} (hb : Hid (Rb w A cm)) (h : S.size ≤ 500) (h2 : cm.length ≤ 200) (hr : wordW K S.data.toList = some W) :
    Calls Tryd.prog 3 #[.agg #[.int .i64 K, .string S, .int .i64 P], .slice A cm.length cb] w fun e w' => e = .returned (.bool true) ∧ Hid (Below w.heap.size w w') := by
  obtain ⟨i0, hi, hz0, hz1, hz2⟩ := info_parts info_u8
  have hWl := find_len hr
  have hs9 : S.data.toList.length = S.size := by simp
  obtain ⟨j, hj, hrd⟩ := read_word hr (keep_not cm)
  subst hj
  have HRD := Lib.hid hrd
  have g5 : ¬ ((500 : Int) < (S.size : Int)) := by omega
  have g6 : ¬ ((200 : Int) < (cm.length : Int)) := by omega
  have HSH := Lib.hid hsh
  clear hsh
  have HR := Lib.hid hr
  clear hr hrd
  go_enter Tryd.func3, Tryd.ntmps3
  go_upto_region 1 with fail
  generalize hW : w.alloc _ = W0
  have HT0 : Hid (Bk W0 w.heap.size 23 #[.int .i64 (j : Int), .string S, .int .i64 P]) := Lib.hid (hW ▸ Bk.new w _ _)
  have hBl : Hid (Below w.heap.size w W0) := Lib.hid (hW ▸ (Below.refl _ _).alloc (Nat.le_refl _) _)
  clear hW
  go_upto_region 3 with (go_at_call 5; refine (speaks_any W0).mono ?_; rintro e w1 ⟨rfl, HB1⟩)
  have HT1 := Lib.hid (HT0.out.below HB1.out HT0.out.lt)
  have HBw : Hid (Below w.heap.size w w1) := Lib.hid (hBl.out.trans (HB1.out.mono hBl.out.size))
  have t0 : w1.cell? ⟨w.heap.size, 0, none⟩ = some (.int .i64 (j : Int)) := HT1.out.cell 0
  have t1 : w1.cell? ⟨w.heap.size, 1, none⟩ = some (.string S) := HT1.out.cell 1
  have t2 : w1.cell? ⟨w.heap.size, 2, none⟩ = some (.int .i64 P) := HT1.out.cell 2
  go_upto_region 6 with (go_at_call 6; refine (word_some HR (by omega) (shaped_below HSH.out HBw.out)).mono ?_; rintro e w2 ⟨rfl, HB2⟩)
  have HT2 := Lib.hid (HT1.out.below HB2.out HT1.out.lt)
  have HBw2 : Hid (Below w.heap.size w w2) := Lib.hid (HBw.out.trans (HB2.out.mono HBw.out.size))
  clear t0 t1 t2
  have t0 : w2.cell? ⟨w.heap.size, 0, none⟩ = some (.int .i64 (j : Int)) := HT2.out.cell 0
  have t1 : w2.cell? ⟨w.heap.size, 1, none⟩ = some (.string S) := HT2.out.cell 1
  have t2 : w2.cell? ⟨w.heap.size, 2, none⟩ = some (.int .i64 P) := HT2.out.cell 2
  go_upto_region 11 with (go_at_call 7; refine (rword_some HR (by omega)).mono ?_; rintro e w3 ⟨rfl, HB3⟩)
  have HT3 := Lib.hid (HT2.out.below HB3.out HT2.out.lt)
  have HBw3 : Hid (Below w.heap.size w w3) := Lib.hid (HBw2.out.trans (HB3.out.mono HBw2.out.size))
  clear t0 t1 t2
  have hcv := fun (w : World) (C : Array Value) (n c : Nat) => Lib.run_convert_bytes_const (P := Tryd.prog) w 24 5 C n c Tryd.underlying24 Tryd.underlying5
  go_upto_region 12 with fail
  generalize hW : w3.alloc _ = W4
  have HX4 : Hid (Below w3.heap.size w3 W4) := Lib.hid (hW ▸ (Below.refl _ _).alloc (Nat.le_refl _) _)
  have HO4 : Hid (OwnB W4 w3.heap.size (.slice (some ⟨w3.heap.size, 0, none⟩) 2 2) 2 (Lib.byteCells (9 :: 59 :: keep (cm.take 0)))) := Lib.hid (by
    rw [← hW]
    exact own_lit (heap_alloc_new w3 _) (Nat.le_refl _) (by simp [Lib.byteCells, keep]) (by simp [keep]))
  clear hW hcv
  have HLT3 := Lib.hid (show w.heap.size < w3.heap.size from HT3.out.lt)
  go_wp2_with fail
  go_loopw [9, 50] (fun bv iv wr => ∃ (k : Nat) (n : Nat) (A4 : Option Addr) (c4 : Nat), k ≤ cm.length ∧ iv = .int .i64 (k : Int) ∧ bv = .slice A4 n c4 ∧ n ≤ k + 2 ∧ Hid (n = (9 :: 59 :: keep (cm.take k)).length) ∧ Hid (OwnB wr w3.heap.size (.slice A4 n c4) n (Lib.byteCells (9 :: 59 :: keep (cm.take k)))) ∧ Hid (Below w3.heap.size w3 wr)) (fun _ iv _ => cm.length - (intOf iv).toNat)
  case atStart => exact ⟨0, 2, _, _, Nat.zero_le _, rfl, rfl, by omega, Lib.hid (by simp [keep]), HO4, HX4⟩
  case round =>
    clear HO4 HX4
    obtain ⟨k, n, A4, c4, hk, rfl, rfl, hn, HN, HO, HX⟩ := hrel
    by_cases hlt : k < cm.length
    · have g7 : (k : Int) < (cm.length : Int) := by omega
      have HRB := Lib.hid ((hb.out.below HBw3.out).below HX.out)
      obtain ⟨b, off, rfl, hck⟩ := HRB.out.at_ hlt
      obtain ⟨c, hc⟩ : ∃ c, cm[k] = c := ⟨_, rfl⟩
      rw [hc] at hck
      have hcm : cm[k]? = some c := by rw [List.getElem?_eq_getElem hlt, hc]
      by_cases h10 : c = 10
      · have HKN := Lib.hid (keep_no hcm h10)
        have g8 : (((c.toNat : Int) != 10) : Bool) = false := by rw [h10]; rfl
        clear hc hcm h10
        go_wp2_with fail
        go_roundw
        case rel => exact ⟨k + 1, n, A4, c4, by omega, by go_num, rfl, by omega, Lib.hid (by rw [HKN.out]; exact HN.out), Lib.hid (by rw [HKN.out]; exact HO.out), HX⟩
        case measure => simp [intOf]; omega
      · have HKY := Lib.hid (keep_yes hcm h10)
        have g8 : (((c.toNat : Int) != 10) : Bool) = true := by
          rw [bne_iff_ne]
          intro e
          exact h10 (UInt8.toNat_inj.1 (show c.toNat = 10 by omega))
        have HM : Hid (n + 1 ≤ maxLen ∧ (n + 1) * 1 ≤ 140737488355328) := by constructor <;> (try unfold maxLen) <;> omega
        clear hc hcm h10
        go_wp2_with (at_builtin; refine wpList_append_b rfl _ _ 24 rfl w3.heap.size i0 (.int .u8 0) Tryd.underlying24 hi hz0 hz1 hz2 rfl _ _ _ rfl (HO.out.below ((Below.refl _ _).alloc (Nat.le_refl _) _)) ⟨wr.heap.size, 0, none⟩ 1 1 [byV c] rfl rfl (bk_one (Bk.new wr _ _)) (by intro u hu; simp at hu; subst hu; rfl) (by omega) HM.out.1 HM.out.2 (by have := HX.out.size; simp; omega) ?_; intro v5 w5 hown hgrow)
        obtain ⟨A5, c5, rfl, hc5⟩ := own_row3 hown
        have HX5 : Hid (Below w3.heap.size w3 w5) := Lib.hid ((HX.out.alloc HX.out.size _).grown hgrow (by have := HX.out.size; simp; omega) (fun g hg => HO.out.blk g hg))
        have HO5 : Hid (OwnB w5 w3.heap.size (.slice A5 (n + 1) c5) (n + 1) (Lib.byteCells (9 :: 59 :: keep (cm.take (k + 1))))) := Lib.hid (Or.inl (by
          have e : (9 :: 59 :: keep (cm.take (k + 1)) : List UInt8) = (9 :: 59 :: keep (cm.take k)) ++ [c] := by rw [HKY.out]; rfl
          rw [e, ← byteCells_append]
          exact hown))
        have HN5 : Hid (n + 1 = (9 :: 59 :: keep (cm.take (k + 1))).length) := Lib.hid (by rw [HKY.out, HN.out]; simp)
        clear hown hgrow
        go_wp2_with fail
        go_roundw
        case rel => exact ⟨k + 1, n + 1, A5, c5, by omega, by go_num, rfl, by omega, HN5, HO5, HX5⟩
        case measure => simp [intOf]; omega
    · obtain rfl : k = cm.length := by omega
      have g7 : ¬ ((cm.length : Int) < (cm.length : Int)) := by omega
      have HKT : Hid (keep (cm.take cm.length) = keep cm) := Lib.hid (by rw [List.take_length])
      rw [HKT.out] at HN HO
      clear HKT
      have HTr := Lib.hid (HT3.out.below HX.out HLT3.out)
      go_upto_region 19 with fail
      have hnk : n ≤ 202 := by omega
      have hWl2 : W.length ≤ 1002 := by omega
      have HM1 : Hid (n + 1 ≤ maxLen ∧ (n + 1) * 1 ≤ 140737488355328) := by constructor <;> (try unfold maxLen) <;> omega
      have HM2 : Hid (n + 1 + (⟨W.toArray⟩ : ByteArray).size ≤ maxLen ∧ n + 1 + (⟨W.toArray⟩ : ByteArray).size ≤ 140737488355328) := by
        have e : (⟨W.toArray⟩ : ByteArray).size = W.length := by show W.toArray.size = _; simp
        constructor <;> rw [e] <;> (try unfold maxLen) <;> omega
      have HM3 : Hid (n + 1 + (⟨W.toArray⟩ : ByteArray).size + (⟨#[32, 13, 10]⟩ : ByteArray).size ≤ maxLen ∧ n + 1 + (⟨W.toArray⟩ : ByteArray).size + (⟨#[32, 13, 10]⟩ : ByteArray).size ≤ 140737488355328) := by
        have e : (⟨W.toArray⟩ : ByteArray).size = W.length := by show W.toArray.size = _; simp
        have e2 : (⟨#[32, 13, 10]⟩ : ByteArray).size = 3 := rfl
        constructor <;> rw [e, e2] <;> (try unfold maxLen) <;> omega
      go_upto_region 20 with (first
        | (at_builtin; refine wpList_append_b rfl _ _ 24 rfl w3.heap.size i0 (.int .u8 0) Tryd.underlying24 hi hz0 hz1 hz2 rfl _ _ _ rfl (HO.out.below ((Below.refl _ _).alloc (Nat.le_refl _) _)) ⟨wr.heap.size, 0, none⟩ 1 1 [byV 10] rfl rfl (bk_one (Bk.new wr _ _)) (by intro u hu; simp at hu; subst hu; rfl) (by omega) HM1.out.1 HM1.out.2 (by have := HX.out.size; simp; omega) ?_; intro v5 w5 own5 gr5; have HX5 : Hid (Below w3.heap.size w3 w5) := Lib.hid ((HX.out.alloc HX.out.size _).grown gr5 (by have := HX.out.size; simp; omega) (fun g hg => HO.out.blk g hg)))
        | (at_builtin; refine Lib.wpList_append_own_string _ rfl _ _ 24 9 rfl w3.heap.size 5 i0 Tryd.underlying24 Tryd.underlying9 hi hz0 hz1 hz2 _ _ _ rfl own5 ⟨W.toArray⟩ rfl HM2.out.1 HM2.out.2 HX5.out.size ?_; intro v6 w6 own6 gr6 _; have HX6 : Hid (Below w3.heap.size w3 w6) := Lib.hid (HX5.out.grown gr6 HX5.out.size (fun g hg => (own5.lt g hg).1)))
        | (at_builtin; refine Lib.wpList_append_own_string _ rfl _ _ 24 9 rfl w3.heap.size 5 i0 Tryd.underlying24 Tryd.underlying9 hi hz0 hz1 hz2 _ _ _ rfl own6 ⟨#[32, 13, 10]⟩ rfl HM3.out.1 HM3.out.2 HX6.out.size ?_; intro v7 w7 own7 gr7 _; have HX7 : Hid (Below w3.heap.size w3 w7) := Lib.hid (HX6.out.grown gr7 HX6.out.size (fun g hg => (own6.lt g hg).1))))
      obtain ⟨A7, c7, rfl, hc7⟩ := own_row3 own7
      have hWs : (⟨W.toArray⟩ : ByteArray).size = W.length := by show W.toArray.size = _; simp
      have h3s : (⟨#[32, 13, 10]⟩ : ByteArray).size = 3 := rfl
      have HL7 : Hid ((9 :: 59 :: keep cm ++ [10] ++ W ++ [32, 13, 10] : List UInt8).length = n + 1 + (⟨W.toArray⟩ : ByteArray).size + (⟨#[32, 13, 10]⟩ : ByteArray).size) := Lib.hid (by
        rw [hWs, h3s, HN.out]; simp; omega)
      have RB7 : Hid (Rb w7 A7 (9 :: 59 :: keep cm ++ [10] ++ W ++ [32, 13, 10])) := Lib.hid (rb_row (n := n + 1 + (⟨W.toArray⟩ : ByteArray).size + (⟨#[32, 13, 10]⟩ : ByteArray).size) (base := w3.heap.size) (c := c7) (by
        have e : Lib.byteCells (9 :: 59 :: keep cm ++ [10] ++ W ++ [32, 13, 10]) = Lib.byteCells (9 :: 59 :: keep cm) ++ [byV 10] ++ Lib.strCells ⟨W.toArray⟩ ++ Lib.strCells ⟨#[32, 13, 10]⟩ := by
          simp [Lib.byteCells, Lib.strCells]
        rw [e]
        exact own7) HL7.out.symm)
      obtain ⟨N, hN⟩ : ∃ N, n + 1 + (⟨W.toArray⟩ : ByteArray).size + (⟨#[32, 13, 10]⟩ : ByteArray).size = N := ⟨_, rfl⟩
      rw [hN] at HL7 hc7 ⊢
      have hN1 : N ≤ 2000 := by rw [← hN, hWs, h3s]; omega
      have HLK : Hid (n = (keep cm).length + 2) := Lib.hid (by rw [HN.out]; simp)
      clear hN own5 own6 own7 gr5 gr6 gr7 HM1 HM2 HM3 hWs h3s HO HN
      go_upto_region 21 with (go_at_call 8; refine (pread_len HL7.out RB7 (by omega) hc7 (by omega) HRD.out).mono ?_; rintro e w8 ⟨A8, c8, rfl, hD8, hDc8, HO8, HB8⟩)
      have HX8 : Hid (Below w3.heap.size w3 w8) := Lib.hid (HX7.out.trans (HB8.out.mono HX7.out.size))
      generalize hW : w8.alloc _ = W9
      have HF9 : Hid (Bk W9 w8.heap.size 31 #[.int .i64 0, .int .i64 0]) := Lib.hid (hW ▸ Bk.new w8 _ _)
      have HB9 : Hid (Below w8.heap.size w8 W9) := Lib.hid (hW ▸ (Below.refl _ _).alloc (Nat.le_refl _) _)
      have HO9 := Lib.hid (own_below HO8.out HB9.out)
      have HX9 : Hid (Below w3.heap.size w3 W9) := Lib.hid (HX8.out.trans (HB9.out.mono HX8.out.size))
      have HT9 := Lib.hid (HT3.out.below HX9.out HLT3.out)
      have t0 : W9.cell? ⟨w.heap.size, 0, none⟩ = some (.int .i64 (j : Int)) := HT9.out.cell 0
      have t1 : W9.cell? ⟨w.heap.size, 1, none⟩ = some (.string S) := HT9.out.cell 1
      have f0 : W9.cell? ⟨w8.heap.size, 0, none⟩ = some (.int .i64 0) := HF9.out.cell 0
      have HBF : Hid (Below w.heap.size w W9) := Lib.hid (HBw3.out.trans (HX9.out.mono HBw3.out.size))
      clear hW
      have T1 : Hid (∀ o, Tr (W9.alloc o) A8 [⟨j, S.data.toList, (keep cm).length + 3⟩]) := Lib.hid (fun o => Tr.of_own (HO9.out.alloc o))
      go_wp2_with (go_at_call 9; refine (refSame_any (D := [⟨j, S.data.toList, (keep cm).length + 3⟩]) (E := [⟨j, S.data.toList, (keep cm).length + 3⟩]) (Lib.hid (T1.out _)) (Lib.hid (tr_one (x := ⟨j, S.data.toList, (keep cm).length + 3⟩) rfl (by have := HLK.out; simp only; omega) (Bk.new W9 _ _))) (by simp) (by simp)).mono ?_; rintro e w10 ⟨rfl, n10, rfl⟩)
      go_ret
      exact ⟨ret_bool (by simp), Lib.hid (below_dn (HBF.out.alloc HBF.out.size _) _)⟩

theorem words_any {w : World} {K P : Int} {S : ByteArray} {A : Option Addr} {cm : List UInt8} {cb : Nat} (hsh : w.ShapedOpen Tryd.prog) (hb : Rb w A cm) :
    Calls Tryd.prog 3 #[.agg #[.int .i64 K, .string S, .int .i64 P], .slice A cm.length cb] w fun e w' => e = .returned (.bool true) ∧ Hid (Below w.heap.size w w') := by
  by_cases h1 : 500 < S.size
  · exact words_long1 h1
  by_cases h2 : 200 < cm.length
  · exact words_long2 (by omega) h2
  cases hr : wordW K S.data.toList with
  | none => exact words_none hsh (by omega) (by omega) hr
  | some W => exact words_some hsh (Lib.hid hb) (by omega) (by omega) hr
end Go.Proofs.YtcikleomipbkmaaDoor.tk
