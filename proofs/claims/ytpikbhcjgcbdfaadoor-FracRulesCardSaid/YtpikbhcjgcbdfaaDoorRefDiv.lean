/- The document's answer Div. -/
import Derived.Test.YtpikbhcjgcbdfaaDoorRefMul
import Derived.Test.YtpikbhcjgcbdfaaDoorMemA
import Derived.Test.YtpikbhcjgcbdfaaDoorWhC
import Derived.Laws.AppendOwnNone
import Derived.Deep.RegionWith
import Derived.Deep.DeepCutAuto
namespace Go.Proofs.YtpikbhcjgcbdfaaDoor.wh
open Go.RowKit

theorem IsNum.tight {w : World} {B m k : Nat} {v : Value} {z : Int} (h : IsNum w B m v z) (hz : z.natAbs < 10 ^ k) : IsNum w B k v z := by
  obtain ⟨neg, A, n, c, ds, h1, h2, h3, h4, h5, h6, h7, h8, h9⟩ := h
  have e : tval ds = z.natAbs := by rw [← h9]; cases neg <;> simp [tz]
  have := ttop_len h7 (m := k) (by rw [e]; exact hz)
  exact ⟨neg, A, n, c, ds, h1, h2, h3, by omega, h5, h6, h7, h8, h9⟩
theorem IsNum.small {w : World} {B m : Nat} {v : Value} {z : Int} (h : IsNum w B m v z) : z.natAbs < 10 ^ m := by
  obtain ⟨neg, A, n, c, ds, h1, h2, h3, h4, h5, h6, h7, h8, h9⟩ := h
  have e : tval ds = z.natAbs := by rw [← h9]; cases neg <;> simp [tz]
  have := tval_lt h6
  have h10 : 10 ^ ds.length ≤ 10 ^ m := Nat.pow_le_pow_right (by omega) (by omega)
  omega

/-- the digits behind j are divided: R is left, the quotient's digits stand -/
def DivN (xs qs : List Nat) (Y j R : Nat) : Prop := qs.length = xs.length ∧ Ten qs ∧ (∀ i (h : i < qs.length), i < j → qs[i] = 0) ∧ R < Y ∧ R + Y * tval (qs.drop j) = tval (xs.drop j)
/-- at digit j: Y has been taken t times -/
def DivT (xs qs cur : List Nat) (Y j R t : Nat) : Prop := cur = qs.set j t ∧ t ≤ 9 ∧ ∃ R0, DivN xs qs Y (j + 1) R0 ∧ R + t * Y = at0 xs j + 10 * R0
theorem divN_start {xs : List Nat} {Y : Nat} (hY : 0 < Y) : DivN xs (List.replicate xs.length 0) Y xs.length 0 := by
  refine ⟨by simp, fun d hd => by rw [List.mem_replicate] at hd; omega, fun i h _ => by simp, hY, ?_⟩
  rw [List.drop_eq_nil_of_le (by simp), List.drop_eq_nil_of_le (by simp)]
  simp [tval]
theorem divT_start {xs qs : List Nat} {Y j R0 : Nat} (h : DivN xs qs Y (j + 1) R0) (hj : j < xs.length) : DivT xs qs qs Y j (at0 xs j + 10 * R0) 0 := by
  have hz := h.2.2.1 j (by rw [h.1]; exact hj) (by omega)
  refine ⟨?_, by omega, R0, h, by omega⟩
  have hjq : j < qs.length := by rw [h.1]; exact hj
  conv => lhs; rw [← List.set_getElem_self hjq]
  rw [hz]
theorem divT_bound {xs qs cur : List Nat} {Y j R t : Nat} (hx : Ten xs) (h : DivT xs qs cur Y j R t) (hY : Y ≤ R) : t + 1 ≤ 9 := by
  obtain ⟨h1, h2, R0, h3, h4⟩ := h
  have a := at0_lt hx j
  have b := h3.2.2.2.1
  rcases Nat.lt_or_ge t 9 with hlt | hge
  · omega
  · have : 9 * Y ≤ t * Y := Nat.mul_le_mul_right Y hge
    omega
theorem divT_step {xs qs cur : List Nat} {Y j R t : Nat} (hx : Ten xs) (h : DivT xs qs cur Y j R t) (hY : Y ≤ R) : DivT xs qs (cur.set j (t + 1)) Y j (R - Y) (t + 1) := by
  have hb := divT_bound hx h hY
  obtain ⟨h1, h2, R0, h3, h4⟩ := h
  refine ⟨by rw [h1, List.set_set], hb, R0, h3, ?_⟩
  rw [Nat.add_mul]
  omega
theorem divT_end {xs qs cur : List Nat} {Y j R t : Nat} (h : DivT xs qs cur Y j R t) (hj : j < xs.length) (hR : R < Y) : DivN xs cur Y j R := by
  obtain ⟨h1, h2, R0, ⟨g1, g2, g3, g4, g5⟩, h4⟩ := h
  have hjq : j < qs.length := by rw [g1]; exact hj
  subst h1
  refine ⟨by rw [List.length_set]; exact g1, g2.set (by omega), fun i hi hlt => ?_, hR, ?_⟩
  · rw [List.getElem_set_ne (by omega)]
    exact g3 i (by simpa using hi) (by omega)
  · have e : (qs.set j t).drop j = t :: qs.drop (j + 1) := by
      rw [List.drop_eq_getElem_cons (by rw [List.length_set]; exact hjq), List.getElem_set_self, List.drop_set_of_lt (by omega)]
    rw [e, tval_drop hj]
    simp only [tval]
    rw [Nat.mul_add, Nat.mul_left_comm Y 10, ← at0_in hj, Nat.mul_comm Y t]
    omega
theorem divT_get {xs qs cur : List Nat} {Y j R t : Nat} (h : DivT xs qs cur Y j R t) (hj : j < xs.length) : ∃ hk : j < cur.length, cur[j] = t := by
  obtain ⟨h1, h2, R0, ⟨g1, _⟩, h4⟩ := h
  have hjq : j < qs.length := by rw [g1]; exact hj
  subst h1
  exact ⟨by rw [List.length_set]; exact hjq, by rw [List.getElem_set_self]⟩
theorem divN_end {xs qs : List Nat} {Y R : Nat} (h : DivN xs qs Y 0 R) : tval qs = tval xs / Y ∧ R = tval xs % Y := by
  obtain ⟨h1, h2, h3, h4, h5⟩ := h
  rw [List.drop_zero, List.drop_zero] at h5
  have hY : 0 < Y := by omega
  have := (Nat.div_mod_unique hY (a := tval xs) (c := R) (d := tval qs)).2 ⟨h5, h4⟩
  exact ⟨this.1.symm, this.2.symm⟩

theorem natAbs_tz {neg : Bool} {ds : List Nat} {a : Int} (h : tz neg ds = a) : a.natAbs = tval ds := by
  subst h
  cases neg <;> simp [tz]
theorem tsgn_quo {nx ny : Bool} {X Y : Nat} {a b : Int} (hx : (if nx then -(X : Int) else (X : Int)) = a) (hy : (if ny then -(Y : Int) else (Y : Int)) = b) (hY : 0 < Y) :
    (nx = true → 0 < X % Y → tsgn (nx != ny) (X / Y) + (if ny then 1 else -1) = quoZ a b ∧ tsgn nx (X % Y) + (Y : Int) = remZ a b) ∧ ((nx = false ∨ X % Y = 0) → tsgn (nx != ny) (X / Y) = quoZ a b ∧ tsgn nx (X % Y) = remZ a b) := by
  have e := Nat.div_add_mod X Y
  have hl := Nat.mod_lt X hY
  generalize X / Y = Q at *
  generalize X % Y = R at *
  have e' : (X : Int) = (Y : Int) * (Q : Int) + (R : Int) := by rw [← e]; simp
  subst hx hy
  have hb : (if ny then -(Y : Int) else (Y : Int)) ≠ 0 := by cases ny <;> simp <;> omega
  have hab : ((if ny then -(Y : Int) else (Y : Int)).natAbs : Int) = (Y : Int) := by cases ny <;> simp
  refine ⟨fun h1 h2 => ?_, fun h1 => ?_⟩
  · subst h1
    have h := div_unique (a := if true then -(X : Int) else X) (b := if ny then -(Y : Int) else (Y : Int)) (q := tsgn (true != ny) Q + (if ny then 1 else -1)) (r := tsgn true R + (Y : Int)) hb
      (by cases ny <;> simp [tsgn, e'] <;> grind) (by simp [tsgn]; omega) (by rw [hab]; simp [tsgn]; omega)
    exact ⟨h.1.symm, h.2.symm⟩
  · have h := div_unique (a := if nx then -(X : Int) else X) (b := if ny then -(Y : Int) else (Y : Int)) (q := tsgn (nx != ny) Q) (r := tsgn nx R) hb
      (by rcases h1 with h1 | h1 <;> subst h1 <;> cases ny <;> (try cases nx) <;> simp [tsgn, e'] <;> grind) (by rcases h1 with h1 | h1 <;> subst h1 <;> (try cases nx) <;> simp [tsgn])
      (by rw [hab]; rcases h1 with h1 | h1 <;> subst h1 <;> (try cases nx) <;> simp [tsgn] <;> omega)
    exact ⟨h.1.symm, h.2.symm⟩
def GivesTwoN (W : World) (p q : Nat) (v u : Int) (e : Ending) (w' : World) : Prop :=
  ∃ x1 A1 n1 c1 x2 A2 n2 c2, e = .returned (.tuple #[.agg #[.bool x1, .slice A1 n1 c1], .agg #[.bool x2, .slice A2 n2 c2]]) ∧ Hid (IsNum w' w'.heap.size p (.agg #[.bool x1, .slice A1 n1 c1]) v) ∧ Hid (IsNum w' w'.heap.size q (.agg #[.bool x2, .slice A2 n2 c2]) u) ∧ Hid (Below W.heap.size W w')
theorem rn_cells {w : World} {B : Nat} {ad : Addr} {ds : List Nat} (h : Rn w B (some ad) ds) : ∀ k u, (i64s ds)[k]? = some u → w.cell? (ad.add k) = some u := fun k u hk => by
  have hkl : k < ds.length := by
    have := (List.getElem?_eq_some_iff.1 hk).1
    rwa [i64s_length] at this
  obtain ⟨b, off, e, _, hc⟩ := h (by omega)
  injection e with e
  subst e
  rw [i64s_get hkl] at hk
  injection hk with hk
  subst hk
  rw [← hc k hkl]
  unfold Addr.add
  by_cases h0 : k = 0 <;> simp [h0]
theorem i64s_one (ds : List Nat) : ∀ u ∈ i64s ds, u.oneCell' = true := by
  intro u hu
  simp only [i64s, List.mem_map] at hu
  obtain ⟨_, _, rfl⟩ := hu
  rfl
/-- the number in a cell -/
def digAt (w : World) (g i : Nat) : Nat := match w.cell? ⟨g, i, none⟩ with
  | some (.int _ z) => z.toNat
  | _ => 0
theorem digAt_eq {w : World} {g i t : Nat} (h : w.cell? ⟨g, i, none⟩ = some (.int .i64 (t : Int))) : digAt w g i = t := by
  unfold digAt
  rw [h]
  simp
theorem RowN.kept {w w' : World} {A : Option Addr} {n c v : Nat} (h : RowN w A n c v) (hk : Kept w w') : RowN w' A n c v := by
  obtain ⟨ds, h1, h2, h3, h4⟩ := h
  exact ⟨ds, h1, h2, h3.kept (Nat.le_refl _) hk, h4⟩
theorem num_neg {w : World} {B m : Nat} {neg : Bool} {A : Option Addr} {n c : Nat} {z : Int} (h : IsNum w B m (.agg #[.bool neg, .slice A n c]) z) : (neg = true → z < 0) ∧ (neg = false → 0 ≤ z) := by
  obtain ⟨neg', A', n', c', ds, h1, h2, h3, h4, h5, h6, h7, h8, h9⟩ := h
  injection h1 with h1
  have h0 := congrArg (fun a : Array Value => a.toList) h1
  simp only [List.cons.injEq, Value.bool.injEq, Value.slice.injEq, and_true] at h0
  obtain ⟨rfl, rfl, rfl, rfl⟩ := h0
  subst h9
  refine ⟨fun e => ?_, fun e => ?_⟩
  · subst e
    have := ttop_pos h7 (fun e => by have := h8 e; cases this)
    simp [tz]
    omega
  · subst e
    simp [tz]
theorem tens_row {w : World} {A : Option Addr} {n c : Nat} {ds : List Nat} (h : Tens w n c A ds) : RowN w A n c (tval ds) := ⟨ds, h.len, h.cap, h.rd, h.ten, rfl⟩
theorem isNum_zero (w : World) (B m : Nat) : IsNum w B m (.agg #[.bool false, .slice none 0 0]) 0 := ⟨false, none, 0, 0, [], rfl, rfl, Rn.nil, Nat.zero_le _, Nat.zero_le _, Ten.nil, Top.nil, fun _ => rfl, rfl⟩

set_option maxRecDepth 100000 in
set_option maxHeartbeats 4000000 in
theorem refDiv_any {v u : Value} {p q : Nat} {a b : Int} {w : World} (hp : p ≤ 1000) (hq : q ≤ 1000) (hx : IsNum w w.heap.size p v a) (hy : IsNum w w.heap.size q u b) :
    Calls Tryd.prog 15 #[v, u] w fun e w' => GivesTwoN w (p + 2) q (quoZ a b) (remZ a b) e w' := by
  have HQ := Lib.hid hy.small
  obtain ⟨nx, A, n, c, xs, rfl, hnp, TX, ZX, PX⟩ := hx.tens
  obtain ⟨ny, B, m, d, ys, rfl, hmq, TY, ZY, PY⟩ := hy.tens
  clear hx hy PX PY
  obtain ⟨i0, hi, hz0, hz1, hz2⟩ := info_parts info_int
  have HT : Hid (Mem w [(w.heap.size, 29, [.bool nx, .slice A n c]), (w.heap.size + 1, 29, [.bool ny, .slice B m d]), (w.heap.size + 1 + 1, 29, [.bool false, .slice none 0 0]), (w.heap.size + 1 + 1 + 1, 29, [.bool false, .slice none 0 0])] ((((w.alloc (.cells #[.bool nx, .slice A n c] 29)).alloc (.cells #[.bool ny, .slice B m d] 29)).alloc (.cells #[.bool false, .slice none 0 0] 29)).alloc (.cells #[.bool false, .slice none 0 0] 29))) := (((((Mem.new w).push (by simp) 29 [.bool nx, .slice A n c] rfl).push (by simp) 29 [.bool ny, .slice B m d] rfl).push (by simp) 29 [.bool false, .slice none 0 0] rfl).push (by simp) 29 [.bool false, .slice none 0 0] rfl)
  have AH : Hid (∀ w' : World, Mem w [(w.heap.size, 29, [.bool nx, .slice A n c]), (w.heap.size + 1, 29, [.bool ny, .slice B m d]), (w.heap.size + 1 + 1, 29, [.bool false, .slice none 0 0]), (w.heap.size + 1 + 1 + 1, 29, [.bool false, .slice none 0 0])] w' → (w'.cell? ⟨w.heap.size, 0, none⟩ = some (.bool nx) ∧ w'.cell? ⟨w.heap.size, 1, none⟩ = some (.slice A n c) ∧ w'.cell? ⟨w.heap.size + 1, 0, none⟩ = some (.bool ny) ∧ w'.cell? ⟨w.heap.size + 1, 1, none⟩ = some (.slice B m d) ∧ w'.cell? ⟨w.heap.size + 1 + 1, 0, none⟩ = some (.bool false) ∧ w'.cell? ⟨w.heap.size + 1 + 1, 1, none⟩ = some (.slice none 0 0) ∧ w'.cell? ⟨w.heap.size + 1 + 1 + 1, 0, none⟩ = some (.bool false) ∧ w'.cell? ⟨w.heap.size + 1 + 1 + 1, 1, none⟩ = some (.slice none 0 0)) ∧ (w'.frozen? ⟨w.heap.size, 0, none⟩ = false ∧ w'.frozen? ⟨w.heap.size, 1, none⟩ = false ∧ w'.frozen? ⟨w.heap.size + 1, 0, none⟩ = false ∧ w'.frozen? ⟨w.heap.size + 1, 1, none⟩ = false ∧ w'.frozen? ⟨w.heap.size + 1 + 1, 0, none⟩ = false ∧ w'.frozen? ⟨w.heap.size + 1 + 1, 1, none⟩ = false ∧ w'.frozen? ⟨w.heap.size + 1 + 1 + 1, 0, none⟩ = false ∧ w'.frozen? ⟨w.heap.size + 1 + 1 + 1, 1, none⟩ = false) ∧ Hid (Mem w [(w.heap.size, 29, [.bool nx, .slice A n c]), (w.heap.size + 1, 29, [.bool ny, .slice B m d]), (w.heap.size + 1 + 1, 29, [.bool false, .slice none 0 0]), (w.heap.size + 1 + 1 + 1, 29, [.bool false, .slice none 0 0])] w')) := fun w' h => ⟨⟨h.c 0 rfl 0 rfl, h.c 0 rfl 1 rfl, h.c 1 rfl 0 rfl, h.c 1 rfl 1 rfl, h.c 2 rfl 0 rfl, h.c 2 rfl 1 rfl, h.c 3 rfl 0 rfl, h.c 3 rfl 1 rfl⟩, ⟨h.f 0 rfl 0, h.f 0 rfl 1, h.f 1 rfl 0, h.f 1 rfl 1, h.f 2 rfl 0, h.f 2 rfl 1, h.f 3 rfl 0, h.f 3 rfl 1⟩, h⟩
  have G0 := (AH.out _ HT.out).1
  have F0 := (AH.out _ HT.out).2.1
  by_cases hm0 : m = 0
  · subst hm0
    have hb0 : Hid (quoZ a b = 0 ∧ remZ a b = 0) := by
      have h1 := List.eq_nil_of_length_eq_zero TY.out.len
      have h2 := ZY.out
      rw [h1] at h2
      have h3 : b = 0 := by rw [← h2]; cases ny <;> simp [tz, tval]
      subst h3
      exact ⟨rfl, rfl⟩
    go_enter Tryd.func15, Tryd.ntmps15
    go_wp2
    refine bodyPost_ret (v := .tuple #[.agg #[.bool false, .slice none 0 0], .agg #[.bool false, .slice none 0 0]]) (by simp [results, Tryd.results15, go_sem]) rfl ⟨false, none, 0, 0, false, none, 0, 0, rfl, ?_, ?_, HT.out.below⟩
    · rw [hb0.out.1]; exact isNum_zero _ _ _
    · rw [hb0.out.2]; exact isNum_zero _ _ _
  · have hm1 : ((m : Int) == 0) = false := by simpa using hm0
    have HY0 : Hid (0 < tval ys) := ttop_pos TY.out.top (fun e => by subst e; exact hm0 TY.out.len.symm)
    have hmk := run_make_int (z := (n : Int)) (n := n) rfl (by omega)
    have wn : IntKind.i64.wrap ((n : Int) - 1) = (n : Int) - 1 := IntWalk.i64_in _ (by omega)
    go_enter Tryd.func15, Tryd.ntmps15
    go_wp2
    clear G0 F0
    go_loopw [7, 8] (fun rv iv wr => (∃ (j : Nat) (z1 : Int) (qs : List Nat) (R : Nat) (ad : Addr) (l c3 : Nat), j ≤ n ∧ iv = .int .i64 z1 ∧ Hid (z1 = (j : Int) - 1) ∧ rv = .slice (some ad) l c3 ∧ Hid (DivN xs qs (tval ys) j R) ∧ Hid (SegI wr (w.heap.size + 1 + 1 + 1 + 1) qs) ∧ Hid (RowT wr (some ad) l c3 R (w.heap.size + 1 + 1 + 1 + 1 + 1))) ∧ Hid (Mem w [(w.heap.size, 29, [.bool nx, .slice A n c]), (w.heap.size + 1, 29, [.bool ny, .slice B m d]), (w.heap.size + 1 + 1, 29, [.bool false, .slice none 0 0]), (w.heap.size + 1 + 1 + 1, 29, [.bool false, .slice none 0 0])] wr)) (fun _ iv _ => (intOf iv + 1).toNat)
    case atStart =>
      refine ⟨⟨n, _, List.replicate n 0, 0, _, _, _, Nat.le_refl _, rfl, rfl, rfl, ?_, ?_, ?_⟩, (HT.out.alloc _).alloc _⟩
      · have h := divN_start (xs := xs) HY0.out
        rw [TX.out.len] at h
        exact h
      · have h := (segI_zeros ((((w.alloc (.cells #[.bool nx, .slice A n c] 29)).alloc (.cells #[.bool ny, .slice B m d] 29)).alloc (.cells #[.bool false, .slice none 0 0] 29)).alloc (.cells #[.bool false, .slice none 0 0] 29)) n).alloc (.cells #[] 3)
        simp only [World.size_alloc] at h
        exact h
      · exact ⟨[], ⟨rfl, Rn.nil, Nat.zero_le _, Ten.nil, Top.nil⟩, rfl, fun h => absurd h (by omega), ⟨_, rfl⟩⟩
    case round =>
      obtain ⟨⟨j, z1, qs, R, ad, l, c3, hj, rfl, hz, rfl, hdiv, hsg, hrow⟩, ht⟩ := hrel
      have C1 := (AH.out _ ht.out).1
      cases j with
      | succ j =>
        obtain rfl : z1 = (j : Int) := by have := hz.out; omega
        have hjx : j < xs.length := by rw [TX.out.len]; omega
        have gj : (j : Int) < (n : Int) := by omega
        have gj0 : (0 : Int) ≤ (j : Int) := by omega
        obtain ⟨b1, o1, rfl, _, cx⟩ := (TX.out.over ht.out.below).rd.at_ hjx
        obtain ⟨x, hxx⟩ : ∃ x, x = xs[j] := ⟨_, rfl⟩
        rw [← hxx] at cx
        have hx9 : x < 10 := by rw [hxx]; exact TX.out.ten.get _ _
        have HXX : Hid (at0 xs j = x) := by show _ = _; rw [at0_in hjx, hxx]
        clear hxx
        obtain ⟨rs, hT, rfl, hF, _⟩ := hrow.out
        have HTR := Lib.hid hT
        have hlen : rs.length = l := hT.len
        have hlm : l ≤ m := by
          have h1 := hdiv.out.2.2.2.1
          have h2 := ttop_len hT.top (m := m) (by have := tval_lt TY.out.ten; rw [TY.out.len] at this; omega)
          omega
        have hcells : Hid (∀ k u, (i64s rs)[k]? = some u → (wr.alloc (.cells #[.int .i64 (x : Int)] 3)).cell? (ad.add k) = some u) := rn_cells ((hT.rd).alloc' _)
        have hones : Hid (∀ u ∈ i64s rs, u.oneCell' = true) := i64s_one rs
        have HOWN1 : Hid ((wr.alloc (.cells #[.int .i64 (x : Int)] 3)).ownsRow wr.heap.size 3 1 (.slice (some ⟨wr.heap.size, 0, none⟩) 1 1) 1 (i64s [x])) := World.ownsRow_lit wr (base := wr.heap.size) (e := 3) (size := 1) #[.int .i64 (x : Int)] 1 (by simp) (by unfold maxLen; omega) rfl
        have HLEN : Hid ((i64s rs).length = l * 1) := by show _ = _; rw [i64s_length, hlen]; omega
        have HM : Hid (1 + l ≤ maxLen ∧ (1 + l) * 8 ≤ 140737488355328) := by constructor <;> (try unfold maxLen) <;> omega
        have hge : w.heap.size + 1 + 1 + 1 + 1 < wr.heap.size := hsg.out.lt
        clear hT hF hlen hrow
        go_wp2_with (at_builtin; refine wpList_append_own _ rfl _ _ 27 rfl wr.heap.size 3 i0 (.int .i64 0) 1 8 Tryd.underlying27 hi hz0 hz1 hz2 rfl (by decide) _ _ _ rfl HOWN1.out ad l c3 (i64s rs) rfl HLEN.out hcells.out hones.out HM.out.1 HM.out.2 (by simp) ?_)
        intro v' w3 hown' hgrow _
        obtain ⟨A5, c5, rfl, hc5⟩ := own_row hown'
        obtain ⟨ad5, rfl⟩ := own_some hown' (by omega)
        have HO3 : Hid (w3.ownsRow wr.heap.size 3 1 (.slice (some ad5) (1 + l) c5) (1 + l) (i64s (x :: rs))) := hown'
        have HM3 : Hid (Mem w [(w.heap.size, 29, [.bool nx, .slice (some ⟨b1, o1, none⟩) n c]), (w.heap.size + 1, 29, [.bool ny, .slice B m d]), (w.heap.size + 1 + 1, 29, [.bool false, .slice none 0 0]), (w.heap.size + 1 + 1 + 1, 29, [.bool false, .slice none 0 0])] w3) := (ht.out.alloc _).grown hgrow (fun g hg => by have h := HOWN1.out.lt g hg; exact ⟨by have := ht.out.below.size; omega, fun y hy => by have := (ht.out.blk y hy).lt; omega⟩)
        have HS3 : Hid (SegI w3 (w.heap.size + 1 + 1 + 1 + 1) qs) := Blk.grown (hsg.out.alloc _) hgrow (fun e => by have := (HOWN1.out.lt _ e.symm).1; omega)
        have HL3 : Hid ((x :: rs).length = 1 + l) := by show _ = _; rw [List.length_cons, HTR.out.len]; omega
        have HT3 : Hid (Ten (x :: rs)) := Ten.cons hx9 HTR.out.ten
        clear hgrow hown' C1
        go_wp2_with fail
        refine (cut_any (some ad5) (1 + l) c5 (x :: rs) w3 HL3.out (by rw [HL3.out]; unfold maxLen; omega) (by rw [HL3.out]; exact hc5) (Rn.of_own HO3.out)).mono ?_
        rintro e w4 ⟨⟨k, rfl, hcut⟩, rfl⟩
        have HR4 : Hid (RowT w3 (some ad5) k c5 (x + 10 * tval rs) (w.heap.size + 1 + 1 + 1 + 1 + 1)) := by
          have hk : k ≤ 1 + l := by have := hcut.1; rw [HL3.out] at this; exact this
          exact ⟨(x :: rs).take k, ⟨by rw [List.length_take]; have := hcut.1; omega, (Rn.of_own HO3.out).take k, by omega, HT3.out.take k, hcut.2.1⟩, hcut.2.2, fun hn' a' e' => by have := own_from HO3.out hk hn' a' e'; omega, ⟨_, rfl⟩⟩
        have HDT : Hid (DivT xs qs qs (tval ys) j (x + 10 * tval rs) 0) := by have h := divT_start hdiv.out hjx; rw [HXX.out] at h; exact h
        clear hcut
        go_wp2
        go_loopw [7] (fun rv wi => (∃ (cur : List Nat) (R t : Nat) (ad : Addr) (l c3 : Nat), rv = .slice (some ad) l c3 ∧ Hid (DivT xs qs cur (tval ys) j R t) ∧ Hid (SegI wi (w.heap.size + 1 + 1 + 1 + 1) cur) ∧ Hid (RowT wi (some ad) l c3 R (w.heap.size + 1 + 1 + 1 + 1 + 1))) ∧ Hid (Mem w [(w.heap.size, 29, [.bool nx, .slice (some ⟨b1, o1, none⟩) n c]), (w.heap.size + 1, 29, [.bool ny, .slice B m d]), (w.heap.size + 1 + 1, 29, [.bool false, .slice none 0 0]), (w.heap.size + 1 + 1 + 1, 29, [.bool false, .slice none 0 0])] wi)) (fun _ wi => 10 - digAt wi (w.heap.size + 1 + 1 + 1 + 1) j)
        case atStart => exact ⟨⟨qs, _, 0, ad5, k, c5, rfl, HDT, HS3, HR4⟩, HM3⟩
        case round =>
          obtain ⟨⟨cur, R, t, ad6, l6, c6, rfl, hdt, hsi, hri⟩, hmi⟩ := hrel
          have C2 := (AH.out _ hmi.out).1
          obtain ⟨ts, hT6, rfl, hF6, _⟩ := hri.out
          have HT6 := Lib.hid hT6
          have hl6 : l6 ≤ 1001 := by
            obtain ⟨_, h2, R0, h3, h4⟩ := hdt.out
            have h5 := tval_lt TY.out.ten
            rw [TY.out.len] at h5
            have h6 := h3.2.2.2.1
            have h7 := at0_lt TX.out.ten j
            have h8 := ttop_len hT6.top (m := m + 1) (by rw [Nat.pow_succ]; omega)
            have := hT6.len
            omega
          clear hT6 hF6
          go_wp2_with fail
          refine (refcmp_any HT6.out (TY.out.over hmi.out.below) (by omega)).mono ?_
          rintro e w5 ⟨rfl, hb5⟩
          have HM5 := Lib.hid (Mem.over hb5 hmi.out)
          have HS5 := Lib.hid (hsi.out.over hb5.out)
          have HT5 := Lib.hid (HT6.out.over hb5.out)
          have HR5 := Lib.hid (hri.out.over hb5.out)
          clear C2
          have C2 := (AH.out _ HM5.out).1
          by_cases hle : tval ys ≤ tval ts
          · have hc : (0 : Int) ≤ cmpN (tval ts) (tval ys) := by
              unfold cmpN
              rw [if_neg (by omega)]
              split <;> omega
            have hml : m ≤ l6 := by
              rcases Nat.lt_or_ge l6 m with h | h
              · have := ttop_short HT6.out.ten TY.out.top (by rw [HT6.out.len, TY.out.len]; exact h)
                omega
              · exact h
            have HLE := Lib.hid hle
            have HB9 := divT_bound TX.out.ten hdt.out hle
            have HST := Lib.hid (divT_step TX.out.ten hdt.out hle)
            clear hle
            go_wp2_with fail
            refine (refsub_any HT5.out (TY.out.over HM5.out.below) (by omega) hml HLE.out).mono ?_
            rintro e w6 ⟨A7, n7, c7, rfl, hn7, hrow7, hb7⟩
            have hge7 : w.heap.size + 1 + 1 + 1 + 1 < w5.heap.size := HS5.out.lt
            have HR7 := Lib.hid (hrow7.out.from_ (g' := w.heap.size + 1 + 1 + 1 + 1 + 1) hge7)
            have HM7 := Lib.hid (Mem.over hb7 HM5.out)
            have HS7 := Lib.hid (HS5.out.over hb7.out)
            obtain ⟨ad7, rfl⟩ : ∃ ad, A7 = some ad := by obtain ⟨_, _, _, _, h⟩ := hrow7.out; exact h
            obtain ⟨hjc, hjt⟩ := divT_get hdt.out hjx
            have hcell := HS7.out.cell hjc
            have hfr := HS7.out.frozen j
            rw [hjt] at hcell
            have hda : Hid (digAt wr (w.heap.size + 1 + 1 + 1 + 1) j = t) := by
              have h := hsi.out.cell hjc
              rw [hjt] at h
              exact digAt_eq h
            have HS8 : Hid (SegI (w6.setCell ⟨w.heap.size + 1 + 1 + 1 + 1, j, none⟩ (.int .i64 ((t : Int) + 1))) (w.heap.size + 1 + 1 + 1 + 1) (cur.set j (t + 1))) := HS7.out.set_ (by omega)
            have hdb : Hid (digAt (w6.setCell ⟨w.heap.size + 1 + 1 + 1 + 1, j, none⟩ (.int .i64 ((t : Int) + 1))) (w.heap.size + 1 + 1 + 1 + 1) j = t + 1) := by
              have h := HS8.out.cell (k := j) (by rw [List.length_set]; exact hjc)
              rw [List.getElem_set_self] at h
              exact digAt_eq h
            clear hjt hjc C2
            go_wp2
            go_roundw
            case rel => exact ⟨⟨_, _, t + 1, ad7, n7, c7, rfl, HST, HS8, HR7.out.store (by omega) _ _⟩, HM7.out.store (by have := ht.out.below.size; omega) (by simp; omega) _ _⟩
            case measure => rw [hdb.out, hda.out]; omega
          · have hc : ¬ (0 : Int) ≤ cmpN (tval ts) (tval ys) := by
              unfold cmpN
              rw [if_pos (by omega)]
              omega
            have HDE := Lib.hid (divT_end hdt.out hjx (by omega))
            clear hle
            go_wp2
            go_roundw
            case rel => exact ⟨⟨j, _, cur, _, ad6, l6, c6, by omega, rfl, rfl, rfl, HDE, HS5, HR5⟩, HM5⟩
            case measure => simp [intOf]
      | zero =>
        obtain rfl : z1 = -1 := by have := hz.out; omega
        have HE := divN_end hdiv.out
        obtain ⟨QQ, hQQ⟩ : ∃ QQ, QQ = tval xs / tval ys := ⟨_, rfl⟩
        have HV := Lib.hid (tsgn_quo (nx := nx) (ny := ny) (X := tval xs) (Y := tval ys) ZX.out ZY.out HY0.out)
        rw [← HE.1, ← HE.2] at HV
        have HR9 : Hid ((remZ a b).natAbs < 10 ^ q) := by
          have h1 := HQ.out
          have hb0 : b ≠ 0 := by
            intro e
            have h2 := natAbs_tz ZY.out
            have h3 := HY0.out
            rw [e] at h2
            simp at h2
            omega
          show _ < _
          unfold remZ
          rw [if_neg hb0]
          have h4 := Int.emod_nonneg a hb0
          have h5 := Int.emod_lt a hb0
          omega
        have HSGL := hdiv.out.1
        rw [TX.out.len] at HSGL
        have HLQ := Lib.hid HSGL
        have HTQ := Lib.hid hdiv.out.2.1
        have HRY := Lib.hid hdiv.out.2.2.2.1
        clear HE hQQ HSGL hdiv
        have hlm : l ≤ m := by
          obtain ⟨rs, hT, rfl, _, _⟩ := hrow.out
          have h2 := ttop_len hT.top (m := m) (by have := tval_lt TY.out.ten; rw [TY.out.len] at this; have := HRY.out; omega)
          have := hT.len
          omega
        go_wp2_with fail
        refine (make1_any (nx != ny) (some ⟨w.heap.size + 1 + 1 + 1 + 1, 0, none⟩) n n qs wr HLQ.out (by omega) (Nat.le_refl _) hsg.out.rn HTQ.out).mono ?_
        rintro e w3 ⟨x3, A3, n3, c3, rfl, hia, hb3⟩
        have T3 := Lib.hid (Mem.over hb3 ht.out)
        have T4 : Hid (Mem w [(w.heap.size, 29, [.bool nx, .slice A n c]), (w.heap.size + 1, 29, [.bool ny, .slice B m d]), (w.heap.size + 1 + 1, 29, [.bool false, .slice none 0 0]), (w.heap.size + 1 + 1 + 1, 29, [.bool false, .slice none 0 0]), (w3.heap.size, 29, [.bool x3, .slice A3 n3 c3])] (w3.alloc (.cells #[.bool x3, .slice A3 n3 c3] 29))) := T3.out.push rfl 29 [.bool x3, .slice A3 n3 c3] rfl
        have R3 := Lib.hid (hrow.out.over hb3.out).row
        have K4 : Hid (Kept w3 (w3.alloc (.cells #[.bool x3, .slice A3 n3 c3] 29))) := (Kept.refl w3).alloc _
        have HI4 := Lib.hid (hia.out.kept K4.out)
        have R4 := Lib.hid (R3.out.kept K4.out)
        have A4 : Hid (∀ w' : World, Mem w [(w.heap.size, 29, [.bool nx, .slice A n c]), (w.heap.size + 1, 29, [.bool ny, .slice B m d]), (w.heap.size + 1 + 1, 29, [.bool false, .slice none 0 0]), (w.heap.size + 1 + 1 + 1, 29, [.bool false, .slice none 0 0]), (w3.heap.size, 29, [.bool x3, .slice A3 n3 c3])] w' → (w'.cell? ⟨w.heap.size, 0, none⟩ = some (.bool nx) ∧ w'.cell? ⟨w.heap.size, 1, none⟩ = some (.slice A n c) ∧ w'.cell? ⟨w.heap.size + 1, 0, none⟩ = some (.bool ny) ∧ w'.cell? ⟨w.heap.size + 1, 1, none⟩ = some (.slice B m d) ∧ w'.cell? ⟨w.heap.size + 1 + 1, 0, none⟩ = some (.bool false) ∧ w'.cell? ⟨w.heap.size + 1 + 1, 1, none⟩ = some (.slice none 0 0) ∧ w'.cell? ⟨w.heap.size + 1 + 1 + 1, 0, none⟩ = some (.bool false) ∧ w'.cell? ⟨w.heap.size + 1 + 1 + 1, 1, none⟩ = some (.slice none 0 0) ∧ w'.cell? ⟨w3.heap.size, 0, none⟩ = some (.bool x3) ∧ w'.cell? ⟨w3.heap.size, 1, none⟩ = some (.slice A3 n3 c3)) ∧ (w'.frozen? ⟨w.heap.size, 0, none⟩ = false ∧ w'.frozen? ⟨w.heap.size, 1, none⟩ = false ∧ w'.frozen? ⟨w.heap.size + 1, 0, none⟩ = false ∧ w'.frozen? ⟨w.heap.size + 1, 1, none⟩ = false ∧ w'.frozen? ⟨w.heap.size + 1 + 1, 0, none⟩ = false ∧ w'.frozen? ⟨w.heap.size + 1 + 1, 1, none⟩ = false ∧ w'.frozen? ⟨w.heap.size + 1 + 1 + 1, 0, none⟩ = false ∧ w'.frozen? ⟨w.heap.size + 1 + 1 + 1, 1, none⟩ = false ∧ w'.frozen? ⟨w3.heap.size, 0, none⟩ = false ∧ w'.frozen? ⟨w3.heap.size, 1, none⟩ = false) ∧ Hid (Mem w [(w.heap.size, 29, [.bool nx, .slice A n c]), (w.heap.size + 1, 29, [.bool ny, .slice B m d]), (w.heap.size + 1 + 1, 29, [.bool false, .slice none 0 0]), (w.heap.size + 1 + 1 + 1, 29, [.bool false, .slice none 0 0]), (w3.heap.size, 29, [.bool x3, .slice A3 n3 c3])] w')) := fun w' h => ⟨⟨h.c 0 rfl 0 rfl, h.c 0 rfl 1 rfl, h.c 1 rfl 0 rfl, h.c 1 rfl 1 rfl, h.c 2 rfl 0 rfl, h.c 2 rfl 1 rfl, h.c 3 rfl 0 rfl, h.c 3 rfl 1 rfl, h.c 4 rfl 0 rfl, h.c 4 rfl 1 rfl⟩, ⟨h.f 0 rfl 0, h.f 0 rfl 1, h.f 1 rfl 0, h.f 1 rfl 1, h.f 2 rfl 0, h.f 2 rfl 1, h.f 3 rfl 0, h.f 3 rfl 1, h.f 4 rfl 0, h.f 4 rfl 1⟩, h⟩
        have C4 := (A4.out _ T4.out).1
        clear C1
        go_wp2_with fail
        refine (make1_row nx R4.out (by omega)).mono ?_
        rintro e w5 ⟨x5, A5, n5, c5, rfl, hib, hb5⟩
        have T5 := Lib.hid (Mem.over hb5 T4.out)
        have T6 : Hid (Mem w [(w.heap.size, 29, [.bool nx, .slice A n c]), (w.heap.size + 1, 29, [.bool ny, .slice B m d]), (w.heap.size + 1 + 1, 29, [.bool false, .slice none 0 0]), (w.heap.size + 1 + 1 + 1, 29, [.bool false, .slice none 0 0]), (w3.heap.size, 29, [.bool x3, .slice A3 n3 c3]), (w5.heap.size, 29, [.bool x5, .slice A5 n5 c5])] (w5.alloc (.cells #[.bool x5, .slice A5 n5 c5] 29))) := T5.out.push rfl 29 [.bool x5, .slice A5 n5 c5] rfl
        have K6 : Hid (Kept w5 (w5.alloc (.cells #[.bool x5, .slice A5 n5 c5] 29))) := (Kept.refl w5).alloc _
        have HI6 := Lib.hid ((HI4.out.over hb5.out).kept K6.out)
        have HJ6 := Lib.hid (hib.out.kept K6.out)
        have A6 : Hid (∀ w' : World, Mem w [(w.heap.size, 29, [.bool nx, .slice A n c]), (w.heap.size + 1, 29, [.bool ny, .slice B m d]), (w.heap.size + 1 + 1, 29, [.bool false, .slice none 0 0]), (w.heap.size + 1 + 1 + 1, 29, [.bool false, .slice none 0 0]), (w3.heap.size, 29, [.bool x3, .slice A3 n3 c3]), (w5.heap.size, 29, [.bool x5, .slice A5 n5 c5])] w' → (w'.cell? ⟨w.heap.size, 0, none⟩ = some (.bool nx) ∧ w'.cell? ⟨w.heap.size, 1, none⟩ = some (.slice A n c) ∧ w'.cell? ⟨w.heap.size + 1, 0, none⟩ = some (.bool ny) ∧ w'.cell? ⟨w.heap.size + 1, 1, none⟩ = some (.slice B m d) ∧ w'.cell? ⟨w.heap.size + 1 + 1, 0, none⟩ = some (.bool false) ∧ w'.cell? ⟨w.heap.size + 1 + 1, 1, none⟩ = some (.slice none 0 0) ∧ w'.cell? ⟨w.heap.size + 1 + 1 + 1, 0, none⟩ = some (.bool false) ∧ w'.cell? ⟨w.heap.size + 1 + 1 + 1, 1, none⟩ = some (.slice none 0 0) ∧ w'.cell? ⟨w3.heap.size, 0, none⟩ = some (.bool x3) ∧ w'.cell? ⟨w3.heap.size, 1, none⟩ = some (.slice A3 n3 c3) ∧ w'.cell? ⟨w5.heap.size, 0, none⟩ = some (.bool x5) ∧ w'.cell? ⟨w5.heap.size, 1, none⟩ = some (.slice A5 n5 c5)) ∧ (w'.frozen? ⟨w.heap.size, 0, none⟩ = false ∧ w'.frozen? ⟨w.heap.size, 1, none⟩ = false ∧ w'.frozen? ⟨w.heap.size + 1, 0, none⟩ = false ∧ w'.frozen? ⟨w.heap.size + 1, 1, none⟩ = false ∧ w'.frozen? ⟨w.heap.size + 1 + 1, 0, none⟩ = false ∧ w'.frozen? ⟨w.heap.size + 1 + 1, 1, none⟩ = false ∧ w'.frozen? ⟨w.heap.size + 1 + 1 + 1, 0, none⟩ = false ∧ w'.frozen? ⟨w.heap.size + 1 + 1 + 1, 1, none⟩ = false ∧ w'.frozen? ⟨w3.heap.size, 0, none⟩ = false ∧ w'.frozen? ⟨w3.heap.size, 1, none⟩ = false ∧ w'.frozen? ⟨w5.heap.size, 0, none⟩ = false ∧ w'.frozen? ⟨w5.heap.size, 1, none⟩ = false) ∧ Hid (Mem w [(w.heap.size, 29, [.bool nx, .slice A n c]), (w.heap.size + 1, 29, [.bool ny, .slice B m d]), (w.heap.size + 1 + 1, 29, [.bool false, .slice none 0 0]), (w.heap.size + 1 + 1 + 1, 29, [.bool false, .slice none 0 0]), (w3.heap.size, 29, [.bool x3, .slice A3 n3 c3]), (w5.heap.size, 29, [.bool x5, .slice A5 n5 c5])] w')) := fun w' h => ⟨⟨h.c 0 rfl 0 rfl, h.c 0 rfl 1 rfl, h.c 1 rfl 0 rfl, h.c 1 rfl 1 rfl, h.c 2 rfl 0 rfl, h.c 2 rfl 1 rfl, h.c 3 rfl 0 rfl, h.c 3 rfl 1 rfl, h.c 4 rfl 0 rfl, h.c 4 rfl 1 rfl, h.c 5 rfl 0 rfl, h.c 5 rfl 1 rfl⟩, ⟨h.f 0 rfl 0, h.f 0 rfl 1, h.f 1 rfl 0, h.f 1 rfl 1, h.f 2 rfl 0, h.f 2 rfl 1, h.f 3 rfl 0, h.f 3 rfl 1, h.f 4 rfl 0, h.f 4 rfl 1, h.f 5 rfl 0, h.f 5 rfl 1⟩, h⟩
        have C6 := (A6.out _ T6.out).1
        have F6 := (A6.out _ T6.out).2.1
        have hg3 : w.heap.size + 4 < w3.heap.size := by have := hsg.out.lt; have := hb3.out.size; omega
        have hg5 : w3.heap.size < w5.heap.size := by have := hb5.out.size; simp at this; omega
        have q1 : ¬ (w3.heap.size = w.heap.size + 1 + 1) := by omega
        have q2 : ¬ (w3.heap.size = w.heap.size + 1 + 1 + 1) := by omega
        have q3 : ¬ (w5.heap.size = w.heap.size + 1 + 1) := by omega
        have q4 : ¬ (w5.heap.size = w.heap.size + 1 + 1 + 1) := by omega
        have q5 : ¬ (w5.heap.size = w3.heap.size) := by omega
        have q6 : ¬ (w3.heap.size = w5.heap.size) := by omega
        clear C4
        cases x5 with
        | false =>
          have HV2 := Lib.hid (HV.out.2 (by
            have h0 := (num_neg HJ6.out).2 rfl
            cases nx with
            | false => exact Or.inl rfl
            | true =>
              right
              simp only [tsgn, if_true] at h0
              omega))
          go_wp2
          have T9 := Lib.hid ((((T6.out.set_ 2 rfl 0 (v := .bool x3) rfl).set_ 2 rfl 1 (v := .slice A3 n3 c3) rfl).set_ 3 rfl 0 (v := .bool false) rfl).set_ 3 rfl 1 (v := .slice A5 n5 c5) rfl).drew
          have K9 := Lib.hid ((((T6.out.kept_set 2 rfl 0 (.bool x3)).trans ((T6.out.set_ 2 rfl 0 (v := .bool x3) rfl).kept_set 2 rfl 1 (.slice A3 n3 c3))).trans (((T6.out.set_ 2 rfl 0 (v := .bool x3) rfl).set_ 2 rfl 1 (v := .slice A3 n3 c3) rfl).kept_set 3 rfl 0 (.bool false))).trans ((((T6.out.set_ 2 rfl 0 (v := .bool x3) rfl).set_ 2 rfl 1 (v := .slice A3 n3 c3) rfl).set_ 3 rfl 0 (v := .bool false) rfl).kept_set 3 rfl 1 (.slice A5 n5 c5))).drew
          have e0 := T9.out.c 2 rfl 0 rfl
          have e1 := T9.out.c 2 rfl 1 rfl
          have e2 := T9.out.c 3 rfl 0 rfl
          have e3 := T9.out.c 3 rfl 1 rfl
          have HIF := Lib.hid (HI6.out.kept K9.out)
          have HJF := Lib.hid (HJ6.out.kept K9.out)
          skip
          go_region
          clear C6 F6
          go_wp2
          (try simp only [Exit.inBlock, Exit.then])
          refine bodyPost_ret (v := .tuple #[.agg #[.bool x3, .slice A3 n3 c3], .agg #[.bool false, .slice A5 n5 c5]]) (by simp [results, Tryd.results15, go_sem, e0, e1, e2, e3]) rfl ⟨x3, A3, n3, c3, false, A5, n5, c5, rfl, ?_, ?_, T9.out.below⟩
          · have h : IsNum _ _ _ _ (tsgn (nx != ny) (tval qs)) := HIF.out
            have h2 := HV2.out.1
            skip
            rw [h2] at h
            exact h.more (Nat.le_refl _) (by omega)
          · have h : IsNum _ _ _ _ (tsgn nx R) := HJF.out
            rw [HV2.out.2] at h
            exact h.more (Nat.le_refl _) (by omega)
        | true =>
          have HN := Lib.hid ((num_neg HJ6.out).1 rfl)
          go_wp2
          go_cut [] (fun wx => ∃ x8 A8 n8 c8, Hid (Mem w [(w.heap.size, 29, [.bool nx, .slice A n c]), (w.heap.size + 1, 29, [.bool ny, .slice B m d]), (w.heap.size + 1 + 1, 29, [.bool false, .slice none 0 0]), (w.heap.size + 1 + 1 + 1, 29, [.bool false, .slice none 0 0]), (w3.heap.size, 29, [.bool x3, .slice A3 n3 c3]), (w5.heap.size, 29, [.bool x8, .slice A8 n8 c8])] wx) ∧ Hid (IsNum wx wx.heap.size n (.agg #[.bool x3, .slice A3 n3 c3]) (tz (nx != ny) qs)) ∧ Hid (IsNum wx wx.heap.size (max l m + 1) (.agg #[.bool x8, .slice A8 n8 c8]) (tsgn nx R + tsgn false (tval ys))))
          case first =>
            have A7H : Hid (∀ w' : World, Mem w [(w.heap.size, 29, [.bool nx, .slice A n c]), (w.heap.size + 1, 29, [.bool ny, .slice B m d]), (w.heap.size + 1 + 1, 29, [.bool false, .slice none 0 0]), (w.heap.size + 1 + 1 + 1, 29, [.bool false, .slice none 0 0]), (w3.heap.size, 29, [.bool x3, .slice A3 n3 c3]), (w5.heap.size, 29, [.bool true, .slice A5 n5 c5])] w' → (w'.cell? ⟨w.heap.size, 0, none⟩ = some (.bool nx) ∧ w'.cell? ⟨w.heap.size, 1, none⟩ = some (.slice A n c) ∧ w'.cell? ⟨w.heap.size + 1, 0, none⟩ = some (.bool ny) ∧ w'.cell? ⟨w.heap.size + 1, 1, none⟩ = some (.slice B m d) ∧ w'.cell? ⟨w.heap.size + 1 + 1, 0, none⟩ = some (.bool false) ∧ w'.cell? ⟨w.heap.size + 1 + 1, 1, none⟩ = some (.slice none 0 0) ∧ w'.cell? ⟨w.heap.size + 1 + 1 + 1, 0, none⟩ = some (.bool false) ∧ w'.cell? ⟨w.heap.size + 1 + 1 + 1, 1, none⟩ = some (.slice none 0 0) ∧ w'.cell? ⟨w3.heap.size, 0, none⟩ = some (.bool x3) ∧ w'.cell? ⟨w3.heap.size, 1, none⟩ = some (.slice A3 n3 c3) ∧ w'.cell? ⟨w5.heap.size, 0, none⟩ = some (.bool true) ∧ w'.cell? ⟨w5.heap.size, 1, none⟩ = some (.slice A5 n5 c5)) ∧ (w'.frozen? ⟨w.heap.size, 0, none⟩ = false ∧ w'.frozen? ⟨w.heap.size, 1, none⟩ = false ∧ w'.frozen? ⟨w.heap.size + 1, 0, none⟩ = false ∧ w'.frozen? ⟨w.heap.size + 1, 1, none⟩ = false ∧ w'.frozen? ⟨w.heap.size + 1 + 1, 0, none⟩ = false ∧ w'.frozen? ⟨w.heap.size + 1 + 1, 1, none⟩ = false ∧ w'.frozen? ⟨w.heap.size + 1 + 1 + 1, 0, none⟩ = false ∧ w'.frozen? ⟨w.heap.size + 1 + 1 + 1, 1, none⟩ = false ∧ w'.frozen? ⟨w3.heap.size, 0, none⟩ = false ∧ w'.frozen? ⟨w3.heap.size, 1, none⟩ = false ∧ w'.frozen? ⟨w5.heap.size, 0, none⟩ = false ∧ w'.frozen? ⟨w5.heap.size, 1, none⟩ = false) ∧ Hid (Mem w [(w.heap.size, 29, [.bool nx, .slice A n c]), (w.heap.size + 1, 29, [.bool ny, .slice B m d]), (w.heap.size + 1 + 1, 29, [.bool false, .slice none 0 0]), (w.heap.size + 1 + 1 + 1, 29, [.bool false, .slice none 0 0]), (w3.heap.size, 29, [.bool x3, .slice A3 n3 c3]), (w5.heap.size, 29, [.bool true, .slice A5 n5 c5])] w')) := fun w' h => ⟨⟨h.c 0 rfl 0 rfl, h.c 0 rfl 1 rfl, h.c 1 rfl 0 rfl, h.c 1 rfl 1 rfl, h.c 2 rfl 0 rfl, h.c 2 rfl 1 rfl, h.c 3 rfl 0 rfl, h.c 3 rfl 1 rfl, h.c 4 rfl 0 rfl, h.c 4 rfl 1 rfl, h.c 5 rfl 0 rfl, h.c 5 rfl 1 rfl⟩, ⟨h.f 0 rfl 0, h.f 0 rfl 1, h.f 1 rfl 0, h.f 1 rfl 1, h.f 2 rfl 0, h.f 2 rfl 1, h.f 3 rfl 0, h.f 3 rfl 1, h.f 4 rfl 0, h.f 4 rfl 1, h.f 5 rfl 0, h.f 5 rfl 1⟩, h⟩
            go_region_with (first | (go_at_call 61; refine (make1_row false (tens_row (TY.out.over T6.out.drew.below)) (by omega)).mono ?_; rintro e w7 ⟨x7, A7, n7, c7, rfl, hic, hb7⟩; have M7 := Lib.hid (Mem.over hb7 T6.out.drew); have C7 := (A7H.out _ M7.out).1; have KH7 : Hid (Kept _ w7) := (Kept.refl _).drew.over hb7; have HI7 := Lib.hid (HI6.out.kept KH7.out); have HJ7 := Lib.hid (HJ6.out.kept KH7.out)) | (go_at_call 19; go_loud (refine (refAdd_any (by omega) (by omega) HJ7.out hic.out).mono ?_; rintro e w8 ⟨x8, A8, n8, c8, rfl, hid8, hb8⟩; have M8 := Lib.hid (Mem.over hb8 M7.out); have C8 := (A7H.out _ M8.out).1; have F8 := (A7H.out _ M8.out).2.1; have M9 : Hid (Mem w [(w.heap.size, 29, [.bool nx, .slice A n c]), (w.heap.size + 1, 29, [.bool ny, .slice B m d]), (w.heap.size + 1 + 1, 29, [.bool false, .slice none 0 0]), (w.heap.size + 1 + 1 + 1, 29, [.bool false, .slice none 0 0]), (w3.heap.size, 29, [.bool x3, .slice A3 n3 c3]), (w5.heap.size, 29, [.bool x8, .slice A8 n8 c8])] ((w8.setCell ⟨w5.heap.size, 0, none⟩ (.bool x8)).setCell ⟨w5.heap.size, 1, none⟩ (.slice A8 n8 c8))) := ((M8.out.set_ 5 rfl 0 (v := .bool x8) rfl).set_ 5 rfl 1 (v := .slice A8 n8 c8) rfl); have K9 : Hid (Kept w8 ((w8.setCell ⟨w5.heap.size, 0, none⟩ (.bool x8)).setCell ⟨w5.heap.size, 1, none⟩ (.slice A8 n8 c8))) := (M8.out.kept_set 5 rfl 0 (.bool x8)).trans ((M8.out.set_ 5 rfl 0 (v := .bool x8) rfl).kept_set 5 rfl 1 (.slice A8 n8 c8)); have HI9 := Lib.hid ((HI7.out.over hb8.out).kept K9.out); have HJ9 := Lib.hid (hid8.out.kept K9.out))))
            all_goals (go_wp2_with fail; go_meet; exact ⟨x8, A8, n8, c8, M9.out, HI9.out, HJ9.out⟩)
          obtain ⟨x8, A8, n8, c8, M8, HI8, HJ8⟩ := hcut
          generalize hwc : wc = W8 at *
          clear hwc
          clear C6 F6
          have A8H : Hid (∀ w' : World, Mem w [(w.heap.size, 29, [.bool nx, .slice A n c]), (w.heap.size + 1, 29, [.bool ny, .slice B m d]), (w.heap.size + 1 + 1, 29, [.bool false, .slice none 0 0]), (w.heap.size + 1 + 1 + 1, 29, [.bool false, .slice none 0 0]), (w3.heap.size, 29, [.bool x3, .slice A3 n3 c3]), (w5.heap.size, 29, [.bool x8, .slice A8 n8 c8])] w' → (w'.cell? ⟨w.heap.size, 0, none⟩ = some (.bool nx) ∧ w'.cell? ⟨w.heap.size, 1, none⟩ = some (.slice A n c) ∧ w'.cell? ⟨w.heap.size + 1, 0, none⟩ = some (.bool ny) ∧ w'.cell? ⟨w.heap.size + 1, 1, none⟩ = some (.slice B m d) ∧ w'.cell? ⟨w.heap.size + 1 + 1, 0, none⟩ = some (.bool false) ∧ w'.cell? ⟨w.heap.size + 1 + 1, 1, none⟩ = some (.slice none 0 0) ∧ w'.cell? ⟨w.heap.size + 1 + 1 + 1, 0, none⟩ = some (.bool false) ∧ w'.cell? ⟨w.heap.size + 1 + 1 + 1, 1, none⟩ = some (.slice none 0 0) ∧ w'.cell? ⟨w3.heap.size, 0, none⟩ = some (.bool x3) ∧ w'.cell? ⟨w3.heap.size, 1, none⟩ = some (.slice A3 n3 c3) ∧ w'.cell? ⟨w5.heap.size, 0, none⟩ = some (.bool x8) ∧ w'.cell? ⟨w5.heap.size, 1, none⟩ = some (.slice A8 n8 c8)) ∧ (w'.frozen? ⟨w.heap.size, 0, none⟩ = false ∧ w'.frozen? ⟨w.heap.size, 1, none⟩ = false ∧ w'.frozen? ⟨w.heap.size + 1, 0, none⟩ = false ∧ w'.frozen? ⟨w.heap.size + 1, 1, none⟩ = false ∧ w'.frozen? ⟨w.heap.size + 1 + 1, 0, none⟩ = false ∧ w'.frozen? ⟨w.heap.size + 1 + 1, 1, none⟩ = false ∧ w'.frozen? ⟨w.heap.size + 1 + 1 + 1, 0, none⟩ = false ∧ w'.frozen? ⟨w.heap.size + 1 + 1 + 1, 1, none⟩ = false ∧ w'.frozen? ⟨w3.heap.size, 0, none⟩ = false ∧ w'.frozen? ⟨w3.heap.size, 1, none⟩ = false ∧ w'.frozen? ⟨w5.heap.size, 0, none⟩ = false ∧ w'.frozen? ⟨w5.heap.size, 1, none⟩ = false) ∧ Hid (Mem w [(w.heap.size, 29, [.bool nx, .slice A n c]), (w.heap.size + 1, 29, [.bool ny, .slice B m d]), (w.heap.size + 1 + 1, 29, [.bool false, .slice none 0 0]), (w.heap.size + 1 + 1 + 1, 29, [.bool false, .slice none 0 0]), (w3.heap.size, 29, [.bool x3, .slice A3 n3 c3]), (w5.heap.size, 29, [.bool x8, .slice A8 n8 c8])] w')) := fun w' h => ⟨⟨h.c 0 rfl 0 rfl, h.c 0 rfl 1 rfl, h.c 1 rfl 0 rfl, h.c 1 rfl 1 rfl, h.c 2 rfl 0 rfl, h.c 2 rfl 1 rfl, h.c 3 rfl 0 rfl, h.c 3 rfl 1 rfl, h.c 4 rfl 0 rfl, h.c 4 rfl 1 rfl, h.c 5 rfl 0 rfl, h.c 5 rfl 1 rfl⟩, ⟨h.f 0 rfl 0, h.f 0 rfl 1, h.f 1 rfl 0, h.f 1 rfl 1, h.f 2 rfl 0, h.f 2 rfl 1, h.f 3 rfl 0, h.f 3 rfl 1, h.f 4 rfl 0, h.f 4 rfl 1, h.f 5 rfl 0, h.f 5 rfl 1⟩, h⟩
          have C8 := (A8H.out _ M8.out).1
          have F8 := (A8H.out _ M8.out).2.1
          cases ny with
          | true =>
            have HV2 := Lib.hid (HV.out.1 (by
              have h0 := HN.out
              cases nx with
              | true => rfl
              | false => simp only [tsgn] at h0; simp at h0; omega) (by
              have h0 := HN.out
              cases nx with
              | true => simp only [tsgn, if_true] at h0; omega
              | false => simp only [tsgn] at h0; simp at h0; omega))
            go_wp2
            go_cut [] (fun wx => ∃ x10 A10 n10 c10, Hid (Mem w [(w.heap.size, 29, [.bool nx, .slice A n c]), (w.heap.size + 1, 29, [.bool true, .slice B m d]), (w.heap.size + 1 + 1, 29, [.bool false, .slice none 0 0]), (w.heap.size + 1 + 1 + 1, 29, [.bool false, .slice none 0 0]), (w3.heap.size, 29, [.bool x10, .slice A10 n10 c10]), (w5.heap.size, 29, [.bool x8, .slice A8 n8 c8])] wx) ∧ Hid (IsNum wx wx.heap.size (max n 1 + 1) (.agg #[.bool x10, .slice A10 n10 c10]) (tsgn (nx != true) (tval qs) + (1))) ∧ Hid (IsNum wx wx.heap.size (max l m + 1) (.agg #[.bool x8, .slice A8 n8 c8]) (tsgn nx R + tsgn false (tval ys))))
            case first =>
              have AQ : Hid (∀ w' : World, Mem w [(w.heap.size, 29, [.bool nx, .slice A n c]), (w.heap.size + 1, 29, [.bool true, .slice B m d]), (w.heap.size + 1 + 1, 29, [.bool false, .slice none 0 0]), (w.heap.size + 1 + 1 + 1, 29, [.bool false, .slice none 0 0]), (w3.heap.size, 29, [.bool x3, .slice A3 n3 c3]), (w5.heap.size, 29, [.bool x8, .slice A8 n8 c8])] w' → (w'.cell? ⟨w.heap.size, 0, none⟩ = some (.bool nx) ∧ w'.cell? ⟨w.heap.size, 1, none⟩ = some (.slice A n c) ∧ w'.cell? ⟨w.heap.size + 1, 0, none⟩ = some (.bool true) ∧ w'.cell? ⟨w.heap.size + 1, 1, none⟩ = some (.slice B m d) ∧ w'.cell? ⟨w.heap.size + 1 + 1, 0, none⟩ = some (.bool false) ∧ w'.cell? ⟨w.heap.size + 1 + 1, 1, none⟩ = some (.slice none 0 0) ∧ w'.cell? ⟨w.heap.size + 1 + 1 + 1, 0, none⟩ = some (.bool false) ∧ w'.cell? ⟨w.heap.size + 1 + 1 + 1, 1, none⟩ = some (.slice none 0 0) ∧ w'.cell? ⟨w3.heap.size, 0, none⟩ = some (.bool x3) ∧ w'.cell? ⟨w3.heap.size, 1, none⟩ = some (.slice A3 n3 c3) ∧ w'.cell? ⟨w5.heap.size, 0, none⟩ = some (.bool x8) ∧ w'.cell? ⟨w5.heap.size, 1, none⟩ = some (.slice A8 n8 c8)) ∧ (w'.frozen? ⟨w.heap.size, 0, none⟩ = false ∧ w'.frozen? ⟨w.heap.size, 1, none⟩ = false ∧ w'.frozen? ⟨w.heap.size + 1, 0, none⟩ = false ∧ w'.frozen? ⟨w.heap.size + 1, 1, none⟩ = false ∧ w'.frozen? ⟨w.heap.size + 1 + 1, 0, none⟩ = false ∧ w'.frozen? ⟨w.heap.size + 1 + 1, 1, none⟩ = false ∧ w'.frozen? ⟨w.heap.size + 1 + 1 + 1, 0, none⟩ = false ∧ w'.frozen? ⟨w.heap.size + 1 + 1 + 1, 1, none⟩ = false ∧ w'.frozen? ⟨w3.heap.size, 0, none⟩ = false ∧ w'.frozen? ⟨w3.heap.size, 1, none⟩ = false ∧ w'.frozen? ⟨w5.heap.size, 0, none⟩ = false ∧ w'.frozen? ⟨w5.heap.size, 1, none⟩ = false) ∧ Hid (Mem w [(w.heap.size, 29, [.bool nx, .slice A n c]), (w.heap.size + 1, 29, [.bool true, .slice B m d]), (w.heap.size + 1 + 1, 29, [.bool false, .slice none 0 0]), (w.heap.size + 1 + 1 + 1, 29, [.bool false, .slice none 0 0]), (w3.heap.size, 29, [.bool x3, .slice A3 n3 c3]), (w5.heap.size, 29, [.bool x8, .slice A8 n8 c8])] w')) := fun w' h => ⟨⟨h.c 0 rfl 0 rfl, h.c 0 rfl 1 rfl, h.c 1 rfl 0 rfl, h.c 1 rfl 1 rfl, h.c 2 rfl 0 rfl, h.c 2 rfl 1 rfl, h.c 3 rfl 0 rfl, h.c 3 rfl 1 rfl, h.c 4 rfl 0 rfl, h.c 4 rfl 1 rfl, h.c 5 rfl 0 rfl, h.c 5 rfl 1 rfl⟩, ⟨h.f 0 rfl 0, h.f 0 rfl 1, h.f 1 rfl 0, h.f 1 rfl 1, h.f 2 rfl 0, h.f 2 rfl 1, h.f 3 rfl 0, h.f 3 rfl 1, h.f 4 rfl 0, h.f 4 rfl 1, h.f 5 rfl 0, h.f 5 rfl 1⟩, h⟩
              go_region_with (first | (go_at_call 35; refine (int_any (1) _ (by omega) (by omega)).mono ?_; rintro e w9 ⟨x9, A9, n9, c9, rfl, hi9, hb9⟩; have M9 := Lib.hid (Mem.over hb9 M8.out.drew); have C9 := (AQ.out _ M9.out).1; have KH9 : Hid (Kept W8 w9) := (Kept.refl _).drew.over hb9; have HI9 := Lib.hid (HI8.out.kept KH9.out); have HJ9 := Lib.hid (HJ8.out.kept KH9.out)) | (go_at_call 19; refine (refAdd_any (by omega) (by omega) HI9.out (hi9.out.tight (k := 1) (by decide))).mono ?_; rintro e w10 ⟨x10, A10, n10, c10, rfl, hi10, hb10⟩; have M10 := Lib.hid (Mem.over hb10 M9.out); have C10 := (AQ.out _ M10.out).1; have F10 := (AQ.out _ M10.out).2.1; have M11 : Hid (Mem w [(w.heap.size, 29, [.bool nx, .slice A n c]), (w.heap.size + 1, 29, [.bool true, .slice B m d]), (w.heap.size + 1 + 1, 29, [.bool false, .slice none 0 0]), (w.heap.size + 1 + 1 + 1, 29, [.bool false, .slice none 0 0]), (w3.heap.size, 29, [.bool x10, .slice A10 n10 c10]), (w5.heap.size, 29, [.bool x8, .slice A8 n8 c8])] ((w10.setCell ⟨w3.heap.size, 0, none⟩ (.bool x10)).setCell ⟨w3.heap.size, 1, none⟩ (.slice A10 n10 c10))) := ((M10.out.set_ 4 rfl 0 (v := .bool x10) rfl).set_ 4 rfl 1 (v := .slice A10 n10 c10) rfl); have K11 : Hid (Kept w10 ((w10.setCell ⟨w3.heap.size, 0, none⟩ (.bool x10)).setCell ⟨w3.heap.size, 1, none⟩ (.slice A10 n10 c10))) := (M10.out.kept_set 4 rfl 0 (.bool x10)).trans ((M10.out.set_ 4 rfl 0 (v := .bool x10) rfl).kept_set 4 rfl 1 (.slice A10 n10 c10)); have HI11 := Lib.hid (hi10.out.kept K11.out); have HJ11 := Lib.hid ((HJ9.out.over hb10.out).kept K11.out)))
              all_goals (go_wp2_with fail; go_meet; exact ⟨x10, A10, n10, c10, M11.out, HI11.out, HJ11.out⟩)
            obtain ⟨x10, A10, n10, c10, MA, HIA, HJA⟩ := hcut
            clear C8 F8
            have AF : Hid (∀ w' : World, Mem w [(w.heap.size, 29, [.bool nx, .slice A n c]), (w.heap.size + 1, 29, [.bool true, .slice B m d]), (w.heap.size + 1 + 1, 29, [.bool false, .slice none 0 0]), (w.heap.size + 1 + 1 + 1, 29, [.bool false, .slice none 0 0]), (w3.heap.size, 29, [.bool x10, .slice A10 n10 c10]), (w5.heap.size, 29, [.bool x8, .slice A8 n8 c8])] w' → (w'.cell? ⟨w.heap.size, 0, none⟩ = some (.bool nx) ∧ w'.cell? ⟨w.heap.size, 1, none⟩ = some (.slice A n c) ∧ w'.cell? ⟨w.heap.size + 1, 0, none⟩ = some (.bool true) ∧ w'.cell? ⟨w.heap.size + 1, 1, none⟩ = some (.slice B m d) ∧ w'.cell? ⟨w.heap.size + 1 + 1, 0, none⟩ = some (.bool false) ∧ w'.cell? ⟨w.heap.size + 1 + 1, 1, none⟩ = some (.slice none 0 0) ∧ w'.cell? ⟨w.heap.size + 1 + 1 + 1, 0, none⟩ = some (.bool false) ∧ w'.cell? ⟨w.heap.size + 1 + 1 + 1, 1, none⟩ = some (.slice none 0 0) ∧ w'.cell? ⟨w3.heap.size, 0, none⟩ = some (.bool x10) ∧ w'.cell? ⟨w3.heap.size, 1, none⟩ = some (.slice A10 n10 c10) ∧ w'.cell? ⟨w5.heap.size, 0, none⟩ = some (.bool x8) ∧ w'.cell? ⟨w5.heap.size, 1, none⟩ = some (.slice A8 n8 c8)) ∧ (w'.frozen? ⟨w.heap.size, 0, none⟩ = false ∧ w'.frozen? ⟨w.heap.size, 1, none⟩ = false ∧ w'.frozen? ⟨w.heap.size + 1, 0, none⟩ = false ∧ w'.frozen? ⟨w.heap.size + 1, 1, none⟩ = false ∧ w'.frozen? ⟨w.heap.size + 1 + 1, 0, none⟩ = false ∧ w'.frozen? ⟨w.heap.size + 1 + 1, 1, none⟩ = false ∧ w'.frozen? ⟨w.heap.size + 1 + 1 + 1, 0, none⟩ = false ∧ w'.frozen? ⟨w.heap.size + 1 + 1 + 1, 1, none⟩ = false ∧ w'.frozen? ⟨w3.heap.size, 0, none⟩ = false ∧ w'.frozen? ⟨w3.heap.size, 1, none⟩ = false ∧ w'.frozen? ⟨w5.heap.size, 0, none⟩ = false ∧ w'.frozen? ⟨w5.heap.size, 1, none⟩ = false) ∧ Hid (Mem w [(w.heap.size, 29, [.bool nx, .slice A n c]), (w.heap.size + 1, 29, [.bool true, .slice B m d]), (w.heap.size + 1 + 1, 29, [.bool false, .slice none 0 0]), (w.heap.size + 1 + 1 + 1, 29, [.bool false, .slice none 0 0]), (w3.heap.size, 29, [.bool x10, .slice A10 n10 c10]), (w5.heap.size, 29, [.bool x8, .slice A8 n8 c8])] w')) := fun w' h => ⟨⟨h.c 0 rfl 0 rfl, h.c 0 rfl 1 rfl, h.c 1 rfl 0 rfl, h.c 1 rfl 1 rfl, h.c 2 rfl 0 rfl, h.c 2 rfl 1 rfl, h.c 3 rfl 0 rfl, h.c 3 rfl 1 rfl, h.c 4 rfl 0 rfl, h.c 4 rfl 1 rfl, h.c 5 rfl 0 rfl, h.c 5 rfl 1 rfl⟩, ⟨h.f 0 rfl 0, h.f 0 rfl 1, h.f 1 rfl 0, h.f 1 rfl 1, h.f 2 rfl 0, h.f 2 rfl 1, h.f 3 rfl 0, h.f 3 rfl 1, h.f 4 rfl 0, h.f 4 rfl 1, h.f 5 rfl 0, h.f 5 rfl 1⟩, h⟩
            have CA := (AF.out _ MA.out).1
            have FA := (AF.out _ MA.out).2.1
            have T9 := Lib.hid ((((MA.out.set_ 2 rfl 0 (v := .bool x10) rfl).set_ 2 rfl 1 (v := .slice A10 n10 c10) rfl).set_ 3 rfl 0 (v := .bool x8) rfl).set_ 3 rfl 1 (v := .slice A8 n8 c8) rfl).drew
            have K9 := Lib.hid ((((MA.out.kept_set 2 rfl 0 (.bool x10)).trans ((MA.out.set_ 2 rfl 0 (v := .bool x10) rfl).kept_set 2 rfl 1 (.slice A10 n10 c10))).trans (((MA.out.set_ 2 rfl 0 (v := .bool x10) rfl).set_ 2 rfl 1 (v := .slice A10 n10 c10) rfl).kept_set 3 rfl 0 (.bool x8))).trans ((((MA.out.set_ 2 rfl 0 (v := .bool x10) rfl).set_ 2 rfl 1 (v := .slice A10 n10 c10) rfl).set_ 3 rfl 0 (v := .bool x8) rfl).kept_set 3 rfl 1 (.slice A8 n8 c8))).drew
            have e0 := T9.out.c 2 rfl 0 rfl
            have e1 := T9.out.c 2 rfl 1 rfl
            have e2 := T9.out.c 3 rfl 0 rfl
            have e3 := T9.out.c 3 rfl 1 rfl
            have HIF := Lib.hid (HIA.out.kept K9.out)
            have HJF := Lib.hid (HJA.out.kept K9.out)
            go_wp2
            go_region
            clear CA FA
            go_wp2
            (try simp only [Exit.inBlock, Exit.then])
            refine bodyPost_ret (v := .tuple #[.agg #[.bool x10, .slice A10 n10 c10], .agg #[.bool x8, .slice A8 n8 c8]]) (by simp [results, Tryd.results15, go_sem, e0, e1, e2, e3]) rfl ⟨x10, A10, n10, c10, x8, A8, n8, c8, rfl, ?_, ?_, T9.out.below⟩
            · have h : IsNum _ _ _ _ (tsgn (nx != true) (tval qs) + (1)) := HIF.out
              have h2 := HV2.out.1
              simp only [if_true] at h2
              rw [h2] at h
              exact h.more (Nat.le_refl _) (by omega)
            · have h : IsNum _ _ _ _ (tsgn nx R + (tval ys : Int)) := HJF.out
              rw [HV2.out.2] at h
              exact (h.tight HR9.out).more (Nat.le_refl _) (Nat.le_refl _)
          | false =>
            have HV2 := Lib.hid (HV.out.1 (by
              have h0 := HN.out
              cases nx with
              | true => rfl
              | false => simp only [tsgn] at h0; simp at h0; omega) (by
              have h0 := HN.out
              cases nx with
              | true => simp only [tsgn, if_true] at h0; omega
              | false => simp only [tsgn] at h0; simp at h0; omega))
            go_wp2
            go_cut [] (fun wx => ∃ x10 A10 n10 c10, Hid (Mem w [(w.heap.size, 29, [.bool nx, .slice A n c]), (w.heap.size + 1, 29, [.bool false, .slice B m d]), (w.heap.size + 1 + 1, 29, [.bool false, .slice none 0 0]), (w.heap.size + 1 + 1 + 1, 29, [.bool false, .slice none 0 0]), (w3.heap.size, 29, [.bool x10, .slice A10 n10 c10]), (w5.heap.size, 29, [.bool x8, .slice A8 n8 c8])] wx) ∧ Hid (IsNum wx wx.heap.size (max n 1 + 1) (.agg #[.bool x10, .slice A10 n10 c10]) (tsgn (nx != false) (tval qs) + (-1))) ∧ Hid (IsNum wx wx.heap.size (max l m + 1) (.agg #[.bool x8, .slice A8 n8 c8]) (tsgn nx R + tsgn false (tval ys))))
            case first =>
              have AQ : Hid (∀ w' : World, Mem w [(w.heap.size, 29, [.bool nx, .slice A n c]), (w.heap.size + 1, 29, [.bool false, .slice B m d]), (w.heap.size + 1 + 1, 29, [.bool false, .slice none 0 0]), (w.heap.size + 1 + 1 + 1, 29, [.bool false, .slice none 0 0]), (w3.heap.size, 29, [.bool x3, .slice A3 n3 c3]), (w5.heap.size, 29, [.bool x8, .slice A8 n8 c8])] w' → (w'.cell? ⟨w.heap.size, 0, none⟩ = some (.bool nx) ∧ w'.cell? ⟨w.heap.size, 1, none⟩ = some (.slice A n c) ∧ w'.cell? ⟨w.heap.size + 1, 0, none⟩ = some (.bool false) ∧ w'.cell? ⟨w.heap.size + 1, 1, none⟩ = some (.slice B m d) ∧ w'.cell? ⟨w.heap.size + 1 + 1, 0, none⟩ = some (.bool false) ∧ w'.cell? ⟨w.heap.size + 1 + 1, 1, none⟩ = some (.slice none 0 0) ∧ w'.cell? ⟨w.heap.size + 1 + 1 + 1, 0, none⟩ = some (.bool false) ∧ w'.cell? ⟨w.heap.size + 1 + 1 + 1, 1, none⟩ = some (.slice none 0 0) ∧ w'.cell? ⟨w3.heap.size, 0, none⟩ = some (.bool x3) ∧ w'.cell? ⟨w3.heap.size, 1, none⟩ = some (.slice A3 n3 c3) ∧ w'.cell? ⟨w5.heap.size, 0, none⟩ = some (.bool x8) ∧ w'.cell? ⟨w5.heap.size, 1, none⟩ = some (.slice A8 n8 c8)) ∧ (w'.frozen? ⟨w.heap.size, 0, none⟩ = false ∧ w'.frozen? ⟨w.heap.size, 1, none⟩ = false ∧ w'.frozen? ⟨w.heap.size + 1, 0, none⟩ = false ∧ w'.frozen? ⟨w.heap.size + 1, 1, none⟩ = false ∧ w'.frozen? ⟨w.heap.size + 1 + 1, 0, none⟩ = false ∧ w'.frozen? ⟨w.heap.size + 1 + 1, 1, none⟩ = false ∧ w'.frozen? ⟨w.heap.size + 1 + 1 + 1, 0, none⟩ = false ∧ w'.frozen? ⟨w.heap.size + 1 + 1 + 1, 1, none⟩ = false ∧ w'.frozen? ⟨w3.heap.size, 0, none⟩ = false ∧ w'.frozen? ⟨w3.heap.size, 1, none⟩ = false ∧ w'.frozen? ⟨w5.heap.size, 0, none⟩ = false ∧ w'.frozen? ⟨w5.heap.size, 1, none⟩ = false) ∧ Hid (Mem w [(w.heap.size, 29, [.bool nx, .slice A n c]), (w.heap.size + 1, 29, [.bool false, .slice B m d]), (w.heap.size + 1 + 1, 29, [.bool false, .slice none 0 0]), (w.heap.size + 1 + 1 + 1, 29, [.bool false, .slice none 0 0]), (w3.heap.size, 29, [.bool x3, .slice A3 n3 c3]), (w5.heap.size, 29, [.bool x8, .slice A8 n8 c8])] w')) := fun w' h => ⟨⟨h.c 0 rfl 0 rfl, h.c 0 rfl 1 rfl, h.c 1 rfl 0 rfl, h.c 1 rfl 1 rfl, h.c 2 rfl 0 rfl, h.c 2 rfl 1 rfl, h.c 3 rfl 0 rfl, h.c 3 rfl 1 rfl, h.c 4 rfl 0 rfl, h.c 4 rfl 1 rfl, h.c 5 rfl 0 rfl, h.c 5 rfl 1 rfl⟩, ⟨h.f 0 rfl 0, h.f 0 rfl 1, h.f 1 rfl 0, h.f 1 rfl 1, h.f 2 rfl 0, h.f 2 rfl 1, h.f 3 rfl 0, h.f 3 rfl 1, h.f 4 rfl 0, h.f 4 rfl 1, h.f 5 rfl 0, h.f 5 rfl 1⟩, h⟩
              go_region_with (first | (go_at_call 35; refine (int_any (-1) _ (by omega) (by omega)).mono ?_; rintro e w9 ⟨x9, A9, n9, c9, rfl, hi9, hb9⟩; have M9 := Lib.hid (Mem.over hb9 M8.out.drew); have C9 := (AQ.out _ M9.out).1; have KH9 : Hid (Kept W8 w9) := (Kept.refl _).drew.over hb9; have HI9 := Lib.hid (HI8.out.kept KH9.out); have HJ9 := Lib.hid (HJ8.out.kept KH9.out)) | (go_at_call 19; refine (refAdd_any (by omega) (by omega) HI9.out (hi9.out.tight (k := 1) (by decide))).mono ?_; rintro e w10 ⟨x10, A10, n10, c10, rfl, hi10, hb10⟩; have M10 := Lib.hid (Mem.over hb10 M9.out); have C10 := (AQ.out _ M10.out).1; have F10 := (AQ.out _ M10.out).2.1; have M11 : Hid (Mem w [(w.heap.size, 29, [.bool nx, .slice A n c]), (w.heap.size + 1, 29, [.bool false, .slice B m d]), (w.heap.size + 1 + 1, 29, [.bool false, .slice none 0 0]), (w.heap.size + 1 + 1 + 1, 29, [.bool false, .slice none 0 0]), (w3.heap.size, 29, [.bool x10, .slice A10 n10 c10]), (w5.heap.size, 29, [.bool x8, .slice A8 n8 c8])] ((w10.setCell ⟨w3.heap.size, 0, none⟩ (.bool x10)).setCell ⟨w3.heap.size, 1, none⟩ (.slice A10 n10 c10))) := ((M10.out.set_ 4 rfl 0 (v := .bool x10) rfl).set_ 4 rfl 1 (v := .slice A10 n10 c10) rfl); have K11 : Hid (Kept w10 ((w10.setCell ⟨w3.heap.size, 0, none⟩ (.bool x10)).setCell ⟨w3.heap.size, 1, none⟩ (.slice A10 n10 c10))) := (M10.out.kept_set 4 rfl 0 (.bool x10)).trans ((M10.out.set_ 4 rfl 0 (v := .bool x10) rfl).kept_set 4 rfl 1 (.slice A10 n10 c10)); have HI11 := Lib.hid (hi10.out.kept K11.out); have HJ11 := Lib.hid ((HJ9.out.over hb10.out).kept K11.out)))
              all_goals (go_wp2_with fail; go_meet; exact ⟨x10, A10, n10, c10, M11.out, HI11.out, HJ11.out⟩)
            obtain ⟨x10, A10, n10, c10, MA, HIA, HJA⟩ := hcut
            clear C8 F8
            have AF : Hid (∀ w' : World, Mem w [(w.heap.size, 29, [.bool nx, .slice A n c]), (w.heap.size + 1, 29, [.bool false, .slice B m d]), (w.heap.size + 1 + 1, 29, [.bool false, .slice none 0 0]), (w.heap.size + 1 + 1 + 1, 29, [.bool false, .slice none 0 0]), (w3.heap.size, 29, [.bool x10, .slice A10 n10 c10]), (w5.heap.size, 29, [.bool x8, .slice A8 n8 c8])] w' → (w'.cell? ⟨w.heap.size, 0, none⟩ = some (.bool nx) ∧ w'.cell? ⟨w.heap.size, 1, none⟩ = some (.slice A n c) ∧ w'.cell? ⟨w.heap.size + 1, 0, none⟩ = some (.bool false) ∧ w'.cell? ⟨w.heap.size + 1, 1, none⟩ = some (.slice B m d) ∧ w'.cell? ⟨w.heap.size + 1 + 1, 0, none⟩ = some (.bool false) ∧ w'.cell? ⟨w.heap.size + 1 + 1, 1, none⟩ = some (.slice none 0 0) ∧ w'.cell? ⟨w.heap.size + 1 + 1 + 1, 0, none⟩ = some (.bool false) ∧ w'.cell? ⟨w.heap.size + 1 + 1 + 1, 1, none⟩ = some (.slice none 0 0) ∧ w'.cell? ⟨w3.heap.size, 0, none⟩ = some (.bool x10) ∧ w'.cell? ⟨w3.heap.size, 1, none⟩ = some (.slice A10 n10 c10) ∧ w'.cell? ⟨w5.heap.size, 0, none⟩ = some (.bool x8) ∧ w'.cell? ⟨w5.heap.size, 1, none⟩ = some (.slice A8 n8 c8)) ∧ (w'.frozen? ⟨w.heap.size, 0, none⟩ = false ∧ w'.frozen? ⟨w.heap.size, 1, none⟩ = false ∧ w'.frozen? ⟨w.heap.size + 1, 0, none⟩ = false ∧ w'.frozen? ⟨w.heap.size + 1, 1, none⟩ = false ∧ w'.frozen? ⟨w.heap.size + 1 + 1, 0, none⟩ = false ∧ w'.frozen? ⟨w.heap.size + 1 + 1, 1, none⟩ = false ∧ w'.frozen? ⟨w.heap.size + 1 + 1 + 1, 0, none⟩ = false ∧ w'.frozen? ⟨w.heap.size + 1 + 1 + 1, 1, none⟩ = false ∧ w'.frozen? ⟨w3.heap.size, 0, none⟩ = false ∧ w'.frozen? ⟨w3.heap.size, 1, none⟩ = false ∧ w'.frozen? ⟨w5.heap.size, 0, none⟩ = false ∧ w'.frozen? ⟨w5.heap.size, 1, none⟩ = false) ∧ Hid (Mem w [(w.heap.size, 29, [.bool nx, .slice A n c]), (w.heap.size + 1, 29, [.bool false, .slice B m d]), (w.heap.size + 1 + 1, 29, [.bool false, .slice none 0 0]), (w.heap.size + 1 + 1 + 1, 29, [.bool false, .slice none 0 0]), (w3.heap.size, 29, [.bool x10, .slice A10 n10 c10]), (w5.heap.size, 29, [.bool x8, .slice A8 n8 c8])] w')) := fun w' h => ⟨⟨h.c 0 rfl 0 rfl, h.c 0 rfl 1 rfl, h.c 1 rfl 0 rfl, h.c 1 rfl 1 rfl, h.c 2 rfl 0 rfl, h.c 2 rfl 1 rfl, h.c 3 rfl 0 rfl, h.c 3 rfl 1 rfl, h.c 4 rfl 0 rfl, h.c 4 rfl 1 rfl, h.c 5 rfl 0 rfl, h.c 5 rfl 1 rfl⟩, ⟨h.f 0 rfl 0, h.f 0 rfl 1, h.f 1 rfl 0, h.f 1 rfl 1, h.f 2 rfl 0, h.f 2 rfl 1, h.f 3 rfl 0, h.f 3 rfl 1, h.f 4 rfl 0, h.f 4 rfl 1, h.f 5 rfl 0, h.f 5 rfl 1⟩, h⟩
            have CA := (AF.out _ MA.out).1
            have FA := (AF.out _ MA.out).2.1
            have T9 := Lib.hid ((((MA.out.set_ 2 rfl 0 (v := .bool x10) rfl).set_ 2 rfl 1 (v := .slice A10 n10 c10) rfl).set_ 3 rfl 0 (v := .bool x8) rfl).set_ 3 rfl 1 (v := .slice A8 n8 c8) rfl).drew
            have K9 := Lib.hid ((((MA.out.kept_set 2 rfl 0 (.bool x10)).trans ((MA.out.set_ 2 rfl 0 (v := .bool x10) rfl).kept_set 2 rfl 1 (.slice A10 n10 c10))).trans (((MA.out.set_ 2 rfl 0 (v := .bool x10) rfl).set_ 2 rfl 1 (v := .slice A10 n10 c10) rfl).kept_set 3 rfl 0 (.bool x8))).trans ((((MA.out.set_ 2 rfl 0 (v := .bool x10) rfl).set_ 2 rfl 1 (v := .slice A10 n10 c10) rfl).set_ 3 rfl 0 (v := .bool x8) rfl).kept_set 3 rfl 1 (.slice A8 n8 c8))).drew
            have e0 := T9.out.c 2 rfl 0 rfl
            have e1 := T9.out.c 2 rfl 1 rfl
            have e2 := T9.out.c 3 rfl 0 rfl
            have e3 := T9.out.c 3 rfl 1 rfl
            have HIF := Lib.hid (HIA.out.kept K9.out)
            have HJF := Lib.hid (HJA.out.kept K9.out)
            go_wp2
            go_region
            clear CA FA
            go_wp2
            (try simp only [Exit.inBlock, Exit.then])
            refine bodyPost_ret (v := .tuple #[.agg #[.bool x10, .slice A10 n10 c10], .agg #[.bool x8, .slice A8 n8 c8]]) (by simp [results, Tryd.results15, go_sem, e0, e1, e2, e3]) rfl ⟨x10, A10, n10, c10, x8, A8, n8, c8, rfl, ?_, ?_, T9.out.below⟩
            · have h : IsNum _ _ _ _ (tsgn (nx != false) (tval qs) + (-1)) := HIF.out
              have h2 := HV2.out.1
              simp only [if_false, Bool.false_eq_true] at h2
              rw [h2] at h
              exact h.more (Nat.le_refl _) (by omega)
            · have h : IsNum _ _ _ _ (tsgn nx R + (tval ys : Int)) := HJF.out
              rw [HV2.out.2] at h
              exact (h.tight HR9.out).more (Nat.le_refl _) (Nat.le_refl _)
end Go.Proofs.YtpikbhcjgcbdfaaDoor.wh
