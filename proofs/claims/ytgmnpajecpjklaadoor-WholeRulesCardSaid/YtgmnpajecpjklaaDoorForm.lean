/- The document's answers Int and Form. -/
import Derived.Test.YtgmnpajecpjklaaDoorSame
namespace Go.Proofs.YtgmnpajecpjklaaDoor.wh
open Go.RowKit

theorem info_int : (Tryd.prog.info? 3).map (fun i => (i.zero, i.size, i.bytes)) = some (some (.int .i64 0), 1, 8) := by kernel_rfl

/-- Block g is a variable of the type Num: its two cells. -/
def BoxN (w : World) (g : Nat) (x : Bool) (a : Option Addr) (n c : Nat) : Prop := Blk w g 29 #[.bool x, .slice a n c]
section
variable {w w' : World} {g B : Nat} {x y : Bool} {a a' : Option Addr} {n c n' c' : Nat}
theorem BoxN.new (w : World) (x : Bool) (a : Option Addr) (n c : Nat) : BoxN (w.alloc (.cells #[.bool x, .slice a n c] 29)) w.heap.size x a n c := Blk.new _ _ _
theorem BoxN.c0 (h : BoxN w g x a n c) : w.cell? ⟨g, 0, none⟩ = some (.bool x) := Blk.cell h 0
theorem BoxN.c1 (h : BoxN w g x a n c) : w.cell? ⟨g, 1, none⟩ = some (.slice a n c) := Blk.cell h 1
theorem BoxN.f0 (h : BoxN w g x a n c) : w.frozen? ⟨g, 0, none⟩ = false := Blk.frozen h 0
theorem BoxN.f1 (h : BoxN w g x a n c) : w.frozen? ⟨g, 1, none⟩ = false := Blk.frozen h 1
theorem BoxN.put (h : BoxN w g x a n c) (y : Bool) (a' : Option Addr) (n' c' : Nat) : BoxN (put2 w g y a' n' c') g y a' n' c' := (Blk.set_ (Blk.set_ h 0 (.bool y)) 1 (.slice a' n' c'))
theorem BoxN.far (h : BoxN w g x a n c) {k : Nat} (hk : g ≠ k) (y : Bool) (a' : Option Addr) (n' c' : Nat) : BoxN (put2 w k y a' n' c') g x a n c := Blk.far (Blk.far h (p := ⟨k, 0, none⟩) hk _) (p := ⟨k, 1, none⟩) hk _
theorem BoxN.over (h : BoxN w g x a n c) (hb : Below w.heap.size w w') : BoxN w' g x a n c := Blk.below h hb (Blk.lt h)
theorem BoxN.alloc (h : BoxN w g x a n c) (o : Obj) : BoxN (w.alloc o) g x a n c := Blk.alloc h o
theorem BoxN.grown {row : Option Nat} (h : BoxN w g x a n c) (hb : w.grownBy w' row) (hg : some g ≠ row) : BoxN w' g x a n c := Blk.grown h hb hg
theorem BoxN.lt (h : BoxN w g x a n c) : g < w.heap.size := Blk.lt h
theorem BoxN.no_int (h : BoxN w g x a n c) (i : Nat) (d : Int) : w.cell? ⟨g, i, none⟩ ≠ some (.int .i64 d) := by
  rw [Blk.cell h i]
  match i with
  | 0 => simp
  | 1 => simp
  | i + 2 => simp
theorem IsNum.put {m : Nat} {v : Value} {z : Int} (h : IsNum w B m v z) (hx : BoxN w g x a n c) (y : Bool) (a' : Option Addr) (n' c' : Nat) : IsNum (put2 w g y a' n' c') B m v z := by
  obtain ⟨neg, A, n, c, ds, h1, h2, h3, h4⟩ := h
  refine ⟨neg, A, n, c, ds, h1, h2, fun hn => ?_, h4⟩
  obtain ⟨b, off, e, hb, hc⟩ := h3 hn
  have hne : b ≠ g := fun e => by subst e; exact hx.no_int _ _ (hc 0 hn)
  refine ⟨b, off, e, hb, fun j hj => ?_⟩
  rw [World.cell?_setCell_far _ _ _ _ (fun e => hne e.symm), World.cell?_setCell_far _ _ _ _ (fun e => hne e.symm)]
  exact hc j hj
end

def TenAt (n : Nat) (ds : List Nat) (q : Nat) : Prop := Ten ds ∧ tval ds + 10 ^ ds.length * q = n
theorem ten_step {n q : Nat} {ds : List Nat} (h : TenAt n ds q) : TenAt n (ds ++ [q % 10]) (q / 10) := by
  obtain ⟨h1, h2⟩ := h
  refine ⟨h1.append (Ten.cons (Nat.mod_lt _ (by omega)) Ten.nil), ?_⟩
  rw [tval_snoc, List.length_append, List.length_singleton, Nat.pow_succ]
  rw [← h2, Nat.add_assoc, Nat.mul_assoc, ← Nat.mul_add, Nat.mod_add_div]
theorem ten_len {n q : Nat} {ds : List Nat} (h : TenAt n ds q) (hq : 0 < q) (hn : W64 n) : ds.length ≤ 19 := by
  obtain ⟨_, h2⟩ := h
  unfold W64 at hn
  rcases Nat.lt_or_ge 19 ds.length with hlt | hge
  · have h3 : 10 ^ 20 ≤ 10 ^ ds.length := Nat.pow_le_pow_right (by omega) (by omega)
    have h4 : 10 ^ ds.length * 1 ≤ 10 ^ ds.length * q := Nat.mul_le_mul_left _ hq
    omega
  · exact hge
/-- an int that is not below 0 has it -/
def W63 (n : Nat) : Prop := n < 9223372036854775808
theorem W63.le {n : Nat} (h : W63 n) : (n : Int) ≤ 9223372036854775807 := by unfold W63 at h; omega

theorem own_row {w : World} {base n : Nat} {e : TypeId} {v : Value} {xs : List Value} (h : w.ownsRow base e 1 v n xs) : ∃ A c, v = .slice A n c ∧ n ≤ c := by
  rcases h.2 with ⟨rfl, rfl⟩ | ⟨g, cap, cur, rfl, _, _, hn, _⟩
  · exact ⟨_, _, rfl, Nat.le_refl _⟩
  · exact ⟨_, _, rfl, hn⟩

set_option maxRecDepth 100000 in
set_option maxHeartbeats 1000000 in
theorem int_any (n : Int) (w : World) (h1 : -9223372036854775807 ≤ n) (h2 : n ≤ 9223372036854775807) :
    Calls Tryd.prog 31 #[.int .i64 n] w fun e w' => GivesNum w 25 n e w' := by
  obtain ⟨i0, hi, hz0, hz1, hz2⟩ := info_parts info_int
  obtain ⟨s, hs⟩ : ∃ s : Nat, s = n.natAbs := ⟨_, rfl⟩
  obtain ⟨neg, hneg⟩ : ∃ neg : Bool, neg = decide (n < 0) := ⟨_, rfl⟩
  have hs63 : W63 s := by unfold W63; omega
  have HW : Hid (W64 s) := by show s < _; omega
  have HZ : Hid (∀ ds, tval ds = s → tz neg ds = n) := by
    intro ds hd
    unfold tz
    rw [hneg, hd, hs]
    by_cases h : n < 0
    · simp [h]; omega
    · simp [h]; omega
  have hsn : (if neg then -n else n) = (s : Int) := by
    rw [hneg, hs]
    by_cases h : n < 0
    · simp [h]; omega
    · simp [h]; omega
  have HB : Hid (Below w.heap.size w ((w.alloc (.cells #[.bool false, .slice none 0 0] 29)).alloc (.cells #[] 3))) := ((Below.refl _ _).alloc (Nat.le_refl _) _).alloc (by simp) _
  have HX : Hid (BoxN ((w.alloc (.cells #[.bool false, .slice none 0 0] 29)).alloc (.cells #[] 3)) w.heap.size false none 0 0) := (BoxN.new _ _ _ _ _).alloc _
  have HOWN : Hid (((w.alloc (.cells #[.bool false, .slice none 0 0] 29)).alloc (.cells #[] 3)).ownsRow (w.heap.size + 1) 3 1 (.slice (some ⟨w.heap.size + 1, 0, none⟩) 0 0) 0 (i64s [])) := by
    have h := World.ownsRow_made (w.alloc (.cells #[.bool false, .slice none 0 0] 29)) (base := w.heap.size + 1) (e := 3) (size := 1) #[] 0 (by simp) (by unfold maxLen; omega) rfl
    rwa [World.size_alloc] at h
  cases neg with
  | true =>
    have hlt : n < 0 := by simpa using hneg
    have hn2 : -n = (s : Int) := by simpa using hsn
    clear hneg hsn hs
    go_enter Tryd.func31, Tryd.ntmps31
    go_wp2
    go_loopw [0, 4] (fun u v wr => (∃ (q : Nat) (ds : List Nat), W63 q ∧ u = .int .i64 q ∧ Hid (wr.ownsRow (w.heap.size + 1) 3 1 v ds.length (i64s ds)) ∧ Hid (TenAt s ds q) ∧ ds.length ≤ 20) ∧ Hid (BoxN wr w.heap.size false none 0 0) ∧ Hid (Below w.heap.size w wr)) (fun u _ _ => (intOf u).toNat)
    case atStart => exact ⟨⟨s, [], hs63, rfl, HOWN, ⟨Ten.nil, by simp [tval]⟩, by simp⟩, HX, HB⟩
    case round =>
      obtain ⟨⟨q, ds, hq, rfl, hown, hten, hl20⟩, hx, hb⟩ := hrel
      by_cases h0 : 0 < q
      · have hl := ten_len hten.out h0 HW.out
        have hq1 : (0 : Int) < (q : Int) := by omega
        have hq2 := hq.le
        obtain ⟨r, hr⟩ : ∃ r : Nat, r = q % 10 := ⟨_, rfl⟩
        obtain ⟨p, hp⟩ : ∃ p : Nat, p = q / 10 := ⟨_, rfl⟩
        have hr1 : ((q : Int) % 10) = (r : Int) := by omega
        have hp1 : ((q : Int) / 10) = (p : Int) := by omega
        have hp3 : p < q := by omega
        have HR := Lib.hid hr
        have HP := Lib.hid hp
        have hgs := hx.out.lt
        clear hr hp
        go_wp2_with (at_builtin; refine wpList_append_own _ rfl _ _ 27 rfl (w.heap.size + 1) 3 i0 (.int .i64 0) 1 8 Tryd.underlying27 hi hz0 hz1 hz2 rfl (by decide) _ _ _ rfl (hown.out.alloc _) ⟨wr.heap.size, 0, none⟩ 1 1 [.int .i64 (r : Int)] rfl rfl ?c1 ?c2 ?c3 ?c4 ?c5 ?_)
        case c1 =>
          intro j u hj
          match j, hj with
          | 0, hj => simp at hj; subst hj; simp [Addr.add]
        case c2 => intro u hu; simp at hu; subst hu; rfl
        case c3 => unfold maxLen; omega
        case c4 => omega
        case c5 => simp; omega
        intro v' w1 hown' hgrow _
        have hne : ∀ k, u4.ownBlock = some k → w.heap.size + 1 ≤ k := fun k hk => (hown.out.lt k hk).1
        have HX1 : Hid (BoxN w1 w.heap.size false none 0 0) := (hx.out.alloc _).grown hgrow (fun e => by have := hne _ e.symm; omega)
        have HB1 : Hid (Below w.heap.size w w1) := (hb.out.alloc hb.out.size _).grown hgrow (by simp; omega) (fun g hg => by have := hne g hg; omega)
        have HOWN1 : Hid (w1.ownsRow (w.heap.size + 1) 3 1 v' (ds ++ [r]).length (i64s (ds ++ [r]))) := by
          show World.ownsRow _ _ _ _ _ _ _
          rw [List.length_append, i64s_append]
          exact hown'
        clear hgrow hown' hne
        go_wp2
        go_roundw
        case rel => exact ⟨⟨p, ds ++ [r], by have := hq; unfold W63 at *; omega, rfl, HOWN1, by have h := ten_step hten.out; rw [← HR.out, ← HP.out] at h; exact h, by simp; omega⟩, HX1, HB1⟩
        case measure => simp [intOf]; omega
      · have hq1 : ¬ (0 : Int) < (q : Int) := by omega
        obtain ⟨A, c, rfl, hc⟩ := own_row hown.out
        have hv : Hid (tval ds = s) := by
          have h := hten.out.2
          have h0 : q = 0 := by omega
          rw [h0] at h
          show tval ds = s
          simpa using h
        have HRN : Hid (Rn wr wr.heap.size A ds) := Rn.of_own hown.out
        go_wp2_with fail
        refine (make1_any true A ds.length c ds wr rfl (by omega) hc HRN.out hten.out.1).mono ?_
        rintro e w2 ⟨neg2, A2, n2, c2, rfl, hi2, hb2⟩
        have hx2 := hx.out.over hb2.out
        have c0 := hx2.c0
        have c1 := hx2.c1
        have f0 := hx2.f0
        have f1 := hx2.f1
        have HI := Lib.hid (hi2.out.put hx2 neg2 A2 n2 c2)
        have HB2 : Hid (Below w.heap.size w (put2 w2 w.heap.size neg2 A2 n2 c2)) := below_put (hb.out.trans (hb2.out.mono hb.out.size)) (Nat.le_refl _) _ _ _ _
        have HSZ := Lib.hid (put2_size w2 w.heap.size neg2 A2 n2 c2)
        go_wp2
        refine bodyPost_ret (v := .agg #[.bool neg2, .slice A2 n2 c2]) (by simp [results, Tryd.results31, go_sem, c0, c1]) rfl ⟨neg2, A2, n2, c2, rfl, ?_, HB2⟩
        have h : IsNum (put2 w2 w.heap.size neg2 A2 n2 c2) (put2 w2 w.heap.size neg2 A2 n2 c2).heap.size 25 _ _ := HI.out.more (by rw [HSZ.out]; exact Nat.le_refl _) (by omega)
        rw [HZ.out ds hv.out] at h
        exact h
  | false =>
    have hlt : ¬ n < 0 := by simpa using hneg
    obtain rfl : n = (s : Int) := by simpa using hsn
    clear hneg hsn hs
    go_enter Tryd.func31, Tryd.ntmps31
    go_wp2
    go_loopw [0, 4] (fun u v wr => (∃ (q : Nat) (ds : List Nat), W63 q ∧ u = .int .i64 q ∧ Hid (wr.ownsRow (w.heap.size + 1) 3 1 v ds.length (i64s ds)) ∧ Hid (TenAt s ds q) ∧ ds.length ≤ 20) ∧ Hid (BoxN wr w.heap.size false none 0 0) ∧ Hid (Below w.heap.size w wr)) (fun u _ _ => (intOf u).toNat)
    case atStart => exact ⟨⟨s, [], hs63, rfl, HOWN, ⟨Ten.nil, by simp [tval]⟩, by simp⟩, HX, HB⟩
    case round =>
      obtain ⟨⟨q, ds, hq, rfl, hown, hten, hl20⟩, hx, hb⟩ := hrel
      by_cases h0 : 0 < q
      · have hl := ten_len hten.out h0 HW.out
        have hq1 : (0 : Int) < (q : Int) := by omega
        have hq2 := hq.le
        obtain ⟨r, hr⟩ : ∃ r : Nat, r = q % 10 := ⟨_, rfl⟩
        obtain ⟨p, hp⟩ : ∃ p : Nat, p = q / 10 := ⟨_, rfl⟩
        have hr1 : ((q : Int) % 10) = (r : Int) := by omega
        have hp1 : ((q : Int) / 10) = (p : Int) := by omega
        have hp3 : p < q := by omega
        have HR := Lib.hid hr
        have HP := Lib.hid hp
        have hgs := hx.out.lt
        clear hr hp
        go_wp2_with (at_builtin; refine wpList_append_own _ rfl _ _ 27 rfl (w.heap.size + 1) 3 i0 (.int .i64 0) 1 8 Tryd.underlying27 hi hz0 hz1 hz2 rfl (by decide) _ _ _ rfl (hown.out.alloc _) ⟨wr.heap.size, 0, none⟩ 1 1 [.int .i64 (r : Int)] rfl rfl ?c1 ?c2 ?c3 ?c4 ?c5 ?_)
        case c1 =>
          intro j u hj
          match j, hj with
          | 0, hj => simp at hj; subst hj; simp [Addr.add]
        case c2 => intro u hu; simp at hu; subst hu; rfl
        case c3 => unfold maxLen; omega
        case c4 => omega
        case c5 => simp; omega
        intro v' w1 hown' hgrow _
        have hne : ∀ k, u4.ownBlock = some k → w.heap.size + 1 ≤ k := fun k hk => (hown.out.lt k hk).1
        have HX1 : Hid (BoxN w1 w.heap.size false none 0 0) := (hx.out.alloc _).grown hgrow (fun e => by have := hne _ e.symm; omega)
        have HB1 : Hid (Below w.heap.size w w1) := (hb.out.alloc hb.out.size _).grown hgrow (by simp; omega) (fun g hg => by have := hne g hg; omega)
        have HOWN1 : Hid (w1.ownsRow (w.heap.size + 1) 3 1 v' (ds ++ [r]).length (i64s (ds ++ [r]))) := by
          show World.ownsRow _ _ _ _ _ _ _
          rw [List.length_append, i64s_append]
          exact hown'
        clear hgrow hown' hne
        go_wp2
        go_roundw
        case rel => exact ⟨⟨p, ds ++ [r], by have := hq; unfold W63 at *; omega, rfl, HOWN1, by have h := ten_step hten.out; rw [← HR.out, ← HP.out] at h; exact h, by simp; omega⟩, HX1, HB1⟩
        case measure => simp [intOf]; omega
      · have hq1 : ¬ (0 : Int) < (q : Int) := by omega
        obtain ⟨A, c, rfl, hc⟩ := own_row hown.out
        have hv : Hid (tval ds = s) := by
          have h := hten.out.2
          have h0 : q = 0 := by omega
          rw [h0] at h
          show tval ds = s
          simpa using h
        have HRN : Hid (Rn wr wr.heap.size A ds) := Rn.of_own hown.out
        go_wp2_with fail
        refine (make1_any false A ds.length c ds wr rfl (by omega) hc HRN.out hten.out.1).mono ?_
        rintro e w2 ⟨neg2, A2, n2, c2, rfl, hi2, hb2⟩
        have hx2 := hx.out.over hb2.out
        have c0 := hx2.c0
        have c1 := hx2.c1
        have f0 := hx2.f0
        have f1 := hx2.f1
        have HI := Lib.hid (hi2.out.put hx2 neg2 A2 n2 c2)
        have HB2 : Hid (Below w.heap.size w (put2 w2 w.heap.size neg2 A2 n2 c2)) := below_put (hb.out.trans (hb2.out.mono hb.out.size)) (Nat.le_refl _) _ _ _ _
        have HSZ := Lib.hid (put2_size w2 w.heap.size neg2 A2 n2 c2)
        go_wp2
        refine bodyPost_ret (v := .agg #[.bool neg2, .slice A2 n2 c2]) (by simp [results, Tryd.results31, go_sem, c0, c1]) rfl ⟨neg2, A2, n2, c2, rfl, ?_, HB2⟩
        have h : IsNum (put2 w2 w.heap.size neg2 A2 n2 c2) (put2 w2 w.heap.size neg2 A2 n2 c2).heap.size 25 _ _ := HI.out.more (by rw [HSZ.out]; exact Nat.le_refl _) (by omega)
        rw [HZ.out ds hv.out] at h
        exact h
end Go.Proofs.YtgmnpajecpjklaaDoor.wh
