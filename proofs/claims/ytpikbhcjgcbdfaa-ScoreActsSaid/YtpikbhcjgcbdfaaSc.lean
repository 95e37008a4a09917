/- Tables of package score in memory: words for what they are, how they are made, read and set. -/
import Derived.Test.YtpikbhcjgcbdfaaSb
import Derived.Laws.MakeOwn
import Derived.LoopTactic
namespace Go.Proofs.Ytpikbhcjgcbdfaa.sc
open Go.RowKit

/-- Block g is just the cells cs of element type t, none frozen. -/
def Blk (w : World) (g : Nat) (t : TypeId) (cs : Array Value) : Prop := w.heap[g]? = some (.cells cs t (0, 0))
section
variable {w w' : World} {g : Nat} {t : TypeId} {cs : Array Value}
theorem Blk.lt (h : Blk w g t cs) : g < w.heap.size := by
  rcases Nat.lt_or_ge g w.heap.size with hlt | hge
  · exact hlt
  · unfold Blk at h; rw [Array.getElem?_eq_none hge] at h; cases h
theorem Blk.cell (h : Blk w g t cs) (i : Nat) : w.cell? ⟨g, i, none⟩ = cs[i]? := cell_of_row w g i cs t (0, 0) h
theorem Blk.frozen (h : Blk w g t cs) (i : Nat) : w.frozen? ⟨g, i, none⟩ = false := by
  unfold Blk at h
  simp [World.frozen?, h]
theorem Blk.new (w : World) (t : TypeId) (cs : Array Value) : Blk (w.alloc (.cells cs t)) w.heap.size t cs := heap_alloc_new w _
theorem Blk.drewN (h : Blk w g t cs) (n : Nat) : Blk (w.drewN n) g t cs := h
theorem Blk.alloc (h : Blk w g t cs) (o : Obj) : Blk (w.alloc o) g t cs := (Below.heap_alloc w o g h.lt).trans h
theorem Blk.set_ (h : Blk w g t cs) (i : Nat) (u : Value) : Blk (w.setCell ⟨g, i, none⟩ u) g t (cs.setIfInBounds i u) := by
  unfold Blk at h ⊢
  simp [World.setCell, Array.getElem?_modify, h]
theorem Blk.far (h : Blk w g t cs) {p : Addr} (hp : g ≠ p.block) (u : Value) : Blk (w.setCell p u) g t cs := (Below.heap_setCell w p u g hp).trans h
theorem Blk.below {B : Nat} (h : Blk w g t cs) (hb : Below B w w') (hg : g < B) : Blk w' g t cs := (hb.block g hg).trans h
end

/-- all but the blocks T and S is as it was -/
structure Two (T S : Nat) (w w' : World) : Prop where
  os : w'.os = w.os
  tape : w'.tape = w.tape
  output : w'.output = w.output
  size : w'.heap.size = w.heap.size
  block : ∀ k, k ≠ T → k ≠ S → w'.heap[k]? = w.heap[k]?
section
variable {T S : Nat} {a b c w w' : World}
theorem Two.refl (T S : Nat) (w : World) : Two T S w w := ⟨rfl, rfl, rfl, rfl, fun _ _ _ => rfl⟩
theorem Two.trans (h : Two T S a b) (k : Two T S b c) : Two T S a c :=
  ⟨k.os.trans h.os, k.tape.trans h.tape, k.output.trans h.output, k.size.trans h.size, fun i h1 h2 => (k.block i h1 h2).trans (h.block i h1 h2)⟩
theorem Two.drewN (h : Two T S a w) (n : Nat) : Two T S a (w.drewN n) := ⟨h.os, h.tape, h.output, h.size, h.block⟩
theorem Two.drew (h : Two T S a w) : Two T S a w.drew := ⟨h.os, h.tape, h.output, h.size, h.block⟩
theorem Two.set1 (h : Two T S a w) (i : Nat) (u : Value) : Two T S a (w.setCell ⟨T, i, none⟩ u) :=
  ⟨h.os, h.tape, h.output, by simpa [World.setCell] using h.size, fun k h1 h2 => (Below.heap_setCell w ⟨T, i, none⟩ u k h1).trans (h.block k h1 h2)⟩
theorem Two.set2 (h : Two T S a w) (i : Nat) (u : Value) : Two T S a (w.setCell ⟨S, i, none⟩ u) :=
  ⟨h.os, h.tape, h.output, by simpa [World.setCell] using h.size, fun k h1 h2 => (Below.heap_setCell w ⟨S, i, none⟩ u k h2).trans (h.block k h1 h2)⟩
theorem Two.below {B : Nat} (h : Below B a w) (k : Two T S w w') (hT : B ≤ T) (hS : B ≤ S) : Below B a w' :=
  h.trans ⟨k.os, k.tape, k.output, by rw [k.size]; exact Nat.le_refl _, fun i hi => k.block i (by omega) (by omega)⟩
theorem Blk.two {g : Nat} {t : TypeId} {cs : Array Value} (h : Blk w g t cs) (k : Two T S w w') (h1 : g ≠ T) (h2 : g ≠ S) : Blk w' g t cs := (k.block g h1 h2).trans h
theorem Below.drewN {B : Nat} (h : Below B a w) (n : Nat) : Below B a (w.drewN n) := ⟨h.os, h.tape, h.output, h.size, h.block⟩
end

/-- a row of n floats -/
def fls (n : Nat) (L : Nat → Nat) : Array Value := ((List.range n).map fun j => Value.float .f64 (L j)).toArray
theorem fls_get {n : Nat} {L : Nat → Nat} {j : Nat} (h : j < n) : (fls n L)[j]? = some (.float .f64 (L j)) := by simp [fls, h]
theorem fls_set {n : Nat} {L : Nat → Nat} {v x : Nat} : (fls n L).setIfInBounds v (.float .f64 x) = fls n (fun j => if j = v then x else L j) := by
  apply Array.ext
  · simp [fls]
  · intro i h1 h2
    simp [fls]
    by_cases e : v = i
    · simp [e]
    · simp [e]; omega
theorem fls_zero (n : Nat) : madeCells (#[.float .f64 0] : Array Value) n = fls n (fun _ => 0) := by
  apply Array.ext
  · simp [madeCells, fls]
  · intro i h1 h2
    simp [madeCells, fls, Nat.mod_one]
theorem fls_congr {n : Nat} {L L' : Nat → Nat} (h : ∀ j, j < n → L j = L' j) : fls n L = fls n L' := by
  unfold fls
  congr 1
  exact List.map_congr_left fun j hj => by rw [h j (by simpa using hj)]
/-- block T is a table of type tt (its row: block S): n scores L, the step st, the decay dc -/
def IsTab (w : World) (tt : TypeId) (T S n : Nat) (L : Nat → Nat) (st dc : Nat) : Prop :=
  Blk w T tt #[.slice (some ⟨S, 0, none⟩) n n, .float .f64 st, .float .f64 dc] ∧ Blk w S 22 (fls n L) ∧ T ≠ S
section
variable {w w' : World} {tt : TypeId} {T S n : Nat} {L : Nat → Nat} {st dc : Nat}
theorem IsTab.c0 (h : IsTab w tt T S n L st dc) : w.cell? ⟨T, 0, none⟩ = some (.slice (some ⟨S, 0, none⟩) n n) := h.1.cell 0
theorem IsTab.c1 (h : IsTab w tt T S n L st dc) : w.cell? ⟨T, 1, none⟩ = some (.float .f64 st) := h.1.cell 1
theorem IsTab.c2 (h : IsTab w tt T S n L st dc) : w.cell? ⟨T, 2, none⟩ = some (.float .f64 dc) := h.1.cell 2
theorem IsTab.f1 (h : IsTab w tt T S n L st dc) : w.frozen? ⟨T, 1, none⟩ = false := h.1.frozen 1
theorem IsTab.cs (h : IsTab w tt T S n L st dc) {j : Nat} (hj : j < n) : w.cell? ⟨S, j, none⟩ = some (.float .f64 (L j)) := (h.2.1.cell j).trans (fls_get hj)
theorem IsTab.fs (h : IsTab w tt T S n L st dc) (j : Nat) : w.frozen? ⟨S, j, none⟩ = false := h.2.1.frozen j
theorem IsTab.drewN (h : IsTab w tt T S n L st dc) (k : Nat) : IsTab (w.drewN k) tt T S n L st dc := h
theorem IsTab.drew (h : IsTab w tt T S n L st dc) : IsTab w.drew tt T S n L st dc := h
theorem IsTab.alloc (h : IsTab w tt T S n L st dc) (o : Obj) : IsTab (w.alloc o) tt T S n L st dc := ⟨h.1.alloc o, h.2.1.alloc o, h.2.2⟩
theorem IsTab.two (h : IsTab w tt T S n L st dc) {T' S' : Nat} (k : Two T' S' w w') (h1 : T ≠ T') (h2 : T ≠ S') (h3 : S ≠ T') (h4 : S ≠ S') : IsTab w' tt T S n L st dc := ⟨h.1.two k h1 h2, h.2.1.two k h3 h4, h.2.2⟩
theorem IsTab.below (h : IsTab w tt T S n L st dc) (k : Below w.heap.size w w') : IsTab w' tt T S n L st dc := ⟨h.1.below k h.1.lt, h.2.1.below k h.2.1.lt, h.2.2⟩
theorem IsTab.setS (h : IsTab w tt T S n L st dc) (v x : Nat) : IsTab (w.setCell ⟨S, v, none⟩ (.float .f64 x)) tt T S n (fun j => if j = v then x else L j) st dc :=
  ⟨h.1.far h.2.2 _, by have := h.2.1.set_ v (.float .f64 x); rw [fls_set] at this; exact this, h.2.2⟩
theorem IsTab.setStep (h : IsTab w tt T S n L st dc) (x : Nat) : IsTab (w.setCell ⟨T, 1, none⟩ (.float .f64 x)) tt T S n L x dc :=
  ⟨h.1.set_ 1 (.float .f64 x), h.2.1.far (Ne.symm h.2.2) _, h.2.2⟩
theorem IsTab.setDecay (h : IsTab w tt T S n L st dc) (x : Nat) : IsTab (w.setCell ⟨T, 2, none⟩ (.float .f64 x)) tt T S n L st x :=
  ⟨h.1.set_ 2 (.float .f64 x), h.2.1.far (Ne.symm h.2.2) _, h.2.2⟩
theorem IsTab.congr {L' : Nat → Nat} (h : IsTab w tt T S n L st dc) (e : ∀ j, j < n → L j = L' j) : IsTab w tt T S n L' st dc := by
  unfold IsTab at *
  rw [← fls_congr e]
  exact h
end

theorem info_fl : (Try.prog.info? 22).map (fun i => (i.zero, i.size, i.bytes)) = some (some (.float .f64 0), 1, 8) := by kernel_rfl
theorem info_tab : (Try.prog.info? 54).map (fun i => i.size) = some 3 := by kernel_rfl
theorem run_make_fl {z : Int} {n : Nat} (hz : z = (n : Int)) (hn : n ≤ 1048576) (W : World) :
    (Instr.makeSlice 33 (.int .i64 z) (.int .i64 z)).run Try.prog W = .ok (.slice (some ⟨W.heap.size, 0, none⟩) n n) (W.alloc (.cells (fls n (fun _ => 0)) 22)) := by
  obtain ⟨i0, hi, hz0, hz1, hz2⟩ := info_parts info_fl
  subst hz
  have h := run_make (P := Try.prog) W 33 22 i0 _ Try.underlying33 hi hz0 .i64 .i64 n n (by omega) (by omega) (by rw [hz2]; omega) (by omega)
  rw [h]
  simp only [Int.toNat_natCast, hz1, Nat.mul_one]
  rw [show (Value.float .f64 0).cells = #[.float .f64 0] from rfl, fls_zero]
/-- the decay that a table has -/
def decayOf (d : Nat) : Nat := if (FloatKind.f64.format.order d 0 == some Ordering.gt) && (FloatKind.f64.format.order d 4607182418800017408 == some Ordering.lt) then d else 4606732058837280358
/-- a table that was made -/
def Made (tt : TypeId) (n d : Nat) (w : World) (e : Ending) (w' : World) : Prop := ∃ T S, e = .returned (.pointer (some ⟨T, 0, none⟩)) ∧ Hid (w.heap.size ≤ T ∧ w.heap.size ≤ S ∧ IsTab w' tt T S n (fun _ => 0) 4607182418800017408 (decayOf d) ∧ Below w.heap.size w w')
theorem new_done (w : World) (m d : Nat) (d' : Nat) (e : decayOf d = d') : Made 54 m d w (.returned (.pointer (some ⟨w.heap.size + 1, 0, none⟩))) ((w.alloc (.cells (fls m (fun _ => 0)) 22)).alloc (.cells #[.slice (some ⟨w.heap.size, 0, none⟩) m m, .float .f64 4607182418800017408, .float .f64 d'] 54)) := by
  subst e
  refine ⟨w.heap.size + 1, w.heap.size, rfl, by omega, Nat.le_refl _, ⟨?_, (Blk.new w _ _).alloc _, by omega⟩, ((Below.refl _ _).alloc (Nat.le_refl _) _).alloc (by simp) _⟩
  have h := Blk.new (w.alloc (.cells (fls m (fun _ => 0)) 22)) 54 #[.slice (some ⟨w.heap.size, 0, none⟩) m m, .float .f64 4607182418800017408, .float .f64 (decayOf d)]
  simpa using h
theorem decay_no {d : Nat} (h : (FloatKind.f64.format.order d 0 == some Ordering.gt) = false) : decayOf d = 4606732058837280358 := by unfold decayOf; rw [h]; rfl
theorem decay_two {d : Nat} (h : (FloatKind.f64.format.order d 4607182418800017408 == some Ordering.lt) = false) : decayOf d = 4606732058837280358 := by unfold decayOf; rw [h, Bool.and_false]; rfl
theorem decay_yes {d : Nat} (h : (FloatKind.f64.format.order d 0 == some Ordering.gt) = true) (h2 : (FloatKind.f64.format.order d 4607182418800017408 == some Ordering.lt) = true) : decayOf d = d := by unfold decayOf; rw [h, h2]; rfl
set_option maxRecDepth 100000 in
theorem new_pos {m d : Nat} (hm : m ≤ 1048576) (w : World) :
    Calls Try.prog 7 #[.int .i64 (m : Int), .float .f64 d] w (Made 54 m d w) := by
  have hmk := fun W => run_make_fl (z := (m : Int)) (n := m) rfl hm W
  have h1 : ¬ (1048576 < (m : Int)) := by omega
  have h2 : (m : Int) ≤ 1048576 := by omega
  clear hm
  cases g1 : (FloatKind.f64.format.order d 0 == some Ordering.gt)
  · have E := Lib.hid (decay_no g1)
    go_enter Try.func7, Try.ntmps7
    go_wp2
    go_ret
    exact new_done _ _ _ _ E.out
  · cases g2 : (FloatKind.f64.format.order d 4607182418800017408 == some Ordering.lt)
    · have E := Lib.hid (decay_two g2)
      go_enter Try.func7, Try.ntmps7
      go_wp2
      go_ret
      exact new_done _ _ _ _ E.out
    · have E := Lib.hid (decay_yes g1 g2)
      go_enter Try.func7, Try.ntmps7
      go_wp2
      go_ret
      exact new_done _ _ _ _ E.out
set_option maxRecDepth 100000 in
theorem new_neg {n : Int} {d : Nat} (hn : n < 0) (w : World) :
    Calls Try.prog 7 #[.int .i64 n, .float .f64 d] w (Made 54 0 d w) := by
  have hmk := fun W => run_make_fl (z := 0) (n := 0) rfl (by omega) W
  have h1 : (0 : Int) > n := hn
  cases g1 : (FloatKind.f64.format.order d 0 == some Ordering.gt)
  · have E := Lib.hid (decay_no g1)
    go_enter Try.func7, Try.ntmps7
    go_wp2
    go_ret
    exact new_done _ _ _ _ E.out
  · cases g2 : (FloatKind.f64.format.order d 4607182418800017408 == some Ordering.lt)
    · have E := Lib.hid (decay_two g2)
      go_enter Try.func7, Try.ntmps7
      go_wp2
      go_ret
      exact new_done _ _ _ _ E.out
    · have E := Lib.hid (decay_yes g1 g2)
      go_enter Try.func7, Try.ntmps7
      go_wp2
      go_ret
      exact new_done _ _ _ _ E.out
theorem step_any {w : World} {T S n st dc : Nat} {L : Nat → Nat} (h : Hid (IsTab w 54 T S n L st dc)) :
    Calls Try.prog 17 #[.pointer (some ⟨T, 0, none⟩)] w fun e w' => e = .returned (.float .f64 st) ∧ w = w' := by
  have c1 := h.out.c1
  go_enter Try.func17, Try.ntmps17
  go_wp2
  go_ret
  exact ⟨rfl, rfl⟩
/-- is there such an unknown? -/
def hasB (n : Nat) (v : Int) : Bool := decide (0 ≤ v) && decide (v < (n : Int))
theorem has_any {w : World} {T S n st dc : Nat} {L : Nat → Nat} (h : Hid (IsTab w 54 T S n L st dc)) (v : Int) :
    Calls Try.prog 26 #[.pointer (some ⟨T, 0, none⟩), .int .i64 v] w fun e w' => e = .returned (.bool (hasB n v)) ∧ w = w' := by
  have c0 := h.out.c0
  by_cases h0 : 0 ≤ v
  all_goals
    go_enter Try.func26, Try.ntmps26
    go_wp2
    go_ret
    exact ⟨ret_bool (by unfold hasB; first | (simp [h0]; done) | (simp; omega)), rfl⟩
theorem nan_any (w : World) :
    Calls Try.prog 36 #[] w fun e w' => e = .returned (.float .f64 nanW) ∧ w = w' := by
  have hc : ∀ W, (callFunc 33 #[.int .u64 9221120237041090561]).run Try.prog W = .ok (.value (.float .f64 9221120237041090561)) W := fun W => callFrom 9221120237041090561 W
  go_enter Try.func36, Try.ntmps36
  go_wp2
  go_ret
  exact ⟨rfl, rfl⟩
/-- the score that a table tells -/
def scoreOf (n : Nat) (L : Nat → Nat) (v : Int) : Nat := if hasB n v then L v.toNat else nanW
theorem score_any {w : World} {T S n st dc : Nat} {L : Nat → Nat} (h : Hid (IsTab w 54 T S n L st dc)) (v : Int) :
    Calls Try.prog 19 #[.pointer (some ⟨T, 0, none⟩), .int .i64 v] w fun e w' => e = .returned (.float .f64 (scoreOf n L v)) ∧ w = w' := by
  have c0 := h.out.c0
  cases hb : hasB n v
  · go_enter Try.func19, Try.ntmps19
    go_wp2_with (first | (go_at_call 26; refine (has_any h _).mono ?_; rintro e w' ⟨rfl, rfl⟩) | (go_at_call 36; refine (nan_any _).mono ?_; rintro e w' ⟨rfl, rfl⟩))
    go_ret
    exact ⟨ret_float (by unfold scoreOf; rw [hb]; rfl), rfl⟩
  · have hv : 0 ≤ v ∧ v < n := by simpa [hasB] using hb
    obtain ⟨k, rfl⟩ := Int.eq_ofNat_of_zero_le hv.1
    have hk : k < n := by omega
    have ck := h.out.cs hk
    clear hv
    go_enter Try.func19, Try.ntmps19
    go_wp2_with (first | (go_at_call 26; refine (has_any h _).mono ?_; rintro e w' ⟨rfl, rfl⟩) | (go_at_call 36; refine (nan_any _).mono ?_; rintro e w' ⟨rfl, rfl⟩))
    go_ret
    exact ⟨ret_float (by unfold scoreOf; rw [hb]; rfl), rfl⟩
theorem of_low (w : World) :
    Calls Try.prog 13 #[.int .u64 18442240474082181120] w fun e w' => e = .returned (.float .f64 lowW) ∧ w = w' := of_any 18442240474082181120 w
theorem of_nan (w : World) :
    Calls Try.prog 13 #[.int .u64 9221120237041090561] w fun e w' => e = .returned (.float .f64 nanW) ∧ w = w' := of_any 9221120237041090561 w
theorem lawNan_any (w : World) :
    Calls Try.prog 25 #[] w fun e w' => e = .returned (.float .f64 nanW) ∧ w = w' := by
  go_enter Try.func25, Try.ntmps25
  go_wp2_with (first | (go_at_call 13; refine (of_nan _).mono ?_; rintro e w' ⟨rfl, rfl⟩))
  go_ret
  exact ⟨rfl, rfl⟩
theorem less_nl (w : World) :
    Calls Try.prog 23 #[.float .f64 nanW, .float .f64 lowW] w fun e w' => e = .returned (.bool true) ∧ w = w' :=
  (less_any (by decide) (by decide) w).mono fun _ _ h => ⟨h.1.trans (ret_bool (by decide)), h.2⟩
theorem less_ln (w : World) :
    Calls Try.prog 23 #[.float .f64 lowW, .float .f64 nanW] w fun e w' => e = .returned (.bool false) ∧ w = w' :=
  (less_any (by decide) (by decide) w).mono fun _ _ h => ⟨h.1.trans (ret_bool (by decide)), h.2⟩
theorem less_lz (w : World) :
    Calls Try.prog 23 #[.float .f64 lowW, .float .f64 0] w fun e w' => e = .returned (.bool true) ∧ w = w' :=
  (less_any (by decide) (by decide) w).mono fun _ _ h => ⟨h.1.trans (ret_bool (by decide)), h.2⟩
theorem new_one (w : World) :
    Calls Try.prog 7 #[.int .i64 1, .float .f64 4602678819172646912] w (Made 54 1 4602678819172646912 w) := new_pos (m := 1) (by omega) w
set_option maxRecDepth 100000 in
theorem speaks_any (w : World) :
    Calls Try.prog 6 #[] w fun e w' => e = .returned (.bool true) ∧ Hid (Below w.heap.size w w') := by
  have h1 : (FloatKind.f64.format.order 4607182418800017408 4607182418800017408 == some Ordering.eq) = true := by decide
  go_enter Try.func6, Try.ntmps6
  go_wp2_with (first | (go_at_call 13; refine (of_low _).mono ?_; rintro e w' ⟨rfl, rfl⟩) | (go_at_call 25; refine (lawNan_any _).mono ?_; rintro e w' ⟨rfl, rfl⟩) | (go_at_call 23; (with_reducible refine (less_nl _).mono ?_); rintro e w' ⟨rfl, rfl⟩) | (go_at_call 23; (with_reducible refine (less_ln _).mono ?_); rintro e w' ⟨rfl, rfl⟩) | (go_at_call 23; (with_reducible refine (less_lz _).mono ?_); rintro e w' ⟨rfl, rfl⟩) | (go_at_call 7; refine (new_one _).mono ?_; rintro e w1 ⟨T, S, rfl, HM⟩; have HT := Lib.hid HM.out.2.2.1) | (go_at_call 17; refine (step_any HT).mono ?_; rintro e w' ⟨rfl, rfl⟩))
  go_ret
  exact ⟨rfl, HM.out.2.2.2⟩
end Go.Proofs.Ytpikbhcjgcbdfaa.sc
