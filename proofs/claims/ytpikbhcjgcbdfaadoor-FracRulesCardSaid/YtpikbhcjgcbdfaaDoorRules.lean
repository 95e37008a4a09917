/- The statement WholeRules: the walk of its function. -/
import Derived.Test.YtpikbhcjgcbdfaaDoorOrder
import Derived.Test.YtpikbhcjgcbdfaaDoorReads
import Derived.Test.YtpikbhcjgcbdfaaDoorWhF
namespace Go.Proofs.YtpikbhcjgcbdfaaDoor.wh
open Go.RowKit

/-- seven variables that are known -/
structure Sept (w w0 : World) (g1 : Nat) (x1 : Bool) (a1 : Option Addr) (n1 c1 : Nat) (g2 : Nat) (x2 : Bool) (a2 : Option Addr) (n2 c2 : Nat) (g3 : Nat) (x3 : Bool) (a3 : Option Addr) (n3 c3 : Nat) (g4 : Nat) (x4 : Bool) (a4 : Option Addr) (n4 c4 : Nat) (g5 : Nat) (x5 : Bool) (a5 : Option Addr) (n5 c5 : Nat) (g6 : Nat) (x6 : Bool) (a6 : Option Addr) (n6 c6 : Nat) (g7 : Nat) (x7 : Bool) (a7 : Option Addr) (n7 c7 : Nat) (w' : World) : Prop where
  below : Below w.heap.size w w'
  here : Below w0.heap.size w0 w'
  b1 : Box w' g1 x1 a1 n1 c1
  b2 : Box w' g2 x2 a2 n2 c2
  b3 : Box w' g3 x3 a3 n3 c3
  b4 : Box w' g4 x4 a4 n4 c4
  b5 : Box w' g5 x5 a5 n5 c5
  b6 : Box w' g6 x6 a6 n6 c6
  b7 : Box w' g7 x7 a7 n7 c7
section
variable {w w0 w' w1 : World} {g1 n1 c1 g2 n2 c2 g3 n3 c3 g4 n4 c4 g5 n5 c5 g6 n6 c6 g7 n7 c7 : Nat} {x1 x2 x3 x4 x5 x6 x7 : Bool} {a1 a2 a3 a4 a5 a6 a7 : Option Addr}
theorem Sept.all (h : Sept w w0 g1 x1 a1 n1 c1 g2 x2 a2 n2 c2 g3 x3 a3 n3 c3 g4 x4 a4 n4 c4 g5 x5 a5 n5 c5 g6 x6 a6 n6 c6 g7 x7 a7 n7 c7 w') : (w'.cell? ⟨g1, 0, none⟩ = some (.bool x1) ∧ w'.cell? ⟨g1, 1, none⟩ = some (.slice a1 n1 c1) ∧ w'.cell? ⟨g2, 0, none⟩ = some (.bool x2) ∧ w'.cell? ⟨g2, 1, none⟩ = some (.slice a2 n2 c2) ∧ w'.cell? ⟨g3, 0, none⟩ = some (.bool x3) ∧ w'.cell? ⟨g3, 1, none⟩ = some (.slice a3 n3 c3) ∧ w'.cell? ⟨g4, 0, none⟩ = some (.bool x4) ∧ w'.cell? ⟨g4, 1, none⟩ = some (.slice a4 n4 c4) ∧ w'.cell? ⟨g5, 0, none⟩ = some (.bool x5) ∧ w'.cell? ⟨g5, 1, none⟩ = some (.slice a5 n5 c5) ∧ w'.cell? ⟨g6, 0, none⟩ = some (.bool x6) ∧ w'.cell? ⟨g6, 1, none⟩ = some (.slice a6 n6 c6) ∧ w'.cell? ⟨g7, 0, none⟩ = some (.bool x7) ∧ w'.cell? ⟨g7, 1, none⟩ = some (.slice a7 n7 c7)) ∧ Hid (Sept w w0 g1 x1 a1 n1 c1 g2 x2 a2 n2 c2 g3 x3 a3 n3 c3 g4 x4 a4 n4 c4 g5 x5 a5 n5 c5 g6 x6 a6 n6 c6 g7 x7 a7 n7 c7 w') :=
  ⟨⟨h.b1.c0, h.b1.c1, h.b2.c0, h.b2.c1, h.b3.c0, h.b3.c1, h.b4.c0, h.b4.c1, h.b5.c0, h.b5.c1, h.b6.c0, h.b6.c1, h.b7.c0, h.b7.c1⟩, h⟩
theorem Sept.get {P : Prop} (h : P ∧ Hid (Sept w w0 g1 x1 a1 n1 c1 g2 x2 a2 n2 c2 g3 x3 a3 n3 c3 g4 x4 a4 n4 c4 g5 x5 a5 n5 c5 g6 x6 a6 n6 c6 g7 x7 a7 n7 c7 w')) : Sept w w0 g1 x1 a1 n1 c1 g2 x2 a2 n2 c2 g3 x3 a3 n3 c3 g4 x4 a4 n4 c4 g5 x5 a5 n5 c5 g6 x6 a6 n6 c6 g7 x7 a7 n7 c7 w' := h.2
theorem Sept.over (hb : Hid (Below w'.heap.size w' w1)) (h : Sept w w0 g1 x1 a1 n1 c1 g2 x2 a2 n2 c2 g3 x3 a3 n3 c3 g4 x4 a4 n4 c4 g5 x5 a5 n5 c5 g6 x6 a6 n6 c6 g7 x7 a7 n7 c7 w') : Sept w w0 g1 x1 a1 n1 c1 g2 x2 a2 n2 c2 g3 x3 a3 n3 c3 g4 x4 a4 n4 c4 g5 x5 a5 n5 c5 g6 x6 a6 n6 c6 g7 x7 a7 n7 c7 w1 :=
  ⟨h.below.trans (hb.out.mono h.below.size), h.here.trans (hb.out.mono h.here.size), h.b1.over hb.out, h.b2.over hb.out, h.b3.over hb.out, h.b4.over hb.out, h.b5.over hb.out, h.b6.over hb.out, h.b7.over hb.out⟩
theorem Sept.drew (h : Sept w w0 g1 x1 a1 n1 c1 g2 x2 a2 n2 c2 g3 x3 a3 n3 c3 g4 x4 a4 n4 c4 g5 x5 a5 n5 c5 g6 x6 a6 n6 c6 g7 x7 a7 n7 c7 w') : Sept w w0 g1 x1 a1 n1 c1 g2 x2 a2 n2 c2 g3 x3 a3 n3 c3 g4 x4 a4 n4 c4 g5 x5 a5 n5 c5 g6 x6 a6 n6 c6 g7 x7 a7 n7 c7 w'.drew := ⟨h.below.drew, h.here.drew, h.b1.drew, h.b2.drew, h.b3.drew, h.b4.drew, h.b5.drew, h.b6.drew, h.b7.drew⟩
end
theorem int_sign {x : Bool} {A : Option Addr} {n c m B : Nat} {z : Int} {w : World} (h : IsInt w B m (.agg #[.bool x, .slice A n c]) z) (hz : 0 ≤ z) : x = false := by
  obtain ⟨neg, A', n', c', ds, hv, h2, h3, h4, h5, h6, h7⟩ := h
  injection hv with hv
  have h0 := congrArg (fun a : Array Value => a.toList) hv
  simp only [List.cons.injEq, Value.bool.injEq, Value.slice.injEq, and_true] at h0
  obtain ⟨rfl, rfl, rfl, rfl⟩ := h0
  cases x with
  | false => rfl
  | true =>
    exfalso
    by_cases h0 : ds.length = 0
    · have e := List.eq_nil_of_length_eq_zero h0
      subst e
      have := right_nil h6
      cases this
    · have := top_pos (right_top h6) (by omega)
      simp only [zval, if_true] at h7
      omega
theorem int_none {x : Bool} {A : Option Addr} {n c m B : Nat} {z : Int} {w : World} (h : IsInt w B m (.agg #[.bool x, .slice A n c]) z) (hz : z = 0) : n = 0 := by
  obtain ⟨neg, A', n', c', ds, hv, h2, h3, h4, h5, h6, h7⟩ := h
  injection hv with hv
  have h0 := congrArg (fun a : Array Value => a.toList) hv
  simp only [List.cons.injEq, Value.bool.injEq, Value.slice.injEq, and_true] at h0
  obtain ⟨rfl, rfl, rfl, rfl⟩ := h0
  rcases Nat.eq_zero_or_pos n with h | h
  · exact h
  · have h1 := top_pos (right_top h6) (by omega)
    have h8 := zval_abs x ds
    rw [h7, hz] at h8
    simp at h8
    omega
theorem right_abs {x : Bool} {ds : List Nat} (h : rightB x ds = true) : rightB false ds = true := by
  cases x with
  | false => exact h
  | true =>
    unfold rightB at *
    revert h
    simp
    intros
    simp_all
theorem int_abs {x : Bool} {A : Option Addr} {n c m B : Nat} {z : Int} {w : World} (h : IsInt w B m (.agg #[.bool x, .slice A n c]) z) : IsInt w B m (.agg #[.bool false, .slice A n c]) (z.natAbs : Int) := by
  obtain ⟨neg, A', n', c', ds, hv, h2, h3, h4, h5, h6, h7⟩ := h
  injection hv with hv
  have h0 := congrArg (fun a : Array Value => a.toList) hv
  simp only [List.cons.injEq, Value.bool.injEq, Value.slice.injEq, and_true] at h0
  obtain ⟨rfl, rfl, rfl, rfl⟩ := h0
  refine ⟨false, A, n, c, ds, rfl, h2, h3, h4, h5, right_abs h6, ?_⟩
  have h8 := zval_abs x ds
  rw [h7] at h8
  simp [zval, h8]
theorem parse_text {neg : Bool} {ds : List Nat} (hR : rightB neg ds = true) (hl : ds.length ≤ 100) (w : World) :
    Calls Tryd.prog 30 #[.string ⟨(textOf neg ds).toArray⟩] w fun e w' => ∃ nb A n c, e = .returned (.tuple #[.agg #[.bool nb, .slice A n c], .bool true]) ∧ Hid (IsInt w' w'.heap.size 120 (.agg #[.bool nb, .slice A n c]) (zval neg ds)) ∧ Hid (Below w.heap.size w w') := by
  refine (parse_any ⟨(textOf neg ds).toArray⟩ w (by show (textOf neg ds).toArray.size ≤ _; rw [List.size_toArray]; exact text_short hR hl)).mono ?_
  rintro e w' ⟨nb, A, n, c, rfl, hi, hb⟩
  have e0 : (⟨(textOf neg ds).toArray⟩ : ByteArray).data.toList = textOf neg ds := rfl
  obtain ⟨h1, h2⟩ := text_reads hR
  rw [e0, h1]
  rw [e0, h2] at hi
  exact ⟨nb, A, n, c, rfl, hi, hb⟩
theorem div_all (v u : Value) (p q : Nat) (a b : Int) (w : World) (hp : p ≤ 900) (hq : q ≤ 900) (hx : IsInt w w.heap.size p v a) (hy : IsInt w w.heap.size q u b) :
    Calls Tryd.prog 14 #[v, u] w fun e w' => GivesTwo w (p + 2) q (quoZ a b) (remZ a b) e w' :=
  div_any v u p q a b w hp hq hx hy (fun h => divides_all _ _ (by omega))
theorem cmp_less {v u : Value} {p q : Nat} {a b : Int} {w : World} (hp : p ≤ 1000) (hq : q ≤ 1000) (hx : IsInt w w.heap.size p v a) (hy : IsInt w w.heap.size q u b) (h : cmpZ a b = -1) :
    Calls Tryd.prog 26 #[v, u] w fun e w' => e = .returned (.int .i64 (-1)) ∧ Hid (Below w.heap.size w w') :=
  (cmp_hid hp hq hx hy).mono fun e w' h2 => ⟨by rw [h2.1, h], h2.2⟩
theorem box_size {w : World} {m d z : Nat} {y : Bool} {b : Option Addr} (hz : z = w.heap.size) : Box (w.alloc (.cells #[.bool y, .slice b m d] 24)) z y b m d := by
  subst hz
  exact Box.new w y b m d
theorem quo_rem {a b : Int} (hb : b ≠ 0) : quoZ a b * b + remZ a b = a ∧ 0 ≤ remZ a b ∧ cmpZ (remZ a b) (b.natAbs : Int) = -1 := by
  unfold quoZ remZ
  rw [if_neg hb, if_neg hb]
  have h1 := Int.mul_ediv_add_emod a b
  rw [Int.mul_comm] at h1
  have h2 := Int.emod_nonneg a hb
  have h3 : a % b < (b.natAbs : Int) := by
    have := Int.emod_lt a hb
    omega
  exact ⟨h1, h2, by unfold cmpZ; rw [if_pos h3]⟩
theorem rem_gcd {a : Int} {n : Nat} (hn : n ∣ a.natAbs) : remZ a (n : Int) = 0 := by
  unfold remZ
  split
  · rfl
  · exact Int.emod_eq_zero_of_dvd (Int.ofNat_dvd_left.2 hn)

set_option maxRecDepth 100000 in
set_option maxHeartbeats 4000000 in
theorem rules_any (ex ey ez : El) (w : World) (hx : ex.Ok w) (hy : ey.Ok w) (hz : ez.Ok w) (hcx : ex.ds.length ≤ ex.c) (hcy : ey.ds.length ≤ ey.c) (hcz : ez.ds.length ≤ ez.c)  (htab : Tab w) :
    Calls Tryd.prog 5 #[ex.val, ey.val, ez.val] w fun e w' => e = .returned (.bool true) ∧ Below w.heap.size w w' := by
  have HIX : ex.odd = false → Hid (IsInt w w.heap.size 10 ex.val (zval ex.neg ex.ds)) := fun h => El.int hx hcx h
  have HIY : ey.odd = false → Hid (IsInt w w.heap.size 10 ey.val (zval ey.neg ey.ds)) := fun h => El.int hy hcy h
  have HIZ : ez.odd = false → Hid (IsInt w w.heap.size 10 ez.val (zval ez.neg ez.ds)) := fun h => El.int hz hcz h
  have EX := Lib.hid hx
  have EY := Lib.hid hy
  have EZ := Lib.hid hz
  have JX := Lib.hid HIX
  have JY := Lib.hid HIY
  have JZ := Lib.hid HIZ
  have HTAB := Lib.hid htab
  clear htab
  clear hx hy hz hcx hcy hcz HIX HIY HIZ
  obtain ⟨nx, A, c, xs⟩ := ex
  obtain ⟨ny, B, d, ys⟩ := ey
  obtain ⟨nz, C, f, zs⟩ := ez
  simp only [El.val] at *
  have HT : Hid (Tri w w.heap.size nx A xs.length c ny B ys.length d nz C zs.length f (((w.alloc (.cells #[.bool nx, .slice A xs.length c] 24)).alloc (.cells #[.bool ny, .slice B ys.length d] 24)).alloc (.cells #[.bool nz, .slice C zs.length f] 24))) :=
    ⟨(((Below.refl _ _).alloc (Nat.le_refl _) _).alloc (by simp) _).alloc (by simp; omega) _, ((Box.new _ _ _ _ _).alloc _).alloc _, by have h := (Box.new (w.alloc (.cells #[.bool nx, .slice A xs.length c] 24)) ny B ys.length d).alloc (.cells #[.bool nz, .slice C zs.length f] 24); rwa [World.size_alloc] at h,
      by have h := Box.new ((w.alloc (.cells #[.bool nx, .slice A xs.length c] 24)).alloc (.cells #[.bool ny, .slice B ys.length d] 24)) nz C zs.length f; rwa [World.size_alloc, World.size_alloc] at h⟩
  go_enter Tryd.func5, Tryd.ntmps5
  go_wp2_with fail
  refine (speaks_any _).mono ?_
  rintro e w1 ⟨rfl, hb1⟩
  have T1 := Lib.hid (Tri.over hb1 HT.out)
  have A1 := T1.out.all.1
  have hels : Hid (ElsAt (w1.alloc (.cells #[.bool nx, .slice A xs.length c, .bool ny, .slice B ys.length d, .bool nz, .slice C zs.length f] 24)) w1.heap.size [⟨nx, A, c, xs⟩, ⟨ny, B, d, ys⟩, ⟨nz, C, f, zs⟩]) := by
    have hblk := Blk.new w1 24 #[.bool nx, .slice A xs.length c, .bool ny, .slice B ys.length d, .bool nz, .slice C zs.length f]
    intro i hi
    match i, hi with
    | 0, _ => exact ⟨hblk.cell 0, by rw [hblk.cell]; rfl⟩
    | 1, _ => exact ⟨hblk.cell 2, by rw [hblk.cell]; rfl⟩
    | 2, _ => exact ⟨hblk.cell 4, by rw [hblk.cell]; rfl⟩
  have hba1 : Hid (Below w1.heap.size w1 (w1.alloc (.cells #[.bool nx, .slice A xs.length c, .bool ny, .slice B ys.length d, .bool nz, .slice C zs.length f] 24))) := (Below.refl _ _).alloc (Nat.le_refl _) _
  have hoks : Hid (∀ e ∈ [(⟨nx, A, c, xs⟩ : El), ⟨ny, B, d, ys⟩, ⟨nz, C, f, zs⟩], e.Ok (w1.alloc (.cells #[.bool nx, .slice A xs.length c, .bool ny, .slice B ys.length d, .bool nz, .slice C zs.length f] 24))) := by
    intro e he
    have hb0 := T1.out.below.trans (hba1.out.mono T1.out.below.size)
    simp only [List.mem_cons, List.not_mem_nil, or_false] at he
    rcases he with rfl | rfl | rfl
    · exact EX.out.over hb0
    · exact EY.out.over hb0
    · exact EZ.out.over hb0
  go_wp2_with fail
  refine (odd_any w1.heap.size 3 _ _ rfl (by omega) (by simp) hels.out hoks.out).mono ?_
  rintro e w2 ⟨rfl, hb2⟩
  have T2 := Lib.hid (Tri.over hb2 (Tri.over hba1.out T1.out))
  have A2 := T2.out.all.1
  clear A1
  cases hodd : List.any [(⟨nx, A, c, xs⟩ : El), ⟨ny, B, d, ys⟩, ⟨nz, C, f, zs⟩] El.odd with
  | true =>
    go_wp2
    go_ret
    exact ⟨rfl, T2.out.below⟩
  | false =>
    have hall : El.odd ⟨nx, A, c, xs⟩ = false ∧ El.odd ⟨ny, B, d, ys⟩ = false ∧ El.odd ⟨nz, C, f, zs⟩ = false := by
      simpa [List.any_cons, Bool.or_eq_false_iff] using hodd
    have IX := Lib.hid (JX.out hall.1).out
    have IY := Lib.hid (JY.out hall.2.1).out
    have IZ := Lib.hid (JZ.out hall.2.2).out
    obtain ⟨a, ha⟩ : ∃ a, a = zval nx xs := ⟨_, rfl⟩
    obtain ⟨b, hb⟩ : ∃ b, b = zval ny ys := ⟨_, rfl⟩
    obtain ⟨cc, hcc⟩ : ∃ cc, cc = zval nz zs := ⟨_, rfl⟩
    rw [← ha] at IX
    rw [← hb] at IY
    rw [← hcc] at IZ
    have HYZ : Hid (zval ny ys = b) := hb.symm
    clear hodd hall ha hb hcc JX JY JZ hels hoks
    clear A2
    have A2 := T2.out.all.1
    go_wp2
    go_region_held3 (fun w' => (w'.cell? ⟨w.heap.size, 0, none⟩ = some (.bool nx) ∧ w'.cell? ⟨w.heap.size, 1, none⟩ = some (.slice A xs.length c) ∧ w'.cell? ⟨w.heap.size + 1, 0, none⟩ = some (.bool ny) ∧ w'.cell? ⟨w.heap.size + 1, 1, none⟩ = some (.slice B ys.length d) ∧ w'.cell? ⟨w.heap.size + 1 + 1, 0, none⟩ = some (.bool nz) ∧ w'.cell? ⟨w.heap.size + 1 + 1, 1, none⟩ = some (.slice C zs.length f)) ∧ Hid (Tri w w.heap.size nx A xs.length c ny B ys.length d nz C zs.length f w'))
      (first | (with_reducible exact T2.out.drew.all) | (with_reducible exact (Tri.over hb (Tri.get (by assumption))).all))
    (first
      | (go_at_call_of 17 A7; refine (add_any _ _ _ _ _ _ _ (by decide) (by decide) (hi7.out.over hb4.out) hi4.out).mono ?_; rintro e wb ⟨xb, Ab, nb, cb, rfl, hib, hb⟩; have hbb := hb)
      | (go_at_call_of 17 Ad; refine (add_any _ _ _ _ _ _ _ (by decide) (by decide) (hi5.out.over hbd.out) hid.out).mono ?_; rintro e we ⟨xe, Ae, ne, ce, rfl, hie, hb⟩; have hbe := hb)
      | (go_at_call_of 17 C; refine (add_any _ _ 10 10 b cc _ (by omega) (by omega) (IY.out.over (Tri.get (by assumption)).below) (IZ.out.over (Tri.get (by assumption)).below)).mono ?_; rintro e w9 ⟨x9, A9, n9, c9, rfl, hi9, hb⟩; have hb9 := hb)
      | (have hpre := hib; clear hpre; go_at_call_of 17 A; refine (add_any _ _ 10 10 a b _ (by omega) (by omega) (IX.out.over (Tri.get (by assumption)).below) (IY.out.over (Tri.get (by assumption)).below)).mono ?_; rintro e w5 ⟨x5, A5, n5, c5, rfl, hi5, hb⟩; have hb5 := hb)
      | (have hpre := hi5; clear hpre; go_at_call_of 17 A; refine (add_any _ _ 10 10 b a _ (by omega) (by omega) (IY.out.over (Tri.get (by assumption)).below) (IX.out.over (Tri.get (by assumption)).below)).mono ?_; rintro e w6 ⟨x6, A6, n6, c6, rfl, hi6, hb⟩; have hb6 := hb)
      | (go_at_call_of 17 A; refine (add_any _ _ 10 10 a b _ (by omega) (by omega) (IX.out.over (Tri.get (by assumption)).below) (IY.out.over (Tri.get (by assumption)).below)).mono ?_; rintro e w5 ⟨x5, A5, n5, c5, rfl, hi5, hb⟩; have hb5 := hb)
      | (go_at_call_of 20 A9; refine (mul_any _ _ 10 _ a _ _ (by omega) (by decide) (IX.out.over (Tri.get (by assumption)).below) hi9.out).mono ?_; rintro e wa ⟨xa, Aa, na, ca, rfl, hia, hb⟩; have hba := hb)
      | (go_at_call_of 20 C; refine (mul_any _ _ 10 10 a cc _ (by omega) (by omega) (IX.out.over (Tri.get (by assumption)).below) (IZ.out.over (Tri.get (by assumption)).below)).mono ?_; rintro e w4 ⟨x4, A4, n4, c4, rfl, hi4, hb⟩; have hb4 := hb)
      | (have hpre := hi9; clear hpre; go_at_call_of 20 A; refine (mul_any _ _ 10 10 a b _ (by omega) (by omega) (IX.out.over (Tri.get (by assumption)).below) (IY.out.over (Tri.get (by assumption)).below)).mono ?_; rintro e w7 ⟨x7, A7, n7, c7, rfl, hi7, hb⟩; have hb7 := hb)
      | (have hpre := hi7; clear hpre; go_at_call_of 20 A; refine (mul_any _ _ 10 10 b a _ (by omega) (by omega) (IY.out.over (Tri.get (by assumption)).below) (IX.out.over (Tri.get (by assumption)).below)).mono ?_; rintro e w8 ⟨x8, A8, n8, c8, rfl, hi8, hb⟩; have hb8 := hb)
      | (go_at_call_of 20 A; refine (mul_any _ _ 10 10 a b _ (by omega) (by omega) (IX.out.over (Tri.get (by assumption)).below) (IY.out.over (Tri.get (by assumption)).below)).mono ?_; rintro e w7 ⟨x7, A7, n7, c7, rfl, hi7, hb⟩; have hb7 := hb)
      | (go_at_call_of 22 B; refine (neg_any _ 10 b _ (by omega) (IY.out.over (Tri.get (by assumption)).below)).mono ?_; rintro e wd ⟨xd, Ad, nd, cd, rfl, hid, hb⟩; have hbd := hb)
      | (go_at_call_of 16 Ae; refine (same_yes (by decide) hie.out (IX.out.over (Tri.get (by assumption)).below) (by omega)).mono ?_; rintro e ws ⟨rfl, hb⟩)
      | (go_at_call_of 16 Aa; refine (same_yes (by decide) (((hia.out.over hb7.out).over hb4.out).over hbb.out) hib.out (Int.mul_add _ _ _)).mono ?_; rintro e ws ⟨rfl, hb⟩)
      | (go_at_call_of 16 A7; refine (same_yes (by decide) (hi7.out.over hb8.out) hi8.out (Int.mul_comm _ _)).mono ?_; rintro e ws ⟨rfl, hb⟩)
      | (go_at_call_of 16 A5; refine (same_yes (by decide) (hi5.out.over hb6.out) hi6.out (Int.add_comm _ _)).mono ?_; rintro e ws ⟨rfl, hb⟩))
    have T3 := Lib.hid (Tri.get (by assumption))
    clear A2
    have A3 := T3.out.all.1
    go_wp2_with fail
    refine (text_all (m := 10) (by omega) (IX.out.over T3.out.below) (HTAB.out.below T3.out.below)).mono ?_
    rintro e wt ⟨tn, tds, ⟨rfl, hbt⟩, htR, htz, htl⟩
    have T4 := Lib.hid (Tri.over hbt T3.out)
    go_wp2_with fail
    refine (parse_text htR.out (by omega) wt).mono ?_
    rintro e wp ⟨pn, P, pl, pc, rfl, hip, hbp⟩
    have T5 := Lib.hid (Tri.over hbp T4.out)
    have hap : Hid (Below wp.heap.size wp (wp.alloc (.cells #[.bool pn, .slice P pl pc] 24))) := (Below.refl _ _).alloc (Nat.le_refl _) _
    have T6 := Lib.hid (Tri.over hap T5.out)
    clear A3
    have A6 := T6.out.all.1
    have A5 := T5.out.all.1
    have IP : Hid (IsInt (wp.alloc (.cells #[.bool pn, .slice P pl pc] 24)) (wp.alloc (.cells #[.bool pn, .slice P pl pc] 24)).heap.size 120 (.agg #[.bool pn, .slice P pl pc]) a) := by
      have h := hip.out.over hap.out
      rw [htz.out] at h
      exact h
    clear T4 T3 hbt hbp hap htR htz htl hip
    go_wp2_with fail
    refine (same_yes (by decide) IP.out (IX.out.over T6.out.below) rfl).mono ?_
    rintro e wq ⟨rfl, hbq⟩
    have T7 := Lib.hid (Tri.over hbq T6.out)
    clear A6 A5 T6 T5 IP hbq
    have A7 := T7.out.all.1
    by_cases hm0 : ys.length = 0
    · have hm1 : ((ys.length : Int) == 0) = true := by rw [beq_iff_eq]; omega
      go_wp2
      go_ret
      exact ⟨rfl, T7.out.below⟩
    · have hm1 : ((ys.length : Int) == 0) = false := by rw [beq_eq_false_iff_ne]; omega
      have HB0 : Hid (b ≠ 0) := by
        intro h0
        have := int_none IY.out h0
        omega
      go_wp2_with fail
      refine (div_all _ _ 10 10 a b _ (by omega) (by omega) (IX.out.over T7.out.below) (IY.out.over T7.out.below)).mono ?_
      rintro e wd ⟨xq, Aq, nq, cq, xr, Ar, nr, cr, rfl, hq, hr, hbd⟩
      have T8 := Lib.hid (Tri.over hbd T7.out)
      clear A7 T7 hbd
      have D1 : Hid (Below wd.heap.size wd ((wd.alloc (.cells #[.bool xq, .slice Aq nq cq] 24)).alloc (.cells #[.bool xr, .slice Ar nr cr] 24))) := ((Below.refl _ _).alloc (Nat.le_refl _) _).alloc (by simp) _
      have T9 := Lib.hid (Tri.over D1 T8.out)
      have BQ : Hid (Box ((wd.alloc (.cells #[.bool xq, .slice Aq nq cq] 24)).alloc (.cells #[.bool xr, .slice Ar nr cr] 24)) wd.heap.size xq Aq nq cq) := (Box.new _ _ _ _ _).alloc _
      have BR : Hid (Box ((wd.alloc (.cells #[.bool xq, .slice Aq nq cq] 24)).alloc (.cells #[.bool xr, .slice Ar nr cr] 24)) (wd.heap.size + 1) xr Ar nr cr) := by
        have h := Box.new (wd.alloc (.cells #[.bool xq, .slice Aq nq cq] 24)) xr Ar nr cr
        rwa [World.size_alloc] at h
      have A8 := T8.out.all.1
      have A9 := T9.out.all.1
      go_wp2_with fail
      refine (gcd_any _ _ 10 10 10 a b _ (by omega) (by omega) (by omega) (IX.out.over T9.out.below) (IY.out.over T9.out.below)).mono ?_
      rintro e wg ⟨xg, Ag, ng, cg, rfl, hg, hbg⟩
      have HQR := Lib.hid (quo_rem (a := a) HB0.out)
      obtain rfl := int_sign hr.out HQR.out.2.1
      have hag : Hid (Below wg.heap.size wg (wg.alloc (.cells #[.bool xg, .slice Ag ng cg] 24))) := (Below.refl _ _).alloc (Nat.le_refl _) _
      have T11 := Lib.hid (Tri.over hag (Tri.over hbg T9.out))
      have T10 := Lib.hid (Tri.over hbg T9.out)
      have DG : Hid (Below wd.heap.size wd (wg.alloc (.cells #[.bool xg, .slice Ag ng cg] 24))) := (D1.out.trans (hbg.out.mono D1.out.size)).trans (hag.out.mono (by have := D1.out.size; have := hbg.out.size; omega))
      have BQ2 := Lib.hid ((BQ.out.over hbg.out).over hag.out)
      have BR2 := Lib.hid ((BR.out.over hbg.out).over hag.out)
      have BG : Hid (Box (wg.alloc (.cells #[.bool xg, .slice Ag ng cg] 24)) wg.heap.size xg Ag ng cg) := Box.new _ _ _ _ _
      have IG := Lib.hid (hg.out.over hag.out)
      clear A8 A9 T8 T9 BQ BR D1 hbg hag hg
      have A10 := T10.out.all.1
      have A11 := T11.out.all.1
      have G0 := BG.out.c0
      have G1 := BG.out.c1
      go_wp2_with fail
      refine (div_all _ _ 10 13 a _ _ (by omega) (by omega) (IX.out.over T11.out.below) IG.out).mono ?_
      rintro e we ⟨x4, A4, n4, c4, x5, A5, n5, c5, rfl, _, h5, hbe⟩
      obtain rfl := int_none h5.out (rem_gcd (Nat.gcd_dvd_left _ _))
      clear A10 A11 G0 G1 T10 h5
      have hae : Hid (Below we.heap.size we ((we.alloc (.cells #[.bool x4, .slice A4 n4 c4] 24)).alloc (.cells #[.bool x5, .slice A5 0 c5] 24))) := ((Below.refl _ _).alloc (Nat.le_refl _) _).alloc (by simp) _
      have T12 := Lib.hid (Tri.over hbe T11.out)
      have T13 := Lib.hid (Tri.over hae T12.out)
      have hbe2 : Hid (Below (wg.alloc (.cells #[.bool xg, .slice Ag ng cg] 24)).heap.size (wg.alloc (.cells #[.bool xg, .slice Ag ng cg] 24)) ((we.alloc (.cells #[.bool x4, .slice A4 n4 c4] 24)).alloc (.cells #[.bool x5, .slice A5 0 c5] 24))) := hbe.out.trans (hae.out.mono hbe.out.size)
      have DE : Hid (Below wd.heap.size wd ((we.alloc (.cells #[.bool x4, .slice A4 n4 c4] 24)).alloc (.cells #[.bool x5, .slice A5 0 c5] 24))) := DG.out.trans (hbe2.out.mono DG.out.size)
      have BQ3 := Lib.hid (BQ2.out.over hbe2.out)
      have BR3 := Lib.hid (BR2.out.over hbe2.out)
      have BG3 := Lib.hid (BG.out.over hbe2.out)
      have IG3 := Lib.hid (IG.out.over hbe2.out)
      have B5 : Hid (Box ((we.alloc (.cells #[.bool x4, .slice A4 n4 c4] 24)).alloc (.cells #[.bool x5, .slice A5 0 c5] 24)) (we.heap.size + 1) x5 A5 0 c5) := by
        have h := Box.new (we.alloc (.cells #[.bool x4, .slice A4 n4 c4] 24)) x5 A5 0 c5
        rwa [World.size_alloc] at h
      clear BQ2 BR2 BG IG DG T11 hbe hae hbe2
      have A12 := T12.out.all.1
      have A13 := T13.out.all.1
      have G0 := BG3.out.c0
      have G1 := BG3.out.c1
      go_wp2_with fail
      refine (div_all _ _ 10 13 b _ _ (by omega) (by omega) (IY.out.over T13.out.below) IG3.out).mono ?_
      rintro e wf ⟨x6, A6, n6, c6, x7, A7, n7, c7, rfl, _, h7, hbf⟩
      obtain rfl := int_none h7.out (rem_gcd (Nat.gcd_dvd_right _ _))
      clear A12 A13 G0 G1 T12 h7
      have haf : Hid (Below wf.heap.size wf ((wf.alloc (.cells #[.bool x6, .slice A6 n6 c6] 24)).alloc (.cells #[.bool x7, .slice A7 0 c7] 24))) := ((Below.refl _ _).alloc (Nat.le_refl _) _).alloc (by simp) _
      have T14 := Lib.hid (Tri.over hbf T13.out)
      have T15 := Lib.hid (Tri.over haf T14.out)
      have hbf2 : Hid (Below ((we.alloc (.cells #[.bool x4, .slice A4 n4 c4] 24)).alloc (.cells #[.bool x5, .slice A5 0 c5] 24)).heap.size ((we.alloc (.cells #[.bool x4, .slice A4 n4 c4] 24)).alloc (.cells #[.bool x5, .slice A5 0 c5] 24)) ((wf.alloc (.cells #[.bool x6, .slice A6 n6 c6] 24)).alloc (.cells #[.bool x7, .slice A7 0 c7] 24))) := hbf.out.trans (haf.out.mono hbf.out.size)
      have DF : Hid (Below wd.heap.size wd ((wf.alloc (.cells #[.bool x6, .slice A6 n6 c6] 24)).alloc (.cells #[.bool x7, .slice A7 0 c7] 24))) := DE.out.trans (hbf2.out.mono DE.out.size)
      have BQ4 := Lib.hid (BQ3.out.over hbf2.out)
      have BR4 := Lib.hid (BR3.out.over hbf2.out)
      have B54 := Lib.hid (B5.out.over hbf2.out)
      have B74 : Hid (Box ((wf.alloc (.cells #[.bool x6, .slice A6 n6 c6] 24)).alloc (.cells #[.bool x7, .slice A7 0 c7] 24)) (wf.heap.size + 1) x7 A7 0 c7) := by
        have h := Box.new (wf.alloc (.cells #[.bool x6, .slice A6 n6 c6] 24)) x7 A7 0 c7
        rwa [World.size_alloc] at h
      have FS : Hid (wf.heap.size + 1 + 1 = ((wf.alloc (.cells #[.bool x6, .slice A6 n6 c6] 24)).alloc (.cells #[.bool x7, .slice A7 0 c7] 24)).heap.size) := by show _ = _; rw [World.size_alloc, World.size_alloc]
      have HS : Hid (Sept w (((wf.alloc (.cells #[.bool x6, .slice A6 n6 c6] 24)).alloc (.cells #[.bool x7, .slice A7 0 c7] 24)).alloc (.cells #[.bool false, .slice B ys.length d] 24)) w.heap.size nx A xs.length c (w.heap.size + 1) ny B ys.length d wd.heap.size xq Aq nq cq (wd.heap.size + 1) false Ar nr cr (we.heap.size + 1) x5 A5 0 c5 (wf.heap.size + 1) x7 A7 0 c7 (wf.heap.size + 1 + 1) false B ys.length d (((wf.alloc (.cells #[.bool x6, .slice A6 n6 c6] 24)).alloc (.cells #[.bool x7, .slice A7 0 c7] 24)).alloc (.cells #[.bool false, .slice B ys.length d] 24))) :=
        ⟨T15.out.below.alloc T15.out.below.size _, Below.refl _ _, T15.out.one.alloc _, T15.out.two.alloc _, BQ4.out.alloc _, BR4.out.alloc _, B54.out.alloc _, B74.out.alloc _, box_size FS.out⟩
      have DW : Hid (Below wd.heap.size wd (((wf.alloc (.cells #[.bool x6, .slice A6 n6 c6] 24)).alloc (.cells #[.bool x7, .slice A7 0 c7] 24)).alloc (.cells #[.bool false, .slice B ys.length d] 24))) := DF.out.alloc DF.out.size _
      have IQ := Lib.hid (hq.out.over DW.out)
      have IR := Lib.hid (hr.out.over DW.out)
      have ISZ := Lib.hid (int_abs (IY.out.over HS.out.below))
      clear BQ3 BR3 BG3 IG3 DE T13 hbf haf hbf2 BQ4 BR4 B54 B74 B5 DF
      have A14 := T14.out.all.1
      have A15 := T15.out.all.1
      have AS := HS.out.all.1
      go_wp2
      go_region_held3 (fun w' => (w'.cell? ⟨w.heap.size, 0, none⟩ = some (.bool nx) ∧ w'.cell? ⟨w.heap.size, 1, none⟩ = some (.slice A xs.length c) ∧ w'.cell? ⟨(w.heap.size + 1), 0, none⟩ = some (.bool ny) ∧ w'.cell? ⟨(w.heap.size + 1), 1, none⟩ = some (.slice B ys.length d) ∧ w'.cell? ⟨wd.heap.size, 0, none⟩ = some (.bool xq) ∧ w'.cell? ⟨wd.heap.size, 1, none⟩ = some (.slice Aq nq cq) ∧ w'.cell? ⟨(wd.heap.size + 1), 0, none⟩ = some (.bool false) ∧ w'.cell? ⟨(wd.heap.size + 1), 1, none⟩ = some (.slice Ar nr cr) ∧ w'.cell? ⟨(we.heap.size + 1), 0, none⟩ = some (.bool x5) ∧ w'.cell? ⟨(we.heap.size + 1), 1, none⟩ = some (.slice A5 0 c5) ∧ w'.cell? ⟨(wf.heap.size + 1), 0, none⟩ = some (.bool x7) ∧ w'.cell? ⟨(wf.heap.size + 1), 1, none⟩ = some (.slice A7 0 c7) ∧ w'.cell? ⟨(wf.heap.size + 1 + 1), 0, none⟩ = some (.bool false) ∧ w'.cell? ⟨(wf.heap.size + 1 + 1), 1, none⟩ = some (.slice B ys.length d)) ∧ Hid (Sept w (((wf.alloc (.cells #[.bool x6, .slice A6 n6 c6] 24)).alloc (.cells #[.bool x7, .slice A7 0 c7] 24)).alloc (.cells #[.bool false, .slice B ys.length d] 24)) w.heap.size nx A xs.length c (w.heap.size + 1) ny B ys.length d wd.heap.size xq Aq nq cq (wd.heap.size + 1) false Ar nr cr (we.heap.size + 1) x5 A5 0 c5 (wf.heap.size + 1) x7 A7 0 c7 (wf.heap.size + 1 + 1) false B ys.length d w'))
        (first | (with_reducible exact HS.out.drew.all) | (with_reducible exact (Sept.over hb (Sept.get (by assumption))).all))
      (first
        | (go_at_call_of 20 Aq; refine (mul_any _ _ _ 10 _ b _ (by decide) (by omega) (IQ.out.over (Sept.get (by assumption)).here) (IY.out.over (Sept.get (by assumption)).below)).mono ?_; rintro e wm ⟨xm, Am, nm, cm, rfl, him, hb⟩)
        | (go_at_call_of 17 Am; refine (add_any _ _ _ 10 _ _ _ (by decide) (by omega) him.out (IR.out.over (Sept.get (by assumption)).here)).mono ?_; rintro e wn ⟨xn, An, nn, cn, rfl, hin, hb⟩)
        | (go_at_call_of 16 An; refine (same_yes (by decide) hin.out (IX.out.over (Sept.get (by assumption)).below) HQR.out.1).mono ?_; rintro e wo ⟨rfl, hb⟩)
        | (go_at_call_of 26 Ar; refine (cmp_less (p := 10) (q := 10) (by omega) (by omega) (IR.out.over (Sept.get (by assumption)).here) (ISZ.out.over (Sept.get (by assumption)).here) HQR.out.2.2).mono ?_; rintro e wr ⟨rfl, hb⟩))
      have TS := Lib.hid (Sept.get (by assumption)).below
      go_wp2
      go_ret
      exact ⟨rfl, TS.out⟩
end Go.Proofs.YtpikbhcjgcbdfaaDoor.wh
