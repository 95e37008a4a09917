/- The statement WholeOrder: the walk of its function. -/
import Derived.Test.YtpikbhcjgcbdfaaDoorWhD
namespace Go.Proofs.YtpikbhcjgcbdfaaDoor.wh
open Go.RowKit

/-- three variables that are known -/
structure Tri (w : World) (g : Nat) (x : Bool) (a : Option Addr) (n c : Nat) (y : Bool) (b : Option Addr) (m d : Nat) (z : Bool) (e : Option Addr) (k f : Nat) (w' : World) : Prop where
  below : Below w.heap.size w w'
  one : Box w' g x a n c
  two : Box w' (g + 1) y b m d
  tri : Box w' (g + 2) z e k f
section
variable {w w' w1 : World} {g n m k c d f : Nat} {x y z : Bool} {a b e : Option Addr}
theorem Tri.all (h : Tri w g x a n c y b m d z e k f w') : (w'.cell? ⟨g, 0, none⟩ = some (.bool x) ∧ w'.cell? ⟨g, 1, none⟩ = some (.slice a n c) ∧ w'.cell? ⟨g + 1, 0, none⟩ = some (.bool y) ∧ w'.cell? ⟨g + 1, 1, none⟩ = some (.slice b m d) ∧ w'.cell? ⟨g + 1 + 1, 0, none⟩ = some (.bool z) ∧ w'.cell? ⟨g + 1 + 1, 1, none⟩ = some (.slice e k f)) ∧
    Hid (Tri w g x a n c y b m d z e k f w') :=
  ⟨⟨h.one.c0, h.one.c1, h.two.c0, h.two.c1, h.tri.c0, h.tri.c1⟩, h⟩
theorem Tri.get {P : Prop} (h : P ∧ Hid (Tri w g x a n c y b m d z e k f w')) : Tri w g x a n c y b m d z e k f w' := h.2
theorem Tri.over (hb : Hid (Below w'.heap.size w' w1)) (h : Tri w g x a n c y b m d z e k f w') : Tri w g x a n c y b m d z e k f w1 :=
  ⟨h.below.trans (hb.out.mono h.below.size), h.one.over hb.out, h.two.over hb.out, h.tri.over hb.out⟩
theorem Tri.drew (h : Tri w g x a n c y b m d z e k f w') : Tri w g x a n c y b m d z e k f w'.drew := ⟨h.below.drew, h.one.drew, h.two.drew, h.tri.drew⟩
end
theorem IsInt.over {w w' : World} {m : Nat} {v : Value} {z : Int} (h : IsInt w w.heap.size m v z) (hb : Below w.heap.size w w') : IsInt w' w'.heap.size m v z := (h.below hb).more hb.size (Nat.le_refl _)
theorem cmp_hid {v u : Value} {p q : Nat} {a b : Int} {w : World} (hp : p ≤ 1000) (hq : q ≤ 1000) (hx : IsInt w w.heap.size p v a) (hy : IsInt w w.heap.size q u b) :
    Calls Tryd.prog 26 #[v, u] w fun e w' => e = .returned (.int .i64 (cmpZ a b)) ∧ Hid (Below w.heap.size w w') := cmp_any v u p q a b w hp hq hx hy

theorem cmpZ_add (a b c : Int) : cmpZ (a + c) (b + c) = cmpZ a b := by
  unfold cmpZ
  repeat' split
  all_goals first | rfl | omega
theorem cmpZ_swap (a b : Int) : cmpZ b a = -cmpZ a b := by
  unfold cmpZ
  repeat' split
  all_goals first | rfl | omega
theorem cmpZ_range (a b : Int) : -1 ≤ cmpZ a b ∧ cmpZ a b ≤ 1 := by
  unfold cmpZ
  repeat' split
  all_goals omega
theorem cmpZ_mul (a b c : Int) : cmpZ (a * c) (b * c) = cmpZ a b * cmpZ c 0 := by
  have key : ∀ x y : Int, x < y → 0 < c → x * c < y * c := fun x y h hc => Int.mul_lt_mul_of_pos_right h hc
  have key2 : ∀ x y : Int, x < y → c < 0 → y * c < x * c := fun x y h hc => Int.mul_lt_mul_of_neg_right h hc
  rcases Int.lt_trichotomy c 0 with hc | hc | hc
  · have e : cmpZ c 0 = -1 := by unfold cmpZ; rw [if_pos hc]
    rw [e]
    rcases Int.lt_trichotomy a b with h | h | h
    · have := key2 a b h hc
      unfold cmpZ
      rw [if_neg (by omega), if_pos this, if_pos h]
      rfl
    · subst h
      simp [cmpZ]
    · have := key2 b a h hc
      unfold cmpZ
      rw [if_pos this, if_neg (by omega), if_pos h]
      rfl
  · subst hc
    simp [cmpZ]
  · have e : cmpZ c 0 = 1 := by unfold cmpZ; rw [if_neg (by omega), if_pos hc]
    rw [e]
    rcases Int.lt_trichotomy a b with h | h | h
    · have := key a b h hc
      unfold cmpZ
      rw [if_pos this, if_pos h]
      rfl
    · subst h
      simp [cmpZ]
    · have := key b a h hc
      unfold cmpZ
      rw [if_neg (by omega), if_pos this, if_neg (by omega), if_pos h]
      rfl

/-- an integer that came in, right and short -/
theorem El.int {e : El} {w : World} (hok : e.Ok w) (hcap : e.ds.length ≤ e.c) (h : e.odd = false) : IsInt w w.heap.size 10 e.val (zval e.neg e.ds) := by
  unfold El.odd at h
  rw [Bool.or_eq_false_iff] at h
  have h1 := of_decide_eq_false h.1
  have h2 : rightB e.neg e.ds = true := by simpa using h.2
  exact ⟨e.neg, e.A, e.ds.length, e.c, e.ds, rfl, rfl, hok.2, by omega, hcap, h2, rfl⟩

set_option maxRecDepth 100000 in
set_option maxHeartbeats 4000000 in
theorem order_any (ex ey ez : El) (q : Int) (w : World) (hx : ex.Ok w) (hy : ey.Ok w) (hz : ez.Ok w) (hcx : ex.ds.length ≤ ex.c) (hcy : ey.ds.length ≤ ey.c) (hcz : ez.ds.length ≤ ez.c) (hq1 : -9223372036854775808 ≤ q) (hq2 : q ≤ 9223372036854775807) :
    Calls Tryd.prog 6 #[ex.val, ey.val, ez.val, .int .i64 q] w fun e w' => e = .returned (.bool true) ∧ Below w.heap.size w w' := by
  have HIX : ex.odd = false → Hid (IsInt w w.heap.size 10 ex.val (zval ex.neg ex.ds)) := fun h => El.int hx hcx h
  have HIY : ey.odd = false → Hid (IsInt w w.heap.size 10 ey.val (zval ey.neg ey.ds)) := fun h => El.int hy hcy h
  have HIZ : ez.odd = false → Hid (IsInt w w.heap.size 10 ez.val (zval ez.neg ez.ds)) := fun h => El.int hz hcz h
  have EX := Lib.hid hx
  have EY := Lib.hid hy
  have EZ := Lib.hid hz
  have JX := Lib.hid HIX
  have JY := Lib.hid HIY
  have JZ := Lib.hid HIZ
  have HQ : Hid (-9223372036854775808 ≤ q ∧ q ≤ 9223372036854775807) := ⟨hq1, hq2⟩
  clear hx hy hz hcx hcy hcz HIX HIY HIZ hq1 hq2
  obtain ⟨nx, A, c, xs⟩ := ex
  obtain ⟨ny, B, d, ys⟩ := ey
  obtain ⟨nz, C, f, zs⟩ := ez
  simp only [El.val] at *
  have HT : Hid (Tri w w.heap.size nx A xs.length c ny B ys.length d nz C zs.length f (((w.alloc (.cells #[.bool nx, .slice A xs.length c] 24)).alloc (.cells #[.bool ny, .slice B ys.length d] 24)).alloc (.cells #[.bool nz, .slice C zs.length f] 24))) :=
    ⟨(((Below.refl _ _).alloc (Nat.le_refl _) _).alloc (by simp) _).alloc (by simp; omega) _, ((Box.new _ _ _ _ _).alloc _).alloc _, by have h := (Box.new (w.alloc (.cells #[.bool nx, .slice A xs.length c] 24)) ny B ys.length d).alloc (.cells #[.bool nz, .slice C zs.length f] 24); rwa [World.size_alloc] at h,
      by have h := Box.new ((w.alloc (.cells #[.bool nx, .slice A xs.length c] 24)).alloc (.cells #[.bool ny, .slice B ys.length d] 24)) nz C zs.length f; rwa [World.size_alloc, World.size_alloc] at h⟩
  go_enter Tryd.func6, Tryd.ntmps6
  go_wp2_with fail
  refine (speaks_any _).mono ?_
  rintro e w1 ⟨rfl, hb1⟩
  have T1 := Lib.hid (Tri.over hb1 HT.out)
  have A1 := T1.out.all.1
  have hels : Hid (ElsAt (w1.alloc (.cells #[.bool nx, .slice A xs.length c, .bool ny, .slice B ys.length d, .bool nz, .slice C zs.length f] 24)) w1.heap.size [⟨nx, A, c, xs⟩, ⟨ny, B, d, ys⟩, ⟨nz, C, f, zs⟩]) := by
    have hblk := Blk.new w1 24 #[.bool nx, .slice A xs.length c, .bool ny, .slice B ys.length d, .bool nz, .slice C zs.length f]
    intro i hi
    match i, hi with
    | 0, _ => exact ⟨hblk.cell 0, by rw [hblk.cell]; rfl⟩
    | 1, _ => exact ⟨hblk.cell 2, by rw [hblk.cell]; rfl⟩
    | 2, _ => exact ⟨hblk.cell 4, by rw [hblk.cell]; rfl⟩
  have hba1 : Hid (Below w1.heap.size w1 (w1.alloc (.cells #[.bool nx, .slice A xs.length c, .bool ny, .slice B ys.length d, .bool nz, .slice C zs.length f] 24))) := (Below.refl _ _).alloc (Nat.le_refl _) _
  have hoks : Hid (∀ e ∈ [(⟨nx, A, c, xs⟩ : El), ⟨ny, B, d, ys⟩, ⟨nz, C, f, zs⟩], e.Ok (w1.alloc (.cells #[.bool nx, .slice A xs.length c, .bool ny, .slice B ys.length d, .bool nz, .slice C zs.length f] 24))) := by
    intro e he
    have hb0 := T1.out.below.trans (hba1.out.mono T1.out.below.size)
    simp only [List.mem_cons, List.not_mem_nil, or_false] at he
    rcases he with rfl | rfl | rfl
    · exact EX.out.over hb0
    · exact EY.out.over hb0
    · exact EZ.out.over hb0
  go_wp2_with fail
  refine (odd_any w1.heap.size 3 _ _ rfl (by omega) (by simp) hels.out hoks.out).mono ?_
  rintro e w2 ⟨rfl, hb2⟩
  have T2 := Lib.hid (Tri.over hb2 (Tri.over hba1.out T1.out))
  have A2 := T2.out.all.1
  clear A1
  cases hodd : List.any [(⟨nx, A, c, xs⟩ : El), ⟨ny, B, d, ys⟩, ⟨nz, C, f, zs⟩] El.odd with
  | true =>
    go_wp2
    go_ret
    exact ⟨rfl, T2.out.below⟩
  | false =>
    have hall : El.odd ⟨nx, A, c, xs⟩ = false ∧ El.odd ⟨ny, B, d, ys⟩ = false ∧ El.odd ⟨nz, C, f, zs⟩ = false := by
      simpa [List.any_cons, Bool.or_eq_false_iff] using hodd
    have IX := Lib.hid (JX.out hall.1).out
    have IY := Lib.hid (JY.out hall.2.1).out
    have IZ := Lib.hid (JZ.out hall.2.2).out
    obtain ⟨a, ha⟩ : ∃ a, a = zval nx xs := ⟨_, rfl⟩
    obtain ⟨b, hb⟩ : ∃ b, b = zval ny ys := ⟨_, rfl⟩
    obtain ⟨cc, hcc⟩ : ∃ cc, cc = zval nz zs := ⟨_, rfl⟩
    rw [← ha] at IX
    rw [← hb] at IY
    rw [← hcc] at IZ
    clear hodd hall ha hb hcc JX JY JZ hels hoks
    go_wp2_with fail
    refine (cmp_hid (p := 10) (q := 10) (by omega) (by omega) (IX.out.over T2.out.below) (IY.out.over T2.out.below)).mono ?_
    rintro e w3 ⟨rfl, hb3⟩
    have T3 := Lib.hid (Tri.over hb3 T2.out)
    obtain ⟨z1, hz1⟩ : ∃ z1, cmpZ a b = z1 := ⟨_, rfl⟩
    obtain ⟨z2, hz2⟩ : ∃ z2, cmpZ cc 0 = z2 := ⟨_, rfl⟩
    have e1 : cmpZ (a + cc) (b + cc) = z1 := by rw [cmpZ_add, hz1]
    have e2 : cmpZ b a = -z1 := by rw [cmpZ_swap, hz1]
    obtain ⟨z3, hz3⟩ : ∃ z3, z1 * z2 = z3 := ⟨_, rfl⟩
    have e3 : cmpZ (a * cc) (b * cc) = z3 := by rw [cmpZ_mul, hz1, hz2, hz3]
    have r1 : -1 ≤ z1 ∧ z1 ≤ 1 := by rw [← hz1]; exact cmpZ_range a b
    have r3 : -1 ≤ z3 ∧ z3 ≤ 1 := by rw [← e3]; exact cmpZ_range _ _
    have i1 : IntKind.i64.wrap z1 = z1 := IntWalk.i64_in _ (by omega)
    have i3 : IntKind.i64.wrap z3 = z3 := IntWalk.i64_in _ (by omega)
    clear A2 r1 r3
    go_wp2
    go_region_held3 (fun w' => (w'.cell? ⟨w.heap.size, 0, none⟩ = some (.bool nx) ∧ w'.cell? ⟨w.heap.size, 1, none⟩ = some (.slice A xs.length c) ∧ w'.cell? ⟨w.heap.size + 1, 0, none⟩ = some (.bool ny) ∧ w'.cell? ⟨w.heap.size + 1, 1, none⟩ = some (.slice B ys.length d) ∧ w'.cell? ⟨w.heap.size + 1 + 1, 0, none⟩ = some (.bool nz) ∧ w'.cell? ⟨w.heap.size + 1 + 1, 1, none⟩ = some (.slice C zs.length f)) ∧ Hid (Tri w w.heap.size nx A xs.length c ny B ys.length d nz C zs.length f w'))
      (first | (with_reducible exact T3.out.drew.all) | (with_reducible exact (Tri.over hb (Tri.get (by assumption))).all))
    (first
      | (go_at_call_of 17 A; refine (add_any _ _ 10 10 a cc _ (by omega) (by omega) (IX.out.over (Tri.get (by assumption)).below) (IZ.out.over (Tri.get (by assumption)).below)).mono ?_; rintro e w5 ⟨x5, A5, n5, c5, rfl, hi5, hb⟩; have hb5 := hb)
      | (go_at_call_of 17 B; refine (add_any _ _ 10 10 b cc _ (by omega) (by omega) (IY.out.over (Tri.get (by assumption)).below) (IZ.out.over (Tri.get (by assumption)).below)).mono ?_; rintro e w6 ⟨x6, A6, n6, c6, rfl, hi6, hb⟩; have hb6 := hb)
      | (go_at_call_of 26 A5; refine (cmp_hid (by omega) (by omega) (hi5.out.over hb6.out) hi6.out).mono ?_; rintro e w7 ⟨rfl, hb⟩)
      | (go_at_call_of 26 B; refine (cmp_hid (p := 10) (q := 10) (by omega) (by omega) (IY.out.over (Tri.get (by assumption)).below) (IX.out.over (Tri.get (by assumption)).below)).mono ?_; rintro e w8 ⟨rfl, hb⟩)
      | (go_at_call_of 20 A; refine (mul_any _ _ 10 10 a cc _ (by omega) (by omega) (IX.out.over (Tri.get (by assumption)).below) (IZ.out.over (Tri.get (by assumption)).below)).mono ?_; rintro e w9 ⟨x9, A9, n9, c9, rfl, hi9, hb⟩; have hb9 := hb)
      | (go_at_call_of 20 B; refine (mul_any _ _ 10 10 b cc _ (by omega) (by omega) (IY.out.over (Tri.get (by assumption)).below) (IZ.out.over (Tri.get (by assumption)).below)).mono ?_; rintro e wa ⟨xa, Aa, na, ca, rfl, hia, hb⟩; have hba := hb)
      | (go_at_call_of 26 A9; refine (cmp_hid (by omega) (by omega) (hi9.out.over hba.out) hia.out).mono ?_; rintro e wb ⟨rfl, hb⟩)
      | (go_at_call_of 26 C; refine (cmp_hid (p := 10) (q := 10) (by omega) (by omega) (IZ.out.over (Tri.get (by assumption)).below) (isInt_zero _ _ _)).mono ?_; rintro e wc ⟨rfl, hb⟩))
    have T4 := Lib.hid (Tri.get (by assumption))
    go_wp2_with fail
    refine (of_any q _ HQ.out.1 HQ.out.2).mono ?_
    rintro e wd ⟨vd, rfl, hid, hbd⟩
    go_wp2_with fail
    refine (small_any vd 3 q wd (by unfold maxLen; omega) hid).mono ?_
    rintro e wf ⟨rfl, hbf⟩
    have HBF : Hid (Below w.heap.size w wf) := T4.out.below.trans ((hbd.mono T4.out.below.size).trans (hbf.mono (by have := T4.out.below.size; have := hbd.size; omega)))
    cases hs : isSmall q with
    | true =>
      have hv : smallZ q = q := by
        have h : -4611686018427387904 ≤ q ∧ q ≤ 4611686018427387904 := of_decide_eq_true hs
        exact (small_yes h).1
      have HS := Lib.hid hs
      clear hs
      go_wp2
      go_ret
      exact ⟨rfl, HBF.out⟩
    | false =>
      have HS := Lib.hid hs
      clear hs
      go_wp2
      go_ret
      exact ⟨rfl, HBF.out⟩
end Go.Proofs.YtpikbhcjgcbdfaaDoor.wh
