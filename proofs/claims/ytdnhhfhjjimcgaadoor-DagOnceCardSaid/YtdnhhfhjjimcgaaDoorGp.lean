/- Package dag: rows that are alike; a term is sought in its bucket. -/
import Derived.StillTailTactics
import Derived.Test.YtdnhhfhjjimcgaaDoorGj
import Derived.Test.YtdnhhfhjjimcgaaDoorGn
namespace Go.Proofs.YtdnhhfhjjimcgaaDoor.dg
open Go Go.RowKit

theorem eqL_iff {xs ys : List Int} (h : xs.length = ys.length) : (xs == ys) = true ↔ ∀ j (h1 : j < xs.length) (h2 : j < ys.length), xs[j] = ys[j] := by
  rw [beq_iff_eq]
  constructor
  · rintro rfl; intros; rfl
  · intro hj; exact List.ext_getElem h (fun i h1 h2 => hj i h1 h2)
set_option maxRecDepth 100000 in
set_option maxHeartbeats 2000000 in
theorem equal_any {w : World} {F G : Nat → Prop} {xs ys : List Int} {A B : Option Addr} {c d : Nat} (hx : Hid (Ri w F xs A c)) (hy : Hid (Ri w G ys B d)) (hl : xs.length ≤ 1000000) :
    Calls Tryd.prog 60 #[.slice A xs.length c, .slice B ys.length d] w fun e w' => e = .returned (.bool (xs == ys)) ∧ ∃ n, w' = w.drewN n := by
  obtain ⟨r, hr⟩ : ∃ r, (xs == ys) = r := ⟨_, rfl⟩
  rw [hr]
  have HR := Lib.hid hr
  clear hr
  by_cases h5 : xs.length = ys.length
  · have H5 := Lib.hid h5
    have g5 : (((xs.length : Int) != (ys.length : Int)) : Bool) = false := by rw [bne_eq_false_iff_eq]; omega
    clear h5
    go_enter Tryd.func60, Tryd.ntmps60
    go_upto_region 4 with fail
    go_loopw [13] (fun iv wr => ∃ k : Nat, k ≤ xs.length ∧ iv = .int .i64 (k : Int) ∧ Hid (∀ j (h1 : j < xs.length) (h2 : j < ys.length), j < k → xs[j] = ys[j]) ∧ Hid (∃ n, wr = w.drewN n)) (fun iv _ => xs.length - (intOf iv).toNat)
    case atStart => exact ⟨0, Nat.zero_le _, rfl, Lib.hid (fun j h h' hj => absurd hj (by omega)), Lib.hid ⟨0, rfl⟩⟩
    case round =>
      obtain ⟨k, hk, rfl, HK, HB⟩ := hrel
      have HX1 : Hid (Ri wr F xs A c ∧ Ri wr G ys B d) := Lib.hid (by obtain ⟨n, rfl⟩ := HB.out; exact ⟨hx.out.drewN n, hy.out.drewN n⟩)
      by_cases hlt : k < xs.length
      · have hlt2 : k < ys.length := by have := H5.out; omega
        have g7 : (k : Int) < (xs.length : Int) := by omega
        have g8 : (k : Int) < (ys.length : Int) := by omega
        obtain ⟨g, off, rfl, _, _, hc⟩ := HX1.out.1.get hlt
        obtain ⟨g', off', rfl, _, _, hc'⟩ := HX1.out.2.get hlt2
        obtain ⟨u, hu⟩ : ∃ u, xs[k]'hlt = u := ⟨_, rfl⟩
        obtain ⟨v, hv⟩ : ∃ v, ys[k]'hlt2 = v := ⟨_, rfl⟩
        have HU := Lib.hid hu
        have HV := Lib.hid hv
        rw [hu] at hc
        rw [hv] at hc'
        clear hu hv
        go_upto_region 6 with fail
        go_quiet (fail)
        have HQ : Hid (∃ n, wr.drewN nq = w.drewN n) := Lib.hid (by obtain ⟨n, rfl⟩ := HB.out; exact ⟨n + nq, World.drewN_drewN ..⟩)
        clear hc hc' HX1 HB
        generalize wr.drewN nq = W2 at *
        by_cases huv : u = v
        · have HE := Lib.hid huv
          have g9 : ((u != v) : Bool) = false := by rw [bne_eq_false_iff_eq]; exact huv
          clear huv
          go_wp2_with fail
          go_roundw
          case rel => exact ⟨k + 1, by omega, by go_num, Lib.hid (fun j h h' hj => by
            by_cases e : j = k
            · subst e; rw [HU.out, HV.out, HE.out]
            · exact HK.out j h h' (by omega)), HQ⟩
          case measure => simp [intOf]; omega
        · have g9 : ((u != v) : Bool) = true := by rw [bne_iff_ne]; exact huv
          obtain rfl : r = false := by
            rw [← HR.out]
            cases e : (xs == ys) with
            | false => rfl
            | true => have := (eqL_iff H5.out).1 e k hlt hlt2; rw [HU.out, HV.out] at this; exact absurd this huv
          clear huv
          go_wp2_with fail
          go_ret
          exact ⟨rfl, HQ.out⟩
      · obtain rfl : k = xs.length := by omega
        have g7 : ¬ ((xs.length : Int) < (xs.length : Int)) := by omega
        obtain rfl : r = true := by
          rw [← HR.out]
          exact (eqL_iff H5.out).2 fun j h1 h2 => HK.out j h1 h2 h1
        go_wp2_with fail
        go_ret
        exact ⟨rfl, HB.out⟩
  · have g5 : (((xs.length : Int) != (ys.length : Int)) : Bool) = true := by rw [bne_iff_ne]; omega
    obtain rfl : r = false := by
      rw [← HR.out]
      rw [beq_eq_false_iff_ne]
      rintro rfl
      exact h5 rfl
    clear h5
    go_enter Tryd.func60, Tryd.ntmps60
    go_wp2_with fail
    go_ret
    exact ⟨rfl, 0, rfl⟩

/-- a term in a box (block b), one that the call is asked for -/
theorem str_eq (a b : ByteArray) : ((a.toList == b.toList) : Bool) = sameB a b := rfl
set_option maxRecDepth 100000 in
set_option maxHeartbeats 4000000 in
/-- is the term at a place the one that is sought? (its boxes: pa leads to the arena, pt to the term) -/
theorem find1_any {w : World} {F G : Nat → Prop} {a : Nat} {S : St} (H : Hid (Ar w F a S)) {t : Tm} {A : Option Addr} {c : Nat} (hr : Hid (Ri w G t.kids A c)) {pa pt : Nat}
    (hpa : Hid (Bk w pa 25 #[.pointer (some ⟨a, 0, none⟩)])) (hpt : Hid (Bk w pt 41 #[.int .i64 t.op, .int .i64 t.fn, .slice A t.kids.length c, .string t.num]))
    {j : Nat} (hj : j < S.terms.length) (hl : S.terms[j].t.kids.length ≤ 1000000) :
    Calls Tryd.prog 59 #[.int .i64 (j : Int), .pointer (some ⟨pa, 0, none⟩), .pointer (some ⟨pt, 0, none⟩)] w fun e w' => e = .returned (.bool (sameT (S.terms[j]'hj).t t)) ∧ Hid (Below w.heap.size w w') := by
  obtain ⟨r, hr2⟩ : ∃ r, sameT (S.terms[j]'hj).t t = r := ⟨_, rfl⟩
  rw [hr2]
  have HR := Lib.hid hr2
  clear hr2
  obtain ⟨g, cc, A2, q, hF, hg, c4, t0, t1, t2, t3, t4, t5, hri⟩ := H.out.term hj
  have HRI := Lib.hid hri
  obtain ⟨x, hx⟩ : ∃ x, (S.terms[j]'hj).t = x := ⟨_, rfl⟩
  rw [hx] at t0 t1 t2 t3 HRI hl
  have HXX := Lib.hid hx
  rw [hx] at HR
  clear hri hx
  have p0 := hpa.out.cell 0
  have y0 := hpt.out.cell 0
  have y1 := hpt.out.cell 1
  have y2 := hpt.out.cell 2
  have y3 := hpt.out.cell 3
  have h1 : (j : Int) < (S.terms.length : Int) := by omega
  have hlt1 := hpa.out.lt
  have hlt2 := hpt.out.lt
  go_enter Tryd.func59, Tryd.ntmps59
  go_upto_region 2 with fail
  generalize hW : World.alloc _ _ = W1
  have HB : Hid (Below w.heap.size w W1) := Lib.hid (hW ▸ (Below.refl _ w).alloc (Nat.le_refl _) _)
  have HX : Hid (Bk W1 w.heap.size 41 #[.int .i64 x.op, .int .i64 x.fn, .slice A2 x.kids.length q, .string x.num]) := Lib.hid (hW ▸ Bk.new w _ _)
  have HY := Lib.hid (hpt.out.below HB.out hpt.out.lt)
  have HR1 := Lib.hid (HRI.out.below HB.out)
  have HR2 := Lib.hid (hr.out.below HB.out)
  clear hW p0 y0 y1 y2 y3 t0 t1 t2 t3 t4 t5 c4 HRI hr hpa hpt
  have x0 := HX.out.cell 0
  have x1 := HX.out.cell 1
  have x2 := HX.out.cell 2
  have x3 := HX.out.cell 3
  have y0 := HY.out.cell 0
  have y1 := HY.out.cell 1
  have y2 := HY.out.cell 2
  have y3 := HY.out.cell 3
  unfold sameT at HR
  cases e1 : (x.op == t.op) with
  | false =>
    obtain rfl : r = false := by rw [← HR.out, e1]; simp
    go_wp2_with fail
    go_ret
    exact ⟨rfl, HB⟩
  | true =>
    cases e2 : (x.fn == t.fn) with
    | false =>
      obtain rfl : r = false := by rw [← HR.out, e2]; simp
      go_wp2_with fail
      go_ret
      exact ⟨rfl, HB⟩
    | true =>
      cases e3 : ((x.num.toList == t.num.toList) : Bool) with
      | false =>
        obtain rfl : r = false := by rw [← HR.out]; unfold sameB; rw [e3]; simp
        go_wp2_with fail
        go_ret
        exact ⟨rfl, HB⟩
      | true =>
        have HE : Hid ((x.kids == t.kids) = r) := Lib.hid (by rw [← HR.out]; unfold sameB; rw [e1, e2, e3]; simp)
        go_wp2_with (go_at_call 60; refine (equal_any HR1 HR2 hl).mono ?_; rw [HE.out]; rintro e w5 ⟨rfl, hw5⟩; have HW5 := Lib.hid hw5; clear hw5)
        go_ret
        obtain ⟨n, hn⟩ := HW5.out
        exact ⟨rfl, Lib.hid (by rw [hn]; exact below_drewN HB.out n)⟩
end Go.Proofs.YtdnhhfhjjimcgaaDoor.dg
