/- The statements of layer 6: acts; are they great; one act. -/
import Derived.Test.YtdnhhfhjjimcgaaDoorHj
import Derived.Test.YtdnhhfhjjimcgaaDoorHb
namespace Go.Proofs.YtdnhhfhjjimcgaaDoor.dg
open Go Go.RowKit

set_option maxRecDepth 100000 in
set_option maxHeartbeats 2000000 in
theorem sameInts_any {w : World} {F G : Nat → Prop} {xs ys : List Int} {A B : Option Addr} {c d : Nat} (hx : Hid (Ri w F xs A c)) (hy : Hid (Ri w G ys B d)) (hl : xs.length ≤ 1000000) :
    Calls Tryd.prog 25 #[.slice A xs.length c, .slice B ys.length d] w fun e w' => e = .returned (.bool (xs == ys)) ∧ ∃ n, w' = w.drewN n := by
  obtain ⟨r, hr⟩ : ∃ r, (xs == ys) = r := ⟨_, rfl⟩
  rw [hr]
  have HR := Lib.hid hr
  clear hr
  by_cases h5 : xs.length = ys.length
  · have H5 := Lib.hid h5
    have g5 : (((xs.length : Int) != (ys.length : Int)) : Bool) = false := by rw [bne_eq_false_iff_eq]; omega
    clear h5
    go_enter Tryd.func25, Tryd.ntmps25
    go_upto_region 4 with fail
    go_loopw [5] (fun iv wr => ∃ k : Nat, k ≤ xs.length ∧ iv = .int .i64 (k : Int) ∧ Hid (∀ j (h1 : j < xs.length) (h2 : j < ys.length), j < k → xs[j] = ys[j]) ∧ Hid (∃ n, wr = w.drewN n)) (fun iv _ => xs.length - (intOf iv).toNat)
    case atStart => exact ⟨0, Nat.zero_le _, rfl, Lib.hid (fun j h h' hj => absurd hj (by omega)), Lib.hid ⟨0, rfl⟩⟩
    case round =>
      obtain ⟨k, hk, rfl, HK, HB⟩ := hrel
      have HX1 : Hid (Ri wr F xs A c ∧ Ri wr G ys B d) := Lib.hid (by obtain ⟨n, rfl⟩ := HB.out; exact ⟨hx.out.drewN n, hy.out.drewN n⟩)
      by_cases hlt : k < xs.length
      · have hlt2 : k < ys.length := by have := H5.out; omega
        have g7 : (k : Int) < (xs.length : Int) := by omega
        have g8 : (k : Int) < (ys.length : Int) := by omega
        obtain ⟨g, off, rfl, _, _, hc⟩ := HX1.out.1.get hlt
        obtain ⟨g', off', rfl, _, _, hc'⟩ := HX1.out.2.get hlt2
        obtain ⟨u, hu⟩ : ∃ u, xs[k]'hlt = u := ⟨_, rfl⟩
        obtain ⟨v, hv⟩ : ∃ v, ys[k]'hlt2 = v := ⟨_, rfl⟩
        have HU := Lib.hid hu
        have HV := Lib.hid hv
        rw [hu] at hc
        rw [hv] at hc'
        clear hu hv
        go_upto_region 6 with fail
        go_quiet (fail)
        have HQ : Hid (∃ n, wr.drewN nq = w.drewN n) := Lib.hid (by obtain ⟨n, rfl⟩ := HB.out; exact ⟨n + nq, World.drewN_drewN ..⟩)
        clear hc hc' HX1 HB
        generalize wr.drewN nq = W2 at *
        by_cases huv : u = v
        · have HE := Lib.hid huv
          have g9 : ((u != v) : Bool) = false := by rw [bne_eq_false_iff_eq]; exact huv
          clear huv
          go_wp2_with fail
          go_roundw
          case rel => exact ⟨k + 1, by omega, by go_num, Lib.hid (fun j h h' hj => by
            by_cases e : j = k
            · subst e; rw [HU.out, HV.out, HE.out]
            · exact HK.out j h h' (by omega)), HQ⟩
          case measure => simp [intOf]; omega
        · have g9 : ((u != v) : Bool) = true := by rw [bne_iff_ne]; exact huv
          obtain rfl : r = false := by
            rw [← HR.out]
            cases e : (xs == ys) with
            | false => rfl
            | true => have := (eqL_iff H5.out).1 e k hlt hlt2; rw [HU.out, HV.out] at this; exact absurd this huv
          clear huv
          go_wp2_with fail
          go_ret
          exact ⟨rfl, HQ.out⟩
      · obtain rfl : k = xs.length := by omega
        have g7 : ¬ ((xs.length : Int) < (xs.length : Int)) := by omega
        obtain rfl : r = true := by
          rw [← HR.out]
          exact (eqL_iff H5.out).2 fun j h1 h2 => HK.out j h1 h2 h1
        go_wp2_with fail
        go_ret
        exact ⟨rfl, HB.out⟩
  · have g5 : (((xs.length : Int) != (ys.length : Int)) : Bool) = true := by rw [bne_iff_ne]; omega
    obtain rfl : r = false := by
      rw [← HR.out]
      rw [beq_eq_false_iff_ne]
      rintro rfl
      exact h5 rfl
    clear h5
    go_enter Tryd.func25, Tryd.ntmps25
    go_wp2_with fail
    go_ret
    exact ⟨rfl, 0, rfl⟩


/-- an act, as it comes in -/
structure Ac where
  what : Int
  name : ByteArray
  args : List Int
  res : Int
  tm : Tm
def Ac.fn (x : Ac) : Fnn := ⟨x.name, x.args, x.res⟩
/-- an act's cells -/
def AcC (w : World) (I : Nat → Prop) (x : Ac) (cs : List Value) : Prop := ∃ A c B d, cs = [.int .i64 x.what, .string x.name, .slice A x.args.length c, .int .i64 x.res, .int .i64 x.tm.op, .int .i64 x.tm.fn, .slice B x.tm.kids.length d, .string x.tm.num] ∧ Ri w I x.args A c ∧ Ri w I x.tm.kids B d
/-- a slice that reads as acts, in blocks below n -/
def Acs (w : World) (n : Nat) (l : List Ac) (A : Option Addr) (c : Nat) : Prop :=
  l.length ≤ c ∧ (0 < l.length → ∃ g off, A = some ⟨g, off, none⟩ ∧ g < n ∧ ∀ j (h : j < l.length), ∃ cs, AcC w (fun b => b < n) l[j] cs ∧ ∀ i, i < 8 → w.cell? ⟨g, off + j * 8 + i, none⟩ = cs[i]?)
theorem Acs.below {w w' : World} {n : Nat} {l : List Ac} {A : Option Addr} {c : Nat} (h : Acs w n l A c) (hn : n ≤ w.heap.size) (hb : Below n w w') : Acs w' n l A c := by
  refine ⟨h.1, fun hp => ?_⟩
  obtain ⟨g, off, e, hg, hc⟩ := h.2 hp
  refine ⟨g, off, e, hg, fun j hj => ?_⟩
  obtain ⟨cs, ⟨A', c', B', d', e1, r1, r2⟩, h2⟩ := hc j hj
  have st : ∀ {xs : List Int} {A : Option Addr} {c : Nat}, Ri w (fun b => b < n) xs A c → Ri w' (fun b => b < n) xs A c := fun h => h.stays hb.size fun g hg _ => ⟨hg, hb.block g hg⟩
  exact ⟨cs, ⟨A', c', B', d', e1, st r1, st r2⟩, fun i hi => (hb.cell (p := ⟨g, off + j * 8 + i, none⟩) hg).trans (h2 i hi)⟩
theorem Acs.get {w : World} {n : Nat} {l : List Ac} {A : Option Addr} {c : Nat} (h : Acs w n l A c) {j : Nat} (hj : j < l.length) : ∃ g off A2 c2 B d, A = some ⟨g, off, none⟩ ∧ g < n ∧ Ri w (fun b => b < n) (l[j]'hj).args A2 c2 ∧ Ri w (fun b => b < n) (l[j]'hj).tm.kids B d ∧
    w.cell? ⟨g, off + j * 8, none⟩ = some (.int .i64 (l[j]'hj).what) ∧ w.cell? ⟨g, off + j * 8 + 1, none⟩ = some (.string (l[j]'hj).name) ∧ w.cell? ⟨g, off + j * 8 + 2, none⟩ = some (.slice A2 (l[j]'hj).args.length c2) ∧ w.cell? ⟨g, off + j * 8 + 3, none⟩ = some (.int .i64 (l[j]'hj).res) ∧
    w.cell? ⟨g, off + j * 8 + 4, none⟩ = some (.int .i64 (l[j]'hj).tm.op) ∧ w.cell? ⟨g, off + j * 8 + 5, none⟩ = some (.int .i64 (l[j]'hj).tm.fn) ∧ w.cell? ⟨g, off + j * 8 + 6, none⟩ = some (.slice B (l[j]'hj).tm.kids.length d) ∧ w.cell? ⟨g, off + j * 8 + 7, none⟩ = some (.string (l[j]'hj).tm.num) := by
  obtain ⟨g, off, e, hg, hc⟩ := h.2 (by omega)
  obtain ⟨cs, ⟨A2, c2, B, d, rfl, r1, r2⟩, h2⟩ := hc j hj
  exact ⟨g, off, A2, c2, B, d, e, hg, r1, r2, h2 0 (by omega), h2 1 (by omega), h2 2 (by omega), h2 3 (by omega), h2 4 (by omega), h2 5 (by omega), h2 6 (by omega), h2 7 (by omega)⟩
/-- is an act greater than is looked at? -/
def bigA (x : Ac) : Bool := decide (60 < x.name.size) || (decide (12 < x.args.length) || (decide (12 < x.tm.kids.length) || decide (60 < x.tm.num.size)))
def greatB (l : List Ac) : Bool := decide (80 < l.length) || l.any bigA
def St.act (S : St) (x : Ac) : Int × Int × St := if x.what = 0 then S.sort x.name x.args else if x.what = 1 then S.fun_ x.fn else S.term x.tm
/-- a state behind some acts -/
structure Gk (k : Nat) (S : St) : Prop where
  s : S.sorts.length ≤ k + 2
  f : S.funs.length ≤ k
  t : S.terms.length ≤ k
  m0 : 0 ≤ S.most
  m1 : S.most ≤ 1048576
  sa : ∀ x ∈ S.sorts, x.args.length ≤ 12
  fa : ∀ x ∈ S.funs, x.args.length ≤ 12
  tk : ∀ e ∈ S.terms, e.t.kids.length ≤ 12
theorem Gk.sz {k : Nat} {S : St} (h : Gk k S) (hk : k ≤ 1000) : Sz S := ⟨by have := h.s; omega, by have := h.f; omega, by have := h.t; omega, h.m0, h.m1⟩
theorem Gk.new (m : Int) : Gk 0 (St.new m) := ⟨by simp [St.new], by simp [St.new], by simp [St.new], by simp [St.new]; omega, by simp [St.new]; omega, by simp [St.new], by simp [St.new], by simp [St.new]⟩
theorem Gk.up {k : Nat} {S : St} (h : Gk k S) : Gk (k + 1) S := { h with s := by have := h.s; omega, f := by have := h.f; omega, t := by have := h.t; omega }
theorem Gk.sort {k : Nat} {S S' : St} (h : Gk k S) {n : ByteArray} {l : List Int} (hl : l.length ≤ 12) {z er : Int} (hz : S.sort n l = (z, er, S')) : Gk (k + 1) S' := by
  unfold St.sort at hz
  split at hz
  · obtain ⟨_, _, rfl⟩ : 0 = z ∧ 2 = er ∧ S = S' := by simpa using hz
    exact h.up
  · split at hz
    · rename_i p _
      obtain ⟨_, _, rfl⟩ : (p : Int) = z ∧ 0 = er ∧ S = S' := by simpa using hz
      exact h.up
    · simp only [Prod.mk.injEq] at hz
      obtain ⟨_, _, rfl⟩ := hz
      have hu := h.up
      exact ⟨by have := h.s; simp; omega, hu.f, hu.t, h.m0, h.m1, fun x hx => by
        rcases List.mem_append.1 hx with hx | hx
        · exact h.sa x hx
        · simp at hx; subst hx; exact hl, h.fa, h.tk⟩
theorem Gk.fun_ {k : Nat} {S S' : St} (h : Gk k S) {f : Fnn} (hl : f.args.length ≤ 12) {z er : Int} (hz : S.fun_ f = (z, er, S')) : Gk (k + 1) S' := by
  unfold St.fun_ at hz
  split at hz
  · obtain ⟨_, _, rfl⟩ : 0 = z ∧ 2 = er ∧ S = S' := by simpa using hz
    exact h.up
  · simp only [Prod.mk.injEq] at hz
    obtain ⟨_, _, rfl⟩ := hz
    have hu := h.up
    exact ⟨hu.s, by have := h.f; simp; omega, hu.t, h.m0, h.m1, h.sa, fun x hx => by
        rcases List.mem_append.1 hx with hx | hx
        · exact h.fa x hx
        · simp at hx; subst hx; exact hl, h.tk⟩
theorem Gk.term {k : Nat} {S S' : St} (h : Gk k S) {t : Tm} (hl : t.kids.length ≤ 12) {z er : Int} (hz : S.term t = (z, er, S')) : Gk (k + 1) S' := by
  unfold St.term at hz
  split at hz
  · obtain ⟨_, _, rfl⟩ : 0 = z ∧ S.wrong t = er ∧ S = S' := by simpa using hz
    exact h.up
  · split at hz
    · rename_i p _
      obtain ⟨_, _, rfl⟩ : (p : Int) = z ∧ 0 = er ∧ S = S' := by simpa using hz
      exact h.up
    · split at hz
      · obtain ⟨_, _, rfl⟩ : 0 = z ∧ 4 = er ∧ S = S' := by simpa using hz
        exact h.up
      · simp only [Prod.mk.injEq] at hz
        obtain ⟨_, _, rfl⟩ := hz
        have hu := h.up
        exact ⟨hu.s, hu.f, by have := h.t; simp [St.addT]; omega, h.m0, h.m1, h.sa, h.fa, fun x hx => by
          rcases List.mem_append.1 hx with hx | hx
          · exact h.tk x hx
          · simp at hx; subst hx; exact hl⟩
/-- two arenas that the call has made -/
structure Two (w wr : World) (F G : Nat → Prop) (a b : Nat) (S T : St) : Prop where
  a : Mine w wr F a S
  b : Mine w wr G b T
  d : ∀ g, F g → ¬ G g
theorem Two.stepA {w wr w' : World} {F G : Nat → Prop} {a b : Nat} {S S' T : St} (h : Two w wr F G a b S T) (e : ArEnd wr w' F a S') : ∃ F', Two w w' F' G a b S' T := by
  obtain ⟨F', h3, h4, h5⟩ := e
  have hB : Below w.heap.size w w' := h.a.2.1.trans (h4.below h.a.2.1.size h.a.2.2)
  refine ⟨F', ⟨h3, hB, fun g hg => (h5 g hg).elim (h.a.2.2 g) fun h6 => Nat.le_trans h.a.2.1.size h6⟩, ⟨h.b.1.sft h4 fun g hg hf => h.d g hf hg, hB, h.b.2.2⟩, fun g hg hG => ?_⟩
  rcases h5 g hg with h6 | h6
  · exact h.d g h6 hG
  · have := h.b.1.lt g hG; omega
theorem Two.swap {w wr : World} {F G : Nat → Prop} {a b : Nat} {S T : St} (h : Two w wr F G a b S T) : Two w wr G F b a T S := ⟨h.b, h.a, fun g hg hf => h.d g hf hg⟩
theorem Two.below {w wr w' : World} {F G : Nat → Prop} {a b : Nat} {S T : St} (h : Two w wr F G a b S T) (hb : Below wr.heap.size wr w') : Two w w' F G a b S T :=
  have hB : Below w.heap.size w w' := h.a.2.1.trans (hb.mono h.a.2.1.size)
  ⟨⟨h.a.1.below hb, hB, h.a.2.2⟩, ⟨h.b.1.below hb, hB, h.b.2.2⟩, h.d⟩
theorem Mine.below {w wr w' : World} {F : Nat → Prop} {a : Nat} {S : St} (h : Mine w wr F a S) (hb : Below wr.heap.size wr w') : Mine w w' F a S := ⟨h.1.below hb, h.2.1.trans (hb.mono h.2.1.size), h.2.2⟩

set_option maxRecDepth 100000 in
set_option maxHeartbeats 8000000 in
theorem great_any {w : World} {l : List Ac} {A : Option Addr} {c n : Nat} (hl : Hid (Acs w n l A c)) (hn : n ≤ w.heap.size) :
    Calls Tryd.prog 9 #[.slice A l.length c] w fun e w' => e = .returned (.bool (greatB l)) ∧ Hid (Below w.heap.size w w') := by
  obtain ⟨r, hr⟩ : ∃ r, greatB l = r := ⟨_, rfl⟩
  have HR := Lib.hid hr
  rw [hr]
  clear hr
  by_cases h80 : (80 : Int) < (l.length : Int)
  · obtain rfl : r = true := by rw [← HR.out]; unfold greatB; rw [decide_eq_true (show 80 < l.length by omega)]; rfl
    go_enter Tryd.func9, Tryd.ntmps9
    go_wp2_with fail
    go_ret
    exact ⟨rfl, Lib.hid (Below.refl _ _)⟩
  have HL80 : Hid (decide (80 < l.length) = false) := Lib.hid (by simp; omega)
  have hlen : l.length ≤ 80 := by omega
  go_enter Tryd.func9, Tryd.ntmps9
  go_upto_region 4 with fail
  go_loopw [10] (fun iv wr => ∃ k : Nat, k ≤ l.length ∧ iv = .int .i64 (k : Int) ∧ Hid (∀ j (h : j < l.length), j < k → bigA l[j] = false) ∧ Hid (Below w.heap.size w wr)) (fun iv _ => l.length - (intOf iv).toNat)
  case atStart => exact ⟨0, Nat.zero_le _, rfl, Lib.hid (fun j h hj => absurd hj (by omega)), Lib.hid (Below.refl _ _)⟩
  case round =>
    obtain ⟨k, hk, rfl, HK, HB⟩ := hrel
    by_cases hlt : k < l.length
    · have g7 : (k : Int) < (l.length : Int) := by omega
      obtain ⟨g, off, A2, c2, B, d, rfl, hg, _, _, m0, m1, m2, m3, m4, m5, m6, m7⟩ := (hl.out.below hn (HB.out.mono hn)).get hlt
      obtain ⟨x, hx⟩ : ∃ x, l[k]'hlt = x := ⟨_, rfl⟩
      have HX := Lib.hid hx
      rw [hx] at m0 m1 m2 m3 m4 m5 m6 m7
      clear hx
      go_upto_region 6 with fail
      generalize hW : World.alloc wr _ = W1
      have HX1 : Hid (Bk W1 wr.heap.size 49 #[.int .i64 x.what, .string x.name, .slice A2 x.args.length c2, .int .i64 x.res, .int .i64 x.tm.op, .int .i64 x.tm.fn, .slice B x.tm.kids.length d, .string x.tm.num]) := Lib.hid (hW ▸ Bk.new wr _ _)
      have HB1 : Hid (Below w.heap.size w W1) := Lib.hid (hW ▸ HB.out.alloc HB.out.size _)
      clear hW m0 m1 m2 m3 m4 m5 m6 m7
      have x1 := HX1.out.cell 1
      have x2 := HX1.out.cell 2
      have x6 := HX1.out.cell 6
      have x7 := HX1.out.cell 7
      have xl := HX1.out.lt
      have yes : Hid (bigA x = true → r = true) := Lib.hid fun hb => by
        rw [← HR.out]
        unfold greatB
        rw [List.any_eq_true.2 ⟨x, HX.out ▸ List.getElem_mem hlt, hb⟩]
        simp
      by_cases b1 : (60 : Int) < (x.name.size : Int)
      · obtain rfl : r = true := yes.out (by unfold bigA; rw [decide_eq_true (show 60 < x.name.size by omega)]; rfl)
        go_wp2_with fail
        go_ret
        exact ⟨rfl, HB1⟩
      have b1d : decide ((60 : Int) < (x.name.size : Int)) = false := decide_eq_false b1
      by_cases b2 : (12 : Int) < (x.args.length : Int)
      · obtain rfl : r = true := yes.out (by unfold bigA; rw [decide_eq_true (show 12 < x.args.length by omega)]; simp)
        go_wp2_with fail
        go_ret
        exact ⟨rfl, HB1⟩
      have b2d : decide ((12 : Int) < (x.args.length : Int)) = false := decide_eq_false b2
      by_cases b3 : (12 : Int) < (x.tm.kids.length : Int)
      · obtain rfl : r = true := yes.out (by unfold bigA; rw [decide_eq_true (show 12 < x.tm.kids.length by omega)]; simp)
        go_wp2_with fail
        go_ret
        exact ⟨rfl, HB1⟩
      have b3d : decide ((12 : Int) < (x.tm.kids.length : Int)) = false := decide_eq_false b3
      by_cases b4 : (60 : Int) < (x.tm.num.size : Int)
      · obtain rfl : r = true := yes.out (by unfold bigA; rw [decide_eq_true (show 60 < x.tm.num.size by omega)]; simp)
        go_wp2_with fail
        go_ret
        exact ⟨rfl, HB1⟩
      have b4d : decide ((60 : Int) < (x.tm.num.size : Int)) = false := decide_eq_false b4
      have HNO : Hid (bigA x = false) := Lib.hid (by
        unfold bigA
        rw [decide_eq_false (show ¬ 60 < x.name.size by omega), decide_eq_false (show ¬ 12 < x.args.length by omega), decide_eq_false (show ¬ 12 < x.tm.kids.length by omega), decide_eq_false (show ¬ 60 < x.tm.num.size by omega)]
        rfl)
      go_wp2_with fail
      go_roundw
      case rel => exact ⟨k + 1, by omega, by go_num, Lib.hid (fun j h hj => by
        by_cases e : j = k
        · subst e; rw [HX.out]; exact HNO.out
        · exact HK.out j h (by omega)), HB1⟩
      case measure => simp [intOf]; omega
    · obtain rfl : k = l.length := by omega
      have g7 : ¬ ((l.length : Int) < (l.length : Int)) := by omega
      obtain rfl : r = false := by
        rw [← HR.out]
        unfold greatB
        rw [HL80.out, Bool.false_or, List.any_eq_false]
        intro x hx
        obtain ⟨i, hi, rfl⟩ := List.getElem_of_mem hx
        rw [HK.out i hi hi]
        simp
      go_wp2_with fail
      go_ret
      exact ⟨rfl, HB⟩
theorem great_no {l : List Ac} (h : greatB l = false) : l.length ≤ 80 ∧ ∀ x ∈ l, x.name.size ≤ 60 ∧ x.args.length ≤ 12 ∧ x.tm.kids.length ≤ 12 ∧ x.tm.num.size ≤ 60 := by
  unfold greatB at h
  rw [Bool.or_eq_false_iff] at h
  refine ⟨by have := h.1; simp at this; omega, fun x hx => ?_⟩
  have h2 := List.any_eq_false.1 h.2 x hx
  simp [bigA] at h2
  omega
end Go.Proofs.YtdnhhfhjjimcgaaDoor.dg
