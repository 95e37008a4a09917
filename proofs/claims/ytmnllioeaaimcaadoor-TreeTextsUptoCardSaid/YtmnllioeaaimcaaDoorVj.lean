/- Package tree: Read: the trees of tokens, or the first fault. -/
import Derived.RegionTactic
import Derived.Test.YtmnllioeaaimcaaDoorVi
import Derived.Test.YtmnllioeaaimcaaDoorQb
import Derived.Test.YtmnllioeaaimcaaDoorTr
namespace Go.Proofs.YtmnllioeaaimcaaDoor.tr
open Go Go.RowKit Go.Proofs.YtmnllioeaaimcaaDoor.tk

/-- a slice that reads as tokens, in a block below B -/
def Tm (w : World) (B : Nat) (A : Option Addr) (l : List Tok) : Prop :=
  0 < l.length → ∃ b off, A = some ⟨b, off, none⟩ ∧ b < B ∧ b < w.heap.size ∧ ∀ j (h : j < l.length), w.cell? ⟨b, off + j * 3, none⟩ = some (.int .i64 l[j].k) ∧ w.cell? ⟨b, off + j * 3 + 1, none⟩ = some (.string ⟨l[j].s.toArray⟩) ∧ w.cell? ⟨b, off + j * 3 + 2, none⟩ = some (.int .i64 l[j].p)
theorem Tm.below {w w' : World} {B : Nat} {A : Option Addr} {l : List Tok} (h : Tm w B A l) (hb : Below B w w') : Tm w' B A l := fun hn => by
  obtain ⟨b, off, e, hlt, hl, hc⟩ := h hn
  have k := fun o => hb.cell (p := ⟨b, o, none⟩) hlt
  exact ⟨b, off, e, hlt, Nat.lt_of_lt_of_le hl hb.size, fun j hj => ⟨(k _).trans (hc j hj).1, (k _).trans (hc j hj).2.1, (k _).trans (hc j hj).2.2⟩⟩
theorem Tm.mono {w : World} {B B' : Nat} {A : Option Addr} {l : List Tok} (h : Tm w B A l) (hB : B ≤ B') : Tm w B' A l := fun hn => by
  obtain ⟨b, off, e, hlt, r⟩ := h hn
  exact ⟨b, off, e, by omega, r⟩
def ofGt (g : Gt) : Tok := ⟨g.k, g.s.data.toList, g.p⟩
theorem Tm.of_ta {w : World} {A : Option Addr} {l : List Gt} (h : Ta w A l) : Tm w w.heap.size A (l.map ofGt) := fun hn => by
  obtain ⟨b, off, e, hlt, hc⟩ := h (by simpa using hn)
  refine ⟨b, off, e, hlt, hlt, fun j hj => ?_⟩
  have := hc j (by simpa using hj)
  simp only [List.getElem_map, ofGt]
  refine ⟨this.1, ?_, this.2.2⟩
  rw [this.2.1]
/-- what Read comes to -/
def ReadIs (deep : Int) (l : List Tok) (e : Ending) (w' : World) : Prop := match read deep l with
  | .error (code, p) => e = .returned (.tuple #[.slice none 0 0, .agg #[.int .i64 (code : Int), .int .i64 p]])
  | .ok ts => ∃ v, e = .returned (.tuple #[v, .agg #[.int .i64 0, .int .i64 0]]) ∧ Rw w' (fun _ => True) ts v
theorem run_bad {deep : Int} {l : List Tok} {k : Nat} {s : State} {er : Nat × Int} (hk : k < l.length) (h : run deep (l.take k) ([], []) = .ok s) (hs : step deep l[k] s = .error er) : read deep l = .error er := by
  unfold read
  have e : run deep l ([], []) = .error er := by
    conv => lhs; rw [← List.take_append_drop k l]
    rw [run_append, h, List.drop_eq_getElem_cons hk]
    show run deep (l[k] :: l.drop (k + 1)) s = _
    simp only [run, hs]
  rw [e]
theorem run_next {deep : Int} {l : List Tok} {k : Nat} {s s' : State} (hk : k < l.length) (h : run deep (l.take k) ([], []) = .ok s) (hs : step deep l[k] s = .ok s') : run deep (l.take (k + 1)) ([], []) = .ok s' := by
  rw [List.take_succ_eq_append_getElem hk, run_append, h]
  simp only [run, hs]
/-- no tree's row lies in a block of fewer than five cells -/
theorem Vr.not_small {w : World} {F : Nat → Prop} {ks : List Tree} {g off : Nat} (h : Vr w F ks g off) (hp : 0 < ks.length) (hb : ∃ (cs : Array Value) (t : TypeId), Bk w g t cs ∧ cs.size < 5) : False := by
  obtain ⟨cs, t, h1, h2⟩ := hb
  cases ks with
  | nil => simp at hp
  | cons u r =>
    unfold Vr at h
    obtain ⟨⟨ds, h3, h4⟩, _⟩ := h
    have h5 := h3.five
    have h6 := h4 4 (by omega)
    rw [h1.cell (off + 4), List.getElem?_eq_getElem (by omega), Array.getElem?_eq_none (by omega)] at h6
    cases h6
mutual
theorem Vt.small {w : World} {F bad : Nat → Prop} (hb : ∀ b, bad b → ∃ (cs : Array Value) (t : TypeId), Bk w b t cs ∧ cs.size < 5) : ∀ (t : Tree) {cs : List Value}, Vt w F t cs → Vt w (fun b => F b ∧ ¬ bad b) t cs
  | .mk l u ks, cs, h => by
    unfold Vt at h ⊢
    obtain ⟨A, c, e, hc, h⟩ := h
    refine ⟨A, c, e, hc, fun hp => ?_⟩
    obtain ⟨g, off, e2, hF, hg, hr⟩ := h hp
    exact ⟨g, off, e2, ⟨hF, fun hx => hr.not_small hp (hb g hx)⟩, hg, Vr.small hb ks hr⟩
theorem Vr.small {w : World} {F bad : Nat → Prop} (hb : ∀ b, bad b → ∃ (cs : Array Value) (t : TypeId), Bk w b t cs ∧ cs.size < 5) {g : Nat} : ∀ (ks : List Tree) {off : Nat}, Vr w F ks g off → Vr w (fun b => F b ∧ ¬ bad b) ks g off
  | [], _, _ => by unfold Vr; trivial
  | t :: r, off, h => by
    unfold Vr at h ⊢
    obtain ⟨⟨cs, h1, h2⟩, h3⟩ := h
    exact ⟨⟨cs, Vt.small hb t h1, h2⟩, Vr.small hb r h3⟩
end
theorem Rw.small {w : World} {F bad : Nat → Prop} (hb : ∀ b, bad b → ∃ (cs : Array Value) (t : TypeId), Bk w b t cs ∧ cs.size < 5) {ks : List Tree} {v : Value} (h : Rw w F ks v) : Rw w (fun b => F b ∧ ¬ bad b) ks v := by
  obtain ⟨A, c, e, hc, h⟩ := h
  refine ⟨A, c, e, hc, fun hp => ?_⟩
  obtain ⟨g, off, e2, hF, hg, hr⟩ := h hp
  exact ⟨g, off, e2, ⟨hF, fun hx => hr.not_small hp (hb g hx)⟩, hg, Vr.small hb ks hr⟩
/-- of what all has: its two results' boxes -/
structure Lp (w wr : World) (n0 R : Nat) (deep : Int) (s : State) (X : Nat → Prop) : Prop where
  ms : Ms wr n0 R deep s X
  t : Bk wr w.heap.size 24 #[.slice none 0 0]
  f : Bk wr (w.heap.size + 1) 27 #[.int .i64 0, .int .i64 0]
  nt : ¬ X w.heap.size
  nf : ¬ X (w.heap.size + 1)
  bel : Below n0 w wr
theorem Lp.new {w wr w' : World} {n0 R : Nat} {deep : Int} {s : State} {X : Nat → Prop} (h : Lp w wr n0 R deep s X) (o : Obj) (hw : wr.alloc o = w') (hn : n0 ≤ wr.heap.size) : Lp w w' n0 R deep s X := by
  subst hw
  exact ⟨h.ms.alloc o, h.t.alloc o, h.f.alloc o, h.nt, h.nf, h.bel.alloc hn o⟩
theorem Lp.take {w wr w' : World} {n0 R : Nat} {deep : Int} {s s' : State} {X : Nat → Prop} (h : Lp w wr n0 R deep s X) (ht : TakeEnd wr w' n0 R deep s' X) (hn : n0 ≤ wr.heap.size) : ∃ X', Lp w w' n0 R deep s' X' := by
  obtain ⟨X', h1, h2, h3⟩ := ht
  have lt := h.t.lt
  have lf := h.f.lt
  exact ⟨X', h1, (h2.block _ lt h.nt).trans h.t, (h2.block _ lf h.nf).trans h.f, fun hx => (h3 _ hx).elim h.nt (fun h => by omega), fun hx => (h3 _ hx).elim h.nf (fun h => by omega), h.bel.trans (h2.below hn (fun b hb => (h.ms.lt b hb).1))⟩

set_option maxRecDepth 100000 in
set_option maxHeartbeats 4000000 in
theorem tall_any {w : World} {n0 R : Nat} {deep : Int} {A : Option Addr} {l : List Tok} {cb : Nat} {X : Nat → Prop} (H : Hid (Ms w n0 R deep ([], []) X)) (ht : Hid (Tm w n0 A l)) (hn : n0 ≤ w.heap.size) (hl : l.length ≤ 80000000) :
    Calls Tryd.prog 17 #[.pointer (some ⟨R, 0, none⟩), .slice A l.length cb] w fun e w' => Hid (ReadIs deep l e w') ∧ Hid (Below n0 w w') := by
  obtain ⟨N, hNl⟩ : ∃ N, l.length = N := ⟨_, rfl⟩
  have HNL := Lib.hid hNl
  rw [hNl] at hl ⊢
  clear hNl
  have hmf : ∀ (fn : Fn) (first cap : Array Value) (w : World), (Instr.makeFunc fn first cap).run Tryd.prog w = .ok (.func fn first cap) w := fun _ _ _ _ => rfl
  have HN := Lib.hid hn
  clear hn
  go_enter_defers Tryd.func17, Tryd.ntmps17
  go_wp2_with fail
  generalize hW : (w.alloc _).alloc _ = W0
  have HLP : Hid (∃ X, Lp w W0 n0 R deep ([], []) X) := Lib.hid (by
    have hT := (Bk.new w 24 #[.slice none 0 0]).alloc (.cells #[.int .i64 0, .int .i64 0] 27)
    have hF := Bk.new (w.alloc (.cells #[.slice none 0 0] 24)) 27 #[.int .i64 0, .int .i64 0]
    have hM := (H.out.alloc (.cells #[.slice none 0 0] 24)).alloc (.cells #[.int .i64 0, .int .i64 0] 27)
    have hB := ((Below.refl n0 w).alloc HN.out (.cells #[.slice none 0 0] 24)).alloc (by have := HN.out; simp; omega) (.cells #[.int .i64 0, .int .i64 0] 27)
    rw [World.size_alloc] at hF
    rw [hW] at hT hF hM hB
    exact ⟨X, hM, hT, hF, fun h => by have := (H.out.lt _ h).2; omega, fun h => by have := (H.out.lt _ h).2; omega, hB⟩)
  clear hW H
  go_loopw [12] (fun iv wr => ∃ (k : Nat) (s : State), iv = .int .i64 (k : Int) ∧ k ≤ N ∧ Hid (run deep (l.take k) ([], []) = .ok s) ∧ Hid (∃ X, Lp w wr n0 R deep s X)) (fun iv _ => N - (intOf iv).toNat)
  case atStart => exact ⟨0, ([], []), rfl, Nat.zero_le _, Lib.hid (by simp [run]), HLP⟩
  case round =>
    clear HLP
    obtain ⟨k, s, rfl, hk, HRN, HL⟩ := hrel
    have HNW : Hid (n0 ≤ wr.heap.size) := Lib.hid (by obtain ⟨X, h⟩ := HL.out; have := h.bel.size; have := HN.out; omega)
    have HSB : Hid (sizes s.1 + stackSize s.2 ≤ 80000000) := Lib.hid (by
      have := run_size HRN.out
      simp [sizes, stackSize] at this
      have h2 := HNL.out
      omega)
    by_cases hlt : k < N
    · have g7 : (k : Int) < (N : Int) := by omega
      have hk' : k < l.length := by rw [HNL.out]; exact hlt
      obtain ⟨b, off, eA, hbn, hbw, hc⟩ := (ht.out.below (by obtain ⟨X, h⟩ := HL.out; exact h.bel)) (by omega)
      obtain ⟨t, hte⟩ : ∃ t, l[k] = t := ⟨_, rfl⟩
      obtain ⟨q0, q1, q2⟩ := hc k hk'
      rw [hte] at q0 q1 q2
      have HTE := Lib.hid hte
      subst eA
      clear hc hte
      go_upto_region 5 with fail
      clear q0 q1 q2
      generalize hW : wr.alloc _ = W1
      have HL1 : Hid (∃ X, Lp w W1 n0 R deep s X) := Lib.hid (by obtain ⟨X, h⟩ := HL.out; exact ⟨X, h.new _ hW HNW.out⟩)
      have HB1 : Hid (Bk W1 wr.heap.size 35 #[.int .i64 t.k, .string ⟨t.s.toArray⟩, .int .i64 t.p]) := Lib.hid (hW ▸ Bk.new wr _ _)
      have HN1 : Hid (n0 ≤ W1.heap.size) := Lib.hid (by rw [← hW]; have := HNW.out; simp; omega)
      clear hW HL HNW
      have b0 := HB1.out.cell 0
      have b1 := HB1.out.cell 1
      have b2 := HB1.out.cell 2
      cases hst : step deep t s with
      | ok s' =>
        have HS := Lib.hid hst
        have P : Hid (Calls Tryd.prog 27 #[.pointer (some ⟨R, 0, none⟩), .agg #[.int .i64 t.k, .string ⟨t.s.toArray⟩, .int .i64 t.p]] W1 fun e w' => e = .returned (.tuple #[]) ∧ Hid (∃ X, Lp w w' n0 R deep s' X)) := Lib.hid (by
          obtain ⟨X, h⟩ := HL1.out
          exact (take_ok (Lib.hid h.ms) HS.out HSB.out).mono fun e w' r => ⟨r.1, Lib.hid (h.take r.2.out HN1.out)⟩)
        have HRN2 := Lib.hid (run_next hk' HRN.out (by rw [HTE.out]; exact HS.out))
        clear hst HB1
        go_wp2_with (go_at_call 27; refine P.out.mono ?_; rintro e w2 ⟨rfl, HL2⟩)
        go_roundw
        case rel => exact ⟨k + 1, s', by go_num, by omega, HRN2, HL2⟩
        case measure => simp [intOf]; omega
      | error er =>
        have HE := Lib.hid (run_bad hk' HRN.out (by rw [HTE.out]; exact hst))
        have P : Hid (Calls Tryd.prog 27 #[.pointer (some ⟨R, 0, none⟩), .agg #[.int .i64 t.k, .string ⟨t.s.toArray⟩, .int .i64 t.p]] W1 fun e w' => e = PanF (er.1 : Int) er.2 ∧ Hid (Below W1.heap.size W1 w')) := Lib.hid (by
          obtain ⟨X, h⟩ := HL1.out
          exact take_bad (Lib.hid h.ms) hst HSB.out)
        clear hst HB1
        go_wp2_with (go_at_call 27; refine P.out.mono ?_; rintro e w2 ⟨rfl, hb2⟩)
        obtain ⟨X, h⟩ := HL1.out
        refine leaves_cons (f := 26) (args := #[.pointer (some ⟨w.heap.size, 0, none⟩), .pointer (some ⟨w.heap.size + 1, 0, none⟩)]) (by simp) (by simp [go_sem]) ?_
        refine (catchT_wrong (code := (er.1 : Int)) (p := er.2) (h.t.below hb2.out h.t.lt) (h.f.below hb2.out h.f.lt) (by omega) []).mono ?_
        rintro e u' W7 ⟨rfl, rfl, hC⟩
        obtain ⟨hC1, hC2, hC3⟩ := hC.out
        have t0 : W7.cell? ⟨w.heap.size, 0, none⟩ = some (.slice none 0 0) := hC1.cell 0
        have f0 : W7.cell? ⟨w.heap.size + 1, 0, none⟩ = some (.int .i64 (er.1 : Int)) := hC2.cell 0
        have f1 : W7.cell? ⟨w.heap.size + 1, 1, none⟩ = some (.int .i64 er.2) := hC2.cell 1
        have HAI : Hid (ReadIs deep l (.returned (.tuple #[.slice none 0 0, .agg #[.int .i64 (er.1 : Int), .int .i64 er.2]])) W7) := Lib.hid (by unfold ReadIs; rw [HE.out])
        have HBF : Hid (Below n0 w W7) := Lib.hid ((h.bel.trans (hb2.out.mono HN1.out)).trans (hC3 n0 (Nat.le_trans HN1.out hb2.out.size) HN.out (by have := HN.out; omega)))
        clear hC hC1 hC2 hC3 h hb2
        simp [Leaves, settle, results, Tryd.results17, go_sem, t0, f0, f1]
        exact ⟨HAI, HBF⟩
    · obtain rfl : k = N := by omega
      have HRE : Hid (run deep l ([], []) = .ok s) := Lib.hid (by
        have := HRN.out
        rw [← HNL.out, List.take_length] at this
        exact this)
      have g7 : ¬ ((k : Int) < (k : Int)) := by omega
      obtain ⟨X, h⟩ := HL.out
      obtain ⟨ks, st⟩ := s
      obtain ⟨g, c, vs, HR, hX⟩ := h.ms
      have hll := levs_len false ks st
      have hsl := stack_len st
      have hsb : st.length ≤ 80000000 := by have := HSB.out; dsimp only at this; omega
      have HRr := Lib.hid HR
      have HLr := Lib.hid h
      have HXr := Lib.hid hX
      dsimp only at HRr
      have P := Lib.hid (last_any HRr (N := st.length) hll (by omega))
      cases st with
      | cons q st =>
        obtain ⟨t, pk⟩ := q
        have HE : Hid (read deep l = .error (11, t.p)) := Lib.hid (by unfold read; rw [HRE.out])
        obtain ⟨M, hM⟩ : ∃ M, st.length = M := ⟨_, rfl⟩
        have e1 : levs false ks ((t, pk) :: st) = ⟨true, t, ks⟩ :: levs false pk st := rfl
        rw [e1] at HRr
        obtain ⟨v, vs', e7⟩ : ∃ v vs', vs = v :: vs' := by
          have := HRr.out.od.kid.len
          match vs, this with
          | v :: vs', _ => exact ⟨v, vs', rfl⟩
        subst e7
        have hl2 : (levs false pk st).length = M + 1 := by rw [levs_len, hM]
        have cl : wr.cell? ⟨R, 1, none⟩ = some (.slice (some ⟨g, 0, none⟩) (M + 1 + 1) c) := by
          have := HRr.out.box.cell 1
          simp only [List.length_cons, hl2] at this
          exact this
        have d1 : wr.cell? ⟨g, (M + 1) * 5 + 1, none⟩ = some (.int .i64 t.k) := by have := HRr.out.od.cell 1 (by omega); rw [hl2] at this; exact this
        have d2 : wr.cell? ⟨g, (M + 1) * 5 + 2, none⟩ = some (.string ⟨t.s.toArray⟩) := by have := HRr.out.od.cell 2 (by omega); rw [hl2] at this; exact this
        have d3 : wr.cell? ⟨g, (M + 1) * 5 + 3, none⟩ = some (.int .i64 t.p) := by have := HRr.out.od.cell 3 (by omega); rw [hl2] at this; exact this
        simp only [List.length_cons, hM] at P
        have q1 : (0 : Int) ≤ (M : Int) + 1 := by omega
        have q2 : (M : Int) < (M : Int) + 1 := by omega
        have q3 : (0 : Int) < (M : Int) + 1 := by omega
        clear hll hsl hsb HR h hX HRr hl2 hM HL
        go_wp2_with (first | (go_at_call 28; refine P.out.mono ?_; rintro e w1 ⟨rfl, rfl⟩) | (go_at_call 29; refine trefuse_any.mono ?_; rintro e w2 ⟨rfl, hb2⟩))
        have h := HLr.out
        refine leaves_cons (f := 26) (args := #[.pointer (some ⟨w.heap.size, 0, none⟩), .pointer (some ⟨w.heap.size + 1, 0, none⟩)]) (by simp) (by simp [go_sem]) ?_
        refine (catchT_wrong (code := 11) (p := t.p) (h.t.below hb2.out h.t.lt) (h.f.below hb2.out h.f.lt) (by omega) []).mono ?_
        rintro e u' W7 ⟨rfl, rfl, hC⟩
        obtain ⟨hC1, hC2, hC3⟩ := hC.out
        have t0 : W7.cell? ⟨w.heap.size, 0, none⟩ = some (.slice none 0 0) := hC1.cell 0
        have f0 : W7.cell? ⟨w.heap.size + 1, 0, none⟩ = some (.int .i64 11) := hC2.cell 0
        have f1 : W7.cell? ⟨w.heap.size + 1, 1, none⟩ = some (.int .i64 t.p) := hC2.cell 1
        have HAI : Hid (ReadIs deep l (.returned (.tuple #[.slice none 0 0, .agg #[.int .i64 11, .int .i64 t.p]])) W7) := Lib.hid (by unfold ReadIs; rw [HE.out]; rfl)
        have HBF : Hid (Below n0 w W7) := Lib.hid ((h.bel.trans (hb2.out.mono HNW.out)).trans (hC3 n0 (Nat.le_trans HNW.out hb2.out.size) HN.out (by have := HN.out; omega)))
        clear hC hC1 hC2 hC3 h hb2
        simp [Leaves, settle, results, Tryd.results17, go_sem, t0, f0, f1]
        exact ⟨HAI, HBF⟩
      | nil =>
        have HE : Hid (read deep l = .ok ks) := Lib.hid (read_ok.2 HRE.out)
        have e1 : levs false ks [] = [⟨false, ⟨0, [], 0⟩, ks⟩] := rfl
        rw [e1] at HRr
        obtain ⟨v, e7⟩ : ∃ v, vs = [v] := by
          have := HRr.out.od.kid.len
          match vs, this with
          | [v], _ => exact ⟨v, rfl⟩
        subst e7
        obtain ⟨A3, M, c3, e8⟩ : ∃ A3 M c3, v = .slice A3 M c3 := by
          obtain ⟨xs, h1, _⟩ := HRr.out.od.kid.1
          rcases h1.2 with ⟨e1, _⟩ | ⟨g', cap, _, e1, _⟩
          · exact ⟨_, _, _, e1⟩
          · exact ⟨_, _, _, e1⟩
        subst e8
        have cl : wr.cell? ⟨R, 1, none⟩ = some (.slice (some ⟨g, 0, none⟩) 1 c) := HRr.out.box.cell 1
        have d4 : wr.cell? ⟨g, 4, none⟩ = some (.slice A3 M c3) := by have := HRr.out.od.cell 4 (by omega); simpa [cells5] using this
        have HT := Lib.hid HLr.out.t
        have HF := Lib.hid HLr.out.f
        have HRW : Hid (Rw wr (fun b => True ∧ ¬ (b = w.heap.size ∨ b = w.heap.size + 1)) ks (.slice A3 M c3)) := Lib.hid (Rw.small (by
          rintro b (rfl | rfl)
          · exact ⟨_, _, HT.out, by simp⟩
          · exact ⟨_, _, HF.out, by simp⟩) (HRr.out.od.kid.1.rw (F' := fun _ => True) (fun _ _ => trivial) (fun _ _ => trivial)))
        have HBW := Lib.hid HLr.out.bel
        have t0 : wr.cell? ⟨w.heap.size, 0, none⟩ = some (.slice none 0 0) := HT.out.cell 0
        have f0 : wr.cell? ⟨w.heap.size + 1, 0, none⟩ = some (.int .i64 0) := HF.out.cell 0
        have f1 : wr.cell? ⟨w.heap.size + 1, 1, none⟩ = some (.int .i64 0) := HF.out.cell 1
        have tf := HT.out.frozen
        have ff := HF.out.frozen
        simp only [List.length_nil] at P
        clear hll hsl hsb HR h hX HRr HL HLr HXr
        go_upto_region 10 with (go_at_call 28; refine P.out.mono ?_; rintro e w1 ⟨rfl, rfl⟩)
        clear P
        go_region
        clear t0 f0 f1 tf ff cl d4
        generalize hW : World.setCell _ _ _ = W6
        have HT6 : Hid (Bk W6 w.heap.size 24 #[.slice A3 M c3]) := Lib.hid (hW ▸ ((HT.out.set_ 0 _).far (p := ⟨w.heap.size + 1, 0, none⟩) (by simp) _).far (p := ⟨w.heap.size + 1, 1, none⟩) (by simp) _)
        have HF6 : Hid (Bk W6 (w.heap.size + 1) 27 #[.int .i64 0, .int .i64 0]) := Lib.hid (hW ▸ ((HF.out.far (p := ⟨w.heap.size, 0, none⟩) (by simp) _).set_ 0 _).set_ 1 _)
        have HB6 : Hid (Below n0 w W6) := Lib.hid (hW ▸ ((HBW.out.setCell (p := ⟨w.heap.size, 0, none⟩) HN.out _).setCell (p := ⟨w.heap.size + 1, 0, none⟩) (by have := HN.out; show n0 ≤ w.heap.size + 1; omega) _).setCell (p := ⟨w.heap.size + 1, 1, none⟩) (by have := HN.out; show n0 ≤ w.heap.size + 1; omega) _)
        have HRW6 : Hid (Rw W6 (fun _ => True) ks (.slice A3 M c3)) := Lib.hid (HRW.out.stays (by rw [← hW]; simp) (fun b hb _ => ⟨trivial, by
          rw [← hW, Below.heap_setCell _ _ _ b (fun e => hb.2 (.inr e)), Below.heap_setCell _ _ _ b (fun e => hb.2 (.inr e)), Below.heap_setCell _ _ _ b (fun e => hb.2 (.inl e))]⟩))
        clear hW
        go_wp2_with fail
        refine leaves_cons (f := 26) (args := #[.pointer (some ⟨w.heap.size, 0, none⟩), .pointer (some ⟨w.heap.size + 1, 0, none⟩)]) (by simp) (by simp [go_sem]) ?_
        refine (catchT_idle _ _ _).mono ?_
        rintro e u' W7 ⟨rfl, rfl, rfl⟩
        have t0 : W6.cell? ⟨w.heap.size, 0, none⟩ = some (.slice A3 M c3) := HT6.out.cell 0
        have f0 : W6.cell? ⟨w.heap.size + 1, 0, none⟩ = some (.int .i64 0) := HF6.out.cell 0
        have f1 : W6.cell? ⟨w.heap.size + 1, 1, none⟩ = some (.int .i64 0) := HF6.out.cell 1
        have HAI : Hid (ReadIs deep l (.returned (.tuple #[.slice A3 M c3, .agg #[.int .i64 0, .int .i64 0]])) W6.drew) := Lib.hid (by
          unfold ReadIs
          rw [HE.out]
          exact ⟨_, rfl, Rw.stays (w := W6) (w' := W6.drew) (show W6.heap.size ≤ W6.drew.heap.size from Nat.le_refl _) (fun _ _ _ => ⟨trivial, rfl⟩) HRW6.out⟩)
        have HBF : Hid (Below n0 w W6.drew) := Lib.hid HB6.out.drew
        simp [Leaves, settle, results, Tryd.results17, go_sem, t0, f0, f1]
        exact ⟨HAI, HBF⟩

/-- the reader at its start -/
theorem ms_start {w : World} {n0 g R : Nat} {deep : Int} (hg : Bk w g 37 #[.bool false, .int .i64 0, .string ⟨#[]⟩, .int .i64 0, .slice none 0 0]) (hR : Bk w R 49 #[.int .i64 deep, .slice (some ⟨g, 0, none⟩) 1 1]) (h1 : n0 ≤ g) (h2 : n0 ≤ R) (h3 : g ≠ R) : ∃ X, Ms w n0 R deep ([], []) X :=
  ⟨_, g, 1, [.slice none 0 0], ⟨hR, ⟨⟨rfl, .inr ⟨g, 1, _, rfl, h1, hg, Nat.le_refl _, by decide, rfl, rfl⟩⟩, ⟨⟨[], World.ownsRow_nil _ _ _ _, rfl⟩, trivial⟩, by simp [own, List.filterMap_cons, Value.ownBlock, h3], fun b hb => by simp at hb; subst hb; exact ⟨h2, hR.lt⟩⟩⟩, rfl⟩
set_option maxRecDepth 100000 in
set_option maxHeartbeats 2000000 in
/-- tree.Read -/
theorem tread_any {w : World} {deep : Int} {A : Option Addr} {l : List Tok} {cb : Nat} (ht : Hid (Tm w w.heap.size A l)) (hl : l.length ≤ 80000000) :
    Calls Tryd.prog 7 #[.slice A l.length cb, .int .i64 deep] w fun e w' => Hid (ReadIs deep l e w') ∧ Hid (Below w.heap.size w w') := by
  obtain ⟨N, hNl⟩ : ∃ N, l.length = N := ⟨_, rfl⟩
  have HNL := Lib.hid hNl
  have hl2 := hl
  rw [hNl] at hl ⊢
  have HL2 := Lib.hid hl2
  clear hNl hl2
  obtain ⟨i0, hi, hz0, hz1, hz2⟩ := info_parts infoT
  have hmk : ∀ W : World, (Instr.makeSlice 24 (.int .i64 1) (.int .i64 1)).run Tryd.prog W = .ok (.slice (some ⟨W.heap.size, 0, none⟩) 1 1) (W.alloc (.cells #[.bool false, .int .i64 0, .string ⟨#[]⟩, .int .i64 0, .slice none 0 0] 37)) := fun W => by
    have := run_makeSlice (P := Tryd.prog) W 24 37 i0 _ Tryd.underlying24 hi hz0 .i64 .i64 1 1 (by omega) (by omega) (by rw [hz1]; decide) (by rw [hz2]; decide) (by omega)
    rw [hz1, show madeCells (Value.agg #[.bool false, .int .i64 0, .string ⟨#[]⟩, .int .i64 0, .slice none 0 0]).cells (Int.toNat 1 * 5) = #[.bool false, .int .i64 0, .string ⟨#[]⟩, .int .i64 0, .slice none 0 0] by kernel_rfl] at this
    exact this
  go_enter Tryd.func7, Tryd.ntmps7
  go_upto_region 2 with fail
  generalize hW : World.alloc _ _ = W1
  have hsz : W1.heap.size = w.heap.size + 3 := by rw [← hW]; simp
  have HF1 : Hid (Bk W1 w.heap.size 27 #[.int .i64 0, .int .i64 0]) := Lib.hid (hW ▸ ((Bk.new w _ _).alloc _).alloc _)
  have HB1 : Hid (Below w.heap.size w W1) := Lib.hid (hW ▸ (((Below.refl _ w).alloc (Nat.le_refl _) _).alloc (by simp) _).alloc (by simp; omega) _)
  have HM1 : Hid (∃ X, Ms W1 (w.heap.size + 1) (w.heap.size + 2) deep ([], []) X) := Lib.hid (by
    have h1 := (Bk.new (w.alloc (.cells #[.int .i64 0, .int .i64 0] 27)) 37 #[.bool false, .int .i64 0, .string ⟨#[]⟩, .int .i64 0, .slice none 0 0]).alloc (.cells #[.int .i64 deep, .slice (some ⟨w.heap.size + 1, 0, none⟩) 1 1] 49)
    have h2 := Bk.new ((w.alloc (.cells #[.int .i64 0, .int .i64 0] 27)).alloc (.cells #[.bool false, .int .i64 0, .string ⟨#[]⟩, .int .i64 0, .slice none 0 0] 37)) 49 #[.int .i64 deep, .slice (some ⟨w.heap.size + 1, 0, none⟩) 1 1]
    rw [hW] at h1 h2
    simp only [World.size_alloc] at h1 h2
    exact ms_start (g := w.heap.size + 1) (R := w.heap.size + 2) h1 h2 (by omega) (by omega) (by omega))
  have HT1 : Hid (Tm W1 w.heap.size A l) := Lib.hid (ht.out.below HB1.out)
  clear hW
  obtain ⟨X, hX⟩ := HM1.out
  have P : Hid (Calls Tryd.prog 17 #[.pointer (some ⟨w.heap.size + 2, 0, none⟩), .slice A N cb] W1 fun e w' => Hid (ReadIs deep l e w') ∧ Hid (Below (w.heap.size + 1) W1 w')) := Lib.hid (by
    rw [← HNL.out]
    exact tall_any (Lib.hid hX) (Lib.hid (HT1.out.mono (by omega))) (by omega) HL2.out)
  clear hX hmk HM1 HT1 HL2
  have HLT := Lib.hid HF1.out.lt
  cases hr : read deep l with
  | error er =>
    obtain ⟨code, p⟩ := er
    have HE := Lib.hid hr
    have P : Hid (Calls Tryd.prog 17 #[.pointer (some ⟨w.heap.size + 2, 0, none⟩), .slice A N cb] W1 fun e w' => e = .returned (.tuple #[.slice none 0 0, .agg #[.int .i64 (code : Int), .int .i64 p]]) ∧ Hid (Below (w.heap.size + 1) W1 w')) := Lib.hid (P.out.mono fun e w' r => ⟨by have h := r.1.out; unfold ReadIs at h; rw [HE.out] at h; exact h, r.2⟩)
    clear hr
    go_upto_block 5 with (go_at_call 17; refine P.out.mono ?_; rintro e w1 ⟨rfl, B1⟩; have HF2 := HF1.out.below B1.out (Nat.lt_succ_self _); have f0 : w1.cell? ⟨w.heap.size, 0, none⟩ = some (.int .i64 0) := HF2.cell 0; have f1 : w1.cell? ⟨w.heap.size, 1, none⟩ = some (.int .i64 0) := HF2.cell 1; have ff := HF2.frozen)
    clear f0 f1 ff
    generalize hW : World.setCell _ _ _ = W2
    have HF3 : Bk W2 w.heap.size 27 #[.int .i64 (code : Int), .int .i64 p] := hW ▸ (HF2.set_ 0 _).set_ 1 _
    have HBF : Hid (Below w.heap.size w W2) := Lib.hid (hW ▸ ((HB1.out.trans (B1.out.mono (Nat.le_succ _))).setCell (p := ⟨w.heap.size, 0, none⟩) (Nat.le_refl _) _).setCell (p := ⟨w.heap.size, 1, none⟩) (Nat.le_refl _) _)
    have e0 : W2.cell? ⟨w.heap.size, 0, none⟩ = some (.int .i64 (code : Int)) := HF3.cell 0
    have e1 : W2.cell? ⟨w.heap.size, 1, none⟩ = some (.int .i64 p) := HF3.cell 1
    clear hW
    refine bodyPost_ret (v := .tuple #[.slice none 0 0, .agg #[.int .i64 (code : Int), .int .i64 p]]) (by simp [results, Tryd.results7, go_sem, e0, e1]) rfl ⟨Lib.hid (by unfold ReadIs; rw [HE.out]), HBF⟩
  | ok ts =>
    have HE := Lib.hid hr
    have P : Hid (Calls Tryd.prog 17 #[.pointer (some ⟨w.heap.size + 2, 0, none⟩), .slice A N cb] W1 fun e w' => ∃ A3 M c3, e = .returned (.tuple #[.slice A3 M c3, .agg #[.int .i64 0, .int .i64 0]]) ∧ Hid (Rw w' (fun _ => True) ts (.slice A3 M c3)) ∧ Hid (Below (w.heap.size + 1) W1 w')) := Lib.hid (P.out.mono fun e w' r => by
      have h := r.1.out
      unfold ReadIs at h
      rw [HE.out] at h
      obtain ⟨v, h1, h2⟩ := h
      have h2' := h2
      obtain ⟨A3, c3, h3, _⟩ := h2'
      rw [h3] at h1 h2
      exact ⟨_, _, _, h1, Lib.hid h2, r.2⟩)
    clear hr
    go_upto_block 5 with (go_at_call 17; refine P.out.mono ?_; rintro e w1 ⟨A3, M, c3, rfl, HV, B1⟩; have HF2 := HF1.out.below B1.out (Nat.lt_succ_self _); have f0 : w1.cell? ⟨w.heap.size, 0, none⟩ = some (.int .i64 0) := HF2.cell 0; have f1 : w1.cell? ⟨w.heap.size, 1, none⟩ = some (.int .i64 0) := HF2.cell 1; have ff := HF2.frozen)
    clear f0 f1 ff
    generalize hW : World.setCell _ _ _ = W2
    have HF3 : Bk W2 w.heap.size 27 #[.int .i64 0, .int .i64 0] := hW ▸ (HF2.set_ 0 _).set_ 1 _
    have HV2 : Hid (Rw W2 (fun _ => True) ts (.slice A3 M c3)) := Lib.hid ((Rw.small (bad := fun b => b = w.heap.size) (by rintro b rfl; exact ⟨_, _, HF2, by simp⟩) HV.out).stays (by rw [← hW]; simp) (fun b hb _ => ⟨trivial, by rw [← hW, Below.heap_setCell _ _ _ b hb.2, Below.heap_setCell _ _ _ b hb.2]⟩))
    have HBF : Hid (Below w.heap.size w W2) := Lib.hid (hW ▸ ((HB1.out.trans (B1.out.mono (Nat.le_succ _))).setCell (p := ⟨w.heap.size, 0, none⟩) (Nat.le_refl _) _).setCell (p := ⟨w.heap.size, 1, none⟩) (Nat.le_refl _) _)
    have e0 : W2.cell? ⟨w.heap.size, 0, none⟩ = some (.int .i64 0) := HF3.cell 0
    have e1 : W2.cell? ⟨w.heap.size, 1, none⟩ = some (.int .i64 0) := HF3.cell 1
    clear hW
    refine bodyPost_ret (v := .tuple #[.slice A3 M c3, .agg #[.int .i64 0, .int .i64 0]]) (by simp [results, Tryd.results7, go_sem, e0, e1]) rfl ⟨Lib.hid (by unfold ReadIs; rw [HE.out]; exact ⟨_, rfl, HV2.out⟩), HBF⟩
end Go.Proofs.YtmnllioeaaimcaaDoor.tr
