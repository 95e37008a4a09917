/- A region that draws its order, and stores at its end into a cell that it has read: what is known of the world may be less once that store (number k) has come up. -/
import Derived.Deep.RegionHeld
import Derived.Test.YtmnllioeaaimcaaDoorRows
import Derived.Deep.QuietTactic
import Derived.Deep.LoopGhost
import Derived.Test.YtmnllioeaaimcaaDoorVd
import Derived.Test.YtmnllioeaaimcaaDoorWb
import Derived.Test.YtmnllioeaaimcaaDoorPy
namespace Go.Proofs.YtmnllioeaaimcaaDoor.tr
open Go

section
variable {P : Program} {ops : Array Oper} {Q : Exit → Act → World → Prop} {md : Region.Mode} {S : Bool → World → Prop} {k : Nat}
/-- has k not come up yet? -/
abbrev yet (k : Nat) (listed : Array Bool) : Bool := !listed.getD k true
/-- whatever order is picked from here on; S true holds till k has come up, S false then -/
def wpAnyT (P : Program) (md : Region.Mode) (ops : Array Oper) (Q : Exit → Act → World → Prop) (S : Bool → World → Prop) (k : Nat) : Nat → Array Bool → Act → World → Prop
  | 0, listed, a, w => Region.ready md ops listed = [] ∧ Q .normal a w
  | fuel + 1, listed, a, w =>
    (Region.ready md ops listed = [] → Q .normal a w) ∧
    ∀ i ∈ Region.ready md ops listed, wpOp P ops Q i (fun a' w' => S (yet k (listed.setIfInBounds i true)) w' ∧ wpAnyT P md ops Q S k fuel (listed.setIfInBounds i true) a' w') a w
theorem wpAny_of_T : ∀ (fuel : Nat) (listed : Array Bool) (a : Act) (w : World), wpAnyT P md ops Q S k fuel listed a w → wpAny P md ops Q fuel listed a w
  | 0, _, _, _, h => h
  | fuel + 1, _, _, _, h => ⟨h.1, fun i hi => wpOp_mono (fun a' w' h' => wpAny_of_T fuel _ a' w' h'.2) (h.2 i hi)⟩
/-- these wait for i, and k is one of them -/
def waits (md : Region.Mode) (ops : Array Oper) (listed : Array Bool) (i k : Nat) (D : List Nat) : Bool :=
  D.contains k && D.all fun d => !listed.getD d true && match ops[d]? with
    | some o => o.after.any fun e => Region.binds md e && (e.on == i || D.contains e.on)
    | none => false
theorem yet_other {i k : Nat} {listed : Array Bool} (h : i ≠ k) : yet k (listed.setIfInBounds i true) = yet k listed := by
  unfold yet
  rw [getD_set_ne true h]
/-- the one law of both takes -/
theorem wpAnyT_first {i : Nat} {oi : Oper} {v : Value} (hi : ops[i]? = some oi) (hsel : ∀ (j : Nat) (o : Oper) cs b, ops[j]? = some o → o.op ≠ .select cs b)
    (hQ : ∀ c a w, Q (.panic c) (a.put oi.dst v) w → Q (.panic c) a w) (hik : i ≠ k) {T : World → Prop} (Inv : Array Bool → Prop)
    (hT : ∀ listed, Inv listed → ∀ w, S (yet k listed) w → T w) (hInv : ∀ listed j, Inv listed → j ∈ Region.ready md ops listed → j ≠ i → listed.getD i true = false → Inv (listed.setIfInBounds j true)) :
    ∀ (fuel : Nat) (listed : Array Bool) (a : Act) (w : World), Inv listed →
      (∀ j oj, ops[j]? = some oj → j ≠ i → listed.getD j true = false → (∀ e ∈ oj.after, Region.binds md e = true → e.on ≠ i) → oi.apart ops oj = true) →
      i ∈ Region.ready md ops listed → YieldsIf P ops T oi v a → S (yet k listed) w →
      wpAnyT P md ops Q S k fuel (listed.setIfInBounds i true) (a.put oi.dst v) w → wpAnyT P md ops Q S k (fuel + 1) listed a w := by
  intro fuel
  induction fuel with
  | zero =>
    intro listed a w hinv _ hr hy hS H
    refine ⟨fun h => (by rw [h] at hr; cases hr), fun j hj => ?_⟩
    by_cases hji : j = i
    · subst hji; exact hy.wpOp hi (hT _ hinv _ hS) ⟨by rw [yet_other hik]; exact hS, H⟩
    · have := ready_mono hj hji
      rw [H.1] at this
      cases this
  | succ fuel ih =>
    intro listed a w hinv hfree hr hy hS H
    refine ⟨fun h => (by rw [h] at hr; cases hr), fun j hj => ?_⟩
    by_cases hji : j = i
    · subst hji; exact hy.wpOp hi (hT _ hinv _ hS) ⟨by rw [yet_other hik]; exact hS, H⟩
    · have h1 := H.2 j (ready_mono hj hji)
      obtain ⟨hjun, oj, hoj, hall⟩ := mem_ready.1 hj
      have hiun := (mem_ready.1 hr).1
      have hnot : ∀ e ∈ oj.after, Region.binds md e = true → e.on ≠ i := fun e he hb heq => by
        have h1 := hall e he hb
        rw [heq] at h1
        rcases Nat.lt_or_ge i listed.size with h' | h'
        · simp [h'] at hiun h1; rw [hiun] at h1; cases h1
        · simp [Array.getElem?_eq_none h'] at h1
      have h2 := wpOp_putIf hoj (hfree j oj hoj hji hjun hnot) (fun cs b => hsel i oi cs b hi) (fun cs b => hsel j oj cs b hoj) hQ hy h1
      have hfree' : ∀ m om, ops[m]? = some om → m ≠ i → (listed.setIfInBounds j true).getD m true = false →
          (∀ e ∈ om.after, Region.binds md e = true → e.on ≠ i) → oi.apart ops om = true := fun m om hm hmi hun hno => by
        refine hfree m om hm hmi ?_ hno
        by_cases hjm : j = m
        · subst hjm; exact hjun
        · rw [getD_set_ne true hjm] at hun; exact hun
      refine wpOp_mono (fun a' w' h3 => ?_) h2
      have hS' : S (yet k (listed.setIfInBounds j true)) w' := by
        have := h3.2.1
        rw [Array.setIfInBounds_comm _ _ (Ne.symm hji), yet_other hik] at this
        exact this
      refine ⟨hS', ih (listed.setIfInBounds j true) a' w' (hInv listed j hinv hj hji hiun) hfree' (ready_mono hr (Ne.symm hji)) h3.1 hS' ?_⟩
      rw [Array.setIfInBounds_comm _ _ hji]
      exact h3.2.2
/-- i is taken first: it yields what it yields whatever has come up -/
theorem wpAnyT_take {i : Nat} {oi : Oper} {v : Value} {fuel : Nat} {listed : Array Bool} {a : Act} {w : World} (hi : ops[i]? = some oi)
    (hs : Region.noSelect ops = true) (hf : Region.free md ops listed i = true) (hr : (Region.ready md ops listed).contains i = true) (hik : i ≠ k)
    (hQ : ∀ c a w, Q (.panic c) (a.put oi.dst v) w → Q (.panic c) a w) (hy : YieldsIf P ops (S false) oi v a) (hw : ∀ w, S true w → S false w) (hS : S (yet k listed) w)
    (h : wpAnyT P md ops Q S k fuel (listed.setIfInBounds i true) (a.put oi.dst v) w) : wpAnyT P md ops Q S k (fuel + 1) listed a w :=
  wpAnyT_first hi (Region.noSelect_spec hs) hQ hik (fun _ => True) (fun l _ w h => by cases hb : yet k l <;> rw [hb] at h; exact h; exact hw w h) (fun _ _ _ _ _ _ => trivial) fuel listed a w trivial (Region.free_spec hi hf) (by simpa using hr) hy hS h
/-- i is taken first: k waits for it -/
theorem wpAnyT_read {i : Nat} {oi : Oper} {v : Value} {fuel : Nat} {listed : Array Bool} {a : Act} {w : World} (D : List Nat) (hi : ops[i]? = some oi)
    (hs : Region.noSelect ops = true) (hf : Region.free md ops listed i = true) (hr : (Region.ready md ops listed).contains i = true) (hik : i ≠ k) (hD : waits md ops listed i k D = true)
    (hQ : ∀ c a w, Q (.panic c) (a.put oi.dst v) w → Q (.panic c) a w) (hy : YieldsIf P ops (S true) oi v a) (hS : S (yet k listed) w)
    (h : wpAnyT P md ops Q S k fuel (listed.setIfInBounds i true) (a.put oi.dst v) w) : wpAnyT P md ops Q S k (fuel + 1) listed a w := by
  simp only [waits, Bool.and_eq_true, List.all_eq_true, Bool.not_eq_true'] at hD
  obtain ⟨hk, hD⟩ := hD
  refine wpAnyT_first (T := S true) hi (Region.noSelect_spec hs) hQ hik (fun l => ∀ d ∈ D, l.getD d true = false) (fun l hl w h => ?_) (fun l j hl hj hji hiun d hd => ?_) fuel listed a w (fun d hd => (hD d hd).1) (Region.free_spec hi hf) (by simpa using hr) hy hS h
  · have : yet k l = true := by unfold yet; rw [hl k (by simpa using hk)]; rfl
    rwa [this] at h
  · have hne : j ≠ d := by
      rintro rfl
      obtain ⟨_, oj, hoj, hall⟩ := mem_ready.1 hj
      have h2 := (hD j hd).2
      rw [hoj] at h2
      simp only [Array.any_eq_true'] at h2
      obtain ⟨e, he, h3⟩ := h2
      simp only [Bool.and_eq_true, Bool.or_eq_true, beq_iff_eq] at h3
      have h4 := hall e he h3.1
      have un : l.getD e.on true = false := by
        rcases h3.2 with h5 | h5
        · rw [h5]; exact hiun
        · exact hl e.on (by simpa using h5)
      rcases Nat.lt_or_ge e.on l.size with h' | h'
      · simp [h'] at un h4; rw [un] at h4; cases h4
      · simp [Array.getElem?_eq_none h'] at h4
    rw [getD_set_ne true hne]
    exact hl d hd
/-- each of these comes up next -/
def AllReadyT (P : Program) (md : Region.Mode) (ops : Array Oper) (Q : Exit → Act → World → Prop) (S : Bool → World → Prop) (k fuel : Nat) (listed : Array Bool) (a : Act) (w : World) (rs : List Nat) : Prop :=
  ∀ i ∈ rs, wpOp P ops Q i (fun a' w' => S (yet k (listed.setIfInBounds i true)) w' ∧ wpAnyT P md ops Q S k fuel (listed.setIfInBounds i true) a' w') a w
theorem AllReadyT.nil {fuel : Nat} {listed : Array Bool} {a : Act} {w : World} : AllReadyT P md ops Q S k fuel listed a w [] := fun _ h => by cases h
theorem AllReadyT.cons {fuel : Nat} {listed : Array Bool} {a : Act} {w : World} {i : Nat} {o : Oper} {rs : List Nat} (ho : ops[i]? = some o) (b : Bool) (hb : yet k (listed.setIfInBounds i true) = b)
    (h : ∀ K' : Act → World → Prop, Shut (∀ a w, S b w → (S b w → wpAnyT P md ops Q S k fuel (listed.setIfInBounds i true) a w) → K' a w) → if Region.wanted o (yielded ops a.tmps) = true then Oper.wp P o a w K' Q else K' (a.put o.dst undef) w)
    (hs : AllReadyT P md ops Q S k fuel listed a w rs) : AllReadyT P md ops Q S k fuel listed a w (i :: rs) := fun j hj => by
  rcases List.mem_cons.1 hj with rfl | hj
  · exact wpOp_step ho (fun K' hK => h K' (fun a w hS hW => hK a w ⟨hb ▸ hS, hW hS⟩))
  · exact hs j hj
theorem wpAnyT_ready {rs : List Nat} {fuel : Nat} {listed : Array Bool} {a : Act} {w : World} (hr : Region.ready md ops listed = rs) (hne : rs ≠ [])
    (h : AllReadyT P md ops Q S k fuel listed a w rs) : wpAnyT P md ops Q S k (fuel + 1) listed a w := ⟨fun h0 => absurd (hr ▸ h0) hne, hr ▸ h⟩
theorem wpAnyT_done {listed : Array Bool} {a : Act} {w : World} (hr : Region.ready md ops listed = []) (h : Q .normal a w) : ∀ fuel, wpAnyT P md ops Q S k fuel listed a w
  | 0 => ⟨hr, h⟩
  | _ + 1 => ⟨fun _ => h, by rw [hr]; simp⟩
theorem wp_region_T {id : Nat} {a : Act} {w : World} (S : Bool → World → Prop) (k : Nat) (hm : P.follows .mixedOrders = true) (hS : S true w.drew)
    (h : S true w.drew → wpAnyT P .any ops Q S k ops.size (Array.replicate ops.size false) a w.drew) : (Code.region id ops true).wp P Q a w :=
  wp_region_any hm (wpAny_of_T _ _ _ _ (h hS))
end
end Go.Proofs.YtmnllioeaaimcaaDoor.tr

/- Package tree: its reader: the lists that are open. -/
namespace Go.Proofs.YtmnllioeaaimcaaDoor.tr
open Go Go.RowKit Go.Proofs.YtmnllioeaaimcaaDoor.tk

/-- a fault's panic -/
abbrev PanF (code p : Int) : Ending := .panicked [{ v := .iface 27 (.agg #[.int .i64 code, .int .i64 p]), recovered := false }]
/-- the reader R, and the lists that are open -/
structure Rt (w : World) (n0 R : Nat) (deep : Int) (L : List Lv) (g c : Nat) (vs : List Value) : Prop where
  box : Bk w R 49 #[.int .i64 deep, .slice (some ⟨g, 0, none⟩) L.length c]
  od : Od w n0 [R] g c L vs
section
variable {w : World} {n0 R g c : Nat} {deep : Int} {L : List Lv} {vs : List Value}
theorem Rt.alloc (h : Rt w n0 R deep L g c vs) (o : Obj) : Rt (w.alloc o) n0 R deep L g c vs := ⟨h.box.alloc o, h.od.stays (by simp) (fun b hb _ => Below.heap_alloc w o b hb)⟩
theorem Rt.same (h : Rt w n0 R deep L g c vs) {w' : World} (hb : Below w.heap.size w w') : Rt w' n0 R deep L g c vs := ⟨h.box.below hb h.box.lt, h.od.stays hb.size (fun b hl _ => hb.block b hl)⟩
theorem Rt.lt (h : Rt w n0 R deep L g c vs) : ∀ b ∈ own [R] g vs, n0 ≤ b ∧ b < w.heap.size := h.od.lt
end

set_option maxRecDepth 100000 in
set_option maxHeartbeats 1000000 in
theorem last_any {w : World} {n0 R g c : Nat} {deep : Int} {L : List Lv} {vs : List Value} (H : Hid (Rt w n0 R deep L g c vs)) {N : Nat} (hL : L.length = N + 1) (hN : N ≤ 100000000) :
    Calls Tryd.prog 28 #[.pointer (some ⟨R, 0, none⟩)] w fun e w' => e = .returned (.int .i64 (N : Int)) ∧ w = w' := by
  have hb := H.out.box
  rw [hL] at hb
  have c1 : w.cell? ⟨R, 1, none⟩ = some (.slice (some ⟨g, 0, none⟩) (N + 1) c) := hb.cell 1
  clear hb hL H
  go_enter Tryd.func28, Tryd.ntmps28
  go_wp2
  go_ret
  exact ⟨by go_num, rfl⟩
set_option maxRecDepth 100000 in
set_option maxHeartbeats 1000000 in
theorem trefuse_any {w : World} {code k p : Int} {s : ByteArray} :
    Calls Tryd.prog 29 #[.int .i64 code, .agg #[.int .i64 k, .string s, .int .i64 p]] w fun e w' => e = PanF code p ∧ Hid (Below w.heap.size w w') := by
  have HB : Hid (Below w.heap.size w (w.alloc (.cells #[.int .i64 k, .string s, .int .i64 p] 35))) := Lib.hid ((Below.refl _ _).alloc (Nat.le_refl _) _)
  go_enter Tryd.func29, Tryd.ntmps29
  go_wp2
  exact ⟨by simp, rfl, HB⟩

set_option maxRecDepth 100000 in
set_option maxHeartbeats 4000000 in
theorem put_any {w : World} {n0 R g c : Nat} {deep : Int} {x : Lv} {L : List Lv} {v : Value} {vs : List Value} (H : Hid (Rt w n0 R deep (x :: L) g c (v :: vs))) {l : Bool} {u : Tok} {ks : List Tree} {A : Option Addr} {c2 : Nat}
    (ht : Hid (Vt w (fun b => b ∉ own [R] g (v :: vs)) (.mk l u ks) [.bool l, .int .i64 u.k, .string ⟨u.s.toArray⟩, .int .i64 u.p, .slice A ks.length c2])) (hN : L.length ≤ 100000000) (hk : x.ks.length ≤ 100000000) :
    Calls Tryd.prog 39 #[.pointer (some ⟨R, 0, none⟩), .agg #[.bool l, .int .i64 u.k, .string ⟨u.s.toArray⟩, .int .i64 u.p, .slice A ks.length c2]] w fun e w' => e = .returned (.tuple #[]) ∧
      Hid (∃ v', Rt w' n0 R deep (⟨x.l, x.t, x.ks ++ [.mk l u ks]⟩ :: L) g c (v' :: vs) ∧ Sft (fun b => b ∈ own [R] g (v :: vs)) w w' ∧ ∀ b ∈ own [R] g (v' :: vs), b ∈ own [R] g (v :: vs) ∨ w.heap.size ≤ b) := by
  obtain ⟨i0, hi, hz0, hz1, hz2⟩ := info_parts infoT
  obtain ⟨N, hNl⟩ : ∃ N, L.length = N := ⟨_, rfl⟩
  have HNL := Lib.hid hNl
  rw [hNl] at hN
  clear hNl
  go_enter Tryd.func39, Tryd.ntmps39
  go_upto_region 1 with fail
  generalize hW : w.alloc _ = W0
  have HB0 : Hid (Bk W0 w.heap.size 37 #[.bool l, .int .i64 u.k, .string ⟨u.s.toArray⟩, .int .i64 u.p, .slice A ks.length c2]) := Lib.hid (hW ▸ Bk.new w _ _)
  have HR0 : Hid (Rt W0 n0 R deep (x :: L) g c (v :: vs)) := Lib.hid (hW ▸ H.out.alloc _)
  have HBL : Hid (Below w.heap.size w W0) := Lib.hid (hW ▸ (Below.refl _ _).alloc (Nat.le_refl _) _)
  clear hW
  have cl : W0.cell? ⟨R, 1, none⟩ = some (.slice (some ⟨g, 0, none⟩) (N + 1) c) := by
    have := HR0.out.box.cell 1
    simp only [List.length_cons, HNL.out] at this
    exact this
  have q1 : (N : Int) < ((N + 1 : Nat) : Int) := by omega
  have PQ : ∀ n, Calls Tryd.prog 28 #[.pointer (some ⟨R, 0, none⟩)] (W0.drewN n) fun e w'' => e = .returned (.int .i64 (N : Int)) ∧ ∃ m, w'' = W0.drewN m := fun n =>
    (last_any (w := W0.drewN n) (Lib.hid (show Rt (W0.drewN n) n0 R deep (x :: L) g c (v :: vs) from ⟨HR0.out.box.drewN n, HR0.out.od.stays (Nat.le_refl _) (fun _ _ _ => rfl)⟩)) (N := N) (by rw [List.length_cons, HNL.out]) hN).mono fun _ _ h => ⟨h.1, n, h.2.symm⟩
  go_quiet (exact PQ _)
  have HB1 : Hid (Bk (W0.drewN nq) w.heap.size 37 #[.bool l, .int .i64 u.k, .string ⟨u.s.toArray⟩, .int .i64 u.p, .slice A ks.length c2]) := Lib.hid (HB0.out.drewN nq)
  have HR1 : Hid (Rt (W0.drewN nq) n0 R deep (x :: L) g c (v :: vs)) := Lib.hid ⟨HR0.out.box.drewN nq, HR0.out.od.stays (Nat.le_refl _) (fun _ _ _ => rfl)⟩
  have HBL1 : Hid (Below w.heap.size w (W0.drewN nq)) := Lib.hid ⟨HBL.out.os, HBL.out.tape, HBL.out.output, HBL.out.size, HBL.out.block⟩
  clear PQ cl HB0 HR0 HBL
  generalize W0.drewN nq = W1 at *
  go_upto_region 2 with fail
  have HF1 : Hid (W1.cell? ⟨g, N * 5 + 4, none⟩ = some v) := Lib.hid (by have := HR1.out.od.cell 4 (by omega); rw [HNL.out] at this; exact this)
  obtain ⟨xs, hown, hav⟩ := HR1.out.od.kid.1
  obtain ⟨M, hM⟩ : ∃ M, x.ks.length = M := ⟨_, rfl⟩
  rw [hM] at hown hk
  obtain ⟨A3, c3, rfl⟩ : ∃ A3 c3, v = .slice A3 M c3 := by
    rcases hown.2 with ⟨e1, e2⟩ | ⟨g', cap, _, e1, _⟩
    · exact ⟨none, 0, by rw [e1, e2]⟩
    · exact ⟨_, _, e1⟩
  have HOWN := Lib.hid hown
  have HAV := Lib.hid hav
  have HM := Lib.hid hM
  clear hown hav hM
  obtain ⟨S, hSd⟩ : ∃ S : Bool → World → Prop, S = fun b W => b = true → W.cell? ⟨g, N * 5 + 4, none⟩ = some (.slice A3 M c3) ∧ Bk W w.heap.size 37 #[.bool l, .int .i64 u.k, .string ⟨u.s.toArray⟩, .int .i64 u.p, .slice A ks.length c2] := ⟨_, rfl⟩
  have HMO : ∀ w, S true w → S false w := by rw [hSd]; intro w _ h; cases h
  have HSP : ∀ W : World, S true W → W.cell? ⟨g, N * 5 + 4, none⟩ = some (.slice A3 M c3) ∧ Bk W w.heap.size 37 #[.bool l, .int .i64 u.k, .string ⟨u.s.toArray⟩, .int .i64 u.p, .slice A ks.length c2] := fun W h => by rw [hSd] at h; exact h rfl
  have HSM : ∀ W : World, W.cell? ⟨g, N * 5 + 4, none⟩ = some (.slice A3 M c3) ∧ Bk W w.heap.size 37 #[.bool l, .int .i64 u.k, .string ⟨u.s.toArray⟩, .int .i64 u.p, .slice A ks.length c2] → S true W := fun W h => by rw [hSd]; exact fun _ => h
  have HSF : ∀ W : World, S false W := fun W => by rw [hSd]; intro h; cases h
  clear hSd
  refine wp_region_T S 12 (by kernel_rfl) (HSM _ ⟨HF1.out, HB1.out⟩) (fun hH => ?_)
  have HR2 : Hid (Rt W1.drew n0 R deep (x :: L) g c (.slice A3 M c3 :: vs)) := Lib.hid ⟨HR1.out.box, HR1.out.od.stays (Nat.le_refl _) (fun _ _ _ => rfl)⟩
  have HB2 : Hid (Bk W1.drew w.heap.size 37 #[.bool l, .int .i64 u.k, .string ⟨u.s.toArray⟩, .int .i64 u.p, .slice A ks.length c2]) := HB1
  have HF2 : Hid (W1.drew.cell? ⟨g, N * 5 + 4, none⟩ = some (.slice A3 M c3)) := HF1
  have HOWN2 : Hid (W1.drew.ownsRow n0 37 5 (.slice A3 M c3) M xs) := HOWN
  have HAV2 : Hid (Av W1.drew (fun b => b ∉ own [R] g (.slice A3 M c3 :: vs)) x.ks xs) := Lib.hid (Av.stays (w := W1) (w' := W1.drew) (show W1.heap.size ≤ W1.drew.heap.size from Nat.le_refl _) (fun _ h _ => ⟨h, rfl⟩) HAV.out)
  have HBL2 : Hid (Below w.heap.size w W1.drew) := Lib.hid HBL1.out.drew
  clear HR1 HB1 HOWN HAV HBL1 HF1
  generalize W1.drew = W2 at *
  refine wpAnyT_take (i := 0) (v := ?_) spat0 (by kernel_rfl) (by kernel_rfl) (by kernel_rfl) (by decide) (fun _ _ _ h => h) (Or.inl ⟨by rfl, ?_⟩) HMO hH ?_
  rotate_left
  · (intro w hSw; clear hSw; go_simp; (try with_reducible rfl))
  (try simp only [Act.put, List.setIfInBounds_toArray, List.set_cons_zero, List.set_cons_succ])
  refine wpAnyT_take (i := 1) (v := ?_) spat1 (by kernel_rfl) (by kernel_rfl) (by kernel_rfl) (by decide) (fun _ _ _ h => h) (Or.inl ⟨by rfl, ?_⟩) HMO hH ?_
  rotate_left
  · (intro w hSw; clear hSw; go_simp; (try with_reducible rfl))
  (try simp only [Act.put, List.setIfInBounds_toArray, List.set_cons_zero, List.set_cons_succ])
  refine wpAnyT_take (i := 2) (v := ?_) spat2 (by kernel_rfl) (by kernel_rfl) (by kernel_rfl) (by decide) (fun _ _ _ h => h) (Or.inl ⟨by rfl, ?_⟩) HMO hH ?_
  rotate_left
  · (intro w hSw; clear hSw; go_simp; (try with_reducible rfl))
  (try simp only [Act.put, List.setIfInBounds_toArray, List.set_cons_zero, List.set_cons_succ])
  refine wpAnyT_read (i := 3) (v := ?_) [12] spat3 (by kernel_rfl) (by kernel_rfl) (by kernel_rfl) (by decide) (by kernel_rfl) (fun _ _ _ h => h) (Or.inl ⟨by rfl, ?_⟩) hH ?_
  rotate_left
  · (intro w hSw; obtain ⟨hf, hb⟩ := HSP _ hSw; have b0 := hb.cell 0; have b1 := hb.cell 1; have b2 := hb.cell 2; have b3 := hb.cell 3; have b4 := hb.cell 4; clear hb hSw; go_simp; (try with_reducible rfl))
  (try simp only [Act.put, List.setIfInBounds_toArray, List.set_cons_zero, List.set_cons_succ])
  refine wpAnyT_read (i := 4) (v := ?_) [12] spat4 (by kernel_rfl) (by kernel_rfl) (by kernel_rfl) (by decide) (by kernel_rfl) (fun _ _ _ h => h) (Or.inl ⟨by rfl, ?_⟩) hH ?_
  rotate_left
  · (intro w hSw; obtain ⟨hf, hb⟩ := HSP _ hSw; have b0 := hb.cell 0; have b1 := hb.cell 1; have b2 := hb.cell 2; have b3 := hb.cell 3; have b4 := hb.cell 4; clear hb hSw; go_simp; (try with_reducible rfl))
  (try simp only [Act.put, List.setIfInBounds_toArray, List.set_cons_zero, List.set_cons_succ])
  refine wpAnyT_take (i := 5) (v := ?_) spat5 (by kernel_rfl) (by kernel_rfl) (by kernel_rfl) (by decide) (fun _ _ _ h => h) (Or.inl ⟨by rfl, ?_⟩) HMO hH ?_
  rotate_left
  · (intro w hSw; clear hSw; go_simp; (try with_reducible rfl))
  (try simp only [Act.put, List.setIfInBounds_toArray, List.set_cons_zero, List.set_cons_succ])
  refine wpAnyT_ready (rs := [6]) (by kernel_rfl) (by simp) ?_
  refine AllReadyT.cons spat6 true (by kernel_rfl) (fun K hK => ?_) AllReadyT.nil
  go_simp
  refine hK.out _ _ (HSM _ ⟨(World.cell?_alloc_lt _ _ _ (HR2.out.lt g (by simp)).2).trans HF2.out, HB2.out.alloc _⟩) (fun hH => ?_)
  clear hK K
  (try simp only [Act.put, List.setIfInBounds_toArray, List.set_cons_zero, List.set_cons_succ])
  refine wpAnyT_ready (rs := [7]) (by kernel_rfl) (by simp) ?_
  refine AllReadyT.cons spat7 true (by kernel_rfl) (fun K hK => ?_) AllReadyT.nil
  refine step_append_lies _ rfl _ _ 24 rfl n0 37 i0 _ 5 64 Tryd.underlying24 hi hz0 hz1 hz2 rfl (by decide) (.slice A3 M c3) M xs rfl (HOWN2.out.alloc _) ⟨W2.heap.size, 0, none⟩ 1 1 [.bool false, .int .i64 0, .string ⟨#[]⟩, .int .i64 0, .slice none 0 0] rfl rfl ?c1 ?c2 (by decide) ?c3 ?c4 ?c5 _ rfl ?_
  case c1 => exact new5 W2 _ _ _ _ _ _
  case c2 => exact fun q hq => five_one hq rfl rfl rfl rfl rfl
  case c3 => unfold maxLen; omega
  case c4 => omega
  case c5 => have := (HR2.out.lt g (by simp)); simp; omega
  intro g' c' W3 hown hgrow hat hlt
  have HS3 : Hid (Sft (fun b => (Value.slice A3 M c3).ownBlock = some b) W2 W3) := Lib.hid ((Sft.alloc _ W2 _).trans (Sft.of_grown hgrow (fun r e => e)) (fun _ h => .inl h))
  have H3 : Hid ((Value.slice A3 M c3).ownBlock = some g' ∨ W2.heap.size ≤ g') := Lib.hid (hat.imp id (fun e => by rw [e]; simp))
  have HG : Hid (g ≠ g' ∧ w.heap.size ≠ g') := Lib.hid (by
    have h1 := (HR2.out.lt g (by simp)).2
    have h2 := HBL2.out.size
    have h4 := HB2.out.lt
    rcases H3.out with h3 | h3
    · have h5 := (H.out.lt g' (H.out.od.vmem g' h3)).2
      exact ⟨fun e => (HR2.out.od.vne g' h3).1 e.symm, by omega⟩
    · exact ⟨by omega, by omega⟩)
  have HOWN3 := Lib.hid hown
  have HB3 : Hid (Bk W3 w.heap.size 37 #[.bool l, .int .i64 u.k, .string ⟨u.s.toArray⟩, .int .i64 u.p, .slice A ks.length c2]) := Lib.hid ((HS3.out.block _ HB2.out.lt (fun e => by have := (H.out.lt _ (H.out.od.vmem _ e)).2; omega)).trans HB2.out)
  have hgv : (Value.slice A3 M c3).ownBlock ≠ some g := fun e => (HR2.out.od.vne g e).1 rfl
  have hg3 : W3.heap[g]? = W2.heap[g]? := HS3.out.block g (HR2.out.lt g (by simp)).2 hgv
  have HF3 : Hid (W3.cell? ⟨g, N * 5 + 4, none⟩ = some (.slice A3 M c3)) := Lib.hid ((World.cell?_of_block hg3).trans HF2.out)
  have HZ3 : Hid (W3.frozen? ⟨g, N * 5 + 4, none⟩ = false) := Lib.hid ((World.frozen?_of_block hg3).trans (HR2.out.od.frozen _))
  have HLT3 : Hid (g < W3.heap.size ∧ g' < W3.heap.size) := Lib.hid ⟨Nat.lt_of_lt_of_le (HR2.out.lt g (by simp)).2 HS3.out.size, hlt⟩
  refine hK.out _ _ (HSM _ ⟨HF3.out, HB3.out⟩) (fun hH => ?_)
  clear hK K hgrow hat hown hgv hg3 hlt
  (try simp only [Act.put, List.setIfInBounds_toArray, List.set_cons_zero, List.set_cons_succ])
  have q3 : (M : Int) < (M : Int) + 1 := by omega
  refine wpAnyT_take (i := 8) (v := ?_) spat8 (by kernel_rfl) (by kernel_rfl) (by kernel_rfl) (by decide) (fun _ _ _ h => h) (Or.inl ⟨by rfl, ?_⟩) HMO hH ?_
  rotate_left
  · (intro w hSw; clear hSw; go_simp; (try with_reducible rfl))
  (try simp only [Act.put, List.setIfInBounds_toArray, List.set_cons_zero, List.set_cons_succ])
  refine wpAnyT_take (i := 10) (v := ?_) spat10 (by kernel_rfl) (by kernel_rfl) (by kernel_rfl) (by decide) (fun _ _ _ h => h) (Or.inl ⟨by rfl, ?_⟩) HMO hH ?_
  rotate_left
  · (intro w hSw; clear hSw; go_simp; (try with_reducible rfl))
  (try simp only [Act.put, List.setIfInBounds_toArray, List.set_cons_zero, List.set_cons_succ])
  refine wpAnyT_take (i := 11) (v := ?_) spat11 (by kernel_rfl) (by kernel_rfl) (by kernel_rfl) (by decide) (fun _ _ _ h => h) (Or.inl ⟨by rfl, ?_⟩) HMO hH ?_
  rotate_left
  · (intro w hSw; clear hSw; go_simp; (try with_reducible rfl))
  (try simp only [Act.put, List.setIfInBounds_toArray, List.set_cons_zero, List.set_cons_succ])
  have HP5 := Lib.hid (own_put5 HOWN3.out (.bool l) (.int .i64 u.k) (.string ⟨u.s.toArray⟩) (.int .i64 u.p) (.slice A ks.length c2))
  have HPUT : Hid (Od ((put5 W3 g' (M * 5) (.bool l) (.int .i64 u.k) (.string ⟨u.s.toArray⟩) (.int .i64 u.p) (.slice A ks.length c2)).setCell ⟨g, N * 5 + 4, none⟩ (.slice (some ⟨g', 0, none⟩) (M + 1) c')) n0 [R] g c (⟨x.l, x.t, x.ks ++ [.mk l u ks]⟩ :: L) ((.slice (some ⟨g', 0, none⟩) (M + 1) c') :: vs) ∧ Sft (fun b => b ∈ own [R] g (.slice A3 M c3 :: vs)) W2 ((put5 W3 g' (M * 5) (.bool l) (.int .i64 u.k) (.string ⟨u.s.toArray⟩) (.int .i64 u.p) (.slice A ks.length c2)).setCell ⟨g, N * 5 + 4, none⟩ (.slice (some ⟨g', 0, none⟩) (M + 1) c')) ∧ ∀ b ∈ own [R] g ((.slice (some ⟨g', 0, none⟩) (M + 1) c') :: vs), b ∈ own [R] g (.slice A3 M c3 :: vs) ∨ W2.heap.size ≤ b) := Lib.hid (by
    have h := HR2.out.od.put (w2 := (put5 W3 g' (M * 5) (.bool l) (.int .i64 u.k) (.string ⟨u.s.toArray⟩) (.int .i64 u.p) (.slice A ks.length c2)).setCell ⟨g, L.length * 5 + 4, none⟩ (.slice (some ⟨g', 0, none⟩) (x.ks.length + 1) c')) (t := .mk l u ks) HAV2.out (Vt.stays HBL2.out.size (fun b hb hl => ⟨hb, HBL2.out.block b hl⟩) _ ht.out) (by rw [HM.out]; exact HP5.out.1) (psft HS3.out HOWN3.out H3.out) H3.out rfl
    rw [HNL.out, HM.out] at h
    exact h)
  have HRG : Hid (R ≠ g ∧ R ≠ g' ∧ R < W2.heap.size) := Lib.hid (by
    have hd := (List.nodup_cons.1 HR2.out.od.dis).1
    have hl := (HR2.out.lt R (by simp)).2
    refine ⟨fun e => hd (List.mem_append.2 (.inr (by simp [e]))), fun e => ?_, hl⟩
    rcases H3.out with h3 | h3
    · exact (HR2.out.od.vne g' h3).2 (by simp [e])
    · omega)
  have HBOX : Hid (Bk ((put5 W3 g' (M * 5) (.bool l) (.int .i64 u.k) (.string ⟨u.s.toArray⟩) (.int .i64 u.p) (.slice A ks.length c2)).setCell ⟨g, N * 5 + 4, none⟩ (.slice (some ⟨g', 0, none⟩) (M + 1) c')) R 49 #[.int .i64 deep, .slice (some ⟨g, 0, none⟩) (L.length + 1) c]) := Lib.hid ((Below.heap_setCell _ _ _ R HRG.out.1).trans ((HP5.out.2.block R (Nat.lt_of_lt_of_le HRG.out.2.2 HS3.out.size) HRG.out.2.1).trans ((HS3.out.block R HRG.out.2.2 (fun e => (HR2.out.od.vne R e).2 (by simp))).trans HR2.out.box)))
  have HEND : Hid (∃ v', Rt ((put5 W3 g' (M * 5) (.bool l) (.int .i64 u.k) (.string ⟨u.s.toArray⟩) (.int .i64 u.p) (.slice A ks.length c2)).setCell ⟨g, N * 5 + 4, none⟩ (.slice (some ⟨g', 0, none⟩) (M + 1) c')) n0 R deep (⟨x.l, x.t, x.ks ++ [.mk l u ks]⟩ :: L) g c (v' :: vs) ∧ Sft (fun b => b ∈ own [R] g (.slice A3 M c3 :: vs)) w ((put5 W3 g' (M * 5) (.bool l) (.int .i64 u.k) (.string ⟨u.s.toArray⟩) (.int .i64 u.p) (.slice A ks.length c2)).setCell ⟨g, N * 5 + 4, none⟩ (.slice (some ⟨g', 0, none⟩) (M + 1) c')) ∧ ∀ b ∈ own [R] g (v' :: vs), b ∈ own [R] g (.slice A3 M c3 :: vs) ∨ w.heap.size ≤ b) := Lib.hid (by
    obtain ⟨p1, p2, p3⟩ := HPUT.out
    have s0 : Sft (fun b => b ∈ own [R] g (.slice A3 M c3 :: vs)) w W2 := ⟨HBL2.out.os, HBL2.out.tape, HBL2.out.output, HBL2.out.size, fun b hb _ => HBL2.out.block b hb⟩
    exact ⟨_, ⟨HBOX.out, p1⟩, s0.trans p2 (fun _ h => .inl h), fun b hb => (p3 b hb).imp id (fun h => Nat.le_trans HBL2.out.size h)⟩)
  have HG9 : Hid ((put5 W3 g' (M * 5) (.bool l) (.int .i64 u.k) (.string ⟨u.s.toArray⟩) (.int .i64 u.p) (.slice A ks.length c2)).heap[g]? = W3.heap[g]?) := Lib.hid (HP5.out.2.block g HLT3.out.1 HG.out.1)
  have HF9 : Hid ((put5 W3 g' (M * 5) (.bool l) (.int .i64 u.k) (.string ⟨u.s.toArray⟩) (.int .i64 u.p) (.slice A ks.length c2)).cell? ⟨g, N * 5 + 4, none⟩ = some (.slice A3 M c3)) := Lib.hid ((World.cell?_of_block (a := ⟨g, N * 5 + 4, none⟩) HG9.out).trans HF3.out)
  have HZ9 : Hid ((put5 W3 g' (M * 5) (.bool l) (.int .i64 u.k) (.string ⟨u.s.toArray⟩) (.int .i64 u.p) (.slice A ks.length c2)).frozen? ⟨g, N * 5 + 4, none⟩ = false) := Lib.hid ((World.frozen?_of_block (a := ⟨g, N * 5 + 4, none⟩) HG9.out).trans HZ3.out)
  have HB9 : Hid (Bk (put5 W3 g' (M * 5) (.bool l) (.int .i64 u.k) (.string ⟨u.s.toArray⟩) (.int .i64 u.p) (.slice A ks.length c2)) w.heap.size 37 #[.bool l, .int .i64 u.k, .string ⟨u.s.toArray⟩, .int .i64 u.p, .slice A ks.length c2]) := Lib.hid ((HP5.out.2.block w.heap.size HB3.out.lt HG.out.2).trans HB3.out)
  have HS9 : Hid (S true (put5 W3 g' (M * 5) (.bool l) (.int .i64 u.k) (.string ⟨u.s.toArray⟩) (.int .i64 u.p) (.slice A ks.length c2))) := Lib.hid (HSM _ ⟨HF9.out, HB9.out⟩)
  clear HPUT HBOX HRG HAV2 HB2 HF2 HOWN2 HR2 HS3 H3 ht H HM HNL HBL2
  refine wpAnyT_ready (rs := [9, 12]) (by kernel_rfl) (by simp) ?_
  refine AllReadyT.cons spat9 true (by kernel_rfl) (fun K hK => ?_) ?_
  · have e0 : W3.cell? ⟨g', M * 5, none⟩ = some (.bool false) := own_last HOWN3.out 0 (by omega)
    have e1 : W3.cell? ⟨g', M * 5 + 1, none⟩ = some (.int .i64 0) := own_last HOWN3.out 1 (by omega)
    have e2 : W3.cell? ⟨g', M * 5 + 2, none⟩ = some (.string ⟨#[]⟩) := own_last HOWN3.out 2 (by omega)
    have e3 : W3.cell? ⟨g', M * 5 + 3, none⟩ = some (.int .i64 0) := own_last HOWN3.out 3 (by omega)
    have e4 : W3.cell? ⟨g', M * 5 + 4, none⟩ = some (.slice none 0 0) := own_last HOWN3.out 4 (by omega)
    have ef := fun j => HOWN3.out.frozenAt j
    go_simp
    clear e0 e1 e2 e3 e4 ef HP5 HG9 HB9 hH
    revert HEND HF9 HZ9 HS9
    unfold put5
    generalize World.setCell (World.setCell (World.setCell (World.setCell (World.setCell W3 _ _) _ _) _ _) _ _) _ _ = W9
    intro HEND HF9 HZ9 HS9
    refine hK.out _ _ HS9.out (fun hH => ?_)
    clear hK K
    (try simp only [Act.put, List.setIfInBounds_toArray, List.set_cons_zero, List.set_cons_succ])
    have hF9 := HF9.out
    have hZ9 := HZ9.out
    refine wpAnyT_ready (rs := [12]) (by kernel_rfl) (by simp) ?_
    refine AllReadyT.cons spat12 false (by kernel_rfl) (fun K hK => ?_) AllReadyT.nil
    go_simp
    refine hK.out _ _ (HSF _) (fun hH => ?_)
    clear hK K hF9 hZ9
    (try simp only [Act.put, List.setIfInBounds_toArray, List.set_cons_zero, List.set_cons_succ])
    refine wpAnyT_done (by kernel_rfl) ?_ _
    (try go_wp2)
    go_end0
    exact ⟨rfl, HEND⟩
  refine AllReadyT.cons spat12 false (by kernel_rfl) (fun K hK => ?_) AllReadyT.nil
  have hF9 := HF3.out
  have hZ9 := HZ3.out
  go_simp
  refine hK.out _ _ (HSF _) (fun hH => ?_)
  clear hK K hF9 hZ9
  (try simp only [Act.put, List.setIfInBounds_toArray, List.set_cons_zero, List.set_cons_succ])
  have ho := fun i (hi : i < 5) => (World.cell?_of_block (Below.heap_setCell W3 ⟨g, N * 5 + 4, none⟩ (.slice (some ⟨g', 0, none⟩) (M + 1) c') g' (Ne.symm HG.out.1))).trans (own_last HOWN3.out i hi)
  have hf := fun j => (World.frozen?_of_block (w := W3) (w' := W3.setCell ⟨g, N * 5 + 4, none⟩ (.slice (some ⟨g', 0, none⟩) (M + 1) c')) (a := ⟨g', j, none⟩) (Below.heap_setCell W3 ⟨g, N * 5 + 4, none⟩ (.slice (some ⟨g', 0, none⟩) (M + 1) c') g' (Ne.symm HG.out.1))).trans (HOWN3.out.frozenAt j)
  rw [← put5_swap _ HG.out.1] at HEND
  have h0 := ho 0 (by omega)
  have h1 := ho 1 (by omega)
  have h2 := ho 2 (by omega)
  have h3 := ho 3 (by omega)
  have h4 := ho 4 (by omega)
  simp only [List.getElem?_cons_zero, List.getElem?_cons_succ, Nat.add_zero] at h0 h1 h2 h3 h4
  clear ho HP5 HG9 HF9 HZ9 HB9 HS9
  revert HEND h0 h1 h2 h3 h4 hf
  generalize World.setCell W3 _ _ = W9
  intro HEND h0 h1 h2 h3 h4 hf
  refine wpAnyT_ready (rs := [9]) (by kernel_rfl) (by simp) ?_
  refine AllReadyT.cons spat9 false (by kernel_rfl) (fun K hK => ?_) AllReadyT.nil
  go_simp
  refine hK.out _ _ (HSF _) (fun hH => ?_)
  clear hK K h0 h1 h2 h3 h4 hf
  (try simp only [Act.put, List.setIfInBounds_toArray, List.set_cons_zero, List.set_cons_succ])
  refine wpAnyT_done (by kernel_rfl) ?_ _
  (try go_wp2)
  go_end0
  exact ⟨rfl, HEND⟩
end Go.Proofs.YtmnllioeaaimcaaDoor.tr

/- Package tree: its reader: a list is opened, and closed. -/
namespace Go.Proofs.YtmnllioeaaimcaaDoor.tr
open Go Go.RowKit Go.Proofs.YtmnllioeaaimcaaDoor.tk

/-- behind the opening of a list -/
def OpenEnd (w w' : World) (n0 R : Nat) (deep : Int) (L : List Lv) (g : Nat) (vs : List Value) (t : Tok) : Prop :=
  ∃ G C, Rt w' n0 R deep (⟨true, t, []⟩ :: L) G C (.slice none 0 0 :: vs) ∧ Sft (fun b => b ∈ own [R] g vs) w w' ∧ ∀ b ∈ own [R] G (.slice none 0 0 :: vs), b ∈ own [R] g vs ∨ w.heap.size ≤ b
set_option maxRecDepth 100000 in
set_option maxHeartbeats 4000000 in
theorem open_bad {w : World} {n0 R g c N : Nat} {deep : Int} {L : List Lv} {vs : List Value} (H : Hid (Rt w n0 R deep L g c vs)) {t : Tok} (hNl : L.length = N + 1) (hN : N ≤ 100000000) (hd : deep ≤ (N : Int)) :
    Calls Tryd.prog 37 #[.pointer (some ⟨R, 0, none⟩), tokV t] w fun e w' => e = PanF 4 t.p ∧ Hid (Below w.heap.size w w') := by
  unfold tokV
  have HNL := Lib.hid hNl
  clear hNl
  go_enter Tryd.func37, Tryd.ntmps37
  go_upto_region 1 with fail
  generalize hW : w.alloc _ = W0
  have HB0 : Hid (Bk W0 w.heap.size 35 #[.int .i64 t.k, .string ⟨t.s.toArray⟩, .int .i64 t.p]) := Lib.hid (hW ▸ Bk.new w _ _)
  have HR0 : Hid (Rt W0 n0 R deep L g c vs) := Lib.hid (hW ▸ H.out.alloc _)
  have HBL : Hid (Below w.heap.size w W0) := Lib.hid (hW ▸ (Below.refl _ _).alloc (Nat.le_refl _) _)
  clear hW
  have c0 : W0.cell? ⟨R, 0, none⟩ = some (.int .i64 deep) := HR0.out.box.cell 0
  have PQ : ∀ n, Calls Tryd.prog 28 #[.pointer (some ⟨R, 0, none⟩)] (W0.drewN n) fun e w'' => e = .returned (.int .i64 (N : Int)) ∧ ∃ m, w'' = W0.drewN m := fun n =>
    (last_any (w := W0.drewN n) (Lib.hid (show Rt (W0.drewN n) n0 R deep L g c vs from ⟨HR0.out.box.drewN n, HR0.out.od.stays (Nat.le_refl _) (fun _ _ _ => rfl)⟩)) (N := N) HNL.out hN).mono fun _ _ h => ⟨h.1, n, h.2.symm⟩
  go_quiet (exact PQ _)
  have HB1 : Hid (Bk (W0.drewN nq) w.heap.size 35 #[.int .i64 t.k, .string ⟨t.s.toArray⟩, .int .i64 t.p]) := Lib.hid (HB0.out.drewN nq)
  have HBL1 : Hid (Below w.heap.size w (W0.drewN nq)) := Lib.hid ⟨HBL.out.os, HBL.out.tape, HBL.out.output, HBL.out.size, HBL.out.block⟩
  clear PQ c0 HB0 HR0 HBL
  generalize W0.drewN nq = W1 at *
  have b0 := HB1.out.cell 0
  have b1 := HB1.out.cell 1
  have b2 := HB1.out.cell 2
  go_wp2_with (go_at_call 29; refine trefuse_any.mono ?_; rintro e w2 ⟨rfl, hb⟩)
  refine ⟨by simp, rfl, Lib.hid (HBL1.out.trans (hb.out.mono HBL1.out.size))⟩
set_option maxRecDepth 100000 in
set_option maxHeartbeats 4000000 in
theorem open_any {w : World} {n0 R g c N : Nat} {deep : Int} {L : List Lv} {vs : List Value} (H : Hid (Rt w n0 R deep L g c vs)) {t : Tok} (hNl : L.length = N + 1) (hN : N ≤ 100000000) (hd : ¬ deep ≤ (N : Int)) :
    Calls Tryd.prog 37 #[.pointer (some ⟨R, 0, none⟩), tokV t] w fun e w' => e = .returned (.tuple #[]) ∧
      Hid (OpenEnd w w' n0 R deep L g vs t) := by
  obtain ⟨i0, hi, hz0, hz1, hz2⟩ := info_parts infoT
  unfold tokV
  have HNL := Lib.hid hNl
  clear hNl
  go_enter Tryd.func37, Tryd.ntmps37
  go_upto_region 1 with fail
  generalize hW : w.alloc _ = W0
  have HB0 : Hid (Bk W0 w.heap.size 35 #[.int .i64 t.k, .string ⟨t.s.toArray⟩, .int .i64 t.p]) := Lib.hid (hW ▸ Bk.new w _ _)
  have HR0 : Hid (Rt W0 n0 R deep L g c vs) := Lib.hid (hW ▸ H.out.alloc _)
  have HBL : Hid (Below w.heap.size w W0) := Lib.hid (hW ▸ (Below.refl _ _).alloc (Nat.le_refl _) _)
  clear hW
  have c0 : W0.cell? ⟨R, 0, none⟩ = some (.int .i64 deep) := HR0.out.box.cell 0
  have PQ : ∀ n, Calls Tryd.prog 28 #[.pointer (some ⟨R, 0, none⟩)] (W0.drewN n) fun e w'' => e = .returned (.int .i64 (N : Int)) ∧ ∃ m, w'' = W0.drewN m := fun n =>
    (last_any (w := W0.drewN n) (Lib.hid (show Rt (W0.drewN n) n0 R deep L g c vs from ⟨HR0.out.box.drewN n, HR0.out.od.stays (Nat.le_refl _) (fun _ _ _ => rfl)⟩)) (N := N) HNL.out hN).mono fun _ _ h => ⟨h.1, n, h.2.symm⟩
  go_quiet (exact PQ _)
  have HB1 : Hid (Bk (W0.drewN nq) w.heap.size 35 #[.int .i64 t.k, .string ⟨t.s.toArray⟩, .int .i64 t.p]) := Lib.hid (HB0.out.drewN nq)
  have HR1 : Hid (Rt (W0.drewN nq) n0 R deep L g c vs) := Lib.hid ⟨HR0.out.box.drewN nq, HR0.out.od.stays (Nat.le_refl _) (fun _ _ _ => rfl)⟩
  have HBL1 : Hid (Below w.heap.size w (W0.drewN nq)) := Lib.hid ⟨HBL.out.os, HBL.out.tape, HBL.out.output, HBL.out.size, HBL.out.block⟩
  clear PQ c0 HB0 HR0 HBL
  generalize W0.drewN nq = W1 at *
  go_upto_region 3 with fail
  have HF1 : Hid (W1.cell? ⟨R, 1, none⟩ = some (.slice (some ⟨g, 0, none⟩) (N + 1) c)) := Lib.hid (by have := HR1.out.box.cell 1; rw [HNL.out] at this; exact this)
  have HROW : Hid (W1.ownsRow n0 37 5 (.slice (some ⟨g, 0, none⟩) (N + 1) c) (N + 1) (rowOf L vs)) := Lib.hid (by have := HR1.out.od.row; rw [HNL.out] at this; exact this)
  obtain ⟨S, hSd⟩ : ∃ S : Bool → World → Prop, S = fun b W => b = true → W.cell? ⟨R, 1, none⟩ = some (.slice (some ⟨g, 0, none⟩) (N + 1) c) ∧ Bk W w.heap.size 35 #[.int .i64 t.k, .string ⟨t.s.toArray⟩, .int .i64 t.p] := ⟨_, rfl⟩
  have HMO : ∀ w, S true w → S false w := by rw [hSd]; intro w _ h; cases h
  have HSP : ∀ W : World, S true W → W.cell? ⟨R, 1, none⟩ = some (.slice (some ⟨g, 0, none⟩) (N + 1) c) ∧ Bk W w.heap.size 35 #[.int .i64 t.k, .string ⟨t.s.toArray⟩, .int .i64 t.p] := fun W h => by rw [hSd] at h; exact h rfl
  have HSM : ∀ W : World, W.cell? ⟨R, 1, none⟩ = some (.slice (some ⟨g, 0, none⟩) (N + 1) c) ∧ Bk W w.heap.size 35 #[.int .i64 t.k, .string ⟨t.s.toArray⟩, .int .i64 t.p] → S true W := fun W h => by rw [hSd]; exact fun _ => h
  have HSF : ∀ W : World, S false W := fun W => by rw [hSd]; intro h; cases h
  clear hSd
  refine wp_region_T S 13 (by kernel_rfl) (HSM _ ⟨HF1.out, HB1.out⟩) (fun hH => ?_)
  have HR2 : Hid (Rt W1.drew n0 R deep L g c vs) := Lib.hid ⟨HR1.out.box, HR1.out.od.stays (Nat.le_refl _) (fun _ _ _ => rfl)⟩
  have HB2 : Hid (Bk W1.drew w.heap.size 35 #[.int .i64 t.k, .string ⟨t.s.toArray⟩, .int .i64 t.p]) := HB1
  have HF2 : Hid (W1.drew.cell? ⟨R, 1, none⟩ = some (.slice (some ⟨g, 0, none⟩) (N + 1) c)) := HF1
  have HROW2 : Hid (W1.drew.ownsRow n0 37 5 (.slice (some ⟨g, 0, none⟩) (N + 1) c) (N + 1) (rowOf L vs)) := HROW
  have HBL2 : Hid (Below w.heap.size w W1.drew) := Lib.hid HBL1.out.drew
  clear HR1 HB1 HROW HBL1 HF1
  generalize W1.drew = W2 at *
  refine wpAnyT_take (i := 0) (v := ?_) spat0 (by kernel_rfl) (by kernel_rfl) (by kernel_rfl) (by decide) (fun _ _ _ h => h) (Or.inl ⟨by rfl, ?_⟩) HMO hH ?_
  rotate_left
  · (intro w hSw; clear hSw; go_simp; (try with_reducible rfl))
  (try simp only [Act.put, List.setIfInBounds_toArray, List.set_cons_zero, List.set_cons_succ])
  refine wpAnyT_take (i := 1) (v := ?_) spat1 (by kernel_rfl) (by kernel_rfl) (by kernel_rfl) (by decide) (fun _ _ _ h => h) (Or.inl ⟨by rfl, ?_⟩) HMO hH ?_
  rotate_left
  · (intro w hSw; clear hSw; go_simp; (try with_reducible rfl))
  (try simp only [Act.put, List.setIfInBounds_toArray, List.set_cons_zero, List.set_cons_succ])
  refine wpAnyT_take (i := 2) (v := ?_) spat2 (by kernel_rfl) (by kernel_rfl) (by kernel_rfl) (by decide) (fun _ _ _ h => h) (Or.inl ⟨by rfl, ?_⟩) HMO hH ?_
  rotate_left
  · (intro w hSw; clear hSw; go_simp; (try with_reducible rfl))
  (try simp only [Act.put, List.setIfInBounds_toArray, List.set_cons_zero, List.set_cons_succ])
  refine wpAnyT_read (i := 3) (v := ?_) [13] spat3 (by kernel_rfl) (by kernel_rfl) (by kernel_rfl) (by decide) (by kernel_rfl) (fun _ _ _ h => h) (Or.inl ⟨by rfl, ?_⟩) hH ?_
  rotate_left
  · (intro w hSw; obtain ⟨hf, hb⟩ := HSP _ hSw; have b0 := hb.cell 0; have b1 := hb.cell 1; have b2 := hb.cell 2; clear hb hSw; go_simp; (try with_reducible rfl))
  (try simp only [Act.put, List.setIfInBounds_toArray, List.set_cons_zero, List.set_cons_succ])
  refine wpAnyT_read (i := 4) (v := ?_) [13] spat4 (by kernel_rfl) (by kernel_rfl) (by kernel_rfl) (by decide) (by kernel_rfl) (fun _ _ _ h => h) (Or.inl ⟨by rfl, ?_⟩) hH ?_
  rotate_left
  · (intro w hSw; obtain ⟨hf, hb⟩ := HSP _ hSw; have b0 := hb.cell 0; have b1 := hb.cell 1; have b2 := hb.cell 2; clear hb hSw; go_simp; (try with_reducible rfl))
  (try simp only [Act.put, List.setIfInBounds_toArray, List.set_cons_zero, List.set_cons_succ])
  refine wpAnyT_take (i := 5) (v := ?_) spat5 (by kernel_rfl) (by kernel_rfl) (by kernel_rfl) (by decide) (fun _ _ _ h => h) (Or.inl ⟨by rfl, ?_⟩) HMO hH ?_
  rotate_left
  · (intro w hSw; clear hSw; go_simp; (try with_reducible rfl))
  (try simp only [Act.put, List.setIfInBounds_toArray, List.set_cons_zero, List.set_cons_succ])
  refine wpAnyT_take (i := 6) (v := ?_) spat6 (by kernel_rfl) (by kernel_rfl) (by kernel_rfl) (by decide) (fun _ _ _ h => h) (Or.inl ⟨by rfl, ?_⟩) HMO hH ?_
  rotate_left
  · (intro w hSw; clear hSw; go_simp; (try with_reducible rfl))
  (try simp only [Act.put, List.setIfInBounds_toArray, List.set_cons_zero, List.set_cons_succ])
  refine wpAnyT_ready (rs := [7]) (by kernel_rfl) (by simp) ?_
  refine AllReadyT.cons spat7 true (by kernel_rfl) (fun K hK => ?_) AllReadyT.nil
  go_simp
  refine hK.out _ _ (HSM _ ⟨(World.cell?_alloc_lt _ _ _ (HR2.out.lt R (by simp)).2).trans HF2.out, HB2.out.alloc _⟩) (fun hH => ?_)
  clear hK K
  (try simp only [Act.put, List.setIfInBounds_toArray, List.set_cons_zero, List.set_cons_succ])
  refine wpAnyT_ready (rs := [8]) (by kernel_rfl) (by simp) ?_
  refine AllReadyT.cons spat8 true (by kernel_rfl) (fun K hK => ?_) AllReadyT.nil
  refine step_append_lies _ rfl _ _ 24 rfl n0 37 i0 _ 5 64 Tryd.underlying24 hi hz0 hz1 hz2 rfl (by decide) (.slice (some ⟨g, 0, none⟩) (N + 1) c) (N + 1) _ rfl (HROW2.out.alloc _) ⟨W2.heap.size, 0, none⟩ 1 1 [.bool false, .int .i64 0, .string ⟨#[]⟩, .int .i64 0, .slice none 0 0] rfl rfl ?c1 ?c2 (by decide) ?c3 ?c4 ?c5 _ rfl ?_
  case c1 => exact new5 W2 _ _ _ _ _ _
  case c2 => exact fun q hq => five_one hq rfl rfl rfl rfl rfl
  case c3 => unfold maxLen; omega
  case c4 => omega
  case c5 => have := (HR2.out.lt g (by simp)); simp; omega
  intro g' c' W3 hown hgrow hat hlt
  have HS3 : Hid (Sft (fun b => (Value.slice (some ⟨g, 0, none⟩) (N + 1) c).ownBlock = some b) W2 W3) := Lib.hid ((Sft.alloc _ W2 _).trans (Sft.of_grown hgrow (fun r e => e)) (fun _ h => .inl h))
  have H3 : Hid (g = g' ∨ W2.heap.size ≤ g') := Lib.hid (hat.imp (fun e => by simpa [Value.ownBlock] using e) (fun e => by rw [e]; simp))
  have HRG : Hid (R ≠ g ∧ R ≠ g' ∧ R < W2.heap.size ∧ w.heap.size ≠ g' ∧ w.heap.size ≠ g) := Lib.hid (by
    have hd := (List.nodup_cons.1 HR2.out.od.dis).1
    have hl := (HR2.out.lt R (by simp)).2
    have hg := (H.out.lt g (by simp)).2
    have h2 := HB2.out.lt
    have hn : R ≠ g := fun e => hd (List.mem_append.2 (.inr (by simp [e])))
    rcases H3.out with h3 | h3
    · exact ⟨hn, h3 ▸ hn, hl, by omega, by omega⟩
    · exact ⟨hn, by omega, hl, by omega, by omega⟩)
  have HOWN3 := Lib.hid hown
  have ng : ∀ b, b ≠ g → ¬ (Value.slice (some ⟨g, 0, none⟩) (N + 1) c).ownBlock = some b := fun b hb e => hb (by simpa [Value.ownBlock] using e.symm)
  have HB3 : Hid (Bk W3 w.heap.size 35 #[.int .i64 t.k, .string ⟨t.s.toArray⟩, .int .i64 t.p]) := Lib.hid ((HS3.out.block _ HB2.out.lt (ng _ HRG.out.2.2.2.2)).trans HB2.out)
  have hr3 : W3.heap[R]? = W2.heap[R]? := HS3.out.block R HRG.out.2.2.1 (ng _ HRG.out.1)
  have HF3 : Hid (W3.cell? ⟨R, 1, none⟩ = some (.slice (some ⟨g, 0, none⟩) (N + 1) c)) := Lib.hid ((World.cell?_of_block hr3).trans HF2.out)
  have HZ3 : Hid (W3.frozen? ⟨R, 1, none⟩ = false) := Lib.hid ((World.frozen?_of_block hr3).trans (HR2.out.box.frozen _))
  have HX3 : Hid (W3.heap[R]? = W2.heap[R]?) := Lib.hid hr3
  refine hK.out _ _ (HSM _ ⟨HF3.out, HB3.out⟩) (fun hH => ?_)
  clear hK K hgrow hat hown ng hr3 hlt
  (try simp only [Act.put, List.setIfInBounds_toArray, List.set_cons_zero, List.set_cons_succ])
  have q3 : (0 : Int) ≤ (N : Int) + 1 := by omega
  have q4 : (N : Int) < (N : Int) + 1 := by omega
  refine wpAnyT_take (i := 9) (v := ?_) spat9 (by kernel_rfl) (by kernel_rfl) (by kernel_rfl) (by decide) (fun _ _ _ h => h) (Or.inl ⟨by rfl, ?_⟩) HMO hH ?_
  rotate_left
  · (intro w hSw; clear hSw; go_simp; (try with_reducible rfl))
  (try simp only [Act.put, List.setIfInBounds_toArray, List.set_cons_zero, List.set_cons_succ])
  refine wpAnyT_take (i := 11) (v := ?_) spat11 (by kernel_rfl) (by kernel_rfl) (by kernel_rfl) (by decide) (fun _ _ _ h => h) (Or.inl ⟨by rfl, ?_⟩) HMO hH ?_
  rotate_left
  · (intro w hSw; clear hSw; go_simp; (try with_reducible rfl))
  (try simp only [Act.put, List.setIfInBounds_toArray, List.set_cons_zero, List.set_cons_succ])
  refine wpAnyT_take (i := 12) (v := ?_) spat12 (by kernel_rfl) (by kernel_rfl) (by kernel_rfl) (by decide) (fun _ _ _ h => h) (Or.inl ⟨by rfl, ?_⟩) HMO hH ?_
  rotate_left
  · (intro w hSw; clear hSw; go_simp; (try with_reducible rfl))
  (try simp only [Act.put, List.setIfInBounds_toArray, List.set_cons_zero, List.set_cons_succ])
  have HP5 := Lib.hid (own_put5 HOWN3.out (.bool true) (.int .i64 t.k) (.string ⟨t.s.toArray⟩) (.int .i64 t.p) (.slice none 0 0))
  have HSP5 := Lib.hid (psft (a := .bool true) (b := .int .i64 t.k) (c := .string ⟨t.s.toArray⟩) (d := .int .i64 t.p) (e := .slice none 0 0) HS3.out HOWN3.out (H3.out.imp (fun e => by simp [Value.ownBlock, e]) id))
  have HPUT : Hid (Od (put5 W3 g' ((N + 1) * 5) (.bool true) (.int .i64 t.k) (.string ⟨t.s.toArray⟩) (.int .i64 t.p) (.slice none 0 0)) n0 [R] g' c' (⟨true, t, []⟩ :: L) (.slice none 0 0 :: vs) ∧ Sft (fun b => b ∈ own [R] g vs) W2 (put5 W3 g' ((N + 1) * 5) (.bool true) (.int .i64 t.k) (.string ⟨t.s.toArray⟩) (.int .i64 t.p) (.slice none 0 0)) ∧ ∀ b ∈ own [R] g' (.slice none 0 0 :: vs), b ∈ own [R] g vs ∨ W2.heap.size ≤ b) := Lib.hid (HR2.out.od.open_ (by rw [HNL.out]; exact HP5.out.1) (HSP5.out.mono fun b e => by simpa [Value.ownBlock] using e.symm) H3.out)
  have HBOX : Hid (Bk ((put5 W3 g' ((N + 1) * 5) (.bool true) (.int .i64 t.k) (.string ⟨t.s.toArray⟩) (.int .i64 t.p) (.slice none 0 0)).setCell ⟨R, 1, none⟩ (.slice (some ⟨g', 0, none⟩) (N + 1 + 1) c')) R 49 #[.int .i64 deep, (.slice (some ⟨g', 0, none⟩) (N + 1 + 1) c')]) := Lib.hid (by
    have h1 : Bk (put5 W3 g' ((N + 1) * 5) (.bool true) (.int .i64 t.k) (.string ⟨t.s.toArray⟩) (.int .i64 t.p) (.slice none 0 0)) R 49 #[.int .i64 deep, .slice (some ⟨g, 0, none⟩) L.length c] := (HP5.out.2.block R (Nat.lt_of_lt_of_le HRG.out.2.2.1 HS3.out.size) HRG.out.2.1).trans (HX3.out.trans HR2.out.box)
    exact h1.set_ 1 _)
  have HEND : Hid (OpenEnd w ((put5 W3 g' ((N + 1) * 5) (.bool true) (.int .i64 t.k) (.string ⟨t.s.toArray⟩) (.int .i64 t.p) (.slice none 0 0)).setCell ⟨R, 1, none⟩ (.slice (some ⟨g', 0, none⟩) (N + 1 + 1) c')) n0 R deep L g vs t) := Lib.hid (by
    obtain ⟨p1, p2, p3⟩ := HPUT.out
    have s0 : Sft (fun b => b ∈ own [R] g vs) w W2 := ⟨HBL2.out.os, HBL2.out.tape, HBL2.out.output, HBL2.out.size, fun b hb _ => HBL2.out.block b hb⟩
    have s2 : Sft (fun b => b ∈ own [R] g vs) (put5 W3 g' ((N + 1) * 5) (.bool true) (.int .i64 t.k) (.string ⟨t.s.toArray⟩) (.int .i64 t.p) (.slice none 0 0)) ((put5 W3 g' ((N + 1) * 5) (.bool true) (.int .i64 t.k) (.string ⟨t.s.toArray⟩) (.int .i64 t.p) (.slice none 0 0)).setCell ⟨R, 1, none⟩ (.slice (some ⟨g', 0, none⟩) (N + 1 + 1) c')) := Sft.setCell (X := fun b => b ∈ own [R] g vs) (p := ⟨R, 1, none⟩) (by simp) _
    have p4 : Od ((put5 W3 g' ((N + 1) * 5) (.bool true) (.int .i64 t.k) (.string ⟨t.s.toArray⟩) (.int .i64 t.p) (.slice none 0 0)).setCell ⟨R, 1, none⟩ (.slice (some ⟨g', 0, none⟩) (N + 1 + 1) c')) n0 [R] g' c' (⟨true, t, []⟩ :: L) (.slice none 0 0 :: vs) := p1.stays s2.size (fun b _ hz => Below.heap_setCell _ _ _ b (fun e => hz (by simp [show b = R from e])))
    refine ⟨g', c', ⟨?_, p4⟩, (s0.trans p2 (fun _ h => .inl h)).trans s2 (fun _ h => .inl h), fun b hb => (p3 b hb).imp id (fun h => Nat.le_trans HBL2.out.size h)⟩
    rw [List.length_cons, HNL.out]
    exact HBOX.out)
  have HG9 : Hid ((put5 W3 g' ((N + 1) * 5) (.bool true) (.int .i64 t.k) (.string ⟨t.s.toArray⟩) (.int .i64 t.p) (.slice none 0 0)).heap[R]? = W3.heap[R]?) := Lib.hid (HP5.out.2.block R (Nat.lt_of_lt_of_le HRG.out.2.2.1 HS3.out.size) HRG.out.2.1)
  have HF9 : Hid ((put5 W3 g' ((N + 1) * 5) (.bool true) (.int .i64 t.k) (.string ⟨t.s.toArray⟩) (.int .i64 t.p) (.slice none 0 0)).cell? ⟨R, 1, none⟩ = some (.slice (some ⟨g, 0, none⟩) (N + 1) c)) := Lib.hid ((World.cell?_of_block (a := ⟨R, 1, none⟩) HG9.out).trans HF3.out)
  have HZ9 : Hid ((put5 W3 g' ((N + 1) * 5) (.bool true) (.int .i64 t.k) (.string ⟨t.s.toArray⟩) (.int .i64 t.p) (.slice none 0 0)).frozen? ⟨R, 1, none⟩ = false) := Lib.hid ((World.frozen?_of_block (a := ⟨R, 1, none⟩) HG9.out).trans HZ3.out)
  have HB9 : Hid (Bk (put5 W3 g' ((N + 1) * 5) (.bool true) (.int .i64 t.k) (.string ⟨t.s.toArray⟩) (.int .i64 t.p) (.slice none 0 0)) w.heap.size 35 #[.int .i64 t.k, .string ⟨t.s.toArray⟩, .int .i64 t.p]) := Lib.hid ((HP5.out.2.block w.heap.size HB3.out.lt HRG.out.2.2.2.1).trans HB3.out)
  have HS9 : Hid (S true (put5 W3 g' ((N + 1) * 5) (.bool true) (.int .i64 t.k) (.string ⟨t.s.toArray⟩) (.int .i64 t.p) (.slice none 0 0))) := Lib.hid (HSM _ ⟨HF9.out, HB9.out⟩)
  clear HPUT HBOX HB2 HF2 HROW2 HR2 HS3 H3 H HNL HBL2 HSP5 HX3
  refine wpAnyT_ready (rs := [10, 13]) (by kernel_rfl) (by simp) ?_
  refine AllReadyT.cons spat10 true (by kernel_rfl) (fun K hK => ?_) ?_
  · have e0 : W3.cell? ⟨g', (N + 1) * 5, none⟩ = some (.bool false) := own_last HOWN3.out 0 (by omega)
    have e1 : W3.cell? ⟨g', (N + 1) * 5 + 1, none⟩ = some (.int .i64 0) := own_last HOWN3.out 1 (by omega)
    have e2 : W3.cell? ⟨g', (N + 1) * 5 + 2, none⟩ = some (.string ⟨#[]⟩) := own_last HOWN3.out 2 (by omega)
    have e3 : W3.cell? ⟨g', (N + 1) * 5 + 3, none⟩ = some (.int .i64 0) := own_last HOWN3.out 3 (by omega)
    have e4 : W3.cell? ⟨g', (N + 1) * 5 + 4, none⟩ = some (.slice none 0 0) := own_last HOWN3.out 4 (by omega)
    have ef := fun j => HOWN3.out.frozenAt j
    go_simp
    clear e0 e1 e2 e3 e4 ef HP5 HG9 HB9 hH
    revert HEND HF9 HZ9 HS9
    unfold put5
    generalize World.setCell (World.setCell (World.setCell (World.setCell (World.setCell W3 _ _) _ _) _ _) _ _) _ _ = W9
    intro HEND HF9 HZ9 HS9
    refine hK.out _ _ HS9.out (fun hH => ?_)
    clear hK K
    (try simp only [Act.put, List.setIfInBounds_toArray, List.set_cons_zero, List.set_cons_succ])
    have hF9 := HF9.out
    have hZ9 := HZ9.out
    refine wpAnyT_ready (rs := [13]) (by kernel_rfl) (by simp) ?_
    refine AllReadyT.cons spat13 false (by kernel_rfl) (fun K hK => ?_) AllReadyT.nil
    go_simp
    refine hK.out _ _ (HSF _) (fun hH => ?_)
    clear hK K hF9 hZ9
    (try simp only [Act.put, List.setIfInBounds_toArray, List.set_cons_zero, List.set_cons_succ])
    refine wpAnyT_done (by kernel_rfl) ?_ _
    (try go_wp2)
    go_end0
    exact ⟨rfl, HEND⟩
  refine AllReadyT.cons spat13 false (by kernel_rfl) (fun K hK => ?_) AllReadyT.nil
  have hF9 := HF3.out
  have hZ9 := HZ3.out
  go_simp
  refine hK.out _ _ (HSF _) (fun hH => ?_)
  clear hK K hF9 hZ9
  (try simp only [Act.put, List.setIfInBounds_toArray, List.set_cons_zero, List.set_cons_succ])
  have ho := fun i (hi : i < 5) => (World.cell?_of_block (Below.heap_setCell W3 ⟨R, 1, none⟩ (.slice (some ⟨g', 0, none⟩) (N + 1 + 1) c') g' (Ne.symm HRG.out.2.1))).trans (own_last HOWN3.out i hi)
  have hf := fun j => (World.frozen?_of_block (w := W3) (w' := W3.setCell ⟨R, 1, none⟩ (.slice (some ⟨g', 0, none⟩) (N + 1 + 1) c')) (a := ⟨g', j, none⟩) (Below.heap_setCell W3 ⟨R, 1, none⟩ (.slice (some ⟨g', 0, none⟩) (N + 1 + 1) c') g' (Ne.symm HRG.out.2.1))).trans (HOWN3.out.frozenAt j)
  rw [← put5_swap _ HRG.out.2.1] at HEND
  have h0 := ho 0 (by omega)
  have h1 := ho 1 (by omega)
  have h2 := ho 2 (by omega)
  have h3 := ho 3 (by omega)
  have h4 := ho 4 (by omega)
  simp only [List.getElem?_cons_zero, List.getElem?_cons_succ, Nat.add_zero] at h0 h1 h2 h3 h4
  clear ho HP5 HG9 HF9 HZ9 HB9 HS9
  revert HEND h0 h1 h2 h3 h4 hf
  generalize World.setCell W3 _ _ = W9
  intro HEND h0 h1 h2 h3 h4 hf
  refine wpAnyT_ready (rs := [10]) (by kernel_rfl) (by simp) ?_
  refine AllReadyT.cons spat10 false (by kernel_rfl) (fun K hK => ?_) AllReadyT.nil
  go_simp
  refine hK.out _ _ (HSF _) (fun hH => ?_)
  clear hK K h0 h1 h2 h3 h4 hf
  (try simp only [Act.put, List.setIfInBounds_toArray, List.set_cons_zero, List.set_cons_succ])
  refine wpAnyT_done (by kernel_rfl) ?_ _
  (try go_wp2)
  go_end0
  exact ⟨rfl, HEND⟩
end Go.Proofs.YtmnllioeaaimcaaDoor.tr

/- Package tree: its reader: a list is closed; a token is taken. -/
namespace Go.Proofs.YtmnllioeaaimcaaDoor.tr
open Go Go.RowKit Go.Proofs.YtmnllioeaaimcaaDoor.tk

set_option maxRecDepth 100000 in
set_option maxHeartbeats 2000000 in
theorem end_bad {w : World} {n0 R g c : Nat} {deep : Int} {L : List Lv} {vs : List Value} (H : Hid (Rt w n0 R deep L g c vs)) {t : Tok} (hL : L.length = 1) :
    Calls Tryd.prog 38 #[.pointer (some ⟨R, 0, none⟩), tokV t] w fun e w' => e = PanF 11 t.p ∧ Hid (Below w.heap.size w w') := by
  unfold tokV
  have HR0 : Hid (Rt (w.alloc (.cells #[.int .i64 t.k, .string ⟨t.s.toArray⟩, .int .i64 t.p] 35)) n0 R deep L g c vs) := Lib.hid (H.out.alloc _)
  have HBL : Hid (Below w.heap.size w (w.alloc (.cells #[.int .i64 t.k, .string ⟨t.s.toArray⟩, .int .i64 t.p] 35))) := Lib.hid ((Below.refl _ _).alloc (Nat.le_refl _) _)
  have P := Lib.hid (last_any HR0 (N := 0) hL (by omega))
  clear hL HR0
  go_enter Tryd.func38, Tryd.ntmps38
  go_wp2_with (first | (go_at_call 28; refine P.out.mono ?_; rintro e w1 ⟨rfl, rfl⟩) | (go_at_call 29; refine trefuse_any.mono ?_; rintro e w2 ⟨rfl, hb⟩))
  exact ⟨by simp, rfl, Lib.hid (HBL.out.trans (hb.out.mono HBL.out.size))⟩

/-- behind the closing of a list -/
def CloseEnd (w w' : World) (n0 R : Nat) (deep : Int) (x y : Lv) (L : List Lv) (g c : Nat) (v u : Value) (vs : List Value) : Prop :=
  ∃ u', Rt w' n0 R deep (⟨y.l, y.t, y.ks ++ [.mk x.l x.t x.ks]⟩ :: L) g c (u' :: vs) ∧ Sft (fun b => b ∈ own [R] g (v :: u :: vs)) w w' ∧ ∀ b ∈ own [R] g (u' :: vs), b ∈ own [R] g (v :: u :: vs) ∨ w.heap.size ≤ b
set_option maxRecDepth 100000 in
set_option maxHeartbeats 4000000 in
theorem end_any {w : World} {n0 R g c : Nat} {deep : Int} {x y : Lv} {L : List Lv} {v u : Value} {vs : List Value} (H : Hid (Rt w n0 R deep (x :: y :: L) g c (v :: u :: vs))) {t : Tok} (hN : L.length ≤ 90000000) (hk : y.ks.length ≤ 100000000) :
    Calls Tryd.prog 38 #[.pointer (some ⟨R, 0, none⟩), tokV t] w fun e w' => e = .returned (.tuple #[]) ∧ Hid (CloseEnd w w' n0 R deep x y L g c v u vs) := by
  unfold tokV
  obtain ⟨N, hNl⟩ : ∃ N, L.length = N := ⟨_, rfl⟩
  obtain ⟨A3, c3, hv3, hc3⟩ : ∃ A3 c3, v = .slice A3 x.ks.length c3 ∧ x.ks.length ≤ c3 := by
    obtain ⟨xs, h1, _⟩ := H.out.od.kid.1
    rcases h1.2 with ⟨e1, e2⟩ | ⟨g', cap, _, e1, _, _, e2, _⟩
    · exact ⟨none, 0, by rw [e1, e2], by omega⟩
    · exact ⟨_, _, e1, e2⟩
  subst hv3
  have HR0 : Hid (Rt (w.alloc (.cells #[.int .i64 t.k, .string ⟨t.s.toArray⟩, .int .i64 t.p] 35)) n0 R deep (x :: y :: L) g c (.slice A3 x.ks.length c3 :: u :: vs)) := Lib.hid (H.out.alloc _)
  have HBL : Hid (Below w.heap.size w (w.alloc (.cells #[.int .i64 t.k, .string ⟨t.s.toArray⟩, .int .i64 t.p] 35))) := Lib.hid ((Below.refl _ _).alloc (Nat.le_refl _) _)
  have P := Lib.hid (last_any HR0 (N := N + 1) (by simp [hNl]) (by omega))
  have HNL := Lib.hid hNl
  rw [hNl] at hN
  clear hNl hc3
  go_enter Tryd.func38, Tryd.ntmps38
  go_upto_region 1 with fail
  generalize hW : w.alloc _ = W0 at *
  clear hW
  have q0 : ¬ ((N : Int) + 1 = 0) := by omega
  have cl : W0.cell? ⟨R, 1, none⟩ = some (.slice (some ⟨g, 0, none⟩) (N + 1 + 1) c) := by
    have := HR0.out.box.cell 1
    simp only [List.length_cons, HNL.out] at this
    exact this
  have hcap : N + 2 ≤ c := by
    rcases HR0.out.od.row.2 with ⟨h2, _⟩ | ⟨_, _, _, e1, _, _, e4, _⟩
    · simp at h2
    · simp only [Value.slice.injEq, true_and] at e1
      have := e4
      simp only [List.length_cons, HNL.out] at this
      omega
  have d0 : W0.cell? ⟨g, (N + 1) * 5, none⟩ = some (.bool x.l) := by have := HR0.out.od.cell 0 (by omega); simp only [List.length_cons, HNL.out] at this; exact this
  have d1 : W0.cell? ⟨g, (N + 1) * 5 + 1, none⟩ = some (.int .i64 x.t.k) := by have := HR0.out.od.cell 1 (by omega); simp only [List.length_cons, HNL.out] at this; exact this
  have d2 : W0.cell? ⟨g, (N + 1) * 5 + 2, none⟩ = some (.string ⟨x.t.s.toArray⟩) := by have := HR0.out.od.cell 2 (by omega); simp only [List.length_cons, HNL.out] at this; exact this
  have d3 : W0.cell? ⟨g, (N + 1) * 5 + 3, none⟩ = some (.int .i64 x.t.p) := by have := HR0.out.od.cell 3 (by omega); simp only [List.length_cons, HNL.out] at this; exact this
  have d4 : W0.cell? ⟨g, (N + 1) * 5 + 4, none⟩ = some (.slice A3 x.ks.length c3) := by have := HR0.out.od.cell 4 (by omega); simp only [List.length_cons, HNL.out] at this; exact this
  have q1 : (0 : Int) ≤ (N : Int) + 1 := by omega
  have q2 : (N : Int) < (N : Int) + 1 := by omega
  have q3 : ¬ c = 0 := by omega
  have q4 : N + 1 ≤ c := by omega
  go_upto_region 5 with (go_at_call 28; refine P.out.mono ?_; rintro e w1 ⟨rfl, rfl⟩)
  clear P d0 d1 d2 d3 d4 cl
  generalize hW : W0.alloc _ = W1
  have HR1 : Hid (Rt W1 n0 R deep (x :: y :: L) g c (.slice A3 x.ks.length c3 :: u :: vs)) := Lib.hid (hW ▸ HR0.out.alloc _)
  have HB1 : Hid (Bk W1 W0.heap.size 37 #[.bool x.l, .int .i64 x.t.k, .string ⟨x.t.s.toArray⟩, .int .i64 x.t.p, .slice A3 x.ks.length c3]) := Lib.hid (hW ▸ Bk.new W0 _ _)
  have HBL1 : Hid (Below w.heap.size w W1) := Lib.hid (HBL.out.trans (hW ▸ (Below.refl _ W0).alloc HBL.out.size _))
  have HRW : Hid (R < W0.heap.size) := Lib.hid (HR0.out.lt R (by simp)).2
  clear hW HR0 HBL
  have cl : W1.cell? ⟨R, 1, none⟩ = some (.slice (some ⟨g, 0, none⟩) (N + 1 + 1) c) := by
    have := HR1.out.box.cell 1
    simp only [List.length_cons, HNL.out] at this
    exact this
  have fl : W1.frozen? ⟨R, 1, none⟩ = false := HR1.out.box.frozen _
  go_upto_region 6 with fail
  clear cl fl
  generalize hW : W1.setCell _ _ = W2
  have HC := Lib.hid HR1.out.od.close
  have HR2 : Hid (Rt W2 n0 R deep (y :: L) g c (u :: vs)) := Lib.hid (by
    have h1 := HR1.out.box.set_ 1 (.slice (some ⟨g, 0, none⟩) (N + 1) c)
    rw [hW] at h1
    refine ⟨by rw [List.length_cons, HNL.out]; exact h1, HC.out.1.stays (by rw [← hW]; simp) (fun b _ hz => by rw [← hW]; exact Below.heap_setCell _ _ _ b (fun e => hz (by simp [show b = R from e])))⟩)
  have HS2 : Hid (Sft (fun b => b ∈ own [R] g (.slice A3 x.ks.length c3 :: u :: vs)) w W2) := Lib.hid (by
    have s0 : Sft (fun b => b ∈ own [R] g (.slice A3 x.ks.length c3 :: u :: vs)) w W1 := ⟨HBL1.out.os, HBL1.out.tape, HBL1.out.output, HBL1.out.size, fun b hb _ => HBL1.out.block b hb⟩
    exact s0.trans (hW ▸ Sft.setCell (X := fun b => b ∈ own [R] g (.slice A3 x.ks.length c3 :: u :: vs)) (p := ⟨R, 1, none⟩) (by simp) _) (fun _ h => .inl h))
  have HB2 : Hid (Bk W2 W0.heap.size 37 #[.bool x.l, .int .i64 x.t.k, .string ⟨x.t.s.toArray⟩, .int .i64 x.t.p, .slice A3 x.ks.length c3]) := Lib.hid (hW ▸ HB1.out.far (p := ⟨R, 1, none⟩) (by have := HRW.out; show W0.heap.size ≠ R; omega) _)
  have HT2 : Hid (Vt W2 (fun b => b ∉ own [R] g (u :: vs)) (.mk x.l x.t x.ks) [.bool x.l, .int .i64 x.t.k, .string ⟨x.t.s.toArray⟩, .int .i64 x.t.p, .slice A3 x.ks.length c3]) := Lib.hid (Vt.iff.2 ⟨_, rfl, HC.out.2.2.stays (by rw [← hW]; simp) (fun b hb _ => ⟨hb, by rw [← hW]; exact Below.heap_setCell _ _ _ b (fun e => hb (by simp [show b = R from e]))⟩)⟩)
  have HSZ : Hid (w.heap.size ≤ W2.heap.size) := Lib.hid HS2.out.size
  clear hW HB1 HBL1 HR1
  have b0 := HB2.out.cell 0
  have b1 := HB2.out.cell 1
  have b2 := HB2.out.cell 2
  have b3 := HB2.out.cell 3
  have b4 := HB2.out.cell 4
  have P2 := Lib.hid (put_any HR2 HT2 (by rw [HNL.out]; omega) hk)
  go_wp2_with (go_at_call 39; refine P2.out.mono ?_; rintro e w3 ⟨rfl, h3⟩)
  go_end0
  obtain ⟨u', r1, r2, r3⟩ := h3.out
  exact ⟨rfl, Lib.hid ⟨u', r1, HS2.out.trans (r2.mono HC.out.2.1) (fun _ h => .inl h), fun b hb => (r3 b hb).elim (fun h => .inl (HC.out.2.1 b h)) (fun h => .inr (by have := HSZ.out; omega))⟩⟩

/-- the reader R of a state; X: its blocks -/
def Ms (w : World) (n0 R : Nat) (deep : Int) (s : State) (X : Nat → Prop) : Prop := ∃ g c vs, Rt w n0 R deep (levs false s.1 s.2) g c vs ∧ X = fun b => b ∈ own [R] g vs
/-- behind a token -/
def TakeEnd (w w' : World) (n0 R : Nat) (deep : Int) (s' : State) (X : Nat → Prop) : Prop := ∃ X', Ms w' n0 R deep s' X' ∧ Sft X w w' ∧ ∀ b, X' b → X b ∨ w.heap.size ≤ b
theorem Ms.alloc {w : World} {n0 R : Nat} {deep : Int} {s : State} {X : Nat → Prop} (h : Ms w n0 R deep s X) (o : Obj) : Ms (w.alloc o) n0 R deep s X := by
  obtain ⟨g, c, vs, h, e⟩ := h
  exact ⟨g, c, vs, h.alloc o, e⟩
theorem Ms.lt {w : World} {n0 R : Nat} {deep : Int} {s : State} {X : Nat → Prop} (h : Ms w n0 R deep s X) : ∀ b, X b → n0 ≤ b ∧ b < w.heap.size := by
  obtain ⟨g, c, vs, h, rfl⟩ := h
  exact h.lt
theorem size_pos (t : Tree) : 1 ≤ size t := by
  obtain ⟨l, u, ks⟩ := t
  cases l <;> simp [size]; omega
theorem len_sizes : ∀ (ks : List Tree), ks.length ≤ sizes ks
  | [] => by simp
  | t :: r => by
    have := size_pos t
    have := len_sizes r
    simp only [List.length_cons, sizes]
    omega
theorem stack_len : ∀ (st : List (Tok × List Tree)), st.length ≤ stackSize st
  | [] => by simp
  | q :: r => by
    have := stack_len r
    simp only [List.length_cons, stackSize]
    omega
/-- the blocks with a box ahead of them -/
theorem TakeEnd.after {w w0 w' : World} {n0 R : Nat} {deep : Int} {s' : State} {X : Nat → Prop} (h : TakeEnd w0 w' n0 R deep s' X) (hb : Below w.heap.size w w0) : TakeEnd w w' n0 R deep s' X := by
  obtain ⟨X', h1, h2, h3⟩ := h
  have s0 : Sft X w w0 := ⟨hb.os, hb.tape, hb.output, hb.size, fun b hl _ => hb.block b hl⟩
  exact ⟨X', h1, s0.trans h2 (fun _ h => .inl h), fun b hx => (h3 b hx).imp id (fun h => Nat.le_trans hb.size h)⟩

set_option maxRecDepth 100000 in
set_option maxHeartbeats 2000000 in
/-- a token is taken -/
theorem take_ok {w : World} {n0 R : Nat} {deep : Int} {s s' : State} {X : Nat → Prop} (H : Hid (Ms w n0 R deep s X)) {t : Tok} (hs : step deep t s = .ok s') (hb : sizes s.1 + stackSize s.2 ≤ 80000000) :
    Calls Tryd.prog 27 #[.pointer (some ⟨R, 0, none⟩), tokV t] w fun e w' => e = .returned (.tuple #[]) ∧ Hid (TakeEnd w w' n0 R deep s' X) := by
  have h1 := len_sizes s.1
  have h2 := stack_len s.2
  have HBL : Hid (Below w.heap.size w (w.alloc (.cells #[.int .i64 t.k, .string ⟨t.s.toArray⟩, .int .i64 t.p] 35))) := Lib.hid ((Below.refl _ _).alloc (Nat.le_refl _) _)
  have HM := H.out.alloc (.cells #[.int .i64 t.k, .string ⟨t.s.toArray⟩, .int .i64 t.p] 35)
  obtain ⟨ks, st⟩ := s
  obtain ⟨g, c, vs, HR, hX⟩ := HM
  have HR := Lib.hid HR
  have HX := Lib.hid hX
  clear hX
  unfold step at hs
  dsimp only at hs HR h1 h2 hb
  have hll := levs_len false ks st
  by_cases k1 : t.k = 1
  · rw [if_pos k1] at hs
    split at hs
    · cases hs
    · rename_i hd
      injection hs with hs
      have P := Lib.hid ((open_any HR (t := t) hll (by omega) hd).mono (R' := fun e w' => e = .returned (.tuple #[]) ∧ Hid (TakeEnd w w' n0 R deep s' X)) (by
        rintro e w' ⟨rfl, h⟩
        obtain ⟨G, C, r1, r2, r3⟩ := h.out
        refine ⟨rfl, Lib.hid (TakeEnd.after ⟨_, ⟨G, C, _, ?_, rfl⟩, by rw [HX.out]; exact r2, by rw [HX.out]; exact r3⟩ HBL.out)⟩
        rw [← hs]
        exact r1))
      clear hs hd H HR HBL
      unfold tokV at P ⊢
      rw [k1] at P ⊢
      go_enter Tryd.func27, Tryd.ntmps27
      go_wp2_with (go_at_call 37; refine P.out.mono ?_; rintro e w1 ⟨rfl, h⟩)
      go_end0
      exact ⟨rfl, h⟩
  · rw [if_neg k1] at hs
    by_cases k2 : t.k = 2
    · rw [if_pos k2] at hs
      cases st with
      | nil => cases hs
      | cons q st =>
        obtain ⟨u, pk⟩ := q
        injection hs with hs
        have e1 : levs false ks ((u, pk) :: st) = ⟨true, u, ks⟩ :: levs false pk st := rfl
        obtain ⟨y, L, e2⟩ : ∃ y L, levs false pk st = y :: L := by
          cases h : levs false pk st with
          | nil => have := levs_len false pk st; rw [h] at this; simp at this
          | cons y L => exact ⟨y, L, rfl⟩
        have e3 : y.ks = pk ∧ L.length = st.length ∧ levs false (pk ++ [.mk true u ks]) st = ⟨y.l, y.t, y.ks ++ [.mk true u ks]⟩ :: L := by
          have hl := levs_len false pk st
          rw [e2] at hl
          cases st with
          | nil => simp only [levs, List.cons.injEq] at e2; obtain ⟨rfl, rfl⟩ := e2; exact ⟨rfl, rfl, rfl⟩
          | cons q st => obtain ⟨a, b⟩ := q; simp only [levs, List.cons.injEq] at e2; obtain ⟨rfl, rfl⟩ := e2; exact ⟨rfl, by simpa using hl, rfl⟩
        obtain ⟨e4, e5, e6⟩ := e3
        rw [e1, e2] at HR
        obtain ⟨v, v', vs', e7⟩ : ∃ v v' vs', vs = v :: v' :: vs' := by
          have := HR.out.od.kid.len
          match vs, this with
          | v :: v' :: vs', _ => exact ⟨v, v', vs', rfl⟩
        subst e7
        have h3 := len_sizes pk
        have h4 : sizes pk + stackSize st + 1 = stackSize ((u, pk) :: st) := by simp only [stackSize]; omega
        simp only [List.length_cons] at h2
        have P := Lib.hid ((end_any HR (t := t) (by omega) (by rw [e4]; omega)).mono (R' := fun e w' => e = .returned (.tuple #[]) ∧ Hid (TakeEnd w w' n0 R deep s' X)) (by
          rintro e w' ⟨rfl, h⟩
          obtain ⟨u', r1, r2, r3⟩ := h.out
          refine ⟨rfl, Lib.hid (TakeEnd.after ⟨_, ⟨g, c, _, ?_, rfl⟩, by rw [HX.out]; exact r2, by rw [HX.out]; exact r3⟩ HBL.out)⟩
          rw [← hs]
          dsimp only
          rw [e6]
          exact r1))
        clear hs H HR HBL e1 e2 e4 e5 e6 h1 h2 h3 h4 hb hll
        unfold tokV at P ⊢
        rw [k2] at P ⊢
        go_enter Tryd.func27, Tryd.ntmps27
        go_wp2_with (go_at_call 38; refine P.out.mono ?_; rintro e w1 ⟨rfl, h⟩)
        go_end0
        exact ⟨rfl, h⟩
    · rw [if_neg k2] at hs
      injection hs with hs
      obtain ⟨y, L, e2⟩ : ∃ y L, levs false ks st = y :: L := by
        cases h : levs false ks st with
        | nil => rw [h] at hll; simp at hll
        | cons y L => exact ⟨y, L, rfl⟩
      have e3 : y.ks = ks ∧ L.length = st.length ∧ levs false (ks ++ [.mk false t []]) st = ⟨y.l, y.t, y.ks ++ [.mk false t []]⟩ :: L := by
        rw [e2] at hll
        cases st with
        | nil => simp only [levs, List.cons.injEq] at e2; obtain ⟨rfl, rfl⟩ := e2; exact ⟨rfl, rfl, rfl⟩
        | cons q st => obtain ⟨a, b⟩ := q; simp only [levs, List.cons.injEq] at e2; obtain ⟨rfl, rfl⟩ := e2; exact ⟨rfl, by simpa using hll, rfl⟩
      obtain ⟨e4, e5, e6⟩ := e3
      rw [e2] at HR
      obtain ⟨v, vs', e7⟩ : ∃ v vs', vs = v :: vs' := by
        have := HR.out.od.kid.len
        match vs, this with
        | v :: vs', _ => exact ⟨v, vs', rfl⟩
      subst e7
      have HTR : Hid (Vt (w.alloc (.cells #[.int .i64 t.k, .string ⟨t.s.toArray⟩, .int .i64 t.p] 35)) (fun b => b ∉ own [R] g (v :: vs')) (.mk false t []) [.bool false, .int .i64 t.k, .string ⟨t.s.toArray⟩, .int .i64 t.p, .slice none ([] : List Tree).length 0]) := Lib.hid (by unfold Vt; exact ⟨none, 0, rfl, Nat.le_refl _, fun h => absurd h (by simp)⟩)
      have P := Lib.hid ((put_any HR HTR (by omega) (by rw [e4]; omega)).mono (R' := fun e w' => e = .returned (.tuple #[]) ∧ Hid (TakeEnd w w' n0 R deep s' X)) (by
        rintro e w' ⟨rfl, h⟩
        obtain ⟨v', r1, r2, r3⟩ := h.out
        refine ⟨rfl, Lib.hid (TakeEnd.after ⟨_, ⟨g, c, _, ?_, rfl⟩, by rw [HX.out]; exact r2, by rw [HX.out]; exact r3⟩ HBL.out)⟩
        rw [← hs]
        dsimp only
        rw [e6]
        exact r1))
      have b1 : (t.k == 1) = false := by simpa using k1
      have b2 : (t.k == 2) = false := by simpa using k2
      clear hs H HR HBL e2 e4 e5 e6 h1 h2 hb hll k1 k2 HTR
      unfold tokV
      go_enter Tryd.func27, Tryd.ntmps27
      go_wp2_with (go_at_call 39; refine P.out.mono ?_; rintro e w1 ⟨rfl, h⟩)
      go_end0
      exact ⟨rfl, h⟩
set_option maxRecDepth 100000 in
set_option maxHeartbeats 2000000 in
/-- a token that is wrong -/
theorem take_bad {w : World} {n0 R : Nat} {deep : Int} {s : State} {X : Nat → Prop} (H : Hid (Ms w n0 R deep s X)) {t : Tok} {er : Nat × Int} (hs : step deep t s = .error er) (hb : sizes s.1 + stackSize s.2 ≤ 80000000) :
    Calls Tryd.prog 27 #[.pointer (some ⟨R, 0, none⟩), tokV t] w fun e w' => e = PanF (er.1 : Int) er.2 ∧ Hid (Below w.heap.size w w') := by
  have h2 := stack_len s.2
  have HBL : Hid (Below w.heap.size w (w.alloc (.cells #[.int .i64 t.k, .string ⟨t.s.toArray⟩, .int .i64 t.p] 35))) := Lib.hid ((Below.refl _ _).alloc (Nat.le_refl _) _)
  have HM := H.out.alloc (.cells #[.int .i64 t.k, .string ⟨t.s.toArray⟩, .int .i64 t.p] 35)
  obtain ⟨ks, st⟩ := s
  obtain ⟨g, c, vs, HR, _⟩ := HM
  have HR := Lib.hid HR
  unfold step at hs
  dsimp only at hs HR h2 hb
  have hll := levs_len false ks st
  by_cases k1 : t.k = 1
  · rw [if_pos k1] at hs
    split at hs
    · rename_i hd
      injection hs with hs
      subst hs
      have P := Lib.hid (open_bad HR (t := t) hll (by omega) hd)
      clear hd H HR hb hll h2
      unfold tokV at P ⊢
      rw [k1] at P HBL ⊢
      go_enter Tryd.func27, Tryd.ntmps27
      go_wp2_with (go_at_call 37; refine P.out.mono ?_; rintro e w1 ⟨rfl, h⟩)
      exact ⟨by simp, rfl, Lib.hid (HBL.out.trans (h.out.mono HBL.out.size))⟩
    · cases hs
  · rw [if_neg k1] at hs
    by_cases k2 : t.k = 2
    · rw [if_pos k2] at hs
      cases st with
      | cons q st => cases hs
      | nil =>
        injection hs with hs
        subst hs
        have P := Lib.hid (end_bad HR (t := t) rfl)
        clear H HR hb hll h2
        unfold tokV at P ⊢
        rw [k2] at P HBL ⊢
        go_enter Tryd.func27, Tryd.ntmps27
        go_wp2_with (go_at_call 38; refine P.out.mono ?_; rintro e w1 ⟨rfl, h⟩)
        exact ⟨by simp, rfl, Lib.hid (HBL.out.trans (h.out.mono HBL.out.size))⟩
    · rw [if_neg k2] at hs
      cases hs
end Go.Proofs.YtmnllioeaaimcaaDoor.tr
