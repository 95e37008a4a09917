/- Package token: Read: all tokens of a text, or its first fault. -/
import Derived.RegionTactic
import Derived.Deep.LoopGhost
import Derived.Test.YtmnllioeaaimcaaDoorPi
import Derived.Test.YtmnllioeaaimcaaDoorPk
import Derived.Test.YtmnllioeaaimcaaDoorTq
namespace Go.Proofs.YtmnllioeaaimcaaDoor.tk
open Go.RowKit

/-- what all tokens come to -/
def AllIs (bs : List UInt8) (B : Nat) (e : Ending) (w' : World) : Prop :=
  (∃ q, readL bs = .error q ∧ e = .returned (.tuple #[.slice none 0 0, .agg #[.int .i64 10, .int .i64 (q : Int)]])) ∨
  (∃ D A c, readL bs = .ok D ∧ D.length ≤ bs.length ∧ e = .returned (.tuple #[.slice A D.length c, .agg #[.int .i64 0, .int .i64 0]]) ∧ w'.ownsRow B 35 3 (.slice A D.length c) D.length (tkCells D))
theorem own_but {w w' : World} {base size n R : Nat} {e : TypeId} {v : Value} {xs : List Value} (h : w.ownsRow base e size v n xs) (hb : But R w w') (hR : R < base) : w'.ownsRow base e size v n xs := by
  refine ⟨h.1, h.2.imp id ?_⟩
  rintro ⟨g, cap, cur, e1, e2, e3, r⟩
  have hlt : g < w.heap.size := (Array.getElem?_eq_some_iff.1 e3).1
  exact ⟨g, cap, cur, e1, e2, (hb.block g hlt (by omega)).trans e3, r⟩
theorem own_mono {w : World} {base base' size n : Nat} {e : TypeId} {v : Value} {xs : List Value} (h : w.ownsRow base e size v n xs) (hb : base' ≤ base) : w.ownsRow base' e size v n xs := by
  refine ⟨h.1, h.2.imp id ?_⟩
  rintro ⟨g, cap, cur, e1, e2, r⟩
  exact ⟨g, cap, cur, e1, by omega, r⟩
theorem bk_grown {w w' : World} {g : Nat} {t : TypeId} {cs : Array Value} {row : Option Nat} (h : Bk w g t cs) (hg : w.grownBy w' row) (hr : row ≠ some g) : Bk w' g t cs := (hg.block g h.lt (fun e => hr e.symm)).trans h
theorem bk_three {w : World} {g : Nat} {x y z : Value} {t : TypeId} (h : Bk w g t #[x, y, z]) : ∀ j u, [x, y, z][j]? = some u → w.cell? ((⟨g, 0, none⟩ : Addr).add j) = some u := by
  intro j u hj
  have := h.cell j
  match j, hj with
  | 0, hj => simp at hj; subst hj; simpa [Addr.add] using this
  | 1, hj => simp at hj; subst hj; simpa [Addr.add] using this
  | 2, hj => simp at hj; subst hj; simpa [Addr.add] using this
theorem meth_tok {K : FuncId} {R : Nat} {A : Option Addr} {bs : List UInt8} {cb p k n : Nat} {t : List UInt8} (h : Meth K R A bs cb p) (hs : scan (bs.drop p) = .tok k t n) (W : World) (hr : Rs W R A bs cb p) :
    Calls Tryd.prog K #[.pointer (some ⟨R, 0, none⟩)] W fun e w' => e = .returned (.agg #[.int .i64 (k : Int), .string ⟨t.toArray⟩, .int .i64 (p : Int)]) ∧ Hid (Rs w' R A bs cb (p + n)) ∧ Hid (But R W w') :=
  (h.calls W hr).mono (by rintro e w' ⟨hE, hB⟩; have h := hE.out; rw [hs] at h; exact ⟨h.1, h.2, hB⟩)
theorem meth_bad {K : FuncId} {R : Nat} {A : Option Addr} {bs : List UInt8} {cb p n : Nat} (h : Meth K R A bs cb p) (hs : scan (bs.drop p) = .bad n) (W : World) (hr : Rs W R A bs cb p) :
    Calls Tryd.prog K #[.pointer (some ⟨R, 0, none⟩)] W fun e w' => e = Pan (p + n) ∧ Hid (But R W w') :=
  (h.calls W hr).mono (by rintro e w' ⟨hE, hB⟩; have h := hE.out; rw [hs] at h; exact ⟨h, hB⟩)

set_option maxRecDepth 100000 in
set_option maxHeartbeats 4000000 in
theorem all_any {w : World} {R : Nat} {A : Option Addr} {bs : List UInt8} {cb : Nat} (H : Hid (Rs w R A bs cb 0)) (hl : bs.length ≤ 100000000) (hcap : bs.length ≤ cb) :
    Calls Tryd.prog 25 #[.pointer (some ⟨R, 0, none⟩)] w fun e w' => Hid (AllIs bs w.heap.size e w') ∧ Hid (But R w w') := by
  have HA : Hid (0 < bs.length → ∀ a, A = some a → a.block < w.heap.size) := Lib.hid H.out.lts
  have HLT := Lib.hid H.out.box.lt
  obtain ⟨i0, hi, hz0, hz1, hz2⟩ := info_parts info_tk
  have hmf : ∀ (fn : Fn) (first cap : Array Value) (w : World), (Instr.makeFunc fn first cap).run Tryd.prog w = .ok (.func fn first cap) w := fun _ _ _ _ => rfl
  go_enter_defers Tryd.func25, Tryd.ntmps25
  go_wp2_with fail
  generalize hW : (w.alloc _).alloc _ = W0
  have hsz : W0.heap.size = w.heap.size + 2 := by rw [← hW]; simp
  have hT : Hid (Bk W0 w.heap.size 22 #[.slice none 0 0]) := Lib.hid (hW ▸ (Bk.new w _ _).alloc _)
  have hF : Hid (Bk W0 (w.heap.size + 1) 27 #[.int .i64 0, .int .i64 0]) := Lib.hid (by
    have := Bk.new (w.alloc (.cells #[.slice none 0 0] 22)) 27 #[.int .i64 0, .int .i64 0]
    rw [World.size_alloc] at this
    exact hW ▸ this)
  have hBl : Below w.heap.size w W0 := hW ▸ ((Below.refl _ _).alloc (Nat.le_refl _) _).alloc (by simp) _
  have hR0 := Lib.hid (H.out.below hBl)
  have hB0 : Hid (But R w W0) := Lib.hid (But.of_below hBl)
  have hO : Hid (W0.ownsRow (w.heap.size + 2) 35 3 (.slice none 0 0) 0 (tkCells [])) := Lib.hid ⟨rfl, Or.inl ⟨rfl, rfl⟩⟩
  clear hW hBl H hsz
  go_loopw [] (fun wr => ∃ (q : Nat) (D : List Tk) (A3 : Option Addr) (c3 : Nat), q ≤ bs.length ∧ D.length ≤ q ∧ Hid (Pre bs q D) ∧ Hid (Rs wr R A bs cb q) ∧ Hid (But R w wr) ∧ Hid (Bk wr w.heap.size 22 #[.slice A3 D.length c3]) ∧ Hid (Bk wr (w.heap.size + 1) 27 #[.int .i64 0, .int .i64 0]) ∧ Hid (wr.ownsRow (w.heap.size + 2) 35 3 (.slice A3 D.length c3) D.length (tkCells D))) (fun wr => bs.length - plc wr R)
  case atStart => exact ⟨0, [], none, 0, Nat.zero_le _, Nat.le_refl _, Lib.hid (Pre.start bs), hR0, hB0, hT, hF, hO⟩
  case round =>
    clear hR0 hB0 hT hF hO
    obtain ⟨q, D, A3, c3, hq, hDq, HP, HRQ, HB, HT, HF, HO⟩ := hrel
    have hsd := skip_drop hq
    have hs2 := hsd.2.1
    have hs3 := hsd.2.2
    clear hsd
    have P := Lib.hid (pskip_any HRQ hl hcap hq)
    obtain ⟨a, ha⟩ : ∃ a, skipAt bs q = a := ⟨_, rfl⟩
    rw [ha] at P hs2 hs3
    by_cases hlt : a < bs.length
    · rw [decide_eq_true hlt] at P
      go_upto_region 3 with (go_at_call 35; refine P.out.mono ?_; rintro e w1 ⟨rfl, H1, B1⟩)
      have P2 := Lib.hid (way_any H1 hl hcap hlt)
      go_upto_region 4 with (go_at_call 36; refine P2.out.mono ?_; rintro e w2 ⟨K0, rfl, hM, nw, rfl⟩; have HM0 := Lib.hid hM; clear hM)
      have HR4 := Lib.hid (H1.out.drewN nw)
      have HB4 := Lib.hid ((HB.out.trans B1.out).drewN nw)
      have HT4 := Lib.hid ((B1.out.bk HT.out (by have := HLT.out; omega)).drewN nw)
      have HF4 := Lib.hid ((B1.out.bk HF.out (by have := HLT.out; omega)).drewN nw)
      have HO4 : Hid ((w1.drewN nw).ownsRow (w.heap.size + 2) 35 3 (.slice A3 D.length c3) D.length (tkCells D)) := Lib.hid (own_but HO.out (B1.out.drewN nw) (by have := HLT.out; omega))
      clear HB HT HF HO
      generalize w1.drewN nw = W4 at *
      cases hs : scan (bs.drop a) with
      | bad n =>
        have MC := Lib.hid (meth_bad HM0.out hs)
        have HE := Lib.hid (HP.out.bad hq (ha ▸ hlt) (ha ▸ hs))
        rw [ha] at HE
        obtain ⟨E, hE⟩ : ∃ E, a + n = E := ⟨_, rfl⟩
        rw [hE] at MC HE
        clear hs hE
        refine wp_region_any (by kernel_rfl) ?_
        try (change wpAny _ _ _ _ _ _ _ (World.drew _))
        generalize hW : W4.drew = W5
        have HR5 : Hid (Rs W5 R A bs cb a) := Lib.hid (hW ▸ ⟨HR4.out.box, HR4.out.rb, HR4.out.ne⟩)
        have HT5 : Hid (Bk W5 w.heap.size 22 #[.slice A3 D.length c3]) := Lib.hid (hW ▸ HT4.out)
        have HF5 : Hid (Bk W5 (w.heap.size + 1) 27 #[.int .i64 0, .int .i64 0]) := Lib.hid (hW ▸ HF4.out)
        have HO5 : Hid (W5.ownsRow (w.heap.size + 2) 35 3 (.slice A3 D.length c3) D.length (tkCells D)) := Lib.hid (hW ▸ HO4.out)
        have HB5 : Hid (But R w W5) := Lib.hid (hW ▸ ⟨HB4.out.os, HB4.out.tape, HB4.out.output, HB4.out.size, HB4.out.block⟩)
        clear hW
        have cT : W5.cell? ⟨w.heap.size, 0, none⟩ = some (.slice A3 D.length c3) := HT5.out.cell 0
        have hen := HM0.out.enters
        refine wpAny_ready (rs := [0, 1]) (by kernel_rfl) (by simp) ?_
        refine AllReady.cons rfl (fun K hK => ?_) ?_
        · go_simp
          refine hK _ _ ?_
          clear hK K
          (try simp only [Act.put, List.setIfInBounds_toArray, List.set_cons_zero, List.set_cons_succ])
          refine wpAny_ready (rs := [1]) (by kernel_rfl) (by simp) ?_
          refine AllReady.cons rfl (fun K hK => ?_) ?_
          · go_simp
            refine hK _ _ ?_
            clear hK K
            (try simp only [Act.put, List.setIfInBounds_toArray, List.set_cons_zero, List.set_cons_succ])
            refine wpAny_ready (rs := [2]) (by kernel_rfl) (by simp) ?_
            refine AllReady.cons rfl (fun K hK => ?_) ?_
            · go_simp
              go_wp2_with (refine (MC.out _ HR5.out).mono ?_; rintro e W6 ⟨rfl, B6⟩)
              have HT6 := B6.out.bk HT5.out (by have := HLT.out; omega)
              have HF6 := B6.out.bk HF5.out (by have := HLT.out; omega)
              have HB6 := HB5.out.trans B6.out
              refine leaves_cons (f := 34) (args := #[.pointer (some ⟨w.heap.size, 0, none⟩), .pointer (some ⟨w.heap.size + 1, 0, none⟩)]) (by simp) (by simp [go_sem]) ?_
              refine (catch_wrong (q := E) HT6 HF6 (by omega) []).mono ?_
              rintro e u' W7 ⟨rfl, rfl, hC⟩
              obtain ⟨hC1, hC2, hC3⟩ := hC.out
              have t0 : W7.cell? ⟨w.heap.size, 0, none⟩ = some (.slice none 0 0) := hC1.cell 0
              have f0 : W7.cell? ⟨w.heap.size + 1, 0, none⟩ = some (.int .i64 10) := hC2.cell 0
              have f1 : W7.cell? ⟨w.heap.size + 1, 1, none⟩ = some (.int .i64 (E : Int)) := hC2.cell 1
              have HAI : Hid (AllIs bs w.heap.size (.returned (.tuple #[.slice none 0 0, .agg #[.int .i64 10, .int .i64 (E : Int)]])) W7) := Lib.hid (Or.inl ⟨E, HE.out, rfl⟩)
              have HBF : Hid (But R w W7) := Lib.hid (HB6.over (hC3 _ (Nat.le_refl _) (by omega)))
              clear hC hC1 hC2 hC3 HT6 HF6 HB6
              simp [Leaves, settle, results, Tryd.results25, go_sem, t0, f0, f1]
              exact ⟨HAI, HBF⟩
            exact AllReady.nil
          exact AllReady.nil
        refine AllReady.cons rfl (fun K hK => ?_) ?_
        · go_simp
          refine hK _ _ ?_
          clear hK K
          (try simp only [Act.put, List.setIfInBounds_toArray, List.set_cons_zero, List.set_cons_succ])
          refine wpAny_ready (rs := [0, 2]) (by kernel_rfl) (by simp) ?_
          refine AllReady.cons rfl (fun K hK => ?_) ?_
          · go_simp
            refine hK _ _ ?_
            clear hK K
            (try simp only [Act.put, List.setIfInBounds_toArray, List.set_cons_zero, List.set_cons_succ])
            refine wpAny_ready (rs := [2]) (by kernel_rfl) (by simp) ?_
            refine AllReady.cons rfl (fun K hK => ?_) ?_
            · go_simp
              go_wp2_with (refine (MC.out _ HR5.out).mono ?_; rintro e W6 ⟨rfl, B6⟩)
              have HT6 := B6.out.bk HT5.out (by have := HLT.out; omega)
              have HF6 := B6.out.bk HF5.out (by have := HLT.out; omega)
              have HB6 := HB5.out.trans B6.out
              refine leaves_cons (f := 34) (args := #[.pointer (some ⟨w.heap.size, 0, none⟩), .pointer (some ⟨w.heap.size + 1, 0, none⟩)]) (by simp) (by simp [go_sem]) ?_
              refine (catch_wrong (q := E) HT6 HF6 (by omega) []).mono ?_
              rintro e u' W7 ⟨rfl, rfl, hC⟩
              obtain ⟨hC1, hC2, hC3⟩ := hC.out
              have t0 : W7.cell? ⟨w.heap.size, 0, none⟩ = some (.slice none 0 0) := hC1.cell 0
              have f0 : W7.cell? ⟨w.heap.size + 1, 0, none⟩ = some (.int .i64 10) := hC2.cell 0
              have f1 : W7.cell? ⟨w.heap.size + 1, 1, none⟩ = some (.int .i64 (E : Int)) := hC2.cell 1
              have HAI : Hid (AllIs bs w.heap.size (.returned (.tuple #[.slice none 0 0, .agg #[.int .i64 10, .int .i64 (E : Int)]])) W7) := Lib.hid (Or.inl ⟨E, HE.out, rfl⟩)
              have HBF : Hid (But R w W7) := Lib.hid (HB6.over (hC3 _ (Nat.le_refl _) (by omega)))
              clear hC hC1 hC2 hC3 HT6 HF6 HB6
              simp [Leaves, settle, results, Tryd.results25, go_sem, t0, f0, f1]
              exact ⟨HAI, HBF⟩
            exact AllReady.nil
          refine AllReady.cons rfl (fun K hK => ?_) ?_
          · go_simp
            go_wp2_with (refine (MC.out _ HR5.out).mono ?_; rintro e W6 ⟨rfl, B6⟩)
            have HT6 := B6.out.bk HT5.out (by have := HLT.out; omega)
            have HF6 := B6.out.bk HF5.out (by have := HLT.out; omega)
            have HB6 := HB5.out.trans B6.out
            refine leaves_cons (f := 34) (args := #[.pointer (some ⟨w.heap.size, 0, none⟩), .pointer (some ⟨w.heap.size + 1, 0, none⟩)]) (by simp) (by simp [go_sem]) ?_
            refine (catch_wrong (q := E) HT6 HF6 (by omega) []).mono ?_
            rintro e u' W7 ⟨rfl, rfl, hC⟩
            obtain ⟨hC1, hC2, hC3⟩ := hC.out
            have t0 : W7.cell? ⟨w.heap.size, 0, none⟩ = some (.slice none 0 0) := hC1.cell 0
            have f0 : W7.cell? ⟨w.heap.size + 1, 0, none⟩ = some (.int .i64 10) := hC2.cell 0
            have f1 : W7.cell? ⟨w.heap.size + 1, 1, none⟩ = some (.int .i64 (E : Int)) := hC2.cell 1
            have HAI : Hid (AllIs bs w.heap.size (.returned (.tuple #[.slice none 0 0, .agg #[.int .i64 10, .int .i64 (E : Int)]])) W7) := Lib.hid (Or.inl ⟨E, HE.out, rfl⟩)
            have HBF : Hid (But R w W7) := Lib.hid (HB6.over (hC3 _ (Nat.le_refl _) (by omega)))
            clear hC hC1 hC2 hC3 HT6 HF6 HB6
            simp [Leaves, settle, results, Tryd.results25, go_sem, t0, f0, f1]
            exact ⟨HAI, HBF⟩
          exact AllReady.nil
        exact AllReady.nil
      | tok k t n =>
        have MC := Lib.hid (meth_tok HM0.out hs)
        obtain ⟨h1, h2, h3⟩ := HP.out.step hq (ha ▸ hlt) (ha ▸ hs)
        rw [ha] at h1 h3
        have HP2 := Lib.hid h1
        have HM : Hid (D.length + 1 ≤ maxLen ∧ (D.length + 1) * 32 ≤ 140737488355328) := by constructor <;> (try unfold maxLen) <;> omega
        clear h1 hs
        refine wp_region_any (by kernel_rfl) ?_
        try (change wpAny _ _ _ _ _ _ _ (World.drew _))
        generalize hW : W4.drew = W5
        have HR5 : Hid (Rs W5 R A bs cb a) := Lib.hid (hW ▸ ⟨HR4.out.box, HR4.out.rb, HR4.out.ne⟩)
        have HT5 : Hid (Bk W5 w.heap.size 22 #[.slice A3 D.length c3]) := Lib.hid (hW ▸ HT4.out)
        have HF5 : Hid (Bk W5 (w.heap.size + 1) 27 #[.int .i64 0, .int .i64 0]) := Lib.hid (hW ▸ HF4.out)
        have HO5 : Hid (W5.ownsRow (w.heap.size + 2) 35 3 (.slice A3 D.length c3) D.length (tkCells D)) := Lib.hid (hW ▸ HO4.out)
        have HB5 : Hid (But R w W5) := Lib.hid (hW ▸ ⟨HB4.out.os, HB4.out.tape, HB4.out.output, HB4.out.size, HB4.out.block⟩)
        clear hW
        have cT : W5.cell? ⟨w.heap.size, 0, none⟩ = some (.slice A3 D.length c3) := HT5.out.cell 0
        have hen := HM0.out.enters
        refine wpAny_ready (rs := [0, 1]) (by kernel_rfl) (by simp) ?_
        refine AllReady.cons rfl (fun K hK => ?_) ?_
        · go_simp
          refine hK _ _ ?_
          clear hK K
          (try simp only [Act.put, List.setIfInBounds_toArray, List.set_cons_zero, List.set_cons_succ])
          refine wpAny_ready (rs := [1]) (by kernel_rfl) (by simp) ?_
          refine AllReady.cons rfl (fun K hK => ?_) ?_
          · go_simp
            refine hK _ _ ?_
            clear hK K
            (try simp only [Act.put, List.setIfInBounds_toArray, List.set_cons_zero, List.set_cons_succ])
            refine wpAny_ready (rs := [2]) (by kernel_rfl) (by simp) ?_
            refine AllReady.cons rfl (fun K hK => ?_) ?_
            · go_simp
              go_wp2_with (refine (MC.out _ HR5.out).mono ?_; rintro e W6 ⟨rfl, HR6, B6⟩)
              (try simp only [Act.put, List.setIfInBounds_toArray, List.set_cons_zero, List.set_cons_succ])
              have HT6 := Lib.hid (B6.out.bk HT5.out (by have := HLT.out; omega))
              have HF6 := Lib.hid (B6.out.bk HF5.out (by have := HLT.out; omega))
              have HO6 := Lib.hid (own_but HO5.out B6.out (by have := HLT.out; omega))
              have HB6 := Lib.hid (HB5.out.trans B6.out)
              clear cT
              have cT : W6.cell? ⟨w.heap.size, 0, none⟩ = some (.slice A3 D.length c3) := HT6.out.cell 0
              refine wpAny_ready (rs := [3]) (by kernel_rfl) (by simp) ?_
              refine AllReady.cons rfl (fun K hK => ?_) ?_
              · go_simp
                refine hK _ _ ?_
                clear hK K
                (try simp only [Act.put, List.setIfInBounds_toArray, List.set_cons_zero, List.set_cons_succ])
                generalize hW : W6.alloc _ = W7
                have HK7 : Hid (Bk W7 W6.heap.size 35 #[.int .i64 (k : Int), .string ⟨t.toArray⟩, .int .i64 (a : Int)]) := Lib.hid (hW ▸ Bk.new W6 _ _)
                have HT7 := Lib.hid (hW ▸ HT6.out.alloc _)
                have HF7 := Lib.hid (hW ▸ HF6.out.alloc _)
                have HO7 := Lib.hid (hW ▸ HO6.out.alloc _)
                have HB7 : Hid (But R w W7) := Lib.hid (HB6.out.over (hW ▸ (Below.refl _ _).alloc HB6.out.size _))
                have HR7 := Lib.hid (HR6.out.below (hW ▸ (Below.refl _ _).alloc (Nat.le_refl _) _))
                clear hW cT
                have cT : W7.cell? ⟨w.heap.size, 0, none⟩ = some (.slice A3 D.length c3) := HT7.out.cell 0
                refine wpAny_ready (rs := [4]) (by kernel_rfl) (by simp) ?_
                refine AllReady.cons rfl (fun K hK => ?_) ?_
                · rw [if_pos (by rfl)]
                  refine wp_append_own _ _ _ 22 rfl (w.heap.size + 2) 35 i0 _ 3 32 Tryd.underlying22 hi hz0 hz1 hz2 rfl (by decide) _ _ _ rfl HO7.out ⟨W6.heap.size, 0, none⟩ 1 1 [.int .i64 (k : Int), .string ⟨t.toArray⟩, .int .i64 (a : Int)] rfl rfl (bk_three HK7.out) (three_one _ _ _) HM.out.1 HM.out.2 (by have := HF7.out.lt; omega) ?_
                  intro v' W8 hown' hgrow _
                  obtain ⟨A4, c4, rfl, hc4⟩ := own_row3 hown'
                  refine hK _ _ ?_
                  clear hK K
                  (try simp only [Act.put, List.setIfInBounds_toArray])
                  have HX : Hid (∀ g, g < w.heap.size + 2 → (Value.slice A3 D.length c3).ownBlock ≠ some g) := Lib.hid (fun g hg e => by have := (HO7.out.lt g e.symm.symm).1; omega)
                  have HT8 : Hid (Bk W8 w.heap.size 22 _) := Lib.hid (bk_grown HT7.out hgrow (HX.out _ (by omega)))
                  have HF8 : Hid (Bk W8 (w.heap.size + 1) 27 _) := Lib.hid (bk_grown HF7.out hgrow (HX.out _ (by omega)))
                  have B8 : Hid (Below (w.heap.size + 2) W7 W8) := Lib.hid ((Below.refl _ _).grown hgrow (by have := HF7.out.lt; omega) (fun g hg => (HO7.out.lt g hg).1))
                  have HB8 : Hid (But R w W8) := Lib.hid (HB7.out.over (B8.out.mono (by omega)))
                  have HR8 := Lib.hid (HR7.out.over (by have := HLT.out; omega) (fun h0 x e => by have := HA.out h0 x e; omega) B8.out)
                  have HO8 : Hid (W8.ownsRow (w.heap.size + 2) 35 3 (.slice A4 (D ++ [(⟨k, t, a⟩ : Tk)]).length c4) (D ++ [(⟨k, t, a⟩ : Tk)]).length (tkCells (D ++ [(⟨k, t, a⟩ : Tk)]))) := Lib.hid (by rw [List.length_append, tkCells_append]; exact hown')
                  have e6 : D.length + 1 = (D ++ [(⟨k, t, a⟩ : Tk)]).length := by rw [List.length_append]; rfl
                  have HL6 := Lib.hid e6
                  clear hgrow hown' cT e6
                  have cT : W8.cell? ⟨w.heap.size, 0, none⟩ = some (.slice A3 D.length c3) := HT8.out.cell 0
                  have fT : W8.frozen? ⟨w.heap.size, 0, none⟩ = false := HT8.out.frozen 0
                  refine wpAny_ready (rs := [5]) (by kernel_rfl) (by simp) ?_
                  refine AllReady.cons rfl (fun K hK => ?_) ?_
                  · go_simp
                    refine hK _ _ ?_
                    clear hK K
                    (try simp only [Act.put, List.setIfInBounds_toArray, List.set_cons_zero, List.set_cons_succ])
                    generalize hW : World.setCell _ _ _ = W9
                    have HT9 : Hid (Bk W9 w.heap.size 22 #[.slice A4 (D ++ [(⟨k, t, a⟩ : Tk)]).length c4]) := Lib.hid (by rw [← hW, ← HL6.out]; exact HT8.out.set_ 0 _)
                    have HF9 := Lib.hid (hW ▸ HF8.out.far (p := ⟨w.heap.size, 0, none⟩) (by simp) _)
                    have HO9 := Lib.hid (hW ▸ ownsRow_setCell_below HO8.out (a := ⟨w.heap.size, 0, none⟩) (by simp) _)
                    have HB9 : Hid (But R w W9) := Lib.hid (hW ▸ HB8.out.far (p := ⟨w.heap.size, 0, none⟩) (Nat.le_refl _) _)
                    have HR9 := Lib.hid (hW ▸ HR8.out.far (p := ⟨w.heap.size, 0, none⟩) (by simp only; have := HLT.out; omega) (fun h0 x e => HA.out h0 x e) _)
                    clear hW cT fT
                    refine wpAny_done (by kernel_rfl) ?_ _
                    go_wp2_with fail
                    go_roundw
                    case rel => exact ⟨a + n, _, A4, c4, by omega, by have := HL6.out; omega, HP2, HR9, HB9, HT9, HF9, HO9⟩
                    case measure => rw [HRQ.out.plc, HR9.out.plc]; omega
                  exact AllReady.nil
                exact AllReady.nil
              exact AllReady.nil
            exact AllReady.nil
          exact AllReady.nil
        refine AllReady.cons rfl (fun K hK => ?_) ?_
        · go_simp
          refine hK _ _ ?_
          clear hK K
          (try simp only [Act.put, List.setIfInBounds_toArray, List.set_cons_zero, List.set_cons_succ])
          refine wpAny_ready (rs := [0, 2]) (by kernel_rfl) (by simp) ?_
          refine AllReady.cons rfl (fun K hK => ?_) ?_
          · go_simp
            refine hK _ _ ?_
            clear hK K
            (try simp only [Act.put, List.setIfInBounds_toArray, List.set_cons_zero, List.set_cons_succ])
            refine wpAny_ready (rs := [2]) (by kernel_rfl) (by simp) ?_
            refine AllReady.cons rfl (fun K hK => ?_) ?_
            · go_simp
              go_wp2_with (refine (MC.out _ HR5.out).mono ?_; rintro e W6 ⟨rfl, HR6, B6⟩)
              (try simp only [Act.put, List.setIfInBounds_toArray, List.set_cons_zero, List.set_cons_succ])
              have HT6 := Lib.hid (B6.out.bk HT5.out (by have := HLT.out; omega))
              have HF6 := Lib.hid (B6.out.bk HF5.out (by have := HLT.out; omega))
              have HO6 := Lib.hid (own_but HO5.out B6.out (by have := HLT.out; omega))
              have HB6 := Lib.hid (HB5.out.trans B6.out)
              clear cT
              have cT : W6.cell? ⟨w.heap.size, 0, none⟩ = some (.slice A3 D.length c3) := HT6.out.cell 0
              refine wpAny_ready (rs := [3]) (by kernel_rfl) (by simp) ?_
              refine AllReady.cons rfl (fun K hK => ?_) ?_
              · go_simp
                refine hK _ _ ?_
                clear hK K
                (try simp only [Act.put, List.setIfInBounds_toArray, List.set_cons_zero, List.set_cons_succ])
                generalize hW : W6.alloc _ = W7
                have HK7 : Hid (Bk W7 W6.heap.size 35 #[.int .i64 (k : Int), .string ⟨t.toArray⟩, .int .i64 (a : Int)]) := Lib.hid (hW ▸ Bk.new W6 _ _)
                have HT7 := Lib.hid (hW ▸ HT6.out.alloc _)
                have HF7 := Lib.hid (hW ▸ HF6.out.alloc _)
                have HO7 := Lib.hid (hW ▸ HO6.out.alloc _)
                have HB7 : Hid (But R w W7) := Lib.hid (HB6.out.over (hW ▸ (Below.refl _ _).alloc HB6.out.size _))
                have HR7 := Lib.hid (HR6.out.below (hW ▸ (Below.refl _ _).alloc (Nat.le_refl _) _))
                clear hW cT
                have cT : W7.cell? ⟨w.heap.size, 0, none⟩ = some (.slice A3 D.length c3) := HT7.out.cell 0
                refine wpAny_ready (rs := [4]) (by kernel_rfl) (by simp) ?_
                refine AllReady.cons rfl (fun K hK => ?_) ?_
                · rw [if_pos (by rfl)]
                  refine wp_append_own _ _ _ 22 rfl (w.heap.size + 2) 35 i0 _ 3 32 Tryd.underlying22 hi hz0 hz1 hz2 rfl (by decide) _ _ _ rfl HO7.out ⟨W6.heap.size, 0, none⟩ 1 1 [.int .i64 (k : Int), .string ⟨t.toArray⟩, .int .i64 (a : Int)] rfl rfl (bk_three HK7.out) (three_one _ _ _) HM.out.1 HM.out.2 (by have := HF7.out.lt; omega) ?_
                  intro v' W8 hown' hgrow _
                  obtain ⟨A4, c4, rfl, hc4⟩ := own_row3 hown'
                  refine hK _ _ ?_
                  clear hK K
                  (try simp only [Act.put, List.setIfInBounds_toArray])
                  have HX : Hid (∀ g, g < w.heap.size + 2 → (Value.slice A3 D.length c3).ownBlock ≠ some g) := Lib.hid (fun g hg e => by have := (HO7.out.lt g e.symm.symm).1; omega)
                  have HT8 : Hid (Bk W8 w.heap.size 22 _) := Lib.hid (bk_grown HT7.out hgrow (HX.out _ (by omega)))
                  have HF8 : Hid (Bk W8 (w.heap.size + 1) 27 _) := Lib.hid (bk_grown HF7.out hgrow (HX.out _ (by omega)))
                  have B8 : Hid (Below (w.heap.size + 2) W7 W8) := Lib.hid ((Below.refl _ _).grown hgrow (by have := HF7.out.lt; omega) (fun g hg => (HO7.out.lt g hg).1))
                  have HB8 : Hid (But R w W8) := Lib.hid (HB7.out.over (B8.out.mono (by omega)))
                  have HR8 := Lib.hid (HR7.out.over (by have := HLT.out; omega) (fun h0 x e => by have := HA.out h0 x e; omega) B8.out)
                  have HO8 : Hid (W8.ownsRow (w.heap.size + 2) 35 3 (.slice A4 (D ++ [(⟨k, t, a⟩ : Tk)]).length c4) (D ++ [(⟨k, t, a⟩ : Tk)]).length (tkCells (D ++ [(⟨k, t, a⟩ : Tk)]))) := Lib.hid (by rw [List.length_append, tkCells_append]; exact hown')
                  have e6 : D.length + 1 = (D ++ [(⟨k, t, a⟩ : Tk)]).length := by rw [List.length_append]; rfl
                  have HL6 := Lib.hid e6
                  clear hgrow hown' cT e6
                  have cT : W8.cell? ⟨w.heap.size, 0, none⟩ = some (.slice A3 D.length c3) := HT8.out.cell 0
                  have fT : W8.frozen? ⟨w.heap.size, 0, none⟩ = false := HT8.out.frozen 0
                  refine wpAny_ready (rs := [5]) (by kernel_rfl) (by simp) ?_
                  refine AllReady.cons rfl (fun K hK => ?_) ?_
                  · go_simp
                    refine hK _ _ ?_
                    clear hK K
                    (try simp only [Act.put, List.setIfInBounds_toArray, List.set_cons_zero, List.set_cons_succ])
                    generalize hW : World.setCell _ _ _ = W9
                    have HT9 : Hid (Bk W9 w.heap.size 22 #[.slice A4 (D ++ [(⟨k, t, a⟩ : Tk)]).length c4]) := Lib.hid (by rw [← hW, ← HL6.out]; exact HT8.out.set_ 0 _)
                    have HF9 := Lib.hid (hW ▸ HF8.out.far (p := ⟨w.heap.size, 0, none⟩) (by simp) _)
                    have HO9 := Lib.hid (hW ▸ ownsRow_setCell_below HO8.out (a := ⟨w.heap.size, 0, none⟩) (by simp) _)
                    have HB9 : Hid (But R w W9) := Lib.hid (hW ▸ HB8.out.far (p := ⟨w.heap.size, 0, none⟩) (Nat.le_refl _) _)
                    have HR9 := Lib.hid (hW ▸ HR8.out.far (p := ⟨w.heap.size, 0, none⟩) (by simp only; have := HLT.out; omega) (fun h0 x e => HA.out h0 x e) _)
                    clear hW cT fT
                    refine wpAny_done (by kernel_rfl) ?_ _
                    go_wp2_with fail
                    go_roundw
                    case rel => exact ⟨a + n, _, A4, c4, by omega, by have := HL6.out; omega, HP2, HR9, HB9, HT9, HF9, HO9⟩
                    case measure => rw [HRQ.out.plc, HR9.out.plc]; omega
                  exact AllReady.nil
                exact AllReady.nil
              exact AllReady.nil
            exact AllReady.nil
          refine AllReady.cons rfl (fun K hK => ?_) ?_
          · go_simp
            go_wp2_with (refine (MC.out _ HR5.out).mono ?_; rintro e W6 ⟨rfl, HR6, B6⟩)
            (try simp only [Act.put, List.setIfInBounds_toArray, List.set_cons_zero, List.set_cons_succ])
            have HT6 := Lib.hid (B6.out.bk HT5.out (by have := HLT.out; omega))
            have HF6 := Lib.hid (B6.out.bk HF5.out (by have := HLT.out; omega))
            have HO6 := Lib.hid (own_but HO5.out B6.out (by have := HLT.out; omega))
            have HB6 := Lib.hid (HB5.out.trans B6.out)
            clear cT
            have cT : W6.cell? ⟨w.heap.size, 0, none⟩ = some (.slice A3 D.length c3) := HT6.out.cell 0
            refine wpAny_ready (rs := [0, 3]) (by kernel_rfl) (by simp) ?_
            refine AllReady.cons rfl (fun K hK => ?_) ?_
            · go_simp
              refine hK _ _ ?_
              clear hK K
              (try simp only [Act.put, List.setIfInBounds_toArray, List.set_cons_zero, List.set_cons_succ])
              refine wpAny_ready (rs := [3]) (by kernel_rfl) (by simp) ?_
              refine AllReady.cons rfl (fun K hK => ?_) ?_
              · go_simp
                refine hK _ _ ?_
                clear hK K
                (try simp only [Act.put, List.setIfInBounds_toArray, List.set_cons_zero, List.set_cons_succ])
                generalize hW : W6.alloc _ = W7
                have HK7 : Hid (Bk W7 W6.heap.size 35 #[.int .i64 (k : Int), .string ⟨t.toArray⟩, .int .i64 (a : Int)]) := Lib.hid (hW ▸ Bk.new W6 _ _)
                have HT7 := Lib.hid (hW ▸ HT6.out.alloc _)
                have HF7 := Lib.hid (hW ▸ HF6.out.alloc _)
                have HO7 := Lib.hid (hW ▸ HO6.out.alloc _)
                have HB7 : Hid (But R w W7) := Lib.hid (HB6.out.over (hW ▸ (Below.refl _ _).alloc HB6.out.size _))
                have HR7 := Lib.hid (HR6.out.below (hW ▸ (Below.refl _ _).alloc (Nat.le_refl _) _))
                clear hW cT
                have cT : W7.cell? ⟨w.heap.size, 0, none⟩ = some (.slice A3 D.length c3) := HT7.out.cell 0
                refine wpAny_ready (rs := [4]) (by kernel_rfl) (by simp) ?_
                refine AllReady.cons rfl (fun K hK => ?_) ?_
                · rw [if_pos (by rfl)]
                  refine wp_append_own _ _ _ 22 rfl (w.heap.size + 2) 35 i0 _ 3 32 Tryd.underlying22 hi hz0 hz1 hz2 rfl (by decide) _ _ _ rfl HO7.out ⟨W6.heap.size, 0, none⟩ 1 1 [.int .i64 (k : Int), .string ⟨t.toArray⟩, .int .i64 (a : Int)] rfl rfl (bk_three HK7.out) (three_one _ _ _) HM.out.1 HM.out.2 (by have := HF7.out.lt; omega) ?_
                  intro v' W8 hown' hgrow _
                  obtain ⟨A4, c4, rfl, hc4⟩ := own_row3 hown'
                  refine hK _ _ ?_
                  clear hK K
                  (try simp only [Act.put, List.setIfInBounds_toArray])
                  have HX : Hid (∀ g, g < w.heap.size + 2 → (Value.slice A3 D.length c3).ownBlock ≠ some g) := Lib.hid (fun g hg e => by have := (HO7.out.lt g e.symm.symm).1; omega)
                  have HT8 : Hid (Bk W8 w.heap.size 22 _) := Lib.hid (bk_grown HT7.out hgrow (HX.out _ (by omega)))
                  have HF8 : Hid (Bk W8 (w.heap.size + 1) 27 _) := Lib.hid (bk_grown HF7.out hgrow (HX.out _ (by omega)))
                  have B8 : Hid (Below (w.heap.size + 2) W7 W8) := Lib.hid ((Below.refl _ _).grown hgrow (by have := HF7.out.lt; omega) (fun g hg => (HO7.out.lt g hg).1))
                  have HB8 : Hid (But R w W8) := Lib.hid (HB7.out.over (B8.out.mono (by omega)))
                  have HR8 := Lib.hid (HR7.out.over (by have := HLT.out; omega) (fun h0 x e => by have := HA.out h0 x e; omega) B8.out)
                  have HO8 : Hid (W8.ownsRow (w.heap.size + 2) 35 3 (.slice A4 (D ++ [(⟨k, t, a⟩ : Tk)]).length c4) (D ++ [(⟨k, t, a⟩ : Tk)]).length (tkCells (D ++ [(⟨k, t, a⟩ : Tk)]))) := Lib.hid (by rw [List.length_append, tkCells_append]; exact hown')
                  have e6 : D.length + 1 = (D ++ [(⟨k, t, a⟩ : Tk)]).length := by rw [List.length_append]; rfl
                  have HL6 := Lib.hid e6
                  clear hgrow hown' cT e6
                  have cT : W8.cell? ⟨w.heap.size, 0, none⟩ = some (.slice A3 D.length c3) := HT8.out.cell 0
                  have fT : W8.frozen? ⟨w.heap.size, 0, none⟩ = false := HT8.out.frozen 0
                  refine wpAny_ready (rs := [5]) (by kernel_rfl) (by simp) ?_
                  refine AllReady.cons rfl (fun K hK => ?_) ?_
                  · go_simp
                    refine hK _ _ ?_
                    clear hK K
                    (try simp only [Act.put, List.setIfInBounds_toArray, List.set_cons_zero, List.set_cons_succ])
                    generalize hW : World.setCell _ _ _ = W9
                    have HT9 : Hid (Bk W9 w.heap.size 22 #[.slice A4 (D ++ [(⟨k, t, a⟩ : Tk)]).length c4]) := Lib.hid (by rw [← hW, ← HL6.out]; exact HT8.out.set_ 0 _)
                    have HF9 := Lib.hid (hW ▸ HF8.out.far (p := ⟨w.heap.size, 0, none⟩) (by simp) _)
                    have HO9 := Lib.hid (hW ▸ ownsRow_setCell_below HO8.out (a := ⟨w.heap.size, 0, none⟩) (by simp) _)
                    have HB9 : Hid (But R w W9) := Lib.hid (hW ▸ HB8.out.far (p := ⟨w.heap.size, 0, none⟩) (Nat.le_refl _) _)
                    have HR9 := Lib.hid (hW ▸ HR8.out.far (p := ⟨w.heap.size, 0, none⟩) (by simp only; have := HLT.out; omega) (fun h0 x e => HA.out h0 x e) _)
                    clear hW cT fT
                    refine wpAny_done (by kernel_rfl) ?_ _
                    go_wp2_with fail
                    go_roundw
                    case rel => exact ⟨a + n, _, A4, c4, by omega, by have := HL6.out; omega, HP2, HR9, HB9, HT9, HF9, HO9⟩
                    case measure => rw [HRQ.out.plc, HR9.out.plc]; omega
                  exact AllReady.nil
                exact AllReady.nil
              exact AllReady.nil
            refine AllReady.cons rfl (fun K hK => ?_) ?_
            · go_simp
              refine hK _ _ ?_
              clear hK K
              (try simp only [Act.put, List.setIfInBounds_toArray, List.set_cons_zero, List.set_cons_succ])
              generalize hW : W6.alloc _ = W7
              have HK7 : Hid (Bk W7 W6.heap.size 35 #[.int .i64 (k : Int), .string ⟨t.toArray⟩, .int .i64 (a : Int)]) := Lib.hid (hW ▸ Bk.new W6 _ _)
              have HT7 := Lib.hid (hW ▸ HT6.out.alloc _)
              have HF7 := Lib.hid (hW ▸ HF6.out.alloc _)
              have HO7 := Lib.hid (hW ▸ HO6.out.alloc _)
              have HB7 : Hid (But R w W7) := Lib.hid (HB6.out.over (hW ▸ (Below.refl _ _).alloc HB6.out.size _))
              have HR7 := Lib.hid (HR6.out.below (hW ▸ (Below.refl _ _).alloc (Nat.le_refl _) _))
              clear hW cT
              have cT : W7.cell? ⟨w.heap.size, 0, none⟩ = some (.slice A3 D.length c3) := HT7.out.cell 0
              refine wpAny_ready (rs := [0]) (by kernel_rfl) (by simp) ?_
              refine AllReady.cons rfl (fun K hK => ?_) ?_
              · go_simp
                refine hK _ _ ?_
                clear hK K
                (try simp only [Act.put, List.setIfInBounds_toArray, List.set_cons_zero, List.set_cons_succ])
                refine wpAny_ready (rs := [4]) (by kernel_rfl) (by simp) ?_
                refine AllReady.cons rfl (fun K hK => ?_) ?_
                · rw [if_pos (by rfl)]
                  refine wp_append_own _ _ _ 22 rfl (w.heap.size + 2) 35 i0 _ 3 32 Tryd.underlying22 hi hz0 hz1 hz2 rfl (by decide) _ _ _ rfl HO7.out ⟨W6.heap.size, 0, none⟩ 1 1 [.int .i64 (k : Int), .string ⟨t.toArray⟩, .int .i64 (a : Int)] rfl rfl (bk_three HK7.out) (three_one _ _ _) HM.out.1 HM.out.2 (by have := HF7.out.lt; omega) ?_
                  intro v' W8 hown' hgrow _
                  obtain ⟨A4, c4, rfl, hc4⟩ := own_row3 hown'
                  refine hK _ _ ?_
                  clear hK K
                  (try simp only [Act.put, List.setIfInBounds_toArray])
                  have HX : Hid (∀ g, g < w.heap.size + 2 → (Value.slice A3 D.length c3).ownBlock ≠ some g) := Lib.hid (fun g hg e => by have := (HO7.out.lt g e.symm.symm).1; omega)
                  have HT8 : Hid (Bk W8 w.heap.size 22 _) := Lib.hid (bk_grown HT7.out hgrow (HX.out _ (by omega)))
                  have HF8 : Hid (Bk W8 (w.heap.size + 1) 27 _) := Lib.hid (bk_grown HF7.out hgrow (HX.out _ (by omega)))
                  have B8 : Hid (Below (w.heap.size + 2) W7 W8) := Lib.hid ((Below.refl _ _).grown hgrow (by have := HF7.out.lt; omega) (fun g hg => (HO7.out.lt g hg).1))
                  have HB8 : Hid (But R w W8) := Lib.hid (HB7.out.over (B8.out.mono (by omega)))
                  have HR8 := Lib.hid (HR7.out.over (by have := HLT.out; omega) (fun h0 x e => by have := HA.out h0 x e; omega) B8.out)
                  have HO8 : Hid (W8.ownsRow (w.heap.size + 2) 35 3 (.slice A4 (D ++ [(⟨k, t, a⟩ : Tk)]).length c4) (D ++ [(⟨k, t, a⟩ : Tk)]).length (tkCells (D ++ [(⟨k, t, a⟩ : Tk)]))) := Lib.hid (by rw [List.length_append, tkCells_append]; exact hown')
                  have e6 : D.length + 1 = (D ++ [(⟨k, t, a⟩ : Tk)]).length := by rw [List.length_append]; rfl
                  have HL6 := Lib.hid e6
                  clear hgrow hown' cT e6
                  have cT : W8.cell? ⟨w.heap.size, 0, none⟩ = some (.slice A3 D.length c3) := HT8.out.cell 0
                  have fT : W8.frozen? ⟨w.heap.size, 0, none⟩ = false := HT8.out.frozen 0
                  refine wpAny_ready (rs := [5]) (by kernel_rfl) (by simp) ?_
                  refine AllReady.cons rfl (fun K hK => ?_) ?_
                  · go_simp
                    refine hK _ _ ?_
                    clear hK K
                    (try simp only [Act.put, List.setIfInBounds_toArray, List.set_cons_zero, List.set_cons_succ])
                    generalize hW : World.setCell _ _ _ = W9
                    have HT9 : Hid (Bk W9 w.heap.size 22 #[.slice A4 (D ++ [(⟨k, t, a⟩ : Tk)]).length c4]) := Lib.hid (by rw [← hW, ← HL6.out]; exact HT8.out.set_ 0 _)
                    have HF9 := Lib.hid (hW ▸ HF8.out.far (p := ⟨w.heap.size, 0, none⟩) (by simp) _)
                    have HO9 := Lib.hid (hW ▸ ownsRow_setCell_below HO8.out (a := ⟨w.heap.size, 0, none⟩) (by simp) _)
                    have HB9 : Hid (But R w W9) := Lib.hid (hW ▸ HB8.out.far (p := ⟨w.heap.size, 0, none⟩) (Nat.le_refl _) _)
                    have HR9 := Lib.hid (hW ▸ HR8.out.far (p := ⟨w.heap.size, 0, none⟩) (by simp only; have := HLT.out; omega) (fun h0 x e => HA.out h0 x e) _)
                    clear hW cT fT
                    refine wpAny_done (by kernel_rfl) ?_ _
                    go_wp2_with fail
                    go_roundw
                    case rel => exact ⟨a + n, _, A4, c4, by omega, by have := HL6.out; omega, HP2, HR9, HB9, HT9, HF9, HO9⟩
                    case measure => rw [HRQ.out.plc, HR9.out.plc]; omega
                  exact AllReady.nil
                exact AllReady.nil
              exact AllReady.nil
            exact AllReady.nil
          exact AllReady.nil
        exact AllReady.nil
    · rw [decide_eq_false hlt] at P
      have hDl : D.length ≤ bs.length := by omega
      have HE := Lib.hid (HP.out.done hq (by rw [ha]; omega))
      go_upto_region 5 with (go_at_call 35; refine P.out.mono ?_; rintro e w1 ⟨rfl, H1, B1⟩)
      have HB4 := Lib.hid (HB.out.trans B1.out)
      have HT4 := Lib.hid (B1.out.bk HT.out (by have := HLT.out; omega))
      have HF4 := Lib.hid (B1.out.bk HF.out (by have := HLT.out; omega))
      have HO4 := Lib.hid (own_but HO.out B1.out (by have := HLT.out; omega))
      clear HB HT HF HO hlt
      have t0 : w1.cell? ⟨w.heap.size, 0, none⟩ = some (.slice A3 D.length c3) := HT4.out.cell 0
      have f0 : w1.cell? ⟨w.heap.size + 1, 0, none⟩ = some (.int .i64 0) := HF4.out.cell 0
      have f1 : w1.cell? ⟨w.heap.size + 1, 1, none⟩ = some (.int .i64 0) := HF4.out.cell 1
      have tf := HT4.out.frozen
      have ff := HF4.out.frozen
      go_region
      clear t0 f0 f1 tf ff
      generalize hW : World.setCell _ _ _ = W6
      have HT6 : Hid (Bk W6 w.heap.size 22 #[.slice A3 D.length c3]) := Lib.hid (hW ▸ ((HT4.out.set_ 0 _).far (p := ⟨w.heap.size + 1, 0, none⟩) (by simp) _).far (p := ⟨w.heap.size + 1, 1, none⟩) (by simp) _)
      have HF6 : Hid (Bk W6 (w.heap.size + 1) 27 #[.int .i64 0, .int .i64 0]) := Lib.hid (hW ▸ ((HF4.out.far (p := ⟨w.heap.size, 0, none⟩) (by simp) _).set_ 0 _).set_ 1 _)
      have HO6 := Lib.hid (hW ▸ ownsRow_setCell_below (ownsRow_setCell_below (ownsRow_setCell_below HO4.out (a := ⟨w.heap.size, 0, none⟩) (by simp) _) (a := ⟨w.heap.size + 1, 0, none⟩) (by simp) _) (a := ⟨w.heap.size + 1, 1, none⟩) (by simp) _)
      have HB6 : Hid (But R w W6) := Lib.hid (hW ▸ ((HB4.out.far (p := ⟨w.heap.size, 0, none⟩) (Nat.le_refl _) _).far (p := ⟨w.heap.size + 1, 0, none⟩) (by simp) _).far (p := ⟨w.heap.size + 1, 1, none⟩) (by simp) _)
      clear hW
      go_wp2_with fail
      refine leaves_cons (f := 34) (args := #[.pointer (some ⟨w.heap.size, 0, none⟩), .pointer (some ⟨w.heap.size + 1, 0, none⟩)]) (by simp) (by simp [go_sem]) ?_
      refine (catch_idle _ _ _).mono ?_
      rintro e u' W7 ⟨rfl, rfl, rfl⟩
      have t0 : W6.cell? ⟨w.heap.size, 0, none⟩ = some (.slice A3 D.length c3) := HT6.out.cell 0
      have f0 : W6.cell? ⟨w.heap.size + 1, 0, none⟩ = some (.int .i64 0) := HF6.out.cell 0
      have f1 : W6.cell? ⟨w.heap.size + 1, 1, none⟩ = some (.int .i64 0) := HF6.out.cell 1
      have HAI : Hid (AllIs bs w.heap.size (.returned (.tuple #[.slice A3 D.length c3, .agg #[.int .i64 0, .int .i64 0]])) W6.drew) := Lib.hid (Or.inr ⟨D, A3, c3, HE.out, hDl, rfl, own_mono HO6.out (by omega)⟩)
      have HBF : Hid (But R w W6.drew) := Lib.hid ⟨HB6.out.os, HB6.out.tape, HB6.out.output, HB6.out.size, HB6.out.block⟩
      simp [Leaves, settle, results, Tryd.results25, go_sem, t0, f0, f1]
      exact ⟨HAI, HBF⟩
end Go.Proofs.YtmnllioeaaimcaaDoor.tk
