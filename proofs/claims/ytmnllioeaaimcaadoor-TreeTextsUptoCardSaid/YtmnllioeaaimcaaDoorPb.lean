/- Package token: the reader: what is next, and going on. -/
import Derived.Recover
import Derived.Deep.CutBlock
import Derived.Test.YtmnllioeaaimcaaDoorPa
import Derived.Test.YtmnllioeaaimcaaDoorTj
namespace Go.Proofs.YtmnllioeaaimcaaDoor.tk
open Go.RowKit

/-- the reader's box (block R): its text, a slice that reads as bytes, and its place -/
structure Rs (w : World) (R : Nat) (A : Option Addr) (bs : List UInt8) (cb p : Nat) : Prop where
  box : Bk w R 68 #[.slice A bs.length cb, .int .i64 (p : Int)]
  rb : Rb w A bs
  ne : 0 < bs.length → ∀ a, A = some a → a.block ≠ R
/-- as it was, but for block R and what is new -/
structure But (R : Nat) (w w' : World) : Prop where
  os : w'.os = w.os
  tape : w'.tape = w.tape
  output : w'.output = w.output
  size : w.heap.size ≤ w'.heap.size
  block : ∀ k, k < w.heap.size → k ≠ R → w'.heap[k]? = w.heap[k]?
section
variable {w w' w'' : World} {R B : Nat}
theorem But.refl (R : Nat) (w : World) : But R w w := ⟨rfl, rfl, rfl, Nat.le_refl _, fun _ _ _ => rfl⟩
theorem But.trans (h : But R w w') (k : But R w' w'') : But R w w'' :=
  ⟨k.os.trans h.os, k.tape.trans h.tape, k.output.trans h.output, Nat.le_trans h.size k.size, fun i hi hr => (k.block i (Nat.lt_of_lt_of_le hi h.size) hr).trans (h.block i hi hr)⟩
theorem But.drewN (h : But R w w') (n : Nat) : But R w (w'.drewN n) := ⟨h.os, h.tape, h.output, h.size, h.block⟩
theorem But.below (h : But R w w') (hR : B ≤ R) (hB : B ≤ w.heap.size) : Below B w w' := ⟨h.os, h.tape, h.output, h.size, fun k hk => h.block k (by omega) (by omega)⟩
theorem But.of_below (h : Below w.heap.size w w') : But R w w' := ⟨h.os, h.tape, h.output, h.size, fun k hk _ => h.block k hk⟩
theorem But.set_ (h : But R w w') (i : Nat) (u : Value) : But R w (w'.setCell ⟨R, i, none⟩ u) :=
  h.trans ⟨rfl, rfl, rfl, by simp [World.setCell], fun k _ hr => Below.heap_setCell _ _ _ _ hr⟩
theorem But.bk {g : Nat} {t : TypeId} {cs : Array Value} (h : But R w w') (hb : Bk w g t cs) (hg : g ≠ R) : Bk w' g t cs := (h.block g hb.lt hg).trans hb
theorem But.rb {A : Option Addr} {bs : List UInt8} (h : But R w w') (hb : Rb w A bs) (hg : 0 < bs.length → ∀ a, A = some a → a.block ≠ R) : Rb w' A bs := fun hn => by
  obtain ⟨b, off, e, hlt, hc⟩ := hb hn
  refine ⟨b, off, e, Nat.lt_of_lt_of_le hlt h.size, fun j hj => ?_⟩
  exact (World.cell?_of_block (w := w) (a := ⟨b, off + j, none⟩) (h.block b hlt (hg hn _ e))).trans (hc j hj)
theorem Bk.drewN {g : Nat} {t : TypeId} {cs : Array Value} (h : Bk w g t cs) (n : Nat) : Bk (w.drewN n) g t cs := h
theorem Rb.drewN {A : Option Addr} {bs : List UInt8} (h : Rb w A bs) (n : Nat) : Rb (w.drewN n) A bs := h
end
section
variable {w w' : World} {R : Nat} {A : Option Addr} {bs : List UInt8} {cb p q : Nat}
theorem Rs.c0 (h : Rs w R A bs cb p) : w.cell? ⟨R, 0, none⟩ = some (.slice A bs.length cb) := h.box.cell 0
theorem Rs.c1 (h : Rs w R A bs cb p) : w.cell? ⟨R, 1, none⟩ = some (.int .i64 (p : Int)) := h.box.cell 1
theorem Rs.f0 (h : Rs w R A bs cb p) : w.frozen? ⟨R, 0, none⟩ = false := h.box.frozen 0
theorem Rs.f1 (h : Rs w R A bs cb p) : w.frozen? ⟨R, 1, none⟩ = false := h.box.frozen 1
theorem Rs.drewN (h : Rs w R A bs cb p) (n : Nat) : Rs (w.drewN n) R A bs cb p := ⟨h.box, h.rb, h.ne⟩
theorem Rs.go (h : Rs w R A bs cb p) (q : Nat) {W : World} (hW : w.setCell ⟨R, 1, none⟩ (.int .i64 (q : Int)) = W) : Rs W R A bs cb q ∧ But R w W := by
  subst hW
  have hb := (But.refl R w).set_ 1 (.int .i64 (q : Int))
  exact ⟨⟨h.box.set_ 1 _, hb.rb h.rb h.ne, h.ne⟩, hb⟩
theorem Rs.below (h : Rs w R A bs cb p) (hb : Below w.heap.size w w') : Rs w' R A bs cb p := ⟨h.box.below hb h.box.lt, h.rb.below hb, h.ne⟩
end
theorem drewN2 (w : World) (a b : Nat) : ∃ n, (w.drewN a).drewN b = w.drewN n := ⟨a + b, World.drewN_drewN ..⟩
/-- the reader's place, for measures -/
def plc (w : World) (R : Nat) : Nat := match w.cell? ⟨R, 1, none⟩ with | some v => (intOf v).toNat | none => 0
theorem Rs.plc {w : World} {R : Nat} {A : Option Addr} {bs : List UInt8} {cb p : Nat} (h : Rs w R A bs cb p) : tk.plc w R = p := by
  unfold tk.plc
  rw [h.c1]
  simp [intOf]
/-- the byte that is next; 0 at the end -/
def hereB (bs : List UInt8) (p : Nat) : UInt8 := if h : p < bs.length then bs[p] else 0
theorem here_at {bs : List UInt8} {p : Nat} (h : p < bs.length) : hereB bs p = bs[p] := dif_pos h
theorem here_end {bs : List UInt8} {p : Nat} (h : bs.length ≤ p) : hereB bs p = 0 := dif_neg (by omega)

set_option maxRecDepth 100000 in
set_option maxHeartbeats 1000000 in
theorem here_any {w : World} {R : Nat} {A : Option Addr} {bs : List UInt8} {cb p : Nat} (H : Hid (Rs w R A bs cb p)) (hl : bs.length ≤ 100000000) (hcap : bs.length ≤ cb) :
    Calls Tryd.prog 47 #[.pointer (some ⟨R, 0, none⟩)] w fun e w' => e = .returned (byV (hereB bs p)) ∧ ∃ n, w' = w.drewN n := by
  have this := And.intro hl hcap
  clear this
  have c0 := H.out.c0
  have c1 := H.out.c1
  go_enter Tryd.func47, Tryd.ntmps47
  by_cases hlt : p < bs.length
  · obtain ⟨b, off, rfl, hck⟩ := H.out.rb.at_ hlt
    rw [here_at hlt]
    generalize bs[p] = c at *
    have g0 : (p : Int) < (bs.length : Int) := by omega
    go_wp2_with fail
    go_quiet (fail)
    go_wp2_with fail
    go_quiet (fail)
    go_wp2_with fail
    go_ret
    exact ⟨rfl, drewN2 _ _ _⟩
  · rw [here_end (by omega)]
    have g0 : ¬ ((p : Int) < (bs.length : Int)) := by omega
    go_wp2_with fail
    go_quiet (fail)
    go_wp2_with fail
    go_ret
    exact ⟨rfl, _, rfl⟩

/-- a test of one byte -/
structure IsT (f : FuncId) (t : UInt8 → Bool) : Prop where
  calls : ∀ c w, Calls Tryd.prog f #[byV c] w fun e w' => e = .returned (.bool (t c)) ∧ w = w'
  enters : ∀ (args : Array Value) (w : World), (callFunc f args).run Tryd.prog w = .ok (.enter f args) w
theorem IsT.quiet {f : FuncId} {t : UInt8 → Bool} (h : IsT f t) (c : UInt8) (w : World) (n : Nat) : Calls Tryd.prog f #[byV c] (w.drewN n) fun e w' => e = .returned (.bool (t c)) ∧ ∃ m, w' = w.drewN m :=
  (h.calls c _).mono fun _ _ ⟨he, hw⟩ => ⟨he, n, hw.symm⟩
theorem enters_of {P : Program} {f : FuncId} {fn : Func} (hf : P.funcs[f]? = some fn) (hn : (fn.name == "runtime.NumGoroutine") = false) (hb : fn.body.isNone = false) (args : Array Value) (w : World) :
    (callFunc f args).run P w = .ok (.enter f args) w := by
  have hn' : ¬ fn.name = "runtime.NumGoroutine" := by simpa using hn
  have hb' : ¬ fn.body = none := fun e => by rw [e] at hb; cases hb
  simp [callFunc, go_sem, hf, hn', hb']
theorem isT_blank : IsT 46 isBlank := ⟨pblank_any, enters_of Tryd.func46 (by kernel_rfl) (by kernel_rfl)⟩
theorem isT_bit : IsT 69 isBin := ⟨pbit_any, enters_of Tryd.func69 (by kernel_rfl) (by kernel_rfl)⟩
theorem isT_digit : IsT 50 isDigit := ⟨pdigit_any, enters_of Tryd.func50 (by kernel_rfl) (by kernel_rfl)⟩
theorem isT_hex : IsT 68 isHex := ⟨phex_any, enters_of Tryd.func68 (by kernel_rfl) (by kernel_rfl)⟩
theorem isT_quo : IsT 73 isQuo := ⟨pquoted_any, enters_of Tryd.func73 (by kernel_rfl) (by kernel_rfl)⟩
theorem isT_bar : IsT 75 isBar := ⟨pbarred_any, enters_of Tryd.func75 (by kernel_rfl) (by kernel_rfl)⟩
theorem isT_sym : IsT 56 isInner := ⟨psymbol_any, enters_of Tryd.func56 (by kernel_rfl) (by kernel_rfl)⟩
abbrev fnV (f : FuncId) : Value := .func (.func f) #[] #[]

set_option maxRecDepth 100000 in
set_option maxHeartbeats 1000000 in
theorem past_any {f : FuncId} {t : UInt8 → Bool} (ht : Hid (IsT f t)) {w : World} {R : Nat} {A : Option Addr} {bs : List UInt8} {cb p : Nat} (H : Hid (Rs w R A bs cb p)) (hl : bs.length ≤ 100000000) (hcap : bs.length ≤ cb) (hp : p ≤ bs.length) :
    Calls Tryd.prog 45 #[.pointer (some ⟨R, 0, none⟩), fnV f] w fun e w' => e = .returned (.tuple #[]) ∧ Hid (Rs w' R A bs cb (runE t bs p)) ∧ Hid (But R w w') := by
  obtain ⟨Q, hQ⟩ : ∃ Q, runE t bs p = Q := ⟨_, rfl⟩
  rw [hQ]
  have HQ := Lib.hid hQ
  clear hQ
  have this := And.intro hl hcap
  clear this
  have hen := ht.out.enters
  go_enter Tryd.func45, Tryd.ntmps45
  go_wp2_with fail
  go_loopw [] (fun wr => ∃ k : Nat, k ≤ bs.length ∧ Hid (Rs wr R A bs cb k) ∧ Hid (But R w wr) ∧ Hid (runE t bs k = Q)) (fun wr => bs.length - plc wr R)
  case atStart => exact ⟨p, hp, H, Lib.hid (But.refl _ _), HQ⟩
  case round =>
    obtain ⟨k, hk, HR, HB, HK⟩ := hrel
    have c0 := HR.out.c0
    have c1 := HR.out.c1
    have f1 := HR.out.f1
    by_cases hlt : k < bs.length
    · obtain ⟨b, off, rfl, hck⟩ := HR.out.rb.at_ hlt
      obtain ⟨c, hc⟩ : ∃ c, bs[k] = c := ⟨_, rfl⟩
      rw [hc] at hck
      have HC := Lib.hid hc
      clear hc
      have g0 : (k : Int) < (bs.length : Int) := by omega
      obtain ⟨d, hd⟩ : ∃ d, t c = d := ⟨_, rfl⟩
      have HT : ∀ (W : World) n, Calls Tryd.prog f #[byV c] (W.drewN n) fun e w' => e = .returned (.bool d) ∧ ∃ m, w' = W.drewN m := fun W n => hd ▸ ht.out.quiet c W n
      have HD := Lib.hid hd
      clear hd
      cases d
      · have E : Hid (k = Q) := Lib.hid ((runE_stop hlt (by rw [HC.out]; exact HD.out)).symm.trans HK.out)
        go_wp2_with fail
        go_quiet (exact HT _ _)
        go_wp2_with fail
        go_end0
        exact ⟨rfl, E.out ▸ HR.out.drewN _, HB.out.drewN _⟩
      · have E : Hid (runE t bs (k + 1) = Q) := Lib.hid ((runE_step hlt (by rw [HC.out]; exact HD.out)).symm.trans HK.out)
        go_wp2_with fail
        go_quiet (exact HT _ _)
        go_wp2_with fail
        generalize hW : World.setCell _ _ _ = W2
        obtain ⟨HR2, HB2⟩ := (HR.out.drewN _).go (k + 1) hW
        replace HB2 := Lib.hid ((HB.out.drewN _).trans HB2)
        replace HR2 := Lib.hid HR2
        clear hW
        go_roundw
        case rel => exact ⟨k + 1, by omega, HR2, HB2, E⟩
        case measure => rw [HR.out.plc, HR2.out.plc]; omega
    · obtain rfl : k = bs.length := by omega
      have E : Hid (bs.length = Q) := Lib.hid (runE_end.symm.trans HK.out)
      have g0 : ¬ ((bs.length : Int) < (bs.length : Int)) := by omega
      go_wp2_with fail
      go_quiet (fail)
      go_wp2_with fail
      go_end0
      exact ⟨rfl, E.out ▸ HR.out.drewN _, HB.out.drewN _⟩
end Go.Proofs.YtmnllioeaaimcaaDoor.tk
