/- Package tree: its reader: what is wrong is recovered. -/
import Derived.Defers
import Derived.Recover
import Derived.Test.YtmnllioeaaimcaaDoorVh
namespace Go.Proofs.YtmnllioeaaimcaaDoor.tr
open Go Go.RowKit Go.Proofs.YtmnllioeaaimcaaDoor.tk

abbrev faultV (code p : Int) : Value := .iface 27 (.agg #[.int .i64 code, .int .i64 p])
theorem as_fault2 (v : Value) (w : World) : (Instr.typeAssert (.iface 27 v) 20 27 true).run Tryd.prog w = .ok (.tuple #[v, .bool true]) w := by kernel_rfl
/-- behind the recovering: no trees, and the fault -/
def CaughtT (T F : Nat) (code p : Int) (w w' : World) : Prop :=
  Bk w' T 24 #[.slice none 0 0] ∧ Bk w' F 27 #[.int .i64 code, .int .i64 p] ∧ ∀ B, B ≤ w.heap.size → B ≤ T → B ≤ F → Below B w w'
set_option maxRecDepth 100000 in
set_option maxHeartbeats 2000000 in
theorem catchT_wrong {T F : Nat} {code p : Int} {v0 a0 b0 : Value} {w : World} (hT : Bk w T 24 #[v0]) (hF : Bk w F 27 #[a0, b0]) (hne : T ≠ F) (older : List PanicEntry) :
    CallsD Tryd.prog 26 #[.pointer (some ⟨T, 0, none⟩), .pointer (some ⟨F, 0, none⟩)] (.panicking ({ v := faultV code p, recovered := false } :: older)) w fun e u' w' =>
      e = .returned (.tuple #[]) ∧ u' = .panicking ({ v := faultV code p, recovered := true } :: older) ∧ Hid (CaughtT T F code p w w') := by
  have HT := Lib.hid hT
  have HF := Lib.hid hF
  have HN := Lib.hid hne
  have hTl := hT.lt
  have hFl := hF.lt
  have has := as_fault2 (.agg #[.int .i64 code, .int .i64 p])
  clear hT hF
  refine callsD_of_wpS Tryd.func26 rfl fun c₀ cs hu => ?_
  apply wpS_seq
  apply wpS_region
  simp [wpOpsS, go_sem, recoverD, hu, Tryd.ntmps26, Exit.thenS]
  refine wpS_of_wp ?_
  simp [Array.replicate]
  go_upto_region 7 with fail
  generalize hW : w.alloc _ = W1
  have HT1 : Hid (Bk W1 T 24 #[v0]) := Lib.hid (hW ▸ HT.out.alloc _)
  have HF1 : Hid (Bk W1 F 27 #[a0, b0]) := Lib.hid (hW ▸ HF.out.alloc _)
  have HB1 : Hid (Bk W1 w.heap.size 27 #[.int .i64 code, .int .i64 p]) := Lib.hid (hW ▸ Bk.new w _ _)
  have HBL : Hid (∀ B, B ≤ w.heap.size → Below B w W1) := Lib.hid (fun B hB => hW ▸ (Below.refl B w).alloc hB _)
  clear hW
  have c0 : W1.cell? ⟨T, 0, none⟩ = some v0 := HT1.out.cell 0
  have d0 : W1.cell? ⟨F, 0, none⟩ = some a0 := HF1.out.cell 0
  have d1 : W1.cell? ⟨F, 1, none⟩ = some b0 := HF1.out.cell 1
  have e0 : W1.cell? ⟨w.heap.size, 0, none⟩ = some (.int .i64 code) := HB1.out.cell 0
  have e1 : W1.cell? ⟨w.heap.size, 1, none⟩ = some (.int .i64 p) := HB1.out.cell 1
  have tf := HT1.out.frozen
  have ff := HF1.out.frozen
  have n1 : w.heap.size ≠ T := by omega
  have n2 : w.heap.size ≠ F := by omega
  clear HB1
  obtain ⟨w0, hw0⟩ : ∃ w0, w.heap.size = w0 := ⟨_, rfl⟩
  rw [hw0] at HBL e0 e1 n1 n2 hTl hFl ⊢
  have HW0 := Lib.hid hw0
  clear hw0
  go_region
  generalize hW : World.setCell _ _ _ = W2
  have HC : Hid (CaughtT T F code p w W2.drew) := Lib.hid (by
    subst hW
    refine ⟨?_, ?_, fun B h0 h1 h2 => (((((HBL.out B (by rw [← HW0.out]; exact h0)).setCell h1 _).setCell h2 _).setCell h2 _).drew)⟩
    · exact (((HT1.out.set_ 0 (.slice none 0 0)).far (p := ⟨F, 0, none⟩) HN.out _).far (p := ⟨F, 1, none⟩) HN.out _)
    · exact (((HF1.out.far (p := ⟨T, 0, none⟩) (Ne.symm HN.out) _).set_ 0 _).set_ 1 _))
  clear hW
  try go_wp2
  simp [bodyPostS, results, Tryd.results26]
  exact HC
set_option maxRecDepth 100000 in
set_option maxHeartbeats 2000000 in
theorem catchT_idle (x y : Value) (w : World) :
    CallsD Tryd.prog 26 #[x, y] .returning w fun e u' w' => e = .returned (.tuple #[]) ∧ u' = .returning ∧ w' = w := by
  refine callsD_of_wpS Tryd.func26 rfl fun c₀ cs hu => ?_
  apply wpS_seq
  apply wpS_region
  simp [wpOpsS, go_sem, recoverD, hu, Tryd.ntmps26, Exit.thenS]
  refine wpS_of_wp ?_
  simp [Array.replicate]
  go_wp2
  cases c₀
  simp_all [bodyPostS, results, Tryd.results26]
end Go.Proofs.YtmnllioeaaimcaaDoor.tr
