/- Package token: what is wrong with a text panics with its fault, which is recovered. -/
import Derived.Defers
import Derived.Recover
import Derived.Test.YtmnllioeaaimcaaDoorPj
namespace Go.Proofs.YtmnllioeaaimcaaDoor.tk
open Go.RowKit

abbrev wrongV (q : Nat) : Value := .iface 27 (.agg #[.int .i64 10, .int .i64 (q : Int)])
theorem as_fault (v : Value) (w : World) : (Instr.typeAssert (.iface 27 v) 20 27 false).run Tryd.prog w = .ok v w := by kernel_rfl
/-- behind the recovering: no tokens, and the fault -/
def Caught (T F q : Nat) (w w' : World) : Prop :=
  Bk w' T 22 #[.slice none 0 0] ∧ Bk w' F 27 #[.int .i64 10, .int .i64 (q : Int)] ∧ ∀ B, B ≤ T → B ≤ F → Below B w w'
set_option maxRecDepth 100000 in
set_option maxHeartbeats 2000000 in
theorem catch_wrong {T F q : Nat} {v0 a0 b0 : Value} {w : World} (hT : Bk w T 22 #[v0]) (hF : Bk w F 27 #[a0, b0]) (hne : T ≠ F) (older : List PanicEntry) :
    CallsD Tryd.prog 34 #[.pointer (some ⟨T, 0, none⟩), .pointer (some ⟨F, 0, none⟩)] (.panicking ({ v := wrongV q, recovered := false } :: older)) w fun e u' w' =>
      e = .returned (.tuple #[]) ∧ u' = .panicking ({ v := wrongV q, recovered := true } :: older) ∧ Hid (Caught T F q w w') := by
  have c0 : w.cell? ⟨T, 0, none⟩ = some v0 := hT.cell 0
  have d0 : w.cell? ⟨F, 0, none⟩ = some a0 := hF.cell 0
  have d1 : w.cell? ⟨F, 1, none⟩ = some b0 := hF.cell 1
  have tf := hT.frozen
  have ff := hF.frozen
  have HT := Lib.hid hT
  have HF := Lib.hid hF
  have HN := Lib.hid hne
  have has := as_fault (.agg #[.int .i64 10, .int .i64 (q : Int)])
  refine callsD_of_wpS Tryd.func34 rfl fun c₀ cs hu => ?_
  apply wpS_seq
  apply wpS_region
  simp [wpOpsS, go_sem, recoverD, hu, Tryd.ntmps34, Exit.thenS]
  apply wpS_seq
  apply wpS_region
  simp [wpOpsS, go_sem, Exit.thenS]
  refine wpS_cond (t := true) (by simp [Act.eval, Array.replicate]) ?_
  simp only [if_true]
  refine wpS_of_wp ?_
  simp [Array.replicate]
  go_region
  generalize hW : World.setCell _ _ _ = W2
  have HC : Hid (Caught T F q w W2.drew) := Lib.hid (by
    subst hW
    refine ⟨?_, ?_, fun B h1 h2 => ((((Below.refl B w).setCell h1 _).setCell h2 _).setCell h2 _).drew⟩
    · exact (((HT.out.set_ 0 (.slice none 0 0)).far (p := ⟨F, 0, none⟩) HN.out _).far (p := ⟨F, 1, none⟩) HN.out _)
    · exact (((HF.out.far (p := ⟨T, 0, none⟩) (Ne.symm HN.out) _).set_ 0 _).set_ 1 _))
  clear hW
  simp [bodyPostS, results, Tryd.results34]
  exact HC
theorem catch_idle (x y : Value) (w : World) :
    CallsD Tryd.prog 34 #[x, y] .returning w fun e u' w' => e = .returned (.tuple #[]) ∧ u' = .returning ∧ w' = w := by
  refine callsD_of_wpS Tryd.func34 rfl fun c₀ cs hu => ?_
  apply wpS_seq
  apply wpS_region
  simp [wpOpsS, go_sem, recoverD, hu, Tryd.ntmps34, Exit.thenS]
  apply wpS_seq
  apply wpS_region
  simp [wpOpsS, go_sem, Exit.thenS]
  refine wpS_cond (t := false) (by simp [Act.eval, Array.replicate]) ?_
  simp only [Bool.false_eq_true, if_false]
  refine wpS_of_wp (wp_skip ?_)
  cases c₀
  simp_all [bodyPostS, results, Tryd.results34]
end Go.Proofs.YtmnllioeaaimcaaDoor.tk
