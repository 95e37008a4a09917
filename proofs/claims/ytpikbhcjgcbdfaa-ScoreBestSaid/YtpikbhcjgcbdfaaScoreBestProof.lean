/- The statement ScoreBest of package score: the best of some unknowns is one of them, and none of them has a greater score; with more of them it is no worse; in what order they come doesn't matter: for every list of scores (words of 64 bits) and every two lists of numbers (those that are longer than 50 are let by). No condition is added. -/
import Derived.Test.YtpikbhcjgcbdfaaSp
namespace Go.Proofs.Ytpikbhcjgcbdfaa.lawScoreBest
open Go.ChangeShapes Go.WideShapes Go.ChangeAt Go.RowKit

theorem own : ownKnob Try.prog.godebug = none := by kernel_rfl

set_option maxRecDepth 100000 in
theorem lifted (os : Os) (started : os.Started) (H : Type) (enc : TypeId × Value → H) :
    ReturnsInHanded {} Try.checked os 5 .any (Rows.scoreBestSpec.pre6 enc Try.prog Try.f5 Rows.scoreBestRow.domain false) (Rows.scoreBestSpec.post enc Try.prog Try.f5 false true false false) := by
  refine returnsInHanded_of_change (C := Try.checked) own started (by kernel_rfl) Try.func5
    (ChangeSpec.witness6 (enc := enc) (C := Try.checked) false ⟨#[], #[.slice none 0 0, .slice none 0 0, .slice none 0 0], []⟩ 8 (by kernel_rfl) (by kernel_rfl) (by kernel_rfl) (by kernel_rfl)) ?_
  intro W base args ds gs before hval0 hW hcnd _
  have hval : ∀ (j : Nat) t v, Try.f5.params[j]? = some t → args[j]? = some v → Value.okWide Try.prog W .any base t v := hval0
  have hW' := hW
  have hlt : ∀ x ∈ before, x.block < W.heap.size := fun x hx => hW.lt x hx
  obtain ⟨p, q, hA0, hV, rfl, hfz, hnd⟩ := hW
  have hA : DataW.TrodAll enc Try.prog W 0 (fun _ => true) true Try.f5.params.toList args.toList ds p := hA0
  rw [Try.params5] at hA hval
  obtain ⟨v0, vs0, d0, ds0, p0, q0, hargs, rfl, rfl, h0, r0⟩ := trodAll_cons hA
  obtain ⟨v1, vs1, d1, ds1, p1, q1, rfl, rfl, rfl, h1, r1⟩ := trodAll_cons r0
  obtain ⟨v2, vs2, d2, ds2, p2, q2, rfl, rfl, rfl, h2, r2⟩ := trodAll_cons r1
  obtain ⟨rfl, rfl, rfl⟩ := trodAll_nil r2
  obtain rfl : args = #[v0, v1, v2] := by cases args; simp_all
  obtain ⟨rfl, rfl⟩ := trodVars_none hV
  obtain ⟨Ax, xs, cx, rfl, gx, fx, _⟩ := sc.open_us (hval 0 51 v0 rfl rfl) h0
  obtain ⟨Az, zs, cz, rfl, gz, nz⟩ := sc.open_zs (hval 1 24 v1 rfl rfl) h1
  obtain ⟨Ay, ys, cy, rfl, gy, ny⟩ := sc.open_zs (hval 2 24 v2 rfl rfl) h2
  clear hA0 hval0
  simp only [List.append_nil] at hW' hlt
  refine (sc.bestlaw_all gx fx gz nz gy ny).mono fun e W' ⟨he, hg⟩ => ?_
  subst he
  refine ⟨_, rfl, sc.post_kept (pa := p0 ++ (p1 ++ (p2 ++ []))) (pv := []) hW' (fun _ _ _ => trodAll_cons_mk (shut_bool Try.underlying4 _) trodAll_mk0) (fun sp hsp => ?_) (fun _ _ => rfl) (by simp) hg (ok_one (by kernel_rfl) rfl (okWide_bool_mk Try.underlying4 _))⟩
  rw [Try.params5]
  have m0 : ∀ x ∈ p0, x ∈ p0 ++ (p1 ++ p2) := fun x hx => by simp [hx]
  have m1 : ∀ x ∈ p1, x ∈ p0 ++ (p1 ++ p2) := fun x hx => by simp [hx]
  have m2 : ∀ x ∈ p2, x ∈ p0 ++ (p1 ++ p2) := fun x hx => by simp [hx]
  exact trodAll_cons_mk (sc.staysU h0 hg (fun x hx => hlt x (m0 x hx)) (fun x hx => hsp x (m0 x hx)))
    (trodAll_cons_mk (sc.staysI h1 hg (fun x hx => hlt x (m1 x hx)) (fun x hx => hsp x (m1 x hx)))
    (trodAll_cons_mk (sc.staysI h2 hg (fun x hx => hlt x (m2 x hx)) (fun x hx => hsp x (m2 x hx))) trodAll_mk0))

theorem proved : Rows.ScoreBestSaid :=
  OpenClaim.holds_of_wide 5 Try.f5 rfl rfl rfl rfl rfl rfl rfl ⟨rfl, rfl, rfl, rfl, rfl⟩ rfl rfl rfl rfl rfl (by kernel_rfl) Try.func5 (by kernel_rfl)
    (of_decide_eq_true (by kernel_rfl)) (by unfold Func.isWrapper; first | (rw [if_pos (by decide +kernel)]; kernel_rfl) | (rw [if_neg (by decide +kernel)]; exact ⟨rfl, rfl⟩))
    (fun os started H enc _ => lifted os started H enc)
end Go.Proofs.Ytpikbhcjgcbdfaa.lawScoreBest
