/- Package dag: a term is added, whatever it is. -/
import Derived.Test.YtdnhhfhjjimcgaaDoorHa
namespace Go.Proofs.YtdnhhfhjjimcgaaDoor.dg
open Go Go.RowKit

theorem wrong_zero {S : St} {t : Tm} (h : S.wrong t = 0) : formed t = true ∧ ¬ (t.op = 3 ∧ S.hasFun t.fn = false) ∧ t.kids.all S.has = true ∧ S.counted t = true ∧ S.fits t = true ∧ ¬ (t.op = 19 ∧ 1 < S.free t.kids) := by
  unfold St.wrong at h
  split at h
  · cases h
  split at h
  · cases h
  split at h
  · cases h
  split at h
  · cases h
  split at h
  · cases h
  split at h
  · cases h
  rename_i h1 h2 h3 h4 h5 h6
  exact ⟨by simpa using h1, h2, by simpa using h3, by simpa using h4, by simpa using h5, h6⟩
theorem term_any {w : World} {F G : Nat → Prop} {a : Nat} {S S' : St} (H : Hid (Ar w F a S)) {t : Tm} {A : Option Addr} {c : Nat} (hr : Hid (Ri w G t.kids A c)) (hl : t.kids.length ≤ 1000000) (hs : t.num.size ≤ 1000000) (HS : Hid (Sz S)) (hk : Hid (∀ e ∈ S.terms, e.t.kids.length ≤ 1000000)) {z er : Int} (hz : S.term t = (z, er, S')) :
    Calls Tryd.prog 29 #[.pointer (some ⟨a, 0, none⟩), .agg #[.int .i64 t.op, .int .i64 t.fn, .slice A t.kids.length c, .string t.num]] w fun e w' => e = .returned (.tuple #[.int .i64 z, .int .i64 er]) ∧ Hid (ArEnd w w' F a S') := by
  unfold St.term at hz
  by_cases hw : S.wrong t = 0
  · rw [if_neg (by simp [hw])] at hz
    cases hp : S.placeT t with
    | some p =>
      rw [hp] at hz
      obtain ⟨rfl, rfl, rfl⟩ : (p : Int) = z ∧ 0 = er ∧ S = S' := by simpa using hz
      exact term_there H hr hl hs HS hk (Lib.hid hw) (Lib.hid hp)
    | none =>
      rw [hp] at hz
      by_cases hm : S.most ≤ (S.terms.length : Int)
      · obtain ⟨rfl, rfl, rfl⟩ : 0 = z ∧ 4 = er ∧ S = S' := by simpa [hm] using hz
        exact term_full H hr hl hs HS hk (Lib.hid hw) (Lib.hid hp) hm
      · obtain ⟨rfl, rfl, rfl⟩ : (S.terms.length : Int) = z ∧ 0 = er ∧ S.addT t = S' := by
          simp only [if_neg hm, Prod.mk.injEq] at hz
          exact hz
        obtain ⟨_, h2, _, h4, _, _⟩ := wrong_zero hw
        exact term_new H hr hl hs HS hk (Lib.hid hw) (Lib.hid hp) hm (Lib.hid fun h3 => by
          cases hh : S.hasFun t.fn with
          | true => rfl
          | false => exact absurd ⟨h3, hh⟩ h2) (Lib.hid fun h10 => counted_ite h4 h10)
  · rw [if_pos hw] at hz
    obtain ⟨rfl, rfl, rfl⟩ : 0 = z ∧ S.wrong t = er ∧ S = S' := by simpa using hz
    exact term_bad H hr hl hs HS hk (Lib.hid rfl) hw
end Go.Proofs.YtdnhhfhjjimcgaaDoor.dg
