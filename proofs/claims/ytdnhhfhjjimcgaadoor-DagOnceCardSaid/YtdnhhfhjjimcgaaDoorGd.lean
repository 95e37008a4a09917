/- Package dag: an arena in memory; what is asked of it. -/
import Derived.Test.YtdnhhfhjjimcgaaDoorGc
namespace Go.Proofs.YtdnhhfhjjimcgaaDoor.dg
open Go Go.RowKit

def hashes (S : St) : List Int := S.terms.map fun e => hash e.t
structure Ax (w : World) (F I J : Nat → Prop) (a : Nat) (S : St) (sv fv tv : Value) (mb ib n : Nat) : Prop where
  box : Bk w a 77 #[.int .i64 S.most, sv, .map (some mb), fv, tv, .pointer (some ⟨ib, 0, none⟩)]
  srt : Ro w F 67 2 (SrtC w I) S.sorts sv
  fns : Ro w F 63 3 (FnnC w I) S.funs fv
  trm : Ro w F 82 6 (EnC w I) S.terms tv
  map : Mp w mb S.sorts
  tab : Tb w F J ib (hashes S) n S.terms.length
  nb : Nb n S.terms.length
  fa : F a
  fm : F mb
  ii : ∀ g, I g → F g ∧ Ty w g 3
  jj : ∀ g, J g → F g ∧ ¬ I g
  lt : ∀ g, F g → g < w.heap.size
/-- an arena at block a, in the blocks of F -/
def Ar (w : World) (F : Nat → Prop) (a : Nat) (S : St) : Prop := ∃ I J sv fv tv mb ib n, Ax w F I J a S sv fv tv mb ib n
structure Sz (S : St) : Prop where
  s : S.sorts.length ≤ 1000000
  f : S.funs.length ≤ 1000000
  t : S.terms.length ≤ 1000000
  m0 : 0 ≤ S.most
  m1 : S.most ≤ 1048576
theorem SrtC.stays {w w' : World} {I I' : Nat → Prop} (hs : w.heap.size ≤ w'.heap.size) (hb : ∀ g, I g → g < w.heap.size → I' g ∧ w'.heap[g]? = w.heap[g]?) {s : Srt} {cs : List Value} (h : SrtC w I s cs) : SrtC w' I' s cs := by
  obtain ⟨A, c, e, h⟩ := h; exact ⟨A, c, e, h.stays hs hb⟩
theorem FnnC.stays {w w' : World} {I I' : Nat → Prop} (hs : w.heap.size ≤ w'.heap.size) (hb : ∀ g, I g → g < w.heap.size → I' g ∧ w'.heap[g]? = w.heap[g]?) {s : Fnn} {cs : List Value} (h : FnnC w I s cs) : FnnC w' I' s cs := by
  obtain ⟨A, c, e, h⟩ := h; exact ⟨A, c, e, h.stays hs hb⟩
theorem EnC.stays {w w' : World} {I I' : Nat → Prop} (hs : w.heap.size ≤ w'.heap.size) (hb : ∀ g, I g → g < w.heap.size → I' g ∧ w'.heap[g]? = w.heap[g]?) {s : En} {cs : List Value} (h : EnC w I s cs) : EnC w' I' s cs := by
  obtain ⟨A, c, e, h⟩ := h; exact ⟨A, c, e, h.stays hs hb⟩
theorem Ty.stays {w w' : World} {g : Nat} {e : TypeId} (h : Ty w g e) (hb : w'.heap[g]? = w.heap[g]?) : Ty w' g e := by
  obtain ⟨cs, fr, h⟩ := h; exact ⟨cs, fr, hb.trans h⟩
theorem Ax.stays {w w' : World} {F F' I J : Nat → Prop} {a : Nat} {S : St} {sv fv tv : Value} {mb ib n : Nat} (h : Ax w F I J a S sv fv tv mb ib n) (hs : w.heap.size ≤ w'.heap.size) (hb : ∀ g, F g → w'.heap[g]? = w.heap[g]?) (hF : ∀ g, F g → F' g) (hl : ∀ g, F' g → g < w'.heap.size) : Ax w' F' I J a S sv fv tv mb ib n where
  box := (hb a h.fa).trans h.box
  srt := h.srt.stays (fun g hg => ⟨hF g (h.srt.ty g hg).2, hb g (h.srt.ty g hg).2⟩) fun _ _ _ => SrtC.stays hs fun g hg _ => ⟨hg, hb g (h.ii g hg).1⟩
  fns := h.fns.stays (fun g hg => ⟨hF g (h.fns.ty g hg).2, hb g (h.fns.ty g hg).2⟩) fun _ _ _ => FnnC.stays hs fun g hg _ => ⟨hg, hb g (h.ii g hg).1⟩
  trm := h.trm.stays (fun g hg => ⟨hF g (h.trm.ty g hg).2, hb g (h.trm.ty g hg).2⟩) fun _ _ _ => EnC.stays hs fun g hg _ => ⟨hg, hb g (h.ii g hg).1⟩
  map := h.map.stays (hb mb h.fm)
  tab := h.tab.stays (fun g _ _ _ hg => ⟨hF g hg, hb g hg⟩) fun g _ hg => ⟨hg, hb g (h.jj g hg).1⟩
  nb := h.nb
  fa := hF a h.fa
  fm := hF mb h.fm
  ii := fun g hg => ⟨hF g (h.ii g hg).1, (h.ii g hg).2.stays (hb g (h.ii g hg).1)⟩
  jj := fun g hg => ⟨hF g (h.jj g hg).1, (h.jj g hg).2⟩
  lt := hl
theorem Ar.stays {w w' : World} {F : Nat → Prop} {a : Nat} {S : St} (h : Ar w F a S) (hs : w.heap.size ≤ w'.heap.size) (hb : ∀ g, F g → w'.heap[g]? = w.heap[g]?) : Ar w' F a S := by
  obtain ⟨I, J, sv, fv, tv, mb, ib, n, h⟩ := h
  exact ⟨I, J, sv, fv, tv, mb, ib, n, h.stays hs hb (fun _ h => h) fun g hg => Nat.lt_of_lt_of_le (h.lt g hg) hs⟩
theorem Ar.lt {w : World} {F : Nat → Prop} {a : Nat} {S : St} (h : Ar w F a S) : ∀ g, F g → g < w.heap.size := by
  obtain ⟨I, J, sv, fv, tv, mb, ib, n, h⟩ := h; exact h.lt
theorem Ar.below {w w' : World} {F : Nat → Prop} {a : Nat} {S : St} (h : Ar w F a S) (hb : Below w.heap.size w w') : Ar w' F a S := h.stays hb.size fun g hg => hb.block g (h.lt g hg)
theorem Ar.drewN {w : World} {F : Nat → Prop} {a : Nat} {S : St} (h : Ar w F a S) (n : Nat) : Ar (w.drewN n) F a S := h.stays (Nat.le_refl _) fun _ _ => rfl
theorem Ar.drew {w : World} {F : Nat → Prop} {a : Nat} {S : St} (h : Ar w F a S) : Ar w.drew F a S := h.stays (Nat.le_refl _) fun _ _ => rfl
/-- another arena, or whatever else, is worked on -/
theorem Ar.sft {w w' : World} {F X : Nat → Prop} {a : Nat} {S : St} (h : Ar w F a S) (hs : Sft X w w') (hX : ∀ g, F g → ¬ X g) : Ar w' F a S := h.stays hs.size fun g hg => hs.block g (h.lt g hg) (hX g hg)
/-- the arena's cells -/
theorem Ar.cells {w : World} {F : Nat → Prop} {a : Nat} {S : St} (h : Ar w F a S) : ∃ As cs Af cf At ct mb ib,
    w.cell? ⟨a, 0, none⟩ = some (.int .i64 S.most) ∧ w.cell? ⟨a, 1, none⟩ = some (.slice As S.sorts.length cs) ∧ w.cell? ⟨a, 2, none⟩ = some (.map (some mb)) ∧ w.cell? ⟨a, 3, none⟩ = some (.slice Af S.funs.length cf) ∧ w.cell? ⟨a, 4, none⟩ = some (.slice At S.terms.length ct) ∧ w.cell? ⟨a, 5, none⟩ = some (.pointer (some ⟨ib, 0, none⟩)) ∧ a < w.heap.size := by
  obtain ⟨I, J, sv, fv, tv, mb, ib, n, h⟩ := h
  obtain ⟨As, cs, rfl, _⟩ := h.srt.slice
  obtain ⟨Af, cf, rfl, _⟩ := h.fns.slice
  obtain ⟨At, ct, rfl, _⟩ := h.trm.slice
  exact ⟨As, cs, Af, cf, At, ct, mb, ib, h.box.cell 0, h.box.cell 1, h.box.cell 2, h.box.cell 3, h.box.cell 4, h.box.cell 5, h.box.lt⟩
/-- a term's cells -/
theorem Ar.term {w : World} {F : Nat → Prop} {a : Nat} {S : St} (h : Ar w F a S) {j : Nat} (hj : j < S.terms.length) : ∃ g c A k, F g ∧ g < w.heap.size ∧ w.cell? ⟨a, 4, none⟩ = some (.slice (some ⟨g, 0, none⟩) S.terms.length c) ∧
    w.cell? ⟨g, j * 6, none⟩ = some (.int .i64 S.terms[j].t.op) ∧ w.cell? ⟨g, j * 6 + 1, none⟩ = some (.int .i64 S.terms[j].t.fn) ∧ w.cell? ⟨g, j * 6 + 2, none⟩ = some (.slice A S.terms[j].t.kids.length k) ∧ w.cell? ⟨g, j * 6 + 3, none⟩ = some (.string S.terms[j].t.num) ∧
    w.cell? ⟨g, j * 6 + 4, none⟩ = some (.int .i64 S.terms[j].srt) ∧ w.cell? ⟨g, j * 6 + 5, none⟩ = some (.bool S.terms[j].cst) ∧ Ri w F S.terms[j].t.kids A k := by
  obtain ⟨I, J, sv, fv, tv, mb, ib, n, h⟩ := h
  have hb := h.box.cell 4
  obtain ⟨g, c, cs, rfl, h1, h2, ⟨A, k, rfl, h3⟩, h4⟩ := h.trm.get EnC.len hj
  exact ⟨g, c, A, k, h1, h2, hb, h4 0 (by omega), h4 1 (by omega), h4 2 (by omega), h4 3 (by omega), h4 4 (by omega), h4 5 (by omega), h3.mono fun g hg _ => (h.ii g hg).1⟩
/-- a function's cells -/
theorem Ar.func {w : World} {F : Nat → Prop} {a : Nat} {S : St} (h : Ar w F a S) {j : Nat} (hj : j < S.funs.length) : ∃ g c A k, F g ∧ g < w.heap.size ∧ w.cell? ⟨a, 3, none⟩ = some (.slice (some ⟨g, 0, none⟩) S.funs.length c) ∧
    w.cell? ⟨g, j * 3, none⟩ = some (.string S.funs[j].name) ∧ w.cell? ⟨g, j * 3 + 1, none⟩ = some (.slice A S.funs[j].args.length k) ∧ w.cell? ⟨g, j * 3 + 2, none⟩ = some (.int .i64 S.funs[j].res) ∧ Ri w F S.funs[j].args A k := by
  obtain ⟨I, J, sv, fv, tv, mb, ib, n, h⟩ := h
  have hb := h.box.cell 3
  obtain ⟨g, c, cs, rfl, h1, h2, ⟨A, k, rfl, h3⟩, h4⟩ := h.fns.get FnnC.len hj
  exact ⟨g, c, A, k, h1, h2, hb, h4 0 (by omega), h4 1 (by omega), h4 2 (by omega), h3.mono fun g hg _ => (h.ii g hg).1⟩

set_option maxRecDepth 100000 in
set_option maxHeartbeats 1000000 in
theorem has_any {w : World} {F : Nat → Prop} {a : Nat} {S : St} (H : Hid (Ar w F a S)) (k : Int) :
    Calls Tryd.prog 38 #[.pointer (some ⟨a, 0, none⟩), .int .i64 k] w fun e w' => e = .returned (.bool (S.has k)) ∧ w = w' := by
  obtain ⟨As, cs, Af, cf, At, ct, mb, ib, c0, c1, c2, c3, c4, c5, hlt⟩ := H.out.cells
  obtain ⟨b, hb⟩ : ∃ b, S.has k = b := ⟨_, rfl⟩
  rw [hb]
  have HB := Lib.hid hb
  clear hb
  by_cases h0 : 0 ≤ k
  · by_cases h1 : k < (S.terms.length : Int)
    · obtain rfl : b = true := by rw [← HB.out]; exact has_iff.2 ⟨h0, h1⟩
      go_enter Tryd.func38, Tryd.ntmps38
      go_wp2_with fail
      go_ret
      exact ⟨rfl, rfl⟩
    · obtain rfl : b = false := by rw [← HB.out]; simp [St.has, h1]
      go_enter Tryd.func38, Tryd.ntmps38
      go_wp2_with fail
      go_ret
      exact ⟨rfl, rfl⟩
  · obtain rfl : b = false := by rw [← HB.out]; simp [St.has, h0]
    have h2 : decide (0 ≤ k) = false := by simp [h0]
    go_enter Tryd.func38, Tryd.ntmps38
    go_wp2_with fail
    go_ret
    exact ⟨rfl, rfl⟩
end Go.Proofs.YtdnhhfhjjimcgaaDoor.dg
