/- Package dag: the place of a term. -/
import Derived.Test.YtdnhhfhjjimcgaaDoorGr
namespace Go.Proofs.YtdnhhfhjjimcgaaDoor.dg
open Go Go.RowKit

def foundV (o : Option Nat) : Value := match o with | some p => .tuple #[.int .i64 (p : Int), .bool true] | none => .tuple #[.int .i64 0, .bool false]
theorem Ar.table {w : World} {F : Nat → Prop} {a : Nat} {S : St} (h : Ar w F a S) : ∃ J ib n, Tb w F J ib (hashes S) n S.terms.length ∧ w.cell? ⟨a, 5, none⟩ = some (.pointer (some ⟨ib, 0, none⟩)) ∧ Nb n S.terms.length ∧ (∀ g, J g → F g) ∧ a < w.heap.size := by
  obtain ⟨I, J, sv, fv, tv, mb, ib, n, h⟩ := h
  exact ⟨J, ib, n, h.tab, h.box.cell 5, h.nb, fun g hg => (h.jj g hg).1, h.box.lt⟩
theorem Tb.mono {w : World} {F F' J J' : Nat → Prop} {ib : Nat} {hs : List Int} {n k : Nat} (h : Tb w F J ib hs n k) (hF : ∀ g, F g → F' g) (hJ : ∀ g, J g → J' g) : Tb w F' J' ib hs n k := h.stays (fun g _ _ _ hg => ⟨hF g hg, rfl⟩) fun g _ hg => ⟨hJ g hg, rfl⟩
set_option maxRecDepth 100000 in
set_option maxHeartbeats 4000000 in
theorem find_any {w : World} {F G : Nat → Prop} {a : Nat} {S : St} (H : Hid (Ar w F a S)) {t : Tm} {A : Option Addr} {c : Nat} (hr : Hid (Ri w G t.kids A c)) (hl : Hid (∀ e ∈ S.terms, e.t.kids.length ≤ 1000000)) (hN : S.terms.length ≤ 1000000) :
    Calls Tryd.prog 46 #[.pointer (some ⟨a, 0, none⟩), .agg #[.int .i64 t.op, .int .i64 t.fn, .slice A t.kids.length c, .string t.num], .int .u64 (hash t)] w fun e w' => e = .returned (foundV (S.placeT t)) ∧ Hid (Below w.heap.size w w') := by
  obtain ⟨J, ib, n, hT, hc5, hnb, hJ, halt⟩ := H.out.table
  have hn := hnb.pos
  have hn2 := hnb.le hN
  have HT := Lib.hid hT
  have HC := Lib.hid hc5
  obtain ⟨h, hh⟩ : ∃ h, hash t = h := ⟨_, rfl⟩
  have HH := Lib.hid hh
  rw [hh]
  obtain ⟨o, ho⟩ : ∃ o, S.placeT t = o := ⟨_, rfl⟩
  have HO := Lib.hid ho
  rw [ho]
  have HJF : Hid (∀ g, F g ∨ J g → g < w.heap.size) := Lib.hid fun g hg => H.out.lt g (hg.elim id (hJ g))
  clear hh ho hT hc5 hnb hJ
  go_enter Tryd.func46, Tryd.ntmps46
  go_upto_region 1 with fail
  generalize hW : World.alloc (World.alloc _ _) _ = W1
  have HB : Hid (Below w.heap.size w W1) := Lib.hid (hW ▸ ((Below.refl _ w).alloc (Nat.le_refl _) _).alloc (by simp) _)
  have HP : Hid (Bk W1 w.heap.size 25 #[.pointer (some ⟨a, 0, none⟩)]) := Lib.hid (hW ▸ (Bk.new w _ _).alloc _)
  have HX : Hid (Bk W1 (w.heap.size + 1) 41 #[.int .i64 t.op, .int .i64 t.fn, .slice A t.kids.length c, .string t.num]) := Lib.hid (by
    have := Bk.new (w.alloc (.cells #[.pointer (some ⟨a, 0, none⟩)] 25)) 41 #[.int .i64 t.op, .int .i64 t.fn, .slice A t.kids.length c, .string t.num]
    rw [hW] at this
    simpa using this)
  clear hW
  have HA := Lib.hid (H.out.below HB.out)
  have HR := Lib.hid (hr.out.below HB.out)
  have HT1 : Hid (Tb W1 F J ib (hashes S) n S.terms.length) := Lib.hid (HT.out.stays (fun g _ _ _ hg => ⟨hg, HB.out.block g (HJF.out g (.inl hg))⟩) fun g _ hg => ⟨hg, HB.out.block g (HJF.out g (.inr hg))⟩)
  have HL1 : Hid (∀ g, F g ∨ J g → g < W1.heap.size) := Lib.hid fun g hg => Nat.lt_of_lt_of_le (HJF.out g hg) HB.out.size
  have p0 := HP.out.cell 0
  have c5 := (HB.out.cell (p := ⟨a, 5, none⟩) halt).trans HC.out
  have FI := first_any HA HT1 (by omega) hn2 HR HP HX hl hN HL1.out
  rw [HH.out, HO.out] at FI
  have HFI := Lib.hid FI
  clear FI HT HC HJF hr H HA HR HT1 HL1
  cases o with
  | some p =>
    go_wp2_with (go_at_call 58; refine HFI.out.mono ?_; rintro e w5 ⟨rfl, HB5⟩)
    go_ret2
    exact ⟨rfl, Lib.hid (HB.out.trans (HB5.out.mono HB.out.size))⟩
  | none =>
    go_wp2_with (go_at_call 58; refine HFI.out.mono ?_; rintro e w5 ⟨rfl, HB5⟩)
    go_ret2
    exact ⟨rfl, Lib.hid (HB.out.trans (HB5.out.mono HB.out.size))⟩
end Go.Proofs.YtdnhhfhjjimcgaaDoor.dg
