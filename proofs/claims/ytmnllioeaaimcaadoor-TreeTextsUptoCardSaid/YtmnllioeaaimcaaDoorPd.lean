/- Package token: the boxes of a method that reads a token: its result's, its token's; brackets. -/
import Derived.Test.YtmnllioeaaimcaaDoorPc
namespace Go.Proofs.YtmnllioeaaimcaaDoor.tk
open Go.RowKit

/-- a method's two boxes: its result's, and its token's (kind k, text t, place p); the reader at place q; all the rest as at the call -/
structure Pt (w W : World) (R : Nat) (A : Option Addr) (bs : List UInt8) (cb q k : Nat) (t : List UInt8) (p : Nat) : Prop where
  rs : Rs W R A bs cb q
  res : Bk W w.heap.size 35 #[.int .i64 0, .string ⟨#[]⟩, .int .i64 0]
  tok : Bk W (w.heap.size + 1) 35 #[.int .i64 (k : Int), .string ⟨t.toArray⟩, .int .i64 (p : Int)]
  but : But R w W
  lt : R < w.heap.size
section
variable {w W : World} {R : Nat} {A : Option Addr} {bs : List UInt8} {cb q k p : Nat} {t : List UInt8}
/-- .. behind the first box -/
structure P0 (w W : World) (R : Nat) (A : Option Addr) (bs : List UInt8) (cb p : Nat) : Prop where
  rs : Rs W R A bs cb p
  res : Bk W w.heap.size 35 #[.int .i64 0, .string ⟨#[]⟩, .int .i64 0]
  but : But R w W
  lt : R < w.heap.size
  sz : W.heap.size = w.heap.size + 1
theorem P0.start (h : Rs w R A bs cb p) (hW : w.alloc (Obj.cells #[Value.int IntKind.i64 0, Value.string { data := #[] }, Value.int IntKind.i64 0] 35) = W) : P0 w W R A bs cb p := by
  subst hW
  have hB : Below w.heap.size w (w.alloc (Obj.cells #[Value.int IntKind.i64 0, Value.string { data := #[] }, Value.int IntKind.i64 0] 35)) := (Below.refl _ _).alloc (Nat.le_refl _) _
  exact ⟨h.below hB, Bk.new w _ _, But.of_below hB, h.box.lt, by simp⟩
theorem Pt.start (h : P0 w W R A bs cb p) (k : Nat) (t : List UInt8) {W' : World} (hW : W.alloc (Obj.cells #[Value.int IntKind.i64 (k : Int), Value.string { data := t.toArray }, Value.int IntKind.i64 (p : Int)] 35) = W') : Pt w W' R A bs cb p k t p := by
  subst hW
  have hB : Below W.heap.size W (W.alloc (Obj.cells #[Value.int IntKind.i64 (k : Int), Value.string { data := t.toArray }, Value.int IntKind.i64 (p : Int)] 35)) := (Below.refl _ _).alloc (Nat.le_refl _) _
  exact ⟨h.rs.below hB, h.res.alloc _, h.sz ▸ Bk.new W _ _, h.but.trans (But.of_below hB), h.lt⟩
theorem Pt.call (h : Pt w W R A bs cb q k t p) {W' : World} {q' : Nat} (hr : Rs W' R A bs cb q') (hb : But R W W') : Pt w W' R A bs cb q' k t p :=
  ⟨hr, hb.bk h.res (by have := h.lt; omega), hb.bk h.tok (by have := h.lt; omega), h.but.trans hb, h.lt⟩
theorem Pt.drewN (h : Pt w W R A bs cb q k t p) (n : Nat) : Pt w (W.drewN n) R A bs cb q k t p := h.call (h.rs.drewN n) ((But.refl R W).drewN n)
theorem Pt.go (h : Pt w W R A bs cb q k t p) (q' : Nat) {W' : World} (hW : W.setCell ⟨R, 1, none⟩ (.int .i64 (q' : Int)) = W') : Pt w W' R A bs cb q' k t p :=
  let ⟨a, b⟩ := h.rs.go q' hW
  h.call a b
theorem But.far (h : But R w W) {p : Addr} (hp : w.heap.size ≤ p.block) (u : Value) : But R w (W.setCell p u) :=
  ⟨h.os, h.tape, h.output, by simpa [World.setCell] using h.size, fun i hi hr => (Below.heap_setCell _ _ _ _ (by omega)).trans (h.block i hi hr)⟩
theorem Rs.lts (h : Rs w R A bs cb q) (h0 : 0 < bs.length) : ∀ a, A = some a → a.block < w.heap.size := by
  obtain ⟨b, off, rfl, hlt, _⟩ := h.rb h0
  rintro a ⟨rfl⟩
  exact hlt
theorem Rs.far (h : Rs W R A bs cb q) {p : Addr} (hp : R ≠ p.block) (hA : 0 < bs.length → ∀ a, A = some a → a.block < p.block) (u : Value) : Rs (W.setCell p u) R A bs cb q :=
  ⟨h.box.far hp u, fun hn => h.rb.far (B := p.block) (hA hn) (Nat.le_refl _) u hn, h.ne⟩
theorem Pt.kind (h : Pt w W R A bs cb q k t p) (hA : ∀ a, A = some a → a.block < w.heap.size) (k' : Nat) {W' : World} (hW : W.setCell ⟨w.heap.size + 1, 0, none⟩ (.int .i64 (k' : Int)) = W') : Pt w W' R A bs cb q k' t p := by
  subst hW
  have := h.lt
  exact ⟨h.rs.far (by simp; omega) (fun _ a e => by have := hA a e; simp; omega) _, h.res.far (by simp) _, h.tok.set_ 0 _, h.but.far (by simp) _, h.lt⟩
theorem Pt.text (h : Pt w W R A bs cb q k t p) (hA : ∀ a, A = some a → a.block < w.heap.size) (t' : List UInt8) {W' : World} (hW : W.setCell ⟨w.heap.size + 1, 1, none⟩ (.string ⟨t'.toArray⟩) = W') : Pt w W' R A bs cb q k t' p := by
  subst hW
  have := h.lt
  exact ⟨h.rs.far (by simp; omega) (fun _ a e => by have := hA a e; simp; omega) _, h.res.far (by simp) _, h.tok.set_ 1 _, h.but.far (by simp) _, h.lt⟩
theorem Pt.fin (h : Pt w W R A bs cb q k t p) (hA : ∀ a, A = some a → a.block < w.heap.size) {W3 : World} {a c s : Value} (hW : ((W.setCell ⟨w.heap.size, 0, none⟩ a).setCell ⟨w.heap.size, 1, none⟩ s).setCell ⟨w.heap.size, 2, none⟩ c = W3) :
    W3.cell? ⟨w.heap.size, 0, none⟩ = some a ∧ W3.cell? ⟨w.heap.size, 1, none⟩ = some s ∧ W3.cell? ⟨w.heap.size, 2, none⟩ = some c ∧ Hid (Rs W3 R A bs cb q) ∧ Hid (But R w W3) := by
  subst hW
  have hb := ((h.res.set_ 0 a).set_ 1 s).set_ 2 c
  have := h.lt
  refine ⟨hb.cell 0, hb.cell 1, hb.cell 2, Lib.hid (((h.rs.far ?_ ?_ _).far ?_ ?_ _).far ?_ ?_ _), Lib.hid (((h.but.far (Nat.le_refl _) _).far (Nat.le_refl _) _).far (Nat.le_refl _) _)⟩
  all_goals first | exact fun _ => hA | (simp only [ne_eq]; omega)
theorem Pt.t0 (h : Pt w W R A bs cb q k t p) : W.cell? ⟨w.heap.size + 1, 0, none⟩ = some (.int .i64 (k : Int)) := h.tok.cell 0
theorem Pt.t1 (h : Pt w W R A bs cb q k t p) : W.cell? ⟨w.heap.size + 1, 1, none⟩ = some (.string ⟨t.toArray⟩) := h.tok.cell 1
theorem Pt.t2 (h : Pt w W R A bs cb q k t p) : W.cell? ⟨w.heap.size + 1, 2, none⟩ = some (.int .i64 (p : Int)) := h.tok.cell 2
theorem Pt.r0 (h : Pt w W R A bs cb q k t p) : W.cell? ⟨w.heap.size, 0, none⟩ = some (.int .i64 0) := h.res.cell 0
theorem Pt.r1 (h : Pt w W R A bs cb q k t p) : W.cell? ⟨w.heap.size, 1, none⟩ = some (.string ⟨#[]⟩) := h.res.cell 1
theorem Pt.r2 (h : Pt w W R A bs cb q k t p) : W.cell? ⟨w.heap.size, 2, none⟩ = some (.int .i64 0) := h.res.cell 2
theorem Pt.tf (h : Pt w W R A bs cb q k t p) (i : Nat) : W.frozen? ⟨w.heap.size + 1, i, none⟩ = false := h.tok.frozen i
theorem Pt.rf (h : Pt w W R A bs cb q k t p) (i : Nat) : W.frozen? ⟨w.heap.size, i, none⟩ = false := h.res.frozen i
end

set_option maxRecDepth 100000 in
set_option maxHeartbeats 2000000 in
theorem tparen1 {w : World} {R : Nat} {A : Option Addr} {bs : List UInt8} {cb p : Nat} (H : Hid (Rs w R A bs cb p)) (hl : bs.length ≤ 100000000) (hcap : bs.length ≤ cb) (hp : p < bs.length) (h : bs[p] = 40) :
    Calls Tryd.prog 49 #[.pointer (some ⟨R, 0, none⟩)] w fun e w' => e = .returned (Tv 1 [40] p) ∧ Hid (Rs w' R A bs cb (p + 1)) ∧ Hid (But R w w') := by
  have this := And.intro hp (And.intro hl hcap)
  clear this
  have hA := H.out.lts (by omega)
  go_enter Tryd.func49, Tryd.ntmps49
  go_upto_region 1 with fail
  generalize hW : w.alloc _ = W0
  have S0 := Lib.hid (P0.start H.out hW)
  clear hW
  have c1 := S0.out.rs.c1
  have sz := S0.out.sz
  go_upto_region 2 with fail
  generalize hW : W0.alloc _ = W1
  have S1 := Lib.hid (Pt.start S0.out 1 [40] hW)
  clear hW c1 sz
  have P := here_any (Lib.hid S1.out.rs) hl hcap
  rw [here_at hp, h] at P
  have P := Lib.hid P
  clear h
  go_upto_region 4 with (go_at_call 47; refine (P.out).mono ?_; rintro e w1 ⟨rfl, n, rfl⟩; have S2 := Lib.hid (S1.out.drewN n))
  have c1 := S2.out.rs.c1
  have f1 := S2.out.rs.f1
  go_upto_region 5 with fail
  clear c1 f1
  generalize hW : World.setCell _ _ _ = W_S3
  have S3 := Lib.hid (S2.out.go (p + 1) hW)
  clear hW
  have t0 := S3.out.t0
  have t1 := S3.out.t1
  have t2 := S3.out.t2
  have r0 := S3.out.r0
  have r1 := S3.out.r1
  have r2 := S3.out.r2
  have rf := S3.out.rf
  go_wp2_with fail
  clear t0 t1 t2 r0 r1 r2 rf
  generalize hW : World.setCell _ _ _ = W9
  obtain ⟨e0, e1, e2, HR, HB⟩ := S3.out.fin hA hW
  clear hW
  (try simp only [Exit.inBlock, Exit.then])
  refine bodyPost_ret (v := Tv 1 [40] p) (by simp [results, Tv, Tryd.results49, go_sem, e0, e1, e2]) rfl ⟨rfl, HR, HB⟩

set_option maxRecDepth 100000 in
set_option maxHeartbeats 2000000 in
theorem tparen2 {w : World} {R : Nat} {A : Option Addr} {bs : List UInt8} {cb p : Nat} (H : Hid (Rs w R A bs cb p)) (hl : bs.length ≤ 100000000) (hcap : bs.length ≤ cb) (hp : p < bs.length) (h : bs[p] = 41) :
    Calls Tryd.prog 49 #[.pointer (some ⟨R, 0, none⟩)] w fun e w' => e = .returned (Tv 2 [41] p) ∧ Hid (Rs w' R A bs cb (p + 1)) ∧ Hid (But R w w') := by
  have this := And.intro hp (And.intro hl hcap)
  clear this
  have hA := H.out.lts (by omega)
  go_enter Tryd.func49, Tryd.ntmps49
  go_upto_region 1 with fail
  generalize hW : w.alloc _ = W0
  have S0 := Lib.hid (P0.start H.out hW)
  clear hW
  have c1 := S0.out.rs.c1
  have sz := S0.out.sz
  go_upto_region 2 with fail
  generalize hW : W0.alloc _ = W1
  have S1 := Lib.hid (Pt.start S0.out 1 [40] hW)
  clear hW c1 sz
  have P := here_any (Lib.hid S1.out.rs) hl hcap
  rw [here_at hp, h] at P
  have P := Lib.hid P
  clear h
  go_upto_region 3 with (go_at_call 47; refine (P.out).mono ?_; rintro e w1 ⟨rfl, n, rfl⟩; have S2 := Lib.hid (S1.out.drewN n))
  have t0 := S2.out.t0
  have t1 := S2.out.t1
  have tf := S2.out.tf
  go_upto_region 4 with fail
  clear t0 t1 tf
  generalize hW : World.setCell (World.setCell _ _ _) _ _ = W3
  have S3 := Lib.hid ((S2.out.kind hA 2 rfl).text hA [41] hW)
  clear hW
  have c1 := S3.out.rs.c1
  have f1 := S3.out.rs.f1
  go_upto_region 5 with fail
  clear c1 f1
  generalize hW : World.setCell _ _ _ = W_S4
  have S4 := Lib.hid (S3.out.go (p + 1) hW)
  clear hW
  have t0 := S4.out.t0
  have t1 := S4.out.t1
  have t2 := S4.out.t2
  have r0 := S4.out.r0
  have r1 := S4.out.r1
  have r2 := S4.out.r2
  have rf := S4.out.rf
  go_wp2_with fail
  clear t0 t1 t2 r0 r1 r2 rf
  generalize hW : World.setCell _ _ _ = W9
  obtain ⟨e0, e1, e2, HR, HB⟩ := S4.out.fin hA hW
  clear hW
  (try simp only [Exit.inBlock, Exit.then])
  refine bodyPost_ret (v := Tv 2 [41] p) (by simp [results, Tv, Tryd.results49, go_sem, e0, e1, e2]) rfl ⟨rfl, HR, HB⟩

end Go.Proofs.YtmnllioeaaimcaaDoor.tk
