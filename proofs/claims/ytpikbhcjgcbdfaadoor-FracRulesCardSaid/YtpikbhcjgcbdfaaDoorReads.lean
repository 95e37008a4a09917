/- The statement WholeReads: the walk of its function. -/
import Derived.Test.YtpikbhcjgcbdfaaDoorOrder
import Derived.Test.YtpikbhcjgcbdfaaDoorRfA
namespace Go.Proofs.YtpikbhcjgcbdfaaDoor.wh
open Go.RowKit

/-- two integers and a number of the document's answer that are known -/
structure Quad (w w0 : World) (g : Nat) (x : Bool) (a : Option Addr) (n c : Nat) (g2 : Nat) (y : Bool) (b : Option Addr) (m d : Nat) (g3 : Nat) (z : Bool) (e : Option Addr) (k f : Nat) (w' : World) : Prop where
  below : Below w.heap.size w w'
  here : Below w0.heap.size w0 w'
  one : Box w' g x a n c
  two : Box w' g2 y b m d
  tri : BoxN w' g3 z e k f
section
variable {w w0 w' w1 : World} {g g2 g3 n m k c d f : Nat} {x y z : Bool} {a b e : Option Addr}
theorem Quad.all (h : Quad w w0 g x a n c g2 y b m d g3 z e k f w') : (w'.cell? ⟨g, 0, none⟩ = some (.bool x) ∧ w'.cell? ⟨g, 1, none⟩ = some (.slice a n c) ∧ w'.cell? ⟨g2, 0, none⟩ = some (.bool y) ∧ w'.cell? ⟨g2, 1, none⟩ = some (.slice b m d) ∧ w'.cell? ⟨g3, 0, none⟩ = some (.bool z) ∧ w'.cell? ⟨g3, 1, none⟩ = some (.slice e k f)) ∧
    Hid (Quad w w0 g x a n c g2 y b m d g3 z e k f w') :=
  ⟨⟨h.one.c0, h.one.c1, h.two.c0, h.two.c1, h.tri.c0, h.tri.c1⟩, h⟩
theorem Quad.get {P : Prop} (h : P ∧ Hid (Quad w w0 g x a n c g2 y b m d g3 z e k f w')) : Quad w w0 g x a n c g2 y b m d g3 z e k f w' := h.2
theorem Quad.over (hb : Hid (Below w'.heap.size w' w1)) (h : Quad w w0 g x a n c g2 y b m d g3 z e k f w') : Quad w w0 g x a n c g2 y b m d g3 z e k f w1 :=
  ⟨h.below.trans (hb.out.mono h.below.size), h.here.trans (hb.out.mono h.here.size), h.one.over hb.out, h.two.over hb.out, h.tri.over hb.out⟩
theorem Quad.drew (h : Quad w w0 g x a n c g2 y b m d g3 z e k f w') : Quad w w0 g x a n c g2 y b m d g3 z e k f w'.drew := ⟨h.below.drew, h.here.drew, h.one.drew, h.two.drew, h.tri⟩
end
/-- an integer that is known -/
structure Sol (w0 w : World) (g : Nat) (x : Bool) (a : Option Addr) (n c : Nat) (w' : World) : Prop where
  below : Below w0.heap.size w0 w'
  here : Below w.heap.size w w'
  one : Box w' g x a n c
section
variable {w0 w w' w1 : World} {g n c : Nat} {x : Bool} {a : Option Addr}
theorem Sol.all (h : Sol w0 w g x a n c w') : (w'.cell? ⟨g, 0, none⟩ = some (.bool x) ∧ w'.cell? ⟨g, 1, none⟩ = some (.slice a n c)) ∧ Hid (Sol w0 w g x a n c w') := ⟨⟨h.one.c0, h.one.c1⟩, h⟩
theorem Sol.get {P : Prop} (h : P ∧ Hid (Sol w0 w g x a n c w')) : Sol w0 w g x a n c w' := h.2
theorem Sol.over (hb : Hid (Below w'.heap.size w' w1)) (h : Sol w0 w g x a n c w') : Sol w0 w g x a n c w1 :=
  ⟨h.below.trans (hb.out.mono h.below.size), h.here.trans (hb.out.mono h.here.size), h.one.over hb.out⟩
theorem Sol.drew (h : Sol w0 w g x a n c w') : Sol w0 w g x a n c w'.drew := ⟨h.below.drew, h.here.drew, h.one.drew⟩
end
theorem pat0 {α : Type} {o : α} {t : List α} : (List.toArray (o :: t))[0]? = some o := rfl
theorem pat1 {α : Type} {a0 o : α} {t : List α} : (List.toArray (a0 :: o :: t))[1]? = some o := rfl
theorem pat2 {α : Type} {a0 a1 o : α} {t : List α} : (List.toArray (a0 :: a1 :: o :: t))[2]? = some o := rfl
theorem pat3 {α : Type} {a0 a1 a2 o : α} {t : List α} : (List.toArray (a0 :: a1 :: a2 :: o :: t))[3]? = some o := rfl
theorem pat4 {α : Type} {a0 a1 a2 a3 o : α} {t : List α} : (List.toArray (a0 :: a1 :: a2 :: a3 :: o :: t))[4]? = some o := rfl
theorem pat5 {α : Type} {a0 a1 a2 a3 a4 o : α} {t : List α} : (List.toArray (a0 :: a1 :: a2 :: a3 :: a4 :: o :: t))[5]? = some o := rfl
theorem pat6 {α : Type} {a0 a1 a2 a3 a4 a5 o : α} {t : List α} : (List.toArray (a0 :: a1 :: a2 :: a3 :: a4 :: a5 :: o :: t))[6]? = some o := rfl
theorem pat7 {α : Type} {a0 a1 a2 a3 a4 a5 a6 o : α} {t : List α} : (List.toArray (a0 :: a1 :: a2 :: a3 :: a4 :: a5 :: a6 :: o :: t))[7]? = some o := rfl
theorem pat8 {α : Type} {a0 a1 a2 a3 a4 a5 a6 a7 o : α} {t : List α} : (List.toArray (a0 :: a1 :: a2 :: a3 :: a4 :: a5 :: a6 :: a7 :: o :: t))[8]? = some o := rfl
theorem pat9 {α : Type} {a0 a1 a2 a3 a4 a5 a6 a7 a8 o : α} {t : List α} : (List.toArray (a0 :: a1 :: a2 :: a3 :: a4 :: a5 :: a6 :: a7 :: a8 :: o :: t))[9]? = some o := rfl
theorem pat10 {α : Type} {a0 a1 a2 a3 a4 a5 a6 a7 a8 a9 o : α} {t : List α} : (List.toArray (a0 :: a1 :: a2 :: a3 :: a4 :: a5 :: a6 :: a7 :: a8 :: a9 :: o :: t))[10]? = some o := rfl
theorem pat11 {α : Type} {a0 a1 a2 a3 a4 a5 a6 a7 a8 a9 a10 o : α} {t : List α} : (List.toArray (a0 :: a1 :: a2 :: a3 :: a4 :: a5 :: a6 :: a7 :: a8 :: a9 :: a10 :: o :: t))[11]? = some o := rfl
theorem pat12 {α : Type} {a0 a1 a2 a3 a4 a5 a6 a7 a8 a9 a10 a11 o : α} {t : List α} : (List.toArray (a0 :: a1 :: a2 :: a3 :: a4 :: a5 :: a6 :: a7 :: a8 :: a9 :: a10 :: a11 :: o :: t))[12]? = some o := rfl
theorem pat13 {α : Type} {a0 a1 a2 a3 a4 a5 a6 a7 a8 a9 a10 a11 a12 o : α} {t : List α} : (List.toArray (a0 :: a1 :: a2 :: a3 :: a4 :: a5 :: a6 :: a7 :: a8 :: a9 :: a10 :: a11 :: a12 :: o :: t))[13]? = some o := rfl
theorem pat14 {α : Type} {a0 a1 a2 a3 a4 a5 a6 a7 a8 a9 a10 a11 a12 a13 o : α} {t : List α} : (List.toArray (a0 :: a1 :: a2 :: a3 :: a4 :: a5 :: a6 :: a7 :: a8 :: a9 :: a10 :: a11 :: a12 :: a13 :: o :: t))[14]? = some o := rfl
theorem pat15 {α : Type} {a0 a1 a2 a3 a4 a5 a6 a7 a8 a9 a10 a11 a12 a13 a14 o : α} {t : List α} : (List.toArray (a0 :: a1 :: a2 :: a3 :: a4 :: a5 :: a6 :: a7 :: a8 :: a9 :: a10 :: a11 :: a12 :: a13 :: a14 :: o :: t))[15]? = some o := rfl
theorem pat16 {α : Type} {a0 a1 a2 a3 a4 a5 a6 a7 a8 a9 a10 a11 a12 a13 a14 a15 o : α} {t : List α} : (List.toArray (a0 :: a1 :: a2 :: a3 :: a4 :: a5 :: a6 :: a7 :: a8 :: a9 :: a10 :: a11 :: a12 :: a13 :: a14 :: a15 :: o :: t))[16]? = some o := rfl
theorem pat17 {α : Type} {a0 a1 a2 a3 a4 a5 a6 a7 a8 a9 a10 a11 a12 a13 a14 a15 a16 o : α} {t : List α} : (List.toArray (a0 :: a1 :: a2 :: a3 :: a4 :: a5 :: a6 :: a7 :: a8 :: a9 :: a10 :: a11 :: a12 :: a13 :: a14 :: a15 :: a16 :: o :: t))[17]? = some o := rfl
theorem pat18 {α : Type} {a0 a1 a2 a3 a4 a5 a6 a7 a8 a9 a10 a11 a12 a13 a14 a15 a16 a17 o : α} {t : List α} : (List.toArray (a0 :: a1 :: a2 :: a3 :: a4 :: a5 :: a6 :: a7 :: a8 :: a9 :: a10 :: a11 :: a12 :: a13 :: a14 :: a15 :: a16 :: a17 :: o :: t))[18]? = some o := rfl
theorem pat19 {α : Type} {a0 a1 a2 a3 a4 a5 a6 a7 a8 a9 a10 a11 a12 a13 a14 a15 a16 a17 a18 o : α} {t : List α} : (List.toArray (a0 :: a1 :: a2 :: a3 :: a4 :: a5 :: a6 :: a7 :: a8 :: a9 :: a10 :: a11 :: a12 :: a13 :: a14 :: a15 :: a16 :: a17 :: a18 :: o :: t))[19]? = some o := rfl
theorem pat20 {α : Type} {a0 a1 a2 a3 a4 a5 a6 a7 a8 a9 a10 a11 a12 a13 a14 a15 a16 a17 a18 a19 o : α} {t : List α} : (List.toArray (a0 :: a1 :: a2 :: a3 :: a4 :: a5 :: a6 :: a7 :: a8 :: a9 :: a10 :: a11 :: a12 :: a13 :: a14 :: a15 :: a16 :: a17 :: a18 :: a19 :: o :: t))[20]? = some o := rfl
theorem pat21 {α : Type} {a0 a1 a2 a3 a4 a5 a6 a7 a8 a9 a10 a11 a12 a13 a14 a15 a16 a17 a18 a19 a20 o : α} {t : List α} : (List.toArray (a0 :: a1 :: a2 :: a3 :: a4 :: a5 :: a6 :: a7 :: a8 :: a9 :: a10 :: a11 :: a12 :: a13 :: a14 :: a15 :: a16 :: a17 :: a18 :: a19 :: a20 :: o :: t))[21]? = some o := rfl
theorem pat22 {α : Type} {a0 a1 a2 a3 a4 a5 a6 a7 a8 a9 a10 a11 a12 a13 a14 a15 a16 a17 a18 a19 a20 a21 o : α} {t : List α} : (List.toArray (a0 :: a1 :: a2 :: a3 :: a4 :: a5 :: a6 :: a7 :: a8 :: a9 :: a10 :: a11 :: a12 :: a13 :: a14 :: a15 :: a16 :: a17 :: a18 :: a19 :: a20 :: a21 :: o :: t))[22]? = some o := rfl
theorem pat23 {α : Type} {a0 a1 a2 a3 a4 a5 a6 a7 a8 a9 a10 a11 a12 a13 a14 a15 a16 a17 a18 a19 a20 a21 a22 o : α} {t : List α} : (List.toArray (a0 :: a1 :: a2 :: a3 :: a4 :: a5 :: a6 :: a7 :: a8 :: a9 :: a10 :: a11 :: a12 :: a13 :: a14 :: a15 :: a16 :: a17 :: a18 :: a19 :: a20 :: a21 :: a22 :: o :: t))[23]? = some o := rfl
theorem pat24 {α : Type} {a0 a1 a2 a3 a4 a5 a6 a7 a8 a9 a10 a11 a12 a13 a14 a15 a16 a17 a18 a19 a20 a21 a22 a23 o : α} {t : List α} : (List.toArray (a0 :: a1 :: a2 :: a3 :: a4 :: a5 :: a6 :: a7 :: a8 :: a9 :: a10 :: a11 :: a12 :: a13 :: a14 :: a15 :: a16 :: a17 :: a18 :: a19 :: a20 :: a21 :: a22 :: a23 :: o :: t))[24]? = some o := rfl
theorem pat25 {α : Type} {a0 a1 a2 a3 a4 a5 a6 a7 a8 a9 a10 a11 a12 a13 a14 a15 a16 a17 a18 a19 a20 a21 a22 a23 a24 o : α} {t : List α} : (List.toArray (a0 :: a1 :: a2 :: a3 :: a4 :: a5 :: a6 :: a7 :: a8 :: a9 :: a10 :: a11 :: a12 :: a13 :: a14 :: a15 :: a16 :: a17 :: a18 :: a19 :: a20 :: a21 :: a22 :: a23 :: a24 :: o :: t))[25]? = some o := rfl
theorem pat26 {α : Type} {a0 a1 a2 a3 a4 a5 a6 a7 a8 a9 a10 a11 a12 a13 a14 a15 a16 a17 a18 a19 a20 a21 a22 a23 a24 a25 o : α} {t : List α} : (List.toArray (a0 :: a1 :: a2 :: a3 :: a4 :: a5 :: a6 :: a7 :: a8 :: a9 :: a10 :: a11 :: a12 :: a13 :: a14 :: a15 :: a16 :: a17 :: a18 :: a19 :: a20 :: a21 :: a22 :: a23 :: a24 :: a25 :: o :: t))[26]? = some o := rfl
theorem pat27 {α : Type} {a0 a1 a2 a3 a4 a5 a6 a7 a8 a9 a10 a11 a12 a13 a14 a15 a16 a17 a18 a19 a20 a21 a22 a23 a24 a25 a26 o : α} {t : List α} : (List.toArray (a0 :: a1 :: a2 :: a3 :: a4 :: a5 :: a6 :: a7 :: a8 :: a9 :: a10 :: a11 :: a12 :: a13 :: a14 :: a15 :: a16 :: a17 :: a18 :: a19 :: a20 :: a21 :: a22 :: a23 :: a24 :: a25 :: a26 :: o :: t))[27]? = some o := rfl
theorem pat28 {α : Type} {a0 a1 a2 a3 a4 a5 a6 a7 a8 a9 a10 a11 a12 a13 a14 a15 a16 a17 a18 a19 a20 a21 a22 a23 a24 a25 a26 a27 o : α} {t : List α} : (List.toArray (a0 :: a1 :: a2 :: a3 :: a4 :: a5 :: a6 :: a7 :: a8 :: a9 :: a10 :: a11 :: a12 :: a13 :: a14 :: a15 :: a16 :: a17 :: a18 :: a19 :: a20 :: a21 :: a22 :: a23 :: a24 :: a25 :: a26 :: a27 :: o :: t))[28]? = some o := rfl
theorem pat29 {α : Type} {a0 a1 a2 a3 a4 a5 a6 a7 a8 a9 a10 a11 a12 a13 a14 a15 a16 a17 a18 a19 a20 a21 a22 a23 a24 a25 a26 a27 a28 o : α} {t : List α} : (List.toArray (a0 :: a1 :: a2 :: a3 :: a4 :: a5 :: a6 :: a7 :: a8 :: a9 :: a10 :: a11 :: a12 :: a13 :: a14 :: a15 :: a16 :: a17 :: a18 :: a19 :: a20 :: a21 :: a22 :: a23 :: a24 :: a25 :: a26 :: a27 :: a28 :: o :: t))[29]? = some o := rfl
theorem same_yes {v u : Value} {p q : Nat} {a b : Int} {w : World} (hp : p ≤ 100000) (hx : IsInt w w.heap.size p v a) (hy : IsInt w w.heap.size q u b) (h : a = b) :
    Calls Tryd.prog 16 #[v, u] w fun e w' => e = .returned (.bool true) ∧ Hid (Below w.heap.size w w') :=
  (same_any hp hx hy).mono fun e w' h2 => ⟨by rw [h2.1, decide_eq_true h], h2.2⟩
theorem right_el {neg : Bool} {A : Option Addr} {c : Nat} {ds : List Nat} {w0 w : World} (h : (El.mk neg A c ds).Ok w0) (hb : Below w0.heap.size w0 w) :
    Calls Tryd.prog 32 #[.agg #[.bool neg, .slice A ds.length c]] w fun e w' => e = .returned (.bool (rightB neg ds)) ∧ Hid (Below w.heap.size w w') :=
  right_any neg A c ds w (h.over hb).1 (h.over hb).2
theorem refRight_el {neg : Bool} {A : Option Addr} {c : Nat} {ds : List Nat} {w0 w : World} (h : (El.mk neg A c ds).Ok w0) (hb : Below w0.heap.size w0 w) :
    Calls Tryd.prog 33 #[.agg #[.bool neg, .slice A ds.length c]] w fun e w' => e = .returned (.bool (rightB neg ds)) ∧ Hid (Below w.heap.size w w') :=
  refRight_any neg A c ds w (h.over hb).1 (h.over hb).2
theorem refRight_int {x : Bool} {A : Option Addr} {n c m : Nat} {z : Int} {w : World} (h : IsInt w w.heap.size m (.agg #[.bool x, .slice A n c]) z) (hm : m ≤ maxLen) :
    Calls Tryd.prog 33 #[.agg #[.bool x, .slice A n c]] w fun e w' => e = .returned (.bool true) ∧ Hid (Below w.heap.size w w') := by
  obtain ⟨neg, A', n', c', ds, hv, h2, h3, h4, h5, h6, h7⟩ := h
  injection hv with hv
  have h0 := congrArg (fun a : Array Value => a.toList) hv
  simp only [List.cons.injEq, Value.bool.injEq, Value.slice.injEq, and_true] at h0
  obtain ⟨rfl, rfl, rfl, rfl⟩ := h0
  subst h2
  exact (refRight_any x A c ds w (by omega) h3).mono fun e w' h => ⟨by rw [h.1, h6], h.2⟩

theorem if_unwanted {b : Bool} {p q : Prop} (h : b = false) (hq : q) : if b = true then p else q := by rw [h]; exact hq

set_option maxRecDepth 100000 in
set_option maxHeartbeats 4000000 in
theorem reads_any (s : ByteArray) (q : Int) (ex : El) (w : World) (hx : ex.Ok w) (hq1 : -9223372036854775808 ≤ q) (hq2 : q ≤ 9223372036854775807) :
    Calls Tryd.prog 4 #[.string s, .int .i64 q, ex.val] w fun e w' => e = .returned (.bool true) ∧ Below w.heap.size w w' := by
  have EX := Lib.hid hx
  have HQ : Hid (-9223372036854775808 ≤ q ∧ q ≤ 9223372036854775807) := ⟨hq1, hq2⟩
  clear hx hq1 hq2
  obtain ⟨nx, A, c, xs⟩ := ex
  simp only [El.val] at *
  have HT : Hid (Below w.heap.size w (w.alloc (.cells #[.bool nx, .slice A xs.length c] 24)) ∧ Box (w.alloc (.cells #[.bool nx, .slice A xs.length c] 24)) w.heap.size nx A xs.length c) := ⟨(Below.refl _ _).alloc (Nat.le_refl _) _, Box.new _ _ _ _ _⟩
  go_enter Tryd.func4, Tryd.ntmps4
  go_wp2_with fail
  refine (speaks_any _).mono ?_
  rintro e w1 ⟨rfl, hb1⟩
  have T1 : Hid (Below w.heap.size w w1 ∧ Box w1 w.heap.size nx A xs.length c) := ⟨HT.out.1.trans (hb1.mono HT.out.1.size), HT.out.2.over hb1⟩
  have M10 := T1.out.2.c0
  have M11 := T1.out.2.c1
  clear hb1 HT
  by_cases h200 : 200 < s.size
  · have h1 : (200 : Int) < ((s.size : Nat) : Int) := by omega
    clear h200
    go_wp2
    go_ret
    exact ⟨rfl, T1.out.1⟩
  · have h1 : ¬ (200 : Int) < ((s.size : Nat) : Int) := by omega
    have HS : Hid (s.size ≤ 200) := by show _ ≤ _; omega
    clear h200
    by_cases h50 : 50 < xs.length
    · have h2 : (50 : Int) < ((xs.length : Nat) : Int) := by omega
      clear h50
      go_wp2
      go_ret
      exact ⟨rfl, T1.out.1⟩
    · have h2 : ¬ (50 : Int) < ((xs.length : Nat) : Int) := by omega
      clear h50
      go_wp2_with fail
      refine (parse_any s w1 (by have := HS.out; omega)).mono ?_
      rintro e w2 ⟨yn, B, m, d, rfl, hiy, hb2⟩
      have hay : Hid (Below w2.heap.size w2 (w2.alloc (.cells #[.bool yn, .slice B m d] 24))) := (Below.refl _ _).alloc (Nat.le_refl _) _
      clear M10 M11 h1 h2
      go_wp2_with fail
      refine (refParse_any s _ (by have := HS.out; omega)).mono ?_
      rintro e w3 ⟨wn, C, k, f, rfl, hiw, hb3⟩
      have haw : Hid (Below w3.heap.size w3 (w3.alloc (.cells #[.bool wn, .slice C k f] 29))) := (Below.refl _ _).alloc (Nat.le_refl _) _
      have hy3 : Hid (Below w2.heap.size w2 w3) := hay.out.trans (hb3.out.mono hay.out.size)
      have T4 : Hid (Quad w (w3.alloc (.cells #[.bool wn, .slice C k f] 29)) w.heap.size nx A xs.length c w2.heap.size yn B m d w3.heap.size wn C k f (w3.alloc (.cells #[.bool wn, .slice C k f] 29))) :=
        ⟨(T1.out.1.trans (hb2.out.mono T1.out.1.size)).trans ((hy3.out.trans (haw.out.mono hy3.out.size)).mono (by have := T1.out.1.size; have := hb2.out.size; omega)), Below.refl _ _, ((T1.out.2.over hb2.out).over hy3.out).alloc _, ((Box.new w2 yn B m d).over hb3.out).alloc _, BoxN.new _ _ _ _ _⟩
      have IY : Hid (IsInt (w3.alloc (.cells #[.bool wn, .slice C k f] 29)) (w3.alloc (.cells #[.bool wn, .slice C k f] 29)).heap.size 120 (.agg #[.bool yn, .slice B m d]) (zOf s.data.toList)) := (hiy.out.over hy3.out).over haw.out
      cases hok : okOf s.data.toList with
      | true =>
        have IW : Hid (IsNum (w3.alloc (.cells #[.bool wn, .slice C k f] 29)) (w3.alloc (.cells #[.bool wn, .slice C k f] 29)).heap.size 1000 (.agg #[.bool wn, .slice C k f]) (zOf s.data.toList)) := (hiw.out hok).over haw.out
        clear hok hiw hiy hb2 hb3 hay haw hy3 T1
        have A4 := T4.out.all.1
        go_wp2
        refine wp_region_held_drew (S := (fun w' => (w'.cell? ⟨w.heap.size, 0, none⟩ = some (.bool nx) ∧ w'.cell? ⟨w.heap.size, 1, none⟩ = some (.slice A xs.length c) ∧ w'.cell? ⟨w2.heap.size, 0, none⟩ = some (.bool yn) ∧ w'.cell? ⟨w2.heap.size, 1, none⟩ = some (.slice B m d) ∧ w'.cell? ⟨w3.heap.size, 0, none⟩ = some (.bool wn) ∧ w'.cell? ⟨w3.heap.size, 1, none⟩ = some (.slice C k f)) ∧ Hid (Quad w (w3.alloc (.cells #[.bool wn, .slice C k f] 29)) w.heap.size nx A xs.length c w2.heap.size yn B m d w3.heap.size wn C k f w'))) (by kernel_rfl) (T4.out.drew.all) (fun hHeld => ?_)
        refine wpAnyH_take (i := 0) (v := ?_) pat0 (by kernel_rfl) (by kernel_rfl) (by kernel_rfl) (fun _ _ _ h => h) (Or.inl ⟨by rfl, ?_⟩) (by assumption) ?_
        rotate_left
        · (intro w hSw; (try dsimp only at hSw); go_simp; (try with_reducible rfl))
        (try simp only [Act.put, List.setIfInBounds_toArray, List.set_cons_zero, List.set_cons_succ])
        refine wpAnyH_take (i := 1) (v := ?_) pat1 (by kernel_rfl) (by kernel_rfl) (by kernel_rfl) (fun _ _ _ h => h) (Or.inl ⟨by rfl, ?_⟩) (by assumption) ?_
        rotate_left
        · (intro w hSw; (try dsimp only at hSw); go_simp; (try with_reducible rfl))
        (try simp only [Act.put, List.setIfInBounds_toArray, List.set_cons_zero, List.set_cons_succ])
        refine wpAnyH_take (i := 2) (v := ?_) pat2 (by kernel_rfl) (by kernel_rfl) (by kernel_rfl) (fun _ _ _ h => h) (Or.inl ⟨by rfl, ?_⟩) (by assumption) ?_
        rotate_left
        · (intro w hSw; (try dsimp only at hSw); go_simp; (try with_reducible rfl))
        (try simp only [Act.put, List.setIfInBounds_toArray, List.set_cons_zero, List.set_cons_succ])
        refine wpAnyH_take (i := 3) (v := ?_) pat3 (by kernel_rfl) (by kernel_rfl) (by kernel_rfl) (fun _ _ _ h => h) (Or.inl ⟨by rfl, ?_⟩) (by assumption) ?_
        rotate_left
        · (intro w hSw; (try dsimp only at hSw); go_simp; (try with_reducible rfl))
        (try simp only [Act.put, List.setIfInBounds_toArray, List.set_cons_zero, List.set_cons_succ])
        refine wpAnyH_take (i := 4) (v := ?_) pat4 (by kernel_rfl) (by kernel_rfl) (by kernel_rfl) (fun _ _ _ h => h) (Or.inl ⟨by rfl, ?_⟩) (by assumption) ?_
        rotate_left
        · (intro w hSw; (try dsimp only at hSw); go_simp; (try with_reducible rfl))
        (try simp only [Act.put, List.setIfInBounds_toArray, List.set_cons_zero, List.set_cons_succ])
        refine wpAnyH_take (i := 5) (v := ?_) pat5 (by kernel_rfl) (by kernel_rfl) (by kernel_rfl) (fun _ _ _ h => h) (Or.inl ⟨by rfl, ?_⟩) (by assumption) ?_
        rotate_left
        · (intro w hSw; (try dsimp only at hSw); go_simp; (try with_reducible rfl))
        (try simp only [Act.put, List.setIfInBounds_toArray, List.set_cons_zero, List.set_cons_succ])
        refine wpAnyH_take (i := 6) (v := ?_) pat6 (by kernel_rfl) (by kernel_rfl) (by kernel_rfl) (fun _ _ _ h => h) (Or.inl ⟨by rfl, ?_⟩) (by assumption) ?_
        rotate_left
        · (intro w hSw; (try dsimp only at hSw); go_simp; (try with_reducible rfl))
        (try simp only [Act.put, List.setIfInBounds_toArray, List.set_cons_zero, List.set_cons_succ])
        refine wpAnyH_take (i := 7) (v := ?_) pat7 (by kernel_rfl) (by kernel_rfl) (by kernel_rfl) (fun _ _ _ h => h) (Or.inl ⟨by rfl, ?_⟩) (by assumption) ?_
        rotate_left
        · (intro w hSw; (try dsimp only at hSw); go_simp; (try with_reducible rfl))
        (try simp only [Act.put, List.setIfInBounds_toArray, List.set_cons_zero, List.set_cons_succ])
        refine wpAnyH_ready (rs := [8]) (by kernel_rfl) (by simp) ?_
        refine AllReadyH.cons pat8 (fun K hK => ?_) AllReadyH.nil
        go_simp
        (go_at_call_of 18 C; refine (form_any (m := 1000) (by omega) (IW.out.over (Quad.get hHeld).here)).mono ?_; rintro e w5 ⟨x5, A5, n5, c5, rfl, hi5, hb⟩)
        (try go_wp2_with fail)
        refine hK.out _ _ ((Quad.over hb (Quad.get hHeld)).all) (fun hHeld2 => ?_)
        clear hK K hHeld hb
        have hHeld := hHeld2
        clear hHeld2
        (try simp only [Act.put, List.setIfInBounds_toArray, List.set_cons_zero, List.set_cons_succ])
        refine wpAnyH_ready (rs := [9]) (by kernel_rfl) (by simp) ?_
        refine AllReadyH.cons pat9 (fun K hK => ?_) AllReadyH.nil
        go_simp
        (go_at_call_of 16 B; refine (same_yes (by omega) (IY.out.over (Quad.get hHeld).here) hi5.out rfl).mono ?_; rintro e w6 ⟨rfl, hb⟩)
        (try go_wp2_with fail)
        refine hK.out _ _ ((Quad.over hb (Quad.get hHeld)).all) (fun hHeld2 => ?_)
        clear hK K hHeld hb
        have hHeld := hHeld2
        clear hHeld2
        (try simp only [Act.put, List.setIfInBounds_toArray, List.set_cons_zero, List.set_cons_succ])
        refine wpAnyH_take (i := 10) (v := ?_) pat10 (by kernel_rfl) (by kernel_rfl) (by kernel_rfl) (fun _ _ _ h => h) (Or.inl ⟨by rfl, ?_⟩) (by assumption) ?_
        rotate_left
        · (intro w hSw; (try dsimp only at hSw); go_simp; (try with_reducible rfl))
        (try simp only [Act.put, List.setIfInBounds_toArray, List.set_cons_zero, List.set_cons_succ])
        refine wpAnyH_take (i := 11) (v := ?_) pat11 (by kernel_rfl) (by kernel_rfl) (by kernel_rfl) (fun _ _ _ h => h) (Or.inl ⟨by rfl, ?_⟩) (by assumption) ?_
        rotate_left
        · (intro w hSw; (try dsimp only at hSw); go_simp; (try with_reducible rfl))
        (try simp only [Act.put, List.setIfInBounds_toArray, List.set_cons_zero, List.set_cons_succ])
        refine wpAnyH_take (i := 12) (v := ?_) pat12 (by kernel_rfl) (by kernel_rfl) (by kernel_rfl) (fun _ _ _ h => h) (Or.inl ⟨by rfl, ?_⟩) (by assumption) ?_
        rotate_left
        · (intro w hSw; (try dsimp only at hSw); go_simp; (try with_reducible rfl))
        (try simp only [Act.put, List.setIfInBounds_toArray, List.set_cons_zero, List.set_cons_succ])
        refine wpAnyH_take (i := 13) (v := ?_) pat13 (by kernel_rfl) (by kernel_rfl) (by kernel_rfl) (fun _ _ _ h => h) (Or.inl ⟨by rfl, ?_⟩) (by assumption) ?_
        rotate_left
        · (intro w hSw; (try dsimp only at hSw); go_simp; (try with_reducible rfl))
        (try simp only [Act.put, List.setIfInBounds_toArray, List.set_cons_zero, List.set_cons_succ])
        refine wpAnyH_take (i := 14) (v := ?_) pat14 (by kernel_rfl) (by kernel_rfl) (by kernel_rfl) (fun _ _ _ h => h) (Or.inl ⟨by rfl, ?_⟩) (by assumption) ?_
        rotate_left
        · (intro w hSw; (try dsimp only at hSw); go_simp; (try with_reducible rfl))
        (try simp only [Act.put, List.setIfInBounds_toArray, List.set_cons_zero, List.set_cons_succ])
        refine wpAnyH_take (i := 15) (v := ?_) pat15 (by kernel_rfl) (by kernel_rfl) (by kernel_rfl) (fun _ _ _ h => h) (Or.inl ⟨by rfl, ?_⟩) (by assumption) ?_
        rotate_left
        · (intro w hSw; (try dsimp only at hSw); go_simp; (try with_reducible rfl))
        (try simp only [Act.put, List.setIfInBounds_toArray, List.set_cons_zero, List.set_cons_succ])
        refine wpAnyH_take (i := 16) (v := ?_) pat16 (by kernel_rfl) (by kernel_rfl) (by kernel_rfl) (fun _ _ _ h => h) (Or.inl ⟨by rfl, ?_⟩) (by assumption) ?_
        rotate_left
        · (intro w hSw; (try dsimp only at hSw); go_simp; (try with_reducible rfl))
        (try simp only [Act.put, List.setIfInBounds_toArray, List.set_cons_zero, List.set_cons_succ])
        refine wpAnyH_take (i := 17) (v := undef) pat17 (by kernel_rfl) (by kernel_rfl) (by kernel_rfl) (fun _ _ _ h => h) (Or.inr ⟨by rfl, rfl⟩) (by assumption) ?_
        (try simp only [Act.put, List.setIfInBounds_toArray, List.set_cons_zero, List.set_cons_succ])
        refine wpAnyH_take (i := 18) (v := undef) pat18 (by kernel_rfl) (by kernel_rfl) (by kernel_rfl) (fun _ _ _ h => h) (Or.inr ⟨by rfl, rfl⟩) (by assumption) ?_
        (try simp only [Act.put, List.setIfInBounds_toArray, List.set_cons_zero, List.set_cons_succ])
        refine wpAnyH_ready (rs := [19]) (by kernel_rfl) (by simp) ?_
        refine AllReadyH.cons pat19 (fun K hK => ?_) AllReadyH.nil
        refine if_unwanted rfl ?_
        refine hK.out _ _ hHeld (fun hHeld2 => ?_)
        clear hK K hHeld
        have hHeld := hHeld2
        clear hHeld2
        (try simp only [Act.put, List.setIfInBounds_toArray, List.set_cons_zero, List.set_cons_succ])
        refine wpAnyH_take (i := 20) (v := undef) pat20 (by kernel_rfl) (by kernel_rfl) (by kernel_rfl) (fun _ _ _ h => h) (Or.inr ⟨by rfl, rfl⟩) (by assumption) ?_
        (try simp only [Act.put, List.setIfInBounds_toArray, List.set_cons_zero, List.set_cons_succ])
        refine wpAnyH_take (i := 21) (v := ?_) pat21 (by kernel_rfl) (by kernel_rfl) (by kernel_rfl) (fun _ _ _ h => h) (Or.inl ⟨by rfl, ?_⟩) (by assumption) ?_
        rotate_left
        · (intro w hSw; (try dsimp only at hSw); go_simp; (try with_reducible rfl))
        (try simp only [Act.put, List.setIfInBounds_toArray, List.set_cons_zero, List.set_cons_succ])
        refine wpAnyH_take (i := 22) (v := ?_) pat22 (by kernel_rfl) (by kernel_rfl) (by kernel_rfl) (fun _ _ _ h => h) (Or.inl ⟨by rfl, ?_⟩) (by assumption) ?_
        rotate_left
        · (intro w hSw; (try dsimp only at hSw); go_simp; (try with_reducible rfl))
        (try simp only [Act.put, List.setIfInBounds_toArray, List.set_cons_zero, List.set_cons_succ])
        refine wpAnyH_take (i := 23) (v := ?_) pat23 (by kernel_rfl) (by kernel_rfl) (by kernel_rfl) (fun _ _ _ h => h) (Or.inl ⟨by rfl, ?_⟩) (by assumption) ?_
        rotate_left
        · (intro w hSw; (try dsimp only at hSw); go_simp; (try with_reducible rfl))
        (try simp only [Act.put, List.setIfInBounds_toArray, List.set_cons_zero, List.set_cons_succ])
        refine wpAnyH_take (i := 24) (v := ?_) pat24 (by kernel_rfl) (by kernel_rfl) (by kernel_rfl) (fun _ _ _ h => h) (Or.inl ⟨by rfl, ?_⟩) (by assumption) ?_
        rotate_left
        · (intro w hSw; (try dsimp only at hSw); go_simp; (try with_reducible rfl))
        (try simp only [Act.put, List.setIfInBounds_toArray, List.set_cons_zero, List.set_cons_succ])
        refine wpAnyH_take (i := 26) (v := ?_) pat26 (by kernel_rfl) (by kernel_rfl) (by kernel_rfl) (fun _ _ _ h => h) (Or.inl ⟨by rfl, ?_⟩) (by assumption) ?_
        rotate_left
        · (intro w hSw; (try dsimp only at hSw); go_simp; (try with_reducible rfl))
        (try simp only [Act.put, List.setIfInBounds_toArray, List.set_cons_zero, List.set_cons_succ])
        refine wpAnyH_ready (rs := [25]) (by kernel_rfl) (by simp) ?_
        refine AllReadyH.cons pat25 (fun K hK => ?_) AllReadyH.nil
        go_simp
        (go_at_call_of 32 A; refine (right_el EX.out (Quad.get hHeld).below).mono ?_; rintro e w7 ⟨rfl, hb⟩)
        (try go_wp2_with fail)
        refine hK.out _ _ ((Quad.over hb (Quad.get hHeld)).all) (fun hHeld2 => ?_)
        clear hK K hHeld hb
        have hHeld := hHeld2
        clear hHeld2
        (try simp only [Act.put, List.setIfInBounds_toArray, List.set_cons_zero, List.set_cons_succ])
        refine wpAnyH_ready (rs := [27]) (by kernel_rfl) (by simp) ?_
        refine AllReadyH.cons pat27 (fun K hK => ?_) AllReadyH.nil
        go_simp
        (go_at_call_of 33 A; refine (refRight_el EX.out (Quad.get hHeld).below).mono ?_; rintro e w8 ⟨rfl, hb⟩)
        (try go_wp2_with fail)
        refine hK.out _ _ ((Quad.over hb (Quad.get hHeld)).all) (fun hHeld2 => ?_)
        clear hK K hHeld hb
        have hHeld := hHeld2
        clear hHeld2
        (try simp only [Act.put, List.setIfInBounds_toArray, List.set_cons_zero, List.set_cons_succ])
        refine wpAnyH_take (i := 28) (v := ?_) pat28 (by kernel_rfl) (by kernel_rfl) (by kernel_rfl) (fun _ _ _ h => h) (Or.inl ⟨by rfl, ?_⟩) (by assumption) ?_
        rotate_left
        · (intro w hSw; (try dsimp only at hSw); go_simp; (try with_reducible rfl))
        (try simp only [Act.put, List.setIfInBounds_toArray, List.set_cons_zero, List.set_cons_succ])
        refine wpAnyH_take (i := 29) (v := ?_) pat29 (by kernel_rfl) (by kernel_rfl) (by kernel_rfl) (fun _ _ _ h => h) (Or.inl ⟨by rfl, ?_⟩) (by assumption) ?_
        rotate_left
        · (intro w hSw; (try dsimp only at hSw); go_simp; (try with_reducible rfl))
        (try simp only [Act.put, List.setIfInBounds_toArray, List.set_cons_zero, List.set_cons_succ])
        refine wpAnyH_done (by kernel_rfl) ?_ _
        have T5 := Lib.hid (Quad.get hHeld).below
        clear T4 IY
        go_wp2_with fail
        refine (of_any q _ HQ.out.1 HQ.out.2).mono ?_
        rintro e wd ⟨vd, rfl, hid, hbd⟩
        obtain ⟨zn, D, j, h, zs, rfl, hj, _, _⟩ := hid.cells
        have TZ : Hid (Sol w (wd.alloc (.cells #[.bool zn, .slice D j h] 24)) wd.heap.size zn D j h (wd.alloc (.cells #[.bool zn, .slice D j h] 24))) :=
          ⟨(T5.out.trans (hbd.mono T5.out.size)).alloc (by have := T5.out.size; have := hbd.size; omega) _, Below.refl _ _, Box.new _ _ _ _ _⟩
        have IZ : Hid (IsInt (wd.alloc (.cells #[.bool zn, .slice D j h] 24)) (wd.alloc (.cells #[.bool zn, .slice D j h] 24)).heap.size 3 (.agg #[.bool zn, .slice D j h]) q) := hid.over ((Below.refl _ _).alloc (Nat.le_refl _) _)
        clear hid hbd T5
        by_cases k1 : (-4611686018427387904 : Int) < q
        · have hd : decide ((-4611686018427387904 : Int) < q) = true := decide_eq_true k1
          by_cases k3 : q ≤ 4611686018427387904
          · have k2 : (-4611686018427387904 : Int) ≤ q := by omega
            have HV := Lib.hid (small_yes ⟨k2, k3⟩)
            go_wp2
            go_region_held3 (fun w' => (w'.cell? ⟨wd.heap.size, 0, none⟩ = some (.bool zn) ∧ w'.cell? ⟨wd.heap.size, 1, none⟩ = some (.slice D j h)) ∧ Hid (Sol w (wd.alloc (.cells #[.bool zn, .slice D j h] 24)) wd.heap.size zn D j h w'))
              (first | (with_reducible exact TZ.out.drew.all) | (with_reducible exact (Sol.over hb (Sol.get (by assumption))).all))
            (first
              | (go_at_call_of 33 D; refine (refRight_int (IZ.out.over (Sol.get (by assumption)).here) (by unfold maxLen; omega)).mono ?_; rintro e w8 ⟨rfl, hb⟩)
              | (go_at_call_of 35 q; refine (int_any q _ (by omega) (by have := HQ.out.2; omega)).mono ?_; rintro e wg ⟨xg, Ag, ng, cg, rfl, hig, hb⟩)
              | (go_at_call_of 18 Ag; refine (form_any (m := 25) (by omega) hig.out).mono ?_; rintro e wh ⟨xh, Ah, nh, ch, rfl, hih, hb⟩)
              | (go_at_call_of 16 D; refine (same_yes (by omega) (IZ.out.over (Sol.get (by assumption)).here) hih.out rfl).mono ?_; rintro e wi ⟨rfl, hb⟩))
            have T6 := Lib.hid (Sol.get (by assumption))
            go_wp2_with fail
            refine (small_any _ 3 q _ (by unfold maxLen; omega) (IZ.out.over T6.out.here)).mono ?_
            rintro e wf ⟨rfl, hbf⟩
            have T6 : Hid (Below w.heap.size w wf) := T6.out.below.trans (hbf.mono T6.out.below.size)
            have hv := HV.out.1
            have hs := HV.out.2
            go_wp2
            go_ret
            exact ⟨rfl, T6.out⟩
          · have hd3 : decide (q ≤ 4611686018427387904) = false := decide_eq_false k3
            have k2 : (-4611686018427387904 : Int) ≤ q := by omega
            have HV := Lib.hid (small_no (z := q) (by omega))
            go_wp2
            go_region_held3 (fun w' => (w'.cell? ⟨wd.heap.size, 0, none⟩ = some (.bool zn) ∧ w'.cell? ⟨wd.heap.size, 1, none⟩ = some (.slice D j h)) ∧ Hid (Sol w (wd.alloc (.cells #[.bool zn, .slice D j h] 24)) wd.heap.size zn D j h w'))
              (first | (with_reducible exact TZ.out.drew.all) | (with_reducible exact (Sol.over hb (Sol.get (by assumption))).all))
            (first
              | (go_at_call_of 33 D; refine (refRight_int (IZ.out.over (Sol.get (by assumption)).here) (by unfold maxLen; omega)).mono ?_; rintro e w8 ⟨rfl, hb⟩)
              | (go_at_call_of 35 q; refine (int_any q _ (by omega) (by have := HQ.out.2; omega)).mono ?_; rintro e wg ⟨xg, Ag, ng, cg, rfl, hig, hb⟩)
              | (go_at_call_of 18 Ag; refine (form_any (m := 25) (by omega) hig.out).mono ?_; rintro e wh ⟨xh, Ah, nh, ch, rfl, hih, hb⟩)
              | (go_at_call_of 16 D; refine (same_yes (by omega) (IZ.out.over (Sol.get (by assumption)).here) hih.out rfl).mono ?_; rintro e wi ⟨rfl, hb⟩))
            have T6 := Lib.hid (Sol.get (by assumption))
            go_wp2_with fail
            refine (small_any _ 3 q _ (by unfold maxLen; omega) (IZ.out.over T6.out.here)).mono ?_
            rintro e wf ⟨rfl, hbf⟩
            have T6 : Hid (Below w.heap.size w wf) := T6.out.below.trans (hbf.mono T6.out.below.size)
            have hv := HV.out.1
            have hs := HV.out.2
            go_wp2
            go_ret
            exact ⟨rfl, T6.out⟩
        · have hd : decide ((-4611686018427387904 : Int) < q) = false := decide_eq_false k1
          by_cases k2 : (-4611686018427387904 : Int) ≤ q
          · have k3 : q ≤ 4611686018427387904 := by omega
            have HV := Lib.hid (small_yes ⟨k2, k3⟩)
            go_wp2
            refine wp_region_held_drew (S := (fun w' => (w'.cell? ⟨wd.heap.size, 0, none⟩ = some (.bool zn) ∧ w'.cell? ⟨wd.heap.size, 1, none⟩ = some (.slice D j h)) ∧ Hid (Sol w (wd.alloc (.cells #[.bool zn, .slice D j h] 24)) wd.heap.size zn D j h w'))) (by kernel_rfl) (TZ.out.drew.all) (fun hHeld => ?_)
            refine wpAnyH_take (i := 0) (v := ?_) pat0 (by kernel_rfl) (by kernel_rfl) (by kernel_rfl) (fun _ _ _ h => h) (Or.inl ⟨by rfl, ?_⟩) (by assumption) ?_
            rotate_left
            · (intro w hSw; (try dsimp only at hSw); go_simp; (try with_reducible rfl))
            (try simp only [Act.put, List.setIfInBounds_toArray, List.set_cons_zero, List.set_cons_succ])
            refine wpAnyH_ready (rs := [1]) (by kernel_rfl) (by simp) ?_
            refine AllReadyH.cons pat1 (fun K hK => ?_) AllReadyH.nil
            go_simp
            (go_at_call_of 33 D; refine (refRight_int (IZ.out.over (Sol.get hHeld).here) (by unfold maxLen; omega)).mono ?_; rintro e w8 ⟨rfl, hb⟩)
            (try go_wp2_with fail)
            refine hK.out _ _ ((Sol.over hb (Sol.get hHeld)).all) (fun hHeld2 => ?_)
            clear hK K hHeld hb
            have hHeld := hHeld2
            clear hHeld2
            (try simp only [Act.put, List.setIfInBounds_toArray, List.set_cons_zero, List.set_cons_succ])
            refine wpAnyH_take (i := 2) (v := ?_) pat2 (by kernel_rfl) (by kernel_rfl) (by kernel_rfl) (fun _ _ _ h => h) (Or.inl ⟨by rfl, ?_⟩) (by assumption) ?_
            rotate_left
            · (intro w hSw; (try dsimp only at hSw); go_simp; (try with_reducible rfl))
            (try simp only [Act.put, List.setIfInBounds_toArray, List.set_cons_zero, List.set_cons_succ])
            refine wpAnyH_take (i := 3) (v := ?_) pat3 (by kernel_rfl) (by kernel_rfl) (by kernel_rfl) (fun _ _ _ h => h) (Or.inl ⟨by rfl, ?_⟩) (by assumption) ?_
            rotate_left
            · (intro w hSw; (try dsimp only at hSw); go_simp; (try with_reducible rfl))
            (try simp only [Act.put, List.setIfInBounds_toArray, List.set_cons_zero, List.set_cons_succ])
            refine wpAnyH_take (i := 4) (v := ?_) pat4 (by kernel_rfl) (by kernel_rfl) (by kernel_rfl) (fun _ _ _ h => h) (Or.inl ⟨by rfl, ?_⟩) (by assumption) ?_
            rotate_left
            · (intro w hSw; (try dsimp only at hSw); go_simp; (try with_reducible rfl))
            (try simp only [Act.put, List.setIfInBounds_toArray, List.set_cons_zero, List.set_cons_succ])
            refine wpAnyH_take (i := 5) (v := ?_) pat5 (by kernel_rfl) (by kernel_rfl) (by kernel_rfl) (fun _ _ _ h => h) (Or.inl ⟨by rfl, ?_⟩) (by assumption) ?_
            rotate_left
            · (intro w hSw; (try dsimp only at hSw); go_simp; (try with_reducible rfl))
            (try simp only [Act.put, List.setIfInBounds_toArray, List.set_cons_zero, List.set_cons_succ])
            refine wpAnyH_take (i := 6) (v := ?_) pat6 (by kernel_rfl) (by kernel_rfl) (by kernel_rfl) (fun _ _ _ h => h) (Or.inl ⟨by rfl, ?_⟩) (by assumption) ?_
            rotate_left
            · (intro w hSw; (try dsimp only at hSw); go_simp; (try with_reducible rfl))
            (try simp only [Act.put, List.setIfInBounds_toArray, List.set_cons_zero, List.set_cons_succ])
            refine wpAnyH_take (i := 7) (v := undef) pat7 (by kernel_rfl) (by kernel_rfl) (by kernel_rfl) (fun _ _ _ h => h) (Or.inr ⟨by rfl, rfl⟩) (by assumption) ?_
            (try simp only [Act.put, List.setIfInBounds_toArray, List.set_cons_zero, List.set_cons_succ])
            refine wpAnyH_take (i := 8) (v := undef) pat8 (by kernel_rfl) (by kernel_rfl) (by kernel_rfl) (fun _ _ _ h => h) (Or.inr ⟨by rfl, rfl⟩) (by assumption) ?_
            (try simp only [Act.put, List.setIfInBounds_toArray, List.set_cons_zero, List.set_cons_succ])
            refine wpAnyH_ready (rs := [9]) (by kernel_rfl) (by simp) ?_
            refine AllReadyH.cons pat9 (fun K hK => ?_) AllReadyH.nil
            refine if_unwanted rfl ?_
            refine hK.out _ _ hHeld (fun hHeld2 => ?_)
            clear hK K hHeld
            have hHeld := hHeld2
            clear hHeld2
            (try simp only [Act.put, List.setIfInBounds_toArray, List.set_cons_zero, List.set_cons_succ])
            refine wpAnyH_ready (rs := [10]) (by kernel_rfl) (by simp) ?_
            refine AllReadyH.cons pat10 (fun K hK => ?_) AllReadyH.nil
            refine if_unwanted rfl ?_
            refine hK.out _ _ hHeld (fun hHeld2 => ?_)
            clear hK K hHeld
            have hHeld := hHeld2
            clear hHeld2
            (try simp only [Act.put, List.setIfInBounds_toArray, List.set_cons_zero, List.set_cons_succ])
            refine wpAnyH_ready (rs := [11]) (by kernel_rfl) (by simp) ?_
            refine AllReadyH.cons pat11 (fun K hK => ?_) AllReadyH.nil
            refine if_unwanted rfl ?_
            refine hK.out _ _ hHeld (fun hHeld2 => ?_)
            clear hK K hHeld
            have hHeld := hHeld2
            clear hHeld2
            (try simp only [Act.put, List.setIfInBounds_toArray, List.set_cons_zero, List.set_cons_succ])
            refine wpAnyH_take (i := 12) (v := undef) pat12 (by kernel_rfl) (by kernel_rfl) (by kernel_rfl) (fun _ _ _ h => h) (Or.inr ⟨by rfl, rfl⟩) (by assumption) ?_
            (try simp only [Act.put, List.setIfInBounds_toArray, List.set_cons_zero, List.set_cons_succ])
            refine wpAnyH_take (i := 13) (v := ?_) pat13 (by kernel_rfl) (by kernel_rfl) (by kernel_rfl) (fun _ _ _ h => h) (Or.inl ⟨by rfl, ?_⟩) (by assumption) ?_
            rotate_left
            · (intro w hSw; (try dsimp only at hSw); go_simp; (try with_reducible rfl))
            (try simp only [Act.put, List.setIfInBounds_toArray, List.set_cons_zero, List.set_cons_succ])
            refine wpAnyH_take (i := 14) (v := ?_) pat14 (by kernel_rfl) (by kernel_rfl) (by kernel_rfl) (fun _ _ _ h => h) (Or.inl ⟨by rfl, ?_⟩) (by assumption) ?_
            rotate_left
            · (intro w hSw; (try dsimp only at hSw); go_simp; (try with_reducible rfl))
            (try simp only [Act.put, List.setIfInBounds_toArray, List.set_cons_zero, List.set_cons_succ])
            refine wpAnyH_done (by kernel_rfl) ?_ _
            have T6 := Lib.hid (Sol.get hHeld)
            go_wp2_with fail
            refine (small_any _ 3 q _ (by unfold maxLen; omega) (IZ.out.over T6.out.here)).mono ?_
            rintro e wf ⟨rfl, hbf⟩
            have T6 : Hid (Below w.heap.size w wf) := T6.out.below.trans (hbf.mono T6.out.below.size)
            have hv := HV.out.1
            have hs := HV.out.2
            go_wp2
            go_ret
            exact ⟨rfl, T6.out⟩
          · have HV := Lib.hid (small_no (z := q) (by omega))
            go_wp2
            refine wp_region_held_drew (S := (fun w' => (w'.cell? ⟨wd.heap.size, 0, none⟩ = some (.bool zn) ∧ w'.cell? ⟨wd.heap.size, 1, none⟩ = some (.slice D j h)) ∧ Hid (Sol w (wd.alloc (.cells #[.bool zn, .slice D j h] 24)) wd.heap.size zn D j h w'))) (by kernel_rfl) (TZ.out.drew.all) (fun hHeld => ?_)
            refine wpAnyH_take (i := 0) (v := ?_) pat0 (by kernel_rfl) (by kernel_rfl) (by kernel_rfl) (fun _ _ _ h => h) (Or.inl ⟨by rfl, ?_⟩) (by assumption) ?_
            rotate_left
            · (intro w hSw; (try dsimp only at hSw); go_simp; (try with_reducible rfl))
            (try simp only [Act.put, List.setIfInBounds_toArray, List.set_cons_zero, List.set_cons_succ])
            refine wpAnyH_ready (rs := [1]) (by kernel_rfl) (by simp) ?_
            refine AllReadyH.cons pat1 (fun K hK => ?_) AllReadyH.nil
            go_simp
            (go_at_call_of 33 D; refine (refRight_int (IZ.out.over (Sol.get hHeld).here) (by unfold maxLen; omega)).mono ?_; rintro e w8 ⟨rfl, hb⟩)
            (try go_wp2_with fail)
            refine hK.out _ _ ((Sol.over hb (Sol.get hHeld)).all) (fun hHeld2 => ?_)
            clear hK K hHeld hb
            have hHeld := hHeld2
            clear hHeld2
            (try simp only [Act.put, List.setIfInBounds_toArray, List.set_cons_zero, List.set_cons_succ])
            refine wpAnyH_take (i := 2) (v := ?_) pat2 (by kernel_rfl) (by kernel_rfl) (by kernel_rfl) (fun _ _ _ h => h) (Or.inl ⟨by rfl, ?_⟩) (by assumption) ?_
            rotate_left
            · (intro w hSw; (try dsimp only at hSw); go_simp; (try with_reducible rfl))
            (try simp only [Act.put, List.setIfInBounds_toArray, List.set_cons_zero, List.set_cons_succ])
            refine wpAnyH_take (i := 3) (v := ?_) pat3 (by kernel_rfl) (by kernel_rfl) (by kernel_rfl) (fun _ _ _ h => h) (Or.inl ⟨by rfl, ?_⟩) (by assumption) ?_
            rotate_left
            · (intro w hSw; (try dsimp only at hSw); go_simp; (try with_reducible rfl))
            (try simp only [Act.put, List.setIfInBounds_toArray, List.set_cons_zero, List.set_cons_succ])
            refine wpAnyH_take (i := 4) (v := ?_) pat4 (by kernel_rfl) (by kernel_rfl) (by kernel_rfl) (fun _ _ _ h => h) (Or.inl ⟨by rfl, ?_⟩) (by assumption) ?_
            rotate_left
            · (intro w hSw; (try dsimp only at hSw); go_simp; (try with_reducible rfl))
            (try simp only [Act.put, List.setIfInBounds_toArray, List.set_cons_zero, List.set_cons_succ])
            refine wpAnyH_take (i := 5) (v := ?_) pat5 (by kernel_rfl) (by kernel_rfl) (by kernel_rfl) (fun _ _ _ h => h) (Or.inl ⟨by rfl, ?_⟩) (by assumption) ?_
            rotate_left
            · (intro w hSw; (try dsimp only at hSw); go_simp; (try with_reducible rfl))
            (try simp only [Act.put, List.setIfInBounds_toArray, List.set_cons_zero, List.set_cons_succ])
            refine wpAnyH_take (i := 6) (v := ?_) pat6 (by kernel_rfl) (by kernel_rfl) (by kernel_rfl) (fun _ _ _ h => h) (Or.inl ⟨by rfl, ?_⟩) (by assumption) ?_
            rotate_left
            · (intro w hSw; (try dsimp only at hSw); go_simp; (try with_reducible rfl))
            (try simp only [Act.put, List.setIfInBounds_toArray, List.set_cons_zero, List.set_cons_succ])
            refine wpAnyH_take (i := 7) (v := undef) pat7 (by kernel_rfl) (by kernel_rfl) (by kernel_rfl) (fun _ _ _ h => h) (Or.inr ⟨by rfl, rfl⟩) (by assumption) ?_
            (try simp only [Act.put, List.setIfInBounds_toArray, List.set_cons_zero, List.set_cons_succ])
            refine wpAnyH_take (i := 8) (v := undef) pat8 (by kernel_rfl) (by kernel_rfl) (by kernel_rfl) (fun _ _ _ h => h) (Or.inr ⟨by rfl, rfl⟩) (by assumption) ?_
            (try simp only [Act.put, List.setIfInBounds_toArray, List.set_cons_zero, List.set_cons_succ])
            refine wpAnyH_ready (rs := [9]) (by kernel_rfl) (by simp) ?_
            refine AllReadyH.cons pat9 (fun K hK => ?_) AllReadyH.nil
            refine if_unwanted rfl ?_
            refine hK.out _ _ hHeld (fun hHeld2 => ?_)
            clear hK K hHeld
            have hHeld := hHeld2
            clear hHeld2
            (try simp only [Act.put, List.setIfInBounds_toArray, List.set_cons_zero, List.set_cons_succ])
            refine wpAnyH_ready (rs := [10]) (by kernel_rfl) (by simp) ?_
            refine AllReadyH.cons pat10 (fun K hK => ?_) AllReadyH.nil
            refine if_unwanted rfl ?_
            refine hK.out _ _ hHeld (fun hHeld2 => ?_)
            clear hK K hHeld
            have hHeld := hHeld2
            clear hHeld2
            (try simp only [Act.put, List.setIfInBounds_toArray, List.set_cons_zero, List.set_cons_succ])
            refine wpAnyH_ready (rs := [11]) (by kernel_rfl) (by simp) ?_
            refine AllReadyH.cons pat11 (fun K hK => ?_) AllReadyH.nil
            refine if_unwanted rfl ?_
            refine hK.out _ _ hHeld (fun hHeld2 => ?_)
            clear hK K hHeld
            have hHeld := hHeld2
            clear hHeld2
            (try simp only [Act.put, List.setIfInBounds_toArray, List.set_cons_zero, List.set_cons_succ])
            refine wpAnyH_take (i := 12) (v := undef) pat12 (by kernel_rfl) (by kernel_rfl) (by kernel_rfl) (fun _ _ _ h => h) (Or.inr ⟨by rfl, rfl⟩) (by assumption) ?_
            (try simp only [Act.put, List.setIfInBounds_toArray, List.set_cons_zero, List.set_cons_succ])
            refine wpAnyH_take (i := 13) (v := ?_) pat13 (by kernel_rfl) (by kernel_rfl) (by kernel_rfl) (fun _ _ _ h => h) (Or.inl ⟨by rfl, ?_⟩) (by assumption) ?_
            rotate_left
            · (intro w hSw; (try dsimp only at hSw); go_simp; (try with_reducible rfl))
            (try simp only [Act.put, List.setIfInBounds_toArray, List.set_cons_zero, List.set_cons_succ])
            refine wpAnyH_take (i := 14) (v := ?_) pat14 (by kernel_rfl) (by kernel_rfl) (by kernel_rfl) (fun _ _ _ h => h) (Or.inl ⟨by rfl, ?_⟩) (by assumption) ?_
            rotate_left
            · (intro w hSw; (try dsimp only at hSw); go_simp; (try with_reducible rfl))
            (try simp only [Act.put, List.setIfInBounds_toArray, List.set_cons_zero, List.set_cons_succ])
            refine wpAnyH_done (by kernel_rfl) ?_ _
            have T6 := Lib.hid (Sol.get hHeld)
            go_wp2_with fail
            refine (small_any _ 3 q _ (by unfold maxLen; omega) (IZ.out.over T6.out.here)).mono ?_
            rintro e wf ⟨rfl, hbf⟩
            have T6 : Hid (Below w.heap.size w wf) := T6.out.below.trans (hbf.mono T6.out.below.size)
            have hv := HV.out.1
            have hs := HV.out.2
            go_wp2
            go_ret
            exact ⟨rfl, T6.out⟩
      | false =>
        have HZ0 : Hid (zOf s.data.toList = 0) := by show zOf _ = 0; unfold zOf; rw [hok]; rfl
        clear hok hiw hiy hb2 hb3 hay haw hy3 T1
        have A4 := T4.out.all.1
        go_wp2
        refine wp_region_held_drew (S := (fun w' => (w'.cell? ⟨w.heap.size, 0, none⟩ = some (.bool nx) ∧ w'.cell? ⟨w.heap.size, 1, none⟩ = some (.slice A xs.length c) ∧ w'.cell? ⟨w2.heap.size, 0, none⟩ = some (.bool yn) ∧ w'.cell? ⟨w2.heap.size, 1, none⟩ = some (.slice B m d) ∧ w'.cell? ⟨w3.heap.size, 0, none⟩ = some (.bool wn) ∧ w'.cell? ⟨w3.heap.size, 1, none⟩ = some (.slice C k f)) ∧ Hid (Quad w (w3.alloc (.cells #[.bool wn, .slice C k f] 29)) w.heap.size nx A xs.length c w2.heap.size yn B m d w3.heap.size wn C k f w'))) (by kernel_rfl) (T4.out.drew.all) (fun hHeld => ?_)
        refine wpAnyH_take (i := 0) (v := ?_) pat0 (by kernel_rfl) (by kernel_rfl) (by kernel_rfl) (fun _ _ _ h => h) (Or.inl ⟨by rfl, ?_⟩) (by assumption) ?_
        rotate_left
        · (intro w hSw; (try dsimp only at hSw); go_simp; (try with_reducible rfl))
        (try simp only [Act.put, List.setIfInBounds_toArray, List.set_cons_zero, List.set_cons_succ])
        refine wpAnyH_take (i := 1) (v := ?_) pat1 (by kernel_rfl) (by kernel_rfl) (by kernel_rfl) (fun _ _ _ h => h) (Or.inl ⟨by rfl, ?_⟩) (by assumption) ?_
        rotate_left
        · (intro w hSw; (try dsimp only at hSw); go_simp; (try with_reducible rfl))
        (try simp only [Act.put, List.setIfInBounds_toArray, List.set_cons_zero, List.set_cons_succ])
        refine wpAnyH_take (i := 2) (v := ?_) pat2 (by kernel_rfl) (by kernel_rfl) (by kernel_rfl) (fun _ _ _ h => h) (Or.inl ⟨by rfl, ?_⟩) (by assumption) ?_
        rotate_left
        · (intro w hSw; (try dsimp only at hSw); go_simp; (try with_reducible rfl))
        (try simp only [Act.put, List.setIfInBounds_toArray, List.set_cons_zero, List.set_cons_succ])
        refine wpAnyH_take (i := 3) (v := ?_) pat3 (by kernel_rfl) (by kernel_rfl) (by kernel_rfl) (fun _ _ _ h => h) (Or.inl ⟨by rfl, ?_⟩) (by assumption) ?_
        rotate_left
        · (intro w hSw; (try dsimp only at hSw); go_simp; (try with_reducible rfl))
        (try simp only [Act.put, List.setIfInBounds_toArray, List.set_cons_zero, List.set_cons_succ])
        refine wpAnyH_take (i := 4) (v := ?_) pat4 (by kernel_rfl) (by kernel_rfl) (by kernel_rfl) (fun _ _ _ h => h) (Or.inl ⟨by rfl, ?_⟩) (by assumption) ?_
        rotate_left
        · (intro w hSw; (try dsimp only at hSw); go_simp; (try with_reducible rfl))
        (try simp only [Act.put, List.setIfInBounds_toArray, List.set_cons_zero, List.set_cons_succ])
        refine wpAnyH_take (i := 5) (v := ?_) pat5 (by kernel_rfl) (by kernel_rfl) (by kernel_rfl) (fun _ _ _ h => h) (Or.inl ⟨by rfl, ?_⟩) (by assumption) ?_
        rotate_left
        · (intro w hSw; (try dsimp only at hSw); go_simp; (try with_reducible rfl))
        (try simp only [Act.put, List.setIfInBounds_toArray, List.set_cons_zero, List.set_cons_succ])
        refine wpAnyH_take (i := 6) (v := undef) pat6 (by kernel_rfl) (by kernel_rfl) (by kernel_rfl) (fun _ _ _ h => h) (Or.inr ⟨by rfl, rfl⟩) (by assumption) ?_
        (try simp only [Act.put, List.setIfInBounds_toArray, List.set_cons_zero, List.set_cons_succ])
        refine wpAnyH_take (i := 7) (v := undef) pat7 (by kernel_rfl) (by kernel_rfl) (by kernel_rfl) (fun _ _ _ h => h) (Or.inr ⟨by rfl, rfl⟩) (by assumption) ?_
        (try simp only [Act.put, List.setIfInBounds_toArray, List.set_cons_zero, List.set_cons_succ])
        refine wpAnyH_ready (rs := [8]) (by kernel_rfl) (by simp) ?_
        refine AllReadyH.cons pat8 (fun K hK => ?_) AllReadyH.nil
        refine if_unwanted rfl ?_
        refine hK.out _ _ hHeld (fun hHeld2 => ?_)
        clear hK K hHeld
        have hHeld := hHeld2
        clear hHeld2
        (try simp only [Act.put, List.setIfInBounds_toArray, List.set_cons_zero, List.set_cons_succ])
        refine wpAnyH_ready (rs := [9]) (by kernel_rfl) (by simp) ?_
        refine AllReadyH.cons pat9 (fun K hK => ?_) AllReadyH.nil
        refine if_unwanted rfl ?_
        refine hK.out _ _ hHeld (fun hHeld2 => ?_)
        clear hK K hHeld
        have hHeld := hHeld2
        clear hHeld2
        (try simp only [Act.put, List.setIfInBounds_toArray, List.set_cons_zero, List.set_cons_succ])
        refine wpAnyH_take (i := 10) (v := undef) pat10 (by kernel_rfl) (by kernel_rfl) (by kernel_rfl) (fun _ _ _ h => h) (Or.inr ⟨by rfl, rfl⟩) (by assumption) ?_
        (try simp only [Act.put, List.setIfInBounds_toArray, List.set_cons_zero, List.set_cons_succ])
        refine wpAnyH_take (i := 11) (v := ?_) pat11 (by kernel_rfl) (by kernel_rfl) (by kernel_rfl) (fun _ _ _ h => h) (Or.inl ⟨by rfl, ?_⟩) (by assumption) ?_
        rotate_left
        · (intro w hSw; (try dsimp only at hSw); go_simp; (try with_reducible rfl))
        (try simp only [Act.put, List.setIfInBounds_toArray, List.set_cons_zero, List.set_cons_succ])
        refine wpAnyH_take (i := 12) (v := ?_) pat12 (by kernel_rfl) (by kernel_rfl) (by kernel_rfl) (fun _ _ _ h => h) (Or.inl ⟨by rfl, ?_⟩) (by assumption) ?_
        rotate_left
        · (intro w hSw; (try dsimp only at hSw); go_simp; (try with_reducible rfl))
        (try simp only [Act.put, List.setIfInBounds_toArray, List.set_cons_zero, List.set_cons_succ])
        refine wpAnyH_take (i := 13) (v := ?_) pat13 (by kernel_rfl) (by kernel_rfl) (by kernel_rfl) (fun _ _ _ h => h) (Or.inl ⟨by rfl, ?_⟩) (by assumption) ?_
        rotate_left
        · (intro w hSw; (try dsimp only at hSw); go_simp; (try with_reducible rfl))
        (try simp only [Act.put, List.setIfInBounds_toArray, List.set_cons_zero, List.set_cons_succ])
        refine wpAnyH_take (i := 14) (v := ?_) pat14 (by kernel_rfl) (by kernel_rfl) (by kernel_rfl) (fun _ _ _ h => h) (Or.inl ⟨by rfl, ?_⟩) (by assumption) ?_
        rotate_left
        · (intro w hSw; (try dsimp only at hSw); go_simp; (try with_reducible rfl))
        (try simp only [Act.put, List.setIfInBounds_toArray, List.set_cons_zero, List.set_cons_succ])
        refine wpAnyH_take (i := 15) (v := ?_) pat15 (by kernel_rfl) (by kernel_rfl) (by kernel_rfl) (fun _ _ _ h => h) (Or.inl ⟨by rfl, ?_⟩) (by assumption) ?_
        rotate_left
        · (intro w hSw; (try dsimp only at hSw); go_simp; (try with_reducible rfl))
        (try simp only [Act.put, List.setIfInBounds_toArray, List.set_cons_zero, List.set_cons_succ])
        refine wpAnyH_take (i := 16) (v := ?_) pat16 (by kernel_rfl) (by kernel_rfl) (by kernel_rfl) (fun _ _ _ h => h) (Or.inl ⟨by rfl, ?_⟩) (by assumption) ?_
        rotate_left
        · (intro w hSw; (try dsimp only at hSw); go_simp; (try with_reducible rfl))
        (try simp only [Act.put, List.setIfInBounds_toArray, List.set_cons_zero, List.set_cons_succ])
        refine wpAnyH_take (i := 17) (v := ?_) pat17 (by kernel_rfl) (by kernel_rfl) (by kernel_rfl) (fun _ _ _ h => h) (Or.inl ⟨by rfl, ?_⟩) (by assumption) ?_
        rotate_left
        · (intro w hSw; (try dsimp only at hSw); go_simp; (try with_reducible rfl))
        (try simp only [Act.put, List.setIfInBounds_toArray, List.set_cons_zero, List.set_cons_succ])
        refine wpAnyH_take (i := 18) (v := ?_) pat18 (by kernel_rfl) (by kernel_rfl) (by kernel_rfl) (fun _ _ _ h => h) (Or.inl ⟨by rfl, ?_⟩) (by assumption) ?_
        rotate_left
        · (intro w hSw; (try dsimp only at hSw); go_simp; (try with_reducible rfl))
        (try simp only [Act.put, List.setIfInBounds_toArray, List.set_cons_zero, List.set_cons_succ])
        refine wpAnyH_ready (rs := [19]) (by kernel_rfl) (by simp) ?_
        refine AllReadyH.cons pat19 (fun K hK => ?_) AllReadyH.nil
        go_simp
        (go_at_call_of 16 B; refine (same_yes (q := 0) (b := 0) (by omega) (IY.out.over (Quad.get hHeld).here) (isInt_zero _ _ _) HZ0.out).mono ?_; rintro e w6 ⟨rfl, hb⟩)
        (try go_wp2_with fail)
        refine hK.out _ _ ((Quad.over hb (Quad.get hHeld)).all) (fun hHeld2 => ?_)
        clear hK K hHeld hb
        have hHeld := hHeld2
        clear hHeld2
        (try simp only [Act.put, List.setIfInBounds_toArray, List.set_cons_zero, List.set_cons_succ])
        refine wpAnyH_take (i := 20) (v := ?_) pat20 (by kernel_rfl) (by kernel_rfl) (by kernel_rfl) (fun _ _ _ h => h) (Or.inl ⟨by rfl, ?_⟩) (by assumption) ?_
        rotate_left
        · (intro w hSw; (try dsimp only at hSw); go_simp; (try with_reducible rfl))
        (try simp only [Act.put, List.setIfInBounds_toArray, List.set_cons_zero, List.set_cons_succ])
        refine wpAnyH_take (i := 21) (v := ?_) pat21 (by kernel_rfl) (by kernel_rfl) (by kernel_rfl) (fun _ _ _ h => h) (Or.inl ⟨by rfl, ?_⟩) (by assumption) ?_
        rotate_left
        · (intro w hSw; (try dsimp only at hSw); go_simp; (try with_reducible rfl))
        (try simp only [Act.put, List.setIfInBounds_toArray, List.set_cons_zero, List.set_cons_succ])
        refine wpAnyH_take (i := 22) (v := ?_) pat22 (by kernel_rfl) (by kernel_rfl) (by kernel_rfl) (fun _ _ _ h => h) (Or.inl ⟨by rfl, ?_⟩) (by assumption) ?_
        rotate_left
        · (intro w hSw; (try dsimp only at hSw); go_simp; (try with_reducible rfl))
        (try simp only [Act.put, List.setIfInBounds_toArray, List.set_cons_zero, List.set_cons_succ])
        refine wpAnyH_take (i := 23) (v := ?_) pat23 (by kernel_rfl) (by kernel_rfl) (by kernel_rfl) (fun _ _ _ h => h) (Or.inl ⟨by rfl, ?_⟩) (by assumption) ?_
        rotate_left
        · (intro w hSw; (try dsimp only at hSw); go_simp; (try with_reducible rfl))
        (try simp only [Act.put, List.setIfInBounds_toArray, List.set_cons_zero, List.set_cons_succ])
        refine wpAnyH_take (i := 24) (v := ?_) pat24 (by kernel_rfl) (by kernel_rfl) (by kernel_rfl) (fun _ _ _ h => h) (Or.inl ⟨by rfl, ?_⟩) (by assumption) ?_
        rotate_left
        · (intro w hSw; (try dsimp only at hSw); go_simp; (try with_reducible rfl))
        (try simp only [Act.put, List.setIfInBounds_toArray, List.set_cons_zero, List.set_cons_succ])
        refine wpAnyH_take (i := 26) (v := ?_) pat26 (by kernel_rfl) (by kernel_rfl) (by kernel_rfl) (fun _ _ _ h => h) (Or.inl ⟨by rfl, ?_⟩) (by assumption) ?_
        rotate_left
        · (intro w hSw; (try dsimp only at hSw); go_simp; (try with_reducible rfl))
        (try simp only [Act.put, List.setIfInBounds_toArray, List.set_cons_zero, List.set_cons_succ])
        refine wpAnyH_ready (rs := [25]) (by kernel_rfl) (by simp) ?_
        refine AllReadyH.cons pat25 (fun K hK => ?_) AllReadyH.nil
        go_simp
        (go_at_call_of 32 A; refine (right_el EX.out (Quad.get hHeld).below).mono ?_; rintro e w7 ⟨rfl, hb⟩)
        (try go_wp2_with fail)
        refine hK.out _ _ ((Quad.over hb (Quad.get hHeld)).all) (fun hHeld2 => ?_)
        clear hK K hHeld hb
        have hHeld := hHeld2
        clear hHeld2
        (try simp only [Act.put, List.setIfInBounds_toArray, List.set_cons_zero, List.set_cons_succ])
        refine wpAnyH_ready (rs := [27]) (by kernel_rfl) (by simp) ?_
        refine AllReadyH.cons pat27 (fun K hK => ?_) AllReadyH.nil
        go_simp
        (go_at_call_of 33 A; refine (refRight_el EX.out (Quad.get hHeld).below).mono ?_; rintro e w8 ⟨rfl, hb⟩)
        (try go_wp2_with fail)
        refine hK.out _ _ ((Quad.over hb (Quad.get hHeld)).all) (fun hHeld2 => ?_)
        clear hK K hHeld hb
        have hHeld := hHeld2
        clear hHeld2
        (try simp only [Act.put, List.setIfInBounds_toArray, List.set_cons_zero, List.set_cons_succ])
        refine wpAnyH_take (i := 28) (v := ?_) pat28 (by kernel_rfl) (by kernel_rfl) (by kernel_rfl) (fun _ _ _ h => h) (Or.inl ⟨by rfl, ?_⟩) (by assumption) ?_
        rotate_left
        · (intro w hSw; (try dsimp only at hSw); go_simp; (try with_reducible rfl))
        (try simp only [Act.put, List.setIfInBounds_toArray, List.set_cons_zero, List.set_cons_succ])
        refine wpAnyH_take (i := 29) (v := ?_) pat29 (by kernel_rfl) (by kernel_rfl) (by kernel_rfl) (fun _ _ _ h => h) (Or.inl ⟨by rfl, ?_⟩) (by assumption) ?_
        rotate_left
        · (intro w hSw; (try dsimp only at hSw); go_simp; (try with_reducible rfl))
        (try simp only [Act.put, List.setIfInBounds_toArray, List.set_cons_zero, List.set_cons_succ])
        refine wpAnyH_done (by kernel_rfl) ?_ _
        have T5 := Lib.hid (Quad.get hHeld).below
        clear T4 IY
        go_wp2_with fail
        refine (of_any q _ HQ.out.1 HQ.out.2).mono ?_
        rintro e wd ⟨vd, rfl, hid, hbd⟩
        obtain ⟨zn, D, j, h, zs, rfl, hj, _, _⟩ := hid.cells
        have TZ : Hid (Sol w (wd.alloc (.cells #[.bool zn, .slice D j h] 24)) wd.heap.size zn D j h (wd.alloc (.cells #[.bool zn, .slice D j h] 24))) :=
          ⟨(T5.out.trans (hbd.mono T5.out.size)).alloc (by have := T5.out.size; have := hbd.size; omega) _, Below.refl _ _, Box.new _ _ _ _ _⟩
        have IZ : Hid (IsInt (wd.alloc (.cells #[.bool zn, .slice D j h] 24)) (wd.alloc (.cells #[.bool zn, .slice D j h] 24)).heap.size 3 (.agg #[.bool zn, .slice D j h]) q) := hid.over ((Below.refl _ _).alloc (Nat.le_refl _) _)
        clear hid hbd T5
        by_cases k1 : (-4611686018427387904 : Int) < q
        · have hd : decide ((-4611686018427387904 : Int) < q) = true := decide_eq_true k1
          by_cases k3 : q ≤ 4611686018427387904
          · have k2 : (-4611686018427387904 : Int) ≤ q := by omega
            have HV := Lib.hid (small_yes ⟨k2, k3⟩)
            go_wp2
            go_region_held3 (fun w' => (w'.cell? ⟨wd.heap.size, 0, none⟩ = some (.bool zn) ∧ w'.cell? ⟨wd.heap.size, 1, none⟩ = some (.slice D j h)) ∧ Hid (Sol w (wd.alloc (.cells #[.bool zn, .slice D j h] 24)) wd.heap.size zn D j h w'))
              (first | (with_reducible exact TZ.out.drew.all) | (with_reducible exact (Sol.over hb (Sol.get (by assumption))).all))
            (first
              | (go_at_call_of 33 D; refine (refRight_int (IZ.out.over (Sol.get (by assumption)).here) (by unfold maxLen; omega)).mono ?_; rintro e w8 ⟨rfl, hb⟩)
              | (go_at_call_of 35 q; refine (int_any q _ (by omega) (by have := HQ.out.2; omega)).mono ?_; rintro e wg ⟨xg, Ag, ng, cg, rfl, hig, hb⟩)
              | (go_at_call_of 18 Ag; refine (form_any (m := 25) (by omega) hig.out).mono ?_; rintro e wh ⟨xh, Ah, nh, ch, rfl, hih, hb⟩)
              | (go_at_call_of 16 D; refine (same_yes (by omega) (IZ.out.over (Sol.get (by assumption)).here) hih.out rfl).mono ?_; rintro e wi ⟨rfl, hb⟩))
            have T6 := Lib.hid (Sol.get (by assumption))
            go_wp2_with fail
            refine (small_any _ 3 q _ (by unfold maxLen; omega) (IZ.out.over T6.out.here)).mono ?_
            rintro e wf ⟨rfl, hbf⟩
            have T6 : Hid (Below w.heap.size w wf) := T6.out.below.trans (hbf.mono T6.out.below.size)
            have hv := HV.out.1
            have hs := HV.out.2
            go_wp2
            go_ret
            exact ⟨rfl, T6.out⟩
          · have hd3 : decide (q ≤ 4611686018427387904) = false := decide_eq_false k3
            have k2 : (-4611686018427387904 : Int) ≤ q := by omega
            have HV := Lib.hid (small_no (z := q) (by omega))
            go_wp2
            go_region_held3 (fun w' => (w'.cell? ⟨wd.heap.size, 0, none⟩ = some (.bool zn) ∧ w'.cell? ⟨wd.heap.size, 1, none⟩ = some (.slice D j h)) ∧ Hid (Sol w (wd.alloc (.cells #[.bool zn, .slice D j h] 24)) wd.heap.size zn D j h w'))
              (first | (with_reducible exact TZ.out.drew.all) | (with_reducible exact (Sol.over hb (Sol.get (by assumption))).all))
            (first
              | (go_at_call_of 33 D; refine (refRight_int (IZ.out.over (Sol.get (by assumption)).here) (by unfold maxLen; omega)).mono ?_; rintro e w8 ⟨rfl, hb⟩)
              | (go_at_call_of 35 q; refine (int_any q _ (by omega) (by have := HQ.out.2; omega)).mono ?_; rintro e wg ⟨xg, Ag, ng, cg, rfl, hig, hb⟩)
              | (go_at_call_of 18 Ag; refine (form_any (m := 25) (by omega) hig.out).mono ?_; rintro e wh ⟨xh, Ah, nh, ch, rfl, hih, hb⟩)
              | (go_at_call_of 16 D; refine (same_yes (by omega) (IZ.out.over (Sol.get (by assumption)).here) hih.out rfl).mono ?_; rintro e wi ⟨rfl, hb⟩))
            have T6 := Lib.hid (Sol.get (by assumption))
            go_wp2_with fail
            refine (small_any _ 3 q _ (by unfold maxLen; omega) (IZ.out.over T6.out.here)).mono ?_
            rintro e wf ⟨rfl, hbf⟩
            have T6 : Hid (Below w.heap.size w wf) := T6.out.below.trans (hbf.mono T6.out.below.size)
            have hv := HV.out.1
            have hs := HV.out.2
            go_wp2
            go_ret
            exact ⟨rfl, T6.out⟩
        · have hd : decide ((-4611686018427387904 : Int) < q) = false := decide_eq_false k1
          by_cases k2 : (-4611686018427387904 : Int) ≤ q
          · have k3 : q ≤ 4611686018427387904 := by omega
            have HV := Lib.hid (small_yes ⟨k2, k3⟩)
            go_wp2
            refine wp_region_held_drew (S := (fun w' => (w'.cell? ⟨wd.heap.size, 0, none⟩ = some (.bool zn) ∧ w'.cell? ⟨wd.heap.size, 1, none⟩ = some (.slice D j h)) ∧ Hid (Sol w (wd.alloc (.cells #[.bool zn, .slice D j h] 24)) wd.heap.size zn D j h w'))) (by kernel_rfl) (TZ.out.drew.all) (fun hHeld => ?_)
            refine wpAnyH_take (i := 0) (v := ?_) pat0 (by kernel_rfl) (by kernel_rfl) (by kernel_rfl) (fun _ _ _ h => h) (Or.inl ⟨by rfl, ?_⟩) (by assumption) ?_
            rotate_left
            · (intro w hSw; (try dsimp only at hSw); go_simp; (try with_reducible rfl))
            (try simp only [Act.put, List.setIfInBounds_toArray, List.set_cons_zero, List.set_cons_succ])
            refine wpAnyH_ready (rs := [1]) (by kernel_rfl) (by simp) ?_
            refine AllReadyH.cons pat1 (fun K hK => ?_) AllReadyH.nil
            go_simp
            (go_at_call_of 33 D; refine (refRight_int (IZ.out.over (Sol.get hHeld).here) (by unfold maxLen; omega)).mono ?_; rintro e w8 ⟨rfl, hb⟩)
            (try go_wp2_with fail)
            refine hK.out _ _ ((Sol.over hb (Sol.get hHeld)).all) (fun hHeld2 => ?_)
            clear hK K hHeld hb
            have hHeld := hHeld2
            clear hHeld2
            (try simp only [Act.put, List.setIfInBounds_toArray, List.set_cons_zero, List.set_cons_succ])
            refine wpAnyH_take (i := 2) (v := ?_) pat2 (by kernel_rfl) (by kernel_rfl) (by kernel_rfl) (fun _ _ _ h => h) (Or.inl ⟨by rfl, ?_⟩) (by assumption) ?_
            rotate_left
            · (intro w hSw; (try dsimp only at hSw); go_simp; (try with_reducible rfl))
            (try simp only [Act.put, List.setIfInBounds_toArray, List.set_cons_zero, List.set_cons_succ])
            refine wpAnyH_take (i := 3) (v := ?_) pat3 (by kernel_rfl) (by kernel_rfl) (by kernel_rfl) (fun _ _ _ h => h) (Or.inl ⟨by rfl, ?_⟩) (by assumption) ?_
            rotate_left
            · (intro w hSw; (try dsimp only at hSw); go_simp; (try with_reducible rfl))
            (try simp only [Act.put, List.setIfInBounds_toArray, List.set_cons_zero, List.set_cons_succ])
            refine wpAnyH_take (i := 4) (v := ?_) pat4 (by kernel_rfl) (by kernel_rfl) (by kernel_rfl) (fun _ _ _ h => h) (Or.inl ⟨by rfl, ?_⟩) (by assumption) ?_
            rotate_left
            · (intro w hSw; (try dsimp only at hSw); go_simp; (try with_reducible rfl))
            (try simp only [Act.put, List.setIfInBounds_toArray, List.set_cons_zero, List.set_cons_succ])
            refine wpAnyH_take (i := 5) (v := ?_) pat5 (by kernel_rfl) (by kernel_rfl) (by kernel_rfl) (fun _ _ _ h => h) (Or.inl ⟨by rfl, ?_⟩) (by assumption) ?_
            rotate_left
            · (intro w hSw; (try dsimp only at hSw); go_simp; (try with_reducible rfl))
            (try simp only [Act.put, List.setIfInBounds_toArray, List.set_cons_zero, List.set_cons_succ])
            refine wpAnyH_take (i := 6) (v := ?_) pat6 (by kernel_rfl) (by kernel_rfl) (by kernel_rfl) (fun _ _ _ h => h) (Or.inl ⟨by rfl, ?_⟩) (by assumption) ?_
            rotate_left
            · (intro w hSw; (try dsimp only at hSw); go_simp; (try with_reducible rfl))
            (try simp only [Act.put, List.setIfInBounds_toArray, List.set_cons_zero, List.set_cons_succ])
            refine wpAnyH_take (i := 7) (v := undef) pat7 (by kernel_rfl) (by kernel_rfl) (by kernel_rfl) (fun _ _ _ h => h) (Or.inr ⟨by rfl, rfl⟩) (by assumption) ?_
            (try simp only [Act.put, List.setIfInBounds_toArray, List.set_cons_zero, List.set_cons_succ])
            refine wpAnyH_take (i := 8) (v := undef) pat8 (by kernel_rfl) (by kernel_rfl) (by kernel_rfl) (fun _ _ _ h => h) (Or.inr ⟨by rfl, rfl⟩) (by assumption) ?_
            (try simp only [Act.put, List.setIfInBounds_toArray, List.set_cons_zero, List.set_cons_succ])
            refine wpAnyH_ready (rs := [9]) (by kernel_rfl) (by simp) ?_
            refine AllReadyH.cons pat9 (fun K hK => ?_) AllReadyH.nil
            refine if_unwanted rfl ?_
            refine hK.out _ _ hHeld (fun hHeld2 => ?_)
            clear hK K hHeld
            have hHeld := hHeld2
            clear hHeld2
            (try simp only [Act.put, List.setIfInBounds_toArray, List.set_cons_zero, List.set_cons_succ])
            refine wpAnyH_ready (rs := [10]) (by kernel_rfl) (by simp) ?_
            refine AllReadyH.cons pat10 (fun K hK => ?_) AllReadyH.nil
            refine if_unwanted rfl ?_
            refine hK.out _ _ hHeld (fun hHeld2 => ?_)
            clear hK K hHeld
            have hHeld := hHeld2
            clear hHeld2
            (try simp only [Act.put, List.setIfInBounds_toArray, List.set_cons_zero, List.set_cons_succ])
            refine wpAnyH_ready (rs := [11]) (by kernel_rfl) (by simp) ?_
            refine AllReadyH.cons pat11 (fun K hK => ?_) AllReadyH.nil
            refine if_unwanted rfl ?_
            refine hK.out _ _ hHeld (fun hHeld2 => ?_)
            clear hK K hHeld
            have hHeld := hHeld2
            clear hHeld2
            (try simp only [Act.put, List.setIfInBounds_toArray, List.set_cons_zero, List.set_cons_succ])
            refine wpAnyH_take (i := 12) (v := undef) pat12 (by kernel_rfl) (by kernel_rfl) (by kernel_rfl) (fun _ _ _ h => h) (Or.inr ⟨by rfl, rfl⟩) (by assumption) ?_
            (try simp only [Act.put, List.setIfInBounds_toArray, List.set_cons_zero, List.set_cons_succ])
            refine wpAnyH_take (i := 13) (v := ?_) pat13 (by kernel_rfl) (by kernel_rfl) (by kernel_rfl) (fun _ _ _ h => h) (Or.inl ⟨by rfl, ?_⟩) (by assumption) ?_
            rotate_left
            · (intro w hSw; (try dsimp only at hSw); go_simp; (try with_reducible rfl))
            (try simp only [Act.put, List.setIfInBounds_toArray, List.set_cons_zero, List.set_cons_succ])
            refine wpAnyH_take (i := 14) (v := ?_) pat14 (by kernel_rfl) (by kernel_rfl) (by kernel_rfl) (fun _ _ _ h => h) (Or.inl ⟨by rfl, ?_⟩) (by assumption) ?_
            rotate_left
            · (intro w hSw; (try dsimp only at hSw); go_simp; (try with_reducible rfl))
            (try simp only [Act.put, List.setIfInBounds_toArray, List.set_cons_zero, List.set_cons_succ])
            refine wpAnyH_done (by kernel_rfl) ?_ _
            have T6 := Lib.hid (Sol.get hHeld)
            go_wp2_with fail
            refine (small_any _ 3 q _ (by unfold maxLen; omega) (IZ.out.over T6.out.here)).mono ?_
            rintro e wf ⟨rfl, hbf⟩
            have T6 : Hid (Below w.heap.size w wf) := T6.out.below.trans (hbf.mono T6.out.below.size)
            have hv := HV.out.1
            have hs := HV.out.2
            go_wp2
            go_ret
            exact ⟨rfl, T6.out⟩
          · have HV := Lib.hid (small_no (z := q) (by omega))
            go_wp2
            refine wp_region_held_drew (S := (fun w' => (w'.cell? ⟨wd.heap.size, 0, none⟩ = some (.bool zn) ∧ w'.cell? ⟨wd.heap.size, 1, none⟩ = some (.slice D j h)) ∧ Hid (Sol w (wd.alloc (.cells #[.bool zn, .slice D j h] 24)) wd.heap.size zn D j h w'))) (by kernel_rfl) (TZ.out.drew.all) (fun hHeld => ?_)
            refine wpAnyH_take (i := 0) (v := ?_) pat0 (by kernel_rfl) (by kernel_rfl) (by kernel_rfl) (fun _ _ _ h => h) (Or.inl ⟨by rfl, ?_⟩) (by assumption) ?_
            rotate_left
            · (intro w hSw; (try dsimp only at hSw); go_simp; (try with_reducible rfl))
            (try simp only [Act.put, List.setIfInBounds_toArray, List.set_cons_zero, List.set_cons_succ])
            refine wpAnyH_ready (rs := [1]) (by kernel_rfl) (by simp) ?_
            refine AllReadyH.cons pat1 (fun K hK => ?_) AllReadyH.nil
            go_simp
            (go_at_call_of 33 D; refine (refRight_int (IZ.out.over (Sol.get hHeld).here) (by unfold maxLen; omega)).mono ?_; rintro e w8 ⟨rfl, hb⟩)
            (try go_wp2_with fail)
            refine hK.out _ _ ((Sol.over hb (Sol.get hHeld)).all) (fun hHeld2 => ?_)
            clear hK K hHeld hb
            have hHeld := hHeld2
            clear hHeld2
            (try simp only [Act.put, List.setIfInBounds_toArray, List.set_cons_zero, List.set_cons_succ])
            refine wpAnyH_take (i := 2) (v := ?_) pat2 (by kernel_rfl) (by kernel_rfl) (by kernel_rfl) (fun _ _ _ h => h) (Or.inl ⟨by rfl, ?_⟩) (by assumption) ?_
            rotate_left
            · (intro w hSw; (try dsimp only at hSw); go_simp; (try with_reducible rfl))
            (try simp only [Act.put, List.setIfInBounds_toArray, List.set_cons_zero, List.set_cons_succ])
            refine wpAnyH_take (i := 3) (v := ?_) pat3 (by kernel_rfl) (by kernel_rfl) (by kernel_rfl) (fun _ _ _ h => h) (Or.inl ⟨by rfl, ?_⟩) (by assumption) ?_
            rotate_left
            · (intro w hSw; (try dsimp only at hSw); go_simp; (try with_reducible rfl))
            (try simp only [Act.put, List.setIfInBounds_toArray, List.set_cons_zero, List.set_cons_succ])
            refine wpAnyH_take (i := 4) (v := ?_) pat4 (by kernel_rfl) (by kernel_rfl) (by kernel_rfl) (fun _ _ _ h => h) (Or.inl ⟨by rfl, ?_⟩) (by assumption) ?_
            rotate_left
            · (intro w hSw; (try dsimp only at hSw); go_simp; (try with_reducible rfl))
            (try simp only [Act.put, List.setIfInBounds_toArray, List.set_cons_zero, List.set_cons_succ])
            refine wpAnyH_take (i := 5) (v := ?_) pat5 (by kernel_rfl) (by kernel_rfl) (by kernel_rfl) (fun _ _ _ h => h) (Or.inl ⟨by rfl, ?_⟩) (by assumption) ?_
            rotate_left
            · (intro w hSw; (try dsimp only at hSw); go_simp; (try with_reducible rfl))
            (try simp only [Act.put, List.setIfInBounds_toArray, List.set_cons_zero, List.set_cons_succ])
            refine wpAnyH_take (i := 6) (v := ?_) pat6 (by kernel_rfl) (by kernel_rfl) (by kernel_rfl) (fun _ _ _ h => h) (Or.inl ⟨by rfl, ?_⟩) (by assumption) ?_
            rotate_left
            · (intro w hSw; (try dsimp only at hSw); go_simp; (try with_reducible rfl))
            (try simp only [Act.put, List.setIfInBounds_toArray, List.set_cons_zero, List.set_cons_succ])
            refine wpAnyH_take (i := 7) (v := undef) pat7 (by kernel_rfl) (by kernel_rfl) (by kernel_rfl) (fun _ _ _ h => h) (Or.inr ⟨by rfl, rfl⟩) (by assumption) ?_
            (try simp only [Act.put, List.setIfInBounds_toArray, List.set_cons_zero, List.set_cons_succ])
            refine wpAnyH_take (i := 8) (v := undef) pat8 (by kernel_rfl) (by kernel_rfl) (by kernel_rfl) (fun _ _ _ h => h) (Or.inr ⟨by rfl, rfl⟩) (by assumption) ?_
            (try simp only [Act.put, List.setIfInBounds_toArray, List.set_cons_zero, List.set_cons_succ])
            refine wpAnyH_ready (rs := [9]) (by kernel_rfl) (by simp) ?_
            refine AllReadyH.cons pat9 (fun K hK => ?_) AllReadyH.nil
            refine if_unwanted rfl ?_
            refine hK.out _ _ hHeld (fun hHeld2 => ?_)
            clear hK K hHeld
            have hHeld := hHeld2
            clear hHeld2
            (try simp only [Act.put, List.setIfInBounds_toArray, List.set_cons_zero, List.set_cons_succ])
            refine wpAnyH_ready (rs := [10]) (by kernel_rfl) (by simp) ?_
            refine AllReadyH.cons pat10 (fun K hK => ?_) AllReadyH.nil
            refine if_unwanted rfl ?_
            refine hK.out _ _ hHeld (fun hHeld2 => ?_)
            clear hK K hHeld
            have hHeld := hHeld2
            clear hHeld2
            (try simp only [Act.put, List.setIfInBounds_toArray, List.set_cons_zero, List.set_cons_succ])
            refine wpAnyH_ready (rs := [11]) (by kernel_rfl) (by simp) ?_
            refine AllReadyH.cons pat11 (fun K hK => ?_) AllReadyH.nil
            refine if_unwanted rfl ?_
            refine hK.out _ _ hHeld (fun hHeld2 => ?_)
            clear hK K hHeld
            have hHeld := hHeld2
            clear hHeld2
            (try simp only [Act.put, List.setIfInBounds_toArray, List.set_cons_zero, List.set_cons_succ])
            refine wpAnyH_take (i := 12) (v := undef) pat12 (by kernel_rfl) (by kernel_rfl) (by kernel_rfl) (fun _ _ _ h => h) (Or.inr ⟨by rfl, rfl⟩) (by assumption) ?_
            (try simp only [Act.put, List.setIfInBounds_toArray, List.set_cons_zero, List.set_cons_succ])
            refine wpAnyH_take (i := 13) (v := ?_) pat13 (by kernel_rfl) (by kernel_rfl) (by kernel_rfl) (fun _ _ _ h => h) (Or.inl ⟨by rfl, ?_⟩) (by assumption) ?_
            rotate_left
            · (intro w hSw; (try dsimp only at hSw); go_simp; (try with_reducible rfl))
            (try simp only [Act.put, List.setIfInBounds_toArray, List.set_cons_zero, List.set_cons_succ])
            refine wpAnyH_take (i := 14) (v := ?_) pat14 (by kernel_rfl) (by kernel_rfl) (by kernel_rfl) (fun _ _ _ h => h) (Or.inl ⟨by rfl, ?_⟩) (by assumption) ?_
            rotate_left
            · (intro w hSw; (try dsimp only at hSw); go_simp; (try with_reducible rfl))
            (try simp only [Act.put, List.setIfInBounds_toArray, List.set_cons_zero, List.set_cons_succ])
            refine wpAnyH_done (by kernel_rfl) ?_ _
            have T6 := Lib.hid (Sol.get hHeld)
            go_wp2_with fail
            refine (small_any _ 3 q _ (by unfold maxLen; omega) (IZ.out.over T6.out.here)).mono ?_
            rintro e wf ⟨rfl, hbf⟩
            have T6 : Hid (Below w.heap.size w wf) := T6.out.below.trans (hbf.mono T6.out.below.size)
            have hv := HV.out.1
            have hs := HV.out.2
            go_wp2
            go_ret
            exact ⟨rfl, T6.out⟩
end Go.Proofs.YtpikbhcjgcbdfaaDoor.wh
