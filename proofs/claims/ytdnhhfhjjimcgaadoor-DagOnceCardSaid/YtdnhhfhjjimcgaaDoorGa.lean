/- Layer 6: sorts, functions and terms, each of which stands once, as plain mathematics. -/
import Derived.Laws.Strings
import Derived.Test.YtdnhhfhjjimcgaaDoorRows
namespace Go.Proofs.YtdnhhfhjjimcgaaDoor.dg

structure Srt where
  name : ByteArray
  args : List Int
structure Fnn where
  name : ByteArray
  args : List Int
  res : Int
structure Tm where
  op : Int
  fn : Int
  kids : List Int
  num : ByteArray
/-- a term that is there: with its sort, and whether it is constant -/
structure En where
  t : Tm
  srt : Int
  cst : Bool
structure St where
  most : Int
  sorts : List Srt
  funs : List Fnn
  terms : List En

/-- are two texts one? (as the machine asks) -/
def sameB (a b : ByteArray) : Bool := a.toList == b.toList
theorem sameB_iff {a b : ByteArray} : sameB a b = true ↔ a = b := by
  unfold sameB
  rw [beq_iff_eq]
  constructor
  · intro h
    rw [ByteArray.toList_eq, ByteArray.toList_eq] at h
    exact ByteArray.ext (Array.toList_inj.1 h)
  · rintro rfl; rfl
def sameT (a b : Tm) : Bool := ((a.op == b.op && a.fn == b.fn) && sameB a.num b.num) && (a.kids == b.kids)
theorem sameT_iff {a b : Tm} : sameT a b = true ↔ a = b := by
  obtain ⟨a1, a2, a3, a4⟩ := a
  obtain ⟨b1, b2, b3, b4⟩ := b
  simp only [sameT, Bool.and_eq_true, beq_iff_eq, sameB_iff, Tm.mk.injEq]
  constructor
  · rintro ⟨⟨⟨h1, h2⟩, h3⟩, h4⟩; exact ⟨h1, h2, h4, h3⟩
  · rintro ⟨h1, h2, h3, h4⟩; exact ⟨⟨⟨h1, h2⟩, h4⟩, h3⟩
def sameS (a : Srt) (n : ByteArray) (l : List Int) : Bool := sameB a.name n && (a.args == l)
theorem sameS_iff {a : Srt} {n : ByteArray} {l : List Int} : sameS a n l = true ↔ a = ⟨n, l⟩ := by
  obtain ⟨a1, a2⟩ := a
  simp only [sameS, Bool.and_eq_true, beq_iff_eq, sameB_iff, Srt.mk.injEq]

namespace St
def has (S : St) (k : Int) : Bool := decide (0 ≤ k) && decide (k < (S.terms.length : Int))
def of (S : St) (k : Int) : Int := if 0 ≤ k then (match S.terms[k.toNat]? with | some e => e.srt | none => -1) else -1
def cst (S : St) (k : Int) : Bool := if 0 ≤ k then (match S.terms[k.toNat]? with | some e => e.cst | none => false) else false
def isSort (S : St) (k : Int) : Bool := decide (0 ≤ k) && decide (k < (S.sorts.length : Int))
def fnAt (S : St) (k : Int) : Fnn := if 0 ≤ k then (match S.funs[k.toNat]? with | some f => f | none => ⟨ByteArray.empty, [], 0⟩) else ⟨ByteArray.empty, [], 0⟩
end St

def isDig (c : UInt8) : Bool := decide (48 ≤ c.toNat) && decide (c.toNat ≤ 57)
def isNum (l : List UInt8) : Bool := decide (0 < l.length) && (decide (l.length ≤ 10000) && (l.all isDig && (decide (l.length = 1) || !(l.head? == some 48))))
def formed (t : Tm) : Bool :=
  if t.op < 1 ∨ 19 < t.op then false
  else if t.op ≠ 3 ∧ t.fn ≠ 0 then false
  else if t.op = 4 then isNum t.num.data.toList
  else decide (t.num.size = 0)
abbrev maxI : Int := 9223372036854775807
namespace St
def takes (S : St) (t : Tm) : Int × Int :=
  if t.op = 1 ∨ t.op = 2 ∨ t.op = 4 then (0, 0)
  else if t.op = 3 then (((S.fnAt t.fn).args.length : Int), ((S.fnAt t.fn).args.length : Int))
  else if t.op = 5 then (1, 1)
  else if t.op = 10 then (3, 3)
  else if t.op = 18 then (1, maxI)
  else (2, maxI)
def counted (S : St) (t : Tm) : Bool := decide ((S.takes t).1 ≤ (t.kids.length : Int)) && decide ((t.kids.length : Int) ≤ (S.takes t).2)
def wants (S : St) (t : Tm) (i : Nat) : Int :=
  if t.op = 3 then (S.fnAt t.fn).args.getD i 0
  else if 5 ≤ t.op ∧ t.op ≤ 9 then 0
  else if t.op = 10 then (if i = 0 then 0 else S.of (t.kids.getD 1 0))
  else if t.op = 11 ∨ t.op = 12 then S.of (t.kids.getD 0 0)
  else 1
def fits (S : St) (t : Tm) : Bool := (List.range t.kids.length).all fun i => S.of (t.kids.getD i 0) == S.wants t i
/-- how many of the kids aren't constant -/
def free (S : St) (ks : List Int) : Nat := (ks.filter fun k => !S.cst k).length
def gives (S : St) (t : Tm) : Int :=
  if t.op = 3 then (S.fnAt t.fn).res
  else if t.op = 10 then S.of (t.kids.getD 1 0)
  else if t.op = 4 ∨ t.op = 17 ∨ t.op = 18 ∨ t.op = 19 then 1
  else 0
def isCst (S : St) (t : Tm) : Bool := if t.op = 18 ∧ t.kids.length = 1 then S.cst (t.kids.getD 0 0) else decide (t.op = 4)
def hasFun (S : St) (k : Int) : Bool := decide (0 ≤ k) && decide (k < (S.funs.length : Int))
/-- what is wrong with a term; 0: nothing -/
def wrong (S : St) (t : Tm) : Int :=
  if formed t = false then 1
  else if t.op = 3 ∧ S.hasFun t.fn = false then 2
  else if t.kids.all S.has = false then 2
  else if S.counted t = false then 15
  else if S.fits t = false then 14
  else if t.op = 19 ∧ 1 < S.free t.kids then 16
  else 0
def placeT (S : St) (t : Tm) : Option Nat := S.terms.findIdx? fun e => sameT e.t t
def addT (S : St) (t : Tm) : St := { S with terms := S.terms ++ [⟨t, S.gives t, S.isCst t⟩] }
/-- a term: its place, the error, and what is there then -/
def term (S : St) (t : Tm) : Int × Int × St :=
  if S.wrong t ≠ 0 then (0, S.wrong t, S)
  else match S.placeT t with
    | some p => ((p : Int), 0, S)
    | none => if S.most ≤ (S.terms.length : Int) then (0, 4, S) else ((S.terms.length : Int), 0, S.addT t)
def placeS (S : St) (n : ByteArray) (l : List Int) : Option Nat := S.sorts.findIdx? fun s => sameS s n l
def sort (S : St) (n : ByteArray) (l : List Int) : Int × Int × St :=
  if l.all S.isSort = false then (0, 2, S)
  else match S.placeS n l with
    | some p => ((p : Int), 0, S)
    | none => ((S.sorts.length : Int), 0, { S with sorts := S.sorts ++ [⟨n, l⟩] })
def fun_ (S : St) (f : Fnn) : Int × Int × St :=
  if f.args.all S.isSort = false ∨ S.isSort f.res = false then (0, 2, S)
  else ((S.funs.length : Int), 0, { S with funs := S.funs ++ [f] })
end St

/-- a hash, with a number more in it -/
def mix (h n : Int) : Int := (IntKind.u64.wrap (bits .xor .u64 h (IntKind.u64.wrap n) * 1099511628211))
def mixL (h : Int) (l : List Int) : Int := l.foldl mix h
def hash (t : Tm) : Int := mixL (mixL (mixL 14695981039346656037 [t.op, t.fn, (t.kids.length : Int)]) t.kids) (t.num.data.toList.map fun c => (c.toNat : Int))

/-! ### places -/
theorem all_false {α : Type} {p : α → Bool} {l : List α} (h : l.all p = false) : ∃ x ∈ l, p x = false := by
  simpa using h
theorem find_some {α : Type} {p : α → Bool} {l : List α} {i : Nat} (h : l.findIdx? p = some i) : ∃ hl : i < l.length, p l[i] = true ∧ ∀ j (hj : j < i), p (l[j]'(by omega)) = false := by
  rw [List.findIdx?_eq_some_iff_getElem] at h
  obtain ⟨h1, h2, h3⟩ := h
  exact ⟨h1, h2, fun j hj => by simpa using h3 j hj⟩
theorem find_none {α : Type} {p : α → Bool} {l : List α} (h : l.findIdx? p = none) : ∀ i (hl : i < l.length), p l[i] = false := by
  rw [List.findIdx?_eq_none_iff] at h
  exact fun i hl => h _ (List.getElem_mem hl)
theorem find_at {α : Type} {p : α → Bool} {l : List α} {i : Nat} (hl : i < l.length) (h1 : p l[i] = true) (h2 : ∀ j (hj : j < i), p (l[j]'(by omega)) = false) : l.findIdx? p = some i := by
  rw [List.findIdx?_eq_some_iff_getElem]
  exact ⟨hl, h1, fun j hj => by simp [h2 j hj]⟩
theorem find_no {α : Type} {p : α → Bool} {l : List α} (h : ∀ i (hl : i < l.length), p l[i] = false) : l.findIdx? p = none := by
  rw [List.findIdx?_eq_none_iff]
  intro x hx
  obtain ⟨i, hi, rfl⟩ := List.getElem_of_mem hx
  exact h i hi
theorem find_append {α : Type} {p : α → Bool} {l : List α} {i : Nat} (r : List α) (h : l.findIdx? p = some i) : (l ++ r).findIdx? p = some i := by
  obtain ⟨h1, h2, h3⟩ := find_some h
  refine find_at (by simp; omega) (by rw [List.getElem_append_left h1]; exact h2) (fun j hj => ?_)
  rw [List.getElem_append_left (by omega)]
  exact h3 j hj

section
variable {S : St}
theorem has_iff {k : Int} : S.has k = true ↔ 0 ≤ k ∧ k < (S.terms.length : Int) := by simp [St.has]
theorem of_at {j : Nat} (h : j < S.terms.length) : S.of (j : Int) = S.terms[j].srt := by
  simp [St.of, List.getElem?_eq_getElem h]
theorem cst_at {j : Nat} (h : j < S.terms.length) : S.cst (j : Int) = S.terms[j].cst := by
  simp [St.cst, List.getElem?_eq_getElem h]
theorem of_not {k : Int} (h : S.has k = false) : S.of k = -1 := by
  unfold St.of
  split
  · rename_i h0
    have : S.terms.length ≤ k.toNat := by
      rcases Nat.lt_or_ge k.toNat S.terms.length with h1 | h1
      · have : S.has k = true := has_iff.2 ⟨h0, by omega⟩
        rw [h] at this; cases this
      · exact h1
    rw [List.getElem?_eq_none this]
  · rfl
theorem cst_not {k : Int} (h : S.has k = false) : S.cst k = false := by
  unfold St.cst
  split
  · rename_i h0
    have : S.terms.length ≤ k.toNat := by
      rcases Nat.lt_or_ge k.toNat S.terms.length with h1 | h1
      · have : S.has k = true := has_iff.2 ⟨h0, by omega⟩
        rw [h] at this; cases this
      · exact h1
    rw [List.getElem?_eq_none this]
  · rfl
theorem has_nat {k : Int} (h : S.has k = true) : ∃ j : Nat, k = (j : Int) ∧ j < S.terms.length := by
  obtain ⟨h1, h2⟩ := has_iff.1 h
  exact ⟨k.toNat, by omega, by omega⟩
theorem hasFun_nat {k : Int} (h : S.hasFun k = true) : ∃ j : Nat, k = (j : Int) ∧ j < S.funs.length := by
  simp [St.hasFun] at h
  exact ⟨k.toNat, by omega, by omega⟩
theorem fnAt_at {j : Nat} (h : j < S.funs.length) : S.fnAt (j : Int) = S.funs[j] := by
  simp [St.fnAt, List.getElem?_eq_getElem h]
end
end Go.Proofs.YtdnhhfhjjimcgaaDoor.dg
