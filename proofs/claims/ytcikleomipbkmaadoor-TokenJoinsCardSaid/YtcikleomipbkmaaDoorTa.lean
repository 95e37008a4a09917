/- Tokens of a text, by bytes: what stands at a place, and what a whole text is. Plain definitions and mathematics. -/
import Derived.WalkKit
namespace Go.Proofs.YtcikleomipbkmaaDoor.tk

def isDigit (c : UInt8) : Bool := decide (48 ≤ c.toNat) && decide (c.toNat ≤ 57)
def isBlank (c : UInt8) : Bool := decide (c.toNat = 9) || (decide (c.toNat = 10) || (decide (c.toNat = 13) || decide (c.toNat = 32)))
def marks : List UInt8 := [126, 33, 64, 36, 37, 94, 38, 42, 95, 45, 43, 61, 60, 62, 46, 63, 47]
def isInner (c : UInt8) : Bool := marks.contains c || (isDigit c || ((decide (65 ≤ c.toNat) && decide (c.toNat ≤ 90)) || (decide (97 ≤ c.toNat) && decide (c.toNat ≤ 122))))
def isHex (c : UInt8) : Bool := isDigit c || ((decide (65 ≤ c.toNat) && decide (c.toNat ≤ 70)) || (decide (97 ≤ c.toNat) && decide (c.toNat ≤ 102)))
def isBin (c : UInt8) : Bool := decide (c.toNat = 48) || decide (c.toNat = 49)
def isPlain (c : UInt8) : Bool := decide (c.toNat = 9) || (decide (c.toNat = 10) || (decide (c.toNat = 13) || (decide (32 ≤ c.toNat) && decide (c.toNat ≤ 126))))
def isBar (c : UInt8) : Bool := isPlain c && (!decide (c.toNat = 92) && !decide (c.toNat = 124))

/-- a comment, up to the byte 10 that ends it -/
def notLine (c : UInt8) : Bool := !decide (c.toNat = 10)
/-- without blanks and comments ahead -/
def skipL : List UInt8 → List UInt8
  | [] => []
  | c :: r => if isBlank c then skipL r else if c.toNat = 59 then skipL (r.dropWhile notLine) else c :: r
termination_by l => l.length
decreasing_by
  · simp
  · have := (List.dropWhile_sublist notLine (l := r)).length_le
    simp; omega

/-- what stands at a place: a token (its kind, its text, how many bytes it has), or the byte that is wrong -/
inductive Sc where
  | tok (kind : Nat) (text : List UInt8) (n : Nat)
  | bad (n : Nat)
  deriving Repr, DecidableEq
/-- does a symbol's byte come next? -/
def innerNext (l : List UInt8) : Bool := match l with | [] => false | c :: _ => isInner c
def digitNext (l : List UInt8) : Bool := match l with | [] => false | c :: _ => isDigit c
/-- behind a string's first mark: its text, and how many bytes; or how many bytes up to the wrong one -/
def strL : List UInt8 → Nat → List UInt8 → Sc
  | [], n, _ => .bad n
  | c :: r, n, acc =>
    if isPlain c then
      if c.toNat = 34 then
        match r with
        | [] => .tok 9 acc.reverse (n + 1)
        | d :: r' => if d.toNat = 34 then strL r' (n + 2) (34 :: acc) else .tok 9 acc.reverse (n + 1)
      else strL r (n + 1) (c :: acc)
    else .bad n
def reservedWords : List (List UInt8) := [[95], [33], [97, 115], [108, 101, 116], [101, 120, 105, 115, 116, 115], [102, 111, 114, 97, 108, 108], [109, 97, 116, 99, 104], [112, 97, 114], [66, 73, 78, 65, 82, 89], [68, 69, 67, 73, 77, 65, 76], [72, 69, 88, 65, 68, 69, 67, 73, 77, 65, 76], [78, 85, 77, 69, 82, 65, 76], [83, 84, 82, 73, 78, 71]]
def endsAt (kind : Nat) (text : List UInt8) (n : Nat) (rest : List UInt8) : Sc := if innerNext rest then .bad n else .tok kind text n
/-- a number's token: its first digit, and what is behind it -/
def numL (c : UInt8) (r : List UInt8) : Sc :=
  if c.toNat = 48 && digitNext r then .bad 1 else
  match r.dropWhile isDigit with
  | [] => .tok 5 (c :: r.takeWhile isDigit) (1 + (r.takeWhile isDigit).length)
  | p :: q => if p.toNat = 46 && digitNext q then
      endsAt 6 (c :: r.takeWhile isDigit ++ p :: q.takeWhile isDigit) (2 + (r.takeWhile isDigit).length + (q.takeWhile isDigit).length) (q.dropWhile isDigit)
    else endsAt 5 (c :: r.takeWhile isDigit) (1 + (r.takeWhile isDigit).length) (p :: q)
def hashL (r : List UInt8) : Sc :=
  match r with
  | [] => .bad 1
  | e :: q =>
    if e.toNat = 120 then (if (q.takeWhile isHex).length = 0 then .bad 2 else endsAt 7 (q.takeWhile isHex) (2 + (q.takeWhile isHex).length) (q.dropWhile isHex))
    else if e.toNat = 98 then (if (q.takeWhile isBin).length = 0 then .bad 2 else endsAt 8 (q.takeWhile isBin) (2 + (q.takeWhile isBin).length) (q.dropWhile isBin))
    else .bad 1
def barL (r : List UInt8) : Sc :=
  match r.dropWhile isBar with
  | [] => .bad (1 + (r.takeWhile isBar).length)
  | e :: _ => if e.toNat = 124 then .tok 3 (r.takeWhile isBar) (2 + (r.takeWhile isBar).length) else .bad (1 + (r.takeWhile isBar).length)
def keyL (r : List UInt8) : Sc := if (r.takeWhile isInner).length = 0 then .bad 1 else .tok 10 (r.takeWhile isInner) (1 + (r.takeWhile isInner).length)
def wordL (c : UInt8) (r : List UInt8) : Sc :=
  .tok (if reservedWords.contains (c :: r.takeWhile isInner) then 4 else 3) (c :: r.takeWhile isInner) (1 + (r.takeWhile isInner).length)
def scan : List UInt8 → Sc
  | [] => .bad 0
  | c :: r =>
    if c.toNat = 40 then .tok 1 [c] 1 else
    if c.toNat = 41 then .tok 2 [c] 1 else
    if isDigit c then numL c r else
    if c.toNat = 35 then hashL r else
    if c.toNat = 34 then strL r 1 [] else
    if c.toNat = 124 then barL r else
    if c.toNat = 58 then keyL r else
    if isInner c then wordL c r else .bad 0

structure Tk where
  kind : Nat
  text : List UInt8
  at_ : Nat
  deriving Repr, DecidableEq
/-- the tokens from a place on: or the place of the first byte that is wrong -/
def readF : Nat → List UInt8 → Nat → Except Nat (List Tk)
  | 0, _, _ => .ok []
  | f + 1, l, p =>
    match skipL l with
    | [] => .ok []
    | c :: r => match scan (c :: r) with
      | .bad n => .error (p + (l.length - (c :: r).length) + n)
      | .tok k t n => match readF f ((c :: r).drop n) (p + (l.length - (c :: r).length) + n) with
        | .error e => .error e
        | .ok ts => .ok (⟨k, t, p + (l.length - (c :: r).length)⟩ :: ts)
def readL (l : List UInt8) : Except Nat (List Tk) := readF (l.length + 1) l 0
end Go.Proofs.YtcikleomipbkmaaDoor.tk
