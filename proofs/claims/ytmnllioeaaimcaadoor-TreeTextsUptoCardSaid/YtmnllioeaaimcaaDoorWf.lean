/- Package tree: a tree as a text, part by part; wordOf. -/
import Derived.Test.YtmnllioeaaimcaaDoorWb
import Derived.Test.YtmnllioeaaimcaaDoorWe
import Derived.Test.YtmnllioeaaimcaaDoorPx
import Derived.Deep.LoopGhost
namespace Go.Proofs.YtmnllioeaaimcaaDoor.tr
open Go Go.RowKit Go.Proofs.YtmnllioeaaimcaaDoor.tk

/-- how a part stands in a text -/
def wordE : Ev → Option (List UInt8)
  | .op _ => some [40]
  | .cl => some [41]
  | .st t => if t.k = 1 ∨ t.k = 2 then none else wordW t.k t.s
def isOp : Ev → Bool
  | .op _ => true
  | _ => false
/-- what is written of a part: a blank ahead of it, but for the first, and but for an end -/
def lead (f : Bool) (e : Ev) : List UInt8 := if !f && e.kind != 1 then [32] else []
/-- parts, one behind the other -/
def go : List Ev → List UInt8 × Bool → Option (List UInt8 × Bool)
  | [], s => some s
  | e :: r, (B, f) => match wordE e with
    | none => none
    | some W => go r (B ++ lead f e ++ W, isOp e)
theorem go_append (a b : List Ev) : ∀ s, go (a ++ b) s = (go a s).bind (go b) := by
  induction a with
  | nil => intro s; rfl
  | cons e a ih =>
    rintro ⟨B, f⟩
    simp only [List.cons_append, go]
    cases wordE e with
    | none => rfl
    | some W => exact ih _
mutual
theorem go_text : ∀ (t : Tree) (B : List UInt8) (f : Bool), go (evs t) (B, f) = (text t).map fun s => (B ++ (if f then [] else [32]) ++ s, false)
  | .mk true t ks, B, f => by
    have h := go_tails ks
    have e : evs (.mk true t ks) = .op t :: (evss ks ++ [.cl]) := by simp [evs]
    have e2 : text (.mk true t ks) = (tails ks).map (fun b => 40 :: (b.drop 1 ++ [41])) := by simp [text]
    rw [e, e2]
    simp only [go, wordE, isOp]
    rw [go_append, h]
    have hl : lead f (.op t) = if f then [] else [32] := by cases f <;> rfl
    rw [hl]
    cases tails ks with
    | none => rfl
    | some b =>
      simp only [Option.map_some, Option.bind_some, go, wordE, isOp]
      have hc : ∀ g, lead g .cl = [] := by intro g; cases g <;> rfl
      rw [hc]
      simp
  | .mk false t ks, B, f => by
    have e : evs (.mk false t ks) = [.st t] := by simp [evs]
    have e2 : text (.mk false t ks) = if t.k = 1 ∨ t.k = 2 then none else wordW t.k t.s := by simp [text]
    rw [e, e2]
    have hl : lead f (.st t) = if f then [] else [32] := by cases f <;> rfl
    simp only [go, wordE, isOp, hl]
    generalize (if t.k = 1 ∨ t.k = 2 then none else wordW t.k t.s) = o
    cases o <;> rfl
/-- kids: the first one has no blank ahead of it if nothing stands there yet -/
theorem go_tails : ∀ (ks : List Tree) (B : List UInt8) , go (evss ks) (B, true) = (tails ks).map fun s => (B ++ s.drop 1, ks.isEmpty)
  | [], B => by simp [evss, go, tails]
  | t :: r, B => by
    have h := go_text t B true
    have h2 := go_rest r
    simp only [evss, go_append, h, tails]
    cases text t with
    | none => cases tails r <;> rfl
    | some s =>
      simp only [Option.map_some, Option.bind_some, h2]
      cases tails r with
      | none => rfl
      | some q => simp
theorem go_rest : ∀ (ks : List Tree) (B : List UInt8), go (evss ks) (B, false) = (tails ks).map fun s => (B ++ s, false)
  | [], B => by simp [evss, go, tails]
  | t :: r, B => by
    have h := go_text t B false
    have h2 := go_rest r
    simp only [evss, go_append, h, tails]
    cases text t with
    | none => cases tails r <;> rfl
    | some s =>
      simp only [Option.map_some, Option.bind_some, h2]
      cases tails r with
      | none => rfl
      | some q => simp
end
/-- a tree has a text if each part can be written -/
theorem go_whole (t : Tree) : go (evs t) ([], true) = (text t).map fun s => (s, false) := by
  rw [go_text]
  cases text t <;> simp
theorem go_pre {E pre : List Ev} {x : Ev} (h : pre ++ [x] <+: E) {s : List UInt8 × Bool} (hg : go pre ([], true) = some s) (hw : wordE x = none) : go E ([], true) = none := by
  obtain ⟨r, rfl⟩ := h
  rw [List.append_assoc, go_append, hg]
  obtain ⟨B, f⟩ := s
  simp only [Option.bind_some, List.singleton_append, go, hw]
theorem go_snoc {pre : List Ev} {x : Ev} {B W : List UInt8} {f : Bool} (hg : go pre ([], true) = some (B, f)) (hw : wordE x = some W) : go (pre ++ [x]) ([], true) = some (B ++ lead f x ++ W, isOp x) := by
  rw [go_append, hg]
  simp only [Option.bind_some, go, hw]

set_option maxRecDepth 100000 in
set_option maxHeartbeats 1000000 in
theorem wordOf_paren {w : World} {t : Tok} {k : Int} (hk : k = 0 ∨ k = 1) :
    Calls Tryd.prog 20 #[.int .i64 k, tokV t] w fun r w' => r = .returned (.tuple #[.string ⟨(if k = 0 then [40] else [41] : List UInt8).toArray⟩, .bool true]) ∧ Hid (Below w.heap.size w w') := by
  unfold tokV
  rcases hk with rfl | rfl
  · go_enter Tryd.func20, Tryd.ntmps20
    go_wp2
    go_ret2
    exact ⟨rfl, Lib.hid ((Below.refl _ _).alloc (Nat.le_refl _) _)⟩
  · go_enter Tryd.func20, Tryd.ntmps20
    go_wp2
    go_ret2
    exact ⟨rfl, Lib.hid ((Below.refl _ _).alloc (Nat.le_refl _) _)⟩
set_option maxRecDepth 100000 in
set_option maxHeartbeats 1000000 in
theorem wordOf_no {w : World} {t : Tok} (hk : t.k = 1 ∨ t.k = 2) :
    Calls Tryd.prog 20 #[.int .i64 2, tokV t] w fun r w' => r = .returned (.tuple #[.string ⟨#[]⟩, .bool false]) ∧ Hid (Below w.heap.size w w') := by
  unfold tokV
  rcases hk with hk | hk
  · rw [hk]
    go_enter Tryd.func20, Tryd.ntmps20
    go_wp2
    go_ret2
    exact ⟨rfl, Lib.hid ((Below.refl _ _).alloc (Nat.le_refl _) _)⟩
  · rw [hk]
    go_enter Tryd.func20, Tryd.ntmps20
    go_wp2
    go_ret2
    exact ⟨rfl, Lib.hid ((Below.refl _ _).alloc (Nat.le_refl _) _)⟩
set_option maxRecDepth 100000 in
set_option maxHeartbeats 1000000 in
theorem wordOf_yes {w : World} {t : Tok} (h1 : t.k ≠ 1) (h2 : t.k ≠ 2) (hs : t.s.length ≤ 20000000) (hsh : w.ShapedOpen Tryd.prog) :
    Calls Tryd.prog 20 #[.int .i64 2, tokV t] w fun r w' => Hid (WordIs (wordW t.k t.s) r) ∧ Hid (Below w.heap.size w w') := by
  have hb0 : Below w.heap.size w (w.alloc (.cells #[.int .i64 t.k, .string ⟨t.s.toArray⟩, .int .i64 t.p] 35)) := (Below.refl _ _).alloc (Nat.le_refl _) _
  have P := pword_any (w := w.alloc (.cells #[.int .i64 t.k, .string ⟨t.s.toArray⟩, .int .i64 t.p] 35)) (K := t.k) (P := t.p) (S := ⟨t.s.toArray⟩) (by show t.s.toArray.size ≤ _; simpa using hs) (shaped_below hsh hb0)
  rw [show (⟨t.s.toArray⟩ : ByteArray).data.toList = t.s by simp] at P
  have HB0 := Lib.hid hb0
  have b1 : (t.k == 1) = false := by simpa using h1
  have b2 : (t.k == 2) = false := by simpa using h2
  clear hb0 hsh hs h1 h2
  unfold tokV
  cases hw : wordW t.k t.s with
  | none =>
    have HW := Lib.hid hw
    have P := Lib.hid P
    clear hw
    go_enter Tryd.func20, Tryd.ntmps20
    go_wp2_with (go_at_call 31; refine P.out.mono ?_; rintro e w1 ⟨h, hb⟩; rw [HW.out] at h; have h := h.out; simp only [WordIs] at h; subst h)
    go_ret2
    exact ⟨Lib.hid rfl, Lib.hid (HB0.out.trans (hb.out.mono HB0.out.size))⟩
  | some W =>
    have HW := Lib.hid hw
    have P := Lib.hid P
    clear hw
    go_enter Tryd.func20, Tryd.ntmps20
    go_wp2_with (go_at_call 31; refine P.out.mono ?_; rintro e w1 ⟨h, hb⟩; rw [HW.out] at h; have h := h.out; simp only [WordIs] at h; subst h)
    go_ret2
    exact ⟨Lib.hid rfl, Lib.hid (HB0.out.trans (hb.out.mono HB0.out.size))⟩
/-- how a part stands in a text -/
theorem wordOf_any {w : World} (e : Ev) (hs : e.tok.s.length ≤ 20000000) (hsh : w.ShapedOpen Tryd.prog) :
    Calls Tryd.prog 20 e.enc w fun r w' => Hid (WordIs (wordE e) r) ∧ Hid (Below w.heap.size w w') := by
  cases e with
  | op t => exact (wordOf_paren (.inl rfl)).mono fun r w' h => ⟨Lib.hid (by simpa [WordIs, wordE] using h.1), h.2⟩
  | cl => exact (wordOf_paren (.inr rfl)).mono fun r w' h => ⟨Lib.hid (by simpa [WordIs, wordE] using h.1), h.2⟩
  | st t =>
    by_cases h1 : t.k = 1 ∨ t.k = 2
    · exact (wordOf_no h1).mono fun r w' h => ⟨Lib.hid (by simpa [WordIs, wordE, h1] using h.1), h.2⟩
    · exact (wordOf_yes (fun e => h1 (.inl e)) (fun e => h1 (.inr e)) hs hsh).mono fun r w' h => ⟨by simpa [wordE, h1] using h.1, h.2⟩
end Go.Proofs.YtmnllioeaaimcaaDoor.tr
