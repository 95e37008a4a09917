/- The document's answer Parse. -/
import Derived.Test.YtgmnpajecpjklaaDoorParseZ
namespace Go.Proofs.YtgmnpajecpjklaaDoor.wh
open Go.RowKit

def GivesRefParse (W : World) (l : List UInt8) (e : Ending) (w' : World) : Prop :=
  ∃ neg A n c, e = .returned (.tuple #[.agg #[.bool neg, .slice A n c], .bool (okOf l)]) ∧ Hid (okOf l = true → IsNum w' w'.heap.size 1000 (.agg #[.bool neg, .slice A n c]) (zOf l)) ∧ Hid (Below W.heap.size W w')

/-- the body's bytes within the text -/
def BodyAt (s : ByteArray) (body : List UInt8) (a : Nat) : Prop := body.length + a = s.size ∧ ∀ k (h : k < body.length), ∃ h2 : k + a < s.size, s[k + a]'h2 = body[k]
theorem bytes_get (s : ByteArray) (k : Nat) (h : k < s.size) : s[k] = s.data.toList[k]'(by rw [bytes_len]; exact h) := rfl
theorem body_sign {s : ByteArray} (h : 0 < s.size) (hb : s[0].toNat = 45) : negOf s.data.toList = true ∧ BodyAt s (bodyOf s.data.toList) 1 := by
  have hl := bytes_len s
  have key : ∀ k (h : k < s.size), s.data.toList[k]? = some s[k] := fun k h => by
    rw [List.getElem?_eq_getElem (by rw [bytes_len]; exact h)]
    rfl
  have e0 := key 0 h
  obtain ⟨l, hd⟩ : ∃ l, l = s.data.toList := ⟨_, rfl⟩
  rw [← hd] at hl e0 key ⊢
  cases l with
  | nil => simp at e0
  | cons b t =>
    have hb2 : b = 45 := by
      have : b = s[0] := by simpa using e0
      rw [this]
      exact UInt8.toNat_inj.1 (by rw [hb]; rfl)
    subst hb2
    simp only [List.length_cons] at hl
    refine ⟨rfl, ⟨by simp only [bodyOf]; simpa using hl, fun k hk => ?_⟩⟩
    have hk' : k < t.length := by simpa [bodyOf] using hk
    refine ⟨by omega, ?_⟩
    have e := key (k + 1) (by omega)
    rw [List.getElem?_cons_succ, List.getElem?_eq_getElem hk'] at e
    have := Option.some.inj e
    simp [bodyOf, this]
theorem body_plain {s : ByteArray} (h : s.size = 0 ∨ ∃ h : 0 < s.size, s[0].toNat ≠ 45) : negOf s.data.toList = false ∧ BodyAt s (bodyOf s.data.toList) 0 := by
  have hl := bytes_len s
  have hbody : bodyOf s.data.toList = s.data.toList ∧ negOf s.data.toList = false := by
    rcases h with h | ⟨h, hb⟩
    · have : s.data.toList = [] := List.eq_nil_of_length_eq_zero (by omega)
      rw [this]
      exact ⟨rfl, rfl⟩
    · have e0 : s.data.toList[0]? = some s[0] := by
        rw [List.getElem?_eq_getElem (by rw [bytes_len]; exact h)]
        rfl
      obtain ⟨l, hd⟩ : ∃ l, l = s.data.toList := ⟨_, rfl⟩
      rw [← hd] at hl e0 ⊢
      cases l with
      | nil => simp at e0
      | cons b t =>
        have hb1 : b = s[0] := by simpa using e0
        have hb2 : (b == 45) = false := by
          rw [beq_eq_false_iff_ne]
          intro e
          exact hb (by rw [← hb1, e]; rfl)
        exact ⟨by simp [bodyOf, hb2], by simp [negOf, hb2]⟩
  refine ⟨hbody.2, ?_⟩
  rw [hbody.1]
  exact ⟨by omega, fun k hk => ⟨by omega, rfl⟩⟩
theorem rev_step {l : List UInt8} {k : Nat} (hk : k < l.length) : (l.drop k).reverse.map dg = (l.drop (k + 1)).reverse.map dg ++ [dg l[k]] := by
  rw [List.drop_eq_getElem_cons hk, List.reverse_cons, List.map_append]
  rfl
theorem dec_bad {l : List UInt8} {k : Nat} (hk : k < l.length) (h : isDg l[k] = false) : decL l = false := by
  unfold decL
  rw [Bool.and_eq_false_iff]
  right
  rw [List.all_eq_false]
  exact ⟨_, List.getElem_mem hk, by rw [h]; simp⟩
theorem dec_good {l : List UInt8} (h : ∀ b ∈ l, isDg b = true) : decL l = decide (0 < l.length) := by
  unfold decL
  rw [List.all_eq_true.2 h, Bool.and_true]
  cases l <;> simp

set_option maxRecDepth 100000 in
set_option maxHeartbeats 4000000 in
theorem refParse_any (s : ByteArray) (w : World) (hs : s.size ≤ 1000) :
    Calls Tryd.prog 27 #[.string s] w fun e w' => GivesRefParse w s.data.toList e w' := by
  obtain ⟨i0, hi, hz0, hz1, hz2⟩ := info_parts info_int
  have HB : Hid (Below w.heap.size w ((w.alloc (.cells #[.bool false, .slice none 0 0] 29)).alloc (.cells #[] 3))) := ((Below.refl _ _).alloc (Nat.le_refl _) _).alloc (by simp) _
  have HX : Hid (BoxN ((w.alloc (.cells #[.bool false, .slice none 0 0] 29)).alloc (.cells #[] 3)) w.heap.size false none 0 0) := (BoxN.new _ _ _ _ _).alloc _
  have HOWN : Hid (((w.alloc (.cells #[.bool false, .slice none 0 0] 29)).alloc (.cells #[] 3)).ownsRow (w.heap.size + 1) 3 1 (.slice (some ⟨w.heap.size + 1, 0, none⟩) 0 0) 0 (i64s [])) := by
    have h := World.ownsRow_made (w.alloc (.cells #[.bool false, .slice none 0 0] 29)) (base := w.heap.size + 1) (e := 3) (size := 1) #[] 0 (by simp) (by unfold maxLen; omega) rfl
    rwa [World.size_alloc] at h
  obtain ⟨body, hbody⟩ : ∃ body, body = bodyOf s.data.toList := ⟨_, rfl⟩
  have HOK : Hid (okOf s.data.toList = decL body) := by show _ = _; rw [hbody]; rfl
  by_cases hsg : ∃ h : 0 < s.size, s[0].toNat = 45
  · obtain ⟨hpos, h45⟩ := hsg
    have HS := Lib.hid (body_sign hpos h45)
    have hp1 : (0 : Int) < ((s.size : Nat) : Int) := by omega
    have hp2 : ((s[0].toNat : Int) == 45) = true := by rw [beq_iff_eq]; omega
    have HBA : Hid (BodyAt s body 1) := by show BodyAt _ _ _; rw [hbody]; exact HS.out.2
    have HNEG : Hid (negOf s.data.toList = true) := HS.out.1
    have HBODY := Lib.hid hbody
    clear h45 hbody HS
    go_enter Tryd.func27, Tryd.ntmps27
    go_wp2
    go_loopw [6, 7] (fun dv iv wr => (∃ (k : Nat) (z : Int) (A3 : Option Addr) (c3 : Nat), k ≤ body.length ∧ iv = .int .i64 z ∧ Hid (z = (k : Int) + 1 - 1) ∧ dv = .slice A3 (body.length - k) c3 ∧ Hid (∀ b ∈ body.drop k, isDg b = true) ∧ Hid (wr.ownsRow (w.heap.size + 1) 3 1 (.slice A3 (body.length - k) c3) (body.length - k) (i64s ((body.drop k).reverse.map dg)))) ∧ Hid (BoxN wr w.heap.size false none 0 0) ∧ Hid (Below w.heap.size w wr)) (fun _ iv _ => (intOf iv + 1).toNat)
    case atStart => exact ⟨⟨body.length, _, _, _, Nat.le_refl _, rfl, by have := HBA.out.1; show _ = _; omega, by rw [Nat.sub_self], (fun b hb => by rw [List.drop_length] at hb; cases hb), by rw [List.drop_length, Nat.sub_self]; exact HOWN⟩, HX, HB⟩
    case round =>
      obtain ⟨⟨k, z, A3, c3, hk, rfl, hz, rfl, hdig, hown⟩, hx, hb⟩ := hrel
      cases k with
      | succ k =>
        obtain rfl : z = ((k + 1 : Nat) : Int) := by have := hz.out; omega
        obtain ⟨hin, heq⟩ := HBA.out.2 k (by omega)
        have hin' : k + 1 < s.size := hin
        have HEQ : Hid (s[k + 1] = body[k]) := heq
        clear heq hin
        have hgs := hx.out.lt
        by_cases hlo : s[k + 1].toNat < 48
        · have hlo' : ((s[k + 1].toNat : Nat) : Int) < 48 := by omega
          have HBAD : Hid (okOf s.data.toList = false) := by
            show okOf _ = false
            rw [HOK.out]
            refine dec_bad (k := k) (by omega) ?_
            rw [← HEQ.out]
            unfold isDg
            simp
            omega
          have c0 := hx.out.c0
          have c1 := hx.out.c1
          have f0 := hx.out.f0
          have f1 := hx.out.f1
          have d0 := (hx.out.put false none 0 0).c0
          have d1 := (hx.out.put false none 0 0).c1
          have HBL : Hid (Below w.heap.size w (put2 wr w.heap.size false none 0 0)) := below_put hb.out (Nat.le_refl _) _ _ _ _
          clear hlo
          go_wp2
          (try simp only [Exit.inBlock, Exit.then])
          exact bodyPost_ret (v := .tuple #[.agg #[.bool false, .slice none 0 0], .bool false]) (by simp [results, Tryd.results27, go_sem, d0, d1]) rfl ⟨false, none, 0, 0, by rw [HBAD.out], (fun h => by rw [HBAD.out] at h; cases h), HBL⟩
        · have hlo' : ¬ ((s[k + 1].toNat : Nat) : Int) < 48 := by omega
          by_cases hhi : 57 < s[k + 1].toNat
          · have hhi' : (57 : Int) < ((s[k + 1].toNat : Nat) : Int) := by omega
            have HBAD : Hid (okOf s.data.toList = false) := by
              show okOf _ = false
              rw [HOK.out]
              refine dec_bad (k := k) (by omega) ?_
              rw [← HEQ.out]
              unfold isDg
              simp
              omega
            have c0 := hx.out.c0
            have c1 := hx.out.c1
            have f0 := hx.out.f0
            have f1 := hx.out.f1
            have d0 := (hx.out.put false none 0 0).c0
            have d1 := (hx.out.put false none 0 0).c1
            have HBL : Hid (Below w.heap.size w (put2 wr w.heap.size false none 0 0)) := below_put hb.out (Nat.le_refl _) _ _ _ _
            clear hlo hhi
            go_wp2
            (try simp only [Exit.inBlock, Exit.then])
            exact bodyPost_ret (v := .tuple #[.agg #[.bool false, .slice none 0 0], .bool false]) (by simp [results, Tryd.results27, go_sem, d0, d1]) rfl ⟨false, none, 0, 0, by rw [HBAD.out], (fun h => by rw [HBAD.out] at h; cases h), HBL⟩
          · have hhi' : ¬ (57 : Int) < ((s[k + 1].toNat : Nat) : Int) := by omega
            have HISD : Hid (isDg body[k] = true) := by
              show isDg _ = true
              rw [← HEQ.out]
              unfold isDg
              simp
              omega
            have HDGV : Hid ((s[k + 1].toNat : Int) - 48 = ((dg body[k] : Nat) : Int)) := by
              show _ = _
              rw [← HEQ.out]
              unfold dg
              omega
            have HKL : Hid (body.length - k = body.length - (k + 1) + 1) := by show _ = _; omega
            have HM : Hid (body.length - (k + 1) + 1 ≤ maxLen ∧ (body.length - (k + 1) + 1) * 8 ≤ 140737488355328) := by have := HBA.out.1; constructor <;> (try unfold maxLen) <;> omega
            clear hlo hhi
            go_wp2_with (at_builtin; refine wpList_append_own _ rfl _ _ 27 rfl (w.heap.size + 1) 3 i0 (.int .i64 0) 1 8 Tryd.underlying27 hi hz0 hz1 hz2 rfl (by decide) _ _ _ rfl (hown.out.alloc _) ⟨wr.heap.size, 0, none⟩ 1 1 [.int .i64 ((s[k + 1].toNat : Int) - 48)] rfl rfl (one_cell _ _ _) (one_one _ _) HM.out.1 HM.out.2 (by simp; omega) ?_)
            intro v' w3 hown' hgrow _
            obtain ⟨A4, c4, rfl, hc4⟩ := own_row hown'
            have HX3 : Hid (BoxN w3 w.heap.size false none 0 0) := (hx.out.alloc _).grown hgrow (fun e => by have := (hown.out.lt _ e.symm).1; omega)
            have HB3 : Hid (Below w.heap.size w w3) := (hb.out.alloc hb.out.size _).grown hgrow (by simp; omega) (fun g hg => by have := (hown.out.lt g hg).1; omega)
            have HO3 : Hid (w3.ownsRow (w.heap.size + 1) 3 1 (.slice A4 (body.length - (k + 1) + 1) c4) (body.length - (k + 1) + 1) (i64s ((body.drop k).reverse.map dg))) := by
              show World.ownsRow _ _ _ _ _ _ _
              rw [rev_step (by omega), i64s_append]
              have e : i64s [dg body[k]] = [Value.int .i64 ((s[k + 1].toNat : Int) - 48)] := by rw [HDGV.out]; rfl
              rw [e]
              simpa only [List.map_reverse, List.map_drop] using hown'
            have HDR : Hid (∀ b ∈ body.drop k, isDg b = true) := Lib.hid (by
              intro b hb
              rw [List.drop_eq_getElem_cons (by omega)] at hb
              rcases List.mem_cons.1 hb with rfl | hb
              · exact HISD.out
              · exact hdig.out b hb)
            clear hgrow hown'
            go_wp2
            go_roundw
            case rel => exact ⟨⟨k, _, A4, c4, by omega, rfl, by show _ = _; omega, by rw [HKL.out], HDR, by have h := HO3.out; rw [← HKL.out] at h; exact h⟩, HX3, HB3⟩
            case measure => simp only [intOf]; omega
      | zero =>
        obtain rfl : z = 1 - 1 := by have := hz.out; omega
        have HALL : Hid (∀ b ∈ body, isDg b = true) := by have h := hdig.out; rwa [List.drop_zero] at h
        obtain ⟨A', c', e', hc'⟩ := own_row hown.out
        have hc3 : body.length ≤ c3 := by injection e' with _ _ e3; omega
        have HRN : Hid (Rn wr wr.heap.size A3 (body.reverse.map dg)) := by have h := Rn.of_own hown.out; rwa [List.drop_zero] at h
        have HZO : Hid (okOf s.data.toList = true → tz true (body.reverse.map dg) = zOf s.data.toList) := by
          intro hok
          unfold zOf
          rw [if_pos hok, HNEG.out, ← HBODY.out]
          rfl
        have HOKV : Hid (okOf s.data.toList = decide (0 < body.length)) := by show _ = _; rw [HOK.out]; exact dec_good HALL.out
        have HLB : Hid (body.length + 1 = s.size) := HBA.out.1
        clear e'
        go_wp2_with fail
        refine (make1_any true A3 (body.length - 0) c3 (body.reverse.map dg) wr (by simp) (by have := HLB.out; omega) (by omega) HRN.out (ten_rev HALL.out)).mono ?_
        rintro e w2 ⟨neg2, A2, n2, c2, rfl, hi2, hb2⟩
        have hx2 := hx.out.over hb2.out
        have c0 := hx2.c0
        have c1 := hx2.c1
        have f0 := hx2.f0
        have f1 := hx2.f1
        have d0 := (hx2.put neg2 A2 n2 c2).c0
        have d1 := (hx2.put neg2 A2 n2 c2).c1
        have HI := Lib.hid (hi2.out.put hx2 neg2 A2 n2 c2)
        have HBL : Hid (Below w.heap.size w (put2 w2 w.heap.size neg2 A2 n2 c2)) := below_put (hb.out.trans (hb2.out.mono hb.out.size)) (Nat.le_refl _) _ _ _ _
        have HFIN : Hid (okOf s.data.toList = true → IsNum (put2 w2 w.heap.size neg2 A2 n2 c2) (put2 w2 w.heap.size neg2 A2 n2 c2).heap.size 1000 (.agg #[.bool neg2, .slice A2 n2 c2]) (zOf s.data.toList)) := by
          intro hok
          rw [← HZO.out hok, put2_size]
          exact HI.out.more (Nat.le_refl _) (by have := HLB.out; omega)
        by_cases hb0 : 0 < body.length
        · have hgt : (1 : Int) < ((s.size : Nat) : Int) := by have := HLB.out; omega
          have hle : ((s.size : Nat) : Int) - 1 ≤ 10000 := by omega
          go_wp2
          (try simp only [Exit.inBlock, Exit.then])
          exact bodyPost_ret (v := .tuple #[.agg #[.bool neg2, .slice A2 n2 c2], .bool true]) (by simp [results, Tryd.results27, go_sem, d0, d1]) rfl ⟨neg2, A2, n2, c2, by rw [HOKV.out]; simp [hb0], HFIN, HBL⟩
        · have hgt : ¬ (1 : Int) < ((s.size : Nat) : Int) := by have := HLB.out; omega
          go_wp2
          (try simp only [Exit.inBlock, Exit.then])
          exact bodyPost_ret (v := .tuple #[.agg #[.bool neg2, .slice A2 n2 c2], .bool false]) (by simp [results, Tryd.results27, go_sem, d0, d1]) rfl ⟨neg2, A2, n2, c2, by rw [HOKV.out]; simp [hb0], HFIN, HBL⟩
  · by_cases hz : s.size = 0
    · have HS := Lib.hid (body_plain (Or.inl hz))
      have hp1 : ¬ (0 : Int) < ((s.size : Nat) : Int) := by omega
      have HBA : Hid (BodyAt s body 0) := by show BodyAt _ _ _; rw [hbody]; exact HS.out.2
      have HNEG : Hid (negOf s.data.toList = false) := HS.out.1
      have HBODY := Lib.hid hbody
      clear hz hbody HS hsg
      go_enter Tryd.func27, Tryd.ntmps27
      go_wp2
      go_loopw [6, 7] (fun dv iv wr => (∃ (k : Nat) (z : Int) (A3 : Option Addr) (c3 : Nat), k ≤ body.length ∧ iv = .int .i64 z ∧ Hid (z = (k : Int) + 0 - 1) ∧ dv = .slice A3 (body.length - k) c3 ∧ Hid (∀ b ∈ body.drop k, isDg b = true) ∧ Hid (wr.ownsRow (w.heap.size + 1) 3 1 (.slice A3 (body.length - k) c3) (body.length - k) (i64s ((body.drop k).reverse.map dg)))) ∧ Hid (BoxN wr w.heap.size false none 0 0) ∧ Hid (Below w.heap.size w wr)) (fun _ iv _ => (intOf iv + 1).toNat)
      case atStart => exact ⟨⟨body.length, _, _, _, Nat.le_refl _, rfl, by have := HBA.out.1; show _ = _; omega, by rw [Nat.sub_self], (fun b hb => by rw [List.drop_length] at hb; cases hb), by rw [List.drop_length, Nat.sub_self]; exact HOWN⟩, HX, HB⟩
      case round =>
        obtain ⟨⟨k, z, A3, c3, hk, rfl, hz, rfl, hdig, hown⟩, hx, hb⟩ := hrel
        cases k with
        | succ k =>
          exfalso
          have := HBA.out.1
          omega
        | zero =>
          obtain rfl : z = 0 - 1 := by have := hz.out; omega
          have HALL : Hid (∀ b ∈ body, isDg b = true) := by have h := hdig.out; rwa [List.drop_zero] at h
          obtain ⟨A', c', e', hc'⟩ := own_row hown.out
          have hc3 : body.length ≤ c3 := by injection e' with _ _ e3; omega
          have HRN : Hid (Rn wr wr.heap.size A3 (body.reverse.map dg)) := by have h := Rn.of_own hown.out; rwa [List.drop_zero] at h
          have HZO : Hid (okOf s.data.toList = true → tz false (body.reverse.map dg) = zOf s.data.toList) := by
            intro hok
            unfold zOf
            rw [if_pos hok, HNEG.out, ← HBODY.out]
            rfl
          have HOKV : Hid (okOf s.data.toList = decide (0 < body.length)) := by show _ = _; rw [HOK.out]; exact dec_good HALL.out
          have HLB : Hid (body.length + 0 = s.size) := HBA.out.1
          clear e'
          go_wp2_with fail
          refine (make1_any false A3 (body.length - 0) c3 (body.reverse.map dg) wr (by simp) (by have := HLB.out; omega) (by omega) HRN.out (ten_rev HALL.out)).mono ?_
          rintro e w2 ⟨neg2, A2, n2, c2, rfl, hi2, hb2⟩
          have hx2 := hx.out.over hb2.out
          have c0 := hx2.c0
          have c1 := hx2.c1
          have f0 := hx2.f0
          have f1 := hx2.f1
          have d0 := (hx2.put neg2 A2 n2 c2).c0
          have d1 := (hx2.put neg2 A2 n2 c2).c1
          have HI := Lib.hid (hi2.out.put hx2 neg2 A2 n2 c2)
          have HBL : Hid (Below w.heap.size w (put2 w2 w.heap.size neg2 A2 n2 c2)) := below_put (hb.out.trans (hb2.out.mono hb.out.size)) (Nat.le_refl _) _ _ _ _
          have HFIN : Hid (okOf s.data.toList = true → IsNum (put2 w2 w.heap.size neg2 A2 n2 c2) (put2 w2 w.heap.size neg2 A2 n2 c2).heap.size 1000 (.agg #[.bool neg2, .slice A2 n2 c2]) (zOf s.data.toList)) := by
            intro hok
            rw [← HZO.out hok, put2_size]
            exact HI.out.more (Nat.le_refl _) (by have := HLB.out; omega)
          have hb0 : ¬ 0 < body.length := by have := HLB.out; omega
          have hgt : ¬ (0 : Int) < ((s.size : Nat) : Int) := by have := HLB.out; omega
          go_wp2
          (try simp only [Exit.inBlock, Exit.then])
          exact bodyPost_ret (v := .tuple #[.agg #[.bool neg2, .slice A2 n2 c2], .bool false]) (by simp [results, Tryd.results27, go_sem, d0, d1]) rfl ⟨neg2, A2, n2, c2, by rw [HOKV.out]; simp [hb0], HFIN, HBL⟩
    · have hpos : 0 < s.size := by omega
      have h45 : s[0].toNat ≠ 45 := fun e => hsg ⟨hpos, e⟩
      have HS := Lib.hid (body_plain (Or.inr ⟨hpos, h45⟩))
      have hp1 : (0 : Int) < ((s.size : Nat) : Int) := by omega
      have hp2 : ((s[0].toNat : Int) == 45) = false := by rw [beq_eq_false_iff_ne]; omega
      have HBA : Hid (BodyAt s body 0) := by show BodyAt _ _ _; rw [hbody]; exact HS.out.2
      have HNEG : Hid (negOf s.data.toList = false) := HS.out.1
      have HBODY := Lib.hid hbody
      clear h45 hz hbody HS hsg
      go_enter Tryd.func27, Tryd.ntmps27
      go_wp2
      go_loopw [6, 7] (fun dv iv wr => (∃ (k : Nat) (z : Int) (A3 : Option Addr) (c3 : Nat), k ≤ body.length ∧ iv = .int .i64 z ∧ Hid (z = (k : Int) + 0 - 1) ∧ dv = .slice A3 (body.length - k) c3 ∧ Hid (∀ b ∈ body.drop k, isDg b = true) ∧ Hid (wr.ownsRow (w.heap.size + 1) 3 1 (.slice A3 (body.length - k) c3) (body.length - k) (i64s ((body.drop k).reverse.map dg)))) ∧ Hid (BoxN wr w.heap.size false none 0 0) ∧ Hid (Below w.heap.size w wr)) (fun _ iv _ => (intOf iv + 1).toNat)
      case atStart => exact ⟨⟨body.length, _, _, _, Nat.le_refl _, rfl, by have := HBA.out.1; show _ = _; omega, by rw [Nat.sub_self], (fun b hb => by rw [List.drop_length] at hb; cases hb), by rw [List.drop_length, Nat.sub_self]; exact HOWN⟩, HX, HB⟩
      case round =>
        obtain ⟨⟨k, z, A3, c3, hk, rfl, hz, rfl, hdig, hown⟩, hx, hb⟩ := hrel
        cases k with
        | succ k =>
          obtain rfl : z = ((k : Nat) : Int) := by have := hz.out; omega
          obtain ⟨hin, heq⟩ := HBA.out.2 k (by omega)
          have hin' : k < s.size := hin
          have HEQ : Hid (s[k] = body[k]) := heq
          clear heq hin
          have hgs := hx.out.lt
          by_cases hlo : s[k].toNat < 48
          · have hlo' : ((s[k].toNat : Nat) : Int) < 48 := by omega
            have HBAD : Hid (okOf s.data.toList = false) := by
              show okOf _ = false
              rw [HOK.out]
              refine dec_bad (k := k) (by omega) ?_
              rw [← HEQ.out]
              unfold isDg
              simp
              omega
            have c0 := hx.out.c0
            have c1 := hx.out.c1
            have f0 := hx.out.f0
            have f1 := hx.out.f1
            have d0 := (hx.out.put false none 0 0).c0
            have d1 := (hx.out.put false none 0 0).c1
            have HBL : Hid (Below w.heap.size w (put2 wr w.heap.size false none 0 0)) := below_put hb.out (Nat.le_refl _) _ _ _ _
            clear hlo
            go_wp2
            (try simp only [Exit.inBlock, Exit.then])
            exact bodyPost_ret (v := .tuple #[.agg #[.bool false, .slice none 0 0], .bool false]) (by simp [results, Tryd.results27, go_sem, d0, d1]) rfl ⟨false, none, 0, 0, by rw [HBAD.out], (fun h => by rw [HBAD.out] at h; cases h), HBL⟩
          · have hlo' : ¬ ((s[k].toNat : Nat) : Int) < 48 := by omega
            by_cases hhi : 57 < s[k].toNat
            · have hhi' : (57 : Int) < ((s[k].toNat : Nat) : Int) := by omega
              have HBAD : Hid (okOf s.data.toList = false) := by
                show okOf _ = false
                rw [HOK.out]
                refine dec_bad (k := k) (by omega) ?_
                rw [← HEQ.out]
                unfold isDg
                simp
                omega
              have c0 := hx.out.c0
              have c1 := hx.out.c1
              have f0 := hx.out.f0
              have f1 := hx.out.f1
              have d0 := (hx.out.put false none 0 0).c0
              have d1 := (hx.out.put false none 0 0).c1
              have HBL : Hid (Below w.heap.size w (put2 wr w.heap.size false none 0 0)) := below_put hb.out (Nat.le_refl _) _ _ _ _
              clear hlo hhi
              go_wp2
              (try simp only [Exit.inBlock, Exit.then])
              exact bodyPost_ret (v := .tuple #[.agg #[.bool false, .slice none 0 0], .bool false]) (by simp [results, Tryd.results27, go_sem, d0, d1]) rfl ⟨false, none, 0, 0, by rw [HBAD.out], (fun h => by rw [HBAD.out] at h; cases h), HBL⟩
            · have hhi' : ¬ (57 : Int) < ((s[k].toNat : Nat) : Int) := by omega
              have HISD : Hid (isDg body[k] = true) := by
                show isDg _ = true
                rw [← HEQ.out]
                unfold isDg
                simp
                omega
              have HDGV : Hid ((s[k].toNat : Int) - 48 = ((dg body[k] : Nat) : Int)) := by
                show _ = _
                rw [← HEQ.out]
                unfold dg
                omega
              have HKL : Hid (body.length - k = body.length - (k + 1) + 1) := by show _ = _; omega
              have HM : Hid (body.length - (k + 1) + 1 ≤ maxLen ∧ (body.length - (k + 1) + 1) * 8 ≤ 140737488355328) := by have := HBA.out.1; constructor <;> (try unfold maxLen) <;> omega
              clear hlo hhi
              go_wp2_with (at_builtin; refine wpList_append_own _ rfl _ _ 27 rfl (w.heap.size + 1) 3 i0 (.int .i64 0) 1 8 Tryd.underlying27 hi hz0 hz1 hz2 rfl (by decide) _ _ _ rfl (hown.out.alloc _) ⟨wr.heap.size, 0, none⟩ 1 1 [.int .i64 ((s[k].toNat : Int) - 48)] rfl rfl (one_cell _ _ _) (one_one _ _) HM.out.1 HM.out.2 (by simp; omega) ?_)
              intro v' w3 hown' hgrow _
              obtain ⟨A4, c4, rfl, hc4⟩ := own_row hown'
              have HX3 : Hid (BoxN w3 w.heap.size false none 0 0) := (hx.out.alloc _).grown hgrow (fun e => by have := (hown.out.lt _ e.symm).1; omega)
              have HB3 : Hid (Below w.heap.size w w3) := (hb.out.alloc hb.out.size _).grown hgrow (by simp; omega) (fun g hg => by have := (hown.out.lt g hg).1; omega)
              have HO3 : Hid (w3.ownsRow (w.heap.size + 1) 3 1 (.slice A4 (body.length - (k + 1) + 1) c4) (body.length - (k + 1) + 1) (i64s ((body.drop k).reverse.map dg))) := by
                show World.ownsRow _ _ _ _ _ _ _
                rw [rev_step (by omega), i64s_append]
                have e : i64s [dg body[k]] = [Value.int .i64 ((s[k].toNat : Int) - 48)] := by rw [HDGV.out]; rfl
                rw [e]
                simpa only [List.map_reverse, List.map_drop] using hown'
              have HDR : Hid (∀ b ∈ body.drop k, isDg b = true) := Lib.hid (by
                intro b hb
                rw [List.drop_eq_getElem_cons (by omega)] at hb
                rcases List.mem_cons.1 hb with rfl | hb
                · exact HISD.out
                · exact hdig.out b hb)
              clear hgrow hown'
              go_wp2
              go_roundw
              case rel => exact ⟨⟨k, _, A4, c4, by omega, rfl, by show _ = _; omega, by rw [HKL.out], HDR, by have h := HO3.out; rw [← HKL.out] at h; exact h⟩, HX3, HB3⟩
              case measure => simp only [intOf]; omega
        | zero =>
          obtain rfl : z = 0 - 1 := by have := hz.out; omega
          have HALL : Hid (∀ b ∈ body, isDg b = true) := by have h := hdig.out; rwa [List.drop_zero] at h
          obtain ⟨A', c', e', hc'⟩ := own_row hown.out
          have hc3 : body.length ≤ c3 := by injection e' with _ _ e3; omega
          have HRN : Hid (Rn wr wr.heap.size A3 (body.reverse.map dg)) := by have h := Rn.of_own hown.out; rwa [List.drop_zero] at h
          have HZO : Hid (okOf s.data.toList = true → tz false (body.reverse.map dg) = zOf s.data.toList) := by
            intro hok
            unfold zOf
            rw [if_pos hok, HNEG.out, ← HBODY.out]
            rfl
          have HOKV : Hid (okOf s.data.toList = decide (0 < body.length)) := by show _ = _; rw [HOK.out]; exact dec_good HALL.out
          have HLB : Hid (body.length + 0 = s.size) := HBA.out.1
          clear e'
          go_wp2_with fail
          refine (make1_any false A3 (body.length - 0) c3 (body.reverse.map dg) wr (by simp) (by have := HLB.out; omega) (by omega) HRN.out (ten_rev HALL.out)).mono ?_
          rintro e w2 ⟨neg2, A2, n2, c2, rfl, hi2, hb2⟩
          have hx2 := hx.out.over hb2.out
          have c0 := hx2.c0
          have c1 := hx2.c1
          have f0 := hx2.f0
          have f1 := hx2.f1
          have d0 := (hx2.put neg2 A2 n2 c2).c0
          have d1 := (hx2.put neg2 A2 n2 c2).c1
          have HI := Lib.hid (hi2.out.put hx2 neg2 A2 n2 c2)
          have HBL : Hid (Below w.heap.size w (put2 w2 w.heap.size neg2 A2 n2 c2)) := below_put (hb.out.trans (hb2.out.mono hb.out.size)) (Nat.le_refl _) _ _ _ _
          have HFIN : Hid (okOf s.data.toList = true → IsNum (put2 w2 w.heap.size neg2 A2 n2 c2) (put2 w2 w.heap.size neg2 A2 n2 c2).heap.size 1000 (.agg #[.bool neg2, .slice A2 n2 c2]) (zOf s.data.toList)) := by
            intro hok
            rw [← HZO.out hok, put2_size]
            exact HI.out.more (Nat.le_refl _) (by have := HLB.out; omega)
          by_cases hb0 : 0 < body.length
          · have hgt : (0 : Int) < ((s.size : Nat) : Int) := by have := HLB.out; omega
            have hle : ((s.size : Nat) : Int) ≤ 10000 := by omega
            go_wp2
            (try simp only [Exit.inBlock, Exit.then])
            exact bodyPost_ret (v := .tuple #[.agg #[.bool neg2, .slice A2 n2 c2], .bool true]) (by simp [results, Tryd.results27, go_sem, d0, d1]) rfl ⟨neg2, A2, n2, c2, by rw [HOKV.out]; simp [hb0], HFIN, HBL⟩
          · exfalso
            have := HLB.out
            omega
end Go.Proofs.YtgmnpajecpjklaaDoor.wh
