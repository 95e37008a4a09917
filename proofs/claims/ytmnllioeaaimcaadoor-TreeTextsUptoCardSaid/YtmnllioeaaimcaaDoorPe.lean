/- Package token: keywords, symbols, what is none. -/
import Derived.Test.YtmnllioeaaimcaaDoorPd
namespace Go.Proofs.YtmnllioeaaimcaaDoor.tk
open Go.RowKit

set_option maxRecDepth 100000 in
set_option maxHeartbeats 2000000 in
theorem tkey_ok {w : World} {R : Nat} {A : Option Addr} {bs : List UInt8} {cb p : Nat} (H : Hid (Rs w R A bs cb p)) (hl : bs.length ≤ 100000000) (hcap : bs.length ≤ cb) (hp : p < bs.length) (h : runE isInner bs (p + 1) ≠ p + 1) :
    Calls Tryd.prog 54 #[.pointer (some ⟨R, 0, none⟩)] w fun e w' => e = .returned (Tv 10 (cutL bs (p + 1) (runE isInner bs (p + 1))) p) ∧ Hid (Rs w' R A bs cb (runE isInner bs (p + 1))) ∧ Hid (But R w w') := by
  have this := And.intro hp (And.intro hl hcap)
  clear this
  have hA := H.out.lts (by omega)
  obtain ⟨Q, hQ⟩ : ∃ Q, runE isInner bs (p + 1) = Q := ⟨_, rfl⟩
  rw [hQ] at h ⊢
  have hQ1 : p + 1 ≤ Q := hQ ▸ runE_ge
  have hQ2 : Q ≤ bs.length := hQ ▸ runE_le (by omega)
  have HQ := Lib.hid hQ
  clear hQ
  go_enter Tryd.func54, Tryd.ntmps54
  go_upto_region 1 with fail
  generalize hW : w.alloc _ = W0
  have S0 := Lib.hid (P0.start H.out hW)
  clear hW
  have c1 := S0.out.rs.c1
  have sz := S0.out.sz
  go_upto_region 2 with fail
  generalize hW : W0.alloc _ = W1
  have S1 := Lib.hid (Pt.start S0.out 10 [] hW)
  clear hW c1 sz
  have c1 := S1.out.rs.c1
  have f1 := S1.out.rs.f1
  go_upto_region 3 with fail
  clear c1 f1
  generalize hW : World.setCell _ _ _ = W_S2
  have S2 := Lib.hid (S1.out.go (p + 1) hW)
  clear hW
  have P := some_ok (Lib.hid isT_sym) (Lib.hid S2.out.rs) hl hcap (by omega) (by omega) (by rw [HQ.out]; exact h)
  rw [HQ.out] at P
  have P := Lib.hid P
  clear h
  go_upto_region 4 with (go_at_call 71; refine (P.out).mono ?_; rintro e w1 ⟨rfl, H1, B1⟩; have S3 := Lib.hid (S2.out.call H1.out B1.out); have t1 := S3.out.t1; have tf := S3.out.tf)
  clear t1 tf
  generalize hW : World.setCell _ _ _ = W_S4
  have S4 := Lib.hid (S3.out.text hA (cutL bs (p + 1) Q) hW)
  clear hW
  have t0 := S4.out.t0
  have t1 := S4.out.t1
  have t2 := S4.out.t2
  have r0 := S4.out.r0
  have r1 := S4.out.r1
  have r2 := S4.out.r2
  have rf := S4.out.rf
  go_wp2_with fail
  clear t0 t1 t2 r0 r1 r2 rf
  generalize hW : World.setCell _ _ _ = W9
  obtain ⟨e0, e1, e2, HR, HB⟩ := S4.out.fin hA hW
  clear hW
  (try simp only [Exit.inBlock, Exit.then])
  refine bodyPost_ret (v := Tv 10 (cutL bs (p + 1) Q) p) (by simp [results, Tv, Tryd.results54, go_sem, e0, e1, e2]) rfl ⟨rfl, HR, HB⟩

set_option maxRecDepth 100000 in
set_option maxHeartbeats 2000000 in
theorem tkey_no {w : World} {R : Nat} {A : Option Addr} {bs : List UInt8} {cb p : Nat} (H : Hid (Rs w R A bs cb p)) (hl : bs.length ≤ 100000000) (hcap : bs.length ≤ cb) (hp : p < bs.length) (h : runE isInner bs (p + 1) = p + 1) :
    Calls Tryd.prog 54 #[.pointer (some ⟨R, 0, none⟩)] w fun e w' => e = Pan (p + 1) ∧ Hid (But R w w') := by
  have this := And.intro hp (And.intro hl hcap)
  clear this
  have hA := H.out.lts (by omega)
  go_enter Tryd.func54, Tryd.ntmps54
  go_upto_region 1 with fail
  generalize hW : w.alloc _ = W0
  have S0 := Lib.hid (P0.start H.out hW)
  clear hW
  have c1 := S0.out.rs.c1
  have sz := S0.out.sz
  go_upto_region 2 with fail
  generalize hW : W0.alloc _ = W1
  have S1 := Lib.hid (Pt.start S0.out 10 [] hW)
  clear hW c1 sz
  have c1 := S1.out.rs.c1
  have f1 := S1.out.rs.f1
  go_upto_region 3 with fail
  clear c1 f1
  generalize hW : World.setCell _ _ _ = W_S2
  have S2 := Lib.hid (S1.out.go (p + 1) hW)
  clear hW
  have P := Lib.hid (some_no (Lib.hid isT_sym) (Lib.hid S2.out.rs) hl hcap (by omega) (by omega) h)
  clear h
  go_wp2_with (go_at_call 71; refine (P.out).mono ?_; rintro e w1 ⟨rfl, B1⟩)
  exact ⟨rfl, rfl, S2.out.but.trans B1.out⟩

set_option maxRecDepth 100000 in
set_option maxHeartbeats 2000000 in
theorem tbar_ok {w : World} {R : Nat} {A : Option Addr} {bs : List UInt8} {cb p : Nat} (H : Hid (Rs w R A bs cb p)) (hl : bs.length ≤ 100000000) (hcap : bs.length ≤ cb) (hp : p < bs.length) (h : hereB bs (runE isBar bs (p + 1)) = 124) :
    Calls Tryd.prog 55 #[.pointer (some ⟨R, 0, none⟩)] w fun e w' => e = .returned (Tv 3 (cutL bs (p + 1) (runE isBar bs (p + 1))) p) ∧ Hid (Rs w' R A bs cb (runE isBar bs (p + 1) + 1)) ∧ Hid (But R w w') := by
  have this := And.intro hp (And.intro hl hcap)
  clear this
  have hA := H.out.lts (by omega)
  obtain ⟨Q, hQ⟩ : ∃ Q, runE isBar bs (p + 1) = Q := ⟨_, rfl⟩
  rw [hQ] at h ⊢
  have hQ1 : p + 1 ≤ Q := hQ ▸ runE_ge
  have hQ2 : Q ≤ bs.length := hQ ▸ runE_le (by omega)
  have HQ := Lib.hid hQ
  clear hQ
  go_enter Tryd.func55, Tryd.ntmps55
  go_upto_region 1 with fail
  generalize hW : w.alloc _ = W0
  have S0 := Lib.hid (P0.start H.out hW)
  clear hW
  have c1 := S0.out.rs.c1
  have sz := S0.out.sz
  go_upto_region 2 with fail
  generalize hW : W0.alloc _ = W1
  have S1 := Lib.hid (Pt.start S0.out 3 [] hW)
  clear hW c1 sz
  have c1 := S1.out.rs.c1
  have f1 := S1.out.rs.f1
  go_upto_region 3 with fail
  clear c1 f1
  generalize hW : World.setCell _ _ _ = W_S2
  have S2 := Lib.hid (S1.out.go (p + 1) hW)
  clear hW
  have P := run_any (Lib.hid isT_bar) (Lib.hid S2.out.rs) hl hcap (by omega) (by omega)
  rw [HQ.out] at P
  have P := Lib.hid P
  go_upto_region 4 with (go_at_call 72; refine (P.out).mono ?_; rintro e w1 ⟨rfl, H1, B1⟩; have S3 := Lib.hid (S2.out.call H1.out B1.out); have t1 := S3.out.t1; have tf := S3.out.tf)
  clear t1 tf
  generalize hW : World.setCell _ _ _ = W_S4
  have S4 := Lib.hid (S3.out.text hA (cutL bs (p + 1) Q) hW)
  clear hW
  have P2 := Lib.hid (pass_ok (c := 124) (Lib.hid S4.out.rs) hl hcap hQ2 h)
  clear h
  go_upto_region 5 with (go_at_call 74; refine (P2.out).mono ?_; rintro e w1 ⟨rfl, H2, B2⟩)
  have S5 := Lib.hid (S4.out.call H2.out B2.out)
  have t0 := S5.out.t0
  have t1 := S5.out.t1
  have t2 := S5.out.t2
  have r0 := S5.out.r0
  have r1 := S5.out.r1
  have r2 := S5.out.r2
  have rf := S5.out.rf
  go_wp2_with fail
  clear t0 t1 t2 r0 r1 r2 rf
  generalize hW : World.setCell _ _ _ = W9
  obtain ⟨e0, e1, e2, HR, HB⟩ := S5.out.fin hA hW
  clear hW
  (try simp only [Exit.inBlock, Exit.then])
  refine bodyPost_ret (v := Tv 3 (cutL bs (p + 1) Q) p) (by simp [results, Tv, Tryd.results55, go_sem, e0, e1, e2]) rfl ⟨rfl, HR, HB⟩

set_option maxRecDepth 100000 in
set_option maxHeartbeats 2000000 in
theorem tbar_no {w : World} {R : Nat} {A : Option Addr} {bs : List UInt8} {cb p : Nat} (H : Hid (Rs w R A bs cb p)) (hl : bs.length ≤ 100000000) (hcap : bs.length ≤ cb) (hp : p < bs.length) (h : hereB bs (runE isBar bs (p + 1)) ≠ 124) :
    Calls Tryd.prog 55 #[.pointer (some ⟨R, 0, none⟩)] w fun e w' => e = Pan (runE isBar bs (p + 1)) ∧ Hid (But R w w') := by
  have this := And.intro hp (And.intro hl hcap)
  clear this
  have hA := H.out.lts (by omega)
  obtain ⟨Q, hQ⟩ : ∃ Q, runE isBar bs (p + 1) = Q := ⟨_, rfl⟩
  rw [hQ] at h ⊢
  have hQ1 : p + 1 ≤ Q := hQ ▸ runE_ge
  have hQ2 : Q ≤ bs.length := hQ ▸ runE_le (by omega)
  have HQ := Lib.hid hQ
  clear hQ
  go_enter Tryd.func55, Tryd.ntmps55
  go_upto_region 1 with fail
  generalize hW : w.alloc _ = W0
  have S0 := Lib.hid (P0.start H.out hW)
  clear hW
  have c1 := S0.out.rs.c1
  have sz := S0.out.sz
  go_upto_region 2 with fail
  generalize hW : W0.alloc _ = W1
  have S1 := Lib.hid (Pt.start S0.out 3 [] hW)
  clear hW c1 sz
  have c1 := S1.out.rs.c1
  have f1 := S1.out.rs.f1
  go_upto_region 3 with fail
  clear c1 f1
  generalize hW : World.setCell _ _ _ = W_S2
  have S2 := Lib.hid (S1.out.go (p + 1) hW)
  clear hW
  have P := run_any (Lib.hid isT_bar) (Lib.hid S2.out.rs) hl hcap (by omega) (by omega)
  rw [HQ.out] at P
  have P := Lib.hid P
  go_upto_region 4 with (go_at_call 72; refine (P.out).mono ?_; rintro e w1 ⟨rfl, H1, B1⟩; have S3 := Lib.hid (S2.out.call H1.out B1.out); have t1 := S3.out.t1; have tf := S3.out.tf)
  clear t1 tf
  generalize hW : World.setCell _ _ _ = W_S4
  have S4 := Lib.hid (S3.out.text hA (cutL bs (p + 1) Q) hW)
  clear hW
  have P2 := Lib.hid (pass_no (c := 124) (Lib.hid S4.out.rs) hl hcap h)
  clear h
  go_wp2_with (go_at_call 74; refine (P2.out).mono ?_; rintro e w1 ⟨rfl, B2⟩)
  exact ⟨rfl, rfl, S4.out.but.trans B2.out⟩

theorem str_not {s : ByteArray} {l : List UInt8} (h : s.data.toList ≠ l) : ((s.toList == l) : Bool) = false := by
  rw [ByteArray.toList_eq]
  simpa using h
theorem str_yes {s : ByteArray} {l : List UInt8} (h : s.data.toList = l) : ((s.toList == l) : Bool) = true := by
  rw [ByteArray.toList_eq]
  simpa using h
def eqW (s : ByteArray) (k : Nat) : Bool := s.toList == reservedWords.getD k []
theorem res_or (s : ByteArray) : reservedWords.contains s.data.toList = (eqW s 0 || (eqW s 1 || (eqW s 2 || (eqW s 3 || (eqW s 4 || (eqW s 5 || (eqW s 6 || (eqW s 7 || (eqW s 8 || (eqW s 9 || (eqW s 10 || (eqW s 11 || eqW s 12)))))))))))) := by
  unfold eqW
  rw [ByteArray.toList_eq]
  generalize s.data.toList = l
  simp only [reservedWords, List.contains_cons, List.contains_nil, Bool.or_false]
  rfl
set_option maxRecDepth 100000 in
set_option maxHeartbeats 4000000 in
theorem isres_any (s : ByteArray) (w : World) :
    Calls Tryd.prog 78 #[.string s] w fun e w' => e = .returned (.bool (reservedWords.contains s.data.toList)) ∧ w = w' := by
  have E := Lib.hid (res_or s)
  generalize reservedWords.contains s.data.toList = r at *
  cases g0 : (s.toList == ([95] : List UInt8))
  · have G0 : Hid (eqW s 0 = false) := Lib.hid g0
    cases g1 : (s.toList == ([33] : List UInt8))
    · have G1 : Hid (eqW s 1 = false) := Lib.hid g1
      cases g2 : (s.toList == ([97, 115] : List UInt8))
      · have G2 : Hid (eqW s 2 = false) := Lib.hid g2
        cases g3 : (s.toList == ([108, 101, 116] : List UInt8))
        · have G3 : Hid (eqW s 3 = false) := Lib.hid g3
          cases g4 : (s.toList == ([101, 120, 105, 115, 116, 115] : List UInt8))
          · have G4 : Hid (eqW s 4 = false) := Lib.hid g4
            cases g5 : (s.toList == ([102, 111, 114, 97, 108, 108] : List UInt8))
            · have G5 : Hid (eqW s 5 = false) := Lib.hid g5
              cases g6 : (s.toList == ([109, 97, 116, 99, 104] : List UInt8))
              · have G6 : Hid (eqW s 6 = false) := Lib.hid g6
                cases g7 : (s.toList == ([112, 97, 114] : List UInt8))
                · have G7 : Hid (eqW s 7 = false) := Lib.hid g7
                  cases g8 : (s.toList == ([66, 73, 78, 65, 82, 89] : List UInt8))
                  · have G8 : Hid (eqW s 8 = false) := Lib.hid g8
                    cases g9 : (s.toList == ([68, 69, 67, 73, 77, 65, 76] : List UInt8))
                    · have G9 : Hid (eqW s 9 = false) := Lib.hid g9
                      cases g10 : (s.toList == ([72, 69, 88, 65, 68, 69, 67, 73, 77, 65, 76] : List UInt8))
                      · have G10 : Hid (eqW s 10 = false) := Lib.hid g10
                        cases g11 : (s.toList == ([78, 85, 77, 69, 82, 65, 76] : List UInt8))
                        · have G11 : Hid (eqW s 11 = false) := Lib.hid g11
                          cases g12 : (s.toList == ([83, 84, 82, 73, 78, 71] : List UInt8))
                          · have G12 : Hid (eqW s 12 = false) := Lib.hid g12
                            go_enter Tryd.func78, Tryd.ntmps78
                            go_wp2_with fail
                            go_ret
                            exact ⟨ret_bool (by rw [E.out, G0.out, G1.out, G2.out, G3.out, G4.out, G5.out, G6.out, G7.out, G8.out, G9.out, G10.out, G11.out, G12.out] <;> rfl), rfl⟩
                          · have G12 : Hid (eqW s 12 = true) := Lib.hid g12
                            go_enter Tryd.func78, Tryd.ntmps78
                            go_wp2_with fail
                            go_ret
                            exact ⟨ret_bool (by rw [E.out, G0.out, G1.out, G2.out, G3.out, G4.out, G5.out, G6.out, G7.out, G8.out, G9.out, G10.out, G11.out, G12.out] <;> rfl), rfl⟩
                        · have G11 : Hid (eqW s 11 = true) := Lib.hid g11
                          go_enter Tryd.func78, Tryd.ntmps78
                          go_wp2_with fail
                          go_ret
                          exact ⟨ret_bool (by rw [E.out, G0.out, G1.out, G2.out, G3.out, G4.out, G5.out, G6.out, G7.out, G8.out, G9.out, G10.out, G11.out] <;> rfl), rfl⟩
                      · have G10 : Hid (eqW s 10 = true) := Lib.hid g10
                        go_enter Tryd.func78, Tryd.ntmps78
                        go_wp2_with fail
                        go_ret
                        exact ⟨ret_bool (by rw [E.out, G0.out, G1.out, G2.out, G3.out, G4.out, G5.out, G6.out, G7.out, G8.out, G9.out, G10.out] <;> rfl), rfl⟩
                    · have G9 : Hid (eqW s 9 = true) := Lib.hid g9
                      go_enter Tryd.func78, Tryd.ntmps78
                      go_wp2_with fail
                      go_ret
                      exact ⟨ret_bool (by rw [E.out, G0.out, G1.out, G2.out, G3.out, G4.out, G5.out, G6.out, G7.out, G8.out, G9.out] <;> rfl), rfl⟩
                  · have G8 : Hid (eqW s 8 = true) := Lib.hid g8
                    go_enter Tryd.func78, Tryd.ntmps78
                    go_wp2_with fail
                    go_ret
                    exact ⟨ret_bool (by rw [E.out, G0.out, G1.out, G2.out, G3.out, G4.out, G5.out, G6.out, G7.out, G8.out] <;> rfl), rfl⟩
                · have G7 : Hid (eqW s 7 = true) := Lib.hid g7
                  go_enter Tryd.func78, Tryd.ntmps78
                  go_wp2_with fail
                  go_ret
                  exact ⟨ret_bool (by rw [E.out, G0.out, G1.out, G2.out, G3.out, G4.out, G5.out, G6.out, G7.out] <;> rfl), rfl⟩
              · have G6 : Hid (eqW s 6 = true) := Lib.hid g6
                go_enter Tryd.func78, Tryd.ntmps78
                go_wp2_with fail
                go_ret
                exact ⟨ret_bool (by rw [E.out, G0.out, G1.out, G2.out, G3.out, G4.out, G5.out, G6.out] <;> rfl), rfl⟩
            · have G5 : Hid (eqW s 5 = true) := Lib.hid g5
              go_enter Tryd.func78, Tryd.ntmps78
              go_wp2_with fail
              go_ret
              exact ⟨ret_bool (by rw [E.out, G0.out, G1.out, G2.out, G3.out, G4.out, G5.out] <;> rfl), rfl⟩
          · have G4 : Hid (eqW s 4 = true) := Lib.hid g4
            go_enter Tryd.func78, Tryd.ntmps78
            go_wp2_with fail
            go_ret
            exact ⟨ret_bool (by rw [E.out, G0.out, G1.out, G2.out, G3.out, G4.out] <;> rfl), rfl⟩
        · have G3 : Hid (eqW s 3 = true) := Lib.hid g3
          go_enter Tryd.func78, Tryd.ntmps78
          go_wp2_with fail
          go_ret
          exact ⟨ret_bool (by rw [E.out, G0.out, G1.out, G2.out, G3.out] <;> rfl), rfl⟩
      · have G2 : Hid (eqW s 2 = true) := Lib.hid g2
        go_enter Tryd.func78, Tryd.ntmps78
        go_wp2_with fail
        go_ret
        exact ⟨ret_bool (by rw [E.out, G0.out, G1.out, G2.out] <;> rfl), rfl⟩
    · have G1 : Hid (eqW s 1 = true) := Lib.hid g1
      go_enter Tryd.func78, Tryd.ntmps78
      go_wp2_with fail
      go_ret
      exact ⟨ret_bool (by rw [E.out, G0.out, G1.out] <;> rfl), rfl⟩
  · have G0 : Hid (eqW s 0 = true) := Lib.hid g0
    go_enter Tryd.func78, Tryd.ntmps78
    go_wp2_with fail
    go_ret
    exact ⟨ret_bool (by rw [E.out, G0.out] <;> rfl), rfl⟩

set_option maxRecDepth 100000 in
set_option maxHeartbeats 2000000 in
theorem tword_sym {w : World} {R : Nat} {A : Option Addr} {bs : List UInt8} {cb p : Nat} (H : Hid (Rs w R A bs cb p)) (hl : bs.length ≤ 100000000) (hcap : bs.length ≤ cb) (hp : p < bs.length) (h : reservedWords.contains (cutL bs p (runE isInner bs p)) = false) :
    Calls Tryd.prog 57 #[.pointer (some ⟨R, 0, none⟩)] w fun e w' => e = .returned (Tv 3 (cutL bs p (runE isInner bs p)) p) ∧ Hid (Rs w' R A bs cb (runE isInner bs p)) ∧ Hid (But R w w') := by
  have this := And.intro hp (And.intro hl hcap)
  clear this
  have hA := H.out.lts (by omega)
  obtain ⟨Q, hQ⟩ : ∃ Q, runE isInner bs (p) = Q := ⟨_, rfl⟩
  rw [hQ] at h ⊢
  have hQ1 : p ≤ Q := hQ ▸ runE_ge
  have hQ2 : Q ≤ bs.length := hQ ▸ runE_le (by omega)
  have HQ := Lib.hid hQ
  clear hQ
  obtain ⟨T, hT⟩ : ∃ T, cutL bs p Q = T := ⟨_, rfl⟩
  rw [hT] at h ⊢
  have HT := Lib.hid hT
  clear hT
  go_enter Tryd.func57, Tryd.ntmps57
  go_upto_region 1 with fail
  generalize hW : w.alloc _ = W0
  have S0 := Lib.hid (P0.start H.out hW)
  clear hW
  have c1 := S0.out.rs.c1
  have sz := S0.out.sz
  go_upto_region 2 with fail
  generalize hW : W0.alloc _ = W1
  have S1 := Lib.hid (Pt.start S0.out 3 [] hW)
  clear hW c1 sz
  have P := run_any (Lib.hid isT_sym) (Lib.hid S1.out.rs) hl hcap (by omega) (by omega)
  rw [HQ.out, HT.out] at P
  have P := Lib.hid P
  go_upto_region 3 with (go_at_call 72; refine (P.out).mono ?_; rintro e w1 ⟨rfl, H1, B1⟩; have S3 := Lib.hid (S1.out.call H1.out B1.out); have t1 := S3.out.t1; have tf := S3.out.tf)
  clear t1 tf
  generalize hW : World.setCell _ _ _ = W_S4
  have S4 := Lib.hid (S3.out.text hA (T) hW)
  clear hW
  have P2 := isres_any ⟨T.toArray⟩
  rw [show (⟨T.toArray⟩ : ByteArray).data.toList = T from rfl, h] at P2
  have P2 := Lib.hid P2
  have t1 := S4.out.t1
  clear h
  go_upto_region 5 with (go_at_call 78; refine (P2.out _).mono ?_; rintro e w1 ⟨rfl, rfl⟩)
  clear t1
  have t0 := S4.out.t0
  have t1 := S4.out.t1
  have t2 := S4.out.t2
  have r0 := S4.out.r0
  have r1 := S4.out.r1
  have r2 := S4.out.r2
  have rf := S4.out.rf
  go_wp2_with fail
  clear t0 t1 t2 r0 r1 r2 rf
  generalize hW : World.setCell _ _ _ = W9
  obtain ⟨e0, e1, e2, HR, HB⟩ := S4.out.fin hA hW
  clear hW
  (try simp only [Exit.inBlock, Exit.then])
  refine bodyPost_ret (v := Tv 3 T p) (by simp [results, Tv, Tryd.results57, go_sem, e0, e1, e2]) rfl ⟨rfl, HR, HB⟩

set_option maxRecDepth 100000 in
set_option maxHeartbeats 2000000 in
theorem tword_res {w : World} {R : Nat} {A : Option Addr} {bs : List UInt8} {cb p : Nat} (H : Hid (Rs w R A bs cb p)) (hl : bs.length ≤ 100000000) (hcap : bs.length ≤ cb) (hp : p < bs.length) (h : reservedWords.contains (cutL bs p (runE isInner bs p)) = true) :
    Calls Tryd.prog 57 #[.pointer (some ⟨R, 0, none⟩)] w fun e w' => e = .returned (Tv 4 (cutL bs p (runE isInner bs p)) p) ∧ Hid (Rs w' R A bs cb (runE isInner bs p)) ∧ Hid (But R w w') := by
  have this := And.intro hp (And.intro hl hcap)
  clear this
  have hA := H.out.lts (by omega)
  obtain ⟨Q, hQ⟩ : ∃ Q, runE isInner bs (p) = Q := ⟨_, rfl⟩
  rw [hQ] at h ⊢
  have hQ1 : p ≤ Q := hQ ▸ runE_ge
  have hQ2 : Q ≤ bs.length := hQ ▸ runE_le (by omega)
  have HQ := Lib.hid hQ
  clear hQ
  obtain ⟨T, hT⟩ : ∃ T, cutL bs p Q = T := ⟨_, rfl⟩
  rw [hT] at h ⊢
  have HT := Lib.hid hT
  clear hT
  go_enter Tryd.func57, Tryd.ntmps57
  go_upto_region 1 with fail
  generalize hW : w.alloc _ = W0
  have S0 := Lib.hid (P0.start H.out hW)
  clear hW
  have c1 := S0.out.rs.c1
  have sz := S0.out.sz
  go_upto_region 2 with fail
  generalize hW : W0.alloc _ = W1
  have S1 := Lib.hid (Pt.start S0.out 3 [] hW)
  clear hW c1 sz
  have P := run_any (Lib.hid isT_sym) (Lib.hid S1.out.rs) hl hcap (by omega) (by omega)
  rw [HQ.out, HT.out] at P
  have P := Lib.hid P
  go_upto_region 3 with (go_at_call 72; refine (P.out).mono ?_; rintro e w1 ⟨rfl, H1, B1⟩; have S3 := Lib.hid (S1.out.call H1.out B1.out); have t1 := S3.out.t1; have tf := S3.out.tf)
  clear t1 tf
  generalize hW : World.setCell _ _ _ = W_S4
  have S4 := Lib.hid (S3.out.text hA (T) hW)
  clear hW
  have P2 := isres_any ⟨T.toArray⟩
  rw [show (⟨T.toArray⟩ : ByteArray).data.toList = T from rfl, h] at P2
  have P2 := Lib.hid P2
  have t1 := S4.out.t1
  clear h
  go_upto_region 4 with (go_at_call 78; refine (P2.out _).mono ?_; rintro e w1 ⟨rfl, rfl⟩)
  clear t1
  have t0 := S4.out.t0
  have tf := S4.out.tf
  go_upto_region 5 with fail
  clear t0 tf
  generalize hW : World.setCell _ _ _ = W5
  have S5 := Lib.hid (S4.out.kind hA 4 hW)
  clear hW
  have t0 := S5.out.t0
  have t1 := S5.out.t1
  have t2 := S5.out.t2
  have r0 := S5.out.r0
  have r1 := S5.out.r1
  have r2 := S5.out.r2
  have rf := S5.out.rf
  go_wp2_with fail
  clear t0 t1 t2 r0 r1 r2 rf
  generalize hW : World.setCell _ _ _ = W9
  obtain ⟨e0, e1, e2, HR, HB⟩ := S5.out.fin hA hW
  clear hW
  (try simp only [Exit.inBlock, Exit.then])
  refine bodyPost_ret (v := Tv 4 T p) (by simp [results, Tv, Tryd.results57, go_sem, e0, e1, e2]) rfl ⟨rfl, HR, HB⟩

set_option maxRecDepth 100000 in
set_option maxHeartbeats 2000000 in
theorem tnone {w : World} {R : Nat} {A : Option Addr} {bs : List UInt8} {cb p : Nat} (H : Hid (Rs w R A bs cb p)) (hl : bs.length ≤ 100000000) (hcap : bs.length ≤ cb) (hp : p < bs.length) :
    Calls Tryd.prog 58 #[.pointer (some ⟨R, 0, none⟩)] w fun e w' => e = Pan (p) ∧ Hid (But R w w') := by
  have this := And.intro hp (And.intro hl hcap)
  clear this
  have hA := H.out.lts (by omega)
  go_enter Tryd.func58, Tryd.ntmps58
  go_upto_region 1 with fail
  generalize hW : w.alloc _ = W0
  have S0 := Lib.hid (P0.start H.out hW)
  clear hW
  have P := Lib.hid (refuse_any (Lib.hid S0.out.rs))
  go_wp2_with (go_at_call 70; refine (P.out).mono ?_; rintro e w1 ⟨rfl, rfl⟩)
  exact ⟨rfl, rfl, S0.out.but⟩

end Go.Proofs.YtmnllioeaaimcaaDoor.tk
