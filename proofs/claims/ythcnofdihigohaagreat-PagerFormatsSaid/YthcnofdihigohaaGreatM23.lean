/- Texts QTorn3 to XFrm of this seat, laid into one. -/
import Derived.Deep.Cut
import Derived.Deep.DeepCutAuto
import Derived.Test.YthcnofdihigohaaGreatM22
section
/- What a failure leaves of a Format that was cut: without memory. -/
set_option maxRecDepth 20000
set_option linter.unusedSimpArgs false
namespace Go.Proofs.YthcnofdihigohaaGreat
open Go.RowKit

/-- The document's space without pages. -/
def Xv.bare (e : Int) : Xv := ⟨fun _ => [], fun _ => [], fun _ => false, 0, e⟩
section
variable {m m2 : Dsk} {s s1 : Sp} {pg : Nat} {x : Xv}
/-- A state whose pages are held by the space that was laid. -/
theorem Was.opn2 (h : Inv m s pg) (hh : ∀ p, usF s.g.r s.g.lv s.g.tb p = true → heldS s1 p = true) (hu : Up m2 m.out.length) (hw : Was m s1 s.g.r m2) : Opn m2 s.g pg := by
  have hln := h.len
  refine open_up (by rw [← hln]; exact hu) h.sp.base.p4 h.sp.g h.sp.pgE (h.sp.lies.stay h.sp.g hw.len fun p hp => ?_) hw.rt
  exact hw.page p (us_two h.sp hp) (hh p hp)
theorem Was.com2 (h : Inv m s pg) (hh : ∀ p, usF s.g.r s.g.lv s.g.tb p = true → heldS s1 p = true) (hw : Was m s1 s.g.r m2) (l : Nat) : comS s m2.out l = comS s m.out l := by
  unfold comS
  by_cases h0 : s.g.tb l = 0
  · rw [if_pos h0, if_pos h0]
  · rw [if_neg h0, if_neg h0]
    have hl := (h.sp.tbLt l h0).1
    have hu : usF s.g.r s.g.lv s.g.tb (s.g.tb l) = true := usF_iff.2 ⟨h0, l + 5, by omega, lab_tb _ _ _ _⟩
    exact hw.page _ (us_two h.sp hu) (hh _ hu)
theorem Was.sim2 (h : Inv m s pg) (hh : ∀ p, usF s.g.r s.g.lv s.g.tb p = true → heldS s1 p = true) (hu : Up m2 m.out.length) (hw : Was m s1 s.g.r m2) (hs : Sim s m.out x) : Sim (openS m2) m2.out x.abort := by
  have ho := hw.opn2 h hh hu
  refine ⟨fun l hl => ?_, fun l hl => ?_, fun l _ => by rw [ho.fr]; rfl, by rw [ho.like.r]; exact hs.word, by rw [ho.like.r]; exact hs.ep⟩
  · show x.com l = _
    rw [hs.com l hl, ← hw.com2 h hh l]; unfold comS; rw [ho.like.tb]
  · show x.com l = _
    rw [hs.com l hl, ← hw.com2 h hh l]; unfold comS nowS; rw [ho.fr, ho.kp]
/-- A disk on which a bare space was laid. -/
theorem bare_opn {e : Int} {u o : Option (Nat → Bool)} (h4 : 4 ≤ pg) (h5 : pg ≤ 512) (hlen : m.out.length = 4 * pg) (hN : needS (bareS e pg u o) ≤ (freeL (bareS e pg u o)).length) (hm : may (nextR (bareS e pg u o) 0) = true) (hu : Up m2 m.out.length) (hw : Now m (bareS e pg u o) (nextR (bareS e pg u o) 0) m2) :
    Opn m2 (commS (bareS e pg u o) (nextR (bareS e pg u o) 0)).g pg ∧ Sim (openS m2) m2.out (Xv.bare (e + 1)) := by
  have hB := bare_base e pg u o h4 h5
  have hT : ∀ l, plT (bareS e pg u o) l = 0 := bare_plT e pg u o
  have hO := bare_old e pg u o m.out
  have hpgE : (bareS e pg u o).g.r.pg = (pg : Int) := rfl
  have hep : (bareS e pg u o).g.r.ep = e := rfl
  generalize bareS e pg u o = s at *
  have hc : SpGood (commS s (nextR s 0)) m2.out pg := Base.comm (r := nextR s 0) hB hO (by omega) hN hpgE hm hw.len (fun p hp => hw.page p hp)
  have ho : Opn m2 (commS s (nextR s 0)).g pg := open_up (by rw [← hlen]; exact hu) h4 hc.g hc.pgE hc.lies hw.rt
  have htb : ∀ l, (openS m2).g.tb l = 0 := fun l => by rw [ho.like.tb]; exact hT l
  have hkp : ∀ l, (openS m2).kp l = 0 := fun l => by rw [ho.kp]; exact hT l
  refine ⟨ho, ⟨fun l _ => ?_, fun l _ => ?_, fun l _ => by rw [ho.fr]; rfl, ?_, ?_⟩⟩
  · show [] = comS _ _ l
    unfold comS; rw [if_pos (htb l)]
  · show [] = nowS _ _ l
    unfold nowS; rw [ho.fr]
    show [] = (if (openS m2).kp l = 0 then [] else _)
    rw [if_pos (hkp l)]
  · rw [ho.like.r]; rfl
  · rw [ho.like.r]
    show e + 1 = s.g.r.ep + 1
    rw [hep]
end
theorem plE_four {x : List Nat} (h : decE x = 4) (k : Int) : plE x k = 4 := by unfold plE; rw [if_neg (by rw [h]; omega), h]
/-- Nothing is opened of a disk that has no block. -/
theorem none_open {m2 : Dsk} {n : Nat} (hu : Up m2 n) (hn : 16 ≤ n) (h0 : sec m2.out 0 = zs128) (h4 : sec m2.out 4 = zs128 ∨ decE (sec m2.out 4) = 4) : openE m2 = 5 := by
  have hla : m2.last = m2.out := by unfold Dsk.last; rw [hu.row]; rfl
  have hln := hu.len
  have e0 : readS m2 ((0 : Nat) : Int) = zs128 := (readS_up (m := m2) (i := 0) hu.up (by omega)).trans (by rw [hla]; exact h0)
  have e4 : readS m2 ((4 : Nat) : Int) = sec m2.out 4 := (readS_up (m := m2) (i := 4) hu.up (by omega)).trans (by rw [hla])
  have h := (ld_nw hu.up (by omega) e0 e4).1
  have hz : nwE zs128 (sec m2.out 4) = 5 := by
    rcases h4 with h4 | h4
    · rw [h4]; exact nw_zs.1
    · unfold nwE
      rw [plE_zs, plE_four h4]; rfl
  unfold openE
  rw [h, hz]; rfl
/-- What a Format that may be cut lays. -/
def fmtM (s1 : Sp) (m : Dsk) : Dsk × Int := layM m (plW s1 (nextR s1 0)) (planRt s1 (nextR s1 0))
/-- Behind a Format of a new disk that may be cut. -/
theorem fmt_new (cut : Int) (kp : Nat → Bool) (t a : Int) {s1 : Sp} (hs1 : bareS 0 24 none none = s1) {M : Dsk × Int} (hMM : fmtM s1 (fuseM (newM 96) cut) = M) :
    (M.2 = 0 ∨ M.2 = 9) ∧ M.1.row.length ≤ 7 ∧ (Ok M.1 → (M.2 = 9 ∧ openE (failS M.1 kp t a) = 5 ∧ (failS M.1 kp t a).out.length = 96) ∨ ∃ st, Opn (failS M.1 kp t a) st 24 ∧ st.r.ep = 1 ∧ Sim (openS (failS M.1 kp t a)) (failS M.1 kp t a).out (Xv.bare 1)) := by
  have hN := first_free (pg := 24) (by omega) (by omega)
  have hm := first_may (pg := 24) (by omega) (by omega)
  have hB := bare_base 0 24 none none (by omega) (by omega)
  have hnd := bare_need 0 24 none none
  have hpgE : (nextR (bareS 0 24 none none) 0).pg = ((24 : Nat) : Int) := rfl
  have hepE : (nextR (bareS 0 24 none none) 0).ep = 1 := rfl
  have hbo : ∀ {m2 : Dsk}, Up m2 (newM 96).out.length → Now (newM 96) (bareS 0 24 none none) (nextR (bareS 0 24 none none) 0) m2 → Opn m2 (commS (bareS 0 24 none none) (nextR (bareS 0 24 none none) 0)).g 24 ∧ Sim (openS m2) m2.out (Xv.bare (0 + 1)) := fun hu hw => bare_opn (m := newM 96) (by omega) (by omega) (new_len 96) hN hm hu hw
  rw [hs1] at hN hm hB hnd hpgE hepE
  have hbo : ∀ {m2 : Dsk}, Up m2 (newM 96).out.length → Now (newM 96) s1 (nextR s1 0) m2 → Opn m2 (commS s1 (nextR s1 0)).g 24 ∧ Sim (openS m2) m2.out (Xv.bare (0 + 1)) := hs1 ▸ hbo
  clear hs1
  have hM : Mays (planRt s1 (nextR s1 0)) := plan_mays hB hN hpgE hm
  have hlen := new_len 96
  have hpl : (4 : Nat) = (if (nextR s1 0).ep % 2 = 1 then 4 else 0 : Nat) := by rw [hepE]; rfl
  obtain ⟨h1, h2, h3⟩ := cut_secs (m := newM 96) rfl rfl (pg := 24) hlen hB hN (r := nextR s1 0) hpgE hm hpl cut kp t a
  rw [hnd] at h2
  have hMM2 : layM (fuseM (newM 96) cut) (plW s1 (nextR s1 0)) (planRt s1 (nextR s1 0)) = M := hMM
  rw [hMM2] at h1 h2 h3
  clear hMM hMM2
  refine ⟨h1, h2, fun hok => ?_⟩
  have hu := failS_up hok kp t a
  generalize failS M.1 kp t a = m2 at *
  have hz : ∀ i, i < 96 → sec (newM 96).out i = zs128 := fun i hi => new_sec i hi
  have hnow : m2.out.length = (newM 96).out.length → (∀ p, 2 ≤ p → pageB m2.out p = pageB (wrP (newM 96).out (plW s1 (nextR s1 0))) p) → sec m2.out 0 = zs128 → sec m2.out 4 = block (planRt s1 (nextR s1 0)) → ∃ st, Opn m2 st 24 ∧ st.r.ep = 1 ∧ Sim (openS m2) m2.out (Xv.bare 1) := fun g1 g2 g3 g4 => by
    have hu2 : Up m2 (newM 96).out.length := ⟨hu.up, hu.row, hu.fuse, g1, hu.ok⟩
    have hrt : RootIs m2.out (planRt s1 (nextR s1 0)) := by
      refine ⟨hM, by rw [g3]; decide, by rw [g4]; exact block_len _, ?_, fun k hk => ?_⟩
      · have e4 : (planRt s1 (nextR s1 0)).ep = 1 := hepE
        rw [e4]; exact g4
      · have e4 : (planRt s1 (nextR s1 0)).ep = 1 := hepE
        rw [e4] at hk
        have hk : k = 0 := hk
        subst hk
        rw [g3, plE_zs]; exact .inl (by omega)
    obtain ⟨a1, a2⟩ := hbo hu2 ⟨g1, g2, hrt⟩
    exact ⟨_, a1, hepE, a2⟩
  rcases h3 with ⟨h4, h5⟩ | h5
  · have g0 : sec m2.out 0 = zs128 := (h5.low 0 (by omega) (by omega)).trans (hz 0 (by omega))
    have hu2 : Up m2 96 := ⟨hu.up, hu.row, hu.fuse, h5.len.trans hlen, hu.ok⟩
    rcases h5.at_ with h6 | ⟨⟨c, hc, h6⟩, h7⟩
    · exact .inl ⟨h4, none_open hu2 (by omega) g0 (.inl (h6.trans (hz 4 (by omega)))), hu2.len⟩
    · rw [hz 4 (by omega), ← oldB_none] at h6
      rcases torn_three (was := Rt.none_) (.inl rfl) hM (by have e4 : (planRt s1 (nextR s1 0)).ep = 1 := hepE; rw [e4]; decide) hc with h8 | h8 | h8
      · exact .inl ⟨h4, none_open hu2 (by omega) g0 (.inr (by rw [h6]; exact h8)), hu2.len⟩
      · exact .inl ⟨h4, none_open hu2 (by omega) g0 (.inl (by rw [h6, h8, oldB_none])), hu2.len⟩
      · exact .inr (hnow h5.len h7 g0 (h6.trans h8))
  · exact .inr (hnow h5.len h5.page ((h5.low 0 (by omega) (by omega)).trans (hz 0 (by omega))) h5.at_)
/-- What Format lays over a disk with a state. -/
theorem fmt_over {m : Dsk} {s : Sp} {pg : Nat} (h : Inv m s pg) (cut : Int) : ldE (fuseM m cut) = 0 ∧ ∃ u o, fmtS (fuseM m cut) = bareS s.g.r.ep pg u o ∧ ∀ p, usF s.g.r s.g.lv s.g.tb p = true → heldS (bareS s.g.r.ep pg u o) p = true := by
  have hp := h.sp.pgs
  have hl := h.len
  have hla : (fuseM m cut).last = m.out := h.last
  have hlo : (fuseM m cut).out.length = m.out.length := rfl
  obtain ⟨h1, h2⟩ := ld_root (m := fuseM m cut) (r := s.g.r) h.up (by omega) (by rw [hla]; exact h.rt)
  have hL := load_lies (m := fuseM m cut) h.sp.g (by rw [hla]; exact h.sp.lies)
  have hus : usedM (fuseM m cut) s.g.r = some (usF s.g.r s.g.lv s.g.tb) := by
    unfold usedM
    rw [if_pos hL.er, hL.us, h.sp.g.us]
  have hpg : pgOf (fuseM m cut) = pg := by
    unfold pgOf
    rw [hlo, hl]; omega
  refine ⟨h1, some (usF s.g.r s.g.lv s.g.tb), usedM (fuseM m cut) (ldB (fuseM m cut)), ?_, fun p hpp => ?_⟩
  · rw [fmt_bare, h2, hus, hpg]
  · unfold heldS orB bareS
    simp [hpp]
/-- Behind a Format of a disk with a state that may be cut. -/
theorem fmt_after {m : Dsk} {s : Sp} {pg : Nat} {x : Xv} (h : Inv m s pg) (hO : RootO m.out s.g.r) (hx : Sim s m.out x) {u o : Option (Nat → Bool)} (hh : ∀ p, usF s.g.r s.g.lv s.g.tb p = true → heldS (bareS s.g.r.ep pg u o) p = true)
    (hN : needS (bareS s.g.r.ep pg u o) ≤ (freeL (bareS s.g.r.ep pg u o)).length) (hm : may (nextR (bareS s.g.r.ep pg u o) 0) = true) (cut : Int) (kp : Nat → Bool) (t a : Int) {s1 : Sp} (hs1 : bareS s.g.r.ep pg u o = s1) {M : Dsk × Int} (hMM : fmtM s1 (fuseM m cut) = M) :
    (M.2 = 0 ∨ M.2 = 9) ∧ M.1.row.length ≤ 7 ∧ (Ok M.1 → (M.2 = 9 ∧ Opn (failS M.1 kp t a) s.g pg ∧ Sim (openS (failS M.1 kp t a)) (failS M.1 kp t a).out x.abort) ∨ ∃ st, Opn (failS M.1 kp t a) st pg ∧ st.r.ep = s.g.r.ep + 1 ∧ Sim (openS (failS M.1 kp t a)) (failS M.1 kp t a).out (Xv.bare (s.g.r.ep + 1))) := by
  have hp := h.sp.pgs
  have hB := bare_base s.g.r.ep pg u o hp.1 hp.2.1
  have hnd := bare_need s.g.r.ep pg u o
  have hpgE : (nextR (bareS s.g.r.ep pg u o) 0).pg = (pg : Int) := rfl
  have hepE : (nextR (bareS s.g.r.ep pg u o) 0).ep = s.g.r.ep + 1 := rfl
  have hbo : ∀ {m2 : Dsk}, Up m2 m.out.length → Now m (bareS s.g.r.ep pg u o) (nextR (bareS s.g.r.ep pg u o) 0) m2 → Opn m2 (commS (bareS s.g.r.ep pg u o) (nextR (bareS s.g.r.ep pg u o) 0)).g pg ∧ Sim (openS m2) m2.out (Xv.bare (s.g.r.ep + 1)) := fun hu hw => bare_opn hp.1 hp.2.1 h.len hN hm hu hw
  rw [hs1] at hN hm hB hnd hpgE hepE hh
  have hbo : ∀ {m2 : Dsk}, Up m2 m.out.length → Now m s1 (nextR s1 0) m2 → Opn m2 (commS s1 (nextR s1 0)).g pg ∧ Sim (openS m2) m2.out (Xv.bare (s.g.r.ep + 1)) := hs1 ▸ hbo
  clear hs1
  have hM : Mays (planRt s1 (nextR s1 0)) := plan_mays hB hN hpgE hm
  obtain ⟨h1, h2, h3⟩ := cut_secs h.up h.row h.len hB hN (r := nextR s1 0) hpgE hm rfl cut kp t a
  rw [hnd] at h2
  have hMM2 : layM (fuseM m cut) (plW s1 (nextR s1 0)) (planRt s1 (nextR s1 0)) = M := hMM
  rw [hMM2] at h1 h2 h3
  clear hMM hMM2
  refine ⟨h1, h2, fun hok => ?_⟩
  have hu := failS_up hok kp t a
  generalize failS M.1 kp t a = m2 at *
  have hnow : Now m s1 (nextR s1 0) m2 → ∃ st, Opn m2 st pg ∧ st.r.ep = s.g.r.ep + 1 ∧ Sim (openS m2) m2.out (Xv.bare (s.g.r.ep + 1)) := fun hw => by
    obtain ⟨a1, a2⟩ := hbo ⟨hu.up, hu.row, hu.fuse, hw.len, hu.ok⟩ hw
    exact ⟨_, a1, hepE, a2⟩
  rcases h3 with ⟨h4, h5⟩ | h5
  · rcases h5.cases h.rt hO hM hepE rfl with h6 | h6
    · have hu2 : Up m2 m.out.length := ⟨hu.up, hu.row, hu.fuse, h6.len, hu.ok⟩
      exact .inl ⟨h4, h6.opn2 h hh hu2, h6.sim2 h hh hu2 hx⟩
    · exact .inr (hnow h6)
  · exact .inr (hnow (h5.now h.rt hM hepE rfl))
end Go.Proofs.YthcnofdihigohaaGreat
end
section
/- Format over a disk with a fuse, and what is opened behind it. -/
set_option maxRecDepth 20000
set_option linter.unusedSimpArgs false
namespace Go.Proofs.YthcnofdihigohaaGreat
open Go.RowKit

section
variable {b : Nat} {w : World} {d g X : Nat} {m : Dsk} {s : Sp} {pg : Nat} {x y : Xv} {k : Nat}
/-- The disk alone, and the document's space. -/
theorem Duo.cutd (h : Duo b w d g X m s pg x y k) : Cutd b w d 0 X x (m, 0) := by
  obtain ⟨F, G, hD, hS, hge⟩ := h.mem
  exact ⟨⟨F, hD, fun k hk => hge k (List.mem_append_left _ hk)⟩, h.xb, h.xge, fun e => absurd rfl e, h.bl⟩
theorem new_cutd (h : Xb w X x) (hX : b ≤ X) (hb : b ≤ w.heap.size) : Calls Tryz.prog 39 #[.int .i64 96] w fun e w' => ∃ d2, e = .returned (.tuple #[.pointer (some ⟨d2, 0, none⟩), .int .i64 0]) ∧ Cutd b w' d2 0 X x (newM 96, 0) ∧ Below b w w' :=
  (new_any 96 w (by omega) (by omega)).mono fun e w' ⟨d2, F, he, hD, hF, hbl⟩ => ⟨d2, he, ⟨⟨F, hD, fun k hk => Nat.le_trans hb (hF k hk)⟩, h.below hbl, hX, fun e => absurd rfl e, Nat.le_trans hb hbl.size⟩, hbl.mono hb⟩
theorem still_cutd (h : Cutd b w d g X x (m, 0)) (hr : m.row = []) (hf : m.fuse = -1) (hd : m.down = false) : Calls Tryz.prog 40 #[.pointer (some ⟨d, 0, none⟩), .slice none 0 0, .int .i64 (-1), .int .i64 0] w fun e w' => e = .returned (.tuple #[]) ∧ (Calls Tryz.prog 41 #[.pointer (some ⟨d, 0, none⟩)] w' fun e w2 => e = .returned (.tuple #[]) ∧ Cutd b w2 d g X x (m, 0) ∧ Below b w w2) := by
  obtain ⟨F, hD, hge⟩ := h.mem
  have hD0 := hD
  obtain ⟨bO, cO, bL, cL, vW, os, ls, ws, hD, rfl⟩ := hD
  refine (fail_any hD (by rw [show (m, (0 : Int)).1.row = [] from hr]; exact Nat.zero_le _) none 0 0 (fun _ => false) (fun hn => absurd hn (by omega)) (fun hn => absurd hn (by omega)) (by omega) (-1) 0).mono ?_
  rintro e w' ⟨rfl, F1, hD1, hc1⟩
  refine ⟨rfl, ?_⟩
  have hD10 := hD1
  obtain ⟨bO1, cO1, bL1, cL1, vW1, os1, ls1, ws1, hD1, rfl⟩ := hD1
  refine (start_down hD1 rfl).mono ?_
  rintro e w2 ⟨rfl, F2, hD2, hc2⟩
  rw [fail_start m hr hf hd] at hD2
  have hc := hc1.trans hc2
  obtain ⟨cs, hx, _⟩ := h.xb.box
  exact ⟨rfl, ⟨⟨F2, hD2, hc.ge hge h.bl⟩, h.xb.same ((hc.keep hD0.typed hx (by decide)).trans hx.symm), h.xge, fun e => absurd rfl e, Nat.le_trans h.bl hc.size⟩, hc.belowB hge h.bl⟩
theorem rabort_cutd (h : Cutd b w d g X x (m, 0)) : Calls Tryz.prog 29 #[.pointer (some ⟨X, 0, none⟩)] w fun e w' => e = .returned (.tuple #[]) ∧ Cutd b w' d g X x.abort (m, 0) ∧ Below b w w' := by
  obtain ⟨F, hD, hge⟩ := h.mem
  refine (rabort_any h.xb).mono ?_
  rintro e w' ⟨rfl, hx, hO⟩
  exact ⟨rfl, ⟨⟨F, hD.stay3 hO h.xb.isX, hge⟩, hx, h.xge, fun e => absurd rfl e, Nat.le_trans h.bl hO.size⟩, hO.belowB h.xge h.bl⟩
theorem fuse_cutd (h : Cutd b w d g X x (m, 0)) (cut : Int) (h0 : 0 ≤ cut) (h1 : cut ≤ 9223372036854775807) : Calls Tryz.prog 23 #[.pointer (some ⟨d, 0, none⟩), .int .i64 cut] w fun e w' => e = .returned (.tuple #[]) ∧ Cutd b w' d g X x (fuseM m cut, 0) ∧ Below b w w' := by
  obtain ⟨F, hD, hge⟩ := h.mem
  have hD0 := hD
  obtain ⟨bO, cO, bL, cL, vW, os, ls, ws, hD, rfl⟩ := hD
  refine (fuse_any hD cut (by omega) h1).mono ?_
  rintro e w' ⟨rfl, hD1, hc⟩
  obtain ⟨cs, hx, _⟩ := h.xb.box
  exact ⟨rfl, ⟨⟨foot d bO bL vW, ⟨_, _, _, _, _, _, _, _, hD1, rfl⟩, hge⟩, h.xb.same ((hc.keep hD0.typed hx (by decide)).trans hx.symm), h.xge, fun e => absurd rfl e, Nat.le_trans h.bl hc.size⟩, hc.belowB hge h.bl⟩
theorem format_cutd {ep : Int} {u o : Option (Nat → Bool)} (h : Cutd b w d g X x (m, 0)) (hup : m.down = false) (hrow : m.row = []) (hlen : m.out.length = 4 * pg) (hE : ldE m = 0 ∨ ldE m = 5 ∨ ldE m = 13) (hf : fmtS m = bareS ep pg u o) (h4 : 4 ≤ pg) (h5 : pg ≤ 512) (he : 0 ≤ ep ∧ ep ≤ 1000) (hdn : m.done ≤ 250000) (hm : may (nextR (bareS ep pg u o) 0) = true) :
    Calls Tryz.prog 9 #[.pointer (some ⟨d, 0, none⟩)] w fun e w' => ∃ P E, e = .returned (.tuple #[.pointer P, .int .i64 E]) ∧ ((E = 0 ∧ ∃ g', P = some ⟨g', 0, none⟩) ∨ (E ≠ 0 ∧ P = none)) ∧
      (((freeL (bareS ep pg u o)).length < needS (bareS ep pg u o) ∧ E = 8) ∨ (needS (bareS ep pg u o) ≤ (freeL (bareS ep pg u o)).length ∧ E = (fmtM (bareS ep pg u o) m).2 ∧ Cutd b w' d 0 X x ((fmtM (bareS ep pg u o) m).1, 0))) ∧ Below b w w' := by
  obtain ⟨F, hD, hge⟩ := h.mem
  refine (format_go hD hup (by show m.out.length ≤ 2048; omega) hE (fun g E w' => (((freeL (bareS ep pg u o)).length < needS (bareS ep pg u o) ∧ E = 8) ∨ (needS (bareS ep pg u o) ≤ (freeL (bareS ep pg u o)).length ∧ E = (fmtM (bareS ep pg u o) m).2 ∧ Cutd b w' d 0 X x ((fmtM (bareS ep pg u o) m).1, 0))) ∧ Below b w w') ?_).mono (fun e w' ⟨g', E, h1, h2, h3⟩ => ⟨_, E, h1, by
    by_cases h0 : E = 0
    · exact .inl ⟨h0, g', if_pos h0⟩
    · exact .inr ⟨h0, if_neg h0⟩, h2, h3⟩)
  intro u1 g1 pt pk mb pu po hS hb k1 k2 k3 k4
  have hS : Spc0 u1 g1 d pt pk mb pu po (fmtS m) := hS
  rw [hf] at hS
  have hB := bare_base ep pg u o h4 h5
  have hep : (bareS ep pg u o).g.r.ep = ep := rfl
  have hpgE : (bareS ep pg u o).g.r.pg = (pg : Int) := rfl
  have hnd := bare_need ep pg u o
  have hpl := plW_len (bareS ep pg u o) (nextR (bareS ep pg u o) 0)
  generalize bareS ep pg u o = s1 at *
  by_cases hfull : (freeL s1).length < needS s1
  · refine (commit_full hS 0 ⟨by omega, by omega⟩ hm pg hpgE h5 hfull).mono ?_
    rintro e w' ⟨rfl, hb2⟩
    exact ⟨8, rfl, .inl ⟨hfull, rfl⟩, (Below.more hb hb2 hb.size).mono h.bl⟩
  · have hN : needS s1 ≤ (freeL s1).length := Nat.le_of_not_lt hfull
    refine (commit_go hS (hD.below hb) 0 ⟨by omega, by omega⟩ hm pg hpgE h5 hN (fun k hk => ?_) (by omega) (plan_mays hB hN hpgE hm) (by show s1.g.r.pg * 4 ≤ (m.out.length : Int); omega) (by show m.done ≤ _; omega) (by show m.row.length ≤ _; rw [hrow]; exact Nat.zero_le _)).mono ?_
    · have h1 := plW_ok hB hN (nextR s1 0) (getD_memP hk)
      exact ⟨h1.1, h1.2.1, by have := h1.2.2; omega⟩
    · rintro e w' ⟨rfl, F', G', hD', hC, hR⟩
      have hgen : ∀ k ∈ F ++ [g1, pt, pk, mb], b ≤ k := fun k hk => by
        rcases List.mem_append.1 hk with h1 | h1
        · exact hge k h1
        · have hbw := h.bl
          simp only [List.mem_cons, List.not_mem_nil, or_false] at h1
          rcases h1 with rfl | rfl | rfl | rfl <;> omega
      have hu1 : b ≤ u1.heap.size := Nat.le_trans h.bl hb.size
      refine ⟨_, rfl, .inr ⟨hN, rfl, ⟨⟨F', hD', fun j hj => hC.ge hgen hu1 j (List.mem_append_left _ hj)⟩, (h.xb.below hb).chg (hD.below hb) ⟨pt, pk, mb, pu, po, hS, rfl⟩ hC, h.xge, fun e => absurd rfl e, Nat.le_trans hu1 hC.size⟩⟩, (hb.mono h.bl).trans (hC.belowB hgen hu1)⟩
theorem open_none {m2 : Dsk} (h : Cutd b w d g X x (m2, 0)) (h5 : openE m2 = 5) (hup : m2.down = false) (hl : m2.out.length ≤ 2048) :
    Calls Tryz.prog 28 #[.pointer (some ⟨d, 0, none⟩)] w fun e w' => e = .returned (.tuple #[.pointer none, .int .i64 5]) ∧ Below b w w' := by
  obtain ⟨F, hD, hge⟩ := h.mem
  refine (open_sp hD hup hl).mono ?_
  rintro e w' ⟨hh, hb⟩
  rcases hh with ⟨_, he⟩ | ⟨h0, _⟩
  · have he : e = .returned (.tuple #[.pointer none, .int .i64 (openE m2)]) := he
    rw [h5] at he
    exact ⟨he, hb.mono h.bl⟩
  · have h0 : openE m2 = 0 := h0
    rw [h5] at h0; cases h0
theorem len_y (h : Duo b w d g X m s pg x y k) {n : Nat} (hn : Bi.cnt (nn y.now) 512 = n) : Calls Tryz.prog 26 #[.pointer (some ⟨g, 0, none⟩)] w fun e w' => e = .returned (.int .i64 (n : Int)) ∧ Below w.heap.size w w' := by
  have := len_duo h
  rw [hn] at this
  exact this
theorem bare_len (e : Int) : Bi.cnt (nn (Xv.bare e).now) 512 = 0 := by
  have : ∀ n, Bi.cnt (nn (Xv.bare e).now) n = 0 := fun n => by
    induction n with
    | zero => rfl
    | succ n ih => show Bi.cnt _ n + (nn (Xv.bare e).now n).toNat = 0; rw [ih]; rfl
  exact this 512
theorem ldE_fuse (m : Dsk) (c : Int) : ldE (fuseM m c) = ldE m := rfl
theorem ldA_fuse (m : Dsk) (c : Int) : ldA (fuseM m c) = ldA m := rfl
theorem ldB_fuse (m : Dsk) (c : Int) : ldB (fuseM m c) = ldB m := rfl
theorem fmtS_new (c : Int) : fmtS (fuseM (newM 96) c) = bareS 0 24 none none := by
  have h := new_ld (n := 96) (by omega)
  have hp : pgOf (fuseM (newM 96) c) = 24 := by
    unfold pgOf
    rw [show (fuseM (newM 96) c).out.length = 96 from new_len 96]; rfl
  rw [fmt_bare, ldA_fuse, ldB_fuse, h.2.1, h.2.2, used_none, hp]; rfl
/-- Format of a new disk with a fuse. -/
theorem format_new_cutd {k : Int} (h : Cutd b w d g X x (fuseM (newM 96) k, 0)) :
    Calls Tryz.prog 9 #[.pointer (some ⟨d, 0, none⟩)] w fun e w' => ∃ P E, e = .returned (.tuple #[.pointer P, .int .i64 E]) ∧ ((E = 0 ∧ ∃ g', P = some ⟨g', 0, none⟩) ∨ (E ≠ 0 ∧ P = none)) ∧
      (E = (fmtM (bareS 0 24 none none) (fuseM (newM 96) k)).2 ∧ Cutd b w' d 0 X x ((fmtM (bareS 0 24 none none) (fuseM (newM 96) k)).1, 0)) ∧ Below b w w' := by
  have hN := first_free (pg := 24) (by omega) (by omega)
  refine (format_cutd (pg := 24) h rfl rfl (new_len 96) (.inr (.inl ?_)) (fmtS_new k) (by omega) (by omega) ⟨by omega, by omega⟩ (Nat.zero_le _) (first_may (pg := 24) (by omega) (by omega))).mono ?_
  · rw [ldE_fuse]; exact (new_ld (n := 96) (by omega)).1
  · rintro e w' ⟨P, E, h1, h2, h3, h4⟩
    refine ⟨P, E, h1, h2, ?_, h4⟩
    rcases h3 with ⟨h3, _⟩ | ⟨_, h3⟩
    · omega
    · exact h3
end
end Go.Proofs.YthcnofdihigohaaGreat
end
section
/- PagerFormats: the walk. -/
set_option maxRecDepth 20000
set_option linter.unusedSimpArgs false
namespace Go.Proofs.YthcnofdihigohaaGreat
open Go.RowKit

/-- Behind the Format and the failure: nothing is opened, or the state as it was, or a new one without pages. -/
inductive Fmo (E : Int) (m2 : Dsk) (x : Xv) (want : Int) (S : Sp) : Bool → Prop
  | none (e : E = 9) (h : openE m2 = 5) (hd : m2.down = false) (hl : m2.out.length ≤ 2048) : Fmo E m2 x want S true
  | was (e : E = 9) (b : ∃ st, Opn m2 st 24 ∧ 0 ≤ st.r.ep ∧ st.r.ep ≤ 100) (s : Sim S m2.out x) (d : m2.done ≤ 250000) : Fmo E m2 x want S false
  | new (e : E = 9 ∨ E = 0) (b : ∃ st, Opn m2 st 24 ∧ 0 ≤ st.r.ep ∧ st.r.ep ≤ 100) (s : Sim S m2.out (Xv.bare want)) (d : m2.done ≤ 250000) (c : Bool) : Fmo E m2 x want S c
theorem open_fmo {b : Nat} {w : World} {d g X : Nat} {x y : Xv} {m2 : Dsk} (h : Cutd b w d g X x (m2, 0)) (hb : ∃ st, Opn m2 st 24 ∧ 0 ≤ st.r.ep ∧ st.r.ep ≤ 100) (hs : Sim (openS m2) m2.out y) (hd : m2.done ≤ 250000) :
    Calls Tryz.prog 28 #[.pointer (some ⟨d, 0, none⟩)] w fun e w' => ∃ g', e = .returned (.tuple #[.pointer (some ⟨g', 0, none⟩), .int .i64 0]) ∧ Duo b w' d g' X m2 (openS m2) 24 x y 100 ∧ Below b w w' := by
  obtain ⟨st, ho, hep⟩ := hb
  exact open_cut h ho hd hep hs
theorem fmo_new (cut : Int) (kp : Nat → Bool) (t a : Int) (x : Xv) (hok : Ok (fmtM (bareS 0 24 none none) (fuseM (newM 96) cut)).1) :
    (fmtM (bareS 0 24 none none) (fuseM (newM 96) cut)).1.row.length ≤ 4611686018427387904 ∧ Fmo (fmtM (bareS 0 24 none none) (fuseM (newM 96) cut)).2 (failS (fmtM (bareS 0 24 none none) (fuseM (newM 96) cut)).1 kp t a) x 1 (openS (failS (fmtM (bareS 0 24 none none) (fuseM (newM 96) cut)).1 kp t a)) true := by
  obtain ⟨h1, h2, h3⟩ := fmt_new cut kp t a rfl rfl
  have hdn : (fmtM (bareS 0 24 none none) (fuseM (newM 96) cut)).1.done ≤ (fuseM (newM 96) cut).done + 4 * (plW (bareS 0 24 none none) (nextR (bareS 0 24 none none) 0)).length + 3 := layM_done (fuseM (newM 96) cut) (plW (bareS 0 24 none none) (nextR (bareS 0 24 none none) 0)) (planRt (bareS 0 24 none none) (nextR (bareS 0 24 none none) 0))
  rw [plW_len, bare_need] at hdn
  have hd0 : (fuseM (newM 96) cut).done = 0 := rfl
  have h3 := h3 hok
  generalize fmtM (bareS 0 24 none none) (fuseM (newM 96) cut) = M at *
  have hdd : (failS M.1 kp t a).done ≤ 250000 := by rw [failS_eq]; show M.1.done ≤ _; omega
  have hu := failS_up hok kp t a
  refine ⟨by omega, ?_⟩
  rcases h3 with ⟨h4, h5, h7⟩ | ⟨st, h4, h5, h6⟩
  · exact .none h4 h5 hu.up (by omega)
  · exact .new (h1.elim .inr .inl) ⟨st, h4, by omega, by omega⟩ h6 hdd true
theorem fmo_old {b : Nat} {w : World} {d g X : Nat} {m : Dsk} {s : Sp} {x y : Xv} (h : Duo b w d g X m s 24 y x 40) (cut : Int) {u o : Option (Nat → Bool)} (hh : ∀ p, usF s.g.r s.g.lv s.g.tb p = true → heldS (bareS s.g.r.ep 24 u o) p = true)
    (hN : needS (bareS s.g.r.ep 24 u o) ≤ (freeL (bareS s.g.r.ep 24 u o)).length) (hm : may (nextR (bareS s.g.r.ep 24 u o) 0) = true) (kp : Nat → Bool) (t a : Int) {M : Dsk × Int} (hMM : fmtM (bareS s.g.r.ep 24 u o) (fuseM m cut) = M) (hok : Ok M.1) {m2 : Dsk} (hm2 : failS M.1 kp t a = m2) :
    M.1.row.length ≤ 4611686018427387904 ∧ Fmo M.2 m2 x.abort (x.ep + 1) (openS m2) false := by
  have hep := h.ep
  have hxe := h.sim.ep
  obtain ⟨h1, h2, h3⟩ := fmt_after h.inv (h.ro (by omega)) h.sim hh hN hm cut kp t a rfl hMM
  have hMM2 : layM (fuseM m cut) (plW (bareS s.g.r.ep 24 u o) (nextR (bareS s.g.r.ep 24 u o) 0)) (planRt (bareS s.g.r.ep 24 u o) (nextR (bareS s.g.r.ep 24 u o) 0)) = M := hMM
  have hdn := layM_done (fuseM m cut) (plW (bareS s.g.r.ep 24 u o) (nextR (bareS s.g.r.ep 24 u o) 0)) (planRt (bareS s.g.r.ep 24 u o) (nextR (bareS s.g.r.ep 24 u o) 0))
  rw [hMM2, plW_len, bare_need] at hdn
  clear hMM2
  have hd0 : (fuseM m cut).done = m.done := rfl
  have hmd := h.dn
  have h3 := h3 hok
  have hdd : m2.done ≤ 250000 := by rw [← hm2, failS_eq]; show M.1.done ≤ _; omega
  rw [hm2] at h3
  clear hm2 hMM hok
  refine ⟨by omega, ?_⟩
  rcases h3 with ⟨h4, h5, h6⟩ | ⟨st, h4, h5, h6⟩
  · exact .was h4 ⟨s.g, h5, by omega, by omega⟩ h6 hdd
  · rw [← hxe] at h6
    exact .new (h1.elim .inr .inl) ⟨st, h4, by omega, by omega⟩ h6 hdd false
theorem bare_may {e : Int} (h0 : 0 ≤ e) (h1 : e ≤ 1000) (u o : Option (Nat → Bool)) : may (nextR (bareS e 24 u o) 0) = true :=
  Mays.may (r := ⟨e + 1, 24, 2, 0⟩) ⟨by show 1 ≤ e + 1; omega, by show e + 1 ≤ 4611686018427387904; omega, by show (4 : Int) ≤ 24; omega, by show (24 : Int) ≤ 512; omega, by show (2 : Int) ≤ 2; omega, by show (2 : Int) < 24; omega, by show (0 : Int) ≤ 0; omega, by show (0 : Int) ≤ 2147483647; omega⟩
set_option maxHeartbeats 12800000 in
theorem frm_walk (p : Option Addr) (n c : Nat) (f : Nat → Op4) (fresh : Bool) (fu tn at_ : Int) (pk : Option Addr) (nk ck : Nat) (kf : Nat → Bool) (w : World)
    (hf0 : -9223372036854775808 ≤ fu) (hf1 : fu ≤ 9223372036854775807) (hn : n ≤ 9223372036854775807) (hnk : nk ≤ 9223372036854775807) (hO : OpsIn w p n f) (hK : Kp w pk nk kf) (hKB : 0 < nk → ∃ B o, pk = some ⟨B, o, none⟩ ∧ B < w.heap.size) :
    Calls Tryz.prog 7 #[.slice p n c, .bool fresh, .agg #[.int .i64 fu, .int .i64 tn, .int .i64 at_, .slice pk nk ck]] w fun e w' => e = .returned (.bool true) ∧ Below w.heap.size w w' := by
  have HLV := Lib.hid lives_any
  have HBW := Lib.hid (alloc_below w (.cells #[.int .i64 fu, .int .i64 tn, .int .i64 at_, .slice pk nk ck] 49))
  have HBX : Hid (FlB (w.alloc (.cells #[.int .i64 fu, .int .i64 tn, .int .i64 at_, .slice pk nk ck] 49)) w.heap.size fu tn at_ (.slice pk nk ck)) := Lib.hid ⟨heap_alloc_new w _⟩
  have hlt : w.heap.size < (w.alloc (.cells #[.int .i64 fu, .int .i64 tn, .int .i64 at_, .slice pk nk ck] 49)).heap.size := by simp
  have HLT := Lib.hid hlt
  have HK0 : Hid (Kp (w.alloc (.cells #[.int .i64 fu, .int .i64 tn, .int .i64 at_, .slice pk nk ck] 49)) pk nk kf) := Lib.hid (hK.chg (F := []) (F' := []) (fun _ _ _ _ hb => by cases hb) (Chg.of_below HBW.out))
  have HKB : Hid (0 < nk → ∃ B o, pk = some ⟨B, o, none⟩ ∧ B < (w.alloc (.cells #[.int .i64 fu, .int .i64 tn, .int .i64 at_, .slice pk nk ck] 49)).heap.size) := Lib.hid fun h => by
    obtain ⟨B, o, e, h1⟩ := hKB h
    exact ⟨B, o, e, Nat.lt_trans h1 hlt⟩
  have HO := Lib.hid (hO.below HBW.out)
  clear hlt hK hKB hO
  go_enter Tryz.func7, Tryz.ntmps7
  go_upto_region 1 with fail
  generalize w.alloc (.cells #[.int .i64 fu, .int .i64 tn, .int .i64 at_, .slice pk nk ck] 49) = W at *
  have HEND : Hid (∀ u v, Below W.heap.size W u → Below u.heap.size u v → Below w.heap.size w v) := Lib.hid fun u v h1 h2 => HBW.out.trans ((Below.more h1 h2 h1.size).mono (Nat.le_of_lt HLT.out))
  have HMD := Lib.hid (made_any (pg := 24) (by omega) (by omega) p n c f W hn HO.out)
  have a3 := HBX.out.c3
  have a0 := HBX.out.c0
  clear HO
  by_cases hk2 : nk ≤ 200
  · have hdk : decide ((200 : Int) < (nk : Int)) = false := decide_eq_false (by omega)
    have hdk2 : decide (200 < nk) = false := decide_eq_false (by omega)
    have HK2 := Lib.hid hk2
    clear hk2
    by_cases hfu : fu < 0
    · have e0 : decide (fu < 0) = true := decide_eq_true hfu
      go_wp2_with (go_at_call 10; with_reducible refine (HLV.out _).mono ?_; rintro e w2 ⟨rfl, hb2⟩)
      go_ret
      exact ⟨rfl, HEND.out _ _ (Below.refl _ _) hb2⟩
    · have e0 : decide (fu < 0) = false := decide_eq_false hfu
      have hi0 : 0 ≤ fu := by omega
      go_upto_region 3 with fail
      clear a3 a0 e0 hfu
      go_upto_region 6 with (go_at_call 11; refine HMD.out.mono ?_; rintro e w1 ⟨d, g, X, rfl, hM⟩)
      obtain ⟨⟨m, s, x, hd⟩, hbel⟩ := hM
      have HD := Lib.hid hd
      have HB := Lib.hid hbel
      clear hd hbel HMD
      have HXB : Hid (∀ u, Below W.heap.size W u → FlB u w.heap.size fu tn at_ (.slice pk nk ck)) := Lib.hid fun u hu => HBX.out.below hu HLT.out
      cases fresh with
      | true =>
        have HNW := Lib.hid (new_cutd HD.out.xb HD.out.xge HD.out.bl)
        clear HD
        go_upto_region 9 with (go_at_call 39; with_reducible refine HNW.out.mono ?_; rintro e w2 ⟨d2, rfl, hc2, hb2⟩)
        have HB2 := Lib.hid (HB.out.trans hb2)
        have HST := Lib.hid (still_cutd hc2 rfl rfl rfl)
        clear hc2 hb2 HNW HB
        go_upto_region 10 with (go_at_call 40; with_reducible refine HST.out.mono ?_; rintro e w3 ⟨rfl, h3⟩)
        have H3 := Lib.hid h3
        clear h3 HST
        go_upto_region 11 with (go_at_call 41; with_reducible refine H3.out.mono ?_; rintro e w4 ⟨rfl, hc4, hb4⟩)
        have HB4 := Lib.hid (HB2.out.trans hb4)
        have HRA := Lib.hid (rabort_cutd hc4)
        clear H3 hc4 hb4 HB2
        go_upto_region 12 with (go_at_call 29; with_reducible refine HRA.out.mono ?_; rintro e w5 ⟨rfl, hc5, hb5⟩)
        have HB5 := Lib.hid (HB4.out.trans hb5)
        have HFU := Lib.hid (fuse_cutd hc5 fu hi0 hf1)
        have a0 := (HXB.out _ HB5.out).c0
        clear HRA hc5 hb5 HB4
        go_upto_region 13 with (go_at_call 23; with_reducible refine HFU.out.mono ?_; rintro e w6 ⟨rfl, hc6, hb6⟩)
        have HB6 := Lib.hid (HB5.out.trans hb6)
        have HFM := Lib.hid (format_new_cutd hc6)
        clear HFU hc6 hb6 a0 HB5
        go_upto_region 14 with (go_at_call 9; with_reducible refine HFM.out.mono ?_; rintro e w7 ⟨P, E, rfl, hP, ⟨hE, hc7⟩, hb7⟩; have HE := Lib.hid hE; clear hE)
        have hE := HE.out
        clear HE
        have HB7 := Lib.hid (HB6.out.trans hb7)
        have hok : Ok (fmtM (bareS 0 24 none none) (fuseM (newM 96) fu)).1 := by
          obtain ⟨F, hDk, _⟩ := hc7.mem
          exact hDk.ok
        obtain ⟨hrl, hF⟩ := fmo_new fu (keepB nk kf) tn at_ x.abort hok
        rw [← hE] at hF
        clear hok hE HFM hb7 HB6
        generalize x.abort = x' at *
        generalize fmtM (bareS 0 24 none none) (fuseM (newM 96) fu) = M at *
        obtain ⟨m2, hm2⟩ : ∃ m2, failS M.1 (keepB nk kf) tn at_ = m2 := ⟨_, rfl⟩
        rw [hm2] at hF
        have HFL : Hid (∀ u, Cutd W.heap.size u d2 0 X x' (M.1, 0) → Below W.heap.size W u → Calls Tryz.prog 27 #[.pointer (some ⟨d2, 0, none⟩), .agg #[.int .i64 fu, .int .i64 tn, .int .i64 at_, .slice pk nk ck]] u fun e w' => e = .returned (.tuple #[]) ∧ Cutd W.heap.size w' d2 0 X x' (m2, 0) ∧ Below W.heap.size u w') := Lib.hid fun u hu hb => by
          rw [← hm2]
          exact fail_cut hu hrl pk nk ck kf (HK0.out.chg (F := []) (F' := []) (fun _ _ _ _ hb => by cases hb) (Chg.of_below hb)) HKB.out hnk fu tn at_
        have HC7 := Lib.hid hc7
        clear hc7 hrl hm2
        have hx := HXB.out _ HB7.out
        have a0 := hx.c0
        have a1 := hx.c1
        have a2 := hx.c2
        have a3 := hx.c3
        clear hx
        cases hF with
        | none e h hd2 hl2 =>
          subst e
          obtain rfl : P = none := by
            rcases hP with ⟨h0, _⟩ | ⟨_, h0⟩
            · exact absurd h0 (by decide)
            · exact h0
          have HON : Hid (∀ u, Cutd W.heap.size u d2 0 X x' (m2, 0) → Calls Tryz.prog 28 #[.pointer (some ⟨d2, 0, none⟩)] u fun e w' => e = .returned (.tuple #[.pointer none, .int .i64 5]) ∧ Below W.heap.size u w') := Lib.hid fun u hu => open_none hu h hd2 hl2
          clear h hd2 hl2 hP
          go_upto_region 19 with (go_at_call 27; with_reducible refine (HFL.out _ HC7.out HB7.out).mono ?_; rintro e w8 ⟨rfl, hc8, hb8⟩)
          have HB8 := Lib.hid (HB7.out.trans hb8)
          have HO8 := Lib.hid (HON.out _ hc8)
          clear hc8 hb8 a0 a1 a2 a3
          go_upto_region 21 with (go_at_call 28; with_reducible refine HO8.out.mono ?_; rintro e w9 ⟨rfl, hb9⟩)
          have HB9 := Lib.hid (HB8.out.trans hb9)
          clear hb9
          go_wp2_with (go_at_call 10; with_reducible refine (HLV.out _).mono ?_; rintro e w10 ⟨rfl, hb10⟩)
          go_ret
          exact ⟨rfl, HEND.out _ _ HB9.out hb10⟩
        | new e hb hs hdn _ =>
          have HOP : Hid (∀ u, Cutd W.heap.size u d2 0 X x' (m2, 0) → Calls Tryz.prog 28 #[.pointer (some ⟨d2, 0, none⟩)] u fun e w' => ∃ g', e = .returned (.tuple #[.pointer (some ⟨g', 0, none⟩), .int .i64 0]) ∧ Duo W.heap.size w' d2 g' X m2 (openS m2) 24 x' (Xv.bare 1) 100 ∧ Below W.heap.size u w') := Lib.hid fun u hu => open_fmo hu hb hs hdn
          clear hb hs hdn
          have hP2 : (E = 0 ∧ ∃ g', P = some ⟨g', 0, none⟩) ∨ (E = 9 ∧ P = none) := by
            rcases hP with h0 | ⟨h0, h1⟩
            · exact .inl h0
            · exact .inr ⟨e.resolve_right h0, h1⟩
          clear e hP
          rcases hP2 with ⟨rfl, g', rfl⟩ | ⟨rfl, rfl⟩
          all_goals
            go_upto_region 19 with (go_at_call 27; with_reducible refine (HFL.out _ HC7.out HB7.out).mono ?_; rintro e w8 ⟨rfl, hc8, hb8⟩)
            have HB8 := Lib.hid (HB7.out.trans hb8)
            have HO8 := Lib.hid (HOP.out _ hc8)
            clear hc8 hb8 a0 a1 a2 a3
            go_upto_region 24 with (go_at_call 28; with_reducible refine HO8.out.mono ?_; rintro e w9 ⟨t, rfl, hd9, hb9⟩)
            have HB9 := Lib.hid (HB8.out.trans hb9)
            have HD9 := Lib.hid hd9
            clear hb9 hd9 HO8 HOP HB8 HC7 HB7
            go_region
            have hd9 := HD9.out.drew
            have HB9d := Lib.hid HB9.out.drew
            have l0 := hd9.xb.ep
            have HLN : Hid (∀ u, Below w9.drew.heap.size w9.drew u → Calls Tryz.prog 26 #[.pointer (some ⟨t, 0, none⟩)] u fun e w' => e = .returned (.int .i64 0) ∧ Below u.heap.size u w') := Lib.hid fun u hu => len_y (hd9.below hu) (bare_len 1)
            have HWD : Hid (∀ u, Below w9.drew.heap.size w9.drew u → Calls Tryz.prog 14 #[.pointer (some ⟨t, 0, none⟩)] u fun e w' => e = .returned (.int .i64 0) ∧ Below u.heap.size u w') := Lib.hid fun u hu => word_y (hd9.below hu)
            have HEP : Hid (∀ u, Below w9.drew.heap.size w9.drew u → Calls Tryz.prog 15 #[.pointer (some ⟨t, 0, none⟩)] u fun e w' => e = .returned (.int .i64 1) ∧ Below u.heap.size u w') := Lib.hid fun u hu => epoch_y (hd9.below hu)
            clear HD9 hd9 HB9
            generalize w9.drew = w9d at *
            go_wp2_with (first
              | (go_at_call 26; with_reducible refine (HLN.out _ (Below.refl _ _)).mono ?_; rintro e w10 ⟨rfl, hb10⟩; have HB10 := Lib.hid hb10; clear hb10)
              | (go_at_call 14; with_reducible refine (HWD.out _ HB10.out).mono ?_; rintro e w11 ⟨rfl, hb11⟩; have HB11 := Lib.hid (Below.more HB10.out hb11 HB10.out.size); clear hb11)
              | (go_at_call 15; with_reducible refine (HEP.out _ HB11.out).mono ?_; rintro e w12 ⟨rfl, hb12⟩; have HB12 := Lib.hid (Below.more HB11.out hb12 HB11.out.size); clear hb12)
              | (go_at_call 10; with_reducible refine (HLV.out _).mono ?_; rintro e w13 ⟨rfl, hb13⟩; have HB13 := Lib.hid (Below.more HB12.out hb13 HB12.out.size); clear hb13))
            go_ret
            exact ⟨rfl, HEND.out _ _ HB9d.out HB13.out⟩
      | false =>
        have HST := Lib.hid (startopen_duo HD.out)
        clear HD
        go_upto_region 10 with (go_at_call 40; with_reducible refine HST.out.mono ?_; rintro e w3 ⟨rfl, h3⟩)
        have H3 := Lib.hid h3
        clear h3 HST
        go_upto_region 11 with (go_at_call 41; with_reducible refine H3.out.mono ?_; rintro e w4 ⟨rfl, hd4, hb4⟩)
        have HB4 := Lib.hid (HB.out.trans hb4)
        have HRA := Lib.hid (rabort_duo hd4)
        clear H3 hd4 hb4 HB
        go_upto_region 12 with (go_at_call 29; with_reducible refine HRA.out.mono ?_; rintro e w5 ⟨rfl, hd5, hb5⟩)
        have HB5 := Lib.hid (HB4.out.trans hb5)
        have HFU := Lib.hid (fuse_cutd hd5.cutd fu hi0 hf1)
        have HD5 := Lib.hid hd5
        have a0 := (HXB.out _ HB5.out).c0
        clear HRA hd5 hb5 HB4
        go_upto_region 13 with (go_at_call 23; with_reducible refine HFU.out.mono ?_; rintro e w6 ⟨rfl, hc6, hb6⟩)
        have HB6 := Lib.hid (HB5.out.trans hb6)
        have hepb : 0 ≤ s.g.r.ep ∧ s.g.r.ep ≤ 41 := by
          have := HD5.out.ep
          omega
        obtain ⟨hE0, u, o, hfs, hh⟩ := fmt_over HD5.out.inv fu
        have hm : may (nextR (bareS s.g.r.ep 24 u o) 0) = true := bare_may hepb.1 (by omega) u o
        have HFM := Lib.hid (format_cutd (pg := 24) hc6 HD5.out.inv.up HD5.out.inv.row HD5.out.inv.len (.inl hE0) hfs (by omega) (by omega) ⟨hepb.1, by omega⟩ (by
          have h1 := HD5.out.dn
          show m.done ≤ _
          omega) hm)
        clear HFU hc6 hb6 a0 HB5 hE0 hfs
        go_upto_region 14 with (go_at_call 9; with_reducible refine HFM.out.mono ?_; rintro e w7 ⟨P, E, rfl, hP, hC, hb7⟩)
        have HB7 := Lib.hid (HB6.out.trans hb7)
        clear hb7 HFM HB6
        rcases hC with ⟨_, rfl⟩ | ⟨hN, hE, hc7⟩
        · obtain rfl : P = none := by
            rcases hP with ⟨h0, _⟩ | ⟨_, h0⟩
            · exact absurd h0 (by decide)
            · exact h0
          clear hP HD5 hh hm hepb
          go_wp2_with (go_at_call 10; with_reducible refine (HLV.out _).mono ?_; rintro e w10 ⟨rfl, hb10⟩)
          go_ret
          exact ⟨rfl, HEND.out _ _ HB7.out hb10⟩
        · have hok : Ok (fmtM (bareS s.g.r.ep 24 u o) (fuseM m fu)).1 := by
            obtain ⟨F, hDk, _⟩ := hc7.mem
            exact hDk.ok
          obtain ⟨M, hMM⟩ : ∃ M, fmtM (bareS s.g.r.ep 24 u o) (fuseM m fu) = M := ⟨_, rfl⟩
          rw [hMM] at hE hc7 hok
          obtain ⟨m2, hm2⟩ : ∃ m2, failS M.1 (keepB nk kf) tn at_ = m2 := ⟨_, rfl⟩
          obtain ⟨hrl, hF⟩ := fmo_old HD5.out fu hh hN hm (keepB nk kf) tn at_ hMM hok hm2
          have hF : Fmo M.2 m2 x.abort (x.abort.ep + 1) (openS m2) false := hF
          have HXE : Hid (0 ≤ x.abort.ep ∧ x.abort.ep ≤ 1000) := Lib.hid (by
            have h1 := HD5.out.sim.ep
            show 0 ≤ x.ep ∧ x.ep ≤ 1000
            omega)
          rw [← hE] at hF
          clear hok hE HD5 hh hm hepb hN hMM
          generalize x.abort = x' at *
          have HFL : Hid (∀ u, Cutd W.heap.size u d 0 X x' (M.1, 0) → Below W.heap.size W u → Calls Tryz.prog 27 #[.pointer (some ⟨d, 0, none⟩), .agg #[.int .i64 fu, .int .i64 tn, .int .i64 at_, .slice pk nk ck]] u fun e w' => e = .returned (.tuple #[]) ∧ Cutd W.heap.size w' d 0 X x' (m2, 0) ∧ Below W.heap.size u w') := Lib.hid fun u hu hb => by
            rw [← hm2]
            exact fail_cut hu hrl pk nk ck kf (HK0.out.chg (F := []) (F' := []) (fun _ _ _ _ hb => by cases hb) (Chg.of_below hb)) HKB.out hnk fu tn at_
          have HC7 := Lib.hid hc7
          clear hc7 hrl hm2
          have hx := HXB.out _ HB7.out
          have a0 := hx.c0
          have a1 := hx.c1
          have a2 := hx.c2
          have a3 := hx.c3
          clear hx
          cases hF with
          | was e hb hs hdn =>
            subst e
            obtain rfl : P = none := by
              rcases hP with ⟨h0, _⟩ | ⟨_, h0⟩
              · exact absurd h0 (by decide)
              · exact h0
            have HOP : Hid (∀ u, Cutd W.heap.size u d 0 X x' (m2, 0) → Calls Tryz.prog 28 #[.pointer (some ⟨d, 0, none⟩)] u fun e w' => ∃ g', e = .returned (.tuple #[.pointer (some ⟨g', 0, none⟩), .int .i64 0]) ∧ Duo W.heap.size w' d g' X m2 (openS m2) 24 x' x' 100 ∧ Below W.heap.size u w') := Lib.hid fun u hu => open_fmo hu hb hs hdn
            clear hb hs hdn hP
            go_upto_region 19 with (go_at_call 27; with_reducible refine (HFL.out _ HC7.out HB7.out).mono ?_; rintro e w8 ⟨rfl, hc8, hb8⟩)
            have HB8 := Lib.hid (HB7.out.trans hb8)
            have HO8 := Lib.hid (HOP.out _ hc8)
            clear hc8 hb8 a0 a1 a2 a3
            go_upto_region 24 with (go_at_call 28; with_reducible refine HO8.out.mono ?_; rintro e w9 ⟨t, rfl, hd9, hb9⟩)
            have HB9 := Lib.hid (HB8.out.trans hb9)
            have HD9 := Lib.hid hd9
            clear hb9 hd9 HO8 HOP HB8 HC7 HB7
            have hne := In.some w9
            have l0 : ∀ u : In w9, u.1.cell? ⟨X, 1537, none⟩ = some (.int .i64 x'.ep) := fun u => (HD9.out.below u.2).xb.ep
            have HEP : Hid (∀ u : In w9, Calls Tryz.prog 15 #[.pointer (some ⟨t, 0, none⟩)] u.1 fun e w' => e = .returned (.int .i64 x'.ep) ∧ Below u.1.heap.size u.1 w') := Lib.hid fun u => epoch_y (HD9.out.below u.2)
            generalize x'.ep = ex at *
            refine region_in w9 (by kernel_rfl) (by kernel_rfl) (Below.refl _ _) ?_
            repeat (go_big_quiet_step ((go_at_call 15; exact Calls.quiet_in (HEP.out _))))
            refine wpQuiet_nil ?_
            intro w12 hw'
            have hb12 : Below w9.heap.size w9 w12 := by
              obtain ⟨⟨wz, hbz⟩, hw''⟩ := hw'
              subst hw''
              exact hbz
            clear hw' l0 HEP
            have HD12 := Lib.hid (HD9.out.below hb12)
            have HB12 := Lib.hid (Below.more HB9.out hb12 HB9.out.size)
            clear hb12 HD9 HB9 hne
            go_upto_region 25 with fail
            have hne := In.some w12
            have HSM : Hid (∀ u : In w12, Calls Tryz.prog 13 #[.pointer (some ⟨t, 0, none⟩), .pointer (some ⟨X, 512, none⟩)] u.1 fun e w' => e = .returned (.bool true) ∧ Below u.1.heap.size u.1 w') := Lib.hid fun u => same_any (HD12.out.below u.2)
            have HWD : Hid (∀ u : In w12, Calls Tryz.prog 14 #[.pointer (some ⟨t, 0, none⟩)] u.1 fun e w' => e = .returned (.int .i64 x'.word) ∧ Below u.1.heap.size u.1 w') := Lib.hid fun u => word_y (HD12.out.below u.2)
            have HLW : Hid (∀ u : In w12, Calls Tryz.prog 10 #[] u.1 fun e w' => e = .returned (.bool true) ∧ Below u.1.heap.size u.1 w') := Lib.hid fun u => HLV.out _
            have l1 : ∀ u : In w12, u.1.cell? ⟨X, 1536, none⟩ = some (.int .i64 x'.word) := fun u => (HD12.out.below u.2).xb.word
            generalize x'.word = ew at *
            refine region_in w12 (by kernel_rfl) (by kernel_rfl) (Below.refl _ _) ?_
            repeat (go_big_quiet_step ((first
              | (go_at_call 13; exact Calls.quiet_in (HSM.out _))
              | (go_at_call 14; exact Calls.quiet_in (HWD.out _))
              | (go_at_call 10; exact Calls.quiet_in (HLW.out _)))))
            refine wpQuiet_nil ?_
            intro w13 hw'
            have hb13 : Below w12.heap.size w12 w13 := by
              obtain ⟨⟨wz, hbz⟩, hw''⟩ := hw'
              subst hw''
              exact hbz
            clear hw' l1
            go_wp2_with fail
            go_ret
            exact ⟨rfl, HEND.out _ _ HB12.out hb13⟩
          | new e hb hs hdn _ =>
            have HOP : Hid (∀ u, Cutd W.heap.size u d 0 X x' (m2, 0) → Calls Tryz.prog 28 #[.pointer (some ⟨d, 0, none⟩)] u fun e w' => ∃ g', e = .returned (.tuple #[.pointer (some ⟨g', 0, none⟩), .int .i64 0]) ∧ Duo W.heap.size w' d g' X m2 (openS m2) 24 x' (Xv.bare (x'.ep + 1)) 100 ∧ Below W.heap.size u w') := Lib.hid fun u hu => open_fmo hu hb hs hdn
            clear hb hs hdn
            have hP2 : (E = 0 ∧ ∃ g', P = some ⟨g', 0, none⟩) ∨ (E = 9 ∧ P = none) := by
              rcases hP with h0 | ⟨h0, h1⟩
              · exact .inl h0
              · exact .inr ⟨e.resolve_right h0, h1⟩
            clear e hP
            rcases hP2 with ⟨rfl, g', rfl⟩ | ⟨rfl, rfl⟩
            all_goals
              go_upto_region 19 with (go_at_call 27; with_reducible refine (HFL.out _ HC7.out HB7.out).mono ?_; rintro e w8 ⟨rfl, hc8, hb8⟩)
              have HB8 := Lib.hid (HB7.out.trans hb8)
              have HO8 := Lib.hid (HOP.out _ hc8)
              clear hc8 hb8 a0 a1 a2 a3
              go_upto_region 24 with (go_at_call 28; with_reducible refine HO8.out.mono ?_; rintro e w9 ⟨t, rfl, hd9, hb9⟩)
              have HB9 := Lib.hid (HB8.out.trans hb9)
              have HD9 := Lib.hid hd9
              clear hb9 hd9 HO8 HOP HB8 HC7 HB7
              have hne := In.some w9
              have l0 : ∀ u : In w9, u.1.cell? ⟨X, 1537, none⟩ = some (.int .i64 x'.ep) := fun u => (HD9.out.below u.2).xb.ep
              have HEP : Hid (∀ u : In w9, Calls Tryz.prog 15 #[.pointer (some ⟨t, 0, none⟩)] u.1 fun e w' => e = .returned (.int .i64 (x'.ep + 1)) ∧ Below u.1.heap.size u.1 w') := Lib.hid fun u => epoch_y (HD9.out.below u.2)
              have hex := HXE.out
              obtain ⟨hx0, hx1⟩ := hex
              have HXQ : Hid (∀ u : World, Below w9.heap.size w9 u → u.cell? ⟨X, 1537, none⟩ = some (.int .i64 x'.ep)) := Lib.hid fun u hu => (HD9.out.below hu).xb.ep
              obtain ⟨ey, hey⟩ : ∃ ey, Hid (x'.ep + 1 = ey) := ⟨_, Lib.hid rfl⟩
              rw [hey.out] at HEP
              have hqe : (ey == x'.ep) = false := by have := hey.out; simp; omega
              refine region_in w9 (by kernel_rfl) (by kernel_rfl) (Below.refl _ _) ?_
              repeat (go_big_quiet_step ((go_at_call 15; exact Calls.quiet_in (HEP.out _))))
              refine wpQuiet_nil ?_
              intro w12 hw'
              have hb12 : Below w9.heap.size w9 w12 := by
                obtain ⟨⟨wz, hbz⟩, hw''⟩ := hw'
                subst hw''
                exact hbz
              clear hw' l0 HEP hqe
              have HD12 := Lib.hid (HD9.out.below hb12)
              have HB12 := Lib.hid (Below.more HB9.out hb12 HB9.out.size)
              have l2 := HXQ.out _ hb12
              clear hb12 HD9 HB9 hne HXQ
              have HLN : Hid (∀ u, Below w12.heap.size w12 u → Calls Tryz.prog 26 #[.pointer (some ⟨t, 0, none⟩)] u fun e w' => e = .returned (.int .i64 0) ∧ Below u.heap.size u w') := Lib.hid fun u hu => len_y (HD12.out.below hu) (bare_len _)
              have HWD : Hid (∀ u, Below w12.heap.size w12 u → Calls Tryz.prog 14 #[.pointer (some ⟨t, 0, none⟩)] u fun e w' => e = .returned (.int .i64 0) ∧ Below u.heap.size u w') := Lib.hid fun u hu => word_y (HD12.out.below hu)
              have HEP : Hid (∀ u, Below w12.heap.size w12 u → Calls Tryz.prog 15 #[.pointer (some ⟨t, 0, none⟩)] u fun e w' => e = .returned (.int .i64 (x'.ep + 1)) ∧ Below u.heap.size u w') := Lib.hid fun u hu => epoch_y (HD12.out.below hu)
              clear HD12 hey
              generalize x'.ep = ex at *
              go_wp2_with (first
                | (go_at_call 26; with_reducible refine (HLN.out _ (Below.refl _ _)).mono ?_; rintro e w14 ⟨rfl, hb14⟩; have HB14 := Lib.hid hb14; clear hb14)
                | (go_at_call 14; with_reducible refine (HWD.out _ HB14.out).mono ?_; rintro e w15 ⟨rfl, hb15⟩; have HB15 := Lib.hid (Below.more HB14.out hb15 HB14.out.size); clear hb15)
                | (go_at_call 15; with_reducible refine (HEP.out _ HB15.out).mono ?_; rintro e w16 ⟨rfl, hb16⟩; have HB16 := Lib.hid (Below.more HB15.out hb16 HB15.out.size); clear hb16)
                | (go_at_call 10; with_reducible refine (HLV.out _).mono ?_; rintro e w17 ⟨rfl, hb17⟩; have HB17 := Lib.hid (Below.more HB16.out hb17 HB16.out.size); clear hb17))
              go_ret
              exact ⟨rfl, HEND.out _ _ HB12.out HB17.out⟩
  · have hdk : decide ((200 : Int) < (nk : Int)) = true := decide_eq_true (by omega)
    have hdk2 : decide (200 < nk) = true := decide_eq_true (by omega)
    go_wp2_with (go_at_call 10; refine (HLV.out _).mono ?_; rintro e w2 ⟨rfl, hb2⟩)
    go_ret
    exact ⟨rfl, HEND.out _ _ (Below.refl _ _) hb2⟩
end Go.Proofs.YthcnofdihigohaaGreat
end
