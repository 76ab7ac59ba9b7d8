/- Decode: the record of its bytes; of bytes that are cut, or have more behind them. -/
import Derived.Test.YtpdihgmgcamgkaaDecK
set_option linter.unusedSimpArgs false
set_option maxRecDepth 20000
namespace Go.Proofs.Ytpdihgmgcamgkaa
open Go.RowKit Go.Shelf

/-- What Decode leaves. -/
def DeR (w w' : World) (e : Ending) (r : Rc) (rest : List Nat) (cut : Bool) : Prop :=
  ∃ (k : Int) (q : Option Addr) (n c : Nat) (s : ByteArray) (E : Int), e = .returned (.tuple #[.agg #[.int .i64 k, .slice q n c, .string s], .int .i64 E]) ∧ Below w.heap.size w w' ∧
    (cut = true → E = 3) ∧ (cut = false → rest ≠ [] → E = 4) ∧ (cut = false → rest = [] → E = 0 ∧ k = r.kind ∧ n = r.parts.length ∧ s = r.bytes ∧ Pts w' q r.parts.length r.parts)
theorem ptsB_drop (l : List Pt) (i : Nat) (h : i < l.length) : ptsB (l.drop i) = ptB (l.getD i default) ++ ptsB (l.drop (i + 1)) := by
  rw [List.drop_eq_getElem_cons h, List.getD_eq_getElem?_getD, List.getElem?_eq_getElem h]; rfl
theorem partsM_get (N : Nd) : ∀ (l : List Pt) (j : Nat), partsM N j l = true → ∀ i, i < l.length → partOk N (j + i) (l.getD i default) = true := by
  intro l
  induction l with
  | nil => intro j _ i hi; simp at hi
  | cons x l ih =>
    intro j h i hi
    unfold partsM at h
    rw [Bool.and_eq_true] at h
    cases i with
    | zero => exact h.1
    | succ i =>
      have := ih (j + 1) h.2 i (by simpa using hi)
      rw [show j + (i + 1) = j + 1 + i by omega]
      exact this
/-- What is so of a record that may be. -/
theorem may_parts {r : Rc} (h : mayM r = true) : 0 ≤ r.kind ∧ r.kind ≤ 9 ∧ (decide ((needM r.kind).least ≤ (r.parts.length : Int)) && decide ((r.parts.length : Int) ≤ (needM r.kind).most)) = true ∧ partsM (needM r.kind) 0 r.parts = true ∧ bytesM (needM r.kind) r.bytes = true := by
  have hk := kept_of_may h
  have h0 : 0 ≤ r.kind ∧ r.kind ≤ 9 := by
    unfold needM at hk
    repeat' split at hk
    all_goals first | omega | (simp at hk; done)
  unfold mayM at h
  simp only [Bool.and_eq_true] at h ⊢
  exact ⟨h0.1, h0.2, h.2.1, h.2.2.1, h.2.2.2⟩
theorem need_nat (k : Int) : ∃ M : Nat, (needM k).bytes = (M : Int) ∧ M ≤ 4096 := by
  obtain ⟨_, h1, h2, _⟩ := needM_b k
  exact ⟨(needM k).bytes.toNat, by omega, by omega⟩
theorem need_first (k : Int) : (needM k).first = [] ∨ k ≠ 8 := by
  by_cases h : k = 8
  · subst h; exact .inl rfl
  · exact .inr h
set_option maxHeartbeats 6400000 in
theorem decode_any (r : Rc) (S : ByteArray) (rest : List Nat) (cut : Bool) (w : World) (hm : mayM r = true) (hB : ∀ p ∈ r.parts, PtB p) (hS : S.size ≤ 1000000) (hr : rest.length ≤ 1) (hF : Fd (nums S) (rcB r) rest cut) :
    Calls Try.prog 13 #[.string S] w fun e w' => DeR w w' e r rest cut := by
  obtain ⟨hz1, hz2, hz3⟩ := may_size hm
  obtain ⟨K0, K9, HHAS, HPS, HBS⟩ := may_parts hm
  have HKEPT := Lib.hid (kept_of_may hm)
  have HPO := Lib.hid (fun i hi => partsM_get _ r.parts 0 HPS i hi)
  have HPB : Hid (∀ i, i < r.parts.length → PtB (r.parts.getD i default)) := Lib.hid (fun i hi => by
    rw [List.getD_eq_getElem?_getD, List.getElem?_eq_getElem hi]
    exact hB _ (List.getElem_mem hi))
  have HFD : Hid (Fd (nums S) ([r.kind.toNat] ++ (numB r.parts.length ++ (ptsB r.parts ++ (numB (nums r.bytes).length ++ nums r.bytes)))) rest cut) := Lib.hid (by
    have h := hF
    unfold rcB at h
    rw [show (r.kind % 256).toNat = r.kind.toNat by omega, List.append_assoc, List.append_assoc, ← nums_len r.bytes] at h
    exact h)
  have HLEN : Hid (∀ i, i ≤ r.parts.length → (ptsB (r.parts.drop i) ++ (numB (nums r.bytes).length ++ nums r.bytes)).length ≤ 60 * 256 + 5000) := Lib.hid (fun i _ => by
    have h1 := ptsB_len (l := r.parts.drop i) (fun p hp => ⟨hB p (List.mem_of_mem_drop hp), hz3 p (List.mem_of_mem_drop hp)⟩)
    rw [List.length_drop] at h1
    have h2 := numB_ten (n := (nums r.bytes).length) (by rw [nums_len]; omega)
    have h3 := nums_len r.bytes
    rw [List.length_append, List.length_append]
    omega)
  have HST := Lib.hid (fun i (h : i < r.parts.length) => ptsB_drop r.parts i h)
  obtain ⟨i0, hi, hz0, hzs, hzb⟩ := info_parts Try.infoPT
  have HI := Lib.hid hi
  have HZ0 := Lib.hid hz0
  have HZ1 := Lib.hid hzs
  have HZ2 := Lib.hid hzb
  clear hi hz0 hzs hzb hF hB hz3 hm HPS
  obtain ⟨kind, l, Bs⟩ := r
  simp only at *
  obtain ⟨n, HN⟩ : ∃ n, Hid (l.length = n) := ⟨_, Lib.hid rfl⟩
  rw [HN.out] at HHAS HPO HPB HFD HLEN HST hz1
  replace HHAS := Lib.hid HHAS
  replace HBS := Lib.hid HBS
  go_enter Try.func13, Try.ntmps13
  go_upto_region 1 with fail
  have hba : Below w.heap.size w (w.alloc (.cells #[.int .i64 0, .slice none 0 0, .string ⟨#[]⟩] 33)) := (Below.refl _ _).alloc (Nat.le_refl _) _
  have hx2 : (w.alloc (.cells #[.int .i64 0, .slice none 0 0, .string ⟨#[]⟩] 33)).heap[w.heap.size]? = some (.cells #[.int .i64 0, .slice none 0 0, .string ⟨#[]⟩] 33 (0, 0)) := heap_alloc_new w _
  generalize w.alloc (.cells #[.int .i64 0, .slice none 0 0, .string ⟨#[]⟩] 33) = Wa at hba hx2 ⊢
  obtain ⟨cap, W1, hrun, hbW, hBy, hc1, hc2⟩ := conv_str Wa S (by omega)
  have HBY := Lib.hid hBy
  have HX2 := Lib.hid ((hbW.block _ (lt_of_block hx2)).trans hx2)
  have HB1 := Lib.hid (hba.trans (hbW.mono hba.size))
  clear hba hx2 hbW hBy
  go_wp2_with fail
  refine (read_any _ S.size cap (nums S) _ (by omega) HBY.out).mono ?_
  rintro e w2 ⟨⟨g, d, rfl, hg1, hg2, hd1, hd2, hrd⟩, hb2⟩
  have HRD := Lib.hid hrd
  have HX2b := Lib.hid ((hb2.block _ (lt_of_block HX2.out)).trans HX2.out)
  have HB2 := Lib.hid (HB1.out.trans (hb2.mono HB1.out.size))
  have HG := Lib.hid (show w.heap.size < g ∧ w.heap.size < d from ⟨Nat.lt_of_lt_of_le (lt_of_block HX2.out) hg1, Nat.lt_of_lt_of_le (lt_of_block HX2.out) hd1⟩)
  have HG2 := Lib.hid (show g < w2.heap.size ∧ d < w2.heap.size from ⟨hg2, hd2⟩)
  clear hrd hb2 hg1 hg2 hd1 hd2 hrun HBY HX2 HB1
  go_wp2_with fail
  refine (fbyte g d kind.toNat (nums S) _ rest cut _ HRD HFD.out).mono ?_
  rintro e w3 ⟨y, f, T1, rfl, hy, hF⟩
  have HF := Lib.hid hF.tell
  have HRD3 := Lib.hid hF.went.rd
  have HX23 := Lib.hid (hF.went.only.block_ne HX2b.out (by have := HG.out; omega))
  have HB3 := Lib.hid (hF.went.only.below HB2.out HB2.out.size (by have := HG.out; omega))
  have HG3 := Lib.hid (show g < w3.heap.size ∧ d < w3.heap.size from ⟨by have := HG2.out; have := hF.went.only.size; omega, by have := HG2.out; have := hF.went.only.size; omega⟩)
  have hyw : IntKind.i64.wrap (y : Int) = (y : Int) := by rw [IntKind.wrap_i64]; omega
  clear hF HRD HX2b HB2 HG2 HFD
  go_wp2_with fail
  refine (needsOf_any (y : Int) _).mono ?_
  rintro e w4 ⟨v, rfl, ⟨q, k, c, rfl, hRl⟩, hb4⟩
  have hx5 : w4.heap[w3.heap.size]? = some (.cells #[.int .i64 (y : Int), .slice none 0 0, .string ⟨#[]⟩] 33 (0, 0)) := (hb4.block w3.heap.size (by simp)).trans (heap_alloc_new w3 _)
  have hb34 : Below w3.heap.size w3 w4 := ((Below.refl w3.heap.size w3).alloc (Nat.le_refl _) _).trans (hb4.mono (by simp))
  have HRL := Lib.hid hRl
  have HRd4 := Lib.hid (HRD3.out.below hb34)
  have HX5 := Lib.hid hx5
  have hba : Below w4.heap.size w4 (w4.alloc (.cells #[.int .i64 (needM y).least, .int .i64 (needM y).most, .slice q k c, .int .i64 (needM y).bytes, .int .u8 ((needM y).high : Int)] 63)) := (Below.refl _ _).alloc (Nat.le_refl _) _
  have HDK : Hid (Dk w w4 (w4.alloc (.cells #[.int .i64 (needM y).least, .int .i64 (needM y).most, .slice q k c, .int .i64 (needM y).bytes, .int .u8 ((needM y).high : Int)] 63)) g d T1 f w3.heap.size w4.heap.size (needM y) q k c (y : Int) (.slice none 0 0) 0 l ⟨#[]⟩) := Lib.hid (by
    have a3 := hb34.trans (hba.mono hb34.size)
    exact ⟨HRD3.out.below a3, HB3.out.trans (a3.mono HB3.out.size), (a3.block _ (lt_of_block HX23.out)).trans HX23.out, (hba.block _ (lt_of_block hx5)).trans hx5, heap_alloc_new w4 _, fun b h1 _ _ => hba.block b h1,
      World.ownsRow_nil _ _ _ _, HG.out.1, HG3.out.1, lt_of_block hx5, HG3.out.2, HG.out.2⟩)
  have HNV : Hid (∀ W T f i v Bs, Dk w w4 W g d T f w3.heap.size w4.heap.size (needM y) q k c (y : Int) v i l Bs → NdV W (.agg #[.int .i64 (needM y).least, .int .i64 (needM y).most, .slice q k c, .int .i64 (needM y).bytes, .int .u8 ((needM y).high : Int)]) (needM y)) := Lib.hid (fun W T f i v Bs h =>
    ⟨q, k, c, rfl, HRL.out.apart HRd4.out HX5.out rfl (need_first y) (Nat.le_refl _) h.sn⟩)
  clear hRl hb4 hx5 hb34 hba HRL HRd4 HX5 HRD3 HX23 HB3 HG HG3
  go_upto_region 4 with fail
  generalize w4.alloc (.cells #[.int .i64 (needM y).least, .int .i64 (needM y).most, .slice q k c, .int .i64 (needM y).bytes, .int .u8 ((needM y).high : Int)] 63) = W at HDK ⊢
  generalize hb5 : w3.heap.size = b5 at HDK HNV ⊢
  generalize hb6 : w4.heap.size = b6 at HDK HNV ⊢
  clear hb5 hb6
  have x20 := cell_of_row _ _ 0 _ _ _ HDK.out.x2
  have x21 := cell_of_row _ _ 1 _ _ _ HDK.out.x2
  have x22 := cell_of_row _ _ 2 _ _ _ HDK.out.x2
  have f20 := frozen_of_row _ _ 0 _ _ HDK.out.x2
  have f21 := frozen_of_row _ _ 1 _ _ HDK.out.x2
  have f22 := frozen_of_row _ _ 2 _ _ HDK.out.x2
  simp at x20 x21 x22
  go_wp2_with fail
  refine (judge_any g d T1 f _ W HDK.out.rd).mono ?_
  rintro e w5 ⟨rfl, rfl⟩
  rcases HF.out with ⟨e0, e1, e2⟩ | ⟨e0, e1⟩
  rotate_left
  · subst e0
    rw [show ∀ b, judgeM 3 b = 3 by intro b; rfl]
    have HCT := Lib.hid e1
    clear e1 HF
    go_wp2_with fail
    exact HDK.out.ret 0 none 0 0 ⟨#[]⟩ 3 _ _ rfl rfl (fun V hB _ => ⟨_, _, _, _, _, 3, rfl, hB, fun _ => rfl, fun h => (by rw [HCT.out] at h; cases h), fun h => (by rw [HCT.out] at h; cases h)⟩)
  subst e0
  have hyk : (y : Int) = kind := by omega
  have HF1 := Lib.hid e2
  rw [hyk] at HDK HNV ⊢
  rw [HKEPT.out, show judgeM 0 true = 0 by decide]
  clear e1 e2 HF hyw hyk hy x20 x21 x22 f20 f21 f22
  have x20 := cell_of_row _ _ 0 _ _ _ HDK.out.x2
  have x21 := cell_of_row _ _ 1 _ _ _ HDK.out.x2
  have x22 := cell_of_row _ _ 2 _ _ _ HDK.out.x2
  have f20 := frozen_of_row _ _ 0 _ _ HDK.out.x2
  have f21 := frozen_of_row _ _ 1 _ _ HDK.out.x2
  have f22 := frozen_of_row _ _ 2 _ _ HDK.out.x2
  have c60 := cell_of_row _ _ 0 _ _ _ HDK.out.x6
  have c61 := cell_of_row _ _ 1 _ _ _ HDK.out.x6
  have c62 := cell_of_row _ _ 2 _ _ _ HDK.out.x6
  have c63 := cell_of_row _ _ 3 _ _ _ HDK.out.x6
  have c64 := cell_of_row _ _ 4 _ _ _ HDK.out.x6
  simp at x20 x21 x22 c60 c61 c62 c63 c64
  have HM1 := Lib.hid (needM_b kind)
  have HMO : Hid ((n : Int) ≤ (needM kind).most) := Lib.hid (by have := HHAS.out; rw [Bool.and_eq_true] at this; simpa using this.2)
  have HL0 := Lib.hid (HLEN.out 0 (Nat.zero_le _))
  go_wp2_with fail
  refine (fcount g d n (needM kind).most T1 _ rest cut _ (Lib.hid HDK.out.rd) (by have h1 := HF1.out.len; have h2 := HL0.out; have h3 := numB_ten (n := n) (by omega); rw [List.length_append] at h1; rw [List.drop_zero] at h2; omega) HMO.out (by have := HM1.out.1; omega) HF1.out).mono ?_
  rintro e w6 ⟨z, f2, T2, rfl, hF2⟩
  have HDK2 := Lib.hid (HDK.out.went hF2.went.rd hF2.went.only)
  have HF2 := Lib.hid hF2.tell
  clear x20 x21 x22 f20 f21 f22 c60 c61 c62 c63 c64
  clear hF2
  have x20 := cell_of_row _ _ 0 _ _ _ HDK2.out.x2
  have x21 := cell_of_row _ _ 1 _ _ _ HDK2.out.x2
  have x22 := cell_of_row _ _ 2 _ _ _ HDK2.out.x2
  have f20 := frozen_of_row _ _ 0 _ _ HDK2.out.x2
  have f21 := frozen_of_row _ _ 1 _ _ HDK2.out.x2
  have f22 := frozen_of_row _ _ 2 _ _ HDK2.out.x2
  have c60 := cell_of_row _ _ 0 _ _ _ HDK2.out.x6
  have c61 := cell_of_row _ _ 1 _ _ _ HDK2.out.x6
  have c62 := cell_of_row _ _ 2 _ _ _ HDK2.out.x6
  have c63 := cell_of_row _ _ 3 _ _ _ HDK2.out.x6
  have c64 := cell_of_row _ _ 4 _ _ _ HDK2.out.x6
  simp at x20 x21 x22 c60 c61 c62 c63 c64
  go_wp2_with fail
  refine (has_any (needM kind).least (needM kind).most z _).mono ?_
  rintro e w7 ⟨rfl, hb7⟩
  have HDK3 := Lib.hid (HDK2.out.step hb7)
  clear x20 x21 x22 f20 f21 f22 c60 c61 c62 c63 c64
  clear hb7
  go_wp2_with fail
  refine (judge_any g d T2 f2 _ w7 HDK3.out.rd).mono ?_
  rintro e w8 ⟨rfl, rfl⟩
  have x20 := cell_of_row _ _ 0 _ _ _ HDK3.out.x2
  have x21 := cell_of_row _ _ 1 _ _ _ HDK3.out.x2
  have x22 := cell_of_row _ _ 2 _ _ _ HDK3.out.x2
  have f20 := frozen_of_row _ _ 0 _ _ HDK3.out.x2
  have f21 := frozen_of_row _ _ 1 _ _ HDK3.out.x2
  have f22 := frozen_of_row _ _ 2 _ _ HDK3.out.x2
  have c60 := cell_of_row _ _ 0 _ _ _ HDK3.out.x6
  have c61 := cell_of_row _ _ 1 _ _ _ HDK3.out.x6
  have c62 := cell_of_row _ _ 2 _ _ _ HDK3.out.x6
  have c63 := cell_of_row _ _ 3 _ _ _ HDK3.out.x6
  have c64 := cell_of_row _ _ 4 _ _ _ HDK3.out.x6
  simp at x20 x21 x22 c60 c61 c62 c63 c64
  rcases HF2.out with ⟨e0, e1, e2⟩ | ⟨e0, e1⟩
  rotate_left
  · subst e0
    rw [show ∀ b, judgeM 3 b = 3 by intro b; rfl]
    have HCT := Lib.hid e1
    clear e1 HF2
    go_wp2_with fail
    exact HDK3.out.ret 0 none 0 0 ⟨#[]⟩ 3 _ _ rfl rfl (fun V hB _ => ⟨_, _, _, _, _, 3, rfl, hB, fun _ => rfl, fun h => (by rw [HCT.out] at h; cases h), fun h => (by rw [HCT.out] at h; cases h)⟩)
  subst e0
  subst e1
  have HF3 := Lib.hid e2
  rw [HHAS.out, show judgeM 0 true = 0 by decide]
  clear e2 HF2 HF1
  clear x20 x21 x22 f20 f21 f22 c60 c61 c62 c63 c64
  go_wp2_with fail
  clear HDK HDK2
  go_loopw [11, 12, 13, 52] (fun _ _ _ iv wr => ∃ (i : Nat) (v : Value) (T : List Nat), i ≤ n ∧ iv = .int .i64 (i : Int) ∧ Hid (Dk w w4 wr g d T 0 b5 b6 (needM kind) q k c kind v i l ⟨#[]⟩) ∧ Hid (Fd T (ptsB (l.drop i) ++ (numB (nums Bs).length ++ nums Bs)) rest cut)) (fun _ _ _ iv _ => n - (intOf iv).toNat)
  case atStart => exact ⟨0, _, T2, by omega, by go_num, HDK3, HF3⟩
  case round =>
    obtain ⟨i, v, T, hi, rfl, HD, HFi⟩ := hrel
    by_cases hlt : i < n
    · have hd1 : decide ((i : Int) < (n : Int)) = true := by simp; omega
      have hpo := HPO.out i hlt
      rw [Nat.zero_add] at hpo
      have hpb := HPB.out i hlt
      have HFs : Hid (Fd T (ptB (l.getD i default) ++ (ptsB (l.drop (i + 1)) ++ (numB (nums Bs).length ++ nums Bs))) rest cut) := Lib.hid (by rw [← List.append_assoc, ← HST.out i hlt]; exact HFi.out)
      obtain ⟨p, hp⟩ : ∃ p, Hid (l.getD i default = p) := ⟨_, Lib.hid rfl⟩
      rw [hp.out] at hpo hpb HFs
      have HPOi := Lib.hid hpo
      have HPBi := Lib.hid hpb
      have HLi := Lib.hid (HLEN.out (i + 1) hlt)
      clear hpo hpb HFi
      have x20 := cell_of_row _ _ 0 _ _ _ HD.out.x2
      have x21 := cell_of_row _ _ 1 _ _ _ HD.out.x2
      have x22 := cell_of_row _ _ 2 _ _ _ HD.out.x2
      have f20 := frozen_of_row _ _ 0 _ _ HD.out.x2
      have f21 := frozen_of_row _ _ 1 _ _ HD.out.x2
      have f22 := frozen_of_row _ _ 2 _ _ HD.out.x2
      have c60 := cell_of_row _ _ 0 _ _ _ HD.out.x6
      have c61 := cell_of_row _ _ 1 _ _ _ HD.out.x6
      have c62 := cell_of_row _ _ 2 _ _ _ HD.out.x6
      have c63 := cell_of_row _ _ 3 _ _ _ HD.out.x6
      have c64 := cell_of_row _ _ 4 _ _ _ HD.out.x6
      simp at x20 x21 x22 c60 c61 c62 c63 c64
      go_wp2_with fail
      refine (at_any _ (needM kind) i _ (by omega) (HNV.out _ _ _ _ _ _ HD.out)).mono ?_
      rintro e w9 ⟨r9, rfl, hr9, hb9⟩
      have HD9 := Lib.hid (HD.out.step hb9)
      have HR9 := Lib.hid hr9
      clear hr9 hb9
      clear x20 x21 x22 f20 f21 f22 c60 c61 c62 c63 c64
      go_wp2_with fail
      refine (takePart_any g d ((needM kind).at i) r9 p T _ rest cut _ (Lib.hid HD9.out.rd) HR9.out (by have := HLi.out; omega) HPBi.out HPOi.out HFs.out).mono ?_
      rintro e w10 ⟨pk, pn, ps, E0, f3, T3, rfl, hrd, hon, htell⟩
      have HD10 := Lib.hid (HD9.out.went hrd hon)
      have HT10 := Lib.hid htell
      clear hrd hon htell HD9 HR9
      rcases HT10.out with ⟨e0, e1, e2, e3⟩ | ⟨e0, e1, e2⟩
      rotate_left
      · subst e0
        have HCT := Lib.hid e2
        clear e1 e2 HT10
        have HDa := Lib.hid (HD10.out.step ((Below.refl _ _).alloc (Nat.le_refl _) (.cells #[.int .i64 pk, .int .i64 pn, .string ps] 54)))
        have x20 := cell_of_row _ _ 0 _ _ _ HDa.out.x2
        have x21 := cell_of_row _ _ 1 _ _ _ HDa.out.x2
        have x22 := cell_of_row _ _ 2 _ _ _ HDa.out.x2
        have f20 := frozen_of_row _ _ 0 _ _ HDa.out.x2
        have f21 := frozen_of_row _ _ 1 _ _ HDa.out.x2
        have f22 := frozen_of_row _ _ 2 _ _ HDa.out.x2
        simp at x20 x21 x22
        go_wp2_with fail
        exact HDa.out.ret 0 none 0 0 ⟨#[]⟩ 3 _ _ rfl rfl (fun V hB _ => ⟨_, _, _, _, _, 3, rfl, hB, fun _ => rfl, fun h => (by rw [HCT.out] at h; cases h), fun h => (by rw [HCT.out] at h; cases h)⟩)
      subst e0
      subst e1
      have HF10 := Lib.hid e3
      obtain ⟨qk, qn, qs⟩ := p
      simp only [Pt.mk.injEq] at e2
      obtain ⟨rfl, rfl, rfl⟩ := e2
      clear e3 HT10
      have HDa := Lib.hid (HD10.out.step ((Below.refl _ _).alloc (Nat.le_refl _) (.cells #[.int .i64 pk, .int .i64 pn, .string ps] 54)))
      have hxp : (w10.alloc (.cells #[.int .i64 pk, .int .i64 pn, .string ps] 54)).heap[w10.heap.size]? = some (.cells #[.int .i64 pk, .int .i64 pn, .string ps] 54 (0, 0)) := heap_alloc_new w10 _
      go_upto_region 17 with fail
      generalize w10.alloc (.cells #[.int .i64 pk, .int .i64 pn, .string ps] 54) = w11 at HDa hxp ⊢
      obtain ⟨qv, cv, hv⟩ := own_form HDa.out.row
      subst hv
      have c51 := cell_of_row _ _ 1 _ _ _ HDa.out.x5
      have p0 := cell_of_row _ _ 0 _ _ _ hxp
      have p1 := cell_of_row _ _ 1 _ _ _ hxp
      have p2 := cell_of_row _ _ 2 _ _ _ hxp
      simp at c51 p0 p1 p2
      have HOWN : Hid (∀ ob : Obj, (w11.alloc ob).ownsRow (b6 + 1) 54 3 (.slice qv i cv) i (pflat (l.take i))) := Lib.hid (fun ob => HDa.out.row.alloc ob)
      have HONE : Hid (∀ u ∈ [Value.int .i64 pk, .int .i64 pn, .string ps], u.oneCell' = true) := Lib.hid (by
        intro u hu
        simp at hu
        rcases hu with rfl | rfl | rfl <;> rfl)
      have H63 : Hid (i + 1 ≤ maxLen) := Lib.hid (by unfold maxLen; omega)
      have HBS6 : Hid (∀ ob : Obj, b6 + 1 ≤ (w11.alloc ob).heap.size) := Lib.hid (fun ob => by have := lt_of_block HDa.out.x6; simp; omega)
      have HSN : Hid (∀ (ob : Obj) (W3 : World) (v' : Value), W3.ownsRow (b6 + 1) 54 3 v' (i + 1) (pflat (l.take i) ++ [.int .i64 pk, .int .i64 pn, .string ps]) → (w11.alloc ob).grownBy W3 (Value.slice qv i cv).ownBlock →
          W3.heap[b5]? = some (.cells #[.int .i64 kind, .slice qv i cv, .string ⟨#[]⟩] 33 (0, 0)) ∧ Dk w w4 (W3.setCell ⟨b5, 1, none⟩ v') g d T3 0 b5 b6 (needM kind) q k c kind v' (i + 1) l ⟨#[]⟩) :=
        Lib.hid (fun ob W3 v' h1 h2 => HDa.out.snoc (by rw [HN.out]; exact hlt) hp.out ob h1 h2)
      clear hxp HD10
      go_wp2_with (at_builtin; refine wpList_append_own _ rfl (.tmp 68) (.tmp 70) 31 rfl (b6 + 1) 54 i0 (.agg #[.int .i64 0, .int .i64 0, .string ⟨#[]⟩]) 3 32 Try.underlying31 HI.out HZ0.out HZ1.out HZ2.out rfl (by decide) (.slice qv i cv) i (pflat (l.take i)) (by rfl) (HOWN.out _) ⟨_, 0, none⟩ 1 1 [.int .i64 pk, .int .i64 pn, .string ps] (by rfl) rfl (World.news_of_block (heap_alloc_new _ _)) HONE.out H63.out (by omega) (HBS6.out _) ?_; intro v' w12 hown hgrow _; obtain ⟨qn, cn, hvn⟩ := own_form hown; subst hvn; obtain ⟨hx5', hDN⟩ := HSN.out _ _ _ hown hgrow; have cc1 := cell_of_row _ _ 1 _ _ _ hx5'; have cf1 := frozen_of_row _ _ 1 _ _ hx5'; have HDN := Lib.hid hDN; clear hown hgrow hx5' hDN)
      go_roundw
      case rel => exact ⟨i + 1, _, T3, by omega, by go_num, HDN, HF10⟩
      case measure => simp [intOf]; omega
    · obtain rfl : i = n := by omega
      have HF4 : Hid (Fd T (numB (nums Bs).length ++ nums Bs ++ []) rest cut) := Lib.hid (by
        have h := HFi.out
        rw [← HN.out, List.drop_length] at h
        rw [List.append_nil]
        exact h)
      have HL4 : Hid (T.length ≤ 1099511627776) := Lib.hid (by
        have h1 := HF4.out.len
        have h2 := HLEN.out i (Nat.le_refl _)
        rw [List.append_nil] at h1
        rw [List.length_append] at h2
        omega)
      obtain ⟨M, hM, hM2⟩ := need_nat kind
      have HMM := Lib.hid hM
      have HNB : Hid ((nums Bs).length ≤ M) := Lib.hid (by
        have h := HBS.out
        unfold bytesM at h
        rw [Bool.and_eq_true, decide_eq_true_eq, hM] at h
        rw [nums_len]; omega)
      have c62 := cell_of_row _ _ 3 _ _ _ HD.out.x6
      simp at c62
      rw [hM] at c62
      clear HFi hM
      go_wp2_with fail
      refine (fsized M (by omega) g d (nums Bs) T [] rest cut _ (Lib.hid HD.out.rd) HL4.out HNB.out HF4.out).mono ?_
      rintro e w9 ⟨ps, ns, cs, ys, f3, T3, rfl, hys, hns, hF3⟩
      have hcv := hys.conv cs
      have HYL : Hid ((strB ys).size ≤ 9223372036854775807) := Lib.hid (by rw [strB_size, hys.len]; omega)
      have HD9 := Lib.hid (HD.out.went hF3.went.rd hF3.went.only)
      have HD8 := Lib.hid (HD9.out.setS (S := strB ys))
      have HT3 : Hid ((f3 = 0 ∧ strB ys = Bs ∧ Fd T3 [] rest cut) ∨ (f3 = 3 ∧ cut = true)) := Lib.hid (hF3.tell.imp (fun ⟨a, b, c⟩ => ⟨a, by rw [b, strB_nums], c⟩) id)
      have n2 := cell_of_row _ _ 2 _ _ _ HD9.out.x5
      have nf := frozen_of_row _ _ 2 _ _ HD9.out.x5
      simp at n2
      clear hF3 hys c62
      generalize strB ys = S5 at *
      go_upto_region 20 with fail
      generalize w9.setCell ⟨b5, 2, none⟩ (.string S5) = w10 at HD8 ⊢
      clear n2 nf hcv
      have x20 := cell_of_row _ _ 0 _ _ _ HD8.out.x2
      have x21 := cell_of_row _ _ 1 _ _ _ HD8.out.x2
      have x22 := cell_of_row _ _ 2 _ _ _ HD8.out.x2
      have f20 := frozen_of_row _ _ 0 _ _ HD8.out.x2
      have f21 := frozen_of_row _ _ 1 _ _ HD8.out.x2
      have f22 := frozen_of_row _ _ 2 _ _ HD8.out.x2
      have c60 := cell_of_row _ _ 0 _ _ _ HD8.out.x6
      have c61 := cell_of_row _ _ 1 _ _ _ HD8.out.x6
      have c62 := cell_of_row _ _ 2 _ _ _ HD8.out.x6
      have c63 := cell_of_row _ _ 3 _ _ _ HD8.out.x6
      have c64 := cell_of_row _ _ 4 _ _ _ HD8.out.x6
      simp at x20 x21 x22 c60 c61 c62 c63 c64
      have c52 := cell_of_row _ _ 2 _ _ _ HD8.out.x5
      simp at c52
      go_wp2_with fail
      refine (takeBytes_any _ (needM kind) S5 _ HYL.out (HNV.out _ _ _ _ _ _ HD8.out)).mono ?_
      rintro e w11 ⟨rfl, hb11⟩
      have HD11 := Lib.hid (HD8.out.step hb11)
      clear x20 x21 x22 f20 f21 f22 c60 c61 c62 c63 c64
      clear hb11 c52
      go_wp2_with fail
      refine (judge_any g d T3 f3 _ w11 HD11.out.rd).mono ?_
      rintro e w12 ⟨rfl, rfl⟩
      have x20 := cell_of_row _ _ 0 _ _ _ HD11.out.x2
      have x21 := cell_of_row _ _ 1 _ _ _ HD11.out.x2
      have x22 := cell_of_row _ _ 2 _ _ _ HD11.out.x2
      have f20 := frozen_of_row _ _ 0 _ _ HD11.out.x2
      have f21 := frozen_of_row _ _ 1 _ _ HD11.out.x2
      have f22 := frozen_of_row _ _ 2 _ _ HD11.out.x2
      simp at x20 x21 x22
      rcases HT3.out with ⟨e0, e1, e2⟩ | ⟨e0, e1⟩
      rotate_left
      · subst e0
        rw [show ∀ b, judgeM 3 b = 3 by intro b; rfl]
        have HCT := Lib.hid e1
        clear e1 HT3
        go_wp2_with fail
        exact HD11.out.ret 0 none 0 0 ⟨#[]⟩ 3 _ _ rfl rfl (fun V hB _ => ⟨_, _, _, _, _, 3, rfl, hB, fun _ => rfl, fun h => (by rw [HCT.out] at h; cases h), fun h => (by rw [HCT.out] at h; cases h)⟩)
      subst e0
      subst e1
      rw [HBS.out, show judgeM 0 true = 0 by decide]
      have hcf : cut = false := by
        cases cut with
        | false => rfl
        | true =>
          obtain ⟨X, hX, e⟩ := (e2 : ∃ X, X ≠ [] ∧ [] = T3 ++ X)
          rw [eq_comm, List.append_eq_nil_iff] at e
          exact absurd e.2 hX
      subst hcf
      have hT3 : T3 = rest := e2
      subst hT3
      have HRD := Lib.hid HD11.out.rd
      clear e2 HT3
      go_wp2_with fail
      cases T3 with
      | nil =>
        have c50 := cell_of_row _ _ 0 _ _ _ HD11.out.x5
        have c51 := cell_of_row _ _ 1 _ _ _ HD11.out.x5
        have c52 := cell_of_row _ _ 2 _ _ _ HD11.out.x5
        obtain ⟨qv, cv, hv⟩ := own_form HD11.out.row
        subst hv
        simp at c50 c51 c52
        refine (end_all g d _ HRD.out).mono ?_
        rintro e w13 ⟨rfl, rfl⟩
        go_wp2_with fail
        refine HD11.out.ret kind qv i cv S5 0 _ _ rfl rfl (fun V hB hO => ⟨_, _, _, _, _, 0, rfl, hB, fun h => (by cases h), fun _ h => absurd rfl h, fun _ _ => ⟨rfl, rfl, HN.out.symm, rfl, ?_⟩⟩)
        have hrow := HD11.out.row
        rw [← HN.out, List.take_length] at hrow
        exact Pts.own (own_other hrow (fun b hb => hO b (by have := (hrow.lt b hb).1; have := HD11.out.n1; have := HD11.out.n2; have := HD11.out.n3; omega)))
      | cons m rs =>
        refine (end_left g d _ _ HRD.out (by simp)).mono ?_
        rintro e w13 ⟨rfl, hrd, hon⟩
        have HD13 := Lib.hid (HD11.out.went hrd hon)
        clear hrd hon x20 x21 x22 f20 f21 f22
        have x20 := cell_of_row _ _ 0 _ _ _ HD13.out.x2
        have x21 := cell_of_row _ _ 1 _ _ _ HD13.out.x2
        have x22 := cell_of_row _ _ 2 _ _ _ HD13.out.x2
        have f20 := frozen_of_row _ _ 0 _ _ HD13.out.x2
        have f21 := frozen_of_row _ _ 1 _ _ HD13.out.x2
        have f22 := frozen_of_row _ _ 2 _ _ HD13.out.x2
        simp at x20 x21 x22
        go_wp2_with fail
        exact HD13.out.ret 0 none 0 0 ⟨#[]⟩ 4 _ _ rfl rfl (fun V hB _ => ⟨_, _, _, _, _, 4, rfl, hB, fun h => (by cases h), fun _ _ => rfl, fun _ h => (by cases h)⟩)
end Go.Proofs.Ytpdihgmgcamgkaa
