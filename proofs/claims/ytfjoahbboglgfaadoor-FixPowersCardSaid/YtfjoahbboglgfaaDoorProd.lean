/- The product of two numbers, digit by digit, is the row of the product. -/
import Derived.Test.YtfjoahbboglgfaaDoorSame
import Derived.Laws.AppendOwnNone
namespace Go.Proofs.YtfjoahbboglgfaaDoor
open Go.RowKit

/-- What both loops' heads know: the blocks of the call's own, and the row that is under way. -/
structure ProdRel (w wr : World) (A B C : Option Addr) (ca cb c : Nat) (a b ds : List Nat) (x y : Bool) (n : Nat) : Prop where
  one : wr.heap[w.heap.size]? = some (.cells #[.bool x, .slice A a.length ca] 24 (0, 0))
  two : wr.heap[w.heap.size + 1]? = some (.cells #[.bool y, .slice B b.length cb] 24 (0, 0))
  res : wr.heap[w.heap.size + 1 + 1]? = some (.cells #[.bool false, .slice none 0 0] 24 (0, 0))
  row : Row wr C c ds
  canon : Canon ds
  sum : val ds = n * val b
  below : Below w.heap.size w wr

theorem ProdRel.later {w wr w1 : World} {A B C C' : Option Addr} {ca cb c c' : Nat} {a b ds ds' : List Nat} {x y : Bool} {n n' : Nat} (h : ProdRel w wr A B C ca cb c a b ds x y n) (hb : Below wr.heap.size wr w1)
    (hr : Row w1 C' c' ds') (hc : Canon ds') (hs : val ds' = n' * val b) : ProdRel w w1 A B C' ca cb c' a b ds' x y n' :=
  ⟨bcell hb h.one, bcell hb h.two, bcell hb h.res, hr, hc, hs, h.below.trans (hb.mono h.below.size)⟩

theorem ProdRel.eqn {w wr : World} {A B C : Option Addr} {ca cb c : Nat} {a b ds : List Nat} {x y : Bool} {n n' : Nat} (h : ProdRel w wr A B C ca cb c a b ds x y n) (e : n = n') : ProdRel w wr A B C ca cb c a b ds x y n' := e ▸ h

theorem prod_len {a b ds : List Nat} {k : Nat} (ha : Dig a) (hb : Dig b) (hla : a.length ≤ 200) (hlb : b.length ≤ 200) (hd : Canon ds) (hk : k ≤ val a) (hs : val ds = k * val b) : ds.length ≤ 400 := by
  refine canon_len hd 400 ?_
  have h1 := val_lt ha
  have h2 := val_lt hb
  have h3 : val ds ≤ val a * val b := by rw [hs]; exact Nat.mul_le_mul_right _ hk
  have h4 : (10 : Nat) ^ a.length ≤ 10 ^ 200 := Nat.pow_le_pow_right (by omega) hla
  have h5 : (10 : Nat) ^ b.length ≤ 10 ^ 200 := Nat.pow_le_pow_right (by omega) hlb
  have h6 : val a * val b < 10 ^ 200 * 10 ^ 200 := Nat.mul_lt_mul'' (by omega) (by omega)
  rw [← Nat.pow_add] at h6
  omega

theorem row_news {w : World} {ad : Addr} {c : Nat} {ds : List Nat} (h : Row w (some ad) c ds) : ∀ (j : Nat) (u : Value), (ds.map toV)[j]? = some u → w.cell? (ad.add j) = some u := by
  intro j u hj
  rw [List.getElem?_map] at hj
  rcases Nat.lt_or_ge j ds.length with hl | hl
  · obtain ⟨g, e, hc⟩ := h.cell hl
    injection e with e
    subst e
    rw [List.getElem?_eq_getElem hl] at hj
    rw [show ((⟨g, 0, none⟩ : Addr).add j) = ⟨g, j, none⟩ by unfold Addr.add; split <;> simp_all, hc, List.getD_eq_getElem?_getD, List.getElem?_eq_getElem hl]
    exact hj
  · rw [List.getElem?_eq_none hl] at hj
    cases hj

theorem trim_n (A : Option Addr) (c n : Nat) (ds : List Nat) (w : World) (h : Row w A c ds) (hl : ds.length ≤ 1000) (hd : Dig ds) (hn : Hid (ds.length = n)) :
    Calls Tryd.prog 36 #[.slice A n c] w fun e w' => (∃ ds', e = .returned (.slice A ds'.length c) ∧ Row w' A c ds' ∧ Canon ds' ∧ val ds' = val ds) ∧ w = w' := by
  have h1 := trim_any A c ds w h hl hd
  rw [hn.out] at h1
  refine h1.mono ?_
  rintro e w' ⟨⟨k, hk, rfl, hc, hv⟩, rfl⟩
  exact ⟨⟨ds.take k, by rw [List.length_take, hn.out, Nat.min_eq_left hk], h.take k, hc, hv⟩, rfl⟩

theorem wpList_push_row {w : World} {ops : Array Oper} {rest : List Oper} {o : Oper} {a : Act} {Q : Exit → Act → World → Prop} (hgd : o.guard = none) (s x : Operand)
    (ho : o.op = .call { callee := .builtin .append, args := #[s, x], argTypes := #[22, 22] }) (base : Nat) (i : TypeInfo) (hi : Tryd.prog.info? 3 = some i) (hz : i.zero = some (.int .i64 0)) (hsize : i.size = 1) (hby : i.bytes = 8)
    (v : Value) (m : Nat) (xs : List Value) (hs : a.eval s = v) (hown : w.ownsRow base 3 1 v m xs) (A : Option Addr) (n c : Nat) (ds : List Nat) (hx : a.eval x = .slice A n c) (hr : Row w A c ds) (hn : Hid (ds.length = n))
    (hlm : m ≤ 1000) (hln : n ≤ 1000) (hbase : base ≤ w.heap.size)
    (h : ∀ v' w', w'.ownsRow base 3 1 v' (m + n) (xs ++ ds.map toV) → w.grownBy w' v.ownBlock → wpList Tryd.prog ops Q rest (a.put o.dst v') w') : wpList Tryd.prog ops Q (o :: rest) a w := by
  rcases A with _ | ad
  · obtain ⟨rfl, rfl⟩ := hr.none_
    obtain rfl : 0 = n := hn.out
    exact wpList_append_own_none hgd s x 22 ho base 3 i 1 Tryd.underlying22 hi v m xs hs hown hx (h v w (by simpa using hown) (World.grownBy.refl w _))
  · exact wpList_append_own _ hgd s x 22 ho base 3 i (.int .i64 0) 1 8 Tryd.underlying22 hi hz hsize hby rfl (by decide) v m xs hs hown ad n c (ds.map toV) hx (by rw [List.length_map, hn.out]; omega) (row_news hr)
      (by intro u hu; obtain ⟨d, _, rfl⟩ := List.mem_map.1 hu; rfl) (by unfold maxLen; omega) (by omega) hbase (fun v' w' h1 h2 _ => h v' w' h1 h2)

theorem own_cons {w : World} {base : Nat} {v : Value} {ds : List Nat} {n : Nat} (h : w.ownsRow base 3 1 v (0 + 1 + n) ([] ++ [.int .i64 0] ++ ds.map toV)) (hn : ds.length = n) : Own w base v (0 :: ds) := by
  subst hn
  unfold Own
  simpa [toV, Nat.add_comm] using h
theorem row_of_n {w : World} {base : Nat} {A : Option Addr} {n c : Nat} {ds : List Nat} (h : Own w base (.slice A n c) ds) : Row w A c ds ∧ ds.length = n := by
  obtain ⟨A', c', he, hr⟩ := h.row
  injection he with h1 h2 h3
  subst h1 h3
  exact ⟨hr, h2.symm⟩
theorem dig_cons {ds : List Nat} (h : Dig ds) : Dig (0 :: ds) := by
  intro d hd
  rcases List.mem_cons.1 hd with rfl | h1
  · decide
  · exact h d h1

set_option maxHeartbeats 1600000 in
set_option maxRecDepth 100000 in
theorem prod_any (A B : Option Addr) (ca cb : Nat) (a b : List Nat) (x y : Bool) (w : World) (ha : Row w A ca a) (hb : Row w B cb b) (hla : a.length ≤ 200) (hlb : b.length ≤ 200) (hda : Canon a) (hdb : Canon b) :
    Calls Tryd.prog 20 #[.agg #[.bool x, .slice A a.length ca], .agg #[.bool y, .slice B b.length cb]] w fun e w' =>
      (∃ C c ds, e = .returned (.agg #[.bool (!(x == y)), .slice C ds.length c]) ∧ Row w' C c ds ∧ Canon ds ∧ val ds = val a * val b) ∧ Below w.heap.size w w' := by
  obtain ⟨i0, hi, hz0, hz1, hz2⟩ := info_parts infoInt
  have h3 := below3 w (.cells #[.bool x, .slice A a.length ca] 24) (.cells #[.bool y, .slice B b.length cb] 24) (.cells #[.bool false, .slice none 0 0] 24)
  have e0 := heap3_0 w (.cells #[.bool x, .slice A a.length ca] 24) (.cells #[.bool y, .slice B b.length cb] 24) (.cells #[.bool false, .slice none 0 0] 24)
  have e1 := heap3_1 w (.cells #[.bool x, .slice A a.length ca] 24) (.cells #[.bool y, .slice B b.length cb] 24) (.cells #[.bool false, .slice none 0 0] 24)
  have e2 := heap3_2 w (.cells #[.bool x, .slice A a.length ca] 24) (.cells #[.bool y, .slice B b.length cb] 24) (.cells #[.bool false, .slice none 0 0] 24)
  have H3 := Lib.hid h3
  have E0 := Lib.hid e0
  have E1 := Lib.hid e1
  have E2 := Lib.hid e2
  clear h3 e0 e1 e2
  go_enter Tryd.func20, Tryd.ntmps20
  go_wp2_with fail
  generalize (((w.alloc (.cells #[.bool x, .slice A a.length ca] 24)).alloc (.cells #[.bool y, .slice B b.length cb] 24)).alloc (.cells #[.bool false, .slice none 0 0] 24)) = W at *
  have q0 := blk_cell E0.out 0
  have q1 := blk_cell E0.out 1
  simp at q0 q1
  go_wp2_with fail
  clear q0 q1
  go_loopw [5, 6] (fun sv iv wr => ∃ C c ds k, sv = .slice C ds.length c ∧ iv = .int .i64 ((k : Nat) - 1 : Int) ∧ k ≤ a.length ∧ ProdRel w wr A B C ca cb c a b ds x y (val (a.drop k))) (fun _ iv _ => (intOf iv + 1).toNat)
  case atStart => exact ⟨none, 0, [], a.length, rfl, rfl, Nat.le_refl _, E0.out, E1.out, E2.out, Row.nil, Canon.nil, by rw [List.drop_eq_nil_of_le (Nat.le_refl _)]; simp [val], H3.out⟩
  case round =>
    obtain ⟨C, c, ds, k, rfl, rfl, hk, hr⟩ := hrel
    have k0 := blk_cell hr.one 0
    have k1 := blk_cell hr.one 1
    have k2 := blk_cell hr.two 0
    have k3 := blk_cell hr.two 1
    have n0 := blk_cell hr.res 0
    have n1 := blk_cell hr.res 1
    have f0 := blk_frozen hr.res 0
    have f1 := blk_frozen hr.res 1
    have HR := Lib.hid hr
    clear hr
    simp at k0 k1 k2 k3 n0 n1
    rcases k with _ | j
    · have HE := Lib.hid (num_end (x := !(x == y)) (u := .slice C ds.length c) HR.out.res HR.out.row HR.out.below (by omega))
      have r0 := HE.out.1
      have r1 := HE.out.2.1
      go_wp2_with fail
      exact bodyPost_ret (v := .agg #[.bool (!(x == y)), .slice C ds.length c]) (by simp [results, Tryd.results20, go_sem, r0, r1]) rfl ⟨⟨C, c, ds, rfl, HE.out.2.2.2.1, HR.out.canon, HR.out.sum⟩, HE.out.2.2.2.2⟩
    · have hdl := prod_len (k := val (a.drop (j + 1))) hda.1 hdb.1 hla hlb HR.out.canon (val_drop_le _ _) HR.out.sum
      have hsz := blk_lt HR.out.res
      obtain ⟨n, HN⟩ : ∃ n, Hid (ds.length = n) := ⟨_, rfl⟩
      have hn : n ≤ 400 := by have := HN.out; omega
      have hrow := HR.out.row
      have HROW := Lib.hid hrow
      have hz : wr.ownsRow wr.heap.size 3 1 (.slice none 0 0) 0 [] := World.ownsRow_nil _ _ _ _
      rw [HN.out]
      go_wp2_with (first
        | (at_builtin; refine wpList_append_own _ rfl (.tmp 17) (.tmp 18) 22 rfl wr.heap.size 3 i0 (.int .i64 0) 1 8 Tryd.underlying22 hi hz0 hz1 hz2 rfl (by decide) _ _ _ rfl (hz.alloc _) ⟨wr.heap.size, 0, none⟩ 1 1 [.int .i64 0] rfl rfl (one_cells _ _ _) ?c2 ?c3 ?c4 ?c5 ?_))
      case c2 => intro u hu; simp at hu; subst hu; rfl
      case c3 => unfold maxLen; omega
      case c4 => omega
      case c5 => simp
      intro v1 w1 hown1 hgrow1 _
      have hb1 := ((Below.refl wr.heap.size wr).alloc (Nat.le_refl _) _).grown hgrow1 (by simp) (fun k hk => by simp [Value.ownBlock] at hk)
      have hrow1 := HROW.out.below hb1
      have HB1 := Lib.hid hb1
      have HBL := Lib.hid (World.ownsRow.lt hown1)
      clear hgrow1 hb1
      go_wp2_with (first
        | (at_builtin; refine wpList_push_row rfl (.tmp 20) (.tmp 21) rfl wr.heap.size i0 hi hz0 hz1 hz2 _ _ _ rfl hown1 C n c ds rfl hrow1 HN ?c3 ?c4 ?c5 ?_))
      case c3 => omega
      case c4 => omega
      case c5 => exact HB1.out.size
      intro v2 w2 hown2 hgrow2
      obtain ⟨D, c2, rfl⟩ := own_shape hown2
      have hb2 := HB1.out.grown hgrow2 HB1.out.size (fun k hk => (HBL.out k hk).1)
      have HO := Lib.hid (row_of_n (own_cons hown2 HN.out))
      have HB2 := Lib.hid hb2
      clear hown2 hgrow2 hown1 hrow1 hb2 hrow
      have hrow2 := HO.out.1
      have HL2 := Lib.hid HO.out.2
      have hl2 : (0 :: ds).length ≤ 1000 := by simp; omega
      go_wp2_with fail
      refine (trim_n D c2 _ (0 :: ds) _ hrow2 hl2 (dig_cons HR.out.canon.1) HL2).mono ?_
      rintro e w3 ⟨⟨es, rfl, hre, hce, hve⟩, rfl⟩
      have HV : Hid (val es = (10 * val (a.drop (j + 1)) + 0) * val b) := by
        unfold Hid
        rw [hve, val_cons_zero, HR.out.sum]
        exact (Nat.mul_assoc _ _ _).symm
      have HR2 := Lib.hid (HR.out.later HB2.out hre hce HV.out)
      clear hve hl2 hrow2 k0 k1 k2 k3 n0 n1 f0 f1
      have HVD := Lib.hid (val_drop a j (by omega))
      obtain ⟨X, HX⟩ : ∃ X, Hid (a.getD j 0 = X) := ⟨_, rfl⟩
      obtain ⟨V, HVV⟩ : ∃ V, Hid (val (a.drop (j + 1)) = V) := ⟨_, rfl⟩
      have hX := hda.1.getD j
      rw [HX.out] at hX
      have HVb : Hid (10 * V + X ≤ val a) := by
        unfold Hid
        have h1 := val_drop_le a j
        have h2 := HVD.out
        rw [HX.out, HVV.out] at h2
        omega
      rw [HVV.out] at HR2
      clear HR HV HROW
      go_wp2_with fail
      go_loopw [5, 8] (fun sv mv wv => ∃ C c fs m, sv = .slice C fs.length c ∧ mv = .int .i64 ((m : Nat) : Int) ∧ m ≤ X ∧ ProdRel w wv A B C ca cb c a b fs x y (10 * V + m)) (fun _ mv _ => X - (intOf mv).toNat)
      case atStart => exact ⟨D, c2, es, 0, rfl, rfl, Nat.zero_le _, HR2.out⟩
      case round =>
        obtain ⟨C', c', fs, m, rfl, rfl, hm, hr⟩ := hrel
        have k0 := blk_cell hr.one 1
        have k1 := blk_cell hr.two 1
        simp at k0 k1
        obtain ⟨g, rfl, hcell⟩ := (ha.below hr.below).cell (k := j) (by omega)
        rw [HX.out] at hcell
        have hrb := hb.below hr.below
        have hfl := prod_len (k := 10 * V + m) hda.1 hdb.1 hla hlb hr.canon (by have := HVb.out; omega) hr.sum
        have HR3 := Lib.hid hr
        clear hr
        by_cases hmx : m < X
        · go_wp2_with fail
          refine (plus_any C' B c' cb fs b _ HR3.out.row hrb (by omega) (by omega) HR3.out.canon.1 hdb.1).mono ?_
          rintro e w4 ⟨⟨D2, d2, gs, rfl, hrg, hcg, hvg⟩, hbg⟩
          have R := Lib.hid (HR3.out.later hbg hrg hcg (n' := 10 * V + (m + 1)) (by rw [hvg, HR3.out.sum, ← Nat.add_assoc, Nat.add_mul (10 * V + m) 1, Nat.one_mul]))
          clear hvg hbg hrg hcg k0 k1 hcell hrb HR3
          go_wp2_with fail
          go_roundw
          case rel => exact ⟨D2, d2, gs, m + 1, rfl, by go_num, by omega, R.out⟩
          case measure => simp [intOf]; omega
        · have hmX : m = X := by omega
          have R := Lib.hid (HR3.out.eqn (n' := val (a.drop j)) (by rw [hmX, HVD.out, HX.out, HVV.out]; omega))
          clear hmX HR3 hrb
          go_wp2_with fail
          go_roundw
          case rel => exact ⟨C', c', fs, j, rfl, by go_num, by omega, R.out⟩
          case measure => simp [intOf]

end Go.Proofs.YtfjoahbboglgfaaDoor
