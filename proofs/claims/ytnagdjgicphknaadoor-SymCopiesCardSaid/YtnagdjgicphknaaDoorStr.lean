/- Bytes, and a string's bytes, behind a row of bytes: where the new row lies. -/
import Derived.Test.YtnagdjgicphknaaDoorMay
import Derived.Deep.AppendLies
import Derived.Lib.AppendStr
set_option linter.unusedSimpArgs false
namespace Go.Proofs.YtnagdjgicphknaaDoor
open Go.RowKit

section
variable {P : Program} {w : World}
/-- As the library's law; and where the new row lies. -/
theorem run_append_string_at (base : Nat) (t u ty e : TypeId) (i : TypeInfo) (ht : P.underlying t = some (.slice e)) (hu : P.underlying u = some .string) (hi : P.info? e = some i) (hz : i.zero = some (.int .u8 0))
    (hsize : i.size = 1) (hby : i.bytes = 1)
    (v : Value) (n : Nat) (xs : List Value) (hown : w.ownsRow base e 1 v n xs) (s : ByteArray)
    (h63 : n + s.size ≤ 1000000) (hbase : base ≤ w.heap.size) :
    ∃ v' w', (Builtin.append_ #[t, u] ty #[v, .string s]).run P w = .ok v' w' ∧ w'.ownsRow base e 1 v' (n + s.size) (xs ++ Lib.strCells s) ∧ w.grownBy w' v.ownBlock ∧
      (v'.ownBlock = v.ownBlock ∨ v'.ownBlock = some w.heap.size) := by
  have hml : n + s.size ≤ maxLen := by unfold maxLen; omega
  obtain ⟨v', w', hr, h2, h3, h4⟩ := Lib.run_append_own_string w base t u ty e i ht hu hi hz hsize hby v n xs hown s hml (by omega) hbase
  refine ⟨v', w', hr, h2, h3, ?_⟩
  rcases hown.2 with ⟨rfl, rfl⟩ | ⟨g, cap, cur, rfl, hbg, hg, hnc, hcm, hcs, htake⟩
  · by_cases hm : s.size = 0
    · rw [h4.2 ⟨rfl, hm⟩]; exact .inl rfl
    · have hr2 := run_append_nil_string (P := P) w t u ty e i (.int .u8 0) ht hu hi hz s (by omega) (by omega) (by rw [hby]; omega)
      rw [hr2] at hr
      cases hr
      exact .inr rfl
  · have hxl : xs.length = n := by simpa using hown.1
    by_cases hroom : n + s.size ≤ cap
    · have hcs' : cur.size = cap := by simpa using hcs
      have hr2 := Lib.run_append_room_string (P := P) w t u ty e i ht hu hi hsize g n cap cur hg s hroom (by omega)
      rw [hr2] at hr
      cases hr
      exact .inl rfl
    · have holds : ∀ j u, xs[j]? = some u → w.cell? ((⟨g, 0, none⟩ : Addr).add j) = some u := hown.cells (g := g) rfl
      have hr2 := Lib.run_append_grow_string (P := P) w t u ty e i (.int .u8 0) ht hu hi hz ⟨g, 0, none⟩ n cap xs (by rw [hsize]; simpa using hxl) holds s (by omega) (by omega) (by rw [hby]; exact growslice_fits (by omega) (by omega))
      rw [hr2] at hr
      cases hr
      exact .inr rfl
end
/-- A row of bytes of the call's own. -/
def Byr (w : World) (B : Nat) (v : Value) (bs : List Nat) : Prop := w.ownsRow B 5 1 v bs.length (u8s bs)
theorem Byr.nil_ (w : World) (B : Nat) : Byr w B (.slice none 0 0) [] := World.ownsRow_nil _ _ _ _
theorem Byr.below {w w' : World} {B : Nat} {v : Value} {bs : List Nat} (h : Byr w B v bs) (hb : Below w.heap.size w w') : Byr w' B v bs := own_below h hb
theorem Byr.other {w w' : World} {B : Nat} {v : Value} {bs : List Nat} (h : Byr w B v bs) (hb : ∀ g, v.ownBlock = some g → w'.heap[g]? = w.heap[g]?) : Byr w' B v bs := own_other h hb
theorem Byr.form {w : World} {B : Nat} {v : Value} {bs : List Nat} (h : Byr w B v bs) : ∃ q c, v = .slice q bs.length c := own_form h
theorem Byr.lt {w : World} {B : Nat} {v : Value} {bs : List Nat} (h : Byr w B v bs) : ∀ g, v.ownBlock = some g → B ≤ g ∧ g < w.heap.size := World.ownsRow.lt h
/-- 's[:0]'. -/
theorem Byr.cut {w : World} {B n c : Nat} {q : Option Addr} {bs : List Nat} (h : Byr w B (.slice q n c) bs) : Byr w B (.slice q 0 c) [] := by
  refine ⟨rfl, ?_⟩
  rcases h.2 with ⟨e, _⟩ | ⟨g, cap, cur, e, hb, hg, h1, h2, h3, h4⟩
  · cases e; exact .inl ⟨rfl, rfl⟩
  · cases e
    exact .inr ⟨g, _, cur, rfl, hb, hg, Nat.zero_le _, h2, h3, by simp [u8s]⟩
/-- Behind an append to it. -/
structure Apd (w w' : World) (v v' : Value) : Prop where
  grown : w.grownBy w' v.ownBlock
  at_ : v'.ownBlock = v.ownBlock ∨ v'.ownBlock = some w.heap.size
theorem Apd.below {w0 w w' : World} {B : Nat} {v v' : Value} {bs : List Nat} (h : Apd w w' v v') (hB : Below B w0 w) (hs : B ≤ w.heap.size) (ho : Byr w B v bs) : Below B w0 w' :=
  hB.grown h.grown hs (fun k e => (ho.lt k e).1)
theorem wpList_append_str (w : World) {ops : Array Oper} {rest : List Oper} {o : Oper} {a : Act} {Q : Exit → Act → World → Prop} (hgd : o.guard = none) (sl x : Operand)
    (ho : o.op = .call { callee := .builtin .append, args := #[sl, x], argTypes := #[55, 9] })
    (B : Nat) (v : Value) (bs : List Nat) (hs : a.eval sl = v) (hown : Byr w B v bs) (s : ByteArray) (hx : a.eval x = .string s)
    (h63 : bs.length + s.size ≤ 1000000) (hbase : B ≤ w.heap.size)
    (h : ∀ v' w', Byr w' B v' (bs ++ nums s) → Apd w w' v v' → wpList Tryd.prog ops Q rest (a.put o.dst v') w') : wpList Tryd.prog ops Q (o :: rest) a w := by
  obtain ⟨i0, hi, hz0, hz1, hz2⟩ := info_parts Tryd.info5
  refine wpList_plain hgd fun K hK => ?_
  obtain ⟨v', w', hr, h2, h3, h4⟩ := run_append_string_at (P := Tryd.prog) B 55 9 o.type 5 i0 Tryd.underlying55 Tryd.underlying9 hi hz0 hz1 hz2 v bs.length (u8s bs) hown s h63 hbase
  unfold Oper.wp execOp
  simp only [ho, resolve, invoke, builtin, Sem.run_bind, Sem.run_pure, Result.andThen_ok, List.map_toArray, List.map_cons, List.map_nil, hs, hx, hr]
  refine hK _ _ (h v' w' ?_ ⟨h3, h4⟩)
  unfold Byr
  rw [List.length_append, u8s_append, nums_len, ← strCells_nums]
  exact h2
theorem step_append_str (w : World) {ops : Array Oper} {o : Oper} {a : Act} {K : Act → World → Prop} {Q : Exit → Act → World → Prop} {E : Prop} (hgd : o.guard = none) (sl x : Operand)
    (ho : o.op = .call { callee := .builtin .append, args := #[sl, x], argTypes := #[55, 9] })
    (B : Nat) (v : Value) (bs : List Nat) (hs : a.eval sl = v) (hown : Byr w B v bs) (s : ByteArray) (hx : a.eval x = .string s)
    (h63 : bs.length + s.size ≤ 1000000) (hbase : B ≤ w.heap.size)
    (h : ∀ v' w', Byr w' B v' (bs ++ nums s) → Apd w w' v v' → K (a.put o.dst v') w') :
    if Region.wanted o (yielded ops a.tmps) = true then Oper.wp Tryd.prog o a w K Q else E := by
  have hw : Region.wanted o (yielded ops a.tmps) = true := by simp [Region.wanted, hgd]
  rw [if_pos hw]
  obtain ⟨i0, hi, hz0, hz1, hz2⟩ := info_parts Tryd.info5
  obtain ⟨v', w', hr, h2, h3, h4⟩ := run_append_string_at (P := Tryd.prog) B 55 9 o.type 5 i0 Tryd.underlying55 Tryd.underlying9 hi hz0 hz1 hz2 v bs.length (u8s bs) hown s h63 hbase
  unfold Oper.wp execOp
  simp only [ho, resolve, invoke, builtin, Sem.run_bind, Sem.run_pure, Result.andThen_ok, List.map_toArray, List.map_cons, List.map_nil, hs, hx, hr]
  refine h v' w' ?_ ⟨h3, h4⟩
  unfold Byr
  rw [List.length_append, u8s_append, nums_len, ← strCells_nums]
  exact h2
/-- Bytes behind bytes. -/
theorem run_append_byr (w : World) (ty : TypeId) (B : Nat) (v : Value) (bs : List Nat) (hown : Byr w B v bs) (p : Option Addr) (m c : Nat) (cs : List Nat) (hx : Bys w p m cs) (hm : 0 < m)
    (h63 : bs.length + m ≤ 1000000) (hbase : B ≤ w.heap.size) :
    ∃ v' w', (Builtin.append_ #[55, 55] ty #[v, .slice p m c]).run Tryd.prog w = .ok v' w' ∧ Byr w' B v' (bs ++ cs) ∧ Apd w w' v v' := by
  obtain ⟨i0, hi, hz0, hz1, hz2⟩ := info_parts Tryd.info5
  obtain ⟨ad, rfl, hc⟩ := hx.cells hm
  obtain ⟨g, cap, w', hr, h2, h3, h4, h5⟩ := run_append_lies (P := Tryd.prog) w 55 ty B 5 i0 (.int .u8 0) 1 1 Tryd.underlying55 hi hz0 hz1 hz2 rfl (by decide) v bs.length (u8s bs) hown ad m c (u8s cs) (by rw [u8s_len, hx.len]; omega) hc (u8s_one cs) hm (by unfold maxLen; omega) (by omega) hbase _ rfl
  refine ⟨_, w', hr, ?_, ⟨h3, ?_⟩⟩
  · unfold Byr
    rw [List.length_append, u8s_append, hx.len]; exact h2
  · rcases h4 with h4 | h4
    · exact .inl h4.symm
    · exact .inr (by rw [h4]; rfl)
theorem wpList_append_byr (w : World) {ops : Array Oper} {rest : List Oper} {o : Oper} {a : Act} {Q : Exit → Act → World → Prop} (hgd : o.guard = none) (sl x : Operand)
    (ho : o.op = .call { callee := .builtin .append, args := #[sl, x], argTypes := #[55, 55] })
    (B : Nat) (v : Value) (bs : List Nat) (hs : a.eval sl = v) (hown : Byr w B v bs) (p : Option Addr) (m c : Nat) (cs : List Nat) (hx : a.eval x = .slice p m c) (hb : Bys w p m cs) (hm : 0 < m)
    (h63 : bs.length + m ≤ 1000000) (hbase : B ≤ w.heap.size)
    (h : ∀ v' w', Byr w' B v' (bs ++ cs) → Apd w w' v v' → wpList Tryd.prog ops Q rest (a.put o.dst v') w') : wpList Tryd.prog ops Q (o :: rest) a w := by
  refine wpList_plain hgd fun K hK => ?_
  obtain ⟨v', w', hr, h2, h3⟩ := run_append_byr w o.type B v bs hown p m c cs hb hm h63 hbase
  unfold Oper.wp execOp
  simp only [ho, resolve, invoke, builtin, Sem.run_bind, Sem.run_pure, Result.andThen_ok, List.map_toArray, List.map_cons, List.map_nil, hs, hx, hr]
  exact hK _ _ (h v' w' h2 h3)
theorem step_append_byr (w : World) {ops : Array Oper} {o : Oper} {a : Act} {K : Act → World → Prop} {Q : Exit → Act → World → Prop} {E : Prop} (hgd : o.guard = none) (sl x : Operand)
    (ho : o.op = .call { callee := .builtin .append, args := #[sl, x], argTypes := #[55, 55] })
    (B : Nat) (v : Value) (bs : List Nat) (hs : a.eval sl = v) (hown : Byr w B v bs) (p : Option Addr) (m c : Nat) (cs : List Nat) (hx : a.eval x = .slice p m c) (hb : Bys w p m cs) (hm : 0 < m)
    (h63 : bs.length + m ≤ 1000000) (hbase : B ≤ w.heap.size)
    (h : ∀ v' w', Byr w' B v' (bs ++ cs) → Apd w w' v v' → K (a.put o.dst v') w') :
    if Region.wanted o (yielded ops a.tmps) = true then Oper.wp Tryd.prog o a w K Q else E := by
  have hw : Region.wanted o (yielded ops a.tmps) = true := by simp [Region.wanted, hgd]
  rw [if_pos hw]
  obtain ⟨v', w', hr, h2, h3⟩ := run_append_byr w o.type B v bs hown p m c cs hb hm h63 hbase
  unfold Oper.wp execOp
  simp only [ho, resolve, invoke, builtin, Sem.run_bind, Sem.run_pure, Result.andThen_ok, List.map_toArray, List.map_cons, List.map_nil, hs, hx, hr]
  exact h v' w' h2 h3
end Go.Proofs.YtnagdjgicphknaaDoor
