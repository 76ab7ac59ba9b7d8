/- The law of a nil page, and of a loop that is left: the walk. -/
import Derived.Test.YtldkmkgkllgckaaLPlays
import Derived.Test.YtldkmkgkllgckaaIn
import Derived.Sort.CutIn
set_option linter.unusedSimpArgs false
namespace Go.Proofs.Ytldkmkgkllgckaa
open Go.RowKit Go.Shelf
attribute [local go_sem] Oper.semAt_some

theorem region_inF {F : Fence} {n : Nat} {id : Nat} {Q : Exit → Act → World → Prop} {a : Act} {w : World} {l : List Oper} (W : World) (hro : F.round = none) (hm : Try.prog.follows .mixedOrders = true) (hB : Region.lexB .any l.toArray = true) (hw : Below W.heap.size W w)
    (h : wpQuietIn F n Try.prog l.toArray (fun w' => ∃ s : In W, w' = s.1) (fun a' => ∀ w', (∃ s : In W, w' = s.1) → Q .normal a' w') l a) : (Code.region id l.toArray true).wpIn F n Try.prog Q a w :=
  wpIn_region_quiet (C := fun w' => ∃ s : In W, w' = s.1) hro hm hB ⟨⟨_, hw.drew⟩, rfl⟩ (by simpa using h)
/-- What stays through the law: the step's box, the bound's. -/
structure Ns (w W : World) (kind oi long : Int) (y : Nat) (stop : Int) : Prop where
  x0 : W.heap[w.heap.size]? = some (.cells #[.int .i64 kind, .int .i64 oi, .int .i64 long, .int .u8 (y : Int)] 42 (0, 0))
  x1 : W.heap[w.heap.size + 1]? = some (.cells #[.int .i64 stop] 3 (0, 0))
  below : Below w.heap.size w W
section
variable {w W : World} {kind oi long : Int} {y : Nat} {stop : Int}
theorem Ns.lt (h : Ns w W kind oi long y stop) : w.heap.size + 1 < W.heap.size := lt_of_block h.x1
theorem Ns.le {W' : World} (h : Ns w W kind oi long y stop) (hb : Below W.heap.size W W') : Ns w W' kind oi long y stop :=
  ⟨(hb.block _ (by have := h.lt; omega)).trans h.x0, (hb.block _ h.lt).trans h.x1, h.below.trans (hb.mono h.below.size)⟩
theorem Ns.c0 (h : Ns w W kind oi long y stop) : W.cell? ⟨w.heap.size, 0, none⟩ = some (.int .i64 kind) := by rw [cell_of_row _ _ 0 _ _ _ h.x0]; rfl
theorem Ns.c1 (h : Ns w W kind oi long y stop) : W.cell? ⟨w.heap.size, 1, none⟩ = some (.int .i64 oi) := by rw [cell_of_row _ _ 1 _ _ _ h.x0]; rfl
theorem Ns.c2 (h : Ns w W kind oi long y stop) : W.cell? ⟨w.heap.size, 2, none⟩ = some (.int .i64 long) := by rw [cell_of_row _ _ 2 _ _ _ h.x0]; rfl
theorem Ns.c3 (h : Ns w W kind oi long y stop) : W.cell? ⟨w.heap.size, 3, none⟩ = some (.int .u8 (y : Int)) := by rw [cell_of_row _ _ 3 _ _ _ h.x0]; rfl
theorem Ns.s0 (h : Ns w W kind oi long y stop) : W.cell? ⟨w.heap.size + 1, 0, none⟩ = some (.int .i64 stop) := by rw [cell_of_row _ _ 0 _ _ _ h.x1]; rfl
end
/-- Amid the loop over what a nil page has. -/
structure Nc (w W : World) (kind oi long : Int) (y : Nat) (stop : Int) (bc : Nat) : Prop where
  ns : Ns w W kind oi long y stop
  xc : W.heap[bc]? = some (.cells #[.int .i64 0] 3 (0, 0))
theorem Nc.own {β : Type} {w w3 : World} {kind oi long : Int} {y : Nat} {stop : Int} {bc : Nat} (h : w.heap.size ≤ w3.heap.size) : OwnFrom w3.heap.size (fun (_ : β) W => Nc w W kind oi long y stop bc) := fun _ _ _ _ hs hg hr =>
  have hr2 := fun r e => (hr r e).2
  ⟨⟨kept_cells hg hr2 hs.ns.x0, kept_cells hg hr2 hs.ns.x1, hs.ns.below.grown hg hs.ns.below.size (fun k e => Nat.le_trans h (hr k e).1)⟩, kept_cells hg hr2 hs.xc⟩
/-- Amid the loop that may be left: how many were seen. -/
structure Sn (w W : World) (kind oi long : Int) (y : Nat) (stop : Int) (D bs : Nat) (xv : Value) (l : List Sl) (m : Int) : Prop where
  ns : Ns w W kind oi long y stop
  xs : W.heap[bs]? = some (.cells #[.int .i64 m] 3 (0, 0))
  ref : Rf W xv l
  def_ : W.heap[D]? = some (.deferred (some []))
  hD : D < bs
  hw : w.heap.size + 1 < bs
section
variable {w W : World} {kind oi long : Int} {y : Nat} {stop : Int} {D bs : Nat} {xv : Value} {l : List Sl} {m : Int}
theorem Sn.cs (h : Sn w W kind oi long y stop D bs xv l m) : W.cell? ⟨bs, 0, none⟩ = some (.int .i64 m) := by rw [cell_of_row _ _ 0 _ _ _ h.xs]; rfl
theorem Sn.fs (h : Sn w W kind oi long y stop D bs xv l m) : W.frozen? ⟨bs, 0, none⟩ = false := frozen_of_row _ _ 0 _ _ h.xs
theorem Sn.step (h : Sn w W kind oi long y stop D bs xv l m) (m' : Int) : Sn w (W.setCell ⟨bs, 0, none⟩ (.int .i64 m')) kind oi long y stop D bs xv l m' := by
  have n1 : ∀ k, k ≠ bs → (W.setCell ⟨bs, 0, none⟩ (.int .i64 m')).heap[k]? = W.heap[k]? := fun k hk => heap_setCell_other _ _ _ _ hk
  have hD := h.hD
  have hw := h.hw
  refine ⟨⟨(n1 _ (by omega)).trans h.ns.x0, (n1 _ (by omega)).trans h.ns.x1, h.ns.below.setCell (p := ⟨bs, 0, none⟩) (by show _ ≤ bs; omega) _⟩, heap_setCell_same W bs 0 _ 3 _ h.xs, own_other h.ref (fun k hk => ?_), (n1 D (by omega)).trans h.def_, hD, hw⟩
  obtain ⟨cur, hc⟩ := own_head h.ref hk
  exact n1 k (ne_of_ty hc h.xs (by decide))
theorem Sn.kept {X Y w3 : World} {row : Option Nat} (hs : Sn w X kind oi long y stop D bs xv l m) (hb : bs < w3.heap.size) (h : w.heap.size ≤ w3.heap.size) (hg : X.grownBy Y row) (hr : ∀ r, row = some r → w3.heap.size ≤ r ∧ ∃ o : Obj, X.heap[r]? = some o ∧ o.isCells = false) : Sn w Y kind oi long y stop D bs xv l m :=
  have hr2 := fun r e => (hr r e).2
  have hD := hs.hD
  ⟨⟨kept_cells hg hr2 hs.ns.x0, kept_cells hg hr2 hs.ns.x1, hs.ns.below.grown hg hs.ns.below.size (fun k e => Nat.le_trans h (hr k e).1)⟩, kept_cells hg hr2 hs.xs, kept_row hg hr2 hs.ref,
    (hg.block D (lt_of_block hs.def_) (fun e => by have := (hr D e.symm).1; omega)).trans hs.def_, hD, hs.hw⟩
end
set_option maxRecDepth 100000 in
set_option maxHeartbeats 6400000 in
theorem nils_walk (a : Option Addr) (n c : Nat) (f : Nat → Opv) (o : Opv) (stop : Int) (W : World) (hn : n ≤ 9223372036854775807) (hO : Ops W a n f) (hB : OpB o) (hs1 : -9223372036854775808 ≤ stop) (hs2 : stop ≤ 9223372036854775807) :
    Calls Try.prog 5 #[.slice a n c, o.val, .int .i64 stop] W fun e W' => e = .returned (.bool true) ∧ Below W.heap.size W W' := by
  have HLV := Lib.hid lives_any
  have HRC : Hid (∀ w1, Calls Try.prog 13 #[.agg #[.int .i64 o.kind, .int .i64 o.i, .int .i64 o.long, .int .u8 (o.fill : Int)]] w1 fun e w' => e = .returned (.string (recS o)) ∧ Below w1.heap.size w1 w') := Lib.hid (fun w1 => rec_any o w1 hB)
  have HOO := Lib.hid hO
  have q1 : ∀ (w : World) (caps : Array Value), (binOp .eql 29 (.func (.func 23) #[] caps) .nilFunc).run Try.prog w = .ok (.bool false) w := fun w caps => eql_nilF w 23 caps
  show Calls Try.prog 5 #[.slice a n c, .agg #[.int .i64 o.kind, .int .i64 o.i, .int .i64 o.long, .int .u8 (o.fill : Int)], .int .i64 stop] W _
  clear hO hB
  generalize recS o = rS at *
  generalize o.kind = kind at *
  generalize o.i = oi at *
  generalize o.long = long at *
  generalize o.fill = y at *
  refine (callsIn_wide (n := 5)).1 ?_
  refine callsIn_of_wp_marks Try.func5 rfl trivial ?_ rfl
  simp only [Try.ntmps5, List.size_toArray, List.length_cons, List.length_nil, Nat.reduceAdd, Nat.reduceSub, Array.replicate_succ, Array.replicate_zero, List.push_toArray, List.append_toArray, List.nil_append, List.cons_append]
  have HB0 : Hid (Below W.heap.size W ((W.alloc (.cells #[.int .i64 kind, .int .i64 oi, .int .i64 long, .int .u8 (y : Int)] 42)).alloc (.cells #[.int .i64 stop] 3))) := Lib.hid (((Below.refl _ _).alloc (Nat.le_refl _) _).alloc (by simp) _)
  have hx0 : ((W.alloc (.cells #[.int .i64 kind, .int .i64 oi, .int .i64 long, .int .u8 (y : Int)] 42)).alloc (.cells #[.int .i64 stop] 3)).heap[W.heap.size]? = some (.cells #[.int .i64 kind, .int .i64 oi, .int .i64 long, .int .u8 (y : Int)] 42 (0, 0)) := heap_alloc2_old W _ _
  have hx1 : ((W.alloc (.cells #[.int .i64 kind, .int .i64 oi, .int .i64 long, .int .u8 (y : Int)] 42)).alloc (.cells #[.int .i64 stop] 3)).heap[W.heap.size + 1]? = some (.cells #[.int .i64 stop] 3 (0, 0)) := heap_alloc2_new W _ _
  have HN0 : Hid (Ns W ((W.alloc (.cells #[.int .i64 kind, .int .i64 oi, .int .i64 long, .int .u8 (y : Int)] 42)).alloc (.cells #[.int .i64 stop] 3)) kind oi long y stop) := Lib.hid ⟨hx0, hx1, HB0.out⟩
  clear hx0 hx1 HB0
  gi_upto_region 1 with fail
  generalize (W.alloc (.cells #[.int .i64 kind, .int .i64 oi, .int .i64 long, .int .u8 (y : Int)] 42)).alloc (.cells #[.int .i64 stop] 3) = w0 at *
  have a0 := HN0.out.c0
  have a1 := HN0.out.c1
  have a2 := HN0.out.c2
  have a3 := HN0.out.c3
  gi_wp2
  refine ⟨trivial, ?_⟩
  refine (callsIn_wide.2 (HRC.out _)).mono ?_
  rintro e w1 ⟨rfl, hb⟩
  have HN1 := Lib.hid (HN0.out.le hb)
  clear hb a0 a1 a2 a3 HN0
  gi_wp2
  refine ⟨trivial, ?_⟩
  refine (callsIn_wide.2 (add_nil rS w1)).mono ?_
  rintro e w2 ⟨rfl, hb⟩
  have HN2 := Lib.hid (HN1.out.le hb)
  clear hb HN1
  have a0 := HN2.out.c0
  have a1 := HN2.out.c1
  gi_wp2
  refine ⟨trivial, ?_⟩
  refine (callsIn_wide.2 (get_nil oi w2)).mono ?_
  rintro e w3 ⟨rfl, hb⟩
  have HN3 := Lib.hid (HN2.out.le hb)
  clear hb HN2 a0 a1
  gi_wp2
  refine ⟨trivial, ?_⟩
  refine (callsIn_wide.2 (all_nil _)).mono ?_
  rintro e w5 ⟨⟨Bs, v', rfl, hAl⟩, hb5⟩
  gi_wp2
  have hb35 : Below w3.heap.size w3 w5 := ((Below.refl w3.heap.size w3).alloc (Nat.le_refl _) (.cells #[.int .i64 0] 3)).trans (hb5.mono (by simp))
  have HN5 := Lib.hid (HN3.out.le hb35)
  have HC5 : Hid (w5.heap[w3.heap.size]? = some (.cells #[.int .i64 0] 3 (0, 0))) := Lib.hid ((hb5.block _ (by simp)).trans (heap_alloc_new w3 _))
  obtain ⟨t1, t2, t3, t4⟩ := hAl
  have hvlt : ∀ b, v'.ownBlock = some b → b < w5.heap.size := fun b hb => (t4.lt b hb).2
  have HSZ : Hid (W.heap.size ≤ w5.heap.size) := Lib.hid (by have := HN5.out.lt; omega)
  clear hb5 hb35 t1
  refine wpIn_rangeFunc_ownG rfl (by omega) (gf := 23) (lb := #[.pointer (some ⟨Bs, 0, none⟩)]) rfl trivial (enters_of Try.func23 (by kernel_rfl) rfl)
    (all_stops 4 (by omega) Bs 1 v' [] _ (by simp) (by simp) w5 t2 t3 t4) KeepB.trans (KeepB.put hvlt) (Below.refl _ _) (fun _ => rfl)
    (fun _ W' => Nc W W' kind oi long y stop w3.heap.size)
    (fun _ _ _ => False)
    (Nc.own HSZ.out)
    (fun c => ownFrom_pure _ _)
    ⟨HN5.out, HC5.out⟩
    (fun x => { tmps := #[Value.slice a n c, Value.agg #[Value.int IntKind.i64 kind, Value.int IntKind.i64 oi, Value.int IntKind.i64 long, Value.int IntKind.u8 ↑y], Value.int IntKind.i64 stop, undef, Value.pointer (some { block := W.heap.size, off := 0 }), Value.pointer (some { block := W.heap.size + 1, off := 0 }), Value.bool false, Value.pointer none, Value.int IntKind.i64 0, Value.int IntKind.i64 1, Value.string { data := #[] }, Value.bool false, Value.pointer (some { block := w3.heap.size, off := 0 }), Value.func (Fn.func 23) #[] #[Value.pointer (some { block := Bs, off := 0 })], undef, undef, undef, undef, undef, undef, undef, Value.tuple #[Value.int IntKind.i64 0, Value.int IntKind.i64 1], Value.pointer none, Value.agg #[Value.int IntKind.i64 kind, Value.int IntKind.i64 oi, Value.int IntKind.i64 long, Value.int IntKind.u8 ↑y], Value.string rS, Value.tuple #[Value.int IntKind.i64 0, Value.int IntKind.i64 1], Value.int IntKind.i64 0, Value.int IntKind.i64 1, Value.tuple #[Value.string { data := #[] }, Value.bool false], Value.pointer none, Value.pointer (some { block := W.heap.size, off := 1 }), Value.int IntKind.i64 oi, Value.tuple #[Value.string { data := #[] }, Value.bool false], Value.string { data := #[] }, Value.bool false, Value.pointer none, Value.func (Fn.func 23) #[] #[Value.pointer (some { block := Bs, off := 0 })], Value.func (Fn.func 23) #[] #[Value.pointer (some { block := Bs, off := 0 })], Value.bool false, Value.func (Fn.func 23) #[] #[Value.pointer (some { block := Bs, off := 0 })], .int .i64 (x.1.1 : Int), .string x.1.2, undef, undef, undef, undef, undef, undef, undef, undef, undef, undef, undef, undef, undef, undef, undef, undef, undef, undef, undef, undef, undef, undef, undef, undef, undef, undef, undef, undef, undef, undef, undef, undef, undef, undef, undef, undef, undef, undef, undef, undef, undef, undef, undef, undef, undef, undef, undef, undef, undef, undef, undef, undef, undef, undef, undef, undef, undef, undef, undef, undef, undef, undef, undef, undef, undef, undef, undef, undef, undef, undef, undef, undef, undef, undef, undef, undef, undef, undef, undef, undef, undef, undef, undef, undef, undef, undef, undef, undef], defers := [] }) ?assign ?body ?done ?stop
  case assign =>
    intro y x W' K hK
    gi_wp2
    exact hK
  case body =>
    intro y pre x W' hI hlen
    exact absurd x.lt (Nat.not_lt_zero _)
  case stop =>
    rintro D cd pre W' hD _ hf hK
    exact hf.elim
  case done =>
    rintro D ys W6 hD rfl hI hK
    have HN6 := Lib.hid hI.ns
    have HC6 := Lib.hid hI.xc
    have HK6 := Lib.hid hK
    have HD6 := Lib.hid hD
    have la : ∀ s : In W6, s.1.cell? ⟨W.heap.size, 0, none⟩ = some (.int .i64 kind) := fun s => (HN6.out.le s.2).c0
    have lb : ∀ s : In W6, s.1.cell? ⟨W.heap.size, 1, none⟩ = some (.int .i64 oi) := fun s => (HN6.out.le s.2).c1
    have lc : ∀ s : In W6, s.1.cell? ⟨W.heap.size, 2, none⟩ = some (.int .i64 long) := fun s => (HN6.out.le s.2).c2
    have ld : ∀ s : In W6, s.1.cell? ⟨W.heap.size, 3, none⟩ = some (.int .u8 (y : Int)) := fun s => (HN6.out.le s.2).c3
    have le : ∀ s : In W6, s.1.cell? ⟨w3.heap.size, 0, none⟩ = some (.int .i64 0) := fun s => by rw [cell_of_row _ _ 0 _ _ _ ((s.2.block _ (lt_of_block HC6.out)).trans HC6.out)]; rfl
    clear hI hK hD t2 t3 t4 hvlt
    have hne := In.some W6
    gi_upto_region 10 with fail
    refine region_inF W6 rfl (by kernel_rfl) (by kernel_rfl) (Below.refl _ _) ?_
    repeat (gi_big_quiet_step (fail))
    refine BigFrame.wpQuietIn_want (fun _ _ _ _ => trivial) (by kernel_rfl) (fun K hK => ?_)
    gi_big_quiet_op
    apply Exists.intro
    refine ⟨fun _ => ?_, ?_⟩
    · gi_at_call 13
      exact callsIn_wide.2 (Calls.quiet_in (HRC.out _))
    refine hK _ ?_
    clear hK K
    repeat (gi_big_quiet_step (fail))
    refine BigFrame.wpQuietIn_want (fun _ _ _ _ => trivial) (by kernel_rfl) (fun K hK => ?_)
    gi_big_quiet_op
    apply Exists.intro
    refine ⟨fun _ => ?_, ?_⟩
    · gi_at_call 15
      exact callsIn_wide.2 (Calls.quiet_in (put_nil _ _ _))
    refine hK _ ?_
    clear hK K
    repeat (gi_big_quiet_step (fail))
    refine BigFrame.wpQuietIn_want (fun _ _ _ _ => trivial) (by kernel_rfl) (fun K hK => ?_)
    gi_big_quiet_op
    apply Exists.intro
    refine ⟨fun _ => ?_, ?_⟩
    · gi_at_call 16
      exact callsIn_wide.2 (Calls.quiet_in (drop_nil _ _))
    refine hK _ ?_
    clear hK K
    repeat (gi_big_quiet_step (fail))
    refine BigFrame.wpQuietIn_want (fun _ _ _ _ => trivial) (by kernel_rfl) (fun K hK => ?_)
    gi_big_quiet_op
    apply Exists.intro
    refine ⟨fun _ => ?_, ?_⟩
    · gi_at_call 17
      exact callsIn_wide.2 (Calls.quiet_in (bytes_nil _))
    refine hK _ ?_
    clear hK K
    repeat (gi_big_quiet_step (fail))
    refine BigFrame.wpQuietIn_want (fun _ _ _ _ => trivial) (by kernel_rfl) (fun K hK => ?_)
    gi_big_quiet_op
    apply Exists.intro
    refine ⟨fun _ => ?_, ?_⟩
    · gi_at_call 18
      exact callsIn_wide.2 (Calls.quiet_in_same (len_nil _))
    refine hK _ ?_
    clear hK K
    repeat (gi_big_quiet_step (fail))
    refine BigFrame.wpQuietIn_want (fun _ _ _ _ => trivial) (by kernel_rfl) (fun K hK => ?_)
    gi_big_quiet_op
    apply Exists.intro
    refine ⟨fun _ => ?_, ?_⟩
    · gi_at_call 10
      exact callsIn_wide.2 (Calls.quiet_in (room_nil _))
    refine hK _ ?_
    clear hK K
    repeat (gi_big_quiet_step (fail))
    refine wpQuietIn_nil ?_
    intro w7 hw'
    have hb7 : Below W6.heap.size W6 w7 := by
      obtain ⟨⟨wz, hbz⟩, hw''⟩ := hw'
      subst hw''
      exact hbz
    clear hw'
    have HN7 := Lib.hid (HN6.out.le hb7)
    have HK7 : Hid (w7.heap[D]? = some (.deferred (some []))) := Lib.hid ((hb7.block _ (lt_of_block HK6.out)).trans HK6.out)
    have HM7 := Lib.hid (made_any a n c f w7 hn (HOO.out.below (HN7.out.below)))
    obtain ⟨l, HL⟩ : ∃ l, Hid (runM f (min n 80) = l) := ⟨_, Lib.hid rfl⟩
    have HOK : Hid (Okp l) := Lib.hid (by rw [← HL.out]; exact runM_ok f _)
    rw [HL.out] at HM7
    have HSZ5 := HSZ
    clear hb7 la lb lc ld le HN6 HK6 HC6 HN5 HC5 HSZ HN3
    gi_wp2_with (refine ⟨trivial, ?_⟩; gi_at_call 6; refine (callsIn_wide.2 HM7.out).mono ?_; rintro e w8 ⟨g, xv, rfl, ⟨F, ⟨v, hP, rfl⟩, hF⟩, hR, hB⟩; obtain ⟨xq, xc, rfl⟩ := hR.form)
    have HP8 := Lib.hid hP
    have HR8 := Lib.hid hR
    have HN8 := Lib.hid (HN7.out.le hB)
    have HK8 : Hid (w8.heap[D]? = some (.deferred (some []))) := Lib.hid ((hB.block _ (lt_of_block HK7.out)).trans HK7.out)
    have HA8 := Lib.hid (all_any (hP.below ((Below.refl w8.heap.size w8).alloc (Nat.le_refl _) (.cells #[.int .i64 0] 3))))
    clear hP hR hB hF HN7 HK7 HM7
    refine ⟨trivial, ?_⟩
    refine (callsIn_wide.2 HA8.out).mono ?_
    rintro e w9 ⟨⟨Bs2, v2, rfl, hAl⟩, hb9⟩
    have HSZ9 : Hid (w8.heap.size < w9.heap.size ∧ W.heap.size + 1 < w8.heap.size ∧ D < w8.heap.size) := Lib.hid ⟨by have := hb9.size; simp at this; omega, HN8.out.lt, lt_of_block HK8.out⟩
    have HNB : Hid (Sn W w9 kind oi long y stop D w8.heap.size (.slice xq l.length xc) l 0) := Lib.hid (by
      have hb89 : Below w8.heap.size w8 w9 := ((Below.refl w8.heap.size w8).alloc (Nat.le_refl _) (.cells #[.int .i64 0] 3)).trans (hb9.mono (by simp))
      exact ⟨HN8.out.le hb89, (hb9.block _ (by simp)).trans (heap_alloc_new w8 _), HR8.out.below hb89, (hb89.block _ (lt_of_block HK8.out)).trans HK8.out, HSZ9.out.2.2, HSZ9.out.2.1⟩)
    obtain ⟨t1, t2, t3, t4⟩ := hAl
    have hvlt : ∀ b, v2.ownBlock = some b → b < w9.heap.size := fun b hb => (t4.lt b hb).2
    have HVN : Hid (∀ b, v2.ownBlock = some b → b ≠ w8.heap.size) := Lib.hid (fun b hb => by have := (t4.lt b hb).1; simp at this; omega)
    have HWS : Hid (W.heap.size ≤ w9.heap.size) := Lib.hid (by have := HSZ9.out; omega)
    have HLEN := Lib.hid HOK.out.len
    clear hb9 t1
    gi_wp2
    clear q1
    refine wpIn_rangeFunc_ownG rfl (by omega) (gf := 23) (lb := #[.pointer (some ⟨Bs2, 0, none⟩)]) rfl trivial (enters_of Try.func23 (by kernel_rfl) rfl)
      (all_stops 4 (by omega) Bs2 (l.length + 1) v2 l _ HLEN.out (by omega) w9 t2 t3 t4) KeepB.trans (KeepB.put hvlt) (Below.refl _ _) (fun _ => rfl)
      (fun pre W' => Sn W W' kind oi long y stop D w8.heap.size (.slice xq l.length xc) l (pre.length : Int) ∧ ∀ k, 1 ≤ k → k ≤ pre.length → (k : Int) ≠ stop)
      (fun cd pre W' => Sn W W' kind oi long y stop D w8.heap.size (.slice xq l.length xc) l (pre.length : Int) ∧ (cd = .exit 2 ∧ (pre.length : Int) = stop ∧ 1 ≤ pre.length))
      (fun _ _ _ _ hs hg hr => ⟨hs.1.kept HSZ9.out.1 HWS.out hg hr, hs.2⟩)
      (fun _ _ _ _ _ hs hg hr => ⟨hs.1.kept HSZ9.out.1 HWS.out hg hr, hs.2⟩)
      ⟨HNB.out, fun k h1 h2 => absurd h2 (by simp; omega)⟩
      (fun x => { tmps := #[Value.slice a n c, Value.agg #[Value.int IntKind.i64 kind, Value.int IntKind.i64 oi, Value.int IntKind.i64 long, Value.int IntKind.u8 ↑y], Value.int IntKind.i64 stop, undef, Value.pointer (some { block := W.heap.size, off := 0 }), Value.pointer (some { block := W.heap.size + 1, off := 0 }), Value.bool false, Value.pointer none, Value.int IntKind.i64 0, Value.int IntKind.i64 1, Value.string { data := #[] }, Value.bool false, Value.pointer (some { block := w3.heap.size, off := 0 }), Value.func (Fn.func 23) #[] #[Value.pointer (some { block := Bs, off := 0 })], Value.pointer (some { block := g, off := 0 }), Value.slice xq l.length xc, Value.bool true, Value.pointer (some { block := w8.heap.size, off := 0 }), Value.int IntKind.i64 0, Value.func (Fn.func 23) #[] #[Value.pointer (some { block := Bs2, off := 0 })], undef, Value.tuple #[Value.int IntKind.i64 0, Value.int IntKind.i64 1], Value.pointer none, Value.agg #[Value.int IntKind.i64 kind, Value.int IntKind.i64 oi, Value.int IntKind.i64 long, Value.int IntKind.u8 ↑y], Value.string rS, Value.tuple #[Value.int IntKind.i64 0, Value.int IntKind.i64 1], Value.int IntKind.i64 0, Value.int IntKind.i64 1, Value.tuple #[Value.string { data := #[] }, Value.bool false], Value.pointer none, Value.pointer (some { block := W.heap.size, off := 1 }), Value.int IntKind.i64 oi, Value.tuple #[Value.string { data := #[] }, Value.bool false], Value.string { data := #[] }, Value.bool false, Value.pointer none, Value.func (Fn.func 23) #[] #[Value.pointer (some { block := Bs, off := 0 })], Value.func (Fn.func 23) #[] #[Value.pointer (some { block := Bs, off := 0 })], Value.bool false, Value.func (Fn.func 23) #[] #[Value.pointer (some { block := Bs, off := 0 })], undef, undef, undef, undef, Value.int IntKind.i64 1, Value.bool false, Value.bool false, Value.string { data := #[] }, Value.bool false, Value.bool false, Value.bool false, Value.bool false, Value.bool false, Value.bool false, Value.pointer none, Value.pointer (some { block := W.heap.size, off := 1 }), Value.int IntKind.i64 oi, Value.agg #[Value.int IntKind.i64 kind, Value.int IntKind.i64 oi, Value.int IntKind.i64 long, Value.int IntKind.u8 ↑y], Value.string rS, Value.int IntKind.i64 1, Value.bool false, Value.bool false, Value.bool false, Value.pointer none, Value.pointer (some { block := W.heap.size, off := 1 }), Value.int IntKind.i64 oi, Value.bool false, Value.bool false, Value.bool false, Value.pointer none, Value.string { data := #[] }, Value.bool false, Value.bool false, Value.bool false, Value.int IntKind.i64 0, Value.pointer none, Value.int IntKind.i64 0, Value.int IntKind.i64 0, Value.bool false, Value.bool false, Value.bool false, Value.pointer none, Value.int IntKind.i64 (-1), Value.bool false, Value.bool false, Value.tuple #[Value.pointer (some { block := g, off := 0 }), Value.slice xq l.length xc, Value.bool true], Value.slice a n c, Value.tuple #[Value.pointer (some { block := g, off := 0 }), Value.slice xq l.length xc, Value.bool true], Value.pointer (some { block := g, off := 0 }), Value.slice xq l.length xc, Value.bool true, Value.pointer (some { block := g, off := 0 }), Value.func (Fn.func 23) #[] #[Value.pointer (some { block := Bs2, off := 0 })], Value.func (Fn.func 23) #[] #[Value.pointer (some { block := Bs2, off := 0 })], Value.bool false, Value.func (Fn.func 23) #[] #[Value.pointer (some { block := Bs2, off := 0 })], .int .i64 (x.1.1 : Int), .string x.1.2, undef, undef, undef, undef, undef, undef, undef, undef, undef, undef, undef, undef, undef, undef, undef, undef, undef, undef, undef, undef, undef, undef, undef, undef, undef, undef, undef, undef, undef, undef, undef, undef], defers := [] }) ?assign2 ?body2 ?done2 ?stop2
    case assign2 =>
      intro y x W' K hK
      gi_wp2
      exact hK
    case body2 =>
      rintro yy pre x W' ⟨hI, hno⟩ hlen
      have sc := hI.cs
      have sf := hI.fs
      have st := hI.ns.s0
      have hl64 := HLEN.out
      have hpl : (pre.length : Int) ≤ 64 := by omega
      have hps : (pre ++ [x]).length = pre.length + 1 := by simp
      have HPS := Lib.hid hps
      have HI := Lib.hid (hI.step ((pre.length : Int) + 1))
      have HNO := Lib.hid hno
      have HKB : Hid (∀ u1, KeepB v2 W' (W'.setCell ⟨w8.heap.size, 0, none⟩ u1)) := Lib.hid (fun u1 b hb => heap_setCell_other _ _ _ _ (HVN.out b hb))
      have st2 : (W'.setCell ⟨w8.heap.size, 0, none⟩ (.int .i64 ((pre.length : Int) + 1))).cell? ⟨W.heap.size + 1, 0, none⟩ = some (.int .i64 stop) := HI.out.ns.s0
      clear hI hno hlen hps
      by_cases he : (pre.length : Int) + 1 = stop
      · have d1 : ((pre.length : Int) + 1 == stop) = true := by simpa using he
        have HE := Lib.hid he
        clear he
        generalize pre.length = pl at *
        gi_wp2
        refine ⟨(KeepsOthers.setCell _ _ _).from _, ?_, rfl, ?_, ?_⟩
        · rw [HPS.out]; exact HI.out
        · rw [HPS.out]; exact HE.out
        · rw [HPS.out]; omega
      · have d1 : ((pre.length : Int) + 1 == stop) = false := by simpa using he
        have HE := Lib.hid he
        clear he
        generalize pre.length = pl at *
        gi_wp2
        refine ⟨(KeepsOthers.setCell _ _ _).from _, HKB.out _, ?_, ?_⟩
        · rw [HPS.out]; exact HI.out
        · rw [HPS.out]
          intro k h1 h2
          rcases Nat.lt_or_ge k (pl + 1) with h3 | h3
          · exact HNO.out k h1 (by omega)
          · have := HE.out; omega
    case done2 =>
      rintro D2 ys W10 hD2 rfl ⟨hSn, hno⟩ hK2
      have HS := Lib.hid hSn
      have HK2 := Lib.hid hK2
      have HD2 := Lib.hid hD2
      have st := hSn.ns.s0
      have sc := hSn.cs
      clear hSn hK2 hD2
      obtain ⟨T, HT⟩ : ∃ T, Hid ((told l l.length).length = T) := ⟨_, Lib.hid rfl⟩
      try rw [HT.out] at sc
      have hT64 : T ≤ 64 := by have := HT.out; have := told_len l l.length; have := HOK.out.len; omega
      gi_wp2
      gi_loopw [18, 20] (fun av iv wr => ∃ k : Nat, k ≤ l.length ∧ iv = .int .i64 (k : Int) ∧ av = .int .i64 ((told l k).length : Int) ∧ wr = W10) (fun _ iv _ => l.length - (intOf iv).toNat)
      case atStart => exact ⟨0, Nat.zero_le _, by go_num, rfl, rfl⟩
      case round =>
        obtain ⟨k, hk, rfl, rfl, hwr⟩ := hrel
        replace hwr := hwr.symm
        subst hwr
        have hl64 := HOK.out.len
        by_cases hlt : k < l.length
        · have hkl : (k : Int) < (l.length : Int) := by omega
          obtain ⟨b, c', e, hcc, a1, a2⟩ := HS.out.ref.at hlt
          cases e
          have htk := told_len l k
          cases hs : slot l k with
          | none =>
            rw [hs] at a1 a2
            simp only [recOf, Option.getD_none, Option.isSome_none] at a1 a2
            have HTN : Hid ((told l (k + 1)).length = (told l k).length) := Lib.hid (by rw [told_none hs])
            clear hs
            generalize (told l k).length = tl at *
            gi_wp2
            go_roundw
            case rel => exact ⟨k + 1, by omega, by go_num, by rw [HTN.out], trivial⟩
            case measure => simp [intOf]; omega
          | some r =>
            rw [hs] at a1 a2
            simp only [recOf, Option.getD_some, Option.isSome_some] at a1 a2
            have HTN : Hid ((told l (k + 1)).length = (told l k).length + 1) := Lib.hid (by rw [told_some hs]; simp)
            clear hs
            generalize (told l k).length = tl at *
            gi_wp2
            go_roundw
            case rel => exact ⟨k + 1, by omega, by go_num, by rw [HTN.out]; rfl, trivial⟩
            case measure => simp [intOf]; omega
        · obtain rfl : k = l.length := by omega
          rw [HT.out]
          by_cases h1 : 1 ≤ stop
          · have d1 : decide (1 ≤ stop) = true := decide_eq_true h1
            have d2 : decide (stop < (T : Int)) = false := decide_eq_false (by
              intro h
              exact hno stop.toNat (by omega) (by have := HT.out; omega) (by omega))
            have e1 : ((T : Int) == (T : Int)) = true := by simp
            clear hno
            gi_wp2_with (refine ⟨trivial, ?_⟩; gi_at_call 9; refine (callsIn_wide.2 (HLV.out _)).mono ?_; rintro e w11 ⟨rfl, hb11⟩)
            have k2 : w11.heap[D2]? = some (.deferred (some [])) := (hb11.block D2 (lt_of_block HK2.out)).trans HK2.out
            have k1 : w11.heap[D]? = some (.deferred (some [])) := (hb11.block D (lt_of_block HS.out.def_)).trans HS.out.def_
            have hw11 := HS.out.ns.below.trans (hb11.mono HS.out.ns.below.size)
            have hlo := HSZ9.out
            have p2 : Below w9.heap.size w11 (w11.putObj D2 (.deferred none)) := belowK_b (w := w9) (Nat.le_refl _) w11 D2 _ _ HD2.out k2 rfl rfl
            have k1b := (p2.block D (by have := HS.out.hD; omega)).trans k1
            have p1 : Below W.heap.size (w11.putObj D2 (.deferred none)) ((w11.putObj D2 (.deferred none)).putObj D (.deferred none)) := belowK_b (w := W) (Nat.le_refl _) _ D _ _ (by have := HD6.out; have := HSZ5.out; omega) k1b rfl rfl
            refine ⟨by simp, .inl ⟨_, _, rfl, run_takeDeferred k2, ?_⟩⟩
            refine ⟨by simp, .inl ⟨_, _, rfl, run_takeDeferred k1b, ?_⟩⟩
            refine ⟨.bool true, ?_, rfl, (hw11.trans (p2.mono (by omega))).trans p1⟩
            simp [results, Try.f5, go_sem]
          · have d1 : decide (1 ≤ stop) = false := decide_eq_false h1
            have e1 : ((T : Int) == (T : Int)) = true := by simp
            clear hno
            gi_wp2_with (refine ⟨trivial, ?_⟩; gi_at_call 9; refine (callsIn_wide.2 (HLV.out _)).mono ?_; rintro e w11 ⟨rfl, hb11⟩)
            have k2 : w11.heap[D2]? = some (.deferred (some [])) := (hb11.block D2 (lt_of_block HK2.out)).trans HK2.out
            have k1 : w11.heap[D]? = some (.deferred (some [])) := (hb11.block D (lt_of_block HS.out.def_)).trans HS.out.def_
            have hw11 := HS.out.ns.below.trans (hb11.mono HS.out.ns.below.size)
            have hlo := HSZ9.out
            have p2 : Below w9.heap.size w11 (w11.putObj D2 (.deferred none)) := belowK_b (w := w9) (Nat.le_refl _) w11 D2 _ _ HD2.out k2 rfl rfl
            have k1b := (p2.block D (by have := HS.out.hD; omega)).trans k1
            have p1 : Below W.heap.size (w11.putObj D2 (.deferred none)) ((w11.putObj D2 (.deferred none)).putObj D (.deferred none)) := belowK_b (w := W) (Nat.le_refl _) _ D _ _ (by have := HD6.out; have := HSZ5.out; omega) k1b rfl rfl
            refine ⟨by simp, .inl ⟨_, _, rfl, run_takeDeferred k2, ?_⟩⟩
            refine ⟨by simp, .inl ⟨_, _, rfl, run_takeDeferred k1b, ?_⟩⟩
            refine ⟨.bool true, ?_, rfl, (hw11.trans (p2.mono (by omega))).trans p1⟩
            simp [results, Try.f5, go_sem]
    case stop2 =>
      rintro D2 cd pre W10 hD2 ⟨j, hj, hpre⟩ ⟨hSn, rfl, hps, hp1⟩ hK2
      have hle : ∀ T, (told l l.length).length = T → stop ≤ (T : Int) := fun T hT => by
        rw [← hps, hpre]
        have : (told l j).length ≤ (told l l.length).length := by
          rcases Nat.eq_zero_or_pos j with h0 | h0
          · subst h0; exact Nat.zero_le _
          · have := told_mono l (i := j - 1) (j := l.length) (by omega)
            rwa [show j - 1 + 1 = j by omega] at this
        omega
      rw [hps] at hSn
      have hst1 : 1 ≤ stop := by omega
      clear hpre hps hp1 hj
      have HS := Lib.hid hSn
      have HK2 := Lib.hid hK2
      have HD2 := Lib.hid hD2
      have st := hSn.ns.s0
      have sc := hSn.cs
      clear hSn hK2 hD2
      obtain ⟨T, HT⟩ : ∃ T, Hid ((told l l.length).length = T) := ⟨_, Lib.hid rfl⟩
      try rw [HT.out] at sc
      have hT64 : T ≤ 64 := by have := HT.out; have := told_len l l.length; have := HOK.out.len; omega
      gi_wp2
      gi_loopw [18, 20] (fun av iv wr => ∃ k : Nat, k ≤ l.length ∧ iv = .int .i64 (k : Int) ∧ av = .int .i64 ((told l k).length : Int) ∧ wr = W10) (fun _ iv _ => l.length - (intOf iv).toNat)
      case atStart => exact ⟨0, Nat.zero_le _, by go_num, rfl, rfl⟩
      case round =>
        obtain ⟨k, hk, rfl, rfl, hwr⟩ := hrel
        replace hwr := hwr.symm
        subst hwr
        have hl64 := HOK.out.len
        by_cases hlt : k < l.length
        · have hkl : (k : Int) < (l.length : Int) := by omega
          obtain ⟨b, c', e, hcc, a1, a2⟩ := HS.out.ref.at hlt
          cases e
          have htk := told_len l k
          cases hs : slot l k with
          | none =>
            rw [hs] at a1 a2
            simp only [recOf, Option.getD_none, Option.isSome_none] at a1 a2
            have HTN : Hid ((told l (k + 1)).length = (told l k).length) := Lib.hid (by rw [told_none hs])
            clear hs
            generalize (told l k).length = tl at *
            gi_wp2
            go_roundw
            case rel => exact ⟨k + 1, by omega, by go_num, by rw [HTN.out], trivial⟩
            case measure => simp [intOf]; omega
          | some r =>
            rw [hs] at a1 a2
            simp only [recOf, Option.getD_some, Option.isSome_some] at a1 a2
            have HTN : Hid ((told l (k + 1)).length = (told l k).length + 1) := Lib.hid (by rw [told_some hs]; simp)
            clear hs
            generalize (told l k).length = tl at *
            gi_wp2
            go_roundw
            case rel => exact ⟨k + 1, by omega, by go_num, by rw [HTN.out]; rfl, trivial⟩
            case measure => simp [intOf]; omega
        · obtain rfl : k = l.length := by omega
          rw [HT.out]
          have d1 : decide (1 ≤ stop) = true := decide_eq_true (by omega)
          have e1 : (stop == stop) = true := by simp
          by_cases h2 : stop < (T : Int)
          · have d2 : decide (stop < (T : Int)) = true := decide_eq_true h2
            gi_wp2_with (refine ⟨trivial, ?_⟩; gi_at_call 9; refine (callsIn_wide.2 (HLV.out _)).mono ?_; rintro e w11 ⟨rfl, hb11⟩)
            have k2 : w11.heap[D2]? = some (.deferred (some [])) := (hb11.block D2 (lt_of_block HK2.out)).trans HK2.out
            have k1 : w11.heap[D]? = some (.deferred (some [])) := (hb11.block D (lt_of_block HS.out.def_)).trans HS.out.def_
            have hw11 := HS.out.ns.below.trans (hb11.mono HS.out.ns.below.size)
            have hlo := HSZ9.out
            have p2 : Below w9.heap.size w11 (w11.putObj D2 (.deferred none)) := belowK_b (w := w9) (Nat.le_refl _) w11 D2 _ _ HD2.out k2 rfl rfl
            have k1b := (p2.block D (by have := HS.out.hD; omega)).trans k1
            have p1 : Below W.heap.size (w11.putObj D2 (.deferred none)) ((w11.putObj D2 (.deferred none)).putObj D (.deferred none)) := belowK_b (w := W) (Nat.le_refl _) _ D _ _ (by have := HD6.out; have := HSZ5.out; omega) k1b rfl rfl
            refine ⟨by simp, .inl ⟨_, _, rfl, run_takeDeferred k2, ?_⟩⟩
            refine ⟨by simp, .inl ⟨_, _, rfl, run_takeDeferred k1b, ?_⟩⟩
            refine ⟨.bool true, ?_, rfl, (hw11.trans (p2.mono (by omega))).trans p1⟩
            simp [results, Try.f5, go_sem]
          · have d2 : decide (stop < (T : Int)) = false := decide_eq_false h2
            have hst : (T : Int) = stop := by have := hle T HT.out; omega
            have e2 : (stop == (T : Int)) = true := by rw [hst]; exact e1
            clear hst
            gi_wp2_with (refine ⟨trivial, ?_⟩; gi_at_call 9; refine (callsIn_wide.2 (HLV.out _)).mono ?_; rintro e w11 ⟨rfl, hb11⟩)
            have k2 : w11.heap[D2]? = some (.deferred (some [])) := (hb11.block D2 (lt_of_block HK2.out)).trans HK2.out
            have k1 : w11.heap[D]? = some (.deferred (some [])) := (hb11.block D (lt_of_block HS.out.def_)).trans HS.out.def_
            have hw11 := HS.out.ns.below.trans (hb11.mono HS.out.ns.below.size)
            have hlo := HSZ9.out
            have p2 : Below w9.heap.size w11 (w11.putObj D2 (.deferred none)) := belowK_b (w := w9) (Nat.le_refl _) w11 D2 _ _ HD2.out k2 rfl rfl
            have k1b := (p2.block D (by have := HS.out.hD; omega)).trans k1
            have p1 : Below W.heap.size (w11.putObj D2 (.deferred none)) ((w11.putObj D2 (.deferred none)).putObj D (.deferred none)) := belowK_b (w := W) (Nat.le_refl _) _ D _ _ (by have := HD6.out; have := HSZ5.out; omega) k1b rfl rfl
            refine ⟨by simp, .inl ⟨_, _, rfl, run_takeDeferred k2, ?_⟩⟩
            refine ⟨by simp, .inl ⟨_, _, rfl, run_takeDeferred k1b, ?_⟩⟩
            refine ⟨.bool true, ?_, rfl, (hw11.trans (p2.mono (by omega))).trans p1⟩
            simp [results, Try.f5, go_sem]
end Go.Proofs.Ytldkmkgkllgckaa
