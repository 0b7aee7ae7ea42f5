/- The contracts of the statements' own small functions: given and made (a memo, and the document's); the conditions are those that each states. -/
import Derived.Test.YtpefbmheblfbeaaGreatRQs05
import Derived.Test.YtpefbmheblfbeaaGreatRQs02
import Derived.Test.YtpefbmheblfbeaaGreatRQs04
import Derived.Test.YtpefbmheblfbeaaGreatRRows
import Derived.WalkKit
import Derived.ProofKit
import Derived.OpenShut
import Derived.ShutString
import Derived.Deep.Slices
import Derived.SizedLaws
import Derived.Test.YtpefbmheblfbeaaGreatRQs01
namespace Go.Proofs.YtpefbmheblfbeaaGreatR.Sn
open Go.RowKit Go.Sort Go.Shelf Me
set_option linter.unusedVariables false
set_option linter.unusedSimpArgs false
theorem given_ (w : World) (x : En) : Calls Tryz.prog 29 #[nv x] w fun e w' => e = .returned (nv x) ∧ Touch [] w w' := by
  unfold nv
  go_enter Tryz.func29, Tryz.ntmps29
  go_wp2
  exact bodyPost_ret (v := .agg #[.int .u16 x.1.1, .string x.1.2, .int .i64 x.2.1.1, .int .i64 x.2.1.2.1, .int .i64 x.2.1.2.2.1, .int .i64 x.2.1.2.2.2, .int .i64 x.2.2]) (by simp [results, Tryz.results29, go_sem]) rfl ⟨rfl, by
    repeat (first | exact Touch.refl _ _ | (refine Touch.setCell ?_ (Or.inr (by simp)) _) | (refine Touch.alloc ?_ _) | (refine Touch.drew ?_))⟩
theorem infoK : (Tryz.prog.info? 85).map (fun i => (i.zero, i.size, i.bytes)) = some (some (.agg #[.int .u16 0, .string ⟨#[]⟩, .int .i64 0, .int .i64 0, .int .i64 0, .int .i64 0, .int .i64 0]), 7, 64) := by kernel_rfl
theorem wp_append_rs {w : World} {o : Oper} {a : Act} {K : Act → World → Prop} {Q : Exit → Act → World → Prop} (s x : Operand) (st et : TypeId) (ho : o.op = .call { callee := .builtin .append, args := #[s, x], argTypes := #[st, st] })
    (z : Value) (k bytes : Nat) (hinfo : (Tryz.prog.info? et).map (fun i => (i.zero, i.size, i.bytes)) = some (some z, k, bytes)) (ht : Tryz.prog.underlying st = some (.slice et)) (hzs : z.cells.size = k) (hk : 0 < k)
    (base : Nat) (v : Value) (n : Nat) (xs : List Value) (hs : a.eval s = v) (hown : w.ownsRow base et k v n xs)
    (u : Value) (m : Nat) (vs : List Value) (hx : a.eval x = u) (hu : Rs et k w u m vs) (h1 : ∀ y ∈ vs, y.oneCell' = true) (h63 : n + m ≤ maxLen) (hbytes : (n + m) * bytes ≤ 140737488355328) (hbase : base ≤ w.heap.size)
    (h : ∀ v' w', w'.ownsRow base et k v' (n + m) (xs ++ vs) → w.grownBy w' v.ownBlock → (v'.ownBlock = v.ownBlock ∨ v'.ownBlock = some w.heap.size) → K (a.put o.dst v') w') : o.wp Tryz.prog a w K Q := by
  obtain ⟨i3, hf, hz0, hz1, hz2⟩ := info_parts hinfo
  obtain ⟨hl, ad, c, rfl, hc, hn0, hr⟩ := hu
  cases ad with
  | none =>
    have e0 := hn0 rfl
    subst e0
    have em : m = 0 := by omega
    subst em
    have ev : vs = [] := List.length_eq_zero_iff.1 (by omega)
    subst ev
    have hrun := run_append_owned_none (P := Tryz.prog) (w := w) base st o.type et i3 k ht hf v n xs hown
    unfold Oper.wp
    simp [execOp, ho, resolve, invoke, builtin, hs, hx, hrun, Result.andThen]
    exact h v w (by simpa using hown) (World.grownBy.refl _ _) (Or.inl rfl)
  | some ad =>
    have hnews : ∀ j y, vs[j]? = some y → w.cell? (ad.add j) = some y := fun j y hy => by
      have hm : 0 < m := by
        rcases Nat.eq_zero_or_pos m with e | e
        · subst e
          have : vs = [] := List.length_eq_zero_iff.1 (by omega)
          subst this
          simp at hy
        · exact e
      obtain ⟨g, off, e, cs, zz, h5, h6⟩ := hr hm
      cases e
      rw [show (⟨g, off, none⟩ : Addr).add j = ⟨g, off + j, none⟩ by simp [Addr.add]]
      simp [World.cell?, h5, h6 j y hy]
    obtain ⟨v', w', hrun, q1, q2, q3, q4⟩ := run_append_own_at (P := Tryz.prog) w base st o.type et i3 z k bytes ht hf hz0 hz1 hz2 hzs hk v n xs hown ad m c vs hl hnews h1 h63 hbytes hbase
    unfold Oper.wp
    simp [execOp, ho, resolve, invoke, builtin, hs, hx, hrun, Result.andThen]
    exact h v' w' q1 q2 q4
def wcs (c : Cf) (now : Int) (v : Value) : Array Value := #[.int .i64 c.t, .int .i64 c.n, .int .i64 c.s, .int .i64 c.e, .int .i64 c.f, .int .i64 c.b, .int .i64 c.d, .int .i64 now, v]
structure MdI (w1 : World) (c : Cf) (now : Int) (xs : List En) (p : Nat) (v : Value) (wr : World) : Prop where
  t : Touch [] w1 wr
  y : wr.heap[w1.heap.size]? = some (.cells (wcs c now v) 32 (0, 0))
  o : wr.ownsRow (w1.heap.size + 1) 85 7 v p (cellsN (xs.take p))
theorem cellsN_oneB (x : En) : ∀ y ∈ nl x, y.oneCell' = true := by
  intro y hy
  simp only [nl, List.mem_cons, List.not_mem_nil, or_false] at hy
  rcases hy with rfl | rfl | rfl | rfl | rfl | rfl | rfl <;> rfl
theorem MdI.step {w1 : World} {c : Cf} {now : Int} {xs : List En} {p : Nat} {v : Value} {wr w4 : World} (h : MdI w1 c now xs p v wr) (t4 : Touch [] wr w4) {x : En} (hx : xs.take (p + 1) = xs.take p ++ [x]) {a6 : Option Addr} {c6 : Nat} {w6 : World} (o6 : w6.ownsRow (w1.heap.size + 1) 85 7 (.slice a6 (p + 1) c6) (p + 1) (cellsN (xs.take p) ++ nl x)) (g6 : w4.grownBy w6 v.ownBlock) : MdI w1 c now xs (p + 1) (.slice a6 (p + 1) c6) (w6.setCell ⟨w1.heap.size, 8, none⟩ (.slice a6 (p + 1) c6)) ∧ w6.heap[w1.heap.size]? = some (.cells (wcs c now v) 32 (0, 0)) := by
  have hy4 := t4.keep h.y (by simp)
  have o4 := own_touch h.o t4 (fun _ _ e => by cases e)
  have t6 : Touch [] w1 w6 := touch_grown (h.t.trans' t4) g6 o4 (by omega)
  have hy6 : w6.heap[w1.heap.size]? = some (.cells (wcs c now v) 32 (0, 0)) := by
    have tg : Touch v.ownBlock.toList w4 w6 := (Touch.refl v.ownBlock.toList w4).grown g6 (fun q hq => Or.inl (by simp [hq]))
    refine tg.keep hy4 (fun e => ?_)
    have := (o4.lt _ (by simpa using e)).1
    omega
  refine ⟨⟨t6.setCell (Or.inr (Nat.le_refl _)) _, Joins.block_setCell hy6 _, ?_⟩, hy6⟩
  have e7 : cellsN (xs.take (p + 1)) = cellsN (xs.take p) ++ nl x := by rw [hx, cellsN_app, cellsN_one]
  rw [e7]
  refine own_touch (F := [w1.heap.size]) o6 ((Touch.refl _ _).setCell (Or.inl (by simp)) _) (fun b hb e => ?_)
  have := (o6.lt b hb).1
  simp at e
  omega
def MdQ (w : World) (c : Cf) (now : Int) (xs : List En) (pm v : Value) (w' : World) : Prop := RN 85 w' v xs ∧ Touch [] w w' ∧ (((ofP c now xs).2 ≠ 0 ∧ pm = .pointer none) ∨ ((ofP c now xs).2 = 0 ∧ ∃ m F, pm = PT m ∧ Mq w' m F c now xs ∧ ∀ i ∈ F, w.heap.size ≤ i))
set_option maxHeartbeats 4000000 in
theorem made_ {w : World} {c : Cf} {now : Int} {xs : List En} {v : Value} (wc : Wc c) (hl : xs.length ≤ 2199023255488) (hv : RA w v xs) (hok : ∀ x ∈ xs, Ok x.1) : Calls Tryz.prog 8 #[.agg (wcs c now v)] w fun e w' => ∃ pm u, e = .returned (.tuple #[pm, mv c now u, .bool (decide ((ofP c now xs).2 = 0))]) ∧ MdQ w c now xs pm u w' := by
  obtain ⟨a, cp, rfl, hnc, hat⟩ := id hv
  obtain ⟨n, hn'⟩ : ∃ n, n = xs.length := ⟨_, rfl⟩
  rw [← hn'] at hv ⊢
  have HN := hid hn'
  have HN7 : Hid (n ≤ 2199023255488) := hid (by omega)
  have HG : Hid (0 < n → ∃ g off, a = some ⟨g, off, none⟩) := hid (fun hp => by obtain ⟨g, off, e, _⟩ := hat (by omega); exact ⟨g, off, e⟩)
  obtain ⟨V1, hV1⟩ : ∃ V1, V1 = w.alloc (.cells #[.int .i64 c.t, .int .i64 c.n, .int .i64 c.s, .int .i64 c.e, .int .i64 c.f, .int .i64 c.b, .int .i64 c.d, .int .i64 now, .slice a n cp] 26) := ⟨_, rfl⟩
  obtain ⟨V, hV⟩ : ∃ V, V = V1.alloc (.cells #[.int .i64 0, .int .i64 0, .int .i64 0, .int .i64 0, .int .i64 0, .int .i64 0, .int .i64 0, .int .i64 0, .slice none 0 0] 32) := ⟨_, rfl⟩
  have T1 : Touch [] w V1 := by rw [hV1]; exact (Touch.refl _ _).alloc _
  have T2 : Touch [] V1 V := by rw [hV]; exact (Touch.refl _ _).alloc _
  have hb1 : V.heap[w.heap.size]? = some (.cells #[.int .i64 c.t, .int .i64 c.n, .int .i64 c.s, .int .i64 c.e, .int .i64 c.f, .int .i64 c.b, .int .i64 c.d, .int .i64 now, .slice a n cp] 26 (0, 0)) := T2.keep (by rw [hV1]; exact heap_alloc_new w _) (by simp)
  have hb2 : V.heap[V1.heap.size]? = some (.cells #[.int .i64 0, .int .i64 0, .int .i64 0, .int .i64 0, .int .i64 0, .int .i64 0, .int .i64 0, .int .i64 0, .slice none 0 0] 32 (0, 0)) := by rw [hV]; exact heap_alloc_new V1 _
  have eb : V1.heap.size = w.heap.size + 1 := by rw [hV1]; simp
  rw [eb] at hb2
  have HT := hid (T1.trans' T2)
  have HB1 := hid hb1
  have HB2 := hid hb2
  have HOF := hid (og15 V c now xs (.slice a n cp) wc (by omega) (RA.keep hv (T1.trans' T2)) hok)
  have HR := hid (fun w1 (t1 : Touch [] V w1) => RA.keep hv ((T1.trans' T2).trans' t1))
  have hVs : V = (w.alloc (.cells #[.int .i64 c.t, .int .i64 c.n, .int .i64 c.s, .int .i64 c.e, .int .i64 c.f, .int .i64 c.b, .int .i64 c.d, .int .i64 now, .slice a n cp] 26)).alloc (.cells #[.int .i64 0, .int .i64 0, .int .i64 0, .int .i64 0, .int .i64 0, .int .i64 0, .int .i64 0, .int .i64 0, .slice none 0 0] 32) := by rw [hV, hV1]
  have p0 := cell_of (n := 0) hb1 rfl
  have p1 := cell_of (n := 1) hb1 rfl
  have p2 := cell_of (n := 2) hb1 rfl
  have p3 := cell_of (n := 3) hb1 rfl
  have p4 := cell_of (n := 4) hb1 rfl
  have p5 := cell_of (n := 5) hb1 rfl
  have p6 := cell_of (n := 6) hb1 rfl
  have p7 := cell_of (n := 7) hb1 rfl
  have p8 := cell_of (n := 8) hb1 rfl
  unfold wcs cv at *
  clear hv hat hnc hb1 hb2 T1 T2 hn' hok wc hl hV hV1 eb
  go_enter Tryz.func8, Tryz.ntmps8
  go_upto_region 1 with fail
  rw [← hVs]
  clear hVs
  go_upto_region 2 with (go_at_call 28; refine HOF.out.mono ?_; rintro e w1 ⟨pm, rfl, hA⟩)
  have t1 : Touch [] V w1 := by rcases hA with ⟨_, _, t⟩ | ⟨_, _, _, _, _, _, _, t⟩ <;> exact t
  clear p0 p1 p2 p3 p4 p5 p6 p7 p8
  have hb1 := t1.keep HB1.out (by simp)
  have HW1 := hid t1
  have p0 := cell_of (n := 0) hb1 rfl
  have p1 := cell_of (n := 1) hb1 rfl
  have p2 := cell_of (n := 2) hb1 rfl
  have p3 := cell_of (n := 3) hb1 rfl
  have p4 := cell_of (n := 4) hb1 rfl
  have p5 := cell_of (n := 5) hb1 rfl
  have p6 := cell_of (n := 6) hb1 rfl
  have p7 := cell_of (n := 7) hb1 rfl
  have p8 := cell_of (n := 8) hb1 rfl
  obtain ⟨W0, hW0⟩ : ∃ W0, W0 = w1.alloc (.cells #[.int .i64 c.t, .int .i64 c.n, .int .i64 c.s, .int .i64 c.e, .int .i64 c.f, .int .i64 c.b, .int .i64 c.d, .int .i64 now, .slice none 0 0] 32) := ⟨_, rfl⟩
  have tW0 : Touch [] w1 W0 := by rw [hW0]; exact (Touch.refl _ _).alloc _
  have p8' := cell_of (n := 8) (tW0.keep hb1 (by simp)) rfl
  have HI0 : Hid (MdI w1 c now xs 0 (.slice none 0 0) W0) := hid ⟨tW0, by rw [hW0]; exact heap_alloc_new w1 _, ⟨rfl, Or.inl ⟨rfl, rfl⟩⟩⟩
  have HA := hid hA
  obtain ⟨e1, he1⟩ : ∃ e1, e1 = (ofP c now xs).1 := ⟨_, rfl⟩
  obtain ⟨er, her⟩ : ∃ er, er = (ofP c now xs).2 := ⟨_, rfl⟩
  have HER := hid her
  rw [← he1, ← her]
  clear hA hb1 t1 tW0 he1 her HOF
  go_upto_region 3 with fail
  rw [← hW0]
  clear hW0 p0 p1 p2 p3 p4 p5 p6 p7 p8
  go_wp2_with fail
  go_loopw [10, 30] (fun _ i wr => ∃ (p : Nat) (a' : Option Addr) (cp' : Nat), i = .int .i64 p ∧ p ≤ n ∧ Hid (MdI w1 c now xs p (.slice a' p cp') wr)) (fun _ i _ => n - (intOf i).toNat)
  case atStart => exact ⟨0, none, 0, rfl, Nat.zero_le _, HI0⟩
  case round =>
    clear HI0 p8'
    obtain ⟨p, a', cp', rfl, hp, HI⟩ := hrel
    by_cases hlt : p < n
    · have zp : (p : Int) < (n : Int) := by omega
      have hix : p < xs.length := by have := HN.out; omega
      obtain ⟨g, off, rfl⟩ := HG.out (by omega)
      have hat := (HR.out _ (HW1.out.trans' HI.out.t)).at1 (by omega)
      have r0 := hat.cell p 0 hix (by omega) rfl
      have r1 := hat.cell p 1 hix (by omega) rfl
      have r2 := hat.cell p 2 hix (by omega) rfl
      have r3 := hat.cell p 3 hix (by omega) rfl
      have r4 := hat.cell p 4 hix (by omega) rfl
      have r5 := hat.cell p 5 hix (by omega) rfl
      have r6 := hat.cell p 6 hix (by omega) rfl
      rw [Nat.add_zero] at r0
      simp only [← Nat.add_assoc] at r1 r2 r3 r4 r5 r6
      have HTK : Hid (xs.take (p + 1) = xs.take p ++ [xs[p]]) := hid (List.take_succ_eq_append_getElem hix)
      have wp1 : IntKind.i64.wrap ((p : Int) + 1) = (p : Int) + 1 := by rw [IntKind.wrap_i64]; have := HN7.out; omega
      have HNk := hid (And.intro hp hlt)
      generalize xs[p] = x at *
      obtain ⟨W1, hW1⟩ : ∃ W1, W1 = wr.alloc (.cells #[.int .u16 x.1.1, .string x.1.2, .int .i64 x.2.1.1, .int .i64 x.2.1.2.1, .int .i64 x.2.1.2.2.1, .int .i64 x.2.1.2.2.2, .int .i64 x.2.2] 55) := ⟨_, rfl⟩
      have tW : Touch [] wr W1 := by rw [hW1]; exact (Touch.refl _ _).alloc _
      have hbx : W1.heap[wr.heap.size]? = some (.cells #[.int .u16 x.1.1, .string x.1.2, .int .i64 x.2.1.1, .int .i64 x.2.1.2.1, .int .i64 x.2.1.2.2.1, .int .i64 x.2.1.2.2.2, .int .i64 x.2.2] 55 (0, 0)) := by rw [hW1]; exact heap_alloc_new wr _
      have HGV := hid (fun w => given_ w x)
      unfold nv at HGV
      have hy1 := tW.keep HI.out.y (by simp)
      have HS3 : Hid (∀ w', Touch [] W1.drew w' → w'.heap[w1.heap.size]? = some (.cells #[.int .i64 c.t, .int .i64 c.n, .int .i64 c.s, .int .i64 c.e, .int .i64 c.f, .int .i64 c.b, .int .i64 c.d, .int .i64 now, .slice a' p cp'] 32 (0, 0)) ∧ w'.heap[wr.heap.size]? = some (.cells #[.int .u16 x.1.1, .string x.1.2, .int .i64 x.2.1.1, .int .i64 x.2.1.2.1, .int .i64 x.2.1.2.2.1, .int .i64 x.2.1.2.2.2, .int .i64 x.2.2] 55 (0, 0))) := hid (fun w' t' => ⟨t'.keep (a := W1.drew) hy1 (by simp), t'.keep (a := W1.drew) hbx (by simp)⟩)
      have HOW : Hid (∀ w', Touch [] W1.drew w' → w'.ownsRow (w1.heap.size + 1) 85 7 (.slice a' p cp') p (cellsN (xs.take p)) ∧ w1.heap.size + 1 ≤ w'.heap.size) := hid (fun w' t' => ⟨own_touch HI.out.o (tW.drew.trans' t') (fun _ _ e => by cases e), by
        have := block_lt (t'.keep (a := W1.drew) hy1 (by simp)); omega⟩)
      have HST : Hid (∀ w4, Touch [] W1.drew w4 → ∀ a6 c6 w6, w6.ownsRow (w1.heap.size + 1) 85 7 (.slice a6 (p + 1) c6) (p + 1) (cellsN (xs.take p) ++ nl x) → w4.grownBy w6 (Value.slice a' p cp').ownBlock → MdI w1 c now xs (p + 1) (.slice a6 (p + 1) c6) (w6.setCell ⟨w1.heap.size, 8, none⟩ (.slice a6 (p + 1) c6)) ∧ (w6.heap[w1.heap.size]? = some (.cells #[.int .i64 c.t, .int .i64 c.n, .int .i64 c.s, .int .i64 c.e, .int .i64 c.f, .int .i64 c.b, .int .i64 c.d, .int .i64 now, .slice a' p cp'] 32 (0, 0)) ∧ w6.heap[wr.heap.size]? = some (.cells #[.int .u16 x.1.1, .string x.1.2, .int .i64 x.2.1.1, .int .i64 x.2.1.2.1, .int .i64 x.2.1.2.2.1, .int .i64 x.2.1.2.2.2, .int .i64 x.2.2] 55 (0, 0)))) := hid (fun w4 t4 a6 c6 w6 o6 g6 => ⟨(HI.out.step (tW.drew.trans' t4) HTK.out o6 g6).1, (HI.out.step (tW.drew.trans' t4) HTK.out o6 g6).2, ((Touch.refl (Value.slice a' p cp').ownBlock.toList w4).grown g6 (fun q hq => Or.inl (by simp [hq]))).keep (t4.keep (a := W1.drew) hbx (by simp)) (fun e => by have := (HI.out.o.lt _ (by simpa using e)).2; omega)⟩)
      clear hat hp hlt tW hix
      go_upto_region 6 with fail
      rw [← hW1]
      clear hW1 r0 r1 r2 r3 r4 r5 r6
      have k0 := HS3.out _ (Touch.refl _ _)
      refine wp_region_L (S := fun w' => w'.heap[w1.heap.size]? = some (.cells #[.int .i64 c.t, .int .i64 c.n, .int .i64 c.s, .int .i64 c.e, .int .i64 c.f, .int .i64 c.b, .int .i64 c.d, .int .i64 now, .slice a' p cp'] 32 (0, 0)) ∧ w'.heap[wr.heap.size]? = some (.cells #[.int .u16 x.1.1, .string x.1.2, .int .i64 x.2.1.1, .int .i64 x.2.1.2.1, .int .i64 x.2.1.2.2.1, .int .i64 x.2.1.2.2.2, .int .i64 x.2.2] 55 (0, 0))) (st := 7) (by kernel_rfl) ?_
      have Y8 : ∀ w' : World, (w'.heap[w1.heap.size]? = some (.cells #[.int .i64 c.t, .int .i64 c.n, .int .i64 c.s, .int .i64 c.e, .int .i64 c.f, .int .i64 c.b, .int .i64 c.d, .int .i64 now, .slice a' p cp'] 32 (0, 0)) ∧ w'.heap[wr.heap.size]? = some (.cells #[.int .u16 x.1.1, .string x.1.2, .int .i64 x.2.1.1, .int .i64 x.2.1.2.1, .int .i64 x.2.1.2.2.1, .int .i64 x.2.1.2.2.2, .int .i64 x.2.2] 55 (0, 0))) → w'.cell? ⟨w1.heap.size, 8, none⟩ = some (.slice a' p cp') := fun w' h => cell_at h.1 rfl
      have X0 : ∀ w' : World, (w'.heap[w1.heap.size]? = some (.cells #[.int .i64 c.t, .int .i64 c.n, .int .i64 c.s, .int .i64 c.e, .int .i64 c.f, .int .i64 c.b, .int .i64 c.d, .int .i64 now, .slice a' p cp'] 32 (0, 0)) ∧ w'.heap[wr.heap.size]? = some (.cells #[.int .u16 x.1.1, .string x.1.2, .int .i64 x.2.1.1, .int .i64 x.2.1.2.1, .int .i64 x.2.1.2.2.1, .int .i64 x.2.1.2.2.2, .int .i64 x.2.2] 55 (0, 0))) → w'.cell? ⟨wr.heap.size, 0, none⟩ = some (.int .u16 x.1.1) := fun w' h => cell_at h.2 rfl
      have X1 : ∀ w' : World, (w'.heap[w1.heap.size]? = some (.cells #[.int .i64 c.t, .int .i64 c.n, .int .i64 c.s, .int .i64 c.e, .int .i64 c.f, .int .i64 c.b, .int .i64 c.d, .int .i64 now, .slice a' p cp'] 32 (0, 0)) ∧ w'.heap[wr.heap.size]? = some (.cells #[.int .u16 x.1.1, .string x.1.2, .int .i64 x.2.1.1, .int .i64 x.2.1.2.1, .int .i64 x.2.1.2.2.1, .int .i64 x.2.1.2.2.2, .int .i64 x.2.2] 55 (0, 0))) → w'.cell? ⟨wr.heap.size, 1, none⟩ = some (.string x.1.2) := fun w' h => cell_at h.2 rfl
      have X2 : ∀ w' : World, (w'.heap[w1.heap.size]? = some (.cells #[.int .i64 c.t, .int .i64 c.n, .int .i64 c.s, .int .i64 c.e, .int .i64 c.f, .int .i64 c.b, .int .i64 c.d, .int .i64 now, .slice a' p cp'] 32 (0, 0)) ∧ w'.heap[wr.heap.size]? = some (.cells #[.int .u16 x.1.1, .string x.1.2, .int .i64 x.2.1.1, .int .i64 x.2.1.2.1, .int .i64 x.2.1.2.2.1, .int .i64 x.2.1.2.2.2, .int .i64 x.2.2] 55 (0, 0))) → w'.cell? ⟨wr.heap.size, 2, none⟩ = some (.int .i64 x.2.1.1) := fun w' h => cell_at h.2 rfl
      have X3 : ∀ w' : World, (w'.heap[w1.heap.size]? = some (.cells #[.int .i64 c.t, .int .i64 c.n, .int .i64 c.s, .int .i64 c.e, .int .i64 c.f, .int .i64 c.b, .int .i64 c.d, .int .i64 now, .slice a' p cp'] 32 (0, 0)) ∧ w'.heap[wr.heap.size]? = some (.cells #[.int .u16 x.1.1, .string x.1.2, .int .i64 x.2.1.1, .int .i64 x.2.1.2.1, .int .i64 x.2.1.2.2.1, .int .i64 x.2.1.2.2.2, .int .i64 x.2.2] 55 (0, 0))) → w'.cell? ⟨wr.heap.size, 3, none⟩ = some (.int .i64 x.2.1.2.1) := fun w' h => cell_at h.2 rfl
      have X4 : ∀ w' : World, (w'.heap[w1.heap.size]? = some (.cells #[.int .i64 c.t, .int .i64 c.n, .int .i64 c.s, .int .i64 c.e, .int .i64 c.f, .int .i64 c.b, .int .i64 c.d, .int .i64 now, .slice a' p cp'] 32 (0, 0)) ∧ w'.heap[wr.heap.size]? = some (.cells #[.int .u16 x.1.1, .string x.1.2, .int .i64 x.2.1.1, .int .i64 x.2.1.2.1, .int .i64 x.2.1.2.2.1, .int .i64 x.2.1.2.2.2, .int .i64 x.2.2] 55 (0, 0))) → w'.cell? ⟨wr.heap.size, 4, none⟩ = some (.int .i64 x.2.1.2.2.1) := fun w' h => cell_at h.2 rfl
      have X5 : ∀ w' : World, (w'.heap[w1.heap.size]? = some (.cells #[.int .i64 c.t, .int .i64 c.n, .int .i64 c.s, .int .i64 c.e, .int .i64 c.f, .int .i64 c.b, .int .i64 c.d, .int .i64 now, .slice a' p cp'] 32 (0, 0)) ∧ w'.heap[wr.heap.size]? = some (.cells #[.int .u16 x.1.1, .string x.1.2, .int .i64 x.2.1.1, .int .i64 x.2.1.2.1, .int .i64 x.2.1.2.2.1, .int .i64 x.2.1.2.2.2, .int .i64 x.2.2] 55 (0, 0))) → w'.cell? ⟨wr.heap.size, 5, none⟩ = some (.int .i64 x.2.1.2.2.2) := fun w' h => cell_at h.2 rfl
      have X6 : ∀ w' : World, (w'.heap[w1.heap.size]? = some (.cells #[.int .i64 c.t, .int .i64 c.n, .int .i64 c.s, .int .i64 c.e, .int .i64 c.f, .int .i64 c.b, .int .i64 c.d, .int .i64 now, .slice a' p cp'] 32 (0, 0)) ∧ w'.heap[wr.heap.size]? = some (.cells #[.int .u16 x.1.1, .string x.1.2, .int .i64 x.2.1.1, .int .i64 x.2.1.2.1, .int .i64 x.2.1.2.2.1, .int .i64 x.2.1.2.2.2, .int .i64 x.2.2] 55 (0, 0))) → w'.cell? ⟨wr.heap.size, 6, none⟩ = some (.int .i64 x.2.2) := fun w' h => cell_at h.2 rfl
      generalize W1.drew = Wd at *
      clear hbx hy1
      refine wpL_take (i := 0) (v := (.pointer (some ⟨(w1.heap.size), 8, none⟩))) (some 34) rfl rfl (by kernel_rfl) (by kernel_rfl) (by kernel_rfl) (by kernel_rfl) (by kernel_rfl) (by decide) (fun _ _ _ h => h) (Or.inl ⟨by rfl, fun w' hS => (by go_simp)⟩) k0 ?_
      try simp only [Go.Act.put, List.setIfInBounds_toArray, List.set_cons_zero, List.set_cons_succ]
      refine wpL_take (i := 1) (v := (Value.slice a' p cp')) (some 35) rfl rfl (by kernel_rfl) (by kernel_rfl) (by kernel_rfl) (by kernel_rfl) (by kernel_rfl) (by decide) (fun _ _ _ h => h) (Or.inl ⟨by rfl, fun w' hS => (by have z0 := Y8 _ hS; go_simp)⟩) k0 ?_
      try simp only [Go.Act.put, List.setIfInBounds_toArray, List.set_cons_zero, List.set_cons_succ]
      refine wpL_take (i := 2) (v := (.agg #[.int .u16 x.1.1, .string x.1.2, .int .i64 x.2.1.1, .int .i64 x.2.1.2.1, .int .i64 x.2.1.2.2.1, .int .i64 x.2.1.2.2.2, .int .i64 x.2.2])) (some 36) rfl rfl (by kernel_rfl) (by kernel_rfl) (by kernel_rfl) (by kernel_rfl) (by kernel_rfl) (by decide) (fun _ _ _ h => h) (Or.inl ⟨by rfl, fun w' hS => (by have z0 := X0 _ hS; have z1 := X1 _ hS; have z2 := X2 _ hS; have z3 := X3 _ hS; have z4 := X4 _ hS; have z5 := X5 _ hS; have z6 := X6 _ hS; go_simp)⟩) k0 ?_
      try simp only [Go.Act.put, List.setIfInBounds_toArray, List.set_cons_zero, List.set_cons_succ]
      refine wpL_ready (rs := [3]) (by kernel_rfl) (by simp) (AllL.cons (o := { dst := some 37, op := Op.call { callee := Callee.value (Operand.func 29), args := #[Operand.tmp 36], argTypes := #[55] }, type := 85, pos := _, after := #[{ on := 2, ground := Ground.data }], guard := none }) rfl (fun K' hK => ?_) AllL.nil)
      rw [if_pos (by rfl)]
      go_simp
      refine (HGV.out _).mono ?_
      rintro e w3 ⟨rfl, t3⟩
      have k3 := HS3.out _ t3
      refine hK.out _ _ (fun _ => k3) ?_
      clear hK
      try simp only [Go.Act.put, List.setIfInBounds_toArray, List.set_cons_zero, List.set_cons_succ]
      refine wpL_ready (rs := [4]) (by kernel_rfl) (by simp) (AllL.cons (o := { dst := some 38, op := Op.buildSlice 30 1 #[(0, Operand.tmp 37)], type := 30, pos := _, after := #[{ on := 3, ground := Ground.data }], guard := none }) rfl (fun K' hK => ?_) AllL.nil)
      rw [if_pos (by rfl)]
      go_simp
      have t4 := t3.alloc (.cells #[.int .u16 x.1.1, .string x.1.2, .int .i64 x.2.1.1, .int .i64 x.2.1.2.1, .int .i64 x.2.1.2.2.1, .int .i64 x.2.1.2.2.2, .int .i64 x.2.2] 85)
      have k4 := HS3.out _ t4
      refine hK.out _ _ (fun _ => k4) ?_
      clear hK
      try simp only [Go.Act.put, List.setIfInBounds_toArray, List.set_cons_zero, List.set_cons_succ]
      refine wpL_ready (rs := [5]) (by kernel_rfl) (by simp) (AllL.cons (o := { dst := some 39, op := Op.call { callee := Callee.builtin Builtin.append, args := #[Operand.tmp 35, Operand.tmp 38], argTypes := #[30, 30] }, type := 30, pos := _, after := #[{ on := 1, ground := Ground.data }, { on := 4, ground := Ground.data }, { on := 3, ground := Ground.chain }], guard := none }) rfl (fun K' hK => ?_) AllL.nil)
      rw [if_pos (by rfl)]
      obtain ⟨o4, s4⟩ := HOW.out _ t4
      refine wp_append_rs _ _ 30 85 rfl (.agg #[.int .u16 0, .string ⟨#[]⟩, .int .i64 0, .int .i64 0, .int .i64 0, .int .i64 0, .int .i64 0]) 7 64 infoK Tryz.underlying30 rfl (by decide) (w1.heap.size + 1) (.slice a' p cp') p (cellsN (xs.take p)) rfl o4 (.slice (some ⟨w3.heap.size, 0, none⟩) 1 1) 1 _ rfl (Rs.new w3 #[.int .u16 x.1.1, .string x.1.2, .int .i64 x.2.1.1, .int .i64 x.2.1.2.1, .int .i64 x.2.1.2.2.1, .int .i64 x.2.1.2.2.2, .int .i64 x.2.2] 85 7 rfl) (cellsN_oneB x) (by unfold maxLen; have := HN7.out; have := HNk.out; omega) (by have := HN7.out; have := HNk.out; omega) s4 ?_
      intro v6 w6 o6 g6 _
      obtain ⟨a6, c6, e6, _⟩ := (Rs.of_own o6).form
      subst e6
      have Q6 := HST.out _ t4 a6 c6 w6 o6 g6
      have k6 := Q6.2
      have Q7 := hid Q6.1
      clear o6 g6 o4 s4 Q6
      refine hK.out _ _ (fun _ => k6) ?_
      clear hK
      try simp only [Go.Act.put, List.setIfInBounds_toArray, List.set_cons_zero, List.set_cons_succ]
      refine wpL_take (i := 6) (v := (.pointer (some ⟨(w1.heap.size), 8, none⟩))) (some 40) rfl rfl (by kernel_rfl) (by kernel_rfl) (by kernel_rfl) (by kernel_rfl) (by kernel_rfl) (by decide) (fun _ _ _ h => h) (Or.inl ⟨by rfl, fun w' hS => (by go_simp)⟩) k6 ?_
      try simp only [Go.Act.put, List.setIfInBounds_toArray, List.set_cons_zero, List.set_cons_succ]
      refine wpL_ready (rs := [7]) (by kernel_rfl) (by simp) (AllL.cons (o := { dst := none, op := Op.store 30 (Operand.tmp 40) (Operand.tmp 39), type := 0, pos := _, after := #[{ on := 6, ground := Ground.data }, { on := 5, ground := Ground.data }, { on := 5, ground := Ground.chain }, { on := 0, ground := Ground.phase }, { on := 1, ground := Ground.phase }, { on := 2, ground := Ground.phase }, { on := 3, ground := Ground.phase }, { on := 4, ground := Ground.phase }, { on := 5, ground := Ground.phase }], guard := none }) rfl (fun K' hK => ?_) AllL.nil)
      rw [if_pos (by rfl)]
      have q1 := cell_of (n := 8) k6.1 rfl
      have q2 : w6.frozen? ⟨w1.heap.size, 8, none⟩ = false := Joins.unfrozen_of_block k6.1 _
      go_simp
      clear q1 q2
      refine hK.out _ _ (fun h => absurd h (by decide)) ?_
      clear hK
      try simp only [Go.Act.put, List.setIfInBounds_toArray, List.set_cons_zero, List.set_cons_succ]
      refine wpL_done (by kernel_rfl) ?_ _
      go_wp2_with fail
      go_roundw
      case rel => exact ⟨p + 1, a6, c6, by go_num, by have := HNk.out; omega, Q7⟩
      case measure => simp [intOf]; have := HNk.out; omega
    · have zp : ¬ (p : Int) < (n : Int) := by omega
      go_upto_region 8 with fail
      obtain ⟨Wd, hWd⟩ : ∃ Wd, Wd = wr.drew := ⟨_, rfl⟩
      have td : Touch [] wr Wd := by rw [hWd]; exact (Touch.refl _ _).drew
      have hyd : Wd.heap[w1.heap.size]? = some (.cells #[.int .i64 c.t, .int .i64 c.n, .int .i64 c.s, .int .i64 c.e, .int .i64 c.f, .int .i64 c.b, .int .i64 c.d, .int .i64 now, .slice a' p cp'] 32 (0, 0)) := td.keep HI.out.y (by simp)
      have hb2 : Wd.heap[w.heap.size + 1]? = some (.cells #[.int .i64 0, .int .i64 0, .int .i64 0, .int .i64 0, .int .i64 0, .int .i64 0, .int .i64 0, .int .i64 0, .slice none 0 0] 32 (0, 0)) := ((HW1.out.trans' HI.out.t).trans' td).keep HB2.out (by simp)
      have JF : ∀ k, Wd.frozen? ⟨w.heap.size + 1, k, none⟩ = false := fun k => froz_at hb2 k
      have J0 := cell_of (n := 0) hb2 rfl
      have J1 := cell_of (n := 1) hb2 rfl
      have J2 := cell_of (n := 2) hb2 rfl
      have J3 := cell_of (n := 3) hb2 rfl
      have J4 := cell_of (n := 4) hb2 rfl
      have J5 := cell_of (n := 5) hb2 rfl
      have J6 := cell_of (n := 6) hb2 rfl
      have J7 := cell_of (n := 7) hb2 rfl
      have J8 := cell_of (n := 8) hb2 rfl
      have HQ9 : Hid (∀ W9, W9 = (((((((((Wd).setCell ⟨w.heap.size + 1, 0, none⟩ (.int .i64 c.t)).setCell ⟨w.heap.size + 1, 1, none⟩ (.int .i64 c.n)).setCell ⟨w.heap.size + 1, 2, none⟩ (.int .i64 c.s)).setCell ⟨w.heap.size + 1, 3, none⟩ (.int .i64 c.e)).setCell ⟨w.heap.size + 1, 4, none⟩ (.int .i64 c.f)).setCell ⟨w.heap.size + 1, 5, none⟩ (.int .i64 c.b)).setCell ⟨w.heap.size + 1, 6, none⟩ (.int .i64 c.d)).setCell ⟨w.heap.size + 1, 7, none⟩ (.int .i64 now)).setCell ⟨w.heap.size + 1, 8, none⟩ (.slice a' p cp') → W9.heap[w.heap.size + 1]? = some (.cells #[.int .i64 c.t, .int .i64 c.n, .int .i64 c.s, .int .i64 c.e, .int .i64 c.f, .int .i64 c.b, .int .i64 c.d, .int .i64 now, .slice a' p cp'] 32 (0, 0)) ∧ MdQ w c now xs pm (.slice a' p cp') W9) := hid (fun W9 h9 => by
        have TD : Touch [w.heap.size + 1] Wd Wd := Touch.refl _ _
        have t9 : Touch [w.heap.size + 1] Wd W9 := by rw [h9]; exact (((((((((TD.setCell (p := ⟨w.heap.size + 1, 0, none⟩) (Or.inl (by simp)) (.int .i64 c.t)).setCell (p := ⟨w.heap.size + 1, 1, none⟩) (Or.inl (by simp)) (.int .i64 c.n)).setCell (p := ⟨w.heap.size + 1, 2, none⟩) (Or.inl (by simp)) (.int .i64 c.s)).setCell (p := ⟨w.heap.size + 1, 3, none⟩) (Or.inl (by simp)) (.int .i64 c.e)).setCell (p := ⟨w.heap.size + 1, 4, none⟩) (Or.inl (by simp)) (.int .i64 c.f)).setCell (p := ⟨w.heap.size + 1, 5, none⟩) (Or.inl (by simp)) (.int .i64 c.b)).setCell (p := ⟨w.heap.size + 1, 6, none⟩) (Or.inl (by simp)) (.int .i64 c.d)).setCell (p := ⟨w.heap.size + 1, 7, none⟩) (Or.inl (by simp)) (.int .i64 now)).setCell (p := ⟨w.heap.size + 1, 8, none⟩) (Or.inl (by simp)) (.slice a' p cp'))
        have hsz : w.heap.size ≤ w.heap.size + 1 := Nat.le_succ _
        have tv : Touch [] w W9 := (HT.out.trans' ((HW1.out.trans' HI.out.t).trans' td)).trans t9 (fun i hi => by simp at hi; subst hi; exact Or.inr hsz)
        refine ⟨by rw [h9]; exact (bset (i := 8) (bset (i := 7) (bset (i := 6) (bset (i := 5) (bset (i := 4) (bset (i := 3) (bset (i := 2) (bset (i := 1) (bset (i := 0) hb2 (.int .i64 c.t)) (.int .i64 c.n)) (.int .i64 c.s)) (.int .i64 c.e)) (.int .i64 c.f)) (.int .i64 c.b)) (.int .i64 c.d)) (.int .i64 now)) (.slice a' p cp')), ?_, tv, ?_⟩
        · have o9 := own_touch HI.out.o ((Touch.mono td (G := [w.heap.size + 1]) (by simp)).trans' t9) (fun q hq e => by
            have h1 := (HI.out.o.lt q hq).1
            have h2 := block_lt (HW1.out.keep HB2.out (by simp))
            simp at e
            omega)
          have e : xs.take p = xs := List.take_of_length_le (by have := HN.out; omega)
          rw [e] at o9
          have e2 : p = xs.length := by have := HN.out; omega
          rw [e2] at o9 ⊢
          exact RN.own o9
        · rcases HA.out with ⟨q1, q2, _⟩ | ⟨q1, q2, m, F, q3, q4, q5, _⟩
          · exact Or.inl ⟨q1, q2⟩
          · have hVs : w.heap.size + 1 < V.heap.size := block_lt HB2.out
            refine Or.inr ⟨q1, m, F, q3, (q4.keep0 (HI.out.t.trans' td)).keep t9 (fun k hk e => ?_), fun i hi => ?_⟩
            · have := q5 k hk
              simp at e
              omega
            · have := q5 i hi
              omega)
      have HPM : Hid ((er ≠ 0 ∧ pm = .pointer none) ∨ (er = 0 ∧ ∃ m, pm = PT m)) := hid (by
        rw [HER.out]
        rcases HA.out with ⟨q1, q2, _⟩ | ⟨q1, q2, m, F, q3, _⟩
        · exact Or.inl ⟨q1, q2⟩
        · exact Or.inr ⟨q1, m, q3⟩)
      have HD : Hid (decide ((ofP c now xs).2 = 0) = decide (er = 0)) := hid (by rw [HER.out])
      clear td hb2
      rcases HPM.out with ⟨he, rfl⟩ | ⟨rfl, m, rfl⟩
      · rw [decide_eq_false he] at HD
        have he' : (er == 0) = false := by simpa using he
        clear HPM
        have s0 : Wd.heap[w1.heap.size]? = some (.cells #[.int .i64 c.t, .int .i64 c.n, .int .i64 c.s, .int .i64 c.e, .int .i64 c.f, .int .i64 c.b, .int .i64 c.d, .int .i64 now, .slice a' p cp'] 32 (0, 0)) := hyd
        have Z0 : ∀ w' : World, w'.heap[w1.heap.size]? = some (.cells #[.int .i64 c.t, .int .i64 c.n, .int .i64 c.s, .int .i64 c.e, .int .i64 c.f, .int .i64 c.b, .int .i64 c.d, .int .i64 now, .slice a' p cp'] 32 (0, 0)) → w'.cell? ⟨w1.heap.size, 0, none⟩ = some (.int .i64 c.t) := fun w' h => cell_at h rfl
        have Z1 : ∀ w' : World, w'.heap[w1.heap.size]? = some (.cells #[.int .i64 c.t, .int .i64 c.n, .int .i64 c.s, .int .i64 c.e, .int .i64 c.f, .int .i64 c.b, .int .i64 c.d, .int .i64 now, .slice a' p cp'] 32 (0, 0)) → w'.cell? ⟨w1.heap.size, 1, none⟩ = some (.int .i64 c.n) := fun w' h => cell_at h rfl
        have Z2 : ∀ w' : World, w'.heap[w1.heap.size]? = some (.cells #[.int .i64 c.t, .int .i64 c.n, .int .i64 c.s, .int .i64 c.e, .int .i64 c.f, .int .i64 c.b, .int .i64 c.d, .int .i64 now, .slice a' p cp'] 32 (0, 0)) → w'.cell? ⟨w1.heap.size, 2, none⟩ = some (.int .i64 c.s) := fun w' h => cell_at h rfl
        have Z3 : ∀ w' : World, w'.heap[w1.heap.size]? = some (.cells #[.int .i64 c.t, .int .i64 c.n, .int .i64 c.s, .int .i64 c.e, .int .i64 c.f, .int .i64 c.b, .int .i64 c.d, .int .i64 now, .slice a' p cp'] 32 (0, 0)) → w'.cell? ⟨w1.heap.size, 3, none⟩ = some (.int .i64 c.e) := fun w' h => cell_at h rfl
        have Z4 : ∀ w' : World, w'.heap[w1.heap.size]? = some (.cells #[.int .i64 c.t, .int .i64 c.n, .int .i64 c.s, .int .i64 c.e, .int .i64 c.f, .int .i64 c.b, .int .i64 c.d, .int .i64 now, .slice a' p cp'] 32 (0, 0)) → w'.cell? ⟨w1.heap.size, 4, none⟩ = some (.int .i64 c.f) := fun w' h => cell_at h rfl
        have Z5 : ∀ w' : World, w'.heap[w1.heap.size]? = some (.cells #[.int .i64 c.t, .int .i64 c.n, .int .i64 c.s, .int .i64 c.e, .int .i64 c.f, .int .i64 c.b, .int .i64 c.d, .int .i64 now, .slice a' p cp'] 32 (0, 0)) → w'.cell? ⟨w1.heap.size, 5, none⟩ = some (.int .i64 c.b) := fun w' h => cell_at h rfl
        have Z6 : ∀ w' : World, w'.heap[w1.heap.size]? = some (.cells #[.int .i64 c.t, .int .i64 c.n, .int .i64 c.s, .int .i64 c.e, .int .i64 c.f, .int .i64 c.b, .int .i64 c.d, .int .i64 now, .slice a' p cp'] 32 (0, 0)) → w'.cell? ⟨w1.heap.size, 6, none⟩ = some (.int .i64 c.d) := fun w' h => cell_at h rfl
        have Z7 : ∀ w' : World, w'.heap[w1.heap.size]? = some (.cells #[.int .i64 c.t, .int .i64 c.n, .int .i64 c.s, .int .i64 c.e, .int .i64 c.f, .int .i64 c.b, .int .i64 c.d, .int .i64 now, .slice a' p cp'] 32 (0, 0)) → w'.cell? ⟨w1.heap.size, 7, none⟩ = some (.int .i64 now) := fun w' h => cell_at h rfl
        have Z8 : ∀ w' : World, w'.heap[w1.heap.size]? = some (.cells #[.int .i64 c.t, .int .i64 c.n, .int .i64 c.s, .int .i64 c.e, .int .i64 c.f, .int .i64 c.b, .int .i64 c.d, .int .i64 now, .slice a' p cp'] 32 (0, 0)) → w'.cell? ⟨w1.heap.size, 8, none⟩ = some (.slice a' p cp') := fun w' h => cell_at h rfl
        refine wp_region_L (S := fun w' => w'.heap[w1.heap.size]? = some (.cells #[.int .i64 c.t, .int .i64 c.n, .int .i64 c.s, .int .i64 c.e, .int .i64 c.f, .int .i64 c.b, .int .i64 c.d, .int .i64 now, .slice a' p cp'] 32 (0, 0))) (st := 9) (by kernel_rfl) ?_
        rw [← hWd]
        clear hWd hyd
        refine wpL_take (i := 0) (v := (.pointer none)) (some 42) rfl rfl (by kernel_rfl) (by kernel_rfl) (by kernel_rfl) (by kernel_rfl) (by kernel_rfl) (by decide) (fun _ _ _ h => h) (Or.inl ⟨by rfl, fun w' hS => (by go_simp)⟩) s0 ?_
        try simp only [Go.Act.put, List.setIfInBounds_toArray, List.set_cons_zero, List.set_cons_succ]
        refine wpL_take (i := 1) (v := (.agg #[.int .i64 c.t, .int .i64 c.n, .int .i64 c.s, .int .i64 c.e, .int .i64 c.f, .int .i64 c.b, .int .i64 c.d, .int .i64 now, .slice a' p cp'])) (some 43) rfl rfl (by kernel_rfl) (by kernel_rfl) (by kernel_rfl) (by kernel_rfl) (by kernel_rfl) (by decide) (fun _ _ _ h => h) (Or.inl ⟨by rfl, fun w' hS => (by have z0 := Z0 _ hS; have z1 := Z1 _ hS; have z2 := Z2 _ hS; have z3 := Z3 _ hS; have z4 := Z4 _ hS; have z5 := Z5 _ hS; have z6 := Z6 _ hS; have z7 := Z7 _ hS; have z8 := Z8 _ hS; go_simp)⟩) s0 ?_
        try simp only [Go.Act.put, List.setIfInBounds_toArray, List.set_cons_zero, List.set_cons_succ]
        refine wpL_takeY (i := 2) (v := (.int .i64 er)) (some 44) rfl rfl (by kernel_rfl) (by kernel_rfl) (by kernel_rfl) (by decide) (fun _ _ _ h => h) (Or.inl ⟨by rfl, fun w' hS => (by go_simp)⟩) (fun _ => s0) ?_
        try simp only [Go.Act.put, List.setIfInBounds_toArray, List.set_cons_zero, List.set_cons_succ]
        refine wpL_takeY (i := 3) (v := (.bool false)) (some 45) rfl rfl (by kernel_rfl) (by kernel_rfl) (by kernel_rfl) (by decide) (fun _ _ _ h => h) (Or.inl ⟨by rfl, fun w' hS => (by go_simp)⟩) (fun _ => s0) ?_
        try simp only [Go.Act.put, List.setIfInBounds_toArray, List.set_cons_zero, List.set_cons_succ]
        refine wpL_takeY (i := 4) (v := (.bool false)) (some 46) rfl rfl (by kernel_rfl) (by kernel_rfl) (by kernel_rfl) (by decide) (fun _ _ _ h => h) (Or.inl ⟨by rfl, fun w' hS => (by go_simp)⟩) (fun _ => s0) ?_
        try simp only [Go.Act.put, List.setIfInBounds_toArray, List.set_cons_zero, List.set_cons_succ]
        refine wpL_takeY (i := 5) (v := undef) (some 47) rfl rfl (by kernel_rfl) (by kernel_rfl) (by kernel_rfl) (by decide) (fun _ _ _ h => h) (Or.inr ⟨by rfl, rfl⟩) (fun _ => s0) ?_
        try simp only [Go.Act.put, List.setIfInBounds_toArray, List.set_cons_zero, List.set_cons_succ]
        refine wpL_takeY (i := 6) (v := undef) (some 48) rfl rfl (by kernel_rfl) (by kernel_rfl) (by kernel_rfl) (by decide) (fun _ _ _ h => h) (Or.inr ⟨by rfl, rfl⟩) (fun _ => s0) ?_
        try simp only [Go.Act.put, List.setIfInBounds_toArray, List.set_cons_zero, List.set_cons_succ]
        refine wpL_takeY (i := 7) (v := (.bool false)) (some 49) rfl rfl (by kernel_rfl) (by kernel_rfl) (by kernel_rfl) (by decide) (fun _ _ _ h => h) (Or.inl ⟨by rfl, fun w' hS => (by go_simp)⟩) (fun _ => s0) ?_
        try simp only [Go.Act.put, List.setIfInBounds_toArray, List.set_cons_zero, List.set_cons_succ]
        refine wpL_take (i := 8) (v := (.pointer none)) (some 2) rfl rfl (by kernel_rfl) (by kernel_rfl) (by kernel_rfl) (by kernel_rfl) (by kernel_rfl) (by decide) (fun _ _ _ h => h) (Or.inl ⟨by rfl, fun w' hS => (by go_simp)⟩) s0 ?_
        try simp only [Go.Act.put, List.setIfInBounds_toArray, List.set_cons_zero, List.set_cons_succ]
        refine wpL_ready (rs := [9]) (by kernel_rfl) (by simp) (AllL.cons (o := { dst := none, op := Op.store 32 (Operand.tmp 3) (Operand.tmp 43), type := 0, pos := _, after := #[{ on := 1, ground := Ground.data }, { on := 8, ground := Ground.chain }, { on := 0, ground := Ground.phase }, { on := 1, ground := Ground.phase }, { on := 2, ground := Ground.textOnly Departure.lateStores }, { on := 3, ground := Ground.textOnly Departure.lateStores }, { on := 4, ground := Ground.textOnly Departure.lateStores }, { on := 5, ground := Ground.textOnly Departure.lateStores }, { on := 6, ground := Ground.textOnly Departure.lateStores }, { on := 7, ground := Ground.textOnly Departure.lateStores }, { on := 8, ground := Ground.phase }], guard := none }) rfl (fun K' hK => ?_) AllL.nil)
        rw [if_pos (by rfl)]
        have j0 := J0
        have j1 := J1
        have j2 := J2
        have j3 := J3
        have j4 := J4
        have j5 := J5
        have j6 := J6
        have j7 := J7
        have j8 := J8
        have f0 := JF 0
        have f1 := JF 1
        have f2 := JF 2
        have f3 := JF 3
        have f4 := JF 4
        have f5 := JF 5
        have f6 := JF 6
        have f7 := JF 7
        have f8 := JF 8
        go_simp
        clear j0 f0 j1 f1 j2 f2 j3 f3 j4 f4 j5 f5 j6 f6 j7 f7 j8 f8
        refine hK.out _ _ (fun h => absurd h (by decide)) ?_
        clear hK
        try simp only [Go.Act.put, List.setIfInBounds_toArray, List.set_cons_zero, List.set_cons_succ]
        refine wpL_takeY (i := 10) (v := (.bool false)) (some 4) rfl rfl (by kernel_rfl) (by kernel_rfl) (by kernel_rfl) (by decide) (fun _ _ _ h => h) (Or.inl ⟨by rfl, fun w' hS => (by go_simp)⟩) (fun h => absurd h (by decide)) ?_
        try simp only [Go.Act.put, List.setIfInBounds_toArray, List.set_cons_zero, List.set_cons_succ]
        refine wpL_done (by kernel_rfl) ?_ _
        obtain ⟨W9, hW9⟩ : ∃ W9, W9 = (((((((((Wd).setCell ⟨w.heap.size + 1, 0, none⟩ (.int .i64 c.t)).setCell ⟨w.heap.size + 1, 1, none⟩ (.int .i64 c.n)).setCell ⟨w.heap.size + 1, 2, none⟩ (.int .i64 c.s)).setCell ⟨w.heap.size + 1, 3, none⟩ (.int .i64 c.e)).setCell ⟨w.heap.size + 1, 4, none⟩ (.int .i64 c.f)).setCell ⟨w.heap.size + 1, 5, none⟩ (.int .i64 c.b)).setCell ⟨w.heap.size + 1, 6, none⟩ (.int .i64 c.d)).setCell ⟨w.heap.size + 1, 7, none⟩ (.int .i64 now)).setCell ⟨w.heap.size + 1, 8, none⟩ (.slice a' p cp') := ⟨_, rfl⟩
        rw [← hW9]
        have hq := HQ9.out W9 hW9
        clear hW9
        have y0 := cell_of (n := 0) hq.1 rfl
        have y1 := cell_of (n := 1) hq.1 rfl
        have y2 := cell_of (n := 2) hq.1 rfl
        have y3 := cell_of (n := 3) hq.1 rfl
        have y4 := cell_of (n := 4) hq.1 rfl
        have y5 := cell_of (n := 5) hq.1 rfl
        have y6 := cell_of (n := 6) hq.1 rfl
        have y7 := cell_of (n := 7) hq.1 rfl
        have y8 := cell_of (n := 8) hq.1 rfl
        go_wp2_with fail
        exact bodyPost_ret (v := .tuple #[.pointer none, .agg #[.int .i64 c.t, .int .i64 c.n, .int .i64 c.s, .int .i64 c.e, .int .i64 c.f, .int .i64 c.b, .int .i64 c.d, .int .i64 now, .slice a' p cp'], .bool false]) (by simp [results, Tryz.results8, go_sem, y0, y1, y2, y3, y4, y5, y6, y7, y8]) rfl ⟨_, _, by rw [HD.out]; rfl, hq.2⟩
      · have HD : Hid (decide ((ofP c now xs).2 = 0) = true) := hid (by rw [HD.out]; rfl)
        clear HPM
        unfold PT
        have s0 : Wd.heap[w1.heap.size]? = some (.cells #[.int .i64 c.t, .int .i64 c.n, .int .i64 c.s, .int .i64 c.e, .int .i64 c.f, .int .i64 c.b, .int .i64 c.d, .int .i64 now, .slice a' p cp'] 32 (0, 0)) := hyd
        have Z0 : ∀ w' : World, w'.heap[w1.heap.size]? = some (.cells #[.int .i64 c.t, .int .i64 c.n, .int .i64 c.s, .int .i64 c.e, .int .i64 c.f, .int .i64 c.b, .int .i64 c.d, .int .i64 now, .slice a' p cp'] 32 (0, 0)) → w'.cell? ⟨w1.heap.size, 0, none⟩ = some (.int .i64 c.t) := fun w' h => cell_at h rfl
        have Z1 : ∀ w' : World, w'.heap[w1.heap.size]? = some (.cells #[.int .i64 c.t, .int .i64 c.n, .int .i64 c.s, .int .i64 c.e, .int .i64 c.f, .int .i64 c.b, .int .i64 c.d, .int .i64 now, .slice a' p cp'] 32 (0, 0)) → w'.cell? ⟨w1.heap.size, 1, none⟩ = some (.int .i64 c.n) := fun w' h => cell_at h rfl
        have Z2 : ∀ w' : World, w'.heap[w1.heap.size]? = some (.cells #[.int .i64 c.t, .int .i64 c.n, .int .i64 c.s, .int .i64 c.e, .int .i64 c.f, .int .i64 c.b, .int .i64 c.d, .int .i64 now, .slice a' p cp'] 32 (0, 0)) → w'.cell? ⟨w1.heap.size, 2, none⟩ = some (.int .i64 c.s) := fun w' h => cell_at h rfl
        have Z3 : ∀ w' : World, w'.heap[w1.heap.size]? = some (.cells #[.int .i64 c.t, .int .i64 c.n, .int .i64 c.s, .int .i64 c.e, .int .i64 c.f, .int .i64 c.b, .int .i64 c.d, .int .i64 now, .slice a' p cp'] 32 (0, 0)) → w'.cell? ⟨w1.heap.size, 3, none⟩ = some (.int .i64 c.e) := fun w' h => cell_at h rfl
        have Z4 : ∀ w' : World, w'.heap[w1.heap.size]? = some (.cells #[.int .i64 c.t, .int .i64 c.n, .int .i64 c.s, .int .i64 c.e, .int .i64 c.f, .int .i64 c.b, .int .i64 c.d, .int .i64 now, .slice a' p cp'] 32 (0, 0)) → w'.cell? ⟨w1.heap.size, 4, none⟩ = some (.int .i64 c.f) := fun w' h => cell_at h rfl
        have Z5 : ∀ w' : World, w'.heap[w1.heap.size]? = some (.cells #[.int .i64 c.t, .int .i64 c.n, .int .i64 c.s, .int .i64 c.e, .int .i64 c.f, .int .i64 c.b, .int .i64 c.d, .int .i64 now, .slice a' p cp'] 32 (0, 0)) → w'.cell? ⟨w1.heap.size, 5, none⟩ = some (.int .i64 c.b) := fun w' h => cell_at h rfl
        have Z6 : ∀ w' : World, w'.heap[w1.heap.size]? = some (.cells #[.int .i64 c.t, .int .i64 c.n, .int .i64 c.s, .int .i64 c.e, .int .i64 c.f, .int .i64 c.b, .int .i64 c.d, .int .i64 now, .slice a' p cp'] 32 (0, 0)) → w'.cell? ⟨w1.heap.size, 6, none⟩ = some (.int .i64 c.d) := fun w' h => cell_at h rfl
        have Z7 : ∀ w' : World, w'.heap[w1.heap.size]? = some (.cells #[.int .i64 c.t, .int .i64 c.n, .int .i64 c.s, .int .i64 c.e, .int .i64 c.f, .int .i64 c.b, .int .i64 c.d, .int .i64 now, .slice a' p cp'] 32 (0, 0)) → w'.cell? ⟨w1.heap.size, 7, none⟩ = some (.int .i64 now) := fun w' h => cell_at h rfl
        have Z8 : ∀ w' : World, w'.heap[w1.heap.size]? = some (.cells #[.int .i64 c.t, .int .i64 c.n, .int .i64 c.s, .int .i64 c.e, .int .i64 c.f, .int .i64 c.b, .int .i64 c.d, .int .i64 now, .slice a' p cp'] 32 (0, 0)) → w'.cell? ⟨w1.heap.size, 8, none⟩ = some (.slice a' p cp') := fun w' h => cell_at h rfl
        refine wp_region_L (S := fun w' => w'.heap[w1.heap.size]? = some (.cells #[.int .i64 c.t, .int .i64 c.n, .int .i64 c.s, .int .i64 c.e, .int .i64 c.f, .int .i64 c.b, .int .i64 c.d, .int .i64 now, .slice a' p cp'] 32 (0, 0))) (st := 9) (by kernel_rfl) ?_
        rw [← hWd]
        clear hWd hyd
        refine wpL_take (i := 0) (v := (.pointer (some ⟨m, 0, none⟩))) (some 42) rfl rfl (by kernel_rfl) (by kernel_rfl) (by kernel_rfl) (by kernel_rfl) (by kernel_rfl) (by decide) (fun _ _ _ h => h) (Or.inl ⟨by rfl, fun w' hS => (by go_simp)⟩) s0 ?_
        try simp only [Go.Act.put, List.setIfInBounds_toArray, List.set_cons_zero, List.set_cons_succ]
        refine wpL_take (i := 1) (v := (.agg #[.int .i64 c.t, .int .i64 c.n, .int .i64 c.s, .int .i64 c.e, .int .i64 c.f, .int .i64 c.b, .int .i64 c.d, .int .i64 now, .slice a' p cp'])) (some 43) rfl rfl (by kernel_rfl) (by kernel_rfl) (by kernel_rfl) (by kernel_rfl) (by kernel_rfl) (by decide) (fun _ _ _ h => h) (Or.inl ⟨by rfl, fun w' hS => (by have z0 := Z0 _ hS; have z1 := Z1 _ hS; have z2 := Z2 _ hS; have z3 := Z3 _ hS; have z4 := Z4 _ hS; have z5 := Z5 _ hS; have z6 := Z6 _ hS; have z7 := Z7 _ hS; have z8 := Z8 _ hS; go_simp)⟩) s0 ?_
        try simp only [Go.Act.put, List.setIfInBounds_toArray, List.set_cons_zero, List.set_cons_succ]
        refine wpL_takeY (i := 2) (v := (.int .i64 0)) (some 44) rfl rfl (by kernel_rfl) (by kernel_rfl) (by kernel_rfl) (by decide) (fun _ _ _ h => h) (Or.inl ⟨by rfl, fun w' hS => (by go_simp)⟩) (fun _ => s0) ?_
        try simp only [Go.Act.put, List.setIfInBounds_toArray, List.set_cons_zero, List.set_cons_succ]
        refine wpL_takeY (i := 3) (v := (.bool true)) (some 45) rfl rfl (by kernel_rfl) (by kernel_rfl) (by kernel_rfl) (by decide) (fun _ _ _ h => h) (Or.inl ⟨by rfl, fun w' hS => (by go_simp)⟩) (fun _ => s0) ?_
        try simp only [Go.Act.put, List.setIfInBounds_toArray, List.set_cons_zero, List.set_cons_succ]
        refine wpL_takeY (i := 4) (v := (.bool true)) (some 46) rfl rfl (by kernel_rfl) (by kernel_rfl) (by kernel_rfl) (by decide) (fun _ _ _ h => h) (Or.inl ⟨by rfl, fun w' hS => (by go_simp)⟩) (fun _ => s0) ?_
        try simp only [Go.Act.put, List.setIfInBounds_toArray, List.set_cons_zero, List.set_cons_succ]
        refine wpL_takeY (i := 5) (v := (.pointer (some ⟨m, 0, none⟩))) (some 47) rfl rfl (by kernel_rfl) (by kernel_rfl) (by kernel_rfl) (by decide) (fun _ _ _ h => h) (Or.inl ⟨by rfl, fun w' hS => (by go_simp)⟩) (fun _ => s0) ?_
        try simp only [Go.Act.put, List.setIfInBounds_toArray, List.set_cons_zero, List.set_cons_succ]
        refine wpL_takeY (i := 6) (v := (.bool true)) (some 48) rfl rfl (by kernel_rfl) (by kernel_rfl) (by kernel_rfl) (by decide) (fun _ _ _ h => h) (Or.inl ⟨by rfl, fun w' hS => (by go_simp)⟩) (fun _ => s0) ?_
        try simp only [Go.Act.put, List.setIfInBounds_toArray, List.set_cons_zero, List.set_cons_succ]
        refine wpL_takeY (i := 7) (v := (.bool true)) (some 49) rfl rfl (by kernel_rfl) (by kernel_rfl) (by kernel_rfl) (by decide) (fun _ _ _ h => h) (Or.inl ⟨by rfl, fun w' hS => (by go_simp)⟩) (fun _ => s0) ?_
        try simp only [Go.Act.put, List.setIfInBounds_toArray, List.set_cons_zero, List.set_cons_succ]
        refine wpL_take (i := 8) (v := (.pointer (some ⟨m, 0, none⟩))) (some 2) rfl rfl (by kernel_rfl) (by kernel_rfl) (by kernel_rfl) (by kernel_rfl) (by kernel_rfl) (by decide) (fun _ _ _ h => h) (Or.inl ⟨by rfl, fun w' hS => (by go_simp)⟩) s0 ?_
        try simp only [Go.Act.put, List.setIfInBounds_toArray, List.set_cons_zero, List.set_cons_succ]
        refine wpL_ready (rs := [9]) (by kernel_rfl) (by simp) (AllL.cons (o := { dst := none, op := Op.store 32 (Operand.tmp 3) (Operand.tmp 43), type := 0, pos := _, after := #[{ on := 1, ground := Ground.data }, { on := 8, ground := Ground.chain }, { on := 0, ground := Ground.phase }, { on := 1, ground := Ground.phase }, { on := 2, ground := Ground.textOnly Departure.lateStores }, { on := 3, ground := Ground.textOnly Departure.lateStores }, { on := 4, ground := Ground.textOnly Departure.lateStores }, { on := 5, ground := Ground.textOnly Departure.lateStores }, { on := 6, ground := Ground.textOnly Departure.lateStores }, { on := 7, ground := Ground.textOnly Departure.lateStores }, { on := 8, ground := Ground.phase }], guard := none }) rfl (fun K' hK => ?_) AllL.nil)
        rw [if_pos (by rfl)]
        have j0 := J0
        have j1 := J1
        have j2 := J2
        have j3 := J3
        have j4 := J4
        have j5 := J5
        have j6 := J6
        have j7 := J7
        have j8 := J8
        have f0 := JF 0
        have f1 := JF 1
        have f2 := JF 2
        have f3 := JF 3
        have f4 := JF 4
        have f5 := JF 5
        have f6 := JF 6
        have f7 := JF 7
        have f8 := JF 8
        go_simp
        clear j0 f0 j1 f1 j2 f2 j3 f3 j4 f4 j5 f5 j6 f6 j7 f7 j8 f8
        refine hK.out _ _ (fun h => absurd h (by decide)) ?_
        clear hK
        try simp only [Go.Act.put, List.setIfInBounds_toArray, List.set_cons_zero, List.set_cons_succ]
        refine wpL_takeY (i := 10) (v := (.bool true)) (some 4) rfl rfl (by kernel_rfl) (by kernel_rfl) (by kernel_rfl) (by decide) (fun _ _ _ h => h) (Or.inl ⟨by rfl, fun w' hS => (by go_simp)⟩) (fun h => absurd h (by decide)) ?_
        try simp only [Go.Act.put, List.setIfInBounds_toArray, List.set_cons_zero, List.set_cons_succ]
        refine wpL_done (by kernel_rfl) ?_ _
        obtain ⟨W9, hW9⟩ : ∃ W9, W9 = (((((((((Wd).setCell ⟨w.heap.size + 1, 0, none⟩ (.int .i64 c.t)).setCell ⟨w.heap.size + 1, 1, none⟩ (.int .i64 c.n)).setCell ⟨w.heap.size + 1, 2, none⟩ (.int .i64 c.s)).setCell ⟨w.heap.size + 1, 3, none⟩ (.int .i64 c.e)).setCell ⟨w.heap.size + 1, 4, none⟩ (.int .i64 c.f)).setCell ⟨w.heap.size + 1, 5, none⟩ (.int .i64 c.b)).setCell ⟨w.heap.size + 1, 6, none⟩ (.int .i64 c.d)).setCell ⟨w.heap.size + 1, 7, none⟩ (.int .i64 now)).setCell ⟨w.heap.size + 1, 8, none⟩ (.slice a' p cp') := ⟨_, rfl⟩
        rw [← hW9]
        have hq := HQ9.out W9 hW9
        clear hW9
        have y0 := cell_of (n := 0) hq.1 rfl
        have y1 := cell_of (n := 1) hq.1 rfl
        have y2 := cell_of (n := 2) hq.1 rfl
        have y3 := cell_of (n := 3) hq.1 rfl
        have y4 := cell_of (n := 4) hq.1 rfl
        have y5 := cell_of (n := 5) hq.1 rfl
        have y6 := cell_of (n := 6) hq.1 rfl
        have y7 := cell_of (n := 7) hq.1 rfl
        have y8 := cell_of (n := 8) hq.1 rfl
        go_wp2_with fail
        exact bodyPost_ret (v := .tuple #[.pointer (some ⟨m, 0, none⟩), .agg #[.int .i64 c.t, .int .i64 c.n, .int .i64 c.s, .int .i64 c.e, .int .i64 c.f, .int .i64 c.b, .int .i64 c.d, .int .i64 now, .slice a' p cp'], .bool true]) (by simp [results, Tryz.results8, go_sem, y0, y1, y2, y3, y4, y5, y6, y7, y8]) rfl ⟨_, _, by rw [HD.out]; rfl, hq.2⟩
end Go.Proofs.YtpefbmheblfbeaaGreatR.Sn
/- A whole (a configuration, a time and a slice of entries) as an argument, opened; no conditions. -/
namespace Go.Proofs.YtpefbmheblfbeaaGreatR.Sn
open Go.ChangeShapes Go.WideShapes Go.ChangeAt Go.RowKit Me
set_option linter.unusedVariables false
theorem add_plainA (b off k : Nat) : (⟨b, off, none⟩ : Addr).add k = ⟨b, off + k, none⟩ := by simp [Addr.add]
theorem cells39 : Tryz.prog.cellsOf 49 = 2 := by kernel_rfl
theorem cells56 : Tryz.prog.cellsOf 55 = 7 := by kernel_rfl
theorem cellsW : Tryz.prog.cellsOf 26 = 9 := by kernel_rfl
theorem cells50 : Tryz.prog.cellsOf 24 = 1 := by kernel_rfl
set_option maxRecDepth 100000 in
theorem fields56 {H : Type} {enc : TypeId × Value → H} {W : World} {base fuel : Nat} {spare : Nat → Bool} {held : Bool} {cs : List Value} {x : DataW H × List MemPlace} (h : DataW.trod enc Tryz.prog W base spare held fuel 55 cs = some x) (hl : cs.length = 7) :
    ∃ q : En, cs = [.int .u16 q.1.1, .string q.1.2, .int .i64 q.2.1.1, .int .i64 q.2.1.2.1, .int .i64 q.2.1.2.2.1, .int .i64 q.2.1.2.2.2, .int .i64 q.2.2] ∧ Ok q.1 ∧ Wo q.2.1 ∧ W64 q.2.2 := by
  obtain ⟨ys, k, hk, hxy, _, hyl, hfe⟩ := DataW.trod_struct Tryz.underlying55 h
  match cs, hl with
  | [v0, v1, v2, v3, v4, v5, v6], _ =>
    have hy : ys.length = 3 := hyl
    match ys, hy with
    | [y0, y1, y2], _ =>
      have g0 := hfe 0 _ rfl
      have g1 := hfe 1 _ rfl
      have g2 := hfe 2 _ rfl
      simp [cells2, cells39, cells43] at g0 g1 g2
      obtain ⟨zs, k2, hk2, _, _, hzl, hfz⟩ := DataW.trod_struct Tryz.underlying49 g0
      have hz : zs.length = 2 := hzl
      match zs, hz with
      | [z0, z1], _ =>
        have f0 := hfz 0 _ rfl
        have f1 := hfz 1 _ rfl
        simp [cells37, cells9] at f0 f1
        obtain ⟨D, d1, _, wd⟩ := DataW.trod_int Tryz.underlying47 f0
        obtain ⟨s, e1, _, ws⟩ := DataW.trod_string Tryz.underlying9 f1
        obtain ⟨o, o1, wo⟩ := fields43 g1 rfl
        obtain ⟨A, a1, _, wa⟩ := DataW.trod_int Tryz.underlying2 g2
        simp only [List.cons.injEq, and_true] at a1 d1 e1 o1
        obtain ⟨o1, o2, o3, o4⟩ := o1
        subst a1 d1 e1 o1 o2 o3 o4
        exact ⟨((D, s), o, A), rfl, ⟨wd, ws⟩, wo, wa⟩
set_option maxRecDepth 100000 in
theorem open_ents {H : Type} {enc : TypeId × Value → H} {W : World} {fuel : Nat} {v : Value} {y : DataW H × List MemPlace} (hf : DataW.trod enc Tryz.prog W 0 (fun _ => true) true fuel 24 [v] = some y) :
    ∃ xs : List En, RA W v xs ∧ (∀ x ∈ xs, Ok x.1 ∧ Wo x.2.1 ∧ W64 x.2.2) ∧ (xs = [] ∨ ∃ elems spare, y.1 = .slice elems spare ∧ elems.length = xs.length) := by
  rcases Deep.open_slice Tryz.underlying24 hf with ⟨hcs, _⟩ | ⟨x, len, c, m, n, D, Pl, hcs, _, hl, hm, hmm, hx, hall⟩
  · simp only [List.cons.injEq, and_true] at hcs
    subst hcs
    exact ⟨[], ⟨none, 0, rfl, Nat.le_refl _, fun h => absurd h (Nat.lt_irrefl 0)⟩, fun x hx => by simp at hx, Or.inl rfl⟩
  · simp only [List.cons.injEq, and_true] at hcs
    subst hcs
    simp only [if_true] at hmm
    subst hmm
    subst hx
    rw [cells56] at hall
    have each : ∀ i, i < m → ∃ q : En, W.cell? (x.add (i * 7)) = some (.int .u16 q.1.1) ∧ W.cell? (x.add (i * 7 + 1)) = some (.string q.1.2) ∧ W.cell? (x.add (i * 7 + 2)) = some (.int .i64 q.2.1.1) ∧ W.cell? (x.add (i * 7 + 3)) = some (.int .i64 q.2.1.2.1) ∧ W.cell? (x.add (i * 7 + 4)) = some (.int .i64 q.2.1.2.2.1) ∧ W.cell? (x.add (i * 7 + 5)) = some (.int .i64 q.2.1.2.2.2) ∧ W.cell? (x.add (i * 7 + 6)) = some (.int .i64 q.2.2) ∧ Ok q.1 ∧ Wo q.2.1 ∧ W64 q.2.2 := fun i hi => by
      obtain ⟨cs', h1, h2⟩ := hall i hi
      obtain ⟨_, hlen, hcell⟩ := World.cells?_some h1
      obtain ⟨q, rfl, wq⟩ := fields56 h2 hlen
      have e0 := hcell 0 (by omega)
      have e1 := hcell 1 (by omega)
      have e2 := hcell 2 (by omega)
      have e3 := hcell 3 (by omega)
      have e4 := hcell 4 (by omega)
      have e5 := hcell 5 (by omega)
      have e6 := hcell 6 (by omega)
      rw [Deep.add_add] at e0 e1 e2 e3 e4 e5 e6
      exact ⟨q, by simpa using e0, by simpa using e1, by simpa using e2, by simpa using e3, by simpa using e4, by simpa using e5, by simpa using e6, wq⟩
    haveI : Inhabited En := ⟨((0, ⟨#[]⟩), oz, 0)⟩
    obtain ⟨q, hq⟩ := Deep.choose_lt each
    rcases Nat.eq_zero_or_pos len with e | e
    · subst e
      exact ⟨[], ⟨_, _, rfl, Nat.zero_le _, fun h => absurd h (Nat.lt_irrefl 0)⟩, fun x hx => by simp at hx, Or.inl rfl⟩
    · have hsp : x.spot = none := by
        have h0 := (hq 0 (by omega)).1
        rw [show x.add (0 * 7) = x by simp [Addr.add]] at h0
        unfold World.cell? at h0
        split at h0
        · split at h0
          · cases h0
          · rename_i hs
            cases hh : x.spot with
            | none => rfl
            | some z => rw [hh] at hs; exact absurd rfl hs
        · cases h0
      obtain ⟨b, off, r⟩ := x
      obtain rfl : r = none := hsp
      have hlen : ((List.range len).map q).length = len := by simp
      refine ⟨(List.range len).map q, ⟨some ⟨b, off, none⟩, m, by rw [hlen], by rw [hlen]; exact hl, fun _ => ⟨b, off, rfl, ?_, fun i hi j hj => ?_⟩⟩, fun y hy => ?_, Or.inr ⟨_, _, rfl, by simp⟩⟩
      · rcases Nat.lt_or_ge b W.heap.size with h | h
        · exact h
        · have h0 := (hq 0 (by omega)).1
          simp [World.cell?, add_plainA, Array.getElem?_eq_none h] at h0
      · rw [hlen] at hi
        obtain ⟨h0, h1, h2, h3, h4, h5, h6, _⟩ := hq i (by omega)
        simp only [add_plainA] at h0 h1 h2 h3 h4 h5 h6
        rw [List.getElem_map, List.getElem_range]
        match j, hj with
        | 0, _ => exact h0
        | 1, _ => exact h1
        | 2, _ => exact h2
        | 3, _ => exact h3
        | 4, _ => exact h4
        | 5, _ => exact h5
        | 6, _ => exact h6
      · simp only [List.mem_map, List.mem_range] at hy
        obtain ⟨i, hi, rfl⟩ := hy
        exact (hq i (by omega)).2.2.2.2.2.2.2
set_option maxRecDepth 100000 in
set_option maxHeartbeats 1000000 in
theorem open_whole {H : Type} {enc : TypeId × Value → H} {W : World} {b0 : Nat} {v : Value} {d : DataW H} {p : List MemPlace} (hv : Value.okWide Tryz.prog W .any b0 26 v) (h : DataW.Trod enc Tryz.prog W 0 (fun _ => true) true 26 v d p) :
    ∃ (c : Cf) (now : Int) (u : Value) (xs : List En), v = .agg (wcs c now u) ∧ Wc c ∧ W64 now ∧ RA W u xs ∧ (∀ x ∈ xs, Ok x.1 ∧ Wo x.2.1 ∧ W64 x.2.2) ∧ (xs = [] ∨ ∃ l0 l1 elems spare, d = .agg [l0, l1, .slice elems spare] ∧ elems.length = xs.length) := by
  obtain ⟨cs, rfl, hs⟩ := okWide_struct Tryz.underlying26 hv
  obtain ⟨fuel, hf⟩ := h
  rw [cellsW] at hs
  obtain ⟨ys, k, hk, hxy, _, hyl, hfe⟩ := DataW.trod_struct Tryz.underlying26 hf
  obtain ⟨cl⟩ := cs
  have hs' : cl.length = 9 := by simpa using hs
  match cl, hs' with
  | [v0, v1, v2, v3, v4, v5, v6, v7, v8], _ =>
    have hy : ys.length = 3 := hyl
    match ys, hy with
    | [y0, y1, y2], _ =>
      have g0 := hfe 0 _ rfl
      have g1 := hfe 1 _ rfl
      have g2 := hfe 2 _ rfl
      simp [Value.cells, cells2, cells50, cells23] at g0 g1 g2
      obtain ⟨zs, k2, hk2, _, _, hzl, hfz⟩ := DataW.trod_struct Tryz.underlying23 g0
      have hz : zs.length = 7 := hzl
      match zs, hz with
      | [z0, z1, z2, z3, z4, z5, z6], _ =>
        have f0 := hfz 0 _ rfl
        have f1 := hfz 1 _ rfl
        have f2 := hfz 2 _ rfl
        have f3 := hfz 3 _ rfl
        have f4 := hfz 4 _ rfl
        have f5 := hfz 5 _ rfl
        have f6 := hfz 6 _ rfl
        simp [cells2, cells3] at f0 f1 f2 f3 f4 f5 f6
        obtain ⟨q0, e0, _, w0⟩ := DataW.trod_int Tryz.underlying2 f0
        obtain ⟨q1, e1, _, w1⟩ := DataW.trod_int Tryz.underlying2 f1
        obtain ⟨q2, e2, _, w2⟩ := DataW.trod_int Tryz.underlying2 f2
        obtain ⟨q3, e3, _, w3⟩ := DataW.trod_int Tryz.underlying3 f3
        obtain ⟨q4, e4, _, w4⟩ := DataW.trod_int Tryz.underlying3 f4
        obtain ⟨q5, e5, _, w5⟩ := DataW.trod_int Tryz.underlying3 f5
        obtain ⟨q6, e6, _, w6⟩ := DataW.trod_int Tryz.underlying2 f6
        obtain ⟨q7, e7, _, w7⟩ := DataW.trod_int Tryz.underlying2 g1
        simp only [List.cons.injEq, and_true] at e0 e1 e2 e3 e4 e5 e6 e7
        subst e0 e1 e2 e3 e4 e5 e6 e7
        obtain ⟨xs, s1, s2, s3⟩ := open_ents g2
        refine ⟨⟨q0, q1, q2, q3, q4, q5, q6⟩, q7, v8, xs, rfl, ⟨w0, w1, w2, w3, w4, w5, w6⟩, w7, s1, s2, ?_⟩
        rcases s3 with s3 | ⟨es, sp, e1, e2⟩
        · exact Or.inl s3
        · refine Or.inr ⟨y0.1, y1.1, es, sp, ?_, e2⟩
          have := congrArg Prod.fst hxy
          simp [e1] at this
          exact this
theorem sized_whole {H : Type} {ts : List TypeId} {ds : List (DataW H)} (h : (DataW.weightsEach Tryz.prog ts ds).all (· ≤ reachBytes) = true) {j : Nat} {l0 l1 : DataW H} {es sp : List (DataW H)} (ht : ts[j]? = some 26) (hd : ds[j]? = some (.agg [l0, l1, .slice es sp])) : es.length ≤ 2199023255488 := by
  have hb : Tryz.prog.bytesOf 55 = 64 := by kernel_rfl
  have h1 := List.all_eq_true.1 h _ (DataW.weights_mem_each ht hd ((es.length + sp.length) * Tryz.prog.bytesOf 55) (by
    simp only [DataW.weights, Tryz.underlying26]
    exact DataW.weights_mem_each (j := 2) (t := 24) (d := .slice es sp) rfl rfl _ (by simp [DataW.weights, Tryz.underlying24])))
  rw [hb] at h1
  have h3 : reachBytes = 140737488351232 := rfl
  simp only [decide_eq_true_eq] at h1
  omega
end Go.Proofs.YtpefbmheblfbeaaGreatR.Sn
/- What is known of a memo that was made: its numbers are of 64 bits; and when two memos are the same; the conditions are those that each states. -/
namespace Go.Proofs.YtpefbmheblfbeaaGreatR.Sn
open Go.RowKit Go.Sort Go.Shelf Me
set_option linter.unusedVariables false
theorem nxE_keeps {c : Cf} {now : Int} {xs : List En} {x : En} (h : nxE c now xs x = 0) : keepsC c x.2.1 = true := by
  unfold nxE at h
  by_cases hp : pairE x.1 x.2.1 ≠ 0
  · rw [if_pos hp] at h; exact absurd h hp
  · rw [if_neg hp] at h
    cases hk : keepsC c x.2.1 with
    | true => rfl
    | false =>
      rw [hk] at h
      simp at h
theorem ofL_ok {c : Cf} {now : Int} : ∀ (xs done : List En) (i : Int), (ofL c now done xs i).2 = 0 → ∀ x ∈ xs, x.1.2.size ≤ 64 ∧ right x.2.1 = true ∧ 0 ≤ x.2.2 ∧ x.2.2 ≤ now ∧ keepsC c x.2.1 = true
  | [], _, _, _, x, hx => by simp at hx
  | y :: r, done, i, h, x, hx => by
    rw [ofL] at h
    by_cases hy : nxE c now done y = 0
    · rw [if_neg (by rw [hy]; simp)] at h
      rcases List.mem_cons.1 hx with rfl | hx
      · obtain ⟨a, ⟨b, b2, b3⟩, _⟩ := nxE_ok hy
        exact ⟨a, b, b2, b3, nxE_keeps hy⟩
      · exact ofL_ok r _ _ h x hx
    · rw [if_pos hy] at h
      exact absurd h hy
theorem w64 {x : Int} (h : W64 x) : -9223372036854775808 ≤ x ∧ x ≤ 9223372036854775807 := by
  simpa [W64, Lit.wf, IntKind.min, IntKind.max, IntKind.signed, IntKind.bits] using h
theorem right_k {c : Cf} {o : O} (h : right o = true) (hk : keepsC c o = true) : (0 ≤ o.2.1 ∧ o.2.1 ≤ 2) ∧ 0 ≤ o.2.2.2 := by
  have h1 : o.2.1 = 0 ∨ o.2.1 = 1 ∨ o.2.1 = 2 := by
    unfold keepsC at hk
    by_cases a : o.2.1 = 0
    · exact Or.inl a
    · by_cases b : o.2.1 = 1
      · exact Or.inr (Or.inl b)
      · by_cases d : o.2.1 = 2
        · exact Or.inr (Or.inr d)
        · simp [a, b, d] at hk
  unfold right at h
  rw [Bool.and_eq_true] at h
  have h2 := h.1
  unfold mayF at h2
  rcases h1 with e | e | e
  · rw [if_pos e] at h2
    simp at h2
    omega
  · rw [if_neg (by omega), if_pos e] at h2
    simp at h2
    omega
  · rw [if_neg (by omega), if_neg (by omega), if_pos e] at h2
    simp at h2
    omega
theorem made_ok {c : Cf} {now : Int} {xs : List En} (h : (ofP c now xs).2 = 0) (wc : Wc c) (wn : W64 now) (hx : ∀ x ∈ xs, Ok x.1 ∧ Wo x.2.1 ∧ W64 x.2.2) : MmOk c now xs ∧ ∀ x ∈ xs, right x.2.1 = true := by
  unfold ofP at h
  by_cases h1 : okC c = false
  · rw [if_pos h1] at h; exact absurd h (by decide)
  rw [if_neg h1] at h
  by_cases h2 : isT now = false
  · rw [if_pos h2] at h; exact absurd h (by decide)
  rw [if_neg h2] at h
  by_cases h3 : c.e < (xs.length : Int)
  · rw [if_pos h3] at h; exact absurd h (by decide)
  rw [if_neg h3] at h
  have ok1 : okC c = true := by simpa using h1
  have ok2 : isT now = true := by simpa using h2
  have hall := ofL_ok xs [] 0 h
  obtain ⟨a1, a2, a3, a4, a5, a6, a7⟩ := wc
  have b1 := w64 a1; have b2 := w64 a2; have b3 := w64 a3; have b4 := w64 a4; have b5 := w64 a5; have b6 := w64 a6; have b7 := w64 a7
  have bn := w64 wn
  unfold okC at ok1
  have ok1 := of_decide_eq_true ok1
  have ht : 0 ≤ now := by unfold isT at ok2; simp at ok2; omega
  refine ⟨⟨⟨⟨by omega, b1.2⟩, ⟨by omega, b2.2⟩, ⟨by omega, b3.2⟩, ⟨by omega, b4.2⟩, ⟨by omega, b5.2⟩, ⟨by omega, b6.2⟩, ⟨by omega, b7.2⟩⟩, ⟨ht, bn.2⟩, fun x hx' => ?_, by omega⟩, fun x hx' => (hall x hx').2.1⟩
  obtain ⟨c1, c2, c3, c4, c5⟩ := hall x hx'
  obtain ⟨⟨d1, _⟩, ⟨d2, d3, d4, d5⟩, d6⟩ := hx x hx'
  obtain ⟨e1, e2⟩ := right_k c2 c5
  have f2 := w64 d2; have f4 := w64 d4; have f5 := w64 d5
  have f1 : 0 ≤ x.1.1 ∧ x.1.1 ≤ 65535 := by simpa [Lit.wf, IntKind.min, IntKind.max, IntKind.signed, IntKind.bits] using d1
  exact ⟨f1.1, f1.2, c1, c3, by omega, f2, f4, e1, ⟨e2, f5.2⟩⟩
theorem toList_iff (a b : ByteArray) : a.toList = b.toList ↔ a = b := by
  constructor
  · intro h
    rw [ByteArray.toList_eq, ByteArray.toList_eq] at h
    exact Go.WideShapes.bytes_inj h
  · intro h; rw [h]
set_option maxHeartbeats 1000000 in
theorem same_ {w : World} {pa pb : Value} {sa sb : ByteArray} {ea eb : Int} (HA : ∀ w', Touch [] w w' → Calls Tryz.prog 9 #[pa] w' fun e w'' => e = .returned (.tuple #[.string sa, .int .i64 ea]) ∧ Touch [] w' w'') (HB : ∀ w', Touch [] w w' → Calls Tryz.prog 9 #[pb] w' fun e w'' => e = .returned (.tuple #[.string sb, .int .i64 eb]) ∧ Touch [] w' w'') :
    Calls Tryz.prog 14 #[pa, pb] w fun e w' => e = .returned (.bool (decide (sa = sb))) ∧ Touch [] w w' := by
  have H1 := hid (HA w (Touch.refl _ _))
  have H2 := hid HB
  clear HA HB
  go_enter Tryz.func14, Tryz.ntmps14
  go_upto_region 2 with (go_at_call 9; refine H1.out.mono ?_; rintro e w1 ⟨rfl, t1⟩)
  clear H1
  go_wp2_with (go_at_call 9; refine (H2.out _ t1).mono ?_; rintro e w2 ⟨rfl, t2⟩)
  go_ret
  exact ⟨ret_bool (by rw [Bool.eq_iff_iff]; simp [toList_iff]), t1.trans' t2⟩
theorem patch_nil (w : World) : Calls Tryz.prog 19 #[.pointer none, .pointer none] w fun e w' => e = .returned (.tuple #[.string ⟨#[]⟩, .int .i64 1]) ∧ Touch [] w w' := by
  go_enter Tryz.func19, Tryz.ntmps19
  go_wp2
  go_ret2
  exact ⟨rfl, by repeat (first | exact Touch.refl _ _ | (refine Touch.alloc ?_ _))⟩
theorem apply_nil (w : World) (s : ByteArray) : Calls Tryz.prog 20 #[.pointer none, .string s] w fun e w' => e = .returned (.tuple #[.pointer none, .int .i64 0, .int .i64 1]) ∧ Touch [] w w' := by
  go_enter Tryz.func20, Tryz.ntmps20
  go_wp2
  exact bodyPost_ret (v := .tuple #[.pointer none, .int .i64 0, .int .i64 1]) (by simp [results, Tryz.results20, go_sem]) rfl ⟨rfl, by repeat (first | exact Touch.refl _ _ | (refine Touch.alloc ?_ _))⟩
end Go.Proofs.YtpefbmheblfbeaaGreatR.Sn
/- The statements' own look that the program is awake: it is; no conditions. -/
namespace Go.Proofs.YtpefbmheblfbeaaGreatR.Sn
open Go.RowKit Go.Sort
set_option linter.unusedVariables false
theorem n300 : numL 300 = [172, 2] := by
  rw [numL_go (by omega), numL_end (by omega)]; decide
theorem take300 : takeAt ⟨#[172, 2]⟩ 0 = some (300, 2) := by decide
theorem awake_ (w : World) : Calls Tryz.prog 7 #[] w fun e w' => e = .returned (.bool true) ∧ Touch [] w w' := by
  have H1 := hid (take_ w ⟨#[172, 2]⟩ 0 (by decide) (by omega) (by omega))
  rw [take300] at H1
  unfold takeV at H1
  have H2 := hid (number_ w 300 (by omega))
  rw [n300] at H2
  have H3 : Hid (∀ w, Calls Tryz.prog 27 #[.int .i64 (-1)] w fun e w' => e = .returned (.int .u64 1) ∧ w' = w) := hid (fun w => sign_ w (-1) (by omega) (by omega))
  go_enter Tryz.func7, Tryz.ntmps7
  go_wp2_with (first
    | (go_at_call 25; refine H1.out.mono ?_; rintro e w1 ⟨rfl, rfl⟩)
    | (go_at_call 26; refine H2.out.mono ?_; rintro e w2 ⟨rfl, T2⟩)
    | (go_at_call 27; refine (H3.out _).mono ?_; rintro e w3 ⟨rfl, rfl⟩))
  go_ret
  exact ⟨rfl, T2⟩
end Go.Proofs.YtpefbmheblfbeaaGreatR.Sn
/- The walk of SnapshotSums; the numbers are of 64 bits, the lists and the text no longer than a slice and a text may be. -/
namespace Go.Proofs.YtpefbmheblfbeaaGreatR.Sn
open Go.RowKit Go.Sort Go.Shelf Me
set_option linter.unusedVariables false
set_option linter.unusedSimpArgs false
theorem tell_ne (c : Cf) (now : Int) (xs : List En) : ¬ (⟨(tellB c now xs).toArray⟩ : ByteArray) = ⟨#[]⟩ := fun h => by
  have := congrArg (fun b : ByteArray => b.data.toList) h
  simp [tellB, sealB, bodyB, mk1] at this
theorem endS_big {s : ByteArray} (h : ¬ s.size < 8) {k : Nat} (hk : k = s.size - 8) : endS s.data.toList = (val8 (s.data.toList.drop k), decide (val8 (s.data.toList.drop k) = sumL (s.data.toList.take k))) := by
  have hl : s.data.toList.length = s.size := by simp
  unfold endS
  rw [if_neg (by omega), hl, hk]
set_option maxHeartbeats 8000000 in
theorem sums_ {w : World} {s : ByteArray} {c1 c2 : Cf} {n1 n2 : Int} {x1 x2 : List En} {v1 v2 : Value} (hs : s.size ≤ 140737488351232)
    (wc1 : Wc c1) (wn1 : W64 n1) (hv1 : RA w v1 x1) (ho1 : ∀ x ∈ x1, Ok x.1 ∧ Wo x.2.1 ∧ W64 x.2.2) (hl1 : x1.length ≤ 2199023255488)
    (wc2 : Wc c2) (wn2 : W64 n2) (hv2 : RA w v2 x2) (ho2 : ∀ x ∈ x2, Ok x.1 ∧ Wo x.2.1 ∧ W64 x.2.2) (hl2 : x2.length ≤ 2199023255488) :
    Calls Tryz.prog 5 #[.string s, .agg (wcs c1 n1 v1), .agg (wcs c2 n2 v2)] w fun e w' => e = .returned (.bool true) ∧ Touch [] w w' := by
  obtain ⟨V1, hV1⟩ : ∃ V1, V1 = w.alloc (.cells (wcs c1 n1 v1) 26) := ⟨_, rfl⟩
  obtain ⟨V, hV⟩ : ∃ V, V = V1.alloc (.cells (wcs c2 n2 v2) 26) := ⟨_, rfl⟩
  have T1 : Touch [] w V1 := by rw [hV1]; exact (Touch.refl _ _).alloc _
  have T2 : Touch [] V1 V := by rw [hV]; exact (Touch.refl _ _).alloc _
  have hb1 : V.heap[w.heap.size]? = some (.cells (wcs c1 n1 v1) 26 (0, 0)) := T2.keep (by rw [hV1]; exact heap_alloc_new w _) (by simp)
  have hb2 : V.heap[w.heap.size + 1]? = some (.cells (wcs c2 n2 v2) 26 (0, 0)) := by
    have : V1.heap.size = w.heap.size + 1 := by rw [hV1]; simp
    rw [← this, hV]; exact heap_alloc_new V1 _
  have HT := hid (T1.trans' T2)
  have HB1 := hid (fun w' (t : Touch [] V w') => t.keep hb1 (by simp))
  have HB2 := hid (fun w' (t : Touch [] V w') => t.keep hb2 (by simp))
  have M1 := hid (fun w' (t : Touch [] V w') => made_ (w := w') (now := n1) wc1 hl1 (hv1.keep ((T1.trans' T2).trans' t)) (fun x hx => (ho1 x hx).1))
  have M2 := hid (fun w' (t : Touch [] V w') => made_ (w := w') (now := n2) wc2 hl2 (hv2.keep ((T1.trans' T2).trans' t)) (fun x hx => (ho2 x hx).1))
  have HK1 := hid (fun h => made_ok (c := c1) (now := n1) (xs := x1) h wc1 wn1 ho1)
  have HK2 := hid (fun h => made_ok (c := c2) (now := n2) (xs := x2) h wc2 wn2 ho2)
  have HS : Hid (∀ w', Calls Tryz.prog 21 #[.string s] w' fun e w'' => e = .returned (.tuple #[.int .u64 ((endS s.data.toList).1 : Nat), .bool (endS s.data.toList).2]) ∧ Touch [] w' w'') := hid (fun w' => (sum_ w' s (by omega)).mono fun e w'' ⟨h1, h2⟩ => ⟨h1, by rw [h2]; exact Touch.refl _ _⟩)
  have HVs : V = (w.alloc (.cells (wcs c1 n1 v1) 26)).alloc (.cells (wcs c2 n2 v2) 26) := by rw [hV, hV1]
  have TN : Hid (∀ w', Calls Tryz.prog 9 #[.pointer none] w' fun e w'' => e = .returned (.tuple #[.string ⟨#[]⟩, .int .i64 1]) ∧ Touch [] w' w'') := hid (fun w' => (tell_nil w').mono fun e w'' ⟨h1, h2⟩ => ⟨h1, by rw [h2]; exact Touch.refl _ _⟩)
  have SN : Hid (∀ w', Calls Tryz.prog 14 #[.pointer none, .pointer none] w' fun e w'' => e = .returned (.bool true) ∧ Touch [] w' w'') := hid (fun w' => (same_ (w := w') (fun w' _ => TN.out w') (fun w' _ => TN.out w')).mono fun e w'' ⟨h1, h2⟩ => ⟨by rw [h1]; simp, h2⟩)
  have PN := hid patch_nil
  have AN := hid (fun w' => apply_nil w' s)
  have AW := hid awake_
  clear wc1 wn1 hv1 ho1 hl1 wc2 wn2 hv2 ho2 hl2 T1 T2 hb1 hb2 hV hV1
  go_enter Tryz.func5, Tryz.ntmps5
  unfold wcs at *
  go_upto_region 1 with fail
  rw [← HVs]
  clear HVs
  go_upto_region 2 with (go_at_call 21; refine (HS.out _).mono ?_; rintro e v1' ⟨rfl, t0⟩)
  by_cases h8 : s.size < 8
  · have z8 : (s.size : Int) < 8 := by omega
    have e8 : endS s.data.toList = (0, false) := by unfold endS; rw [if_pos (by simpa using h8)]
    rw [e8]
    clear HS e8 h8
    go_upto_region 8 with fail
    have T0 := hid t0
    clear t0
    go_upto_region 9 with (go_at_call 9; refine (TN.out _).mono ?_; rintro e u1 ⟨rfl, t1⟩)
    go_upto_region 10 with (go_at_call 19; refine (PN.out _).mono ?_; rintro e u2 ⟨rfl, t2⟩)
    go_upto_region 11 with (go_at_call 20; refine (AN.out _).mono ?_; rintro e u3 ⟨rfl, t3⟩)
    go_upto_region 13 with (first | (go_at_call 7; refine (AW.out _).mono ?_; rintro e u4 ⟨rfl, t4⟩) | (go_at_call 14; refine (SN.out _).mono ?_; rintro e u5 ⟨rfl, t5⟩))
    have TV := hid ((((T0.out.trans' t1).trans' t2).trans' t3).trans' (t4.trans' t5))
    clear t1 t2 t3 t4 t5 TN PN AN AW SN
    have hbx := HB1.out _ TV.out
    have q0 := cell_of (n := 0) hbx rfl
    have q1 := cell_of (n := 1) hbx rfl
    have q2 := cell_of (n := 2) hbx rfl
    have q3 := cell_of (n := 3) hbx rfl
    have q4 := cell_of (n := 4) hbx rfl
    have q5 := cell_of (n := 5) hbx rfl
    have q6 := cell_of (n := 6) hbx rfl
    have q7 := cell_of (n := 7) hbx rfl
    have q8 := cell_of (n := 8) hbx rfl
    clear hbx
    go_upto_region 14 with (go_at_call 8; refine (M1.out _ TV.out).mono ?_; rintro e u6 ⟨pm1, y1, rfl, Q1⟩; obtain ⟨ya1, yc1, hy1, _⟩ := id Q1.1; subst hy1; have HQ1 := hid Q1; clear Q1; unfold mv)
    clear q0 q1 q2 q3 q4 q5 q6 q7 q8
    obtain ⟨W6, hW6⟩ : ∃ W6, W6 = u6.alloc (.cells #[.int .i64 c1.t, .int .i64 c1.n, .int .i64 c1.s, .int .i64 c1.e, .int .i64 c1.f, .int .i64 c1.b, .int .i64 c1.d, .int .i64 n1, .slice ya1 x1.length yc1] 32) := ⟨_, rfl⟩
    have t6 : Touch [] u6 W6 := by rw [hW6]; exact (Touch.refl _ _).alloc _
    have hb6 : W6.heap[u6.heap.size]? = some (.cells #[.int .i64 c1.t, .int .i64 c1.n, .int .i64 c1.s, .int .i64 c1.e, .int .i64 c1.f, .int .i64 c1.b, .int .i64 c1.d, .int .i64 n1, .slice ya1 x1.length yc1] 32 (0, 0)) := by rw [hW6]; exact heap_alloc_new u6 _
    rw [← hW6]
    have TW := hid ((TV.out.trans' HQ1.out.2.1).trans' t6)
    have HT6 := hid t6
    clear hW6 t6
    have hbx := HB2.out _ TW.out
    have q0 := cell_of (n := 0) hbx rfl
    have q1 := cell_of (n := 1) hbx rfl
    have q2 := cell_of (n := 2) hbx rfl
    have q3 := cell_of (n := 3) hbx rfl
    have q4 := cell_of (n := 4) hbx rfl
    have q5 := cell_of (n := 5) hbx rfl
    have q6 := cell_of (n := 6) hbx rfl
    have q7 := cell_of (n := 7) hbx rfl
    have q8 := cell_of (n := 8) hbx rfl
    clear hbx
    go_upto_region 15 with (go_at_call 8; refine (M2.out _ TW.out).mono ?_; rintro e u7 ⟨pm2, y2, rfl, Q2⟩; obtain ⟨ya2, yc2, hy2, _⟩ := id Q2.1; subst hy2; have HQ2 := hid Q2; clear Q2; unfold mv)
    clear q0 q1 q2 q3 q4 q5 q6 q7 q8
    obtain ⟨W7, hW7⟩ : ∃ W7, W7 = u7.alloc (.cells #[.int .i64 c2.t, .int .i64 c2.n, .int .i64 c2.s, .int .i64 c2.e, .int .i64 c2.f, .int .i64 c2.b, .int .i64 c2.d, .int .i64 n2, .slice ya2 x2.length yc2] 32) := ⟨_, rfl⟩
    have t7 : Touch [] u7 W7 := by rw [hW7]; exact (Touch.refl _ _).alloc _
    have hb7 : W7.heap[u7.heap.size]? = some (.cells #[.int .i64 c2.t, .int .i64 c2.n, .int .i64 c2.s, .int .i64 c2.e, .int .i64 c2.f, .int .i64 c2.b, .int .i64 c2.d, .int .i64 n2, .slice ya2 x2.length yc2] 32 (0, 0)) := by rw [hW7]; exact heap_alloc_new u7 _
    rw [← hW7]
    have T67 := hid (HQ2.out.2.1.trans' t7)
    have TE := hid (HT.out.trans' ((TW.out.trans' HQ2.out.2.1).trans' t7))
    have hb6' := T67.out.keep hb6 (by simp)
    have HT7 := hid t7
    clear hW7 t7 hb6
    by_cases h1 : (ofP c1 n1 x1).2 = 0
    · by_cases h2 : (ofP c2 n2 x2).2 = 0
      · rw [decide_eq_true h1, decide_eq_true h2]
        obtain ⟨k1, r1⟩ := HK1.out h1
        obtain ⟨k2, r2⟩ := HK2.out h2
        obtain ⟨m1, F1, e1, mq1, _⟩ := (HQ1.out.2.2.resolve_left (fun q => q.1 h1)).2
        obtain ⟨m2, F2, e2, mq2, _⟩ := (HQ2.out.2.2.resolve_left (fun q => q.1 h2)).2
        subst e1
        subst e2
        have mq1' := (mq1.keep0 HT6.out).keep0 T67.out
        have mq2' := mq2.keep0 HT7.out
        have rn1 := RN.keep (RN.keep HQ1.out.1 HT6.out) T67.out
        have rn2 := RN.keep HQ2.out.1 HT7.out
        have hne1 := tell_ne c1 n1 x1
        have hne2 := tell_ne c2 n2 x2
        have A1 := hid (fun w' (t : Touch [] W7 w') => tell_ (mq1'.keep0 t) k1)
        have A2 := hid (fun w' (t : Touch [] W7 w') => tell_ (mq2'.keep0 t) k2)
        have R1 := hid (fun w' (t : Touch [] W7 w') => rtell_ (RN.keep rn1 t) k1 r1)
        have R2 := hid (fun w' (t : Touch [] W7 w') => rtell_ (RN.keep rn2 t) k2 r2)
        generalize (⟨(tellB c1 n1 x1).toArray⟩ : ByteArray) = sa at *
        generalize (⟨(tellB c2 n2 x2).toArray⟩ : ByteArray) = sb at *
        have TNn : ∀ w', Calls Tryz.prog 9 #[.pointer none] w' fun e w'' => e = .returned (.tuple #[.string ⟨#[]⟩, .int .i64 1]) ∧ Touch [] w' w'' := fun w' => (tell_nil w').mono fun e w'' ⟨h1, h2⟩ => ⟨h1, by rw [h2]; exact Touch.refl _ _⟩
        have S1 := hid (fun w' (t : Touch [] W7 w') => same_ (w := w') (fun w'' t' => A1.out w'' (t.trans' t')) (fun w'' t' => A2.out w'' (t.trans' t')))
        have S2 := hid (fun w' (t : Touch [] W7 w') => same_ (w := w') (fun w'' t' => A1.out w'' (t.trans' t')) (fun w'' _ => TNn w''))
        have S3 := hid (fun w' (t : Touch [] W7 w') => same_ (w := w') (fun w'' _ => TNn w'') (fun w'' t' => A2.out w'' (t.trans' t')))
        rw [decide_eq_false hne1] at S2
        rw [decide_eq_false (fun h => hne2 h.symm)] at S3
        have C0 : ∀ w', Touch [] W7 w' → w'.cell? ⟨u6.heap.size, 0, none⟩ = some (.int .i64 c1.t) := fun w' t => cell_at (t.keep hb6' (by simp)) rfl
        have C1 : ∀ w', Touch [] W7 w' → w'.cell? ⟨u6.heap.size, 1, none⟩ = some (.int .i64 c1.n) := fun w' t => cell_at (t.keep hb6' (by simp)) rfl
        have C2 : ∀ w', Touch [] W7 w' → w'.cell? ⟨u6.heap.size, 2, none⟩ = some (.int .i64 c1.s) := fun w' t => cell_at (t.keep hb6' (by simp)) rfl
        have C3 : ∀ w', Touch [] W7 w' → w'.cell? ⟨u6.heap.size, 3, none⟩ = some (.int .i64 c1.e) := fun w' t => cell_at (t.keep hb6' (by simp)) rfl
        have C4 : ∀ w', Touch [] W7 w' → w'.cell? ⟨u6.heap.size, 4, none⟩ = some (.int .i64 c1.f) := fun w' t => cell_at (t.keep hb6' (by simp)) rfl
        have C5 : ∀ w', Touch [] W7 w' → w'.cell? ⟨u6.heap.size, 5, none⟩ = some (.int .i64 c1.b) := fun w' t => cell_at (t.keep hb6' (by simp)) rfl
        have C6 : ∀ w', Touch [] W7 w' → w'.cell? ⟨u6.heap.size, 6, none⟩ = some (.int .i64 c1.d) := fun w' t => cell_at (t.keep hb6' (by simp)) rfl
        have C7 : ∀ w', Touch [] W7 w' → w'.cell? ⟨u6.heap.size, 7, none⟩ = some (.int .i64 n1) := fun w' t => cell_at (t.keep hb6' (by simp)) rfl
        have C8 : ∀ w', Touch [] W7 w' → w'.cell? ⟨u6.heap.size, 8, none⟩ = some (.slice ya1 x1.length yc1) := fun w' t => cell_at (t.keep hb6' (by simp)) rfl
        have D0 : ∀ w', Touch [] W7 w' → w'.cell? ⟨u7.heap.size, 0, none⟩ = some (.int .i64 c2.t) := fun w' t => cell_at (t.keep hb7 (by simp)) rfl
        have D1 : ∀ w', Touch [] W7 w' → w'.cell? ⟨u7.heap.size, 1, none⟩ = some (.int .i64 c2.n) := fun w' t => cell_at (t.keep hb7 (by simp)) rfl
        have D2 : ∀ w', Touch [] W7 w' → w'.cell? ⟨u7.heap.size, 2, none⟩ = some (.int .i64 c2.s) := fun w' t => cell_at (t.keep hb7 (by simp)) rfl
        have D3 : ∀ w', Touch [] W7 w' → w'.cell? ⟨u7.heap.size, 3, none⟩ = some (.int .i64 c2.e) := fun w' t => cell_at (t.keep hb7 (by simp)) rfl
        have D4 : ∀ w', Touch [] W7 w' → w'.cell? ⟨u7.heap.size, 4, none⟩ = some (.int .i64 c2.f) := fun w' t => cell_at (t.keep hb7 (by simp)) rfl
        have D5 : ∀ w', Touch [] W7 w' → w'.cell? ⟨u7.heap.size, 5, none⟩ = some (.int .i64 c2.b) := fun w' t => cell_at (t.keep hb7 (by simp)) rfl
        have D6 : ∀ w', Touch [] W7 w' → w'.cell? ⟨u7.heap.size, 6, none⟩ = some (.int .i64 c2.d) := fun w' t => cell_at (t.keep hb7 (by simp)) rfl
        have D7 : ∀ w', Touch [] W7 w' → w'.cell? ⟨u7.heap.size, 7, none⟩ = some (.int .i64 n2) := fun w' t => cell_at (t.keep hb7 (by simp)) rfl
        have D8 : ∀ w', Touch [] W7 w' → w'.cell? ⟨u7.heap.size, 8, none⟩ = some (.slice ya2 x2.length yc2) := fun w' t => cell_at (t.keep hb7 (by simp)) rfl
        have zz6 := block_lt hb6'
        have zz7 := block_lt hb7
        unfold PT mv at *
        obtain ⟨B, hB⟩ : ∃ B, B = decide (sa = sb) := ⟨_, rfl⟩
        have hB2 : (sa.toList == sb.toList) = B := by rw [hB, Bool.eq_iff_iff]; simp [toList_iff]
        rw [← hB] at S1
        clear A1 A2 mq1 mq2 mq1' mq2' rn1 rn2 k1 k2 r1 r2 hne1 hne2 hb6' hb7 TNn HK1 HK2 HQ1 HQ2 M1 M2 HB1 HB2 TV TW HT6 HT7 T67 h1 h2
        go_upto_region 17 with fail
        clear HT hB
        cases B with
        | true =>
          go_region_held3 (fun w' => Touch [] W7 w') (first | assumption | exact (Touch.refl _ _).drew | exact Touch.refl _ _ | exact Touch.drew (by assumption))
            (first
              | (go_at_call_of 14 (#[Value.pointer (some ⟨m1, 0, none⟩), Value.pointer (some ⟨m2, 0, none⟩)] : Array Value); refine (S1.out _ (by assumption)).mono ?_; rintro e a1 ⟨rfl, t1⟩; have U1 : Touch [] W7 a1 := Touch.trans' (by assumption) t1; clear t1)
              | (go_at_call_of 10 (#[Value.agg #[.int .i64 c1.t, .int .i64 c1.n, .int .i64 c1.s, .int .i64 c1.e, .int .i64 c1.f, .int .i64 c1.b, .int .i64 c1.d, .int .i64 n1, .slice ya1 x1.length yc1]] : Array Value); refine (R1.out _ (by assumption)).mono ?_; rintro e a2 ⟨rfl, t2⟩; have U2 : Touch [] W7 a2 := Touch.trans' (by assumption) t2; clear t2)
              | (go_at_call_of 10 (#[Value.agg #[.int .i64 c2.t, .int .i64 c2.n, .int .i64 c2.s, .int .i64 c2.e, .int .i64 c2.f, .int .i64 c2.b, .int .i64 c2.d, .int .i64 n2, .slice ya2 x2.length yc2]] : Array Value); refine (R2.out _ (by assumption)).mono ?_; rintro e a3 ⟨rfl, t3⟩; have U3 : Touch [] W7 a3 := Touch.trans' (by assumption) t3; clear t3)
              | (go_at_call_of 14 (#[Value.pointer (some ⟨m1, 0, none⟩), Value.pointer none] : Array Value); refine (S2.out _ (by assumption)).mono ?_; rintro e a4 ⟨rfl, t4⟩; have U4 : Touch [] W7 a4 := Touch.trans' (by assumption) t4; clear t4)
              | (go_at_call_of 14 (#[Value.pointer none, Value.pointer (some ⟨m2, 0, none⟩)] : Array Value); refine (S3.out _ (by assumption)).mono ?_; rintro e a5 ⟨rfl, t5⟩; have U5 : Touch [] W7 a5 := Touch.trans' (by assumption) t5; clear t5))
          all_goals
            go_wp2
            go_ret
            exact ⟨rfl, TE.out.trans' (by assumption)⟩
        | false =>
          go_region_held3 (fun w' => Touch [] W7 w') (first | assumption | exact (Touch.refl _ _).drew | exact Touch.refl _ _ | exact Touch.drew (by assumption))
            (first
              | (go_at_call_of 14 (#[Value.pointer (some ⟨m1, 0, none⟩), Value.pointer (some ⟨m2, 0, none⟩)] : Array Value); refine (S1.out _ (by assumption)).mono ?_; rintro e a1 ⟨rfl, t1⟩; have U1 : Touch [] W7 a1 := Touch.trans' (by assumption) t1; clear t1)
              | (go_at_call_of 10 (#[Value.agg #[.int .i64 c1.t, .int .i64 c1.n, .int .i64 c1.s, .int .i64 c1.e, .int .i64 c1.f, .int .i64 c1.b, .int .i64 c1.d, .int .i64 n1, .slice ya1 x1.length yc1]] : Array Value); refine (R1.out _ (by assumption)).mono ?_; rintro e a2 ⟨rfl, t2⟩; have U2 : Touch [] W7 a2 := Touch.trans' (by assumption) t2; clear t2)
              | (go_at_call_of 10 (#[Value.agg #[.int .i64 c2.t, .int .i64 c2.n, .int .i64 c2.s, .int .i64 c2.e, .int .i64 c2.f, .int .i64 c2.b, .int .i64 c2.d, .int .i64 n2, .slice ya2 x2.length yc2]] : Array Value); refine (R2.out _ (by assumption)).mono ?_; rintro e a3 ⟨rfl, t3⟩; have U3 : Touch [] W7 a3 := Touch.trans' (by assumption) t3; clear t3)
              | (go_at_call_of 14 (#[Value.pointer (some ⟨m1, 0, none⟩), Value.pointer none] : Array Value); refine (S2.out _ (by assumption)).mono ?_; rintro e a4 ⟨rfl, t4⟩; have U4 : Touch [] W7 a4 := Touch.trans' (by assumption) t4; clear t4)
              | (go_at_call_of 14 (#[Value.pointer none, Value.pointer (some ⟨m2, 0, none⟩)] : Array Value); refine (S3.out _ (by assumption)).mono ?_; rintro e a5 ⟨rfl, t5⟩; have U5 : Touch [] W7 a5 := Touch.trans' (by assumption) t5; clear t5))
          all_goals
            go_wp2
            go_ret
            exact ⟨rfl, TE.out.trans' (by assumption)⟩
      · rw [decide_eq_true h1, decide_eq_false h2]
        go_wp2
        go_ret
        exact ⟨rfl, TE.out⟩
    · rw [decide_eq_false h1]
      go_wp2
      go_ret
      exact ⟨rfl, TE.out⟩
  · have z8 : ¬ (s.size : Int) < 8 := by omega
    obtain ⟨k, hk⟩ : ∃ k, k = s.size - 8 := ⟨_, rfl⟩
    have e8 := endS_big h8 hk
    rw [e8]
    have HV : Hid (∀ w', Calls Tryz.prog 22 #[.string s, .int .i64 k] w' fun e w'' => e = .returned (.int .u64 (val8 (s.data.toList.drop k) : Nat)) ∧ Touch [] w' w'') := hid (fun w' => (rvalue8_ w' s k (by omega) (by omega)).mono fun e w'' ⟨h1, h2⟩ => ⟨h1, by rw [h2]; exact Touch.refl _ _⟩)
    have hw : IntKind.i64.wrap ((s.size : Int) - 8) = (k : Int) := by rw [IntKind.wrap_i64]; omega
    have hw' : (s.size : Int) - 8 = (k : Int) := by omega
    have z0 : (0 : Int) ≤ (k : Int) := by omega
    have z1 : (k : Int) ≤ (s.size : Int) := by omega
    have sl2 : ∀ w, (Instr.slice 9 (.string s) none (some (.int .i64 (k : Int))) none).run Tryz.prog w = .ok (.string (s.extract 0 k)) w := fun w => by go_simp
    have HU : Hid (∀ w', Calls Tryz.prog 23 #[.string (s.extract 0 k)] w' fun e w'' => e = .returned (.int .u64 (sumL (s.extract 0 k).data.toList : Nat)) ∧ Touch [] w' w'') := hid (fun w' => (rsum_ (s.extract 0 k) (by rw [ByteArray.size_extract]; omega) w').mono fun e w'' ⟨h1, h2⟩ => ⟨h1, by rw [h2]; exact Touch.refl _ _⟩)
    rw [extract_data, List.drop_zero] at HU
    generalize val8 (s.data.toList.drop k) = vv at *
    generalize sumL (s.data.toList.take k) = uu at *
    have eb : ((vv : Int) == (uu : Int)) = decide (vv = uu) := by rw [Bool.eq_iff_iff, beq_iff_eq, decide_eq_true_eq]; omega
    clear HS e8 h8 hk
    go_upto_region 8 with (first
      | (go_at_call 22; refine (HV.out _).mono ?_; rintro e g1 ⟨rfl, tg1⟩)
      | (go_at_call 23; refine (HU.out _).mono ?_; rintro e g2 ⟨rfl, tg2⟩))
    have T0 := hid ((t0.trans' tg1).trans' tg2)
    clear HV HU sl2 eb z0 z1 hw hw' t0 tg1 tg2
    go_upto_region 9 with (go_at_call 9; refine (TN.out _).mono ?_; rintro e u1 ⟨rfl, t1⟩)
    go_upto_region 10 with (go_at_call 19; refine (PN.out _).mono ?_; rintro e u2 ⟨rfl, t2⟩)
    go_upto_region 11 with (go_at_call 20; refine (AN.out _).mono ?_; rintro e u3 ⟨rfl, t3⟩)
    go_upto_region 13 with (first | (go_at_call 7; refine (AW.out _).mono ?_; rintro e u4 ⟨rfl, t4⟩) | (go_at_call 14; refine (SN.out _).mono ?_; rintro e u5 ⟨rfl, t5⟩))
    have TV := hid ((((T0.out.trans' t1).trans' t2).trans' t3).trans' (t4.trans' t5))
    clear t1 t2 t3 t4 t5 TN PN AN AW SN
    have hbx := HB1.out _ TV.out
    have q0 := cell_of (n := 0) hbx rfl
    have q1 := cell_of (n := 1) hbx rfl
    have q2 := cell_of (n := 2) hbx rfl
    have q3 := cell_of (n := 3) hbx rfl
    have q4 := cell_of (n := 4) hbx rfl
    have q5 := cell_of (n := 5) hbx rfl
    have q6 := cell_of (n := 6) hbx rfl
    have q7 := cell_of (n := 7) hbx rfl
    have q8 := cell_of (n := 8) hbx rfl
    clear hbx
    go_upto_region 14 with (go_at_call 8; refine (M1.out _ TV.out).mono ?_; rintro e u6 ⟨pm1, y1, rfl, Q1⟩; obtain ⟨ya1, yc1, hy1, _⟩ := id Q1.1; subst hy1; have HQ1 := hid Q1; clear Q1; unfold mv)
    clear q0 q1 q2 q3 q4 q5 q6 q7 q8
    obtain ⟨W6, hW6⟩ : ∃ W6, W6 = u6.alloc (.cells #[.int .i64 c1.t, .int .i64 c1.n, .int .i64 c1.s, .int .i64 c1.e, .int .i64 c1.f, .int .i64 c1.b, .int .i64 c1.d, .int .i64 n1, .slice ya1 x1.length yc1] 32) := ⟨_, rfl⟩
    have t6 : Touch [] u6 W6 := by rw [hW6]; exact (Touch.refl _ _).alloc _
    have hb6 : W6.heap[u6.heap.size]? = some (.cells #[.int .i64 c1.t, .int .i64 c1.n, .int .i64 c1.s, .int .i64 c1.e, .int .i64 c1.f, .int .i64 c1.b, .int .i64 c1.d, .int .i64 n1, .slice ya1 x1.length yc1] 32 (0, 0)) := by rw [hW6]; exact heap_alloc_new u6 _
    rw [← hW6]
    have TW := hid ((TV.out.trans' HQ1.out.2.1).trans' t6)
    have HT6 := hid t6
    clear hW6 t6
    have hbx := HB2.out _ TW.out
    have q0 := cell_of (n := 0) hbx rfl
    have q1 := cell_of (n := 1) hbx rfl
    have q2 := cell_of (n := 2) hbx rfl
    have q3 := cell_of (n := 3) hbx rfl
    have q4 := cell_of (n := 4) hbx rfl
    have q5 := cell_of (n := 5) hbx rfl
    have q6 := cell_of (n := 6) hbx rfl
    have q7 := cell_of (n := 7) hbx rfl
    have q8 := cell_of (n := 8) hbx rfl
    clear hbx
    go_upto_region 15 with (go_at_call 8; refine (M2.out _ TW.out).mono ?_; rintro e u7 ⟨pm2, y2, rfl, Q2⟩; obtain ⟨ya2, yc2, hy2, _⟩ := id Q2.1; subst hy2; have HQ2 := hid Q2; clear Q2; unfold mv)
    clear q0 q1 q2 q3 q4 q5 q6 q7 q8
    obtain ⟨W7, hW7⟩ : ∃ W7, W7 = u7.alloc (.cells #[.int .i64 c2.t, .int .i64 c2.n, .int .i64 c2.s, .int .i64 c2.e, .int .i64 c2.f, .int .i64 c2.b, .int .i64 c2.d, .int .i64 n2, .slice ya2 x2.length yc2] 32) := ⟨_, rfl⟩
    have t7 : Touch [] u7 W7 := by rw [hW7]; exact (Touch.refl _ _).alloc _
    have hb7 : W7.heap[u7.heap.size]? = some (.cells #[.int .i64 c2.t, .int .i64 c2.n, .int .i64 c2.s, .int .i64 c2.e, .int .i64 c2.f, .int .i64 c2.b, .int .i64 c2.d, .int .i64 n2, .slice ya2 x2.length yc2] 32 (0, 0)) := by rw [hW7]; exact heap_alloc_new u7 _
    rw [← hW7]
    have T67 := hid (HQ2.out.2.1.trans' t7)
    have TE := hid (HT.out.trans' ((TW.out.trans' HQ2.out.2.1).trans' t7))
    have hb6' := T67.out.keep hb6 (by simp)
    have HT7 := hid t7
    clear hW7 t7 hb6
    by_cases h1 : (ofP c1 n1 x1).2 = 0
    · by_cases h2 : (ofP c2 n2 x2).2 = 0
      · rw [decide_eq_true h1, decide_eq_true h2]
        obtain ⟨k1, r1⟩ := HK1.out h1
        obtain ⟨k2, r2⟩ := HK2.out h2
        obtain ⟨m1, F1, e1, mq1, _⟩ := (HQ1.out.2.2.resolve_left (fun q => q.1 h1)).2
        obtain ⟨m2, F2, e2, mq2, _⟩ := (HQ2.out.2.2.resolve_left (fun q => q.1 h2)).2
        subst e1
        subst e2
        have mq1' := (mq1.keep0 HT6.out).keep0 T67.out
        have mq2' := mq2.keep0 HT7.out
        have rn1 := RN.keep (RN.keep HQ1.out.1 HT6.out) T67.out
        have rn2 := RN.keep HQ2.out.1 HT7.out
        have hne1 := tell_ne c1 n1 x1
        have hne2 := tell_ne c2 n2 x2
        have A1 := hid (fun w' (t : Touch [] W7 w') => tell_ (mq1'.keep0 t) k1)
        have A2 := hid (fun w' (t : Touch [] W7 w') => tell_ (mq2'.keep0 t) k2)
        have R1 := hid (fun w' (t : Touch [] W7 w') => rtell_ (RN.keep rn1 t) k1 r1)
        have R2 := hid (fun w' (t : Touch [] W7 w') => rtell_ (RN.keep rn2 t) k2 r2)
        generalize (⟨(tellB c1 n1 x1).toArray⟩ : ByteArray) = sa at *
        generalize (⟨(tellB c2 n2 x2).toArray⟩ : ByteArray) = sb at *
        have TNn : ∀ w', Calls Tryz.prog 9 #[.pointer none] w' fun e w'' => e = .returned (.tuple #[.string ⟨#[]⟩, .int .i64 1]) ∧ Touch [] w' w'' := fun w' => (tell_nil w').mono fun e w'' ⟨h1, h2⟩ => ⟨h1, by rw [h2]; exact Touch.refl _ _⟩
        have S1 := hid (fun w' (t : Touch [] W7 w') => same_ (w := w') (fun w'' t' => A1.out w'' (t.trans' t')) (fun w'' t' => A2.out w'' (t.trans' t')))
        have S2 := hid (fun w' (t : Touch [] W7 w') => same_ (w := w') (fun w'' t' => A1.out w'' (t.trans' t')) (fun w'' _ => TNn w''))
        have S3 := hid (fun w' (t : Touch [] W7 w') => same_ (w := w') (fun w'' _ => TNn w'') (fun w'' t' => A2.out w'' (t.trans' t')))
        rw [decide_eq_false hne1] at S2
        rw [decide_eq_false (fun h => hne2 h.symm)] at S3
        have C0 : ∀ w', Touch [] W7 w' → w'.cell? ⟨u6.heap.size, 0, none⟩ = some (.int .i64 c1.t) := fun w' t => cell_at (t.keep hb6' (by simp)) rfl
        have C1 : ∀ w', Touch [] W7 w' → w'.cell? ⟨u6.heap.size, 1, none⟩ = some (.int .i64 c1.n) := fun w' t => cell_at (t.keep hb6' (by simp)) rfl
        have C2 : ∀ w', Touch [] W7 w' → w'.cell? ⟨u6.heap.size, 2, none⟩ = some (.int .i64 c1.s) := fun w' t => cell_at (t.keep hb6' (by simp)) rfl
        have C3 : ∀ w', Touch [] W7 w' → w'.cell? ⟨u6.heap.size, 3, none⟩ = some (.int .i64 c1.e) := fun w' t => cell_at (t.keep hb6' (by simp)) rfl
        have C4 : ∀ w', Touch [] W7 w' → w'.cell? ⟨u6.heap.size, 4, none⟩ = some (.int .i64 c1.f) := fun w' t => cell_at (t.keep hb6' (by simp)) rfl
        have C5 : ∀ w', Touch [] W7 w' → w'.cell? ⟨u6.heap.size, 5, none⟩ = some (.int .i64 c1.b) := fun w' t => cell_at (t.keep hb6' (by simp)) rfl
        have C6 : ∀ w', Touch [] W7 w' → w'.cell? ⟨u6.heap.size, 6, none⟩ = some (.int .i64 c1.d) := fun w' t => cell_at (t.keep hb6' (by simp)) rfl
        have C7 : ∀ w', Touch [] W7 w' → w'.cell? ⟨u6.heap.size, 7, none⟩ = some (.int .i64 n1) := fun w' t => cell_at (t.keep hb6' (by simp)) rfl
        have C8 : ∀ w', Touch [] W7 w' → w'.cell? ⟨u6.heap.size, 8, none⟩ = some (.slice ya1 x1.length yc1) := fun w' t => cell_at (t.keep hb6' (by simp)) rfl
        have D0 : ∀ w', Touch [] W7 w' → w'.cell? ⟨u7.heap.size, 0, none⟩ = some (.int .i64 c2.t) := fun w' t => cell_at (t.keep hb7 (by simp)) rfl
        have D1 : ∀ w', Touch [] W7 w' → w'.cell? ⟨u7.heap.size, 1, none⟩ = some (.int .i64 c2.n) := fun w' t => cell_at (t.keep hb7 (by simp)) rfl
        have D2 : ∀ w', Touch [] W7 w' → w'.cell? ⟨u7.heap.size, 2, none⟩ = some (.int .i64 c2.s) := fun w' t => cell_at (t.keep hb7 (by simp)) rfl
        have D3 : ∀ w', Touch [] W7 w' → w'.cell? ⟨u7.heap.size, 3, none⟩ = some (.int .i64 c2.e) := fun w' t => cell_at (t.keep hb7 (by simp)) rfl
        have D4 : ∀ w', Touch [] W7 w' → w'.cell? ⟨u7.heap.size, 4, none⟩ = some (.int .i64 c2.f) := fun w' t => cell_at (t.keep hb7 (by simp)) rfl
        have D5 : ∀ w', Touch [] W7 w' → w'.cell? ⟨u7.heap.size, 5, none⟩ = some (.int .i64 c2.b) := fun w' t => cell_at (t.keep hb7 (by simp)) rfl
        have D6 : ∀ w', Touch [] W7 w' → w'.cell? ⟨u7.heap.size, 6, none⟩ = some (.int .i64 c2.d) := fun w' t => cell_at (t.keep hb7 (by simp)) rfl
        have D7 : ∀ w', Touch [] W7 w' → w'.cell? ⟨u7.heap.size, 7, none⟩ = some (.int .i64 n2) := fun w' t => cell_at (t.keep hb7 (by simp)) rfl
        have D8 : ∀ w', Touch [] W7 w' → w'.cell? ⟨u7.heap.size, 8, none⟩ = some (.slice ya2 x2.length yc2) := fun w' t => cell_at (t.keep hb7 (by simp)) rfl
        have zz6 := block_lt hb6'
        have zz7 := block_lt hb7
        unfold PT mv at *
        obtain ⟨B, hB⟩ : ∃ B, B = decide (sa = sb) := ⟨_, rfl⟩
        have hB2 : (sa.toList == sb.toList) = B := by rw [hB, Bool.eq_iff_iff]; simp [toList_iff]
        rw [← hB] at S1
        clear A1 A2 mq1 mq2 mq1' mq2' rn1 rn2 k1 k2 r1 r2 hne1 hne2 hb6' hb7 TNn HK1 HK2 HQ1 HQ2 M1 M2 HB1 HB2 TV TW HT6 HT7 T67 h1 h2
        go_upto_region 17 with fail
        clear HT hB
        cases B with
        | true =>
          go_region_held3 (fun w' => Touch [] W7 w') (first | assumption | exact (Touch.refl _ _).drew | exact Touch.refl _ _ | exact Touch.drew (by assumption))
            (first
              | (go_at_call_of 14 (#[Value.pointer (some ⟨m1, 0, none⟩), Value.pointer (some ⟨m2, 0, none⟩)] : Array Value); refine (S1.out _ (by assumption)).mono ?_; rintro e a1 ⟨rfl, t1⟩; have U1 : Touch [] W7 a1 := Touch.trans' (by assumption) t1; clear t1)
              | (go_at_call_of 10 (#[Value.agg #[.int .i64 c1.t, .int .i64 c1.n, .int .i64 c1.s, .int .i64 c1.e, .int .i64 c1.f, .int .i64 c1.b, .int .i64 c1.d, .int .i64 n1, .slice ya1 x1.length yc1]] : Array Value); refine (R1.out _ (by assumption)).mono ?_; rintro e a2 ⟨rfl, t2⟩; have U2 : Touch [] W7 a2 := Touch.trans' (by assumption) t2; clear t2)
              | (go_at_call_of 10 (#[Value.agg #[.int .i64 c2.t, .int .i64 c2.n, .int .i64 c2.s, .int .i64 c2.e, .int .i64 c2.f, .int .i64 c2.b, .int .i64 c2.d, .int .i64 n2, .slice ya2 x2.length yc2]] : Array Value); refine (R2.out _ (by assumption)).mono ?_; rintro e a3 ⟨rfl, t3⟩; have U3 : Touch [] W7 a3 := Touch.trans' (by assumption) t3; clear t3)
              | (go_at_call_of 14 (#[Value.pointer (some ⟨m1, 0, none⟩), Value.pointer none] : Array Value); refine (S2.out _ (by assumption)).mono ?_; rintro e a4 ⟨rfl, t4⟩; have U4 : Touch [] W7 a4 := Touch.trans' (by assumption) t4; clear t4)
              | (go_at_call_of 14 (#[Value.pointer none, Value.pointer (some ⟨m2, 0, none⟩)] : Array Value); refine (S3.out _ (by assumption)).mono ?_; rintro e a5 ⟨rfl, t5⟩; have U5 : Touch [] W7 a5 := Touch.trans' (by assumption) t5; clear t5))
          all_goals
            go_wp2
            go_ret
            exact ⟨rfl, TE.out.trans' (by assumption)⟩
        | false =>
          go_region_held3 (fun w' => Touch [] W7 w') (first | assumption | exact (Touch.refl _ _).drew | exact Touch.refl _ _ | exact Touch.drew (by assumption))
            (first
              | (go_at_call_of 14 (#[Value.pointer (some ⟨m1, 0, none⟩), Value.pointer (some ⟨m2, 0, none⟩)] : Array Value); refine (S1.out _ (by assumption)).mono ?_; rintro e a1 ⟨rfl, t1⟩; have U1 : Touch [] W7 a1 := Touch.trans' (by assumption) t1; clear t1)
              | (go_at_call_of 10 (#[Value.agg #[.int .i64 c1.t, .int .i64 c1.n, .int .i64 c1.s, .int .i64 c1.e, .int .i64 c1.f, .int .i64 c1.b, .int .i64 c1.d, .int .i64 n1, .slice ya1 x1.length yc1]] : Array Value); refine (R1.out _ (by assumption)).mono ?_; rintro e a2 ⟨rfl, t2⟩; have U2 : Touch [] W7 a2 := Touch.trans' (by assumption) t2; clear t2)
              | (go_at_call_of 10 (#[Value.agg #[.int .i64 c2.t, .int .i64 c2.n, .int .i64 c2.s, .int .i64 c2.e, .int .i64 c2.f, .int .i64 c2.b, .int .i64 c2.d, .int .i64 n2, .slice ya2 x2.length yc2]] : Array Value); refine (R2.out _ (by assumption)).mono ?_; rintro e a3 ⟨rfl, t3⟩; have U3 : Touch [] W7 a3 := Touch.trans' (by assumption) t3; clear t3)
              | (go_at_call_of 14 (#[Value.pointer (some ⟨m1, 0, none⟩), Value.pointer none] : Array Value); refine (S2.out _ (by assumption)).mono ?_; rintro e a4 ⟨rfl, t4⟩; have U4 : Touch [] W7 a4 := Touch.trans' (by assumption) t4; clear t4)
              | (go_at_call_of 14 (#[Value.pointer none, Value.pointer (some ⟨m2, 0, none⟩)] : Array Value); refine (S3.out _ (by assumption)).mono ?_; rintro e a5 ⟨rfl, t5⟩; have U5 : Touch [] W7 a5 := Touch.trans' (by assumption) t5; clear t5))
          all_goals
            go_wp2
            go_ret
            exact ⟨rfl, TE.out.trans' (by assumption)⟩
      · rw [decide_eq_true h1, decide_eq_false h2]
        go_wp2
        go_ret
        exact ⟨rfl, TE.out⟩
    · rw [decide_eq_false h1]
      go_wp2
      go_ret
      exact ⟨rfl, TE.out⟩
end Go.Proofs.YtpefbmheblfbeaaGreatR.Sn
/- SnapshotSums' walk, with its arguments in the order of the statement. -/
namespace Go.Proofs.YtpefbmheblfbeaaGreatR.Sn
open Go.RowKit Me
theorem sumsL_ (W : World) (s : ByteArray) (c1 : Cf) (n1 : Int) (v1 : Value) (x1 : List En) (c2 : Cf) (n2 : Int) (v2 : Value) (x2 : List En) (hs : s.size ≤ 140737488351232) (wc1 : Wc c1) (wn1 : W64 n1) (hv1 : RA W v1 x1) (ho1 : ∀ x ∈ x1, Ok x.1 ∧ Wo x.2.1 ∧ W64 x.2.2) (hl1 : x1.length ≤ 2199023255488) (wc2 : Wc c2) (wn2 : W64 n2) (hv2 : RA W v2 x2) (ho2 : ∀ x ∈ x2, Ok x.1 ∧ Wo x.2.1 ∧ W64 x.2.2) (hl2 : x2.length ≤ 2199023255488) :
    Calls Tryz.prog 5 #[.string s, .agg (wcs c1 n1 v1), .agg (wcs c2 n2 v2)] W fun e w' => e = .returned (.bool true) ∧ Touch [] W w' := sums_ hs wc1 wn1 hv1 ho1 hl1 wc2 wn2 hv2 ho2 hl2
end Go.Proofs.YtpefbmheblfbeaaGreatR.Sn
