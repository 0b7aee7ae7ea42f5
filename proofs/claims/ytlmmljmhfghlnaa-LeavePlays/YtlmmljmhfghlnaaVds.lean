/- The contract of the document's Sit; no conditions but those that it states. -/
import Derived.Test.YtlmmljmhfghlnaaVdo
import Derived.Test.YtlmmljmhfghlnaaHlg
namespace Go.Proofs.Ytlmmljmhfghlnaa
open Go.RowKit Go.Maps Go.ChangeMaps
set_option linter.unusedVariables false
set_option linter.unusedSimpArgs false
/-- A slice that can be read, laid behind a row that a call owns: at the operation. -/
theorem wp_append_rs {w : World} {o : Oper} {a : Act} {K : Act → World → Prop} {Q : Exit → Act → World → Prop} (s x : Operand) (st et : TypeId) (ho : o.op = .call { callee := .builtin .append, args := #[s, x], argTypes := #[st, st] })
    (z : Value) (k bytes : Nat) (hinfo : (Try.prog.info? et).map (fun i => (i.zero, i.size, i.bytes)) = some (some z, k, bytes)) (ht : Try.prog.underlying st = some (.slice et)) (hzs : z.cells.size = k) (hk : 0 < k)
    (base : Nat) (v : Value) (n : Nat) (xs : List Value) (hs : a.eval s = v) (hown : w.ownsRow base et k v n xs)
    (u : Value) (m : Nat) (vs : List Value) (hx : a.eval x = u) (hu : Rs et k w u m vs) (h1 : ∀ y ∈ vs, y.oneCell' = true) (h63 : n + m ≤ maxLen) (hbytes : (n + m) * bytes ≤ 140737488355328) (hbase : base ≤ w.heap.size)
    (h : ∀ v' w', w'.ownsRow base et k v' (n + m) (xs ++ vs) → w.grownBy w' v.ownBlock → (v'.ownBlock = v.ownBlock ∨ v'.ownBlock = some w.heap.size) → K (a.put o.dst v') w') : o.wp Try.prog a w K Q := by
  obtain ⟨i3, hf, hz0, hz1, hz2⟩ := info_parts hinfo
  obtain ⟨hl, ad, c, rfl, hc, hn0, hr⟩ := hu
  cases ad with
  | none =>
    have e0 := hn0 rfl
    subst e0
    have em : m = 0 := by omega
    subst em
    have ev : vs = [] := List.length_eq_zero_iff.1 (by omega)
    subst ev
    have hrun := run_append_owned_none (P := Try.prog) (w := w) base st o.type et i3 k ht hf v n xs hown
    unfold Oper.wp
    simp [execOp, ho, resolve, invoke, builtin, hs, hx, hrun, Result.andThen]
    exact h v w (by simpa using hown) (World.grownBy.refl _ _) (Or.inl rfl)
  | some ad =>
    have hnews : ∀ j y, vs[j]? = some y → w.cell? (ad.add j) = some y := fun j y hy => by
      have hm : 0 < m := by
        rcases Nat.eq_zero_or_pos m with e | e
        · subst e
          have : vs = [] := List.length_eq_zero_iff.1 (by omega)
          subst this
          simp at hy
        · exact e
      obtain ⟨g, off, e, cs, zz, h5, h6⟩ := hr hm
      cases e
      rw [show (⟨g, off, none⟩ : Addr).add j = ⟨g, off + j, none⟩ by simp [Addr.add]]
      simp [World.cell?, h5, h6 j y hy]
    obtain ⟨v', w', hrun, q1, q2, q3, q4⟩ := run_append_own_at (P := Try.prog) w base st o.type et i3 z k bytes ht hf hz0 hz1 hz2 hzs hk v n xs hown ad m c vs hl hnews h1 h63 hbytes hbase
    unfold Oper.wp
    simp [execOp, ho, resolve, invoke, builtin, hs, hx, hrun, Result.andThen]
    exact h v' w' q1 q2 q4
/-- In the midst of append(append([]Seat{}, L...), x): the row, and the slice of one. -/
structure SiS (W C : World) (x : Se) (r : Option (Value × List Se)) (e : Option Value) : Prop where
  t : Touch [] W C
  row : ∀ v A, r = some (v, A) → C.ownsRow W.heap.size 38 3 v A.length (A.flatMap sc)
  one : ∀ u, e = some u → Rs 38 3 C u 1 (sc x) ∧ ∃ q, u = .slice (some ⟨q, 0, none⟩) 1 1 ∧ q < C.heap.size
  ap : ∀ v A u q, r = some (v, A) → e = some u → v.ownBlock = some q → u.ownBlock ≠ some q
section
variable {W C w5 : World} {x : Se} {r : Option (Value × List Se)} {e : Option Value}
theorem SiS.new0 (h : SiS W C x none e) : SiS W (C.alloc (.cells #[] 38)) x (some (.slice (some ⟨C.heap.size, 0, none⟩) 0 0, [])) e := by
  have ta : Touch [] C (C.alloc (.cells #[] 38)) := (Touch.refl _ _).alloc _
  refine ⟨h.t.trans' ta, fun v A hr => ?_, fun u he => ?_, fun v A u q hr he hq hu => ?_⟩
  · cases hr
    exact World.ownsRow_made (e := 38) (size := 3) C #[] 0 h.t.size (by unfold maxLen; omega) rfl
  · obtain ⟨h1, q, h2, h3⟩ := h.one u he
    exact ⟨h1.keep0 ta, q, h2, by simp; omega⟩
  · cases hr
    obtain ⟨h1, q', rfl, h3⟩ := h.one u he
    simp only [Value.ownBlock, Option.some.injEq] at hq hu
    omega
theorem SiS.newx (h : SiS W C x r none) : SiS W (C.alloc (.cells #[.int .i64 x.1, .int .i64 x.2.1, .int .i64 x.2.2] 38)) x r (some (.slice (some ⟨C.heap.size, 0, none⟩) 1 1)) := by
  have ta : Touch [] C (C.alloc (.cells #[.int .i64 x.1, .int .i64 x.2.1, .int .i64 x.2.2] 38)) := (Touch.refl _ _).alloc _
  refine ⟨h.t.trans' ta, fun v A hr => own_touch (h.row v A hr) ta (fun _ _ e => by cases e), fun u he => ?_, fun v A u q hr he hq hu => ?_⟩
  · cases he
    exact ⟨Rs.new C #[.int .i64 x.1, .int .i64 x.2.1, .int .i64 x.2.2] 38 3 rfl, C.heap.size, rfl, by simp⟩
  · cases he
    have := ((h.row v A hr).lt q hq).2
    simp only [Value.ownBlock, Option.some.injEq] at hu
    omega
theorem SiS.app {v v5 : Value} {A : List Se} {n : Nat} {xs : List Value} (h : SiS W C x (some (v, A)) e) {A5 : List Se} (o5 : w5.ownsRow W.heap.size 38 3 v5 A5.length (A5.flatMap sc)) (g5 : C.grownBy w5 v.ownBlock) (p5 : v5.ownBlock = v.ownBlock ∨ v5.ownBlock = some C.heap.size) : SiS W w5 x (some (v5, A5)) e := by
  have tg : Touch v.ownBlock.toList C w5 := (Touch.refl _ _).grown g5 (fun q hq => Or.inl (by simp [hq]))
  refine ⟨touch_grown h.t g5 (h.row v A rfl) (Nat.le_refl _), fun v' A' hr => (by cases hr; exact o5), fun u he => ?_, fun v' A' u q hr he hq hu => ?_⟩
  · obtain ⟨h1, q, rfl, h3⟩ := h.one u he
    refine ⟨h1.keep tg (fun g off n c e2 hm => ?_), q, rfl, by have := g5.size; omega⟩
    simp only [Value.slice.injEq, Option.some.injEq, Addr.mk.injEq] at e2
    refine h.ap v A _ q rfl he ?_ rfl
    rw [e2.1.1]
    exact Option.mem_toList.1 hm
  · cases hr
    rcases p5 with p5 | p5
    · exact h.ap v A u q rfl he (p5 ▸ hq) hu
    · rw [p5] at hq
      cases hq
      obtain ⟨h1, q', rfl, h3⟩ := h.one u he
      simp only [Value.ownBlock, Option.some.injEq] at hu
      omega
end
def RsE (e : Ending) (w w' : World) (v : Value) (L : List Se) (G : List Int) (k : Int) : Prop := ∃ a n c, e = .returned (.tuple #[.agg #[.slice a n c, v], .int .i64 k]) ∧ Dd w' (.slice a n c) v L G ∧ Touch [] w w'
theorem Dd.box {w w' : World} {u v : Value} {L : List Se} {G : List Int} {b : Nat} {cs : Array Value} {z : Nat × Nat} (h : Dd w u v L G) (hb : w.heap[b]? = some (.cells cs 29 z)) (T : Touch [b] w w') : Dd w' u v L G := ⟨h.u.box hb (by decide) T, h.v.box hb (by decide) T⟩
theorem sc_one (L : List Se) : ∀ y ∈ L.flatMap sc, y.oneCell' = true := fun y hy => by
  obtain ⟨x, _, hx⟩ := List.mem_flatMap.1 hy
  simp only [sc, List.mem_cons, List.not_mem_nil, or_false] at hx
  rcases hx with rfl | rfl | rfl <;> rfl
set_option maxHeartbeats 8000000 in
set_option maxRecDepth 100000 in
theorem rsit_ (w : World) (u v : Value) (L : List Se) (G : List Int) (h : Dd w u v L G) (x : Se) (hl : L.length ≤ 4500000000000) (hg : G.length ≤ 4500000000000) : Calls Try.prog 26 #[.agg #[u, v], sv x] w fun e w' => RsE e w w' v (sitL L G x) G (sitE L G x) := by
  obtain ⟨a, cu, a', cv, rfl, rfl⟩ := h.fm
  obtain ⟨V, hV⟩ : ∃ V, V = ((w.alloc (.cells #[.slice a L.length cu, .slice a' G.length cv] 29)).alloc (.cells #[.int .i64 x.1, .int .i64 x.2.1, .int .i64 x.2.2] 38)).alloc (.cells #[.slice none 0 0, .slice none 0 0] 29) := ⟨_, rfl⟩
  have tv : Touch [] w V := by rw [hV]; exact (((Touch.refl _ _).alloc _).alloc _).alloc _
  have hb0 : V.heap[w.heap.size]? = some (.cells #[.slice a L.length cu, .slice a' G.length cv] 29 (0, 0)) := by rw [hV]; exact (((Touch.refl [] _).alloc _).alloc _).keep (heap_alloc_new w _) (by simp)
  have hb1 : V.heap[w.heap.size + 1]? = some (.cells #[.int .i64 x.1, .int .i64 x.2.1, .int .i64 x.2.2] 38 (0, 0)) := by
    rw [hV]
    have := heap_alloc_new (w.alloc (.cells #[.slice a L.length cu, .slice a' G.length cv] 29)) (.cells #[.int .i64 x.1, .int .i64 x.2.1, .int .i64 x.2.2] 38)
    rw [World.size_alloc] at this
    exact ((Touch.refl [] _).alloc _).keep this (by simp)
  have hb2 : V.heap[w.heap.size + 2]? = some (.cells #[.slice none 0 0, .slice none 0 0] 29 (0, 0)) := by
    rw [hV]
    have := heap_alloc_new ((w.alloc (.cells #[.slice a L.length cu, .slice a' G.length cv] 29)).alloc (.cells #[.int .i64 x.1, .int .i64 x.2.1, .int .i64 x.2.2] 38)) (.cells #[.slice none 0 0, .slice none 0 0] 29)
    rwa [World.size_alloc, World.size_alloc] at this
  have hd := h.keep0 tv
  have HB : Hid (∀ w', Touch [] V w' → w'.heap[w.heap.size]? = some (.cells #[.slice a L.length cu, .slice a' G.length cv] 29 (0, 0)) ∧ w'.heap[w.heap.size + 1]? = some (.cells #[.int .i64 x.1, .int .i64 x.2.1, .int .i64 x.2.2] 38 (0, 0)) ∧ w'.heap[w.heap.size + 2]? = some (.cells #[.slice none 0 0, .slice none 0 0] 29 (0, 0))) := hid (fun w' t => ⟨t.keep hb0 (by simp), t.keep hb1 (by simp), t.keep hb2 (by simp)⟩)
  have HSame : Hid (∀ k w' w2, Touch [] V w' → Touch [w.heap.size + 2] w' w2 → RsE (.returned (.tuple #[.agg #[.slice a L.length cu, .slice a' G.length cv], .int .i64 k])) w w2 (.slice a' G.length cv) L G k) := hid (fun k w' w2 t t2 => ⟨_, _, _, rfl, (hd.keep0 t).box (HB.out w' t).2.2 t2, (tv.trans' t).trans t2 (fun z hz => Or.inr (by simp at hz; omega))⟩)
  have HC := hid (rcanc_ V _ _ L G hd x.2.2 (by omega))
  have HW : Hid (∀ w', Touch [] V w' → Calls Try.prog 9 #[.agg #[.slice a L.length cu, .slice a' G.length cv], .int .i64 x.1] w' fun e w2 => e = .returned (.tuple #[sv ((whr L x.1).getD (0, 0, 0)), .bool (whr L x.1).isSome]) ∧ Touch [] w' w2) := hid (fun w' t => rwhere_ w' _ _ L G (hd.keep0 t) x.1 (by omega))
  have HD : Hid (∀ w', Touch [] V w' → Dd w' (.slice a L.length cu) (.slice a' G.length cv) L G) := hid (fun w' t => hd.keep0 t)
  have HFIN : Hid (∀ w5 C v6 w7, Touch [] V w5 → SiS w5 C x (some (v6, L ++ [x])) none → (∃ a n c, v6 = .slice a n c) → Touch [w.heap.size] C w7 → ∀ w8, Touch [w.heap.size + 2] w7 w8 → RsE (.returned (.tuple #[.agg #[v6, .slice a' G.length cv], .int .i64 0])) w w8 (.slice a' G.length cv) (L ++ [x]) G 0) := hid (fun w5 C v6 w7 t5 q hf t7 w8 t8 => by
    obtain ⟨a6, n6, c6, rfl⟩ := hf
    have hz := block_lt hb2
    have hz5 := t5.size
    have tC := t5.trans' q.t
    have r6 := q.row _ _ rfl
    have r8 : w8.ownsRow w5.heap.size 38 3 (.slice a6 n6 c6) (L ++ [x]).length ((L ++ [x]).flatMap sc) := own_touch (own_touch r6 t7 (fun b hb e => by have := (r6.lt b hb).1; simp at e; omega)) t8 (fun b hb e => by have := (r6.lt b hb).1; simp at e; omega)
    obtain ⟨a7, c7, e7⟩ := own_form r8
    have dv := ((hd.keep0 tC).v.box (HB.out C tC).1 (by decide) t7)
    have hb2' : w7.heap[w.heap.size + 2]? = some (.cells #[.slice none 0 0, .slice none 0 0] 29 (0, 0)) := t7.keep (HB.out C tC).2.2 (by simp)
    exact ⟨_, _, _, rfl, ⟨Rs.of_own r8, dv.box hb2' (by decide) t8⟩, ((tv.trans' tC).trans t7 (fun z hz => Or.inr (by simp at hz; omega))).trans t8 (fun z hz => Or.inr (by simp at hz; omega))⟩)
  obtain ⟨z0, z1, z2⟩ := HB.out V (Touch.refl _ _)
  have b0 := cell_at (j := 0) z0 rfl
  have b1 := cell_at (j := 1) z0 rfl
  have x0 := cell_at (j := 0) (v := .int .i64 x.1) z1 rfl
  have x1 := cell_at (j := 1) (v := .int .i64 x.2.1) z1 rfl
  have x2 := cell_at (j := 2) (v := .int .i64 x.2.2) z1 rfl
  have y0 := cell_at (j := 0) z2 rfl
  have y1 := cell_at (j := 1) z2 rfl
  have yf := froz_at z2
  have HLE := hid hl
  have HN : Hid (∀ w', Touch [] V w' → w'.cell? ⟨w.heap.size, 0, none⟩ = some (.slice a L.length cu) ∧ w'.cell? ⟨w.heap.size, 1, none⟩ = some (.slice a' G.length cv) ∧ (∀ j, w'.frozen? ⟨w.heap.size, j, none⟩ = false) ∧ w'.cell? ⟨w.heap.size + 1, 0, none⟩ = some (.int .i64 x.1) ∧ w'.cell? ⟨w.heap.size + 1, 1, none⟩ = some (.int .i64 x.2.1) ∧ w'.cell? ⟨w.heap.size + 1, 2, none⟩ = some (.int .i64 x.2.2) ∧ w'.cell? ⟨w.heap.size + 2, 0, none⟩ = some (.slice none 0 0) ∧ w'.cell? ⟨w.heap.size + 2, 1, none⟩ = some (.slice none 0 0) ∧ ∀ j, w'.frozen? ⟨w.heap.size + 2, j, none⟩ = false) := hid (fun w' t => by
    obtain ⟨z0, z1, z2⟩ := HB.out w' t
    exact ⟨cell_at z0 rfl, cell_at z0 rfl, froz_at z0, cell_at z1 rfl, cell_at z1 rfl, cell_at z1 rfl, cell_at z2 rfl, cell_at z2 rfl, froz_at z2⟩)
  clear h hd tv hb0 hb1 hb2 z0 z1 z2 hl hg
  unfold sitL
  cases hm : may x with
  | false =>
    have e0 : sitE L G x = 150 := by unfold sitE; rw [if_pos hm]
    rw [e0, if_neg (by decide)]
    unfold may at hm
    clear HC HW HFIN HB HN HD
    generalize L.length = n at *
    generalize G.length = m at *
    unfold sv
    by_cases g0 : x.1 < 1
    · go_enter Try.func26, Try.ntmps26
      go_upto_region 1 with fail
      rw [← hV]
      clear hV
      go_wp2
      refine bodyPost_ret (v := .tuple #[.agg #[.slice a n cu, .slice a' m cv], .int .i64 150]) (by simp [results, Try.results26, go_sem, y0, y1]) rfl (HSame.out _ _ _ (Touch.refl _ _) ?_)
      exact ((Touch.refl _ _).setCell (Or.inl (by simp)) _).setCell (Or.inl (by simp)) _
    · by_cases g1 : x.2.1 < 1
      · go_enter Try.func26, Try.ntmps26
        go_upto_region 1 with fail
        rw [← hV]
        clear hV
        go_wp2
        refine bodyPost_ret (v := .tuple #[.agg #[.slice a n cu, .slice a' m cv], .int .i64 150]) (by simp [results, Try.results26, go_sem, y0, y1]) rfl (HSame.out _ _ _ (Touch.refl _ _) ?_)
        exact ((Touch.refl _ _).setCell (Or.inl (by simp)) _).setCell (Or.inl (by simp)) _
      · have g2 : x.2.2 < 0 := by
          simp only [Bool.and_eq_false_iff, decide_eq_false_iff_not] at hm
          omega
        clear hm
        go_enter Try.func26, Try.ntmps26
        go_upto_region 1 with fail
        rw [← hV]
        clear hV
        go_wp2
        refine bodyPost_ret (v := .tuple #[.agg #[.slice a n cu, .slice a' m cv], .int .i64 150]) (by simp [results, Try.results26, go_sem, y0, y1]) rfl (HSame.out _ _ _ (Touch.refl _ _) ?_)
        exact ((Touch.refl _ _).setCell (Or.inl (by simp)) _).setCell (Or.inl (by simp)) _
  | true =>
    have hm2 := hm
    unfold may at hm2
    simp only [Bool.and_eq_true, decide_eq_true_eq] at hm2
    have g0 : ¬ x.1 < 1 := by omega
    have g1 : ¬ x.2.1 < 1 := by omega
    have g2 : ¬ x.2.2 < 0 := by omega
    clear hm2
    by_cases hg : x.2.2 ∈ G
    · have e0 : sitE L G x = 152 := by unfold sitE; rw [if_neg (by rw [hm]; decide), if_pos hg]
      rw [e0, if_neg (by decide)]
      rw [decide_eq_true hg] at HC
      clear hm HW e0 hg HFIN HB HD
      generalize L.length = n at *
      generalize G.length = m at *
      unfold sv at *
      go_enter Try.func26, Try.ntmps26
      go_upto_region 1 with fail
      rw [← hV]
      clear hV
      go_wp2_with (go_at_call 15; refine HC.out.mono ?_; rintro e w2 ⟨rfl, t2⟩; clear b0 b1 x0 x1 x2 y0 y1 yf; obtain ⟨b0, b1, bf, x0, x1, x2, y0, y1, yf⟩ := HN.out _ t2; have T2 := hid t2; clear t2)
      refine bodyPost_ret (v := .tuple #[.agg #[.slice a n cu, .slice a' m cv], .int .i64 152]) (by simp [results, Try.results26, go_sem, y0, y1]) rfl (HSame.out _ _ _ T2.out ?_)
      exact ((Touch.refl _ _).setCell (Or.inl (by simp)) _).setCell (Or.inl (by simp)) _
    · rw [decide_eq_false hg] at HC
      cases hw : (whr L x.1).isSome with
      | true =>
        have e0 : sitE L G x = 151 := by unfold sitE; rw [if_neg (by rw [hm]; decide), if_neg hg, if_pos hw]
        rw [e0, if_neg (by decide)]
        rw [hw] at HW
        generalize (whr L x.1).getD (0, 0, 0) = y at *
        clear hm e0 hg hw HFIN HB HD
        generalize L.length = n at *
        generalize G.length = m at *
        unfold sv at *
        go_enter Try.func26, Try.ntmps26
        go_upto_region 1 with fail
        rw [← hV]
        clear hV
        go_upto_region 6 with (first
          | (go_at_call 15; refine HC.out.mono ?_; rintro e w2 ⟨rfl, t2⟩; clear b0 b1 x0 x1 x2 y0 y1 yf; obtain ⟨b0, b1, bf, x0, x1, x2, y0, y1, yf⟩ := HN.out _ t2; have HW2 := hid (HW.out _ t2); have T2 := hid t2; clear t2)
          | (go_at_call 9; refine HW2.out.mono ?_; rintro e w3 ⟨rfl, t3⟩; have T3 := hid (T2.out.trans' t3); clear t3 b0 b1 bf x0 x1 x2 y0 y1 yf))
        obtain ⟨W4, hW4⟩ : ∃ W4, W4 = w3.alloc (.cells #[.int .i64 y.1, .int .i64 y.2.1, .int .i64 y.2.2] 38) := ⟨_, rfl⟩
        have t4 : Touch [] V W4 := by rw [hW4]; exact T3.out.alloc _
        rw [← hW4]
        obtain ⟨b0, b1, bf, x0, x1, x2, y0, y1, yf⟩ := HN.out _ t4
        have T4 := hid t4
        clear hW4 t4 HW HC HW2 T2 T3
        go_wp2
        refine bodyPost_ret (v := .tuple #[.agg #[.slice a n cu, .slice a' m cv], .int .i64 151]) (by simp [results, Try.results26, go_sem, y0, y1]) rfl (HSame.out _ _ _ T4.out ?_)
        exact ((Touch.refl _ _).setCell (Or.inl (by simp)) _).setCell (Or.inl (by simp)) _
      | false =>
        have e0 : sitE L G x = 0 := by unfold sitE; rw [if_neg (by rw [hm]; decide), if_neg hg, if_neg (by rw [hw]; decide)]
        rw [e0, if_pos rfl]
        rw [hw] at HW
        generalize (whr L x.1).getD (0, 0, 0) = y at *
        clear hm e0 hg hw HSame HB
        unfold sv at *
        go_enter Try.func26, Try.ntmps26
        go_upto_region 1 with fail
        rw [← hV]
        clear hV
        go_upto_region 8 with (first
          | (go_at_call 15; refine HC.out.mono ?_; rintro e w2 ⟨rfl, t2⟩; clear b0 b1 x0 x1 x2 y0 y1 yf; obtain ⟨b0, b1, bf, x0, x1, x2, y0, y1, yf⟩ := HN.out _ t2; have HW2 := hid (HW.out _ t2); have T2 := hid t2; clear t2)
          | (go_at_call 9; refine HW2.out.mono ?_; rintro e w3 ⟨rfl, t3⟩; have T3 := hid (T2.out.trans' t3); clear t3 b0 b1 bf x0 x1 x2 y0 y1 yf))
        obtain ⟨W4, hW4⟩ : ∃ W4, W4 = w3.alloc (.cells #[.int .i64 y.1, .int .i64 y.2.1, .int .i64 y.2.2] 38) := ⟨_, rfl⟩
        have t4 : Touch [] V W4 := by rw [hW4]; exact T3.out.alloc _
        rw [← hW4]
        have C0 : ∀ w', Touch [] W4 w' → w'.cell? ⟨w.heap.size, 0, none⟩ = some (.slice a L.length cu) := fun w' t => (HN.out w' (t4.trans' t)).1
        have X0 : ∀ w', Touch [] W4 w' → w'.cell? ⟨w.heap.size + 1, 0, none⟩ = some (.int .i64 x.1) := fun w' t => (HN.out w' (t4.trans' t)).2.2.2.1
        have X1 : ∀ w', Touch [] W4 w' → w'.cell? ⟨w.heap.size + 1, 1, none⟩ = some (.int .i64 x.2.1) := fun w' t => (HN.out w' (t4.trans' t)).2.2.2.2.1
        have X2 : ∀ w', Touch [] W4 w' → w'.cell? ⟨w.heap.size + 1, 2, none⟩ = some (.int .i64 x.2.2) := fun w' t => (HN.out w' (t4.trans' t)).2.2.2.2.2.1
        have HRD : Hid (∀ w', Touch [] W4 w' → Rs 38 3 w' (.slice a L.length cu) L.length (L.flatMap sc)) := hid (fun w' t => (HD.out w' (t4.trans' t)).u)
        have HFN := hid (fun C v6 w7 => HFIN.out W4 C v6 w7 t4)
        have HN4 : Hid (∀ w', Touch [] W4 w' → w'.cell? ⟨w.heap.size, 0, none⟩ = some (.slice a L.length cu) ∧ w'.cell? ⟨w.heap.size, 1, none⟩ = some (.slice a' G.length cv) ∧ (∀ j, w'.frozen? ⟨w.heap.size, j, none⟩ = false) ∧ w'.cell? ⟨w.heap.size + 2, 0, none⟩ = some (.slice none 0 0) ∧ w'.cell? ⟨w.heap.size + 2, 1, none⟩ = some (.slice none 0 0) ∧ ∀ j, w'.frozen? ⟨w.heap.size + 2, j, none⟩ = false) := hid (fun w' t => by
          obtain ⟨q0, q1, q2, _, _, _, q6, q7, q8⟩ := HN.out w' (t4.trans' t)
          exact ⟨q0, q1, q2, q6, q7, q8⟩)
        clear hW4 t4 HW HC HW2 T2 T3 HN HD HFIN
        refine wp_region_L (S := fun w' => Touch [] W4 w') (st := 8) (by kernel_rfl) ?_
        obtain ⟨D0, hD0⟩ : ∃ D0, D0 = W4.drew := ⟨_, rfl⟩
        rw [← hD0]
        have q0 : SiS W4 D0 x none none := ⟨by rw [hD0]; exact (Touch.refl _ _).drew, fun _ _ e => (by cases e), fun _ e => (by cases e), fun _ _ _ _ e => (by cases e)⟩
        have k0 := q0.t
        clear hD0
        refine wpL_take (i := 1) (v := (.pointer (some ⟨w.heap.size, 0, none⟩))) (some 37) rfl rfl (by kernel_rfl) (by kernel_rfl) (by kernel_rfl) (by kernel_rfl) (by kernel_rfl) (by decide) (fun _ _ _ h => h) (Or.inl ⟨by rfl, fun w' hS => (by go_simp)⟩) k0 ?_
        try simp only [Go.Act.put, List.setIfInBounds_toArray, List.set_cons_zero, List.set_cons_succ]
        refine wpL_take (i := 2) (v := (.slice a L.length cu)) (some 38) rfl rfl (by kernel_rfl) (by kernel_rfl) (by kernel_rfl) (by kernel_rfl) (by kernel_rfl) (by decide) (fun _ _ _ h => h) (Or.inl ⟨by rfl, fun w' hS => (by have z0 := C0 _ hS; go_simp)⟩) k0 ?_
        try simp only [Go.Act.put, List.setIfInBounds_toArray, List.set_cons_zero, List.set_cons_succ]
        refine wpL_take (i := 4) (v := (.agg #[.int .i64 x.1, .int .i64 x.2.1, .int .i64 x.2.2])) (some 40) rfl rfl (by kernel_rfl) (by kernel_rfl) (by kernel_rfl) (by kernel_rfl) (by kernel_rfl) (by decide) (fun _ _ _ h => h) (Or.inl ⟨by rfl, fun w' hS => (by have z0 := X0 _ hS; have z1 := X1 _ hS; have z2 := X2 _ hS; go_simp)⟩) k0 ?_
        try simp only [Go.Act.put, List.setIfInBounds_toArray, List.set_cons_zero, List.set_cons_succ]
        refine wpL_ready (rs := [0, 5]) (by kernel_rfl) (by simp) ?_
        refine AllL.cons (o := { dst := some 36, op := Op.buildSlice 27 0 #[], type := 27, pos := _, after := #[], guard := none }) rfl (fun K' hK => ?_) ?_
        · rw [if_pos (by rfl)]
          go_simp
          refine hK.out _ _ (fun _ => (k0.alloc _)) ?_
          clear hK
          try simp only [Go.Act.put, List.setIfInBounds_toArray, List.set_cons_zero, List.set_cons_succ]
          have q1 := q0.new0
          obtain ⟨E1, hE1⟩ : ∃ E, E = D0.alloc (.cells #[] 38) := ⟨_, rfl⟩
          rw [← hE1] at q1 ⊢
          clear hE1
          have k1 := q1.t
          refine wpL_ready (rs := [3, 5]) (by kernel_rfl) (by simp) ?_
          refine AllL.cons (o := { dst := some 39, op := Op.call { callee := Callee.builtin Builtin.append, args := #[Operand.tmp 36, Operand.tmp 38], argTypes := #[27, 27] }, type := 27, pos := _, after := #[{ on := 0, ground := Ground.data }, { on := 2, ground := Ground.data }], guard := none }) rfl (fun K' hK => ?_) ?_
          · rw [if_pos (by rfl)]
            refine wp_append_rs _ _ 27 38 rfl _ 3 24 infoRS Try.underlying27 rfl (by decide) W4.heap.size (.slice (some ⟨D0.heap.size, 0, none⟩) 0 0) 0 [] rfl (q1.row _ _ rfl) (.slice a L.length cu) L.length (L.flatMap sc) rfl (HRD.out _ k1) (sc_one L) (by have := HLE.out; unfold maxLen; omega) (by have := HLE.out; omega) k1.size ?_
            intro v2 w2 o2 g2 p2
            rw [Nat.zero_add, List.nil_append] at o2
            obtain ⟨a2, c2, e2⟩ := own_form o2
            subst e2
            have q2 := q1.app (n := 0) (xs := []) (A5 := L) o2 g2 p2
            have k2 := q2.t
            clear o2 g2 p2
            refine hK.out _ _ (fun _ => k2) ?_
            clear hK
            try simp only [Go.Act.put, List.setIfInBounds_toArray, List.set_cons_zero, List.set_cons_succ]
            refine wpL_ready (rs := [5]) (by kernel_rfl) (by simp) (AllL.cons (o := { dst := some 41, op := Op.buildSlice 27 1 #[(0, Operand.tmp 40)], type := 27, pos := _, after := #[{ on := 4, ground := Ground.data }], guard := none }) rfl (fun K' hK => ?_) AllL.nil)
            rw [if_pos (by rfl)]
            go_simp
            refine hK.out _ _ (fun _ => (k2.alloc _)) ?_
            clear hK
            try simp only [Go.Act.put, List.setIfInBounds_toArray, List.set_cons_zero, List.set_cons_succ]
            have q3 := q2.newx
            obtain ⟨E3, hE3⟩ : ∃ E, E = w2.alloc (.cells #[.int .i64 x.1, .int .i64 x.2.1, .int .i64 x.2.2] 38) := ⟨_, rfl⟩
            rw [← hE3] at q3 ⊢
            clear hE3
            have k3 := q3.t
            refine wpL_ready (rs := [6]) (by kernel_rfl) (by simp) (AllL.cons (o := { dst := some 42, op := Op.call { callee := Callee.builtin Builtin.append, args := #[Operand.tmp 39, Operand.tmp 41], argTypes := #[27, 27] }, type := 27, pos := _, after := #[{ on := 3, ground := Ground.data }, { on := 5, ground := Ground.data }, { on := 3, ground := Ground.chain }], guard := none }) rfl (fun K' hK => ?_) AllL.nil)
            rw [if_pos (by rfl)]
            refine wp_append_rs _ _ 27 38 rfl _ 3 24 infoRS Try.underlying27 rfl (by decide) W4.heap.size (.slice a2 L.length c2) L.length (L.flatMap sc) rfl (q3.row _ _ rfl) (.slice (some ⟨w2.heap.size, 0, none⟩) 1 1) 1 (sc x) rfl (q3.one _ rfl).1 (by simp [sc, Value.oneCell']) (by have := HLE.out; unfold maxLen; omega) (by have := HLE.out; omega) k3.size ?_
            intro v4 w4 o4 g4 p4
            obtain ⟨a4, c4, e4⟩ := own_form o4
            subst e4
            have q4 := q3.app (n := 0) (xs := []) (A5 := L ++ [x]) (by simpa using o4) g4 p4
            have k4 := q4.t
            clear o4 g4 p4
            refine hK.out _ _ (fun _ => k4) ?_
            clear hK
            try simp only [Go.Act.put, List.setIfInBounds_toArray, List.set_cons_zero, List.set_cons_succ]
            refine wpL_take (i := 7) (v := (.pointer (some ⟨w.heap.size, 0, none⟩))) (some 43) rfl rfl (by kernel_rfl) (by kernel_rfl) (by kernel_rfl) (by kernel_rfl) (by kernel_rfl) (by decide) (fun _ _ _ h => h) (Or.inl ⟨by rfl, fun w' hS => (by go_simp)⟩) k4 ?_
            try simp only [Go.Act.put, List.setIfInBounds_toArray, List.set_cons_zero, List.set_cons_succ]
            refine wpL_ready (rs := [8]) (by kernel_rfl) (by simp) (AllL.cons (o := { dst := none, op := Op.store 27 (Operand.tmp 43) (Operand.tmp 42), type := 0, pos := _, after := #[{ on := 7, ground := Ground.data }, { on := 6, ground := Ground.data }, { on := 6, ground := Ground.chain }, { on := 0, ground := Ground.phase }, { on := 1, ground := Ground.phase }, { on := 2, ground := Ground.phase }, { on := 3, ground := Ground.phase }, { on := 4, ground := Ground.phase }, { on := 5, ground := Ground.phase }, { on := 6, ground := Ground.phase }], guard := none }) rfl (fun K' hK => ?_) AllL.nil)
            rw [if_pos (by rfl)]
            obtain ⟨b0, b1, bf, y0, y1, yf⟩ := HN4.out _ k4
            have HQ := hid (HFN.out w4 _ _ ⟨q4.t, q4.row, fun _ e => (by cases e), fun _ _ _ _ _ e => (by cases e)⟩ ⟨_, _, _, rfl⟩ ((Touch.refl _ w4).setCell (p := ⟨w.heap.size, 0, none⟩) (Or.inl (by simp)) (.slice a4 (L.length + 1) c4)))
            clear C0 X0 X1 X2 HRD HFN HN4
            go_simp
            refine hK.out _ _ (fun h => absurd h (by decide)) ?_
            clear hK
            try simp only [Go.Act.put, List.setIfInBounds_toArray, List.set_cons_zero, List.set_cons_succ]
            refine wpL_done (by kernel_rfl) ?_ _
            go_wp2
            refine bodyPost_ret (v := .tuple #[.agg #[.slice a4 (L.length + 1) c4, .slice a' G.length cv], .int .i64 0]) (by simp [results, Try.results26, go_sem, b0, b1, y0, y1]) rfl (HQ.out _ ?_)
            exact ((Touch.refl _ _).setCell (Or.inl (by simp)) _).setCell (Or.inl (by simp)) _
          refine AllL.cons (o := { dst := some 41, op := Op.buildSlice 27 1 #[(0, Operand.tmp 40)], type := 27, pos := _, after := #[{ on := 4, ground := Ground.data }], guard := none }) rfl (fun K' hK => ?_) ?_
          · rw [if_pos (by rfl)]
            go_simp
            refine hK.out _ _ (fun _ => (k1.alloc _)) ?_
            clear hK
            try simp only [Go.Act.put, List.setIfInBounds_toArray, List.set_cons_zero, List.set_cons_succ]
            have q6 := q1.newx
            obtain ⟨E6, hE6⟩ : ∃ E, E = E1.alloc (.cells #[.int .i64 x.1, .int .i64 x.2.1, .int .i64 x.2.2] 38) := ⟨_, rfl⟩
            rw [← hE6] at q6 ⊢
            clear hE6
            have k6 := q6.t
            refine wpL_ready (rs := [3]) (by kernel_rfl) (by simp) (AllL.cons (o := { dst := some 39, op := Op.call { callee := Callee.builtin Builtin.append, args := #[Operand.tmp 36, Operand.tmp 38], argTypes := #[27, 27] }, type := 27, pos := _, after := #[{ on := 0, ground := Ground.data }, { on := 2, ground := Ground.data }], guard := none }) rfl (fun K' hK => ?_) AllL.nil)
            rw [if_pos (by rfl)]
            refine wp_append_rs _ _ 27 38 rfl _ 3 24 infoRS Try.underlying27 rfl (by decide) W4.heap.size (.slice (some ⟨D0.heap.size, 0, none⟩) 0 0) 0 [] rfl (q6.row _ _ rfl) (.slice a L.length cu) L.length (L.flatMap sc) rfl (HRD.out _ k6) (sc_one L) (by have := HLE.out; unfold maxLen; omega) (by have := HLE.out; omega) k6.size ?_
            intro v7 w7 o7 g7 p7
            rw [Nat.zero_add, List.nil_append] at o7
            obtain ⟨a7, c7, e7⟩ := own_form o7
            subst e7
            have q7 := q6.app (n := 0) (xs := []) (A5 := L) o7 g7 p7
            have k7 := q7.t
            clear o7 g7 p7
            refine hK.out _ _ (fun _ => k7) ?_
            clear hK
            try simp only [Go.Act.put, List.setIfInBounds_toArray, List.set_cons_zero, List.set_cons_succ]
            refine wpL_ready (rs := [6]) (by kernel_rfl) (by simp) (AllL.cons (o := { dst := some 42, op := Op.call { callee := Callee.builtin Builtin.append, args := #[Operand.tmp 39, Operand.tmp 41], argTypes := #[27, 27] }, type := 27, pos := _, after := #[{ on := 3, ground := Ground.data }, { on := 5, ground := Ground.data }, { on := 3, ground := Ground.chain }], guard := none }) rfl (fun K' hK => ?_) AllL.nil)
            rw [if_pos (by rfl)]
            refine wp_append_rs _ _ 27 38 rfl _ 3 24 infoRS Try.underlying27 rfl (by decide) W4.heap.size (.slice a7 L.length c7) L.length (L.flatMap sc) rfl (q7.row _ _ rfl) (.slice (some ⟨E1.heap.size, 0, none⟩) 1 1) 1 (sc x) rfl (q7.one _ rfl).1 (by simp [sc, Value.oneCell']) (by have := HLE.out; unfold maxLen; omega) (by have := HLE.out; omega) k7.size ?_
            intro v8 w8 o8 g8 p8
            obtain ⟨a8, c8, e8⟩ := own_form o8
            subst e8
            have q8 := q7.app (n := 0) (xs := []) (A5 := L ++ [x]) (by simpa using o8) g8 p8
            have k8 := q8.t
            clear o8 g8 p8
            refine hK.out _ _ (fun _ => k8) ?_
            clear hK
            try simp only [Go.Act.put, List.setIfInBounds_toArray, List.set_cons_zero, List.set_cons_succ]
            refine wpL_take (i := 7) (v := (.pointer (some ⟨w.heap.size, 0, none⟩))) (some 43) rfl rfl (by kernel_rfl) (by kernel_rfl) (by kernel_rfl) (by kernel_rfl) (by kernel_rfl) (by decide) (fun _ _ _ h => h) (Or.inl ⟨by rfl, fun w' hS => (by go_simp)⟩) k8 ?_
            try simp only [Go.Act.put, List.setIfInBounds_toArray, List.set_cons_zero, List.set_cons_succ]
            refine wpL_ready (rs := [8]) (by kernel_rfl) (by simp) (AllL.cons (o := { dst := none, op := Op.store 27 (Operand.tmp 43) (Operand.tmp 42), type := 0, pos := _, after := #[{ on := 7, ground := Ground.data }, { on := 6, ground := Ground.data }, { on := 6, ground := Ground.chain }, { on := 0, ground := Ground.phase }, { on := 1, ground := Ground.phase }, { on := 2, ground := Ground.phase }, { on := 3, ground := Ground.phase }, { on := 4, ground := Ground.phase }, { on := 5, ground := Ground.phase }, { on := 6, ground := Ground.phase }], guard := none }) rfl (fun K' hK => ?_) AllL.nil)
            rw [if_pos (by rfl)]
            obtain ⟨b0, b1, bf, y0, y1, yf⟩ := HN4.out _ k8
            have HQ := hid (HFN.out w8 _ _ ⟨q8.t, q8.row, fun _ e => (by cases e), fun _ _ _ _ _ e => (by cases e)⟩ ⟨_, _, _, rfl⟩ ((Touch.refl _ w8).setCell (p := ⟨w.heap.size, 0, none⟩) (Or.inl (by simp)) (.slice a8 (L.length + 1) c8)))
            clear C0 X0 X1 X2 HRD HFN HN4
            go_simp
            refine hK.out _ _ (fun h => absurd h (by decide)) ?_
            clear hK
            try simp only [Go.Act.put, List.setIfInBounds_toArray, List.set_cons_zero, List.set_cons_succ]
            refine wpL_done (by kernel_rfl) ?_ _
            go_wp2
            refine bodyPost_ret (v := .tuple #[.agg #[.slice a8 (L.length + 1) c8, .slice a' G.length cv], .int .i64 0]) (by simp [results, Try.results26, go_sem, b0, b1, y0, y1]) rfl (HQ.out _ ?_)
            exact ((Touch.refl _ _).setCell (Or.inl (by simp)) _).setCell (Or.inl (by simp)) _
          exact AllL.nil
        refine AllL.cons (o := { dst := some 41, op := Op.buildSlice 27 1 #[(0, Operand.tmp 40)], type := 27, pos := _, after := #[{ on := 4, ground := Ground.data }], guard := none }) rfl (fun K' hK => ?_) ?_
        · rw [if_pos (by rfl)]
          go_simp
          refine hK.out _ _ (fun _ => (k0.alloc _)) ?_
          clear hK
          try simp only [Go.Act.put, List.setIfInBounds_toArray, List.set_cons_zero, List.set_cons_succ]
          have q10 := q0.newx
          obtain ⟨E10, hE10⟩ : ∃ E, E = D0.alloc (.cells #[.int .i64 x.1, .int .i64 x.2.1, .int .i64 x.2.2] 38) := ⟨_, rfl⟩
          rw [← hE10] at q10 ⊢
          clear hE10
          have k10 := q10.t
          refine wpL_ready (rs := [0]) (by kernel_rfl) (by simp) (AllL.cons (o := { dst := some 36, op := Op.buildSlice 27 0 #[], type := 27, pos := _, after := #[], guard := none }) rfl (fun K' hK => ?_) AllL.nil)
          rw [if_pos (by rfl)]
          go_simp
          refine hK.out _ _ (fun _ => (k10.alloc _)) ?_
          clear hK
          try simp only [Go.Act.put, List.setIfInBounds_toArray, List.set_cons_zero, List.set_cons_succ]
          have q11 := q10.new0
          obtain ⟨E11, hE11⟩ : ∃ E, E = E10.alloc (.cells #[] 38) := ⟨_, rfl⟩
          rw [← hE11] at q11 ⊢
          clear hE11
          have k11 := q11.t
          refine wpL_ready (rs := [3]) (by kernel_rfl) (by simp) (AllL.cons (o := { dst := some 39, op := Op.call { callee := Callee.builtin Builtin.append, args := #[Operand.tmp 36, Operand.tmp 38], argTypes := #[27, 27] }, type := 27, pos := _, after := #[{ on := 0, ground := Ground.data }, { on := 2, ground := Ground.data }], guard := none }) rfl (fun K' hK => ?_) AllL.nil)
          rw [if_pos (by rfl)]
          refine wp_append_rs _ _ 27 38 rfl _ 3 24 infoRS Try.underlying27 rfl (by decide) W4.heap.size (.slice (some ⟨E10.heap.size, 0, none⟩) 0 0) 0 [] rfl (q11.row _ _ rfl) (.slice a L.length cu) L.length (L.flatMap sc) rfl (HRD.out _ k11) (sc_one L) (by have := HLE.out; unfold maxLen; omega) (by have := HLE.out; omega) k11.size ?_
          intro v12 w12 o12 g12 p12
          rw [Nat.zero_add, List.nil_append] at o12
          obtain ⟨a12, c12, e12⟩ := own_form o12
          subst e12
          have q12 := q11.app (n := 0) (xs := []) (A5 := L) o12 g12 p12
          have k12 := q12.t
          clear o12 g12 p12
          refine hK.out _ _ (fun _ => k12) ?_
          clear hK
          try simp only [Go.Act.put, List.setIfInBounds_toArray, List.set_cons_zero, List.set_cons_succ]
          refine wpL_ready (rs := [6]) (by kernel_rfl) (by simp) (AllL.cons (o := { dst := some 42, op := Op.call { callee := Callee.builtin Builtin.append, args := #[Operand.tmp 39, Operand.tmp 41], argTypes := #[27, 27] }, type := 27, pos := _, after := #[{ on := 3, ground := Ground.data }, { on := 5, ground := Ground.data }, { on := 3, ground := Ground.chain }], guard := none }) rfl (fun K' hK => ?_) AllL.nil)
          rw [if_pos (by rfl)]
          refine wp_append_rs _ _ 27 38 rfl _ 3 24 infoRS Try.underlying27 rfl (by decide) W4.heap.size (.slice a12 L.length c12) L.length (L.flatMap sc) rfl (q12.row _ _ rfl) (.slice (some ⟨D0.heap.size, 0, none⟩) 1 1) 1 (sc x) rfl (q12.one _ rfl).1 (by simp [sc, Value.oneCell']) (by have := HLE.out; unfold maxLen; omega) (by have := HLE.out; omega) k12.size ?_
          intro v13 w13 o13 g13 p13
          obtain ⟨a13, c13, e13⟩ := own_form o13
          subst e13
          have q13 := q12.app (n := 0) (xs := []) (A5 := L ++ [x]) (by simpa using o13) g13 p13
          have k13 := q13.t
          clear o13 g13 p13
          refine hK.out _ _ (fun _ => k13) ?_
          clear hK
          try simp only [Go.Act.put, List.setIfInBounds_toArray, List.set_cons_zero, List.set_cons_succ]
          refine wpL_take (i := 7) (v := (.pointer (some ⟨w.heap.size, 0, none⟩))) (some 43) rfl rfl (by kernel_rfl) (by kernel_rfl) (by kernel_rfl) (by kernel_rfl) (by kernel_rfl) (by decide) (fun _ _ _ h => h) (Or.inl ⟨by rfl, fun w' hS => (by go_simp)⟩) k13 ?_
          try simp only [Go.Act.put, List.setIfInBounds_toArray, List.set_cons_zero, List.set_cons_succ]
          refine wpL_ready (rs := [8]) (by kernel_rfl) (by simp) (AllL.cons (o := { dst := none, op := Op.store 27 (Operand.tmp 43) (Operand.tmp 42), type := 0, pos := _, after := #[{ on := 7, ground := Ground.data }, { on := 6, ground := Ground.data }, { on := 6, ground := Ground.chain }, { on := 0, ground := Ground.phase }, { on := 1, ground := Ground.phase }, { on := 2, ground := Ground.phase }, { on := 3, ground := Ground.phase }, { on := 4, ground := Ground.phase }, { on := 5, ground := Ground.phase }, { on := 6, ground := Ground.phase }], guard := none }) rfl (fun K' hK => ?_) AllL.nil)
          rw [if_pos (by rfl)]
          obtain ⟨b0, b1, bf, y0, y1, yf⟩ := HN4.out _ k13
          have HQ := hid (HFN.out w13 _ _ ⟨q13.t, q13.row, fun _ e => (by cases e), fun _ _ _ _ _ e => (by cases e)⟩ ⟨_, _, _, rfl⟩ ((Touch.refl _ w13).setCell (p := ⟨w.heap.size, 0, none⟩) (Or.inl (by simp)) (.slice a13 (L.length + 1) c13)))
          clear C0 X0 X1 X2 HRD HFN HN4
          go_simp
          refine hK.out _ _ (fun h => absurd h (by decide)) ?_
          clear hK
          try simp only [Go.Act.put, List.setIfInBounds_toArray, List.set_cons_zero, List.set_cons_succ]
          refine wpL_done (by kernel_rfl) ?_ _
          go_wp2
          refine bodyPost_ret (v := .tuple #[.agg #[.slice a13 (L.length + 1) c13, .slice a' G.length cv], .int .i64 0]) (by simp [results, Try.results26, go_sem, b0, b1, y0, y1]) rfl (HQ.out _ ?_)
          exact ((Touch.refl _ _).setCell (Or.inl (by simp)) _).setCell (Or.inl (by simp)) _
        exact AllL.nil
end Go.Proofs.Ytlmmljmhfghlnaa
