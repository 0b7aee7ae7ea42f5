/- The contract of the document's Leave. -/
import Derived.Test.YtmbjjkdocmcpdaaRco
namespace Go.Proofs.Ytmbjjkdocmcpdaa
open Go.RowKit Go.Maps Go.ChangeMaps
set_option linter.unusedVariables false
theorem step_append_own {P : Program} (w : World) {ops : Array Oper} {o : Oper} {a : Go.Act} {K : Go.Act → World → Prop} {Q : Exit → Go.Act → World → Prop} {E : Prop} (hgd : o.guard = none) (s x : Operand) (t : TypeId)
    (ho : o.op = .call { callee := .builtin .append, args := #[s, x], argTypes := #[t, t] })
    (base : Nat) (e : TypeId) (i : TypeInfo) (z : Value) (size bytes : Nat) (ht : P.underlying t = some (.slice e)) (hi : P.info? e = some i) (hz : i.zero = some z)
    (hsize : i.size = size) (hby : i.bytes = bytes) (hzs : z.cells.size = size) (hsz : 0 < size)
    (v : Value) (n : Nat) (xs : List Value) (hs : a.eval s = v) (hown : w.ownsRow base e size v n xs)
    (ad : Addr) (m c : Nat) (news : List Value) (hx : a.eval x = .slice (some ad) m c) (hl : news.length = m * size) (hnews : ∀ j u, news[j]? = some u → w.cell? (ad.add j) = some u) (h1 : ∀ u ∈ news, u.oneCell' = true)
    (h63 : n + m ≤ maxLen) (hbytes : (n + m) * bytes ≤ 140737488355328) (hbase : base ≤ w.heap.size)
    (h : ∀ v' w', w'.ownsRow base e size v' (n + m) (xs ++ news) → w.grownBy w' v.ownBlock → (v' = .slice none 0 0 ↔ v = .slice none 0 0 ∧ m = 0) → K (a.put o.dst v') w') :
    if Region.wanted o (yielded ops a.tmps) = true then Oper.wp P o a w K Q else E := by
  have hw : Region.wanted o (yielded ops a.tmps) = true := by simp [Region.wanted, hgd]
  rw [if_pos hw]
  exact wp_append_own w s x t ho base e i z size bytes ht hi hz hsize hby hzs hsz v n xs hs hown ad m c news hx hl hnews h1 h63 hbytes hbase h
section
variable {w : World} {c : Array Value} {op : Nat → Bool} {ps : List (Int × Int)} {A B : Value}
set_option maxHeartbeats 4000000 in
set_option maxRecDepth 100000 in
theorem leave27_no (h : Ds w c op ps A B) (x : Int) (hl : ps.length ≤ 4398046511104) (hp : posI (ps.map (·.1)) x = -1) : Calls Try.prog 27 #[.agg c, .int .i64 x] w fun e w' => RcE e w w' op ps (.int .i64 0) (.bool false) := by
  have z29 := zero29
  have d0 := dc_size (fun _ => false) (.slice none 0 0) (.slice none 0 0)
  generalize dc (fun _ => false) (.slice none 0 0) (.slice none 0 0) = d at *
  obtain ⟨W1, hW1⟩ : ∃ W1, W1 = (w.alloc (.cells c 29)).alloc (.cells d 29) := ⟨_, rfl⟩
  have bx := Bx.start w c d
  rw [← hW1] at bx
  have HD := hid h.dg
  have HE : Hid (∀ W', Bx w W' w.heap.size (w.heap.size + 1) c c → RcE (.returned (.tuple #[.agg c, .int .i64 0, .bool false])) w W' op ps (.int .i64 0) (.bool false)) := fun W' b => ⟨c, A, B, rfl, h.keep0 b.tc, b.tc⟩
  have HH := hid (where28 (h.keep0 bx.tc) x hl)
  rw [hp] at HH
  have HDs := hid d0
  have HB := hid bx
  have HW := hid hW1
  clear h d0 bx hW1 hp
  go_enter Try.func27, Try.ntmps27
  go_upto_region 1 with fail
  rw [← HW.out]
  clear HW
  generalize w.heap.size = b1 at *
  generalize b1 + 1 = b2 at *
  go_wp2_with (first
    | (refine wpList_load29 rfl _ rfl b1 c 29 (0, 0) rfl HB.out.h1 HD.out.size ?_)
    | (go_at_call 28; refine HH.out.mono ?_; rintro e w4 ⟨rfl, t4⟩; have B4 := hid (HB.out.keep t4); clear t4)
    | (refine wpList_load29 rfl _ rfl b1 c 29 (0, 0) rfl B4.out.h1 HD.out.size ?_)
    | (refine wpList_store29 rfl _ _ rfl b2 d c 29 rfl rfl B4.out.h2 HDs.out HD.out ?_; intro w3 h3 t3 s3; have B3 := hid (B4.out.fill h3 t3); clear h3 t3 s3)
    | fail)
  exact bodyPost_ret (v := .tuple #[.agg c, .int .i64 0, .bool false]) (by rw [results_cell3 Try.results27 _ _ rfl B3.out.h2 HD.out.size]; rfl) rfl (HE.out _ B3.out)
/-- A row without one place. -/
theorem cut_news {V : World} {ba n ca i : Nat} {xs : List Int} (h : Rd V (.slice (some ⟨ba, 0, none⟩) n ca) xs) (hi : i < xs.length) {X : World} (T : Touch [] V X) :
    (∀ j u, (ints (xs.take i))[j]? = some u → X.cell? ((⟨ba, 0, none⟩ : Addr).add j) = some u) ∧ ∀ ad, (if ca = i + 1 then some (⟨ba, 0, none⟩ : Addr) else some ⟨ba, i + 1, none⟩) = some ad → ∀ j u, (ints (xs.drop (i + 1)))[j]? = some u → X.cell? (ad.add j) = some u := by
  have hX := h.keep0 T
  have hca : xs.length ≤ ca := by
    obtain ⟨a, c, e, h1, _⟩ := h
    simp only [Value.slice.injEq] at e
    omega
  refine ⟨fun j u hu => ?_, fun ad had j u hu => ?_⟩
  · have hj := (List.getElem?_eq_some_iff.1 hu).1
    simp only [ints_len, List.length_take] at hj
    obtain ⟨b, e, hc⟩ := hX.cell (i := j) (by omega)
    cases e
    have e2 : (⟨ba, 0, none⟩ : Addr).add j = ⟨ba, j, none⟩ := by unfold Addr.add; split <;> simp_all
    rw [e2, hc, ← hu]
    simp [ints, show j < i by omega, show j < xs.length by omega]
  · have hj := (List.getElem?_eq_some_iff.1 hu).1
    simp only [ints_len, List.length_drop] at hj
    rw [if_neg (by omega)] at had
    cases had
    obtain ⟨b, e, hc⟩ := hX.cell (i := i + 1 + j) (by omega)
    cases e
    have e2 : (⟨ba, i + 1, none⟩ : Addr).add j = ⟨ba, i + 1 + j, none⟩ := by unfold Addr.add; split <;> simp_all
    rw [e2, hc, ← hu]
    simp [ints, show i + 1 + j < xs.length by omega]
/-- The first of the two appends, in whatever world it comes up. -/
structure Cu (V X : World) (b1 off : Nat) (A : Value) (xs : List Int) (i i1 : Nat) (ba : Nat) (ad : Addr) : Prop where
  made : X.ownsRow V.heap.size 3 1 (.slice (some ⟨V.heap.size, 0, none⟩) 0 0) 0 []
  cells : ∀ j u, (ints (xs.take i))[j]? = some u → X.cell? ((⟨ba, 0, none⟩ : Addr).add j) = some u
  size : V.heap.size ≤ X.heap.size
  next : ∀ v1 w1, w1.ownsRow V.heap.size 3 1 v1 (0 + i) ([] ++ ints (xs.take i)) → X.grownBy w1 (Value.slice (some ⟨V.heap.size, 0, none⟩) 0 0).ownBlock → (v1 = .slice none 0 0 ↔ Value.slice (some ⟨V.heap.size, 0, none⟩) 0 0 = .slice none 0 0 ∧ i = 0) → ∃ g1 c1, v1 = .slice (some ⟨g1, 0, none⟩) i c1 ∧ (w1.ownsRow V.heap.size 3 1 (.slice (some ⟨g1, 0, none⟩) i c1) i (ints (xs.take i)) ∧ Touch [] V w1 ∧ ∀ j u, (ints (xs.drop i1))[j]? = some u → w1.cell? (ad.add j) = some u) ∧ w1.cell? ⟨b1, off, none⟩ = some A
/-- Behind the second of them. -/
theorem cu_end {V w1 w2 : World} {g1 c1 i i1 N : Nat} {v2 : Value} {xs : List Int} (o1 : w1.ownsRow V.heap.size 3 1 (.slice (some ⟨g1, 0, none⟩) i c1) i (ints (xs.take i))) (t1 : Touch [] V w1) (hN : xs.length = N) (hi : i < N) (hi1 : i1 = i + 1)
    (hr : w2.ownsRow V.heap.size 3 1 v2 (i + (N - i1)) (ints (xs.take i) ++ ints (xs.drop i1))) (hg : w1.grownBy w2 (Value.slice (some ⟨g1, 0, none⟩) i c1).ownBlock) (hn : v2 = .slice none 0 0 ↔ Value.slice (some ⟨g1, 0, none⟩) i c1 = .slice none 0 0 ∧ N - i1 = 0) :
    ∃ g2 c2, v2 = .slice (some ⟨g2, 0, none⟩) (i + (N - i1)) c2 ∧ Rd w2 (.slice (some ⟨g2, 0, none⟩) (i + (N - i1)) c2) (xs.eraseIdx i) ∧ Touch [] V w2 ∧ V.heap.size ≤ g2 := by
  have hr' := hr
  rcases hr.2 with ⟨e, _⟩ | ⟨g2, c2, cur, rfl, hb, _⟩
  · have := (hn.1 e).1
    cases this
  · have T : Touch (Value.slice (some ⟨g1, 0, none⟩) i c1).ownBlock.toList w1 w2 := (Touch.refl _ _).grown hg (fun k hk => Or.inl (by rw [hk]; simp))
    refine ⟨g2, c2, rfl, ?_, t1.trans T (fun k hk => Or.inr (o1.lt k (by simpa using hk)).1), hb⟩
    subst hi1
    have e1 : ints (xs.take i) ++ ints (xs.drop (i + 1)) = ints (xs.eraseIdx i) := by rw [← ints_app, List.eraseIdx_eq_take_drop_succ]
    have e2 : (xs.eraseIdx i).length = i + (N - (i + 1)) := by rw [List.length_eraseIdx_of_lt (by omega)]; omega
    rw [e1] at hr'
    rw [← e2] at hr' ⊢
    exact Rd.of_own hr'
/-- Behind a region that lays a new row into the box. -/
def CtE (w wx : World) (b1 b2 : Nat) (c d : Array Value) (off : Nat) (xs : List Int) : Prop := ∃ v, Bx w wx b1 b2 (c.setIfInBounds off v) d ∧ Rd wx v xs ∧ (∀ b, v.ownBlock = some b → b ≠ b1 ∧ b ≠ b2) ∧ v.oneCell' = true
theorem ct_mk {w V w2 : World} {b1 b2 g2 m c2 off : Nat} {c d : Array Value} {xs : List Int} (hB : Bx w V b1 b2 c d) (r : Rd w2 (.slice (some ⟨g2, 0, none⟩) m c2) xs) (T : Touch [] V w2) (hz : V.heap.size ≤ g2) : CtE w (w2.setCell ⟨b1, off, none⟩ (.slice (some ⟨g2, 0, none⟩) m c2)) b1 b2 c d off xs := by
  have hl := hB.lt
  refine ⟨_, (hB.keep T).set off _, r.keep (F := [b1]) ((Touch.refl _ _).setCell (by simp) _) (fun b hb e => ?_), fun b hb => ?_, rfl⟩
  · simp only [Value.ownBlock, Option.some.injEq, List.mem_singleton] at hb e
    omega
  · simp only [Value.ownBlock, Option.some.injEq] at hb
    omega
theorem map_erase {α β : Type} (f : α → β) (l : List α) (i : Nat) : (l.eraseIdx i).map f = (l.map f).eraseIdx i := by
  rw [List.eraseIdx_eq_take_drop_succ, List.eraseIdx_eq_take_drop_succ, List.map_append, List.map_take, List.map_drop]
theorem ints_one {l : List Int} : ∀ u ∈ ints l, u.oneCell' = true := fun u hu => by
  simp only [ints, List.mem_map] at hu
  obtain ⟨y, _, rfl⟩ := hu
  rfl
set_option maxHeartbeats 8000000 in
set_option maxRecDepth 100000 in
theorem leave27_yes (h : Ds w c op ps A B) (x : Int) (hl : ps.length ≤ 4398046511104) {i : Nat} (hi : i < ps.length) (hp : posI (ps.map (·.1)) x = (i : Int)) : Calls Try.prog 27 #[.agg c, .int .i64 x] w fun e w' => RcE e w w' op (ps.eraseIdx i) (.int .i64 ps[i].2) (.bool true) := by
  obtain ⟨i3, hi3, hz0, hz1, hz2⟩ := info_parts info3
  have z29 := zero29
  have d0 := dc_size (fun _ => false) (.slice none 0 0) (.slice none 0 0)
  generalize dc (fun _ => false) (.slice none 0 0) (.slice none 0 0) = d at *
  obtain ⟨W1, hW1⟩ : ∃ W1, W1 = (w.alloc (.cells c 29)).alloc (.cells d 29) := ⟨_, rfl⟩
  have bx := Bx.start w c d
  rw [← hW1] at bx
  have HD := hid h.dg
  have HH := hid (where28 (h.keep0 bx.tc) x hl)
  rw [hp] at HH
  have hlA : (ps.map (·.1)).length = ps.length := by simp
  have hlB : (ps.map (·.2)).length = ps.length := by simp
  have hyi : (ps.map (·.2))[i]? = some ps[i].2 := by simp [hi]
  obtain ⟨a0, ca, eA, hca1, hca2⟩ := h.who.form
  obtain ⟨b0, cb, eB, hcb1, hcb2⟩ := h.at_.form
  have hwA := h.who
  have hwB := h.at_
  rw [eA] at hwA
  rw [eB] at hwB
  obtain ⟨ba, e1, hxA⟩ := hwA.cell (i := i) (by omega)
  obtain ⟨bb, e2, hxB⟩ := hwB.cell (i := i) (by omega)
  clear hxA hxB
  subst e1 e2
  have HA : Hid (c[256]? = some (.slice (some ⟨ba, 0, none⟩) ps.length ca) ∧ c[257]? = some (.slice (some ⟨bb, 0, none⟩) ps.length cb)) := ⟨by rw [← hlA, ← eA]; exact h.cells.1, by rw [← hlB, ← eB]; exact h.cells.2.1⟩
  rw [hlA] at hwA
  rw [hlB] at hwB
  have HR : Hid (∀ W, Touch [] w W → Rd W (.slice (some ⟨ba, 0, none⟩) ps.length ca) (ps.map (·.1)) ∧ Rd W (.slice (some ⟨bb, 0, none⟩) ps.length cb) (ps.map (·.2))) := fun W T => ⟨hwA.keep0 T, hwB.keep0 T⟩
  have HN : Hid (∀ v5 v9, v5.oneCell' = true → v9.oneCell' = true → (c.setIfInBounds 256 v5).setIfInBounds 257 v9 = dc op v5 v9 ∧ Dg (dc op v5 v9)) := fun v5 v9 h5 h9 => ⟨by rw [h.eq, dc_setwho, dc_setat], dc_dg op h5 h9⟩
  have H257 : Hid (∀ v5 : Value, (c.setIfInBounds 256 v5)[257]? = some (.slice (some ⟨bb, 0, none⟩) ps.length cb)) := fun v5 => by rw [Array.getElem?_setIfInBounds, if_neg (by omega)]; exact HA.out.2
  have HE : Hid (∀ W' v5 v9, Bx w W' w.heap.size (w.heap.size + 1) (dc op v5 v9) (dc op v5 v9) → Rd W' v5 ((ps.map (·.1)).eraseIdx i) → Rd W' v9 ((ps.map (·.2)).eraseIdx i) → RcE (.returned (.tuple #[.agg (dc op v5 v9), .int .i64 ps[i].2, .bool true])) w W' op (ps.eraseIdx i) (.int .i64 ps[i].2) (.bool true)) := fun W' v5 v9 b r5 r9 => ⟨_, v5, v9, rfl, ⟨rfl, by rw [map_erase]; exact r5, by rw [map_erase]; exact r9⟩, b.tc⟩
  have CAPa : Hid (ps.length ≤ ca ∧ ca ≤ maxLen) := by rw [hlA] at hca1; exact ⟨hca1, hca2⟩
  have CAPb : Hid (ps.length ≤ cb ∧ cb ≤ maxLen) := by rw [hlB] at hcb1; exact ⟨hcb1, hcb2⟩
  have LN : Hid (ps.length ≤ 4398046511104 ∧ i < ps.length ∧ (ps.map (·.1)).length = ps.length ∧ (ps.map (·.2)).length = ps.length) := ⟨hl, hi, hlA, hlB⟩
  have HDs := hid d0
  have HB := hid bx
  have HW := hid hW1
  generalize hgi : ps[i].2 = gi at *
  clear h d0 bx hW1 hp hwA hwB hca1 hca2 hcb1 hcb2 eA eB hlA hlB hgi
  generalize ps.map (·.1) = xs at *
  generalize ps.map (·.2) = ys at *
  generalize ps.length = N at *
  obtain ⟨i1, hi1⟩ : ∃ i1, i1 = i + 1 := ⟨_, rfl⟩
  have J := hid hi1
  have wr1 : IntKind.i64.wrap ((i : Int) + 1) = (i1 : Int) := by
    have h1 := LN.out.1
    have h2 := LN.out.2.1
    rw [IntKind.wrap_i64]
    omega
  have zi1 : (i1 : Int) ≤ (N : Int) := by omega
  clear hi1
  have LTa : Hid ((ints (xs.take i)).length = i * 1 ∧ (ints (xs.drop i1)).length = (N - i1) * 1) := by
    have := LN.out
    simp only [ints_len, List.length_take, List.length_drop]
    show _ ∧ _
    omega
  have LTb : Hid ((ints (ys.take i)).length = i * 1 ∧ (ints (ys.drop i1)).length = (N - i1) * 1) := by
    have := LN.out
    simp only [ints_len, List.length_take, List.length_drop]
    show _ ∧ _
    omega
  have zi : (i : Int) < (N : Int) := by omega
  have zN : (N : Int) ≤ 4398046511104 := by omega
  have HG : Hid (∀ X, Touch [] w X → X.cell? ⟨bb, i, none⟩ = some (.int .i64 gi)) := fun X T => by
    obtain ⟨b, e, hc⟩ := (HR.out X T).2.cell (i := i) (by have := LN.out; omega)
    cases e
    rw [hc]
    have hiy : i < ys.length := by have := LN.out; omega
    rw [List.getElem?_eq_getElem hiy] at hyi
    cases hyi
    rfl
  clear hyi hl
  go_enter Try.func27, Try.ntmps27
  go_upto_region 1 with fail
  rw [← HW.out]
  clear HW
  generalize w.heap.size = b1 at *
  generalize b1 + 1 = b2 at *
  go_upto_region 5 with (first
    | (refine wpList_load29 rfl _ rfl b1 c 29 (0, 0) rfl HB.out.h1 HD.out.size ?_)
    | (go_at_call 28; refine HH.out.mono ?_; rintro e w4 ⟨rfl, t4⟩; have B4 := hid (HB.out.keep t4); have y4 := cell_at B4.out.h1 HA.out.2; have x4 := HG.out w4 B4.out.tc; clear t4)
    | fail)
  clear y4 x4
  generalize decide ((i : Int) < 0) = bb0
  go_cut [] from 20 to 32 (fun wx => CtE w wx b1 b2 c d 256 (xs.eraseIdx i))
  case first =>
    obtain ⟨ada, hada⟩ : ∃ ad : Addr, (if ca = i1 then some (⟨ba, 0, none⟩ : Addr) else some ⟨ba, i1, none⟩) = some ad := by
      by_cases e : ca = i1
      · exact ⟨_, if_pos e⟩
      · exact ⟨_, if_neg e⟩
    have CUa : Hid (∀ X, Touch [] w4 X → X.heap[w4.heap.size]? = some (.cells #[] 3 (0, 0)) → Cu w4 X b1 256 (.slice (some ⟨ba, 0, none⟩) N ca) xs i i1 ba ada) := fun X T hX => by
      have hn := cut_news (i := i) (HR.out w4 B4.out.tc).1 (by have := LN.out; omega) T
      have J1 := J.out
      subst J1
      refine ⟨own_of_cells hX (Nat.le_refl _) (Nat.le_refl _) (by unfold maxLen; omega) rfl rfl (fun p v hp => by simp at hp), hn.1, T.size, fun v1 w1 r gr nn => ?_⟩
      rcases r.2 with ⟨e, _⟩ | ⟨g1, c1, cur, rfl, _⟩
      · have := (nn.1 e).1
        cases this
      · have T1 : Touch [w4.heap.size] X w1 := (Touch.refl _ _).grown gr (fun k hk => Or.inl (by cases hk; simp))
        have T2 : Touch [] w4 w1 := T.trans T1 (fun k hk => Or.inr (by simp only [List.mem_singleton] at hk; omega))
        refine ⟨g1, c1, by rw [Nat.zero_add], ⟨by simpa using r, T2, (cut_news (i := i) (HR.out w4 B4.out.tc).1 (by have := LN.out; omega) T2).2 ada hada⟩, cell_at (T2.keep B4.out.h1 (by simp)) HA.out.1⟩
    have bwa := B4.out.lt.1
    have nea : w4.heap.size ≠ b1 := by omega
    have nea' : b1 ≠ w4.heap.size := by omega
    have ya := cell_at B4.out.h1 HA.out.1
    have zca : N ≤ ca := CAPa.out.1
    have zca' : (i : Int) ≤ (ca : Int) := by omega
    have FCa : Hid (∀ X, Touch [] w4 X → X.cell? ⟨b1, 256, none⟩ = some (.slice (some ⟨ba, 0, none⟩) N ca) ∧ X.frozen? ⟨b1, 256, none⟩ = false) := fun X T => ⟨cell_at (T.keep B4.out.h1 (by simp)) HA.out.1, froz_at (T.keep B4.out.h1 (by simp)) _⟩
    have C1a := hid (CUa.out (w4.alloc (.cells #[] 3)).drew ((Touch.refl _ _).alloc _).drew (heap_alloc_new w4 _))
    go_region_law (first
      | (refine step_append_own _ (by rfl) _ _ _ (by rfl) w4.heap.size 3 i3 (.int .i64 0) 1 8 Try.underlying27 hi3 hz0 hz1 hz2 (by rfl) (by decide) (.slice (some ⟨w4.heap.size, 0, none⟩) 0 0) 0 [] (by rfl) C1a.out.made ⟨ba, 0, none⟩ i ca (ints (xs.take i)) (by rfl) LTa.out.1 C1a.out.cells ints_one (by have := LN.out; unfold maxLen; omega) (by have := LN.out; omega) C1a.out.size ?_; intro v1 w1a hr1 hg1 hn1; obtain ⟨g1a, c1a, rfl, q1, q2⟩ := C1a.out.next v1 w1a hr1 hg1 hn1; have Q1a := hid q1; clear hr1 hg1 hn1 q1)
      | (refine step_append_own _ (by rfl) _ _ _ (by rfl) w4.heap.size 3 i3 (.int .i64 0) 1 8 Try.underlying27 hi3 hz0 hz1 hz2 (by rfl) (by decide) (.slice (some ⟨g1a, 0, none⟩) i c1a) i (ints (xs.take i)) (by rfl) Q1a.out.1 ada (N - i1) (ca - i1) (ints (xs.drop i1)) (by rfl) LTa.out.2 Q1a.out.2.2 ints_one (by have := LN.out; have := J.out; unfold maxLen; omega) (by have := LN.out; have := J.out; omega) Q1a.out.2.1.size ?_; intro v2 w2a hr2 hg2 hn2; obtain ⟨g2a, c2a, rfl, r2, T2, z2a⟩ := cu_end Q1a.out.1 Q1a.out.2.1 LN.out.2.2.1 LN.out.2.1 J.out hr2 hg2 hn2; obtain ⟨k2a, f2a⟩ := FCa.out w2a T2; have Q2a := hid (And.intro r2 T2); clear hr2 hg2 hn2 r2 T2)
      | fail)
    all_goals
      go_wp2_with fail
      go_meet
      exact ct_mk B4.out Q2a.out.1 Q2a.out.2 z2a
  case rest =>
    obtain ⟨v5, hB5, hV5, hX5, hO5⟩ := hcut
    have B5 := hid hB5
    have V5 := hid hV5
    have X5 := hid hX5
    have O5 := hid hO5
    clear hB5 hV5 hX5 hO5 B4 HB HH LTa CAPa HG
    go_upto_region 6 with fail
    go_cut [] from 33 to 45 (fun wx => CtE w wx b1 b2 (c.setIfInBounds 256 v5) d 257 (ys.eraseIdx i) ∧ Rd wx v5 (xs.eraseIdx i))
    case first =>
      obtain ⟨adb, hadb⟩ : ∃ ad : Addr, (if cb = i1 then some (⟨bb, 0, none⟩ : Addr) else some ⟨bb, i1, none⟩) = some ad := by
        by_cases e : cb = i1
        · exact ⟨_, if_pos e⟩
        · exact ⟨_, if_neg e⟩
      have CUb : Hid (∀ X, Touch [] wc X → X.heap[wc.heap.size]? = some (.cells #[] 3 (0, 0)) → Cu wc X b1 257 (.slice (some ⟨bb, 0, none⟩) N cb) ys i i1 bb adb) := fun X T hX => by
        have hn := cut_news (i := i) (HR.out wc B5.out.tc).2 (by have := LN.out; omega) T
        have J1 := J.out
        subst J1
        refine ⟨own_of_cells hX (Nat.le_refl _) (Nat.le_refl _) (by unfold maxLen; omega) rfl rfl (fun p v hp => by simp at hp), hn.1, T.size, fun v1 w1 r gr nn => ?_⟩
        rcases r.2 with ⟨e, _⟩ | ⟨g1, c1, cur, rfl, _⟩
        · have := (nn.1 e).1
          cases this
        · have T1 : Touch [wc.heap.size] X w1 := (Touch.refl _ _).grown gr (fun k hk => Or.inl (by cases hk; simp))
          have T2 : Touch [] wc w1 := T.trans T1 (fun k hk => Or.inr (by simp only [List.mem_singleton] at hk; omega))
          refine ⟨g1, c1, by rw [Nat.zero_add], ⟨by simpa using r, T2, (cut_news (i := i) (HR.out wc B5.out.tc).2 (by have := LN.out; omega) T2).2 adb hadb⟩, cell_at (T2.keep B5.out.h1 (by simp)) (H257.out v5)⟩
      have bwb := B5.out.lt.1
      have neb : wc.heap.size ≠ b1 := by omega
      have neb' : b1 ≠ wc.heap.size := by omega
      have yb := cell_at B5.out.h1 (H257.out v5)
      have zcb : N ≤ cb := CAPb.out.1
      have zcb' : (i : Int) ≤ (cb : Int) := by omega
      have FCb : Hid (∀ X, Touch [] wc X → X.cell? ⟨b1, 257, none⟩ = some (.slice (some ⟨bb, 0, none⟩) N cb) ∧ X.frozen? ⟨b1, 257, none⟩ = false) := fun X T => ⟨cell_at (T.keep B5.out.h1 (by simp)) (H257.out v5), froz_at (T.keep B5.out.h1 (by simp)) _⟩
      have C1b := hid (CUb.out (wc.alloc (.cells #[] 3)).drew ((Touch.refl _ _).alloc _).drew (heap_alloc_new wc _))
      go_region_law (first
        | (refine step_append_own _ (by rfl) _ _ _ (by rfl) wc.heap.size 3 i3 (.int .i64 0) 1 8 Try.underlying27 hi3 hz0 hz1 hz2 (by rfl) (by decide) (.slice (some ⟨wc.heap.size, 0, none⟩) 0 0) 0 [] (by rfl) C1b.out.made ⟨bb, 0, none⟩ i cb (ints (ys.take i)) (by rfl) LTb.out.1 C1b.out.cells ints_one (by have := LN.out; unfold maxLen; omega) (by have := LN.out; omega) C1b.out.size ?_; intro v1 w1b hr1 hg1 hn1; obtain ⟨g1b, c1b, rfl, q1, q2⟩ := C1b.out.next v1 w1b hr1 hg1 hn1; have Q1b := hid q1; clear hr1 hg1 hn1 q1)
        | (refine step_append_own _ (by rfl) _ _ _ (by rfl) wc.heap.size 3 i3 (.int .i64 0) 1 8 Try.underlying27 hi3 hz0 hz1 hz2 (by rfl) (by decide) (.slice (some ⟨g1b, 0, none⟩) i c1b) i (ints (ys.take i)) (by rfl) Q1b.out.1 adb (N - i1) (cb - i1) (ints (ys.drop i1)) (by rfl) LTb.out.2 Q1b.out.2.2 ints_one (by have := LN.out; have := J.out; unfold maxLen; omega) (by have := LN.out; have := J.out; omega) Q1b.out.2.1.size ?_; intro v2 w2b hr2 hg2 hn2; obtain ⟨g2b, c2b, rfl, r2, T2, z2b⟩ := cu_end Q1b.out.1 Q1b.out.2.1 LN.out.2.2.2 LN.out.2.1 J.out hr2 hg2 hn2; obtain ⟨k2b, f2b⟩ := FCb.out w2b T2; have Q2b := hid (And.intro r2 T2); clear hr2 hg2 hn2 r2 T2)
        | fail)
      all_goals
        go_wp2_with fail
        go_meet
        refine ⟨ct_mk B5.out Q2b.out.1 Q2b.out.2 z2b, (V5.out.keep0 Q2b.out.2).keep (F := [b1]) ((Touch.refl _ _).setCell (by simp) _) (fun b hb e => (X5.out b hb).1 (by simpa using e))⟩
    case rest =>
      obtain ⟨⟨v9, hB9, hV9, hX9, hO9⟩, hV5⟩ := hcut
      rw [(HN.out v5 v9 O5.out hO9).1] at hB9
      have HE9 : Hid (∀ W', Bx w W' b1 b2 (dc op v5 v9) (dc op v5 v9) → Rd W' v5 (xs.eraseIdx i) → Rd W' v9 (ys.eraseIdx i) → RcE (.returned (.tuple #[.agg (dc op v5 v9), .int .i64 gi, .bool true])) w W' op (ps.eraseIdx i) (.int .i64 gi) (.bool true)) := fun W' => HE.out W' v5 v9
      have D9 := hid (HN.out v5 v9 O5.out hO9).2
      have B9 := hid hB9
      have V9 := hid (And.intro hV5 hV9)
      have X9 := hid hX9
      clear hB9 hV9 hX9 hO9 hV5 HN HE B5 V5 LTb CAPb LN HR HA H257
      generalize dc op v5 v9 = c9 at *
      go_wp2_with (first
        | (refine wpList_load29 rfl _ rfl b1 c9 29 (0, 0) rfl B9.out.h1 D9.out.size ?_)
        | (refine wpList_store29 rfl _ _ rfl b2 d c9 29 rfl rfl B9.out.h2 HDs.out D9.out ?_; intro w3 h3 t3 s3; have B3 := hid (And.intro (B9.out.fill h3 t3) t3); clear h3 t3 s3)
        | fail)
      exact bodyPost_ret (v := .tuple #[.agg c9, .int .i64 gi, .bool true]) (by rw [results_cell3 Try.results27 _ _ rfl B3.out.1.h2 D9.out.size]; rfl) rfl (HE9.out _ B3.out.1 (V9.out.1.keep B3.out.2 (fun b hb e => (X5.out b hb).2 (by simpa using e))) (V9.out.2.keep B3.out.2 (fun b hb e => (X9.out b hb).2 (by simpa using e))))
end
end Go.Proofs.Ytmbjjkdocmcpdaa
