/- The law SketchHot's walk; no conditions. -/
import Derived.Test.YtbadlkjffelkhaaXdt
import Derived.Test.YtbadlkjffelkhaaXpy
namespace Go.Proofs.Ytbadlkjffelkhaa.Sk
open Go.RowKit Go.Maps Go.ChangeMaps
set_option maxRecDepth 100000
set_option linter.unusedVariables false
set_option linter.unusedSimpArgs false
theorem SlKyA.un {w : World} {v : Value} {xs : List KyA} (h : SlKyA w v xs) : Un.Sl w v (xs.map KyA.key) := by
  have hf := SlKyA.form h
  obtain ⟨a, c, rfl⟩ := hf
  have hc := fun i hi => SlKyA.cell h (i := i) hi
  by_cases h0 : xs.length = 0
  · exact Or.inl ⟨by rw [List.length_eq_zero_iff.1 h0]; rfl, a, c, by rw [h0]⟩
  · obtain ⟨b, off, rfl, h1, h2⟩ := hc 0 (by omega)
    refine Or.inr ⟨b, off, c, by simp, ?_, fun i hi => ?_, fun i hi => ?_⟩
    · unfold World.cell? at h1
      cases hb : w.heap[b]? with
      | none => simp [hb] at h1
      | some o => exact block_lt hb
    · have hi' : i < xs.length := by simpa using hi
      obtain ⟨b', off', e, q1, q2⟩ := hc i hi'
      cases e
      simpa using q1
    · have hi' : i < xs.length := by simpa using hi
      obtain ⟨b', off', e, q1, q2⟩ := hc i hi'
      cases e
      simpa using q2
section
variable {w : World} {ops : Array Oper} {rest : List Oper} {o : Oper} {a : Act} {Q : Exit → Act → World → Prop}
theorem run_append_emp {P : Program} (base : Nat) (t ty e : TypeId) (i : TypeInfo) (size : Nat) (ht : P.underlying t = some (.slice e)) (hi : P.info? e = some i)
    (v : Value) (n : Nat) (xs : List Value) (hown : w.ownsRow base e size v n xs) (c : Nat) :
    (Builtin.append_ #[t, t] ty #[v, .slice none 0 c]).run P w = .ok v w := by
  rcases hown.2 with ⟨rfl, rfl⟩ | ⟨g, cap, cur, rfl, _, _, hnc, _⟩
  · simp [Builtin.append_, run_underlying ht, sizeOf, typeInfo, hi, Builtin.lenOf, Builtin.firstCells]
  · simp [Builtin.append_, run_underlying ht, sizeOf, typeInfo, hi, Builtin.lenOf, Builtin.firstCells, hnc, storeCells]
/-- Keys that were handed in, laid behind a row that a call owns. -/
theorem wpList_append_ks (hgd : o.guard = none) (s x : Operand) (ho : o.op = .call { callee := .builtin .append, args := #[s, x], argTypes := #[24, 24] })
    (base : Nat) (v : Value) (hs : a.eval s = v) (hown : w.ownsRow base 43 2 v 0 [])
    (u : Value) (L : List K) (hx : a.eval x = u) (hu : Un.Sl w u L) (hl : L.length * 24 ≤ 140737488351232) (hbase : base ≤ w.heap.size)
    (h : ∀ v' w', w'.ownsRow base 43 2 v' L.length (Un.cellsK L) → w.grownBy w' v.ownBlock → wpList Try.prog ops Q rest (a.put o.dst v') w') : wpList Try.prog ops Q (o :: rest) a w := by
  obtain ⟨i3, hf, hz0, hz1, hz2⟩ := info_parts Un.info24
  rcases hu with ⟨rfl, b, c, rfl⟩ | ⟨b, off, c, rfl, R⟩
  · cases b with
    | none =>
      have hrun := run_append_emp (P := Try.prog) (w := w) base 24 o.type 43 i3 2 Try.underlying24 hf v 0 [] hown c
      refine wpList_plain hgd fun K' hK' => ?_
      unfold Oper.wp
      simp [execOp, ho, resolve, invoke, builtin, hs, hx, hrun, Result.andThen]
      exact hK' _ _ (h v w hown (World.grownBy.refl _ _))
    | some ad => exact wpList_append_own_at w hgd s x 24 ho base 43 i3 _ 2 24 Try.underlying24 hf hz0 hz1 hz2 rfl (by decide) v 0 [] hs hown ad 0 c [] hx rfl (fun j y hy => by simp at hy) (fun y hy => by cases hy) (by unfold maxLen; omega) (by omega) hbase (fun v' w' q1 q2 q3 q4 => h v' w' (by simpa [Un.cellsK] using q1) q2)
  · refine wpList_append_own_at w hgd s x 24 ho base 43 i3 _ 2 24 Try.underlying24 hf hz0 hz1 hz2 rfl (by decide) v 0 [] hs hown ⟨b, off, none⟩ L.length c (Un.cellsK L) hx (Un.cellsK_len L) (fun j y hy => ?_) (cellsK_one' L) (by unfold maxLen; omega) (by omega) hbase (fun v' w' q1 q2 q3 q4 => h v' w' (by simpa using q1) q2)
    have hj : j < L.length * 2 := by rw [← Un.cellsK_len]; exact (List.getElem?_eq_some_iff.1 hy).1
    rw [show (⟨b, off, none⟩ : Addr).add j = ⟨b, off + j, none⟩ by simp [Addr.add]]
    have hi : j / 2 < L.length := by omega
    rcases Nat.mod_two_eq_zero_or_one j with e | e
    · have ej : j = j / 2 * 2 := by omega
      rw [ej, Un.cellsK_at0 L (j / 2) hi] at hy
      rw [← Option.some.inj hy]
      have := R.at0 (j / 2) hi
      rwa [← ej] at this
    · have ej : j = j / 2 * 2 + 1 := by omega
      rw [ej, Un.cellsK_at1 L (j / 2) hi] at hy
      rw [← Option.some.inj hy]
      have := R.at1 (j / 2) hi
      rwa [show off + j / 2 * 2 + 1 = off + j by omega] at this
end
theorem Sl_keep {w w' : World} {v : Value} {xs : List K} (h : Un.Sl w v xs) (T : Touch [] w w') : Un.Sl w' v xs := by
  rcases h with h | ⟨b, off, cap, hv, hr⟩
  · exact Or.inl h
  · exact Or.inr ⟨b, off, cap, hv, ⟨Nat.lt_of_lt_of_le hr.lt T.size, fun i hi => by rw [World.cell?_of_block (a := ⟨b, off + i * 2, none⟩) (T.block b hr.lt (by simp))]; exact hr.at0 i hi, fun i hi => by rw [World.cell?_of_block (a := ⟨b, off + i * 2 + 1, none⟩) (T.block b hr.lt (by simp))]; exact hr.at1 i hi⟩⟩
/-- What is known before the loops. -/
structure Hl (w W : World) (s mb : Nat) (X : S) (G cp : Nat) (ks : List K) (vin vk h want : Value) (m : Nat) (O : List K) : Prop where
  t : Touch [] w W
  k : ∃ g cap, Kq W s g cap X
  d : ∃ Q Cp, Dq W 0 G cp Q Cp X
  b : W.heap[mb]? = some (.cells #[.int .i64 (X.b : Nat), .slice (some ⟨G, 0, none⟩) X.r cp, .int .u64 (X.t : Nat)] 29 (0, 0))
  i : Un.Sl W vin ks
  v : Un.Sl W vk ks
  ok : ∀ x ∈ ks, Ok x
  oo : ∀ x ∈ O, Ok x
  ol : m ≤ O.length
  h : Rs 60 3 W h m (((O.take m).map (hvX X)).flatMap rowH)
  w : Rs 50 2 W want m (Un.cellsK (O.take m))
section
variable {w W w2 : World} {s mb G cp m : Nat} {X : S} {ks O : List K} {vin vk h want : Value}
theorem Hl.keep (H : Hl w W s mb X G cp ks vin vk h want m O) (T : Touch [] W w2) : Hl w w2 s mb X G cp ks vin vk h want m O := by
  obtain ⟨g, cap, k⟩ := H.k
  obtain ⟨Q, Cp, d⟩ := H.d
  exact ⟨H.t.trans' T, ⟨g, cap, k.keep0 T⟩, ⟨Q, Cp, d.keep0 T⟩, T.keep H.b (by simp), Sl_keep H.i T, Sl_keep H.v T, H.ok, H.oo, H.ol, H.h.keep0 T, H.w.keep0 T⟩
theorem Hl.cnt (H : Hl w W s mb X G cp ks vin vk h want m O) {x : K} (hx : Ok x) : Calls Try.prog 19 #[.agg #[.int .i64 (X.b : Nat), .slice (some ⟨G, 0, none⟩) X.r cp, .int .u64 (X.t : Nat)], .agg #[.int .u16 x.1, .string x.2]] W fun e w' => e = .returned (.int .i64 (cnK X x : Nat)) ∧ Touch [] W w' := by
  obtain ⟨g, cap, k⟩ := H.k
  obtain ⟨Q, Cp, d⟩ := H.d
  exact rcount_ d k.wf hx
theorem Hl.bet (H : Hl w W s mb X G cp ks vin vk h want m O) {x y : K} (hx : Ok x) (hy : Ok y) : Calls Try.prog 20 #[.pointer (some ⟨s, 0, none⟩), .agg #[.int .u16 x.1, .string x.2], .agg #[.int .u16 y.1, .string y.2]] W fun e w' => e = .returned (.bool (decide (cnK X y < cnK X x))) ∧ Touch [] W w' := by
  obtain ⟨g, cap, k⟩ := H.k
  exact better_ k hx hy
/-- What the two lists hold at a place. -/
theorem Hl.at_ (H : Hl w W s mb X G cp ks vin vk h want m O) {i : Nat} (hi : i < m) : ∃ hb ho hc wb wo wc, h = .slice (some ⟨hb, ho, none⟩) m hc ∧ want = .slice (some ⟨wb, wo, none⟩) m wc ∧ ∃ x, Ok x ∧ ∀ w2, Touch [] W w2 →
    w2.cell? ⟨hb, ho + i * 3, none⟩ = some (.int .u16 x.1) ∧ w2.cell? ⟨hb, ho + i * 3 + 1, none⟩ = some (.string x.2) ∧ w2.cell? ⟨hb, ho + i * 3 + 2, none⟩ = some (.int .i64 (cnK X x : Nat)) ∧ w2.cell? ⟨wb, wo + i * 2, none⟩ = some (.int .u16 x.1) ∧ w2.cell? ⟨wb, wo + i * 2 + 1, none⟩ = some (.string x.2) := by
  have hol := H.ol
  have hit : i < (O.take m).length := by rw [List.length_take]; omega
  have him : i < ((O.take m).map (hvX X)).length := by simpa using hit
  obtain ⟨a, hc, e1, _⟩ := H.h.form
  obtain ⟨a', wc, e2, _⟩ := H.w.form
  subst e1 e2
  have q : ∀ j, j < 3 → ((((O.take m).map (hvX X)).flatMap rowH)[i * 3 + j]? = (rowH (hvX X (O.take m)[i]))[j]?) := fun j hj => Go.Proofs.Ytbadlkjffelkhaa.flat_at rowH_len _ i j _ (by rw [List.getElem?_eq_getElem him, List.getElem_map]) hj
  have q0 := q 0 (by omega)
  have q1 := q 1 (by omega)
  have q2 := q 2 (by omega)
  obtain ⟨hb, ho, e1, _⟩ := H.h.cell q0 (by omega)
  obtain ⟨wb, wo, e2, _⟩ := H.w.cell (Un.cellsK_at0 (O.take m) i hit) (by omega)
  subst e1 e2
  refine ⟨hb, ho, hc, wb, wo, wc, rfl, rfl, (O.take m)[i], H.oo _ (List.mem_of_mem_take (List.getElem_mem hit)), fun w2 t => ?_⟩
  have K := H.keep t
  obtain ⟨b0, o0, e0, p0⟩ := K.h.cell q0 (by omega)
  cases e0
  obtain ⟨b1, o1, e1, p1⟩ := K.h.cell q1 (by omega)
  cases e1
  obtain ⟨b2, o2, e2, p2⟩ := K.h.cell q2 (by omega)
  cases e2
  obtain ⟨b3, o3, e3, p3⟩ := K.w.cell (Un.cellsK_at0 (O.take m) i hit) (by omega)
  cases e3
  obtain ⟨b4, o4, e4, p4⟩ := K.w.cell (Un.cellsK_at1 (O.take m) i hit) (by omega)
  cases e4
  exact ⟨p0, by rw [Nat.add_assoc]; exact p1, by rw [Nat.add_assoc]; exact p2, p3, by rw [Nat.add_assoc]; exact p4⟩
/-- What the two slices of keys hold at a place, and at the first. -/
theorem Hl.key (H : Hl w W s mb X G cp ks vin vk h want m O) {i : Nat} (hi : i < ks.length) : ∃ ib io ic kb off kc, vin = .slice (some ⟨ib, io, none⟩) ks.length ic ∧ vk = .slice (some ⟨kb, off, none⟩) ks.length kc ∧ ∃ x y, Ok x ∧ Ok y ∧ ∀ w2, Touch [] W w2 →
    w2.cell? ⟨ib, io + i * 2, none⟩ = some (.int .u16 x.1) ∧ w2.cell? ⟨ib, io + i * 2 + 1, none⟩ = some (.string x.2) ∧ w2.cell? ⟨kb, off + i * 2, none⟩ = some (.int .u16 x.1) ∧ w2.cell? ⟨kb, off + i * 2 + 1, none⟩ = some (.string x.2) ∧ w2.cell? ⟨kb, off, none⟩ = some (.int .u16 y.1) ∧ w2.cell? ⟨kb, off + 1, none⟩ = some (.string y.2) := by
  obtain ⟨a, c, rfl, h1⟩ := Sl_keys H.i
  obtain ⟨a', c', rfl, h2⟩ := Sl_keys H.v
  obtain ⟨ib, io, rfl, -, -⟩ := h1 W (Touch.refl _ _) i hi
  obtain ⟨kb, off, rfl, -, -⟩ := h2 W (Touch.refl _ _) i hi
  refine ⟨ib, io, c, kb, off, c', rfl, rfl, ks[i], ks[0], H.ok _ (List.getElem_mem hi), H.ok _ (List.getElem_mem (by omega)), fun w2 t => ?_⟩
  obtain ⟨_, _, e1, p1, p2⟩ := h1 w2 t i hi
  cases e1
  obtain ⟨_, _, e2, p3, p4⟩ := h2 w2 t i hi
  cases e2
  obtain ⟨_, _, e3, p5, p6⟩ := h2 w2 t 0 (by omega)
  cases e3
  exact ⟨p1, p2, p3, p4, by simpa using p5, by simpa using p6⟩
end
set_option maxHeartbeats 16000000 in
theorem hots_ (w : World) (xs : List ActX) (vl : Value) (n : Int) (ys : List KyA) (vk : Value) (hl : SlActX w vl xs) (hx : ∀ x ∈ xs, x.ok) (ll : xs.length ≤ 4398046510976) (hn0 : W64 n) (hk : SlKyA w vk ys) (hy : ∀ x ∈ ys, x.ok) (lk : ys.length ≤ 5864062014634) : Calls Try.prog 5 #[vl, .int .i64 n, vk] w fun e w' => e = .returned (.bool true) ∧ Touch [] w w' := by
  obtain ⟨a, c, rfl, hA⟩ := AcS.of_sl hl hx
  have hU := SlKyA.un hk
  obtain ⟨ks, hks⟩ : ∃ ks, ks = ys.map KyA.key := ⟨_, rfl⟩
  have lk2 : ks.length * 24 ≤ 140737488351232 := by rw [hks, List.length_map]; omega
  have hok : ∀ x ∈ ks, Ok x := fun x hx => by
    rw [hks] at hx
    obtain ⟨y, hy1, rfl⟩ := List.mem_map.1 hx
    exact KyA.okk (hy y hy1)
  rw [← hks] at hU
  have HW := hid awake_
  have HP : Hid (Calls Try.prog 8 #[.int .i64 3, .int .i64 5, .slice a xs.length c] w fun e w1 => ∃ s X G cp, e = .returned (.tuple #[.pointer (some ⟨s, 0, none⟩), .agg #[.int .i64 (X.b : Nat), .slice (some ⟨G, 0, none⟩) X.r cp, .int .u64 (X.t : Nat)], .bool true]) ∧ Touch [] w w1 ∧ ∃ g cap Q Cp, Kq w1 s g cap X ∧ Dq w1 0 G cp Q Cp X) := hid (by
    refine (played_ok 3 5 (by decide) hA (by omega)).mono ?_
    rintro e w1 ⟨v, u, rfl, s, g, cap, X, G, cp, Q, Cp, rfl, rfl, k1, d1, e1, e2, l1, l2, t1⟩
    exact ⟨s, X, G, cp, rfl, t1, g, cap, Q, Cp, k1, d1⟩)
  obtain ⟨ak, ck, ek, -⟩ := Sl_keys hU
  subst ek
  have HU := hid hU
  have HOK := hid hok
  have HLK := hid lk2
  clear hA hU hok hl hx ll hk hy lk hks lk2 hn0
  generalize xs.length = nx at *
  have HUK := hid (fun w1 (t1 : Touch [] w w1) => Sl_keep HU.out t1)
  go_enter Try.func5, Try.ntmps5
  go_upto_region 4 with (first
      | (go_at_call 8; refine HP.out.mono ?_; rintro e w1 ⟨s, X, G, cp, rfl, t1, g, cap, Q, Cp, k1, d1⟩; have T1 := hid t1; have HK1 := hid k1; have HD1 := hid d1; clear t1 HP k1 d1)
      | (go_at_call 9; refine (HW.out _).mono ?_; rintro e w2 ⟨rfl, t2⟩; have T2 := hid (((Touch.refl [] w1).alloc _).trans' t2); have HB := hid (t2.keep (heap_alloc_new w1 _) (by simp)); clear t2))
  have T12 := hid (T1.out.trans' T2.out)
  clear HW
  obtain ⟨mb, hmb⟩ : ∃ mb, mb = w1.heap.size := ⟨_, rfl⟩
  rw [← hmb] at HB ⊢
  clear hmb
  have HM4 : Hid ((w2.alloc (.cells #[] 43)).ownsRow w2.heap.size 43 2 (.slice (some ⟨w2.heap.size, 0, none⟩) 0 0) 0 []) := World.ownsRow_made (e := 43) (size := 2) w2 #[] 0 (Nat.le_refl _) (by unfold maxLen; omega) rfl
  go_upto_region 5 with (at_builtin; refine wpList_append_ks rfl _ _ rfl w2.heap.size _ rfl HM4.out _ ks rfl (Sl_keep HU.out (T12.out.alloc _)) HLK.out (by simp) ?_; intro v4 w4 o4 g4; obtain ⟨a4, c4, e4⟩ := own_form o4; subst e4; have T4 := hid (((Touch.refl [] w2).alloc _).grown g4 (fun k hk => Or.inr (by cases hk; exact Nat.le_refl _))); have S4 := hid (own_sl o4 rfl); clear o4 g4)
  clear HM4
  by_cases hn : n < 0
  · have HH := hid (fun v => hot_no (HK1.out.keep0 (T2.out.trans' T4.out)) v n hn)
    unfold PT at HH
    go_wp2_with (go_at_call 15; refine (HH.out _).mono ?_; rintro e w5 ⟨rfl, rfl⟩)
    go_ret
    exact ⟨rfl, T12.out.trans' T4.out⟩
  · obtain ⟨N, rfl⟩ : ∃ N : Nat, n = N := ⟨n.toNat, by omega⟩
    have HH := hid (hot_ (HK1.out.keep0 (T2.out.trans' T4.out)) S4.out HOK.out HLK.out N)
    unfold PT at HH
    go_upto_region 6 with (go_at_call 15; refine HH.out.mono ?_; rintro e w5 ⟨L, a5, m5, c5, rfl, p1, p2, p3, p4, t5⟩; have HL5 := hid (And.intro p1 (And.intro p2 (And.intro p3 p4))); have T5 := hid t5; clear p1 p2 p3 p4 t5)
    clear HH
    have T25 := hid ((T4.out.trans' T5.out))
    have HMB := hid (T25.out.keep HB.out (by simp))
    have M0 : ∀ w', Touch [] w5 w' → w'.cell? ⟨mb, 0, none⟩ = some (.int .i64 (X.b : Nat)) := fun w' t => cell_at (t.keep HMB.out (by simp)) rfl
    have M1 : ∀ w', Touch [] w5 w' → w'.cell? ⟨mb, 1, none⟩ = some (.slice (some ⟨G, 0, none⟩) X.r cp) := fun w' t => cell_at (t.keep HMB.out (by simp)) rfl
    have M2 : ∀ w', Touch [] w5 w' → w'.cell? ⟨mb, 2, none⟩ = some (.int .u64 (X.t : Nat)) := fun w' t => cell_at (t.keep HMB.out (by simp)) rfl
    have HRF := hid (fun w' (t : Touch [] w5 w') => refs_ (HUK.out w' (T12.out.trans' (T25.out.trans' t))) HLK.out)
    have HRH := hid (fun w' (t : Touch [] w5 w') v (hs : Un.Sl w' v ks) => rhot_ (HD1.out.keep0 ((T2.out.trans' T25.out).trans' t)) HK1.out.wf hs HOK.out HLK.out N)
    unfold dv at HRH
    go_upto_region 8 with fail
    refine wp_region_H (S := fun w' => Touch [] w5 w') (by kernel_rfl) ?_
    obtain ⟨WD, hWD⟩ : ∃ WD, WD = w5.drew := ⟨_, rfl⟩
    have k0 : Touch [] w5 WD := by rw [hWD]; exact (Touch.refl _ _).drew
    rw [← hWD]
    clear hWD
    refine wpH_take (i := 0) (v := (.agg #[.int .i64 (X.b : Nat), .slice (some ⟨G, 0, none⟩) X.r cp, .int .u64 (X.t : Nat)])) (some 51) rfl rfl (by kernel_rfl) (by kernel_rfl) (by kernel_rfl) (fun _ _ _ h => h) (Or.inl ⟨by rfl, fun w' hS => (by have z0 := M0 _ hS; have z1 := M1 _ hS; have z2 := M2 _ hS; go_simp)⟩) k0 ?_
    try simp only [Go.Act.put, List.setIfInBounds_toArray, List.set_cons_zero, List.set_cons_succ]
    refine wpH_take (i := 1) (v := (.int .i64 (N : Nat))) (some 52) rfl rfl (by kernel_rfl) (by kernel_rfl) (by kernel_rfl) (fun _ _ _ h => h) (Or.inl ⟨by rfl, fun w' hS => (by go_simp)⟩) k0 ?_
    try simp only [Go.Act.put, List.setIfInBounds_toArray, List.set_cons_zero, List.set_cons_succ]
    refine wpH_take (i := 2) (v := (.slice ak ks.length ck)) (some 53) rfl rfl (by kernel_rfl) (by kernel_rfl) (by kernel_rfl) (fun _ _ _ h => h) (Or.inl ⟨by rfl, fun w' hS => (by go_simp)⟩) k0 ?_
    try simp only [Go.Act.put, List.setIfInBounds_toArray, List.set_cons_zero, List.set_cons_succ]
    refine wpH_call (i := 3) (o := { dst := some 54, op := Op.call { callee := Callee.value (Operand.func 17), args := #[Operand.tmp 53], argTypes := #[24] }, type := 55, pos := _, after := #[{ on := 2, ground := Ground.data }], guard := none }) (by kernel_rfl) rfl (fun K' hK => ?_)
    rw [if_pos (by rfl)]
    go_simp
    refine (HRF.out _ k0).mono ?_
    rintro e w7 ⟨u7, rfl, s7, t7⟩
    have k7 := k0.trans' t7
    clear t7
    refine hK.out _ _ k7 ?_
    clear hK
    try simp only [Go.Act.put, List.setIfInBounds_toArray, List.set_cons_zero, List.set_cons_succ]
    refine wpH_call (i := 4) (o := { dst := some 55, op := Op.call { callee := Callee.value (Operand.func 16), args := #[Operand.tmp 51, Operand.tmp 52, Operand.tmp 54], argTypes := #[29, 3, 55] }, type := 55, pos := _, after := #[{ on := 0, ground := Ground.data }, { on := 1, ground := Ground.data }, { on := 3, ground := Ground.data }, { on := 3, ground := Ground.chain }], guard := none }) (by kernel_rfl) rfl (fun K' hK => ?_)
    rw [if_pos (by rfl)]
    go_simp
    refine (HRH.out _ k7 u7 s7).mono ?_
    rintro e W8 ⟨O, a8, m8, c8, rfl, q1, q2, q3, q4, t8⟩
    have T8 := k7.trans' t8
    clear t8
    refine hK.out _ _ T8 ?_
    clear hK
    try simp only [Go.Act.put, List.setIfInBounds_toArray, List.set_cons_zero, List.set_cons_succ]
    refine wpH_take (i := 5) (v := (.slice a8 m8 c8)) (some 13) rfl rfl (by kernel_rfl) (by kernel_rfl) (by kernel_rfl) (fun _ _ _ h => h) (Or.inl ⟨by rfl, fun w' hS => (by go_simp)⟩) T8 ?_
    try simp only [Go.Act.put, List.setIfInBounds_toArray, List.set_cons_zero, List.set_cons_succ]
    refine wpAnyH_done (by kernel_rfl) ?_ _
    have eL := same_hot q1 q2 HL5.out.1 HL5.out.2.1
    have em : m8 = m5 := by rw [HL5.out.2.2.1, q3, eL, List.length_map]
    subst em
    have H : Hid (Hl w W8 s mb X G cp ks (.slice a4 ks.length c4) (.slice ak ks.length ck) (.slice a5 m8 c5) (.slice a8 m8 c8) m8 O) := hid (by
      have tt : Touch [] w2 W8 := T25.out.trans' T8
      refine ⟨T12.out.trans' tt, ⟨g, cap, HK1.out.keep0 (T2.out.trans' tt)⟩, ⟨Q, Cp, HD1.out.keep0 (T2.out.trans' tt)⟩, T8.keep HMB.out (by simp), Sl_keep S4.out (T5.out.trans' T8), HUK.out W8 (T12.out.trans' tt), HOK.out, fun x hx => ?_, by rw [q3]; exact Nat.min_le_right _ _, ?_, q4⟩
      · have := (List.mem_filter.1 (q1.mem_iff.1 hx)).1
        rw [Un.unl_mem] at this
        rcases this with h | h
        · cases h
        · exact HOK.out x h
      · have := HL5.out.2.2.2.keep0 T8
        rw [eL, ← List.map_take] at this
        exact this)
    have hm5 : m8 ≤ 5864062014634 := by
      have h1 := q3
      have h2 := q1.length_eq
      have h3 : (mayL (Un.unl [] ks)).length ≤ (Un.unl [] ks).length := List.length_filter_le _ _
      have h4 := Un.unl_len [] ks
      simp at h4
      have := HLK.out
      have h5 : min N O.length ≤ O.length := Nat.min_le_right _ _
      omega
    have hnk : ks.length ≤ 5864062014634 := by have := HLK.out; omega
    clear q1 q2 q3 q4 eL T8 HL5 HMB M0 M1 M2 HRF HRH HUK HK1 HD1 S4 T4 T5 T25 T12 T1 T2 HB HU HOK HLK hn k0
    go_wp2
    go_loopw [14] (fun s14 wq => ∃ i : Nat, i ≤ m8 ∧ s14 = .int .i64 i ∧ Touch [] W8 wq) (fun s14 _ => m8 - (intOf s14).toNat)
    case atStart => exact ⟨0, Nat.zero_le _, rfl, Touch.refl _ _⟩
    case round =>
      obtain ⟨i, hi, rfl, T⟩ := hrel
      by_cases hlt : i < m8
      · have zi : (i : Int) < (m8 : Int) := by omega
        obtain ⟨hb, ho, hc, wb, wo, wc, e1, e2, x, okx, hcell⟩ := H.out.at_ hlt
        cases e1
        cases e2
        have HC := hid (fun w' (t : Touch [] W8 w') => (H.out.keep t).cnt okx)
        have HR := hid (ref_ x)
        have B0 := fun w' t => (hcell w' t).1
        have B1 := fun w' t => (hcell w' t).2.1
        have B2 := fun w' t => (hcell w' t).2.2.1
        have C0 := fun w' t => (hcell w' t).2.2.2.1
        have C1 := fun w' t => (hcell w' t).2.2.2.2
        have M0 : ∀ w', Touch [] W8 w' → w'.cell? ⟨mb, 0, none⟩ = some (.int .i64 (X.b : Nat)) := fun w' t => cell_at (t.keep H.out.b (by simp)) rfl
        have M1 : ∀ w', Touch [] W8 w' → w'.cell? ⟨mb, 1, none⟩ = some (.slice (some ⟨G, 0, none⟩) X.r cp) := fun w' t => cell_at (t.keep H.out.b (by simp)) rfl
        have M2 : ∀ w', Touch [] W8 w' → w'.cell? ⟨mb, 2, none⟩ = some (.int .u64 (X.t : Nat)) := fun w' t => cell_at (t.keep H.out.b (by simp)) rfl
        clear hcell okx
        unfold kv at HR
        generalize cnK X x = cx at *
        go_wp2
        refine wp_region_H (S := fun w' => Touch [] W8 w') (by kernel_rfl) ?_
        obtain ⟨WE, hWE⟩ : ∃ WE, WE = wr.drew := ⟨_, rfl⟩
        have k0 : Touch [] W8 WE := by rw [hWE]; exact T.drew
        rw [← hWE]
        clear hWE
        refine wpH_take (i := 0) (v := (.slice (some ⟨hb, ho, none⟩) m8 c5)) (some 71) rfl rfl (by kernel_rfl) (by kernel_rfl) (by kernel_rfl) (fun _ _ _ h => h) (Or.inl ⟨by rfl, fun w' hS => (by go_simp)⟩) k0 ?_
        try simp only [Go.Act.put, List.setIfInBounds_toArray, List.set_cons_zero, List.set_cons_succ]
        refine wpH_take (i := 1) (v := (.int .i64 (i : Nat))) (some 72) rfl rfl (by kernel_rfl) (by kernel_rfl) (by kernel_rfl) (fun _ _ _ h => h) (Or.inl ⟨by rfl, fun w' hS => (by go_simp)⟩) k0 ?_
        try simp only [Go.Act.put, List.setIfInBounds_toArray, List.set_cons_zero, List.set_cons_succ]
        refine wpH_take (i := 2) (v := (.pointer (some ⟨hb, ho + i * 3, none⟩))) (some 73) rfl rfl (by kernel_rfl) (by kernel_rfl) (by kernel_rfl) (fun _ _ _ h => h) (Or.inl ⟨by rfl, fun w' hS => (by go_simp)⟩) k0 ?_
        try simp only [Go.Act.put, List.setIfInBounds_toArray, List.set_cons_zero, List.set_cons_succ]
        refine wpH_take (i := 3) (v := (.pointer (some ⟨hb, ho + i * 3, none⟩))) (some 74) rfl rfl (by kernel_rfl) (by kernel_rfl) (by kernel_rfl) (fun _ _ _ h => h) (Or.inl ⟨by rfl, fun w' hS => (by go_simp)⟩) k0 ?_
        try simp only [Go.Act.put, List.setIfInBounds_toArray, List.set_cons_zero, List.set_cons_succ]
        refine wpH_take (i := 4) (v := (.agg #[.int .u16 x.1, .string x.2])) (some 75) rfl rfl (by kernel_rfl) (by kernel_rfl) (by kernel_rfl) (fun _ _ _ h => h) (Or.inl ⟨by rfl, fun w' hS => (by have z0 := B0 _ hS; have z1 := B1 _ hS; go_simp)⟩) k0 ?_
        try simp only [Go.Act.put, List.setIfInBounds_toArray, List.set_cons_zero, List.set_cons_succ]
        refine wpH_take (i := 6) (v := (.slice (some ⟨wb, wo, none⟩) m8 c8)) (some 77) rfl rfl (by kernel_rfl) (by kernel_rfl) (by kernel_rfl) (fun _ _ _ h => h) (Or.inl ⟨by rfl, fun w' hS => (by go_simp)⟩) k0 ?_
        try simp only [Go.Act.put, List.setIfInBounds_toArray, List.set_cons_zero, List.set_cons_succ]
        refine wpH_take (i := 7) (v := (.int .i64 (i : Nat))) (some 78) rfl rfl (by kernel_rfl) (by kernel_rfl) (by kernel_rfl) (fun _ _ _ h => h) (Or.inl ⟨by rfl, fun w' hS => (by go_simp)⟩) k0 ?_
        try simp only [Go.Act.put, List.setIfInBounds_toArray, List.set_cons_zero, List.set_cons_succ]
        refine wpH_take (i := 8) (v := (.pointer (some ⟨wb, wo + i * 2, none⟩))) (some 79) rfl rfl (by kernel_rfl) (by kernel_rfl) (by kernel_rfl) (fun _ _ _ h => h) (Or.inl ⟨by rfl, fun w' hS => (by go_simp)⟩) k0 ?_
        try simp only [Go.Act.put, List.setIfInBounds_toArray, List.set_cons_zero, List.set_cons_succ]
        refine wpH_take (i := 9) (v := (.agg #[.int .u16 x.1, .string x.2])) (some 80) rfl rfl (by kernel_rfl) (by kernel_rfl) (by kernel_rfl) (fun _ _ _ h => h) (Or.inl ⟨by rfl, fun w' hS => (by have z0 := C0 _ hS; have z1 := C1 _ hS; go_simp)⟩) k0 ?_
        try simp only [Go.Act.put, List.setIfInBounds_toArray, List.set_cons_zero, List.set_cons_succ]
        refine wpH_call (i := 5) (o := { dst := some 76, op := Op.call { callee := Callee.value (Operand.func 18), args := #[Operand.tmp 75], argTypes := #[43] }, type := 50, pos := _, after := #[{ on := 4, ground := Ground.data }], guard := none }) (by kernel_rfl) rfl (fun K' hK => ?_)
        rw [if_pos (by rfl)]
        go_simp
        refine (HR.out _).mono ?_
        rintro e v1 ⟨rfl, t1⟩
        have k1 := k0.trans' t1
        clear t1
        refine hK.out _ _ k1 ?_
        clear hK
        try simp only [Go.Act.put, List.setIfInBounds_toArray, List.set_cons_zero, List.set_cons_succ]
        refine wpH_take (i := 10) (v := (.bool false)) (some 81) rfl rfl (by kernel_rfl) (by kernel_rfl) (by kernel_rfl) (fun _ _ _ h => h) (Or.inl ⟨by rfl, fun w' hS => (by go_simp)⟩) k1 ?_
        try simp only [Go.Act.put, List.setIfInBounds_toArray, List.set_cons_zero, List.set_cons_succ]
        refine wpH_take (i := 11) (v := (.bool false)) (some 82) rfl rfl (by kernel_rfl) (by kernel_rfl) (by kernel_rfl) (fun _ _ _ h => h) (Or.inl ⟨by rfl, fun w' hS => (by go_simp)⟩) k1 ?_
        try simp only [Go.Act.put, List.setIfInBounds_toArray, List.set_cons_zero, List.set_cons_succ]
        refine wpH_take (i := 12) (v := (.slice (some ⟨hb, ho, none⟩) m8 c5)) (some 83) rfl rfl (by kernel_rfl) (by kernel_rfl) (by kernel_rfl) (fun _ _ _ h => h) (Or.inl ⟨by rfl, fun w' hS => (by go_simp)⟩) k1 ?_
        try simp only [Go.Act.put, List.setIfInBounds_toArray, List.set_cons_zero, List.set_cons_succ]
        refine wpH_take (i := 13) (v := (.int .i64 (i : Nat))) (some 84) rfl rfl (by kernel_rfl) (by kernel_rfl) (by kernel_rfl) (fun _ _ _ h => h) (Or.inl ⟨by rfl, fun w' hS => (by go_simp)⟩) k1 ?_
        try simp only [Go.Act.put, List.setIfInBounds_toArray, List.set_cons_zero, List.set_cons_succ]
        refine wpH_take (i := 14) (v := (.pointer (some ⟨hb, ho + i * 3, none⟩))) (some 85) rfl rfl (by kernel_rfl) (by kernel_rfl) (by kernel_rfl) (fun _ _ _ h => h) (Or.inl ⟨by rfl, fun w' hS => (by go_simp)⟩) k1 ?_
        try simp only [Go.Act.put, List.setIfInBounds_toArray, List.set_cons_zero, List.set_cons_succ]
        refine wpH_take (i := 15) (v := (.pointer (some ⟨hb, ho + i * 3 + 2, none⟩))) (some 86) rfl rfl (by kernel_rfl) (by kernel_rfl) (by kernel_rfl) (fun _ _ _ h => h) (Or.inl ⟨by rfl, fun w' hS => (by go_simp)⟩) k1 ?_
        try simp only [Go.Act.put, List.setIfInBounds_toArray, List.set_cons_zero, List.set_cons_succ]
        refine wpH_take (i := 16) (v := (.int .i64 (cx : Nat))) (some 87) rfl rfl (by kernel_rfl) (by kernel_rfl) (by kernel_rfl) (fun _ _ _ h => h) (Or.inl ⟨by rfl, fun w' hS => (by have z0 := B2 _ hS; go_simp)⟩) k1 ?_
        try simp only [Go.Act.put, List.setIfInBounds_toArray, List.set_cons_zero, List.set_cons_succ]
        refine wpH_take (i := 17) (v := (.agg #[.int .i64 (X.b : Nat), .slice (some ⟨G, 0, none⟩) X.r cp, .int .u64 (X.t : Nat)])) (some 88) rfl rfl (by kernel_rfl) (by kernel_rfl) (by kernel_rfl) (fun _ _ _ h => h) (Or.inl ⟨by rfl, fun w' hS => (by have z0 := M0 _ hS; have z1 := M1 _ hS; have z2 := M2 _ hS; go_simp)⟩) k1 ?_
        try simp only [Go.Act.put, List.setIfInBounds_toArray, List.set_cons_zero, List.set_cons_succ]
        refine wpH_take (i := 18) (v := (.slice (some ⟨wb, wo, none⟩) m8 c8)) (some 89) rfl rfl (by kernel_rfl) (by kernel_rfl) (by kernel_rfl) (fun _ _ _ h => h) (Or.inl ⟨by rfl, fun w' hS => (by go_simp)⟩) k1 ?_
        try simp only [Go.Act.put, List.setIfInBounds_toArray, List.set_cons_zero, List.set_cons_succ]
        refine wpH_take (i := 19) (v := (.int .i64 (i : Nat))) (some 90) rfl rfl (by kernel_rfl) (by kernel_rfl) (by kernel_rfl) (fun _ _ _ h => h) (Or.inl ⟨by rfl, fun w' hS => (by go_simp)⟩) k1 ?_
        try simp only [Go.Act.put, List.setIfInBounds_toArray, List.set_cons_zero, List.set_cons_succ]
        refine wpH_take (i := 20) (v := (.pointer (some ⟨wb, wo + i * 2, none⟩))) (some 91) rfl rfl (by kernel_rfl) (by kernel_rfl) (by kernel_rfl) (fun _ _ _ h => h) (Or.inl ⟨by rfl, fun w' hS => (by go_simp)⟩) k1 ?_
        try simp only [Go.Act.put, List.setIfInBounds_toArray, List.set_cons_zero, List.set_cons_succ]
        refine wpH_take (i := 21) (v := (.agg #[.int .u16 x.1, .string x.2])) (some 92) rfl rfl (by kernel_rfl) (by kernel_rfl) (by kernel_rfl) (fun _ _ _ h => h) (Or.inl ⟨by rfl, fun w' hS => (by have z0 := C0 _ hS; have z1 := C1 _ hS; go_simp)⟩) k1 ?_
        try simp only [Go.Act.put, List.setIfInBounds_toArray, List.set_cons_zero, List.set_cons_succ]
        refine wpH_call (i := 22) (o := { dst := some 93, op := Op.call { callee := Callee.value (Operand.func 19), args := #[Operand.tmp 88, Operand.tmp 92], argTypes := #[29, 50] }, type := 3, pos := _, after := #[{ on := 17, ground := Ground.data }, { on := 21, ground := Ground.data }, { on := 11, ground := Ground.chain }, { on := 11, ground := Ground.guard }], guard := some (11, false) }) (by kernel_rfl) rfl (fun K' hK => ?_)
        rw [if_pos (by rfl)]
        go_simp
        refine (HC.out _ k1).mono ?_
        rintro e v2 ⟨rfl, t2⟩
        have k2 := k1.trans' t2
        clear t2
        refine hK.out _ _ k2 ?_
        clear hK
        try simp only [Go.Act.put, List.setIfInBounds_toArray, List.set_cons_zero, List.set_cons_succ]
        refine wpH_take (i := 23) (v := (.bool false)) (some 94) rfl rfl (by kernel_rfl) (by kernel_rfl) (by kernel_rfl) (fun _ _ _ h => h) (Or.inl ⟨by rfl, fun w' hS => (by go_simp)⟩) k2 ?_
        try simp only [Go.Act.put, List.setIfInBounds_toArray, List.set_cons_zero, List.set_cons_succ]
        refine wpH_take (i := 24) (v := (.bool false)) (some 95) rfl rfl (by kernel_rfl) (by kernel_rfl) (by kernel_rfl) (fun _ _ _ h => h) (Or.inl ⟨by rfl, fun w' hS => (by go_simp)⟩) k2 ?_
        try simp only [Go.Act.put, List.setIfInBounds_toArray, List.set_cons_zero, List.set_cons_succ]
        refine wpAnyH_done (by kernel_rfl) ?_ _
        go_wp2
        exact ⟨⟨i + 1, by omega, rfl, k2⟩, by simp [intOf]; omega⟩
      · have zi : ¬ (i : Int) < (m8 : Int) := by omega
        go_wp2
        go_loopw [15] (fun s15 wq => ∃ i : Nat, i ≤ ks.length ∧ s15 = .int .i64 i ∧ Touch [] W8 wq) (fun s15 _ => ks.length - (intOf s15).toNat)
        case atStart => exact ⟨0, Nat.zero_le _, rfl, T⟩
        case round =>
          clear T zi hlt hi
          obtain ⟨j, hj, rfl, T⟩ := hrel
          by_cases hlt : j < ks.length
          · have zj : (j : Int) < (ks.length : Int) := by omega
            obtain ⟨ib, io, ic, kb, off, kc, e1, e2, x, y, okx, oky, hcell⟩ := H.out.key hlt
            cases e1
            cases e2
            have HCX := hid (fun w' (t : Touch [] W8 w') => (H.out.keep t).cnt okx)
            have HCY := hid (fun w' (t : Touch [] W8 w') => (H.out.keep t).cnt oky)
            have HBE := hid (fun w' (t : Touch [] W8 w') => (H.out.keep t).bet oky okx)
            have HRX := hid (ref_ x)
            have HRY := hid (ref_ y)
            have A0 := fun w' t => (hcell w' t).1
            have A1 := fun w' t => (hcell w' t).2.1
            have B0 := fun w' t => (hcell w' t).2.2.1
            have B1 := fun w' t => (hcell w' t).2.2.2.1
            have C0 := fun w' t => (hcell w' t).2.2.2.2.1
            have C1 := fun w' t => (hcell w' t).2.2.2.2.2
            have M0 : ∀ w', Touch [] W8 w' → w'.cell? ⟨mb, 0, none⟩ = some (.int .i64 (X.b : Nat)) := fun w' t => cell_at (t.keep H.out.b (by simp)) rfl
            have M1 : ∀ w', Touch [] W8 w' → w'.cell? ⟨mb, 1, none⟩ = some (.slice (some ⟨G, 0, none⟩) X.r cp) := fun w' t => cell_at (t.keep H.out.b (by simp)) rfl
            have M2 : ∀ w', Touch [] W8 w' → w'.cell? ⟨mb, 2, none⟩ = some (.int .u64 (X.t : Nat)) := fun w' t => cell_at (t.keep H.out.b (by simp)) rfl
            have z0 : (0 : Int) < (ks.length : Int) := by omega
            have hne : ks ≠ [] := fun e => by rw [e] at hlt; cases hlt
            clear hcell okx oky
            unfold kv at HRX HRY
            generalize cnK X x = cx at *
            generalize cnK X y = cy at *
            by_cases hxy : cx < cy
            · rw [decide_eq_true hxy] at HBE
              have zxy : (cx : Int) < (cy : Int) := by omega
              go_wp2
              refine wp_region_H (S := fun w' => Touch [] W8 w') (by kernel_rfl) ?_
              obtain ⟨WE, hWE⟩ : ∃ WE, WE = wr.drew := ⟨_, rfl⟩
              have k0 : Touch [] W8 WE := by rw [hWE]; exact T.drew
              rw [← hWE]
              clear hWE
              refine wpH_take (i := 0) (v := (.slice (some ⟨ib, io, none⟩) ks.length c4)) (some 102) rfl rfl (by kernel_rfl) (by kernel_rfl) (by kernel_rfl) (fun _ _ _ h => h) (Or.inl ⟨by rfl, fun w' hS => (by go_simp)⟩) k0 ?_
              try simp only [Go.Act.put, List.setIfInBounds_toArray, List.set_cons_zero, List.set_cons_succ]
              refine wpH_take (i := 1) (v := (.int .i64 (j : Nat))) (some 103) rfl rfl (by kernel_rfl) (by kernel_rfl) (by kernel_rfl) (fun _ _ _ h => h) (Or.inl ⟨by rfl, fun w' hS => (by go_simp)⟩) k0 ?_
              try simp only [Go.Act.put, List.setIfInBounds_toArray, List.set_cons_zero, List.set_cons_succ]
              refine wpH_take (i := 2) (v := (.pointer (some ⟨ib, io + j * 2, none⟩))) (some 104) rfl rfl (by kernel_rfl) (by kernel_rfl) (by kernel_rfl) (fun _ _ _ h => h) (Or.inl ⟨by rfl, fun w' hS => (by go_simp)⟩) k0 ?_
              try simp only [Go.Act.put, List.setIfInBounds_toArray, List.set_cons_zero, List.set_cons_succ]
              refine wpH_take (i := 3) (v := (.agg #[.int .u16 x.1, .string x.2])) (some 105) rfl rfl (by kernel_rfl) (by kernel_rfl) (by kernel_rfl) (fun _ _ _ h => h) (Or.inl ⟨by rfl, fun w' hS => (by have z0 := A0 _ hS; have z1 := A1 _ hS; go_simp)⟩) k0 ?_
              try simp only [Go.Act.put, List.setIfInBounds_toArray, List.set_cons_zero, List.set_cons_succ]
              refine wpH_take (i := 4) (v := (.slice (some ⟨kb, off, none⟩) ks.length ck)) (some 106) rfl rfl (by kernel_rfl) (by kernel_rfl) (by kernel_rfl) (fun _ _ _ h => h) (Or.inl ⟨by rfl, fun w' hS => (by go_simp)⟩) k0 ?_
              try simp only [Go.Act.put, List.setIfInBounds_toArray, List.set_cons_zero, List.set_cons_succ]
              refine wpH_take (i := 5) (v := (.int .i64 (j : Nat))) (some 107) rfl rfl (by kernel_rfl) (by kernel_rfl) (by kernel_rfl) (fun _ _ _ h => h) (Or.inl ⟨by rfl, fun w' hS => (by go_simp)⟩) k0 ?_
              try simp only [Go.Act.put, List.setIfInBounds_toArray, List.set_cons_zero, List.set_cons_succ]
              refine wpH_take (i := 6) (v := (.pointer (some ⟨kb, off + j * 2, none⟩))) (some 108) rfl rfl (by kernel_rfl) (by kernel_rfl) (by kernel_rfl) (fun _ _ _ h => h) (Or.inl ⟨by rfl, fun w' hS => (by go_simp)⟩) k0 ?_
              try simp only [Go.Act.put, List.setIfInBounds_toArray, List.set_cons_zero, List.set_cons_succ]
              refine wpH_take (i := 7) (v := (.agg #[.int .u16 x.1, .string x.2])) (some 109) rfl rfl (by kernel_rfl) (by kernel_rfl) (by kernel_rfl) (fun _ _ _ h => h) (Or.inl ⟨by rfl, fun w' hS => (by have z0 := B0 _ hS; have z1 := B1 _ hS; go_simp)⟩) k0 ?_
              try simp only [Go.Act.put, List.setIfInBounds_toArray, List.set_cons_zero, List.set_cons_succ]
              refine wpH_take (i := 8) (v := (.bool false)) (some 110) rfl rfl (by kernel_rfl) (by kernel_rfl) (by kernel_rfl) (fun _ _ _ h => h) (Or.inl ⟨by rfl, fun w' hS => (by go_simp)⟩) k0 ?_
              try simp only [Go.Act.put, List.setIfInBounds_toArray, List.set_cons_zero, List.set_cons_succ]
              refine wpH_take (i := 9) (v := (.bool false)) (some 111) rfl rfl (by kernel_rfl) (by kernel_rfl) (by kernel_rfl) (fun _ _ _ h => h) (Or.inl ⟨by rfl, fun w' hS => (by go_simp)⟩) k0 ?_
              try simp only [Go.Act.put, List.setIfInBounds_toArray, List.set_cons_zero, List.set_cons_succ]
              refine wpH_take (i := 10) (v := (.pointer (some ⟨s, 0, none⟩))) (some 112) rfl rfl (by kernel_rfl) (by kernel_rfl) (by kernel_rfl) (fun _ _ _ h => h) (Or.inl ⟨by rfl, fun w' hS => (by go_simp)⟩) k0 ?_
              try simp only [Go.Act.put, List.setIfInBounds_toArray, List.set_cons_zero, List.set_cons_succ]
              refine wpH_take (i := 11) (v := (.slice (some ⟨kb, off, none⟩) ks.length ck)) (some 113) rfl rfl (by kernel_rfl) (by kernel_rfl) (by kernel_rfl) (fun _ _ _ h => h) (Or.inl ⟨by rfl, fun w' hS => (by go_simp)⟩) k0 ?_
              try simp only [Go.Act.put, List.setIfInBounds_toArray, List.set_cons_zero, List.set_cons_succ]
              refine wpH_take (i := 12) (v := (.pointer (some ⟨kb, off, none⟩))) (some 114) rfl rfl (by kernel_rfl) (by kernel_rfl) (by kernel_rfl) (fun _ _ _ h => h) (Or.inl ⟨by rfl, fun w' hS => (by go_simp)⟩) k0 ?_
              try simp only [Go.Act.put, List.setIfInBounds_toArray, List.set_cons_zero, List.set_cons_succ]
              refine wpH_take (i := 13) (v := (.agg #[.int .u16 y.1, .string y.2])) (some 115) rfl rfl (by kernel_rfl) (by kernel_rfl) (by kernel_rfl) (fun _ _ _ h => h) (Or.inl ⟨by rfl, fun w' hS => (by have z0 := C0 _ hS; have z1 := C1 _ hS; go_simp)⟩) k0 ?_
              try simp only [Go.Act.put, List.setIfInBounds_toArray, List.set_cons_zero, List.set_cons_succ]
              refine wpH_take (i := 14) (v := (.slice (some ⟨kb, off, none⟩) ks.length ck)) (some 116) rfl rfl (by kernel_rfl) (by kernel_rfl) (by kernel_rfl) (fun _ _ _ h => h) (Or.inl ⟨by rfl, fun w' hS => (by go_simp)⟩) k0 ?_
              try simp only [Go.Act.put, List.setIfInBounds_toArray, List.set_cons_zero, List.set_cons_succ]
              refine wpH_take (i := 15) (v := (.int .i64 (j : Nat))) (some 117) rfl rfl (by kernel_rfl) (by kernel_rfl) (by kernel_rfl) (fun _ _ _ h => h) (Or.inl ⟨by rfl, fun w' hS => (by go_simp)⟩) k0 ?_
              try simp only [Go.Act.put, List.setIfInBounds_toArray, List.set_cons_zero, List.set_cons_succ]
              refine wpH_take (i := 16) (v := (.pointer (some ⟨kb, off + j * 2, none⟩))) (some 118) rfl rfl (by kernel_rfl) (by kernel_rfl) (by kernel_rfl) (fun _ _ _ h => h) (Or.inl ⟨by rfl, fun w' hS => (by go_simp)⟩) k0 ?_
              try simp only [Go.Act.put, List.setIfInBounds_toArray, List.set_cons_zero, List.set_cons_succ]
              refine wpH_take (i := 17) (v := (.agg #[.int .u16 x.1, .string x.2])) (some 119) rfl rfl (by kernel_rfl) (by kernel_rfl) (by kernel_rfl) (fun _ _ _ h => h) (Or.inl ⟨by rfl, fun w' hS => (by have z0 := B0 _ hS; have z1 := B1 _ hS; go_simp)⟩) k0 ?_
              try simp only [Go.Act.put, List.setIfInBounds_toArray, List.set_cons_zero, List.set_cons_succ]
              refine wpH_take (i := 19) (v := (.agg #[.int .i64 (X.b : Nat), .slice (some ⟨G, 0, none⟩) X.r cp, .int .u64 (X.t : Nat)])) (some 121) rfl rfl (by kernel_rfl) (by kernel_rfl) (by kernel_rfl) (fun _ _ _ h => h) (Or.inl ⟨by rfl, fun w' hS => (by have z0 := M0 _ hS; have z1 := M1 _ hS; have z2 := M2 _ hS; go_simp)⟩) k0 ?_
              try simp only [Go.Act.put, List.setIfInBounds_toArray, List.set_cons_zero, List.set_cons_succ]
              refine wpH_take (i := 20) (v := (.slice (some ⟨kb, off, none⟩) ks.length ck)) (some 122) rfl rfl (by kernel_rfl) (by kernel_rfl) (by kernel_rfl) (fun _ _ _ h => h) (Or.inl ⟨by rfl, fun w' hS => (by go_simp)⟩) k0 ?_
              try simp only [Go.Act.put, List.setIfInBounds_toArray, List.set_cons_zero, List.set_cons_succ]
              refine wpH_take (i := 21) (v := (.pointer (some ⟨kb, off, none⟩))) (some 123) rfl rfl (by kernel_rfl) (by kernel_rfl) (by kernel_rfl) (fun _ _ _ h => h) (Or.inl ⟨by rfl, fun w' hS => (by go_simp)⟩) k0 ?_
              try simp only [Go.Act.put, List.setIfInBounds_toArray, List.set_cons_zero, List.set_cons_succ]
              refine wpH_take (i := 22) (v := (.agg #[.int .u16 y.1, .string y.2])) (some 124) rfl rfl (by kernel_rfl) (by kernel_rfl) (by kernel_rfl) (fun _ _ _ h => h) (Or.inl ⟨by rfl, fun w' hS => (by have z0 := C0 _ hS; have z1 := C1 _ hS; go_simp)⟩) k0 ?_
              try simp only [Go.Act.put, List.setIfInBounds_toArray, List.set_cons_zero, List.set_cons_succ]
              refine wpH_take (i := 25) (v := (.agg #[.int .i64 (X.b : Nat), .slice (some ⟨G, 0, none⟩) X.r cp, .int .u64 (X.t : Nat)])) (some 127) rfl rfl (by kernel_rfl) (by kernel_rfl) (by kernel_rfl) (fun _ _ _ h => h) (Or.inl ⟨by rfl, fun w' hS => (by have z0 := M0 _ hS; have z1 := M1 _ hS; have z2 := M2 _ hS; go_simp)⟩) k0 ?_
              try simp only [Go.Act.put, List.setIfInBounds_toArray, List.set_cons_zero, List.set_cons_succ]
              refine wpH_take (i := 26) (v := (.slice (some ⟨kb, off, none⟩) ks.length ck)) (some 128) rfl rfl (by kernel_rfl) (by kernel_rfl) (by kernel_rfl) (fun _ _ _ h => h) (Or.inl ⟨by rfl, fun w' hS => (by go_simp)⟩) k0 ?_
              try simp only [Go.Act.put, List.setIfInBounds_toArray, List.set_cons_zero, List.set_cons_succ]
              refine wpH_take (i := 27) (v := (.int .i64 (j : Nat))) (some 129) rfl rfl (by kernel_rfl) (by kernel_rfl) (by kernel_rfl) (fun _ _ _ h => h) (Or.inl ⟨by rfl, fun w' hS => (by go_simp)⟩) k0 ?_
              try simp only [Go.Act.put, List.setIfInBounds_toArray, List.set_cons_zero, List.set_cons_succ]
              refine wpH_take (i := 28) (v := (.pointer (some ⟨kb, off + j * 2, none⟩))) (some 130) rfl rfl (by kernel_rfl) (by kernel_rfl) (by kernel_rfl) (fun _ _ _ h => h) (Or.inl ⟨by rfl, fun w' hS => (by go_simp)⟩) k0 ?_
              try simp only [Go.Act.put, List.setIfInBounds_toArray, List.set_cons_zero, List.set_cons_succ]
              refine wpH_take (i := 29) (v := (.agg #[.int .u16 x.1, .string x.2])) (some 131) rfl rfl (by kernel_rfl) (by kernel_rfl) (by kernel_rfl) (fun _ _ _ h => h) (Or.inl ⟨by rfl, fun w' hS => (by have z0 := B0 _ hS; have z1 := B1 _ hS; go_simp)⟩) k0 ?_
              try simp only [Go.Act.put, List.setIfInBounds_toArray, List.set_cons_zero, List.set_cons_succ]
              refine wpH_call (i := 18) (o := { dst := some 120, op := Op.call { callee := Callee.value (Operand.func 20), args := #[Operand.tmp 112, Operand.tmp 115, Operand.tmp 119], argTypes := #[25, 43, 43] }, type := 4, pos := _, after := #[{ on := 10, ground := Ground.data }, { on := 13, ground := Ground.data }, { on := 17, ground := Ground.data }, { on := 9, ground := Ground.chain }, { on := 9, ground := Ground.guard }], guard := some (9, false) }) (by kernel_rfl) rfl (fun K' hK => ?_)
              rw [if_pos (by rfl)]
              go_simp
              refine (HBE.out _ k0).mono ?_
              rintro e v1 ⟨rfl, t1⟩
              have k1 := k0.trans' t1
              clear t1
              refine hK.out _ _ k1 ?_
              clear hK
              try simp only [Go.Act.put, List.setIfInBounds_toArray, List.set_cons_zero, List.set_cons_succ]
              refine wpH_call (i := 23) (o := { dst := some 125, op := Op.call { callee := Callee.value (Operand.func 18), args := #[Operand.tmp 124], argTypes := #[43] }, type := 50, pos := _, after := #[{ on := 22, ground := Ground.data }, { on := 18, ground := Ground.chain }, { on := 9, ground := Ground.guard }], guard := some (9, false) }) (by kernel_rfl) rfl (fun K' hK => ?_)
              rw [if_pos (by rfl)]
              go_simp
              refine (HRY.out _).mono ?_
              rintro e v2 ⟨rfl, t2⟩
              have k2 := k1.trans' t2
              clear t2
              refine hK.out _ _ k2 ?_
              clear hK
              try simp only [Go.Act.put, List.setIfInBounds_toArray, List.set_cons_zero, List.set_cons_succ]
              refine wpH_call (i := 24) (o := { dst := some 126, op := Op.call { callee := Callee.value (Operand.func 19), args := #[Operand.tmp 121, Operand.tmp 125], argTypes := #[29, 50] }, type := 3, pos := _, after := #[{ on := 19, ground := Ground.data }, { on := 23, ground := Ground.data }, { on := 23, ground := Ground.chain }, { on := 9, ground := Ground.guard }], guard := some (9, false) }) (by kernel_rfl) rfl (fun K' hK => ?_)
              rw [if_pos (by rfl)]
              go_simp
              refine (HCY.out _ k2).mono ?_
              rintro e v3 ⟨rfl, t3⟩
              have k3 := k2.trans' t3
              clear t3
              refine hK.out _ _ k3 ?_
              clear hK
              try simp only [Go.Act.put, List.setIfInBounds_toArray, List.set_cons_zero, List.set_cons_succ]
              refine wpH_call (i := 30) (o := { dst := some 132, op := Op.call { callee := Callee.value (Operand.func 18), args := #[Operand.tmp 131], argTypes := #[43] }, type := 50, pos := _, after := #[{ on := 29, ground := Ground.data }, { on := 24, ground := Ground.chain }, { on := 9, ground := Ground.guard }], guard := some (9, false) }) (by kernel_rfl) rfl (fun K' hK => ?_)
              rw [if_pos (by rfl)]
              go_simp
              refine (HRX.out _).mono ?_
              rintro e v4 ⟨rfl, t4⟩
              have k4 := k3.trans' t4
              clear t4
              refine hK.out _ _ k4 ?_
              clear hK
              try simp only [Go.Act.put, List.setIfInBounds_toArray, List.set_cons_zero, List.set_cons_succ]
              refine wpH_call (i := 31) (o := { dst := some 133, op := Op.call { callee := Callee.value (Operand.func 19), args := #[Operand.tmp 127, Operand.tmp 132], argTypes := #[29, 50] }, type := 3, pos := _, after := #[{ on := 25, ground := Ground.data }, { on := 30, ground := Ground.data }, { on := 30, ground := Ground.chain }, { on := 9, ground := Ground.guard }], guard := some (9, false) }) (by kernel_rfl) rfl (fun K' hK => ?_)
              rw [if_pos (by rfl)]
              go_simp
              refine (HCX.out _ k4).mono ?_
              rintro e v5 ⟨rfl, t5⟩
              have k5 := k4.trans' t5
              clear t5
              refine hK.out _ _ k5 ?_
              clear hK
              try simp only [Go.Act.put, List.setIfInBounds_toArray, List.set_cons_zero, List.set_cons_succ]
              refine wpH_take (i := 32) (v := (.bool true)) (some 134) rfl rfl (by kernel_rfl) (by kernel_rfl) (by kernel_rfl) (fun _ _ _ h => h) (Or.inl ⟨by rfl, fun w' hS => (by go_simp)⟩) k5 ?_
              try simp only [Go.Act.put, List.setIfInBounds_toArray, List.set_cons_zero, List.set_cons_succ]
              refine wpH_take (i := 33) (v := (.bool false)) (some 135) rfl rfl (by kernel_rfl) (by kernel_rfl) (by kernel_rfl) (fun _ _ _ h => h) (Or.inl ⟨by rfl, fun w' hS => (by go_simp)⟩) k5 ?_
              try simp only [Go.Act.put, List.setIfInBounds_toArray, List.set_cons_zero, List.set_cons_succ]
              refine wpH_take (i := 34) (v := (.bool false)) (some 136) rfl rfl (by kernel_rfl) (by kernel_rfl) (by kernel_rfl) (fun _ _ _ h => h) (Or.inl ⟨by rfl, fun w' hS => (by go_simp)⟩) k5 ?_
              try simp only [Go.Act.put, List.setIfInBounds_toArray, List.set_cons_zero, List.set_cons_succ]
              refine wpAnyH_done (by kernel_rfl) ?_ _
              go_wp2
              exact ⟨⟨j + 1, by omega, rfl, k5⟩, by simp [intOf]; omega⟩
            · rw [decide_eq_false hxy] at HBE
              have zxy : (cy : Int) ≤ (cx : Int) := by omega
              have zxy2 : cy ≤ cx := by omega
              go_wp2
              refine wp_region_H (S := fun w' => Touch [] W8 w') (by kernel_rfl) ?_
              obtain ⟨WE, hWE⟩ : ∃ WE, WE = wr.drew := ⟨_, rfl⟩
              have k0 : Touch [] W8 WE := by rw [hWE]; exact T.drew
              rw [← hWE]
              clear hWE
              refine wpH_take (i := 0) (v := (.slice (some ⟨ib, io, none⟩) ks.length c4)) (some 102) rfl rfl (by kernel_rfl) (by kernel_rfl) (by kernel_rfl) (fun _ _ _ h => h) (Or.inl ⟨by rfl, fun w' hS => (by go_simp)⟩) k0 ?_
              try simp only [Go.Act.put, List.setIfInBounds_toArray, List.set_cons_zero, List.set_cons_succ]
              refine wpH_take (i := 1) (v := (.int .i64 (j : Nat))) (some 103) rfl rfl (by kernel_rfl) (by kernel_rfl) (by kernel_rfl) (fun _ _ _ h => h) (Or.inl ⟨by rfl, fun w' hS => (by go_simp)⟩) k0 ?_
              try simp only [Go.Act.put, List.setIfInBounds_toArray, List.set_cons_zero, List.set_cons_succ]
              refine wpH_take (i := 2) (v := (.pointer (some ⟨ib, io + j * 2, none⟩))) (some 104) rfl rfl (by kernel_rfl) (by kernel_rfl) (by kernel_rfl) (fun _ _ _ h => h) (Or.inl ⟨by rfl, fun w' hS => (by go_simp)⟩) k0 ?_
              try simp only [Go.Act.put, List.setIfInBounds_toArray, List.set_cons_zero, List.set_cons_succ]
              refine wpH_take (i := 3) (v := (.agg #[.int .u16 x.1, .string x.2])) (some 105) rfl rfl (by kernel_rfl) (by kernel_rfl) (by kernel_rfl) (fun _ _ _ h => h) (Or.inl ⟨by rfl, fun w' hS => (by have z0 := A0 _ hS; have z1 := A1 _ hS; go_simp)⟩) k0 ?_
              try simp only [Go.Act.put, List.setIfInBounds_toArray, List.set_cons_zero, List.set_cons_succ]
              refine wpH_take (i := 4) (v := (.slice (some ⟨kb, off, none⟩) ks.length ck)) (some 106) rfl rfl (by kernel_rfl) (by kernel_rfl) (by kernel_rfl) (fun _ _ _ h => h) (Or.inl ⟨by rfl, fun w' hS => (by go_simp)⟩) k0 ?_
              try simp only [Go.Act.put, List.setIfInBounds_toArray, List.set_cons_zero, List.set_cons_succ]
              refine wpH_take (i := 5) (v := (.int .i64 (j : Nat))) (some 107) rfl rfl (by kernel_rfl) (by kernel_rfl) (by kernel_rfl) (fun _ _ _ h => h) (Or.inl ⟨by rfl, fun w' hS => (by go_simp)⟩) k0 ?_
              try simp only [Go.Act.put, List.setIfInBounds_toArray, List.set_cons_zero, List.set_cons_succ]
              refine wpH_take (i := 6) (v := (.pointer (some ⟨kb, off + j * 2, none⟩))) (some 108) rfl rfl (by kernel_rfl) (by kernel_rfl) (by kernel_rfl) (fun _ _ _ h => h) (Or.inl ⟨by rfl, fun w' hS => (by go_simp)⟩) k0 ?_
              try simp only [Go.Act.put, List.setIfInBounds_toArray, List.set_cons_zero, List.set_cons_succ]
              refine wpH_take (i := 7) (v := (.agg #[.int .u16 x.1, .string x.2])) (some 109) rfl rfl (by kernel_rfl) (by kernel_rfl) (by kernel_rfl) (fun _ _ _ h => h) (Or.inl ⟨by rfl, fun w' hS => (by have z0 := B0 _ hS; have z1 := B1 _ hS; go_simp)⟩) k0 ?_
              try simp only [Go.Act.put, List.setIfInBounds_toArray, List.set_cons_zero, List.set_cons_succ]
              refine wpH_take (i := 8) (v := (.bool false)) (some 110) rfl rfl (by kernel_rfl) (by kernel_rfl) (by kernel_rfl) (fun _ _ _ h => h) (Or.inl ⟨by rfl, fun w' hS => (by go_simp)⟩) k0 ?_
              try simp only [Go.Act.put, List.setIfInBounds_toArray, List.set_cons_zero, List.set_cons_succ]
              refine wpH_take (i := 9) (v := (.bool false)) (some 111) rfl rfl (by kernel_rfl) (by kernel_rfl) (by kernel_rfl) (fun _ _ _ h => h) (Or.inl ⟨by rfl, fun w' hS => (by go_simp)⟩) k0 ?_
              try simp only [Go.Act.put, List.setIfInBounds_toArray, List.set_cons_zero, List.set_cons_succ]
              refine wpH_take (i := 10) (v := (.pointer (some ⟨s, 0, none⟩))) (some 112) rfl rfl (by kernel_rfl) (by kernel_rfl) (by kernel_rfl) (fun _ _ _ h => h) (Or.inl ⟨by rfl, fun w' hS => (by go_simp)⟩) k0 ?_
              try simp only [Go.Act.put, List.setIfInBounds_toArray, List.set_cons_zero, List.set_cons_succ]
              refine wpH_take (i := 11) (v := (.slice (some ⟨kb, off, none⟩) ks.length ck)) (some 113) rfl rfl (by kernel_rfl) (by kernel_rfl) (by kernel_rfl) (fun _ _ _ h => h) (Or.inl ⟨by rfl, fun w' hS => (by go_simp)⟩) k0 ?_
              try simp only [Go.Act.put, List.setIfInBounds_toArray, List.set_cons_zero, List.set_cons_succ]
              refine wpH_take (i := 12) (v := (.pointer (some ⟨kb, off, none⟩))) (some 114) rfl rfl (by kernel_rfl) (by kernel_rfl) (by kernel_rfl) (fun _ _ _ h => h) (Or.inl ⟨by rfl, fun w' hS => (by go_simp)⟩) k0 ?_
              try simp only [Go.Act.put, List.setIfInBounds_toArray, List.set_cons_zero, List.set_cons_succ]
              refine wpH_take (i := 13) (v := (.agg #[.int .u16 y.1, .string y.2])) (some 115) rfl rfl (by kernel_rfl) (by kernel_rfl) (by kernel_rfl) (fun _ _ _ h => h) (Or.inl ⟨by rfl, fun w' hS => (by have z0 := C0 _ hS; have z1 := C1 _ hS; go_simp)⟩) k0 ?_
              try simp only [Go.Act.put, List.setIfInBounds_toArray, List.set_cons_zero, List.set_cons_succ]
              refine wpH_take (i := 14) (v := (.slice (some ⟨kb, off, none⟩) ks.length ck)) (some 116) rfl rfl (by kernel_rfl) (by kernel_rfl) (by kernel_rfl) (fun _ _ _ h => h) (Or.inl ⟨by rfl, fun w' hS => (by go_simp)⟩) k0 ?_
              try simp only [Go.Act.put, List.setIfInBounds_toArray, List.set_cons_zero, List.set_cons_succ]
              refine wpH_take (i := 15) (v := (.int .i64 (j : Nat))) (some 117) rfl rfl (by kernel_rfl) (by kernel_rfl) (by kernel_rfl) (fun _ _ _ h => h) (Or.inl ⟨by rfl, fun w' hS => (by go_simp)⟩) k0 ?_
              try simp only [Go.Act.put, List.setIfInBounds_toArray, List.set_cons_zero, List.set_cons_succ]
              refine wpH_take (i := 16) (v := (.pointer (some ⟨kb, off + j * 2, none⟩))) (some 118) rfl rfl (by kernel_rfl) (by kernel_rfl) (by kernel_rfl) (fun _ _ _ h => h) (Or.inl ⟨by rfl, fun w' hS => (by go_simp)⟩) k0 ?_
              try simp only [Go.Act.put, List.setIfInBounds_toArray, List.set_cons_zero, List.set_cons_succ]
              refine wpH_take (i := 17) (v := (.agg #[.int .u16 x.1, .string x.2])) (some 119) rfl rfl (by kernel_rfl) (by kernel_rfl) (by kernel_rfl) (fun _ _ _ h => h) (Or.inl ⟨by rfl, fun w' hS => (by have z0 := B0 _ hS; have z1 := B1 _ hS; go_simp)⟩) k0 ?_
              try simp only [Go.Act.put, List.setIfInBounds_toArray, List.set_cons_zero, List.set_cons_succ]
              refine wpH_take (i := 19) (v := (.agg #[.int .i64 (X.b : Nat), .slice (some ⟨G, 0, none⟩) X.r cp, .int .u64 (X.t : Nat)])) (some 121) rfl rfl (by kernel_rfl) (by kernel_rfl) (by kernel_rfl) (fun _ _ _ h => h) (Or.inl ⟨by rfl, fun w' hS => (by have z0 := M0 _ hS; have z1 := M1 _ hS; have z2 := M2 _ hS; go_simp)⟩) k0 ?_
              try simp only [Go.Act.put, List.setIfInBounds_toArray, List.set_cons_zero, List.set_cons_succ]
              refine wpH_take (i := 20) (v := (.slice (some ⟨kb, off, none⟩) ks.length ck)) (some 122) rfl rfl (by kernel_rfl) (by kernel_rfl) (by kernel_rfl) (fun _ _ _ h => h) (Or.inl ⟨by rfl, fun w' hS => (by go_simp)⟩) k0 ?_
              try simp only [Go.Act.put, List.setIfInBounds_toArray, List.set_cons_zero, List.set_cons_succ]
              refine wpH_take (i := 21) (v := (.pointer (some ⟨kb, off, none⟩))) (some 123) rfl rfl (by kernel_rfl) (by kernel_rfl) (by kernel_rfl) (fun _ _ _ h => h) (Or.inl ⟨by rfl, fun w' hS => (by go_simp)⟩) k0 ?_
              try simp only [Go.Act.put, List.setIfInBounds_toArray, List.set_cons_zero, List.set_cons_succ]
              refine wpH_take (i := 22) (v := (.agg #[.int .u16 y.1, .string y.2])) (some 124) rfl rfl (by kernel_rfl) (by kernel_rfl) (by kernel_rfl) (fun _ _ _ h => h) (Or.inl ⟨by rfl, fun w' hS => (by have z0 := C0 _ hS; have z1 := C1 _ hS; go_simp)⟩) k0 ?_
              try simp only [Go.Act.put, List.setIfInBounds_toArray, List.set_cons_zero, List.set_cons_succ]
              refine wpH_take (i := 25) (v := (.agg #[.int .i64 (X.b : Nat), .slice (some ⟨G, 0, none⟩) X.r cp, .int .u64 (X.t : Nat)])) (some 127) rfl rfl (by kernel_rfl) (by kernel_rfl) (by kernel_rfl) (fun _ _ _ h => h) (Or.inl ⟨by rfl, fun w' hS => (by have z0 := M0 _ hS; have z1 := M1 _ hS; have z2 := M2 _ hS; go_simp)⟩) k0 ?_
              try simp only [Go.Act.put, List.setIfInBounds_toArray, List.set_cons_zero, List.set_cons_succ]
              refine wpH_take (i := 26) (v := (.slice (some ⟨kb, off, none⟩) ks.length ck)) (some 128) rfl rfl (by kernel_rfl) (by kernel_rfl) (by kernel_rfl) (fun _ _ _ h => h) (Or.inl ⟨by rfl, fun w' hS => (by go_simp)⟩) k0 ?_
              try simp only [Go.Act.put, List.setIfInBounds_toArray, List.set_cons_zero, List.set_cons_succ]
              refine wpH_take (i := 27) (v := (.int .i64 (j : Nat))) (some 129) rfl rfl (by kernel_rfl) (by kernel_rfl) (by kernel_rfl) (fun _ _ _ h => h) (Or.inl ⟨by rfl, fun w' hS => (by go_simp)⟩) k0 ?_
              try simp only [Go.Act.put, List.setIfInBounds_toArray, List.set_cons_zero, List.set_cons_succ]
              refine wpH_take (i := 28) (v := (.pointer (some ⟨kb, off + j * 2, none⟩))) (some 130) rfl rfl (by kernel_rfl) (by kernel_rfl) (by kernel_rfl) (fun _ _ _ h => h) (Or.inl ⟨by rfl, fun w' hS => (by go_simp)⟩) k0 ?_
              try simp only [Go.Act.put, List.setIfInBounds_toArray, List.set_cons_zero, List.set_cons_succ]
              refine wpH_take (i := 29) (v := (.agg #[.int .u16 x.1, .string x.2])) (some 131) rfl rfl (by kernel_rfl) (by kernel_rfl) (by kernel_rfl) (fun _ _ _ h => h) (Or.inl ⟨by rfl, fun w' hS => (by have z0 := B0 _ hS; have z1 := B1 _ hS; go_simp)⟩) k0 ?_
              try simp only [Go.Act.put, List.setIfInBounds_toArray, List.set_cons_zero, List.set_cons_succ]
              refine wpH_call (i := 18) (o := { dst := some 120, op := Op.call { callee := Callee.value (Operand.func 20), args := #[Operand.tmp 112, Operand.tmp 115, Operand.tmp 119], argTypes := #[25, 43, 43] }, type := 4, pos := _, after := #[{ on := 10, ground := Ground.data }, { on := 13, ground := Ground.data }, { on := 17, ground := Ground.data }, { on := 9, ground := Ground.chain }, { on := 9, ground := Ground.guard }], guard := some (9, false) }) (by kernel_rfl) rfl (fun K' hK => ?_)
              rw [if_pos (by rfl)]
              go_simp
              refine (HBE.out _ k0).mono ?_
              rintro e v1 ⟨rfl, t1⟩
              have k1 := k0.trans' t1
              clear t1
              refine hK.out _ _ k1 ?_
              clear hK
              try simp only [Go.Act.put, List.setIfInBounds_toArray, List.set_cons_zero, List.set_cons_succ]
              refine wpH_call (i := 23) (o := { dst := some 125, op := Op.call { callee := Callee.value (Operand.func 18), args := #[Operand.tmp 124], argTypes := #[43] }, type := 50, pos := _, after := #[{ on := 22, ground := Ground.data }, { on := 18, ground := Ground.chain }, { on := 9, ground := Ground.guard }], guard := some (9, false) }) (by kernel_rfl) rfl (fun K' hK => ?_)
              rw [if_pos (by rfl)]
              go_simp
              refine (HRY.out _).mono ?_
              rintro e v2 ⟨rfl, t2⟩
              have k2 := k1.trans' t2
              clear t2
              refine hK.out _ _ k2 ?_
              clear hK
              try simp only [Go.Act.put, List.setIfInBounds_toArray, List.set_cons_zero, List.set_cons_succ]
              refine wpH_call (i := 24) (o := { dst := some 126, op := Op.call { callee := Callee.value (Operand.func 19), args := #[Operand.tmp 121, Operand.tmp 125], argTypes := #[29, 50] }, type := 3, pos := _, after := #[{ on := 19, ground := Ground.data }, { on := 23, ground := Ground.data }, { on := 23, ground := Ground.chain }, { on := 9, ground := Ground.guard }], guard := some (9, false) }) (by kernel_rfl) rfl (fun K' hK => ?_)
              rw [if_pos (by rfl)]
              go_simp
              refine (HCY.out _ k2).mono ?_
              rintro e v3 ⟨rfl, t3⟩
              have k3 := k2.trans' t3
              clear t3
              refine hK.out _ _ k3 ?_
              clear hK
              try simp only [Go.Act.put, List.setIfInBounds_toArray, List.set_cons_zero, List.set_cons_succ]
              refine wpH_call (i := 30) (o := { dst := some 132, op := Op.call { callee := Callee.value (Operand.func 18), args := #[Operand.tmp 131], argTypes := #[43] }, type := 50, pos := _, after := #[{ on := 29, ground := Ground.data }, { on := 24, ground := Ground.chain }, { on := 9, ground := Ground.guard }], guard := some (9, false) }) (by kernel_rfl) rfl (fun K' hK => ?_)
              rw [if_pos (by rfl)]
              go_simp
              refine (HRX.out _).mono ?_
              rintro e v4 ⟨rfl, t4⟩
              have k4 := k3.trans' t4
              clear t4
              refine hK.out _ _ k4 ?_
              clear hK
              try simp only [Go.Act.put, List.setIfInBounds_toArray, List.set_cons_zero, List.set_cons_succ]
              refine wpH_call (i := 31) (o := { dst := some 133, op := Op.call { callee := Callee.value (Operand.func 19), args := #[Operand.tmp 127, Operand.tmp 132], argTypes := #[29, 50] }, type := 3, pos := _, after := #[{ on := 25, ground := Ground.data }, { on := 30, ground := Ground.data }, { on := 30, ground := Ground.chain }, { on := 9, ground := Ground.guard }], guard := some (9, false) }) (by kernel_rfl) rfl (fun K' hK => ?_)
              rw [if_pos (by rfl)]
              go_simp
              refine (HCX.out _ k4).mono ?_
              rintro e v5 ⟨rfl, t5⟩
              have k5 := k4.trans' t5
              clear t5
              refine hK.out _ _ k5 ?_
              clear hK
              try simp only [Go.Act.put, List.setIfInBounds_toArray, List.set_cons_zero, List.set_cons_succ]
              refine wpH_take (i := 32) (v := (.bool false)) (some 134) rfl rfl (by kernel_rfl) (by kernel_rfl) (by kernel_rfl) (fun _ _ _ h => h) (Or.inl ⟨by rfl, fun w' hS => (by go_simp)⟩) k5 ?_
              try simp only [Go.Act.put, List.setIfInBounds_toArray, List.set_cons_zero, List.set_cons_succ]
              refine wpH_take (i := 33) (v := (.bool false)) (some 135) rfl rfl (by kernel_rfl) (by kernel_rfl) (by kernel_rfl) (fun _ _ _ h => h) (Or.inl ⟨by rfl, fun w' hS => (by go_simp)⟩) k5 ?_
              try simp only [Go.Act.put, List.setIfInBounds_toArray, List.set_cons_zero, List.set_cons_succ]
              refine wpH_take (i := 34) (v := (.bool false)) (some 136) rfl rfl (by kernel_rfl) (by kernel_rfl) (by kernel_rfl) (fun _ _ _ h => h) (Or.inl ⟨by rfl, fun w' hS => (by go_simp)⟩) k5 ?_
              try simp only [Go.Act.put, List.setIfInBounds_toArray, List.set_cons_zero, List.set_cons_succ]
              refine wpAnyH_done (by kernel_rfl) ?_ _
              go_wp2
              exact ⟨⟨j + 1, by omega, rfl, k5⟩, by simp [intOf]; omega⟩
          · have zj : ¬ (j : Int) < (ks.length : Int) := by omega
            have HF := hid (H.out.t.trans' T)
            clear H
            go_wp2
            go_ret
            exact ⟨rfl, HF.out⟩
end Go.Proofs.Ytbadlkjffelkhaa.Sk
