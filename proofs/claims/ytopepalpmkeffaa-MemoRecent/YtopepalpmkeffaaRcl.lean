/- Of every configuration and list of acts the keys that were used last are there: the walk of the law; the list's length is within the form's reach. -/
import Derived.Test.YtopepalpmkeffaaRcw
import Derived.Deep.CutRange
import Derived.Deep.CutBlock
namespace Go.Proofs.Ytopepalpmkeffaa
open Go.RowKit Go.Sort Go.Maps Go.ChangeMaps Go.WideMaps
set_option linter.unusedVariables false
set_option linter.unusedSimpArgs false
theorem row_addr {w : World} {base e : Nat} {a : Option Addr} {c : Nat} {u : List K} (h : w.ownsRow base e 2 (.slice a u.length c) u.length (cellsK u)) {j : Nat} (hj : j < u.length) : ∃ g, a = some ⟨g, 0, none⟩ := by
  obtain ⟨h1, h2 | ⟨g, cap, cur, he, r⟩⟩ := h
  · have := h2.2
    omega
  · injection he with e1 e2 e3
    exact ⟨g, e1⟩
def cT (c : Cf) : Cf := { c with t := 4611686018427387904 }
set_option maxHeartbeats 1000000 in
theorem law7_no (w : World) (c : Cf) (av : Option Addr) (A cv' : Nat) (hc : okC (cT c) = false) : Calls Try.prog 7 #[cv c, .slice av A cv'] w fun e w' => e = .returned (.bool true) ∧ Touch [] w w' := by
  have HN := hid (new9_no (w.alloc (cbx (cT c) 23)) (cT c) hc)
  clear hc
  unfold cv cT cbx at *
  simp only at HN
  go_enter Try.func7, Try.ntmps7
  go_wp2_with (first
    | (go_at_call 9; refine HN.out.mono ?_; rintro e w2 ⟨rfl, t2⟩; have T2 := hid t2; clear t2)
    | (go_at_call 8; have q3 := T3; refine (awake8 _).mono ?_; rintro e w4 ⟨rfl, t4⟩; have T4 := hid t4; clear t4)
    | (go_at_call 8; refine (awake8 _).mono ?_; rintro e w3 ⟨rfl, t3⟩; have T3 := hid t3; clear t3))
  go_ret
  exact ⟨rfl, (((Touch.refl _ _).alloc _).trans' T2.out).trans' (T3.out.trans' T4.out)⟩

set_option maxHeartbeats 8000000 in
set_option maxRecDepth 100000 in
theorem law7_ok (w : World) (c : Cf) (xs : List ActM) (v : Value) (wc : Wc c) (hv : SlM w v xs) (hw : ∀ x ∈ xs, WfM x) (hL : xs.length ≤ 1759218604390) (hc : okC (cT c) = true) :
    Calls Try.prog 7 #[cv c, v] w fun e w' => e = .returned (.bool true) ∧ Touch [] w w' := by
  obtain ⟨avv, cv', rfl⟩ : ∃ av cv, v = .slice av xs.length cv := by
    rcases hv with ⟨rfl, a, c, rfl⟩ | ⟨b, off, cap, rfl, _⟩
    · exact ⟨a, c, rfl⟩
    · exact ⟨_, _, rfl⟩
  have HRow : Hid (xs.length = 0 ∨ ∃ b off, avv = some ⟨b, off, none⟩ ∧ RowM w b off xs) := by
    rcases hv with ⟨rfl, _⟩ | ⟨b, off, cap, e, r⟩
    · exact Or.inl rfl
    · injection e with e1 e2 e3
      exact Or.inr ⟨b, off, e1, r⟩
  have HWf := hid hw
  clear hv hw
  obtain ⟨A, hA⟩ : ∃ A, A = xs.length := ⟨_, rfl⟩
  have HAx := hid hA
  rw [← hA] at HRow hL ⊢
  clear hA
  obtain ⟨e, he⟩ : ∃ e : Nat, (cT c).e = (e : Int) := ⟨(cT c).e.toNat, by have := (okC_e hc).1; omega⟩
  have hel : e ≤ 65536 := by have := (okC_e hc).2; omega
  have HE := hid he
  have TV : Hid (Touch [] w (w.alloc (cbx (cT c) 23))) := (Touch.refl _ _).alloc _
  have hB0 := heap_alloc_new w (cbx (cT c) 23)
  have HN : Hid (Calls Try.prog 9 #[.agg #[.int .i64 4611686018427387904, .int .i64 c.n, .int .i64 c.s, .int .i64 c.e, .int .i64 c.f, .int .i64 c.b, .int .i64 c.d]] (w.alloc (.cells #[.int .i64 4611686018427387904, .int .i64 c.n, .int .i64 c.s, .int .i64 c.e, .int .i64 c.f, .int .i64 c.b, .int .i64 c.d] 23)) fun x w' => ∃ m, x = .returned (.tuple #[.pointer (some ⟨m, 0, none⟩), .int .i64 0]) ∧ ∃ F, Mq w' m F (cT c) 0 [] ∧ (∀ k ∈ F, w.heap.size ≤ k) ∧ w'.heap[w.heap.size]? = some (cbx (cT c) 23) ∧ Touch [] w w') := by
    refine (new9_ok (w.alloc (cbx (cT c) 23)) (cT c) hc ⟨by show (4611686018427387904 : Int) ≤ _; decide, wc.2.1.hi, wc.2.2.1.hi⟩).mono ?_
    rintro x w' ⟨m, rfl, F, n1, n2, n3⟩
    exact ⟨m, rfl, F, n1, fun k hk => by have := n2 k hk; rw [World.size_alloc] at this; omega, n3.keep hB0 (by simp), TV.out.trans' n3⟩
  have HST : Hid (∀ m w2 w3, (∃ F, Mq w2 m F (cT c) 0 [] ∧ (∀ k ∈ F, w.heap.size ≤ k) ∧ w2.heap[w.heap.size]? = some (cbx (cT c) 23) ∧ Touch [] w w2) → Touch [] w2 w3 → Rs w m (cT c) (w3.alloc (.cells #[] 39)) (.slice (some ⟨w3.heap.size, 0, none⟩) 0 0) [] [] ∧ Rv e [] []) := fun m w2 w3 q t3 => by
    obtain ⟨F, n1, n2, n3, n4⟩ := q
    have t4 : Touch [] w2 (w3.alloc (.cells #[] 39)) := t3.alloc _
    exact ⟨⟨⟨F, n1.keep0 t4, n2⟩, t4.keep n3 (by simp), ⟨rfl, Or.inr ⟨w3.heap.size, 0, #[], rfl, Nat.le_trans n4.size t3.size, heap_alloc_new w3 _, Nat.le_refl _, by unfold maxLen; omega, rfl, rfl⟩⟩, fun _ e => (by cases e), n4.trans' t4⟩, by simp [sc, keysL], fun _ e => (by cases e)⟩
  obtain ⟨i3, hi, hz0, hz1, hz2⟩ := info_parts info36
  have HI : Hid (Try.prog.info? 39 = some i3 ∧ i3.zero = some (.agg #[.int .u16 0, .string ⟨#[]⟩]) ∧ i3.size = 2 ∧ i3.bytes = 24) := ⟨hi, hz0, hz1, hz2⟩
  clear hi hz0 hz1 hz2
  have hmm := @run_makeMap Try.prog
  have HB : Hid (∀ wx : World, wx.heap[w.heap.size]? = some (cbx (cT c) 23) → wx.cell? ⟨w.heap.size, 3, none⟩ = some (.int .i64 (e : Int))) := fun wx hx => by
    have := (C7.mk' hx).c3
    rw [he] at this
    exact this
  have HT : Hid ((cT c).t = MT) := rfl
  clear hB0 hc wc he TV
  have zL : (A : Int) ≤ 1759218604390 := by omega
  unfold cv
  go_enter Try.func7, Try.ntmps7
  go_upto_block 0 with (first
    | (go_at_call 9; refine HN.out.mono ?_; rintro x w2 ⟨m, rfl, q2⟩; have Q2 := hid q2; clear q2)
    | (go_at_call 8; refine (awake8 _).mono ?_; rintro x w3 ⟨rfl, t3⟩; have T3 := hid t3; clear t3))
  have HI0 := hid (HST.out _ _ _ Q2.out T3.out)
  clear HST Q2 T3 HN
  generalize cT c = D at *
  generalize w3.heap.size = g3 at *
  generalize hWs : w3.alloc (.cells #[] 39) = W3 at *
  clear hWs
  go_wp2_with fail
  go_loopw [7, 37] (fun s7 s37 wr => ∃ (a7 : Option Addr) (n7 c7 k : Nat), s7 = .slice a7 n7 c7 ∧ s37 = .int .i64 (k : Int) ∧ k ≤ A ∧ n7 ≤ k ∧ Hid (∃ u ys, Rs w m D wr (.slice a7 n7 c7) u ys ∧ Rv e u ys ∧ n7 = u.length)) (fun _ i _ => A - (intOf i).toNat)
  case atStart => exact ⟨_, 0, 0, 0, rfl, rfl, Nat.zero_le _, Nat.le_refl _, [], [], HI0.out.1, HI0.out.2, rfl⟩
  case round =>
    clear HI0
    obtain ⟨a7, n7, c7, k, rfl, rfl, hk, hn7, HR0⟩ := hrel
    by_cases hlt : k < A
    · have zk : (k : Int) < (A : Int) := by omega
      obtain ⟨ba, off, rfl, hrow⟩ : ∃ ba off, avv = some ⟨ba, off, none⟩ ∧ RowM w ba off xs := by
        rcases HRow.out with e | e
        · omega
        · exact e
      have hnx : k < xs.length := by have := HAx.out; omega
      obtain ⟨u, ys, hrs, hrv, hnu⟩ := HR0.out
      have hr := hrow.keep hrs.t
      have q0 := hr.c0 k hnx
      have q1 := hr.c1 k hnx
      have q2 := hr.c2 k hnx
      have q3 := hr.c3 k hnx
      have q4 := hr.c4 k hnx
      have q5 := hr.c5 k hnx
      have q6 := hr.c6 k hnx
      have q7 := hr.c7 k hnx
      have q8 := hr.c8 k hnx
      have HWx := hid (HWf.out xs[k] (List.getElem_mem hnx)).2.2.2.1
      generalize xs[k] = ac at *
      clear hrow hr
      obtain ⟨W1, hW1⟩ : ∃ W1, W1 = wr.alloc (abx ac) := ⟨_, rfl⟩
      have tW1 : Touch [] wr W1 := by rw [hW1]; exact (Touch.refl _ _).alloc _
      have hb1 : W1.heap[wr.heap.size]? = some (abx ac) := by rw [hW1]; exact heap_alloc_new wr _
      obtain ⟨p0, p1, p2, p3, p4, p5, p6, p7, p8⟩ := A9.mk' hb1
      have HTl := hid ((hrs.keep tW1).tell hrv HE.out HT.out ac.k HWx.out hb1 ⟨_, rfl⟩)
      have HKp := hid ((hrs.keep tW1).keepA hrv HE.out HT.out ac.k HWx.out ac.kd hb1 ⟨_, rfl⟩)
      have HNu := hid hnu
      have HNk := hid (And.intro hk hlt)
      clear hrs hrv hnu hb1 HR0 tW1 hk hlt hnx
      unfold abx at hW1
      unfold PT kv ov at HKp
      unfold PT kv sv at HTl
      by_cases hk3 : (wrap64 (ac.kd.tmod 7 + 7)).tmod 7 = 3
      · have b3 : ((wrap64 (ac.kd.tmod 7 + 7)).tmod 7 == 3) = true := by simp [hk3]
        clear hk3
        go_upto_region 9 with fail
        rw [← hW1]
        clear hW1 q0 q1 q2 q3 q4 q5 q6 q7 q8
        go_upto_region 12 with (go_at_call 22; refine HTl.out.mono ?_; rintro x w5 ⟨sh, sa, so, E, rfl, h5, h6⟩; have H5 := hid h5; have H6 := hid h6; clear h5 h6 p0 p1 p2 p3 p4 p5 p6 p7 p8)
        obtain ⟨W5, hW5⟩ : ∃ W5, W5 = w5.alloc (.cells #[.int .i64 sh, .int .i64 sa, .int .i64 so.1, .int .i64 so.2.1, .int .i64 so.2.2.1, .int .i64 so.2.2.2] 75) := ⟨_, rfl⟩
        have t5 : Touch [] w5 W5 := by rw [hW5]; exact (Touch.refl _ _).alloc _
        have s0 : W5.cell? ⟨w5.heap.size, 0, none⟩ = some (.int .i64 sh) := by rw [hW5]; simp
        obtain ⟨p0, p1, p2, p3, p4, p5, p6, p7, p8⟩ := A9.mk' (t5.keep H6.out (by simp))
        obtain ⟨ys5, r5, v5⟩ := H5.out
        have R5 := hid (r5.keep t5)
        rw [← hW5]
        clear hW5 t5 r5 H5 H6
        by_cases h1 : sh = 1
        · subst h1
          have V5 : Hid (Rv e (u ++ [ac.k]) ys5) := hid (by simpa using v5)
          clear v5
          have US5 := hid R5.out.us
          rw [← HNu.out] at US5
          have hz5 := R5.out.t.size
          have hn7' : n7 ≤ 1759218604390 := by omega
          go_upto_region 16 with (at_builtin; refine wpList_append_lies _ rfl _ _ 69 rfl w.heap.size 39 i3 (.agg #[.int .u16 0, .string ⟨#[]⟩]) 2 24 Try.underlying69 HI.out.1 HI.out.2.1 HI.out.2.2.1 HI.out.2.2.2 rfl (by decide) (.slice a7 n7 c7) n7 (cellsK u) rfl (US5.out.alloc _) ⟨W5.heap.size, 0, none⟩ 1 1 [.int .u16 ac.k.1, .string ac.k.2] rfl rfl (cell_two_new _ _ _ _) (by simp [Value.oneCell']) (by decide) (by unfold maxLen; omega) (by omega) (by simp; omega) _ rfl ?_; intro g1 c8 W8 hown6 hgrow hat hlt6; have HO6 := hid hown6; have HG6 := hid hgrow; clear hown6 hgrow hat hlt6)
          have HR : Hid (Rs w m D W8 (.slice (some ⟨g1, 0, none⟩) (n7 + 1) c8) (u ++ [ac.k]) ys5 ∧ Rv e (u ++ [ac.k]) ys5) := hid ⟨(R5.out.keep ((Touch.refl _ _).alloc _)).push HWx.out (by rw [← HNu.out]; exact HO6.out) ((Touch.refl _ _).grown HG6.out (fun j hj => Or.inl (by simpa using hj))), V5.out⟩
          have HU : Hid (n7 + 1 = (u ++ [ac.k]).length) := hid (by rw [List.length_append, ← HNu.out]; rfl)
          have hn8 : n7 + 1 ≤ k + 1 := by omega
          clear R5 V5 US5 HO6 HG6 p0 p1 p2 p3 p4 p5 p6 p7 p8 s0
          generalize (some ⟨g1, 0, none⟩ : Option Addr) = a8 at *
          generalize n7 + 1 = n8 at *
          generalize u ++ [ac.k] = U8 at *
          go_upto_region 17 with fail
          obtain ⟨W9, hW9⟩ : ∃ W9, W9 = W8.alloc (.map #[] 0) := ⟨_, rfl⟩
          have HS : Hid (Sn w m D e (.slice a8 n8 c8) U8 ys5 W8.heap.size n8 [] W9) := hid (by rw [hW9]; have := Sn.start HR.out.1 HR.out.2; rw [← HU.out] at this; exact this)
          rw [← hW9]
          clear hW9 HR HTl HKp HNu
          generalize W8.heap.size = q8 at *
          obtain ⟨wo, rfl⟩ : ∃ wo, wo = wr := ⟨_, rfl⟩
          have hn9 : (n8 : Int) ≤ 1759218604391 := by omega
          go_upto_block 2 with fail
          go_wp2_with fail
          go_loopw [14] (fun s14 wr => ∃ (q : Nat) (z : Int), q ≤ n8 ∧ s14 = .int .i64 z ∧ z + 1 = (q : Int) ∧ Hid (∃ s, Sn w m D e (.slice a8 n8 c8) U8 ys5 q8 q s wr)) (fun s14 _ => (intOf s14 + 1).toNat)
          case atStart => exact ⟨n8, _, Nat.le_refl _, rfl, by omega, [], HS.out⟩
          case round =>
            clear HS
            obtain ⟨q, z, hq, rfl, hz, HS1⟩ := hrel
            obtain ⟨s, hs⟩ := HS1.out
            have hl := fun ty => hs.mp.len (t := 68) Try.underlying68 ty
            have ce := HB.out _ hs.cb
            have hsb := hs.bound HE.out
            by_cases hq0 : q = 0
            · subst hq0
              obtain rfl : z = -1 := by omega
              have hdn := hs.done0
              clear hz hq
              have HX : Hid (Rs w m D wr (.slice a8 n8 c8) U8 ys5 ∧ Rv e U8 ys5) := hid ⟨hs.rs, hs.rv⟩
              have HLn := hid hs.rs.lenA
              unfold PT at HLn
              rw [hdn] at hl
              clear hs HS1 hsb
              generalize (ys5.length : Int) = ln at *
              go_wp2_with (go_at_call 19; refine HLn.out.mono ?_; rintro x w12 ⟨rfl, e12⟩; rw [e12]; clear e12 w12)
              go_roundw
              case rel => exact ⟨_, n8, c8, k + 1, rfl, by go_num, by have := HNk.out; omega, hn8, U8, ys5, HX.out.1, HX.out.2, HU.out⟩
              case measure => simp [intOf]; have := HNk.out; omega
            · obtain ⟨j, rfl⟩ : ∃ j : Nat, z = (j : Int) := ⟨z.toNat, by omega⟩
              obtain rfl : q = j + 1 := by omega
              clear hz hq0
              by_cases hse : s.length < e
              · have zse : (s.length : Int) < (e : Int) := by omega
                have hjn : j < U8.length := by have := HU.out; omega
                have zj : (j : Int) < (n8 : Int) := by omega
                have us := hs.us
                rw [HU.out] at us
                obtain ⟨g8, hag⟩ := row_addr us hjn
                subst hag
                have hs0 := hs.step hse (by unfold maxLen; omega) hjn
                obtain ⟨hmem, hok, ob, hu, hs2⟩ := hs0
                have r0 := own_cell us (cellsK_at0 U8 j hjn)
                have r1 := own_cell us (cellsK_at1 U8 j hjn)
                have us2 := hs2.us
                rw [HU.out] at us2
                have r2 := own_cell us2 (cellsK_at0 U8 j hjn)
                have r3 := own_cell us2 (cellsK_at1 U8 j hjn)
                have HG := hid (hs2.rs.get U8[j] hok hmem)
                have HS2 := hid hs2
                clear hs2 us us2 hs HS1 hmem hok
                generalize U8[j] = y at *
                generalize addK s y = s2 at *
                generalize setBlock wr q8 ob = W10 at *
                generalize (s.length : Int) = sl at *
                unfold kv at hu
                unfold PT kv at HG
                clear hse hjn hsb
                go_wp2_with (go_at_call 24; refine HG.out.mono ?_; rintro x w11 ⟨z0, z1, z2, z3, z4, z5, z6, rfl, t11⟩; have T11 := hid t11; clear t11)
                go_roundw
                case rel => exact ⟨j, _, by omega, rfl, by omega, s2, HS2.out.keep (T11.out.alloc _)⟩
                case measure => simp [intOf]
              · have zse : (e : Int) ≤ (s.length : Int) := by omega
                have hdn := hs.doneF (by omega)
                clear hse hq
                rw [hdn] at zse
                have HX : Hid (Rs w m D wr (.slice a8 n8 c8) U8 ys5 ∧ Rv e U8 ys5) := hid ⟨hs.rs, hs.rv⟩
                have HLn := hid hs.rs.lenA
                unfold PT at HLn
                rw [hdn] at hl
                clear hs HS1 hsb
                generalize (ys5.length : Int) = ln at *
                go_wp2_with (go_at_call 19; refine HLn.out.mono ?_; rintro x w12 ⟨rfl, e12⟩; rw [e12]; clear e12 w12)
                go_roundw
                case rel => exact ⟨_, n8, c8, k + 1, rfl, by go_num, by have := HNk.out; omega, hn8, U8, ys5, HX.out.1, HX.out.2, HU.out⟩
                case measure => simp [intOf]; have := HNk.out; omega
        · have V5 : Hid (Rv e u ys5) := hid (by simpa [h1] using v5)
          have bs : (sh == 1) = false := by simp [h1]
          clear v5 h1
          go_upto_region 16 with fail
          have HR : Hid (Rs w m D W5 (.slice a7 n7 c7) u ys5 ∧ Rv e u ys5) := hid ⟨R5.out, V5.out⟩
          have HU := HNu
          have hn8 : n7 ≤ k + 1 := by omega
          clear R5 V5 p0 p1 p2 p3 p4 p5 p6 p7 p8 s0
          obtain ⟨W8, rfl⟩ : ∃ W8, W8 = W5 := ⟨_, rfl⟩
          obtain ⟨a8, rfl⟩ : ∃ a8, a8 = a7 := ⟨_, rfl⟩
          obtain ⟨n8, rfl⟩ : ∃ n8, n8 = n7 := ⟨_, rfl⟩
          obtain ⟨c8, rfl⟩ : ∃ c8, c8 = c7 := ⟨_, rfl⟩
          obtain ⟨U8, rfl⟩ : ∃ U8, U8 = u := ⟨_, rfl⟩
          go_upto_region 17 with fail
          obtain ⟨W9, hW9⟩ : ∃ W9, W9 = W8.alloc (.map #[] 0) := ⟨_, rfl⟩
          have HS : Hid (Sn w m D e (.slice a8 n8 c8) U8 ys5 W8.heap.size n8 [] W9) := hid (by rw [hW9]; have := Sn.start HR.out.1 HR.out.2; rw [← HU.out] at this; exact this)
          rw [← hW9]
          clear hW9 HR HTl HKp HNu
          generalize W8.heap.size = q8 at *
          obtain ⟨wo, rfl⟩ : ∃ wo, wo = wr := ⟨_, rfl⟩
          have hn9 : (n8 : Int) ≤ 1759218604391 := by omega
          go_upto_block 2 with fail
          go_wp2_with fail
          go_loopw [14] (fun s14 wr => ∃ (q : Nat) (z : Int), q ≤ n8 ∧ s14 = .int .i64 z ∧ z + 1 = (q : Int) ∧ Hid (∃ s, Sn w m D e (.slice a8 n8 c8) U8 ys5 q8 q s wr)) (fun s14 _ => (intOf s14 + 1).toNat)
          case atStart => exact ⟨n8, _, Nat.le_refl _, rfl, by omega, [], HS.out⟩
          case round =>
            clear HS
            obtain ⟨q, z, hq, rfl, hz, HS1⟩ := hrel
            obtain ⟨s, hs⟩ := HS1.out
            have hl := fun ty => hs.mp.len (t := 68) Try.underlying68 ty
            have ce := HB.out _ hs.cb
            have hsb := hs.bound HE.out
            by_cases hq0 : q = 0
            · subst hq0
              obtain rfl : z = -1 := by omega
              have hdn := hs.done0
              clear hz hq
              have HX : Hid (Rs w m D wr (.slice a8 n8 c8) U8 ys5 ∧ Rv e U8 ys5) := hid ⟨hs.rs, hs.rv⟩
              have HLn := hid hs.rs.lenA
              unfold PT at HLn
              rw [hdn] at hl
              clear hs HS1 hsb
              generalize (ys5.length : Int) = ln at *
              go_wp2_with (go_at_call 19; refine HLn.out.mono ?_; rintro x w12 ⟨rfl, e12⟩; rw [e12]; clear e12 w12)
              go_roundw
              case rel => exact ⟨_, n8, c8, k + 1, rfl, by go_num, by have := HNk.out; omega, hn8, U8, ys5, HX.out.1, HX.out.2, HU.out⟩
              case measure => simp [intOf]; have := HNk.out; omega
            · obtain ⟨j, rfl⟩ : ∃ j : Nat, z = (j : Int) := ⟨z.toNat, by omega⟩
              obtain rfl : q = j + 1 := by omega
              clear hz hq0
              by_cases hse : s.length < e
              · have zse : (s.length : Int) < (e : Int) := by omega
                have hjn : j < U8.length := by have := HU.out; omega
                have zj : (j : Int) < (n8 : Int) := by omega
                have us := hs.us
                rw [HU.out] at us
                obtain ⟨g8, hag⟩ := row_addr us hjn
                subst hag
                have hs0 := hs.step hse (by unfold maxLen; omega) hjn
                obtain ⟨hmem, hok, ob, hu, hs2⟩ := hs0
                have r0 := own_cell us (cellsK_at0 U8 j hjn)
                have r1 := own_cell us (cellsK_at1 U8 j hjn)
                have us2 := hs2.us
                rw [HU.out] at us2
                have r2 := own_cell us2 (cellsK_at0 U8 j hjn)
                have r3 := own_cell us2 (cellsK_at1 U8 j hjn)
                have HG := hid (hs2.rs.get U8[j] hok hmem)
                have HS2 := hid hs2
                clear hs2 us us2 hs HS1 hmem hok
                generalize U8[j] = y at *
                generalize addK s y = s2 at *
                generalize setBlock wr q8 ob = W10 at *
                generalize (s.length : Int) = sl at *
                unfold kv at hu
                unfold PT kv at HG
                clear hse hjn hsb
                go_wp2_with (go_at_call 24; refine HG.out.mono ?_; rintro x w11 ⟨z0, z1, z2, z3, z4, z5, z6, rfl, t11⟩; have T11 := hid t11; clear t11)
                go_roundw
                case rel => exact ⟨j, _, by omega, rfl, by omega, s2, HS2.out.keep (T11.out.alloc _)⟩
                case measure => simp [intOf]
              · have zse : (e : Int) ≤ (s.length : Int) := by omega
                have hdn := hs.doneF (by omega)
                clear hse hq
                rw [hdn] at zse
                have HX : Hid (Rs w m D wr (.slice a8 n8 c8) U8 ys5 ∧ Rv e U8 ys5) := hid ⟨hs.rs, hs.rv⟩
                have HLn := hid hs.rs.lenA
                unfold PT at HLn
                rw [hdn] at hl
                clear hs HS1 hsb
                generalize (ys5.length : Int) = ln at *
                go_wp2_with (go_at_call 19; refine HLn.out.mono ?_; rintro x w12 ⟨rfl, e12⟩; rw [e12]; clear e12 w12)
                go_roundw
                case rel => exact ⟨_, n8, c8, k + 1, rfl, by go_num, by have := HNk.out; omega, hn8, U8, ys5, HX.out.1, HX.out.2, HU.out⟩
                case measure => simp [intOf]; have := HNk.out; omega
      · have b3 : ((wrap64 (ac.kd.tmod 7 + 7)).tmod 7 == 3) = false := by simp [hk3]
        clear hk3
        go_upto_region 9 with fail
        rw [← hW1]
        clear hW1 q0 q1 q2 q3 q4 q5 q6 q7 q8
        go_upto_region 14 with (go_at_call 18; refine HKp.out.mono ?_; rintro x W5 ⟨B, uu, E, rfl, h5, h6⟩; have H5 := hid h5; have H6 := hid h6; clear h5 h6 p0 p1 p2 p3 p4 p5 p6 p7 p8)
        obtain ⟨p0, p1, p2, p3, p4, p5, p6, p7, p8⟩ := A9.mk' H6.out
        obtain ⟨ys5, r5, v5⟩ := H5.out
        have R5 := hid r5
        clear r5 H5 H6
        cases B
        · have V5 : Hid (Rv e u ys5) := hid (by simpa using v5)
          clear v5
          go_upto_region 16 with fail
          have HR : Hid (Rs w m D W5 (.slice a7 n7 c7) u ys5 ∧ Rv e u ys5) := hid ⟨R5.out, V5.out⟩
          have HU := HNu
          have hn8 : n7 ≤ k + 1 := by omega
          clear R5 V5 p0 p1 p2 p3 p4 p5 p6 p7 p8 
          obtain ⟨W8, rfl⟩ : ∃ W8, W8 = W5 := ⟨_, rfl⟩
          obtain ⟨a8, rfl⟩ : ∃ a8, a8 = a7 := ⟨_, rfl⟩
          obtain ⟨n8, rfl⟩ : ∃ n8, n8 = n7 := ⟨_, rfl⟩
          obtain ⟨c8, rfl⟩ : ∃ c8, c8 = c7 := ⟨_, rfl⟩
          obtain ⟨U8, rfl⟩ : ∃ U8, U8 = u := ⟨_, rfl⟩
          go_upto_region 17 with fail
          obtain ⟨W9, hW9⟩ : ∃ W9, W9 = W8.alloc (.map #[] 0) := ⟨_, rfl⟩
          have HS : Hid (Sn w m D e (.slice a8 n8 c8) U8 ys5 W8.heap.size n8 [] W9) := hid (by rw [hW9]; have := Sn.start HR.out.1 HR.out.2; rw [← HU.out] at this; exact this)
          rw [← hW9]
          clear hW9 HR HTl HKp HNu
          generalize W8.heap.size = q8 at *
          obtain ⟨wo, rfl⟩ : ∃ wo, wo = wr := ⟨_, rfl⟩
          have hn9 : (n8 : Int) ≤ 1759218604391 := by omega
          go_upto_block 2 with fail
          go_wp2_with fail
          go_loopw [14] (fun s14 wr => ∃ (q : Nat) (z : Int), q ≤ n8 ∧ s14 = .int .i64 z ∧ z + 1 = (q : Int) ∧ Hid (∃ s, Sn w m D e (.slice a8 n8 c8) U8 ys5 q8 q s wr)) (fun s14 _ => (intOf s14 + 1).toNat)
          case atStart => exact ⟨n8, _, Nat.le_refl _, rfl, by omega, [], HS.out⟩
          case round =>
            clear HS
            obtain ⟨q, z, hq, rfl, hz, HS1⟩ := hrel
            obtain ⟨s, hs⟩ := HS1.out
            have hl := fun ty => hs.mp.len (t := 68) Try.underlying68 ty
            have ce := HB.out _ hs.cb
            have hsb := hs.bound HE.out
            by_cases hq0 : q = 0
            · subst hq0
              obtain rfl : z = -1 := by omega
              have hdn := hs.done0
              clear hz hq
              have HX : Hid (Rs w m D wr (.slice a8 n8 c8) U8 ys5 ∧ Rv e U8 ys5) := hid ⟨hs.rs, hs.rv⟩
              have HLn := hid hs.rs.lenA
              unfold PT at HLn
              rw [hdn] at hl
              clear hs HS1 hsb
              generalize (ys5.length : Int) = ln at *
              go_wp2_with (go_at_call 19; refine HLn.out.mono ?_; rintro x w12 ⟨rfl, e12⟩; rw [e12]; clear e12 w12)
              go_roundw
              case rel => exact ⟨_, n8, c8, k + 1, rfl, by go_num, by have := HNk.out; omega, hn8, U8, ys5, HX.out.1, HX.out.2, HU.out⟩
              case measure => simp [intOf]; have := HNk.out; omega
            · obtain ⟨j, rfl⟩ : ∃ j : Nat, z = (j : Int) := ⟨z.toNat, by omega⟩
              obtain rfl : q = j + 1 := by omega
              clear hz hq0
              by_cases hse : s.length < e
              · have zse : (s.length : Int) < (e : Int) := by omega
                have hjn : j < U8.length := by have := HU.out; omega
                have zj : (j : Int) < (n8 : Int) := by omega
                have us := hs.us
                rw [HU.out] at us
                obtain ⟨g8, hag⟩ := row_addr us hjn
                subst hag
                have hs0 := hs.step hse (by unfold maxLen; omega) hjn
                obtain ⟨hmem, hok, ob, hu, hs2⟩ := hs0
                have r0 := own_cell us (cellsK_at0 U8 j hjn)
                have r1 := own_cell us (cellsK_at1 U8 j hjn)
                have us2 := hs2.us
                rw [HU.out] at us2
                have r2 := own_cell us2 (cellsK_at0 U8 j hjn)
                have r3 := own_cell us2 (cellsK_at1 U8 j hjn)
                have HG := hid (hs2.rs.get U8[j] hok hmem)
                have HS2 := hid hs2
                clear hs2 us us2 hs HS1 hmem hok
                generalize U8[j] = y at *
                generalize addK s y = s2 at *
                generalize setBlock wr q8 ob = W10 at *
                generalize (s.length : Int) = sl at *
                unfold kv at hu
                unfold PT kv at HG
                clear hse hjn hsb
                go_wp2_with (go_at_call 24; refine HG.out.mono ?_; rintro x w11 ⟨z0, z1, z2, z3, z4, z5, z6, rfl, t11⟩; have T11 := hid t11; clear t11)
                go_roundw
                case rel => exact ⟨j, _, by omega, rfl, by omega, s2, HS2.out.keep (T11.out.alloc _)⟩
                case measure => simp [intOf]
              · have zse : (e : Int) ≤ (s.length : Int) := by omega
                have hdn := hs.doneF (by omega)
                clear hse hq
                rw [hdn] at zse
                have HX : Hid (Rs w m D wr (.slice a8 n8 c8) U8 ys5 ∧ Rv e U8 ys5) := hid ⟨hs.rs, hs.rv⟩
                have HLn := hid hs.rs.lenA
                unfold PT at HLn
                rw [hdn] at hl
                clear hs HS1 hsb
                generalize (ys5.length : Int) = ln at *
                go_wp2_with (go_at_call 19; refine HLn.out.mono ?_; rintro x w12 ⟨rfl, e12⟩; rw [e12]; clear e12 w12)
                go_roundw
                case rel => exact ⟨_, n8, c8, k + 1, rfl, by go_num, by have := HNk.out; omega, hn8, U8, ys5, HX.out.1, HX.out.2, HU.out⟩
                case measure => simp [intOf]; have := HNk.out; omega
        · have V5 : Hid (Rv e (u ++ [ac.k]) ys5) := hid (by simpa using v5)
          clear v5
          have US5 := hid R5.out.us
          rw [← HNu.out] at US5
          have hz5 := R5.out.t.size
          have hn7' : n7 ≤ 1759218604390 := by omega
          go_upto_region 16 with (at_builtin; refine wpList_append_lies _ rfl _ _ 69 rfl w.heap.size 39 i3 (.agg #[.int .u16 0, .string ⟨#[]⟩]) 2 24 Try.underlying69 HI.out.1 HI.out.2.1 HI.out.2.2.1 HI.out.2.2.2 rfl (by decide) (.slice a7 n7 c7) n7 (cellsK u) rfl (US5.out.alloc _) ⟨W5.heap.size, 0, none⟩ 1 1 [.int .u16 ac.k.1, .string ac.k.2] rfl rfl (cell_two_new _ _ _ _) (by simp [Value.oneCell']) (by decide) (by unfold maxLen; omega) (by omega) (by simp; omega) _ rfl ?_; intro g1 c8 W8 hown6 hgrow hat hlt6; have HO6 := hid hown6; have HG6 := hid hgrow; clear hown6 hgrow hat hlt6)
          have HR : Hid (Rs w m D W8 (.slice (some ⟨g1, 0, none⟩) (n7 + 1) c8) (u ++ [ac.k]) ys5 ∧ Rv e (u ++ [ac.k]) ys5) := hid ⟨(R5.out.keep ((Touch.refl _ _).alloc _)).push HWx.out (by rw [← HNu.out]; exact HO6.out) ((Touch.refl _ _).grown HG6.out (fun j hj => Or.inl (by simpa using hj))), V5.out⟩
          have HU : Hid (n7 + 1 = (u ++ [ac.k]).length) := hid (by rw [List.length_append, ← HNu.out]; rfl)
          have hn8 : n7 + 1 ≤ k + 1 := by omega
          clear R5 V5 US5 HO6 HG6 p0 p1 p2 p3 p4 p5 p6 p7 p8 
          generalize (some ⟨g1, 0, none⟩ : Option Addr) = a8 at *
          generalize n7 + 1 = n8 at *
          generalize u ++ [ac.k] = U8 at *
          go_upto_region 17 with fail
          obtain ⟨W9, hW9⟩ : ∃ W9, W9 = W8.alloc (.map #[] 0) := ⟨_, rfl⟩
          have HS : Hid (Sn w m D e (.slice a8 n8 c8) U8 ys5 W8.heap.size n8 [] W9) := hid (by rw [hW9]; have := Sn.start HR.out.1 HR.out.2; rw [← HU.out] at this; exact this)
          rw [← hW9]
          clear hW9 HR HTl HKp HNu
          generalize W8.heap.size = q8 at *
          obtain ⟨wo, rfl⟩ : ∃ wo, wo = wr := ⟨_, rfl⟩
          have hn9 : (n8 : Int) ≤ 1759218604391 := by omega
          go_upto_block 2 with fail
          go_wp2_with fail
          go_loopw [14] (fun s14 wr => ∃ (q : Nat) (z : Int), q ≤ n8 ∧ s14 = .int .i64 z ∧ z + 1 = (q : Int) ∧ Hid (∃ s, Sn w m D e (.slice a8 n8 c8) U8 ys5 q8 q s wr)) (fun s14 _ => (intOf s14 + 1).toNat)
          case atStart => exact ⟨n8, _, Nat.le_refl _, rfl, by omega, [], HS.out⟩
          case round =>
            clear HS
            obtain ⟨q, z, hq, rfl, hz, HS1⟩ := hrel
            obtain ⟨s, hs⟩ := HS1.out
            have hl := fun ty => hs.mp.len (t := 68) Try.underlying68 ty
            have ce := HB.out _ hs.cb
            have hsb := hs.bound HE.out
            by_cases hq0 : q = 0
            · subst hq0
              obtain rfl : z = -1 := by omega
              have hdn := hs.done0
              clear hz hq
              have HX : Hid (Rs w m D wr (.slice a8 n8 c8) U8 ys5 ∧ Rv e U8 ys5) := hid ⟨hs.rs, hs.rv⟩
              have HLn := hid hs.rs.lenA
              unfold PT at HLn
              rw [hdn] at hl
              clear hs HS1 hsb
              generalize (ys5.length : Int) = ln at *
              go_wp2_with (go_at_call 19; refine HLn.out.mono ?_; rintro x w12 ⟨rfl, e12⟩; rw [e12]; clear e12 w12)
              go_roundw
              case rel => exact ⟨_, n8, c8, k + 1, rfl, by go_num, by have := HNk.out; omega, hn8, U8, ys5, HX.out.1, HX.out.2, HU.out⟩
              case measure => simp [intOf]; have := HNk.out; omega
            · obtain ⟨j, rfl⟩ : ∃ j : Nat, z = (j : Int) := ⟨z.toNat, by omega⟩
              obtain rfl : q = j + 1 := by omega
              clear hz hq0
              by_cases hse : s.length < e
              · have zse : (s.length : Int) < (e : Int) := by omega
                have hjn : j < U8.length := by have := HU.out; omega
                have zj : (j : Int) < (n8 : Int) := by omega
                have us := hs.us
                rw [HU.out] at us
                obtain ⟨g8, hag⟩ := row_addr us hjn
                subst hag
                have hs0 := hs.step hse (by unfold maxLen; omega) hjn
                obtain ⟨hmem, hok, ob, hu, hs2⟩ := hs0
                have r0 := own_cell us (cellsK_at0 U8 j hjn)
                have r1 := own_cell us (cellsK_at1 U8 j hjn)
                have us2 := hs2.us
                rw [HU.out] at us2
                have r2 := own_cell us2 (cellsK_at0 U8 j hjn)
                have r3 := own_cell us2 (cellsK_at1 U8 j hjn)
                have HG := hid (hs2.rs.get U8[j] hok hmem)
                have HS2 := hid hs2
                clear hs2 us us2 hs HS1 hmem hok
                generalize U8[j] = y at *
                generalize addK s y = s2 at *
                generalize setBlock wr q8 ob = W10 at *
                generalize (s.length : Int) = sl at *
                unfold kv at hu
                unfold PT kv at HG
                clear hse hjn hsb
                go_wp2_with (go_at_call 24; refine HG.out.mono ?_; rintro x w11 ⟨z0, z1, z2, z3, z4, z5, z6, rfl, t11⟩; have T11 := hid t11; clear t11)
                go_roundw
                case rel => exact ⟨j, _, by omega, rfl, by omega, s2, HS2.out.keep (T11.out.alloc _)⟩
                case measure => simp [intOf]
              · have zse : (e : Int) ≤ (s.length : Int) := by omega
                have hdn := hs.doneF (by omega)
                clear hse hq
                rw [hdn] at zse
                have HX : Hid (Rs w m D wr (.slice a8 n8 c8) U8 ys5 ∧ Rv e U8 ys5) := hid ⟨hs.rs, hs.rv⟩
                have HLn := hid hs.rs.lenA
                unfold PT at HLn
                rw [hdn] at hl
                clear hs HS1 hsb
                generalize (ys5.length : Int) = ln at *
                go_wp2_with (go_at_call 19; refine HLn.out.mono ?_; rintro x w12 ⟨rfl, e12⟩; rw [e12]; clear e12 w12)
                go_roundw
                case rel => exact ⟨_, n8, c8, k + 1, rfl, by go_num, by have := HNk.out; omega, hn8, U8, ys5, HX.out.1, HX.out.2, HU.out⟩
                case measure => simp [intOf]; have := HNk.out; omega
    · have zk : (A : Int) ≤ (k : Int) := by omega
      go_wp2_with fail
      go_ret
      obtain ⟨u, ys, hrs, _⟩ := HR0.out
      exact ⟨rfl, hrs.t⟩
theorem law7 (w : World) (c : Cf) (xs : List ActM) (v : Value) (wc : Wc c) (hv : SlM w v xs) (hw : ∀ x ∈ xs, WfM x) (hL : xs.length ≤ 1759218604390) :
    Calls Try.prog 7 #[cv c, v] w fun e w' => e = .returned (.bool true) ∧ Touch [] w w' := by
  cases hc : okC (cT c) with
  | true => exact law7_ok w c xs v wc hv hw hL hc
  | false =>
    rcases hv with ⟨_, a, d, rfl⟩ | ⟨b, off, cap, rfl, _⟩
    · exact law7_no w c a 0 d hc
    · exact law7_no w c _ _ cap hc
end Go.Proofs.Ytopepalpmkeffaa
