/- Of every configuration, list of acts and list of steps: never too many, what is fresh is fresh and what is old stays old: the walk of the law; the lists' lengths are within the form's reach. -/
import Derived.Test.YtopepalpmkeffaaKpt
import Derived.Test.YtopepalpmkeffaaSmr
import Derived.Deep.CutRange
import Derived.Deep.CutBlock
namespace Go.Proofs.Ytopepalpmkeffaa
open Go.RowKit Go.Sort Go.Maps Go.ChangeMaps Go.WideMaps
set_option linter.unusedVariables false
set_option linter.unusedSimpArgs false
theorem row_form56 {w : World} {base : Nat} {v : Value} {n : Nat} {xs : List Value} (h : w.ownsRow base 56 7 v n xs) : ∃ a c, v = .slice a n c ∧ (0 < n → ∃ g, a = some ⟨g, 0, none⟩) := by
  obtain ⟨h1, h2 | ⟨g, cap, cur, he, r⟩⟩ := h
  · obtain ⟨h2, h3⟩ := h2
    exact ⟨none, 0, by rw [h3]; exact h2, fun h => by omega⟩
  · exact ⟨_, cap, he, fun _ => ⟨g, rfl⟩⟩
theorem neq43 (w : World) (a b c d : Int) : (binOp .neq 43 (.agg #[.int .i64 a, .int .i64 b, .int .i64 c, .int .i64 d]) (.agg #[.int .i64 a, .int .i64 b, .int .i64 c, .int .i64 d])).run Try.prog w = .ok (.bool false) w := by go_simp
def nbx (x : En) : Obj := .cells #[.int .u16 x.1.1, .string x.1.2, .int .i64 x.2.1.1, .int .i64 x.2.1.2.1, .int .i64 x.2.1.2.2.1, .int .i64 x.2.1.2.2.2, .int .i64 x.2.2] 56
structure N7 (w : World) (r : Nat) (x : En) : Prop where
  c0 : w.cell? ⟨r, 0, none⟩ = some (.int .u16 x.1.1)
  c1 : w.cell? ⟨r, 1, none⟩ = some (.string x.1.2)
  c2 : w.cell? ⟨r, 2, none⟩ = some (.int .i64 x.2.1.1)
  c3 : w.cell? ⟨r, 3, none⟩ = some (.int .i64 x.2.1.2.1)
  c4 : w.cell? ⟨r, 4, none⟩ = some (.int .i64 x.2.1.2.2.1)
  c5 : w.cell? ⟨r, 5, none⟩ = some (.int .i64 x.2.1.2.2.2)
  c6 : w.cell? ⟨r, 6, none⟩ = some (.int .i64 x.2.2)
theorem N7.mk' {w : World} {r : Nat} {x : En} (hh : w.heap[r]? = some (nbx x)) : N7 w r x := by
  unfold nbx at hh
  constructor <;> simp [World.cell?, hh]
theorem own_at56 {w : World} {base g c n : Nat} {xs : List En} (h : w.ownsRow base 56 7 (.slice (some ⟨g, 0, none⟩) n c) n (cellsN xs)) (j i : Nat) (hj : j < xs.length) (hi : i < 7) {v : Value} (hv : (nl xs[j])[i]? = some v) : w.cell? ⟨g, j * 7 + i, none⟩ = some v :=
  own_cell h (by rw [cellsN_at xs j i hj hi]; exact hv)
set_option maxRecDepth 100000 in
set_option maxHeartbeats 1000000 in
theorem law5_no (w : World) (c : Cf) (av bv : Option Addr) (A cv' B cw' : Nat) (hc : okC c = false) : Calls Try.prog 5 #[cv c, .slice av A cv', .slice bv B cw'] w fun e w' => e = .returned (.bool true) ∧ Touch [] w w' := by
  have HN := hid (new9_no (w.alloc (cbx c 23)) c hc)
  clear hc
  unfold cv cbx at *
  go_enter Try.func5, Try.ntmps5
  go_wp2_with (first
    | (go_at_call 9; refine HN.out.mono ?_; rintro e w2 ⟨rfl, t2⟩; have T2 := hid t2; clear t2)
    | (go_at_call 8; have q3 := T3; refine (awake8 _).mono ?_; rintro e w4 ⟨rfl, t4⟩; have T4 := hid t4; clear t4)
    | (go_at_call 8; refine (awake8 _).mono ?_; rintro e w3 ⟨rfl, t3⟩; have T3 := hid t3; clear t3))
  go_ret
  exact ⟨rfl, (((Touch.refl _ _).alloc _).trans' T2.out).trans' (T3.out.trans' T4.out)⟩
set_option maxHeartbeats 8000000 in
set_option maxRecDepth 100000 in
theorem law5_ok (w : World) (c : Cf) (xs : List ActM) (v : Value) (zs : List Int) (u : Value) (wc : Wc c) (hv : SlM w v xs) (hw : ∀ x ∈ xs, WfM x) (hL : xs.length ≤ 1759218604390) (hu : SlN w u zs) (hwz : ∀ x ∈ zs, W64 x) (hZ : zs.length ≤ 17592186043904) (hc : okC c = true) :
    Calls Try.prog 5 #[cv c, v, u] w fun e w' => e = .returned (.bool true) ∧ Touch [] w w' := by
  obtain ⟨avv, cv', rfl⟩ : ∃ av cv, v = .slice av xs.length cv := by
    rcases hv with ⟨rfl, a, c, rfl⟩ | ⟨b, off, cap, rfl, _⟩
    · exact ⟨a, c, rfl⟩
    · exact ⟨_, _, rfl⟩
  obtain ⟨buu, cu', rfl⟩ : ∃ av cv, u = .slice av zs.length cv := by
    rcases hu with ⟨rfl, a, c, rfl⟩ | ⟨b, off, cap, rfl, _⟩
    · exact ⟨a, c, rfl⟩
    · exact ⟨_, _, rfl⟩
  have HRow : Hid (xs.length = 0 ∨ ∃ b off, avv = some ⟨b, off, none⟩ ∧ RowM w b off xs) := by
    rcases hv with ⟨rfl, _⟩ | ⟨b, off, cap, e, r⟩
    · exact Or.inl rfl
    · injection e with e1 e2 e3
      exact Or.inr ⟨b, off, e1, r⟩
  have HRou : Hid (zs.length = 0 ∨ ∃ b off, buu = some ⟨b, off, none⟩ ∧ RowN w b off zs) := by
    rcases hu with ⟨rfl, _⟩ | ⟨b, off, cap, e, r⟩
    · exact Or.inl rfl
    · injection e with e1 e2 e3
      exact Or.inr ⟨b, off, e1, r⟩
  have HWf := hid hw
  have HWz := hid hwz
  clear hv hw hu hwz
  obtain ⟨A, hA⟩ : ∃ A, A = xs.length := ⟨_, rfl⟩
  have HAx := hid hA
  rw [← hA] at HRow hL ⊢
  clear hA
  obtain ⟨B, hB⟩ : ∃ B, B = zs.length := ⟨_, rfl⟩
  have HBx := hid hB
  rw [← hB] at HRou hZ ⊢
  clear hB
  obtain ⟨e, he⟩ : ∃ e : Nat, c.e = (e : Int) := ⟨c.e.toNat, by have := (okC_e hc).1; omega⟩
  have hel : e ≤ 65536 := by have := (okC_e hc).2; omega
  have HE := hid he
  have TV : Hid (Touch [] w (w.alloc (cbx c 23))) := (Touch.refl _ _).alloc _
  have hB0 := heap_alloc_new w (cbx c 23)
  have HN : Hid (Calls Try.prog 9 #[.agg #[.int .i64 c.t, .int .i64 c.n, .int .i64 c.s, .int .i64 c.e, .int .i64 c.f, .int .i64 c.b, .int .i64 c.d]] (w.alloc (.cells #[.int .i64 c.t, .int .i64 c.n, .int .i64 c.s, .int .i64 c.e, .int .i64 c.f, .int .i64 c.b, .int .i64 c.d] 23)) fun x w' => ∃ m, x = .returned (.tuple #[.pointer (some ⟨m, 0, none⟩), .int .i64 0]) ∧ ∃ F, Mq w' m F c 0 [] ∧ (∀ k ∈ F, w.heap.size ≤ k) ∧ w'.heap[w.heap.size]? = some (cbx c 23) ∧ Touch [] w w') := by
    refine (new9_ok (w.alloc (cbx c 23)) c hc ⟨wc.1.hi, wc.2.1.hi, wc.2.2.1.hi⟩).mono ?_
    rintro x w' ⟨m, rfl, F, n1, n2, n3⟩
    exact ⟨m, rfl, F, n1, fun k hk => by have := n2 k hk; rw [World.size_alloc] at this; omega, n3.keep hB0 (by simp), TV.out.trans' n3⟩
  have HST : Hid (∀ m w2 w3, (∃ F, Mq w2 m F c 0 [] ∧ (∀ k ∈ F, w.heap.size ≤ k) ∧ w2.heap[w.heap.size]? = some (cbx c 23) ∧ Touch [] w w2) → Touch [] w2 w3 → Ks w m c 0 [] w3.heap.size [] (w3.alloc (.map #[] 0)) ∧ Kv e [] []) := fun m w2 w3 q t3 => by
    obtain ⟨F, n1, n2, n3, n4⟩ := q
    have t4 : Touch [] w2 (w3.alloc (.map #[] 0)) := t3.alloc _
    have n5 := n1.keep0 t3
    exact ⟨⟨⟨F, n1.keep0 t4, n2, fun hh => by have := n5.lt _ hh; omega⟩, t4.keep n3 (by simp), (mapAt_made w3).congr (fun k _ => by simp [sf, hs]), Nat.le_trans n4.size t3.size, n4.trans' t4⟩, by simp, fun _ => List.Perm.nil, fun _ e => (by cases e)⟩
  have hmm := @run_makeMap Try.prog
  have HB : Hid (∀ wx : World, wx.heap[w.heap.size]? = some (cbx c 23) → wx.cell? ⟨w.heap.size, 3, none⟩ = some (.int .i64 (e : Int)) ∧ wx.cell? ⟨w.heap.size, 0, none⟩ = some (.int .i64 c.t)) := fun wx hx => by
    have := (C7.mk' hx).c3
    rw [he] at this
    exact ⟨this, (C7.mk' hx).c0⟩
  have HCt := hid wc.1
  clear hB0 hc wc he TV
  have zL : (A : Int) ≤ 1759218604390 := by omega
  have zZ : (B : Int) ≤ 17592186043904 := by omega
  unfold cv
  go_enter Try.func5, Try.ntmps5
  go_upto_block 0 with (first
    | (go_at_call 9; refine HN.out.mono ?_; rintro x w2 ⟨m, rfl, q2⟩; have Q2 := hid q2; clear q2)
    | (go_at_call 8; refine (awake8 _).mono ?_; rintro x w3 ⟨rfl, t3⟩; have T3 := hid t3; clear t3))
  have HI0 := hid (HST.out _ _ _ Q2.out T3.out)
  clear HST Q2 T3 HN
  generalize w3.heap.size = q9 at *
  generalize hWs : w3.alloc (.map #[] 0) = W3 at *
  clear hWs
  go_wp2_with fail
  go_loopw [43] (fun s43 wr => ∃ (k : Nat), s43 = .int .i64 (k : Int) ∧ k ≤ A ∧ Hid (∃ S ys, Ks w m c 0 ys q9 S wr ∧ Kv e S ys ∧ S.length ≤ k)) (fun i _ => A - (intOf i).toNat)
  case atStart => exact ⟨0, rfl, Nat.zero_le _, [], [], HI0.out.1, HI0.out.2, Nat.le_refl _⟩
  case round =>
    clear HI0
    obtain ⟨k, rfl, hk, HR0⟩ := hrel
    by_cases hlt : k < A
    · have zk : (k : Int) < (A : Int) := by omega
      obtain ⟨ba, off, rfl, hrow⟩ : ∃ ba off, avv = some ⟨ba, off, none⟩ ∧ RowM w ba off xs := by
        rcases HRow.out with e | e
        · omega
        · exact e
      have hnx : k < xs.length := by have := HAx.out; omega
      obtain ⟨S, ys, hks, hkv, hSk⟩ := HR0.out
      have hr := hrow.keep hks.t
      have q0 := hr.c0 k hnx
      have q1 := hr.c1 k hnx
      have q2 := hr.c2 k hnx
      have q3 := hr.c3 k hnx
      have q4 := hr.c4 k hnx
      have q5 := hr.c5 k hnx
      have q6 := hr.c6 k hnx
      have q7 := hr.c7 k hnx
      have q8 := hr.c8 k hnx
      have HWx := hid (HWf.out xs[k] (List.getElem_mem hnx)).2.2.2.1
      generalize xs[k] = ac at *
      clear hrow hr
      obtain ⟨W1, hW1⟩ : ∃ W1, W1 = wr.alloc (abx ac) := ⟨_, rfl⟩
      have tW1 : Touch [] wr W1 := by rw [hW1]; exact (Touch.refl _ _).alloc _
      have hb1 : W1.heap[wr.heap.size]? = some (abx ac) := by rw [hW1]; exact heap_alloc_new wr _
      obtain ⟨p0, p1, p2, p3, p4, p5, p6, p7, p8⟩ := A9.mk' hb1
      have HKp := hid ((hks.keep tW1).keepA hkv HE.out ac.k HWx.out ac.o hb1 ⟨_, rfl⟩)
      have HNk := hid (And.intro hk (And.intro hlt hSk))
      clear hks hkv hb1 HR0 tW1 hk hlt hnx hSk
      unfold abx at hW1
      unfold PT kv ov at HKp
      go_upto_region 9 with fail
      rw [← hW1]
      clear hW1 q0 q1 q2 q3 q4 q5 q6 q7 q8
      go_upto_region 10 with (go_at_call 18; refine HKp.out.mono ?_; rintro x W5 ⟨B1, uu, E, rfl, h5, h6⟩; have H5 := hid h5; have H6 := hid h6; clear h5 h6 p0 p1 p2 p3 p4 p5 p6 p7 p8)
      obtain ⟨p0, p1, p2, p3, p4, p5, p6, p7, p8⟩ := A9.mk' H6.out
      obtain ⟨ys5, r5, v5⟩ := H5.out
      cases B1
      · have V5 : Hid (Ks w m c 0 ys5 q9 S W5 ∧ Kv e S ys5) := hid ⟨r5, by simpa using v5⟩
        clear v5 r5 H5 H6
        go_upto_region 12 with fail
        have HLQ := fun n => (V5.out.1.keep ((Touch.refl [] W5).drewN n)).lenA
        unfold PT at HLQ
        have ce := (HB.out _ V5.out.1.cb).1
        have hle := V5.out.1.len HE.out
        have zle : (ys5.length : Int) ≤ (e : Int) := by omega
        clear hle p0 p1 p2 p3 p4 p5 p6 p7 p8
        generalize (ys5.length : Int) = ln at *
        go_quiet ((go_at_call 19; exact Calls.quiet_of_same (HLQ _)))
        go_wp2
        go_roundw
        case rel => exact ⟨k + 1, by go_num, by have := HNk.out; omega, S, ys5, V5.out.1.keep ((Touch.refl _ _).drewN _), V5.out.2, by have := HNk.out; omega⟩
        case measure => simp [intOf]; have := HNk.out; omega
      · obtain ⟨ob, hu, r6⟩ := r5.add (t := 68) (by unfold maxLen; have := HNk.out; omega) HWx.out Try.underlying68
        have V5 : Hid (Ks w m c 0 ys5 q9 (addK S ac.k) (setBlock W5 q9 ob) ∧ Kv e (addK S ac.k) ys5) := hid ⟨r6, by simpa using v5⟩
        clear v5 r5 r6 H5 H6
        unfold kv at hu
        generalize setBlock W5 q9 ob = W6 at *
        go_upto_region 12 with fail
        have HLQ := fun n => (V5.out.1.keep ((Touch.refl [] W6).drewN n)).lenA
        unfold PT at HLQ
        have ce := (HB.out _ V5.out.1.cb).1
        have hle := V5.out.1.len HE.out
        have zle : (ys5.length : Int) ≤ (e : Int) := by omega
        clear hle p0 p1 p2 p3 p4 p5 p6 p7 p8
        generalize (ys5.length : Int) = ln at *
        go_quiet ((go_at_call 19; exact Calls.quiet_of_same (HLQ _)))
        go_wp2
        go_roundw
        case rel => exact ⟨k + 1, by go_num, by have := HNk.out; omega, addK S ac.k, ys5, V5.out.1.keep ((Touch.refl _ _).drewN _), V5.out.2, by have := HNk.out; have := addK_len (s := S) (k := ac.k); omega⟩
        case measure => simp [intOf]; have := HNk.out; omega
    · obtain rfl : k = A := by omega
      obtain ⟨S, ys, hks, hkv, hSk⟩ := HR0.out
      have HK2 := hid (Kl.start hks hkv)
      have HKV := hid hkv
      have hsk2 : S.length ≤ 1759218604390 := by omega
      clear hks hkv HR0 hSk hlt hk
      obtain ⟨wo, rfl⟩ : ∃ wo, wo = wr := ⟨_, rfl⟩
      go_upto_region 16 with fail
      generalize wo.heap.size = q16 at *
      generalize hW8 : wo.alloc (.map #[] 0) = W8 at *
      clear hW8
      go_upto_block 2 with fail
      go_wp2_with fail
      go_loopw [10, 71] (fun s10 s71 wr => ∃ (T : Int) (i : Nat), s10 = .int .i64 T ∧ s71 = .int .i64 (i : Int) ∧ i ≤ B ∧ 0 ≤ T ∧ T ≤ 4611686018427387904 ∧ Hid (Kl w m c T ys q9 S q16 (i * 65536) wr)) (fun _ i _ => B - (intOf i).toNat)
      case atStart => exact ⟨0, 0, rfl, rfl, Nat.zero_le _, Int.le_refl _, by decide, by simpa using HK2⟩
      case round =>
        clear HK2
        obtain ⟨T, i, rfl, rfl, hi, hT0, hT1, HR⟩ := hrel
        by_cases hlt : i < B
        · have zk : (i : Int) < (B : Int) := by omega
          obtain ⟨bb, boff, rfl, hrow⟩ : ∃ ba off, buu = some ⟨ba, off, none⟩ ∧ RowN w ba off zs := by
            rcases HRou.out with e | e
            · omega
            · exact e
          have hnx : i < zs.length := by have := HBx.out; omega
          have q0 := (hrow.keep HR.out.t).c0 i hnx
          have hwz := HWz.out zs[i] (List.getElem_mem hnx)
          have hz0 := hwz.lo
          have hz1 := hwz.hi
          generalize zs[i] = z at *
          have HNi := hid (And.intro hi hlt)
          clear hrow hnx hwz hi hlt
          by_cases hzn : z < 0
          · go_wp2_with fail
            go_roundw
            case rel => exact ⟨T, i + 1, rfl, by go_num, by have := HNi.out; omega, hT0, hT1, hid (HR.out.more (by omega))⟩
            case measure => simp [intOf]; have := HNi.out; omega
          · by_cases hzm : 4611686018427387904 - T < z
            · go_wp2_with fail
              go_roundw
              case rel => exact ⟨T, i + 1, rfl, by go_num, by have := HNi.out; omega, hT0, hT1, hid (HR.out.more (by omega))⟩
              case measure => simp [intOf]; have := HNi.out; omega
            · have hTz : T + z ≤ 4611686018427387904 := by omega
              have HL := hid (HR.out.later (T' := T + z) (by omega) hTz)
              have HAl := hid HL.out.all
              have hbx := HL.out.bound
              unfold PT at HAl
              clear HR
              obtain ⟨wp, rfl⟩ : ∃ wp, wp = wr := ⟨_, rfl⟩
              go_upto_block 4 with (go_at_call 20; refine HAl.out.mono ?_; rintro x w6 ⟨v6, rfl, o6, t6⟩; have O6 := hid o6; have T6 := hid t6; obtain ⟨a6, c6, hv6, hg6⟩ := row_form56 o6; subst hv6; have HG6 := hid hg6; clear hg6 o6 t6)
              obtain ⟨n, hn⟩ : ∃ n, n = ys.length := ⟨_, rfl⟩
              have HNy := hid hn
              rw [← hn] at O6 HG6 hbx ⊢
              clear hn
              have HI6 : Hid (Kl w m c (T + z) ys q9 S q16 (i * 65536) w6) := hid (HL.out.keep T6.out)
              have zn : (n : Int) ≤ 65536 := by omega
              have hT20 : 0 ≤ T + z := by omega
              clear HL T6 HAl
              generalize T + z = T2 at *
              go_wp2_with fail
              go_loopw [89] (fun s89 wr => ∃ j : Nat, s89 = .int .i64 (j : Int) ∧ j ≤ n ∧ Hid (Kl w m c T2 ys q9 S q16 (i * 65536 + j) wr ∧ wr.ownsRow wp.heap.size 56 7 (.slice a6 n c6) n (cellsN ys))) (fun s _ => n - (intOf s).toNat)
              case atStart => exact ⟨0, rfl, Nat.zero_le _, hid ⟨HI6.out.more (by omega), O6.out⟩⟩
              case round =>
                clear HI6 O6
                obtain ⟨j, rfl, hj, HR⟩ := hrel
                by_cases hlt : j < n
                · have zj : (j : Int) < (n : Int) := by omega
                  obtain ⟨g6, rfl⟩ := HG6.out (by omega)
                  have hjy : j < ys.length := by have := HNy.out; omega
                  have hxm : ys[j] ∈ ys := List.getElem_mem hjy
                  have r0 := own_at56 HR.out.2 j 0 hjy (by omega) rfl
                  have r1 := own_at56 HR.out.2 j 1 hjy (by omega) rfl
                  have r2 := own_at56 HR.out.2 j 2 hjy (by omega) rfl
                  have r3 := own_at56 HR.out.2 j 3 hjy (by omega) rfl
                  have r4 := own_at56 HR.out.2 j 4 hjy (by omega) rfl
                  have r5 := own_at56 HR.out.2 j 5 hjy (by omega) rfl
                  have r6 := own_at56 HR.out.2 j 6 hjy (by omega) rfl
                  rw [Nat.add_zero] at r0
                  generalize ys[j] = x at *
                  have HX := hid hxm
                  obtain ⟨W7, hW7⟩ : ∃ W7, W7 = wr.alloc (nbx x) := ⟨_, rfl⟩
                  have t7 : Touch [] wr W7 := by rw [hW7]; exact (Touch.refl _ _).alloc _
                  have hb7 : W7.heap[wr.heap.size]? = some (nbx x) := by rw [hW7]; exact heap_alloc_new wr _
                  have HLk := hid ((HR.out.1.keep t7).look HX.out)
                  have O7 := hid (own_touch HR.out.2 t7 (fun _ _ e => by cases e))
                  obtain ⟨hrt, ha0, ha1, _⟩ := HR.out.1.ats HX.out
                  have Hrt := hid hrt
                  have HNj := hid (And.intro hj hlt)
                  obtain ⟨p0, p1, p2, p3, p4, p5, p6⟩ := N7.mk' hb7
                  obtain ⟨hh, hhd⟩ : ∃ hh, hh = howC c x.2.1 (T2 - x.2.2) := ⟨_, rfl⟩
                  rw [← hhd] at HLk
                  have HH := hid hhd
                  have hw : IntKind.i64.wrap (T2 - x.2.2) = T2 - x.2.2 := by simp [IntKind.wrap, IntKind.bits, IntKind.signed, IntKind.min, IntKind.max]; omega
                  have HB7 := hid hb7
                  clear HR t7 hb7 hrt hj hlt hjy hxm hhd
                  unfold nbx at hW7
                  unfold PT kv sv at HLk
                  obtain ⟨wq, rfl⟩ : ∃ wq, wq = wr := ⟨_, rfl⟩
                  go_upto_region 24 with fail
                  rw [← hW7]
                  clear hW7 r0 r1 r2 r3 r4 r5 r6
                  go_upto_region 25 with (go_at_call 21; refine HLk.out.mono ?_; rintro x1 w8 ⟨rfl, k8, m8⟩; have K8 := hid k8; have M8 := hid m8; clear k8 m8 p0 p1 p2 p3 p4 p5 p6)
                  obtain ⟨W9, hW9⟩ : ∃ W9, W9 = w8.alloc (sbx hh (T2 - x.2.2) x.2.1) := ⟨_, rfl⟩
                  have t9 : Touch [] w8 W9 := by rw [hW9]; exact (Touch.refl _ _).alloc _
                  have hb9 : W9.heap[w8.heap.size]? = some (sbx hh (T2 - x.2.2) x.2.1) := by rw [hW9]; exact heap_alloc_new w8 _
                  obtain ⟨s0, s1, s2, s3, s4, s5⟩ := S6.mk' hb9
                  obtain ⟨p0, p1, p2, p3, p4, p5, p6⟩ := N7.mk' (t9.keep (M8.out _ _ HB7.out) (by simp))
                  have K9 := hid (K8.out.keep t9)
                  have O9 := hid (own_touch (own_keep56 O7.out M8.out) t9 (fun _ _ e => by cases e))
                  obtain ⟨gs, hlook, hgs⟩ := K9.out.seen HX.out
                  have HGs := hid hgs
                  have ce := HB.out _ K9.out.cb
                  obtain ⟨ce, ct⟩ := ce
                  have eq41 := fun w => eqf w x.2.1.2.1 x.2.1.2.2.1 x.2.1.2.2.2
                  have nq := fun w => neq43 w x.2.1.1 x.2.1.2.1 x.2.1.2.2.1 x.2.1.2.2.2
                  obtain ⟨ct0, cn0, cs0⟩ := K9.out.cfg
                  unfold sbx at hW9
                  rw [← hW9]
                  unfold kv at hlook
                  clear hW9 t9 hb9 K8 M8 O7 HB7 HLk hgs
                  have hhow := HH.out
                  unfold howC at hhow
                  by_cases h0 : x.2.1.2.1 = 0
                  · have e1 : nonF x.2.1.2.1 x.2.1.2.2.1 x.2.1.2.2.2 = true := by
                      have h2 := (right_none Hrt.out).1 h0
                      simp only [Prod.mk.injEq] at h2
                      simp [nonF, h2]
                    rw [e1] at eq41
                    rw [if_pos h0] at hhow
                    clear e1 h0
                    by_cases hA : T2 - x.2.2 < c.t
                    · rw [if_pos hA] at hhow
                      subst hhow
                      have g0 : gs = false := by cases hg : gs with | false => rfl | true => (have := HGs.out hg; rw [← HH.out] at this; cases this)
                      subst g0
                      obtain ⟨ob, hu, k10, m10⟩ := K9.out.set (by unfold maxLen; have := HNi.out; omega) HX.out false (fun h => by cases h)
                      have K10 := hid k10
                      have O10 := hid (own_keep56 O9.out m10)
                      unfold kv at hu
                      clear k10 m10
                      generalize setBlock W9 q16 ob = W10 at *
                      go_wp2_with fail
                      go_roundw
                      case rel => exact ⟨j + 1, by go_num, by have := HNj.out; omega, hid ⟨K10.out.more (by omega), O10.out⟩⟩
                      case measure => simp [intOf]; have := HNj.out; omega
                    · rw [if_neg hA] at hhow
                      by_cases hBc : T2 - x.2.2 < c.t + c.s
                      · rw [if_pos hBc] at hhow
                        subst hhow
                        have g0 : gs = false := by cases hg : gs with | false => rfl | true => (have := HGs.out hg; rw [← HH.out] at this; cases this)
                        subst g0
                        obtain ⟨ob, hu, k10, m10⟩ := K9.out.set (by unfold maxLen; have := HNi.out; omega) HX.out false (fun h => by cases h)
                        have K10 := hid k10
                        have O10 := hid (own_keep56 O9.out m10)
                        unfold kv at hu
                        clear k10 m10
                        generalize setBlock W9 q16 ob = W10 at *
                        go_wp2_with fail
                        go_roundw
                        case rel => exact ⟨j + 1, by go_num, by have := HNj.out; omega, hid ⟨K10.out.more (by omega), O10.out⟩⟩
                        case measure => simp [intOf]; have := HNj.out; omega
                      · rw [if_neg hBc] at hhow
                        subst hhow
                        cases gs
                        · skip
                          obtain ⟨ob, hu, k10, m10⟩ := K9.out.set (by unfold maxLen; have := HNi.out; omega) HX.out true (fun _ => HH.out.symm)
                          have K10 := hid k10
                          have O10 := hid (own_keep56 O9.out m10)
                          unfold kv at hu
                          clear k10 m10
                          generalize setBlock W9 q16 ob = W10 at *
                          go_wp2_with fail
                          go_roundw
                          case rel => exact ⟨j + 1, by go_num, by have := HNj.out; omega, hid ⟨K10.out.more (by omega), O10.out⟩⟩
                          case measure => simp [intOf]; have := HNj.out; omega
                        · skip
                          obtain ⟨ob, hu, k10, m10⟩ := K9.out.set (by unfold maxLen; have := HNi.out; omega) HX.out true (fun _ => HH.out.symm)
                          have K10 := hid k10
                          have O10 := hid (own_keep56 O9.out m10)
                          unfold kv at hu
                          clear k10 m10
                          generalize setBlock W9 q16 ob = W10 at *
                          go_wp2_with fail
                          go_roundw
                          case rel => exact ⟨j + 1, by go_num, by have := HNj.out; omega, hid ⟨K10.out.more (by omega), O10.out⟩⟩
                          case measure => simp [intOf]; have := HNj.out; omega
                  · have e1 : nonF x.2.1.2.1 x.2.1.2.2.1 x.2.1.2.2.2 = false := by simp [nonF, h0]
                    rw [e1] at eq41
                    rw [if_neg h0] at hhow
                    clear e1 h0
                    by_cases hA : T2 - x.2.2 < c.n
                    · rw [if_pos hA] at hhow
                      subst hhow
                      have g0 : gs = false := by cases hg : gs with | false => rfl | true => (have := HGs.out hg; rw [← HH.out] at this; cases this)
                      subst g0
                      obtain ⟨ob, hu, k10, m10⟩ := K9.out.set (by unfold maxLen; have := HNi.out; omega) HX.out false (fun h => by cases h)
                      have K10 := hid k10
                      have O10 := hid (own_keep56 O9.out m10)
                      unfold kv at hu
                      clear k10 m10
                      generalize setBlock W9 q16 ob = W10 at *
                      go_wp2_with fail
                      go_roundw
                      case rel => exact ⟨j + 1, by go_num, by have := HNj.out; omega, hid ⟨K10.out.more (by omega), O10.out⟩⟩
                      case measure => simp [intOf]; have := HNj.out; omega
                    · rw [if_neg hA] at hhow
                      subst hhow
                      cases gs
                      · skip
                        obtain ⟨ob, hu, k10, m10⟩ := K9.out.set (by unfold maxLen; have := HNi.out; omega) HX.out true (fun _ => HH.out.symm)
                        have K10 := hid k10
                        have O10 := hid (own_keep56 O9.out m10)
                        unfold kv at hu
                        clear k10 m10
                        generalize setBlock W9 q16 ob = W10 at *
                        go_wp2_with fail
                        go_roundw
                        case rel => exact ⟨j + 1, by go_num, by have := HNj.out; omega, hid ⟨K10.out.more (by omega), O10.out⟩⟩
                        case measure => simp [intOf]; have := HNj.out; omega
                      · skip
                        obtain ⟨ob, hu, k10, m10⟩ := K9.out.set (by unfold maxLen; have := HNi.out; omega) HX.out true (fun _ => HH.out.symm)
                        have K10 := hid k10
                        have O10 := hid (own_keep56 O9.out m10)
                        unfold kv at hu
                        clear k10 m10
                        generalize setBlock W9 q16 ob = W10 at *
                        go_wp2_with fail
                        go_roundw
                        case rel => exact ⟨j + 1, by go_num, by have := HNj.out; omega, hid ⟨K10.out.more (by omega), O10.out⟩⟩
                        case measure => simp [intOf]; have := HNj.out; omega
                · have zj : (n : Int) ≤ (j : Int) := by omega
                  have hK := HR.out.1.more (N' := (i + 1) * 65536) (by omega)
                  have HK := hid hK
                  clear hK HR
                  go_wp2_with fail
                  go_roundw
                  case rel => exact ⟨T2, i + 1, rfl, by go_num, by have := HNi.out; omega, hT20, hTz, HK⟩
                  case measure => simp [intOf]; have := HNi.out; omega
        · skip
          have zk : (B : Int) ≤ (i : Int) := by omega
          have hl := fun ty => HR.out.mp.len (t := 68) Try.underlying68 ty
          have ce := (HB.out _ HR.out.cb).1
          have HLn := hid HR.out.lenA
          have HTT := hid HR.out.t
          unfold PT at HLn
          by_cases hSe : e < S.length
          · have zSe : (e : Int) < (S.length : Int) := by omega
            clear HR
            generalize (S.length : Int) = sl at *
            go_wp2_with fail
            go_ret
            exact ⟨rfl, HTT.out⟩
          · have zSe : (S.length : Int) ≤ (e : Int) := by omega
            have hp := (HKV.out.pm (by omega)).length_eq
            rw [keysL_len] at hp
            rw [hp] at HLn
            clear HR hp
            generalize (S.length : Int) = sl at *
            go_wp2_with (go_at_call 19; refine HLn.out.mono ?_; rintro x w12 ⟨rfl, e12⟩; rw [e12]; clear e12 w12)
            go_ret
            exact ⟨rfl, HTT.out⟩
theorem law5 (w : World) (c : Cf) (xs : List ActM) (v : Value) (zs : List Int) (u : Value) (wc : Wc c) (hv : SlM w v xs) (hw : ∀ x ∈ xs, WfM x) (hL : xs.length ≤ 1759218604390) (hu : SlN w u zs) (hwz : ∀ x ∈ zs, W64 x) (hZ : zs.length ≤ 17592186043904) :
    Calls Try.prog 5 #[cv c, v, u] w fun e w' => e = .returned (.bool true) ∧ Touch [] w w' := by
  cases hc : okC c with
  | true => exact law5_ok w c xs v zs u wc hv hw hL hu hwz hZ hc
  | false =>
    obtain ⟨a1, n1, c1, rfl⟩ : ∃ a n c, v = .slice a n c := by
      rcases hv with ⟨_, a, d, rfl⟩ | ⟨b, off, cap, rfl, _⟩
      · exact ⟨_, _, _, rfl⟩
      · exact ⟨_, _, _, rfl⟩
    obtain ⟨a2, n2, c2, rfl⟩ : ∃ a n c, u = .slice a n c := by
      rcases hu with ⟨_, a, d, rfl⟩ | ⟨b, off, cap, rfl, _⟩
      · exact ⟨_, _, _, rfl⟩
      · exact ⟨_, _, _, rfl⟩
    exact law5_no w c _ _ _ _ _ _ hc
end Go.Proofs.Ytopepalpmkeffaa
