/- The law of loads, walked; no conditions but the script's length. -/
import Derived.Test.YtkfophlhpjbmgaaQd08
namespace Go.Proofs.Ytkfophlhpjbmgaa
open Go.RowKit Go.Maps Go.ChangeMaps
set_option maxRecDepth 100000
set_option linter.unusedVariables false
set_option linter.unusedSimpArgs false
theorem zero2 (w : World) : (zeroValue 2).run Try.prog w = .ok (.int .i64 0) w := by kernel_rfl
def Nb (i : Nat) (N : Cn) (m : Nat) (b : Int) : Prop := N.t ≤ 2 * i ∧ N.b ≤ 3 * i ∧ N.s ≤ i ∧ m ≤ i ∧ b ≤ (i : Int)
def LgX (w wr : World) (g : Nat) (P : Pt) (bx mb : Nat) (c : CfG) (i : Nat) (now s b : Int) : Prop := ∃ X N f m h, Lg w wr g P bx mb [] c X N now s b f f m h ∧ Nb i N m b
def mB : Value → Nat
  | .bool true => 1
  | _ => 0
def bN (B : Bool) : Nat := if B then 1 else 0
def Ir (w wi : World) (g : Nat) (P : Pt) (bx mb ab : Nat) (ac : ActG) (c : CfG) (i : Nat) (b tt s d : Int) (B : Bool) : Prop := ∃ X N f m h nw, Lg w wi g P bx mb [ab] c X N nw s b f f m h ∧ wi.heap[ab]? = some (.cells ac.cs 39 (0, 0)) ∧ d = Ba.dueV X.B ∧ B = decide (X.B.run ≠ []) ∧ nw ≤ tt ∧ N.t ≤ 2 * i ∧ N.b + bN B ≤ 3 * i + 1 ∧ N.s ≤ i ∧ m ≤ i
theorem Ir.out {w wi : World} {g : Nat} {P : Pt} {bx mb ab : Nat} {ac : ActG} {c : CfG} {i : Nat} {b tt s d : Int} (hI : Ir w wi g P bx mb ab ac c i b tt s d true) (hi : i ≤ 1400000000000) (ht : tt ≤ 4611686018427387904) (hd : d ≤ tt) : ∃ (ln : Nat) (f : Int → Int) (m : Nat) (h : Int → Option Value), 0 < ln ∧ (ln : Int) ≤ c.b ∧ ln ≤ 1024 ∧ s + ln ≤ b ∧ 0 ≤ s ∧ (∀ j : Nat, j < ln → 0 ≤ f (s + 1 + j) ∧ f (s + 1 + j) ≤ d ∧ d - f (s + 1 + j) ≤ c.d) ∧ (∀ k, (h k).getD (.int .i64 0) = .int .i64 (f k)) ∧ Calls Try.prog 8 #[PT g, .int .i64 d] wi fun r w2 => ∃ a k, r = .returned (.tuple #[.slice a ln k, .int .i64 0]) ∧ Rd w2 (.slice a ln k) (nums s ln) ∧ MapAt w2 mb m h ∧ w2.heap[bx]? = some (.cells c.cs 23 (0, 0)) ∧ Touch [] w w2 ∧ ∀ w3, Touch [] w2 w3 → Calls Try.prog 7 #[PT g] w3 fun r w4 => r = .returned (.tuple #[.int .i64 0, .bool false]) ∧ Touch [] w3 w4 ∧ Ir w w4 g P bx mb ab ac c i b tt (s + ln) 0 false := by
  obtain ⟨X, N, f, m, h, nw, lg, hab, hd1, hB, hnw, n1, n2, n3, n4⟩ := hI
  have hr : X.B.run ≠ [] := by simpa using hB.symm
  have hd2 : d = Ba.dueS X.B := by rw [hd1]; unfold Ba.dueV; rw [if_neg hr]
  obtain ⟨d1, d2, d3, d4, d5, d6, d7, d8, d9⟩ := lg.sd.send lg.c3 lg.c1 hr
  have hlen := lg.sd.bd.len
  have hrun := lg.sd.bd.run
  have n2' : N.b + 1 ≤ 3 * i + 1 := n2
  have hpos : 0 < X.B.run.length := List.length_pos_iff.2 hr
  refine ⟨X.B.run.length, f, m, h, hpos, d6, by have := lg.c2; have : (X.B.run.length : Int) ≤ c.b := d6; omega, by omega, lg.sd.bd.s0, fun j hj => ?_, lg.hf, ?_⟩
  · have hm : s + 1 + (j : Int) ∈ X.B.run := by
      rw [hrun]
      exact List.mem_of_getElem? (nums_at (a := s) hj)
    have := d7 _ hm
    have := lg.sd.bd.fz (s + 1 + j)
    rw [← hd2] at *
    have hc : (cfO c).d = c.d := rfl
    omega
  · rw [hd2]
    refine (lg.send hr (by omega)).mono ?_
    rintro r w2 ⟨a, k, rfl, r1, l2, kq⟩
    refine ⟨a, k, rfl, r1, l2.mp, l2.hx, l2.sp.tch, fun w3 t3 => ?_⟩
    have l3 := l2.keep0 t3
    refine l3.next.mono ?_
    rintro r w4 ⟨rfl, t4⟩
    have e1 : Ba.dueV (sndX X (Ba.dueS X.B)).B = 0 := by unfold Ba.dueV; rw [if_pos d8]
    have e2 : decide ((sndX X (Ba.dueS X.B)).B.run ≠ []) = false := by simp [d8]
    refine ⟨by rw [e1, e2], t4, ⟨_, _, f, m, h, _, l3.keep0 t4, ?_, e1.symm, e2.symm, by rw [← hd2]; exact hd, n1, ?_, n3, n4⟩⟩
    · exact ((t3.trans' t4).keep ((kq ab (by simp)).trans hab) (by simp))
    · show N.b + 1 + bN false ≤ 3 * i + 1
      unfold bN
      simp
      omega
theorem Lg.mlt {w wr : World} {g bx mb m : Nat} {P : Pt} {Q : List Nat} {c : CfG} {X : Gp} {N : Cn} {now s b : Int} {f e : Int → Int} {h : Int → Option Value} (L : Lg w wr g P bx mb Q c X N now s b f e m h) : mb < wr.heap.size := by
  obtain ⟨F, q, t, fr, hq⟩ := L.sp
  exact (hq mb (by simp)).1
theorem Lg.ends {w wr : World} {g bx mb m : Nat} {P : Pt} {Q : List Nat} {c : CfG} {X : Gp} {N : Cn} {now s b : Int} {f e : Int → Int} {h : Int → Option Value} (L : Lg w wr g P bx mb Q c X N now s b f e m h) : ∃ n : Nat, (n : Int) = b - s ∧ (n : Int) < c.b ∧ (∀ w', Touch [] wr w' → w'.cell? ⟨bx, 5, none⟩ = some (.int .i64 c.b)) ∧ ∀ w', Touch [] wr w' → Calls Try.prog 11 #[PT g] w' fun r w2 => (∃ a k, r = .returned (.slice a n k)) ∧ Touch [] wr w2 := by
  refine ⟨X.B.run.length, L.sd.bd.len, L.sd.bd.sz, fun w' T => cell_at (L.keep0 T).hx rfl, fun w' T => (L.keep0 T).gath.mono ?_⟩
  rintro r w2 ⟨e, t⟩
  exact ⟨e, T.trans' t⟩
theorem rd_map {w w' : World} {v : Value} {xs : List Int} {mb m : Nat} {h : Int → Option Value} (hr : Rd w v xs) (hm : MapAt w mb m h) (T : Touch [mb] w w') : Rd w' v xs := by
  obtain ⟨a, c, rfl, h1, h2, h0, h3⟩ := hr
  refine ⟨a, c, rfl, h1, h2, h0, ?_⟩
  rcases h3 with e | ⟨b, cur, e, z, rfl, hb, hc⟩
  · exact Or.inl e
  · refine Or.inr ⟨b, cur, e, z, rfl, T.keep hb (fun q => ?_), hc⟩
    simp only [List.mem_singleton] at q
    subst q
    obtain ⟨D, ⟨es, cl, hb2, _⟩, _⟩ := hm
    rw [hb] at hb2
    cases hb2
theorem nb_next {i : Nat} {N M : Cn} {m m' : Nat} {b b' : Int} {h : Int → Option Value} {k : Int} (hn : N.t ≤ 2 * i ∧ N.b ≤ 3 * i + 1 ∧ N.s ≤ i ∧ m ≤ i) (hM : M.t ≤ N.t + 2 ∧ M.b ≤ N.b + 2 ∧ M.s ≤ N.s + 1) (hb : (b' = b ∧ m' = m) ∨ (b' = b + 1 ∧ m' = if (h k).isSome then m else m + 1)) (zb : b ≤ (i : Int)) : Nb (i + 1) M m' b' := by
  unfold Nb
  rcases hb with ⟨rfl, rfl⟩ | ⟨rfl, rfl⟩
  · omega
  · split <;> omega
set_option maxHeartbeats 32000000 in
theorem sends_law (w : World) (c : CfG) (xs : List ActG) (v : Value) (hc : c.ok) (hsl : SlActG w v xs) (hok : ∀ x ∈ xs, x.ok) (hlen : xs.length ≤ 1400000000000) : Calls Try.prog 3 #[.agg c.cs, v] w fun e w' => e = .returned (.bool true) ∧ Touch [] w w' := by
  obtain ⟨va, vc, rfl⟩ : ∃ a k, v = .slice a xs.length k := by
    rcases hsl with ⟨rfl, a, k, rfl⟩ | ⟨b, off, cap, rfl, _⟩
    · exact ⟨a, k, rfl⟩
    · exact ⟨_, _, rfl⟩
  have HRow : Hid (xs.length = 0 ∨ ∃ b off, va = some ⟨b, off, none⟩ ∧ RowActG w b off xs) := by
    rcases hsl with ⟨rfl, _⟩ | ⟨b, off, cap, e, r⟩
    · exact Or.inl rfl
    · simp only [Value.slice.injEq] at e
      exact Or.inr ⟨b, off, e.1, r⟩
  obtain ⟨A, hA⟩ : ∃ A, A = xs.length := ⟨_, rfl⟩
  have HAx := hid hA
  have HWf := hid hok
  rw [← hA] at HRow hlen ⊢
  have HLe := hid hlen
  obtain ⟨V, hV⟩ : ∃ V, V = w.alloc (.cells c.cs 23) := ⟨_, rfl⟩
  have tv : Touch [] w V := by rw [hV]; exact (Touch.refl _ _).alloc _
  have hb : V.heap[w.heap.size]? = some (.cells c.cs 23) := by rw [hV]; exact heap_alloc_new w _
  have HV := hid hV
  have TV := hid tv
  have c0 : V.cell? ⟨w.heap.size, 0, none⟩ = some (.int .i64 c.t) := cell_at hb rfl
  have c1 : V.cell? ⟨w.heap.size, 1, none⟩ = some (.int .i64 c.n) := cell_at hb rfl
  have c2 : V.cell? ⟨w.heap.size, 2, none⟩ = some (.int .i64 c.s) := cell_at hb rfl
  have c3 : V.cell? ⟨w.heap.size, 3, none⟩ = some (.int .i64 c.e) := cell_at hb rfl
  have c4 : V.cell? ⟨w.heap.size, 4, none⟩ = some (.int .i64 c.f) := cell_at hb rfl
  have c5 : V.cell? ⟨w.heap.size, 5, none⟩ = some (.int .i64 c.b) := cell_at hb rfl
  have c6 : V.cell? ⟨w.heap.size, 6, none⟩ = some (.int .i64 c.d) := cell_at hb rfl
  have HNo : Hid (Me.okC (cfO c) = false → Calls Try.prog 4 #[.agg c.cs] V fun e w1 => e = .returned (.tuple #[.pointer none, .int .i64 100]) ∧ Touch [] V w1) := hid (fun h => new_no V (cfO c) h)
  have HYe : Hid (Me.okC (cfO c) = true → Calls Try.prog 4 #[.agg c.cs] V fun e w1 => ∃ g, e = .returned (.tuple #[PT g, .int .i64 0]) ∧ NwE V w1 [] g (cfO c) 0 []) := hid (fun h => new_ V (cfO c) h ⟨hc.1.hi, hc.2.1.hi, hc.2.2.1.hi, hc.2.2.2.2.2.2.hi⟩)
  clear hA hok hlen hsl hb tv hc
  unfold CfG.cs at hV HNo HYe ⊢
  unfold PT at HYe
  go_enter Try.func3, Try.ntmps3
  go_upto_region 1 with fail
  rw [← hV]
  clear hV
  by_cases hcc : Me.okC (cfO c) = true
  · have HN := hid (HYe.out hcc)
    clear HYe HNo
    go_upto_region 2 with (go_at_call 4; refine HN.out.mono ?_; rintro e w1 ⟨g, rfl, hn⟩; have HNN := hid hn; clear hn c0 c1 c2 c3 c4 c5 c6)
    go_upto_region 4 with (go_at_call 5; refine (awake_ _).mono ?_; rintro e w2 ⟨rfl, t2⟩; have T2 := hid t2; clear t2)
    obtain ⟨P, hL0⟩ := Lg.start HV.out hcc HNN.out T2.out
    obtain ⟨W3, hW3⟩ : ∃ W, W = w2.alloc (.map #[] 0) := ⟨_, rfl⟩
    have hmm := @run_makeMap Try.prog
    go_upto_region 6 with fail
    rw [← hW3] at hL0 ⊢
    have HL0 : Hid (LgX w W3 g P w.heap.size w2.heap.size c 0 0 0 0) := hid ⟨_, _, _, _, _, hL0, ⟨Nat.le_refl _, Nat.le_refl _, Nat.le_refl _, Nat.le_refl _, Int.le_refl _⟩⟩
    clear hL0 hW3 hmm HN HNN T2 HV
    generalize w2.heap.size = mb at *
    obtain ⟨bx, hbx⟩ : ∃ bx, bx = w.heap.size := ⟨_, rfl⟩
    rw [← hbx] at HL0 ⊢
    clear hbx
    go_wp2
    go_loopw [7, 8, 9, 41] (fun s7 s8 s9 s41 wr => ∃ i : Nat, s41 = .int .i64 (i : Int) ∧ i ≤ A ∧ ∃ now s b : Int, s7 = .int .i64 now ∧ s8 = .int .i64 s ∧ s9 = .int .i64 b ∧ Hid (LgX w wr g P bx mb c i now s b)) (fun _ _ _ i _ => A - (intOf i).toNat)
    case atStart => exact ⟨0, rfl, Nat.zero_le _, 0, 0, 0, rfl, rfl, rfl, HL0⟩
    case round =>
      clear HL0
      obtain ⟨i, rfl, hi, now, s, b, rfl, rfl, rfl, HR⟩ := hrel
      by_cases hlt : i < A
      · have zi : (i : Int) < (A : Int) := by omega
        have zA : (A : Int) ≤ 1400000000000 := by have := HLe.out; omega
        obtain ⟨ba, off, rfl, hrow⟩ : ∃ ba off, va = some ⟨ba, off, none⟩ ∧ RowActG w ba off xs := by
          rcases HRow.out with e | e
          · omega
          · exact e
        have hnx : i < xs.length := by have := HAx.out; omega
        obtain ⟨X, N, f, m, h, lg, nb⟩ := HR.out
        have hrw := hrow.keep lg.sp.tch
        have q0 := hrw.c0 i hnx
        have q1 := hrw.c1 i hnx
        have q2 := hrw.c2 i hnx
        have q3 := hrw.c3 i hnx
        have q4 := hrw.c4 i hnx
        have q5 := hrw.c5 i hnx
        have q6 := hrw.c6 i hnx
        have q7 := hrw.c7 i hnx
        have q8 := hrw.c8 i hnx
        have q9 := hrw.c9 i hnx
        have q10 := hrw.c10 i hnx
        have q11 := hrw.c11 i hnx
        have HWx := hid (HWf.out xs[i] (List.getElem_mem hnx))
        have zn0 : 0 ≤ now := by have := lg.sd.z; have := lg.sd.n1; omega
        have zn1 : now ≤ 4611686018427387904 := lg.sd.n2
        have zs0 : 0 ≤ s := lg.sd.bd.s0
        have zb0 : s ≤ b := by have := lg.sd.bd.len; omega
        have zb1 : b ≤ (i : Int) := nb.2.2.2.2
        have HLG := hid lg
        have HNB := hid nb
        clear hrow hrw lg nb HR
        generalize xs[i] = ac at *
        clear hnx
        go_upto_region 9 with fail
        obtain ⟨W1, hW1⟩ : ∃ W, W = wr.alloc (.cells #[.int .i64 ac.kd, .int .i64 ac.cl, .int .i64 ac.tk, .int .i64 ac.rn, .int .i64 ac.st, .int .i64 ac.od, .int .u16 ac.k.sp, .string ac.k.nm, .int .i64 ac.o.va, .int .i64 ac.o.fl.kd, .int .i64 ac.o.fl.cd, .int .i64 ac.o.fl.rn] 39) := ⟨_, rfl⟩
        have h1 := heap_alloc_new wr (.cells #[.int .i64 ac.kd, .int .i64 ac.cl, .int .i64 ac.tk, .int .i64 ac.rn, .int .i64 ac.st, .int .i64 ac.od, .int .u16 ac.k.sp, .string ac.k.nm, .int .i64 ac.o.va, .int .i64 ac.o.fl.kd, .int .i64 ac.o.fl.cd, .int .i64 ac.o.fl.rn] 39)
        have l1 := HLG.out.alloc (.cells #[.int .i64 ac.kd, .int .i64 ac.cl, .int .i64 ac.tk, .int .i64 ac.rn, .int .i64 ac.st, .int .i64 ac.od, .int .u16 ac.k.sp, .string ac.k.nm, .int .i64 ac.o.va, .int .i64 ac.o.fl.kd, .int .i64 ac.o.fl.cd, .int .i64 ac.o.fl.rn] 39)
        rw [← hW1] at h1 l1 ⊢
        have z0 : W1.cell? ⟨wr.heap.size, 0, none⟩ = some (.int .i64 ac.kd) := cell_at h1 rfl
        have z1 : W1.cell? ⟨wr.heap.size, 1, none⟩ = some (.int .i64 ac.cl) := cell_at h1 rfl
        have z2 : W1.cell? ⟨wr.heap.size, 2, none⟩ = some (.int .i64 ac.tk) := cell_at h1 rfl
        have z3 : W1.cell? ⟨wr.heap.size, 3, none⟩ = some (.int .i64 ac.rn) := cell_at h1 rfl
        have z4 : W1.cell? ⟨wr.heap.size, 4, none⟩ = some (.int .i64 ac.st) := cell_at h1 rfl
        have z5 : W1.cell? ⟨wr.heap.size, 5, none⟩ = some (.int .i64 ac.od) := cell_at h1 rfl
        have z6 : W1.cell? ⟨wr.heap.size, 6, none⟩ = some (.int .u16 ac.k.sp) := cell_at h1 rfl
        have z7 : W1.cell? ⟨wr.heap.size, 7, none⟩ = some (.string ac.k.nm) := cell_at h1 rfl
        have z8 : W1.cell? ⟨wr.heap.size, 8, none⟩ = some (.int .i64 ac.o.va) := cell_at h1 rfl
        have z9 : W1.cell? ⟨wr.heap.size, 9, none⟩ = some (.int .i64 ac.o.fl.kd) := cell_at h1 rfl
        have z10 : W1.cell? ⟨wr.heap.size, 10, none⟩ = some (.int .i64 ac.o.fl.cd) := cell_at h1 rfl
        have z11 : W1.cell? ⟨wr.heap.size, 11, none⟩ = some (.int .i64 ac.o.fl.rn) := cell_at h1 rfl
        have HAT := hid (at_ W1 now ac zn0 zn1)
        have HL1 := hid l1
        have HB1 := hid h1
        clear hW1 h1 l1 q0 q1 q2 q3 q4 q5 q6 q7 q8 q9 q10 q11
        generalize wr.heap.size = ab at *
        unfold ActG.cs at HAT
        go_upto_region 10 with (go_at_call 6; refine HAT.out.mono ?_; rintro e w4 ⟨rfl, t4⟩; have T4 := hid t4; clear t4 z0 z1 z2 z3 z4 z5 z6 z7 z8 z9 z10 z11)
        have HL4 := hid (HL1.out.keep0 T4.out)
        have HB4 := hid (T4.out.keep HB1.out (by simp))
        clear HAT HL1 HB1 T4 HLG
        generalize atT now ac = tt at *
        by_cases hto : now ≤ tt ∧ tt ≤ 4611686018427387904
        · obtain ⟨ht1, ht2⟩ := hto
          have HN4 := hid (HL4.out.next)
          unfold PT at HN4
          obtain ⟨d0, hd0⟩ : ∃ d0, d0 = Ba.dueV X.B := ⟨_, rfl⟩
          obtain ⟨B0, hB0⟩ : ∃ B0, B0 = decide (X.B.run ≠ []) := ⟨_, rfl⟩
          rw [← hd0, ← hB0] at HN4
          have HDB := hid (And.intro hd0 hB0)
          clear hd0 hB0
          go_wp2_with (go_at_call 7; refine HN4.out.mono ?_; rintro e w5 ⟨rfl, t5⟩; have T5 := hid t5; clear t5)
          have HI0 : Hid (Ir w w5 g P bx mb ab ac c i b tt s d0 B0) := hid ⟨X, N, f, m, h, now, HL4.out.keep0 T5.out, T5.out.keep HB4.out (by simp), HDB.out.1, HDB.out.2, ht1, HNB.out.1, by have := HNB.out.2.1; unfold bN; split <;> omega, HNB.out.2.2.1, HNB.out.2.2.2.1⟩
          clear HN4 HL4 HB4 T5 HNB HDB
          go_loopw [8, 14, 15] (fun s8 s14 s15 wi => ∃ s' d : Int, ∃ B : Bool, s8 = .int .i64 s' ∧ s14 = .int .i64 d ∧ s15 = .bool B ∧ Hid (Ir w wi g P bx mb ab ac c i b tt s' d B)) (fun _ _ is _ => mB is)
          case atStart => exact ⟨s, d0, B0, rfl, rfl, rfl, HI0⟩
          case round =>
            clear HI0
            obtain ⟨s', d, B, rfl, rfl, rfl, HI⟩ := hrel
            by_cases hd : B = true ∧ d ≤ tt
            · obtain ⟨rfl, hd⟩ := hd
              obtain ⟨ln, f', m', h', p1, p2, p3, p4, p5, p6, p7, p8⟩ := HI.out.out (by have := HLe.out; omega) ht2 hd
              have HP6 := hid p6
              have HP7 := hid p7
              have HP8 := hid p8
              clear p6 p7 p8 HI
              unfold PT at HP8
              have zl : ¬ ((ln : Int) = 0) := by omega
              go_upto_region 15 with (go_at_call 8; refine HP8.out.mono ?_; rintro e w6 ⟨a6, k6, rfl, r6, m6, b6, t6, nx⟩; have HR6 := hid r6; have HM6 := hid m6; have HB6 := hid b6; have HT6 := hid t6; have HX6 := hid nx; clear r6 m6 b6 t6 nx)
              have x5 : w6.cell? ⟨bx, 5, none⟩ = some (.int .i64 c.b) := cell_at HB6.out rfl
              have HLD := hid (loaded_ w6 _ s' c.b ln HR6.out p5 (by omega) p3 p2)
              clear HP8
              go_wp2_with (go_at_call 9; refine HLD.out.mono ?_; rintro e w7 ⟨rfl, t7⟩; have T7 := hid t7; clear t7)
              have x6 : w7.cell? ⟨bx, 6, none⟩ = some (.int .i64 c.d) := cell_at (T7.out.keep HB6.out (by simp)) rfl
              clear x5 HLD
              have zl2 : ((ln : Int) == 0) = false := by simp; omega
              rw [zl2]
              clear zl zl2
              go_loopw [98] (fun s98 wx => ∃ j : Nat, s98 = .int .i64 (j : Int) ∧ j ≤ ln ∧ Hid (wx = w7)) (fun j _ => ln - (intOf j).toNat)
              case atStart => exact ⟨0, rfl, Nat.zero_le _, hid rfl⟩
              case round =>
                obtain ⟨j, rfl, hj, HE⟩ := hrel
                obtain rfl := HE.out
                clear HE
                by_cases hjl : j < ln
                · have zj : (j : Int) < (ln : Int) := by omega
                  obtain ⟨g1, rfl, y1⟩ := (HR6.out.keep0 T7.out).cell (i := j) (by rw [nums_len]; exact hjl)
                  have e1 : (nums s' ln)[j]'(by rw [nums_len]; exact hjl) = s' + 1 + (j : Int) := by
                    have := nums_at (a := s') hjl
                    rw [List.getElem?_eq_getElem (by rw [nums_len]; exact hjl)] at this
                    exact Option.some.inj this
                  rw [e1] at y1
                  clear e1
                  obtain ⟨f0, f1, f2⟩ := HP6.out j hjl
                  have HFV := hid (HP7.out (s' + 1 + (j : Int)))
                  have HMV := hid (HM6.out.kept (T7.out.block _ HM6.out.lt (by simp)))
                  have HK : Hid (W64 (s' + 1 + (j : Int))) := hid (W64.mk (by omega) (by omega))
                  generalize f' (s' + 1 + (j : Int)) = fv at *
                  go_wp2_with (at_lookup; refine wpList_mlook _ rfl _ _ 30 rfl 2 Try.underlying30 (zero2 _) mb m' h' rfl HMV.out _ rfl HK.out (.int .i64 fv) HFV.out ?_)
                  go_roundw
                  case rel => exact ⟨j + 1, by go_num, by omega, hid trivial⟩
                  case measure => simp [intOf]; omega
                · have zj : ¬ (j : Int) < (ln : Int) := by omega
                  have HNX := hid (HX6.out _ T7.out)
                  unfold PT at HNX
                  clear x6
                  go_wp2_with (go_at_call 7; refine HNX.out.mono ?_; rintro e w8 ⟨rfl, t8, i8⟩; have HI8 := hid i8; clear t8 i8)
                  go_roundw
                  case rel => exact ⟨s' + ln, 0, false, rfl, rfl, rfl, HI8⟩
                  case measure => simp [mB]
            · obtain ⟨X, N, f, m, h, nw, lg, hab, hd1, hB, hnw, n1, n2, n3, n4⟩ := HI.out
              have hBd : B = false ∨ (B = true ∧ tt < d) := by
                cases B
                · exact Or.inl rfl
                · exact Or.inr ⟨rfl, by have : ¬ d ≤ tt := fun e => hd ⟨rfl, e⟩; omega⟩
              have lt := lg.later hnw ht2 (fun hr => by
                have e1 : B = true := by rw [hB]; simpa using hr
                have e2 : d = Ba.dueS X.B := by rw [hd1]; unfold Ba.dueV; rw [if_neg hr]
                rw [← e2]
                have : ¬ d ≤ tt := fun e => hd ⟨e1, e⟩
                omega)
              have zA2 := HLe.out
              have n2' : N.b ≤ 3 * i + 1 := by omega
              have HJ := hid (lt.join ac.k.key HWx.out.2.2.2.2.2.2.1 HWx.out.2.1 HWx.out.2.2.1 (by omega) (by omega) (by omega))
              have kc1 : wr.cell? ⟨ab, 1, none⟩ = some (.int .i64 ac.cl) := cell_at hab rfl
              have kc2 : wr.cell? ⟨ab, 2, none⟩ = some (.int .i64 ac.tk) := cell_at hab rfl
              have kc6 : wr.cell? ⟨ab, 6, none⟩ = some (.int .u16 ac.k.sp) := cell_at hab rfl
              have kc7 : wr.cell? ⟨ab, 7, none⟩ = some (.string ac.k.nm) := cell_at hab rfl
              have HNB := hid (And.intro n1 (And.intro n2' (And.intro n3 n4)))
              have zs' : 0 ≤ s' := lg.sd.bd.s0
              have zb' : s' ≤ b := by have := lg.sd.bd.len; omega
              clear lg lt hab hd1 hB n1 n2 n2' n3 n4 hd HI
              unfold kv KyA.key PT at HJ
              rcases hBd with rfl | ⟨rfl, hdt⟩
              · go_upto_region 26 with (go_at_call 10; refine HJ.out.mono ?_; rintro e w8 ⟨E, a8, ln, k8, J, rfl, hE, kq, Y, M, hM, hcs⟩; have HE := hid hE; have HM8 := hid hM; have HCS := hid hcs; clear hE kq hM hcs kc1 kc2 kc6 kc7)
                obtain ⟨W9, hW9⟩ : ∃ W, W = w8.alloc (.cells #[.int .i64 J.how, .int .i64 J.run, .bool J.bg, .int .i64 J.o.1, .int .i64 J.o.2.1, .int .i64 J.o.2.2.1, .int .i64 J.o.2.2.2, .slice a8 ln k8] 48) := ⟨_, rfl⟩
                have h9 := heap_alloc_new w8 (.cells #[.int .i64 J.how, .int .i64 J.run, .bool J.bg, .int .i64 J.o.1, .int .i64 J.o.2.1, .int .i64 J.o.2.2.1, .int .i64 J.o.2.2.2, .slice a8 ln k8] 48)
                have t9 : Touch [] w8 W9 := by rw [hW9]; exact (Touch.refl _ _).alloc _
                rw [← hW9] at h9 ⊢
                have HB9 := hid h9
                have HT9 := hid t9
                clear hW9 t9 h9 HJ
                have h8s := HT9.out.size
                go_cut [137] from 124 to 136 (fun s137 wx => s137 = .bool false ∧ Hid (wx = W9))
                case first =>
                  rcases HE.out with rfl | rfl | rfl | rfl
                  all_goals
                    go_wp2
                    go_meet
                    case rel => exact ⟨rfl, hid rfl⟩
                case rest =>
                  obtain ⟨rfl, hcut2⟩ := hcut
                  rw [show wc = W9 from hcut2.out]
                  clear hcut2
                  have y2 : W9.cell? ⟨w8.heap.size, 2, none⟩ = some (.bool J.bg) := cell_at HB9.out rfl
                  rcases HCS.out with ⟨hbg, hl0, r8, l8⟩ | ⟨hbg, hrn, hlb, r8, l8⟩
                  · rw [hbg] at y2
                    subst hl0
                    have y7 : W9.cell? ⟨w8.heap.size, 7, none⟩ = some (.slice a8 0 k8) := cell_at HB9.out rfl
                    have HL9 := hid ((l8.keep0 HT9.out).less)
                    have x5 : W9.cell? ⟨bx, 5, none⟩ = some (.int .i64 c.b) := cell_at HL9.out.hx rfl
                    have HLD := hid (loaded_ W9 _ s' c.b 0 (r8.keep0 HT9.out) zs' (by omega) (by omega) (by have := l8.c1; omega))
                    clear r8 l8 hbg HCS
                    go_upto_region 36 with (go_at_call 9; refine HLD.out.mono ?_; rintro e w10 ⟨rfl, t10⟩; have y8 : w10.cell? ⟨w8.heap.size, 7, none⟩ = some (.slice a8 0 k8) := cell_at (t10.keep HB9.out (by simp)) rfl; have T10 := hid t10; clear t10)
                    have HL36 := hid (HL9.out.keep0 T10.out)
                    clear HL9 HLD x5 y7 y8
                    obtain ⟨n9, en, el, HC5, HG⟩ := HL36.out.ends
                    have en2 : ((b) - (s') != (n9 : Int)) = false := by simp [en]
                    have hw9 : IntKind.i64.wrap ((b) - (s')) = (b) - (s') := by rw [IntKind.wrap_i64]; omega
                    have HGG := hid HG
                    unfold PT at HGG
                    clear HG en
                    have hs0 : Touch [] w10 w10.drew := (Touch.refl _ _).drew
                    refine wp_region_H (S := fun w' => Touch [] w10 w') (by kernel_rfl) ?_
                    refine wpH_take (i := 0) (v := (.int .i64 (b))) (some 162) rfl rfl (by kernel_rfl) (by kernel_rfl) (by kernel_rfl) (fun _ _ _ h => h) (Or.inl ⟨by rfl, fun w' hS => (by go_simp)⟩) hs0 ?_
                    try simp only [Go.Act.put, List.setIfInBounds_toArray, List.set_cons_zero, List.set_cons_succ]
                    refine wpH_take (i := 1) (v := (.int .i64 (s'))) (some 163) rfl rfl (by kernel_rfl) (by kernel_rfl) (by kernel_rfl) (fun _ _ _ h => h) (Or.inl ⟨by rfl, fun w' hS => (by go_simp)⟩) hs0 ?_
                    try simp only [Go.Act.put, List.setIfInBounds_toArray, List.set_cons_zero, List.set_cons_succ]
                    refine wpH_take (i := 2) (v := (.int .i64 ((b) - (s')))) (some 164) rfl rfl (by kernel_rfl) (by kernel_rfl) (by kernel_rfl) (fun _ _ _ h => h) (Or.inl ⟨by rfl, fun w' hS => (by go_simp)⟩) hs0 ?_
                    try simp only [Go.Act.put, List.setIfInBounds_toArray, List.set_cons_zero, List.set_cons_succ]
                    refine wpH_take (i := 3) (v := (.pointer (some ⟨g, 0, none⟩))) (some 165) rfl rfl (by kernel_rfl) (by kernel_rfl) (by kernel_rfl) (fun _ _ _ h => h) (Or.inl ⟨by rfl, fun w' hS => (by go_simp)⟩) hs0 ?_
                    try simp only [Go.Act.put, List.setIfInBounds_toArray, List.set_cons_zero, List.set_cons_succ]
                    refine wpH_call (i := 4) (o := { dst := some 166, op := Op.call { callee := Callee.value (Operand.func 11), args := #[Operand.tmp 165], argTypes := #[25] }, type := 43, pos := _, after := #[{ on := 3, ground := Ground.data }], guard := none }) (by kernel_rfl) rfl (fun K' hK => ?_)
                    rw [if_pos (by rfl)]
                    go_simp
                    refine (HGG.out _ hs0).mono ?_
                    rintro e wg1 ⟨⟨ag1, kg1, rfl⟩, tg1⟩
                    refine hK.out _ _ tg1 ?_
                    clear hK
                    try simp only [Go.Act.put, List.setIfInBounds_toArray, List.set_cons_zero, List.set_cons_succ]
                    refine wpH_take (i := 5) (v := (.int .i64 (n9 : Int))) (some 167) rfl rfl (by kernel_rfl) (by kernel_rfl) (by kernel_rfl) (fun _ _ _ h => h) (Or.inl ⟨by rfl, fun w' hS => (by go_simp)⟩) tg1 ?_
                    try simp only [Go.Act.put, List.setIfInBounds_toArray, List.set_cons_zero, List.set_cons_succ]
                    refine wpH_take (i := 6) (v := (.bool false)) (some 168) rfl rfl (by kernel_rfl) (by kernel_rfl) (by kernel_rfl) (fun _ _ _ h => h) (Or.inl ⟨by rfl, fun w' hS => (by go_simp)⟩) tg1 ?_
                    try simp only [Go.Act.put, List.setIfInBounds_toArray, List.set_cons_zero, List.set_cons_succ]
                    refine wpH_take (i := 7) (v := (.bool false)) (some 169) rfl rfl (by kernel_rfl) (by kernel_rfl) (by kernel_rfl) (fun _ _ _ h => h) (Or.inl ⟨by rfl, fun w' hS => (by go_simp)⟩) tg1 ?_
                    try simp only [Go.Act.put, List.setIfInBounds_toArray, List.set_cons_zero, List.set_cons_succ]
                    refine wpH_take (i := 8) (v := (.pointer (some ⟨g, 0, none⟩))) (some 170) rfl rfl (by kernel_rfl) (by kernel_rfl) (by kernel_rfl) (fun _ _ _ h => h) (Or.inl ⟨by rfl, fun w' hS => (by go_simp)⟩) tg1 ?_
                    try simp only [Go.Act.put, List.setIfInBounds_toArray, List.set_cons_zero, List.set_cons_succ]
                    refine wpH_take (i := 11) (v := (.pointer (some ⟨bx, 5, none⟩))) (some 173) rfl rfl (by kernel_rfl) (by kernel_rfl) (by kernel_rfl) (fun _ _ _ h => h) (Or.inl ⟨by rfl, fun w' hS => (by go_simp)⟩) tg1 ?_
                    try simp only [Go.Act.put, List.setIfInBounds_toArray, List.set_cons_zero, List.set_cons_succ]
                    refine wpH_take (i := 12) (v := (.int .i64 c.b)) (some 174) rfl rfl (by kernel_rfl) (by kernel_rfl) (by kernel_rfl) (fun _ _ _ h => h) (Or.inl ⟨by rfl, fun w' hS => (by have z0 := HC5 _ hS; go_simp)⟩) tg1 ?_
                    try simp only [Go.Act.put, List.setIfInBounds_toArray, List.set_cons_zero, List.set_cons_succ]
                    refine wpH_call (i := 9) (o := { dst := some 171, op := Op.call { callee := Callee.value (Operand.func 11), args := #[Operand.tmp 170], argTypes := #[25] }, type := 43, pos := _, after := #[{ on := 8, ground := Ground.data }, { on := 7, ground := Ground.chain }, { on := 7, ground := Ground.guard }], guard := some (7, false) }) (by kernel_rfl) rfl (fun K' hK => ?_)
                    rw [if_pos (by rfl)]
                    go_simp
                    refine (HGG.out _ tg1).mono ?_
                    rintro e wg2 ⟨⟨ag2, kg2, rfl⟩, tg2⟩
                    refine hK.out _ _ tg2 ?_
                    clear hK
                    try simp only [Go.Act.put, List.setIfInBounds_toArray, List.set_cons_zero, List.set_cons_succ]
                    refine wpH_take (i := 10) (v := (.int .i64 (n9 : Int))) (some 172) rfl rfl (by kernel_rfl) (by kernel_rfl) (by kernel_rfl) (fun _ _ _ h => h) (Or.inl ⟨by rfl, fun w' hS => (by go_simp)⟩) tg2 ?_
                    try simp only [Go.Act.put, List.setIfInBounds_toArray, List.set_cons_zero, List.set_cons_succ]
                    refine wpH_take (i := 13) (v := (.bool false)) (some 175) rfl rfl (by kernel_rfl) (by kernel_rfl) (by kernel_rfl) (fun _ _ _ h => h) (Or.inl ⟨by rfl, fun w' hS => (by go_simp)⟩) tg2 ?_
                    try simp only [Go.Act.put, List.setIfInBounds_toArray, List.set_cons_zero, List.set_cons_succ]
                    refine wpH_take (i := 14) (v := (.bool false)) (some 176) rfl rfl (by kernel_rfl) (by kernel_rfl) (by kernel_rfl) (fun _ _ _ h => h) (Or.inl ⟨by rfl, fun w' hS => (by go_simp)⟩) tg2 ?_
                    try simp only [Go.Act.put, List.setIfInBounds_toArray, List.set_cons_zero, List.set_cons_succ]
                    refine wpAnyH_done (by kernel_rfl) ?_ _
                    have TG := hid tg2
                    clear en2 hw9
                    go_wp2
                    go_roundw
                    case rel => exact ⟨i + 1, by go_num, by omega, tt, s', b, rfl, rfl, rfl, hid ⟨_, _, _, _, _, HL36.out.keep0 TG.out, nb_next (h := h) (k := 0) HNB.out HM8.out (Or.inl ⟨rfl, rfl⟩) zb1⟩⟩
                    case measure => simp [intOf]; omega
                  · rw [hbg] at y2
                    have y1 : W9.cell? ⟨w8.heap.size, 1, none⟩ = some (.int .i64 J.run) := cell_at HB9.out rfl
                    rw [hrn] at y1
                    have HMB := hid l8.mlt
                    have HRN := hid hrn
                    have HL9 := hid ((l8.keep0 HT9.out).less)
                    have HNM : Hid (m < maxLen) := hid (by have := HNB.out.2.2.2; unfold maxLen; omega)
                    have HK : Hid (W64 (b + 1)) := hid (W64.mk (by omega) (by omega))
                    have HR9 := hid (r8.keep0 HT9.out)
                    clear r8 l8 hbg HCS hrn
                    go_upto_region 31 with (at_mapUpdate; refine wpList_mset _ rfl _ _ _ 30 rfl 2 Try.underlying30 mb m h rfl HL9.out.mp HNM.out (b + 1) rfl HK.out (.int .i64 tt) rfl ?_; intro ob hM; have HLS := hid (HL9.out.set hM); clear hM)
                    have hmb : mb < w8.heap.size := HMB.out
                    have TS : Touch [mb] W9 (setBlock W9 mb ob) := touch_setBlock (Touch.refl _ _) (Or.inl (by simp)) ob
                    have hbS := TS.keep HB9.out (by simp; omega)
                    have z1 : (setBlock W9 mb ob).cell? ⟨w8.heap.size, 1, none⟩ = some (.int .i64 J.run) := cell_at hbS rfl
                    rw [HRN.out] at z1
                    have z7 : (setBlock W9 mb ob).cell? ⟨w8.heap.size, 7, none⟩ = some (.slice a8 ln k8) := cell_at hbS rfl
                    have x5 : (setBlock W9 mb ob).cell? ⟨bx, 5, none⟩ = some (.int .i64 c.b) := cell_at HLS.out.hx rfl
                    have hlc : (ln : Int) ≤ 1024 := by have := HLS.out.c2; omega
                    have HLD := hid (loaded_ (setBlock W9 mb ob) _ s' c.b ln (rd_map HR9.out HL9.out.mp TS) zs' (by omega) (by omega) hlb)
                    have HL9 := HLS
                    have HBS := hid hbS
                    clear HLS hbS TS y1 y2 HR9 HB9 HT9 HNM HK
                    generalize setBlock W9 mb ob = WS at *
                    go_upto_region 36 with (go_at_call 9; refine HLD.out.mono ?_; rintro e w10 ⟨rfl, t10⟩; have y8 : w10.cell? ⟨w8.heap.size, 7, none⟩ = some (.slice a8 ln k8) := cell_at (t10.keep HBS.out (by simp)) rfl; have T10 := hid t10; clear t10)
                    have HL36 := hid (HL9.out.keep0 T10.out)
                    clear HL9 HLD x5 z7 z1 y8
                    obtain ⟨n9, en, el, HC5, HG⟩ := HL36.out.ends
                    have en2 : ((b + 1) - (s' + ↑ln) != (n9 : Int)) = false := by simp [en]
                    have hw9 : IntKind.i64.wrap ((b + 1) - (s' + ↑ln)) = (b + 1) - (s' + ↑ln) := by rw [IntKind.wrap_i64]; omega
                    have HGG := hid HG
                    unfold PT at HGG
                    clear HG en
                    have hs0 : Touch [] w10 w10.drew := (Touch.refl _ _).drew
                    refine wp_region_H (S := fun w' => Touch [] w10 w') (by kernel_rfl) ?_
                    refine wpH_take (i := 0) (v := (.int .i64 (b + 1))) (some 162) rfl rfl (by kernel_rfl) (by kernel_rfl) (by kernel_rfl) (fun _ _ _ h => h) (Or.inl ⟨by rfl, fun w' hS => (by go_simp)⟩) hs0 ?_
                    try simp only [Go.Act.put, List.setIfInBounds_toArray, List.set_cons_zero, List.set_cons_succ]
                    refine wpH_take (i := 1) (v := (.int .i64 (s' + ↑ln))) (some 163) rfl rfl (by kernel_rfl) (by kernel_rfl) (by kernel_rfl) (fun _ _ _ h => h) (Or.inl ⟨by rfl, fun w' hS => (by go_simp)⟩) hs0 ?_
                    try simp only [Go.Act.put, List.setIfInBounds_toArray, List.set_cons_zero, List.set_cons_succ]
                    refine wpH_take (i := 2) (v := (.int .i64 ((b + 1) - (s' + ↑ln)))) (some 164) rfl rfl (by kernel_rfl) (by kernel_rfl) (by kernel_rfl) (fun _ _ _ h => h) (Or.inl ⟨by rfl, fun w' hS => (by go_simp)⟩) hs0 ?_
                    try simp only [Go.Act.put, List.setIfInBounds_toArray, List.set_cons_zero, List.set_cons_succ]
                    refine wpH_take (i := 3) (v := (.pointer (some ⟨g, 0, none⟩))) (some 165) rfl rfl (by kernel_rfl) (by kernel_rfl) (by kernel_rfl) (fun _ _ _ h => h) (Or.inl ⟨by rfl, fun w' hS => (by go_simp)⟩) hs0 ?_
                    try simp only [Go.Act.put, List.setIfInBounds_toArray, List.set_cons_zero, List.set_cons_succ]
                    refine wpH_call (i := 4) (o := { dst := some 166, op := Op.call { callee := Callee.value (Operand.func 11), args := #[Operand.tmp 165], argTypes := #[25] }, type := 43, pos := _, after := #[{ on := 3, ground := Ground.data }], guard := none }) (by kernel_rfl) rfl (fun K' hK => ?_)
                    rw [if_pos (by rfl)]
                    go_simp
                    refine (HGG.out _ hs0).mono ?_
                    rintro e wg1 ⟨⟨ag1, kg1, rfl⟩, tg1⟩
                    refine hK.out _ _ tg1 ?_
                    clear hK
                    try simp only [Go.Act.put, List.setIfInBounds_toArray, List.set_cons_zero, List.set_cons_succ]
                    refine wpH_take (i := 5) (v := (.int .i64 (n9 : Int))) (some 167) rfl rfl (by kernel_rfl) (by kernel_rfl) (by kernel_rfl) (fun _ _ _ h => h) (Or.inl ⟨by rfl, fun w' hS => (by go_simp)⟩) tg1 ?_
                    try simp only [Go.Act.put, List.setIfInBounds_toArray, List.set_cons_zero, List.set_cons_succ]
                    refine wpH_take (i := 6) (v := (.bool false)) (some 168) rfl rfl (by kernel_rfl) (by kernel_rfl) (by kernel_rfl) (fun _ _ _ h => h) (Or.inl ⟨by rfl, fun w' hS => (by go_simp)⟩) tg1 ?_
                    try simp only [Go.Act.put, List.setIfInBounds_toArray, List.set_cons_zero, List.set_cons_succ]
                    refine wpH_take (i := 7) (v := (.bool false)) (some 169) rfl rfl (by kernel_rfl) (by kernel_rfl) (by kernel_rfl) (fun _ _ _ h => h) (Or.inl ⟨by rfl, fun w' hS => (by go_simp)⟩) tg1 ?_
                    try simp only [Go.Act.put, List.setIfInBounds_toArray, List.set_cons_zero, List.set_cons_succ]
                    refine wpH_take (i := 8) (v := (.pointer (some ⟨g, 0, none⟩))) (some 170) rfl rfl (by kernel_rfl) (by kernel_rfl) (by kernel_rfl) (fun _ _ _ h => h) (Or.inl ⟨by rfl, fun w' hS => (by go_simp)⟩) tg1 ?_
                    try simp only [Go.Act.put, List.setIfInBounds_toArray, List.set_cons_zero, List.set_cons_succ]
                    refine wpH_take (i := 11) (v := (.pointer (some ⟨bx, 5, none⟩))) (some 173) rfl rfl (by kernel_rfl) (by kernel_rfl) (by kernel_rfl) (fun _ _ _ h => h) (Or.inl ⟨by rfl, fun w' hS => (by go_simp)⟩) tg1 ?_
                    try simp only [Go.Act.put, List.setIfInBounds_toArray, List.set_cons_zero, List.set_cons_succ]
                    refine wpH_take (i := 12) (v := (.int .i64 c.b)) (some 174) rfl rfl (by kernel_rfl) (by kernel_rfl) (by kernel_rfl) (fun _ _ _ h => h) (Or.inl ⟨by rfl, fun w' hS => (by have z0 := HC5 _ hS; go_simp)⟩) tg1 ?_
                    try simp only [Go.Act.put, List.setIfInBounds_toArray, List.set_cons_zero, List.set_cons_succ]
                    refine wpH_call (i := 9) (o := { dst := some 171, op := Op.call { callee := Callee.value (Operand.func 11), args := #[Operand.tmp 170], argTypes := #[25] }, type := 43, pos := _, after := #[{ on := 8, ground := Ground.data }, { on := 7, ground := Ground.chain }, { on := 7, ground := Ground.guard }], guard := some (7, false) }) (by kernel_rfl) rfl (fun K' hK => ?_)
                    rw [if_pos (by rfl)]
                    go_simp
                    refine (HGG.out _ tg1).mono ?_
                    rintro e wg2 ⟨⟨ag2, kg2, rfl⟩, tg2⟩
                    refine hK.out _ _ tg2 ?_
                    clear hK
                    try simp only [Go.Act.put, List.setIfInBounds_toArray, List.set_cons_zero, List.set_cons_succ]
                    refine wpH_take (i := 10) (v := (.int .i64 (n9 : Int))) (some 172) rfl rfl (by kernel_rfl) (by kernel_rfl) (by kernel_rfl) (fun _ _ _ h => h) (Or.inl ⟨by rfl, fun w' hS => (by go_simp)⟩) tg2 ?_
                    try simp only [Go.Act.put, List.setIfInBounds_toArray, List.set_cons_zero, List.set_cons_succ]
                    refine wpH_take (i := 13) (v := (.bool false)) (some 175) rfl rfl (by kernel_rfl) (by kernel_rfl) (by kernel_rfl) (fun _ _ _ h => h) (Or.inl ⟨by rfl, fun w' hS => (by go_simp)⟩) tg2 ?_
                    try simp only [Go.Act.put, List.setIfInBounds_toArray, List.set_cons_zero, List.set_cons_succ]
                    refine wpH_take (i := 14) (v := (.bool false)) (some 176) rfl rfl (by kernel_rfl) (by kernel_rfl) (by kernel_rfl) (fun _ _ _ h => h) (Or.inl ⟨by rfl, fun w' hS => (by go_simp)⟩) tg2 ?_
                    try simp only [Go.Act.put, List.setIfInBounds_toArray, List.set_cons_zero, List.set_cons_succ]
                    refine wpAnyH_done (by kernel_rfl) ?_ _
                    have TG := hid tg2
                    clear en2 hw9
                    go_wp2
                    go_roundw
                    case rel => exact ⟨i + 1, by go_num, by omega, tt, s' + ↑ln, b + 1, rfl, rfl, rfl, hid ⟨_, _, _, _, _, HL36.out.keep0 TG.out, nb_next HNB.out HM8.out (Or.inr ⟨rfl, rfl⟩) zb1⟩⟩
                    case measure => simp [intOf]; omega
              · have hdt2 : ¬ d ≤ tt := by omega
                go_upto_region 26 with (go_at_call 10; refine HJ.out.mono ?_; rintro e w8 ⟨E, a8, ln, k8, J, rfl, hE, kq, Y, M, hM, hcs⟩; have HE := hid hE; have HM8 := hid hM; have HCS := hid hcs; clear hE kq hM hcs kc1 kc2 kc6 kc7)
                obtain ⟨W9, hW9⟩ : ∃ W, W = w8.alloc (.cells #[.int .i64 J.how, .int .i64 J.run, .bool J.bg, .int .i64 J.o.1, .int .i64 J.o.2.1, .int .i64 J.o.2.2.1, .int .i64 J.o.2.2.2, .slice a8 ln k8] 48) := ⟨_, rfl⟩
                have h9 := heap_alloc_new w8 (.cells #[.int .i64 J.how, .int .i64 J.run, .bool J.bg, .int .i64 J.o.1, .int .i64 J.o.2.1, .int .i64 J.o.2.2.1, .int .i64 J.o.2.2.2, .slice a8 ln k8] 48)
                have t9 : Touch [] w8 W9 := by rw [hW9]; exact (Touch.refl _ _).alloc _
                rw [← hW9] at h9 ⊢
                have HB9 := hid h9
                have HT9 := hid t9
                clear hW9 t9 h9 HJ
                have h8s := HT9.out.size
                go_cut [137] from 124 to 136 (fun s137 wx => s137 = .bool false ∧ Hid (wx = W9))
                case first =>
                  rcases HE.out with rfl | rfl | rfl | rfl
                  all_goals
                    go_wp2
                    go_meet
                    case rel => exact ⟨rfl, hid rfl⟩
                case rest =>
                  obtain ⟨rfl, hcut2⟩ := hcut
                  rw [show wc = W9 from hcut2.out]
                  clear hcut2
                  have y2 : W9.cell? ⟨w8.heap.size, 2, none⟩ = some (.bool J.bg) := cell_at HB9.out rfl
                  rcases HCS.out with ⟨hbg, hl0, r8, l8⟩ | ⟨hbg, hrn, hlb, r8, l8⟩
                  · rw [hbg] at y2
                    subst hl0
                    have y7 : W9.cell? ⟨w8.heap.size, 7, none⟩ = some (.slice a8 0 k8) := cell_at HB9.out rfl
                    have HL9 := hid ((l8.keep0 HT9.out).less)
                    have x5 : W9.cell? ⟨bx, 5, none⟩ = some (.int .i64 c.b) := cell_at HL9.out.hx rfl
                    have HLD := hid (loaded_ W9 _ s' c.b 0 (r8.keep0 HT9.out) zs' (by omega) (by omega) (by have := l8.c1; omega))
                    clear r8 l8 hbg HCS
                    go_upto_region 36 with (go_at_call 9; refine HLD.out.mono ?_; rintro e w10 ⟨rfl, t10⟩; have y8 : w10.cell? ⟨w8.heap.size, 7, none⟩ = some (.slice a8 0 k8) := cell_at (t10.keep HB9.out (by simp)) rfl; have T10 := hid t10; clear t10)
                    have HL36 := hid (HL9.out.keep0 T10.out)
                    clear HL9 HLD x5 y7 y8
                    obtain ⟨n9, en, el, HC5, HG⟩ := HL36.out.ends
                    have en2 : ((b) - (s') != (n9 : Int)) = false := by simp [en]
                    have hw9 : IntKind.i64.wrap ((b) - (s')) = (b) - (s') := by rw [IntKind.wrap_i64]; omega
                    have HGG := hid HG
                    unfold PT at HGG
                    clear HG en
                    have hs0 : Touch [] w10 w10.drew := (Touch.refl _ _).drew
                    refine wp_region_H (S := fun w' => Touch [] w10 w') (by kernel_rfl) ?_
                    refine wpH_take (i := 0) (v := (.int .i64 (b))) (some 162) rfl rfl (by kernel_rfl) (by kernel_rfl) (by kernel_rfl) (fun _ _ _ h => h) (Or.inl ⟨by rfl, fun w' hS => (by go_simp)⟩) hs0 ?_
                    try simp only [Go.Act.put, List.setIfInBounds_toArray, List.set_cons_zero, List.set_cons_succ]
                    refine wpH_take (i := 1) (v := (.int .i64 (s'))) (some 163) rfl rfl (by kernel_rfl) (by kernel_rfl) (by kernel_rfl) (fun _ _ _ h => h) (Or.inl ⟨by rfl, fun w' hS => (by go_simp)⟩) hs0 ?_
                    try simp only [Go.Act.put, List.setIfInBounds_toArray, List.set_cons_zero, List.set_cons_succ]
                    refine wpH_take (i := 2) (v := (.int .i64 ((b) - (s')))) (some 164) rfl rfl (by kernel_rfl) (by kernel_rfl) (by kernel_rfl) (fun _ _ _ h => h) (Or.inl ⟨by rfl, fun w' hS => (by go_simp)⟩) hs0 ?_
                    try simp only [Go.Act.put, List.setIfInBounds_toArray, List.set_cons_zero, List.set_cons_succ]
                    refine wpH_take (i := 3) (v := (.pointer (some ⟨g, 0, none⟩))) (some 165) rfl rfl (by kernel_rfl) (by kernel_rfl) (by kernel_rfl) (fun _ _ _ h => h) (Or.inl ⟨by rfl, fun w' hS => (by go_simp)⟩) hs0 ?_
                    try simp only [Go.Act.put, List.setIfInBounds_toArray, List.set_cons_zero, List.set_cons_succ]
                    refine wpH_call (i := 4) (o := { dst := some 166, op := Op.call { callee := Callee.value (Operand.func 11), args := #[Operand.tmp 165], argTypes := #[25] }, type := 43, pos := _, after := #[{ on := 3, ground := Ground.data }], guard := none }) (by kernel_rfl) rfl (fun K' hK => ?_)
                    rw [if_pos (by rfl)]
                    go_simp
                    refine (HGG.out _ hs0).mono ?_
                    rintro e wg1 ⟨⟨ag1, kg1, rfl⟩, tg1⟩
                    refine hK.out _ _ tg1 ?_
                    clear hK
                    try simp only [Go.Act.put, List.setIfInBounds_toArray, List.set_cons_zero, List.set_cons_succ]
                    refine wpH_take (i := 5) (v := (.int .i64 (n9 : Int))) (some 167) rfl rfl (by kernel_rfl) (by kernel_rfl) (by kernel_rfl) (fun _ _ _ h => h) (Or.inl ⟨by rfl, fun w' hS => (by go_simp)⟩) tg1 ?_
                    try simp only [Go.Act.put, List.setIfInBounds_toArray, List.set_cons_zero, List.set_cons_succ]
                    refine wpH_take (i := 6) (v := (.bool false)) (some 168) rfl rfl (by kernel_rfl) (by kernel_rfl) (by kernel_rfl) (fun _ _ _ h => h) (Or.inl ⟨by rfl, fun w' hS => (by go_simp)⟩) tg1 ?_
                    try simp only [Go.Act.put, List.setIfInBounds_toArray, List.set_cons_zero, List.set_cons_succ]
                    refine wpH_take (i := 7) (v := (.bool false)) (some 169) rfl rfl (by kernel_rfl) (by kernel_rfl) (by kernel_rfl) (fun _ _ _ h => h) (Or.inl ⟨by rfl, fun w' hS => (by go_simp)⟩) tg1 ?_
                    try simp only [Go.Act.put, List.setIfInBounds_toArray, List.set_cons_zero, List.set_cons_succ]
                    refine wpH_take (i := 8) (v := (.pointer (some ⟨g, 0, none⟩))) (some 170) rfl rfl (by kernel_rfl) (by kernel_rfl) (by kernel_rfl) (fun _ _ _ h => h) (Or.inl ⟨by rfl, fun w' hS => (by go_simp)⟩) tg1 ?_
                    try simp only [Go.Act.put, List.setIfInBounds_toArray, List.set_cons_zero, List.set_cons_succ]
                    refine wpH_take (i := 11) (v := (.pointer (some ⟨bx, 5, none⟩))) (some 173) rfl rfl (by kernel_rfl) (by kernel_rfl) (by kernel_rfl) (fun _ _ _ h => h) (Or.inl ⟨by rfl, fun w' hS => (by go_simp)⟩) tg1 ?_
                    try simp only [Go.Act.put, List.setIfInBounds_toArray, List.set_cons_zero, List.set_cons_succ]
                    refine wpH_take (i := 12) (v := (.int .i64 c.b)) (some 174) rfl rfl (by kernel_rfl) (by kernel_rfl) (by kernel_rfl) (fun _ _ _ h => h) (Or.inl ⟨by rfl, fun w' hS => (by have z0 := HC5 _ hS; go_simp)⟩) tg1 ?_
                    try simp only [Go.Act.put, List.setIfInBounds_toArray, List.set_cons_zero, List.set_cons_succ]
                    refine wpH_call (i := 9) (o := { dst := some 171, op := Op.call { callee := Callee.value (Operand.func 11), args := #[Operand.tmp 170], argTypes := #[25] }, type := 43, pos := _, after := #[{ on := 8, ground := Ground.data }, { on := 7, ground := Ground.chain }, { on := 7, ground := Ground.guard }], guard := some (7, false) }) (by kernel_rfl) rfl (fun K' hK => ?_)
                    rw [if_pos (by rfl)]
                    go_simp
                    refine (HGG.out _ tg1).mono ?_
                    rintro e wg2 ⟨⟨ag2, kg2, rfl⟩, tg2⟩
                    refine hK.out _ _ tg2 ?_
                    clear hK
                    try simp only [Go.Act.put, List.setIfInBounds_toArray, List.set_cons_zero, List.set_cons_succ]
                    refine wpH_take (i := 10) (v := (.int .i64 (n9 : Int))) (some 172) rfl rfl (by kernel_rfl) (by kernel_rfl) (by kernel_rfl) (fun _ _ _ h => h) (Or.inl ⟨by rfl, fun w' hS => (by go_simp)⟩) tg2 ?_
                    try simp only [Go.Act.put, List.setIfInBounds_toArray, List.set_cons_zero, List.set_cons_succ]
                    refine wpH_take (i := 13) (v := (.bool false)) (some 175) rfl rfl (by kernel_rfl) (by kernel_rfl) (by kernel_rfl) (fun _ _ _ h => h) (Or.inl ⟨by rfl, fun w' hS => (by go_simp)⟩) tg2 ?_
                    try simp only [Go.Act.put, List.setIfInBounds_toArray, List.set_cons_zero, List.set_cons_succ]
                    refine wpH_take (i := 14) (v := (.bool false)) (some 176) rfl rfl (by kernel_rfl) (by kernel_rfl) (by kernel_rfl) (fun _ _ _ h => h) (Or.inl ⟨by rfl, fun w' hS => (by go_simp)⟩) tg2 ?_
                    try simp only [Go.Act.put, List.setIfInBounds_toArray, List.set_cons_zero, List.set_cons_succ]
                    refine wpAnyH_done (by kernel_rfl) ?_ _
                    have TG := hid tg2
                    clear en2 hw9
                    go_wp2
                    go_roundw
                    case rel => exact ⟨i + 1, by go_num, by omega, tt, s', b, rfl, rfl, rfl, hid ⟨_, _, _, _, _, HL36.out.keep0 TG.out, nb_next (h := h) (k := 0) HNB.out HM8.out (Or.inl ⟨rfl, rfl⟩) zb1⟩⟩
                    case measure => simp [intOf]; omega
                  · rw [hbg] at y2
                    have y1 : W9.cell? ⟨w8.heap.size, 1, none⟩ = some (.int .i64 J.run) := cell_at HB9.out rfl
                    rw [hrn] at y1
                    have HMB := hid l8.mlt
                    have HRN := hid hrn
                    have HL9 := hid ((l8.keep0 HT9.out).less)
                    have HNM : Hid (m < maxLen) := hid (by have := HNB.out.2.2.2; unfold maxLen; omega)
                    have HK : Hid (W64 (b + 1)) := hid (W64.mk (by omega) (by omega))
                    have HR9 := hid (r8.keep0 HT9.out)
                    clear r8 l8 hbg HCS hrn
                    go_upto_region 31 with (at_mapUpdate; refine wpList_mset _ rfl _ _ _ 30 rfl 2 Try.underlying30 mb m h rfl HL9.out.mp HNM.out (b + 1) rfl HK.out (.int .i64 tt) rfl ?_; intro ob hM; have HLS := hid (HL9.out.set hM); clear hM)
                    have hmb : mb < w8.heap.size := HMB.out
                    have TS : Touch [mb] W9 (setBlock W9 mb ob) := touch_setBlock (Touch.refl _ _) (Or.inl (by simp)) ob
                    have hbS := TS.keep HB9.out (by simp; omega)
                    have z1 : (setBlock W9 mb ob).cell? ⟨w8.heap.size, 1, none⟩ = some (.int .i64 J.run) := cell_at hbS rfl
                    rw [HRN.out] at z1
                    have z7 : (setBlock W9 mb ob).cell? ⟨w8.heap.size, 7, none⟩ = some (.slice a8 ln k8) := cell_at hbS rfl
                    have x5 : (setBlock W9 mb ob).cell? ⟨bx, 5, none⟩ = some (.int .i64 c.b) := cell_at HLS.out.hx rfl
                    have hlc : (ln : Int) ≤ 1024 := by have := HLS.out.c2; omega
                    have HLD := hid (loaded_ (setBlock W9 mb ob) _ s' c.b ln (rd_map HR9.out HL9.out.mp TS) zs' (by omega) (by omega) hlb)
                    have HL9 := HLS
                    have HBS := hid hbS
                    clear HLS hbS TS y1 y2 HR9 HB9 HT9 HNM HK
                    generalize setBlock W9 mb ob = WS at *
                    go_upto_region 36 with (go_at_call 9; refine HLD.out.mono ?_; rintro e w10 ⟨rfl, t10⟩; have y8 : w10.cell? ⟨w8.heap.size, 7, none⟩ = some (.slice a8 ln k8) := cell_at (t10.keep HBS.out (by simp)) rfl; have T10 := hid t10; clear t10)
                    have HL36 := hid (HL9.out.keep0 T10.out)
                    clear HL9 HLD x5 z7 z1 y8
                    obtain ⟨n9, en, el, HC5, HG⟩ := HL36.out.ends
                    have en2 : ((b + 1) - (s' + ↑ln) != (n9 : Int)) = false := by simp [en]
                    have hw9 : IntKind.i64.wrap ((b + 1) - (s' + ↑ln)) = (b + 1) - (s' + ↑ln) := by rw [IntKind.wrap_i64]; omega
                    have HGG := hid HG
                    unfold PT at HGG
                    clear HG en
                    have hs0 : Touch [] w10 w10.drew := (Touch.refl _ _).drew
                    refine wp_region_H (S := fun w' => Touch [] w10 w') (by kernel_rfl) ?_
                    refine wpH_take (i := 0) (v := (.int .i64 (b + 1))) (some 162) rfl rfl (by kernel_rfl) (by kernel_rfl) (by kernel_rfl) (fun _ _ _ h => h) (Or.inl ⟨by rfl, fun w' hS => (by go_simp)⟩) hs0 ?_
                    try simp only [Go.Act.put, List.setIfInBounds_toArray, List.set_cons_zero, List.set_cons_succ]
                    refine wpH_take (i := 1) (v := (.int .i64 (s' + ↑ln))) (some 163) rfl rfl (by kernel_rfl) (by kernel_rfl) (by kernel_rfl) (fun _ _ _ h => h) (Or.inl ⟨by rfl, fun w' hS => (by go_simp)⟩) hs0 ?_
                    try simp only [Go.Act.put, List.setIfInBounds_toArray, List.set_cons_zero, List.set_cons_succ]
                    refine wpH_take (i := 2) (v := (.int .i64 ((b + 1) - (s' + ↑ln)))) (some 164) rfl rfl (by kernel_rfl) (by kernel_rfl) (by kernel_rfl) (fun _ _ _ h => h) (Or.inl ⟨by rfl, fun w' hS => (by go_simp)⟩) hs0 ?_
                    try simp only [Go.Act.put, List.setIfInBounds_toArray, List.set_cons_zero, List.set_cons_succ]
                    refine wpH_take (i := 3) (v := (.pointer (some ⟨g, 0, none⟩))) (some 165) rfl rfl (by kernel_rfl) (by kernel_rfl) (by kernel_rfl) (fun _ _ _ h => h) (Or.inl ⟨by rfl, fun w' hS => (by go_simp)⟩) hs0 ?_
                    try simp only [Go.Act.put, List.setIfInBounds_toArray, List.set_cons_zero, List.set_cons_succ]
                    refine wpH_call (i := 4) (o := { dst := some 166, op := Op.call { callee := Callee.value (Operand.func 11), args := #[Operand.tmp 165], argTypes := #[25] }, type := 43, pos := _, after := #[{ on := 3, ground := Ground.data }], guard := none }) (by kernel_rfl) rfl (fun K' hK => ?_)
                    rw [if_pos (by rfl)]
                    go_simp
                    refine (HGG.out _ hs0).mono ?_
                    rintro e wg1 ⟨⟨ag1, kg1, rfl⟩, tg1⟩
                    refine hK.out _ _ tg1 ?_
                    clear hK
                    try simp only [Go.Act.put, List.setIfInBounds_toArray, List.set_cons_zero, List.set_cons_succ]
                    refine wpH_take (i := 5) (v := (.int .i64 (n9 : Int))) (some 167) rfl rfl (by kernel_rfl) (by kernel_rfl) (by kernel_rfl) (fun _ _ _ h => h) (Or.inl ⟨by rfl, fun w' hS => (by go_simp)⟩) tg1 ?_
                    try simp only [Go.Act.put, List.setIfInBounds_toArray, List.set_cons_zero, List.set_cons_succ]
                    refine wpH_take (i := 6) (v := (.bool false)) (some 168) rfl rfl (by kernel_rfl) (by kernel_rfl) (by kernel_rfl) (fun _ _ _ h => h) (Or.inl ⟨by rfl, fun w' hS => (by go_simp)⟩) tg1 ?_
                    try simp only [Go.Act.put, List.setIfInBounds_toArray, List.set_cons_zero, List.set_cons_succ]
                    refine wpH_take (i := 7) (v := (.bool false)) (some 169) rfl rfl (by kernel_rfl) (by kernel_rfl) (by kernel_rfl) (fun _ _ _ h => h) (Or.inl ⟨by rfl, fun w' hS => (by go_simp)⟩) tg1 ?_
                    try simp only [Go.Act.put, List.setIfInBounds_toArray, List.set_cons_zero, List.set_cons_succ]
                    refine wpH_take (i := 8) (v := (.pointer (some ⟨g, 0, none⟩))) (some 170) rfl rfl (by kernel_rfl) (by kernel_rfl) (by kernel_rfl) (fun _ _ _ h => h) (Or.inl ⟨by rfl, fun w' hS => (by go_simp)⟩) tg1 ?_
                    try simp only [Go.Act.put, List.setIfInBounds_toArray, List.set_cons_zero, List.set_cons_succ]
                    refine wpH_take (i := 11) (v := (.pointer (some ⟨bx, 5, none⟩))) (some 173) rfl rfl (by kernel_rfl) (by kernel_rfl) (by kernel_rfl) (fun _ _ _ h => h) (Or.inl ⟨by rfl, fun w' hS => (by go_simp)⟩) tg1 ?_
                    try simp only [Go.Act.put, List.setIfInBounds_toArray, List.set_cons_zero, List.set_cons_succ]
                    refine wpH_take (i := 12) (v := (.int .i64 c.b)) (some 174) rfl rfl (by kernel_rfl) (by kernel_rfl) (by kernel_rfl) (fun _ _ _ h => h) (Or.inl ⟨by rfl, fun w' hS => (by have z0 := HC5 _ hS; go_simp)⟩) tg1 ?_
                    try simp only [Go.Act.put, List.setIfInBounds_toArray, List.set_cons_zero, List.set_cons_succ]
                    refine wpH_call (i := 9) (o := { dst := some 171, op := Op.call { callee := Callee.value (Operand.func 11), args := #[Operand.tmp 170], argTypes := #[25] }, type := 43, pos := _, after := #[{ on := 8, ground := Ground.data }, { on := 7, ground := Ground.chain }, { on := 7, ground := Ground.guard }], guard := some (7, false) }) (by kernel_rfl) rfl (fun K' hK => ?_)
                    rw [if_pos (by rfl)]
                    go_simp
                    refine (HGG.out _ tg1).mono ?_
                    rintro e wg2 ⟨⟨ag2, kg2, rfl⟩, tg2⟩
                    refine hK.out _ _ tg2 ?_
                    clear hK
                    try simp only [Go.Act.put, List.setIfInBounds_toArray, List.set_cons_zero, List.set_cons_succ]
                    refine wpH_take (i := 10) (v := (.int .i64 (n9 : Int))) (some 172) rfl rfl (by kernel_rfl) (by kernel_rfl) (by kernel_rfl) (fun _ _ _ h => h) (Or.inl ⟨by rfl, fun w' hS => (by go_simp)⟩) tg2 ?_
                    try simp only [Go.Act.put, List.setIfInBounds_toArray, List.set_cons_zero, List.set_cons_succ]
                    refine wpH_take (i := 13) (v := (.bool false)) (some 175) rfl rfl (by kernel_rfl) (by kernel_rfl) (by kernel_rfl) (fun _ _ _ h => h) (Or.inl ⟨by rfl, fun w' hS => (by go_simp)⟩) tg2 ?_
                    try simp only [Go.Act.put, List.setIfInBounds_toArray, List.set_cons_zero, List.set_cons_succ]
                    refine wpH_take (i := 14) (v := (.bool false)) (some 176) rfl rfl (by kernel_rfl) (by kernel_rfl) (by kernel_rfl) (fun _ _ _ h => h) (Or.inl ⟨by rfl, fun w' hS => (by go_simp)⟩) tg2 ?_
                    try simp only [Go.Act.put, List.setIfInBounds_toArray, List.set_cons_zero, List.set_cons_succ]
                    refine wpAnyH_done (by kernel_rfl) ?_ _
                    have TG := hid tg2
                    clear en2 hw9
                    go_wp2
                    go_roundw
                    case rel => exact ⟨i + 1, by go_num, by omega, tt, s' + ↑ln, b + 1, rfl, rfl, rfl, hid ⟨_, _, _, _, _, HL36.out.keep0 TG.out, nb_next HNB.out HM8.out (Or.inr ⟨rfl, rfl⟩) zb1⟩⟩
                    case measure => simp [intOf]; omega
        · have hto2 : tt < now ∨ 4611686018427387904 < tt := by omega
          rcases hto2 with hto2 | hto2
          · go_wp2
            go_roundw
            case rel => exact ⟨i + 1, by go_num, by omega, now, s, b, rfl, rfl, rfl, hid ⟨_, _, _, _, _, HL4.out.less, by have := HNB.out; unfold Nb at *; push_cast; omega⟩⟩
            case measure => simp [intOf]; omega
          · have hto3 : ¬ tt < now := by omega
            go_wp2
            go_roundw
            case rel => exact ⟨i + 1, by go_num, by omega, now, s, b, rfl, rfl, rfl, hid ⟨_, _, _, _, _, HL4.out.less, by have := HNB.out; unfold Nb at *; push_cast; omega⟩⟩
            case measure => simp [intOf]; omega
      · have zi : ¬ (i : Int) < (A : Int) := by omega
        obtain ⟨X, N, f, m, h, lg, nb⟩ := HR.out
        have HT := hid lg.sp.tch
        clear lg nb HR
        go_wp2
        go_ret
        exact ⟨rfl, HT.out⟩
  · have HN := hid (HNo.out (by simpa using hcc))
    clear HYe HNo
    go_upto_region 2 with (go_at_call 4; refine HN.out.mono ?_; rintro e w1 ⟨rfl, t1⟩; have T1 := hid t1; clear t1 c0 c1 c2 c3 c4 c5 c6)
    go_upto_region 3 with (go_at_call 5; refine (awake_ _).mono ?_; rintro e w2 ⟨rfl, t2⟩; have T2 := hid t2; clear t2)
    go_wp2_with (go_at_call 5; refine (awake_ _).mono ?_; rintro e w3 ⟨rfl, t3⟩; have T3 := hid t3; clear t3)
    go_ret
    exact ⟨rfl, ((TV.out.trans' T1.out).trans' T2.out).trans' T3.out⟩
end Go.Proofs.Ytkfophlhpjbmgaa
