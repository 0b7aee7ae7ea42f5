/- The laws RetryNil and RetryBreaks, walked; the list's length is within the form's reach. -/
import Derived.Test.YtkodabhkhifggaaWrb
namespace Go.Proofs.Ytkodabhkhifggaa
open Go.RowKit Go.Maps Go.ChangeMaps Go.ChangeShapes Go.WideShapes Go.ChangeAt
set_option linter.unusedVariables false
set_option linter.unusedSimpArgs false
theorem lnil_ (w : World) (x : ActQ) (hx : x.ok) : Calls Try.prog 6 #[.agg x.cs] w fun e w' => e = .returned (.bool true) ∧ Touch [] w w' := by
  obtain ⟨V, hV⟩ : ∃ V, V = w.alloc (.cells x.cs 51) := ⟨_, rfl⟩
  have TV : Hid (Touch [] w V) := by rw [hV]; exact (Touch.refl _ _).alloc _
  have hbx : V.heap[w.heap.size]? = some (.cells x.cs 51 (0, 0)) := by rw [hV]; exact heap_alloc_new w _
  have HQ : Hid (∀ w', Touch [] V w' → w'.cell? ⟨w.heap.size, 1, none⟩ = some (.int .i64 x.nw)) := fun w' T => cell_at (T.keep hbx (by simp)) rfl
  have i1 := cell_at (j := 1) (v := .int .i64 x.nw) hbx rfl
  clear hbx
  unfold ActQ.cs at *
  go_enter Try.func6, Try.ntmps6
  go_upto_region 1 with fail
  rw [← hV]
  clear hV
  go_wp2_with (first
    | (go_at_call 17; refine (ask_nil _ _).mono ?_; rintro e w7 ⟨rfl, e7⟩; rw [e7]; clear e7 w7)
    | (go_at_call 23; refine (until_nil _).mono ?_; rintro e w7 ⟨rfl, e7⟩; rw [e7]; clear e7 w7)
    | (go_at_call 11; refine (awake_ _).mono ?_; rintro e w5 ⟨rfl, t5⟩; have y1 := HQ.out _ t5; have T5 := hid t5; clear t5)
    | (go_at_call 20; refine (done_nil _ _ _).mono ?_; rintro e w7 ⟨rfl, e7⟩; rw [e7]; clear e7 w7)
    | (go_at_call 24; refine (state_nil _ _).mono ?_; rintro e w7 ⟨rfl, e7⟩; rw [e7]; clear e7 w7)
    | (go_at_call 19; refine (clone_nil _).mono ?_; rintro e w7 ⟨rfl, e7⟩; rw [e7]; clear e7 w7))
  go_ret
  exact ⟨rfl, TV.out.trans' T5.out⟩
def Rb (w : World) (u : Nat) (S : Br) : Prop := w.heap[u]? = some (.cells (rc S) 49 (0, 0))
/-- A whole breaker of the document's, stored into its box. -/
def st6 (w : World) (u : Nat) (S : Br) : World := (((((w.setCell ⟨u, 0, none⟩ (.int .i64 S.fl)).setCell ⟨u, 1, none⟩ (.int .i64 S.co)).setCell ⟨u, 2, none⟩ (.int .i64 S.st)).setCell ⟨u, 3, none⟩ (.int .i64 S.fd)).setCell ⟨u, 4, none⟩ (.int .i64 S.un)).setCell ⟨u, 5, none⟩ (.int .i64 S.tm)
theorem st6_touch {w0 w : World} {F : List Nat} {u : Nat} (T : Touch F w0 w) (h : u ∈ F ∨ w0.heap.size ≤ u) (S : Br) : Touch F w0 (st6 w u S) :=
  (((((T.setCell h _).setCell h _).setCell h _).setCell h _).setCell h _).setCell h _
theorem st6_at {w : World} {u : Nat} {S T : Br} (h : Rb w u S) : Rb (st6 w u T) u T :=
  bset (i := 5) (bset (i := 4) (bset (i := 3) (bset (i := 2) (bset (i := 1) (bset (i := 0) h _) _) _) _) _) _
/-- What stands between two acts. -/
structure Ls (w wr : World) (b u : Nat) (S : Br) : Prop where
  t : Touch [] w wr
  hb : Bk wr b S
  hu : Rb wr u S
  b0 : w.heap.size ≤ b
  u0 : w.heap.size ≤ u
  v : Iv S
section
variable {w wr w2 w3 : World} {b u k : Nat} {S S' : Br}
theorem Ls.ne (h : Ls w wr b u S) : u ≠ b := fun e => by
  have h1 := h.hb
  have h2 := h.hu
  unfold Bk at h1
  unfold Rb at h2
  rw [e, h1] at h2
  simp at h2
theorem Ls.keep (h : Ls w wr b u S) (T : Touch [] wr w2) : Ls w w2 b u S := ⟨h.t.trans' T, h.hb.keep0 T, T.keep h.hu (by simp), h.b0, h.u0, h.v⟩
theorem Ls.rb (h : Ls w wr b u S) (T : Touch [b] wr w2) : Rb w2 u S ∧ Touch [] w w2 := ⟨T.keep h.hu (by simp [h.ne]), h.t.trans T (fun i hi => Or.inr (by simp only [List.mem_singleton] at hi; rw [hi]; exact h.b0))⟩
theorem Ls.step (h : Ls w wr b u S) (T : Touch [b] wr w2) (hb : Bk w2 b S') (T3 : Touch [] w2 w3) (hv : Iv S') : Ls w (st6 w3 u S') b u S' := by
  obtain ⟨h1, h2⟩ := h.rb T
  have tm : Touch [u] w3 (st6 w3 u S') := st6_touch (Touch.refl _ _) (Or.inl (by simp)) _
  exact ⟨st6_touch (h2.trans' T3) (Or.inr h.u0) _, tm.keep (hb.keep0 T3) (by simpa using h.ne.symm), st6_at (T3.keep h1 (by simp)), h.b0, h.u0, hv⟩
theorem Ls.clone (h : Ls w wr b u S) (hk : Bk w2 wr.heap.size S) (T : Touch [] wr w2) (T3 : Touch [b] w2 w3) : Ls w w3 wr.heap.size u S := by
  have hl := h.hb.lt
  obtain ⟨h1, h2⟩ := (h.keep T).rb T3
  exact ⟨h2, T3.keep hk (by simp; omega), h1, h.t.size, h.u0, h.v⟩
end
theorem Rb.c {w : World} {u : Nat} {S : Br} (h : Rb w u S) : w.cell? ⟨u, 0, none⟩ = some (.int .i64 S.fl) ∧ w.cell? ⟨u, 1, none⟩ = some (.int .i64 S.co) ∧ w.cell? ⟨u, 2, none⟩ = some (.int .i64 S.st) ∧ w.cell? ⟨u, 3, none⟩ = some (.int .i64 S.fd) ∧ w.cell? ⟨u, 4, none⟩ = some (.int .i64 S.un) ∧ w.cell? ⟨u, 5, none⟩ = some (.int .i64 S.tm) ∧ ∀ j, w.frozen? ⟨u, j, none⟩ = false :=
  ⟨cell_at h rfl, cell_at h rfl, cell_at h rfl, cell_at h rfl, cell_at h rfl, cell_at h rfl, froz_at h⟩
def LsX (w wr : World) (b u : Nat) : Prop := ∃ S, Ls w wr b u S
set_option maxHeartbeats 4000000 in
set_option maxRecDepth 100000 in
theorem breaks_no (w : World) (f c : Int) (a : Option Addr) (n cv : Nat) (h : f < 1 ∨ c < 0) : Calls Try.prog 5 #[.int .i64 f, .int .i64 c, .slice a n cv] w fun e w' => e = .returned (.bool true) ∧ Touch [] w w' := by
  have HN := hid (new_no w f c h)
  have hd : (decide (1 ≤ f) && decide (0 ≤ c)) = false := by
    rw [Bool.and_eq_false_iff, decide_eq_false_iff_not, decide_eq_false_iff_not]
    omega
  by_cases h1 : f < 1
  · skip
    clear h hd
    go_enter Try.func5, Try.ntmps5
    go_upto_region 6 with (first
      | (go_at_call 16; refine HN.out.mono ?_; rintro e w1 ⟨rfl, e1⟩; rw [e1]; clear e1 w1)
      | (go_at_call 11; refine (awake_ _).mono ?_; rintro e w2 ⟨rfl, t2⟩; have T2 := hid t2; clear t2))
    obtain ⟨W3, hW3⟩ : ∃ W3, W3 = w2.alloc (.cells #[.int .i64 f, .int .i64 c, .int .i64 1, .int .i64 0, .int .i64 0, .int .i64 0] 49) := ⟨_, rfl⟩
    have T3 : Hid (Touch [] w W3) := hid (by rw [hW3]; exact T2.out.alloc _)
    rw [← hW3]
    clear hW3 T2
    go_wp2_with fail
    go_loopw [11] (fun s11 wr => s11 = .int .i64 0 ∧ wr = W3) (fun _ _ => 0)
    case atStart => exact ⟨rfl, rfl⟩
    case round =>
      obtain ⟨rfl, rfl⟩ := hrel
      by_cases hn : (0 : Int) < (n : Int)
      · go_wp2_with fail
        go_ret
        exact ⟨rfl, T3.out⟩
      · go_wp2_with fail
        go_ret
        exact ⟨rfl, T3.out⟩
  · have h2 : c < 0 := by omega
    clear h hd
    go_enter Try.func5, Try.ntmps5
    go_upto_region 6 with (first
      | (go_at_call 16; refine HN.out.mono ?_; rintro e w1 ⟨rfl, e1⟩; rw [e1]; clear e1 w1)
      | (go_at_call 11; refine (awake_ _).mono ?_; rintro e w2 ⟨rfl, t2⟩; have T2 := hid t2; clear t2))
    obtain ⟨W3, hW3⟩ : ∃ W3, W3 = w2.alloc (.cells #[.int .i64 f, .int .i64 c, .int .i64 1, .int .i64 0, .int .i64 0, .int .i64 0] 49) := ⟨_, rfl⟩
    have T3 : Hid (Touch [] w W3) := hid (by rw [hW3]; exact T2.out.alloc _)
    rw [← hW3]
    clear hW3 T2
    go_wp2_with fail
    go_loopw [11] (fun s11 wr => s11 = .int .i64 0 ∧ wr = W3) (fun _ _ => 0)
    case atStart => exact ⟨rfl, rfl⟩
    case round =>
      obtain ⟨rfl, rfl⟩ := hrel
      by_cases hn : (0 : Int) < (n : Int)
      · go_wp2_with fail
        go_ret
        exact ⟨rfl, T3.out⟩
      · go_wp2_with fail
        go_ret
        exact ⟨rfl, T3.out⟩
set_option maxHeartbeats 8000000 in
set_option maxRecDepth 100000 in
theorem breaks_yes (w : World) (f c : Int) (a : Option Addr) (n cv : Nat) (xs : List ActQ) (hx : ∀ x ∈ xs, x.ok) (hl : xs.length = n) (hm : n ≤ 9000000000000) (h1 : 1 ≤ f) (h2 : 0 ≤ c) (f2 : f ≤ 9223372036854775807) (c2 : c ≤ 9223372036854775807) (hrow : 0 < n → ∃ g off, a = some ⟨g, off, none⟩ ∧ RowActQ w g off xs) : Calls Try.prog 5 #[.int .i64 f, .int .i64 c, .slice a n cv] w fun e w' => e = .returned (.bool true) ∧ Touch [] w w' := by
  have HN := hid (new_yes w f c h1 h2)
  unfold PT at HN
  go_enter Try.func5, Try.ntmps5
  go_upto_region 6 with (first
    | (go_at_call 16; refine HN.out.mono ?_; rintro e w1 ⟨rfl, b1, t1⟩; have B1 := hid b1; have T1 := hid t1; clear b1 t1)
    | (go_at_call 11; refine (awake_ _).mono ?_; rintro e w2 ⟨rfl, t2⟩; have T2 := hid t2; clear t2))
  obtain ⟨W3, hW3⟩ : ∃ W3, W3 = w2.alloc (.cells #[.int .i64 f, .int .i64 c, .int .i64 1, .int .i64 0, .int .i64 0, .int .i64 0] 49) := ⟨_, rfl⟩
  obtain ⟨u, hu⟩ : ∃ u, u = w2.heap.size := ⟨_, rfl⟩
  have L0 : Hid (LsX w W3 w.heap.size u) := hid (by
    have t3 : Touch [] w2 W3 := by rw [hW3]; exact (Touch.refl _ _).alloc _
    have tw : Touch [] w w2 := T1.out.trans' T2.out
    refine ⟨br0 f c, tw.trans' t3, (B1.out.keep0 T2.out).keep0 t3, ?_, Nat.le_refl _, by rw [hu]; exact tw.size, ⟨h1, f2, h2, c2, Or.inl rfl, Int.le_refl 0, ?_, Int.le_refl 0, (by show (0 : Int) ≤ _; decide)⟩⟩
    · unfold Rb; rw [hW3, hu]; exact heap_alloc_new w2 _
    · show 0 < f; omega)
  rw [← hW3, ← hu]
  clear hW3 hu T1 T2 B1 h1 h2 f2 c2 HN
  have HROW := hid hrow
  have HX := hid hx
  have HL := hid hl
  clear hrow hx hl
  go_wp2_with fail
  go_loopw [7, 11] (fun s7 s11 wr => ∃ b i : Nat, s7 = .pointer (some ⟨b, 0, none⟩) ∧ s11 = .int .i64 (i : Int) ∧ i ≤ n ∧ Hid (LsX w wr b u)) (fun _ s11 _ => n - (intOf s11).toNat)
  case atStart => exact ⟨_, 0, rfl, rfl, Nat.zero_le _, L0⟩
  case round =>
    obtain ⟨b, i, rfl, rfl, hi, HS⟩ := hrel
    clear L0
    by_cases hlt : i < n
    · obtain ⟨g, off, rfl, R⟩ := HROW.out (by omega)
      have hli : i < xs.length := by rw [HL.out]; exact hlt
      obtain ⟨S, L⟩ := HS.out
      have R1 := R.keep L.t
      have r0 := R1.c0 i hli
      have r1 := R1.c1 i hli
      obtain ⟨xk, hxk⟩ : ∃ xk, xk = xs[i].kd := ⟨_, rfl⟩
      obtain ⟨xn, hxn⟩ : ∃ xn, xn = xs[i].nw := ⟨_, rfl⟩
      rw [← hxk] at r0
      rw [← hxn] at r1
      clear hxk hxn R R1 HS
      have hg : g < wr.heap.size := by
        have : (wr.heap[g]?).isSome := by
          unfold World.cell? at r0
          cases hh : wr.heap[g]? with
          | none => rw [hh] at r0; simp at r0
          | some _ => rfl
        simpa using this
      obtain ⟨V, hV⟩ : ∃ V, V = wr.alloc (.cells #[.int .i64 xk, .int .i64 xn] 51) := ⟨_, rfl⟩
      obtain ⟨q, hq⟩ : ∃ q, q = wr.heap.size := ⟨_, rfl⟩
      have TV : Touch [] wr V := by rw [hV]; exact (Touch.refl _ _).alloc _
      have hxb : V.heap[q]? = some (.cells #[.int .i64 xk, .int .i64 xn] 51 (0, 0)) := by rw [hV, hq]; exact heap_alloc_new wr _
      have LS := hid (L.keep TV)
      have hqb : q ≠ b := by have := L.hb.lt; omega
      have HXB : Hid (∀ W, Touch [b] V W → W.heap[q]? = some (.cells #[.int .i64 xk, .int .i64 xn] 51 (0, 0))) := hid (fun W T => T.keep hxb (by simpa using hqb))
      have hqu : q ≠ u := by have := block_lt L.hu; omega
      have HQU := hid hqu
      clear L TV hqb hqu
      have xk0 := cell_at (j := 0) (v := .int .i64 xk) hxb rfl
      have xk1 := cell_at (j := 1) (v := .int .i64 xn) hxb rfl
      clear hxb
      go_upto_region 10 with fail
      rw [← hV, ← hq]
      clear hV hq r0 r1 hg
      obtain ⟨u0, u1, u2, u3, u4, u5, uf⟩ := LS.out.hu.c
      by_cases k0 : xk = 0
      · have HA := hid (ask_ LS.out.hb xn)
        have HR := hid (fun W => rask_ W S xn)
        have e0 : (xk == 0) = true := by simp [k0]
        unfold PT at HA
        unfold rc at HR
        clear k0
        go_upto_region 18 with (go_at_call 17; refine HA.out.mono ?_; rintro e w5 ⟨rfl, b5, t5⟩; have B5 := hid b5; have T5 := hid t5; clear b5 t5)
        clear u0 u1 u2 u3 u4 u5 uf xk0 xk1
        have hxb := HXB.out _ T5.out
        have xk0 := cell_at (j := 0) (v := .int .i64 xk) hxb rfl
        have xk1 := cell_at (j := 1) (v := .int .i64 xn) hxb rfl
        clear hxb
        obtain ⟨u0, u1, u2, u3, u4, u5, uf⟩ := (LS.out.rb T5.out).1.c
        go_upto_region 19 with (go_at_call 18; refine (HR.out _).mono ?_; rintro e w6 ⟨rfl, t6⟩; have T6 := hid t6; clear t6)
        have T7 : Hid (Touch [] w5 (w6.alloc (.cells (rc (askS S xn)) 49))) := hid (T6.out.alloc _)
        have hd7 : (w6.alloc (.cells (rc (askS S xn)) 49)).heap[w6.heap.size]? = some (.cells (rc (askS S xn)) 49 (0, 0)) := heap_alloc_new w6 _
        have L7 := hid (LS.out.step T5.out B5.out T7.out (LS.out.v.ask xn))
        have hu7 : Rb (w6.alloc (.cells (rc (askS S xn)) 49)) u S := T7.out.keep (LS.out.rb T5.out).1 (by simp)
        have hx7 := HXB.out _ (T5.out.trans' (T7.out.mono (by simp)))
        clear LS HA HR u0 u1 u2 u3 u4 u5 uf xk0 xk1 HXB
        unfold rc at T7 hd7 L7 hu7 hx7
        generalize askS S xn = S1 at *
        generalize askB S xn = Bx at *
        generalize wrE S xn = Ex at *
        obtain ⟨W7, hW7⟩ : ∃ W7, W7 = w6.alloc (.cells #[.int .i64 S1.fl, .int .i64 S1.co, .int .i64 S1.st, .int .i64 S1.fd, .int .i64 S1.un, .int .i64 S1.tm] 49) := ⟨_, rfl⟩
        rw [← hW7] at hd7 L7 hu7 hx7 ⊢
        clear hW7 T7 T6 T5 B5
        obtain ⟨d, hd⟩ : ∃ d, d = w6.heap.size := ⟨_, rfl⟩
        rw [← hd] at hd7 ⊢
        clear hd
        have y0 := cell_at (j := 0) (v := .int .i64 S1.fl) hd7 rfl
        have y1 := cell_at (j := 1) (v := .int .i64 S1.co) hd7 rfl
        have y2 := cell_at (j := 2) (v := .int .i64 S1.st) hd7 rfl
        have y3 := cell_at (j := 3) (v := .int .i64 S1.fd) hd7 rfl
        have y4 := cell_at (j := 4) (v := .int .i64 S1.un) hd7 rfl
        have y5 := cell_at (j := 5) (v := .int .i64 S1.tm) hd7 rfl
        have hdu := hu7
        obtain ⟨v0, v1, v2, v3, v4, v5, vf⟩ := hu7.c
        have hx9 := hid ((st6_touch (F := [u]) (u := u) (Touch.refl _ W7) (Or.inl (by simp)) S1).keep hx7 (by simpa using HQU.out))
        obtain ⟨W9, hW9⟩ : ∃ W9, W9 = st6 W7 u S1 := ⟨_, rfl⟩
        rw [← hW9] at hx9 L7
        unfold st6 at hW9
        clear hd7 hdu hu7 hx7
        go_upto_region 28 with fail
        rw [← hW9]
        clear hW9 y0 y1 y2 y3 y4 y5 v0 v1 v2 v3 v4 v5 vf
        have xk0 := cell_at (j := 0) (v := .int .i64 xk) hx9.out rfl
        have xk1 := cell_at (j := 1) (v := .int .i64 xn) hx9.out rfl
        have LS := L7
        clear L7 hx9
        obtain ⟨u0, u1, u2, u3, u4, u5, uf⟩ := LS.out.hu.c
        have HU := hid (until_ LS.out.hb)
        have HV := hid (state_ LS.out.hb xn)
        have HI := hid (ris_ xn)
        unfold PT at HU HV
        unfold unV at HU
        unfold stV at HV
        have s1 : S1.st = 1 ∨ S1.st = 2 ∨ S1.st = 3 := LS.out.v.s
        cases kt : isT xn with
        | true =>
          rw [kt] at HI HV
          rw [if_pos rfl] at HV
          clear kt
          by_cases kq : S1.st = 2
          · rw [if_pos kq] at HU
            rw [show (S1.st == 2) = true by simp [kq]] at HU
            have kq2 : (S1.st == 2) = true := by simp [kq]
            clear kq s1
            go_wp2_with (first
              | (go_at_call 22; refine (HI.out _).mono ?_; rintro e w7 ⟨rfl, e7⟩; rw [e7]; clear e7 w7)
              | (go_at_call 23; refine HU.out.mono ?_; rintro e w7 ⟨rfl, e7⟩; rw [e7]; clear e7 w7)
              | (go_at_call 24; refine HV.out.mono ?_; rintro e w7 ⟨rfl, e7⟩; rw [e7]; clear e7 w7))
            go_roundw
            case rel => exact ⟨_, i + 1, rfl, by go_num, by omega, hid ⟨_, LS.out⟩⟩
            case measure => simp [intOf]; omega
          · rw [if_neg kq] at HU
            rw [show (S1.st == 2) = false by simp [kq]] at HU
            have kq2 : (S1.st == 2) = false := by simp [kq]
            clear kq s1
            go_wp2_with (first
              | (go_at_call 22; refine (HI.out _).mono ?_; rintro e w7 ⟨rfl, e7⟩; rw [e7]; clear e7 w7)
              | (go_at_call 23; refine HU.out.mono ?_; rintro e w7 ⟨rfl, e7⟩; rw [e7]; clear e7 w7)
              | (go_at_call 24; refine HV.out.mono ?_; rintro e w7 ⟨rfl, e7⟩; rw [e7]; clear e7 w7))
            go_roundw
            case rel => exact ⟨_, i + 1, rfl, by go_num, by omega, hid ⟨_, LS.out⟩⟩
            case measure => simp [intOf]; omega
        | false =>
          rw [kt] at HI HV
          rw [if_neg (by simp)] at HV
          clear kt
          by_cases kq : S1.st = 2
          · rw [if_pos kq] at HU
            rw [show (S1.st == 2) = true by simp [kq]] at HU
            have kq2 : (S1.st == 2) = true := by simp [kq]
            clear kq s1
            go_wp2_with (first
              | (go_at_call 22; refine (HI.out _).mono ?_; rintro e w7 ⟨rfl, e7⟩; rw [e7]; clear e7 w7)
              | (go_at_call 23; refine HU.out.mono ?_; rintro e w7 ⟨rfl, e7⟩; rw [e7]; clear e7 w7)
              | (go_at_call 24; refine HV.out.mono ?_; rintro e w7 ⟨rfl, e7⟩; rw [e7]; clear e7 w7))
            go_roundw
            case rel => exact ⟨_, i + 1, rfl, by go_num, by omega, hid ⟨_, LS.out⟩⟩
            case measure => simp [intOf]; omega
          · rw [if_neg kq] at HU
            rw [show (S1.st == 2) = false by simp [kq]] at HU
            have kq2 : (S1.st == 2) = false := by simp [kq]
            clear kq s1
            go_wp2_with (first
              | (go_at_call 22; refine (HI.out _).mono ?_; rintro e w7 ⟨rfl, e7⟩; rw [e7]; clear e7 w7)
              | (go_at_call 23; refine HU.out.mono ?_; rintro e w7 ⟨rfl, e7⟩; rw [e7]; clear e7 w7)
              | (go_at_call 24; refine HV.out.mono ?_; rintro e w7 ⟨rfl, e7⟩; rw [e7]; clear e7 w7))
            go_roundw
            case rel => exact ⟨_, i + 1, rfl, by go_num, by omega, hid ⟨_, LS.out⟩⟩
            case measure => simp [intOf]; omega
      · have e0 : (xk == 0) = false := by simp [k0]
        by_cases k3 : xk = 3
        · have e3 : (xk == 3) = true := by simp [k3]
          have HC := hid (clone_ LS.out.hb)
          have HD : Hid (∀ W, Touch [] V W → Calls Try.prog 20 #[PT b, .int .i64 4611686018427387904, .bool false] W fun e w' => (∃ E : Int, e = .returned (.int .i64 E)) ∧ Touch [b] W w') := hid (fun W T => (done_ (LS.out.hb.keep0 T) LS.out.v _ _).mono (fun e w' hh => ⟨⟨_, hh.1⟩, hh.2.2⟩))
          unfold PT at HC HD
          clear k0 k3
          go_upto_region 28 with (first
            | (go_at_call 19; refine HC.out.mono ?_; rintro e w5 ⟨rfl, b5, t5⟩; have B5 := hid b5; have T5 := hid t5; clear b5 t5)
            | (go_at_call 20; refine (HD.out _ T5.out).mono ?_; rintro e w6 ⟨⟨E, rfl⟩, t6⟩; have T6 := hid t6; clear t6))
          clear u0 u1 u2 u3 u4 u5 uf xk0 xk1
          have hxb := HXB.out _ ((T5.out.mono (by simp)).trans' T6.out)
          have xk0 := cell_at (j := 0) (v := .int .i64 xk) hxb rfl
          have xk1 := cell_at (j := 1) (v := .int .i64 xn) hxb rfl
          clear hxb
          have LS := hid (LS.out.clone B5.out T5.out T6.out)
          clear HC HD B5 T5 T6 HXB
          obtain ⟨u0, u1, u2, u3, u4, u5, uf⟩ := LS.out.hu.c
          have HU := hid (until_ LS.out.hb)
          have HV := hid (state_ LS.out.hb xn)
          have HI := hid (ris_ xn)
          unfold PT at HU HV
          unfold unV at HU
          unfold stV at HV
          generalize S = S1 at *
          have s1 : S1.st = 1 ∨ S1.st = 2 ∨ S1.st = 3 := LS.out.v.s
          cases kt : isT xn with
          | true =>
            rw [kt] at HI HV
            rw [if_pos rfl] at HV
            clear kt
            by_cases kq : S1.st = 2
            · rw [if_pos kq] at HU
              rw [show (S1.st == 2) = true by simp [kq]] at HU
              have kq2 : (S1.st == 2) = true := by simp [kq]
              clear kq s1
              go_wp2_with (first
                | (go_at_call 22; refine (HI.out _).mono ?_; rintro e w7 ⟨rfl, e7⟩; rw [e7]; clear e7 w7)
                | (go_at_call 23; refine HU.out.mono ?_; rintro e w7 ⟨rfl, e7⟩; rw [e7]; clear e7 w7)
                | (go_at_call 24; refine HV.out.mono ?_; rintro e w7 ⟨rfl, e7⟩; rw [e7]; clear e7 w7))
              go_roundw
              case rel => exact ⟨_, i + 1, rfl, by go_num, by omega, hid ⟨_, LS.out⟩⟩
              case measure => simp [intOf]; omega
            · rw [if_neg kq] at HU
              rw [show (S1.st == 2) = false by simp [kq]] at HU
              have kq2 : (S1.st == 2) = false := by simp [kq]
              clear kq s1
              go_wp2_with (first
                | (go_at_call 22; refine (HI.out _).mono ?_; rintro e w7 ⟨rfl, e7⟩; rw [e7]; clear e7 w7)
                | (go_at_call 23; refine HU.out.mono ?_; rintro e w7 ⟨rfl, e7⟩; rw [e7]; clear e7 w7)
                | (go_at_call 24; refine HV.out.mono ?_; rintro e w7 ⟨rfl, e7⟩; rw [e7]; clear e7 w7))
              go_roundw
              case rel => exact ⟨_, i + 1, rfl, by go_num, by omega, hid ⟨_, LS.out⟩⟩
              case measure => simp [intOf]; omega
          | false =>
            rw [kt] at HI HV
            rw [if_neg (by simp)] at HV
            clear kt
            by_cases kq : S1.st = 2
            · rw [if_pos kq] at HU
              rw [show (S1.st == 2) = true by simp [kq]] at HU
              have kq2 : (S1.st == 2) = true := by simp [kq]
              clear kq s1
              go_wp2_with (first
                | (go_at_call 22; refine (HI.out _).mono ?_; rintro e w7 ⟨rfl, e7⟩; rw [e7]; clear e7 w7)
                | (go_at_call 23; refine HU.out.mono ?_; rintro e w7 ⟨rfl, e7⟩; rw [e7]; clear e7 w7)
                | (go_at_call 24; refine HV.out.mono ?_; rintro e w7 ⟨rfl, e7⟩; rw [e7]; clear e7 w7))
              go_roundw
              case rel => exact ⟨_, i + 1, rfl, by go_num, by omega, hid ⟨_, LS.out⟩⟩
              case measure => simp [intOf]; omega
            · rw [if_neg kq] at HU
              rw [show (S1.st == 2) = false by simp [kq]] at HU
              have kq2 : (S1.st == 2) = false := by simp [kq]
              clear kq s1
              go_wp2_with (first
                | (go_at_call 22; refine (HI.out _).mono ?_; rintro e w7 ⟨rfl, e7⟩; rw [e7]; clear e7 w7)
                | (go_at_call 23; refine HU.out.mono ?_; rintro e w7 ⟨rfl, e7⟩; rw [e7]; clear e7 w7)
                | (go_at_call 24; refine HV.out.mono ?_; rintro e w7 ⟨rfl, e7⟩; rw [e7]; clear e7 w7))
              go_roundw
              case rel => exact ⟨_, i + 1, rfl, by go_num, by omega, hid ⟨_, LS.out⟩⟩
              case measure => simp [intOf]; omega
        · have e3 : (xk == 3) = false := by simp [k3]
          have HA := hid (done_ LS.out.hb LS.out.v xn (xk == 1))
          have HR := hid (fun W => rdone_ W S LS.out.v xn (xk == 1))
          unfold PT at HA
          unfold rc at HR
          clear k0 k3
          go_upto_region 12 with (go_at_call 20; refine HA.out.mono ?_; rintro e w5 ⟨rfl, b5, t5⟩; have B5 := hid b5; have T5 := hid t5; clear b5 t5)
          clear u0 u1 u2 u3 u4 u5 uf xk0 xk1
          have hxb := HXB.out _ T5.out
          have xk0 := cell_at (j := 0) (v := .int .i64 xk) hxb rfl
          have xk1 := cell_at (j := 1) (v := .int .i64 xn) hxb rfl
          clear hxb
          obtain ⟨u0, u1, u2, u3, u4, u5, uf⟩ := (LS.out.rb T5.out).1.c
          go_upto_region 13 with (go_at_call 21; refine (HR.out _).mono ?_; rintro e w6 ⟨rfl, t6⟩; have T6 := hid t6; clear t6)
          have T7 : Hid (Touch [] w5 (w6.alloc (.cells (rc (donS S xn (xk == 1))) 49))) := hid (T6.out.alloc _)
          have hd7 : (w6.alloc (.cells (rc (donS S xn (xk == 1))) 49)).heap[w6.heap.size]? = some (.cells (rc (donS S xn (xk == 1))) 49 (0, 0)) := heap_alloc_new w6 _
          have L7 := hid (LS.out.step T5.out B5.out T7.out (LS.out.v.don xn (xk == 1)))
          have hu7 : Rb (w6.alloc (.cells (rc (donS S xn (xk == 1))) 49)) u S := T7.out.keep (LS.out.rb T5.out).1 (by simp)
          have hx7 := HXB.out _ (T5.out.trans' (T7.out.mono (by simp)))
          clear LS HA HR u0 u1 u2 u3 u4 u5 uf xk0 xk1 HXB
          unfold rc at T7 hd7 L7 hu7 hx7
          generalize donS S xn (xk == 1) = S1 at *
          generalize wrE S xn = Ex at *
          obtain ⟨W7, hW7⟩ : ∃ W7, W7 = w6.alloc (.cells #[.int .i64 S1.fl, .int .i64 S1.co, .int .i64 S1.st, .int .i64 S1.fd, .int .i64 S1.un, .int .i64 S1.tm] 49) := ⟨_, rfl⟩
          rw [← hW7] at hd7 L7 hu7 hx7 ⊢
          clear hW7 T7 T6 T5 B5
          obtain ⟨d, hd⟩ : ∃ d, d = w6.heap.size := ⟨_, rfl⟩
          rw [← hd] at hd7 ⊢
          clear hd
          have y0 := cell_at (j := 0) (v := .int .i64 S1.fl) hd7 rfl
          have y1 := cell_at (j := 1) (v := .int .i64 S1.co) hd7 rfl
          have y2 := cell_at (j := 2) (v := .int .i64 S1.st) hd7 rfl
          have y3 := cell_at (j := 3) (v := .int .i64 S1.fd) hd7 rfl
          have y4 := cell_at (j := 4) (v := .int .i64 S1.un) hd7 rfl
          have y5 := cell_at (j := 5) (v := .int .i64 S1.tm) hd7 rfl
          have hdu := hu7
          obtain ⟨v0, v1, v2, v3, v4, v5, vf⟩ := hu7.c
          have hx9 := hid ((st6_touch (F := [u]) (u := u) (Touch.refl _ W7) (Or.inl (by simp)) S1).keep hx7 (by simpa using HQU.out))
          obtain ⟨W9, hW9⟩ : ∃ W9, W9 = st6 W7 u S1 := ⟨_, rfl⟩
          rw [← hW9] at hx9 L7
          unfold st6 at hW9
          clear hd7 hdu hu7 hx7
          go_upto_region 28 with fail
          rw [← hW9]
          clear hW9 y0 y1 y2 y3 y4 y5 v0 v1 v2 v3 v4 v5 vf
          have xk0 := cell_at (j := 0) (v := .int .i64 xk) hx9.out rfl
          have xk1 := cell_at (j := 1) (v := .int .i64 xn) hx9.out rfl
          have LS := L7
          clear L7 hx9
          obtain ⟨u0, u1, u2, u3, u4, u5, uf⟩ := LS.out.hu.c
          have HU := hid (until_ LS.out.hb)
          have HV := hid (state_ LS.out.hb xn)
          have HI := hid (ris_ xn)
          unfold PT at HU HV
          unfold unV at HU
          unfold stV at HV
          have s1 : S1.st = 1 ∨ S1.st = 2 ∨ S1.st = 3 := LS.out.v.s
          cases kt : isT xn with
          | true =>
            rw [kt] at HI HV
            rw [if_pos rfl] at HV
            clear kt
            by_cases kq : S1.st = 2
            · rw [if_pos kq] at HU
              rw [show (S1.st == 2) = true by simp [kq]] at HU
              have kq2 : (S1.st == 2) = true := by simp [kq]
              clear kq s1
              go_wp2_with (first
                | (go_at_call 22; refine (HI.out _).mono ?_; rintro e w7 ⟨rfl, e7⟩; rw [e7]; clear e7 w7)
                | (go_at_call 23; refine HU.out.mono ?_; rintro e w7 ⟨rfl, e7⟩; rw [e7]; clear e7 w7)
                | (go_at_call 24; refine HV.out.mono ?_; rintro e w7 ⟨rfl, e7⟩; rw [e7]; clear e7 w7))
              go_roundw
              case rel => exact ⟨_, i + 1, rfl, by go_num, by omega, hid ⟨_, LS.out⟩⟩
              case measure => simp [intOf]; omega
            · rw [if_neg kq] at HU
              rw [show (S1.st == 2) = false by simp [kq]] at HU
              have kq2 : (S1.st == 2) = false := by simp [kq]
              clear kq s1
              go_wp2_with (first
                | (go_at_call 22; refine (HI.out _).mono ?_; rintro e w7 ⟨rfl, e7⟩; rw [e7]; clear e7 w7)
                | (go_at_call 23; refine HU.out.mono ?_; rintro e w7 ⟨rfl, e7⟩; rw [e7]; clear e7 w7)
                | (go_at_call 24; refine HV.out.mono ?_; rintro e w7 ⟨rfl, e7⟩; rw [e7]; clear e7 w7))
              go_roundw
              case rel => exact ⟨_, i + 1, rfl, by go_num, by omega, hid ⟨_, LS.out⟩⟩
              case measure => simp [intOf]; omega
          | false =>
            rw [kt] at HI HV
            rw [if_neg (by simp)] at HV
            clear kt
            by_cases kq : S1.st = 2
            · rw [if_pos kq] at HU
              rw [show (S1.st == 2) = true by simp [kq]] at HU
              have kq2 : (S1.st == 2) = true := by simp [kq]
              clear kq s1
              go_wp2_with (first
                | (go_at_call 22; refine (HI.out _).mono ?_; rintro e w7 ⟨rfl, e7⟩; rw [e7]; clear e7 w7)
                | (go_at_call 23; refine HU.out.mono ?_; rintro e w7 ⟨rfl, e7⟩; rw [e7]; clear e7 w7)
                | (go_at_call 24; refine HV.out.mono ?_; rintro e w7 ⟨rfl, e7⟩; rw [e7]; clear e7 w7))
              go_roundw
              case rel => exact ⟨_, i + 1, rfl, by go_num, by omega, hid ⟨_, LS.out⟩⟩
              case measure => simp [intOf]; omega
            · rw [if_neg kq] at HU
              rw [show (S1.st == 2) = false by simp [kq]] at HU
              have kq2 : (S1.st == 2) = false := by simp [kq]
              clear kq s1
              go_wp2_with (first
                | (go_at_call 22; refine (HI.out _).mono ?_; rintro e w7 ⟨rfl, e7⟩; rw [e7]; clear e7 w7)
                | (go_at_call 23; refine HU.out.mono ?_; rintro e w7 ⟨rfl, e7⟩; rw [e7]; clear e7 w7)
                | (go_at_call 24; refine HV.out.mono ?_; rintro e w7 ⟨rfl, e7⟩; rw [e7]; clear e7 w7))
              go_roundw
              case rel => exact ⟨_, i + 1, rfl, by go_num, by omega, hid ⟨_, LS.out⟩⟩
              case measure => simp [intOf]; omega
    · have T9 := hid (HS.out.choose_spec.t)
      go_wp2
      go_ret
      exact ⟨rfl, T9.out⟩
theorem breaks_ (w : World) (f c : Int) (xs : List ActQ) (v : Value) (hf : (Lit.int .i64 f).wf = true) (hc : (Lit.int .i64 c).wf = true) (row : SlActQ w v xs) (wf : ∀ x ∈ xs, x.ok) (hlen : xs.length ≤ 8796093021952) : Calls Try.prog 5 #[.int .i64 f, .int .i64 c, v] w fun e w' => e = .returned (.bool true) ∧ Touch [] w w' := by
  by_cases h : f < 1 ∨ c < 0
  · rcases row with ⟨_, a, cv, rfl⟩ | ⟨b, off, cv, rfl, _⟩
    · exact breaks_no w f c _ _ _ h
    · exact breaks_no w f c _ _ _ h
  · have f2 := (i64_bounds hf).2
    have c2 := (i64_bounds hc).2
    rcases row with ⟨e, a, cv, rfl⟩ | ⟨b, off, cv, rfl, R⟩
    · exact breaks_yes w f c a 0 cv xs wf (by rw [e]; rfl) (by omega) (by omega) (by omega) (by omega) (by omega) (fun h => absurd h (Nat.lt_irrefl 0))
    · exact breaks_yes w f c _ _ cv xs wf rfl (by omega) (by omega) (by omega) (by omega) (by omega) (fun _ => ⟨b, off, rfl, R⟩)
end Go.Proofs.Ytkodabhkhifggaa
