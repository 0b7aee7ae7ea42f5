/- The contracts of the document's Cancelled, Where, Of and Out; no conditions but those that each states. -/
import Derived.Test.YtlmmljmhfghlnaaVdh
namespace Go.Proofs.Ytlmmljmhfghlnaa
open Go.RowKit Go.Maps Go.ChangeMaps
set_option linter.unusedVariables false
set_option linter.unusedSimpArgs false
theorem infoRS : (Try.prog.info? 38).map (fun i => (i.zero, i.size, i.bytes)) = some (some (.agg #[.int .i64 0, .int .i64 0, .int .i64 0]), 3, 24) := by kernel_rfl
/-- The document's seats, as two slices that can be read. -/
structure Dd (w : World) (u v : Value) (L : List Se) (G : List Int) : Prop where
  u : Rs 38 3 w u L.length (L.flatMap sc)
  v : Rs 3 1 w v G.length (ints G)
theorem Dd.keep0 {w w' : World} {u v : Value} {L : List Se} {G : List Int} (h : Dd w u v L G) (T : Touch [] w w') : Dd w' u v L G := ⟨h.u.keep0 T, h.v.keep0 T⟩
theorem Dd.fm {w : World} {u v : Value} {L : List Se} {G : List Int} (h : Dd w u v L G) : ∃ a c a' c', u = .slice a L.length c ∧ v = .slice a' G.length c' := by
  obtain ⟨a, c, e⟩ := h.u.fm
  obtain ⟨a', c', e'⟩ := h.v.fm
  exact ⟨a, c, a', c', e, e'⟩
/-- A box of the call's own keeps what can be read elsewhere. -/
theorem Rs.box {t k n : Nat} {w w' : World} {v : Value} {vs : List Value} {b : Nat} {cs : Array Value} {z : Nat × Nat} {t' : Nat} (h : Rs t k w v n vs) (hb : w.heap[b]? = some (.cells cs t' z)) (ht : t' ≠ t) (T : Touch [b] w w') : Rs t k w' v n vs := by
  obtain ⟨e1, a, c, rfl, e2, e3, e4⟩ := h
  refine ⟨e1, a, c, rfl, e2, e3, fun hp => ?_⟩
  obtain ⟨g, off, rfl, cs', z', e5, e6⟩ := e4 hp
  refine ⟨g, off, rfl, cs', z', T.keep e5 (fun e => ?_), e6⟩
  simp only [List.mem_singleton] at e
  rw [e, hb] at e5
  simp only [Option.some.injEq, Obj.cells.injEq] at e5
  exact ht e5.2.1
theorem rcanc_ (w : World) (u v : Value) (L : List Se) (G : List Int) (h : Dd w u v L G) (t : Int) (hl : G.length ≤ 5000000000000) : Calls Try.prog 15 #[.agg #[u, v], .int .i64 t] w fun e w' => e = .returned (.bool (decide (t ∈ G))) ∧ Touch [] w w' := by
  obtain ⟨a, c, a', c', rfl, rfl⟩ := h.fm
  have HH : Hid (∀ ob, Calls Try.prog 32 #[.slice a' G.length c', .int .i64 t] (w.alloc ob) fun e w' => e = .returned (.bool (decide (t ∈ G))) ∧ Touch [] w w') := hid (fun ob => by
    refine (rhas_ _ _ G t (h.keep0 ((Touch.refl _ _).alloc ob)).v (by omega)).mono ?_
    rintro e w' ⟨rfl, t1⟩
    exact ⟨rfl, ((Touch.refl _ _).alloc ob).trans' t1⟩)
  clear h hl
  generalize decide (t ∈ G) = B at *
  generalize L.length = n at *
  generalize G.length = m at *
  go_enter Try.func15, Try.ntmps15
  go_wp2_with (go_at_call 32; refine (HH.out _).mono ?_; rintro e w2 ⟨rfl, t2⟩; have T2 := hid t2; clear t2)
  go_ret
  exact ⟨rfl, T2.out⟩
theorem whr_at {L : List Se} {c : Int} {i : Nat} (hi : i < L.length) (hn : ∀ j (h : j < L.length), j < i → L[j].1 ≠ c) (he : L[i].1 = c) : whr L c = some L[i] := by
  unfold whr
  induction L generalizing i with
  | nil => simp at hi
  | cons y r ih =>
    cases i with
    | zero => simp at he; rw [List.find?_cons]; simp [he]
    | succ i =>
      have h0 := hn 0 (by simp) (by omega)
      simp only [List.getElem_cons_zero] at h0
      rw [List.find?_cons]
      simp only [h0, decide_false]
      simp only [List.getElem_cons_succ] at he ⊢
      exact ih (by simpa using hi) (fun j hj hji => by
        have := hn (j + 1) (by simp; omega) (by omega)
        simpa using this) he
theorem whr_no {L : List Se} {c : Int} (hn : ∀ j (h : j < L.length), L[j].1 ≠ c) : whr L c = none := by
  unfold whr
  rw [List.find?_eq_none]
  intro x hx
  obtain ⟨j, hj, rfl⟩ := List.getElem_of_mem hx
  simp [hn j hj]
def zsv : Array Value := #[.int .i64 0, .int .i64 0, .int .i64 0]
set_option maxHeartbeats 2000000 in
theorem rwhere_ (w : World) (u v : Value) (L : List Se) (G : List Int) (h : Dd w u v L G) (c : Int) (hl : L.length ≤ 5000000000000) : Calls Try.prog 9 #[.agg #[u, v], .int .i64 c] w fun e w' => e = .returned (.tuple #[sv ((whr L c).getD (0, 0, 0)), .bool (whr L c).isSome]) ∧ Touch [] w w' := by
  obtain ⟨a, cu, a', cv, rfl, rfl⟩ := h.fm
  obtain ⟨V, hV⟩ : ∃ V, V = (w.alloc (.cells #[.slice a L.length cu, .slice a' G.length cv] 29)).alloc (.cells zsv 38) := ⟨_, rfl⟩
  have tv : Touch [] w V := by rw [hV]; exact ((Touch.refl _ _).alloc _).alloc _
  have hb0 : V.heap[w.heap.size]? = some (.cells #[.slice a L.length cu, .slice a' G.length cv] 29 (0, 0)) := by rw [hV]; exact ((Touch.refl [] _).alloc _).keep (heap_alloc_new w _) (by simp)
  have hb1 : V.heap[w.heap.size + 1]? = some (.cells zsv 38 (0, 0)) := by
    rw [hV]
    have := heap_alloc_new (w.alloc (.cells #[.slice a L.length cu, .slice a' G.length cv] 29)) (.cells zsv 38)
    rwa [World.size_alloc] at this
  have HA : Hid (∀ n (h : n < L.length), ∃ g off, a = some ⟨g, off, none⟩ ∧ V.cell? ⟨g, off + n * 3, none⟩ = some (.int .i64 L[n].1) ∧ V.cell? ⟨g, off + n * 3 + 1, none⟩ = some (.int .i64 L[n].2.1) ∧ V.cell? ⟨g, off + n * 3 + 2, none⟩ = some (.int .i64 L[n].2.2)) := hid (fun n hn => (h.keep0 tv).u.n3 hn)
  have b0 := cell_at (j := 0) hb0 rfl
  have v0 := cell_at (j := 0) (v := .int .i64 0) hb1 rfl
  have v1 := cell_at (j := 1) (v := .int .i64 0) hb1 rfl
  have v2 := cell_at (j := 2) (v := .int .i64 0) hb1 rfl
  have vf := froz_at hb1
  have HTV := hid tv
  have HT : Hid (∀ y0 y1 y2, Touch [] w (((V.setCell ⟨w.heap.size + 1, 0, none⟩ y0).setCell ⟨w.heap.size + 1, 1, none⟩ y1).setCell ⟨w.heap.size + 1, 2, none⟩ y2)) := hid (fun y0 y1 y2 => ((tv.setCell (Or.inr (Nat.le_succ _)) _).setCell (Or.inr (Nat.le_succ _)) _).setCell (Or.inr (Nat.le_succ _)) _)
  obtain ⟨N, hN⟩ : ∃ N, N = L.length := ⟨_, rfl⟩
  have HN := hid hN
  rw [← hN] at hl hV b0 ⊢
  have zl : (N : Int) < 9223372036854775807 := by omega
  clear h tv hb0 hb1 hN hl
  unfold zsv at hV
  go_enter Try.func9, Try.ntmps9
  go_upto_region 1 with fail
  rw [← hV]
  clear hV
  go_wp2
  go_loopw [6] (fun i wr => ∃ n : Nat, i = .int .i64 n ∧ n ≤ N ∧ wr = V ∧ Hid (∀ j (h : j < L.length), j < n → L[j].1 ≠ c)) (fun i _ => N - (intOf i).toNat)
  case atStart => exact ⟨0, rfl, Nat.zero_le _, rfl, hid (fun j h hj => absurd hj (Nat.not_lt_zero _))⟩
  case round =>
    obtain ⟨n, rfl, hn, hw, HX⟩ := hrel
    subst hw
    by_cases hlt : n < N
    · have zn : (n : Int) < (N : Int) := by omega
      have hnl : n < L.length := by have := HN.out; omega
      obtain ⟨g, off, rfl, y0, y1, y2⟩ := HA.out n hnl
      have HY : Hid (L[n].1 = c → whr L c = some L[n]) := hid (fun e => whr_at hnl HX.out e)
      have HZ : Hid (¬ L[n].1 = c → ∀ j (h : j < L.length), j < n + 1 → L[j].1 ≠ c) := hid (fun e j h hj => by
        by_cases e2 : j = n
        · subst e2; exact e
        · exact HX.out j h (by omega))
      generalize L[n] = x at *
      clear hnl HA HX
      by_cases he : x.1 = c
      · have hb : (x.1 == c) = true := by simp [he]
        have HE := hid (HY.out he)
        clear he HY HZ
        go_wp2
        refine bodyPost_ret (v := .tuple #[.agg #[.int .i64 x.1, .int .i64 x.2.1, .int .i64 x.2.2], .bool true]) (by simp [results, Try.results9, go_sem, v0, v1, v2]) rfl ⟨?_, HT.out _ _ _⟩
        rw [HE.out]
        rfl
      · have hb : (x.1 == c) = false := by simp [he]
        have HZ2 := hid (HZ.out he)
        clear he HY HZ
        go_wp2
        go_roundw
        case rel => exact ⟨n + 1, by go_num, by omega, trivial, HZ2⟩
        case measure => simp [intOf]; omega
    · have zn : ¬ (n : Int) < (N : Int) := by omega
      have HE : Hid (whr L c = none) := hid (whr_no (fun j h => HX.out j h (by have := HN.out; omega)))
      clear HX HA
      go_wp2
      refine bodyPost_ret (v := .tuple #[.agg #[.int .i64 0, .int .i64 0, .int .i64 0], .bool false]) (by simp [results, Try.results9, go_sem, v0, v1, v2]) rfl ⟨?_, HT.out _ _ _⟩
      rw [HE.out]
      rfl
theorem in_snoc {L : List Se} {b : Nat} {n : Int} {i : Nat} {x : Se} (h : L[i]? = some x) : inL b n (L.take (i + 1)) = if bn b x = n then inL b n (L.take i) ++ [x] else inL b n (L.take i) := by
  rw [take_snoc h]
  unfold inL
  rw [List.filter_append]
  by_cases e : bn b x = n <;> simp [e]
theorem out_snoc {L : List Se} {b : Nat} {n : Int} {i : Nat} {x : Se} (h : L[i]? = some x) : outL b n (L.take (i + 1)) = if bn b x = n then outL b n (L.take i) else outL b n (L.take i) ++ [x] := by
  rw [take_snoc h]
  unfold outL
  rw [List.filter_append]
  by_cases e : bn b x = n <;> simp [e]
theorem in_len (L : List Se) (b : Nat) (n : Int) (i : Nat) : (inL b n (L.take i)).length ≤ i := Nat.le_trans (List.length_filter_le _ _) (by rw [List.length_take]; omega)
theorem out_len (L : List Se) (b : Nat) (n : Int) (i : Nat) : (outL b n (L.take i)).length ≤ i := Nat.le_trans (List.length_filter_le _ _) (by rw [List.length_take]; omega)
set_option maxHeartbeats 4000000 in
set_option maxRecDepth 100000 in
theorem rof_ (w : World) (u v : Value) (L : List Se) (G : List Int) (h : Dd w u v L G) (b : Nat) (hb : b < 3) (n : Int) (hl : L.length ≤ 5000000000000) : Calls Try.prog 12 #[.agg #[u, v], .int .i64 (b : Int), .int .i64 n] w fun e w' => IlE e w w' ((inL b n L).map Prod.fst) := by
  obtain ⟨a, cu, a', cv, rfl, rfl⟩ := h.fm
  obtain ⟨V, hV⟩ : ∃ V, V = w.alloc (.cells #[.slice a L.length cu, .slice a' G.length cv] 29) := ⟨_, rfl⟩
  have tv : Touch [] w V := by rw [hV]; exact (Touch.refl _ _).alloc _
  have hb0 : V.heap[w.heap.size]? = some (.cells #[.slice a L.length cu, .slice a' G.length cv] 29 (0, 0)) := by rw [hV]; exact heap_alloc_new w _
  have HC0 : Hid (∀ w', Touch [] V w' → w'.cell? ⟨w.heap.size, 0, none⟩ = some (.slice a L.length cu)) := hid (fun w' t => cell_at (t.keep hb0 (by simp)) rfl)
  have HA : Hid (∀ w', Touch [] V w' → ∀ i (h : i < L.length), ∃ g off, a = some ⟨g, off, none⟩ ∧ w'.cell? ⟨g, off + i * 3, none⟩ = some (.int .i64 L[i].1) ∧ w'.cell? ⟨g, off + i * 3 + 1, none⟩ = some (.int .i64 L[i].2.1) ∧ w'.cell? ⟨g, off + i * 3 + 2, none⟩ = some (.int .i64 L[i].2.2)) := hid (fun w' t i hi => ((h.keep0 tv).keep0 t).u.n3 hi)
  have HTV := hid tv
  have H0 : Hid ((V.alloc (.cells #[] 3)).ownsRow V.heap.size 3 1 (.slice (some ⟨V.heap.size, 0, none⟩) 0 0) 0 (ints ((inL b n (L.take 0)).map Prod.fst))) := hid (World.ownsRow_made (e := 3) (size := 1) V #[] 0 (Nat.le_refl _) (by unfold maxLen; omega) rfl)
  obtain ⟨N, hN⟩ : ∃ N, N = L.length := ⟨_, rfl⟩
  have HN := hid hN
  have HL := hid hl
  have HBB := hid hb
  rw [← hN] at hl hV HC0 ⊢
  have zl : (N : Int) < 9223372036854775807 := by omega
  clear h tv hb0 hN hl hb
  go_enter Try.func12, Try.ntmps12
  go_upto_region 1 with fail
  rw [← hV]
  clear hV
  go_wp2
  go_loopw [7, 8] (fun s7 s8 wr => ∃ (i : Nat) (a7 : Option Addr) (m c7 : Nat), s7 = .slice a7 m c7 ∧ s8 = .int .i64 (i : Int) ∧ i ≤ N ∧ Hid (m = (inL b n (L.take i)).length ∧ Touch [] V wr ∧ wr.ownsRow V.heap.size 3 1 (.slice a7 m c7) m (ints ((inL b n (L.take i)).map Prod.fst)))) (fun _ s _ => N - (intOf s).toNat)
  case atStart => exact ⟨0, _, 0, _, rfl, rfl, Nat.zero_le _, rfl, (Touch.refl _ _).alloc _, H0.out⟩
  case round =>
    clear H0
    obtain ⟨i, a7, m, c7, rfl, rfl, hi, HR⟩ := hrel
    have c0 := HC0.out wr HR.out.2.1
    by_cases hlt : i < N
    · have zn : (i : Int) < (N : Int) := by omega
      have hnl : i < L.length := by have := HN.out; omega
      obtain ⟨g, off, rfl, y0, y1, y2⟩ := HA.out wr HR.out.2.1 i hnl
      have HAI : Hid (∀ w', Touch [] V w' → w'.cell? ⟨g, off + i * 3, none⟩ = some (.int .i64 L[i].1)) := hid (fun w' t => by
        obtain ⟨g', off', e, q, _⟩ := HA.out w' t i hnl
        cases e
        exact q)
      have HSN : Hid (inL b n (L.take (i + 1)) = if bn b L[i] = n then inL b n (L.take i) ++ [L[i]] else inL b n (L.take i)) := hid (in_snoc (List.getElem?_eq_getElem hnl))
      have HML : Hid (m ≤ i) := hid (by rw [HR.out.1]; exact in_len L b n i)
      generalize L[i] = x at *
      have HIS := hid (is_ wr x b HBB.out n)
      have HI := hid (And.intro hi hlt)
      unfold sv at HIS
      clear hnl hi hlt
      by_cases he : bn b x = n
      · rw [decide_eq_true he] at HIS
        have HS2 : Hid (inL b n (L.take (i + 1)) = inL b n (L.take i) ++ [x]) := hid (by rw [HSN.out, if_pos he])
        clear HSN he
        go_upto_region 6 with (go_at_call 31; refine HIS.out.mono ?_; rintro e w2 ⟨rfl, t2⟩; have T2 := hid (HR.out.2.1.trans' t2); have TI := hid t2; clear t2 c0 y0 y1 y2)
        have c0 := HC0.out w2 T2.out
        have y0 := HAI.out w2 T2.out
        have HROW : Hid ((w2.alloc (.cells #[.int .i64 x.1] 3)).ownsRow V.heap.size 3 1 (.slice a7 m c7) m (ints ((inL b n (L.take i)).map Prod.fst))) := hid (own_touch (own_touch HR.out.2.2 TI.out (fun _ _ e => by cases e)) ((Touch.refl [] _).alloc _) (fun _ _ e => by cases e))
        have HRW : Hid (Rs 3 1 (w2.alloc (.cells #[.int .i64 x.1] 3)) (.slice (some ⟨w2.heap.size, 0, none⟩) 1 1) 1 [.int .i64 x.1]) := hid (Rs.new w2 #[.int .i64 x.1] 3 1 rfl)
        have HT3 : Hid (Touch [] V (w2.alloc (.cells #[.int .i64 x.1] 3))) := hid (T2.out.alloc _)
        go_wp2_with (at_builtin; refine wpList_append_rs rfl _ _ 23 3 rfl (.int .i64 0) 1 8 info3 Try.underlying23 rfl (by decide) V.heap.size (.slice a7 m c7) m _ rfl HROW.out (.slice (some ⟨w2.heap.size, 0, none⟩) 1 1) 1 [.int .i64 x.1] rfl HRW.out (fun y hy => by simp only [List.mem_singleton] at hy; subst hy; rfl) (by have := HML.out; have := HI.out; have := HL.out; have := HN.out; unfold maxLen; omega) (by have := HML.out; have := HI.out; have := HL.out; have := HN.out; omega) HT3.out.size ?_; intro v5 w5 o5 g5 _; have t5 := touch_grown HT3.out g5 HROW.out (Nat.le_refl _); have T5 := hid t5; obtain ⟨a5, c5, e5⟩ := own_form o5; subst e5; have O5 := hid o5; clear o5 g5 t5)
        go_roundw
        case rel =>
          refine ⟨i + 1, a5, m + 1, c5, rfl, by go_num, by have := HI.out; omega, ?_, T5.out, ?_⟩
          · rw [HS2.out, List.length_append, ← HR.out.1]; rfl
          · rw [HS2.out, List.map_append]
            have := O5.out
            unfold ints at this ⊢
            rw [List.map_append]
            exact this
        case measure => simp [intOf]; have := HI.out; omega
      · rw [decide_eq_false he] at HIS
        have HS2 : Hid (inL b n (L.take (i + 1)) = inL b n (L.take i)) := hid (by rw [HSN.out, if_neg he])
        clear HSN he
        go_wp2_with (go_at_call 31; refine HIS.out.mono ?_; rintro e w2 ⟨rfl, t2⟩; have T2 := hid t2; clear t2)
        go_roundw
        case rel => exact ⟨i + 1, a7, m, c7, rfl, by go_num, by have := HI.out; omega, by rw [HS2.out]; exact HR.out.1, HR.out.2.1.trans' T2.out, by rw [HS2.out]; exact own_touch HR.out.2.2 T2.out (fun _ _ e => by cases e)⟩
        case measure => simp [intOf]; have := HI.out; omega
    · have zn : ¬ (i : Int) < (N : Int) := by omega
      have HZ : Hid (IlE (.returned (.slice a7 m c7)) w wr ((inL b n L).map Prod.fst)) := hid (by
        obtain ⟨e1, e2, e3⟩ := HR.out
        have e4 := HN.out
        rw [List.take_of_length_le (by omega)] at e1 e3
        refine ⟨a7, m, c7, rfl, ?_, HTV.out.trans' e2⟩
        rw [List.length_map, ← e1]
        exact Rs.of_own e3)
      clear HR HA hi hlt
      go_wp2
      go_ret
      exact HZ.out
end Go.Proofs.Ytlmmljmhfghlnaa
