/- The contract of the document's Out; no conditions but those that it states. -/
import Derived.Test.YtlmmljmhfghlnaaVdc
namespace Go.Proofs.Ytlmmljmhfghlnaa
open Go.RowKit Go.Maps Go.ChangeMaps
set_option linter.unusedVariables false
set_option linter.unusedSimpArgs false
/-- Two rows that a call owns, apart from one another. -/
structure OuS (V wr : World) (v1 v2 : Value) (A B : List Se) : Prop where
  t : Touch [] V wr
  r1 : wr.ownsRow V.heap.size 38 3 v1 A.length (A.flatMap sc)
  r2 : wr.ownsRow V.heap.size 38 3 v2 B.length (B.flatMap sc)
  ne : ∀ q, v1.ownBlock = some q → v2.ownBlock ≠ some q
theorem OuS.swap {V wr : World} {v1 v2 : Value} {A B : List Se} (h : OuS V wr v1 v2 A B) : OuS V wr v2 v1 B A := ⟨h.t, h.r2, h.r1, fun q h1 h2 => h.ne q h2 h1⟩
theorem OuS.keep {V wr w' : World} {v1 v2 : Value} {A B : List Se} (h : OuS V wr v1 v2 A B) (T : Touch [] wr w') : OuS V w' v1 v2 A B := ⟨h.t.trans' T, own_touch h.r1 T (fun _ _ e => by cases e), own_touch h.r2 T (fun _ _ e => by cases e), h.ne⟩
theorem OuS.app {V wr w5 : World} {v1 v2 v5 : Value} {A B : List Se} {x : Se} (h : OuS V wr v1 v2 A B) (o5 : w5.ownsRow V.heap.size 38 3 v5 (A.length + 1) (A.flatMap sc ++ sc x)) (g5 : wr.grownBy w5 v1.ownBlock) (p5 : v5.ownBlock = v1.ownBlock ∨ v5.ownBlock = some wr.heap.size) : OuS V w5 v5 v2 (A ++ [x]) B := by
  have tg : Touch v1.ownBlock.toList wr w5 := (Touch.refl _ _).grown g5 (fun q hq => Or.inl (by simp [hq]))
  refine ⟨touch_grown h.t g5 h.r1 (Nat.le_refl _), ?_, own_touch h.r2 tg (fun q hq e => h.ne q (Option.mem_toList.1 e) hq), fun q hq e => ?_⟩
  · rw [List.length_append, List.flatMap_append]
    simpa using o5
  · rcases p5 with p5 | p5
    · exact h.ne q (p5 ▸ hq) e
    · rw [p5] at hq
      cases hq
      have := (h.r2.lt _ e).2
      omega
theorem ous0 (V : World) : OuS V ((V.alloc (.cells #[] 38)).alloc (.cells #[] 38)) (.slice (some ⟨V.heap.size, 0, none⟩) 0 0) (.slice (some ⟨V.heap.size + 1, 0, none⟩) 0 0) [] [] := by
  refine ⟨((Touch.refl _ _).alloc _).alloc _, own_touch (World.ownsRow_made (e := 38) (size := 3) V #[] 0 (Nat.le_refl _) (by unfold maxLen; omega) rfl) ((Touch.refl [] _).alloc _) (fun _ _ e => by cases e), ?_, fun q h1 h2 => ?_⟩
  · have := World.ownsRow_made (e := 38) (size := 3) (base := V.heap.size) (V.alloc (.cells #[] 38)) #[] 0 (by simp) (by unfold maxLen; omega) rfl
    rwa [World.size_alloc] at this
  · simp only [Value.ownBlock, Option.some.injEq] at h1 h2
    omega
def OutE (e : Ending) (w w' : World) (v : Value) (L : List Se) (G : List Int) (ys : List Se) : Prop := ∃ a n c b m d, e = .returned (.tuple #[.agg #[.slice a n c, v], .slice b m d]) ∧ Dd w' (.slice a n c) v L G ∧ Rs 38 3 w' (.slice b m d) ys.length (ys.flatMap sc) ∧ Touch [] w w'
set_option maxHeartbeats 8000000 in
set_option maxRecDepth 100000 in
theorem rout_ (w : World) (u v : Value) (L : List Se) (G : List Int) (h : Dd w u v L G) (b : Nat) (hb : b < 3) (n : Int) (hl : L.length ≤ 5000000000000) : Calls Try.prog 27 #[.agg #[u, v], .int .i64 (b : Int), .int .i64 n] w fun e w' => OutE e w w' v (outL b n L) G (inL b n L) := by
  obtain ⟨a, cu, a', cv, rfl, rfl⟩ := h.fm
  obtain ⟨V, hV⟩ : ∃ V, V = (w.alloc (.cells #[.slice a L.length cu, .slice a' G.length cv] 29)).alloc (.cells #[.slice none 0 0, .slice none 0 0] 29) := ⟨_, rfl⟩
  have tv : Touch [] w V := by rw [hV]; exact ((Touch.refl _ _).alloc _).alloc _
  have hb0 : V.heap[w.heap.size]? = some (.cells #[.slice a L.length cu, .slice a' G.length cv] 29 (0, 0)) := by rw [hV]; exact ((Touch.refl [] _).alloc _).keep (heap_alloc_new w _) (by simp)
  have hb1 : V.heap[w.heap.size + 1]? = some (.cells #[.slice none 0 0, .slice none 0 0] 29 (0, 0)) := by
    rw [hV]
    have := heap_alloc_new (w.alloc (.cells #[.slice a L.length cu, .slice a' G.length cv] 29)) (.cells #[.slice none 0 0, .slice none 0 0] 29)
    rwa [World.size_alloc] at this
  have HC0 : Hid (∀ w', Touch [] V w' → w'.cell? ⟨w.heap.size, 0, none⟩ = some (.slice a L.length cu)) := hid (fun w' t => cell_at (t.keep hb0 (by simp)) rfl)
  have HBX : Hid (∀ w', Touch [] V w' → w'.heap[w.heap.size]? = some (.cells #[.slice a L.length cu, .slice a' G.length cv] 29 (0, 0)) ∧ w'.heap[w.heap.size + 1]? = some (.cells #[.slice none 0 0, .slice none 0 0] 29 (0, 0))) := hid (fun w' t => ⟨t.keep hb0 (by simp), t.keep hb1 (by simp)⟩)
  have HA : Hid (∀ w', Touch [] V w' → ∀ i (h : i < L.length), ∃ g off, a = some ⟨g, off, none⟩ ∧ w'.cell? ⟨g, off + i * 3, none⟩ = some (.int .i64 L[i].1) ∧ w'.cell? ⟨g, off + i * 3 + 1, none⟩ = some (.int .i64 L[i].2.1) ∧ w'.cell? ⟨g, off + i * 3 + 2, none⟩ = some (.int .i64 L[i].2.2)) := hid (fun w' t i hi => ((h.keep0 tv).keep0 t).u.n3 hi)
  have HFIN : Hid (∀ wr w' a8 c8 a9 c9, OuS V wr (.slice a8 (inL b n L).length c8) (.slice a9 (outL b n L).length c9) (inL b n L) (outL b n L) → Touch [w.heap.size, w.heap.size + 1] wr w' → OutE (.returned (.tuple #[.agg #[.slice a9 (outL b n L).length c9, .slice a' G.length cv], .slice a8 (inL b n L).length c8])) w w' (.slice a' G.length cv) (outL b n L) G (inL b n L)) := hid (fun wr w' a8 c8 a9 c9 q T => by
    have hz := block_lt hb1
    have k1 : ∀ {t k n : Nat} {x : Value} {xs : List Value}, wr.ownsRow V.heap.size t k x n xs → w'.ownsRow V.heap.size t k x n xs := fun r => own_touch r T (fun q hq e => by
      have := (r.lt q hq).1
      simp at e
      omega)
    have tw := tv.trans' q.t
    refine ⟨_, _, _, _, _, _, rfl, ⟨Rs.of_own (k1 q.r2), ?_⟩, Rs.of_own (k1 q.r1), tw.trans T (fun z hz => Or.inr (by simp at hz; omega))⟩
    have h3 := (h.keep0 tw).v
    obtain ⟨z0, z1⟩ := HBX.out wr q.t
    obtain ⟨e1, a, c, e0, e2, e3, e4⟩ := h3
    refine ⟨e1, a, c, e0, e2, e3, fun hp => ?_⟩
    obtain ⟨g, off, rfl, cs', z', e5, e6⟩ := e4 hp
    refine ⟨g, off, rfl, cs', z', T.keep e5 (fun e => ?_), e6⟩
    simp only [List.mem_cons, List.not_mem_nil, or_false] at e
    rcases e with e | e
    · rw [e, z0] at e5; simp at e5
    · rw [e, z1] at e5; simp at e5)
  have H0 : Hid (OuS V ((V.alloc (.cells #[] 38)).alloc (.cells #[] 38)) (.slice (some ⟨V.heap.size, 0, none⟩) 0 0) (.slice (some ⟨V.heap.size + 1, 0, none⟩) 0 0) (inL b n (L.take 0)) (outL b n (L.take 0))) := hid (ous0 V)
  obtain ⟨N, hN⟩ : ∃ N, N = L.length := ⟨_, rfl⟩
  have HN := hid hN
  have HL := hid hl
  have HBB := hid hb
  rw [← hN] at hl hV HC0 HBX ⊢
  have zl : (N : Int) < 9223372036854775807 := by omega
  clear h tv hb0 hb1 hN hl hb
  go_enter Try.func27, Try.ntmps27
  go_upto_region 1 with fail
  rw [← hV]
  clear hV
  go_wp2
  go_loopw [8, 9, 10] (fun s8 s9 s10 wr => ∃ (i : Nat) (a8 : Option Addr) (m8 c8 : Nat) (a9 : Option Addr) (m9 c9 : Nat), s8 = .slice a8 m8 c8 ∧ s9 = .slice a9 m9 c9 ∧ s10 = .int .i64 (i : Int) ∧ i ≤ N ∧ Hid (m8 = (inL b n (L.take i)).length ∧ m9 = (outL b n (L.take i)).length ∧ OuS V wr (.slice a8 m8 c8) (.slice a9 m9 c9) (inL b n (L.take i)) (outL b n (L.take i)))) (fun _ _ s _ => N - (intOf s).toNat)
  case atStart => exact ⟨0, _, 0, _, _, 0, _, rfl, rfl, rfl, Nat.zero_le _, rfl, rfl, H0.out⟩
  case round =>
    clear H0
    obtain ⟨i, a8, m8, c8, a9, m9, c9, rfl, rfl, rfl, hi, HR⟩ := hrel
    have c0 := HC0.out wr HR.out.2.2.t
    by_cases hlt : i < N
    · have zn : (i : Int) < (N : Int) := by omega
      have hnl : i < L.length := by have := HN.out; omega
      obtain ⟨g, off, rfl, y0, y1, y2⟩ := HA.out wr HR.out.2.2.t i hnl
      have HAI : Hid (∀ w', Touch [] V w' → w'.cell? ⟨g, off + i * 3, none⟩ = some (.int .i64 L[i].1) ∧ w'.cell? ⟨g, off + i * 3 + 1, none⟩ = some (.int .i64 L[i].2.1) ∧ w'.cell? ⟨g, off + i * 3 + 2, none⟩ = some (.int .i64 L[i].2.2)) := hid (fun w' t => by
        obtain ⟨g', off', e, q⟩ := HA.out w' t i hnl
        cases e
        exact q)
      have HSN : Hid (inL b n (L.take (i + 1)) = if bn b L[i] = n then inL b n (L.take i) ++ [L[i]] else inL b n (L.take i)) := hid (in_snoc (List.getElem?_eq_getElem hnl))
      have HSO : Hid (outL b n (L.take (i + 1)) = if bn b L[i] = n then outL b n (L.take i) else outL b n (L.take i) ++ [L[i]]) := hid (out_snoc (List.getElem?_eq_getElem hnl))
      have HML : Hid (m8 ≤ i ∧ m9 ≤ i) := hid ⟨by rw [HR.out.1]; exact in_len L b n i, by rw [HR.out.2.1]; exact out_len L b n i⟩
      generalize L[i] = x at *
      have HIS := hid (is_ wr x b HBB.out n)
      have HI := hid (And.intro hi hlt)
      unfold sv at HIS
      clear hnl hi hlt
      by_cases he : bn b x = n
      · rw [decide_eq_true he] at HIS
        have HS2 : Hid (inL b n (L.take (i + 1)) = inL b n (L.take i) ++ [x]) := hid (by rw [HSN.out, if_pos he])
        have HO2 : Hid (outL b n (L.take (i + 1)) = outL b n (L.take i)) := hid (by rw [HSO.out, if_pos he])
        clear HSN HSO he
        generalize inL b n (L.take i) = I1 at *
        generalize outL b n (L.take i) = O1 at *
        go_upto_region 6 with (go_at_call 31; refine HIS.out.mono ?_; rintro e w2 ⟨rfl, t2⟩; have TI := hid t2; clear t2 c0 y0 y1 y2)
        have Q2 := hid (HR.out.2.2.keep TI.out)
        have c0 := HC0.out w2 Q2.out.t
        obtain ⟨y0, y1, y2⟩ := HAI.out w2 Q2.out.t
        have Q3 : Hid (OuS V (w2.alloc (.cells #[.int .i64 x.1, .int .i64 x.2.1, .int .i64 x.2.2] 38)) (.slice a8 m8 c8) (.slice a9 m9 c9) I1 O1) := hid (Q2.out.keep ((Touch.refl _ _).alloc _))
        have HROW : Hid ((w2.alloc (.cells #[.int .i64 x.1, .int .i64 x.2.1, .int .i64 x.2.2] 38)).ownsRow V.heap.size 38 3 (.slice a8 m8 c8) m8 (I1.flatMap sc)) := hid (by have := Q3.out.r1; rwa [← HR.out.1] at this)
        have HRW : Hid (Rs 38 3 (w2.alloc (.cells #[.int .i64 x.1, .int .i64 x.2.1, .int .i64 x.2.2] 38)) (.slice (some ⟨w2.heap.size, 0, none⟩) 1 1) 1 (sc x)) := hid (Rs.new w2 #[.int .i64 x.1, .int .i64 x.2.1, .int .i64 x.2.2] 38 3 rfl)
        go_wp2_with (at_builtin; refine wpList_append_rs rfl _ _ 27 38 rfl _ 3 24 infoRS Try.underlying27 rfl (by decide) V.heap.size (.slice a8 m8 c8) m8 _ rfl HROW.out (.slice (some ⟨w2.heap.size, 0, none⟩) 1 1) 1 (sc x) rfl HRW.out (by simp [sc, Value.oneCell']) (by have := HML.out; have := HI.out; have := HL.out; have := HN.out; unfold maxLen; omega) (by have := HML.out; have := HI.out; have := HL.out; have := HN.out; omega) Q3.out.t.size ?_; intro v5 w5 o5 g5 p5; have HX5 : Hid (OuS V w5 v5 (.slice a9 m9 c9) (I1 ++ [x]) O1) := hid (Q3.out.app (by have := o5; rwa [HR.out.1] at this) g5 p5); obtain ⟨a5, c5, e5⟩ := own_form o5; subst e5; clear o5 g5 p5)
        go_roundw
        case rel =>
          refine ⟨i + 1, a5, m8 + 1, c5, a9, m9, c9, rfl, rfl, by go_num, by have := HI.out; omega, ?_, ?_, ?_⟩
          · rw [HS2.out, List.length_append, ← HR.out.1]; rfl
          · rw [HO2.out]; exact HR.out.2.1
          · rw [HS2.out, HO2.out]; exact HX5.out
        case measure => simp [intOf]; have := HI.out; omega
      · rw [decide_eq_false he] at HIS
        have HS2 : Hid (inL b n (L.take (i + 1)) = inL b n (L.take i)) := hid (by rw [HSN.out, if_neg he])
        have HO2 : Hid (outL b n (L.take (i + 1)) = outL b n (L.take i) ++ [x]) := hid (by rw [HSO.out, if_neg he])
        clear HSN HSO he
        generalize inL b n (L.take i) = I1 at *
        generalize outL b n (L.take i) = O1 at *
        go_upto_region 7 with (go_at_call 31; refine HIS.out.mono ?_; rintro e w2 ⟨rfl, t2⟩; have TI := hid t2; clear t2 c0 y0 y1 y2)
        have Q2 := hid (HR.out.2.2.keep TI.out)
        have c0 := HC0.out w2 Q2.out.t
        obtain ⟨y0, y1, y2⟩ := HAI.out w2 Q2.out.t
        have Q3 : Hid (OuS V (w2.alloc (.cells #[.int .i64 x.1, .int .i64 x.2.1, .int .i64 x.2.2] 38)) (.slice a8 m8 c8) (.slice a9 m9 c9) I1 O1) := hid (Q2.out.keep ((Touch.refl _ _).alloc _))
        have HROW : Hid ((w2.alloc (.cells #[.int .i64 x.1, .int .i64 x.2.1, .int .i64 x.2.2] 38)).ownsRow V.heap.size 38 3 (.slice a9 m9 c9) m9 (O1.flatMap sc)) := hid (by have := Q3.out.swap.r1; rwa [← HR.out.2.1] at this)
        have HRW : Hid (Rs 38 3 (w2.alloc (.cells #[.int .i64 x.1, .int .i64 x.2.1, .int .i64 x.2.2] 38)) (.slice (some ⟨w2.heap.size, 0, none⟩) 1 1) 1 (sc x)) := hid (Rs.new w2 #[.int .i64 x.1, .int .i64 x.2.1, .int .i64 x.2.2] 38 3 rfl)
        go_wp2_with (at_builtin; refine wpList_append_rs rfl _ _ 27 38 rfl _ 3 24 infoRS Try.underlying27 rfl (by decide) V.heap.size (.slice a9 m9 c9) m9 _ rfl HROW.out (.slice (some ⟨w2.heap.size, 0, none⟩) 1 1) 1 (sc x) rfl HRW.out (by simp [sc, Value.oneCell']) (by have := HML.out; have := HI.out; have := HL.out; have := HN.out; unfold maxLen; omega) (by have := HML.out; have := HI.out; have := HL.out; have := HN.out; omega) Q3.out.t.size ?_; intro v5 w5 o5 g5 p5; have HX5 : Hid (OuS V w5 v5 (.slice a8 m8 c8) (O1 ++ [x]) I1) := hid (Q3.out.swap.app (by have := o5; rwa [HR.out.2.1] at this) g5 p5); obtain ⟨a5, c5, e5⟩ := own_form o5; subst e5; clear o5 g5 p5)
        go_roundw
        case rel =>
          refine ⟨i + 1, a8, m8, c8, a5, m9 + 1, c5, rfl, rfl, by go_num, by have := HI.out; omega, ?_, ?_, ?_⟩
          · rw [HS2.out]; exact HR.out.1
          · rw [HO2.out, List.length_append, ← HR.out.2.1]; rfl
          · rw [HS2.out, HO2.out]; exact HX5.out.swap
        case measure => simp [intOf]; have := HI.out; omega
    · have zn : ¬ (i : Int) < (N : Int) := by omega
      have HZ : Hid (∀ w', Touch [w.heap.size, w.heap.size + 1] wr w' → OutE (.returned (.tuple #[.agg #[.slice a9 m9 c9, .slice a' G.length cv], .slice a8 m8 c8])) w w' (.slice a' G.length cv) (outL b n L) G (inL b n L)) := hid (fun w' T => by
        obtain ⟨e1, e2, e3⟩ := HR.out
        have e4 := HN.out
        rw [List.take_of_length_le (by omega)] at e1 e2 e3
        rw [e1, e2] at e3 ⊢
        exact HFIN.out wr w' _ _ _ _ e3 T)
      obtain ⟨z0, z1⟩ := HBX.out wr HR.out.2.2.t
      have x0 := cell_at (j := 0) z0 rfl
      have x1 := cell_at (j := 1) z0 rfl
      have xf := froz_at z0
      have y0 := cell_at (j := 0) z1 rfl
      have y1 := cell_at (j := 1) z1 rfl
      have yf := froz_at z1
      clear HR HA hi hlt HFIN HC0 c0 z0 z1 HBX
      go_wp2
      refine bodyPost_ret (v := .tuple #[.agg #[.slice a9 m9 c9, .slice a' G.length cv], .slice a8 m8 c8]) (by simp [results, Try.results27, go_sem, x0, x1, y0, y1]) rfl (HZ.out _ ?_)
      exact (((Touch.refl _ _).setCell (Or.inl (by simp)) _).setCell (Or.inl (by simp)) _).setCell (Or.inl (by simp)) _
end Go.Proofs.Ytlmmljmhfghlnaa
