/- The contracts of the document's Cancel and Empty; no conditions but those that each states. -/
import Derived.Test.YtlmmljmhfghlnaaVds
import Derived.Test.YtlmmljmhfghlnaaVem
import Derived.Test.YtlmmljmhfghlnaaAlh
namespace Go.Proofs.Ytlmmljmhfghlnaa
open Go.RowKit Go.Maps Go.ChangeMaps
set_option linter.unusedVariables false
set_option linter.unusedSimpArgs false
def CaE (e : Ending) (w w' : World) (L : List Se) (G : List Int) (ys : List Se) : Prop := ∃ a n c a' n' c' b m d, e = .returned (.tuple #[.agg #[.slice a n c, .slice a' n' c'], .slice b m d]) ∧ Dd w' (.slice a n c) (.slice a' n' c') L G ∧ Rs 38 3 w' (.slice b m d) ys.length (ys.flatMap sc) ∧ Touch [] w w'
theorem rs_none (t k : Nat) (w : World) (g c : Nat) : Rs t k w (.slice (some ⟨g, 0, none⟩) 0 c) 0 [] := ⟨by simp, _, c, rfl, Nat.zero_le _, fun e => (by cases e), fun h => absurd h (Nat.lt_irrefl 0)⟩
theorem ints_one (l : List Int) : ∀ y ∈ ints l, y.oneCell' = true := fun y hy => by
  unfold ints at hy
  obtain ⟨x, _, rfl⟩ := List.mem_map.1 hy
  rfl
set_option maxHeartbeats 8000000 in
set_option maxRecDepth 100000 in
theorem rcancel_ (w : World) (u v : Value) (L : List Se) (G : List Int) (h : Dd w u v L G) (t : Int) (hl : L.length ≤ 4500000000000) (hg : G.length ≤ 4500000000000) : Calls Try.prog 28 #[.agg #[u, v], .int .i64 t] w fun e w' => CaE e w w' (canL L t) (canG G t) (canA L t) := by
  obtain ⟨a, cu, a', cv, rfl, rfl⟩ := h.fm
  obtain ⟨V, hV⟩ : ∃ V, V = (w.alloc (.cells #[.slice a L.length cu, .slice a' G.length cv] 29)).alloc (.cells #[.slice none 0 0, .slice none 0 0] 29) := ⟨_, rfl⟩
  have tv : Touch [] w V := by rw [hV]; exact ((Touch.refl _ _).alloc _).alloc _
  have hb0 : V.heap[w.heap.size]? = some (.cells #[.slice a L.length cu, .slice a' G.length cv] 29 (0, 0)) := by rw [hV]; exact ((Touch.refl [] _).alloc _).keep (heap_alloc_new w _) (by simp)
  have hb1 : V.heap[w.heap.size + 1]? = some (.cells #[.slice none 0 0, .slice none 0 0] 29 (0, 0)) := by
    rw [hV]
    have := heap_alloc_new (w.alloc (.cells #[.slice a L.length cu, .slice a' G.length cv] 29)) (.cells #[.slice none 0 0, .slice none 0 0] 29)
    rwa [World.size_alloc] at this
  have hd := h.keep0 tv
  have hsz := block_lt hb1
  obtain ⟨b0, b1, y0, y1⟩ : V.cell? ⟨w.heap.size, 0, none⟩ = some (.slice a L.length cu) ∧ V.cell? ⟨w.heap.size, 1, none⟩ = some (.slice a' G.length cv) ∧ V.cell? ⟨w.heap.size + 1, 0, none⟩ = some (.slice none 0 0) ∧ V.cell? ⟨w.heap.size + 1, 1, none⟩ = some (.slice none 0 0) := ⟨cell_at hb0 rfl, cell_at hb0 rfl, cell_at hb1 rfl, cell_at hb1 rfl⟩
  have bf := froz_at hb0
  have yf := froz_at hb1
  by_cases h1 : t < 1
  · have HZ : Hid (∀ g w', Touch [w.heap.size + 1] V w' → CaE (.returned (.tuple #[.agg #[.slice a L.length cu, .slice a' G.length cv], .slice (some ⟨g, 0, none⟩) 0 0])) w w' (canL L t) (canG G t) (canA L t)) := hid (fun g w' T => by
      have e1 : canL L t = L := by unfold canL; rw [if_pos h1]
      have e2 : canA L t = [] := by unfold canA; rw [if_pos h1]
      have e3 : canG G t = G := by unfold canG; rw [if_pos h1]
      rw [e1, e2, e3]
      exact ⟨_, _, _, _, _, _, _, _, _, rfl, hd.box hb1 T, rs_none _ _ _ _ _, tv.trans T (fun z hz => Or.inr (by simp at hz; omega))⟩)
    have HSZ : Hid (w.heap.size + 1 < V.heap.size) := hid hsz
    clear h hd tv hb0 hb1 hl hg
    generalize L.length = n at *
    generalize G.length = m at *
    go_enter Try.func28, Try.ntmps28
    go_upto_region 1 with fail
    rw [← hV]
    clear hV
    go_wp2
    refine bodyPost_ret (v := .tuple #[.agg #[.slice a n cu, .slice a' m cv], .slice (some ⟨V.heap.size, 0, none⟩) 0 0]) (by simp [results, Try.results28, go_sem, y0, y1, World.cell?_alloc_lt, hsz]) rfl (HZ.out _ _ ?_)
    first
      | exact (((Touch.refl _ _).setCell (Or.inl (by simp)) _).setCell (Or.inl (by simp)) _).alloc _
      | exact (((Touch.refl _ _).alloc _).setCell (Or.inl (by simp)) _).setCell (Or.inl (by simp)) _
  · have HH := hid (rhas_ V _ G t hd.v (by omega))
    have e1 : canL L t = outL 2 t L := by unfold canL; rw [if_neg h1]
    have e2 : canA L t = inL 2 t L := by unfold canA; rw [if_neg h1]
    rw [e1, e2]
    by_cases hm : t ∈ G
    · have e3 : canG G t = G := by unfold canG; rw [if_neg h1, if_pos hm]
      rw [e3]
      rw [decide_eq_true hm] at HH
      have HO : Hid (∀ w', Touch [] V w' → Calls Try.prog 27 #[.agg #[.slice a L.length cu, .slice a' G.length cv], .int .i64 2, .int .i64 t] w' fun e w2 => ∃ a2 n2 c2 b2 m2 d2, e = .returned (.tuple #[.agg #[.slice a2 n2 c2, .slice a' G.length cv], .slice b2 m2 d2]) ∧ w2.heap[w.heap.size + 1]? = some (.cells #[.slice none 0 0, .slice none 0 0] 29 (0, 0)) ∧ ∀ w3, Touch [w.heap.size + 1] w2 w3 → CaE (.returned (.tuple #[.agg #[.slice a2 n2 c2, .slice a' G.length cv], .slice b2 m2 d2])) w w3 (outL 2 t L) G (inL 2 t L)) := hid (fun w' t1 => by
        refine (rout_ w' _ _ L G (hd.keep0 t1) 2 (by omega) t (by omega)).mono ?_
        rintro e w2 ⟨a2, n2, c2, b2, m2, d2, rfl, q1, q2, q3⟩
        have hbb := (t1.trans' q3).keep hb1 (by simp)
        refine ⟨a2, n2, c2, b2, m2, d2, rfl, hbb, fun w3 t3 => ⟨_, _, _, _, _, _, _, _, _, rfl, q1.box hbb t3, q2.box hbb (by decide) t3, ((tv.trans' t1).trans' q3).trans t3 (fun z hz => Or.inr (by simp at hz; omega))⟩⟩)
      have HN : Hid (∀ w', Touch [] V w' → w'.cell? ⟨w.heap.size, 0, none⟩ = some (.slice a L.length cu) ∧ w'.cell? ⟨w.heap.size, 1, none⟩ = some (.slice a' G.length cv)) := hid (fun w' t => ⟨cell_at (t.keep hb0 (by simp)) rfl, cell_at (t.keep hb0 (by simp)) rfl⟩)
      clear h hd tv hb0 hb1 hl hg hm e1 e2 e3 y0 y1 yf bf
      generalize L.length = n at *
      generalize G.length = m at *
      go_enter Try.func28, Try.ntmps28
      go_upto_region 1 with fail
      rw [← hV]
      clear hV
      go_wp2_with (first
        | (go_at_call 32; refine HH.out.mono ?_; rintro e w2 ⟨rfl, t2⟩; clear b0 b1; obtain ⟨b0, b1⟩ := HN.out _ t2; have HO2 := hid (HO.out _ t2); clear t2)
        | (go_at_call 27; refine HO2.out.mono ?_; rintro e w3 ⟨a2, n2, c2, b2, m2, d2, rfl, z3, q3⟩; have Q3 := hid q3; have y0 := cell_at (j := 0) z3 rfl; have y1 := cell_at (j := 1) z3 rfl; have yf := froz_at z3; clear z3 q3))
      refine bodyPost_ret (v := .tuple #[.agg #[.slice a2 n2 c2, .slice a' m cv], .slice b2 m2 d2]) (by simp [results, Try.results28, go_sem, y0, y1]) rfl (Q3.out _ ?_)
      exact ((Touch.refl _ _).setCell (Or.inl (by simp)) _).setCell (Or.inl (by simp)) _
    · have e3 : canG G t = G ++ [t] := by unfold canG; rw [if_neg h1, if_neg hm]
      rw [e3]
      rw [decide_eq_false hm] at HH
      have HO : Hid (∀ w6 v6 w7, Touch [] V w6 → w6.ownsRow V.heap.size 3 1 v6 (G.length + 1) (ints (G ++ [t])) → Touch [w.heap.size] w6 w7 → Calls Try.prog 27 #[.agg #[.slice a L.length cu, v6], .int .i64 2, .int .i64 t] w7 fun e w2 => ∃ a2 n2 c2 b2 m2 d2, e = .returned (.tuple #[.agg #[.slice a2 n2 c2, v6], .slice b2 m2 d2]) ∧ w2.heap[w.heap.size + 1]? = some (.cells #[.slice none 0 0, .slice none 0 0] 29 (0, 0)) ∧ ∀ w3, Touch [w.heap.size + 1] w2 w3 → CaE (.returned (.tuple #[.agg #[.slice a2 n2 c2, v6], .slice b2 m2 d2])) w w3 (outL 2 t L) (G ++ [t]) (inL 2 t L)) := hid (fun w6 v6 w7 t6 r6 t7 => by
        have hz6 := t6.size
        have r7 : w7.ownsRow V.heap.size 3 1 v6 (G.length + 1) (ints (G ++ [t])) := own_touch r6 t7 (fun b hb e => by have := (r6.lt b hb).1; simp at e; omega)
        have hv7 : Rs 3 1 w7 v6 (G ++ [t]).length (ints (G ++ [t])) := by
          have := Rs.of_own r7
          rwa [show (G ++ [t]).length = G.length + 1 by simp]
        have hd7 : Dd w7 (.slice a L.length cu) v6 L (G ++ [t]) := ⟨(hd.keep0 t6).u.box (t6.keep hb0 (by simp)) (by decide) t7, hv7⟩
        refine (rout_ w7 _ _ L (G ++ [t]) hd7 2 (by omega) t (by omega)).mono ?_
        rintro e w2 ⟨a2, n2, c2, b2, m2, d2, rfl, q1, q2, q3⟩
        have hbb := q3.keep (t7.keep (t6.keep hb1 (by simp)) (by simp)) (by simp)
        obtain ⟨a6, c6, e6⟩ := own_form r6
        refine ⟨a2, n2, c2, b2, m2, d2, rfl, hbb, fun w3 t3 => ?_⟩
        rw [e6] at q1 ⊢
        exact ⟨_, _, _, _, _, _, _, _, _, rfl, q1.box hbb t3, q2.box hbb (by decide) t3, (((tv.trans' t6).trans t7 (fun z hz => Or.inr (by simp at hz; omega))).trans' q3).trans t3 (fun z hz => Or.inr (by simp at hz; omega))⟩)
      have HN : Hid (∀ w', Touch [] V w' → w'.heap[w.heap.size]? = some (.cells #[.slice a L.length cu, .slice a' G.length cv] 29 (0, 0))) := hid (fun w' t => t.keep hb0 (by simp))
      have HRD : Hid (∀ w', Touch [] V w' → Rs 3 1 w' (.slice a' G.length cv) G.length (ints G)) := hid (fun w' t => (hd.keep0 t).v)
      have HGL := hid hg
      clear h hd tv hb0 hb1 hl hg hm e1 e2 e3 y0 y1 yf bf
      generalize L.length = n at *
      go_enter Try.func28, Try.ntmps28
      go_upto_region 1 with fail
      rw [← hV]
      clear hV
      go_upto_region 4 with (go_at_call 32; refine HH.out.mono ?_; rintro e w2 ⟨rfl, t2⟩; have T2 := hid t2; clear t2 b0 b1)
      have hbx := HN.out _ T2.out
      have b0 := cell_at (j := 0) (v := .slice a n cu) hbx rfl
      have b1 := cell_at (j := 1) (v := .slice a' G.length cv) hbx rfl
      have bf := froz_at hbx
      have hlt := block_lt hbx
      have HM : Hid ((w2.alloc (.cells #[] 3)).ownsRow V.heap.size 3 1 (.slice (some ⟨w2.heap.size, 0, none⟩) 0 0) 0 []) := hid (World.ownsRow_made (e := 3) (size := 1) w2 #[] 0 T2.out.size (by unfold maxLen; omega) rfl)
      have HT3 : Hid (Touch [] V (w2.alloc (.cells #[] 3))) := hid (T2.out.alloc _)
      have HR3 : Hid (Rs 3 1 (w2.alloc (.cells #[] 3)) (.slice a' G.length cv) G.length (ints G)) := hid (HRD.out _ HT3.out)
      clear hbx
      go_upto_region 5 with (at_builtin; first
        | (refine wpList_append_rs rfl _ _ 23 3 rfl (.int .i64 0) 1 8 info3 Try.underlying23 rfl (by decide) V.heap.size (.slice (some ⟨w2.heap.size, 0, none⟩) 0 0) 0 [] rfl HM.out (.slice a' G.length cv) G.length (ints G) rfl HR3.out (ints_one G) (by have := HGL.out; unfold maxLen; omega) (by have := HGL.out; omega) HT3.out.size ?_; intro v5 w5 o5 g5 p5; rw [Nat.zero_add, List.nil_append] at o5; obtain ⟨a5, c5, e5⟩ := own_form o5; subst e5; have T5 := hid (touch_grown HT3.out g5 HM.out (Nat.le_refl _)); have O5 : Hid ((w5.alloc (.cells #[.int .i64 t] 3)).ownsRow V.heap.size 3 1 (.slice a5 G.length c5) G.length (ints G)) := hid (own_touch o5 ((Touch.refl [] _).alloc _) (fun _ _ e => by cases e)); have R5 : Hid (Rs 3 1 (w5.alloc (.cells #[.int .i64 t] 3)) (.slice (some ⟨w5.heap.size, 0, none⟩) 1 1) 1 [.int .i64 t]) := hid (Rs.new w5 #[.int .i64 t] 3 1 rfl); have T6 : Hid (Touch [] V (w5.alloc (.cells #[.int .i64 t] 3))) := hid (T5.out.alloc _); clear o5 g5 p5 b0 b1 bf hlt)
        | (refine wpList_append_rs rfl _ _ 23 3 rfl (.int .i64 0) 1 8 info3 Try.underlying23 rfl (by decide) V.heap.size (.slice a5 G.length c5) G.length (ints G) rfl O5.out (.slice (some ⟨w5.heap.size, 0, none⟩) 1 1) 1 [.int .i64 t] rfl R5.out (fun y hy => by simp only [List.mem_singleton] at hy; subst hy; rfl) (by have := HGL.out; unfold maxLen; omega) (by have := HGL.out; omega) T6.out.size ?_; intro v6 w6 o6 g6 p6; obtain ⟨a6, c6, e6⟩ := own_form o6; subst e6; have t7 := touch_grown T6.out g6 O5.out (Nat.le_refl _); have T7 := hid t7; have O6 : Hid (w6.ownsRow V.heap.size 3 1 (.slice a6 (G.length + 1) c6) (G.length + 1) (ints (G ++ [t]))) := hid (by unfold ints at o6 ⊢; rw [List.map_append]; exact o6); have hbx := HN.out _ t7; have b0 := cell_at (j := 0) (v := .slice a n cu) hbx rfl; have b1 := cell_at (j := 1) (v := .slice a' G.length cv) hbx rfl; have bf := froz_at hbx; have hlt := block_lt hbx; clear o6 g6 p6 t7 hbx)
        | fail)
      obtain ⟨W7, hW7⟩ : ∃ W7, W7 = w6.setCell ⟨w.heap.size, 1, none⟩ (.slice a6 (G.length + 1) c6) := ⟨_, rfl⟩
      have t7 : Touch [w.heap.size] w6 W7 := by rw [hW7]; exact (Touch.refl _ _).setCell (Or.inl (by simp)) _
      have hbx : W7.heap[w.heap.size]? = some (.cells #[.slice a n cu, .slice a6 (G.length + 1) c6] 29 (0, 0)) := by
        rw [hW7]
        have := bset (i := 1) (HN.out _ T7.out) (.slice a6 (G.length + 1) c6)
        simpa using this
      have HO7 := hid (HO.out w6 _ W7 T7.out O6.out t7)
      rw [← hW7]
      clear hW7 t7 b0 b1 bf hlt HO HN HRD HM HT3 HR3 O5 R5 T6 T5 HH T2
      have b0 := cell_at (j := 0) (v := .slice a n cu) hbx rfl
      have b1 := cell_at (j := 1) (v := .slice a6 (G.length + 1) c6) hbx rfl
      clear hbx
      generalize G.length + 1 = m1 at *
      go_wp2_with (go_at_call 27; refine HO7.out.mono ?_; rintro e w3 ⟨a2, n2, c2, b2, m2, d2, rfl, z3, q3⟩; have Q3 := hid q3; have y0 := cell_at (j := 0) z3 rfl; have y1 := cell_at (j := 1) z3 rfl; have yf := froz_at z3; clear z3 q3)
      refine bodyPost_ret (v := .tuple #[.agg #[.slice a2 n2 c2, .slice a6 m1 c6], .slice b2 m2 d2]) (by simp [results, Try.results28, go_sem, y0, y1]) rfl (Q3.out _ ?_)
      exact ((Touch.refl _ _).setCell (Or.inl (by simp)) _).setCell (Or.inl (by simp)) _
end Go.Proofs.Ytlmmljmhfghlnaa
