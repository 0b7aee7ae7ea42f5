/- One kind of place's and of takeAway's rounds, told of memory alone; no conditions but those that each states. -/
import Derived.Test.YtlmmljmhfghlnaaVpm
namespace Go.Proofs.Ytlmmljmhfghlnaa
open Go.RowKit Go.Maps Go.ChangeMaps
set_option linter.unusedVariables false
set_option linter.unusedSimpArgs false
theorem Own1.keep {w w' : World} {F : List Nat} {q : Nat} (h : Own1 w q) (T : Touch F w w') (hF : ¬ q ∈ F) : Own1 w' q := by
  rcases h with ⟨cs, z, h⟩ | ⟨cs, z, h⟩ | ⟨cs, z, h⟩
  · exact Or.inl ⟨cs, z, T.keep h hF⟩
  · exact Or.inr (Or.inl ⟨cs, z, T.keep h hF⟩)
  · exact Or.inr (Or.inr ⟨cs, z, T.keep h hF⟩)
theorem isCh.lt {w : World} {q : Nat} (h : isCh w q) : q < w.heap.size := by
  obtain ⟨x, a, b, h⟩ := h
  exact block_lt h
theorem isCh.nemap {w : World} {q r : Nat} (h : isCh w q) (hr : ∃ es cl, w.heap[r]? = some (.map es cl)) : r ≠ q := fun e => by
  obtain ⟨x, a, b, h⟩ := h
  obtain ⟨es, cl, hr⟩ := hr
  rw [e, h] at hr
  cases hr
/-- What the rest of a round reads. -/
structure Rb (W : World) (s d nb rb : Nat) (k m : Int) (f l : Option Nat) : Prop where
  s1 : ∀ w', Touch [] W w' → w'.cell? ⟨s, 1, none⟩ = some (.map (some d))
  n0 : ∀ w', Touch [] W w' → w'.cell? ⟨nb, 0, none⟩ = some (.int .i64 k)
  n1 : ∀ w', Touch [] W w' → w'.cell? ⟨nb, 1, none⟩ = some (.int .i64 m)
  r0 : ∀ w', Touch [] W w' → w'.cell? ⟨rb, 0, none⟩ = some (pv f)
  r1 : ∀ w', Touch [] W w' → w'.cell? ⟨rb, 1, none⟩ = some (pv l)
theorem Rb.mk' {W : World} {s d nb rb : Nat} {mc mk : Option Nat} {k m : Int} {f l : Option Nat} (h1 : W.heap[s]? = some (.cells (sbc mc (some d) mk) 60 (0, 0))) (h2 : W.heap[nb]? = some (.cells #[.int .i64 k, .int .i64 m] 73 (0, 0))) (h3 : W.heap[rb]? = some (.cells #[pv f, pv l] 82 (0, 0))) : Rb W s d nb rb k m f l :=
  ⟨fun w' t => cell_at (t.keep h1 (by simp)) rfl, fun w' t => cell_at (t.keep h2 (by simp)) rfl, fun w' t => cell_at (t.keep h2 (by simp)) rfl, fun w' t => cell_at (t.keep h3 (by simp)) rfl, fun w' t => cell_at (t.keep h3 (by simp)) rfl⟩
def Zp (q : Nat) (A B : Nat → Nat → Option Nat) (k : Nat) : Prop := B k q = none
def Zt (A B : Nat → Nat → Option Nat) (k : Nat) : Prop := True
section
variable {wr V2 W2 : World} {s b d nr i q nb rb : Nat} {mk : Option Nat} {CH : List Chr} {G : List Int} {x : Se}
/-- The row's own last one is a chair. -/
theorem last_is {w : World} {A B : Nat → Nat → Option Nat} {CH C0 : List Chr} (hc : Ch w CH A B) (hs : ∀ p ∈ C0, p ∈ CH) {k : Nat} {n : Int} {p : Nat} (h : lastO none (rowOf k n C0) = some p) : isCh w p ∧ p ∈ C0.map Prod.fst := by
  rcases lastO_mem h with e | e
  · cases e
  · have h1 := row_mem e
    obtain ⟨z, hz, rfl⟩ := List.mem_map.1 h1
    exact ⟨⟨_, _, _, hc z (hs z hz)⟩, h1⟩
theorem place_ready (h : Md wr s b d mk nr (CH ++ [(q, x)]) CH (CH ++ [(q, x)]) G i (Zp q)) (nd : ((CH ++ [(q, x)]).map Prod.fst).Nodup) (m : Int) : isCh wr q ∧ ∀ p, lastO none (rowOf i m CH) = some p → isCh wr p ∧ p ≠ q := by
  obtain ⟨A, B, h1, _⟩ := h.lk
  refine ⟨⟨_, _, _, h1 (q, x) (by simp)⟩, fun p hp => ?_⟩
  obtain ⟨h2, h3⟩ := last_is h1 (fun p hp => by simp [hp]) hp
  refine ⟨h2, fun e => ?_⟩
  rw [List.map_append, List.nodup_append] at nd
  exact nd.2.2 p h3 q (by simp) e
theorem place_step (h : Md wr s b d mk (nr + i) (CH ++ [(q, x)]) CH (CH ++ [(q, x)]) G i (Zp q)) (hi : i < 3) (hx : Wf x) (nd : ((CH ++ [(q, x)]).map Prod.fst).Nodup) (hnr : nr + 3 < maxLen) (t2 : Touch [] wr V2) (hn : V2.heap[nb]? = some (.cells #[.int .i64 (i : Int), .int .i64 (num i x)] 73 (0, 0))) (hrb : wr.heap.size ≤ rb)
    (hr : V2.heap[rb]? = some (.cells (rowC (rowOf i (num i x) CH)) 82 (0, 0))) (hE : AdE V2 W2 i rb q (rowOf i (num i x) CH).head? (lastO none (rowOf i (num i x) CH))) :
    ∃ f o, Rb W2 s d nb rb i (num i x) f (some q) ∧ (Instr.mapUpdate 57 (.map (some d)) (.agg #[.int .i64 (i : Int), .int .i64 (num i x)]) (.agg #[pv f, pv (some q)])).run Try.prog W2.drew = .ok () (setBlock W2.drew d o) ∧ Md (setBlock W2.drew d o) s b d mk (nr + (i + 1)) (CH ++ [(q, x)]) CH (CH ++ [(q, x)]) G (i + 1) (Zp q) ∧ Touch (fpM s b d mk (CH ++ [(q, x)])) wr (setBlock W2.drew d o) := by
  have h2 := h.keep0 t2
  have hown := h2.own
  obtain ⟨hq, hl⟩ := place_ready h2 nd (num i x)
  have hF : ∀ z, z ∈ rb :: q :: (lastO none (rowOf i (num i x) CH)).toList → z = rb ∨ z ∈ (CH ++ [(q, x)]).map Prod.fst := fun z hz => by
    simp only [List.mem_cons, Option.mem_toList] at hz
    rcases hz with e | e | e
    · exact Or.inl e
    · exact Or.inr (by simp [e])
    · obtain ⟨A, B, h1, _⟩ := h2.lk
      have := (last_is h1 (C0 := CH) (fun p hp => by simp [hp]) e).2
      exact Or.inr (by rw [List.map_append]; exact List.mem_append.2 (Or.inl this))
  have hch : ∀ z, z ∈ (CH ++ [(q, x)]).map Prod.fst → isCh V2 z := fun z hz => by
    obtain ⟨A, B, h1, _⟩ := h2.lk
    exact h1.is hz
  have hmap : ∀ z, (∃ es cl, V2.heap[z]? = some (.map es cl)) → ¬ z ∈ rb :: q :: (lastO none (rowOf i (num i x) CH)).toList := fun z hz e => by
    rcases hF z e with e | e
    · obtain ⟨es, cl, hz⟩ := hz
      rw [e, hr] at hz
      cases hz
    · exact (hch z e).nemap hz rfl
  have hs : ¬ s ∈ rb :: q :: (lastO none (rowOf i (num i x) CH)).toList := fun e => by
    rcases hF s e with e | e
    · have := h2.hb; rw [e, hr] at this; simp at this
    · obtain ⟨x', a', b', h3⟩ := hch s e
      have := h2.hb; rw [h3] at this; simp at this
  have hnb : ¬ nb ∈ rb :: q :: (lastO none (rowOf i (num i x) CH)).toList := fun e => by
    rcases hF nb e with e | e
    · rw [e, hr] at hn; simp at hn
    · obtain ⟨x', a', b', h3⟩ := hch nb e
      rw [h3] at hn; simp at hn
  obtain ⟨n, hn1, hn2⟩ := h2.rm
  have hm2 : MapK KN W2.drew d n (rmid i (CH ++ [(q, x)]) CH) := (hn2.keep hE.t (hmap d hn2.kind)).kept rfl
  obtain ⟨o, o1, o2⟩ := hm2.set (t := 57) Try.underlying57 (by omega) (k := ((i : Int), num i x)) (ok_name hx hi) (rowV (rowOf i (num i x) (CH ++ [(q, x)])))
  have erow : rowOf i (num i x) (CH ++ [(q, x)]) = rowOf i (num i x) CH ++ [q] := by rw [row_snoc, if_pos rfl]
  have eV : rowV (rowOf i (num i x) (CH ++ [(q, x)])) = .agg #[pv (if lastO none (rowOf i (num i x) CH) = none then some q else (rowOf i (num i x) CH).head?), pv (some q)] := by
    rw [erow]
    unfold rowV rowC
    rw [head_snoc, last_snoc]
  have td : Touch [d] W2 (setBlock W2.drew d o) := touch_setBlock (Touch.refl _ _).drew (Or.inl (by simp)) o
  have hsd : s ≠ d := fun e => by
    obtain ⟨es, cl, h3⟩ := hn2.kind
    have := h2.hb; rw [e, h3] at this; cases this
  have hmd : ∀ z, isCh V2 z → z ≠ d := fun z hz e => hz.nemap hn2.kind e.symm
  refine ⟨_, o, Rb.mk' (hE.t.keep h2.hb hs) (hE.t.keep hn hnb) hE.row, by rw [← eV]; exact o1, ⟨td.keep (hE.t.keep h2.hb hs) (by simpa using hsd), h.bd, (h2.cm.keep hE.t (hmap b h2.cm.kind)).keep td (by simpa using h.bd), ?_, ?_, h.kc, ?_⟩, ?_⟩
  · refine ⟨_, ?_, o2.congr (fun z hz => rmid_step hi (m := num i x) (fun n hne => ?_) z _ ?_ (fun z hz => ?_))⟩
    · split <;> omega
    · rw [row_snoc, if_neg (fun e => hne e.symm)]
    · rw [rmap_row hi _ (by rw [erow]; simp)]
      simp [kupd]
    · simp [kupd, hz]
  · rcases h2.km with h1 | ⟨c, h1, h3⟩
    · exact Or.inl h1
    · exact Or.inr ⟨c, h1, (h3.keep hE.t (hmap c h3.kind)).keep td (by simpa using (h.kc c h1).2)⟩
  · obtain ⟨A, B, h1, h3, h4⟩ := h2.lk
    have hlq : lastO none (rowOf i (num i x) CH) ≠ some q := fun e => (hl q e).2 rfl
    have hc := h1.added hE (fun p hp e => by
      obtain ⟨x', a', b', h5⟩ := hch p.1 (List.mem_map.2 ⟨p, hp, rfl⟩)
      rw [e, hr] at h5; simp at h5) hlq
    refine ⟨_, _, hc.keep td (fun p hp e => hmd p.1 (hch p.1 (List.mem_map.2 ⟨p, hp, rfl⟩)) (by simpa using e)), fun k hk hki n => ?_, fun k hk hki => ⟨?_, fun n => ?_⟩⟩
    · by_cases e : k = i
      · subst e
        rw [upd2_at, upd2_at]
        obtain ⟨hz, hlk⟩ := h4 k hk (Nat.le_refl k)
        by_cases e2 : num k x = n
        · subst e2
          rw [erow]
          have hnd := row_nd nd k (num k x)
          rw [erow] at hnd
          exact (hlk (num k x)).snoc hnd hz (by simp)
        · rw [row_snoc, if_neg e2]
          refine (hlk n).congr (fun z hz2 => ⟨?_, ?_⟩)
          · unfold updO
            rw [if_neg]
            intro e3
            simp only [Option.some.injEq] at e3
            subst e3
            have := row_mem hz2
            rw [List.map_append, List.nodup_append] at nd
            exact nd.2.2 q this q (by simp) rfl
          · unfold updO
            rw [if_neg]
            intro e3
            rcases lastO_mem e3 with e4 | e4
            · cases e4
            · obtain ⟨j1, hj1⟩ := List.getElem?_of_mem e4
              obtain ⟨j2, hj2⟩ := List.getElem?_of_mem hz2
              obtain ⟨p1, hp1, e5, _, e6⟩ := row_seats CH k _ j1 z hj1
              obtain ⟨p2, hp2, e7, _, e8⟩ := row_seats CH k _ j2 z hj2
              have : p1 = p2 := by
                have nd' : (CH.map Prod.fst).Nodup := by rw [List.map_append, List.nodup_append] at nd; exact nd.1
                obtain ⟨i1, hi1⟩ := List.getElem?_of_mem hp1
                obtain ⟨i2, hi2⟩ := List.getElem?_of_mem hp2
                have l1 := (List.getElem?_eq_some_iff.1 hi1).1
                have l2 := (List.getElem?_eq_some_iff.1 hi2).1
                have g1 : (CH.map Prod.fst)[i1]? = some z := by rw [List.getElem?_map, hi1]; simp [e5]
                have g2 : (CH.map Prod.fst)[i2]? = some z := by rw [List.getElem?_map, hi2]; simp [e7]
                have : i1 = i2 := (List.getElem?_inj (by simpa using l1) nd').1 (g1.trans g2.symm)
                subst this
                rw [hi1] at hi2
                exact Option.some.inj hi2
              rw [this, e8] at e6
              exact e2 e6.symm
      · rw [upd2_ne _ e, upd2_ne _ e]
        exact h3 k hk (by omega) n
    · have e : k ≠ i := by omega
      show upd2 B i _ _ k q = none
      rw [upd2_ne _ e]
      exact (h4 k hk (by omega)).1
    · have e : k ≠ i := by omega
      rw [upd2_ne _ e, upd2_ne _ e]
      exact (h4 k hk (by omega)).2 n
  · have t3 : Touch (fpM s b d mk (CH ++ [(q, x)])) wr W2 := (t2.mono (fun _ e => by cases e)).trans hE.t (fun z hz => by
      rcases hF z hz with e | e
      · exact Or.inr (by omega)
      · exact Or.inl (mem_fpS.2 (Or.inr (Or.inr (Or.inr (Or.inr e))))))
    exact t3.trans td (fun z hz => Or.inl (mem_fpS.2 (Or.inr (Or.inr (Or.inl (by simp at hz; rw [hz]))))))
end
end Go.Proofs.Ytlmmljmhfghlnaa
