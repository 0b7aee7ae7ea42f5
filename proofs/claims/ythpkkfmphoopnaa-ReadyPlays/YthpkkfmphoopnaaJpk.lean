/- The contracts of Pick, Rest, Wake and New as steps; no conditions but those that each states. -/
import Derived.Test.YthpkkfmphoopnaaJtk
namespace Go.Proofs.Ythpkkfmphoopnaa.Re
open Go.RowKit Go.Maps Go.ChangeMaps
set_option linter.unusedVariables false
set_option linter.unusedSimpArgs false
theorem fpR_u {b : Nat} {v u u' : Value} {m : Option Nat} {t : Value} (h : u'.ownBlock = u.ownBlock) : fpR b v u' m t = fpR b v u m t := by unfold fpR; rw [h]
section
variable {w : World} {b N : Nat} {F : List Nat} {S : Rz}
/-- What stands behind takeOut, up to the end of a pick. -/
theorem pick_fin {v u t : Value} {m : Option Nat} (hv : Iv S N) (hne : S.ln ≠ []) {w1 w2 : World} {u2 : Value} (t1 : Touch [] w w1) (h2 : Rm w2 b v u2 m t (outS S (placeS S).1)) (t2 : Touch (fpR b v u m t) w1 w2) (hu : u2.ownBlock = u.ownBlock) :
    ∃ a c, t = .slice a S.tl.length c ∧ (w2.cell? ⟨b, 1, none⟩ = some (.int .u64 (S.st : Int)) ∧ ∀ j, w2.frozen? ⟨b, j, none⟩ = false) ∧ ∀ W3, W3 = w2.setCell ⟨b, 1, none⟩ (.int .u64 ((placeS S).2 : Int)) → W3.cell? ⟨b, 5, none⟩ = some t ∧
      (∀ ob, Ow (W3.alloc ob) 0 t S.tl) ∧ ∀ ob W5 t5, Ow W5 0 t5 (S.tl ++ [((placeS S).1 : Int)]) → Touch t.ownBlock.toList (W3.alloc ob) W5 → (t5.ownBlock = t.ownBlock ∨ t5.ownBlock = some (W3.alloc ob).heap.size) →
        W5.cell? ⟨b, 5, none⟩ = some t ∧ (∀ j, W5.frozen? ⟨b, j, none⟩ = false) ∧ RqE w (W5.setCell ⟨b, 5, none⟩ t5) b (fpR b v u m t) (pickS S) (N + 1) := by
  obtain ⟨a, c, e, _⟩ := h2.tl.form
  refine ⟨a, c, e, ⟨cell_at (j := 1) h2.hb rfl, froz_at h2.hb⟩, fun W3 hW3 => ?_⟩
  obtain ⟨h3, t3⟩ := h2.setSt (placeS S).2
  rw [← hW3] at h3 t3
  refine ⟨cell_at (j := 5) h3.hb rfl, fun ob => h3.tl.keep0 ((Touch.refl [] _).alloc ob), fun ob W5 t5 q1 q2 q3 => ?_⟩
  obtain ⟨r1, r2, r3, r4⟩ := h3.setTl (x := ((placeS S).1 : Int)) q1 q2 q3
  refine ⟨cell_at (j := 5) r1 rfl, froz_at r1, fpR b v u2 m t5, ⟨v, u2, m, t5, rfl, ?_, hv.pick⟩, ?_, ?_⟩
  · have e : pickS S = { S with st := (placeS S).2, ln := S.ln.eraseIdx (placeS S).1, tl := S.tl ++ [((placeS S).1 : Int)] } := by unfold pickS; rw [if_neg hne]
    rw [e]
    exact r2
  · rw [fpR_u hu] at r3
    exact (((t1.mono (fun _ e => by cases e)).trans t2 (fun q hq => Or.inl hq)).trans t3 (fun q hq => Or.inl (mem_fpR.2 (Or.inl (by simpa using hq))))).trans r3 (fun q hq => Or.inl hq)
  · intro q hq
    rw [fpR_u hu] at r4
    rcases r4 q hq with e | e
    · exact Or.inl e
    · have := t1.size
      have := t2.size
      have := t3.size
      exact Or.inr (by omega)
set_option maxHeartbeats 2000000 in
theorem pick_ (h : Rq w b F S N) (hN : N ≤ 8796093022208) : Calls Try.prog 11 #[PT b] w fun e w' => e = .returned (.tuple #[.int .i64 (pickV S), .bool (someB S)]) ∧ RqE w w' b F (pickS S) (N + 1) := by
  have HS : Hid (RqE w w b F S (N + 1)) := hid ⟨F, h.mono (Nat.le_succ N), Touch.refl _ _, Nf.refl _ _⟩
  obtain ⟨v, u, m, t, rfl, h1, hv⟩ := h
  have HL := hid (len_ h1)
  have l1 := hv.l1
  by_cases hne : S.ln = []
  · obtain ⟨e1, e2, e3⟩ := some_no hne
    rw [e1, e2, e3]
    rw [hne] at HL
    clear h1 hv e1 e2 e3 hne l1
    unfold PT at *
    go_enter Try.func11, Try.ntmps11
    go_wp2_with (go_at_call 26; refine HL.out.mono ?_; rintro e w1 ⟨rfl, e1⟩; rw [e1]; clear e1 w1)
    exact bodyPost_ret (v := .tuple #[.int .i64 0, .bool false]) (by simp [results, Try.results11, go_sem]) rfl ⟨rfl, HS.out⟩
  · rw [some_yes hne, place_at hv hne]
    have hp := place_lt hne
    have HX := hid (next_ h1 hv (by omega) hne)
    have HC : Hid (∀ w', Touch [] w w' → ∃ g off c, u = .slice (some ⟨g, off, none⟩) S.ln.length c ∧ w'.cell? ⟨b, 3, none⟩ = some u ∧ w'.cell? ⟨g, off + (placeS S).1, none⟩ = some (.int .i64 (S.ln[(placeS S).1]'(place_lt hne)))) := hid (fun w' T => by
      have h1 := h1.keep0 T
      obtain ⟨a, c, e0, _⟩ := h1.ln.form
      subst e0
      obtain ⟨g, off, e1, _, y⟩ := h1.ln.ra.cell hp
      subst e1
      exact ⟨g, off, c, rfl, cell_at (j := 3) h1.hb rfl, y⟩)
    have HT := hid (fun w' (T : Touch [] w w') => take_ (h1.keep0 T) hv (placeS S).1 hp)
    have HF := hid (fun w1 w2 u2 => @pick_fin w b N S v u t m hv hne w1 w2 u2)
    have hz : ((S.ln.length : Int) == 0) = false := by simp; exact hne
    have HTL : Hid (S.tl.length + 1 ≤ 17592186044416) := hid (by have := hv.t1; omega)
    unfold TkE at HT
    generalize S.ln[(placeS S).1]'(place_lt hne) = x at *
    generalize (placeS S).1 = i at *
    generalize (placeS S).2 = s2 at *
    generalize pickS S = S5 at *
    generalize S.ln.length = n at *
    have zi : (i : Int) < (n : Int) := by omega
    clear h1 hv l1 hp hne HS
    unfold PT at *
    go_enter Try.func11, Try.ntmps11
    go_upto_region 6 with (first
      | (go_at_call 26; refine HL.out.mono ?_; rintro e w1 ⟨rfl, e1⟩; rw [e1]; clear e1 w1)
      | (go_at_call 28; refine HX.out.mono ?_; rintro e w1 ⟨rfl, t1⟩; obtain ⟨g, off, c, rfl, y1, y2⟩ := HC.out _ t1; have T1 := hid t1; clear t1)
      | (go_at_call 29; refine (HT.out _ T1.out).mono ?_; rintro e w2 ⟨rfl, u2, q1, q2, q3⟩; obtain ⟨a2, c2, e2, ⟨x1, x2⟩, q4⟩ := HF.out _ _ _ T1.out q1 q2 q3; have Q4 := hid q4; clear q1 q2 q3 q4 y1 y2))
    subst e2
    obtain ⟨W3, hW3⟩ : ∃ W3, W3 = w2.setCell ⟨b, 1, none⟩ (.int .u64 (s2 : Int)) := ⟨_, rfl⟩
    obtain ⟨y5, q5, q6⟩ := Q4.out W3 hW3
    have Q5 := hid q5
    have Q6 := hid q6
    clear q5 q6 Q4 HF HT HC HX HL
    go_upto_region 7 with fail
    rw [← hW3]
    clear hW3 x1 x2
    go_wp2_with (at_builtin; refine wpList_append_ow rfl _ _ rfl 0 _ S.tl rfl (Q5.out _) _ [(i : Int)] rfl (ra_new _ _) (by have := HTL.out; simpa using this) (Nat.zero_le _) ?_; intro v5 w5 o5 t5 e5; obtain ⟨y6, y7, q7⟩ := Q6.out _ _ _ o5 t5 e5; obtain ⟨a5, c5, e6, _⟩ := o5.form; subst e6; have Q7 := hid q7; clear o5 t5 e5 q7)
    exact bodyPost_ret (v := .tuple #[.int .i64 x, .bool true]) (by simp [results, Try.results11, go_sem]) rfl ⟨rfl, (by have := Q7.out; rwa [List.length_append, List.length_singleton] at this)⟩
set_option maxHeartbeats 2000000 in
theorem rest_ (h : Rq w b F S N) (x : Int) (hx : W64 x) : Calls Try.prog 14 #[PT b, .int .i64 x] w fun e w' => e = .returned (.bool (decide (x ∈ S.ln))) ∧ RqE w w' b F (restS S x) N := by
  have HS : Hid (∀ w', Touch [] w w' → RqE w w' b F S N) := hid (fun w' T => ⟨F, h.keep0 T, T.mono (fun _ e => by cases e), Nf.refl _ _⟩)
  obtain ⟨v, u, m, t, rfl, h1, hv⟩ := h
  have HH := hid (has_ h1 x hx)
  by_cases hi : x ∈ S.ln
  · have e1 : restS S x = outS S (S.ln.idxOf x) := by unfold restS; rw [if_pos hi]
    have e2 : idxI S.ln x = (S.ln.idxOf x : Int) := by unfold idxI; rw [if_pos hi]
    rw [e1]
    rw [show decide (x ∈ S.ln) = true by simp [hi]] at HH ⊢
    have HI := hid (fun w' (T : Touch [] w w') => index_ w' u S.ln x (h1.ln.ra.keep0 T) hv.l1)
    rw [e2] at HI
    have HT := hid (fun w' (T : Touch [] w w') => take_ (h1.keep0 T) hv (S.ln.idxOf x) (idx_lt hi))
    have HF : Hid (∀ w1 w2 u2, Touch [] w w1 → Rm w2 b v u2 m t (outS S (S.ln.idxOf x)) → Touch (fpR b v u m t) w1 w2 → u2.ownBlock = u.ownBlock → RqE w w2 b (fpR b v u m t) (outS S (S.ln.idxOf x)) N) := hid (fun w1 w2 u2 t1 q1 q2 q3 => ⟨fpR b v u2 m t, ⟨v, u2, m, t, rfl, q1, hv.out _⟩, (t1.mono (fun _ e => by cases e)).trans q2 (fun q hq => Or.inl hq), fun q hq => Or.inl (by rw [fpR_u q3] at hq; exact hq)⟩)
    obtain ⟨a, c, e0, _⟩ := h1.ln.form
    have hb := hid h1.hb
    subst e0
    have g3 : Hid (∀ w', Touch [] w w' → w'.cell? ⟨b, 3, none⟩ = some (.slice a S.ln.length c)) := hid (fun w' T => cell_at (j := 3) (T.keep hb.out (by simp)) rfl)
    unfold TkE at HT
    generalize S.ln.idxOf x = i at *
    generalize S.ln.length = n at *
    clear h1 hv e1 e2 hi HS hb
    unfold PT at *
    go_enter Try.func14, Try.ntmps14
    go_wp2_with (first
      | (go_at_call 24; refine HH.out.mono ?_; rintro e w1 ⟨rfl, t1⟩; have y3 := g3.out _ t1; have T1 := hid t1; clear t1)
      | (go_at_call 32; refine (HI.out _ T1.out).mono ?_; rintro e w2 ⟨rfl, e2⟩; rw [e2]; clear e2 w2)
      | (go_at_call 29; refine (HT.out _ T1.out).mono ?_; rintro e w2 ⟨rfl, u2, q1, q2, q3⟩; have Q4 := hid (HF.out _ _ _ T1.out q1 q2 q3); clear q1 q2 q3))
    go_ret
    exact ⟨rfl, Q4.out⟩
  · have e1 : restS S x = S := by unfold restS; rw [if_neg hi]
    rw [e1]
    rw [show decide (x ∈ S.ln) = false by simp [hi]] at HH ⊢
    clear h1 hv e1 hi
    unfold PT at *
    go_enter Try.func14, Try.ntmps14
    go_wp2_with (go_at_call 24; refine HH.out.mono ?_; rintro e w1 ⟨rfl, t1⟩; have T1 := hid t1; clear t1)
    go_ret
    exact ⟨rfl, HS.out _ T1.out⟩
/-- One more in the map. -/
theorem Mp.put {w : World} {d : Nat} {l : List Int} (h : MapK KI w d l.length (kmap l)) {x : Int} (hx : W64 x) (hn : ¬ x ∈ l) (hl : l.length ≤ 65536) : ∃ ob, (Instr.mapUpdate 57 (.map (some d)) (.int .i64 x) (.agg #[])).run Try.prog w = .ok () (setBlock w d ob) ∧ Mp (setBlock w d ob) (some d) (l ++ [x]) := by
  obtain ⟨ob, hr, h2⟩ := h.set Try.underlying57 (by unfold maxLen; omega) (k := x) hx (.agg #[])
  refine ⟨ob, hr, Or.inr ⟨d, rfl, ?_⟩⟩
  have e1 : (kmap l x).isSome = false := by unfold kmap; rw [if_neg hn]; rfl
  rw [e1] at h2
  have h3 := h2.congr (g := kmap (l ++ [x])) (fun k hk => by
    unfold kupd kmap
    by_cases hk2 : k = x
    · rw [if_pos hk2, if_pos (by rw [hk2]; simp)]
    · rw [if_neg hk2]
      by_cases hk3 : k ∈ l
      · rw [if_pos hk3, if_pos (by simp [hk3])]
      · rw [if_neg hk3, if_neg (by simp [hk2, hk3])])
  simpa using h3
/-- One more in the line: the row is put into its place. -/
theorem wake_fin {v u t : Value} {m : Option Nat} (h1 : Rm w b v u m t S) (hv : Iv S N) {x : Int} (hx : W64 x) (h0 : wakeE S x = 0) {w2 : World} {d : Nat} (hd : m = some d ∨ (m = none ∧ w.heap.size ≤ d)) (t2 : Touch [b, d] w w2) (hb2 : w2.heap[b]? = some (.cells (rc S v u (some d) t) 59 (0, 0))) (hm2 : Mp w2 (some d) (S.ln ++ [x])) :
    ∃ a c, u = .slice a S.ln.length c ∧ w2.cell? ⟨b, 3, none⟩ = some u ∧ (∀ ob, Ow (w2.alloc ob) 0 u S.ln) ∧ ∀ ob W5 u5, Ow W5 0 u5 (S.ln ++ [x]) → Touch u.ownBlock.toList (w2.alloc ob) W5 → (u5.ownBlock = u.ownBlock ∨ u5.ownBlock = some (w2.alloc ob).heap.size) →
        W5.cell? ⟨b, 3, none⟩ = some u ∧ (∀ j, W5.frozen? ⟨b, j, none⟩ = false) ∧ RqE w (W5.setCell ⟨b, 3, none⟩ u5) b (fpR b v u m t) (wakeS S x) N := by
  obtain ⟨a, c, e, _⟩ := h1.ln.form
  have hall := h1.all
  have nd : ∀ y ys, Ow w 0 y ys → y.ownBlock ≠ some b → ∀ q, y.ownBlock = some q → ¬ q ∈ [b, d] := fun y ys hy hyb q hq e => by
    simp only [List.mem_cons, List.not_mem_nil, or_false] at e
    rcases e with e | e
    · rw [e] at hq; exact hyb hq
    · rcases hd with r | ⟨_, r⟩
      · exact ow_nm hy h1.mp q hq (by rw [e]; exact r)
      · have := (hy.lt hq).2; omega
  have k2 : ∀ y ys, Ow w 0 y ys → y.ownBlock ≠ some b → Ow w2 0 y ys := fun y ys hy hyb => hy.keep t2 (nd y ys hy hyb)
  refine ⟨a, c, e, cell_at (j := 3) hb2 rfl, fun ob => (k2 u _ h1.ln h1.ub).keep0 ((Touch.refl [] _).alloc ob), fun ob W5 u5 q1 q2 q3 => ?_⟩
  have ta : Touch [] w2 (w2.alloc ob) := (Touch.refl [] _).alloc ob
  have hb5 := q2.keep (ta.keep hb2 (by simp)) (by intro e; simp at e; exact h1.ub e)
  have hsz : (w2.alloc ob).heap.size = w2.heap.size + 1 := by simp
  have hz2 := t2.size
  have TB : Touch [b] W5 (W5.setCell ⟨b, 3, none⟩ u5) := (Touch.refl _ _).setCell (Or.inl (by simp)) _
  have ne5 : ∀ q, u5.ownBlock = some q → u.ownBlock = some q ∨ w2.heap.size < q := fun q hq => by
    rcases q3 with e | e
    · exact Or.inl (by rw [← e]; exact hq)
    · rw [e, hsz] at hq; cases hq; exact Or.inr (by omega)
  have n5 : ∀ q, q < w2.heap.size → u.ownBlock ≠ some q → u5.ownBlock ≠ some q := fun q hq hn e => by
    rcases ne5 q e with r | r
    · exact hn r
    · omega
  have hbl : b < w2.heap.size := block_lt hb2
  have k5 : ∀ y ys, Ow w 0 y ys → y.ownBlock ≠ some b → (∀ q, y.ownBlock = some q → u.ownBlock ≠ some q) → Ow (W5.setCell ⟨b, 3, none⟩ u5) 0 y ys := fun y ys hy hyb hyu => by
    refine (((k2 y ys hy hyb).keep0 ta).keep q2 ?_).keep TB ?_
    · intro q hq e; simp at e; exact hyu q hq e
    · intro q hq e; simp only [List.mem_singleton] at e; rw [e] at hq; exact hyb hq
  have hlt2 : ∀ y ys, Ow w 0 y ys → ∀ q, y.ownBlock = some q → q < w2.heap.size := fun y ys hy q hq => by have := (hy.lt hq).2; omega
  have ew : wakeS S x = { S with ln := S.ln ++ [x] } := by unfold wakeS; rw [if_pos h0]
  have hiv := hv.wake (n := x) hx
  rw [ew] at hiv ⊢
  have hum2 : ∀ q, u.ownBlock = some q → (some d : Option Nat) ≠ some q := fun q hq e => nd u _ h1.ln h1.ub q hq (by cases e; simp)
  refine ⟨cell_at (j := 3) hb5 rfl, froz_at hb5, fpR b v u5 (some d) t, ⟨v, u5, some d, t, rfl, ⟨?_, k5 v _ h1.pk h1.vb h1.vu, q1.keep TB ?_, ((hm2.keep ta (fun _ _ e => by cases e)).keep q2 ?_).keep TB ?_, k5 t _ h1.tl h1.tb (fun q hq e => h1.ut q e hq), fun q hq => n5 q (hlt2 v _ h1.pk q hq) (h1.vu q hq), h1.vt, fun q hq e => n5 q (hlt2 t _ h1.tl q e) (fun e2 => h1.ut q e2 e) hq⟩, hiv⟩, ?_, fun q hq => ?_⟩
  · have := bset (i := 3) hb5 u5
    simpa [rc] using this
  · intro q hq e; simp only [List.mem_singleton] at e; rw [e] at hq; exact n5 b hbl h1.ub hq
  · intro q hq e; simp at e; exact hum2 q e hq
  · intro q hq e; simp only [List.mem_singleton] at e; rw [e] at hq; exact mp_ne hm2 hb2 hq
  · have x1 : Touch (fpR b v u m t) w w2 := t2.trans (Touch.refl [] _) (fun _ e => by cases e) |> fun T => ⟨T.os, T.tape, T.output, T.size, fun k hk hn => T.block k hk (fun e => by
      simp only [List.mem_cons, List.not_mem_nil, or_false] at e
      rcases e with e | e
      · exact hn (mem_fpR.2 (Or.inl e))
      · rcases hd with r | ⟨_, r⟩
        · exact hn (mem_fpR.2 (Or.inr (Or.inr (Or.inr (Or.inl (by rw [e]; exact r))))))
        · omega)⟩
    exact ((x1.trans' (ta.mono (fun _ e => by cases e))).trans q2 (fun q hq => Or.inl (mem_fpR.2 (Or.inr (Or.inr (Or.inl (by simpa using hq))))))).trans TB (fun q hq => Or.inl (mem_fpR.2 (Or.inl (by simpa using hq))))
  · rcases mem_fpR.1 hq with e | e | e | e | e
    · exact Or.inl (mem_fpR.2 (Or.inl e))
    · exact Or.inl (mem_fpR.2 (Or.inr (Or.inl e)))
    · rcases ne5 q e with r | r
      · exact Or.inl (mem_fpR.2 (Or.inr (Or.inr (Or.inl r))))
      · exact Or.inr (by omega)
    · cases e
      rcases hd with r | ⟨_, r⟩
      · exact Or.inl (mem_fpR.2 (Or.inr (Or.inr (Or.inr (Or.inl r)))))
      · exact Or.inr r
    · exact Or.inl (mem_fpR.2 (Or.inr (Or.inr (Or.inr (Or.inr e)))))
end
end Go.Proofs.Ythpkkfmphoopnaa.Re
