/- The contracts of Stand, Cancel and Sit; no conditions but those that each states. -/
import Derived.Test.YtlmmljmhfghlnaaVcl
namespace Go.Proofs.Ytlmmljmhfghlnaa
open Go.RowKit Go.Maps Go.ChangeMaps
set_option linter.unusedVariables false
set_option linter.unusedSimpArgs false
theorem eqMk (W : World) (m : Option Nat) : (binOp .eql 58 (.map m) (.map none)).run Try.prog W = .ok (.bool m.isNone) W := by cases m <;> kernel_rfl
theorem kmap_can {G : List Int} {t : Int} (ht : 1 ≤ t) (z : Int) : kupd (kmap G) t (.agg #[]) z = kmap (canG G t) z := by
  unfold kupd kmap canG
  rw [if_neg (by omega : ¬ t < 1)]
  by_cases e : z = t
  · subst e
    rw [if_pos rfl]
    by_cases e2 : z ∈ G
    · rw [if_pos e2, if_pos e2]
    · rw [if_neg e2, if_pos (by simp)]
  · rw [if_neg e]
    by_cases e2 : t ∈ G
    · rw [if_pos e2]
    · rw [if_neg e2]
      by_cases e3 : z ∈ G
      · rw [if_pos e3, if_pos (by simp [e3])]
      · rw [if_neg e3, if_neg (by simp [e, e3])]
theorem can_len {G : List Int} {t : Int} (ht : 1 ≤ t) : (if (kmap G t).isSome then G.length else G.length + 1) = (canG G t).length := by
  unfold kmap canG
  rw [if_neg (by omega : ¬ t < 1)]
  by_cases e : t ∈ G <;> simp [e]
section
variable {w V W : World} {s nr : Nat} {mc mr mk : Option Nat} {CH : List Chr} {G : List Int}
theorem can_made (h : Sm V s mc mr none nr CH G) : Sm ((V.setCell ⟨s, 2, none⟩ (.map (some V.heap.size))).alloc (.map #[] 0)) s mc mr (some V.heap.size) nr CH G ∧ Touch (fpS s mc mr none CH) V ((V.setCell ⟨s, 2, none⟩ (.map (some V.heap.size))).alloc (.map #[] 0)) := by
  have hlt := fun z hz => (h.own z hz).lt
  have e : G = [] := by
    rcases h.km with ⟨_, h1⟩ | ⟨b, h1, _⟩
    · exact h1
    · cases h1
  obtain ⟨V2, hV2⟩ : ∃ V2, V2 = V.setCell ⟨s, 2, none⟩ (.map (some V.heap.size)) := ⟨_, rfl⟩
  have t2 : Touch [s] V V2 := by rw [hV2]; exact Touch.set1 V s 2 _
  have hb2 : V2.heap[s]? = some (.cells (sbc mc mr (some V.heap.size)) 60 (0, 0)) := by
    have := bset (i := 2) h.hb (.map (some V.heap.size))
    rw [hV2]
    simpa [sbc] using this
  have hz : V2.heap.size = V.heap.size := by rw [hV2]; simp [World.setCell]
  rw [← hV2]
  clear hV2
  have t1 : Touch [] V2 (V2.alloc (.map #[] 0)) := (Touch.refl _ _).alloc _
  have t3 : Touch [s] V (V2.alloc (.map #[] 0)) := t2.trans t1 (fun _ e => by cases e)
  have hmap : ∀ z, (∃ es cl, V.heap[z]? = some (.map es cl)) → ¬ z ∈ [s] := fun z hz e2 => by
    obtain ⟨es, cl, hz⟩ := hz
    simp only [List.mem_singleton] at e2
    rw [e2, h.hb] at hz
    cases hz
  refine ⟨⟨t1.keep hb2 (by simp), ?_, Or.inr ⟨_, rfl, ?_⟩, fun b hb => ?_, ?_, h.nb⟩, t3.mono (fun z hz => mem_fpS.2 (Or.inl (by simpa using hz)))⟩
  · rcases h.cm with h1 | ⟨b, d, h1, h2, h3, h4, h5⟩
    · exact Or.inl h1
    · exact Or.inr ⟨b, d, h1, h2, h3, h4.keep t3 (hmap b h4.kind), h5.keep t3 (hmap d h5.kind)⟩
  · have := mapK_made KI V2
    rw [hz] at this
    rw [e]
    exact this.congr (fun _ _ => rfl)
  · cases hb
    refine ⟨fun e2 => ?_, fun e2 => ?_⟩
    · have := hlt V.heap.size (mem_fpS.2 (Or.inr (Or.inl e2))); omega
    · have := hlt V.heap.size (mem_fpS.2 (Or.inr (Or.inr (Or.inl e2)))); omega
  · obtain ⟨A, B, h1, h2⟩ := h.lk
    refine ⟨A, B, h1.keep t3 (fun p hp e2 => ?_), h2⟩
    simp only [List.mem_singleton] at e2
    have := h1 p hp
    rw [e2, h.hb] at this
    simp at this
theorem can_set {b : Nat} (h : Sm W s mc mr (some b) nr CH G) {t : Int} (ht : W64 t) (h1 : 1 ≤ t) (hl : G.length < maxLen) : ∃ o, (Instr.mapUpdate 58 (.map (some b)) (.int .i64 t) (.agg #[])).run Try.prog W = .ok () (setBlock W b o) ∧ Sm (setBlock W b o) s mc mr (some b) nr CH (canG G t) ∧ Touch (fpS s mc mr (some b) CH) W (setBlock W b o) := by
  obtain ⟨mb⟩ : Nonempty (PLift (MapK KI W b G.length (kmap G))) := by
    rcases h.km with ⟨e, _⟩ | ⟨b', e, h2⟩
    · cases e
    · cases e; exact ⟨⟨h2⟩⟩
  have mb := mb.down
  obtain ⟨o, o1, o2⟩ := mb.set (t := 58) Try.underlying58 hl (k := t) ht (.agg #[])
  have tb : Touch [b] W (setBlock W b o) := touch_setBlock (Touch.refl _ _) (Or.inl (by simp)) o
  have hsb : s ≠ b := fun e => by
    obtain ⟨es, cl, h3⟩ := mb.kind
    have := h.hb; rw [e, h3] at this; cases this
  rw [can_len h1] at o2
  refine ⟨o, o1, ⟨tb.keep h.hb (by simpa using hsb), ?_, Or.inr ⟨b, rfl, o2.congr (fun z _ => kmap_can h1 z)⟩, h.kc, ?_, h.nb⟩, tb.mono (fun z hz => mem_fpS.2 (Or.inr (Or.inr (Or.inr (Or.inl (by simp at hz; rw [hz]))))))⟩
  · rcases h.cm with h2 | ⟨b', d, h2, h3, h4, h5, h6⟩
    · exact Or.inl h2
    · exact Or.inr ⟨b', d, h2, h3, h4, h5.keep tb (by simp; exact fun e => (h.kc b rfl).1 (by rw [h2, e])), h6.keep tb (by simp; exact fun e => (h.kc b rfl).2 (by rw [h3, e]))⟩
  · obtain ⟨A, B, h2, h3⟩ := h.lk
    refine ⟨A, B, h2.keep tb (fun p hp e2 => ?_), h3⟩
    simp only [List.mem_singleton] at e2
    obtain ⟨es, cl, h5⟩ := mb.kind
    have := h2 p hp
    rw [e2, h5] at this
    cases this
end
section
variable {w : World} {s N : Nat} {F : List Nat} {L : List Se} {G : List Int}
/-- The token is cancelled; its seats are yet to go. -/
theorem can_mid {W : World} {mc mr mk : Option Nat} {nr : Nat} {CH : List Chr} {b : Nat} {t : Int} (hs : Sm W s mc mr (some b) nr CH (canG G t)) (hv : Iv (CH.map Prod.snd) G N) (hn : nr ≤ 3 * N) (ht : W64 t) (T : Touch (fpS s mc mr mk CH) w W) (hb : mk = some b ∨ w.heap.size ≤ b) : SqE w W s (fpS s mc mr mk CH) (CH.map Prod.snd) (canG G t) (N + 1) := by
  refine ⟨_, ⟨mc, mr, some b, nr, CH, rfl, rfl, hs, hv.canG ht, by omega⟩, T, fun z hz => ?_⟩
  rcases mem_fpS.1 hz with e | e | e | e | e
  · exact Or.inl (mem_fpS.2 (Or.inl e))
  · exact Or.inl (mem_fpS.2 (Or.inr (Or.inl e)))
  · exact Or.inl (mem_fpS.2 (Or.inr (Or.inr (Or.inl e))))
  · rcases hb with e2 | e2
    · exact Or.inl (mem_fpS.2 (Or.inr (Or.inr (Or.inr (Or.inl (by rw [e2]; exact e))))))
    · cases e; exact Or.inr e2
  · exact Or.inl (mem_fpS.2 (Or.inr (Or.inr (Or.inr (Or.inr e)))))
theorem can_end {W : World} {t : Int} (ht : W64 t) (h1 : 1 ≤ t) (hN : N ≤ 4400000000000) (h : SqE w W s F L (canG G t) (N + 1)) : Calls Try.prog 36 #[PT s, .agg #[.int .i64 2, .int .i64 t]] W fun e w' => ClE e w w' s F (canL L t) (canG G t) (N + 1) (canA L t) := by
  obtain ⟨F', q1, q2, q3⟩ := h
  refine (clear_ q1 (k := 2) (by omega) (by omega) ht (by omega)).mono ?_
  rintro e w' ⟨a, c, rfl, r, h4⟩
  have e1 : canL L t = outL 2 t L := by unfold canL; rw [if_neg (by omega)]
  have e2 : canA L t = inL 2 t L := by unfold canA; rw [if_neg (by omega)]
  rw [e1, e2]
  exact ⟨a, c, rfl, own_base r q2.size, SqE.trans q2 q3 h4⟩
set_option maxHeartbeats 4000000 in
set_option maxRecDepth 100000 in
theorem cancel_ (h : Sq w s F L G N) {t : Int} (ht : W64 t) (hN : N ≤ 4400000000000) : Calls Try.prog 24 #[PT s, .int .i64 t] w fun e w' => ClE e w w' s F (canL L t) (canG G t) (N + 1) (canA L t) := by
  by_cases h1 : t < 1
  · have HZ : Hid (ClE (.returned (.slice none 0 0)) w w s F (canL L t) (canG G t) (N + 1) (canA L t)) := hid (by
      have e1 : canL L t = L := by unfold canL; rw [if_pos h1]
      have e2 : canA L t = [] := by unfold canA; rw [if_pos h1]
      have e3 : canG G t = G := by unfold canG; rw [if_pos h1]
      rw [e1, e2, e3]
      exact ⟨none, 0, rfl, World.ownsRow_nil _ _ _ _, SqE.same h (Nat.le_succ _) (Touch.refl _ _)⟩)
    clear h
    unfold PT
    go_enter Try.func24, Try.ntmps24
    go_wp2
    go_ret
    exact HZ.out
  · have h1' : 1 ≤ t := by omega
    obtain ⟨mc, mr, mk, nr, CH, rfl, rfl, hs, hv, hn⟩ := h
    have hlg : G.length < maxLen := by have := hv.lg; unfold maxLen; omega
    obtain ⟨c0, c1, c2, ff⟩ := hs.cell
    have hsl := block_lt hs.hb
    have qm := eqMk
    have hmm := @run_makeMap Try.prog
    cases mk with
    | none =>
      obtain ⟨m1, m2⟩ := can_made hs
      obtain ⟨W, hW⟩ : ∃ W, W = (w.setCell ⟨s, 2, none⟩ (.map (some w.heap.size))).alloc (.map #[] 0) := ⟨_, rfl⟩
      rw [← hW] at m1 m2
      obtain ⟨b, hb⟩ : ∃ b, b = w.heap.size := ⟨_, rfl⟩
      have HB : Hid (w.heap.size ≤ b) := hid (by omega)
      rw [← hb] at m1 hW
      obtain ⟨o, o1, o2, o3⟩ := can_set m1 ht h1' hlg
      have HC := hid (can_end ht h1' hN (can_mid o2 hv hn ht (m2.trans o3 (fun z hz => by
        rcases mem_fpS.1 hz with e | e | e | e | e
        · exact Or.inl (mem_fpS.2 (Or.inl e))
        · exact Or.inl (mem_fpS.2 (Or.inr (Or.inl e)))
        · exact Or.inl (mem_fpS.2 (Or.inr (Or.inr (Or.inl e))))
        · cases e; exact Or.inr (by omega)
        · exact Or.inl (mem_fpS.2 (Or.inr (Or.inr (Or.inr (Or.inr e))))))) (Or.inr HB.out)))
      have w2 := m1.cell.2.2.1
      clear hs hv hn m1 m2 o2 o3 hlg
      unfold PT at *
      go_enter Try.func24, Try.ntmps24
      go_upto_region 5 with fail
      rw [← hb, ← hW]
      clear hb hW c0 c1 c2 ff hsl qm hmm
      go_wp2_with (go_at_call 36; refine HC.out.mono ?_; rintro e w2 ⟨a2, c2', rfl, r2, t2⟩; have RR := hid (And.intro r2 t2); clear r2 t2)
      go_ret
      exact ⟨a2, c2', rfl, RR.out.1, RR.out.2⟩
    | some b =>
      obtain ⟨o, o1, o2, o3⟩ := can_set hs ht h1' hlg
      have HC := hid (can_end ht h1' hN (can_mid (mk := some b) o2 hv hn ht o3 (Or.inl rfl)))
      clear hs hv hn o2 o3 hlg
      unfold PT at *
      go_enter Try.func24, Try.ntmps24
      go_wp2_with (go_at_call 36; refine HC.out.mono ?_; rintro e w2 ⟨a2, c2', rfl, r2, t2⟩; have RR := hid (And.intro r2 t2); clear r2 t2)
      go_ret
      exact ⟨a2, c2', rfl, RR.out.1, RR.out.2⟩
theorem standQ (h : Sq w s F L G N) {c : Int} (hc : W64 c) (hN : N ≤ 4400000000000) : Calls Try.prog 21 #[PT s, .int .i64 c] w fun e w' => e = .returned (.tuple #[sv ((whr L c).getD zs), .bool (whr L c).isSome]) ∧ SqE w w' s F (outL 0 c L) G N := by
  obtain ⟨V, hV⟩ : ∃ V, V = w.alloc (.cells #[.int .i64 0, .int .i64 0, .int .i64 0] 33) := ⟨_, rfl⟩
  have tv : Touch [] w V := by rw [hV]; exact (Touch.refl _ _).alloc _
  have hvb : V.heap[w.heap.size]? = some (.cells #[.int .i64 0, .int .i64 0, .int .i64 0] 33 (0, 0)) := by rw [hV]; exact heap_alloc_new w _
  have h1 := h.keep0 tv
  have HW := hid (whereQ h1 hc)
  have hF : ∀ z, z ∈ F → Own1 V z := h1.own
  have hF0 : ∀ z, z ∈ F → z < w.heap.size := h.lt
  have HVB : Hid (∀ w', Touch F V w' → w'.heap[w.heap.size]? = some (.cells #[.int .i64 0, .int .i64 0, .int .i64 0] 33 (0, 0))) := hid (fun w' t => t.keep hvb (fun e => (hF _ e).ne hvb (by decide) (by decide) rfl))
  have hlt := block_lt hvb
  rcases hw : whr L c with _ | x
  · rw [hw] at HW
    have HE : Hid (∀ w' w2, Touch [] V w' → Touch [w.heap.size] w' w2 → SqE w w2 s F (outL 0 c L) G N) := hid (fun w' w2 t t2 => by
      rw [out_none (whr_none.1 (by rw [hw]; rfl))]
      exact SqE.box tv (SqE.same h1 (Nat.le_refl _) t) hF0 (Nat.le_refl _) hlt t2)
    clear h h1 hc hw
    simp only [Option.getD_none, Option.isSome_none] at HW ⊢
    unfold PT sv zs at *
    go_enter Try.func21, Try.ntmps21
    go_upto_region 1 with fail
    rw [← hV]
    clear hV
    go_upto_region 2 with (go_at_call 8; refine HW.out.mono ?_; rintro e w2 ⟨rfl, t2⟩; have T2 := hid t2; clear t2)
    obtain ⟨V3, hV3⟩ : ∃ V3, V3 = w2.alloc (.cells #[.int .i64 0, .int .i64 0, .int .i64 0] 33) := ⟨_, rfl⟩
    have tv3 : Touch [] V V3 := by rw [hV3]; exact T2.out.alloc _
    have hb3 : V3.heap[w2.heap.size]? = some (.cells #[.int .i64 0, .int .i64 0, .int .i64 0] 33 (0, 0)) := by rw [hV3]; exact heap_alloc_new w2 _
    rw [← hV3]
    have y0 := cell_at (j := 0) hb3 rfl
    have y1 := cell_at (j := 1) hb3 rfl
    have y2 := cell_at (j := 2) hb3 rfl
    have hb0 := HVB.out V3 (tv3.mono (fun _ e => by cases e))
    have v0 := cell_at (j := 0) hb0 rfl
    have v1 := cell_at (j := 1) hb0 rfl
    have v2 := cell_at (j := 2) hb0 rfl
    have vf := froz_at hb0
    have HT3 := hid tv3
    clear hV3 hb3 hb0 tv3 T2 HVB tv hvb hF hF0 hlt
    go_wp2
    refine bodyPost_ret (v := .tuple #[.agg #[.int .i64 0, .int .i64 0, .int .i64 0], .bool false]) (by simp [results, Try.results21, go_sem, v0, v1, v2]) rfl ⟨rfl, HE.out _ _ HT3.out ?_⟩
    exact (((Touch.refl _ _).setCell (Or.inl (by simp)) _).setCell (Or.inl (by simp)) _).setCell (Or.inl (by simp)) _
  · rw [hw] at HW
    obtain ⟨hx, hxc⟩ := whr_mem hw
    have HT : Hid (∀ w', Touch [] V w' → Calls Try.prog 34 #[PT s, sv x] w' fun e w2 => e = .returned (.tuple #[]) ∧ Touch F w' w2 ∧ ∀ w3, Touch [w.heap.size] w2 w3 → SqE w w3 s F (outL 0 c L) G N) := hid (fun w' t => by
      refine (takeQ (h1.keep0 t) hx (by omega)).mono ?_
      rintro e w2 ⟨rfl, q⟩
      rw [hxc] at q
      refine ⟨rfl, ?_, fun w3 t3 => SqE.box tv (SqE.from0 t q) hF0 (Nat.le_refl _) hlt t3⟩
      obtain ⟨F2, _, q2, _⟩ := q
      exact q2)
    clear h h1 hc hw hx hxc
    simp only [Option.getD_some, Option.isSome_some] at HW ⊢
    unfold PT sv at *
    go_enter Try.func21, Try.ntmps21
    go_upto_region 1 with fail
    rw [← hV]
    clear hV
    go_upto_region 2 with (go_at_call 8; refine HW.out.mono ?_; rintro e w2 ⟨rfl, t2⟩; have T2 := hid t2; clear t2)
    obtain ⟨V3, hV3⟩ : ∃ V3, V3 = w2.alloc (.cells #[.int .i64 x.1, .int .i64 x.2.1, .int .i64 x.2.2] 33) := ⟨_, rfl⟩
    have tv3 : Touch [] V V3 := by rw [hV3]; exact T2.out.alloc _
    have hb3 : V3.heap[w2.heap.size]? = some (.cells #[.int .i64 x.1, .int .i64 x.2.1, .int .i64 x.2.2] 33 (0, 0)) := by rw [hV3]; exact heap_alloc_new w2 _
    rw [← hV3]
    have y0 := cell_at (j := 0) (v := .int .i64 x.1) hb3 rfl
    have y1 := cell_at (j := 1) (v := .int .i64 x.2.1) hb3 rfl
    have y2 := cell_at (j := 2) (v := .int .i64 x.2.2) hb3 rfl
    have HBK : Hid (∀ w', Touch F V3 w' → w'.heap[w.heap.size]? = some (.cells #[.int .i64 0, .int .i64 0, .int .i64 0] 33 (0, 0)) ∧ w'.heap[w2.heap.size]? = some (.cells #[.int .i64 x.1, .int .i64 x.2.1, .int .i64 x.2.2] 33 (0, 0))) := hid (fun w' t => by
      refine ⟨HVB.out w' ((tv3.mono (fun _ e => by cases e)).trans' t), t.keep hb3 (fun e => ?_)⟩
      have := hF0 _ e
      have := T2.out.size
      omega)
    have HCT := hid (HT.out V3 tv3)
    clear hV3 hb3 tv3 T2 HVB HT tv hvb hF hF0 hlt
    go_upto_region 4 with (go_at_call 34; refine HCT.out.mono ?_; rintro e w4 ⟨rfl, t4, q4⟩; have T4 := hid t4; have Q4 := hid q4; clear t4 q4 y0 y1 y2)
    obtain ⟨hb0, hb3⟩ := HBK.out w4 T4.out
    have v0 := cell_at (j := 0) hb0 rfl
    have v1 := cell_at (j := 1) hb0 rfl
    have v2 := cell_at (j := 2) hb0 rfl
    have vf := froz_at hb0
    have y0 := cell_at (j := 0) (v := .int .i64 x.1) hb3 rfl
    have y1 := cell_at (j := 1) (v := .int .i64 x.2.1) hb3 rfl
    have y2 := cell_at (j := 2) (v := .int .i64 x.2.2) hb3 rfl
    clear hb0 hb3 HBK HCT T4
    go_wp2
    refine bodyPost_ret (v := .tuple #[.agg #[.int .i64 x.1, .int .i64 x.2.1, .int .i64 x.2.2], .bool true]) (by simp [results, Try.results21, go_sem, v0, v1, v2]) rfl ⟨rfl, Q4.out _ ?_⟩
    exact (((Touch.refl _ _).setCell (Or.inl (by simp)) _).setCell (Or.inl (by simp)) _).setCell (Or.inl (by simp)) _
end
end Go.Proofs.Ytlmmljmhfghlnaa
