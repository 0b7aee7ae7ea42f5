/- The contracts of Stand, Cancel and Sit; no conditions but those that each states. -/
import Derived.Test.YtkfophlhpjbmgaaGreatQo08
import Derived.Test.YtkfophlhpjbmgaaGreatQo05
import Derived.Test.YtkfophlhpjbmgaaGreatQo06
import Derived.Test.YtkfophlhpjbmgaaGreatQo07
import Derived.Test.YtkfophlhpjbmgaaGreatQo01
import Derived.Test.YtkfophlhpjbmgaaGreatQo04
set_option linter.unusedVariables false
set_option linter.unusedSimpArgs false
set_option maxRecDepth 100000
namespace Go.Proofs.YtkfophlhpjbmgaaGreat.Lv
open Go.RowKit Go.Maps Go.ChangeMaps
theorem eqMk (W : World) (m : Option Nat) : (binOp .eql 195 (.map m) (.map none)).run Tryz.prog W = .ok (.bool m.isNone) W := by cases m <;> kernel_rfl
theorem kmap_can {G : List Int} {t : Int} (ht : 1 ≤ t) (z : Int) : kupd (kmap G) t (.agg #[]) z = kmap (canG G t) z := by
 unfold kupd kmap canG
 rw [if_neg (by omega : ¬ t < 1)]
 by_cases e : z = t
 ·subst e
  rw [if_pos rfl]
  by_cases e2 : z ∈ G
  ·rw [if_pos e2, if_pos e2]
  ·rw [if_neg e2, if_pos (by simp)]
 ·rw [if_neg e]
  by_cases e2 : t ∈ G
  ·rw [if_pos e2]
  ·rw [if_neg e2]
   by_cases e3 : z ∈ G
   ·rw [if_pos e3, if_pos (by simp [e3])]
   ·rw [if_neg e3, if_neg (by simp [e, e3])]
theorem can_len {G : List Int} {t : Int} (ht : 1 ≤ t) : (if (kmap G t).isSome then G.length else G.length + 1) = (canG G t).length := by
 unfold kmap canG
 rw [if_neg (by omega : ¬ t < 1)]
 by_cases e : t ∈ G <;> simp [e]
section
variable {w V W : World} {s nr : Nat} {mc mr mk : Option Nat} {CH : List Chr} {G : List Int}
theorem can_made (h : Sm V s mc mr none nr CH G) : Sm ((V.setCell ⟨s, 2, none⟩ (.map (some V.heap.size))).alloc (.map #[] 0)) s mc mr (some V.heap.size) nr CH G ∧ Touch (fpS s mc mr none CH) V ((V.setCell ⟨s, 2, none⟩ (.map (some V.heap.size))).alloc (.map #[] 0)) := by
 have hlt := fun z hz => (h.own z hz).lt
 have e : G = [] := by
  rcases h.km with ⟨_, h1⟩ | ⟨b, h1, _⟩
  ·exact h1
  ·cases h1
 obtain ⟨V2, hV2⟩ : ∃ V2, V2 = V.setCell ⟨s, 2, none⟩ (.map (some V.heap.size)) := ⟨_, rfl⟩
 have t2 : Touch [s] V V2 := by rw [hV2]; exact Touch.set1 V s 2 _
 have hb2 : V2.heap[s]? = some (.cells (sbc mc mr (some V.heap.size)) 197 (0, 0)) := by
  have := bset (i := 2) h.hb (.map (some V.heap.size))
  rw [hV2]
  simpa [sbc] using this
 have hz : V2.heap.size = V.heap.size := by rw [hV2]; simp [World.setCell]
 rw [← hV2]
 clear hV2
 have t1 : Touch [] V2 (V2.alloc (.map #[] 0)) := (Touch.refl _ _).alloc _
 have t3 : Touch [s] V (V2.alloc (.map #[] 0)) := t2.trans t1 (fun _ e => by cases e)
 have hmap : ∀ z, (∃ es cl, V.heap[z]? = some (.map es cl)) → ¬ z ∈ [s] := fun z hz e2 => by
  obtain ⟨es, cl, hz⟩ := hz
  simp only [List.mem_singleton] at e2
  rw [e2, h.hb] at hz
  cases hz
 refine ⟨⟨t1.keep hb2 (by simp), ?_, Or.inr ⟨_, rfl, ?_⟩, fun b hb => ?_, ?_, h.nb⟩, t3.mono (fun z hz => mem_fpS.2 (Or.inl (by simpa using hz)))⟩
 ·rcases h.cm with h1 | ⟨b, d, h1, h2, h3, h4, h5⟩
  ·exact Or.inl h1
  ·exact Or.inr ⟨b, d, h1, h2, h3, h4.keep t3 (hmap b h4.kind), h5.keep t3 (hmap d h5.kind)⟩
 ·have := mapK_made KI V2
  rw [hz] at this
  rw [e]
  exact this.congr (fun _ _ => rfl)
 ·cases hb
  refine ⟨fun e2 => ?_, fun e2 => ?_⟩
  ·have := hlt V.heap.size (mem_fpS.2 (Or.inr (Or.inl e2))); omega
  ·have := hlt V.heap.size (mem_fpS.2 (Or.inr (Or.inr (Or.inl e2)))); omega
 ·obtain ⟨A, B, h1, h2⟩ := h.lk
  refine ⟨A, B, h1.keep t3 (fun p hp e2 => ?_), h2⟩
  simp only [List.mem_singleton] at e2
  have := h1 p hp
  rw [e2, h.hb] at this
  simp at this
theorem can_set {b : Nat} (h : Sm W s mc mr (some b) nr CH G) {t : Int} (ht : W64 t) (h1 : 1 ≤ t) (hl : G.length < maxLen) : ∃ o, (Instr.mapUpdate 195 (.map (some b)) (.int .i64 t) (.agg #[])).run Tryz.prog W = .ok () (setBlock W b o) ∧ Sm (setBlock W b o) s mc mr (some b) nr CH (canG G t) ∧ Touch (fpS s mc mr (some b) CH) W (setBlock W b o) := by
 obtain ⟨mb⟩ : Nonempty (PLift (MapK KI W b G.length (kmap G))) := by
  rcases h.km with ⟨e, _⟩ | ⟨b', e, h2⟩
  ·cases e
  ·cases e; exact ⟨⟨h2⟩⟩
 have mb := mb.down
 obtain ⟨o, o1, o2⟩ := mb.set (t := 195) Tryz.underlying195 hl (k := t) ht (.agg #[])
 have tb : Touch [b] W (setBlock W b o) := touch_setBlock (Touch.refl _ _) (Or.inl (by simp)) o
 have hsb : s ≠ b := fun e => by
  obtain ⟨es, cl, h3⟩ := mb.kind
  have := h.hb; rw [e, h3] at this; cases this
 rw [can_len h1] at o2
 refine ⟨o, o1, ⟨tb.keep h.hb (by simpa using hsb), ?_, Or.inr ⟨b, rfl, o2.congr (fun z _ => kmap_can h1 z)⟩, h.kc, ?_, h.nb⟩, tb.mono (fun z hz => mem_fpS.2 (Or.inr (Or.inr (Or.inr (Or.inl (by simp at hz; rw [hz]))))))⟩
 ·rcases h.cm with h2 | ⟨b', d, h2, h3, h4, h5, h6⟩
  ·exact Or.inl h2
  ·exact Or.inr ⟨b', d, h2, h3, h4, h5.keep tb (by simp; exact fun e => (h.kc b rfl).1 (by rw [h2, e])), h6.keep tb (by simp; exact fun e => (h.kc b rfl).2 (by rw [h3, e]))⟩
 ·obtain ⟨A, B, h2, h3⟩ := h.lk
  refine ⟨A, B, h2.keep tb (fun p hp e2 => ?_), h3⟩
  simp only [List.mem_singleton] at e2
  obtain ⟨es, cl, h5⟩ := mb.kind
  have := h2 p hp
  rw [e2, h5] at this
  cases this
end
section
variable {w : World} {s N : Nat} {F : List Nat} {L : List Se} {G : List Int}
theorem can_mid {W : World} {mc mr mk : Option Nat} {nr : Nat} {CH : List Chr} {b : Nat} {t : Int} (hs : Sm W s mc mr (some b) nr CH (canG G t)) (hv : Iv (CH.map Prod.snd) G N) (hn : nr ≤ 3 * N) (ht : W64 t) (T : Touch (fpS s mc mr mk CH) w W) (hb : mk = some b ∨ w.heap.size ≤ b) : SqE w W s (fpS s mc mr mk CH) (CH.map Prod.snd) (canG G t) (N + 1) := by
 refine ⟨_, ⟨mc, mr, some b, nr, CH, rfl, rfl, hs, hv.canG ht, by omega⟩, T, fun z hz => ?_⟩
 rcases mem_fpS.1 hz with e | e | e | e | e
 ·exact Or.inl (mem_fpS.2 (Or.inl e))
 ·exact Or.inl (mem_fpS.2 (Or.inr (Or.inl e)))
 ·exact Or.inl (mem_fpS.2 (Or.inr (Or.inr (Or.inl e))))
 ·rcases hb with e2 | e2
  ·exact Or.inl (mem_fpS.2 (Or.inr (Or.inr (Or.inr (Or.inl (by rw [e2]; exact e))))))
  ·cases e; exact Or.inr e2
 ·exact Or.inl (mem_fpS.2 (Or.inr (Or.inr (Or.inr (Or.inr e)))))
theorem can_end {W : World} {t : Int} (ht : W64 t) (h1 : 1 ≤ t) (hN : N ≤ 4400000000000) (h : SqE w W s F L (canG G t) (N + 1)) : Calls Tryz.prog 95 #[PT s, .agg #[.int .i64 2, .int .i64 t]] W fun e w' => ClE e w w' s F (canL L t) (canG G t) (N + 1) (canA L t) := by
 obtain ⟨F', q1, q2, q3⟩ := h
 refine (clear_ q1 (k := 2) (by omega) (by omega) ht (by omega)).mono ?_
 rintro e w' ⟨a, c, rfl, r, h4⟩
 have e1 : canL L t = outL 2 t L := by unfold canL; rw [if_neg (by omega)]
 have e2 : canA L t = inL 2 t L := by unfold canA; rw [if_neg (by omega)]
 rw [e1, e2]
 exact ⟨a, c, rfl, own_base r q2.size, SqE.trans q2 q3 h4⟩
set_option maxHeartbeats 4000000 in
set_option maxRecDepth 100000 in
theorem cancel_ (h : Sq w s F L G N) {t : Int} (ht : W64 t) (hN : N ≤ 4400000000000) : Calls Tryz.prog 55 #[PT s, .int .i64 t] w fun e w' => ClE e w w' s F (canL L t) (canG G t) (N + 1) (canA L t) := by
 by_cases h1 : t < 1
 ·have HZ : Hid (ClE (.returned (.slice none 0 0)) w w s F (canL L t) (canG G t) (N + 1) (canA L t)) := hid (by
   have e1 : canL L t = L := by unfold canL; rw [if_pos h1]
   have e2 : canA L t = [] := by unfold canA; rw [if_pos h1]
   have e3 : canG G t = G := by unfold canG; rw [if_pos h1]
   rw [e1, e2, e3]
   exact ⟨none, 0, rfl, World.ownsRow_nil _ _ _ _, SqE.same h (Nat.le_succ _) (Touch.refl _ _)⟩)
  clear h
  unfold PT
  go_enter Tryz.func55, Tryz.ntmps55
  go_wp2
  go_ret
  exact HZ.out
 ·have h1' : 1 ≤ t := by omega
  obtain ⟨mc, mr, mk, nr, CH, rfl, rfl, hs, hv, hn⟩ := h
  have hlg : G.length < maxLen := by have := hv.lg; unfold maxLen; omega
  obtain ⟨c0, c1, c2, ff⟩ := hs.cell
  have hsl := block_lt hs.hb
  have qm := eqMk
  have hmm := @run_makeMap Tryz.prog
  cases mk with
  | none =>
   obtain ⟨m1, m2⟩ := can_made hs
   obtain ⟨W, hW⟩ : ∃ W, W = (w.setCell ⟨s, 2, none⟩ (.map (some w.heap.size))).alloc (.map #[] 0) := ⟨_, rfl⟩
   rw [← hW] at m1 m2
   obtain ⟨b, hb⟩ : ∃ b, b = w.heap.size := ⟨_, rfl⟩
   have HB : Hid (w.heap.size ≤ b) := hid (by omega)
   rw [← hb] at m1 hW
   obtain ⟨o, o1, o2, o3⟩ := can_set m1 ht h1' hlg
   have HC := hid (can_end ht h1' hN (can_mid o2 hv hn ht (m2.trans o3 (fun z hz => by
    rcases mem_fpS.1 hz with e | e | e | e | e
    ·exact Or.inl (mem_fpS.2 (Or.inl e))
    ·exact Or.inl (mem_fpS.2 (Or.inr (Or.inl e)))
    ·exact Or.inl (mem_fpS.2 (Or.inr (Or.inr (Or.inl e))))
    ·cases e; exact Or.inr (by omega)
    ·exact Or.inl (mem_fpS.2 (Or.inr (Or.inr (Or.inr (Or.inr e))))))) (Or.inr HB.out)))
   have w2 := m1.cell.2.2.1
   clear hs hv hn m1 m2 o2 o3 hlg
   unfold PT at *
   go_enter Tryz.func55, Tryz.ntmps55
   go_upto_region 5 with fail
   rw [← hb, ← hW]
   clear hb hW c0 c1 c2 ff hsl qm hmm
   go_wp2_with (go_at_call 95; refine HC.out.mono ?_; rintro e w2 ⟨a2, c2', rfl, r2, t2⟩; have RR := hid (And.intro r2 t2); clear r2 t2)
   go_ret
   exact ⟨a2, c2', rfl, RR.out.1, RR.out.2⟩
  | some b =>
   obtain ⟨o, o1, o2, o3⟩ := can_set hs ht h1' hlg
   have HC := hid (can_end ht h1' hN (can_mid (mk := some b) o2 hv hn ht o3 (Or.inl rfl)))
   clear hs hv hn o2 o3 hlg
   unfold PT at *
   go_enter Tryz.func55, Tryz.ntmps55
   go_wp2_with (go_at_call 95; refine HC.out.mono ?_; rintro e w2 ⟨a2, c2', rfl, r2, t2⟩; have RR := hid (And.intro r2 t2); clear r2 t2)
   go_ret
   exact ⟨a2, c2', rfl, RR.out.1, RR.out.2⟩
theorem standQ (h : Sq w s F L G N) {c : Int} (hc : W64 c) (hN : N ≤ 4400000000000) : Calls Tryz.prog 53 #[PT s, .int .i64 c] w fun e w' => e = .returned (.tuple #[sv ((whr L c).getD zs), .bool (whr L c).isSome]) ∧ SqE w w' s F (outL 0 c L) G N := by
 obtain ⟨V, hV⟩ : ∃ V, V = w.alloc (.cells #[.int .i64 0, .int .i64 0, .int .i64 0] 134) := ⟨_, rfl⟩
 have tv : Touch [] w V := by rw [hV]; exact (Touch.refl _ _).alloc _
 have hvb : V.heap[w.heap.size]? = some (.cells #[.int .i64 0, .int .i64 0, .int .i64 0] 134 (0, 0)) := by rw [hV]; exact heap_alloc_new w _
 have h1 := h.keep0 tv
 have HW := hid (whereQ h1 hc)
 have hF : ∀ z, z ∈ F → Own1 V z := h1.own
 have hF0 : ∀ z, z ∈ F → z < w.heap.size := h.lt
 have HVB : Hid (∀ w', Touch F V w' → w'.heap[w.heap.size]? = some (.cells #[.int .i64 0, .int .i64 0, .int .i64 0] 134 (0, 0))) := hid (fun w' t => t.keep hvb (fun e => (hF _ e).ne hvb (by decide) (by decide) rfl))
 have hlt := block_lt hvb
 rcases hw : whr L c with _ | x
 ·rw [hw] at HW
  have HE : Hid (∀ w' w2, Touch [] V w' → Touch [w.heap.size] w' w2 → SqE w w2 s F (outL 0 c L) G N) := hid (fun w' w2 t t2 => by
   rw [out_none (whr_none.1 (by rw [hw]; rfl))]
   exact SqE.box tv (SqE.same h1 (Nat.le_refl _) t) hF0 (Nat.le_refl _) hlt t2)
  clear h h1 hc hw
  simp only [Option.getD_none, Option.isSome_none] at HW ⊢
  unfold PT sv zs at *
  go_enter Tryz.func53, Tryz.ntmps53
  go_upto_region 1 with fail
  rw [← hV]
  clear hV
  go_upto_region 2 with (go_at_call 82; refine HW.out.mono ?_; rintro e w2 ⟨rfl, t2⟩; have T2 := hid t2; clear t2)
  obtain ⟨V3, hV3⟩ : ∃ V3, V3 = w2.alloc (.cells #[.int .i64 0, .int .i64 0, .int .i64 0] 134) := ⟨_, rfl⟩
  have tv3 : Touch [] V V3 := by rw [hV3]; exact T2.out.alloc _
  have hb3 : V3.heap[w2.heap.size]? = some (.cells #[.int .i64 0, .int .i64 0, .int .i64 0] 134 (0, 0)) := by rw [hV3]; exact heap_alloc_new w2 _
  rw [← hV3]
  have y0 := cell_at (j := 0) hb3 rfl
  have y1 := cell_at (j := 1) hb3 rfl
  have y2 := cell_at (j := 2) hb3 rfl
  have hb0 := HVB.out V3 (tv3.mono (fun _ e => by cases e))
  have v0 := cell_at (j := 0) hb0 rfl
  have v1 := cell_at (j := 1) hb0 rfl
  have v2 := cell_at (j := 2) hb0 rfl
  have vf := froz_at hb0
  have HT3 := hid tv3
  clear hV3 hb3 hb0 tv3 T2 HVB tv hvb hF hF0 hlt
  go_wp2
  refine bodyPost_ret (v := .tuple #[.agg #[.int .i64 0, .int .i64 0, .int .i64 0], .bool false]) (by simp [results, Tryz.results53, go_sem, v0, v1, v2]) rfl ⟨rfl, HE.out _ _ HT3.out ?_⟩
  exact (((Touch.refl _ _).setCell (Or.inl (by simp)) _).setCell (Or.inl (by simp)) _).setCell (Or.inl (by simp)) _
 ·rw [hw] at HW
  obtain ⟨hx, hxc⟩ := whr_mem hw
  have HT : Hid (∀ w', Touch [] V w' → Calls Tryz.prog 103 #[PT s, sv x] w' fun e w2 => e = .returned (.tuple #[]) ∧ Touch F w' w2 ∧ ∀ w3, Touch [w.heap.size] w2 w3 → SqE w w3 s F (outL 0 c L) G N) := hid (fun w' t => by
   refine (takeQ (h1.keep0 t) hx (by omega)).mono ?_
   rintro e w2 ⟨rfl, q⟩
   rw [hxc] at q
   refine ⟨rfl, ?_, fun w3 t3 => SqE.box tv (SqE.from0 t q) hF0 (Nat.le_refl _) hlt t3⟩
   obtain ⟨F2, _, q2, _⟩ := q
   exact q2)
  clear h h1 hc hw hx hxc
  simp only [Option.getD_some, Option.isSome_some] at HW ⊢
  unfold PT sv at *
  go_enter Tryz.func53, Tryz.ntmps53
  go_upto_region 1 with fail
  rw [← hV]
  clear hV
  go_upto_region 2 with (go_at_call 82; refine HW.out.mono ?_; rintro e w2 ⟨rfl, t2⟩; have T2 := hid t2; clear t2)
  obtain ⟨V3, hV3⟩ : ∃ V3, V3 = w2.alloc (.cells #[.int .i64 x.1, .int .i64 x.2.1, .int .i64 x.2.2] 134) := ⟨_, rfl⟩
  have tv3 : Touch [] V V3 := by rw [hV3]; exact T2.out.alloc _
  have hb3 : V3.heap[w2.heap.size]? = some (.cells #[.int .i64 x.1, .int .i64 x.2.1, .int .i64 x.2.2] 134 (0, 0)) := by rw [hV3]; exact heap_alloc_new w2 _
  rw [← hV3]
  have y0 := cell_at (j := 0) (v := .int .i64 x.1) hb3 rfl
  have y1 := cell_at (j := 1) (v := .int .i64 x.2.1) hb3 rfl
  have y2 := cell_at (j := 2) (v := .int .i64 x.2.2) hb3 rfl
  have HBK : Hid (∀ w', Touch F V3 w' → w'.heap[w.heap.size]? = some (.cells #[.int .i64 0, .int .i64 0, .int .i64 0] 134 (0, 0)) ∧ w'.heap[w2.heap.size]? = some (.cells #[.int .i64 x.1, .int .i64 x.2.1, .int .i64 x.2.2] 134 (0, 0))) := hid (fun w' t => by
   refine ⟨HVB.out w' ((tv3.mono (fun _ e => by cases e)).trans' t), t.keep hb3 (fun e => ?_)⟩
   have := hF0 _ e
   have := T2.out.size
   omega)
  have HCT := hid (HT.out V3 tv3)
  clear hV3 hb3 tv3 T2 HVB HT tv hvb hF hF0 hlt
  go_upto_region 4 with (go_at_call 103; refine HCT.out.mono ?_; rintro e w4 ⟨rfl, t4, q4⟩; have T4 := hid t4; have Q4 := hid q4; clear t4 q4 y0 y1 y2)
  obtain ⟨hb0, hb3⟩ := HBK.out w4 T4.out
  have v0 := cell_at (j := 0) hb0 rfl
  have v1 := cell_at (j := 1) hb0 rfl
  have v2 := cell_at (j := 2) hb0 rfl
  have vf := froz_at hb0
  have y0 := cell_at (j := 0) (v := .int .i64 x.1) hb3 rfl
  have y1 := cell_at (j := 1) (v := .int .i64 x.2.1) hb3 rfl
  have y2 := cell_at (j := 2) (v := .int .i64 x.2.2) hb3 rfl
  clear hb0 hb3 HBK HCT T4
  go_wp2
  refine bodyPost_ret (v := .tuple #[.agg #[.int .i64 x.1, .int .i64 x.2.1, .int .i64 x.2.2], .bool true]) (by simp [results, Tryz.results53, go_sem, v0, v1, v2]) rfl ⟨rfl, Q4.out _ ?_⟩
  exact (((Touch.refl _ _).setCell (Or.inl (by simp)) _).setCell (Or.inl (by simp)) _).setCell (Or.inl (by simp)) _
end
end Go.Proofs.YtkfophlhpjbmgaaGreat.Lv
/- The contract of Sit; no conditions but those that it states. -/
namespace Go.Proofs.YtkfophlhpjbmgaaGreat.Lv
open Go.RowKit Go.Maps Go.ChangeMaps
section
variable {w : World} {s N : Nat} {F : List Nat} {L : List Se} {G : List Int}
set_option maxHeartbeats 4000000 in
set_option maxRecDepth 100000 in
theorem sit_ (h : Sq w s F L G N) {x : Se} (hx : Wf x) (hN : N ≤ 4400000000000) : Calls Tryz.prog 130 #[PT s, sv x] w fun e w' => e = .returned (.int .i64 (sitE L G x)) ∧ SqE w w' s F (sitL L G x) G (N + 1) := by
 obtain ⟨V, hV⟩ : ∃ V, V = w.alloc (.cells #[.int .i64 x.1, .int .i64 x.2.1, .int .i64 x.2.2] 134) := ⟨_, rfl⟩
 have tv : Touch [] w V := by rw [hV]; exact (Touch.refl _ _).alloc _
 have hvb : V.heap[w.heap.size]? = some (.cells #[.int .i64 x.1, .int .i64 x.2.1, .int .i64 x.2.2] 134 (0, 0)) := by rw [hV]; exact heap_alloc_new w _
 have h1 := h.keep0 tv
 have HB : Hid (∀ w', Touch [] V w' → w'.cell? ⟨w.heap.size, 0, none⟩ = some (.int .i64 x.1) ∧ w'.cell? ⟨w.heap.size, 1, none⟩ = some (.int .i64 x.2.1) ∧ w'.cell? ⟨w.heap.size, 2, none⟩ = some (.int .i64 x.2.2)) := hid (fun w' t => ⟨cell_at (t.keep hvb (by simp)) rfl, cell_at (t.keep hvb (by simp)) rfl, cell_at (t.keep hvb (by simp)) rfl⟩)
 obtain ⟨b0, b1, b2⟩ := HB.out V (Touch.refl _ _)
 have HSame : Hid (∀ w', Touch [] V w' → SqE w w' s F L G (N + 1)) := hid (fun w' t => SqE.same h (Nat.le_succ _) (tv.trans' t))
 have HC := hid (cancQ h1 hx.2.2)
 have HW : Hid (∀ w', Touch [] V w' → Calls Tryz.prog 82 #[PT s, .int .i64 x.1] w' fun e w2 => e = .returned (.tuple #[sv ((whr L x.1).getD zs), .bool (whr L x.1).isSome]) ∧ Touch [] w' w2) := hid (fun w' t => whereQ (h1.keep0 t) hx.1)
 have HPL : Hid (may x = true → (whr L x.1).isSome = false → ∀ w', Touch [] V w' → Calls Tryz.prog 124 #[PT s, sv x] w' fun e w2 => e = .returned (.tuple #[]) ∧ SqE w w2 s F (L ++ [x]) G (N + 1)) := hid (fun hm hw w' t => by
  refine (placeQ (h1.keep0 t) hx hm (whr_none.1 hw) (by omega)).mono ?_
  rintro e w2 ⟨rfl, q⟩
  exact ⟨rfl, SqE.from0 (tv.trans' t) q⟩)
 clear h h1 tv hvb
 unfold sitL
 cases hm : may x with
 | false =>
  have e0 : sitE L G x = 150 := by unfold sitE; rw [if_pos hm]
  rw [e0, if_neg (by decide)]
  unfold may at hm
  clear HC HW HPL
  unfold PT sv
  by_cases g0 : x.1 < 1
  ·go_enter Tryz.func130, Tryz.ntmps130
   go_upto_region 1 with fail
   rw [← hV]
   clear hV
   go_wp2
   go_ret
   exact ⟨rfl, HSame.out _ (Touch.refl _ _)⟩
  ·by_cases g1 : x.2.1 < 1
   ·go_enter Tryz.func130, Tryz.ntmps130
    go_upto_region 1 with fail
    rw [← hV]
    clear hV
    go_wp2
    go_ret
    exact ⟨rfl, HSame.out _ (Touch.refl _ _)⟩
   ·have g2 : x.2.2 < 0 := by
     simp only [Bool.and_eq_false_iff, decide_eq_false_iff_not] at hm
     omega
    clear hm
    go_enter Tryz.func130, Tryz.ntmps130
    go_upto_region 1 with fail
    rw [← hV]
    clear hV
    go_wp2
    go_ret
    exact ⟨rfl, HSame.out _ (Touch.refl _ _)⟩
 | true =>
  have HPL2 := hid (HPL.out hm)
  have hm2 := hm
  unfold may at hm2
  simp only [Bool.and_eq_true, decide_eq_true_eq] at hm2
  have g0 : ¬ x.1 < 1 := by omega
  have g1 : ¬ x.2.1 < 1 := by omega
  have g2 : ¬ x.2.2 < 0 := by omega
  clear HPL hm2
  by_cases hg : x.2.2 ∈ G
  ·have e0 : sitE L G x = 152 := by unfold sitE; rw [if_neg (by rw [hm]; decide), if_pos hg]
   rw [e0, if_neg (by decide)]
   rw [decide_eq_true hg] at HC
   clear hm HW HPL2 e0
   unfold PT sv at *
   go_enter Tryz.func130, Tryz.ntmps130
   go_upto_region 1 with fail
   rw [← hV]
   clear hV
   go_wp2_with (go_at_call 81; refine HC.out.mono ?_; rintro e w2 ⟨rfl, t2⟩; have T2 := hid t2; clear t2)
   go_ret
   exact ⟨rfl, HSame.out _ T2.out⟩
  ·rw [decide_eq_false hg] at HC
   cases hw : (whr L x.1).isSome with
   | true =>
    have e0 : sitE L G x = 151 := by unfold sitE; rw [if_neg (by rw [hm]; decide), if_neg hg, if_pos hw]
    rw [e0, if_neg (by decide)]
    rw [hw] at HW
    generalize (whr L x.1).getD zs = y at *
    clear hm HPL2 e0 hg hw
    unfold PT sv at *
    go_enter Tryz.func130, Tryz.ntmps130
    go_upto_region 1 with fail
    rw [← hV]
    clear hV
    go_wp2_with (first
     | (go_at_call 81; refine HC.out.mono ?_; rintro e w2 ⟨rfl, t2⟩; clear b0 b1 b2; obtain ⟨b0, b1, b2⟩ := HB.out _ t2; have HW2 := hid (HW.out _ t2); have T2 := hid t2; clear t2)
     | (go_at_call 82; refine HW2.out.mono ?_; rintro e w3 ⟨rfl, t3⟩; have T3 := hid (T2.out.trans' t3); clear t3))
    go_ret
    exact ⟨rfl, HSame.out _ (T3.out.alloc _)⟩
   | false =>
    have e0 : sitE L G x = 0 := by unfold sitE; rw [if_neg (by rw [hm]; decide), if_neg hg, if_neg (by rw [hw]; decide)]
    rw [e0, if_pos rfl]
    have HPL3 := hid (HPL2.out hw)
    rw [hw] at HW
    generalize (whr L x.1).getD zs = y at *
    clear hm HPL2 e0 hg hw
    unfold PT sv at *
    go_enter Tryz.func130, Tryz.ntmps130
    go_upto_region 1 with fail
    rw [← hV]
    clear hV
    go_upto_region 8 with (first
     | (go_at_call 81; refine HC.out.mono ?_; rintro e w2 ⟨rfl, t2⟩; clear b0 b1 b2; obtain ⟨b0, b1, b2⟩ := HB.out _ t2; have HW2 := hid (HW.out _ t2); have T2 := hid t2; clear t2)
     | (go_at_call 82; refine HW2.out.mono ?_; rintro e w3 ⟨rfl, t3⟩; have T3 := hid (T2.out.trans' t3); clear t3 b0 b1 b2))
    obtain ⟨V4, hV4⟩ : ∃ V4, V4 = w3.alloc (.cells #[.int .i64 y.1, .int .i64 y.2.1, .int .i64 y.2.2] 134) := ⟨_, rfl⟩
    have t4 : Touch [] V V4 := by rw [hV4]; exact T3.out.alloc _
    rw [← hV4]
    obtain ⟨b0, b1, b2⟩ := HB.out _ t4
    have HP4 := hid (HPL3.out _ t4)
    clear hV4 t4 HPL3 HW HC HW2 T2 T3 HB
    go_wp2_with (go_at_call 124; refine HP4.out.mono ?_; rintro e w5 ⟨rfl, q5⟩; have Q5 := hid q5; clear q5)
    go_ret
    exact ⟨rfl, Q5.out⟩
end
end Go.Proofs.YtkfophlhpjbmgaaGreat.Lv
/- The contracts of a group's small functions: its ticks, its parts, a seat, a run that was begun, who may join; no conditions but those that each states. -/
namespace Go.Proofs.YtkfophlhpjbmgaaGreat
open Go.RowKit Go.Maps Go.ChangeMaps
section
variable {w w' : World} {v : Value} {xs : List Int}
theorem Rd.box {k : Nat} {cs : Array Value} {t : TypeId} {z : Nat × Nat} (hr : Rd w v xs) (hb : w.heap[k]? = some (.cells cs t z)) (ht : t ≠ 3) (T : Touch [k] w w') : Rd w' v xs := by
 obtain ⟨a, c, rfl, h1, h2, h0, h3⟩ := hr
 refine ⟨a, c, rfl, h1, h2, h0, ?_⟩
 rcases h3 with e | ⟨b, cur, e, z, rfl, hb', hc⟩
 ·exact Or.inl e
 ·refine Or.inr ⟨b, cur, e, z, rfl, T.keep hb' (fun e2 => ?_), hc⟩
  simp only [List.mem_singleton] at e2
  rw [e2, hb] at hb'
  simp at hb'
  exact ht hb'.2.1
theorem Rd.memo {m : Nat} {F : List Nat} {c : Me.Cf} {now : Int} {ys : List Me.En} (hr : Rd w v xs) (h : Me.Mq w m F c now ys) (T : Touch F w w') : Rd w' v xs := by
 obtain ⟨a, cc, rfl, h1, h2, h0, h3⟩ := hr
 refine ⟨a, cc, rfl, h1, h2, h0, ?_⟩
 rcases h3 with e | ⟨b, cur, e, z, rfl, hb', hc⟩
 ·exact Or.inl e
 ·exact Or.inr ⟨b, cur, e, z, rfl, T.keep hb' (h.away hb' (by decide) (by decide) (by decide)), hc⟩
end
def jcs (J : Jd) (v : Value) : Array Value := #[.int .i64 J.how, .int .i64 J.run, .bool J.bg, .int .i64 J.o.1, .int .i64 J.o.2.1, .int .i64 J.o.2.2.1, .int .i64 J.o.2.2.2, v]
def jv (J : Jd) (v : Value) : Value := .agg (jcs J v)
def jz : Array Value := #[.int .i64 0, .int .i64 0, .bool false, .int .i64 0, .int .i64 0, .int .i64 0, .int .i64 0, .slice none 0 0]
def Snt (w : World) (v : Value) (xs : List Int) : Prop := Rd w v xs ∧ ∃ a n c, v = .slice a n c
section
variable {w w' : World} {g : Nat} {P : Pt} {F : List Nat} {X : Gp} {N : Cn}
theorem check_ (h : Gq w g P F X N) (n : Int) : Calls Tryz.prog 43 #[PT g, .int .i64 n] w fun e w' => e = .returned (.int .i64 (tkE X n)) ∧ w' = w := by
 have c4 := h.cs.c4
 have H := Me.is39 n
 unfold tkE Me.tickE PT
 clear h
 generalize X.now = now at *
 generalize Me.isT n = r at *
 cases r
 ·go_enter Tryz.func43, Tryz.ntmps43
  go_wp2_with (go_at_call 90; refine (H _).mono ?_; rintro e w2 ⟨rfl, rfl⟩)
  go_ret
  exact ⟨rfl, rfl⟩
 ·by_cases hb : n < now
  ·go_enter Tryz.func43, Tryz.ntmps43
   go_wp2_with (go_at_call 90; refine (H _).mono ?_; rintro e w2 ⟨rfl, e2⟩; rw [e2]; clear e2 w2)
   go_ret
   simp [hb]
  ·go_enter Tryz.func43, Tryz.ntmps43
   go_wp2_with (go_at_call 90; refine (H _).mono ?_; rintro e w2 ⟨rfl, e2⟩; rw [e2]; clear e2 w2)
   go_ret
   simp [hb]
theorem own_ (h : Gq w g P F X N) : Calls Tryz.prog 50 #[PT g] w fun e w' => e = .returned (.agg #[PT P.m, PT P.t, PT P.b, PT P.s]) ∧ Touch [] w w' := by
 obtain ⟨c0, c1, c2, c3, -, -⟩ := h.cs
 have hl : g < w.heap.size := by
  obtain ⟨Fm, Ft, Fb, Fs, rfl, h⟩ := h
  exact h.glt
 have hne : g ≠ w.heap.size := by omega
 clear h
 unfold PT
 go_enter Tryz.func50, Tryz.ntmps50
 go_wp2
 refine bodyPost_ret (v := .agg #[.pointer (some ⟨P.m, 0, none⟩), .pointer (some ⟨P.t, 0, none⟩), .pointer (some ⟨P.b, 0, none⟩), .pointer (some ⟨P.s, 0, none⟩)]) (by simp [results, Tryz.results50, go_sem]) rfl ⟨rfl, ?_⟩
 repeat (first | exact Touch.refl _ _ | apply Touch.alloc | (refine Touch.setCell ?_ (Or.inr (by simp)) _))
theorem sit_ (h : Gq w g P F X N) {x r t : Int} (hx : Lv.Wf (x, r, t)) (hN : N.s ≤ 4400000000000) : Calls Tryz.prog 87 #[PT g, .int .i64 x, .int .i64 r, .int .i64 t] w fun e w' => e = .returned (.tuple #[]) ∧ GqE w w' g P F (sitX X x r t) { N with s := N.s + 1 } := by
 obtain ⟨Fs, hs, -, hst⟩ := h.sea
 have HS : Hid (Calls Tryz.prog 130 #[PT P.s, .agg #[.int .i64 x, .int .i64 r, .int .i64 t]] w fun e w' => (∃ E : Int, e = .returned (.int .i64 E)) ∧ GqE w w' g P F (sitX X x r t) { N with s := N.s + 1 }) := hid ((Lv.sit_ hs hx hN).mono (fun e w' hh => ⟨⟨_, hh.1⟩, hst _ _ _ _ hh.2⟩))
 have c3 := h.cs.c3
 clear h hs hst
 generalize sitX X x r t = Y at *
 unfold PT at *
 go_enter Tryz.func87, Tryz.ntmps87
 go_wp2_with (go_at_call 130; refine HS.out.mono ?_; rintro e w2 ⟨⟨E, rfl⟩, q2⟩; have Q2 := hid q2; clear q2)
 go_end0
 exact ⟨rfl, Q2.out⟩
set_option maxHeartbeats 4000000 in
theorem begun_ (h : Gq w g P F X N) {hh r : Int} (hr : W64 r) (hN : N.b ≤ 6000000000000) : Calls Tryz.prog 89 #[PT g, .int .i64 hh, .int .i64 r] w fun e w' => ∃ v, e = .returned (jv (begJ X hh r) v) ∧ Snt w' v (begJ X hh r).sent ∧ GqE w w' g P F (begX X r) { N with b := N.b + 1 } := by
 obtain ⟨V, hV⟩ : ∃ V, V = w.alloc (.cells jz 49) := ⟨_, rfl⟩
 have tv : Touch [] w V := by rw [hV]; exact (Touch.refl _ _).alloc _
 have hb : V.heap[w.heap.size]? = some (.cells jz 49 (0, 0)) := by rw [hV]; exact heap_alloc_new w _
 have hlt := h.lt
 have hq : GqE V V.drew g P F X N := GqE.same (h.keep0 tv) ((Touch.refl _ _).drew)
 have hnb : ¬ w.heap.size ∈ F := fun e => by have := hlt _ e; omega
 have HA : Hid (Calls Tryz.prog 133 #[PT P.b, .int .i64 X.now, .int .i64 r] V.drew fun e w' => ∃ a n c E, e = .returned (.tuple #[.slice a n c, .int .i64 E]) ∧ Rd w' (.slice a n c) (begJ X hh r).sent ∧ GqE V w' g P F (begX X r) { N with b := N.b + 1 }) := hid (by
  obtain ⟨F1, q1, -, q2⟩ := hq.sub
  obtain ⟨Fb, ⟨sl, d, rfl, hm, hv⟩, -, hst⟩ := q1.bat
  refine (Ba.add_ hm hv hN hr).mono ?_
  rintro e w2 ⟨v, rfl, r1, r2, a, n, c, rfl⟩
  exact ⟨a, n, c, _, rfl, r2, q2 _ _ _ (hst _ _ _ r1)⟩)
 have HF : Hid (∀ w2 w3 v, GqE V w2 g P F (begX X r) { N with b := N.b + 1 } → Rd w2 v (begJ X hh r).sent → (∃ a n c, v = .slice a n c) → Touch [w.heap.size] w2 w3 → Snt w3 v (begJ X hh r).sent ∧ GqE w w3 g P F (begX X r) { N with b := N.b + 1 }) := hid (fun w2 w3 v q r1 r2 t3 =>
  ⟨⟨r1.box (q.bk hb hnb) (by decide) t3, r2⟩, GqE.box tv q hlt (fun b hbb => by simp only [List.mem_singleton] at hbb; subst hbb; exact ⟨Nat.le_refl _, block_lt hb⟩) t3⟩)
 have HB : Hid (∀ w2, GqE V w2 g P F (begX X r) { N with b := N.b + 1 } → w2.heap[w.heap.size]? = some (.cells jz 49 (0, 0))) := hid (fun w2 q => q.bk hb hnb)
 have s0 : GmC V.drew g P X.now := hq.cs
 have C2 : ∀ w', GmC w' g P X.now → w'.cell? ⟨g, 2, none⟩ = some (.pointer (some ⟨P.b, 0, none⟩)) := fun _ h => h.c2
 have C4 : ∀ w', GmC w' g P X.now → w'.cell? ⟨g, 4, none⟩ = some (.int .i64 X.now) := fun _ h => h.c4
 have HC : Hid (∀ w2, GqE V w2 g P F (begX X r) { N with b := N.b + 1 } → GmC w2 g P X.now) := hid (fun w2 q => q.cs)
 clear h hb hlt hq hnb tv hr hN
 unfold jz at hV HB
 unfold jv jcs
 generalize begX X r = Y at *
 have e1 : (begJ X hh r).how = hh := rfl
 have e2 : (begJ X hh r).run = r := rfl
 have e3 : (begJ X hh r).bg = true := rfl
 have e4 : (begJ X hh r).o = (0, 0, 0, 0) := rfl
 rw [e1, e2, e3, e4]
 clear e1 e2 e3 e4
 simp only
 generalize (begJ X hh r).sent = ss at *
 generalize X.now = now at *
 unfold PT at *
 go_enter Tryz.func89, Tryz.ntmps89
 go_upto_region 1 with fail
 rw [← hV]
 clear hV
 refine wp_region_H (S := fun w' => GmC w' g P now) (by kernel_rfl) ?_
 refine wpH_take (i := 0) (v := (.pointer (some ⟨g, 0, none⟩))) (some 10) rfl rfl (by kernel_rfl) (by kernel_rfl) (by kernel_rfl) (fun _ _ _ h => h) (Or.inl ⟨by rfl, fun w' hS => (by go_simp)⟩) s0 ?_
 try simp only [Go.Act.put, Zx, Zy, Zz]
 refine wpH_take (i := 1) (v := (.pointer (some ⟨g, 0, none⟩))) (some 11) rfl rfl (by kernel_rfl) (by kernel_rfl) (by kernel_rfl) (fun _ _ _ h => h) (Or.inl ⟨by rfl, fun w' hS => (by go_simp)⟩) s0 ?_
 try simp only [Go.Act.put, Zx, Zy, Zz]
 refine wpH_take (i := 2) (v := (.pointer (some ⟨g, 0, none⟩))) (some 12) rfl rfl (by kernel_rfl) (by kernel_rfl) (by kernel_rfl) (fun _ _ _ h => h) (Or.inl ⟨by rfl, fun w' hS => (by go_simp)⟩) s0 ?_
 try simp only [Go.Act.put, Zx, Zy, Zz]
 refine wpH_take (i := 3) (v := (.pointer (some ⟨g, 2, none⟩))) (some 13) rfl rfl (by kernel_rfl) (by kernel_rfl) (by kernel_rfl) (fun _ _ _ h => h) (Or.inl ⟨by rfl, fun w' hS => (by go_simp)⟩) s0 ?_
 try simp only [Go.Act.put, Zx, Zy, Zz]
 refine wpH_take (i := 4) (v := (.pointer (some ⟨P.b, 0, none⟩))) (some 14) rfl rfl (by kernel_rfl) (by kernel_rfl) (by kernel_rfl) (fun _ _ _ h => h) (Or.inl ⟨by rfl, fun w' hS => (by have z0 := C2 _ hS; go_simp)⟩) s0 ?_
 try simp only [Go.Act.put, Zx, Zy, Zz]
 refine wpH_take (i := 5) (v := (.pointer (some ⟨g, 0, none⟩))) (some 15) rfl rfl (by kernel_rfl) (by kernel_rfl) (by kernel_rfl) (fun _ _ _ h => h) (Or.inl ⟨by rfl, fun w' hS => (by go_simp)⟩) s0 ?_
 try simp only [Go.Act.put, Zx, Zy, Zz]
 refine wpH_take (i := 6) (v := (.pointer (some ⟨g, 0, none⟩))) (some 16) rfl rfl (by kernel_rfl) (by kernel_rfl) (by kernel_rfl) (fun _ _ _ h => h) (Or.inl ⟨by rfl, fun w' hS => (by go_simp)⟩) s0 ?_
 try simp only [Go.Act.put, Zx, Zy, Zz]
 refine wpH_take (i := 7) (v := (.pointer (some ⟨g, 4, none⟩))) (some 17) rfl rfl (by kernel_rfl) (by kernel_rfl) (by kernel_rfl) (fun _ _ _ h => h) (Or.inl ⟨by rfl, fun w' hS => (by go_simp)⟩) s0 ?_
 try simp only [Go.Act.put, Zx, Zy, Zz]
 refine wpH_take (i := 8) (v := (.int .i64 now)) (some 18) rfl rfl (by kernel_rfl) (by kernel_rfl) (by kernel_rfl) (fun _ _ _ h => h) (Or.inl ⟨by rfl, fun w' hS => (by have z0 := C4 _ hS; go_simp)⟩) s0 ?_
 try simp only [Go.Act.put, Zx, Zy, Zz]
 refine wpH_take (i := 9) (v := (.int .i64 r)) (some 19) rfl rfl (by kernel_rfl) (by kernel_rfl) (by kernel_rfl) (fun _ _ _ h => h) (Or.inl ⟨by rfl, fun w' hS => (by go_simp)⟩) s0 ?_
 try simp only [Go.Act.put, Zx, Zy, Zz]
 refine wpH_call (i := 10) (o := { dst := some 20, op := Op.call { callee := Callee.value (Operand.func 133), args := #[Operand.tmp 14, Operand.tmp 18, Operand.tmp 19], argTypes := #[114, 2, 3] }, type := 77, pos := _, after := #[{ on := 4, ground := Ground.data }, { on := 8, ground := Ground.data }, { on := 9, ground := Ground.data }], guard := none }) (by kernel_rfl) rfl (fun K' hK => ?_)
 rw [if_pos (by rfl)]
 go_simp
 refine HA.out.mono ?_
 rintro e w2 ⟨a, n, c, E, rfl, r2, q2⟩
 have hbx := HB.out _ q2
 have R2 := hid r2
 have Q2 := hid q2
 have S2 := HC.out _ q2
 clear r2 q2
 refine hK.out _ _ S2 ?_
 clear hK
 try simp only [Go.Act.put, Zx, Zy, Zz]
 refine wpH_take (i := 11) (v := (.tuple #[(.slice a n c), (.int .i64 E)])) (some 9) rfl rfl (by kernel_rfl) (by kernel_rfl) (by kernel_rfl) (fun _ _ _ h => h) (Or.inl ⟨by rfl, fun w' hS => (by go_simp)⟩) S2 ?_
 try simp only [Go.Act.put, Zx, Zy, Zz]
 refine wpH_take (i := 12) (v := (.slice a n c)) (some 21) rfl rfl (by kernel_rfl) (by kernel_rfl) (by kernel_rfl) (fun _ _ _ h => h) (Or.inl ⟨by rfl, fun w' hS => (by go_simp)⟩) S2 ?_
 try simp only [Go.Act.put, Zx, Zy, Zz]
 refine wpH_take (i := 13) (v := (.int .i64 E)) (some 22) rfl rfl (by kernel_rfl) (by kernel_rfl) (by kernel_rfl) (fun _ _ _ h => h) (Or.inl ⟨by rfl, fun w' hS => (by go_simp)⟩) S2 ?_
 try simp only [Go.Act.put, Zx, Zy, Zz]
 refine wpH_take (i := 14) (v := (.slice a n c)) (some 7) rfl rfl (by kernel_rfl) (by kernel_rfl) (by kernel_rfl) (fun _ _ _ h => h) (Or.inl ⟨by rfl, fun w' hS => (by go_simp)⟩) S2 ?_
 try simp only [Go.Act.put, Zx, Zy, Zz]
 refine wpH_take (i := 15) (v := (.int .i64 E)) (some 8) rfl rfl (by kernel_rfl) (by kernel_rfl) (by kernel_rfl) (fun _ _ _ h => h) (Or.inl ⟨by rfl, fun w' hS => (by go_simp)⟩) S2 ?_
 try simp only [Go.Act.put, Zx, Zy, Zz]
 refine wpAnyH_done (by kernel_rfl) ?_ _
 have d0 := cell_at (j := 0) hbx rfl
 have d1 := cell_at (j := 1) hbx rfl
 have d2 := cell_at (j := 2) hbx rfl
 have d3 := cell_at (j := 3) hbx rfl
 have d4 := cell_at (j := 4) hbx rfl
 have d5 := cell_at (j := 5) hbx rfl
 have d6 := cell_at (j := 6) hbx rfl
 have d7 := cell_at (j := 7) hbx rfl
 have df := froz_at hbx
 clear hbx S2
 go_wp2
 refine bodyPost_ret (v := .agg #[.int .i64 hh, .int .i64 r, .bool true, .int .i64 0, .int .i64 0, .int .i64 0, .int .i64 0, .slice a n c]) (by simp [results, Tryz.results89, go_sem, d0, d1, d2, d3, d4, d5, d6, d7]) rfl ⟨.slice a n c, rfl, HF.out _ _ _ Q2.out R2.out ⟨_, _, _, rfl⟩ ?_⟩
 exact (((((((((Touch.refl _ _).setCell (Or.inl (by simp)) _).setCell (Or.inl (by simp)) _).setCell (Or.inl (by simp)) _).setCell (Or.inl (by simp)) _).setCell (Or.inl (by simp)) _).setCell (Or.inl (by simp)) _).setCell (Or.inl (by simp)) _).setCell (Or.inl (by simp)) _)
set_option maxHeartbeats 4000000 in
theorem may_ (h : Gq w g P F X N) (n : Int) (k : K) (hk : Ok k) {x t : Int} (hx : W64 x) (ht : W64 t) : Calls Tryz.prog 40 #[PT g, .int .i64 n, kv k, .int .i64 x, .int .i64 t] w fun e w' => e = .returned (.int .i64 (mayE X n k x t)) ∧ Touch [] w w' := by
 obtain ⟨V, hV⟩ : ∃ V, V = w.alloc (Ta.bxK k) := ⟨_, rfl⟩
 have tv : Touch [] w V := by rw [hV]; exact (Touch.refl _ _).alloc _
 have hb : V.heap[w.heap.size]? = some (.cells #[.int .u16 k.1, .string k.2] 38 (0, 0)) := by rw [hV]; exact heap_alloc_new w _
 have h1 := h.keep0 tv
 have H0 := hid (check_ h1 n)
 have H1 := hid (Ta.fCheck V k hk)
 obtain ⟨Fs, hs, -, -⟩ := h1.sea
 have H2 : Hid (∀ w2, Touch [] V w2 → Calls Tryz.prog 81 #[PT P.s, .int .i64 t] w2 fun e w' => e = .returned (.bool (decide (t ∈ X.G))) ∧ Touch [] V w') := hid (fun w2 T => (Lv.cancQ (hs.keep0 T) ht).mono (fun e w' hh => ⟨hh.1, T.trans' hh.2⟩))
 have H3 : Hid (∀ w2, Touch [] V w2 → Calls Tryz.prog 82 #[PT P.s, .int .i64 x] w2 fun e w' => (∃ y, e = .returned (.tuple #[Lv.sv y, .bool (Lv.whr X.L x).isSome])) ∧ Touch [] V w') := hid (fun w2 T => (Lv.whereQ (hs.keep0 T) hx).mono (fun e w' hh => ⟨⟨_, hh.1⟩, T.trans' hh.2⟩))
 have HC : Hid (∀ w2, Touch [] V w2 → w2.cell? ⟨g, 3, none⟩ = some (.pointer (some ⟨P.s, 0, none⟩)) ∧ w2.cell? ⟨w.heap.size, 0, none⟩ = some (.int .u16 k.1) ∧ w2.cell? ⟨w.heap.size, 1, none⟩ = some (.string k.2)) := hid (fun w2 T => ⟨(h1.keep0 T).cs.c3, cell_at (T.keep hb (by simp)) rfl, cell_at (T.keep hb (by simp)) rfl⟩)
 obtain ⟨c3, b0, b1⟩ := HC.out V (Touch.refl _ _)
 have TV := hid tv
 have e2 : Ta.tForE k = if 64 < k.2.size then 20 else 0 := by
  unfold Ta.tForE Ta.mayK
  by_cases e : 64 < k.2.size
  ·rw [if_pos e, if_neg (by simp; omega)]
  ·rw [if_neg e, if_pos (by simp; omega)]
 rw [e2] at H1
 clear h h1 hs hb tv e2 hk hx ht
 unfold mayE
 unfold Ta.bxK at hV
 unfold Lv.sv at H3
 generalize tkE X n = E at *
 generalize (Lv.whr X.L x).isSome = B at *
 unfold PT kv at *
 by_cases a0 : E ≠ 0
 ·rw [if_pos a0]
  have a0' : (E != 0) = true := by simp [a0]
  go_enter Tryz.func40, Tryz.ntmps40
  go_upto_region 1 with fail
  rw [← hV]
  clear hV
  go_wp2_with (first
   | (go_at_call 43; refine H0.out.mono ?_; rintro e w2 ⟨rfl, rfl⟩))
  go_ret
  exact ⟨rfl, TV.out⟩
 ·rw [if_neg a0]
  simp only [ne_eq, Decidable.not_not] at a0
  subst a0
  by_cases a1 : 64 < k.2.size
  ·rw [if_pos a1] at H1 ⊢
   go_enter Tryz.func40, Tryz.ntmps40
   go_upto_region 1 with fail
   rw [← hV]
   clear hV
   go_wp2_with (first
    | (go_at_call 43; refine H0.out.mono ?_; rintro e w2 ⟨rfl, rfl⟩)
    | (go_at_call 80; refine H1.out.mono ?_; rintro e w3 ⟨rfl, t3⟩; clear c3 b0 b1; obtain ⟨c3, b0, b1⟩ := HC.out _ t3; have T3 := hid t3; clear t3))
   go_ret
   exact ⟨rfl, TV.out.trans' T3.out⟩
  ·rw [if_neg a1] at H1 ⊢
   by_cases a2 : x < 1
   ·rw [if_pos a2]
    go_enter Tryz.func40, Tryz.ntmps40
    go_upto_region 1 with fail
    rw [← hV]
    clear hV
    go_wp2_with (first
     | (go_at_call 43; refine H0.out.mono ?_; rintro e w2 ⟨rfl, rfl⟩)
     | (go_at_call 80; refine H1.out.mono ?_; rintro e w3 ⟨rfl, t3⟩; clear c3 b0 b1; obtain ⟨c3, b0, b1⟩ := HC.out _ t3; have T3 := hid t3; clear t3))
    go_ret
    exact ⟨rfl, TV.out.trans' T3.out⟩
   ·rw [if_neg a2]
    by_cases a3 : t < 0
    ·rw [if_pos a3]
     go_enter Tryz.func40, Tryz.ntmps40
     go_upto_region 1 with fail
     rw [← hV]
     clear hV
     go_wp2_with (first
      | (go_at_call 43; refine H0.out.mono ?_; rintro e w2 ⟨rfl, rfl⟩)
      | (go_at_call 80; refine H1.out.mono ?_; rintro e w3 ⟨rfl, t3⟩; clear c3 b0 b1; obtain ⟨c3, b0, b1⟩ := HC.out _ t3; have T3 := hid t3; clear t3))
     go_ret
     exact ⟨rfl, TV.out.trans' T3.out⟩
    ·rw [if_neg a3]
     by_cases a4 : t ∈ X.G
     ·rw [if_pos a4]
      rw [decide_eq_true a4] at H2
      go_enter Tryz.func40, Tryz.ntmps40
      go_upto_region 1 with fail
      rw [← hV]
      clear hV
      go_wp2_with (first
       | (go_at_call 43; refine H0.out.mono ?_; rintro e w2 ⟨rfl, rfl⟩)
       | (go_at_call 80; refine H1.out.mono ?_; rintro e w3 ⟨rfl, t3⟩; clear c3 b0 b1; obtain ⟨c3, b0, b1⟩ := HC.out _ t3; have T3 := hid t3; clear t3)
       | (go_at_call 81; refine (H2.out _ T3.out).mono ?_; rintro e w4 ⟨rfl, t4⟩; clear c3 b0 b1; obtain ⟨c3, b0, b1⟩ := HC.out _ t4; have T4 := hid t4; clear t4))
      go_ret
      exact ⟨rfl, TV.out.trans' T4.out⟩
     ·rw [if_neg a4]
      rw [decide_eq_false a4] at H2
      cases B
      ·go_enter Tryz.func40, Tryz.ntmps40
       go_upto_region 1 with fail
       rw [← hV]
       clear hV
       go_wp2_with (first
        | (go_at_call 43; refine H0.out.mono ?_; rintro e w2 ⟨rfl, rfl⟩)
        | (go_at_call 80; refine H1.out.mono ?_; rintro e w3 ⟨rfl, t3⟩; clear c3 b0 b1; obtain ⟨c3, b0, b1⟩ := HC.out _ t3; have T3 := hid t3; clear t3)
        | (go_at_call 81; refine (H2.out _ T3.out).mono ?_; rintro e w4 ⟨rfl, t4⟩; clear c3 b0 b1; obtain ⟨c3, b0, b1⟩ := HC.out _ t4; have T4 := hid t4; clear t4)
        | (go_at_call 82; refine (H3.out _ T4.out).mono ?_; rintro e w5 ⟨⟨y, rfl⟩, t5⟩; have T5 := hid t5; clear t5))
       go_ret
       exact ⟨rfl, (TV.out.trans' T5.out).alloc _⟩
      ·go_enter Tryz.func40, Tryz.ntmps40
       go_upto_region 1 with fail
       rw [← hV]
       clear hV
       go_wp2_with (first
        | (go_at_call 43; refine H0.out.mono ?_; rintro e w2 ⟨rfl, rfl⟩)
        | (go_at_call 80; refine H1.out.mono ?_; rintro e w3 ⟨rfl, t3⟩; clear c3 b0 b1; obtain ⟨c3, b0, b1⟩ := HC.out _ t3; have T3 := hid t3; clear t3)
        | (go_at_call 81; refine (H2.out _ T3.out).mono ?_; rintro e w4 ⟨rfl, t4⟩; clear c3 b0 b1; obtain ⟨c3, b0, b1⟩ := HC.out _ t4; have T4 := hid t4; clear t4)
        | (go_at_call 82; refine (H3.out _ T4.out).mono ?_; rintro e w5 ⟨⟨y, rfl⟩, t5⟩; have T5 := hid t5; clear t5))
       go_ret
       exact ⟨rfl, (TV.out.trans' T5.out).alloc _⟩
end
end Go.Proofs.YtkfophlhpjbmgaaGreat
/- The contract of a memo's Drop; no conditions. -/
namespace Go.Proofs.YtkfophlhpjbmgaaGreat.Me
open Go.RowKit Go.Sort Go.Maps Go.ChangeMaps Go.WideMaps
theorem drx_length {xs : List En} (hn : (keysL xs).Nodup) (k : K) : (drx xs k).length = if (mpf xs k).isSome then xs.length - 1 else xs.length := by
 have h := putY_len hn k ((0, 0, 0, 0), 0)
 unfold putY at h
 rw [List.length_append, List.length_singleton] at h
 split at h
 ·rename_i e; rw [if_pos e]; omega
 ·rename_i e; rw [if_neg e]; omega
theorem del_mpf (xs : List En) (k : K) : YtkfophlhpjbmgaaGreat.Me.del (mpf xs) k = mpf (drx xs k) := by
 funext j
 unfold YtkfophlhpjbmgaaGreat.Me.del mpf
 by_cases e : j = k
 ·rw [if_pos e, e, fnd_drx_same]; rfl
 ·rw [if_neg e, fnd_drx_other xs e]
theorem dropB (w : World) (o : Nat) (F : List Nat) (most : Int) (ks : List K) (k : K) (hk : Ok k) (h : Oq w o F most ks) : Calls Tryz.prog 108 #[PT o, kv k] w fun x w' => x = .returned (.bool (hs ks k)) ∧ Ch w o F most (dr ks k) w' := by
 by_cases hm : k ∈ ks
 ·rw [hs_yes hm]
  exact dropO_yes w o F most ks k hm h
 ·rw [hs_no hm, dr_no hm]
  exact (dropO_no w o F most ks k hk hm h).mono fun x w' ⟨he, t⟩ => ⟨he, F, h.keep0 t, t.mono (fun _ e => by cases e), Nf.refl _ _⟩
set_option maxHeartbeats 2000000 in
theorem dropM (w : World) (m : Nat) (F : List Nat) (c : Cf) (now : Int) (xs : List En) (h : Mq w m F c now xs) (k : K) (hk : Ok k) :
  Calls Tryz.prog 58 #[PT m, kv k] w fun e w' => e = .returned (.bool (hs (keysL xs) k)) ∧ Mc w m F c now (drx xs k) w' := by
 obtain ⟨b, o, G, rfl, h⟩ := h
 obtain ⟨V, hV⟩ : ∃ V, V = w.alloc (bx k) := ⟨_, rfl⟩
 have TV : Touch [] w V := by rw [hV]; exact (Touch.refl _ _).alloc _
 have hB : V.heap[w.heap.size]? = some (bx k) := by rw [hV]; exact heap_alloc_new w _
 have hV' := h.keep0 TV
 obtain ⟨ob, hu, hmp⟩ := (show MapAt V.drew b _ _ from hV'.mp.kept rfl).del (t := 152) Tryz.underlying152 hk 0
 obtain ⟨W1, hW⟩ : ∃ W1, W1 = setBlock V.drew b ob := ⟨_, rfl⟩
 rw [← hW] at hu hmp
 have T1 : Touch [b] V W1 := by rw [hW]; exact touch_setBlock ((Touch.refl _ _).drew) (Or.inl (by simp)) _
 have hlt := h.lt
 have hbl := hlt b (by simp)
 have O1 : Oq W1 o G c.e (keysL xs) := hV'.oq.keep T1 (fun i hi hh => by simp only [List.mem_singleton] at hh; subst hh; exact h.bg hi)
 have m1 : Md W1 m c now b o := T1.keep hV'.md (by simpa using h.mb.symm)
 have B1 : W1.heap[w.heap.size]? = some (bx k) := T1.keep hB (by simp; omega)
 have HD : Hid (Calls Tryz.prog 108 #[PT o, kv k] W1.drew fun x w' => x = .returned (.bool (hs (keysL xs) k)) ∧ Touch G W1 w' ∧ Mc w m (m :: b :: G) c now (drx xs k) w') := hid ((dropB W1.drew o G c.e (keysL xs) k hk (O1.keep0 (Touch.refl _ _).drew)).mono (by
  rintro x w3 ⟨rfl, G', c1, c2, c3⟩
  have T3 : Touch G W1 w3 := ((Touch.refl G W1).drew).trans' c2
  have hz1 := T1.size
  have hz0 := TV.size
  refine ⟨rfl, T3, m :: b :: G', ⟨b, o, G', rfl, T3.keep m1 h.mg, ?_, ?_, h.gd.drop k, fun hh => (c3 b hh).elim h.bg (fun e => by have : W1.heap.size ≤ b := e; omega)⟩, ?_, fun i hi => ?_⟩
  ·rw [drx_length h.nd, ← del_mpf]
   exact hmp.kept (T3.block b hmp.lt h.bg)
  ·rw [drx_keys]
   exact c1
  ·exact ((TV.mono (fun _ e => by cases e)).trans' (T1.mono (fun i hi => by simp only [List.mem_singleton] at hi; subst hi; simp))).trans' (T3.mono (fun i hi => by simp [hi]))
  ·simp only [List.mem_cons] at hi ⊢
   rcases hi with rfl | rfl | hi
   ·exact Or.inl (Or.inl rfl)
   ·exact Or.inl (Or.inr (Or.inl rfl))
   ·exact (c3 i hi).elim (fun e => Or.inl (Or.inr (Or.inr e))) (fun e => Or.inr (by have : W1.heap.size ≤ i := e; omega))))
 have c8 : V.cell? ⟨m, 8, none⟩ = some (.map (some b)) := hV'.md.cs.c8
 have sA : ∀ w', Touch G W1 w' → w'.cell? ⟨m, 9, none⟩ = some (.pointer (some ⟨o, 0, none⟩)) := fun w' t => (show Md w' m c now b o from t.keep m1 h.mg).cs.c9
 have sB : ∀ w', Touch G W1 w' → w'.cell? ⟨w.heap.size, 0, none⟩ = some (.int .u16 k.1) := fun w' t => by
  have := t.keep B1 (fun hh => by have := hlt w.heap.size (by simp [hh]); omega)
  unfold bx at this
  simp [World.cell?, this]
 have sC : ∀ w', Touch G W1 w' → w'.cell? ⟨w.heap.size, 1, none⟩ = some (.string k.2) := fun w' t => by
  have := t.keep B1 (fun hh => by have := hlt w.heap.size (by simp [hh]); omega)
  unfold bx at this
  simp [World.cell?, this]
 unfold bx at hB
 have b0 : V.cell? ⟨w.heap.size, 0, none⟩ = some (.int .u16 k.1) := by simp [World.cell?, hB]
 have b1 : V.cell? ⟨w.heap.size, 1, none⟩ = some (.string k.2) := by simp [World.cell?, hB]
 clear h hV' hmp T1 O1 m1 B1 hB hW TV
 generalize hs (keysL xs) k = B at *
 unfold PT kv at *
 go_enter Tryz.func58, Tryz.ntmps58
 go_wp2
 unfold bx at hV
 rw [← hV]
 clear hV
 go_region
 clear b0 b1 c8 hu
 go_upto_region 4 with fail
 have t0 : Touch G W1 W1.drew := (Touch.refl _ _).drew
 go_region_held3 (fun w' => Touch G W1 w') (first | assumption | exact (Touch.refl _ _).drew) ((go_at_call 108; refine HD.out.mono ?_; rintro e w3 ⟨rfl, t3, c3⟩; have C3 := hid c3; clear c3))
 go_wp2
 go_ret
 exact ⟨rfl, C3.out⟩
end Go.Proofs.YtkfophlhpjbmgaaGreat.Me
/- The parts' contracts as steps of the group; no conditions but those that each states. -/
namespace Go.Proofs.YtkfophlhpjbmgaaGreat
open Go.RowKit Go.Maps Go.ChangeMaps
section
variable {w w1 : World} {g : Nat} {P : Pt} {F : List Nat} {X : Gp} {N : Cn}
theorem GqE.then0' {w2 : World} (Q : GqE w w1 g P F X N) (T : Touch [] w1 w2) : GqE w w2 g P F X N ∧ Keeps w1 w2 := ⟨Q.then0 T, T.keeps⟩
theorem cur_at (Q : GqE w w1 g P F X N) (k : K) (hk : Ok k) : Calls Tryz.prog 61 #[PT P.t, kv k] w1 fun e w2 => e = .returned (.tuple #[.int .i64 (((Ta.curOf X.T k).map Ta.Rn.run).getD 0), .bool (Ta.curOf X.T k).isSome]) ∧ GqE w w2 g P F X N ∧ Keeps w1 w2 := by
 obtain ⟨Ft, ⟨p, c, g', nc, ng, Ps, rfl, h, hL⟩, hs⟩ := Q.tab
 exact (Ta.tCurrent h k hk).mono (fun e w2 hh => ⟨hh.1, Q.then0' hh.2⟩)
theorem beg_at (Q : GqE w w1 g P F X N) (hN : N.t ≤ 3000000000000) (k : K) (hk : Ok k) {x : Int} (hx : W64 x) (rf : Bool) : Calls Tryz.prog 88 #[PT P.t, kv k, .int .i64 x, .bool rf] w1 fun e w2 => e = .returned (.tuple #[.int .i64 (Ta.tBegN X.T k x rf), .int .i64 (Ta.tBegE X.T k x rf)]) ∧ GqE w w2 g P F (runX X k x rf) { N with t := N.t + 1 } ∧ Keeps w1 w2 := by
 obtain ⟨Ft, h, hs⟩ := Q.tab
 exact (Ta.beginT w1 P.t Ft X.T N.t h hN k hk x hx rf).mono (fun e w2 hh => ⟨hh.1, hs _ _ _ hh.2⟩)
theorem tjoin_at (Q : GqE w w1 g P F X N) (hN : N.t ≤ 3000000000000) {n x : Int} (hn : W64 n) (hx : W64 x) : Calls Tryz.prog 86 #[PT P.t, .int .i64 n, .int .i64 x] w1 fun e w2 => e = .returned (.int .i64 (Ta.tJoinE X.T n x)) ∧ GqE w w2 g P F { X with T := Ta.tJoin X.T n x } { N with t := N.t + 1 } ∧ Keeps w1 w2 := by
 obtain ⟨Ft, h, hs⟩ := Q.tab
 exact (Ta.joinT w1 P.t Ft X.T N.t h hN n x hn hx).mono (fun e w2 hh => ⟨hh.1, hs _ _ _ hh.2⟩)
theorem sit_at (Q : GqE w w1 g P F X N) {x r t : Int} (hx : Lv.Wf (x, r, t)) (hN : N.s ≤ 4400000000000) : Calls Tryz.prog 87 #[PT g, .int .i64 x, .int .i64 r, .int .i64 t] w1 fun e w2 => e = .returned (.tuple #[]) ∧ GqE w w2 g P F (sitX X x r t) { N with s := N.s + 1 } ∧ Keeps w1 w2 := by
 obtain ⟨F1, q1, q2⟩ := Q.go
 exact (sit_ q1 hx hN).mono (fun e w2 hh => ⟨hh.1, q2 _ _ _ hh.2⟩)
theorem begun_at (Q : GqE w w1 g P F X N) {hh r : Int} (hr : W64 r) (hN : N.b ≤ 6000000000000) : Calls Tryz.prog 89 #[PT g, .int .i64 hh, .int .i64 r] w1 fun e w2 => ∃ v, e = .returned (jv (begJ X hh r) v) ∧ Snt w2 v (begJ X hh r).sent ∧ GqE w w2 g P F (begX X r) { N with b := N.b + 1 } ∧ Keeps w1 w2 := by
 obtain ⟨F1, q1, q2⟩ := Q.go
 refine (begun_ q1 hr hN).mono ?_
 rintro e w2 ⟨v, e1, e2, e3⟩
 exact ⟨v, e1, e2, q2 _ _ _ e3⟩
theorem check_at (Q : GqE w w1 g P F X N) (n : Int) : Calls Tryz.prog 43 #[PT g, .int .i64 n] w1 fun e w2 => e = .returned (.int .i64 (tkE X n)) ∧ w2 = w1 := by
 obtain ⟨F1, q1, q2⟩ := Q.go
 exact check_ q1 n
theorem may_at (Q : GqE w w1 g P F X N) (n : Int) (k : K) (hk : Ok k) {x t : Int} (hx : W64 x) (ht : W64 t) : Calls Tryz.prog 40 #[PT g, .int .i64 n, kv k, .int .i64 x, .int .i64 t] w1 fun e w2 => e = .returned (.int .i64 (mayE X n k x t)) ∧ GqE w w2 g P F X N ∧ Keeps w1 w2 := by
 obtain ⟨F1, q1, q2⟩ := Q.go
 exact (may_ q1 n k hk hx ht).mono (fun e w2 hh => ⟨hh.1, Q.then0' hh.2⟩)
structure Tm1 (X : Gp) : Prop where
 a : X.mn ≤ X.now
 b : 0 ≤ X.now
 c : X.now ≤ 4611686018427387904
theorem Tm1.tick {X : Gp} (h : Tm1 X) : Me.tickE X.mn X.now = 0 := by
 have e : Me.isT X.now = true := Me.isT_yes h.b h.c
 unfold Me.tickE
 rw [e, if_pos rfl, if_neg (by have := h.a; omega)]
theorem Tm1.ask {X : Gp} (h : Tm1 X) {k : K} (hk : k.2.size ≤ 64) : Me.askE X.mn X.now k = 0 := by
 unfold Me.askE
 rw [if_pos h.tick, if_neg (by omega)]
theorem look_at (Q : GqE w w1 g P F X N) (ht : Tm1 X) (k : K) (hk : Ok k) (h64 : k.2.size ≤ 64) : Calls Tryz.prog 83 #[PT P.m, .int .i64 X.now, kv k] w1 fun e w2 => e = .returned (.tuple #[Me.lv (seenOf X k), .int .i64 0]) ∧ GqE w w2 g P F { X with mn := X.now } N ∧ Keeps w1 w2 := by
 obtain ⟨Fm, h, hs⟩ := Q.memo
 refine (Me.lookM w1 P.m Fm X.c X.mn X.now X.en h k hk).mono ?_
 rintro e w2 ⟨rfl, q⟩
 unfold Me.askN at q
 unfold Me.askR
 rw [ht.ask h64] at q ⊢
 rw [if_pos rfl] at q ⊢
 have := hs _ _ _ q
 exact ⟨rfl, this.1, this.2.1⟩
theorem tell_at (Q : GqE w w1 g P F X N) (ht : Tm1 X) (k : K) (hk : Ok k) (h64 : k.2.size ≤ 64) : Calls Tryz.prog 85 #[PT P.m, .int .i64 X.now, kv k] w1 fun e w2 => e = .returned (.tuple #[Me.lv (seenOf X k), .int .i64 0]) ∧ GqE w w2 g P F { X with mn := X.now, en := if Me.isUse (seenOf X k).1 then Me.useX X.en k else X.en } N ∧ Keeps w1 w2 ∧ ∀ v xs, Snt w1 v xs → Snt w2 v xs := by
 obtain ⟨Fm, h, hs⟩ := Q.memo
 refine (Me.tellM w1 P.m Fm X.c X.mn X.now X.en h k hk).mono ?_
 rintro e w2 ⟨rfl, q⟩
 unfold Me.askN Me.tellX Me.askR at q
 unfold Me.askR
 rw [ht.ask h64] at q ⊢
 rw [if_pos rfl, if_pos rfl] at q
 rw [if_pos rfl]
 have := hs _ _ _ q
 exact ⟨rfl, this.1, this.2.1, fun v xs hv => ⟨hv.1.memo h this.2.2, hv.2⟩⟩
end
end Go.Proofs.YtkfophlhpjbmgaaGreat
/- The contracts of renew and meet; no conditions but those that each states. -/
namespace Go.Proofs.YtkfophlhpjbmgaaGreat
open Go.RowKit Go.Maps Go.ChangeMaps
structure Bkj (w w' : World) (k : K) : Prop where
 k : w'.heap[w.heap.size]? = some (.cells #[.int .u16 k.1, .string k.2] 38 (0, 0))
 j : w'.heap[w.heap.size + 1]? = some (.cells jz 49 (0, 0))
theorem Bkj.keep {w w1 w2 : World} {k : K} (h : Bkj w w1 k) (hk : Keeps w1 w2) : Bkj w w2 k := ⟨hk _ _ _ _ (by decide) h.k, hk _ _ _ _ (by decide) h.j⟩
theorem Bkj.new (w V : World) (k : K) (hV : V = (w.alloc (Ta.bxK k)).alloc (.cells jz 49)) : Touch [] w V ∧ Bkj w V k := by
 have h0 : V.heap[w.heap.size]? = some (.cells #[.int .u16 k.1, .string k.2] 38 (0, 0)) := by rw [hV]; exact ((Touch.refl [] _).alloc _).keep (heap_alloc_new w _) (by simp)
 have h1 : V.heap[w.heap.size + 1]? = some (.cells jz 49 (0, 0)) := by
  rw [hV]
  have := heap_alloc_new (w.alloc (Ta.bxK k)) (.cells jz 49)
  rwa [World.size_alloc] at this
 exact ⟨by rw [hV]; exact ((Touch.refl _ _).alloc _).alloc _, h0, h1⟩
structure Kg (w' : World) (g : Nat) (P : Pt) (now : Int) (b : Nat) (k : K) : Prop where
 gm : GmC w' g P now
 k0 : w'.cell? ⟨b, 0, none⟩ = some (.int .u16 k.1)
 k1 : w'.cell? ⟨b, 1, none⟩ = some (.string k.2)
theorem Bkj.kg {w w1 : World} {k : K} {g : Nat} {P : Pt} {F : List Nat} {X : Gp} {N : Cn} (h : Bkj w w1 k) (Q : GqE w w1 g P F X N) : Kg w1 g P X.now w.heap.size k := ⟨Q.cs, cell_at h.k rfl, cell_at h.k rfl⟩
theorem runX_no {X : Gp} {k : K} {x : Int} {rf : Bool} (h : Ta.tBegE X.T k x rf ≠ 0) : runX X k x rf = X := by
 unfold runX Ta.tBeg
 rw [if_neg h]
theorem Snt.nil (w : World) : Snt w (.slice none 0 0) [] := ⟨Rd.nil w, _, _, _, rfl⟩
theorem Snt.put {w w' : World} {v : Value} {xs : List Int} {k : Nat} {cs : Array Value} {t : TypeId} {z : Nat × Nat} (h : Snt w v xs) (hb : w.heap[k]? = some (.cells cs t z)) (ht : t ≠ 3) (T : Touch [k] w w') : Snt w' v xs := ⟨h.1.box hb ht T, h.2⟩
section
variable {w : World} {g : Nat} {P : Pt} {F : List Nat} {X : Gp} {N : Cn}
set_option maxHeartbeats 8000000 in
theorem renew_ (h : Gq w g P F X N) (k : K) (hk : Ok k) (hN : N.t ≤ 2900000000000) (hB : N.b ≤ 6000000000000) : Calls Tryz.prog 127 #[PT g, kv k] w fun e w' => ∃ v, e = .returned (.tuple #[jv (renJ X k) v, .bool (renB X k)]) ∧ Snt w' v (renJ X k).sent ∧ GqE w w' g P F (renX X k) (renC X k N) := by
 obtain ⟨V, hV⟩ : ∃ V, V = (w.alloc (Ta.bxK k)).alloc (.cells jz 49) := ⟨_, rfl⟩
 obtain ⟨tv, hb⟩ := Bkj.new w V k hV
 have Q0 : GqE w V.drew g P F X N := GqE.same h tv.drew
 have B0 : Bkj w V.drew k := hb.keep ((Touch.refl [] V).drew).keeps
 have hbg : W64 (X.T.bg + 1) := by
  have := h.iv.2.1.bg
  exact W64.mk (by omega) (by omega)
 have HC : Hid (Calls Tryz.prog 61 #[PT P.t, kv k] V.drew fun e w2 => e = .returned (.tuple #[.int .i64 (((Ta.curOf X.T k).map Ta.Rn.run).getD 0), .bool (Ta.curOf X.T k).isSome]) ∧ GqE w w2 g P F X N ∧ Bkj w w2 k) := hid ((cur_at Q0 k hk).mono (fun e w2 hh => ⟨hh.1, hh.2.1, B0.keep hh.2.2⟩))
 have HB : Hid (∀ w1, GqE w w1 g P F X N → Bkj w w1 k → Calls Tryz.prog 88 #[PT P.t, kv k, .int .i64 0, .bool true] w1.drew fun e w2 => e = .returned (.tuple #[.int .i64 (Ta.tBegN X.T k 0 true), .int .i64 (Ta.tBegE X.T k 0 true)]) ∧ GqE w w2 g P F (runX X k 0 true) { N with t := N.t + 1 } ∧ Bkj w w2 k) := hid (fun w1 Q B => (beg_at (Q.then0 (Touch.refl _ _).drew) (by omega) k hk (W64.mk (by omega) (by omega)) true).mono (fun e w2 hh => ⟨hh.1, hh.2.1, (B.keep ((Touch.refl [] w1).drew).keeps).keep hh.2.2⟩))
 have HG : Hid (∀ w1, GqE w w1 g P F (runX X k 0 true) { N with t := N.t + 1 } → Bkj w w1 k → Calls Tryz.prog 89 #[PT g, .int .i64 2, .int .i64 (X.T.bg + 1)] w1 fun e w2 => ∃ v, e = .returned (jv (begJ X 2 (X.T.bg + 1)) v) ∧ Snt w2 v (begJ X 2 (X.T.bg + 1)).sent ∧ GqE w w2 g P F (begX (runX X k 0 true) (X.T.bg + 1)) ⟨N.t + 1, N.b + 1, N.s⟩ ∧ Bkj w w2 k) := hid (fun w1 Q B => by
  refine (begun_at Q hbg hB).mono ?_
  rintro e w2 ⟨v, e1, e2, e3, e4⟩
  exact ⟨v, e1, e2, e3, B.keep e4⟩)
 have HF : Hid (∀ w2 w3 v xs Y M, GqE w w2 g P F Y M → Bkj w w2 k → Snt w2 v xs → Touch [w.heap.size + 1] w2 w3 → Snt w3 v xs ∧ GqE w w3 g P F Y M) := hid (fun w2 w3 v xs Y M Q B s T => ⟨s.put B.j (by decide) T, Q.put B.j (by decide) (by omega) T⟩)
 have HN : Hid (∀ w2, Snt w2 (.slice none 0 0) []) := hid (fun w2 => Snt.nil w2)
 have HK : Hid (∀ w2 Y M, GqE w w2 g P F Y M → Y.now = X.now → Bkj w w2 k → Kg w2 g P X.now w.heap.size k ∧ w2.heap[w.heap.size + 1]? = some (.cells jz 49 (0, 0))) := hid (fun w2 Y M Q e B => ⟨by have := B.kg Q; rwa [e] at this, B.j⟩)
 have s0 : Kg V.drew g P X.now w.heap.size k := B0.kg Q0
 have C1 : ∀ w', Kg w' g P X.now w.heap.size k → w'.cell? ⟨g, 1, none⟩ = some (.pointer (some ⟨P.t, 0, none⟩)) := fun _ h => h.gm.c1
 have K0 : ∀ w', Kg w' g P X.now w.heap.size k → w'.cell? ⟨w.heap.size, 0, none⟩ = some (.int .u16 k.1) := fun _ h => h.k0
 have K1 : ∀ w', Kg w' g P X.now w.heap.size k → w'.cell? ⟨w.heap.size, 1, none⟩ = some (.string k.2) := fun _ h => h.k1
 clear h Q0 B0 tv hb hk hN hB hbg
 unfold renJ renB renX renC
 unfold Ta.bxK jz at hV
 unfold jz at HK
 unfold jv jcs at *
 unfold kv PT at *
 cases hc : Ta.curOf X.T k with
 | some R =>
  rw [hc] at HC
  simp only [Option.map_some, Option.getD_some, Option.isSome_some, Bool.true_or] at HC ⊢
  clear HB HG hc
  go_enter Tryz.func127, Tryz.ntmps127
  go_upto_region 1 with fail
  rw [← hV]
  clear hV
  refine wp_region_H (S := fun w' => Kg w' g P X.now w.heap.size k) (by kernel_rfl) ?_
  refine wpH_take (i := 0) (v := (.pointer (some ⟨g, 0, none⟩))) (some 11) rfl rfl (by kernel_rfl) (by kernel_rfl) (by kernel_rfl) (fun _ _ _ h => h) (Or.inl ⟨by rfl, fun w' hS => (by go_simp)⟩) s0 ?_
  try simp only [Go.Act.put, Zx, Zy, Zz]
  refine wpH_take (i := 1) (v := (.pointer (some ⟨g, 0, none⟩))) (some 12) rfl rfl (by kernel_rfl) (by kernel_rfl) (by kernel_rfl) (fun _ _ _ h => h) (Or.inl ⟨by rfl, fun w' hS => (by go_simp)⟩) s0 ?_
  try simp only [Go.Act.put, Zx, Zy, Zz]
  refine wpH_take (i := 2) (v := (.pointer (some ⟨g, 0, none⟩))) (some 13) rfl rfl (by kernel_rfl) (by kernel_rfl) (by kernel_rfl) (fun _ _ _ h => h) (Or.inl ⟨by rfl, fun w' hS => (by go_simp)⟩) s0 ?_
  try simp only [Go.Act.put, Zx, Zy, Zz]
  refine wpH_take (i := 3) (v := (.pointer (some ⟨g, 1, none⟩))) (some 14) rfl rfl (by kernel_rfl) (by kernel_rfl) (by kernel_rfl) (fun _ _ _ h => h) (Or.inl ⟨by rfl, fun w' hS => (by go_simp)⟩) s0 ?_
  try simp only [Go.Act.put, Zx, Zy, Zz]
  refine wpH_take (i := 4) (v := (.pointer (some ⟨P.t, 0, none⟩))) (some 15) rfl rfl (by kernel_rfl) (by kernel_rfl) (by kernel_rfl) (fun _ _ _ h => h) (Or.inl ⟨by rfl, fun w' hS => (by have z0 := C1 _ hS; go_simp)⟩) s0 ?_
  try simp only [Go.Act.put, Zx, Zy, Zz]
  refine wpH_take (i := 5) (v := (.agg #[.int .u16 k.1, .string k.2])) (some 16) rfl rfl (by kernel_rfl) (by kernel_rfl) (by kernel_rfl) (fun _ _ _ h => h) (Or.inl ⟨by rfl, fun w' hS => (by have z0 := K0 _ hS; have z1 := K1 _ hS; go_simp)⟩) s0 ?_
  try simp only [Go.Act.put, Zx, Zy, Zz]
  refine wpH_call (i := 6) (o := { dst := some 17, op := Op.call { callee := Callee.value (Operand.func 61), args := #[Operand.tmp 15, Operand.tmp 16], argTypes := #[113, 38] }, type := 81, pos := _, after := #[{ on := 4, ground := Ground.data }, { on := 5, ground := Ground.data }], guard := none }) (by kernel_rfl) rfl (fun K' hK => ?_)
  rw [if_pos (by rfl)]
  go_simp
  refine HC.out.mono ?_
  rintro e w2 ⟨rfl, q2, b2⟩
  obtain ⟨s2, hbj⟩ := HK.out _ _ _ q2 rfl b2
  have Q2 := hid q2
  have B2 := hid b2
  clear q2 b2
  refine hK.out _ _ s2 ?_
  clear hK
  try simp only [Go.Act.put, Zx, Zy, Zz]
  refine wpH_take (i := 7) (v := (.tuple #[(.int .i64 R.run), (.bool true)])) (some 10) rfl rfl (by kernel_rfl) (by kernel_rfl) (by kernel_rfl) (fun _ _ _ h => h) (Or.inl ⟨by rfl, fun w' hS => (by go_simp)⟩) s2 ?_
  try simp only [Go.Act.put, Zx, Zy, Zz]
  refine wpH_take (i := 8) (v := (.int .i64 R.run)) (some 18) rfl rfl (by kernel_rfl) (by kernel_rfl) (by kernel_rfl) (fun _ _ _ h => h) (Or.inl ⟨by rfl, fun w' hS => (by go_simp)⟩) s2 ?_
  try simp only [Go.Act.put, Zx, Zy, Zz]
  refine wpH_take (i := 9) (v := (.bool true)) (some 19) rfl rfl (by kernel_rfl) (by kernel_rfl) (by kernel_rfl) (fun _ _ _ h => h) (Or.inl ⟨by rfl, fun w' hS => (by go_simp)⟩) s2 ?_
  try simp only [Go.Act.put, Zx, Zy, Zz]
  refine wpH_take (i := 10) (v := (.int .i64 R.run)) (some 6) rfl rfl (by kernel_rfl) (by kernel_rfl) (by kernel_rfl) (fun _ _ _ h => h) (Or.inl ⟨by rfl, fun w' hS => (by go_simp)⟩) s2 ?_
  try simp only [Go.Act.put, Zx, Zy, Zz]
  refine wpH_take (i := 11) (v := (.bool true)) (some 7) rfl rfl (by kernel_rfl) (by kernel_rfl) (by kernel_rfl) (fun _ _ _ h => h) (Or.inl ⟨by rfl, fun w' hS => (by go_simp)⟩) s2 ?_
  try simp only [Go.Act.put, Zx, Zy, Zz]
  refine wpAnyH_done (by kernel_rfl) ?_ _
  clear C1 K0 K1 s0 s2
  have d0 := cell_at (j := 0) hbj rfl
  have d1 := cell_at (j := 1) hbj rfl
  have d2 := cell_at (j := 2) hbj rfl
  have d3 := cell_at (j := 3) hbj rfl
  have d4 := cell_at (j := 4) hbj rfl
  have d5 := cell_at (j := 5) hbj rfl
  have d6 := cell_at (j := 6) hbj rfl
  have d7 := cell_at (j := 7) hbj rfl
  have df := froz_at hbj
  clear hbj
  go_wp2
  exact bodyPost_ret (v := .tuple #[.agg #[.int .i64 2, .int .i64 R.run, .bool false, .int .i64 0, .int .i64 0, .int .i64 0, .int .i64 0, .slice none 0 0], .bool true]) (by simp [results, Tryz.results127, go_sem, d0, d1, d2, d3, d4, d5, d6, d7]) rfl ⟨_, rfl, HF.out _ _ _ _ _ _ Q2.out B2.out (HN.out _) (((((((((Touch.refl _ _).setCell (Or.inl (by simp)) _).setCell (Or.inl (by simp)) _).setCell (Or.inl (by simp)) _).setCell (Or.inl (by simp)) _).setCell (Or.inl (by simp)) _).setCell (Or.inl (by simp)) _).setCell (Or.inl (by simp)) _).setCell (Or.inl (by simp)) _)⟩
 | none =>
  rw [hc] at HC
  simp only [Option.map_none, Option.getD_none, Option.isSome_none, Bool.false_or] at HC ⊢
  clear hc
  by_cases hz : Ta.tBegE X.T k 0 true = 0
  ·rw [if_pos hz, if_pos hz, if_pos hz, decide_eq_true hz]
   have hn : Ta.tBegN X.T k 0 true = X.T.bg + 1 := by unfold Ta.tBegN; rw [if_pos hz]
   rw [hz, hn] at HB
   clear hz hn
   have e1 : (begJ X 2 (X.T.bg + 1)).how = 2 := rfl
   have e2 : (begJ X 2 (X.T.bg + 1)).run = X.T.bg + 1 := rfl
   have e3 : (begJ X 2 (X.T.bg + 1)).bg = true := rfl
   have e4 : (begJ X 2 (X.T.bg + 1)).o = (0, 0, 0, 0) := rfl
   rw [e1, e2, e3, e4] at HG
   rw [e1, e2, e3, e4]
   clear e1 e2 e3 e4
   simp only at HG ⊢
   generalize (begJ X 2 (X.T.bg + 1)).sent = ss at *
   generalize hY : begX (runX X k 0 true) (X.T.bg + 1) = Y at *
   have hY2 : Y.now = X.now := by rw [← hY]; rfl
   have HK2 := hid (fun w2 Q B => (HK.out w2 Y ⟨N.t + 1, N.b + 1, N.s⟩ Q hY2 B).2)
   clear hY hY2
   generalize X.T.bg + 1 = r at *
   go_enter Tryz.func127, Tryz.ntmps127
   go_upto_region 1 with fail
   rw [← hV]
   clear hV
   refine wp_region_H (S := fun w' => Kg w' g P X.now w.heap.size k) (by kernel_rfl) ?_
   refine wpH_take (i := 0) (v := (.pointer (some ⟨g, 0, none⟩))) (some 11) rfl rfl (by kernel_rfl) (by kernel_rfl) (by kernel_rfl) (fun _ _ _ h => h) (Or.inl ⟨by rfl, fun w' hS => (by go_simp)⟩) s0 ?_
   try simp only [Go.Act.put, Zx, Zy, Zz]
   refine wpH_take (i := 1) (v := (.pointer (some ⟨g, 0, none⟩))) (some 12) rfl rfl (by kernel_rfl) (by kernel_rfl) (by kernel_rfl) (fun _ _ _ h => h) (Or.inl ⟨by rfl, fun w' hS => (by go_simp)⟩) s0 ?_
   try simp only [Go.Act.put, Zx, Zy, Zz]
   refine wpH_take (i := 2) (v := (.pointer (some ⟨g, 0, none⟩))) (some 13) rfl rfl (by kernel_rfl) (by kernel_rfl) (by kernel_rfl) (fun _ _ _ h => h) (Or.inl ⟨by rfl, fun w' hS => (by go_simp)⟩) s0 ?_
   try simp only [Go.Act.put, Zx, Zy, Zz]
   refine wpH_take (i := 3) (v := (.pointer (some ⟨g, 1, none⟩))) (some 14) rfl rfl (by kernel_rfl) (by kernel_rfl) (by kernel_rfl) (fun _ _ _ h => h) (Or.inl ⟨by rfl, fun w' hS => (by go_simp)⟩) s0 ?_
   try simp only [Go.Act.put, Zx, Zy, Zz]
   refine wpH_take (i := 4) (v := (.pointer (some ⟨P.t, 0, none⟩))) (some 15) rfl rfl (by kernel_rfl) (by kernel_rfl) (by kernel_rfl) (fun _ _ _ h => h) (Or.inl ⟨by rfl, fun w' hS => (by have z0 := C1 _ hS; go_simp)⟩) s0 ?_
   try simp only [Go.Act.put, Zx, Zy, Zz]
   refine wpH_take (i := 5) (v := (.agg #[.int .u16 k.1, .string k.2])) (some 16) rfl rfl (by kernel_rfl) (by kernel_rfl) (by kernel_rfl) (fun _ _ _ h => h) (Or.inl ⟨by rfl, fun w' hS => (by have z0 := K0 _ hS; have z1 := K1 _ hS; go_simp)⟩) s0 ?_
   try simp only [Go.Act.put, Zx, Zy, Zz]
   refine wpH_call (i := 6) (o := { dst := some 17, op := Op.call { callee := Callee.value (Operand.func 61), args := #[Operand.tmp 15, Operand.tmp 16], argTypes := #[113, 38] }, type := 81, pos := _, after := #[{ on := 4, ground := Ground.data }, { on := 5, ground := Ground.data }], guard := none }) (by kernel_rfl) rfl (fun K' hK => ?_)
   rw [if_pos (by rfl)]
   go_simp
   refine HC.out.mono ?_
   rintro e w2 ⟨rfl, q2, b2⟩
   obtain ⟨s2, hbj⟩ := HK.out _ _ _ q2 rfl b2
   have Q2 := hid q2
   have B2 := hid b2
   clear q2 b2
   refine hK.out _ _ s2 ?_
   clear hK
   try simp only [Go.Act.put, Zx, Zy, Zz]
   refine wpH_take (i := 7) (v := (.tuple #[(.int .i64 0), (.bool false)])) (some 10) rfl rfl (by kernel_rfl) (by kernel_rfl) (by kernel_rfl) (fun _ _ _ h => h) (Or.inl ⟨by rfl, fun w' hS => (by go_simp)⟩) s2 ?_
   try simp only [Go.Act.put, Zx, Zy, Zz]
   refine wpH_take (i := 8) (v := (.int .i64 0)) (some 18) rfl rfl (by kernel_rfl) (by kernel_rfl) (by kernel_rfl) (fun _ _ _ h => h) (Or.inl ⟨by rfl, fun w' hS => (by go_simp)⟩) s2 ?_
   try simp only [Go.Act.put, Zx, Zy, Zz]
   refine wpH_take (i := 9) (v := (.bool false)) (some 19) rfl rfl (by kernel_rfl) (by kernel_rfl) (by kernel_rfl) (fun _ _ _ h => h) (Or.inl ⟨by rfl, fun w' hS => (by go_simp)⟩) s2 ?_
   try simp only [Go.Act.put, Zx, Zy, Zz]
   refine wpH_take (i := 10) (v := (.int .i64 0)) (some 6) rfl rfl (by kernel_rfl) (by kernel_rfl) (by kernel_rfl) (fun _ _ _ h => h) (Or.inl ⟨by rfl, fun w' hS => (by go_simp)⟩) s2 ?_
   try simp only [Go.Act.put, Zx, Zy, Zz]
   refine wpH_take (i := 11) (v := (.bool false)) (some 7) rfl rfl (by kernel_rfl) (by kernel_rfl) (by kernel_rfl) (fun _ _ _ h => h) (Or.inl ⟨by rfl, fun w' hS => (by go_simp)⟩) s2 ?_
   try simp only [Go.Act.put, Zx, Zy, Zz]
   refine wpAnyH_done (by kernel_rfl) ?_ _
   clear hbj
   go_upto_region 4 with fail
   have s2' : Kg w2.drew g P X.now w.heap.size k := ⟨⟨s2.gm.c0, s2.gm.c1, s2.gm.c2, s2.gm.c3, s2.gm.c4, s2.gm.f4⟩, s2.k0, s2.k1⟩
   refine wp_region_H (S := fun w' => Kg w' g P X.now w.heap.size k) (by kernel_rfl) ?_
   refine wpH_take (i := 0) (v := (.pointer (some ⟨g, 0, none⟩))) (some 24) rfl rfl (by kernel_rfl) (by kernel_rfl) (by kernel_rfl) (fun _ _ _ h => h) (Or.inl ⟨by rfl, fun w' hS => (by go_simp)⟩) s2' ?_
   try simp only [Go.Act.put, Zx, Zy, Zz]
   refine wpH_take (i := 1) (v := (.pointer (some ⟨g, 0, none⟩))) (some 25) rfl rfl (by kernel_rfl) (by kernel_rfl) (by kernel_rfl) (fun _ _ _ h => h) (Or.inl ⟨by rfl, fun w' hS => (by go_simp)⟩) s2' ?_
   try simp only [Go.Act.put, Zx, Zy, Zz]
   refine wpH_take (i := 2) (v := (.pointer (some ⟨g, 0, none⟩))) (some 26) rfl rfl (by kernel_rfl) (by kernel_rfl) (by kernel_rfl) (fun _ _ _ h => h) (Or.inl ⟨by rfl, fun w' hS => (by go_simp)⟩) s2' ?_
   try simp only [Go.Act.put, Zx, Zy, Zz]
   refine wpH_take (i := 3) (v := (.pointer (some ⟨g, 1, none⟩))) (some 27) rfl rfl (by kernel_rfl) (by kernel_rfl) (by kernel_rfl) (fun _ _ _ h => h) (Or.inl ⟨by rfl, fun w' hS => (by go_simp)⟩) s2' ?_
   try simp only [Go.Act.put, Zx, Zy, Zz]
   refine wpH_take (i := 4) (v := (.pointer (some ⟨P.t, 0, none⟩))) (some 28) rfl rfl (by kernel_rfl) (by kernel_rfl) (by kernel_rfl) (fun _ _ _ h => h) (Or.inl ⟨by rfl, fun w' hS => (by have z0 := C1 _ hS; go_simp)⟩) s2' ?_
   try simp only [Go.Act.put, Zx, Zy, Zz]
   refine wpH_take (i := 5) (v := (.agg #[.int .u16 k.1, .string k.2])) (some 29) rfl rfl (by kernel_rfl) (by kernel_rfl) (by kernel_rfl) (fun _ _ _ h => h) (Or.inl ⟨by rfl, fun w' hS => (by have z0 := K0 _ hS; have z1 := K1 _ hS; go_simp)⟩) s2' ?_
   try simp only [Go.Act.put, Zx, Zy, Zz]
   refine wpH_call (i := 6) (o := { dst := some 30, op := Op.call { callee := Callee.value (Operand.func 88), args := #[Operand.tmp 28, Operand.tmp 29, Operand.const (Value.int IntKind.i64 0), Operand.const (Value.bool true)], argTypes := #[113, 38, 3, 4] }, type := 167, pos := _, after := #[{ on := 4, ground := Ground.data }, { on := 5, ground := Ground.data }], guard := none }) (by kernel_rfl) rfl (fun K' hK => ?_)
   rw [if_pos (by rfl)]
   go_simp
   refine (HB.out _ Q2.out B2.out).mono ?_
   rintro e w3 ⟨rfl, q3, b3⟩
   obtain ⟨s3, hbj⟩ := HK.out _ _ _ q3 rfl b3
   have Q3 := hid q3
   have B3 := hid b3
   clear q3 b3
   refine hK.out _ _ s3 ?_
   clear hK
   try simp only [Go.Act.put, Zx, Zy, Zz]
   refine wpH_take (i := 7) (v := (.tuple #[(.int .i64 r), (.int .i64 0)])) (some 23) rfl rfl (by kernel_rfl) (by kernel_rfl) (by kernel_rfl) (fun _ _ _ h => h) (Or.inl ⟨by rfl, fun w' hS => (by go_simp)⟩) s3 ?_
   try simp only [Go.Act.put, Zx, Zy, Zz]
   refine wpH_take (i := 8) (v := (.int .i64 r)) (some 31) rfl rfl (by kernel_rfl) (by kernel_rfl) (by kernel_rfl) (fun _ _ _ h => h) (Or.inl ⟨by rfl, fun w' hS => (by go_simp)⟩) s3 ?_
   try simp only [Go.Act.put, Zx, Zy, Zz]
   refine wpH_take (i := 9) (v := (.int .i64 0)) (some 32) rfl rfl (by kernel_rfl) (by kernel_rfl) (by kernel_rfl) (fun _ _ _ h => h) (Or.inl ⟨by rfl, fun w' hS => (by go_simp)⟩) s3 ?_
   try simp only [Go.Act.put, Zx, Zy, Zz]
   refine wpH_take (i := 10) (v := (.int .i64 r)) (some 8) rfl rfl (by kernel_rfl) (by kernel_rfl) (by kernel_rfl) (fun _ _ _ h => h) (Or.inl ⟨by rfl, fun w' hS => (by go_simp)⟩) s3 ?_
   try simp only [Go.Act.put, Zx, Zy, Zz]
   refine wpH_take (i := 11) (v := (.int .i64 0)) (some 9) rfl rfl (by kernel_rfl) (by kernel_rfl) (by kernel_rfl) (fun _ _ _ h => h) (Or.inl ⟨by rfl, fun w' hS => (by go_simp)⟩) s3 ?_
   try simp only [Go.Act.put, Zx, Zy, Zz]
   refine wpAnyH_done (by kernel_rfl) ?_ _
   clear C1 K0 K1 s0 s2 s2' s3 hbj
   go_wp2_with (go_at_call 89; refine (HG.out _ Q3.out B3.out).mono ?_; rintro e w4 ⟨v, rfl, n4, q4, b4⟩; have hbj := HK2.out _ q4 b4; have N4 := hid n4; have Q4 := hid q4; have B4 := hid b4; obtain ⟨va, vn, vc, rfl⟩ := n4.2; clear n4 q4 b4; have d0 := cell_at (j := 0) hbj rfl; have d1 := cell_at (j := 1) hbj rfl; have d2 := cell_at (j := 2) hbj rfl; have d3 := cell_at (j := 3) hbj rfl; have d4 := cell_at (j := 4) hbj rfl; have d5 := cell_at (j := 5) hbj rfl; have d6 := cell_at (j := 6) hbj rfl; have d7 := cell_at (j := 7) hbj rfl; have df := froz_at hbj; clear hbj)
   exact bodyPost_ret (v := .tuple #[.agg #[.int .i64 2, .int .i64 r, .bool true, .int .i64 0, .int .i64 0, .int .i64 0, .int .i64 0, .slice va vn vc], .bool true]) (by simp [results, Tryz.results127, go_sem, d0, d1, d2, d3, d4, d5, d6, d7]) rfl ⟨_, rfl, HF.out _ _ _ _ _ _ Q4.out B4.out N4.out (((((((((Touch.refl _ _).setCell (Or.inl (by simp)) _).setCell (Or.inl (by simp)) _).setCell (Or.inl (by simp)) _).setCell (Or.inl (by simp)) _).setCell (Or.inl (by simp)) _).setCell (Or.inl (by simp)) _).setCell (Or.inl (by simp)) _).setCell (Or.inl (by simp)) _)⟩
  ·rw [if_neg hz, if_neg hz, if_neg hz, decide_eq_false hz]
   rw [runX_no hz] at HB
   have hz' : (Ta.tBegE X.T k 0 true != 0) = true := by simp [hz]
   have e1 : Jd.z.how = 0 := rfl
   have e2 : Jd.z.run = 0 := rfl
   have e3 : Jd.z.bg = false := rfl
   have e4 : Jd.z.o = (0, 0, 0, 0) := rfl
   have e5 : Jd.z.sent = [] := rfl
   rw [e1, e2, e3, e4, e5]
   clear e1 e2 e3 e4 e5 HG hz
   generalize Ta.tBegE X.T k 0 true = E at *
   generalize Ta.tBegN X.T k 0 true = r at *
   go_enter Tryz.func127, Tryz.ntmps127
   go_upto_region 1 with fail
   rw [← hV]
   clear hV
   refine wp_region_H (S := fun w' => Kg w' g P X.now w.heap.size k) (by kernel_rfl) ?_
   refine wpH_take (i := 0) (v := (.pointer (some ⟨g, 0, none⟩))) (some 11) rfl rfl (by kernel_rfl) (by kernel_rfl) (by kernel_rfl) (fun _ _ _ h => h) (Or.inl ⟨by rfl, fun w' hS => (by go_simp)⟩) s0 ?_
   try simp only [Go.Act.put, Zx, Zy, Zz]
   refine wpH_take (i := 1) (v := (.pointer (some ⟨g, 0, none⟩))) (some 12) rfl rfl (by kernel_rfl) (by kernel_rfl) (by kernel_rfl) (fun _ _ _ h => h) (Or.inl ⟨by rfl, fun w' hS => (by go_simp)⟩) s0 ?_
   try simp only [Go.Act.put, Zx, Zy, Zz]
   refine wpH_take (i := 2) (v := (.pointer (some ⟨g, 0, none⟩))) (some 13) rfl rfl (by kernel_rfl) (by kernel_rfl) (by kernel_rfl) (fun _ _ _ h => h) (Or.inl ⟨by rfl, fun w' hS => (by go_simp)⟩) s0 ?_
   try simp only [Go.Act.put, Zx, Zy, Zz]
   refine wpH_take (i := 3) (v := (.pointer (some ⟨g, 1, none⟩))) (some 14) rfl rfl (by kernel_rfl) (by kernel_rfl) (by kernel_rfl) (fun _ _ _ h => h) (Or.inl ⟨by rfl, fun w' hS => (by go_simp)⟩) s0 ?_
   try simp only [Go.Act.put, Zx, Zy, Zz]
   refine wpH_take (i := 4) (v := (.pointer (some ⟨P.t, 0, none⟩))) (some 15) rfl rfl (by kernel_rfl) (by kernel_rfl) (by kernel_rfl) (fun _ _ _ h => h) (Or.inl ⟨by rfl, fun w' hS => (by have z0 := C1 _ hS; go_simp)⟩) s0 ?_
   try simp only [Go.Act.put, Zx, Zy, Zz]
   refine wpH_take (i := 5) (v := (.agg #[.int .u16 k.1, .string k.2])) (some 16) rfl rfl (by kernel_rfl) (by kernel_rfl) (by kernel_rfl) (fun _ _ _ h => h) (Or.inl ⟨by rfl, fun w' hS => (by have z0 := K0 _ hS; have z1 := K1 _ hS; go_simp)⟩) s0 ?_
   try simp only [Go.Act.put, Zx, Zy, Zz]
   refine wpH_call (i := 6) (o := { dst := some 17, op := Op.call { callee := Callee.value (Operand.func 61), args := #[Operand.tmp 15, Operand.tmp 16], argTypes := #[113, 38] }, type := 81, pos := _, after := #[{ on := 4, ground := Ground.data }, { on := 5, ground := Ground.data }], guard := none }) (by kernel_rfl) rfl (fun K' hK => ?_)
   rw [if_pos (by rfl)]
   go_simp
   refine HC.out.mono ?_
   rintro e w2 ⟨rfl, q2, b2⟩
   obtain ⟨s2, hbj⟩ := HK.out _ _ _ q2 rfl b2
   have Q2 := hid q2
   have B2 := hid b2
   clear q2 b2
   refine hK.out _ _ s2 ?_
   clear hK
   try simp only [Go.Act.put, Zx, Zy, Zz]
   refine wpH_take (i := 7) (v := (.tuple #[(.int .i64 0), (.bool false)])) (some 10) rfl rfl (by kernel_rfl) (by kernel_rfl) (by kernel_rfl) (fun _ _ _ h => h) (Or.inl ⟨by rfl, fun w' hS => (by go_simp)⟩) s2 ?_
   try simp only [Go.Act.put, Zx, Zy, Zz]
   refine wpH_take (i := 8) (v := (.int .i64 0)) (some 18) rfl rfl (by kernel_rfl) (by kernel_rfl) (by kernel_rfl) (fun _ _ _ h => h) (Or.inl ⟨by rfl, fun w' hS => (by go_simp)⟩) s2 ?_
   try simp only [Go.Act.put, Zx, Zy, Zz]
   refine wpH_take (i := 9) (v := (.bool false)) (some 19) rfl rfl (by kernel_rfl) (by kernel_rfl) (by kernel_rfl) (fun _ _ _ h => h) (Or.inl ⟨by rfl, fun w' hS => (by go_simp)⟩) s2 ?_
   try simp only [Go.Act.put, Zx, Zy, Zz]
   refine wpH_take (i := 10) (v := (.int .i64 0)) (some 6) rfl rfl (by kernel_rfl) (by kernel_rfl) (by kernel_rfl) (fun _ _ _ h => h) (Or.inl ⟨by rfl, fun w' hS => (by go_simp)⟩) s2 ?_
   try simp only [Go.Act.put, Zx, Zy, Zz]
   refine wpH_take (i := 11) (v := (.bool false)) (some 7) rfl rfl (by kernel_rfl) (by kernel_rfl) (by kernel_rfl) (fun _ _ _ h => h) (Or.inl ⟨by rfl, fun w' hS => (by go_simp)⟩) s2 ?_
   try simp only [Go.Act.put, Zx, Zy, Zz]
   refine wpAnyH_done (by kernel_rfl) ?_ _
   clear hbj
   go_upto_region 4 with fail
   have s2' : Kg w2.drew g P X.now w.heap.size k := ⟨⟨s2.gm.c0, s2.gm.c1, s2.gm.c2, s2.gm.c3, s2.gm.c4, s2.gm.f4⟩, s2.k0, s2.k1⟩
   refine wp_region_H (S := fun w' => Kg w' g P X.now w.heap.size k) (by kernel_rfl) ?_
   refine wpH_take (i := 0) (v := (.pointer (some ⟨g, 0, none⟩))) (some 24) rfl rfl (by kernel_rfl) (by kernel_rfl) (by kernel_rfl) (fun _ _ _ h => h) (Or.inl ⟨by rfl, fun w' hS => (by go_simp)⟩) s2' ?_
   try simp only [Go.Act.put, Zx, Zy, Zz]
   refine wpH_take (i := 1) (v := (.pointer (some ⟨g, 0, none⟩))) (some 25) rfl rfl (by kernel_rfl) (by kernel_rfl) (by kernel_rfl) (fun _ _ _ h => h) (Or.inl ⟨by rfl, fun w' hS => (by go_simp)⟩) s2' ?_
   try simp only [Go.Act.put, Zx, Zy, Zz]
   refine wpH_take (i := 2) (v := (.pointer (some ⟨g, 0, none⟩))) (some 26) rfl rfl (by kernel_rfl) (by kernel_rfl) (by kernel_rfl) (fun _ _ _ h => h) (Or.inl ⟨by rfl, fun w' hS => (by go_simp)⟩) s2' ?_
   try simp only [Go.Act.put, Zx, Zy, Zz]
   refine wpH_take (i := 3) (v := (.pointer (some ⟨g, 1, none⟩))) (some 27) rfl rfl (by kernel_rfl) (by kernel_rfl) (by kernel_rfl) (fun _ _ _ h => h) (Or.inl ⟨by rfl, fun w' hS => (by go_simp)⟩) s2' ?_
   try simp only [Go.Act.put, Zx, Zy, Zz]
   refine wpH_take (i := 4) (v := (.pointer (some ⟨P.t, 0, none⟩))) (some 28) rfl rfl (by kernel_rfl) (by kernel_rfl) (by kernel_rfl) (fun _ _ _ h => h) (Or.inl ⟨by rfl, fun w' hS => (by have z0 := C1 _ hS; go_simp)⟩) s2' ?_
   try simp only [Go.Act.put, Zx, Zy, Zz]
   refine wpH_take (i := 5) (v := (.agg #[.int .u16 k.1, .string k.2])) (some 29) rfl rfl (by kernel_rfl) (by kernel_rfl) (by kernel_rfl) (fun _ _ _ h => h) (Or.inl ⟨by rfl, fun w' hS => (by have z0 := K0 _ hS; have z1 := K1 _ hS; go_simp)⟩) s2' ?_
   try simp only [Go.Act.put, Zx, Zy, Zz]
   refine wpH_call (i := 6) (o := { dst := some 30, op := Op.call { callee := Callee.value (Operand.func 88), args := #[Operand.tmp 28, Operand.tmp 29, Operand.const (Value.int IntKind.i64 0), Operand.const (Value.bool true)], argTypes := #[113, 38, 3, 4] }, type := 167, pos := _, after := #[{ on := 4, ground := Ground.data }, { on := 5, ground := Ground.data }], guard := none }) (by kernel_rfl) rfl (fun K' hK => ?_)
   rw [if_pos (by rfl)]
   go_simp
   refine (HB.out _ Q2.out B2.out).mono ?_
   rintro e w3 ⟨rfl, q3, b3⟩
   obtain ⟨s3, hbj⟩ := HK.out _ _ _ q3 rfl b3
   have Q3 := hid q3
   have B3 := hid b3
   clear q3 b3
   refine hK.out _ _ s3 ?_
   clear hK
   try simp only [Go.Act.put, Zx, Zy, Zz]
   refine wpH_take (i := 7) (v := (.tuple #[(.int .i64 r), (.int .i64 E)])) (some 23) rfl rfl (by kernel_rfl) (by kernel_rfl) (by kernel_rfl) (fun _ _ _ h => h) (Or.inl ⟨by rfl, fun w' hS => (by go_simp)⟩) s3 ?_
   try simp only [Go.Act.put, Zx, Zy, Zz]
   refine wpH_take (i := 8) (v := (.int .i64 r)) (some 31) rfl rfl (by kernel_rfl) (by kernel_rfl) (by kernel_rfl) (fun _ _ _ h => h) (Or.inl ⟨by rfl, fun w' hS => (by go_simp)⟩) s3 ?_
   try simp only [Go.Act.put, Zx, Zy, Zz]
   refine wpH_take (i := 9) (v := (.int .i64 E)) (some 32) rfl rfl (by kernel_rfl) (by kernel_rfl) (by kernel_rfl) (fun _ _ _ h => h) (Or.inl ⟨by rfl, fun w' hS => (by go_simp)⟩) s3 ?_
   try simp only [Go.Act.put, Zx, Zy, Zz]
   refine wpH_take (i := 10) (v := (.int .i64 r)) (some 8) rfl rfl (by kernel_rfl) (by kernel_rfl) (by kernel_rfl) (fun _ _ _ h => h) (Or.inl ⟨by rfl, fun w' hS => (by go_simp)⟩) s3 ?_
   try simp only [Go.Act.put, Zx, Zy, Zz]
   refine wpH_take (i := 11) (v := (.int .i64 E)) (some 9) rfl rfl (by kernel_rfl) (by kernel_rfl) (by kernel_rfl) (fun _ _ _ h => h) (Or.inl ⟨by rfl, fun w' hS => (by go_simp)⟩) s3 ?_
   try simp only [Go.Act.put, Zx, Zy, Zz]
   refine wpAnyH_done (by kernel_rfl) ?_ _
   clear C1 K0 K1 s0 s2 s2' s3
   have d0 := cell_at (j := 0) hbj rfl
   have d1 := cell_at (j := 1) hbj rfl
   have d2 := cell_at (j := 2) hbj rfl
   have d3 := cell_at (j := 3) hbj rfl
   have d4 := cell_at (j := 4) hbj rfl
   have d5 := cell_at (j := 5) hbj rfl
   have d6 := cell_at (j := 6) hbj rfl
   have d7 := cell_at (j := 7) hbj rfl
   have df := froz_at hbj
   clear hbj
   go_wp2
   exact bodyPost_ret (v := .tuple #[.agg #[.int .i64 0, .int .i64 0, .bool false, .int .i64 0, .int .i64 0, .int .i64 0, .int .i64 0, .slice none 0 0], .bool false]) (by simp [results, Tryz.results127, go_sem, d0, d1, d2, d3, d4, d5, d6, d7]) rfl ⟨_, rfl, HF.out _ _ _ _ _ _ Q3.out B3.out (HN.out _) (((((((((Touch.refl _ _).setCell (Or.inl (by simp)) _).setCell (Or.inl (by simp)) _).setCell (Or.inl (by simp)) _).setCell (Or.inl (by simp)) _).setCell (Or.inl (by simp)) _).setCell (Or.inl (by simp)) _).setCell (Or.inl (by simp)) _).setCell (Or.inl (by simp)) _)⟩
set_option maxHeartbeats 8000000 in
theorem meet_ (h : Gq w g P F X N) (k : K) (hk : Ok k) (hN : N.t ≤ 2900000000000) (hB : N.b ≤ 6000000000000) (m : Int) : Calls Tryz.prog 84 #[PT g, kv k, .int .i64 m] w fun e w' => ∃ v, e = .returned (.tuple #[jv (meeJ X k m) v, .bool (meeB X k m)]) ∧ Snt w' v (meeJ X k m).sent ∧ GqE w w' g P F (meeX X k m) (meeC X k m N) := by
 obtain ⟨V, hV⟩ : ∃ V, V = (w.alloc (Ta.bxK k)).alloc (.cells jz 49) := ⟨_, rfl⟩
 obtain ⟨tv, hb⟩ := Bkj.new w V k hV
 have Q0 : GqE w V g P F X N := GqE.same h tv
 have HR : Hid (Calls Tryz.prog 127 #[PT g, kv k] V fun e w2 => ∃ a n c, e = .returned (.tuple #[jv (renJ X k) (.slice a n c), .bool (renB X k)]) ∧ Snt w2 (.slice a n c) (renJ X k).sent ∧ GqE w w2 g P F (renX X k) (renC X k N) ∧ Bkj w w2 k) := hid (by
  obtain ⟨F1, q1, q2⟩ := Q0.go
  refine (renew_ q1 k hk hN hB).mono ?_
  rintro e w2 ⟨v, rfl, n2, r2⟩
  obtain ⟨a, n, c, rfl⟩ := n2.2
  exact ⟨a, n, c, rfl, n2, (q2 _ _ _ r2).1, hb.keep (q2 _ _ _ r2).2⟩)
 have HF : Hid (∀ w2 w3 v xs Y M, GqE w w2 g P F Y M → Bkj w w2 k → Snt w2 v xs → Touch [w.heap.size + 1] w2 w3 → Snt w3 v xs ∧ GqE w w3 g P F Y M) := hid (fun w2 w3 v xs Y M Q B s T => ⟨s.put B.j (by decide) T, Q.put B.j (by decide) (by omega) T⟩)
 have HN : Hid (∀ w2, Snt w2 (.slice none 0 0) []) := hid (fun w2 => Snt.nil w2)
 have HJ : Hid (∀ w2, Bkj w w2 k → w2.heap[w.heap.size + 1]? = some (.cells jz 49 (0, 0))) := hid (fun w2 B => B.j)
 have b0 : V.cell? ⟨w.heap.size, 0, none⟩ = some (.int .u16 k.1) := cell_at hb.k rfl
 have b1 : V.cell? ⟨w.heap.size, 1, none⟩ = some (.string k.2) := cell_at hb.k rfl
 have hbj := hb.j
 have HQ := hid Q0
 have HB := hid hb
 clear h Q0 tv hb hk hN hB
 unfold meeJ meeB meeX meeC
 unfold Ta.bxK jz at hV
 unfold jz at HJ hbj
 unfold jv jcs at *
 unfold kv PT at *
 by_cases h1 : m = 1
 ·subst h1
  simp only [if_true, show ¬ ((1 : Int) = 2) by decide, if_false]
  clear HR
  have d0 := cell_at (j := 0) hbj rfl
  have d1 := cell_at (j := 1) hbj rfl
  have d2 := cell_at (j := 2) hbj rfl
  have d3 := cell_at (j := 3) hbj rfl
  have d4 := cell_at (j := 4) hbj rfl
  have d5 := cell_at (j := 5) hbj rfl
  have d6 := cell_at (j := 6) hbj rfl
  have d7 := cell_at (j := 7) hbj rfl
  have df := froz_at hbj
  clear hbj
  go_enter Tryz.func84, Tryz.ntmps84
  go_upto_region 1 with fail
  rw [← hV]
  clear hV
  go_wp2
  exact bodyPost_ret (v := .tuple #[.agg #[.int .i64 1, .int .i64 0, .bool false, .int .i64 0, .int .i64 0, .int .i64 0, .int .i64 0, .slice none 0 0], .bool true]) (by simp [results, Tryz.results84, go_sem, d0, d1, d2, d3, d4, d5, d6, d7]) rfl ⟨_, rfl, HF.out _ _ _ _ _ _ HQ.out HB.out (HN.out _) (((((((((Touch.refl _ _).setCell (Or.inl (by simp)) _).setCell (Or.inl (by simp)) _).setCell (Or.inl (by simp)) _).setCell (Or.inl (by simp)) _).setCell (Or.inl (by simp)) _).setCell (Or.inl (by simp)) _).setCell (Or.inl (by simp)) _).setCell (Or.inl (by simp)) _)⟩
 ·rw [if_neg h1, if_neg h1]
  by_cases h2 : m = 2
  ·subst h2
   rw [if_pos rfl, if_pos rfl, if_pos rfl, if_pos rfl]
   clear hbj h1
   generalize renJ X k = J at *
   generalize renB X k = B at *
   generalize renX X k = Y at *
   generalize renC X k N = M at *
   go_enter Tryz.func84, Tryz.ntmps84
   go_upto_region 1 with fail
   rw [← hV]
   clear hV
   go_wp2_with (go_at_call 127; refine HR.out.mono ?_; rintro e w2 ⟨a, n, c, rfl, n2, q2, b2⟩; have hbj := HJ.out _ b2; have N2 := hid n2; have Q2 := hid q2; have B2 := hid b2; clear n2 q2 b2; have d0 := cell_at (j := 0) hbj rfl; have d1 := cell_at (j := 1) hbj rfl; have d2 := cell_at (j := 2) hbj rfl; have d3 := cell_at (j := 3) hbj rfl; have d4 := cell_at (j := 4) hbj rfl; have d5 := cell_at (j := 5) hbj rfl; have d6 := cell_at (j := 6) hbj rfl; have d7 := cell_at (j := 7) hbj rfl; have df := froz_at hbj; clear hbj)
   exact bodyPost_ret (v := .tuple #[.agg #[.int .i64 J.how, .int .i64 J.run, .bool J.bg, .int .i64 J.o.1, .int .i64 J.o.2.1, .int .i64 J.o.2.2.1, .int .i64 J.o.2.2.2, .slice a n c], .bool B]) (by simp [results, Tryz.results84, go_sem, d0, d1, d2, d3, d4, d5, d6, d7]) rfl ⟨_, rfl, HF.out _ _ _ _ _ _ Q2.out B2.out N2.out (((((((((Touch.refl _ _).setCell (Or.inl (by simp)) _).setCell (Or.inl (by simp)) _).setCell (Or.inl (by simp)) _).setCell (Or.inl (by simp)) _).setCell (Or.inl (by simp)) _).setCell (Or.inl (by simp)) _).setCell (Or.inl (by simp)) _).setCell (Or.inl (by simp)) _)⟩
  ·rw [if_neg h2, if_neg h2, if_neg h2, if_neg h2]
   have g1 : (m == 1) = false := by simp [h1]
   have g2 : (m == 2) = false := by simp [h2]
   clear HR h1 h2
   have e1 : Jd.z.how = 0 := rfl
   have e2 : Jd.z.run = 0 := rfl
   have e3 : Jd.z.bg = false := rfl
   have e4 : Jd.z.o = (0, 0, 0, 0) := rfl
   have e5 : Jd.z.sent = [] := rfl
   rw [e1, e2, e3, e4, e5]
   clear e1 e2 e3 e4 e5
   have d0 := cell_at (j := 0) hbj rfl
   have d1 := cell_at (j := 1) hbj rfl
   have d2 := cell_at (j := 2) hbj rfl
   have d3 := cell_at (j := 3) hbj rfl
   have d4 := cell_at (j := 4) hbj rfl
   have d5 := cell_at (j := 5) hbj rfl
   have d6 := cell_at (j := 6) hbj rfl
   have d7 := cell_at (j := 7) hbj rfl
   have df := froz_at hbj
   clear hbj
   go_enter Tryz.func84, Tryz.ntmps84
   go_upto_region 1 with fail
   rw [← hV]
   clear hV
   go_wp2
   exact bodyPost_ret (v := .tuple #[.agg #[.int .i64 0, .int .i64 0, .bool false, .int .i64 0, .int .i64 0, .int .i64 0, .int .i64 0, .slice none 0 0], .bool false]) (by simp [results, Tryz.results84, go_sem, d0, d1, d2, d3, d4, d5, d6, d7]) rfl ⟨_, rfl, HF.out _ _ _ _ _ _ HQ.out HB.out (HN.out _) (((((((((Touch.refl _ _).setCell (Or.inl (by simp)) _).setCell (Or.inl (by simp)) _).setCell (Or.inl (by simp)) _).setCell (Or.inl (by simp)) _).setCell (Or.inl (by simp)) _).setCell (Or.inl (by simp)) _).setCell (Or.inl (by simp)) _).setCell (Or.inl (by simp)) _)⟩
end
end Go.Proofs.YtkfophlhpjbmgaaGreat
