/- The contract of the law's look at ready ones beside the document's; no conditions but those that it states. -/
import Derived.Test.YthpkkfmphoopnaaJdp
import Derived.Test.YthpkkfmphoopnaaJsa
import Derived.Test.YthpkkfmphoopnaaJld
import Derived.Test.YthpkkfmphoopnaaJop
namespace Go.Proofs.Ythpkkfmphoopnaa.Re
open Go.RowKit Go.Maps Go.ChangeMaps
set_option linter.unusedVariables false
set_option linter.unusedSimpArgs false
section
variable {w : World} {b N : Nat} {F : List Nat} {S : Rz} {p l t : Value}
set_option maxHeartbeats 8000000 in
set_option maxRecDepth 100000 in
theorem stands_ (hq : Rq w b F S N) (h : Dm w S p l t) (hN : N ≤ 8796093022208) (x : Int) (hx : W64 x) : Calls Try.prog 17 #[PT b, dvv S p l t, .int .i64 x] w fun e w' => e = .returned (.bool true) ∧ Touch [] w w' := by
  obtain ⟨pv, uv, mv, tv0, rfl, hm, hv⟩ := hq
  obtain ⟨V, hV⟩ : ∃ V, V = w.alloc (.cells (dvc S p l t) 32) := ⟨_, rfl⟩
  have tv : Touch [] w V := by rw [hV]; exact (Touch.refl _ _).alloc _
  have hbx : V.heap[w.heap.size]? = some (.cells (dvc S p l t) 32 (0, 0)) := by rw [hV]; exact heap_alloc_new w _
  have hmV := hm.keep0 tv
  have hdV := h.keep0 tv
  have HPk := hid (peek_ hmV hv (by omega))
  have HDp := hid (fun w' (T : Touch [] V w') => dpeek_ (hdV.keep0 T) hv)
  have HAl : Hid (∀ w', Touch [] V w' → Calls Try.prog 22 #[PT b] w' fun e w2 => ∃ a c, e = .returned (.slice a S.ln.length c) ∧ Touch [] V w2 ∧ ∀ w3, Touch [] w2 w3 → Ra w3 (.slice a S.ln.length c) S.ln) := hid (fun w' T => (all_ (hmV.keep0 T) hv).mono (fun e w2 => by rintro ⟨a, c, rfl, q1, q2⟩; exact ⟨a, c, rfl, T.trans' q2, fun w3 X => q1.ra.keep0 X⟩))
  have HTo : Hid (∀ w', Touch [] V w' → Calls Try.prog 21 #[PT b] w' fun e w2 => ∃ a c, e = .returned (.slice a S.tl.length c) ∧ Touch [] V w2 ∧ ∀ w3, Touch [] w2 w3 → Ra w3 (.slice a S.tl.length c) S.tl) := hid (fun w' T => (told_ (hmV.keep0 T) hv (by omega)).mono (fun e w2 => by rintro ⟨a, c, rfl, q1, q2⟩; exact ⟨a, c, rfl, T.trans' q2, fun w3 X => q1.ra.keep0 X⟩))
  have HLe := hid (fun w' (T : Touch [] V w') => len_ (hmV.keep0 T))
  have HTu := hid (fun w' (T : Touch [] V w') => turns_ (hmV.keep0 T))
  have HHa : Hid (∀ w', Touch [] V w' → Calls Try.prog 24 #[PT b, .int .i64 x] w' fun e w2 => e = .returned (.bool (decide (x ∈ S.ln))) ∧ Touch [] V w2) := hid (fun w' T => (has_ (hmV.keep0 T) x hx).mono (fun e w2 q => ⟨q.1, T.trans' q.2⟩))
  have HFi : Hid (∀ w', Touch [] V w' → Calls Try.prog 13 #[dvv S p l t, .int .i64 x] w' fun e w2 => e = .returned (.int .i64 (idxI S.ln x)) ∧ Touch [] V w2) := hid (fun w' T => (find_ w' S p l t x hdV.p.slf hdV.t.slf (hdV.l.keep0 T) hv.l1).mono (fun e w2 q => ⟨q.1, T.trans' q.2⟩))
  have HSl : Hid (∀ w' a c, Touch [] V w' → Ra w' (.slice a S.ln.length c) S.ln → Calls Try.prog 10 #[.slice a S.ln.length c, l] w' fun e w2 => e = .returned (.bool true) ∧ Touch [] V w2) := hid (fun w' a c T q => (same_ w' _ _ S.ln q (hdV.l.keep0 T) (by have := hv.l1; omega)).mono (fun e w2 q => ⟨q.1, T.trans' q.2⟩))
  have HSt : Hid (∀ w' a c, Touch [] V w' → Ra w' (.slice a S.tl.length c) S.tl → Calls Try.prog 10 #[.slice a S.tl.length c, t] w' fun e w2 => e = .returned (.bool true) ∧ Touch [] V w2) := hid (fun w' a c T q => (same_ w' _ _ S.tl q (hdV.t.keep0 T) (by have := hv.t1; omega)).mono (fun e w2 q => ⟨q.1, T.trans' q.2⟩))
  obtain ⟨ap, np, cp, ep⟩ := h.p.slf
  obtain ⟨al, cl, el, _⟩ := h.l.form
  obtain ⟨at', ct, et, _⟩ := h.t.form
  subst ep el et
  have HBX := hid hbx
  have g0 : ∀ w', Touch [] V w' → w'.cell? ⟨w.heap.size, 0, none⟩ = some (.int .i64 S.pol) := fun w' T => cell_at (j := 0) (T.keep HBX.out (by simp)) rfl
  have g1 : ∀ w', Touch [] V w' → w'.cell? ⟨w.heap.size, 1, none⟩ = some (.int .u64 (S.st : Int)) := fun w' T => cell_at (j := 1) (T.keep HBX.out (by simp)) rfl
  have g2 : ∀ w', Touch [] V w' → w'.cell? ⟨w.heap.size, 2, none⟩ = some (.slice ap np cp) := fun w' T => cell_at (j := 2) (T.keep HBX.out (by simp)) rfl
  have g3 : ∀ w', Touch [] V w' → w'.cell? ⟨w.heap.size, 3, none⟩ = some (.slice al S.ln.length cl) := fun w' T => cell_at (j := 3) (T.keep HBX.out (by simp)) rfl
  have g4 : ∀ w', Touch [] V w' → w'.cell? ⟨w.heap.size, 4, none⟩ = some (.slice at' S.tl.length ct) := fun w' T => cell_at (j := 4) (T.keep HBX.out (by simp)) rfl
  have HG : Hid (∀ w', Touch [] V w' → w'.cell? ⟨w.heap.size, 0, none⟩ = some (.int .i64 S.pol) ∧ w'.cell? ⟨w.heap.size, 1, none⟩ = some (.int .u64 (S.st : Int)) ∧ w'.cell? ⟨w.heap.size, 2, none⟩ = some (.slice ap np cp) ∧ w'.cell? ⟨w.heap.size, 3, none⟩ = some (.slice al S.ln.length cl) ∧ w'.cell? ⟨w.heap.size, 4, none⟩ = some (.slice at' S.tl.length ct)) := hid (fun w' T => ⟨g0 w' T, g1 w' T, g2 w' T, g3 w' T, g4 w' T⟩)
  have TV := hid tv
  clear hm hv h hmV hdV tv hbx HBX
  unfold dvv dvc at HDp HFi ⊢
  unfold dvc at hV
  unfold PT at *
  have HG0 := hid g0
  have HG1 := hid g1
  have HG2 := hid g2
  have HG3 := hid g3
  have HG4 := hid g4
  clear g0 g1 g2 g3 g4
  generalize pickV S = pvv at *
  generalize someB S = sb at *
  by_cases hi : x ∈ S.ln
  · rw [show idxI S.ln x = (S.ln.idxOf x : Int) by unfold idxI; rw [if_pos hi]] at HFi
    rw [show decide (x ∈ S.ln) = true by simp [hi]] at HHa
    generalize S.ln.idxOf x = ix at *
    have zx : (0 : Int) ≤ (ix : Int) := by omega
    clear hi
    go_enter Try.func17, Try.ntmps17
    go_upto_region 1 with fail
    rw [← hV]
    clear hV
    go_upto_region 3 with (first
      | (go_at_call 25; refine HPk.out.mono ?_; rintro e w1 ⟨rfl, t1⟩; obtain ⟨y0, y1, y2, y3, y4⟩ := HG.out _ t1; have T1 := hid t1; clear t1)
      | (go_at_call 30; refine (HDp.out _ T1.out).mono ?_; rintro e w2 ⟨rfl, t2⟩; have T2 := hid (T1.out.trans' t2); clear t2 y0 y1 y2 y3 y4))
    have g0 := HG0.out
    have g1 := HG1.out
    have g2 := HG2.out
    have g3 := HG3.out
    have g4 := HG4.out
    have s0 : Touch [] V w2.drew := T2.out.drew
    go_region_held3 (fun w' => Touch [] V w') (first | assumption) (first
      | (go_at_call 22; refine (HAl.out _ (by assumption)).mono ?_; rintro e w3 ⟨a3, c3, rfl, t3, q3⟩; have Q3 := hid q3; clear q3)
      | (go_at_call_of 10 (#[.slice a3 S.ln.length c3, .slice al S.ln.length cl] : Array Value); refine (HSl.out _ _ _ (by assumption) (Q3.out _ (Touch.refl _ _))).mono ?_; rintro e w4 ⟨rfl, t4⟩)
      | (go_at_call 26; refine (HLe.out _ (by assumption)).mono ?_; rintro e w5 ⟨rfl, e5⟩; rw [e5]; clear e5 w5)
      | (go_at_call 24; refine (HHa.out _ (by assumption)).mono ?_; rintro e w6 ⟨rfl, t6⟩)
      | (go_at_call 13; refine (HFi.out _ (by assumption)).mono ?_; rintro e w7 ⟨rfl, t7⟩)
      | (go_at_call 23; refine (HTu.out _ (by assumption)).mono ?_; rintro e w8 ⟨rfl, e8⟩; rw [e8]; clear e8 w8)
      | (go_at_call 21; refine (HTo.out _ (by assumption)).mono ?_; rintro e w9 ⟨a9, c9, rfl, t9, q9⟩; have Q9 := hid q9; clear q9)
      | (go_at_call_of 10 (#[.slice a9 S.tl.length c9, .slice at' S.tl.length ct] : Array Value); refine (HSt.out _ _ _ (by assumption) (Q9.out _ (Touch.refl _ _))).mono ?_; rintro e w10 ⟨rfl, t10⟩))
    all_goals
      go_wp2
      go_ret
      exact ⟨rfl, TV.out.trans' (by assumption)⟩
  · rw [show idxI S.ln x = -1 by unfold idxI; rw [if_neg hi]] at HFi
    rw [show decide (x ∈ S.ln) = false by simp [hi]] at HHa
    clear hi
    go_enter Try.func17, Try.ntmps17
    go_upto_region 1 with fail
    rw [← hV]
    clear hV
    go_upto_region 3 with (first
      | (go_at_call 25; refine HPk.out.mono ?_; rintro e w1 ⟨rfl, t1⟩; obtain ⟨y0, y1, y2, y3, y4⟩ := HG.out _ t1; have T1 := hid t1; clear t1)
      | (go_at_call 30; refine (HDp.out _ T1.out).mono ?_; rintro e w2 ⟨rfl, t2⟩; have T2 := hid (T1.out.trans' t2); clear t2 y0 y1 y2 y3 y4))
    have g0 := HG0.out
    have g1 := HG1.out
    have g2 := HG2.out
    have g3 := HG3.out
    have g4 := HG4.out
    have s0 : Touch [] V w2.drew := T2.out.drew
    go_region_held3 (fun w' => Touch [] V w') (first | assumption) (first
      | (go_at_call 22; refine (HAl.out _ (by assumption)).mono ?_; rintro e w3 ⟨a3, c3, rfl, t3, q3⟩; have Q3 := hid q3; clear q3)
      | (go_at_call_of 10 (#[.slice a3 S.ln.length c3, .slice al S.ln.length cl] : Array Value); refine (HSl.out _ _ _ (by assumption) (Q3.out _ (Touch.refl _ _))).mono ?_; rintro e w4 ⟨rfl, t4⟩)
      | (go_at_call 26; refine (HLe.out _ (by assumption)).mono ?_; rintro e w5 ⟨rfl, e5⟩; rw [e5]; clear e5 w5)
      | (go_at_call 24; refine (HHa.out _ (by assumption)).mono ?_; rintro e w6 ⟨rfl, t6⟩)
      | (go_at_call 13; refine (HFi.out _ (by assumption)).mono ?_; rintro e w7 ⟨rfl, t7⟩)
      | (go_at_call 23; refine (HTu.out _ (by assumption)).mono ?_; rintro e w8 ⟨rfl, e8⟩; rw [e8]; clear e8 w8)
      | (go_at_call 21; refine (HTo.out _ (by assumption)).mono ?_; rintro e w9 ⟨a9, c9, rfl, t9, q9⟩; have Q9 := hid q9; clear q9)
      | (go_at_call_of 10 (#[.slice a9 S.tl.length c9, .slice at' S.tl.length ct] : Array Value); refine (HSt.out _ _ _ (by assumption) (Q9.out _ (Touch.refl _ _))).mono ?_; rintro e w10 ⟨rfl, t10⟩))
    all_goals
      go_wp2
      go_ret
      exact ⟨rfl, TV.out.trans' (by assumption)⟩
end
end Go.Proofs.Ythpkkfmphoopnaa.Re
