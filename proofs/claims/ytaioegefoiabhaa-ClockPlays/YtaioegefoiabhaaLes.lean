/- The contracts of the heap's Len, Less and Swap. -/
import Derived.Test.YtaioegefoiabhaaRow
import Derived.Deep.QuietTactic
import Derived.Deep.AppendLies
namespace Go.Proofs.Ytaioegefoiabhaa
open Go.RowKit Go.Maps Go.ChangeMaps
set_option linter.unusedVariables false
def PT (q : Nat) : Value := .pointer (some ⟨q, 0, none⟩)
theorem len86 (w : World) (q : Nat) (sl : Value) (m : Option Nat) (p : Int) (s : List Slot) (h : HQ w q sl m p s) :
    Calls Try.prog 86 #[PT q] w fun e w' => e = .returned (.int .i64 s.length) ∧ w' = w := by
  have c0 := h.hc.c0
  obtain ⟨a, c, rfl⟩ := own_form h.row
  clear h
  unfold PT
  go_enter Try.func86, Try.ntmps86
  go_wp2
  go_ret
  exact ⟨rfl, rfl⟩
theorem HQ.slice {w : World} {q : Nat} {sl : Value} {m : Option Nat} {p : Int} {s : List Slot} (h : HQ w q sl m p s) (h0 : 0 < s.length) : ∃ g c, sl = .slice (some ⟨g, 0, none⟩) s.length c := by
  obtain ⟨g, c, h, _⟩ := h.row.form h0
  exact ⟨g, c, h⟩
def ltB (x y : Slot) : Bool := decide (ltS x y)
set_option maxHeartbeats 1000000 in
theorem less87 (w : World) (q : Nat) (sl : Value) (m : Option Nat) (p : Int) (s : List Slot) (i j : Nat) (hi : i < s.length) (hj : j < s.length) (h : HQ w q sl m p s) :
    Calls Try.prog 87 #[PT q, .int .i64 i, .int .i64 j] w fun e w' => e = .returned (.bool (ltB (gt s i) (gt s j))) ∧ Gw w w' := by
  obtain ⟨g, c, rfl⟩ := h.slice (by omega)
  have hle := h.le
  obtain ⟨x0, x1, x2⟩ := flat_at s i hi
  obtain ⟨y0, y1, y2⟩ := flat_at s j hj
  have a0 : ∀ w', Gw w w' → w'.cell? ⟨g, i * 3, none⟩ = some (.int .i64 (gt s i).at_) := fun w' k => k.cell (own_cell h.row x0)
  have a1 : ∀ w', Gw w w' → w'.cell? ⟨g, i * 3 + 1, none⟩ = some (.int .i64 (gt s i).put) := fun w' k => k.cell (own_cell h.row x1)
  have a2 : ∀ w', Gw w w' → w'.cell? ⟨g, i * 3 + 2, none⟩ = some (.int .i64 (gt s i).item) := fun w' k => k.cell (own_cell h.row x2)
  have b0 : ∀ w', Gw w w' → w'.cell? ⟨g, j * 3, none⟩ = some (.int .i64 (gt s j).at_) := fun w' k => k.cell (own_cell h.row y0)
  have b1 : ∀ w', Gw w w' → w'.cell? ⟨g, j * 3 + 1, none⟩ = some (.int .i64 (gt s j).put) := fun w' k => k.cell (own_cell h.row y1)
  have b2 : ∀ w', Gw w w' → w'.cell? ⟨g, j * 3 + 2, none⟩ = some (.int .i64 (gt s j).item) := fun w' k => k.cell (own_cell h.row y2)
  have c0 : ∀ w', Gw w w' → w'.cell? ⟨q, 0, none⟩ = some (.slice (some ⟨g, 0, none⟩) s.length c) := fun w' k => k.cell h.hc.c0
  have zi : (i : Int) < (s.length : Int) := by omega
  have zj : (j : Int) < (s.length : Int) := by omega
  have zl : (s.length : Int) ≤ 65536 := by omega
  have HD : Hid (decide (cmpS (gt s i) (gt s j) < 0) = ltB (gt s i) (gt s j)) := by
    show _ = _
    unfold ltB
    rw [decide_eq_decide]
    exact cmpS_neg _ _
  clear h x0 x1 x2 y0 y1 y2
  unfold PT
  generalize s.length = n at *
  generalize gt s i = x at *
  generalize gt s j = y at *
  go_enter Try.func87, Try.ntmps87
  go_wp2
  go_region_held3 (fun w' => Gw w w') (first | assumption | exact (Gw.refl _).drew | exact Gw.refl _ | exact Gw.drew (by assumption))
    (first | (go_at_call 40; refine (compare41 x y _).mono ?_; rintro e w1 ⟨rfl, hg1⟩; have K1 : Gw w w1 := Gw.trans (by assumption) hg1; clear hg1))
  go_wp2
  go_ret
  exact ⟨congrArg (fun b => Ending.returned (.bool b)) HD.out, by assumption⟩
theorem HC.keep {w w' : World} {q : Nat} {sl : Value} {m : Option Nat} {p : Int} (h : HC w q sl m p) (hk : w'.heap[q]? = w.heap[q]?) : HC w' q sl m p := hk.trans h
theorem MapAt.same {w : World} {b n k : Nat} {f : Int → Option Value} (h : MapAt w b n f) (e : n = k) : MapAt w b k f := e ▸ h
theorem maxLen_big' {n : Nat} (h : n ≤ 65536) : n < maxLen := by unfold maxLen; omega
theorem wf_perm {s t : List Slot} (h : WfS s) (p : t.Perm s) : WfS t := fun x hx => h x (p.mem_iff.1 hx)
theorem row_swp {w : World} {g c : Nat} {s : List Slot} (h : w.ownsRow 0 86 3 (.slice (some ⟨g, 0, none⟩) s.length c) s.length (flat s)) {i j : Nat} (hi : i < s.length) (hj : j < s.length) :
    ((((((w.setCell ⟨g, i * 3, none⟩ (.int .i64 (gt s j).at_)).setCell ⟨g, i * 3 + 1, none⟩ (.int .i64 (gt s j).put)).setCell ⟨g, i * 3 + 2, none⟩ (.int .i64 (gt s j).item)).setCell ⟨g, j * 3, none⟩ (.int .i64 (gt s i).at_)).setCell ⟨g, j * 3 + 1, none⟩ (.int .i64 (gt s i).put)).setCell ⟨g, j * 3 + 2, none⟩ (.int .i64 (gt s i).item)).ownsRow 0 86 3 (.slice (some ⟨g, 0, none⟩) s.length c) s.length (flat (swp s i j)) := by
  unfold swp
  rw [flat_set _ _ _ (by simpa using hj), flat_set _ _ _ hi]
  exact own_set (own_set (own_set (own_set (own_set (own_set h _ _) _ _) _ _) _ _) _ _) _ _
theorem pmap_at {s : List Slot} (h : Nd s) {i : Nat} (hi : i < s.length) : pmap s (gt s i).item = some (.int .i64 i) := by simp [pmap, idx_at h hi]
def swW (w : World) (g : Nat) (i j : Nat) (x y : Slot) : World := ((((((w.setCell ⟨g, i * 3, none⟩ (.int .i64 y.at_)).setCell ⟨g, i * 3 + 1, none⟩ (.int .i64 y.put)).setCell ⟨g, i * 3 + 2, none⟩ (.int .i64 y.item)).setCell ⟨g, j * 3, none⟩ (.int .i64 x.at_)).setCell ⟨g, j * 3 + 1, none⟩ (.int .i64 x.put)).setCell ⟨g, j * 3 + 2, none⟩ (.int .i64 x.item)).drew
theorem own_drew {w : World} {base e n k : Nat} {v : Value} {xs : List Value} (h : w.ownsRow base e k v n xs) : w.drew.ownsRow base e k v n xs := own_keep h (fun _ _ => rfl)
theorem swW_touch (w : World) (g i j : Nat) (x y : Slot) : Touch [g] w (swW w g i j x y) := by
  unfold swW
  refine Touch.drew ?_
  refine Touch.setCell ?_ (by simp) _
  refine Touch.setCell ?_ (by simp) _
  refine Touch.setCell ?_ (by simp) _
  refine Touch.setCell ?_ (by simp) _
  refine Touch.setCell ?_ (by simp) _
  refine Touch.setCell ?_ (by simp) _
  exact Touch.refl _ _
theorem swW_row {w : World} {g c : Nat} {s : List Slot} (h : w.ownsRow 0 86 3 (.slice (some ⟨g, 0, none⟩) s.length c) s.length (flat s)) {i j : Nat} (hi : i < s.length) (hj : j < s.length) :
    (swW w g i j (gt s i) (gt s j)).ownsRow 0 86 3 (.slice (some ⟨g, 0, none⟩) s.length c) s.length (flat (swp s i j)) := by
  have := row_swp h hi hj
  unfold swW
  exact own_drew this
theorem HQ.map {w : World} {q b : Nat} {sl : Value} {p : Int} {s : List Slot} (h : HQ w q sl (some b) p s) : MapAt w b s.length (pmap s) := by
  rcases h.mp with ⟨e, _⟩ | ⟨b', e, hm⟩
  · cases e
  · cases e; exact hm
theorem HC.map_ne {w : World} {q b n : Nat} {sl : Value} {m : Option Nat} {p : Int} {f : Int → Option Value} (h : HC w q sl m p) (hm : MapAt w b n f) : b ≠ q := fun e => by
  obtain ⟨D, ⟨es, cl, hb, _⟩, _⟩ := hm
  unfold HC at h
  rw [← e, hb] at h
  simp at h
theorem swap_world (w : World) (q b g c : Nat) (p : Int) (s : List Slot) (i j : Nat) (hi : i < s.length) (hj : j < s.length) (hij : i ≠ j) (h : HQ w q (.slice (some ⟨g, 0, none⟩) s.length c) (some b) p s) (V : World) (hV : V = swW w g i j (gt s i) (gt s j)) :
    ∃ W2 W3, (Instr.mapUpdate 79 (.map (some b)) (.int .i64 (gt s j).item) (.int .i64 i)).run Try.prog V.drew = .ok () W2 ∧ (Instr.mapUpdate 79 (.map (some b)) (.int .i64 (gt s i).item) (.int .i64 j)).run Try.prog W2.drew = .ok () W3 ∧
      V.cell? ⟨g, i * 3 + 2, none⟩ = some (.int .i64 (gt s j).item) ∧ W2.cell? ⟨g, j * 3 + 2, none⟩ = some (.int .i64 (gt s i).item) ∧
      HC V q (.slice (some ⟨g, 0, none⟩) s.length c) (some b) p ∧ HC W2 q (.slice (some ⟨g, 0, none⟩) s.length c) (some b) p ∧
      (Touch (fq q (.slice (some ⟨g, 0, none⟩) s.length c) (some b)) w W3 ∧ HQ W3 q (.slice (some ⟨g, 0, none⟩) s.length c) (some b) p (swp s i j)) := by
  have hle := h.le
  have hm := h.map
  have hgq : g ≠ q := row_ne h.hc h.row (by decide) g rfl
  have hgb : g ≠ b := row_nm h.row hm g rfl
  have hbq : b ≠ q := h.hc.map_ne hm
  have TV : Touch [g] w V := by rw [hV]; exact swW_touch _ _ _ _ _ _
  have RV : V.ownsRow 0 86 3 (.slice (some ⟨g, 0, none⟩) s.length c) s.length (flat (swp s i j)) := by rw [hV]; exact swW_row h.row hi hj
  clear hV
  have CV : HC V q (.slice (some ⟨g, 0, none⟩) s.length c) (some b) p := h.hc.keep (TV.block q (block_lt h.hc) (by simpa using Ne.symm hgq))
  have MV : MapAt V b s.length (pmap s) := hm.kept (TV.block b hm.lt (by simpa using Ne.symm hgb))
  obtain ⟨u0, u1, u2⟩ := flat_at (swp s i j) i (by rw [swp_len]; exact hi)
  obtain ⟨v0, v1, v2⟩ := flat_at (swp s i j) j (by rw [swp_len]; exact hj)
  rw [swp_gt hi hj, if_neg hij, if_pos rfl] at u2
  rw [swp_gt hi hj, if_pos rfl] at v2
  have wfj := (h.wf _ (gt_mem hj)).2.2
  have wfi := (h.wf _ (gt_mem hi)).2.2
  have nd := h.nd
  obtain ⟨o1, hu1, hm1⟩ := (show MapAt V.drew b s.length (pmap s) from MV.kept rfl).set (t := 79) Try.underlying79 (maxLen_big' hle) wfj (.int .i64 i)
  have T2 : Touch [b] V (setBlock V.drew b o1) := touch_setBlock (Touch.refl _ _).drew (by simp) o1
  generalize setBlock V.drew b o1 = W2 at *
  have M2 : MapAt W2 b s.length (upd (pmap s) (gt s j).item (.int .i64 i)) := hm1.same (by rw [pmap_at nd hj]; rfl)
  obtain ⟨o2, hu2, hm2⟩ := (show MapAt W2.drew b s.length (upd (pmap s) (gt s j).item (.int .i64 i)) from M2.kept rfl).set (t := 79) Try.underlying79 (maxLen_big' hle) wfi (.int .i64 j)
  have T3 : Touch [b] W2 (setBlock W2.drew b o2) := touch_setBlock (Touch.refl _ _).drew (by simp) o2
  generalize setBlock W2.drew b o2 = W3 at *
  have C2 : HC W2 q (.slice (some ⟨g, 0, none⟩) s.length c) (some b) p := CV.keep (T2.block q (block_lt CV) (by simpa using Ne.symm hbq))
  have T4 : Touch [b] V W3 := T2.trans' T3
  refine ⟨W2, W3, hu1, hu2, own_cell RV u2, own_cell (own_touch RV T2 (fun k hk => by simp [Value.ownBlock] at hk; subst hk; simpa using hgb)) v2, CV, C2, ?_, ?_⟩
  · exact ((TV.mono (by simp [fq, Value.ownBlock])).trans' (T2.mono (by simp [fq, Value.ownBlock]))).trans' (T3.mono (by simp [fq, Value.ownBlock]))
  · refine ⟨CV.keep (T4.block q (block_lt CV) (by simpa using Ne.symm hbq)), ?_, Or.inr ⟨b, rfl, ?_⟩, nd_perm nd (swp_perm hi hj), wf_perm h.wf (swp_perm hi hj), by rw [swp_len]; exact hle⟩
    · rw [swp_len]
      exact own_touch RV T4 (fun k hk => by simp [Value.ownBlock] at hk; subst hk; simpa using hgb)
    · rw [swp_len]
      refine (hm2.congr (fun k _ => pmap_swp nd hi hj hij k)).same ?_
      have : (upd (pmap s) (gt s j).item (.int .i64 i) (gt s i).item).isSome = true := by
        simp only [upd]
        split
        · rfl
        · rw [pmap_at nd hi]; rfl
      rw [this]; rfl
set_option maxHeartbeats 4000000 in
set_option maxRecDepth 100000 in
theorem swap90 (w : World) (q b : Nat) (sl : Value) (p : Int) (s : List Slot) (i j : Nat) (hi : i < s.length) (hj : j < s.length) (hij : i ≠ j) (h : HQ w q sl (some b) p s) :
    Calls Try.prog 90 #[PT q, .int .i64 i, .int .i64 j] w fun e w' => e = .returned (.tuple #[]) ∧ Touch (fq q sl (some b)) w w' ∧ HQ w' q sl (some b) p (swp s i j) := by
  obtain ⟨g, c, rfl⟩ := h.slice (by omega)
  have hle := h.le
  obtain ⟨x0, x1, x2⟩ := flat_at s i hi
  obtain ⟨y0, y1, y2⟩ := flat_at s j hj
  have hgq : g ≠ q := row_ne h.hc h.row (by decide) g rfl
  have a0 := own_cell h.row x0
  have a1 := own_cell h.row x1
  have a2 := own_cell h.row x2
  have b0 := own_cell h.row y0
  have b1 := own_cell h.row y1
  have b2 := own_cell h.row y2
  have fz : ∀ k, w.frozen? ⟨g, k, none⟩ = false := own_frozen h.row
  have c0 := h.hc.c0
  have zi : (i : Int) < (s.length : Int) := by omega
  have zj : (j : Int) < (s.length : Int) := by omega
  have zl : (s.length : Int) ≤ 65536 := by omega
  obtain ⟨V, hV⟩ : ∃ V, V = swW w g i j (gt s i) (gt s j) := ⟨_, rfl⟩
  obtain ⟨W2, W3, hu1, hu2, r1, r2, CV, C2, HF⟩ := swap_world w q b g c p s i j hi hj hij h V hV
  have d0 := CV.c0
  have d1 := CV.c1
  have e0 := C2.c0
  have e1 := C2.c1
  have HF := hid HF
  have HV := hid hV
  clear h x0 x1 x2 y0 y1 y2 CV C2 hV
  generalize swp s i j = S at *
  generalize gt s i = x at *
  generalize gt s j = y at *
  generalize s.length = n at *
  unfold PT
  go_enter Try.func90, Try.ntmps90
  go_wp2
  go_region
  go_wp2
  have hV := HV.out
  unfold swW at hV
  rw [← hV]
  clear hV a0 a1 a2 b0 b1 b2 fz c0
  go_region
  go_wp2
  go_region
  go_end0
  exact ⟨rfl, HF.out⟩
end Go.Proofs.Ytaioegefoiabhaa
