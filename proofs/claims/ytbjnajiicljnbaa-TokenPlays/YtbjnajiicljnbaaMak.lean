/- The contracts of New and Make. -/
import Derived.Test.YtbjnajiicljnbaaFnd
namespace Go.Proofs.Ytbjnajiicljnbaa
open Go.RowKit Go.Maps Go.ChangeMaps
set_option linter.unusedVariables false
theorem info61 : (Try.prog.info? 61).map (fun i => (i.zero, i.size, i.bytes)) = some (some (.agg #[.int .i64 0, .int .i64 0, .int .i64 0, .int .i64 0, .int .i64 0]), 5, 40) := by kernel_rfl
theorem new6 (w : World) : Calls Try.prog 6 #[] w fun e w' => e = .returned (PT w.heap.size) ∧ Tn w' w.heap.size (.slice none 0 0) [] ∧ Touch [] w w' := by
  go_enter Try.func6, Try.ntmps6
  go_wp2
  go_ret
  exact ⟨rfl, ⟨heap_alloc_new w _, World.ownsRow_nil _ _ _ _, by simp, fun _ => rfl⟩, (Touch.refl _ _).alloc _⟩
/-- The places of tokens lie where they lay, or in new blocks. -/
def Nf (w : World) (F F' : List Nat) : Prop := ∀ k, k ∈ F' → k ∈ F ∨ w.heap.size ≤ k
theorem Nf.refl (w : World) (F : List Nat) : Nf w F F := fun _ h => Or.inl h
/-- What a call leaves that may change tokens. -/
def Nx (w w' : World) (t : Nat) (sl : Value) (S : List Tk) : Prop := ∃ sl', Tn w' t sl' S ∧ Touch (ft t sl) w w' ∧ Nf w (ft t sl) (ft t sl')
section
variable {w w' : World} {t : Nat} {sl : Value} {S : List Tk}
theorem Tn.app {w2 : World} {x : Tk} {g c : Nat} (h : Tn w t sl S) (hl : S.length < 65536) (hr : w2.ownsRow 0 61 5 (.slice (some ⟨g, 0, none⟩) (S.length + 1) c) (S.length + 1) (flat5 S ++ cells5 x)) (ht : Touch sl.ownBlock.toList w w2) (hg : sl.ownBlock = some g ∨ w.heap.size ≤ g) :
    Nx w (w2.setCell ⟨t, 0, none⟩ (.slice (some ⟨g, 0, none⟩) (S.length + 1) c)) t sl (S ++ [x]) := by
  have hlt := block_lt h.tc
  have hst : ¬ t ∈ sl.ownBlock.toList := fun e => by
    have e : sl.ownBlock = some t := by simpa using e
    exact h.ne t e rfl
  have C2 : TC w2 t sl := h.tc.keep ht hst
  have hgt : g ≠ t := by
    intro e
    obtain ⟨cur, hc, _⟩ := own_block hr
    subst e
    unfold TC at C2
    rw [hc] at C2
    simp at C2
  refine ⟨.slice (some ⟨g, 0, none⟩) (S.length + 1) c, ⟨C2.set _, ?_, by simp; omega, fun e => by simp at e⟩, ?_, ?_⟩
  · rw [List.length_append, List.length_singleton, flat5_app]
    refine own_keep (by simpa [flat5] using hr) (fun k hk => Below.heap_setCell _ _ _ _ (by simp [Value.ownBlock] at hk; rw [← hk]; exact hgt))
  · exact (ht.mono (fun k hk => by simp [ft]; simp at hk; simp [hk])).setCell (by simp [ft]) _
  · intro k hk
    simp [ft, Value.ownBlock] at hk
    rcases hk with rfl | rfl
    · simp [ft]
    · rcases hg with hg | hg
      · left; simp [ft, hg]
      · exact Or.inr hg
theorem cell_five_new (w : World) (a b c d f : Value) (t : TypeId) : ∀ j u, [a, b, c, d, f][j]? = some u → (w.alloc (.cells #[a, b, c, d, f] t)).cell? ((⟨w.heap.size, 0, none⟩ : Addr).add j) = some u := by
  intro j u hj
  match j, hj with
  | 0, hj => simp at hj; subst hj; simp [Addr.add]
  | 1, hj => simp at hj; subst hj; simp [Addr.add]
  | 2, hj => simp at hj; subst hj; simp [Addr.add]
  | 3, hj => simp at hj; subst hj; simp [Addr.add]
  | 4, hj => simp at hj; subst hj; simp [Addr.add]
end
/-- How tokens stand ahead of the append: the new one lies in a block of its own. -/
structure Ap (W : World) (t : Nat) (sl : Value) (S : List Tk) (b : Nat) (x : Tk) : Prop where
  tn : Tn W t sl S
  bx : W.heap[b]? = some (.cells #[.int .i64 (x.par : Nat), .int .i64 (x.hol : Nat), .int .i64 (x.why : Nat), .int .i64 (x.ch : Nat), .int .i64 (x.el : Nat)] 61 (0, 0))
  hb : ∀ k, k ∈ ft t sl → k ≠ b
section
variable {W w' : World} {t b : Nat} {sl : Value} {S : List Tk} {x : Tk}
theorem Ap.tc (h : Ap W t sl S b x) (T : Touch sl.ownBlock.toList W w') : w'.cell? ⟨t, 0, none⟩ = some sl ∧ w'.frozen? ⟨t, 0, none⟩ = false := by
  have := h.tn.tc.keep T (fun e => h.tn.ne t (by simpa using e) rfl)
  exact ⟨this.c0, this.fr 0⟩
theorem Ap.cells (h : Ap W t sl S b x) (T : Touch sl.ownBlock.toList W w') : w'.cell? ⟨b, 0, none⟩ = some (.int .i64 (x.par : Nat)) ∧ w'.cell? ⟨b, 1, none⟩ = some (.int .i64 (x.hol : Nat)) ∧ w'.cell? ⟨b, 2, none⟩ = some (.int .i64 (x.why : Nat)) ∧ w'.cell? ⟨b, 3, none⟩ = some (.int .i64 (x.ch : Nat)) ∧ w'.cell? ⟨b, 4, none⟩ = some (.int .i64 (x.el : Nat)) := by
  have := T.keep h.bx (fun e => h.hb b (by simp [ft]; right; simpa using e) rfl)
  simp [World.cell?, this]
end
section
variable (w : World) (t : Nat) (sl : Value) (S : List Tk) (n : Int)
theorem make17_token (h : Tn w t sl S) (h0 : n ≠ 0) (hv : ¬ Va S n) : Calls Try.prog 17 #[PT t, .int .i64 n] w fun e w' => e = .returned (.tuple #[.int .i64 0, .int .i64 60]) ∧ w' = w := by
  have HF := hid (find26_no w t sl S n h hv)
  clear h hv
  unfold PT at *
  go_enter Try.func17, Try.ntmps17
  go_wp2_with (go_at_call 26; refine HF.out.mono ?_; rintro e w1 ⟨rfl, rfl⟩)
  exact bodyPost_ret (v := .tuple #[.int .i64 0, .int .i64 60]) (by simp [results, Try.results17, go_sem]) rfl ⟨rfl, rfl⟩
set_option maxHeartbeats 2000000 in
set_option maxRecDepth 100000 in
theorem make17_top (h : Tn w t sl S) (hl : S.length < 65536) : Calls Try.prog 17 #[PT t, .int .i64 0] w fun e w' => e = .returned (.tuple #[.int .i64 (S.length + 1 : Nat), .int .i64 0]) ∧ Nx w w' t sl (makeS S 0) := by
  obtain ⟨i0, hi, hz0, hz1, hz2⟩ := info_parts info61
  have HF := hid (find26_no w t sl S 0 h (by unfold Va; omega))
  obtain ⟨a0, c0', hsl⟩ := own_form h.row
  have c0 := h.tc.c0
  obtain ⟨W, hW⟩ : ∃ W, W = w.alloc (.cells #[.int .i64 0, .int .i64 0, .int .i64 0, .int .i64 0, .int .i64 0] 61) := ⟨_, rfl⟩
  have TW : Touch [] w W := by rw [hW]; exact (Touch.refl _ _).alloc _
  have A : Ap W t sl S w.heap.size tk0 := ⟨h.keep0 TW, by rw [hW]; exact heap_alloc_new _ _, fun k hk e => by have := h.lt k hk; omega⟩
  have HA : Hid (∀ (w2 : World) (g c : Nat), w2.ownsRow 0 61 5 (.slice (some ⟨g, 0, none⟩) (S.length + 1) c) (S.length + 1) (flat5 S ++ cells5 tk0) → Touch sl.ownBlock.toList W w2 → (sl.ownBlock = some g ∨ W.heap.size ≤ g) →
    Nx w (w2.setCell ⟨t, 0, none⟩ (.slice (some ⟨g, 0, none⟩) (S.length + 1) c)) t sl (makeS S 0)) := fun w2 g c hr ht hg => by
    unfold makeS
    rw [if_pos rfl]
    obtain ⟨sl', r1, r2, r3⟩ := A.tn.app hl hr ht hg
    refine ⟨sl', r1, (TW.mono (fun _ e => by cases e)).trans' r2, fun k hk => ?_⟩
    rcases r3 k hk with e | e
    · exact Or.inl e
    · exact Or.inr (Nat.le_trans TW.size e)
  have HZ := hid A
  have HO : Hid (∀ w', Touch [] W w' → w'.ownsRow 0 61 5 sl S.length (flat5 S)) := fun w' T => own_touch A.tn.row T (fun _ _ e => by cases e)
  clear h A
  rw [hsl] at c0
  have HW := hid hW
  have HSl := hid hsl
  have HLt := hid hl
  clear hl hsl hW
  have HE : Hid (Value.int .i64 ((S.length + 1 : Nat) : Int) = Value.int .i64 ((S.length : Int) + 1)) := by simp [hid]
  generalize S.length = N at *
  obtain ⟨L, hL⟩ : ∃ L : Int, (N : Int) = L := ⟨_, rfl⟩
  rw [hL] at HE
  have z1 : L < 65536 := by have := HLt.out; omega
  have z2 : 0 ≤ L := by omega
  have z3 : IntKind.i64.wrap (L + 1) = L + 1 := by simp [IntKind.wrap, IntKind.bits, IntKind.signed]; omega
  unfold PT at *
  go_enter Try.func17, Try.ntmps17
  go_wp2_with (go_at_call 26; refine HF.out.mono ?_; rintro e w1 ⟨rfl, rfl⟩)
  rw [← HW.out]
  obtain ⟨x0, -⟩ := HZ.out.tc (Touch.refl _ W)
  obtain ⟨xa, -⟩ := HZ.out.tc ((Touch.refl _ W).alloc (.cells #[.int .i64 0, .int .i64 0, .int .i64 0, .int .i64 0, .int .i64 0] 61))
  obtain ⟨x1, x2, x3, x4, x5⟩ := HZ.out.cells (Touch.refl _ W)
  simp only [tk0, Int.natCast_zero] at x1 x2 x3 x4 x5
  clear HF c0
  go_region_law ((refine step_append_lies _ (by rfl) _ _ _ (by rfl) 0 61 i0 (.agg #[.int .i64 0, .int .i64 0, .int .i64 0, .int .i64 0, .int .i64 0]) 5 40 Try.underlying54 hi hz0 hz1 hz2 (by rfl) (by decide) sl N (flat5 S) (by rfl) (HO.out _ (by first | exact ((Touch.refl _ _).drew.alloc _) | exact ((Touch.refl _ _).alloc _).drew)) ⟨W.heap.size, 0, none⟩ 1 1 [.int .i64 0, .int .i64 0, .int .i64 0, .int .i64 0, .int .i64 0] (by rfl) (by rfl) (cell_five_new _ _ _ _ _ _ _) (by simp [Value.oneCell']) (by decide) (by unfold maxLen; omega) (by omega) (by omega) _ rfl ?_; intro g c W2 hr hgrow hat hlt; have T2 : Touch sl.ownBlock.toList W W2 := (((Touch.refl _ W).alloc _).drew).grown hgrow (fun k hk => Or.inl (by simp [hk])); have HE2 := hid (HA.out W2 g c hr T2 (by rcases hat with e | e; exact Or.inl e; right; rw [e]; simp)); obtain ⟨y0, yf⟩ := HZ.out.tc T2; clear hr hgrow hat hlt T2))
  all_goals
    go_wp2
    exact bodyPost_ret (v := .tuple #[.int .i64 (L + 1), .int .i64 0]) (by simp [results, Try.results17, go_sem]) rfl ⟨by rw [HE.out], HE2.out⟩
end
end Go.Proofs.Ytbjnajiicljnbaa
