/- The contracts of the document's Without and Put. -/
import Derived.Test.YtonkclllofbklaaRef
namespace Go.Proofs.Ytonkclllofbklaa
open Go.RowKit Go.Maps Go.ChangeMaps
set_option linter.unusedVariables false
theorem info34 : (Try.prog.info? 34).map (fun i => (i.zero, i.size, i.bytes)) = some (some (.agg #[.int .i64 0, .int .i64 0]), 2, 16) := by kernel_rfl
theorem add_plain' (b off j : Nat) : (⟨b, off, none⟩ : Addr).add j = ⟨b, off + j, none⟩ := by simp [Addr.add]
theorem RL.news {w : World} {B g c n : Nat} {l : List Tm} (h : RL w B (.slice (some ⟨g, 0, none⟩) n c) l) (hn : n = l.length) (o : Nat) (w' : World) (ht : Touch [] w w') : ∀ j u, (flatT (l.drop o))[j]? = some u → w'.cell? ((⟨g, o * 2, none⟩ : Addr).add j) = some u := by
  intro j u hj
  subst hn
  have h' := h.keep0 ht
  rw [← flatT_drop, List.getElem?_drop] at hj
  rw [add_plain']
  exact own_cell h' hj
theorem RL.newsT {w : World} {B g c n : Nat} {l : List Tm} (h : RL w B (.slice (some ⟨g, 0, none⟩) n c) l) (hn : n = l.length) (p : Nat) (w' : World) (ht : Touch [] w w') : ∀ j u, (flatT (l.take p))[j]? = some u → w'.cell? ((⟨g, 0, none⟩ : Addr).add j) = some u := by
  intro j u hj
  subst hn
  have h' := h.keep0 ht
  rw [← flatT_take, List.getElem?_take] at hj
  rw [add_plain', Nat.zero_add]
  split at hj
  · exact own_cell h' hj
  · cases hj
/-- A list of the document's that is not nil. -/
def RN (w : World) (B : Nat) (v : Value) (l : List Tm) : Prop := ∃ g c, v = .slice (some ⟨g, 0, none⟩) l.length c ∧ RL w B v l
theorem RN.of {w : World} {B : Nat} {v : Value} {l : List Tm} (h : RL w B v l) (hn : v ≠ .slice none 0 0) : RN w B v l := by
  rcases h.2 with ⟨e, _⟩ | ⟨g, c, cur, e, _⟩
  · exact absurd e hn
  · exact ⟨g, c, e, h⟩
theorem RN.rl {w : World} {B : Nat} {v : Value} {l : List Tm} (h : RN w B v l) : RL w B v l := by
  obtain ⟨g, c, _, h⟩ := h
  exact h
theorem RN.keep0 {w w' : World} {B : Nat} {v : Value} {l : List Tm} (h : RN w B v l) (ht : Touch [] w w') : RN w' B v l := by
  obtain ⟨g, c, e, h⟩ := h
  exact ⟨g, c, e, h.keep0 ht⟩
theorem RN.base {w : World} {B B' : Nat} {v : Value} {l : List Tm} (h : RN w B v l) (hb : B' ≤ B) : RN w B' v l := by
  obtain ⟨g, c, e, h1, h2 | ⟨g', c', cur, e', hg, r⟩⟩ := h
  · rw [e] at h2; cases h2.1
  · exact ⟨g, c, e, h1, Or.inr ⟨g', c', cur, e', Nat.le_trans hb hg, r⟩⟩
theorem one_flatT (l : List Tm) : ∀ u ∈ flatT l, u.oneCell' = true := fun u hu => by
  unfold flatT at hu
  rw [List.mem_flatMap] at hu
  obtain ⟨x, _, hx⟩ := hu
  simp [tmC] at hx
  rcases hx with rfl | rfl <;> rfl
set_option maxHeartbeats 2000000 in
set_option maxRecDepth 100000 in
theorem without13 (w : World) (B : Nat) (v : Value) (l : List Tm) (p : Nat) (h : RL w B v l) (hl : l.length ≤ 65536) (hp : p < l.length) (hB : B ≤ w.heap.size) :
    Calls Try.prog 13 #[v, .int .i64 p] w fun e w' => ∃ v', e = .returned v' ∧ RN w' w.heap.size v' (l.eraseIdx p) ∧ Touch [] w w' := by
  obtain ⟨i0, hi, hz0, hz1, hz2⟩ := info_parts info34
  obtain ⟨g, c, rfl, _⟩ := World.ownsRow.form h (by omega)
  obtain ⟨cur, hcur, hnc, hm, _⟩ := own_block h
  have HR := hid h
  have zl : (l.length : Int) ≤ 65536 := by omega
  have zp : (p : Int) < (l.length : Int) := by omega
  have zc : (l.length : Int) ≤ (c : Int) := by omega
  have zm : (c : Int) ≤ 9223372036854775807 := by unfold maxLen at hm; omega
  have HB := hid (show (w.alloc (.cells #[] 34)).ownsRow w.heap.size 34 2 (.slice (some ⟨w.heap.size, 0, none⟩) 0 0) 0 [] from World.ownsRow_made w #[] 0 (Nat.le_refl _) (by unfold maxLen; omega) rfl)
  clear h hcur
  have HL1 : Hid ((flatT (l.take p)).length = p * 2) := by show _ = _; rw [flatT_len, List.length_take, Nat.min_eq_left (by omega)]
  have HL2 : Hid ((flatT (l.drop (p + 1))).length = (l.length - (p + 1)) * 2) := by show _ = _; rw [flatT_len, List.length_drop]
  have HEnd : Hid (∀ (w3 : World) (v3 : Value) (m : Nat) (ns : List Value), m = l.length - (p + 1) → ns = flatT (l.drop (p + 1)) → w3.ownsRow w.heap.size 34 2 v3 (0 + p + m) ([] ++ flatT (l.take p) ++ ns) → RL w3 w.heap.size v3 (l.eraseIdx p)) := fun w3 v3 m ns h1 h2 h3 => by
    unfold RL
    rw [List.length_eraseIdx_of_lt hp, List.eraseIdx_eq_take_drop_succ, flatT_app, ← h2]
    rw [show 0 + p + m = l.length - 1 by omega] at h3
    simpa using h3
  by_cases hcp : c = p + 1
  · have HD : Hid (l.drop (p + 1) = []) := List.drop_of_length_le (by omega)
    have hlp : l.length = p + 1 := by omega
    subst hcp
    rw [hlp] at zp zl zc HR ⊢
    have HLP := hid hlp
    have hp' := hp
    clear hlp
    go_enter Try.func13, Try.ntmps13
    go_wp2_with (at_builtin; first
      | (refine wpList_append_own _ rfl _ _ 26 rfl w.heap.size 34 i0 (.agg #[.int .i64 0, .int .i64 0]) 2 16 Try.underlying26 hi hz0 hz1 hz2 rfl (by decide) (.slice (some ⟨w.heap.size, 0, none⟩) 0 0) 0 [] rfl HB.out ⟨g, 0, none⟩ p (p + 1) (flatT (l.take p)) rfl HL1.out (HR.out.newsT HLP.out.symm p _ ((Touch.refl _ _).alloc _)) (one_flatT _) (by unfold maxLen; omega) (by omega) (by simp) ?_; intro v2 w2 hown2 hgrow hnil; have O2 := hid hown2; have T2 : Hid (Touch [] w w2) := (((Touch.refl _ _).alloc _).grown hgrow (fun k hk => Or.inr (by have e : some w.heap.size = some k := hk; cases e; exact Nat.le_refl _))); have N2 : Hid (v2 ≠ .slice none 0 0) := (fun e => absurd (hnil.1 e).1 (by simp)); clear hown2 hgrow hnil)
      | (refine wpList_append_own _ rfl _ _ 26 rfl w.heap.size 34 i0 (.agg #[.int .i64 0, .int .i64 0]) 2 16 Try.underlying26 hi hz0 hz1 hz2 rfl (by decide) v2 (0 + p) ([] ++ flatT (l.take p)) rfl O2.out _ 0 _ [] rfl rfl (fun j u hj => by simp at hj) (fun u hu => by simp at hu) (by unfold maxLen; omega) (by omega) T2.out.size ?_; intro v3 w3 hown3 hgrow3 hnil3))
    go_ret
    refine ⟨_, rfl, RN.of (HEnd.out w3 v3 0 [] (by have := HLP.out; omega) (by rw [HD.out]; rfl) hown3) (fun e => N2.out (hnil3.1 e).1), T2.out.trans ((Touch.refl _ _).grown (F := v2.ownBlock.toList) hgrow3 (fun k hk => Or.inl (by simp [hk]))) (fun k hk => Or.inr (O2.out.lt k (by simpa using hk)).1)⟩
  · go_enter Try.func13, Try.ntmps13
    go_wp2_with (at_builtin; first
      | (refine wpList_append_own _ rfl _ _ 26 rfl w.heap.size 34 i0 (.agg #[.int .i64 0, .int .i64 0]) 2 16 Try.underlying26 hi hz0 hz1 hz2 rfl (by decide) (.slice (some ⟨w.heap.size, 0, none⟩) 0 0) 0 [] rfl HB.out ⟨g, 0, none⟩ p c (flatT (l.take p)) rfl HL1.out (HR.out.newsT rfl p _ ((Touch.refl _ _).alloc _)) (one_flatT _) (by unfold maxLen; omega) (by omega) (by simp) ?_; intro v2 w2 hown2 hgrow hnil; have O2 := hid hown2; have T2 : Hid (Touch [] w w2) := (((Touch.refl _ _).alloc _).grown hgrow (fun k hk => Or.inr (by have e : some w.heap.size = some k := hk; cases e; exact Nat.le_refl _))); have N2 : Hid (v2 ≠ .slice none 0 0) := (fun e => absurd (hnil.1 e).1 (by simp)); clear hown2 hgrow hnil)
      | (refine wpList_append_own _ rfl _ _ 26 rfl w.heap.size 34 i0 (.agg #[.int .i64 0, .int .i64 0]) 2 16 Try.underlying26 hi hz0 hz1 hz2 rfl (by decide) v2 (0 + p) ([] ++ flatT (l.take p)) rfl O2.out ⟨g, (p + 1) * 2, none⟩ (l.length - (p + 1)) (c - (p + 1)) (flatT (l.drop (p + 1))) rfl HL2.out (HR.out.news rfl (p + 1) _ T2.out) (one_flatT _) (by unfold maxLen; omega) (by omega) T2.out.size ?_; intro v3 w3 hown3 hgrow3 hnil3))
    go_ret
    refine ⟨_, rfl, RN.of (HEnd.out w3 v3 _ _ rfl rfl hown3) (fun e => N2.out (hnil3.1 e).1), T2.out.trans ((Touch.refl _ _).grown (F := v2.ownBlock.toList) hgrow3 (fun k hk => Or.inl (by simp [hk]))) (fun k hk => Or.inr (O2.out.lt k (by simpa using hk)).1)⟩
end Go.Proofs.Ytonkclllofbklaa
