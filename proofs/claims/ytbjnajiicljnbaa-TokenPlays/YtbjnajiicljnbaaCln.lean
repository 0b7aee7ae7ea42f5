/- The contracts of Under and Clone. -/
import Derived.Test.YtbjnajiicljnbaaLiv
import Derived.Lib.SliceRun
namespace Go.Proofs.Ytbjnajiicljnbaa
open Go.RowKit Go.Maps Go.ChangeMaps
set_option linter.unusedVariables false
theorem RI.tail {w : World} {B g c n : Nat} {l : List Nat} (h : w.ownsRow B 3 1 (.slice (some ⟨g, 0, none⟩) (l.length + 1) c) (l.length + 1) (ints (n :: l))) (o c' : Nat) (ho : l ≠ [] → o = 1) : RI w B (.slice (some ⟨g, o, none⟩) l.length c') l := by
  obtain ⟨cur, hc, hn, hm, hs, ht, hg, hl⟩ := own_block h
  refine ⟨_, c', rfl, ?_⟩
  by_cases e : l = []
  · exact Or.inl e
  · refine Or.inr ⟨g, o, cur, 3, (0, 0), rfl, hg, hc, fun i hi => ?_⟩
    rw [ho e]
    have : (cur.toList.take ((l.length + 1) * 1))[1 + i]? = (ints (n :: l))[1 + i]? := by rw [ht]
    rw [List.getElem?_take, if_pos (by omega)] at this
    rw [← Array.getElem?_toList, this, Nat.add_comm 1 i]
    simp [ints, hi]
section
variable (w : World) (t : Nat) (sl : Value) (S : List Tk) (n : Nat)
set_option maxHeartbeats 1000000 in
theorem under25 (h : Tn w t sl S) (ok : Ok S) (h1 : 1 ≤ n) (h2 : n ≤ S.length) : Calls Try.prog 25 #[PT t, .int .i64 (n : Nat)] w fun e w' => RiE e w w' (undL S n) := by
  have HB := hid (branch30_all w t sl S n h ok h1 h2)
  rw [brL_all ok.par h1 h2] at HB
  obtain ⟨g, c, rfl⟩ := h.slice (by omega)
  have HF := hid (find26_ok w t S g c n h h1 h2)
  have HLe : Hid ((undL S n).length ≤ 65536) := Nat.le_trans (List.length_filter_le _ _) (by simpa using h.le)
  clear h ok h1 h2
  unfold BrE at HB
  generalize undL S n = l at *
  have HB2 : Hid (Calls Try.prog 30 #[PT t, .int .i64 (n : Nat), .bool false] w fun e w' => ∃ g2 c2, e = .returned (.slice (some ⟨g2, 0, none⟩) (l.length + 1) c2) ∧ (l.length + 1 ≤ c2 ∧ c2 ≤ 9223372036854775807) ∧ (∀ o c', (l ≠ [] → o = 1) → RI w' w.heap.size (.slice (some ⟨g2, o, none⟩) l.length c') l) ∧ Touch [] w w') := by
    refine HB.out.mono ?_
    rintro e w' ⟨a, c2, he, r1, r2⟩
    rw [List.length_cons] at he r1
    rcases r1.2 with ⟨_, e⟩ | ⟨g2, cap, cur, e, _, _, hn, hm, _⟩
    · omega
    · injection e with e1 e2 e3
      subst e1 e3
      exact ⟨g2, c2, he, ⟨hn, by unfold maxLen at hm; omega⟩, fun o c' ho => RI.tail r1 o c' ho, r2⟩
  clear HB
  generalize (n : Int) = ni at *
  generalize (n - 1) * 5 = np at *
  have HL : Hid (l ≠ [] → 1 ≤ l.length) := fun h => List.length_pos_iff.2 h
  obtain ⟨L, hL⟩ : ∃ L, L = l.length := ⟨_, rfl⟩
  have HE : Hid (∀ a c w', RI w' w.heap.size (.slice a L c) l → Touch [] w w' → RiE (.returned (.slice a L c)) w w' l) := fun a c w' r T => ⟨a, c, by rw [hL], by rw [hL] at r; exact r, T⟩
  rw [← hL] at HLe HB2 HL
  clear hL
  unfold PT at *
  go_enter Try.func25, Try.ntmps25
  go_wp2_with (first | (go_at_call 26; refine HF.out.mono ?_; rintro e w ⟨rfl, rfl⟩) | (go_at_call 30; refine HB2.out.mono ?_; rintro e w2 ⟨g2, c2, rfl, ⟨z1, z2⟩, r3, r4⟩; have R := hid (And.intro r3 r4); clear r3 r4))
  · go_ret
    exact HE.out _ _ _ (R.out.1 0 0 (fun h => by have := HL.out h; omega)) R.out.2
  · go_ret
    exact HE.out _ _ _ (R.out.1 1 _ (fun _ => rfl)) R.out.2
theorem eq54 (W : World) (a : Option Addr) (n c : Nat) : (binOp .eql 54 (.slice a n c) (.slice none 0 0)).run Try.prog W = .ok (.bool a.isNone) W := Lib.run_eql_slice_nil W _ _ a n c 0 0 Try.underlying54
theorem clone29_nil : Calls Try.prog 29 #[.slice none 0 0] w fun e w' => e = .returned (.slice none 0 0) ∧ w' = w := by
  have q54 := eq54
  go_enter Try.func29, Try.ntmps29
  go_wp2
  go_ret
  exact ⟨rfl, rfl⟩
def ClE (e : Ending) (w w' : World) (S : List Tk) : Prop := ∃ a c, e = .returned (.slice a S.length c) ∧ w'.ownsRow w.heap.size 61 5 (.slice a S.length c) S.length (flat5 S) ∧ Touch [] w w'
theorem flat5_one {S : List Tk} : ∀ u ∈ flat5 S, u.oneCell' = true := by
  intro u hu
  unfold flat5 at hu
  rw [List.mem_flatMap] at hu
  obtain ⟨x, _, hx⟩ := hu
  simp [cells5] at hx
  rcases hx with rfl | rfl | rfl | rfl | rfl <;> rfl
set_option maxHeartbeats 1000000 in
set_option maxRecDepth 100000 in
theorem clone29 (g c : Nat) (h : w.ownsRow 0 61 5 (.slice (some ⟨g, 0, none⟩) S.length c) S.length (flat5 S)) (hl : 1 ≤ S.length) (hle : S.length ≤ 65536) : Calls Try.prog 29 #[.slice (some ⟨g, 0, none⟩) S.length c] w fun e w' => ClE e w w' S := by
  obtain ⟨i0, hi, hz0, hz1, hz2⟩ := info_parts info61
  have HO : Hid (∀ o : Obj, (w.alloc o).ownsRow 0 61 5 (.slice (some ⟨g, 0, none⟩) S.length c) S.length (flat5 S)) := fun o => own_touch h ((Touch.refl [] _).alloc o) (fun _ _ e => by cases e)
  have HM : Hid ((w.alloc (.cells #[] 61)).ownsRow w.heap.size 61 5 (.slice (some ⟨w.heap.size, 0, none⟩) 0 0) 0 []) := by
    have := World.ownsRow_made (e := 61) (size := 5) w #[] 0 (Nat.le_refl _) (by unfold maxLen; omega) rfl
    refine hid ?_
    simpa using this
  have HN : Hid (∀ j u, (flat5 S)[j]? = some u → (w.alloc (.cells #[] 61)).cell? ((⟨g, 0, none⟩ : Addr).add j) = some u) := fun j u hu => by
    have := own_cell (HO.out (.cells #[] 61)) hu
    by_cases hj : j = 0
    · subst hj
      simpa [Addr.add] using this
    · simpa [Addr.add, hj] using this
  have HF := hid (flat5_len S)
  have HE : Hid (∀ a c w', w'.ownsRow w.heap.size 61 5 (.slice a S.length c) S.length (flat5 S) → Touch [] w w' → ClE (.returned (.slice a S.length c)) w w' S) := fun a c w' r T => ⟨a, c, rfl, r, T⟩
  clear h
  have HB := hid (And.intro hl hle)
  clear hl hle
  generalize S.length = N at *
  have q54 := eq54
  go_enter Try.func29, Try.ntmps29
  go_wp2_with (at_builtin; refine wpList_append_lies _ rfl _ _ 54 rfl w.heap.size 61 i0 (.agg #[.int .i64 0, .int .i64 0, .int .i64 0, .int .i64 0, .int .i64 0]) 5 40 Try.underlying54 hi hz0 hz1 hz2 rfl (by decide) (.slice (some ⟨w.heap.size, 0, none⟩) 0 0) 0 [] rfl HM.out ⟨g, 0, none⟩ N c (flat5 S) rfl HF.out HN.out flat5_one (by have := HB.out; omega) (by have := HB.out; unfold maxLen; omega) (by have := HB.out; omega) (by simp) _ rfl ?_; intro g1 c1 w5 hown5 hgrow hat hlt5)
  have R : Hid (ClE (.returned (.slice (some ⟨g1, 0, none⟩) N c1)) w w5 S) := by
    rw [Nat.zero_add, List.nil_append] at hown5
    refine HE.out _ _ _ hown5 (((Touch.refl [] w).alloc _).grown hgrow (fun k hk => Or.inr ?_))
    simp [Value.ownBlock] at hk
    omega
  clear hown5 hgrow hat hlt5
  go_wp2
  go_ret
  simpa using R.out
/-- What Clone leaves. -/
def CpE (e : Ending) (w w' : World) (S : List Tk) : Prop := ∃ d sl, e = .returned (PT d) ∧ Tn w' d sl S ∧ Touch [] w w' ∧ ∀ k, k ∈ ft d sl → w.heap.size ≤ k
set_option maxHeartbeats 1000000 in
theorem clone15 (h : Tn w t sl S) : Calls Try.prog 15 #[PT t] w fun e w' => CpE e w w' S := by
  have c0 := h.tc.c0
  by_cases e : S = []
  · have hs := h.nz e
    subst e hs
    clear h
    have HC := hid (clone29_nil w)
    unfold PT at *
    go_enter Try.func15, Try.ntmps15
    go_wp2_with (go_at_call 29; refine HC.out.mono ?_; rintro e w ⟨rfl, rfl⟩)
    go_ret
    refine ⟨w.heap.size, .slice none 0 0, rfl, ⟨heap_alloc_new _ _, World.ownsRow_nil _ _ _ _, by simp, fun _ => rfl⟩, (Touch.refl _ _).alloc _, fun k hk => ?_⟩
    simp [ft, Value.ownBlock] at hk
    omega
  · have hl : 1 ≤ S.length := List.length_pos_iff.2 e
    obtain ⟨g, c, rfl⟩ := h.slice hl
    have HC := hid (clone29 w S g c h.row hl h.le)
    have HL := hid (And.intro hl h.le)
    clear h hl
    unfold PT at *
    go_enter Try.func15, Try.ntmps15
    go_wp2_with (go_at_call 29; refine HC.out.mono ?_; rintro e w2 ⟨a2, c2, rfl, r⟩; have R := hid r; clear r)
    go_ret
    obtain ⟨r1, r2⟩ := R.out
    refine ⟨w2.heap.size, .slice a2 S.length c2, rfl, ⟨heap_alloc_new _ _, own_base (own_touch r1 ((Touch.refl [] _).alloc _) (fun _ _ e => by cases e)) (Nat.zero_le _), HL.out.2, fun h => absurd h e⟩, r2.alloc _, fun k hk => ?_⟩
    rcases List.mem_cons.1 hk with rfl | hk
    · exact r2.size
    · exact (r1.lt k (by simpa using hk)).1
end
end Go.Proofs.Ytbjnajiicljnbaa
