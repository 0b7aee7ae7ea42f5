/- The document's list against who waits at each gate: plain lists, no program. -/
import Derived.Test.YtmbjjkdocmcpdaaRle
namespace Go.Proofs.Ytmbjjkdocmcpdaa
set_option linter.unusedVariables false
/-- One leaves; some leave. -/
def lv (ps : List (Int × Int)) (x : Int) : List (Int × Int) := ps.filter (fun p => p.1 != x)
def lvs (l : List Int) (ps : List (Int × Int)) : List (Int × Int) := l.foldl lv ps
structure Dk (ps : List (Int × Int)) : Prop where
  nd : (ps.map (·.1)).Nodup
  wf : ∀ p ∈ ps, W64 p.1
  ig : ∀ p ∈ ps, inG p.2 = true
theorem lv_no {ps : List (Int × Int)} {x : Int} (h : ¬ x ∈ ps.map (·.1)) : lv ps x = ps := by
  unfold lv
  rw [List.filter_eq_self]
  intro p hp
  simp only [bne_iff_ne, ne_eq]
  exact fun e => h (e ▸ List.mem_map_of_mem hp)
theorem lv_app (a b : List (Int × Int)) (x : Int) : lv (a ++ b) x = lv a x ++ lv b x := by simp [lv]
theorem lv_erase : ∀ {ps : List (Int × Int)} (hn : (ps.map (·.1)).Nodup) {i : Nat} (hi : i < ps.length), ps.eraseIdx i = lv ps ps[i].1
  | a :: r, hn, 0, hi => by
    have h1 := List.nodup_cons.1 hn
    simp only [List.eraseIdx_zero, List.tail_cons, List.getElem_cons_zero]
    rw [show a :: r = [a] ++ r from rfl, lv_app, lv_no h1.1]
    simp [lv]
  | a :: r, hn, i + 1, hi => by
    have hi' : i < r.length := by simpa using hi
    have h1 := List.nodup_cons.1 hn
    have ih := lv_erase h1.2 hi'
    simp only [List.eraseIdx_cons_succ, List.getElem_cons_succ]
    rw [ih, show a :: r = [a] ++ r from rfl, lv_app]
    have : a.1 ≠ r[i].1 := fun e => h1.1 (List.mem_map.2 ⟨_, List.getElem_mem hi', e.symm⟩)
    rw [lv_no (ps := [a]) (by simpa using fun e => this e.symm)]
    rfl
theorem lv_sub (ps : List (Int × Int)) (x : Int) : (lv ps x).Sublist ps := List.filter_sublist
theorem lvs_sub : ∀ (l : List Int) (ps : List (Int × Int)), (lvs l ps).Sublist ps
  | [], ps => List.Sublist.refl _
  | a :: r, ps => (lvs_sub r (lv ps a)).trans (lv_sub ps a)
theorem Dk.sub {ps qs : List (Int × Int)} (h : Dk ps) (hs : qs.Sublist ps) : Dk qs :=
  ⟨h.nd.sublist (hs.map _), fun p hp => h.wf p (hs.subset hp), fun p hp => h.ig p (hs.subset hp)⟩
theorem wOf_lv (ps : List (Int × Int)) (x n : Int) : wOf (lv ps x) n = out (wOf ps n) x := by
  unfold wOf lv out
  rw [List.filter_map, List.filter_filter, List.filter_filter]
  congr 1
  refine List.filter_congr (fun p _ => ?_)
  simp only [Function.comp]
  rw [Bool.and_comm]
theorem wOf_lvs : ∀ (l : List Int) (ps : List (Int × Int)) (n : Int), wOf (lvs l ps) n = l.foldl out (wOf ps n)
  | [], ps, n => rfl
  | a :: r, ps, n => by
    show wOf (lvs r (lv ps a)) n = r.foldl out (out (wOf ps n) a)
    rw [wOf_lvs r, wOf_lv]
theorem foldl_out_take : ∀ {xs : List Int} (hn : xs.Nodup) (k : Nat), (xs.take k).foldl out xs = xs.drop k
  | [], _, k => by simp
  | a :: r, hn, 0 => rfl
  | a :: r, hn, k + 1 => by
    simp only [List.take_succ_cons, List.foldl_cons, List.drop_succ_cons]
    rw [out_head hn]
    exact foldl_out_take (List.nodup_cons.1 hn).2 k
theorem foldl_out_no : ∀ {l zs : List Int}, (∀ y ∈ l, ¬ y ∈ zs) → l.foldl out zs = zs
  | [], zs, _ => rfl
  | a :: r, zs, h => by
    simp only [List.foldl_cons]
    rw [out_no (h a (by simp))]
    exact foldl_out_no (fun y hy => h y (by simp [hy]))
theorem wOf_mem {ps : List (Int × Int)} {x n : Int} : x ∈ wOf ps n ↔ (x, n) ∈ ps := by
  unfold wOf
  simp only [List.mem_map, List.mem_filter, beq_iff_eq]
  constructor
  · rintro ⟨p, ⟨h1, h2⟩, h3⟩
    subst h2 h3
    exact h1
  · intro h
    exact ⟨(x, n), ⟨h, rfl⟩, rfl⟩
theorem wOf_nd {ps : List (Int × Int)} (h : Dk ps) (n : Int) : (wOf ps n).Nodup := by
  unfold wOf
  exact h.nd.sublist (List.filter_sublist.map _)
/-- The two sides tell the same. -/
def Rel (W : Nat → List Int) (ps : List (Int × Int)) : Prop := ∀ i, i < 256 → W i = wOf ps (i : Int)
theorem pos_loc {W : Nat → List Int} {ps : List (Int × Int)} (ok : Ok W) (hr : Rel W ps) (hd : Dk ps) (x : Int) :
    (pos (ps.map (·.1)) x = none ∧ loc W x = none) ∨ ∃ k, ∃ hk : k < ps.length, pos (ps.map (·.1)) x = some k ∧ ps[k].1 = x ∧ loc W x = some ps[k].2.toNat ∧ inG ps[k].2 = true := by
  cases e : pos (ps.map (·.1)) x with
  | none =>
    refine Or.inl ⟨rfl, loc_none.2 (fun i hi hm => ?_)⟩
    rw [hr i hi, wOf_mem] at hm
    exact pos_none e (List.mem_map.2 ⟨_, hm, rfl⟩)
  | some k =>
    obtain ⟨hk, h1, h2⟩ := pos_some e
    have hk' : k < ps.length := by simpa using hk
    have hx : ps[k].1 = x := by simpa using h1
    have hg := hd.ig _ (List.getElem_mem hk')
    obtain ⟨g1, g2⟩ := inG_nat hg
    refine Or.inr ⟨k, hk', rfl, hx, (loc_some ok).2 ⟨g1, ?_⟩, hg⟩
    rw [hr _ g1, g2, wOf_mem, ← hx]
    exact List.getElem_mem hk'
theorem tot_rel {W : Nat → List Int} {ps : List (Int × Int)} (hr : Rel W ps) (hd : Dk ps) : tot W = ps.length := by
  rw [tot_ext (V := fun i => wOf ps (i : Int)) hr]
  clear hr
  induction ps with
  | nil => exact tot_zero (fun i hi => rfl)
  | cons p r ih =>
    have hd' : Dk r := hd.sub (List.sublist_cons_self _ _)
    have hg := hd.ig p (by simp)
    obtain ⟨g1, g2⟩ := inG_nat hg
    have e : (fun i : Nat => wOf (p :: r) (i : Int)) = fup (fun i : Nat => wOf r (i : Int)) p.2.toNat (p.1 :: wOf r p.2) := by
      funext j
      by_cases h : j = p.2.toNat
      · subst h
        rw [fup_same, g2]
        simp [wOf]
      · rw [fup_other _ _ h]
        have : p.2 ≠ (j : Int) := by omega
        simp [wOf, this]
    rw [e]
    have h1 := tot_fup (fun i : Nat => wOf r (i : Int)) g1 (p.1 :: wOf r p.2)
    have h2 := ih hd'
    simp only [g2, List.length_cons] at h1 ⊢
    omega
/-- Somebody more waits, by both. -/
theorem Rel.put {W : Nat → List Int} {ps : List (Int × Int)} (hr : Rel W ps) {n x : Int} (hn : inG n = true) : Rel (fup W n.toNat (W n.toNat ++ [x])) (ps ++ [(x, n)]) := fun j hj => by
  obtain ⟨g1, g2⟩ := inG_nat hn
  rw [wOf_snoc]
  by_cases h : j = n.toNat
  · subst h
    rw [fup_same, if_pos g2.symm, hr _ g1]
  · rw [fup_other _ _ h, if_neg (by show n ≠ _; omega), hr j hj]
theorem Dk.put {ps : List (Int × Int)} (h : Dk ps) {n x : Int} (hn : inG n = true) (hx : W64 x) (hp : pos (ps.map (·.1)) x = none) : Dk (ps ++ [(x, n)]) := by
  refine ⟨?_, fun p hp' => ?_, fun p hp' => ?_⟩
  · rw [List.map_append]
    exact nd_snoc h.nd (pos_none hp)
  · rcases List.mem_append.1 hp' with e | e
    · exact h.wf p e
    · simp only [List.mem_singleton] at e; subst e; exact hx
  · rcases List.mem_append.1 hp' with e | e
    · exact h.ig p e
    · simp only [List.mem_singleton] at e; subst e; exact hn
/-- One leaves, by both. -/
theorem Rel.leave {W : Nat → List Int} {ps : List (Int × Int)} (ok : Ok W) (hr : Rel W ps) {i : Nat} (hi : i < 256) {x : Int} (hx : x ∈ W i) : Rel (fup W i (out (W i) x)) (lv ps x) := fun j hj => by
  rw [wOf_lv]
  by_cases h : j = i
  · subst h
    rw [fup_same, hr j hj]
  · rw [fup_other _ _ h, ← hr j hj, out_no (fun e => h (ok.dj j i x hj hi e hx))]
/-- Some are let through, by both. -/
theorem Rel.pass {W : Nat → List Int} {ps : List (Int × Int)} (ok : Ok W) (hr : Rel W ps) {i : Nat} (hi : i < 256) (k : Nat) : Rel (fup W i ((W i).drop k)) (lvs ((wOf ps (i : Int)).take k) ps) := fun j hj => by
  rw [wOf_lvs]
  by_cases h : j = i
  · subst h
    rw [fup_same, hr j hj, foldl_out_take]
    rw [← hr j hj]
    exact ok.nd j hj
  · rw [fup_other _ _ h, ← hr j hj, foldl_out_no (fun y hy e => ?_)]
    have h2 := List.mem_of_mem_take hy
    rw [← hr i hi] at h2
    exact h (ok.dj j i y hj hi e h2)
end Go.Proofs.Ytmbjjkdocmcpdaa
