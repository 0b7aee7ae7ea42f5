/- A chain of items in a map, as a plain list: an item put behind all others, an item taken out; the list has no item twice. -/
import Derived.Test.YtmbjjkdocmcpdaaLnk
namespace Go.Proofs.Ytmbjjkdocmcpdaa
open Go.RowKit Go.Maps Go.ChangeMaps
set_option linter.unusedVariables false

structure Chn (f l : Int) (be af : Int → Int) (xs : List Int) : Prop where
  first : ∀ (h : 0 < xs.length), f = xs[0]
  last : ∀ (h : 0 < xs.length), l = xs[xs.length - 1]
  adj : ∀ i (h : i + 1 < xs.length), af xs[i] = xs[i + 1] ∧ be xs[i + 1] = xs[i]
def lmap (be af : Int → Int) (xs : List Int) : Int → Option Value := fun k => if k ∈ xs then some (lnk (be k) (af k)) else none
theorem nd_inj {xs : List Int} (hn : xs.Nodup) {i j : Nat} (hi : i < xs.length) (hj : j < xs.length) (h : xs[i] = xs[j]) : i = j := by
  have := List.pairwise_iff_getElem.1 hn
  rcases Nat.lt_trichotomy i j with e | e | e
  · exact absurd h (this i j hi hj e)
  · exact e
  · exact absurd h.symm (this j i hj hi e)
theorem chn_nil (f l : Int) (be af : Int → Int) : Chn f l be af [] := ⟨fun h => absurd h (by simp), fun h => absurd h (by simp), fun i h => absurd h (by simp)⟩
theorem chn_one (x : Int) (be af : Int → Int) : Chn x x be af [x] := ⟨fun h => rfl, fun h => rfl, fun i h => absurd h (by simp)⟩
theorem lmap_one (be af : Int → Int) (x a : Int) (k : Int) : upd (lmap be af []) x (lnk a 0) k = lmap (fun _ => a) (fun _ => 0) [x] k := by
  simp only [upd, lmap, List.not_mem_nil, if_false, List.mem_singleton]
theorem chn_push {f l : Int} {be af : Int → Int} {xs : List Int} (h : Chn f l be af xs) (h0 : 0 < xs.length) (hn : xs.Nodup) {x : Int} (hx : ¬ x ∈ xs) :
    Chn f x (fun k => if k = x then l else be k) (fun k => if k = x then 0 else if k = l then x else af k) (xs ++ [x]) := by
  have hl := h.last h0
  have hne : ∀ i (hi : i < xs.length), xs[i] ≠ x := fun i hi e => hx (e ▸ List.getElem_mem hi)
  refine ⟨fun h' => ?_, fun h' => ?_, fun i hi => ?_⟩
  · rw [List.getElem_append_left h0]; exact h.first h0
  · simp
  · simp only [List.length_append, List.length_singleton] at hi
    have hi' : i < xs.length := by omega
    rw [List.getElem_append_left hi']
    by_cases e : i + 1 < xs.length
    · rw [List.getElem_append_left e]
      have := h.adj i e
      have h1 : xs[i] ≠ l := fun e' => by
        rw [hl] at e'
        have := nd_inj hn hi' (by omega) e'
        omega
      simp only [hne i hi', hne _ e, h1, if_false]
      exact this
    · have e2 : i = xs.length - 1 := by omega
      have e3 : (xs ++ [x])[i + 1]'(by simp; omega) = x := by
        rw [List.getElem_append_right (by omega)]
        simp
      rw [e3]
      have e4 : xs[i] = l := by rw [hl]; congr 1
      have e5 : l ≠ x := fun e => hne i hi' (e4.trans e)
      simp only [e4, e5, if_false, if_true]
      exact ⟨trivial, trivial⟩
theorem lmap_push {f l : Int} {be af : Int → Int} {xs : List Int} (h : Chn f l be af xs) (h0 : 0 < xs.length) {x : Int} (hx : ¬ x ∈ xs) (k : Int) :
    upd (upd (lmap be af xs) l (lnk (be l) x)) x (lnk l 0) k = lmap (fun k => if k = x then l else be k) (fun k => if k = x then 0 else if k = l then x else af k) (xs ++ [x]) k := by
  have hl : l ∈ xs := by rw [h.last h0]; exact List.getElem_mem _
  have hlx : l ≠ x := fun e => hx (e ▸ hl)
  simp only [upd, lmap, List.mem_append, List.mem_singleton]
  by_cases e : k = x
  · simp [e]
  · by_cases e' : k = l
    · subst e'
      simp [hl, hlx]
    · simp [e, e']
/-- What the chain is behind an item's taking out. -/
def afD (f : Int) (be af : Int → Int) (k : Int) : Int → Int := fun j => if k ≠ f ∧ j = be k then af k else af j
def beD (l : Int) (be af : Int → Int) (k : Int) : Int → Int := fun j => if k ≠ l ∧ j = af k then be k else be j
theorem chn_first {f l : Int} {be af : Int → Int} {xs : List Int} (h : Chn f l be af xs) (hn : xs.Nodup) {p : Nat} (hp : p < xs.length) : xs[p] = f ↔ p = 0 := by
  have h0 : 0 < xs.length := by omega
  rw [h.first h0]
  exact ⟨fun e => nd_inj hn hp h0 e, fun e => by subst e; rfl⟩
theorem chn_last {f l : Int} {be af : Int → Int} {xs : List Int} (h : Chn f l be af xs) (hn : xs.Nodup) {p : Nat} (hp : p < xs.length) : xs[p] = l ↔ p = xs.length - 1 := by
  have h0 : 0 < xs.length := by omega
  rw [h.last h0]
  exact ⟨fun e => nd_inj hn hp (by omega) e, fun e => by subst e; rfl⟩
theorem chn_del {f l : Int} {be af : Int → Int} {xs : List Int} (h : Chn f l be af xs) (hn : xs.Nodup) {p : Nat} (hp : p < xs.length) :
    Chn (if xs[p] = f then af xs[p] else f) (if xs[p] = l then be xs[p] else l) (beD l be af xs[p]) (afD f be af xs[p]) (xs.eraseIdx p) := by
  have hlen : (xs.eraseIdx p).length = xs.length - 1 := List.length_eraseIdx_of_lt hp
  have hf := chn_first h hn hp
  have hl := chn_last h hn hp
  refine ⟨fun h0 => ?_, fun h0 => ?_, fun i hi => ?_⟩
  · rw [List.getElem_eraseIdx]
    by_cases e : p = 0
    · rw [if_pos (hf.2 e)]
      subst e
      rw [dif_neg (by omega)]
      exact (h.adj 0 (by omega)).1
    · rw [if_neg (fun e' => e (hf.1 e')), dif_pos (by omega)]
      exact h.first (by omega)
  · rw [List.getElem_eraseIdx]
    by_cases e : p = xs.length - 1
    · rw [if_pos (hl.2 e), dif_pos (by omega)]
      have := (h.adj (p - 1) (by omega)).2
      have e1 : p - 1 + 1 = p := by omega
      simp only [e1] at this
      rw [this]
      congr 1
      omega
    · rw [if_neg (fun e' => e (hl.1 e')), dif_neg (by omega)]
      refine (h.last (by omega)).trans ?_
      congr 1
      omega
  · rw [hlen] at hi
    simp only [List.getElem_eraseIdx]
    have bek : p ≠ 0 → be xs[p] = xs[p - 1] := fun e => by
      have := (h.adj (p - 1) (by omega)).2
      have e1 : p - 1 + 1 = p := by omega
      simp only [e1] at this
      exact this
    have afk : ∀ (e : p + 1 < xs.length), af xs[p] = xs[p + 1] := fun e => (h.adj p e).1
    have A : ∀ i (hi : i < xs.length), (i + 1 = p → afD f be af xs[p] xs[i] = af xs[p]) ∧ (i ≠ p → i + 1 ≠ p → afD f be af xs[p] xs[i] = af xs[i]) := fun i hi => by
      unfold afD
      refine ⟨fun e => ?_, fun e0 e => ?_⟩
      · rw [if_pos ⟨fun e' => by have := hf.1 e'; omega, by rw [bek (by omega)]; congr 1; omega⟩]
      · rw [if_neg]
        rintro ⟨e1, e2⟩
        have hp0 : p ≠ 0 := fun e' => e1 (hf.2 e')
        rw [bek hp0] at e2
        have := nd_inj hn hi (by omega) e2
        omega
    have B : ∀ i (hi : i < xs.length), (i = p + 1 → beD l be af xs[p] xs[i] = be xs[p]) ∧ (i ≠ p → i ≠ p + 1 → beD l be af xs[p] xs[i] = be xs[i]) := fun i hi => by
      unfold beD
      refine ⟨fun e => ?_, fun e0 e => ?_⟩
      · subst e
        rw [if_pos ⟨fun e' => by have := hl.1 e'; omega, (afk hi).symm⟩]
      · rw [if_neg]
        rintro ⟨e1, e2⟩
        have hp0 : p ≠ xs.length - 1 := fun e' => e1 (hl.2 e')
        rw [afk (by omega)] at e2
        have := nd_inj hn hi (by omega) e2
        omega
    by_cases e1 : i + 1 < p
    · rw [dif_pos (by omega), dif_pos e1, (A i (by omega)).2 (by omega) (by omega), (B (i + 1) (by omega)).2 (by omega) (by omega)]
      exact h.adj i (by omega)
    · by_cases e2 : i < p
      · rw [dif_pos e2, dif_neg e1, (A i (by omega)).1 (by omega), (B (i + 1 + 1) (by omega)).1 (by omega)]
        obtain rfl : p = i + 1 := by omega
        exact ⟨afk (by omega), bek (by omega)⟩
      · rw [dif_neg e2, dif_neg (by omega), (A (i + 1) (by omega)).2 (by omega) (by omega), (B (i + 1 + 1) (by omega)).2 (by omega) (by omega)]
        exact h.adj (i + 1) (by omega)
theorem mem_eraseIdx_nd {xs : List Int} (hn : xs.Nodup) {p : Nat} (hp : p < xs.length) (k : Int) : k ∈ xs.eraseIdx p ↔ k ∈ xs ∧ k ≠ xs[p] := by
  constructor
  · intro h
    refine ⟨List.mem_of_mem_eraseIdx h, fun e => ?_⟩
    obtain ⟨i, hi, he⟩ := List.getElem_of_mem h
    rw [List.length_eraseIdx_of_lt hp] at hi
    rw [List.getElem_eraseIdx] at he
    split at he
    · have := nd_inj hn (by omega) hp (he.trans e)
      omega
    · have := nd_inj hn (by omega) hp (he.trans e)
      omega
  · rintro ⟨h, e⟩
    obtain ⟨i, hi, he⟩ := List.getElem_of_mem h
    have hip : i ≠ p := fun e' => e (by subst e'; exact he.symm)
    rw [List.mem_iff_getElem]
    by_cases h1 : i < p
    · refine ⟨i, by rw [List.length_eraseIdx_of_lt hp]; omega, ?_⟩
      rw [List.getElem_eraseIdx, dif_pos h1, he]
    · refine ⟨i - 1, by rw [List.length_eraseIdx_of_lt hp]; omega, ?_⟩
      rw [List.getElem_eraseIdx, dif_neg (by omega), ← he]
      congr 1
      omega
theorem nodup_eraseIdx {xs : List Int} (hn : xs.Nodup) (p : Nat) : (xs.eraseIdx p).Nodup := List.Nodup.sublist (List.eraseIdx_sublist _ _) hn
/-- The map behind an item's taking out: the item deleted, then its neighbours joined. -/
theorem lmap_del {f l : Int} {be af : Int → Int} {xs : List Int} (h : Chn f l be af xs) (hn : xs.Nodup) {p : Nat} (hp : p < xs.length) (g g2 g3 : Int → Option Value)
    (hg : g = del (lmap be af xs) xs[p]) (h2 : (xs[p] = f ∧ g2 = g) ∨ (xs[p] ≠ f ∧ g2 = upd g (be xs[p]) (lnk (be (be xs[p])) (af xs[p]))))
    (h3 : (xs[p] = l ∧ g3 = g2) ∨ (xs[p] ≠ l ∧ g3 = upd g2 (af xs[p]) (lnk (be xs[p]) (afD f be af xs[p] (af xs[p]))))) (j : Int) : g3 j = lmap (beD l be af xs[p]) (afD f be af xs[p]) (xs.eraseIdx p) j := by
  have hf := chn_first h hn hp
  have hl := chn_last h hn hp
  have bek : p ≠ 0 → be xs[p] = xs[p - 1] := fun e => by
    have := (h.adj (p - 1) (by omega)).2
    have e1 : p - 1 + 1 = p := by omega
    simp only [e1] at this
    exact this
  have afk : ∀ (e : p + 1 < xs.length), af xs[p] = xs[p + 1] := fun e => (h.adj p e).1
  have hm := mem_eraseIdx_nd hn hp j
  have M1 : xs[p] ≠ f → be xs[p] ∈ xs ∧ be xs[p] ≠ xs[p] := fun e => by
    have e0 : p ≠ 0 := fun e' => e (hf.2 e')
    rw [bek e0]
    exact ⟨List.getElem_mem _, fun e' => by have := nd_inj hn (by omega) hp e'; omega⟩
  have M2 : xs[p] ≠ l → af xs[p] ∈ xs ∧ af xs[p] ≠ xs[p] := fun e => by
    have e0 : p ≠ xs.length - 1 := fun e' => e (hl.2 e')
    rw [afk (by omega)]
    exact ⟨List.getElem_mem _, fun e' => by have := nd_inj hn (by omega) hp e'; omega⟩
  have M3 : xs[p] ≠ f → xs[p] ≠ l → be xs[p] ≠ af xs[p] := fun e e' => by
    have e0 : p ≠ 0 := fun e' => e (hf.2 e')
    have e1 : p ≠ xs.length - 1 := fun e2 => e' (hl.2 e2)
    rw [bek e0, afk (by omega)]
    exact fun e2 => by have := nd_inj hn (by omega) (by omega) e2; omega
  have hgj : g j = if j ∈ xs.eraseIdx p then some (lnk (be j) (af j)) else none := by
    rw [hg]
    simp only [del, lmap]
    by_cases e : j = xs[p]
    · rw [if_pos e, if_neg (fun h' => (hm.1 h').2 e)]
    · rw [if_neg e]
      by_cases e' : j ∈ xs
      · rw [if_pos e', if_pos (hm.2 ⟨e', e⟩)]
      · rw [if_neg e', if_neg (fun h' => e' (hm.1 h').1)]
  have hg2j : g2 j = if j ∈ xs.eraseIdx p then some (lnk (be j) (afD f be af xs[p] j)) else none := by
    rcases h2 with ⟨e, rfl⟩ | ⟨e, rfl⟩
    · rw [hgj]
      simp [afD, e]
    · simp only [upd]
      by_cases e' : j = be xs[p]
      · rw [if_pos e', if_pos (hm.2 (e' ▸ M1 e)), e']
        simp [afD, e]
      · rw [if_neg e', hgj]
        simp [afD, e']
  rcases h3 with ⟨e, rfl⟩ | ⟨e, rfl⟩
  · rw [hg2j]
    simp [lmap, beD, e]
  · simp only [upd]
    by_cases e' : j = af xs[p]
    · rw [if_pos e']
      simp only [lmap]
      rw [if_pos (hm.2 (e' ▸ M2 e)), e']
      simp [beD, e]
    · rw [if_neg e', hg2j]
      simp [lmap, beD, e']
end Go.Proofs.Ytmbjjkdocmcpdaa
