/- The contract of a gate's drop: who waits there waits there no more; nobody waits twice. -/
import Derived.Test.YtmbjjkdocmcpdaaPut
namespace Go.Proofs.Ytmbjjkdocmcpdaa
open Go.RowKit Go.Maps Go.ChangeMaps
set_option linter.unusedVariables false
theorem wl_set {L : List Li} {j : Nat} (hj : j < L.length) (l : Li) : wl (L.set j l) = wl (L.take j) ++ l.xs ++ wl (L.drop (j + 1)) := by
  rw [List.set_eq_take_append_cons_drop, if_pos hj, wl_app, wl_cons, List.append_assoc]
theorem wl_split {L : List Li} {j : Nat} (hj : j < L.length) : wl L = wl (L.take j) ++ L[j].xs ++ wl (L.drop (j + 1)) := by
  rw [← wl_set hj, List.set_getElem_self]
theorem wl_erase {L : List Li} {j : Nat} (hj : j < L.length) : wl (L.eraseIdx j) = wl (L.take j) ++ wl (L.drop (j + 1)) := by
  rw [List.eraseIdx_eq_take_drop_succ, wl_app]
theorem set_erase {L : List Li} {j : Nat} (l : Li) : (L.set j l).eraseIdx j = L.eraseIdx j := by
  rw [List.eraseIdx_eq_take_drop_succ, List.eraseIdx_eq_take_drop_succ, List.take_set, List.drop_set]
  simp
  exact List.set_eq_of_length_le (by rw [List.length_take]; omega)
section
variable {w w2 : World} {g o : Nat} {c : Array Value} {t : TypeId} {sl : Value} {L : List Li}
/-- tidy behind work on one queue. -/
theorem tidy_after (hb : w.heap[g]? = some (.cells c t (0, 0))) (hc : c[o + 1]? = some sl) (h : Lines w sl L) (hF : Full L) (hg : ¬ g ∈ fpL sl L) {j : Nat} (hj : j < L.length) (hL : L.length ≤ 4398046511104) {F' : List Nat} {ys : List Int} (u : Uq w2 L[j].q F' ys) (t2 : Touch L[j].F w w2) (nf : Nf w L[j].F F') :
    Calls Try.prog 35 #[.pointer (some ⟨g, o, none⟩), .int .i64 j] w2 fun e w' => e = .returned (.tuple #[]) ∧ AtE w w' g o c t sl L (wl (L.take j) ++ ys ++ wl (L.drop (j + 1))) := by
  obtain ⟨r1, r2⟩ := h.work hj u t2 nf
  have hgF : ¬ g ∈ L[j].F := fun e => hg (mem_fpL.2 (Or.inr ⟨_, List.getElem_mem hj, e⟩))
  have hb2 := t2.keep hb hgF
  have hgw := block_lt hb
  have T2 : Touch (g :: fpL sl L) w w2 := t2.mono (fun k hk => List.mem_cons_of_mem _ (mem_fpL.2 (Or.inr ⟨_, List.getElem_mem hj, hk⟩)))
  have hg2 : ¬ g ∈ fpL sl (L.set j ⟨L[j].q, F', ys⟩) := fun e => by
    rcases r2 g e with e1 | e1
    · exact hg e1
    · omega
  have hj2 : j < (L.set j ⟨L[j].q, F', ys⟩).length := by simpa using hj
  have hx : (L.set j ⟨L[j].q, F', ys⟩)[j].xs = ys := by simp
  by_cases hy : ys = []
  · refine (tidy35_less hb2 hc r1 hg2 hj2 (by simpa using hL) (by rw [hx]; exact hy)).mono ?_
    rintro e w3 ⟨he, sl', a⟩
    refine ⟨he, sl', _, ⟨a.ln, a.bl, T2.trans a.tc (fun k hk => ?_), fun k hk => ?_⟩, ?_, ?_⟩
    · rcases List.mem_cons.1 hk with e1 | e1
      · exact Or.inl (by rw [e1]; simp)
      · rcases r2 k e1 with e2 | e2
        · exact Or.inl (List.mem_cons_of_mem _ e2)
        · exact Or.inr e2
    · rcases a.nf k hk with e1 | e1
      · exact r2 k e1
      · exact Or.inr (Nat.le_trans t2.size e1)
    · rw [set_erase]
      exact fun l hl => hF l (List.mem_of_mem_eraseIdx hl)
    · rw [set_erase, wl_erase hj, hy]
      simp
  · refine (tidy35_keep hb2 hc r1 hj2 (by simpa using hL) (by rw [hx]; exact hy)).mono ?_
    rintro e w3 ⟨he, rfl⟩
    exact ⟨he, sl, _, ⟨r1, by rw [set_same hc]; exact hb2, T2, r2⟩, full_set hF hy, wl_set hj _⟩
end
/-- Who is in a list without repetition, taken out. -/
def out (xs : List Int) (x : Int) : List Int := xs.filter (fun y => y != x)
theorem out_no {xs : List Int} {x : Int} (h : ¬ x ∈ xs) : out xs x = xs := by
  unfold out
  rw [List.filter_eq_self]
  intro y hy
  simp only [bne_iff_ne, ne_eq]
  exact fun e => h (e ▸ hy)
theorem out_app (xs ys : List Int) (x : Int) : out (xs ++ ys) x = out xs x ++ out ys x := by simp [out]
theorem out_erase : ∀ {xs : List Int} (hn : xs.Nodup) {p : Nat} (hp : p < xs.length), xs.eraseIdx p = out xs xs[p]
  | a :: r, hn, 0, hp => by
    have := (List.nodup_cons.1 hn).1
    simp only [List.eraseIdx_zero, List.tail_cons, List.getElem_cons_zero]
    rw [show a :: r = [a] ++ r from rfl, out_app, out_no this]
    simp [out]
  | a :: r, hn, p + 1, hp => by
    have hp' : p < r.length := by simpa using hp
    have h1 := (List.nodup_cons.1 hn)
    have ih := out_erase h1.2 hp'
    simp only [List.eraseIdx_cons_succ, List.getElem_cons_succ]
    rw [ih, show a :: r = [a] ++ r from rfl, out_app]
    have : a ≠ r[p] := fun e => h1.1 (e ▸ List.getElem_mem hp')
    rw [out_no (xs := [a]) (by simpa using fun e => this e.symm)]
    rfl
theorem wl_mem {L : List Li} {x : Int} (h : x ∈ wl L) : ∃ j, ∃ hj : j < L.length, x ∈ L[j].xs := by
  simp only [wl, List.mem_flatMap] at h
  obtain ⟨l, hl, hx⟩ := h
  obtain ⟨j, hj, rfl⟩ := List.getElem_of_mem hl
  exact ⟨j, hj, hx⟩
theorem wl_one {L : List Li} {x : Int} (hn : (wl L).Nodup) {j : Nat} (hj : j < L.length) (hx : x ∈ L[j].xs) : ¬ x ∈ wl (L.take j) ∧ ¬ x ∈ wl (L.drop (j + 1)) := by
  rw [wl_split hj, List.nodup_append, List.nodup_append] at hn
  refine ⟨fun e => hn.1.2.2 x e x hx rfl, fun e => hn.2.2 x (List.mem_append.2 (Or.inr hx)) x e rfl⟩
theorem wl_out {L : List Li} {x : Int} (hn : (wl L).Nodup) {j : Nat} (hj : j < L.length) {p : Nat} (hp : p < L[j].xs.length) (hx : L[j].xs[p] = x) : wl (L.take j) ++ L[j].xs.eraseIdx p ++ wl (L.drop (j + 1)) = out (wl L) x := by
  obtain ⟨h1, h2⟩ := wl_one hn hj (x := x) (by rw [← hx]; exact List.getElem_mem hp)
  have h3 : L[j].xs.Nodup := by
    rw [wl_split hj, List.nodup_append, List.nodup_append] at hn
    exact hn.1.2.1
  rw [wl_split hj, out_app, out_app, out_no h1, out_no h2, ← hx, ← out_erase h3 hp]
section
variable {w : World} {g o : Nat} {c : Array Value} {t : TypeId} {sl : Value} {L : List Li}
theorem AtE.from {w w1 w' : World} {xs : List Int} (t1 : Touch [] w w1) (h : AtE w1 w' g o c t sl L xs) : AtE w w' g o c t sl L xs := by
  obtain ⟨sl', L', a, r⟩ := h
  exact ⟨sl', L', ⟨a.ln, a.bl, (t1.mono (fun _ e => by cases e)).trans' a.tc, fun k hk => (a.nf k hk).elim Or.inl (fun e => Or.inr (Nat.le_trans t1.size e))⟩, r⟩
set_option maxHeartbeats 4000000 in
set_option maxRecDepth 100000 in
theorem drop32 (hb : w.heap[g]? = some (.cells c t (0, 0))) (hc : c[o + 1]? = some sl) (h : Lines w sl L) (hF : Full L) (hg : ¬ g ∈ fpL sl L) (hL : L.length ≤ 4398046511104) (hn : (wl L).Nodup) (x : Int) (hx : W64 x) (hm : x ∈ wl L) :
    Calls Try.prog 32 #[.pointer (some ⟨g, o, none⟩), .int .i64 x] w fun e w' => e = .returned (.tuple #[]) ∧ AtE w w' g o c t sl L (out (wl L) x) := by
  obtain ⟨j, hj, hxj⟩ := wl_mem hm
  obtain ⟨p, hp, hpx⟩ := List.getElem_of_mem hxj
  have hbef : ∀ k (hk : k < j), ¬ x ∈ (L[k]'(by omega)).xs := fun k hk e => (wl_one hn hj hxj).1 (by
    simp only [wl, List.mem_flatMap]
    exact ⟨L[k]'(by omega), by rw [List.mem_take_iff_getElem]; exact ⟨k, by omega, rfl⟩, e⟩)
  obtain ⟨sp, cap, hs⟩ := h.form
  obtain ⟨b, hpb, hxc⟩ := h.cell hs hj
  clear hxc
  subst hpb
  have c1 := cell_at hb hc
  have HB : Hid (∀ W, Touch [] w W → ∀ k, k < L.length → ∃ q : Nat, W.cell? ⟨b, k, none⟩ = some (.pointer (some ⟨q, 0, none⟩)) ∧
      (k < j → Calls Try.prog 38 #[.pointer (some ⟨q, 0, none⟩), .int .i64 x] W fun e w' => e = .returned (.bool false) ∧ Touch [] w w') ∧
      (k = j → Calls Try.prog 38 #[.pointer (some ⟨q, 0, none⟩), .int .i64 x] W fun e w' => e = .returned (.bool true) ∧ Calls Try.prog 35 #[.pointer (some ⟨g, o, none⟩), .int .i64 k] w' fun e w' => e = .returned (.tuple #[]) ∧ AtE w w' g o c t sl L (out (wl L) x))) := fun W T k hk => by
    have hW := h.keep0 T
    have hbW := T.keep hb (by simp)
    obtain ⟨b', hpb, hcell⟩ := hW.cell hs hk
    cases hpb
    refine ⟨L[k].q, hcell, fun hkj => ?_, fun hkj => ?_⟩
    · refine (udrop_no W L[k].q L[k].F L[k].xs x hx (hW.all _ (List.getElem_mem hk)) (hbef k hkj)).mono ?_
      rintro e w' ⟨he, t'⟩
      exact ⟨he, T.trans' t'⟩
    · subst hkj
      refine (udrop_yes W L[k].q L[k].F L[k].xs x hx (hW.all _ (List.getElem_mem hk)) p hp hpx).mono ?_
      rintro e w' ⟨he, u, t'⟩
      refine ⟨he, (tidy_after hbW hc hW hF hg hk hL u t' (Nf.refl _ _)).mono ?_⟩
      rintro e2 w2 ⟨he2, a⟩
      rw [wl_out hn hk hp hpx] at a
      exact ⟨he2, a.from T⟩
  have zb : (L.length : Int) ≤ 4398046511104 := by omega
  rw [hs] at c1
  clear h hF hb hg hc hn hm hxj hp hpx hbef hs hL
  generalize out (wl L) x = WO at *
  generalize hN : L.length = N at *
  clear hN
  go_enter Try.func32, Try.ntmps32
  go_wp2_with fail
  go_loopw [4, 5, 11] (fun v4 v5 i wr => ∃ k : Nat, i = .int .i64 k ∧ k ≤ j ∧ Hid (Touch [] w wr)) (fun _ _ i _ => N - (intOf i).toNat)
  case atStart => exact ⟨0, rfl, Nat.zero_le _, Touch.refl _ _⟩
  case round =>
    obtain ⟨k, rfl, hk, HT⟩ := hrel
    have zk : (k : Int) < (N : Int) := by omega
    obtain ⟨q, hcell, hno, hyes⟩ := HB.out wr HT.out k (by omega)
    by_cases hkj : k < j
    · have HN := hid (hno hkj)
      clear hno hyes
      go_wp2_with (go_at_call 38; refine HN.out.mono ?_; rintro e w2 ⟨rfl, t2⟩; have T2 := hid t2; clear t2)
      go_roundw
      case rel => exact ⟨k + 1, by go_num, by omega, T2.out⟩
      case measure => simp [intOf]; omega
    · have HY := hid (hyes (by omega))
      clear hno hyes
      go_wp2_with (first | (go_at_call 38; refine HY.out.mono ?_; rintro e w2 ⟨rfl, cc⟩; have CC := hid cc; clear cc) | (go_at_call 35; refine CC.out.mono ?_; rintro e w3 ⟨rfl, a⟩; have A := hid a; clear a) | fail)
      exact bodyPost_ret (v := .tuple #[]) (by simp [results, Try.results32, go_sem]) rfl ⟨rfl, A.out⟩
end
end Go.Proofs.Ytmbjjkdocmcpdaa
