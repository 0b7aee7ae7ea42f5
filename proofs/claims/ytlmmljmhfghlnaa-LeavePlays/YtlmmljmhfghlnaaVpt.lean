/- One kind of takeAway's rounds, told of memory alone; no conditions but those that each states. -/
import Derived.Test.YtlmmljmhfghlnaaVpn
namespace Go.Proofs.Ytlmmljmhfghlnaa
open Go.RowKit Go.Maps Go.ChangeMaps
set_option linter.unusedVariables false
set_option linter.unusedSimpArgs false
def delC (q : Nat) (CH : List Chr) : List Chr := CH.filter (fun p => decide (p.1 ≠ q))
/-- A block is one chair's. -/
theorem ch_uniq {CH : List Chr} (nd : (CH.map Prod.fst).Nodup) {p1 p2 : Chr} (hp1 : p1 ∈ CH) (hp2 : p2 ∈ CH) (e : p1.1 = p2.1) : p1 = p2 := by
  obtain ⟨i1, hi1⟩ := List.getElem?_of_mem hp1
  obtain ⟨i2, hi2⟩ := List.getElem?_of_mem hp2
  have l1 := (List.getElem?_eq_some_iff.1 hi1).1
  have g1 : (CH.map Prod.fst)[i1]? = some p1.1 := by rw [List.getElem?_map, hi1]; rfl
  have g2 : (CH.map Prod.fst)[i2]? = some p1.1 := by rw [List.getElem?_map, hi2, e]; rfl
  have : i1 = i2 := (List.getElem?_inj (by simpa using l1) nd).1 (g1.trans g2.symm)
  subst this
  rw [hi1] at hi2
  exact Option.some.inj hi2
/-- Rows of unlike numbers have no chair in common. -/
theorem row_apart {CH : List Chr} (nd : (CH.map Prod.fst).Nodup) {k z : Nat} {n m : Int} (h1 : z ∈ rowOf k n CH) (h2 : z ∈ rowOf k m CH) : n = m := by
  obtain ⟨j1, hj1⟩ := List.getElem?_of_mem h1
  obtain ⟨j2, hj2⟩ := List.getElem?_of_mem h2
  obtain ⟨p1, hp1, e5, _, e6⟩ := row_seats CH k _ j1 z hj1
  obtain ⟨p2, hp2, e7, _, e8⟩ := row_seats CH k _ j2 z hj2
  have := ch_uniq nd hp1 hp2 (e5.trans e7.symm)
  rw [← e6, ← e8, this]
theorem row_in {CH : List Chr} {q : Nat} {x : Se} (h : (q, x) ∈ CH) (k : Nat) : q ∈ rowOf k (num k x) CH := List.mem_map.2 ⟨(q, x), List.mem_filter.2 ⟨h, by simp⟩, rfl⟩
theorem row_del (CH : List Chr) (q k : Nat) (n : Int) : rowOf k n (delC q CH) = (rowOf k n CH).filter (fun z => decide (z ≠ q)) := by
  unfold rowOf delC
  rw [List.filter_map, List.filter_filter, List.filter_filter]
  congr 1
  refine List.filter_congr (fun p _ => ?_)
  simp only [Function.comp]
  exact Bool.and_comm _ _
theorem del_mid {u v : List Nat} {q : Nat} (h : (u ++ q :: v).Nodup) : (u ++ q :: v).filter (fun z => decide (z ≠ q)) = u ++ v := by
  rw [List.nodup_append] at h
  obtain ⟨h1, h2, h3⟩ := h
  rw [List.nodup_cons] at h2
  rw [List.filter_append, List.filter_cons_of_neg (by simp)]
  congr 1
  · exact List.filter_eq_self.2 (fun z hz => by simp; exact fun e => h3 z hz q (by simp) e)
  · exact List.filter_eq_self.2 (fun z hz => by simp; exact fun e => h2.1 (e ▸ hz))
theorem del_none {xs : List Nat} {q : Nat} (h : ¬ q ∈ xs) : xs.filter (fun z => decide (z ≠ q)) = xs := List.filter_eq_self.2 (fun z hz => by simp; exact fun e => h (e ▸ hz))
theorem head_del (u v : List Nat) (q : Nat) : (if lastO none u = none then v.head? else (u ++ q :: v).head?) = (u ++ v).head? := by
  cases u with
  | nil => rfl
  | cons a r =>
    rw [if_neg (fun e => by have := lastO_none e; cases this)]
    rfl
theorem last_del (u v : List Nat) (q : Nat) : (if v.head? = none then lastO none u else lastO none (u ++ q :: v)) = lastO none (u ++ v) := by
  rw [lastO_append, lastO_append]
  cases v with
  | nil => rfl
  | cons a r => rfl
def LkM (w : World) (CH C0 C1 : List Chr) (i : Nat) (Z : (Nat → Nat → Option Nat) → (Nat → Nat → Option Nat) → Nat → Prop) (A B : Nat → Nat → Option Nat) : Prop := Ch w CH A B ∧ (∀ k, k < 3 → k < i → ∀ n, Lk (A k) (B k) none (rowOf k n C1)) ∧ (∀ k, k < 3 → i ≤ k → Z A B k ∧ ∀ n, Lk (A k) (B k) none (rowOf k n C0))
section
variable {wr V2 W2 : World} {s b d nr i q nb rb : Nat} {mk : Option Nat} {CH : List Chr} {G : List Int} {x : Se} {A B : Nat → Nat → Option Nat}
theorem take_split (hq : (q, x) ∈ CH) (nd : (CH.map Prod.fst).Nodup) (hl : ∀ n, Lk (A i) (B i) none (rowOf i n CH)) : ∃ u v, rowOf i (num i x) CH = u ++ q :: v ∧ A i q = lastO none u ∧ B i q = v.head? ∧ rowOf i (num i x) (delC q CH) = u ++ v := by
  obtain ⟨u, v, e⟩ := List.append_of_mem (row_in hq i)
  have h1 := hl (num i x)
  rw [e] at h1
  obtain ⟨h2, h3⟩ := h1.at
  have hn := row_nd nd i (num i x)
  rw [e] at hn
  exact ⟨u, v, e, h2, h3, by rw [row_del, e, del_mid hn]⟩
theorem take_ready (h : LkM wr CH CH (delC q CH) i Zt A B) (hi : i < 3) (hq : (q, x) ∈ CH) (nd : (CH.map Prod.fst).Nodup) : wr.heap[q]? = some (.cells (chc x (fun k => A k q) (fun k => B k q)) 69 (0, 0)) ∧ (∀ p, A i q = some p → isCh wr p ∧ p ∈ rowOf i (num i x) CH) ∧ (∀ p, B i q = some p → isCh wr p ∧ p ∈ rowOf i (num i x) CH) ∧ (∀ p, A i q = some p → B i q ≠ some p) := by
  obtain ⟨u, v, e, h2, h3, _⟩ := take_split hq nd (h.2.2 i hi (Nat.le_refl _)).2
  have hn := row_nd nd i (num i x)
  rw [e] at hn
  have ha : ∀ p, A i q = some p → p ∈ u := fun p hp => by
    rw [h2] at hp
    rcases lastO_mem hp with e | e
    · cases e
    · exact e
  have hb : ∀ p, B i q = some p → p ∈ v := fun p hp => by rw [h3] at hp; exact List.mem_of_mem_head? hp
  have hm : ∀ p, p ∈ rowOf i (num i x) CH → isCh wr p := fun p hp => h.1.is (row_mem hp)
  refine ⟨h.1 (q, x) hq, fun p hp => ?_, fun p hp => ?_, fun p hp hp2 => ?_⟩
  · have : p ∈ rowOf i (num i x) CH := by rw [e]; simp [ha p hp]
    exact ⟨hm p this, this⟩
  · have : p ∈ rowOf i (num i x) CH := by rw [e]; simp [hb p hp]
    exact ⟨hm p this, this⟩
  · rw [List.nodup_append] at hn
    exact hn.2.2 p (ha p hp) p (by simp [hb p hp2]) rfl
theorem take_step (h : Md wr s b d mk nr CH CH (delC q CH) G i Zt) (hk : LkM wr CH CH (delC q CH) i Zt A B) (hi : i < 3) (hx : Wf x) (hq : (q, x) ∈ CH) (nd : (CH.map Prod.fst).Nodup) (hnr : nr < maxLen) (t2 : Touch [] wr V2) (hn : V2.heap[nb]? = some (.cells #[.int .i64 (i : Int), .int .i64 (num i x)] 73 (0, 0))) (hrb : wr.heap.size ≤ rb)
    (hr : V2.heap[rb]? = some (.cells (rowC (rowOf i (num i x) CH)) 82 (0, 0))) (hE : RmE V2 W2 i rb q (rowOf i (num i x) CH).head? (lastO none (rowOf i (num i x) CH)) (A i q) (B i q)) :
    ∃ f l, Rb W2 s d nb rb i (num i x) f l ∧ ∀ W3, W3 = W2.drew → ∃ o, ((f = none ∧ ∀ ty, (Builtin.delete_ #[57, 73] ty #[.map (some d), .agg #[.int .i64 (i : Int), .int .i64 (num i x)]]).run Try.prog W3 = .ok (.tuple #[]) (setBlock W3 d o)) ∨
      ((∃ z, f = some z) ∧ (Instr.mapUpdate 57 (.map (some d)) (.agg #[.int .i64 (i : Int), .int .i64 (num i x)]) (.agg #[pv f, pv l])).run Try.prog W3 = .ok () (setBlock W3 d o))) ∧ Md (setBlock W3 d o) s b d mk nr CH CH (delC q CH) G (i + 1) Zt ∧ Touch (fpM s b d mk CH) wr (setBlock W3 d o) := by
  have h2 := h.keep0 t2
  have hk2 : LkM V2 CH CH (delC q CH) i Zt A B := ⟨hk.1.keep t2 (fun _ _ e => by cases e), hk.2⟩
  obtain ⟨y1, y2, y3, y4⟩ := take_ready hk2 hi hq nd
  obtain ⟨u, v, erow, eA, eB, edel⟩ := take_split hq nd (hk.2.2 i hi (Nat.le_refl _)).2
  have hch : ∀ z, z ∈ CH.map Prod.fst → isCh V2 z := fun z hz => hk2.1.is hz
  have hF : ∀ z, z ∈ rb :: ((A i q).toList ++ (B i q).toList) → z = rb ∨ z ∈ CH.map Prod.fst := fun z hz => by
    simp only [List.mem_cons, List.mem_append, Option.mem_toList] at hz
    rcases hz with e | e | e
    · exact Or.inl e
    · exact Or.inr (row_mem (y2 z e).2)
    · exact Or.inr (row_mem (y3 z e).2)
  have hmap : ∀ z, (∃ es cl, V2.heap[z]? = some (.map es cl)) → ¬ z ∈ rb :: ((A i q).toList ++ (B i q).toList) := fun z hz e => by
    rcases hF z e with e | e
    · obtain ⟨es, cl, hz⟩ := hz
      rw [e, hr] at hz
      cases hz
    · exact (hch z e).nemap hz rfl
  have hs : ¬ s ∈ rb :: ((A i q).toList ++ (B i q).toList) := fun e => by
    rcases hF s e with e | e
    · have := h2.hb; rw [e, hr] at this; simp at this
    · obtain ⟨x', a', b', h3⟩ := hch s e
      have := h2.hb; rw [h3] at this; simp at this
  have hnb : ¬ nb ∈ rb :: ((A i q).toList ++ (B i q).toList) := fun e => by
    rcases hF nb e with e | e
    · rw [e, hr] at hn; simp at hn
    · obtain ⟨x', a', b', h3⟩ := hch nb e
      rw [h3] at hn; simp at hn
  obtain ⟨n, hn1, hn2⟩ := h2.rm
  have hm2 : MapK KN W2.drew d n (rmid i (delC q CH) CH) := (hn2.keep hE.t (hmap d hn2.kind)).kept rfl
  have hsd : s ≠ d := fun e => by
    obtain ⟨es, cl, h3⟩ := hn2.kind
    have := h2.hb; rw [e, h3] at this; cases this
  have hmd : ∀ z, isCh V2 z → z ≠ d := fun z hz e => hz.nemap hn2.kind e.symm
  have hrow := hE.row
  have ef : (if A i q = none then B i q else (rowOf i (num i x) CH).head?) = (u ++ v).head? := by rw [eA, eB, erow]; exact head_del u v q
  have el : (if B i q = none then A i q else lastO none (rowOf i (num i x) CH)) = lastO none (u ++ v) := by rw [eA, eB, erow]; exact last_del u v q
  rw [ef, el] at hrow
  refine ⟨(u ++ v).head?, lastO none (u ++ v), Rb.mk' (hE.t.keep h2.hb hs) (hE.t.keep hn hnb) hrow, ?_⟩
  have fin : ∀ o n' g, n' ≤ n → MapK KN (setBlock W2.drew d o) d n' g → g ((i : Int), num i x) = rmap (delC q CH) ((i : Int), num i x) → (∀ z, z ≠ ((i : Int), num i x) → g z = rmid i (delC q CH) CH z) → Md (setBlock W2.drew d o) s b d mk nr CH CH (delC q CH) G (i + 1) Zt ∧ Touch (fpM s b d mk CH) wr (setBlock W2.drew d o) := fun o n' g g0 g1 g2 g3 => by
    have td : Touch [d] W2 (setBlock W2.drew d o) := touch_setBlock (Touch.refl _ _).drew (Or.inl (by simp)) o
    refine ⟨⟨td.keep (hE.t.keep h2.hb hs) (by simpa using hsd), h.bd, (h2.cm.keep hE.t (hmap b h2.cm.kind)).keep td (by simpa using h.bd), ?_, ?_, h.kc, ?_⟩, ?_⟩
    · refine ⟨n', by omega, g1.congr (fun z _ => rmid_step hi (m := num i x) (fun n hne => ?_) z _ g2 g3)⟩
      rw [row_del, del_none (fun e => hne (row_apart nd e (row_in hq i)))]
    · rcases h2.km with h1 | ⟨c, h1, h3⟩
      · exact Or.inl h1
      · exact Or.inr ⟨c, h1, (h3.keep hE.t (hmap c h3.kind)).keep td (by simpa using (h.kc c h1).2)⟩
    · obtain ⟨h1, h3, h4⟩ := hk2
      have hc := h1.removed hE (fun p hp e => by
        obtain ⟨x', a', b', h5⟩ := hch p.1 (List.mem_map.2 ⟨p, hp, rfl⟩)
        rw [e, hr] at h5; simp at h5) y4
      refine ⟨_, _, hc.keep td (fun p hp e => hmd p.1 (hch p.1 (List.mem_map.2 ⟨p, hp, rfl⟩)) (by simpa using e)), fun k hk3 hki n => ?_, fun k hk3 hki => ⟨trivial, fun n => ?_⟩⟩
      · by_cases e : k = i
        · subst e
          rw [upd2_at, upd2_at]
          have hlk := (h4 k hk3 (Nat.le_refl k)).2
          by_cases e2 : num k x = n
          · subst e2
            rw [edel]
            have h5 := hlk (num k x)
            have h6 := row_nd nd k (num k x)
            rw [erow] at h5 h6
            exact h5.del h6 (fun _ _ e => by cases e)
          · rw [row_del, del_none (fun e => e2 (row_apart nd (row_in hq k) e))]
            refine (hlk n).congr (fun z hz2 => ⟨?_, ?_⟩)
            · unfold updO
              rw [if_neg (fun e3 => e2 (row_apart nd (y3 z e3).2 hz2))]
            · unfold updO
              rw [if_neg (fun e3 => e2 (row_apart nd (y2 z e3).2 hz2))]
        · rw [upd2_ne _ e, upd2_ne _ e]
          exact h3 k hk3 (by omega) n
      · have e : k ≠ i := by omega
        rw [upd2_ne _ e, upd2_ne _ e]
        exact (h4 k hk3 (by omega)).2 n
    · have t3 : Touch (fpM s b d mk CH) wr W2 := (t2.mono (fun _ e => by cases e)).trans hE.t (fun z hz => by
        rcases hF z hz with e | e
        · exact Or.inr (by omega)
        · exact Or.inl (mem_fpS.2 (Or.inr (Or.inr (Or.inr (Or.inr e))))))
      exact t3.trans td (fun z hz => Or.inl (mem_fpS.2 (Or.inr (Or.inr (Or.inl (by simp at hz; rw [hz]))))))
  have hthere : (rmid i (delC q CH) CH ((i : Int), num i x)).isSome = true := by
    unfold rmid
    rw [if_neg (by simp only; omega), rmap_row hi _ (by rw [erow]; simp)]
    rfl
  intro W3 e3
  subst e3
  cases hf : (u ++ v).head? with
  | none =>
    obtain ⟨o, o1, o2⟩ := hm2.del (t := 57) Try.underlying57 (k := ((i : Int), num i x)) (ok_name hx hi) 0
    refine ⟨o, Or.inl ⟨rfl, fun ty => o1⟩, fin o _ _ (by split <;> omega) o2 ?_ (fun z hz => by simp [kdel, hz])⟩
    have e0 : u ++ v = [] := List.head?_eq_none_iff.1 hf
    rw [rmap_no _ (by rw [edel, e0])]
    simp [kdel]
  | some z =>
    obtain ⟨o, o1, o2⟩ := hm2.set (t := 57) Try.underlying57 (by omega) (k := ((i : Int), num i x)) (ok_name hx hi) (rowV (u ++ v))
    have eV : rowV (u ++ v) = .agg #[pv (some z), pv (lastO none (u ++ v))] := by unfold rowV rowC; rw [hf]
    refine ⟨o, Or.inr ⟨⟨z, rfl⟩, by rw [← eV]; exact o1⟩, fin o _ _ (by rw [if_pos hthere]; omega) o2 ?_ (fun z hz => by simp [kupd, hz])⟩
    rw [rmap_row hi _ (by rw [edel]; intro e; rw [e] at hf; cases hf), edel]
    simp [kupd]
end
end Go.Proofs.Ytlmmljmhfghlnaa
