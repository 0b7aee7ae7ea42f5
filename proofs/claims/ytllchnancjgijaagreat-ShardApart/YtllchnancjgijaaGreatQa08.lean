/- One kind of takeAway's rounds, told of memory alone; no conditions but those that each states. -/
import Derived.Test.YtllchnancjgijaaGreatQa07
set_option linter.unusedVariables false
set_option linter.unusedSimpArgs false
set_option maxRecDepth 100000
namespace Go.Proofs.YtllchnancjgijaaGreat.Lv
open Go.RowKit Go.Maps Go.ChangeMaps
def delC (q : Nat) (CH : List Chr) : List Chr := CH.filter (fun p => decide (p.1 ≠ q))
theorem ch_uniq {CH : List Chr} (nd : (CH.map Prod.fst).Nodup) {p1 p2 : Chr} (hp1 : p1 ∈ CH) (hp2 : p2 ∈ CH) (e : p1.1 = p2.1) : p1 = p2 := by
 obtain ⟨i1, hi1⟩ := List.getElem?_of_mem hp1
 obtain ⟨i2, hi2⟩ := List.getElem?_of_mem hp2
 have l1 := (List.getElem?_eq_some_iff.1 hi1).1
 have g1 : (CH.map Prod.fst)[i1]? = some p1.1 := by rw [List.getElem?_map, hi1]; rfl
 have g2 : (CH.map Prod.fst)[i2]? = some p1.1 := by rw [List.getElem?_map, hi2, e]; rfl
 have : i1 = i2 := (List.getElem?_inj (by simpa using l1) nd).1 (g1.trans g2.symm)
 subst this
 rw [hi1] at hi2
 exact Option.some.inj hi2
theorem row_apart {CH : List Chr} (nd : (CH.map Prod.fst).Nodup) {k z : Nat} {n m : Int} (h1 : z ∈ rowOf k n CH) (h2 : z ∈ rowOf k m CH) : n = m := by
 obtain ⟨j1, hj1⟩ := List.getElem?_of_mem h1
 obtain ⟨j2, hj2⟩ := List.getElem?_of_mem h2
 obtain ⟨p1, hp1, e5, _, e6⟩ := row_seats CH k _ j1 z hj1
 obtain ⟨p2, hp2, e7, _, e8⟩ := row_seats CH k _ j2 z hj2
 have := ch_uniq nd hp1 hp2 (e5.trans e7.symm)
 rw [← e6, ← e8, this]
theorem row_in {CH : List Chr} {q : Nat} {x : Se} (h : (q, x) ∈ CH) (k : Nat) : q ∈ rowOf k (num k x) CH := List.mem_map.2 ⟨(q, x), List.mem_filter.2 ⟨h, by simp⟩, rfl⟩
theorem row_del (CH : List Chr) (q k : Nat) (n : Int) : rowOf k n (delC q CH) = (rowOf k n CH).filter (fun z => decide (z ≠ q)) := by
 unfold rowOf delC
 rw [List.filter_map, List.filter_filter, List.filter_filter]
 congr 1
 refine List.filter_congr (fun p _ => ?_)
 simp only [Function.comp]
 exact Bool.and_comm _ _
theorem del_mid {u v : List Nat} {q : Nat} (h : (u ++ q :: v).Nodup) : (u ++ q :: v).filter (fun z => decide (z ≠ q)) = u ++ v := by
 rw [List.nodup_append] at h
 obtain ⟨h1, h2, h3⟩ := h
 rw [List.nodup_cons] at h2
 rw [List.filter_append, List.filter_cons_of_neg (by simp)]
 congr 1
 ·exact List.filter_eq_self.2 (fun z hz => by simp; exact fun e => h3 z hz q (by simp) e)
 ·exact List.filter_eq_self.2 (fun z hz => by simp; exact fun e => h2.1 (e ▸ hz))
theorem del_none {xs : List Nat} {q : Nat} (h : ¬ q ∈ xs) : xs.filter (fun z => decide (z ≠ q)) = xs := List.filter_eq_self.2 (fun z hz => by simp; exact fun e => h (e ▸ hz))
theorem head_del (u v : List Nat) (q : Nat) : (if lastO none u = none then v.head? else (u ++ q :: v).head?) = (u ++ v).head? := by
 cases u with
 | nil => rfl
 | cons a r =>
  rw [if_neg (fun e => by have := lastO_none e; cases this)]
  rfl
theorem last_del (u v : List Nat) (q : Nat) : (if v.head? = none then lastO none u else lastO none (u ++ q :: v)) = lastO none (u ++ v) := by
 rw [lastO_append, lastO_append]
 cases v with
 | nil => rfl
 | cons a r => rfl
def LkM (w : World) (CH C0 C1 : List Chr) (i : Nat) (Z : (Nat → Nat → Option Nat) → (Nat → Nat → Option Nat) → Nat → Prop) (A B : Nat → Nat → Option Nat) : Prop := Ch w CH A B ∧ (∀ k, k < 3 → k < i → ∀ n, Lk (A k) (B k) none (rowOf k n C1)) ∧ (∀ k, k < 3 → i ≤ k → Z A B k ∧ ∀ n, Lk (A k) (B k) none (rowOf k n C0))
section
variable {wr V2 W2 : World} {s b d nr i q nb rb : Nat} {mk : Option Nat} {CH : List Chr} {G : List Int} {x : Se} {A B : Nat → Nat → Option Nat}
theorem take_split (hq : (q, x) ∈ CH) (nd : (CH.map Prod.fst).Nodup) (hl : ∀ n, Lk (A i) (B i) none (rowOf i n CH)) : ∃ u v, rowOf i (num i x) CH = u ++ q :: v ∧ A i q = lastO none u ∧ B i q = v.head? ∧ rowOf i (num i x) (delC q CH) = u ++ v := by
 obtain ⟨u, v, e⟩ := List.append_of_mem (row_in hq i)
 have h1 := hl (num i x)
 rw [e] at h1
 obtain ⟨h2, h3⟩ := h1.at
 have hn := row_nd nd i (num i x)
 rw [e] at hn
 exact ⟨u, v, e, h2, h3, by rw [row_del, e, del_mid hn]⟩
theorem take_ready (h : LkM wr CH CH (delC q CH) i Zt A B) (hi : i < 3) (hq : (q, x) ∈ CH) (nd : (CH.map Prod.fst).Nodup) : wr.heap[q]? = some (.cells (chc x (fun k => A k q) (fun k => B k q)) 238 (0, 0)) ∧ (∀ p, A i q = some p → isCh wr p ∧ p ∈ rowOf i (num i x) CH) ∧ (∀ p, B i q = some p → isCh wr p ∧ p ∈ rowOf i (num i x) CH) ∧ (∀ p, A i q = some p → B i q ≠ some p) := by
 obtain ⟨u, v, e, h2, h3, _⟩ := take_split hq nd (h.2.2 i hi (Nat.le_refl _)).2
 have hn := row_nd nd i (num i x)
 rw [e] at hn
 have ha : ∀ p, A i q = some p → p ∈ u := fun p hp => by
  rw [h2] at hp
  rcases lastO_mem hp with e | e
  ·cases e
  ·exact e
 have hb : ∀ p, B i q = some p → p ∈ v := fun p hp => by rw [h3] at hp; exact List.mem_of_mem_head? hp
 have hm : ∀ p, p ∈ rowOf i (num i x) CH → isCh wr p := fun p hp => h.1.is (row_mem hp)
 refine ⟨h.1 (q, x) hq, fun p hp => ?_, fun p hp => ?_, fun p hp hp2 => ?_⟩
 ·have : p ∈ rowOf i (num i x) CH := by rw [e]; simp [ha p hp]
  exact ⟨hm p this, this⟩
 ·have : p ∈ rowOf i (num i x) CH := by rw [e]; simp [hb p hp]
  exact ⟨hm p this, this⟩
 ·rw [List.nodup_append] at hn
  exact hn.2.2 p (ha p hp) p (by simp [hb p hp2]) rfl
theorem take_step (h : Md wr s b d mk nr CH CH (delC q CH) G i Zt) (hk : LkM wr CH CH (delC q CH) i Zt A B) (hi : i < 3) (hx : Wf x) (hq : (q, x) ∈ CH) (nd : (CH.map Prod.fst).Nodup) (hnr : nr < maxLen) (t2 : Touch [] wr V2) (hn : V2.heap[nb]? = some (.cells #[.int .i64 (i : Int), .int .i64 (num i x)] 200 (0, 0))) (hrb : wr.heap.size ≤ rb)
  (hr : V2.heap[rb]? = some (.cells (rowC (rowOf i (num i x) CH)) 267 (0, 0))) (hE : RmE V2 W2 i rb q (rowOf i (num i x) CH).head? (lastO none (rowOf i (num i x) CH)) (A i q) (B i q)) :
  ∃ f l, Rb W2 s d nb rb i (num i x) f l ∧ ∀ W3, W3 = W2.drew → ∃ o, ((f = none ∧ ∀ ty, (Builtin.delete_ #[195, 200] ty #[.map (some d), .agg #[.int .i64 (i : Int), .int .i64 (num i x)]]).run Tryz.prog W3 = .ok (.tuple #[]) (setBlock W3 d o)) ∨
   ((∃ z, f = some z) ∧ (Instr.mapUpdate 195 (.map (some d)) (.agg #[.int .i64 (i : Int), .int .i64 (num i x)]) (.agg #[pv f, pv l])).run Tryz.prog W3 = .ok () (setBlock W3 d o))) ∧ Md (setBlock W3 d o) s b d mk nr CH CH (delC q CH) G (i + 1) Zt ∧ Touch (fpM s b d mk CH) wr (setBlock W3 d o) := by
 have h2 := h.keep0 t2
 have hk2 : LkM V2 CH CH (delC q CH) i Zt A B := ⟨hk.1.keep t2 (fun _ _ e => by cases e), hk.2⟩
 obtain ⟨y1, y2, y3, y4⟩ := take_ready hk2 hi hq nd
 obtain ⟨u, v, erow, eA, eB, edel⟩ := take_split hq nd (hk.2.2 i hi (Nat.le_refl _)).2
 have hch : ∀ z, z ∈ CH.map Prod.fst → isCh V2 z := fun z hz => hk2.1.is hz
 have hF : ∀ z, z ∈ rb :: ((A i q).toList ++ (B i q).toList) → z = rb ∨ z ∈ CH.map Prod.fst := fun z hz => by
  simp only [List.mem_cons, List.mem_append, Option.mem_toList] at hz
  rcases hz with e | e | e
  ·exact Or.inl e
  ·exact Or.inr (row_mem (y2 z e).2)
  ·exact Or.inr (row_mem (y3 z e).2)
 have hmap : ∀ z, (∃ es cl, V2.heap[z]? = some (.map es cl)) → ¬ z ∈ rb :: ((A i q).toList ++ (B i q).toList) := fun z hz e => by
  rcases hF z e with e | e
  ·obtain ⟨es, cl, hz⟩ := hz
   rw [e, hr] at hz
   cases hz
  ·exact (hch z e).nemap hz rfl
 have hs : ¬ s ∈ rb :: ((A i q).toList ++ (B i q).toList) := fun e => by
  rcases hF s e with e | e
  ·have := h2.hb; rw [e, hr] at this; simp at this
  ·obtain ⟨x', a', b', h3⟩ := hch s e
   have := h2.hb; rw [h3] at this; simp at this
 have hnb : ¬ nb ∈ rb :: ((A i q).toList ++ (B i q).toList) := fun e => by
  rcases hF nb e with e | e
  ·rw [e, hr] at hn; simp at hn
  ·obtain ⟨x', a', b', h3⟩ := hch nb e
   rw [h3] at hn; simp at hn
 obtain ⟨n, hn1, hn2⟩ := h2.rm
 have hm2 : MapK KN W2.drew d n (rmid i (delC q CH) CH) := (hn2.keep hE.t (hmap d hn2.kind)).kept rfl
 have hsd : s ≠ d := fun e => by
  obtain ⟨es, cl, h3⟩ := hn2.kind
  have := h2.hb; rw [e, h3] at this; cases this
 have hmd : ∀ z, isCh V2 z → z ≠ d := fun z hz e => hz.nemap hn2.kind e.symm
 have hrow := hE.row
 have ef : (if A i q = none then B i q else (rowOf i (num i x) CH).head?) = (u ++ v).head? := by rw [eA, eB, erow]; exact head_del u v q
 have el : (if B i q = none then A i q else lastO none (rowOf i (num i x) CH)) = lastO none (u ++ v) := by rw [eA, eB, erow]; exact last_del u v q
 rw [ef, el] at hrow
 refine ⟨(u ++ v).head?, lastO none (u ++ v), Rb.mk' (hE.t.keep h2.hb hs) (hE.t.keep hn hnb) hrow, ?_⟩
 have fin : ∀ o n' g, n' ≤ n → MapK KN (setBlock W2.drew d o) d n' g → g ((i : Int), num i x) = rmap (delC q CH) ((i : Int), num i x) → (∀ z, z ≠ ((i : Int), num i x) → g z = rmid i (delC q CH) CH z) → Md (setBlock W2.drew d o) s b d mk nr CH CH (delC q CH) G (i + 1) Zt ∧ Touch (fpM s b d mk CH) wr (setBlock W2.drew d o) := fun o n' g g0 g1 g2 g3 => by
  have td : Touch [d] W2 (setBlock W2.drew d o) := touch_setBlock (Touch.refl _ _).drew (Or.inl (by simp)) o
  refine ⟨⟨td.keep (hE.t.keep h2.hb hs) (by simpa using hsd), h.bd, (h2.cm.keep hE.t (hmap b h2.cm.kind)).keep td (by simpa using h.bd), ?_, ?_, h.kc, ?_⟩, ?_⟩
  ·refine ⟨n', by omega, g1.congr (fun z _ => rmid_step hi (m := num i x) (fun n hne => ?_) z _ g2 g3)⟩
   rw [row_del, del_none (fun e => hne (row_apart nd e (row_in hq i)))]
  ·rcases h2.km with h1 | ⟨c, h1, h3⟩
   ·exact Or.inl h1
   ·exact Or.inr ⟨c, h1, (h3.keep hE.t (hmap c h3.kind)).keep td (by simpa using (h.kc c h1).2)⟩
  ·obtain ⟨h1, h3, h4⟩ := hk2
   have hc := h1.removed hE (fun p hp e => by
    obtain ⟨x', a', b', h5⟩ := hch p.1 (List.mem_map.2 ⟨p, hp, rfl⟩)
    rw [e, hr] at h5; simp at h5) y4
   refine ⟨_, _, hc.keep td (fun p hp e => hmd p.1 (hch p.1 (List.mem_map.2 ⟨p, hp, rfl⟩)) (by simpa using e)), fun k hk3 hki n => ?_, fun k hk3 hki => ⟨trivial, fun n => ?_⟩⟩
   ·by_cases e : k = i
    ·subst e
     rw [upd2_at, upd2_at]
     have hlk := (h4 k hk3 (Nat.le_refl k)).2
     by_cases e2 : num k x = n
     ·subst e2
      rw [edel]
      have h5 := hlk (num k x)
      have h6 := row_nd nd k (num k x)
      rw [erow] at h5 h6
      exact h5.del h6 (fun _ _ e => by cases e)
     ·rw [row_del, del_none (fun e => e2 (row_apart nd (row_in hq k) e))]
      refine (hlk n).congr (fun z hz2 => ⟨?_, ?_⟩)
      ·unfold updO
       rw [if_neg (fun e3 => e2 (row_apart nd (y3 z e3).2 hz2))]
      ·unfold updO
       rw [if_neg (fun e3 => e2 (row_apart nd (y2 z e3).2 hz2))]
    ·rw [upd2_ne _ e, upd2_ne _ e]
     exact h3 k hk3 (by omega) n
   ·have e : k ≠ i := by omega
    rw [upd2_ne _ e, upd2_ne _ e]
    exact (h4 k hk3 (by omega)).2 n
  ·have t3 : Touch (fpM s b d mk CH) wr W2 := (t2.mono (fun _ e => by cases e)).trans hE.t (fun z hz => by
    rcases hF z hz with e | e
    ·exact Or.inr (by omega)
    ·exact Or.inl (mem_fpS.2 (Or.inr (Or.inr (Or.inr (Or.inr e))))))
   exact t3.trans td (fun z hz => Or.inl (mem_fpS.2 (Or.inr (Or.inr (Or.inl (by simp at hz; rw [hz]))))))
 have hthere : (rmid i (delC q CH) CH ((i : Int), num i x)).isSome = true := by
  unfold rmid
  rw [if_neg (by simp only; omega), rmap_row hi _ (by rw [erow]; simp)]
  rfl
 intro W3 e3
 subst e3
 cases hf : (u ++ v).head? with
 | none =>
  obtain ⟨o, o1, o2⟩ := hm2.del (t := 195) Tryz.underlying195 (k := ((i : Int), num i x)) (ok_name hx hi) 0
  refine ⟨o, Or.inl ⟨rfl, fun ty => o1⟩, fin o _ _ (by split <;> omega) o2 ?_ (fun z hz => by simp [kdel, hz])⟩
  have e0 : u ++ v = [] := List.head?_eq_none_iff.1 hf
  rw [rmap_no _ (by rw [edel, e0])]
  simp [kdel]
 | some z =>
  obtain ⟨o, o1, o2⟩ := hm2.set (t := 195) Tryz.underlying195 (by omega) (k := ((i : Int), num i x)) (ok_name hx hi) (rowV (u ++ v))
  have eV : rowV (u ++ v) = .agg #[pv (some z), pv (lastO none (u ++ v))] := by unfold rowV rowC; rw [hf]
  refine ⟨o, Or.inr ⟨⟨z, rfl⟩, by rw [← eV]; exact o1⟩, fin o _ _ (by rw [if_pos hthere]; omega) o2 ?_ (fun z hz => by simp [kupd, hz])⟩
  rw [rmap_row hi _ (by rw [edel]; intro e; rw [e] at hf; cases hf), edel]
  simp [kupd]
end
end Go.Proofs.YtllchnancjgijaaGreat.Lv
/- The contracts of names and place; no conditions but those that each states. -/
namespace Go.Proofs.YtllchnancjgijaaGreat.Lv
open Go.RowKit Go.Maps Go.ChangeMaps
def nm3 (x : Se) : Array Value := #[.int .i64 0, .int .i64 0, .int .i64 1, .int .i64 x.2.1, .int .i64 2, .int .i64 x.2.2]
set_option maxRecDepth 100000 in
theorem names_ (w : World) (x : Se) : Calls Tryz.prog 158 #[sv x] w fun e w' => e = .returned (.agg (nm3 x)) ∧ Touch [] w w' := by
 have HT : Hid (Touch [] w ((w.alloc (.cells #[.int .i64 x.1, .int .i64 x.2.1, .int .i64 x.2.2] 134)).alloc (.cells (nm3 x) 264))) := hid (((Touch.refl _ _).alloc _).alloc _)
 unfold sv nm3 at *
 go_enter Tryz.func158, Tryz.ntmps158
 go_wp2
 refine bodyPost_ret (v := .agg #[.int .i64 0, .int .i64 0, .int .i64 1, .int .i64 x.2.1, .int .i64 2, .int .i64 x.2.2]) (by simp [results, Tryz.results158, go_sem]) rfl ⟨rfl, ?_⟩
 exact HT.out
theorem ixN0 (w : World) (r t : Int) : (Instr.index 264 (.agg #[.int .i64 0, .int .i64 0, .int .i64 1, .int .i64 r, .int .i64 2, .int .i64 t]) (.int .i64 0)).run Tryz.prog w = .ok (.agg #[.int .i64 0, .int .i64 0]) w := by kernel_rfl
theorem ixN1 (w : World) (r t : Int) : (Instr.index 264 (.agg #[.int .i64 0, .int .i64 0, .int .i64 1, .int .i64 r, .int .i64 2, .int .i64 t]) (.int .i64 1)).run Tryz.prog w = .ok (.agg #[.int .i64 1, .int .i64 r]) w := by kernel_rfl
theorem ixN2 (w : World) (r t : Int) : (Instr.index 264 (.agg #[.int .i64 0, .int .i64 0, .int .i64 1, .int .i64 r, .int .i64 2, .int .i64 t]) (.int .i64 2)).run Tryz.prog w = .ok (.agg #[.int .i64 2, .int .i64 t]) w := by kernel_rfl
set_option maxRecDepth 100000 in
theorem ixN (w : World) (r t : Int) (x : Se) (hr : x.2.1 = r) (ht : x.2.2 = t) {i : Nat} (hi : i < 3) : (Instr.index 264 (.agg #[.int .i64 0, .int .i64 0, .int .i64 1, .int .i64 r, .int .i64 2, .int .i64 t]) (.int .i64 (i : Int))).run Tryz.prog w = .ok (.agg #[.int .i64 (i : Int), .int .i64 (num i x)]) w := by
 subst hr ht
 match i, hi with
 | 0, _ => exact ixN0 w _ _
 | 1, _ => exact ixN1 w _ _
 | 2, _ => exact ixN2 w _ _
theorem cmap_snoc {CH : List Chr} {q : Nat} {x : Se} (hn : ∀ p ∈ CH, p.2.1 ≠ x.1) (c : Int) : kupd (cmap CH) x.1 (PT q) c = cmap (CH ++ [(q, x)]) c := by
 unfold kupd cmap
 rw [List.find?_append]
 by_cases e : c = x.1
 ·subst e
  rw [if_pos rfl, List.find?_eq_none.2 (fun p hp => by simp [hn p hp])]
  simp
 ·rw [if_neg e]
  cases List.find? (fun p => decide (p.2.1 = c)) CH with
  | some p => rfl
  | none =>
   have hne : ¬ x.1 = c := fun e' => e e'.symm
   simp [hne]
def PlE (w w' : World) (s : Nat) (mc mr mk : Option Nat) (nr : Nat) (CH : List Chr) (G : List Int) (x : Se) : Prop := ∃ b d q n, n ≤ nr + 3 ∧ Sm w' s (some b) (some d) mk n (CH ++ [(q, x)]) G ∧ Touch (fpS s mc mr mk CH) w w' ∧ w.heap.size ≤ q ∧ (mc = some b ∨ w.heap.size ≤ b) ∧ (mr = some d ∨ w.heap.size ≤ d)
def PlA (V wx : World) (s : Nat) (mc mr mk : Option Nat) (nr : Nat) (CH : List Chr) (G : List Int) (b d n : Nat) : Prop := n ≤ nr ∧ Sm wx s (some b) (some d) mk n CH G ∧ Touch (fpS s mc mr mk CH) V wx ∧ (mc = some b ∨ V.heap.size ≤ b) ∧ (mr = some d ∨ V.heap.size ≤ d)
section
variable {w V wx : World} {s nr : Nat} {mc mr mk : Option Nat} {CH : List Chr} {G : List Int}
theorem rmap_nil : rmap [] = fun _ => none := by
 funext n
 unfold rmap
 rw [if_neg (fun e => e.2.2 rfl)]
theorem pl_made (h : Sm V s none mr mk nr CH G) : PlA V ((((V.setCell ⟨s, 0, none⟩ (.map (some V.heap.size))).setCell ⟨s, 1, none⟩ (.map (some (V.heap.size + 1)))).alloc (.map #[] 0)).alloc (.map #[] 0)) s none mr mk nr CH G V.heap.size (V.heap.size + 1) 0 := by
 have hs := block_lt h.hb
 obtain ⟨rfl, e⟩ : mr = none ∧ CH = [] := by
  rcases h.cm with ⟨_, h1, h2⟩ | ⟨b, d, h1, _⟩
  ·exact ⟨h1, h2⟩
  ·cases h1
 obtain ⟨V2, hV2⟩ : ∃ V2, V2 = (V.setCell ⟨s, 0, none⟩ (.map (some V.heap.size))).setCell ⟨s, 1, none⟩ (.map (some (V.heap.size + 1))) := ⟨_, rfl⟩
 have t2 : Touch [s] V V2 := by rw [hV2]; exact ((Touch.refl _ _).setCell (Or.inl (by simp)) _).setCell (Or.inl (by simp)) _
 have hb2 : V2.heap[s]? = some (.cells (sbc (some V.heap.size) (some (V.heap.size + 1)) mk) 197 (0, 0)) := by
  have := bset (i := 1) (bset (i := 0) h.hb (.map (some V.heap.size))) (.map (some (V.heap.size + 1)))
  rw [hV2]
  simpa [sbc] using this
 have hz : V2.heap.size = V.heap.size := by rw [hV2]; simp [World.setCell]
 rw [← hV2]
 clear hV2
 have t1 : Touch [] V2 ((V2.alloc (.map #[] 0)).alloc (.map #[] 0)) := ((Touch.refl _ _).alloc _).alloc _
 have m1 : MapK KI ((V2.alloc (.map #[] 0)).alloc (.map #[] 0)) V.heap.size 0 (fun _ => none) := by
  rw [← hz]
  exact (mapK_made KI V2).keep ((Touch.refl [] _).alloc _) (by simp)
 have m2 : MapK KN ((V2.alloc (.map #[] 0)).alloc (.map #[] 0)) (V.heap.size + 1) 0 (fun _ => none) := by
  have := mapK_made KN (V2.alloc (.map #[] 0))
  rwa [World.size_alloc, hz] at this
 refine ⟨Nat.zero_le _, ⟨t1.keep hb2 (by simp), Or.inr ⟨_, _, rfl, rfl, by omega, ?_, ?_⟩, ?_, fun b hb => ?_, ⟨fun _ _ => none, fun _ _ => none, ?_, ?_⟩, ?_⟩, (t2.mono (fun z hz => mem_fpS.2 (Or.inl (by simpa using hz)))).trans t1 (fun _ e => by cases e), Or.inr (Nat.le_refl _), Or.inr (Nat.le_succ _)⟩
 ·rw [e]
  exact m1.congr (fun _ _ => rfl)
 ·rw [e, rmap_nil]
  exact m2
 ·rcases h.km with h1 | ⟨b, h1, h3⟩
  ·exact Or.inl h1
  ·refine Or.inr ⟨b, h1, (h3.keep t2 ?_).keep t1 (by simp)⟩
   obtain ⟨es, cl, h4⟩ := h3.kind
   simp only [List.mem_singleton]
   intro e2
   rw [e2, h.hb] at h4
   cases h4
 ·have : b < V.heap.size := by
   rcases h.km with ⟨h1, _⟩ | ⟨b', h1, h3⟩
   ·rw [h1] at hb; cases hb
   ·rw [h1] at hb; cases hb; exact h3.lt
  exact ⟨fun e => by cases e; omega, fun e => by cases e; omega⟩
 ·intro p hp
  rw [e] at hp
  cases hp
 ·intro k _ n
  rw [e]
  trivial
 ·rw [e]; simp
theorem pl_there {b : Nat} (h : Sm V s (some b) mr mk nr CH G) : ∃ d, mr = some d ∧ PlA V V s (some b) mr mk nr CH G b d nr := by
 rcases h.cm with ⟨h1, _⟩ | ⟨b', d, h1, rfl, _⟩
 ·cases h1
 ·cases h1
  exact ⟨d, rfl, Nat.le_refl _, h, Touch.refl _ _, Or.inl rfl, Or.inl rfl⟩
theorem pl_chair {b d n : Nat} {x : Se} (h : Sm wx s (some b) (some d) mk n CH G) (hx : Wf x) (hn : ∀ p ∈ CH, p.2.1 ≠ x.1) (hl : CH.length + 1 < maxLen) :
  ∃ o, (Instr.mapUpdate 194 (.map (some b)) (.int .i64 x.1) (.pointer (some ⟨wx.heap.size, 0, none⟩))).run Tryz.prog (wx.alloc (.cells (chc x (fun _ => none) (fun _ => none)) 238)).drew = .ok () (setBlock (wx.alloc (.cells (chc x (fun _ => none) (fun _ => none)) 238)).drew b o) ∧
   Md (setBlock (wx.alloc (.cells (chc x (fun _ => none) (fun _ => none)) 238)).drew b o) s b d mk n (CH ++ [(wx.heap.size, x)]) CH (CH ++ [(wx.heap.size, x)]) G 0 (Zp wx.heap.size) ∧ Touch [b] wx (setBlock (wx.alloc (.cells (chc x (fun _ => none) (fun _ => none)) 238)).drew b o) ∧ ((CH ++ [(wx.heap.size, x)]).map Prod.fst).Nodup := by
 obtain ⟨b', d', e1, e2, hbd, mb, md⟩ : ∃ b' d', some b = some b' ∧ some d = some d' ∧ b' ≠ d' ∧ MapK KI wx b' CH.length (cmap CH) ∧ MapK KN wx d' n (rmap CH) := by
  rcases h.cm with ⟨h1, _⟩ | h1
  ·cases h1
  ·exact h1
 cases e1
 cases e2
 have t1 : Touch [] wx (wx.alloc (.cells (chc x (fun _ => none) (fun _ => none)) 238)).drew := ((Touch.refl _ _).alloc _).drew
 have hnew : (wx.alloc (.cells (chc x (fun _ => none) (fun _ => none)) 238)).drew.heap[wx.heap.size]? = some (.cells (chc x (fun _ => none) (fun _ => none)) 238 (0, 0)) := heap_alloc_new wx _
 have h1 := h.keep0 t1
 have hlt := h.own
 generalize (wx.alloc (.cells (chc x (fun _ => none) (fun _ => none)) 238)).drew = W1 at *
 have mb1 := mb.keep t1 (by simp)
 have hf : cmap CH x.1 = none := by
  unfold cmap
  rw [List.find?_eq_none.2 (fun p hp => by simp [hn p hp])]
  rfl
 obtain ⟨o, o1, o2⟩ := mb1.set (t := 194) Tryz.underlying194 (by omega) (k := x.1) hx.1 (PT wx.heap.size)
 rw [hf] at o2
 have tb : Touch [b] W1 (setBlock W1 b o) := touch_setBlock (Touch.refl _ _) (Or.inl (by simp)) o
 have hsb : s ≠ b := fun e => by
  obtain ⟨es, cl, h3⟩ := mb.kind
  have := h.hb; rw [e, h3] at this; cases this
 have hnb : wx.heap.size ≠ b := fun e => by have := mb.lt; omega
 refine ⟨o, o1, ⟨tb.keep h1.hb (by simpa using hsb), hbd, ?_, ⟨n, by omega, ((md.keep t1 (by simp)).keep tb (by simp; exact fun e => hbd e.symm)).congr (fun z _ => (rmid0 _ _).symm)⟩, ?_, fun c hc => ?_, ?_⟩, (t1.mono (fun _ e => by cases e)).trans tb (fun z hz => Or.inl hz), ?_⟩
 ·have e : (CH ++ [(wx.heap.size, x)]).length = CH.length + 1 := by simp
  rw [e]
  simp only [Option.isSome_none, Bool.false_eq_true, if_false] at o2
  exact o2.congr (fun c _ => cmap_snoc hn c)
 ·rcases h1.km with h3 | ⟨c, h3, h4⟩
  ·exact Or.inl h3
  ·exact Or.inr ⟨c, h3, h4.keep tb (by simp; exact fun e => (h.kc c h3).1 (by rw [e]))⟩
 ·have := h.kc c hc
  exact ⟨fun e => this.1 (by rw [e]), fun e => this.2 (by rw [e])⟩
 ·obtain ⟨A, B, h3, h4⟩ := h1.lk
  refine ⟨fun k j => if j = wx.heap.size then none else A k j, fun k j => if j = wx.heap.size then none else B k j, fun p hp => ?_, fun k _ hk => absurd hk (Nat.not_lt_zero _), fun k hk _ => ⟨by simp [Zp], fun n => ?_⟩⟩
  ·rcases List.mem_append.1 hp with e | e
   ·have hp0 : p.1 < wx.heap.size := (hlt p.1 (mem_fpS.2 (Or.inr (Or.inr (Or.inr (Or.inr (List.mem_map.2 ⟨p, e, rfl⟩))))))).lt
    have hne : p.1 ≠ wx.heap.size := by omega
    simp only [hne, if_false]
    refine tb.keep (h3 p e) (fun e2 => ?_)
    simp only [List.mem_singleton] at e2
    obtain ⟨es, cl, h5⟩ := mb1.kind
    have := h3 p e
    rw [e2, h5] at this
    cases this
   ·simp only [List.mem_singleton] at e
    subst e
    simp only [if_true]
    exact tb.keep hnew (by simpa using hnb)
  ·refine (h4 k hk n).congr (fun z hz => ?_)
   have : z < wx.heap.size := (hlt z (mem_fpS.2 (Or.inr (Or.inr (Or.inr (Or.inr (row_mem hz))))))).lt
   have hne : z ≠ wx.heap.size := by omega
   simp [hne]
 ·rw [List.map_append, List.nodup_append]
  refine ⟨h.nb, by simp, fun a ha c hc e => ?_⟩
  simp only [List.map_cons, List.map_nil, List.mem_singleton] at hc
  have : a < wx.heap.size := (hlt a (mem_fpS.2 (Or.inr (Or.inr (Or.inr (Or.inr ha)))))).lt
  omega
theorem pl_fin {wr : World} {b d n q : Nat} {x : Se} (h : Md wr s b d mk (n + 3) (CH ++ [(q, x)]) CH (CH ++ [(q, x)]) G 3 (Zp q)) (nd : ((CH ++ [(q, x)]).map Prod.fst).Nodup) : ∃ n', n' ≤ n + 3 ∧ Sm wr s (some b) (some d) mk n' (CH ++ [(q, x)]) G := by
 obtain ⟨n', h1, h2⟩ := h.rm
 obtain ⟨A, B, h3, h4, _⟩ := h.lk
 exact ⟨n', h1, h.hb, Or.inr ⟨b, d, rfl, rfl, h.bd, h.cm, h2.congr (fun z _ => rmid3 _ _)⟩, h.km, fun c hc => ⟨fun e => (h.kc c hc).1 (by cases e; rfl), fun e => (h.kc c hc).2 (by cases e; rfl)⟩, ⟨A, B, h3, fun k hk n => h4 k hk hk n⟩, nd⟩
end
end Go.Proofs.YtllchnancjgijaaGreat.Lv
/- The contract of place; no conditions but those that it states. -/
namespace Go.Proofs.YtllchnancjgijaaGreat.Lv
open Go.RowKit Go.Maps Go.ChangeMaps
theorem eqMc (W : World) (m : Option Nat) : (binOp .eql 194 (.map m) (.map none)).run Tryz.prog W = .ok (.bool m.isNone) W := by cases m <;> kernel_rfl
section
variable {w : World} {s nr : Nat} {mc mr mk : Option Nat} {CH : List Chr} {G : List Int}
set_option maxHeartbeats 8000000 in
set_option maxRecDepth 100000 in
theorem place_ (h : Sm w s mc mr mk nr CH G) (x : Se) (hx : Wf x) (hn : ∀ p ∈ CH, p.2.1 ≠ x.1) (hnr : nr + 3 < maxLen) (hl : CH.length + 1 < maxLen) : Calls Tryz.prog 146 #[PT s, sv x] w fun e w' => e = .returned (.tuple #[]) ∧ PlE w w' s mc mr mk nr CH G x := by
 obtain ⟨V, hV⟩ : ∃ V, V = w.alloc (.cells #[.int .i64 x.1, .int .i64 x.2.1, .int .i64 x.2.2] 134) := ⟨_, rfl⟩
 have tv : Touch [] w V := by rw [hV]; exact (Touch.refl _ _).alloc _
 have hvb : V.heap[w.heap.size]? = some (.cells #[.int .i64 x.1, .int .i64 x.2.1, .int .i64 x.2.2] 134 (0, 0)) := by rw [hV]; exact heap_alloc_new w _
 have h1 := h.keep0 tv
 have hown : ∀ z, z ∈ fpS s mc mr mk CH → Own1 V z := h1.own
 have HBX : Hid (∀ w', Touch (fpS s mc mr mk CH) V w' → w'.heap[w.heap.size]? = some (.cells #[.int .i64 x.1, .int .i64 x.2.1, .int .i64 x.2.2] 134 (0, 0))) := hid (fun w' t => t.keep hvb (fun e => (hown _ e).ne hvb (by decide) (by decide) rfl))
 have HCH : Hid (∀ wx b d n, PlA V wx s mc mr mk nr CH G b d n → ∃ o, (Instr.mapUpdate 194 (.map (some b)) (.int .i64 x.1) (.pointer (some ⟨wx.heap.size, 0, none⟩))).run Tryz.prog (wx.alloc (.cells (chc x (fun _ => none) (fun _ => none)) 238)).drew = .ok () (setBlock (wx.alloc (.cells (chc x (fun _ => none) (fun _ => none)) 238)).drew b o) ∧
   Md (setBlock (wx.alloc (.cells (chc x (fun _ => none) (fun _ => none)) 238)).drew b o) s b d mk n (CH ++ [(wx.heap.size, x)]) CH (CH ++ [(wx.heap.size, x)]) G 0 (Zp wx.heap.size) ∧ Touch [b] wx (setBlock (wx.alloc (.cells (chc x (fun _ => none) (fun _ => none)) 238)).drew b o) ∧ ((CH ++ [(wx.heap.size, x)]).map Prod.fst).Nodup) := hid (fun wx b d n p => pl_chair p.2.1 hx hn hl)
 have HPA : Hid (∀ wx b d n, PlA V wx s mc mr mk nr CH G b d n → wx.cell? ⟨s, 0, none⟩ = some (.map (some b)) ∧ (∀ w', Touch [] wx w' → w'.cell? ⟨s, 0, none⟩ = some (.map (some b)))) := hid (fun wx b d n p => ⟨p.2.1.cell.1, fun w' t => (p.2.1.keep0 t).cell.1⟩)
 have HFIN : Hid (∀ wx b d n W, PlA V wx s mc mr mk nr CH G b d n → Md W s b d mk (n + 3) (CH ++ [(wx.heap.size, x)]) CH (CH ++ [(wx.heap.size, x)]) G 3 (Zp wx.heap.size) → ((CH ++ [(wx.heap.size, x)]).map Prod.fst).Nodup → Touch (fpM s b d mk (CH ++ [(wx.heap.size, x)])) wx W → PlE w W s mc mr mk nr CH G x) := hid (fun wx b d n W p m nd t => by
  obtain ⟨n', e1, e2⟩ := pl_fin m nd
  obtain ⟨p1, p2, p3, p4, p5⟩ := p
  have hz := tv.size
  have hz2 := p3.size
  have tw : Touch (fpS s mc mr mk CH) w wx := (tv.mono (fun _ e => by cases e)).trans' p3
  refine ⟨b, d, wx.heap.size, n', by omega, e2, tw.trans t (fun z hz => ?_), by omega, p4.imp id (fun e => by omega), p5.imp id (fun e => by omega)⟩
  rcases mem_fpS.1 hz with e | e | e | e | e
  ·exact Or.inl (mem_fpS.2 (Or.inl e))
  ·rcases p4 with e2 | e2
   ·exact Or.inl (mem_fpS.2 (Or.inr (Or.inl (by rw [e2]; exact e))))
   ·cases e; exact Or.inr (by omega)
  ·rcases p5 with e2 | e2
   ·exact Or.inl (mem_fpS.2 (Or.inr (Or.inr (Or.inl (by rw [e2]; exact e)))))
   ·cases e; exact Or.inr (by omega)
  ·exact Or.inl (mem_fpS.2 (Or.inr (Or.inr (Or.inr (Or.inl e)))))
  ·rw [List.map_append] at e
   rcases List.mem_append.1 e with e | e
   ·exact Or.inl (mem_fpS.2 (Or.inr (Or.inr (Or.inr (Or.inr e)))))
   ·simp only [List.map_cons, List.map_nil, List.mem_singleton] at e
    exact Or.inr (by omega))
 have HNX := hid hx
 have HNR := hid hnr
 have HVB := hid hvb
 obtain ⟨c0, c1, _, ff⟩ := h1.cell
 have hsl := block_lt h1.hb
 have b0 := cell_at (j := 0) hvb rfl
 have b1 := cell_at (j := 1) hvb rfl
 have b2 := cell_at (j := 2) hvb rfl
 have HM : Hid ((mc = none ∧ PlA V ((((V.setCell ⟨s, 0, none⟩ (.map (some V.heap.size))).setCell ⟨s, 1, none⟩ (.map (some (V.heap.size + 1)))).alloc (.map #[] 0)).alloc (.map #[] 0)) s mc mr mk nr CH G V.heap.size (V.heap.size + 1) 0) ∨ ∃ b d, mc = some b ∧ PlA V V s mc mr mk nr CH G b d nr) := hid (by
  cases mc with
  | none => exact Or.inl ⟨rfl, pl_made h1⟩
  | some b =>
   obtain ⟨d, _, p⟩ := pl_there h1
   exact Or.inr ⟨b, d, rfl, p⟩)
 have qm := eqMc
 have hmm := @run_makeMap Tryz.prog
 clear h h1 hx hn hnr hl tv hown hvb
 unfold PT sv
 go_enter Tryz.func146, Tryz.ntmps146
 go_upto_region 1 with fail
 rw [← hV]
 clear hV
 go_upto_if 12 with fail
 go_cut [] from 8 to 20 (fun wx => Hid (∃ b d n, PlA V wx s mc mr mk nr CH G b d n))
 case first =>
  rcases HM.out with ⟨e, p⟩ | ⟨b, d, e, p⟩
  ·have HP := hid p
   subst e
   clear p HM
   go_wp2
   go_meet
   case rel => exact ⟨_, _, _, HP.out⟩
  ·have HP := hid p
   subst e
   clear p HM
   go_wp2
   go_meet
   case rel => exact ⟨_, _, _, HP.out⟩
 case rest =>
  clear HM c0 c1 ff hsl b0 b1 b2 qm hmm
  obtain ⟨b, d, n, hp⟩ := hcut.out
  clear hcut
  obtain ⟨o, U1, M0, T0, ND⟩ := HCH.out wc b d n hp
  obtain ⟨c0, C0⟩ := HPA.out wc b d n hp
  have BX := HBX.out wc hp.2.2.1
  have HSZ : Hid (w.heap.size < wc.heap.size) := hid (block_lt BX)
  have b0 := cell_at (j := 0) BX rfl
  have b1 := cell_at (j := 1) BX rfl
  have b2 := cell_at (j := 2) BX rfl
  have HN3 : Hid (n + 3 < maxLen) := hid (by have := HNR.out; have := hp.1; omega)
  have HFN := hid (fun W => HFIN.out wc b d n W hp)
  clear HCH HPA HBX HFIN HNR HVB
  obtain ⟨q, hq⟩ : ∃ q, q = wc.heap.size := ⟨_, rfl⟩
  obtain ⟨W1, hW1⟩ : ∃ W1, W1 = wc.alloc (.cells (chc x (fun _ => none) (fun _ => none)) 238) := ⟨_, rfl⟩
  have t1 : Touch [] wc W1 := by rw [hW1]; exact (Touch.refl _ _).alloc _
  have S0 : ∀ w', Touch [] W1 w' → w'.cell? ⟨s, 0, none⟩ = some (.map (some b)) := fun w' t => C0 _ (t1.trans' t)
  have X0 : ∀ w', Touch [] W1 w' → w'.cell? ⟨w.heap.size, 0, none⟩ = some (.int .i64 x.1) := fun w' t => cell_at ((t1.trans' t).keep BX (by simp)) rfl
  rw [← hW1, ← hq] at U1 M0
  rw [← hW1] at T0
  rw [← hq] at ND HFN
  obtain ⟨W2, hW2⟩ : ∃ W2, W2 = setBlock W1.drew b o := ⟨_, rfl⟩
  rw [← hW2] at U1 M0 T0
  have BX2 : W2.heap[w.heap.size]? = some (.cells #[.int .i64 x.1, .int .i64 x.2.1, .int .i64 x.2.2] 134 (0, 0)) := T0.keep BX (fun e => by
   simp only [List.mem_singleton] at e
   obtain ⟨es2, cl2, h7⟩ : ∃ es cl, wc.heap[b]? = some (.map es cl) := by
    rcases hp.2.1.cm with ⟨h1, _⟩ | ⟨b', d', h1, _, _, h3, _⟩
    ·cases h1
    ·cases h1; exact h3.kind
   rw [← e, BX] at h7
   cases h7)
  have HM0 := hid M0
  have HT0 : Hid (Touch (fpM s b d mk (CH ++ [(q, x)])) wc W2) := hid (T0.mono (fun z hz => mem_fpS.2 (Or.inr (Or.inl (by simp at hz; rw [hz])))))
  have HND := hid ND
  have k0 : Touch [] W1 W1.drew := (Touch.refl _ _).drew
  clear C0 BX M0 T0 ND hp t1
  unfold chc pv at hW1
  simp only [Option.map_none] at hW1
  go_upto_region 4 with fail
  rw [← hW1, ← hq]
  clear hW1 b0 b1 b2 hq
  refine wp_region_L (S := fun w' => Touch [] W1 w') (st := 7) (by kernel_rfl) ?_
  refine wpL_take (i := 0) (v := (.pointer (some ⟨s, 0, none⟩))) (some 24) rfl rfl (by kernel_rfl) (by kernel_rfl) (by kernel_rfl) (by kernel_rfl) (by kernel_rfl) (by decide) (fun _ _ _ h => h) (Or.inl ⟨by rfl, fun w' hS => (by go_simp)⟩) k0 ?_
  try simp only [Go.Act.put, Zx, Zy, Zz]
  refine wpL_take (i := 1) (v := (.pointer (some ⟨s, 0, none⟩))) (some 25) rfl rfl (by kernel_rfl) (by kernel_rfl) (by kernel_rfl) (by kernel_rfl) (by kernel_rfl) (by decide) (fun _ _ _ h => h) (Or.inl ⟨by rfl, fun w' hS => (by go_simp)⟩) k0 ?_
  try simp only [Go.Act.put, Zx, Zy, Zz]
  refine wpL_take (i := 2) (v := (.pointer (some ⟨s, 0, none⟩))) (some 26) rfl rfl (by kernel_rfl) (by kernel_rfl) (by kernel_rfl) (by kernel_rfl) (by kernel_rfl) (by decide) (fun _ _ _ h => h) (Or.inl ⟨by rfl, fun w' hS => (by go_simp)⟩) k0 ?_
  try simp only [Go.Act.put, Zx, Zy, Zz]
  refine wpL_take (i := 3) (v := (.map (some b))) (some 27) rfl rfl (by kernel_rfl) (by kernel_rfl) (by kernel_rfl) (by kernel_rfl) (by kernel_rfl) (by decide) (fun _ _ _ h => h) (Or.inl ⟨by rfl, fun w' hS => (by have z0 := S0 _ hS; go_simp)⟩) k0 ?_
  try simp only [Go.Act.put, Zx, Zy, Zz]
  refine wpL_take (i := 4) (v := (.pointer (some ⟨w.heap.size, 0, none⟩))) (some 28) rfl rfl (by kernel_rfl) (by kernel_rfl) (by kernel_rfl) (by kernel_rfl) (by kernel_rfl) (by decide) (fun _ _ _ h => h) (Or.inl ⟨by rfl, fun w' hS => (by go_simp)⟩) k0 ?_
  try simp only [Go.Act.put, Zx, Zy, Zz]
  refine wpL_take (i := 5) (v := (.int .i64 x.1)) (some 29) rfl rfl (by kernel_rfl) (by kernel_rfl) (by kernel_rfl) (by kernel_rfl) (by kernel_rfl) (by decide) (fun _ _ _ h => h) (Or.inl ⟨by rfl, fun w' hS => (by have z0 := X0 _ hS; go_simp)⟩) k0 ?_
  try simp only [Go.Act.put, Zx, Zy, Zz]
  refine wpL_take (i := 6) (v := (.pointer (some ⟨q, 0, none⟩))) (some 30) rfl rfl (by kernel_rfl) (by kernel_rfl) (by kernel_rfl) (by kernel_rfl) (by kernel_rfl) (by decide) (fun _ _ _ h => h) (Or.inl ⟨by rfl, fun w' hS => (by go_simp)⟩) k0 ?_
  try simp only [Go.Act.put, Zx, Zy, Zz]
  refine wpL_ready (rs := [7]) (by kernel_rfl) (by simp) (AllL.cons (o := { dst := none, op := Op.mapUpdate 194 (Operand.tmp 27) (Operand.tmp 29) (Operand.tmp 30), type := 0, pos := _, after := #[{ on := 3, ground := Ground.data }, { on := 5, ground := Ground.data }, { on := 6, ground := Ground.data }, { on := 0, ground := Ground.phase }, { on := 1, ground := Ground.phase }, { on := 2, ground := Ground.phase }, { on := 3, ground := Ground.phase }, { on := 4, ground := Ground.phase }, { on := 5, ground := Ground.phase }, { on := 6, ground := Ground.phase }], guard := none }) rfl (fun K' hK => ?_) AllL.nil)
  rw [if_pos (by rfl)]
  go_simp
  rw [← hW2]
  clear hW2 U1 k0
  refine hK.out _ _ (fun h => absurd h (by decide)) ?_
  clear hK
  try simp only [Go.Act.put, Zx, Zy, Zz]
  refine wpL_done (by kernel_rfl) ?_ _
  have HNM := hid (names_ W2 x)
  have HC2 : Hid (∀ w', Touch [] W2 w' → w'.cell? ⟨w.heap.size, 0, none⟩ = some (.int .i64 x.1) ∧ w'.cell? ⟨w.heap.size, 1, none⟩ = some (.int .i64 x.2.1) ∧ w'.cell? ⟨w.heap.size, 2, none⟩ = some (.int .i64 x.2.2)) := hid (fun w' t => ⟨cell_at (t.keep BX2 (by simp)) rfl, cell_at (t.keep BX2 (by simp)) rfl, cell_at (t.keep BX2 (by simp)) rfl⟩)
  obtain ⟨b0, b1, b2⟩ := HC2.out W2 (Touch.refl _ _)
  clear BX2 HC2 S0 X0
  unfold sv nm3 at HNM
  go_wp2_with (go_at_call 158; refine HNM.out.mono ?_; rintro e w3 ⟨rfl, t3⟩; have T3 := hid t3; clear t3)
  have HM3 := hid (HM0.out.keep0 T3.out)
  have HT3 : Hid (Touch (fpM s b d mk (CH ++ [(q, x)])) wc w3) := hid (HT0.out.trans T3.out (fun _ e => by cases e))
  clear b0 b1 b2 HM0 HT0 T3 HNM
  go_loopw [33] (fun s33 wr => ∃ i : Nat, s33 = .int .i64 (i : Int) ∧ Hid (i ≤ 3 ∧ Md wr s b d mk (n + i) (CH ++ [(q, x)]) CH (CH ++ [(q, x)]) G i (Zp q) ∧ Touch (fpM s b d mk (CH ++ [(q, x)])) wc wr)) (fun i _ => 3 - (intOf i).toNat)
  case atStart => exact ⟨0, rfl, Nat.zero_le _, HM3.out, HT3.out⟩
  case round =>
   clear HM3 HT3
   obtain ⟨i, rfl, HR⟩ := hrel
   by_cases hi : i < 3
   ·have zi : (i : Int) < 3 := by omega
    have qx := fun w => ixN w x.2.1 x.2.2 x rfl rfl hi
    obtain ⟨m, hm⟩ : ∃ m, m = num i x := ⟨_, rfl⟩
    have HMW : Hid (W64 m) := hid (by rw [hm]; exact num_wf HNX.out i)
    rw [← hm] at qx
    obtain ⟨V1, hV1⟩ : ∃ V1, V1 = wr.alloc (.cells #[.int .i64 (i : Int), .int .i64 m] 200) := ⟨_, rfl⟩
    have tv1 : Touch [] wr V1 := by rw [hV1]; exact (Touch.refl _ _).alloc _
    have hnb : V1.heap[wr.heap.size]? = some (.cells #[.int .i64 (i : Int), .int .i64 m] 200 (0, 0)) := by rw [hV1]; exact heap_alloc_new wr _
    have M1 : ∀ w', Touch [] V1 w' → w'.cell? ⟨s, 1, none⟩ = some (.map (some d)) := fun w' t => (HR.out.2.1.keep0 (tv1.trans' t)).cell
    have B0 : ∀ w', Touch [] V1 w' → w'.cell? ⟨wr.heap.size, 0, none⟩ = some (.int .i64 (i : Int)) := fun w' t => cell_at (t.keep hnb (by simp)) rfl
    have B1 : ∀ w', Touch [] V1 w' → w'.cell? ⟨wr.heap.size, 1, none⟩ = some (.int .i64 m) := fun w' t => cell_at (t.keep hnb (by simp)) rfl
    have L0 : ∀ w', Touch [] V1 w' → (Instr.lookup 195 (.map (some d)) (.agg #[.int .i64 (i : Int), .int .i64 m]) false).run Tryz.prog w' = .ok (.agg #[pv (rowOf i m CH).head?, pv (lastO none (rowOf i m CH))]) w' := fun w' t => (HR.out.2.1.keep0 (tv1.trans' t)).lookR hi HMW.out
    obtain ⟨f, hf⟩ : ∃ f, pv (rowOf i m CH).head? = .pointer f := ⟨_, rfl⟩
    obtain ⟨l, hl⟩ : ∃ l, pv (lastO none (rowOf i m CH)) = .pointer l := ⟨_, rfl⟩
    rw [hf, hl] at L0
    have HAD : Hid (∀ V2, Touch [] V1 V2 → V2.heap[V1.heap.size]? = some (.cells #[.pointer f, .pointer l] 267 (0, 0)) → Calls Tryz.prog 183 #[PT V1.heap.size, .int .i64 (i : Int), PT q] V2 fun e W => e = .returned (.tuple #[]) ∧ ∃ f2 o, Rb W s d wr.heap.size V1.heap.size i m f2 (some q) ∧ (Instr.mapUpdate 195 (.map (some d)) (.agg #[.int .i64 (i : Int), .int .i64 m]) (.agg #[pv f2, pv (some q)])).run Tryz.prog W.drew = .ok () (setBlock W.drew d o) ∧ Md (setBlock W.drew d o) s b d mk (n + (i + 1)) (CH ++ [(q, x)]) CH (CH ++ [(q, x)]) G (i + 1) (Zp q) ∧ Touch (fpM s b d mk (CH ++ [(q, x)])) wc (setBlock W.drew d o)) := hid (fun V2 t hr => by
     have t2 := tv1.trans' t
     have hr' : V2.heap[V1.heap.size]? = some (.cells #[pv (rowOf i m CH).head?, pv (lastO none (rowOf i m CH))] 267 (0, 0)) := by rw [hf, hl]; exact hr
     have hM2 := HR.out.2.1.keep0 t2
     obtain ⟨y1, y2⟩ := place_ready hM2 HND.out m
     refine (add_ V2 V1.heap.size q i hi _ _ hr' y1 y2).mono ?_
     rintro e W ⟨rfl, hE⟩
     subst hm
     obtain ⟨f2, o, z1, z2, z3, z4⟩ := place_step HR.out.2.1 hi HNX.out HND.out HN3.out t2 (t.keep hnb (by simp)) tv1.size hr' hE
     exact ⟨rfl, f2, o, z1, z2, z3, HR.out.2.2.trans z4 (fun z hz => Or.inl hz)⟩)
    have HI := hid (And.intro hi HR.out.1)
    have kv0 : Touch [] V1 V1.drew := (Touch.refl _ _).drew
    clear hf hl hnb tv1 HMW HR hi hm
    unfold PT at HAD
    go_upto_region 8 with fail
    rw [← hV1]
    clear hV1 qx
    refine wp_region_L (S := fun w' => Touch [] V1 w') (st := 7) (by kernel_rfl) ?_
    refine wpL_take (i := 0) (v := (.pointer (some ⟨s, 0, none⟩))) (some 36) rfl rfl (by kernel_rfl) (by kernel_rfl) (by kernel_rfl) (by kernel_rfl) (by kernel_rfl) (by decide) (fun _ _ _ h => h) (Or.inl ⟨by rfl, fun w' hS => (by go_simp)⟩) kv0 ?_
    try simp only [Go.Act.put, Zx, Zy, Zz]
    refine wpL_take (i := 1) (v := (.pointer (some ⟨s, 0, none⟩))) (some 37) rfl rfl (by kernel_rfl) (by kernel_rfl) (by kernel_rfl) (by kernel_rfl) (by kernel_rfl) (by decide) (fun _ _ _ h => h) (Or.inl ⟨by rfl, fun w' hS => (by go_simp)⟩) kv0 ?_
    try simp only [Go.Act.put, Zx, Zy, Zz]
    refine wpL_take (i := 2) (v := (.pointer (some ⟨s, 1, none⟩))) (some 38) rfl rfl (by kernel_rfl) (by kernel_rfl) (by kernel_rfl) (by kernel_rfl) (by kernel_rfl) (by decide) (fun _ _ _ h => h) (Or.inl ⟨by rfl, fun w' hS => (by go_simp)⟩) kv0 ?_
    try simp only [Go.Act.put, Zx, Zy, Zz]
    refine wpL_take (i := 3) (v := (.map (some d))) (some 39) rfl rfl (by kernel_rfl) (by kernel_rfl) (by kernel_rfl) (by kernel_rfl) (by kernel_rfl) (by decide) (fun _ _ _ h => h) (Or.inl ⟨by rfl, fun w' hS => (by have z0 := M1 _ hS; go_simp)⟩) kv0 ?_
    try simp only [Go.Act.put, Zx, Zy, Zz]
    refine wpL_take (i := 4) (v := (.agg #[.int .i64 (i : Int), .int .i64 m])) (some 40) rfl rfl (by kernel_rfl) (by kernel_rfl) (by kernel_rfl) (by kernel_rfl) (by kernel_rfl) (by decide) (fun _ _ _ h => h) (Or.inl ⟨by rfl, fun w' hS => (by have z0 := B0 _ hS; have z1 := B1 _ hS; go_simp)⟩) kv0 ?_
    try simp only [Go.Act.put, Zx, Zy, Zz]
    refine wpL_take (i := 5) (v := (.agg #[.pointer f, .pointer l])) (some 41) rfl rfl (by kernel_rfl) (by kernel_rfl) (by kernel_rfl) (by kernel_rfl) (by kernel_rfl) (by decide) (fun _ _ _ h => h) (Or.inl ⟨by rfl, fun w' hS => (by have z0 := L0 _ hS; go_simp)⟩) kv0 ?_
    try simp only [Go.Act.put, Zx, Zy, Zz]
    refine wpL_ready (rs := [6]) (by kernel_rfl) (by simp) (AllL.cons (o := { dst := some 7, op := Op.alloc 267, type := 0, pos := _, after := #[], guard := none }) rfl (fun K' hK => ?_) AllL.nil)
    rw [if_pos (by rfl)]
    go_simp
    refine hK.out _ _ (fun _ => ((Touch.refl _ _).alloc _).drew) ?_
    clear hK
    try simp only [Go.Act.put, Zx, Zy, Zz]
    refine wpL_ready (rs := [7]) (by kernel_rfl) (by simp) (AllL.cons (o := { dst := none, op := Op.store 267 (Operand.tmp 7) (Operand.tmp 41), type := 0, pos := _, after := #[{ on := 6, ground := Ground.data }, { on := 5, ground := Ground.data }, { on := 0, ground := Ground.phase }, { on := 1, ground := Ground.phase }, { on := 2, ground := Ground.phase }, { on := 3, ground := Ground.phase }, { on := 4, ground := Ground.phase }, { on := 5, ground := Ground.phase }, { on := 6, ground := Ground.phase }], guard := none }) rfl (fun K' hK => ?_) AllL.nil)
    rw [if_pos (by rfl)]
    go_simp
    refine hK.out _ _ (fun h => absurd h (by decide)) ?_
    clear hK
    try simp only [Go.Act.put, Zx, Zy, Zz]
    refine wpL_done (by kernel_rfl) ?_ _
    have k5 : Touch [] V1 (V1.alloc (.cells #[.pointer f, .pointer l] 267)).drew := ((Touch.refl _ _).alloc _).drew
    have HK := hid (HAD.out _ k5 (heap_alloc_new V1 _))
    have b0 := B0 _ k5
    clear M1 B0 B1 L0 kv0 k5 HAD
    generalize (V1.alloc (.cells #[.pointer f, .pointer l] 267)).drew = V2 at *
    go_upto_region 10 with (go_at_call 183; refine HK.out.mono ?_; rintro e W ⟨rfl, f2, o3, z1, z2, z3, z4⟩; have HZ := hid (And.intro z1 (And.intro z2 (And.intro z3 z4))); clear z1 z2 z3 z4 b0)
    obtain ⟨z1, z2, z3, z4⟩ := HZ.out
    obtain ⟨s1, n0, n1, r0, r1⟩ := z1
    obtain ⟨f3, hf3⟩ : ∃ f3, pv f2 = .pointer f3 := ⟨_, rfl⟩
    rw [hf3] at r0 z2
    rw [pv_some] at r1 z2
    unfold PT at r1 z2
    have HM4 := hid z3
    have HT4 := hid z4
    obtain ⟨W5, hW5⟩ : ∃ W5, W5 = setBlock W.drew d o3 := ⟨_, rfl⟩
    rw [← hW5] at z2 HM4 HT4
    have k6 : Touch [] W W.drew := (Touch.refl _ _).drew
    clear HK HZ z3 z4 hf3
    refine wp_region_L (S := fun w' => Touch [] W w') (st := 6) (by kernel_rfl) ?_
    refine wpL_take (i := 0) (v := (.pointer (some ⟨s, 0, none⟩))) (some 46) rfl rfl (by kernel_rfl) (by kernel_rfl) (by kernel_rfl) (by kernel_rfl) (by kernel_rfl) (by decide) (fun _ _ _ h => h) (Or.inl ⟨by rfl, fun w' hS => (by go_simp)⟩) k6 ?_
    try simp only [Go.Act.put, Zx, Zy, Zz]
    refine wpL_take (i := 1) (v := (.pointer (some ⟨s, 0, none⟩))) (some 47) rfl rfl (by kernel_rfl) (by kernel_rfl) (by kernel_rfl) (by kernel_rfl) (by kernel_rfl) (by decide) (fun _ _ _ h => h) (Or.inl ⟨by rfl, fun w' hS => (by go_simp)⟩) k6 ?_
    try simp only [Go.Act.put, Zx, Zy, Zz]
    refine wpL_take (i := 2) (v := (.pointer (some ⟨s, 1, none⟩))) (some 48) rfl rfl (by kernel_rfl) (by kernel_rfl) (by kernel_rfl) (by kernel_rfl) (by kernel_rfl) (by decide) (fun _ _ _ h => h) (Or.inl ⟨by rfl, fun w' hS => (by go_simp)⟩) k6 ?_
    try simp only [Go.Act.put, Zx, Zy, Zz]
    refine wpL_take (i := 3) (v := (.map (some d))) (some 49) rfl rfl (by kernel_rfl) (by kernel_rfl) (by kernel_rfl) (by kernel_rfl) (by kernel_rfl) (by decide) (fun _ _ _ h => h) (Or.inl ⟨by rfl, fun w' hS => (by have z0 := s1 _ hS; go_simp)⟩) k6 ?_
    try simp only [Go.Act.put, Zx, Zy, Zz]
    refine wpL_take (i := 4) (v := (.agg #[.int .i64 (i : Int), .int .i64 m])) (some 50) rfl rfl (by kernel_rfl) (by kernel_rfl) (by kernel_rfl) (by kernel_rfl) (by kernel_rfl) (by decide) (fun _ _ _ h => h) (Or.inl ⟨by rfl, fun w' hS => (by have z0 := n0 _ hS; have z1 := n1 _ hS; go_simp)⟩) k6 ?_
    try simp only [Go.Act.put, Zx, Zy, Zz]
    refine wpL_take (i := 5) (v := (.agg #[.pointer f3, .pointer (some ⟨q, 0, none⟩)])) (some 51) rfl rfl (by kernel_rfl) (by kernel_rfl) (by kernel_rfl) (by kernel_rfl) (by kernel_rfl) (by decide) (fun _ _ _ h => h) (Or.inl ⟨by rfl, fun w' hS => (by have z0 := r0 _ hS; have z1 := r1 _ hS; go_simp)⟩) k6 ?_
    try simp only [Go.Act.put, Zx, Zy, Zz]
    refine wpL_ready (rs := [6]) (by kernel_rfl) (by simp) (AllL.cons (o := { dst := none, op := Op.mapUpdate 195 (Operand.tmp 49) (Operand.tmp 50) (Operand.tmp 51), type := 0, pos := _, after := #[{ on := 3, ground := Ground.data }, { on := 4, ground := Ground.data }, { on := 5, ground := Ground.data }, { on := 0, ground := Ground.phase }, { on := 1, ground := Ground.phase }, { on := 2, ground := Ground.phase }, { on := 3, ground := Ground.phase }, { on := 4, ground := Ground.phase }, { on := 5, ground := Ground.phase }], guard := none }) rfl (fun K' hK => ?_) AllL.nil)
    rw [if_pos (by rfl)]
    go_simp
    rw [← hW5]
    clear hW5 z2 k6 s1 n0 n1 r0 r1
    refine hK.out _ _ (fun h => absurd h (by decide)) ?_
    clear hK
    try simp only [Go.Act.put, Zx, Zy, Zz]
    refine wpL_done (by kernel_rfl) ?_ _
    go_wp2
    go_roundw
    case rel => exact ⟨i + 1, by go_num, by have := HI.out.1; omega, HM4.out, HT4.out⟩
    case measure => simp [intOf]; have := HI.out.1; omega
   ·have HZ : Hid (PlE w wr s mc mr mk nr CH G x) := hid (by
     obtain ⟨h1, h2, h3⟩ := HR.out
     obtain rfl : i = 3 := by omega
     exact HFN.out wr h2 HND.out h3)
    have zi : 3 ≤ (i : Int) := by omega
    clear HR
    go_wp2
    go_end0
    exact ⟨rfl, HZ.out⟩
end
end Go.Proofs.YtllchnancjgijaaGreat.Lv
/- The contract of takeAway; no conditions but those that it states. -/
namespace Go.Proofs.YtllchnancjgijaaGreat.Lv
open Go.RowKit Go.Maps Go.ChangeMaps
theorem zeroPC (w : World) : (zeroValue 235).run Tryz.prog w = .ok (.pointer none) w := by kernel_rfl
theorem find_congr {X : Type} {p r : X → Bool} : ∀ {l : List X}, (∀ x ∈ l, p x = r x) → l.find? p = l.find? r
 | [], _ => rfl
 | a :: l, h => by
  rw [List.find?_cons, List.find?_cons, h a (by simp), find_congr (fun x hx => h x (by simp [hx]))]
theorem cmap_at {CH : List Chr} (nc : (CH.map (fun p => p.2.1)).Nodup) {q : Nat} {x : Se} (hq : (q, x) ∈ CH) : cmap CH x.1 = some (PT q) := by
 unfold cmap
 induction CH with
 | nil => cases hq
 | cons a r ih =>
  rw [List.map_cons, List.nodup_cons] at nc
  rw [List.find?_cons]
  rcases List.mem_cons.1 hq with e | e
  ·subst e
   simp
  ·have hne : ¬ a.2.1 = x.1 := fun e2 => nc.1 (List.mem_map.2 ⟨(q, x), e, e2.symm⟩)
   simp only [hne, decide_false]
   exact ih nc.2 e
theorem caller_uniq {CH : List Chr} (nc : (CH.map (fun p => p.2.1)).Nodup) {p1 p2 : Chr} (hp1 : p1 ∈ CH) (hp2 : p2 ∈ CH) (e : p1.2.1 = p2.2.1) : p1.1 = p2.1 := by
 have h1 := cmap_at nc (q := p1.1) (x := p1.2) hp1
 have h2 := cmap_at nc (q := p2.1) (x := p2.2) hp2
 rw [e, h2] at h1
 simp only [PT, Option.some.injEq, Value.pointer.injEq, Addr.mk.injEq, and_true] at h1
 exact h1.symm
theorem cmap_del {CH : List Chr} (nc : (CH.map (fun p => p.2.1)).Nodup) (nd : (CH.map Prod.fst).Nodup) {q : Nat} {x : Se} (hq : (q, x) ∈ CH) (c : Int) : kdel (cmap CH) x.1 c = cmap (delC q CH) c := by
 unfold kdel
 by_cases e : c = x.1
 ·subst e
  rw [if_pos rfl]
  unfold cmap
  rw [List.find?_eq_none.2 (fun p hp => ?_)]
  ·rfl
  ·obtain ⟨h1, h2⟩ := List.mem_filter.1 hp
   simp only [decide_eq_true_eq] at h2 ⊢
   exact fun e => h2 (caller_uniq nc h1 hq e)
 ·rw [if_neg e]
  unfold cmap delC
  rw [List.find?_filter]
  congr 1
  refine find_congr (fun p hp => ?_)
  by_cases e2 : p.2.1 = c
  ·have : p.1 ≠ q := fun e3 => by
    have := ch_uniq nd hp hq e3
    rw [this] at e2
    exact e e2.symm
   simp [e2, this]
  ·simp [e2]
theorem del_len {CH : List Chr} (nd : (CH.map Prod.fst).Nodup) {q : Nat} {x : Se} (hq : (q, x) ∈ CH) : (delC q CH).length = CH.length - 1 := by
 unfold delC
 induction CH with
 | nil => cases hq
 | cons a r ih =>
  rw [List.map_cons, List.nodup_cons] at nd
  rcases List.mem_cons.1 hq with e | e
  ·subst e
   rw [List.filter_cons_of_neg (by simp), List.filter_eq_self.2 (fun p hp => ?_)]
   ·simp
   ·simp only [decide_eq_true_eq]
    exact fun e => nd.1 (List.mem_map.2 ⟨p, hp, e⟩)
  ·have hne : a.1 ≠ q := fun e2 => nd.1 (List.mem_map.2 ⟨(q, x), e, e2.symm⟩)
   rw [List.filter_cons_of_pos (by simpa using hne), List.length_cons, ih nd.2 e, List.length_cons]
   have := List.length_pos_of_mem e
   omega
section
variable {w : World} {s nr : Nat} {mc mr mk : Option Nat} {CH : List Chr} {G : List Int}
def TkE (w w' : World) (s : Nat) (mc mr mk : Option Nat) (nr : Nat) (CH : List Chr) (G : List Int) (q : Nat) : Prop := ∃ n, n ≤ nr ∧ Sm w' s mc mr mk n (delC q CH) G ∧ Touch (fpS s mc mr mk CH) w w'
theorem tk_chair {W : World} {b d q : Nat} {x : Se} (h : Sm W s (some b) (some d) mk nr CH G) (hx : Wf x) (hq : (q, x) ∈ CH) (nc : (CH.map (fun p => p.2.1)).Nodup) :
  ∃ o, (∀ ty, (Builtin.delete_ #[194, 3] ty #[.map (some b), .int .i64 x.1]).run Tryz.prog W = .ok (.tuple #[]) (setBlock W b o)) ∧ Md (setBlock W b o) s b d mk nr CH CH (delC q CH) G 0 Zt ∧ Touch [b] W (setBlock W b o) := by
 obtain ⟨b', d', e1, e2, hbd, mb, md⟩ : ∃ b' d', some b = some b' ∧ some d = some d' ∧ b' ≠ d' ∧ MapK KI W b' CH.length (cmap CH) ∧ MapK KN W d' nr (rmap CH) := by
  rcases h.cm with ⟨h1, _⟩ | h1
  ·cases h1
  ·exact h1
 cases e1
 cases e2
 obtain ⟨o, o1, o2⟩ := mb.del (t := 194) Tryz.underlying194 (k := x.1) hx.1 0
 rw [cmap_at nc hq] at o2
 simp only [Option.isSome_some, if_true] at o2
 have tb : Touch [b] W (setBlock W b o) := touch_setBlock (Touch.refl _ _) (Or.inl (by simp)) o
 have hsb : s ≠ b := fun e => by
  obtain ⟨es, cl, h3⟩ := mb.kind
  have := h.hb; rw [e, h3] at this; cases this
 refine ⟨o, fun ty => o1, ⟨tb.keep h.hb (by simpa using hsb), hbd, ?_, ⟨nr, Nat.le_refl _, (md.keep tb (by simp; exact fun e => hbd e.symm)).congr (fun z _ => (rmid0 _ _).symm)⟩, ?_, fun c hc => ?_, ?_⟩, tb⟩
 ·rw [del_len h.nb hq]
  exact o2.congr (fun c _ => cmap_del nc h.nb hq c)
 ·rcases h.km with h3 | ⟨c, h3, h4⟩
  ·exact Or.inl h3
  ·exact Or.inr ⟨c, h3, h4.keep tb (by simp; exact fun e => (h.kc c h3).1 (by rw [e]))⟩
 ·have := h.kc c hc
  exact ⟨fun e => this.1 (by rw [e]), fun e => this.2 (by rw [e])⟩
 ·obtain ⟨A, B, h3, h4⟩ := h.lk
  refine ⟨A, B, h3.keep tb (fun p hp e2 => ?_), fun k _ hk => absurd hk (Nat.not_lt_zero _), fun k hk _ => ⟨trivial, fun n => h4 k hk n⟩⟩
  simp only [List.mem_singleton] at e2
  obtain ⟨es, cl, h5⟩ := mb.kind
  have := h3 p hp
  rw [e2, h5] at this
  cases this
theorem tk_fin {wr : World} {b d q : Nat} (h : Md wr s b d mk nr CH CH (delC q CH) G 3 Zt) (nd : (CH.map Prod.fst).Nodup) : ∃ n', n' ≤ nr ∧ Sm wr s (some b) (some d) mk n' (delC q CH) G := by
 obtain ⟨n', h1, h2⟩ := h.rm
 obtain ⟨A, B, h3, h4, _⟩ := h.lk
 exact ⟨n', h1, h.hb, Or.inr ⟨b, d, rfl, rfl, h.bd, h.cm, h2.congr (fun z _ => rmid3 _ _)⟩, h.km, fun c hc => ⟨fun e => (h.kc c hc).1 (by cases e; rfl), fun e => (h.kc c hc).2 (by cases e; rfl)⟩, ⟨A, B, fun p hp => h3 p (List.mem_filter.1 hp).1, fun k hk n => h4 k hk hk n⟩, nd.sublist (List.filter_sublist.map _)⟩
set_option maxHeartbeats 8000000 in
set_option maxRecDepth 100000 in
theorem take_ (h : Sm w s mc mr mk nr CH G) (q : Nat) (x : Se) (hq : (q, x) ∈ CH) (nc : (CH.map (fun p => p.2.1)).Nodup) (hx : Wf x) (hnr : nr < maxLen) : Calls Tryz.prog 105 #[PT s, sv x] w fun e w' => e = .returned (.tuple #[]) ∧ TkE w w' s mc mr mk nr CH G q := by
 obtain ⟨b, d, rfl, rfl, mb⟩ : ∃ b d, mc = some b ∧ mr = some d ∧ MapK KI w b CH.length (cmap CH) := by
  rcases h.cm with ⟨_, _, h1⟩ | ⟨b, d, h1, h2, _, h3, _⟩
  ·rw [h1] at hq; cases hq
  ·exact ⟨b, d, h1, h2, h3⟩
 obtain ⟨V, hV⟩ : ∃ V, V = w.alloc (.cells #[.int .i64 x.1, .int .i64 x.2.1, .int .i64 x.2.2] 134) := ⟨_, rfl⟩
 have tv : Touch [] w V := by rw [hV]; exact (Touch.refl _ _).alloc _
 have hvb : V.heap[w.heap.size]? = some (.cells #[.int .i64 x.1, .int .i64 x.2.1, .int .i64 x.2.2] 134 (0, 0)) := by rw [hV]; exact heap_alloc_new w _
 have h1 := h.keep0 tv
 have hlk : ∀ n, (Instr.lookup 194 (.map (some b)) (.int .i64 x.1) false).run Tryz.prog (V.drewN n) = .ok (.pointer (some ⟨q, 0, none⟩)) (V.drewN n) := fun n => by
  have := ((mb.keep tv (by simp)).keep ((Touch.refl [] V).drewN n) (by simp)).look (t := 194) Tryz.underlying194 (zeroPC _) (k := x.1) hx.1
  rw [cmap_at nc hq] at this
  exact this
 have HTK : Hid (∀ W, Touch [] V W → ∃ o, (∀ ty, (Builtin.delete_ #[194, 3] ty #[.map (some b), .int .i64 x.1]).run Tryz.prog W = .ok (.tuple #[]) (setBlock W b o)) ∧ Md (setBlock W b o) s b d mk nr CH CH (delC q CH) G 0 Zt ∧ Touch [b] W (setBlock W b o)) := hid (fun W t => tk_chair (h1.keep0 t) hx hq nc)
 have HBX : Hid (∀ w', Touch [] V w' → w'.heap[w.heap.size]? = some (.cells #[.int .i64 x.1, .int .i64 x.2.1, .int .i64 x.2.2] 134 (0, 0))) := hid (fun w' t => t.keep hvb (by simp))
 have HSB : Hid (b ≠ w.heap.size) := hid (by have := mb.lt; omega)
 have HFIN : Hid (∀ W, Md W s b d mk nr CH CH (delC q CH) G 3 Zt → Touch (fpM s b d mk CH) w W → TkE w W s (some b) (some d) mk nr CH G q) := hid (fun W m t => by
  obtain ⟨n', e1, e2⟩ := tk_fin m h.nb
  exact ⟨n', e1, e2, t⟩)
 have S0 : ∀ w', Touch [] V w' → w'.cell? ⟨s, 0, none⟩ = some (.map (some b)) := fun w' t => (h1.keep0 t).cell.1
 have X0 : ∀ w', Touch [] V w' → w'.cell? ⟨w.heap.size, 0, none⟩ = some (.int .i64 x.1) := fun w' t => cell_at (t.keep hvb (by simp)) rfl
 have c0 := S0 V (Touch.refl _ _)
 have b0 := X0 V (Touch.refl _ _)
 have HTV := hid tv
 have HNX := hid hx
 have HNR := hid hnr
 have HND := hid h.nb
 have HQ := hid hq
 clear h h1 hx nc tv hvb mb hnr hq
 unfold PT sv
 go_enter Tryz.func105, Tryz.ntmps105
 go_upto_region 1 with fail
 rw [← hV]
 clear hV
 go_quiet (fail)
 have tq : Touch [] V (V.drewN nq) := (Touch.refl _ _).drewN _
 obtain ⟨V0, hV0⟩ : ∃ V0, V0 = V.drewN nq := ⟨_, rfl⟩
 rw [← hV0] at tq ⊢
 clear hV0 hlk c0 b0
 go_upto_region 2 with fail
 have k0 : Touch [] V V0.drew := tq.drew
 obtain ⟨o, U1, M0, T0⟩ := HTK.out _ k0
 have U1' := U1 0
 obtain ⟨W2, hW2⟩ : ∃ W2, W2 = setBlock V0.drew b o := ⟨_, rfl⟩
 rw [← hW2] at U1' M0 T0
 have BX2 : W2.heap[w.heap.size]? = some (.cells #[.int .i64 x.1, .int .i64 x.2.1, .int .i64 x.2.2] 134 (0, 0)) := T0.keep (HBX.out _ k0) (by simp; exact fun e => HSB.out e.symm)
 have HM0 := hid M0
 have HT0 : Hid (Touch (fpM s b d mk CH) w W2) := hid (((HTV.out.trans' k0).mono (fun _ e => by cases e)).trans T0 (fun z hz => Or.inl (mem_fpS.2 (Or.inr (Or.inl (by simp at hz; rw [hz]))))))
 clear M0 T0 U1 HTK HBX HTV
 refine wp_region_L (S := fun w' => Touch [] V w') (st := 6) (by kernel_rfl) ?_
 refine wpL_takeY (i := 0) (v := (.pointer (some ⟨s, 0, none⟩))) (some 15) rfl rfl (by kernel_rfl) (by kernel_rfl) (by kernel_rfl) (by decide) (fun _ _ _ h => h) (Or.inl ⟨by rfl, fun w' hS => (by go_simp)⟩) (fun _ => k0) ?_
 try simp only [Go.Act.put, Zx, Zy, Zz]
 refine wpL_takeY (i := 1) (v := (.pointer (some ⟨s, 0, none⟩))) (some 16) rfl rfl (by kernel_rfl) (by kernel_rfl) (by kernel_rfl) (by decide) (fun _ _ _ h => h) (Or.inl ⟨by rfl, fun w' hS => (by go_simp)⟩) (fun _ => k0) ?_
 try simp only [Go.Act.put, Zx, Zy, Zz]
 refine wpL_takeY (i := 2) (v := (.pointer (some ⟨s, 0, none⟩))) (some 17) rfl rfl (by kernel_rfl) (by kernel_rfl) (by kernel_rfl) (by decide) (fun _ _ _ h => h) (Or.inl ⟨by rfl, fun w' hS => (by go_simp)⟩) (fun _ => k0) ?_
 try simp only [Go.Act.put, Zx, Zy, Zz]
 refine wpL_take (i := 3) (v := (.map (some b))) (some 18) rfl rfl (by kernel_rfl) (by kernel_rfl) (by kernel_rfl) (by kernel_rfl) (by kernel_rfl) (by decide) (fun _ _ _ h => h) (Or.inl ⟨by rfl, fun w' hS => (by have z0 := S0 _ hS; go_simp)⟩) k0 ?_
 try simp only [Go.Act.put, Zx, Zy, Zz]
 refine wpL_takeY (i := 4) (v := (.pointer (some ⟨w.heap.size, 0, none⟩))) (some 19) rfl rfl (by kernel_rfl) (by kernel_rfl) (by kernel_rfl) (by decide) (fun _ _ _ h => h) (Or.inl ⟨by rfl, fun w' hS => (by go_simp)⟩) (fun _ => k0) ?_
 try simp only [Go.Act.put, Zx, Zy, Zz]
 refine wpL_take (i := 5) (v := (.int .i64 x.1)) (some 20) rfl rfl (by kernel_rfl) (by kernel_rfl) (by kernel_rfl) (by kernel_rfl) (by kernel_rfl) (by decide) (fun _ _ _ h => h) (Or.inl ⟨by rfl, fun w' hS => (by have z0 := X0 _ hS; go_simp)⟩) k0 ?_
 try simp only [Go.Act.put, Zx, Zy, Zz]
 refine wpL_ready (rs := [6]) (by kernel_rfl) (by simp) (AllL.cons (o := { dst := none, op := Op.call { callee := Callee.builtin Builtin.delete, args := #[Operand.tmp 18, Operand.tmp 20], argTypes := #[194, 3] }, type := 0, pos := _, after := #[{ on := 3, ground := Ground.data }, { on := 5, ground := Ground.data }], guard := none }) rfl (fun K' hK => ?_) AllL.nil)
 rw [if_pos (by rfl)]
 go_simp
 rw [← hW2]
 clear hW2 U1' k0 tq
 refine hK.out _ _ (fun h => absurd h (by decide)) ?_
 clear hK
 try simp only [Go.Act.put, Zx, Zy, Zz]
 refine wpL_done (by kernel_rfl) ?_ _
 have HNM := hid (names_ W2 x)
 have b0 := cell_at (j := 0) BX2 rfl
 have b1 := cell_at (j := 1) BX2 rfl
 have b2 := cell_at (j := 2) BX2 rfl
 clear BX2 S0 X0
 unfold sv nm3 at HNM
 go_wp2_with (go_at_call 158; refine HNM.out.mono ?_; rintro e w3 ⟨rfl, t3⟩; have T3 := hid t3; clear t3)
 have HM3 := hid (HM0.out.keep0 T3.out)
 have HT3 : Hid (Touch (fpM s b d mk CH) w w3) := hid (HT0.out.trans T3.out (fun _ e => by cases e))
 clear b0 b1 b2 HM0 HT0 T3 HNM
 go_loopw [23] (fun s23 wr => ∃ i : Nat, s23 = .int .i64 (i : Int) ∧ Hid (i ≤ 3 ∧ Md wr s b d mk nr CH CH (delC q CH) G i Zt ∧ Touch (fpM s b d mk CH) w wr)) (fun i _ => 3 - (intOf i).toNat)
 case atStart => exact ⟨0, rfl, Nat.zero_le _, HM3.out, HT3.out⟩
 case round =>
  clear HM3 HT3
  obtain ⟨i, rfl, HR⟩ := hrel
  by_cases hi : i < 3
  ·have zi : (i : Int) < 3 := by omega
   have qx := fun w => ixN w x.2.1 x.2.2 x rfl rfl hi
   obtain ⟨m, hm⟩ : ∃ m, m = num i x := ⟨_, rfl⟩
   have HMW : Hid (W64 m) := hid (by rw [hm]; exact num_wf HNX.out i)
   rw [← hm] at qx
   obtain ⟨V1, hV1⟩ : ∃ V1, V1 = wr.alloc (.cells #[.int .i64 (i : Int), .int .i64 m] 200) := ⟨_, rfl⟩
   have tv1 : Touch [] wr V1 := by rw [hV1]; exact (Touch.refl _ _).alloc _
   have hnb : V1.heap[wr.heap.size]? = some (.cells #[.int .i64 (i : Int), .int .i64 m] 200 (0, 0)) := by rw [hV1]; exact heap_alloc_new wr _
   have M1 : ∀ w', Touch [] V1 w' → w'.cell? ⟨s, 1, none⟩ = some (.map (some d)) := fun w' t => (HR.out.2.1.keep0 (tv1.trans' t)).cell
   have B0 : ∀ w', Touch [] V1 w' → w'.cell? ⟨wr.heap.size, 0, none⟩ = some (.int .i64 (i : Int)) := fun w' t => cell_at (t.keep hnb (by simp)) rfl
   have B1 : ∀ w', Touch [] V1 w' → w'.cell? ⟨wr.heap.size, 1, none⟩ = some (.int .i64 m) := fun w' t => cell_at (t.keep hnb (by simp)) rfl
   have L0 : ∀ w', Touch [] V1 w' → (Instr.lookup 195 (.map (some d)) (.agg #[.int .i64 (i : Int), .int .i64 m]) false).run Tryz.prog w' = .ok (.agg #[pv (rowOf i m CH).head?, pv (lastO none (rowOf i m CH))]) w' := fun w' t => (HR.out.2.1.keep0 (tv1.trans' t)).lookR hi HMW.out
   obtain ⟨f, hf⟩ : ∃ f, pv (rowOf i m CH).head? = .pointer f := ⟨_, rfl⟩
   obtain ⟨l, hl⟩ : ∃ l, pv (lastO none (rowOf i m CH)) = .pointer l := ⟨_, rfl⟩
   rw [hf, hl] at L0
   have HAD : Hid (∀ V2, Touch [] V1 V2 → V2.heap[V1.heap.size]? = some (.cells #[.pointer f, .pointer l] 267 (0, 0)) → Calls Tryz.prog 159 #[PT V1.heap.size, .int .i64 (i : Int), PT q] V2 fun e W => e = .returned (.tuple #[]) ∧ ∃ f l, Rb W s d wr.heap.size V1.heap.size i m f l ∧ ∀ W3, W3 = W.drew → ∃ o, ((f = none ∧ ∀ ty, (Builtin.delete_ #[195, 200] ty #[.map (some d), .agg #[.int .i64 (i : Int), .int .i64 m]]).run Tryz.prog W3 = .ok (.tuple #[]) (setBlock W3 d o)) ∨
     ((∃ z, f = some z) ∧ (Instr.mapUpdate 195 (.map (some d)) (.agg #[.int .i64 (i : Int), .int .i64 m]) (.agg #[pv f, pv l])).run Tryz.prog W3 = .ok () (setBlock W3 d o))) ∧ Md (setBlock W3 d o) s b d mk nr CH CH (delC q CH) G (i + 1) Zt ∧ Touch (fpM s b d mk CH) w (setBlock W3 d o)) := hid (fun V2 t hr => by
    have t2 := tv1.trans' t
    have hr' : V2.heap[V1.heap.size]? = some (.cells #[pv (rowOf i m CH).head?, pv (lastO none (rowOf i m CH))] 267 (0, 0)) := by rw [hf, hl]; exact hr
    obtain ⟨A, B, hLK⟩ := HR.out.2.1.lk
    have hLK2 : LkM V2 CH CH (delC q CH) i Zt A B := ⟨hLK.1.keep t2 (fun _ _ e => by cases e), hLK.2⟩
    obtain ⟨y1, y2, y3, y4⟩ := take_ready hLK2 hi HQ.out HND.out
    refine (rem_ V2 V1.heap.size q i hi _ _ x _ _ hr' y1 (fun p hp => (y2 p hp).1) (fun p hp => (y3 p hp).1) y4).mono ?_
    rintro e W ⟨rfl, hE⟩
    subst hm
    obtain ⟨f2, l2, z1, z2⟩ := take_step HR.out.2.1 hLK hi HNX.out HQ.out HND.out HNR.out t2 (t.keep hnb (by simp)) tv1.size hr' hE
    refine ⟨rfl, f2, l2, z1, fun W3 e3 => ?_⟩
    obtain ⟨o, z3, z4, z5⟩ := z2 W3 e3
    exact ⟨o, z3, z4, HR.out.2.2.trans z5 (fun z hz => Or.inl hz)⟩)
   have HI := hid (And.intro hi HR.out.1)
   have kv0 : Touch [] V1 V1.drew := (Touch.refl _ _).drew
   clear hf hl hnb tv1 HMW HR hi hm
   unfold PT at HAD
   go_upto_region 6 with fail
   rw [← hV1]
   clear hV1 qx
   refine wp_region_L (S := fun w' => Touch [] V1 w') (st := 7) (by kernel_rfl) ?_
   refine wpL_take (i := 0) (v := (.pointer (some ⟨s, 0, none⟩))) (some 26) rfl rfl (by kernel_rfl) (by kernel_rfl) (by kernel_rfl) (by kernel_rfl) (by kernel_rfl) (by decide) (fun _ _ _ h => h) (Or.inl ⟨by rfl, fun w' hS => (by go_simp)⟩) kv0 ?_
   try simp only [Go.Act.put, Zx, Zy, Zz]
   refine wpL_take (i := 1) (v := (.pointer (some ⟨s, 0, none⟩))) (some 27) rfl rfl (by kernel_rfl) (by kernel_rfl) (by kernel_rfl) (by kernel_rfl) (by kernel_rfl) (by decide) (fun _ _ _ h => h) (Or.inl ⟨by rfl, fun w' hS => (by go_simp)⟩) kv0 ?_
   try simp only [Go.Act.put, Zx, Zy, Zz]
   refine wpL_take (i := 2) (v := (.pointer (some ⟨s, 1, none⟩))) (some 28) rfl rfl (by kernel_rfl) (by kernel_rfl) (by kernel_rfl) (by kernel_rfl) (by kernel_rfl) (by decide) (fun _ _ _ h => h) (Or.inl ⟨by rfl, fun w' hS => (by go_simp)⟩) kv0 ?_
   try simp only [Go.Act.put, Zx, Zy, Zz]
   refine wpL_take (i := 3) (v := (.map (some d))) (some 29) rfl rfl (by kernel_rfl) (by kernel_rfl) (by kernel_rfl) (by kernel_rfl) (by kernel_rfl) (by decide) (fun _ _ _ h => h) (Or.inl ⟨by rfl, fun w' hS => (by have z0 := M1 _ hS; go_simp)⟩) kv0 ?_
   try simp only [Go.Act.put, Zx, Zy, Zz]
   refine wpL_take (i := 4) (v := (.agg #[.int .i64 (i : Int), .int .i64 m])) (some 30) rfl rfl (by kernel_rfl) (by kernel_rfl) (by kernel_rfl) (by kernel_rfl) (by kernel_rfl) (by decide) (fun _ _ _ h => h) (Or.inl ⟨by rfl, fun w' hS => (by have z0 := B0 _ hS; have z1 := B1 _ hS; go_simp)⟩) kv0 ?_
   try simp only [Go.Act.put, Zx, Zy, Zz]
   refine wpL_take (i := 5) (v := (.agg #[.pointer f, .pointer l])) (some 31) rfl rfl (by kernel_rfl) (by kernel_rfl) (by kernel_rfl) (by kernel_rfl) (by kernel_rfl) (by decide) (fun _ _ _ h => h) (Or.inl ⟨by rfl, fun w' hS => (by have z0 := L0 _ hS; go_simp)⟩) kv0 ?_
   try simp only [Go.Act.put, Zx, Zy, Zz]
   refine wpL_ready (rs := [6]) (by kernel_rfl) (by simp) (AllL.cons (o := { dst := some 7, op := Op.alloc 267, type := 0, pos := _, after := #[], guard := none }) rfl (fun K' hK => ?_) AllL.nil)
   rw [if_pos (by rfl)]
   go_simp
   refine hK.out _ _ (fun _ => ((Touch.refl _ _).alloc _).drew) ?_
   clear hK
   try simp only [Go.Act.put, Zx, Zy, Zz]
   refine wpL_ready (rs := [7]) (by kernel_rfl) (by simp) (AllL.cons (o := { dst := none, op := Op.store 267 (Operand.tmp 7) (Operand.tmp 31), type := 0, pos := _, after := #[{ on := 6, ground := Ground.data }, { on := 5, ground := Ground.data }, { on := 0, ground := Ground.phase }, { on := 1, ground := Ground.phase }, { on := 2, ground := Ground.phase }, { on := 3, ground := Ground.phase }, { on := 4, ground := Ground.phase }, { on := 5, ground := Ground.phase }, { on := 6, ground := Ground.phase }], guard := none }) rfl (fun K' hK => ?_) AllL.nil)
   rw [if_pos (by rfl)]
   go_simp
   refine hK.out _ _ (fun h => absurd h (by decide)) ?_
   clear hK
   try simp only [Go.Act.put, Zx, Zy, Zz]
   refine wpL_done (by kernel_rfl) ?_ _
   have k5 : Touch [] V1 (V1.alloc (.cells #[.pointer f, .pointer l] 267)).drew := ((Touch.refl _ _).alloc _).drew
   have HK := hid (HAD.out _ k5 (heap_alloc_new V1 _))
   have b0 := B0 _ k5
   clear M1 B0 B1 L0 kv0 k5 HAD
   generalize (V1.alloc (.cells #[.pointer f, .pointer l] 267)).drew = V2 at *
   go_upto_region 8 with (go_at_call 159; refine HK.out.mono ?_; rintro e W ⟨rfl, f2, l2, z1, z2⟩; have HZ := hid (And.intro z1 z2); clear z1 z2 b0)
   obtain ⟨z1, z2⟩ := HZ.out
   obtain ⟨s1, n0, n1, r0, r1⟩ := z1
   obtain ⟨l3, hl3⟩ : ∃ l3, pv l2 = .pointer l3 := ⟨_, rfl⟩
   obtain ⟨o3, hz, z3, z4⟩ := z2 _ rfl
   have HM4 := hid z3
   have HT4 := hid z4
   obtain ⟨W5, hW5⟩ : ∃ W5, W5 = setBlock W.drew d o3 := ⟨_, rfl⟩
   rw [← hW5] at hz HM4 HT4
   rw [hl3] at r1 hz
   have k6 : Touch [] W W.drew := (Touch.refl _ _).drew
   clear HK HZ z2 z3 z4 hl3
   rcases hz with ⟨rfl, z2⟩ | ⟨⟨z, rfl⟩, z2⟩
   ·have rr := r0 W (Touch.refl _ _)
    replace z2 := z2 0
    unfold pv at rr
    simp only [Option.map_none] at rr
    go_upto_region 9 with fail
    clear rr
    refine wp_region_L (S := fun w' => Touch [] W w') (st := 5) (by kernel_rfl) ?_
    refine wpL_takeY (i := 0) (v := (.pointer (some ⟨s, 0, none⟩))) (some 39) rfl rfl (by kernel_rfl) (by kernel_rfl) (by kernel_rfl) (by decide) (fun _ _ _ h => h) (Or.inl ⟨by rfl, fun w' hS => (by go_simp)⟩) (fun _ => k6) ?_
    try simp only [Go.Act.put, Zx, Zy, Zz]
    refine wpL_takeY (i := 1) (v := (.pointer (some ⟨s, 0, none⟩))) (some 40) rfl rfl (by kernel_rfl) (by kernel_rfl) (by kernel_rfl) (by decide) (fun _ _ _ h => h) (Or.inl ⟨by rfl, fun w' hS => (by go_simp)⟩) (fun _ => k6) ?_
    try simp only [Go.Act.put, Zx, Zy, Zz]
    refine wpL_takeY (i := 2) (v := (.pointer (some ⟨s, 1, none⟩))) (some 41) rfl rfl (by kernel_rfl) (by kernel_rfl) (by kernel_rfl) (by decide) (fun _ _ _ h => h) (Or.inl ⟨by rfl, fun w' hS => (by go_simp)⟩) (fun _ => k6) ?_
    try simp only [Go.Act.put, Zx, Zy, Zz]
    refine wpL_take (i := 3) (v := (.map (some d))) (some 42) rfl rfl (by kernel_rfl) (by kernel_rfl) (by kernel_rfl) (by kernel_rfl) (by kernel_rfl) (by decide) (fun _ _ _ h => h) (Or.inl ⟨by rfl, fun w' hS => (by have z0 := s1 _ hS; go_simp)⟩) k6 ?_
    try simp only [Go.Act.put, Zx, Zy, Zz]
    refine wpL_take (i := 4) (v := (.agg #[.int .i64 (i : Int), .int .i64 m])) (some 43) rfl rfl (by kernel_rfl) (by kernel_rfl) (by kernel_rfl) (by kernel_rfl) (by kernel_rfl) (by decide) (fun _ _ _ h => h) (Or.inl ⟨by rfl, fun w' hS => (by have z0 := n0 _ hS; have z1 := n1 _ hS; go_simp)⟩) k6 ?_
    try simp only [Go.Act.put, Zx, Zy, Zz]
    refine wpL_ready (rs := [5]) (by kernel_rfl) (by simp) (AllL.cons (o := { dst := none, op := Op.call { callee := Callee.builtin Builtin.delete, args := #[Operand.tmp 42, Operand.tmp 43], argTypes := #[195, 200] }, type := 0, pos := _, after := #[{ on := 3, ground := Ground.data }, { on := 4, ground := Ground.data }], guard := none }) rfl (fun K' hK => ?_) AllL.nil)
    rw [if_pos (by rfl)]
    go_simp
    rw [← hW5]
    clear hW5 z2 k6 s1 n0 n1 r0 r1
    refine hK.out _ _ (fun h => absurd h (by decide)) ?_
    clear hK
    try simp only [Go.Act.put, Zx, Zy, Zz]
    refine wpL_done (by kernel_rfl) ?_ _
    go_wp2
    go_roundw
    case rel => exact ⟨i + 1, by go_num, by have := HI.out.1; omega, HM4.out, HT4.out⟩
    case measure => simp [intOf]; have := HI.out.1; omega
   ·rw [pv_some] at r0 z2
    unfold PT at r0 z2
    have rr := r0 W (Touch.refl _ _)
    go_upto_region 10 with fail
    clear rr
    refine wp_region_L (S := fun w' => Touch [] W w') (st := 6) (by kernel_rfl) ?_
    refine wpL_take (i := 0) (v := (.pointer (some ⟨s, 0, none⟩))) (some 44) rfl rfl (by kernel_rfl) (by kernel_rfl) (by kernel_rfl) (by kernel_rfl) (by kernel_rfl) (by decide) (fun _ _ _ h => h) (Or.inl ⟨by rfl, fun w' hS => (by go_simp)⟩) k6 ?_
    try simp only [Go.Act.put, Zx, Zy, Zz]
    refine wpL_take (i := 1) (v := (.pointer (some ⟨s, 0, none⟩))) (some 45) rfl rfl (by kernel_rfl) (by kernel_rfl) (by kernel_rfl) (by kernel_rfl) (by kernel_rfl) (by decide) (fun _ _ _ h => h) (Or.inl ⟨by rfl, fun w' hS => (by go_simp)⟩) k6 ?_
    try simp only [Go.Act.put, Zx, Zy, Zz]
    refine wpL_take (i := 2) (v := (.pointer (some ⟨s, 1, none⟩))) (some 46) rfl rfl (by kernel_rfl) (by kernel_rfl) (by kernel_rfl) (by kernel_rfl) (by kernel_rfl) (by decide) (fun _ _ _ h => h) (Or.inl ⟨by rfl, fun w' hS => (by go_simp)⟩) k6 ?_
    try simp only [Go.Act.put, Zx, Zy, Zz]
    refine wpL_take (i := 3) (v := (.map (some d))) (some 47) rfl rfl (by kernel_rfl) (by kernel_rfl) (by kernel_rfl) (by kernel_rfl) (by kernel_rfl) (by decide) (fun _ _ _ h => h) (Or.inl ⟨by rfl, fun w' hS => (by have z0 := s1 _ hS; go_simp)⟩) k6 ?_
    try simp only [Go.Act.put, Zx, Zy, Zz]
    refine wpL_take (i := 4) (v := (.agg #[.int .i64 (i : Int), .int .i64 m])) (some 48) rfl rfl (by kernel_rfl) (by kernel_rfl) (by kernel_rfl) (by kernel_rfl) (by kernel_rfl) (by decide) (fun _ _ _ h => h) (Or.inl ⟨by rfl, fun w' hS => (by have z0 := n0 _ hS; have z1 := n1 _ hS; go_simp)⟩) k6 ?_
    try simp only [Go.Act.put, Zx, Zy, Zz]
    refine wpL_take (i := 5) (v := (.agg #[.pointer (some ⟨z, 0, none⟩), .pointer l3])) (some 49) rfl rfl (by kernel_rfl) (by kernel_rfl) (by kernel_rfl) (by kernel_rfl) (by kernel_rfl) (by decide) (fun _ _ _ h => h) (Or.inl ⟨by rfl, fun w' hS => (by have z0 := r0 _ hS; have z1 := r1 _ hS; go_simp)⟩) k6 ?_
    try simp only [Go.Act.put, Zx, Zy, Zz]
    refine wpL_ready (rs := [6]) (by kernel_rfl) (by simp) (AllL.cons (o := { dst := none, op := Op.mapUpdate 195 (Operand.tmp 47) (Operand.tmp 48) (Operand.tmp 49), type := 0, pos := _, after := #[{ on := 3, ground := Ground.data }, { on := 4, ground := Ground.data }, { on := 5, ground := Ground.data }, { on := 0, ground := Ground.phase }, { on := 1, ground := Ground.phase }, { on := 2, ground := Ground.phase }, { on := 3, ground := Ground.phase }, { on := 4, ground := Ground.phase }, { on := 5, ground := Ground.phase }], guard := none }) rfl (fun K' hK => ?_) AllL.nil)
    rw [if_pos (by rfl)]
    go_simp
    rw [← hW5]
    clear hW5 z2 k6 s1 n0 n1 r0 r1
    refine hK.out _ _ (fun h => absurd h (by decide)) ?_
    clear hK
    try simp only [Go.Act.put, Zx, Zy, Zz]
    refine wpL_done (by kernel_rfl) ?_ _
    go_wp2
    go_roundw
    case rel => exact ⟨i + 1, by go_num, by have := HI.out.1; omega, HM4.out, HT4.out⟩
    case measure => simp [intOf]; have := HI.out.1; omega
  ·have HZ : Hid (TkE w wr s (some b) (some d) mk nr CH G q) := hid (by
    obtain ⟨h1, h2, h3⟩ := HR.out
    obtain rfl : i = 3 := by omega
    exact HFIN.out wr h2 h3)
   have zi : 3 ≤ (i : Int) := by omega
   clear HR
   go_wp2
   go_end0
   exact ⟨rfl, HZ.out⟩
end
end Go.Proofs.YtllchnancjgijaaGreat.Lv
/- The contracts of the small methods of seats: New, Where, Cancelled, Len, All, Of, By; no conditions but those that each states. -/
namespace Go.Proofs.YtllchnancjgijaaGreat.Lv
open Go.RowKit Go.Maps Go.ChangeMaps
def zs : Se := (0, 0, 0)
theorem zeroE (w : World) : (zeroValue 120).run Tryz.prog w = .ok (.agg #[]) w := by kernel_rfl
theorem callers_eq (CH : List Chr) : (CH.map Prod.snd).map Prod.fst = CH.map (fun p => p.2.1) := by simp
theorem where_ch (CH : List Chr) (c : Int) : (∃ q x, (q, x) ∈ CH ∧ cmap CH c = some (PT q) ∧ whr (CH.map Prod.snd) c = some x ∧ x.1 = c) ∨ (cmap CH c = none ∧ whr (CH.map Prod.snd) c = none) := by
 have e : whr (CH.map Prod.snd) c = (CH.find? (fun p => decide (p.2.1 = c))).map Prod.snd := by
  unfold whr
  rw [List.find?_map]
  rfl
 unfold cmap
 rw [e]
 cases hp : CH.find? (fun p => decide (p.2.1 = c)) with
 | none => exact Or.inr ⟨rfl, rfl⟩
 | some p => exact Or.inl ⟨p.1, p.2, List.mem_of_find?_eq_some hp, rfl, rfl, by simpa using List.find?_some hp⟩
theorem new_ (w : World) : Calls Tryz.prog 82 #[] w fun e w' => e = .returned (PT w.heap.size) ∧ Sq w' w.heap.size [w.heap.size] [] [] 0 ∧ Touch [] w w' := by
 have HX : Hid (Sq (w.alloc (.cells (sbc none none none) 197)) w.heap.size [w.heap.size] [] [] 0) := hid ⟨none, none, none, 0, [], rfl, rfl, ⟨heap_alloc_new w _, Or.inl ⟨rfl, rfl, rfl⟩, Or.inl ⟨rfl, rfl⟩, fun b hb => (by cases hb), ⟨fun _ _ => none, fun _ _ => none, fun p hp => (by cases hp), fun k _ n => trivial⟩, List.nodup_nil⟩, ⟨List.nodup_nil, fun x hx => (by cases hx), List.nodup_nil, fun t ht => (by cases ht), Nat.le_refl _, Nat.le_refl _⟩, Nat.zero_le _⟩
 unfold sbc at HX
 unfold PT
 go_enter Tryz.func82, Tryz.ntmps82
 go_wp2
 go_ret
 exact ⟨rfl, HX.out, (Touch.refl _ _).alloc _⟩
section
variable {w : World} {s nr : Nat} {mc mr mk : Option Nat} {CH : List Chr} {G : List Int}
theorem Sm.lookC (h : Sm w s mc mr mk nr CH G) {c : Int} (hc : W64 c) : (Instr.lookup 194 (.map mc) (.int .i64 c) false).run Tryz.prog w = .ok ((cmap CH c).getD (.pointer none)) w := by
 rcases h.cm with ⟨h1, _, h2⟩ | ⟨b, d, h1, h2, _, h3, _⟩
 ·rw [h1, h2]
  exact look_nil KI Tryz.underlying194 (zeroPC w) hc
 ·rw [h1]
  exact h3.look (t := 194) Tryz.underlying194 (zeroPC w) hc
theorem Sm.lookK (h : Sm w s mc mr mk nr CH G) {t : Int} (ht : W64 t) : (Instr.lookup 98 (.map mk) (.int .i64 t) true).run Tryz.prog w = .ok (.tuple #[.agg #[], .bool (decide (t ∈ G))]) w := by
 rcases h.km with ⟨h1, h2⟩ | ⟨b, h1, h3⟩
 ·rw [h1, h2]
  have := Maps.look_nil true KI.keyed Tryz.underlying98 (zeroE w) (KI.key ht)
  rw [show decide (t ∈ ([] : List Int)) = false by simp]
  exact this
 ·rw [h1]
  have := h3.lookOk (t := 98) Tryz.underlying98 (zeroE w) (k := t) ht
  unfold kmap at this
  by_cases e : t ∈ G
  ·rw [if_pos e] at this
   rw [decide_eq_true e]
   exact this
  ·rw [if_neg e] at this
   rw [decide_eq_false e]
   exact this
theorem canc_ (h : Sm w s mc mr mk nr CH G) {t : Int} (ht : W64 t) : Calls Tryz.prog 86 #[PT s, .int .i64 t] w fun e w' => e = .returned (.bool (decide (t ∈ G))) ∧ Touch [] w w' := by
 have hl := h.lookK ht
 have c2 := h.cell.2.2.1
 clear h
 generalize decide (t ∈ G) = B at *
 unfold PT
 go_enter Tryz.func86, Tryz.ntmps86
 go_wp2
 go_ret
 exact ⟨rfl, (Touch.refl _ _).alloc _⟩
theorem where_ (h : Sm w s mc mr mk nr CH G) {c : Int} (hc : W64 c) : Calls Tryz.prog 87 #[PT s, .int .i64 c] w fun e w' => e = .returned (.tuple #[sv ((whr (CH.map Prod.snd) c).getD zs), .bool (whr (CH.map Prod.snd) c).isSome]) ∧ Touch [] w w' := by
 obtain ⟨V, hV⟩ : ∃ V, V = w.alloc (.cells #[.int .i64 0, .int .i64 0, .int .i64 0] 134) := ⟨_, rfl⟩
 have tv : Touch [] w V := by rw [hV]; exact (Touch.refl _ _).alloc _
 have hvb : V.heap[w.heap.size]? = some (.cells #[.int .i64 0, .int .i64 0, .int .i64 0] 134 (0, 0)) := by rw [hV]; exact heap_alloc_new w _
 have h1 := h.keep0 tv
 have c0 := h1.cell.1
 have hl := h1.lookC hc
 have v0 := cell_at (j := 0) hvb rfl
 have v1 := cell_at (j := 1) hvb rfl
 have v2 := cell_at (j := 2) hvb rfl
 have vf := froz_at hvb
 have HT := hid tv
 rcases where_ch CH c with ⟨q, x, hq, e1, e2, e3⟩ | ⟨e1, e2⟩
 ·obtain ⟨A, B, hc', _⟩ := h1.lk
  have hb := hc' (q, x) hq
  have a0 := cell_at (j := 0) (v := .int .i64 x.1) hb rfl
  have a1 := cell_at (j := 1) (v := .int .i64 x.2.1) hb rfl
  have a2 := cell_at (j := 2) (v := .int .i64 x.2.2) hb rfl
  rw [e1] at hl
  rw [e2]
  have HE : Hid (Touch [] w (((V.setCell ⟨w.heap.size, 0, none⟩ (.int .i64 x.1)).setCell ⟨w.heap.size, 1, none⟩ (.int .i64 x.2.1)).setCell ⟨w.heap.size, 2, none⟩ (.int .i64 x.2.2))) := hid (((tv.setCell (Or.inr (Nat.le_refl _)) _).setCell (Or.inr (Nat.le_refl _)) _).setCell (Or.inr (Nat.le_refl _)) _)
  clear h h1 hc hc' hb hq e1 e2 e3 tv hvb
  simp only [Option.getD_some, Option.isSome_some] at hl ⊢
  unfold PT at hl
  unfold PT sv
  go_enter Tryz.func87, Tryz.ntmps87
  go_upto_region 1 with fail
  rw [← hV]
  clear hV
  go_wp2
  exact bodyPost_ret (v := .tuple #[.agg #[.int .i64 x.1, .int .i64 x.2.1, .int .i64 x.2.2], .bool true]) (by simp [results, Tryz.results87, go_sem, v0, v1, v2]) rfl ⟨rfl, HE.out⟩
 ·rw [e1] at hl
  rw [e2]
  have HE : Hid (Touch [] w (((V.setCell ⟨w.heap.size, 0, none⟩ (.int .i64 0)).setCell ⟨w.heap.size, 1, none⟩ (.int .i64 0)).setCell ⟨w.heap.size, 2, none⟩ (.int .i64 0))) := hid (((tv.setCell (Or.inr (Nat.le_refl _)) _).setCell (Or.inr (Nat.le_refl _)) _).setCell (Or.inr (Nat.le_refl _)) _)
  clear h h1 hc e1 e2 tv hvb
  simp only [Option.getD_none, Option.isSome_none] at hl ⊢
  unfold PT sv zs
  go_enter Tryz.func87, Tryz.ntmps87
  go_upto_region 1 with fail
  rw [← hV]
  clear hV
  go_wp2
  exact bodyPost_ret (v := .tuple #[.agg #[.int .i64 0, .int .i64 0, .int .i64 0], .bool false]) (by simp [results, Tryz.results87, go_sem, v0, v1, v2]) rfl ⟨rfl, HE.out⟩
end
end Go.Proofs.YtllchnancjgijaaGreat.Lv
/- The contracts of place and takeAway in plain words, and of clear, End, Stand and Sit; no conditions but those that each states. -/
namespace Go.Proofs.YtllchnancjgijaaGreat.Lv
open Go.RowKit Go.Maps Go.ChangeMaps
section
variable {w : World} {s N : Nat} {F : List Nat} {L : List Se} {G : List Int}
theorem del_out {CH : List Chr} (nc : (CH.map (fun p => p.2.1)).Nodup) (nd : (CH.map Prod.fst).Nodup) {q : Nat} {x : Se} (hq : (q, x) ∈ CH) : (delC q CH).map Prod.snd = outL 0 x.1 (CH.map Prod.snd) := by
 unfold delC outL
 rw [List.filter_map]
 congr 1
 refine List.filter_congr (fun p hp => ?_)
 simp only [Function.comp, bn]
 by_cases e : p.1 = q
 ·have := ch_uniq nd hp hq e
  subst this
  simp
 ·have : ¬ p.2.1 = x.1 := fun e2 => e (caller_uniq nc hp hq e2)
  simp [e, this]
theorem takeQ (h : Sq w s F L G N) {x : Se} (hx : x ∈ L) (hN : N ≤ 10000000000000) : Calls Tryz.prog 105 #[PT s, sv x] w fun e w' => e = .returned (.tuple #[]) ∧ SqE w w' s F (outL 0 x.1 L) G N := by
 obtain ⟨mc, mr, mk, nr, CH, rfl, rfl, h1, h2, h3⟩ := h
 obtain ⟨p, hp, rfl⟩ := List.mem_map.1 hx
 have nc : (CH.map (fun p => p.2.1)).Nodup := by rw [← callers_eq]; exact h2.nc
 refine (take_ h1 p.1 p.2 hp nc (h2.ok _ hx).2 (by unfold maxLen; omega)).mono ?_
 rintro e w' ⟨rfl, n, n1, n2, n3⟩
 refine ⟨rfl, _, ⟨mc, mr, mk, n, delC p.1 CH, rfl, (del_out nc h1.nb hp).symm, n2, h2.out 0 _, by omega⟩, n3, fun z hz => Or.inl ?_⟩
 rcases mem_fpS.1 hz with e | e | e | e | e
 ·exact mem_fpS.2 (Or.inl e)
 ·exact mem_fpS.2 (Or.inr (Or.inl e))
 ·exact mem_fpS.2 (Or.inr (Or.inr (Or.inl e)))
 ·exact mem_fpS.2 (Or.inr (Or.inr (Or.inr (Or.inl e))))
 ·refine mem_fpS.2 (Or.inr (Or.inr (Or.inr (Or.inr ?_))))
  obtain ⟨r, hr, rfl⟩ := List.mem_map.1 e
  exact List.mem_map.2 ⟨r, (List.mem_filter.1 hr).1, rfl⟩
theorem placeQ (h : Sq w s F L G N) {x : Se} (hx : Wf x) (hm : may x = true) (hn : ∀ y ∈ L, y.1 ≠ x.1) (hN : N ≤ 10000000000000) : Calls Tryz.prog 146 #[PT s, sv x] w fun e w' => e = .returned (.tuple #[]) ∧ SqE w w' s F (L ++ [x]) G (N + 1) := by
 obtain ⟨mc, mr, mk, nr, CH, rfl, rfl, h1, h2, h3⟩ := h
 have hl := h2.ll
 rw [List.length_map] at hl
 refine (place_ h1 x hx (fun p hp => hn p.2 (List.mem_map.2 ⟨p, hp, rfl⟩)) (by unfold maxLen; omega) (by unfold maxLen; omega)).mono ?_
 rintro e w' ⟨rfl, b, d, q, n, n1, n2, n3, n4, n5, n6⟩
 refine ⟨rfl, _, ⟨some b, some d, mk, n, CH ++ [(q, x)], rfl, by simp, n2, h2.snoc hx hm hn, by omega⟩, n3, fun z hz => ?_⟩
 rcases mem_fpS.1 hz with e | e | e | e | e
 ·exact Or.inl (mem_fpS.2 (Or.inl e))
 ·rcases n5 with e2 | e2
  ·exact Or.inl (mem_fpS.2 (Or.inr (Or.inl (by rw [e2]; exact e))))
  ·cases e; exact Or.inr e2
 ·rcases n6 with e2 | e2
  ·exact Or.inl (mem_fpS.2 (Or.inr (Or.inr (Or.inl (by rw [e2]; exact e)))))
  ·cases e; exact Or.inr e2
 ·exact Or.inl (mem_fpS.2 (Or.inr (Or.inr (Or.inr (Or.inl e)))))
 ·rw [List.map_append] at e
  rcases List.mem_append.1 e with e | e
  ·exact Or.inl (mem_fpS.2 (Or.inr (Or.inr (Or.inr (Or.inr e)))))
  ·simp only [List.map_cons, List.map_nil, List.mem_singleton] at e
   exact Or.inr (by omega)
theorem Sq.chl (h : Sq w s F L G N) (hN : N ≤ 4500000000000) : ∃ mc mr mk nr CH, F = fpS s mc mr mk CH ∧ L = CH.map Prod.snd ∧ Sm w s mc mr mk nr CH G ∧ CH.length ≤ 5000000000000 := by
 obtain ⟨mc, mr, mk, nr, CH, rfl, rfl, h1, h2, h3⟩ := h
 have hl := h2.ll
 rw [List.length_map] at hl
 exact ⟨mc, mr, mk, nr, CH, rfl, rfl, h1, by omega⟩
theorem seatsQ (h : Sq w s F L G N) {k : Nat} (hk : k < 3) {n : Int} (hn : W64 n) (hN : N ≤ 4500000000000) : Calls Tryz.prog 161 #[PT s, .agg #[.int .i64 (k : Int), .int .i64 n]] w fun e w' => SlE e w w' (inK k n L) := by
 obtain ⟨mc, mr, mk, nr, CH, rfl, rfl, h1, h2⟩ := h.chl hN
 exact seats_ h1 hk hn h2
theorem whereQ (h : Sq w s F L G N) {c : Int} (hc : W64 c) : Calls Tryz.prog 87 #[PT s, .int .i64 c] w fun e w' => e = .returned (.tuple #[sv ((whr L c).getD zs), .bool (whr L c).isSome]) ∧ Touch [] w w' := by
 obtain ⟨mc, mr, mk, nr, CH, rfl, rfl, h1, h2, h3⟩ := h
 exact where_ h1 hc
theorem cancQ (h : Sq w s F L G N) {t : Int} (ht : W64 t) : Calls Tryz.prog 86 #[PT s, .int .i64 t] w fun e w' => e = .returned (.bool (decide (t ∈ G))) ∧ Touch [] w w' := by
 obtain ⟨mc, mr, mk, nr, CH, rfl, rfl, h1, h2, h3⟩ := h
 exact canc_ h1 ht
def ClE (e : Ending) (w w' : World) (s : Nat) (F : List Nat) (L : List Se) (G : List Int) (N : Nat) (ys : List Se) : Prop := ∃ a c, e = .returned (.slice a ys.length c) ∧ w'.ownsRow w.heap.size 134 3 (.slice a ys.length c) ys.length (ys.flatMap sc) ∧ SqE w w' s F L G N
theorem own_other {w w' : World} {B t k n : Nat} {v : Value} {xs : List Value} {F : List Nat} (h : w.ownsRow B t k v n xs) (T : Touch F w w') (hF : ∀ q, q ∈ F → Own1 w q) (h1 : t ≠ 197) (h2 : t ≠ 238) : w'.ownsRow B t k v n xs := own_touch h T (fun b hb e => by
 obtain ⟨cs, hc⟩ := own_kind h hb
 exact (hF b e).ne hc h1 h2 rfl)
set_option maxHeartbeats 4000000 in
set_option maxRecDepth 100000 in
theorem clear_ (h : Sq w s F L G N) {k : Nat} (hk1 : 1 ≤ k) (hk : k < 3) {n : Int} (hn : W64 n) (hN : N ≤ 4500000000000) : Calls Tryz.prog 107 #[PT s, .agg #[.int .i64 (k : Int), .int .i64 n]] w fun e w' => ClE e w w' s F (outL k n L) G N (inL k n L) := by
 obtain ⟨V, hV⟩ : ∃ V, V = w.alloc (bxN k n) := ⟨_, rfl⟩
 have tv : Touch [] w V := by rw [hV]; exact (Touch.refl _ _).alloc _
 have hvb : V.heap[w.heap.size]? = some (.cells #[.int .i64 (k : Int), .int .i64 n] 200 (0, 0)) := by rw [hV]; exact heap_alloc_new w _
 have b0 := cell_at (j := 0) (v := .int .i64 (k : Int)) hvb rfl
 have b1 := cell_at (j := 1) (v := .int .i64 n) hvb rfl
 have HS := hid (seatsQ (h.keep0 tv) hk hn hN)
 have eK : inK k n L = inL k n L := by
  match k, hk1, hk with
  | 1, _, _ => rfl
  | 2, _, _ => rfl
 rw [eK] at HS
 have HQ := hid h
 have HTV := hid tv
 have HNN := hid hN
 obtain ⟨ys, hys⟩ : ∃ ys, ys = inL k n L := ⟨_, rfl⟩
 have HLE : Hid (ys.length ≤ 4500000000000) := hid (by rw [hys]; exact Nat.le_trans (List.length_filter_le _ _) (Nat.le_trans h.iv.ll hN))
 have HY : Hid (outs L ys = outL k n L) := hid (by rw [hys]; exact outs_in h.iv.nc k n)
 have HMEM : Hid (∀ i y, ys[i]? = some y → y ∈ outs L (ys.take i)) := hid (fun i y hy => by
  rw [outs_eq, List.mem_filter]
  have hy1 : y ∈ L := by
   have := List.mem_of_getElem? hy
   rw [hys] at this
   exact (List.mem_filter.1 this).1
  refine ⟨hy1, ?_⟩
  simp only [Bool.not_eq_true', decide_eq_false_iff_not]
  intro e
  have hnd : (ys.map Prod.fst).Nodup := by rw [hys]; exact h.iv.nc.sublist (List.filter_sublist.map _)
  have hi := (List.getElem?_eq_some_iff.1 hy).1
  obtain ⟨z, hz, e2⟩ := List.mem_map.1 e
  obtain ⟨j, hj⟩ := List.getElem?_of_mem hz
  have hj1 : j < i := by
   have := (List.getElem?_eq_some_iff.1 hj).1
   rw [List.length_take] at this
   omega
  rw [List.getElem?_take, if_pos hj1] at hj
  have g1 : (ys.map Prod.fst)[i]? = some y.1 := by rw [List.getElem?_map, hy]; rfl
  have g2 : (ys.map Prod.fst)[j]? = some y.1 := by rw [List.getElem?_map, hj, ← e2]; rfl
  have := (List.getElem?_inj (by simpa using hi) hnd).1 (g1.trans g2.symm)
  omega)
 rw [← hys] at HS ⊢
 rw [← HY.out]
 clear h tv hvb hk1 hk eK hn hN hys HY
 unfold bxN at hV
 unfold PT at *
 go_enter Tryz.func107, Tryz.ntmps107
 go_upto_region 1 with fail
 rw [← hV]
 clear hV
 go_upto_region 2 with (go_at_call 161; refine HS.out.mono ?_; rintro e w2 ⟨a2, c2, rfl, r2, t2⟩; have RR := hid (And.intro r2 t2); clear r2 t2 b0 b1)
 have H0 : Hid (∃ F', Sq w2 s F' (outs L (ys.take 0)) G N ∧ Touch F w w2 ∧ Nf w F F' ∧ w2.ownsRow w.heap.size 134 3 (.slice a2 ys.length c2) ys.length (ys.flatMap sc)) := hid ⟨F, HQ.out.keep0 (HTV.out.trans' RR.out.2), (HTV.out.trans' RR.out.2).mono (fun _ e => by cases e), Nf.refl _ _, own_base RR.out.1 HTV.out.size⟩
 obtain ⟨m, hm⟩ : ∃ m, m = ys.length := ⟨_, rfl⟩
 have HM := hid hm
 rw [← hm] at H0 ⊢
 clear RR HS hm
 go_wp2
 go_loopw [13] (fun s13 wr => ∃ i : Nat, s13 = .int .i64 (i : Int) ∧ i ≤ m ∧ Hid (∃ F', Sq wr s F' (outs L (ys.take i)) G N ∧ Touch F w wr ∧ Nf w F F' ∧ wr.ownsRow w.heap.size 134 3 (.slice a2 m c2) m (ys.flatMap sc))) (fun i _ => m - (intOf i).toNat)
 case atStart => exact ⟨0, rfl, Nat.zero_le _, H0⟩
 case round =>
  clear H0
  obtain ⟨i, rfl, hi, HR⟩ := hrel
  by_cases hlt : i < m
  ·have zi : (i : Int) < (m : Int) := by omega
   have zL : (m : Int) < 9223372036854775807 := by have := HLE.out; have := HM.out; omega
   obtain ⟨y, hy⟩ : ∃ y, ys[i]? = some y := ⟨_, List.getElem?_eq_getElem (by have := HM.out; omega)⟩
   obtain ⟨V1, hV1⟩ : ∃ V1, V1 = wr.alloc (.cells #[.int .i64 y.1, .int .i64 y.2.1, .int .i64 y.2.2] 134) := ⟨_, rfl⟩
   obtain ⟨g, hg, e0, e1, e2⟩ : ∃ g, a2 = some ⟨g, 0, none⟩ ∧ wr.cell? ⟨g, i * 3, none⟩ = some (.int .i64 y.1) ∧ wr.cell? ⟨g, i * 3 + 1, none⟩ = some (.int .i64 y.2.1) ∧ wr.cell? ⟨g, i * 3 + 2, none⟩ = some (.int .i64 y.2.2) := by
    obtain ⟨F', q1, q2, q3, q4⟩ := HR.out
    obtain ⟨g, c', e, _, _⟩ := own_some q4 (by omega)
    simp only [Value.slice.injEq, true_and] at e
    obtain ⟨rfl, rfl⟩ := e
    exact ⟨g, rfl, seat_cells q4 hy⟩
   subst hg
   have tv1 : Touch [] wr V1 := by rw [hV1]; exact (Touch.refl _ _).alloc _
   have hb1 : V1.heap[wr.heap.size]? = some (.cells #[.int .i64 y.1, .int .i64 y.2.1, .int .i64 y.2.2] 134 (0, 0)) := by rw [hV1]; exact heap_alloc_new wr _
   have f0 := cell_at (j := 0) (v := .int .i64 y.1) hb1 rfl
   have f1 := cell_at (j := 1) (v := .int .i64 y.2.1) hb1 rfl
   have f2 := cell_at (j := 2) (v := .int .i64 y.2.2) hb1 rfl
   have HCL : Hid (Calls Tryz.prog 105 #[PT s, sv y] V1 fun e w' => e = .returned (.tuple #[]) ∧ ∃ F', Sq w' s F' (outs L (ys.take (i + 1))) G N ∧ Touch F w w' ∧ Nf w F F' ∧ w'.ownsRow w.heap.size 134 3 (.slice (some ⟨g, 0, none⟩) m c2) m (ys.flatMap sc)) := hid (by
    obtain ⟨F', q1, q2, q3, q4⟩ := HR.out
    have q1' := q1.keep0 tv1
    refine (takeQ q1' (HMEM.out i y hy) (by have := HNN.out; omega)).mono ?_
    rintro e w' ⟨rfl, F2, z1, z2, z3⟩
    rw [take_snoc hy, outs_snoc]
    have z2' : Touch F' wr w' := (tv1.mono (fun _ e => by cases e)).trans' z2
    refine ⟨rfl, F2, z1, q2.trans z2' (fun z hz => (q3 z hz).imp id (fun e => e)), q3.trans (fun z hz => (z3 z hz).imp id (fun e => Nat.le_trans tv1.size e)) q2.size, own_other q4 z2' q1.own (by decide) (by decide)⟩)
   unfold PT sv at HCL
   clear hy HR tv1 hb1
   go_upto_region 5 with fail
   rw [← hV1]
   clear hV1 e0 e1 e2
   go_wp2_with (go_at_call 105; refine HCL.out.mono ?_; rintro e w3 ⟨rfl, q3⟩; have HX := hid q3; clear q3)
   go_roundw
   case rel => exact ⟨i + 1, by go_num, by omega, HX⟩
   case measure => simp [intOf]; omega
  ·have HZ : Hid (ClE (.returned (.slice a2 m c2)) w wr s F (outs L ys) G N ys) := hid (by
    obtain ⟨F', q1, q2, q3, q4⟩ := HR.out
    have e1 := HM.out
    obtain rfl : i = m := by omega
    rw [e1] at q1 q4 ⊢
    rw [List.take_length] at q1
    exact ⟨a2, c2, rfl, q4, F', q1, q2, q3⟩)
   have zi : (m : Int) ≤ (i : Int) := by omega
   clear HR hlt hi
   go_wp2
   go_ret
   exact HZ.out
theorem end_ (h : Sq w s F L G N) {n : Int} (hn : W64 n) (hN : N ≤ 4500000000000) : Calls Tryz.prog 68 #[PT s, .int .i64 n] w fun e w' => ClE e w w' s F (outL 1 n L) G N (inL 1 n L) := by
 have HC := hid (clear_ h (k := 1) (by omega) (by omega) hn hN)
 clear h
 unfold PT at *
 go_enter Tryz.func68, Tryz.ntmps68
 go_wp2_with (go_at_call 107; refine HC.out.mono ?_; rintro e w2 ⟨a2, c2, rfl, r2, t2⟩; have RR := hid (And.intro r2 t2); clear r2 t2)
 go_ret
 exact ⟨a2, c2, rfl, RR.out.1, RR.out.2⟩
end
end Go.Proofs.YtllchnancjgijaaGreat.Lv
/- The contract of Sit; no conditions but those that it states. -/
namespace Go.Proofs.YtllchnancjgijaaGreat.Lv
open Go.RowKit Go.Maps Go.ChangeMaps
section
variable {w : World} {s N : Nat} {F : List Nat} {L : List Se} {G : List Int}
set_option maxHeartbeats 4000000 in
set_option maxRecDepth 100000 in
theorem sit_ (h : Sq w s F L G N) {x : Se} (hx : Wf x) (hN : N ≤ 4400000000000) : Calls Tryz.prog 134 #[PT s, sv x] w fun e w' => e = .returned (.int .i64 (sitE L G x)) ∧ SqE w w' s F (sitL L G x) G (N + 1) := by
 obtain ⟨V, hV⟩ : ∃ V, V = w.alloc (.cells #[.int .i64 x.1, .int .i64 x.2.1, .int .i64 x.2.2] 134) := ⟨_, rfl⟩
 have tv : Touch [] w V := by rw [hV]; exact (Touch.refl _ _).alloc _
 have hvb : V.heap[w.heap.size]? = some (.cells #[.int .i64 x.1, .int .i64 x.2.1, .int .i64 x.2.2] 134 (0, 0)) := by rw [hV]; exact heap_alloc_new w _
 have h1 := h.keep0 tv
 have HB : Hid (∀ w', Touch [] V w' → w'.cell? ⟨w.heap.size, 0, none⟩ = some (.int .i64 x.1) ∧ w'.cell? ⟨w.heap.size, 1, none⟩ = some (.int .i64 x.2.1) ∧ w'.cell? ⟨w.heap.size, 2, none⟩ = some (.int .i64 x.2.2)) := hid (fun w' t => ⟨cell_at (t.keep hvb (by simp)) rfl, cell_at (t.keep hvb (by simp)) rfl, cell_at (t.keep hvb (by simp)) rfl⟩)
 obtain ⟨b0, b1, b2⟩ := HB.out V (Touch.refl _ _)
 have HSame : Hid (∀ w', Touch [] V w' → SqE w w' s F L G (N + 1)) := hid (fun w' t => SqE.same h (Nat.le_succ _) (tv.trans' t))
 have HC := hid (cancQ h1 hx.2.2)
 have HW : Hid (∀ w', Touch [] V w' → Calls Tryz.prog 87 #[PT s, .int .i64 x.1] w' fun e w2 => e = .returned (.tuple #[sv ((whr L x.1).getD zs), .bool (whr L x.1).isSome]) ∧ Touch [] w' w2) := hid (fun w' t => whereQ (h1.keep0 t) hx.1)
 have HPL : Hid (may x = true → (whr L x.1).isSome = false → ∀ w', Touch [] V w' → Calls Tryz.prog 146 #[PT s, sv x] w' fun e w2 => e = .returned (.tuple #[]) ∧ SqE w w2 s F (L ++ [x]) G (N + 1)) := hid (fun hm hw w' t => by
  refine (placeQ (h1.keep0 t) hx hm (whr_none.1 hw) (by omega)).mono ?_
  rintro e w2 ⟨rfl, q⟩
  exact ⟨rfl, SqE.from0 (tv.trans' t) q⟩)
 clear h h1 tv hvb
 unfold sitL
 cases hm : may x with
 | false =>
  have e0 : sitE L G x = 150 := by unfold sitE; rw [if_pos hm]
  rw [e0, if_neg (by decide)]
  unfold may at hm
  clear HC HW HPL
  unfold PT sv
  by_cases g0 : x.1 < 1
  ·go_enter Tryz.func134, Tryz.ntmps134
   go_upto_region 1 with fail
   rw [← hV]
   clear hV
   go_wp2
   go_ret
   exact ⟨rfl, HSame.out _ (Touch.refl _ _)⟩
  ·by_cases g1 : x.2.1 < 1
   ·go_enter Tryz.func134, Tryz.ntmps134
    go_upto_region 1 with fail
    rw [← hV]
    clear hV
    go_wp2
    go_ret
    exact ⟨rfl, HSame.out _ (Touch.refl _ _)⟩
   ·have g2 : x.2.2 < 0 := by
     simp only [Bool.and_eq_false_iff, decide_eq_false_iff_not] at hm
     omega
    clear hm
    go_enter Tryz.func134, Tryz.ntmps134
    go_upto_region 1 with fail
    rw [← hV]
    clear hV
    go_wp2
    go_ret
    exact ⟨rfl, HSame.out _ (Touch.refl _ _)⟩
 | true =>
  have HPL2 := hid (HPL.out hm)
  have hm2 := hm
  unfold may at hm2
  simp only [Bool.and_eq_true, decide_eq_true_eq] at hm2
  have g0 : ¬ x.1 < 1 := by omega
  have g1 : ¬ x.2.1 < 1 := by omega
  have g2 : ¬ x.2.2 < 0 := by omega
  clear HPL hm2
  by_cases hg : x.2.2 ∈ G
  ·have e0 : sitE L G x = 152 := by unfold sitE; rw [if_neg (by rw [hm]; decide), if_pos hg]
   rw [e0, if_neg (by decide)]
   rw [decide_eq_true hg] at HC
   clear hm HW HPL2 e0
   unfold PT sv at *
   go_enter Tryz.func134, Tryz.ntmps134
   go_upto_region 1 with fail
   rw [← hV]
   clear hV
   go_wp2_with (go_at_call 86; refine HC.out.mono ?_; rintro e w2 ⟨rfl, t2⟩; have T2 := hid t2; clear t2)
   go_ret
   exact ⟨rfl, HSame.out _ T2.out⟩
  ·rw [decide_eq_false hg] at HC
   cases hw : (whr L x.1).isSome with
   | true =>
    have e0 : sitE L G x = 151 := by unfold sitE; rw [if_neg (by rw [hm]; decide), if_neg hg, if_pos hw]
    rw [e0, if_neg (by decide)]
    rw [hw] at HW
    generalize (whr L x.1).getD zs = y at *
    clear hm HPL2 e0 hg hw
    unfold PT sv at *
    go_enter Tryz.func134, Tryz.ntmps134
    go_upto_region 1 with fail
    rw [← hV]
    clear hV
    go_wp2_with (first
     | (go_at_call 86; refine HC.out.mono ?_; rintro e w2 ⟨rfl, t2⟩; clear b0 b1 b2; obtain ⟨b0, b1, b2⟩ := HB.out _ t2; have HW2 := hid (HW.out _ t2); have T2 := hid t2; clear t2)
     | (go_at_call 87; refine HW2.out.mono ?_; rintro e w3 ⟨rfl, t3⟩; have T3 := hid (T2.out.trans' t3); clear t3))
    go_ret
    exact ⟨rfl, HSame.out _ (T3.out.alloc _)⟩
   | false =>
    have e0 : sitE L G x = 0 := by unfold sitE; rw [if_neg (by rw [hm]; decide), if_neg hg, if_neg (by rw [hw]; decide)]
    rw [e0, if_pos rfl]
    have HPL3 := hid (HPL2.out hw)
    rw [hw] at HW
    generalize (whr L x.1).getD zs = y at *
    clear hm HPL2 e0 hg hw
    unfold PT sv at *
    go_enter Tryz.func134, Tryz.ntmps134
    go_upto_region 1 with fail
    rw [← hV]
    clear hV
    go_upto_region 8 with (first
     | (go_at_call 86; refine HC.out.mono ?_; rintro e w2 ⟨rfl, t2⟩; clear b0 b1 b2; obtain ⟨b0, b1, b2⟩ := HB.out _ t2; have HW2 := hid (HW.out _ t2); have T2 := hid t2; clear t2)
     | (go_at_call 87; refine HW2.out.mono ?_; rintro e w3 ⟨rfl, t3⟩; have T3 := hid (T2.out.trans' t3); clear t3 b0 b1 b2))
    obtain ⟨V4, hV4⟩ : ∃ V4, V4 = w3.alloc (.cells #[.int .i64 y.1, .int .i64 y.2.1, .int .i64 y.2.2] 134) := ⟨_, rfl⟩
    have t4 : Touch [] V V4 := by rw [hV4]; exact T3.out.alloc _
    rw [← hV4]
    obtain ⟨b0, b1, b2⟩ := HB.out _ t4
    have HP4 := hid (HPL3.out _ t4)
    clear hV4 t4 HPL3 HW HC HW2 T2 T3 HB
    go_wp2_with (go_at_call 146; refine HP4.out.mono ?_; rintro e w5 ⟨rfl, q5⟩; have Q5 := hid q5; clear q5)
    go_ret
    exact ⟨rfl, Q5.out⟩
end
end Go.Proofs.YtllchnancjgijaaGreat.Lv
