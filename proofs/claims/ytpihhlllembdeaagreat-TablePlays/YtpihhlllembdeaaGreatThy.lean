/- Who waits, as plain lists with holes where one went; what a record is and how it changes; no program. -/
import Derived.Test.YtpihhlllembdeaaGreatRgt
namespace Go.Proofs.YtpihhlllembdeaaGreat
set_option linter.unusedVariables false
def wl (cs : List Int) : List Int := cs.filter (fun x => decide (x ≠ 0))
def plv (cs : List Int) (x : Int) : Option Value := if x ≠ 0 ∧ x ∈ cs then some (.int .i64 ((cs.idxOf x : Nat) : Int)) else none
structure Okc (cs : List Int) : Prop where
  nd : (wl cs).Nodup
  wf : ∀ x ∈ cs, W64 x
theorem wl_len (cs : List Int) : (wl cs).length ≤ cs.length := List.length_filter_le _ _
theorem mem_wl {cs : List Int} {x : Int} : x ∈ wl cs ↔ x ∈ cs ∧ x ≠ 0 := by simp [wl]
theorem wl_app (a b : List Int) : wl (a ++ b) = wl a ++ wl b := by simp [wl]
theorem wl_one {x : Int} (h : x ≠ 0) : wl [x] = [x] := by simp [wl, h]
theorem wl_cons_zero (l : List Int) : wl (0 :: l) = wl l := by simp [wl]
theorem wl_cons {x : Int} (h : x ≠ 0) (l : List Int) : wl (x :: l) = x :: wl l := by simp [wl, h]
theorem wl_wl (cs : List Int) : wl (wl cs) = wl cs := by simp [wl]
theorem plv_isSome (cs : List Int) (x : Int) : (plv cs x).isSome = decide (x ∈ wl cs) := by
  unfold plv
  by_cases h : x ≠ 0 ∧ x ∈ cs
  · rw [if_pos h]; simp [mem_wl, h.1, h.2]
  · rw [if_neg h]
    have : ¬ x ∈ wl cs := fun e => h ⟨(mem_wl.1 e).2, (mem_wl.1 e).1⟩
    simp [this]
theorem plv_none {cs : List Int} {x : Int} (h : ¬ x ∈ wl cs) : plv cs x = none := by
  have := plv_isSome cs x
  rw [show decide (x ∈ wl cs) = false by simp [h]] at this
  exact Option.not_isSome_iff_eq_none.1 (by simp [this])
theorem plv_some {cs : List Int} {x : Int} (h : x ∈ wl cs) : plv cs x = some (.int .i64 ((cs.idxOf x : Nat) : Int)) := by
  unfold plv
  rw [if_pos ⟨(mem_wl.1 h).2, (mem_wl.1 h).1⟩]
theorem plv_nil (x : Int) : plv [] x = none := by simp [plv]
theorem Okc.nil : Okc [] := ⟨by simp [wl], fun x h => by simp at h⟩
theorem Okc.put {cs : List Int} (h : Okc cs) {x : Int} (hx : W64 x) (h0 : x ≠ 0) (hn : ¬ x ∈ wl cs) : Okc (cs ++ [x]) := by
  refine ⟨?_, fun y hy => ?_⟩
  · rw [wl_app, wl_one h0]; exact nd_snoc h.nd hn
  · rcases List.mem_append.1 hy with e | e
    · exact h.wf y e
    · simp only [List.mem_singleton] at e; subst e; exact hx
theorem idx_app {a b : List Int} {x : Int} (h : x ∈ a) : (a ++ b).idxOf x = a.idxOf x := by
  rw [List.idxOf_append, if_pos h]
theorem idx_app' {a b : List Int} {x : Int} (h : ¬ x ∈ a) : (a ++ b).idxOf x = b.idxOf x + a.length := by
  rw [List.idxOf_append, if_neg h]
theorem plv_put {cs : List Int} {x : Int} (h0 : x ≠ 0) (hn : ¬ x ∈ wl cs) (k : Int) : upd (plv cs) x (.int .i64 (cs.length : Nat)) k = plv (cs ++ [x]) k := by
  have hn' : ¬ x ∈ cs := fun e => hn (mem_wl.2 ⟨e, h0⟩)
  unfold upd
  split
  · rename_i e
    subst e
    rw [plv_some (mem_wl.2 ⟨by simp, h0⟩), idx_app' hn']
    simp
  · rename_i e
    by_cases hk : k ∈ wl cs
    · rw [plv_some hk, plv_some (by rw [wl_app]; exact List.mem_append_left _ hk), idx_app (mem_wl.1 hk).1]
    · rw [plv_none hk, plv_none]
      rw [wl_app, wl_one h0]
      simp [hk, e]
/-- Where somebody stands, the list falls into two. -/
theorem cut {cs : List Int} {x : Int} (h : x ∈ cs) : ∃ a b, cs = a ++ x :: b ∧ ¬ x ∈ a ∧ cs.idxOf x = a.length := by
  obtain ⟨a, b, e, hn⟩ := List.append_of_mem h |> fun _ => List.eq_append_cons_of_mem h
  refine ⟨a, b, e, hn, ?_⟩
  rw [e, idx_app' hn]
  simp
def holeL (cs : List Int) (x : Int) : List Int := cs.set (cs.idxOf x) 0
theorem holeL_len (cs : List Int) (x : Int) : (holeL cs x).length = cs.length := by simp [holeL]
theorem holeL_cut {a b : List Int} {x : Int} (hn : ¬ x ∈ a) : holeL (a ++ x :: b) x = a ++ 0 :: b := by
  unfold holeL
  rw [idx_app' hn]
  simp
theorem wl_hole {cs : List Int} (ok : Okc cs) {x : Int} (h : x ∈ wl cs) : wl (holeL cs x) = (wl cs).filter (fun y => decide (y ≠ x)) := by
  obtain ⟨a, b, e, hn, _⟩ := cut (mem_wl.1 h).1
  have h0 := (mem_wl.1 h).2
  have nd := ok.nd
  subst e
  rw [holeL_cut hn, wl_app, wl_app, wl_cons_zero, wl_cons h0]
  rw [wl_app, wl_cons h0] at nd
  have n1 : ¬ x ∈ wl a := fun e => hn (mem_wl.1 e).1
  have n2 : ¬ x ∈ wl b := by
    have := (List.nodup_append.1 nd).2.1
    exact (List.nodup_cons.1 this).1
  have f1 : (wl a).filter (fun y => decide (y ≠ x)) = wl a := List.filter_eq_self.2 (fun y hy => by simp; intro e; subst e; exact n1 hy)
  have f2 : (wl b).filter (fun y => decide (y ≠ x)) = wl b := List.filter_eq_self.2 (fun y hy => by simp; intro e; subst e; exact n2 hy)
  rw [List.filter_append, List.filter_cons, f1, f2]
  simp
theorem plv_hole {cs : List Int} (ok : Okc cs) {x : Int} (h : x ∈ wl cs) (k : Int) : del (plv cs) x k = plv (holeL cs x) k := by
  have hw := wl_hole ok h
  obtain ⟨a, b, e, hn, _⟩ := cut (mem_wl.1 h).1
  have h0 := (mem_wl.1 h).2
  unfold del
  split
  · rename_i e
    subst e
    rw [plv_none]
    rw [hw]
    simp
  · rename_i ek
    by_cases hk : k ∈ wl cs
    · have hk0 := (mem_wl.1 hk).2
      rw [plv_some hk, plv_some (by rw [hw]; simp [hk, ek])]
      subst e
      rw [holeL_cut hn]
      by_cases ha : k ∈ a
      · rw [idx_app ha, idx_app ha]
      · rw [idx_app' ha, idx_app' ha, List.idxOf_cons, List.idxOf_cons]
        have q1 : (x == k) = false := by simp; exact fun e => ek e.symm
        have q2 : ((0 : Int) == k) = false := by simp; exact fun e => hk0 e.symm
        rw [q1, q2]
    · rw [plv_none hk, plv_none]
      rw [hw]
      simp [hk]
theorem Okc.hole {cs : List Int} (ok : Okc cs) {x : Int} (h : x ∈ wl cs) : Okc (holeL cs x) := by
  refine ⟨?_, fun y hy => ?_⟩
  · rw [wl_hole ok h]; exact ok.nd.sublist List.filter_sublist
  · unfold holeL at hy
    rcases List.mem_or_eq_of_mem_set hy with e | e
    · exact ok.wf y e
    · subst e; exact W64.mk (by omega) (by omega)
theorem Okc.close {cs : List Int} (ok : Okc cs) : Okc (wl cs) := ⟨by rw [wl_wl]; exact ok.nd, fun x hx => ok.wf x (mem_wl.1 hx).1⟩
/-- The places while the line is closed up: the first ones are told anew. -/
def clv (cs : List Int) (k : Nat) (x : Int) : Option Value := if x ∈ (wl cs).take k then some (.int .i64 (((wl cs).idxOf x : Nat) : Int)) else plv cs x
theorem clv_zero (cs : List Int) (x : Int) : clv cs 0 x = plv cs x := by simp [clv]
theorem clv_last (cs : List Int) (x : Int) : clv cs (wl cs).length x = plv (wl cs) x := by
  unfold clv
  rw [List.take_length]
  by_cases h : x ∈ wl cs
  · rw [if_pos h, plv_some (by rw [wl_wl]; exact h)]
  · rw [if_neg h, plv_none h, plv_none (by rw [wl_wl]; exact h)]
theorem idx_nd {l : List Int} (h : l.Nodup) {k : Nat} (hk : k < l.length) : l.idxOf l[k] = k := h.idxOf_getElem k hk
theorem clv_step {cs : List Int} (ok : Okc cs) {k : Nat} (hk : k < (wl cs).length) (x : Int) : upd (clv cs k) (wl cs)[k] (.int .i64 (k : Nat)) x = clv cs (k + 1) x := by
  have hm : ∀ y, y ∈ (wl cs).take (k + 1) ↔ y ∈ (wl cs).take k ∨ y = (wl cs)[k] := fun y => by
    rw [List.take_succ_eq_append_getElem hk, List.mem_append, List.mem_singleton]
  unfold upd clv
  split
  · rename_i e
    subst e
    rw [if_pos ((hm _).2 (Or.inr rfl)), idx_nd ok.nd hk]
  · rename_i e
    by_cases h : x ∈ (wl cs).take k
    · rw [if_pos h, if_pos ((hm _).2 (Or.inl h))]
    · rw [if_neg h, if_neg (fun q => ((hm _).1 q).elim h e)]
theorem clv_has (cs : List Int) (k : Nat) {x : Int} (h : x ∈ wl cs) : (clv cs k x).isSome = true := by
  unfold clv
  split
  · rfl
  · rw [plv_some h]; rfl
/-- A run; what a record is. -/
structure Rn where
  run : Int
  sp : Int
  nm : ByteArray
  gen : Int
  rf : Bool
structure St where
  who : List Int
  kept : Bool
  canc : Bool
  ended : Bool
  out : O
structure Iv (S : St) : Prop where
  en : S.ended = true → S.who = []
  no : S.ended = false → S.out = oz
  ca : S.ended = false → S.canc = true → S.who = [] ∧ S.kept = false
  pos : ∀ x ∈ S.who, W64 x ∧ 1 ≤ x
  nd : S.who.Nodup
def inter (S : St) : Int := (S.who.length : Int) + (if S.kept && !S.ended then 1 else 0)
def joinE (S : St) (x : Int) : Int := if x < 1 then 1 else if S.ended then 110 else if S.canc then 113 else if x ∈ S.who then 111 else 0
def joinS (S : St) (x : Int) : St := if joinE S x = 0 then { S with who := S.who ++ [x] } else S
def lessS (S : St) (x : Int) : St := { S with who := S.who.filter (fun y => decide (y ≠ x)) }
def leftB (S : St) : Bool := decide (inter S = 0)
def leftS (S : St) : St := { S with canc := leftB S }
def leaveE (S : St) (x : Int) : Int := if S.ended then 110 else if x ∈ S.who then 0 else 112
def leaveB (S : St) (x : Int) : Bool := if leaveE S x = 0 then leftB (lessS S x) else false
def leaveS (S : St) (x : Int) : St := if leaveE S x = 0 then leftS (lessS S x) else S
def relB (S : St) : Bool := if S.kept && !S.ended then leftB { S with kept := false } else false
def relS (S : St) : St := if S.kept && !S.ended then leftS { S with kept := false } else S
def endE (S : St) (o : O) : Int := if S.ended then 110 else if right o then 0 else 30
def endS (S : St) (o : O) : St := if endE S o = 0 then { S with who := [], ended := true, out := o } else S
def endL (S : St) (o : O) : List Int := if endE S o = 0 then S.who else []
theorem inter_zero {S : St} : inter S = 0 ↔ S.who = [] ∧ (S.kept && !S.ended) = false := by
  unfold inter
  cases h : (S.kept && !S.ended)
  · simp
  · simp; omega
theorem Iv.join {S : St} (h : Iv S) {x : Int} (hx : W64 x) : Iv (joinS S x) := by
  unfold joinS
  split
  · rename_i e
    unfold joinE at e
    repeat' (split at e <;> first | omega | skip)
    rename_i h1 h2 h3 h4
    refine ⟨fun e => absurd e h2, h.no, fun _ e => absurd e h3, fun y hy => ?_, nd_snoc h.nd h4⟩
    rcases List.mem_append.1 hy with e | e
    · exact h.pos y e
    · simp only [List.mem_singleton] at e; subst e; exact ⟨hx, by omega⟩
  · exact h
theorem Iv.left {S : St} (h : Iv S) (hc : S.ended = false) : Iv (leftS S) := by
  refine ⟨h.en, h.no, fun _ e => ?_, h.pos, h.nd⟩
  have e1 : inter S = 0 := of_decide_eq_true e
  have := inter_zero.1 e1
  rw [hc] at this
  exact ⟨this.1, by have q := this.2; simp at q; exact q⟩
theorem Iv.less {S : St} (h : Iv S) (x : Int) : Iv (lessS S x) := by
  refine ⟨fun e => ?_, h.no, fun e1 e2 => ?_, fun y hy => h.pos y (List.mem_filter.1 hy).1, h.nd.sublist List.filter_sublist⟩
  · simp only [lessS] at e ⊢; rw [h.en e]; rfl
  · simp only [lessS] at e1 e2 ⊢; rw [(h.ca e1 e2).1]; exact ⟨rfl, (h.ca e1 e2).2⟩
theorem Iv.leave {S : St} (h : Iv S) (x : Int) : Iv (leaveS S x) := by
  unfold leaveS
  split
  · rename_i e
    have : S.ended = false := by unfold leaveE at e; cases hE : S.ended <;> simp_all
    exact (h.less x).left this
  · exact h
theorem Iv.rel {S : St} (h : Iv S) : Iv (relS S) := by
  unfold relS
  split
  · rename_i e
    simp only [Bool.and_eq_true, Bool.not_eq_true'] at e
    refine Iv.left ⟨h.en, h.no, fun e1 e2 => ⟨(h.ca e1 e2).1, rfl⟩, h.pos, h.nd⟩ e.2
  · exact h
theorem Iv.end_ {S : St} (h : Iv S) (o : O) : Iv (endS S o) := by
  unfold endS
  split
  · exact ⟨fun _ => rfl, fun e => (by cases e), fun e => (by cases e), fun x hx => (by simp at hx), List.nodup_nil⟩
  · exact h
theorem join_len (S : St) (x : Int) : (joinS S x).who.length ≤ S.who.length + 1 := by unfold joinS; split <;> simp
end Go.Proofs.YtpihhlllembdeaaGreat
