/- A region that draws its order and stores into what it reads: what is read may be taken first, under a condition on the world that holds till that store has come up. No conditions. -/
import Derived.OrdersHeld
import Derived.StillTail
import Derived.Deep.RegionHeld
import Derived.Test.YtcbckehdlbbbbaaDoorMa02
import Derived.Deep.RegionHeld3
import Derived.Deep.WholeRow
import Derived.KernelRfl
import Derived.Shelf.SlSortCmp.QuietGrown
import Derived.Lib.QuietBelow
import Derived.Deep.RegionWith
import Derived.Lib.SmallJoins
import Derived.Deep.QuietTactic
import Derived.Deep.AppendLies
namespace Go.Proofs.YtcbckehdlbbbbaaDoor
set_option linter.unusedVariables false
section
variable {P : Program} {ops : Array Oper} {Q : Exit → Act → World → Prop} {md : Region.Mode} {S : World → Prop} {st : Nat}
/-- Whatever order is picked from here on, and S holds behind every operation but number st. -/
def wpL (P : Program) (md : Region.Mode) (ops : Array Oper) (Q : Exit → Act → World → Prop) (S : World → Prop) (st : Nat) : Nat → Array Bool → Act → World → Prop
  | 0, listed, a, w => Region.ready md ops listed = [] ∧ Q .normal a w
  | fuel + 1, listed, a, w =>
    (Region.ready md ops listed = [] → Q .normal a w) ∧
    ∀ i ∈ Region.ready md ops listed, wpOp P ops Q i (fun a' w' => ((listed.setIfInBounds i true).getD st true = false → S w') ∧ wpL P md ops Q S st fuel (listed.setIfInBounds i true) a' w') a w
theorem wpAny_of_wpL : ∀ (fuel : Nat) (listed : Array Bool) (a : Act) (w : World), wpL P md ops Q S st fuel listed a w → wpAny P md ops Q fuel listed a w
  | 0, _, _, _, h => h
  | fuel + 1, _, _, _, h => ⟨h.1, fun i hi => wpOp_mono (fun a' w' h' => wpAny_of_wpL fuel _ a' w' h'.2) (h.2 i hi)⟩
theorem getD_set_st {listed : Array Bool} {i st : Nat} (h : i ≠ st) : (listed.setIfInBounds i true).getD st true = listed.getD st true := getD_set_ne true h
theorem wpL_first {i : Nat} {oi : Oper} {v : Value} (hi : ops[i]? = some oi) (hsel : ∀ (j : Nat) (o : Oper) cs b, ops[j]? = some o → o.op ≠ .select cs b)
    (hQ : ∀ c a w, Q (.panic c) (a.put oi.dst v) w → Q (.panic c) a w) (hst : Region.waitsFor md ops st i = true) (hne : i ≠ st) :
    ∀ (fuel : Nat) (listed : Array Bool) (a : Act) (w : World), listed.getD st true = false →
      (∀ j oj, ops[j]? = some oj → j ≠ i → listed.getD j true = false → (∀ e ∈ oj.after, Region.binds md e = true → e.on ≠ i) → oi.apart ops oj = true) →
      i ∈ Region.ready md ops listed → YieldsIf P ops S oi v a → S w →
      wpL P md ops Q S st fuel (listed.setIfInBounds i true) (a.put oi.dst v) w → wpL P md ops Q S st (fuel + 1) listed a w := by
  intro fuel
  induction fuel with
  | zero =>
    intro listed a w _ _ hr hy hS H
    refine ⟨fun h => (by rw [h] at hr; cases hr), fun j hj => ?_⟩
    by_cases hji : j = i
    · subst hji; exact hy.wpOp hi hS ⟨fun _ => hS, H⟩
    · have := ready_mono hj hji
      rw [H.1] at this
      cases this
  | succ fuel ih =>
    intro listed a w hl hfree hr hy hS H
    refine ⟨fun h => (by rw [h] at hr; cases hr), fun j hj => ?_⟩
    by_cases hji : j = i
    · subst hji; exact hy.wpOp hi hS ⟨fun _ => hS, H⟩
    · have h1 := H.2 j (ready_mono hj hji)
      obtain ⟨hjun, oj, hoj, hall⟩ := mem_ready.1 hj
      have hnot : ∀ e ∈ oj.after, Region.binds md e = true → e.on ≠ i := fun e he hb heq => by
        have h1 := hall e he hb
        have h0 := (mem_ready.1 hr).1
        rw [heq] at h1
        rcases Nat.lt_or_ge i listed.size with h' | h'
        · simp [h'] at h0 h1; rw [h0] at h1; cases h1
        · simp [Array.getElem?_eq_none h'] at h1
      have hjst : j ≠ st := fun e => by
        obtain ⟨os, hos, e', he', hb', hon⟩ := Region.waitsFor_spec hst
        rw [← e, hoj] at hos
        cases hos
        exact hnot e' he' hb' hon
      have h2 := wpOp_putIf hoj (hfree j oj hoj hji hjun hnot) (fun cs b => hsel i oi cs b hi) (fun cs b => hsel j oj cs b hoj) hQ hy h1
      have hfree' : ∀ k ok, ops[k]? = some ok → k ≠ i → (listed.setIfInBounds j true).getD k true = false →
          (∀ e ∈ ok.after, Region.binds md e = true → e.on ≠ i) → oi.apart ops ok = true := fun k ok hk hki hun hno => by
        refine hfree k ok hk hki ?_ hno
        by_cases hjk : j = k
        · subst hjk; exact hjun
        · rw [getD_set_ne true hjk] at hun; exact hun
      have hl' : (listed.setIfInBounds j true).getD st true = false := by rw [getD_set_st hjst]; exact hl
      have hl2 : ((listed.setIfInBounds i true).setIfInBounds j true).getD st true = false := by rw [getD_set_st hjst, getD_set_st hne]; exact hl
      refine wpOp_mono (fun a' w' h3 => ⟨fun _ => h3.2.1 hl2, ih (listed.setIfInBounds j true) a' w' hl' hfree' (ready_mono hr (Ne.symm hji)) h3.1 (h3.2.1 hl2) ?_⟩) h2
      rw [Array.setIfInBounds_comm _ _ hji]
      exact h3.2.2
/-- What yields in whatever world may be taken first, wherever the store stands. -/
theorem wpL_any {i : Nat} {oi : Oper} {v : Value} (hi : ops[i]? = some oi) (hsel : ∀ (j : Nat) (o : Oper) cs b, ops[j]? = some o → o.op ≠ .select cs b)
    (hQ : ∀ c a w, Q (.panic c) (a.put oi.dst v) w → Q (.panic c) a w) (hne : i ≠ st) :
    ∀ (fuel : Nat) (listed : Array Bool) (a : Act) (w : World),
      (∀ j oj, ops[j]? = some oj → j ≠ i → listed.getD j true = false → (∀ e ∈ oj.after, Region.binds md e = true → e.on ≠ i) → oi.apart ops oj = true) →
      i ∈ Region.ready md ops listed → YieldsIf P ops (fun _ => True) oi v a → (listed.getD st true = false → S w) →
      wpL P md ops Q S st fuel (listed.setIfInBounds i true) (a.put oi.dst v) w → wpL P md ops Q S st (fuel + 1) listed a w := by
  intro fuel
  induction fuel with
  | zero =>
    intro listed a w _ hr hy hS H
    refine ⟨fun h => (by rw [h] at hr; cases hr), fun j hj => ?_⟩
    by_cases hji : j = i
    · subst hji; exact hy.wpOp hi trivial ⟨fun h => hS (by rw [← getD_set_st hne]; exact h), H⟩
    · have := ready_mono hj hji
      rw [H.1] at this
      cases this
  | succ fuel ih =>
    intro listed a w hfree hr hy hS H
    refine ⟨fun h => (by rw [h] at hr; cases hr), fun j hj => ?_⟩
    by_cases hji : j = i
    · subst hji; exact hy.wpOp hi trivial ⟨fun h => hS (by rw [← getD_set_st hne]; exact h), H⟩
    · have h1 := H.2 j (ready_mono hj hji)
      obtain ⟨hjun, oj, hoj, hall⟩ := mem_ready.1 hj
      have hnot : ∀ e ∈ oj.after, Region.binds md e = true → e.on ≠ i := fun e he hb heq => by
        have h1 := hall e he hb
        have h0 := (mem_ready.1 hr).1
        rw [heq] at h1
        rcases Nat.lt_or_ge i listed.size with h' | h'
        · simp [h'] at h0 h1; rw [h0] at h1; cases h1
        · simp [Array.getElem?_eq_none h'] at h1
      have h2 := wpOp_putIf hoj (hfree j oj hoj hji hjun hnot) (fun cs b => hsel i oi cs b hi) (fun cs b => hsel j oj cs b hoj) hQ hy h1
      have hfree' : ∀ k ok, ops[k]? = some ok → k ≠ i → (listed.setIfInBounds j true).getD k true = false →
          (∀ e ∈ ok.after, Region.binds md e = true → e.on ≠ i) → oi.apart ops ok = true := fun k ok hk hki hun hno => by
        refine hfree k ok hk hki ?_ hno
        by_cases hjk : j = k
        · subst hjk; exact hjun
        · rw [getD_set_ne true hjk] at hun; exact hun
      have hS' : ∀ {w' : World}, (((listed.setIfInBounds i true).setIfInBounds j true).getD st true = false → S w') → (listed.setIfInBounds j true).getD st true = false → S w' := fun {w'} h hh => h (by
        rw [Array.setIfInBounds_comm _ _ (Ne.symm hji), getD_set_st hne]
        exact hh)
      refine wpOp_mono (fun a' w' h3 => ⟨hS' h3.2.1, ih (listed.setIfInBounds j true) a' w' hfree' (ready_mono hr (Ne.symm hji)) h3.1 (hS' h3.2.1) ?_⟩) h2
      rw [Array.setIfInBounds_comm _ _ hji]
      exact h3.2.2
theorem wpL_take {i : Nat} {oi : Oper} {v : Value} {fuel : Nat} {listed : Array Bool} {a : Act} {w : World} (d : Option Tmp) (hi : ops[i]? = some oi) (hd : oi.dst = d)
    (hs : Region.noSelect ops = true) (hf : Region.free md ops listed i = true) (hr : (Region.ready md ops listed).contains i = true) (hst : Region.waitsFor md ops st i = true) (hl : listed.getD st true = false) (hne : i ≠ st)
    (hQ : ∀ c a w, Q (.panic c) (a.put oi.dst v) w → Q (.panic c) a w) (hy : YieldsIf P ops S oi v a) (hS : S w)
    (h : wpL P md ops Q S st fuel (listed.setIfInBounds i true) (a.put d v) w) : wpL P md ops Q S st (fuel + 1) listed a w :=
  wpL_first hi (Region.noSelect_spec hs) hQ hst hne fuel listed a w hl (Region.free_spec hi hf) (by simpa using hr) hy hS (by rw [hd]; exact h)
theorem wpL_takeY {i : Nat} {oi : Oper} {v : Value} {fuel : Nat} {listed : Array Bool} {a : Act} {w : World} (d : Option Tmp) (hi : ops[i]? = some oi) (hd : oi.dst = d)
    (hs : Region.noSelect ops = true) (hf : Region.free md ops listed i = true) (hr : (Region.ready md ops listed).contains i = true) (hne : i ≠ st)
    (hQ : ∀ c a w, Q (.panic c) (a.put oi.dst v) w → Q (.panic c) a w) (hy : YieldsIf P ops (fun _ => True) oi v a) (hS : listed.getD st true = false → S w)
    (h : wpL P md ops Q S st fuel (listed.setIfInBounds i true) (a.put d v) w) : wpL P md ops Q S st (fuel + 1) listed a w :=
  wpL_any hi (Region.noSelect_spec hs) hQ hne fuel listed a w (Region.free_spec hi hf) (by simpa using hr) hy hS (by rw [hd]; exact h)
/-- Each of the operations rs comes up next. -/
def AllL (P : Program) (md : Region.Mode) (ops : Array Oper) (Q : Exit → Act → World → Prop) (S : World → Prop) (st fuel : Nat) (listed : Array Bool) (a : Act) (w : World) (rs : List Nat) : Prop :=
  ∀ i ∈ rs, wpOp P ops Q i (fun a' w' => ((listed.setIfInBounds i true).getD st true = false → S w') ∧ wpL P md ops Q S st fuel (listed.setIfInBounds i true) a' w') a w
theorem AllL.nil {fuel : Nat} {listed : Array Bool} {a : Act} {w : World} : AllL P md ops Q S st fuel listed a w [] := fun _ h => by cases h
theorem AllL.cons {fuel : Nat} {listed : Array Bool} {a : Act} {w : World} {i : Nat} {o : Oper} {rs : List Nat} (ho : ops[i]? = some o)
    (h : ∀ K' : Act → World → Prop, Shut (∀ a w, ((listed.setIfInBounds i true).getD st true = false → S w) → wpL P md ops Q S st fuel (listed.setIfInBounds i true) a w → K' a w) → if Region.wanted o (yielded ops a.tmps) = true then Oper.wp P o a w K' Q else K' (a.put o.dst undef) w)
    (hs : AllL P md ops Q S st fuel listed a w rs) : AllL P md ops Q S st fuel listed a w (i :: rs) := fun j hj => by
  rcases List.mem_cons.1 hj with rfl | hj
  · exact wpOp_step ho (fun K' hK => h K' (fun a w hS hW => hK a w ⟨hS, hW⟩))
  · exact hs j hj
theorem wpL_ready {rs : List Nat} {fuel : Nat} {listed : Array Bool} {a : Act} {w : World} (hr : Region.ready md ops listed = rs) (hne : rs ≠ [])
    (h : AllL P md ops Q S st fuel listed a w rs) : wpL P md ops Q S st (fuel + 1) listed a w := ⟨fun h0 => absurd (hr ▸ h0) hne, hr ▸ h⟩
theorem wpL_done {listed : Array Bool} {a : Act} {w : World} (hr : Region.ready md ops listed = []) (h : Q .normal a w) : ∀ fuel, wpL P md ops Q S st fuel listed a w
  | 0 => ⟨hr, h⟩
  | _ + 1 => ⟨fun _ => h, by rw [hr]; simp⟩
theorem wp_region_L {id : Nat} {a : Act} {w : World} (hm : P.follows .mixedOrders = true)
    (h : wpL P .any ops Q S st ops.size (Array.replicate ops.size false) a w.drew) : (Code.region id ops true).wp P Q a w :=
  wp_region_any hm (wpAny_of_wpL _ _ _ _ h)
end
end Go.Proofs.YtcbckehdlbbbbaaDoor
/- A region that draws its order and stores nothing: what is read may be taken first, under a condition on the world that every call keeps. No conditions. -/
namespace Go.Proofs.YtcbckehdlbbbbaaDoor
set_option linter.unusedVariables false
section
variable {P : Program} {ops : Array Oper} {Q : Exit → Act → World → Prop} {md : Region.Mode} {S : World → Prop}
theorem wpH_take {i : Nat} {oi : Oper} {v : Value} {fuel : Nat} {listed : Array Bool} {a : Act} {w : World} (d : Option Tmp) (hi : ops[i]? = some oi) (hd : oi.dst = d)
    (hs : Region.noSelect ops = true) (hf : Region.free md ops listed i = true) (hr : (Region.ready md ops listed).contains i = true)
    (hQ : ∀ c a w, Q (.panic c) (a.put oi.dst v) w → Q (.panic c) a w) (hy : YieldsIf P ops S oi v a) (hS : S w)
    (h : wpAnyH P md ops Q S fuel (listed.setIfInBounds i true) (a.put d v) w) : wpAnyH P md ops Q S (fuel + 1) listed a w :=
  wpAnyH_take hi hs hf hr hQ hy hS (by rw [hd]; exact h)
theorem wpH_call {i : Nat} {o : Oper} {fuel : Nat} {listed : Array Bool} {a : Act} {w : World} (hr : Region.ready md ops listed = [i]) (ho : ops[i]? = some o)
    (h : ∀ K' : Act → World → Prop, Shut (∀ a w, S w → wpAnyH P md ops Q S fuel (listed.setIfInBounds i true) a w → K' a w) → if Region.wanted o (yielded ops a.tmps) = true then Oper.wp P o a w K' Q else K' (a.put o.dst undef) w) : wpAnyH P md ops Q S (fuel + 1) listed a w :=
  wpAnyH_all hr (by simp) (fun j hj => by
    simp only [List.mem_singleton] at hj
    subst hj
    exact wpOp_step ho (fun K' hK => h K' (fun a w hS hW => hK a w ⟨hS, hW⟩)))
theorem wp_region_H {id : Nat} {a : Act} {w : World} (hm : P.follows .mixedOrders = true)
    (h : wpAnyH P .any ops Q S ops.size (Array.replicate ops.size false) a w.drew) : (Code.region id ops true).wp P Q a w := wp_region_held hm h
end
end Go.Proofs.YtcbckehdlbbbbaaDoor
/- A drawn region whose effects may come in several orders: each order that is ready. -/
namespace Go.Proofs.YtcbckehdlbbbbaaDoor
open Go.RowKit Go.Maps Go.ChangeMaps
set_option linter.unusedVariables false
section
variable {P : Program} {ops : Array Oper} {Q : Exit → Go.Act → World → Prop} {md : Region.Mode} {S : World → Prop}
def AllH (P : Program) (md : Region.Mode) (ops : Array Oper) (Q : Exit → Go.Act → World → Prop) (S : World → Prop) (fuel : Nat) (listed : Array Bool) (a : Go.Act) (w : World) (rs : List Nat) : Prop :=
  ∀ i ∈ rs, wpOp P ops Q i (fun a' w' => S w' ∧ wpAnyH P md ops Q S fuel (listed.setIfInBounds i true) a' w') a w
theorem AllH.nil {fuel : Nat} {listed : Array Bool} {a : Go.Act} {w : World} : AllH P md ops Q S fuel listed a w [] := fun _ h => by cases h
theorem AllH.cons {fuel : Nat} {listed : Array Bool} {a : Go.Act} {w : World} {i : Nat} {o : Oper} {rs : List Nat} (ho : ops[i]? = some o)
    (h : ∀ K' : Go.Act → World → Prop, Shut (∀ a w, S w → wpAnyH P md ops Q S fuel (listed.setIfInBounds i true) a w → K' a w) → if Region.wanted o (yielded ops a.tmps) = true then Oper.wp P o a w K' Q else K' (a.put o.dst undef) w)
    (hs : AllH P md ops Q S fuel listed a w rs) : AllH P md ops Q S fuel listed a w (i :: rs) := fun j hj => by
  rcases List.mem_cons.1 hj with rfl | hj
  · exact wpOp_step ho (fun K' hK => h K' (fun a w hS hW => hK a w ⟨hS, hW⟩))
  · exact hs j hj
theorem wpH_ready {rs : List Nat} {fuel : Nat} {listed : Array Bool} {a : Go.Act} {w : World} (hr : Region.ready md ops listed = rs) (hne : rs ≠ [])
    (h : AllH P md ops Q S fuel listed a w rs) : wpAnyH P md ops Q S (fuel + 1) listed a w := wpAnyH_all hr hne h
end
end Go.Proofs.YtcbckehdlbbbbaaDoor
/- The recipe of the item that a load is at ends: the program's end; the conditions are those that it states. -/
namespace Go.Proofs.YtcbckehdlbbbbaaDoor
open Go.RowKit Go.Maps Go.ChangeMaps
set_option linter.unusedVariables false
set_option linter.unusedSimpArgs false
theorem sl5 (W : World) (g off n c i : Nat) (hi : i ≤ n) : (Instr.slice 22 (.slice (some ⟨g, off, none⟩) n c) (some (.int .i64 (i : Int))) none none).run Tryd.prog W = .ok (.slice (some (if c = i then ⟨g, off, none⟩ else ⟨g, off + i * 5, none⟩)) (n - i) (c - i)) W := by
  rw [run_slice_l W 22 (some ⟨g, off, none⟩) n c (by kernel_rfl) .i64 (i : Int) (by omega) (by omega), show ((i : Int)).toNat = i by omega]
  go_simp
  split <;> simp [Addr.add]
/-- what is told of an end -/
def endW (S : Ld) (what : Int) (o : Oc) : Int := if o.2.1 = 2 then 6 else if S.left.tail = [] then 6 else what
section
variable {w : World} {b r : Nat} {S : Ld} {vr vl : Value}
/-- the item that it is at is left behind -/
theorem Lq.next (h : Lq w b r S vr vl) {l : List Ip} {vl' : Value} (hl : Lf w b r vl' l) :
    Lq (((((w.setCell ⟨b, 2, none⟩ vl').setCell ⟨b, 3, none⟩ (.int .i64 0)).setCell ⟨b, 4, none⟩ (.int .i64 0)).setCell ⟨b, 5, none⟩ (.int .i64 0)).setCell ⟨b, 6, none⟩ (.int .i64 0)) b r ⟨S.num, S.res, l, 0, 0, 0, 0, S.tm⟩ vr vl'
    ∧ Touch [b] w (((((w.setCell ⟨b, 2, none⟩ vl').setCell ⟨b, 3, none⟩ (.int .i64 0)).setCell ⟨b, 4, none⟩ (.int .i64 0)).setCell ⟨b, 5, none⟩ (.int .i64 0)).setCell ⟨b, 6, none⟩ (.int .i64 0)) := by
  have T : Touch [b] w (((((w.setCell ⟨b, 2, none⟩ vl').setCell ⟨b, 3, none⟩ (.int .i64 0)).setCell ⟨b, 4, none⟩ (.int .i64 0)).setCell ⟨b, 5, none⟩ (.int .i64 0)).setCell ⟨b, 6, none⟩ (.int .i64 0)) := (((((Touch.refl _ _).setCell (Or.inl (by simp)) _).setCell (Or.inl (by simp)) _).setCell (Or.inl (by simp)) _).setCell (Or.inl (by simp)) _).setCell (Or.inl (by simp)) _
  refine ⟨⟨?_, own_touch h.row T (fun q hq e' => ?_), h.vr, hl.keep T (fun k hk => Or.inr (by simp only [List.mem_singleton] at hk; omega)), h.rb⟩, T⟩
  · have := bset (i := 6) (bset (i := 5) (bset (i := 4) (bset (i := 3) (bset (i := 2) h.bl vl') (.int .i64 0)) (.int .i64 0)) (.int .i64 0)) (.int .i64 0)
    simpa [lc] using this
  · obtain ⟨c, e⟩ := h.vr
    rw [e] at hq
    simp only [Value.ownBlock, Option.some.injEq] at hq
    subst hq
    have := h.rb
    simp at e'
    omega
/-- how a load stands behind an end, told by its kind -/
theorem end_two {o : Oc} (e : o.2.1 = 2) (i : Nat) : (⟨S.num, allO (putO S.res i o) o, [], 0, 0, 0, 0, S.tm⟩ : Ld) = endS S o := by
  unfold endS
  rw [if_pos e]
  have : allO (putO S.res i o) o = allO S.res o := by
    have h1 : ∀ l : List Rz, allO l o = (l.map (·.1)).map (fun z => (z, o)) := fun l => by simp [allO]
    rw [h1, h1, putO_fst]
  rw [this]
theorem end_else {o : Oc} (e : ¬ o.2.1 = 2) : (⟨S.num, putO S.res S.at_ o, S.left.tail, 0, 0, 0, 0, S.tm⟩ : Ld) = endS S o := by
  unfold endS
  rw [if_neg e]
/-- the last stores of an end -/
def fin4 (w : World) (g : Nat) (x0 x1 : Int) : World := (((w.setCell ⟨g, 0, none⟩ (.int .i64 x0)).setCell ⟨g, 1, none⟩ (.int .i64 x1)).setCell ⟨g, 2, none⟩ (.int .i64 0)).setCell ⟨g, 3, none⟩ (.int .i64 0)
theorem touch_fin4 (w : World) (g : Nat) (x0 x1 : Int) : Touch [g] w (fin4 w g x0 x1) := by
  unfold fin4
  exact ((((Touch.refl _ _).setCell (Or.inl (by simp)) _).setCell (Or.inl (by simp)) _).setCell (Or.inl (by simp)) _).setCell (Or.inl (by simp)) _
theorem fin_on {V w5 : World} (tv : Touch [] w V) (T5 : Touch [b, r] V w5) (hq : Lq w5 b r S vr vl) (hb : b < w.heap.size) (x0 x1 : Int) : Lq (fin4 w5 (w.heap.size + 1) x0 x1) b r S vr vl ∧ Touch [b, r] w (fin4 w5 (w.heap.size + 1) x0 x1) := by
  have T := touch_fin4 w5 (w.heap.size + 1) x0 x1
  exact ⟨hq.keep T (fun k hk => by simp at hk; omega), ((tv.mono (fun _ e => by cases e)).trans' T5).trans T (fun k hk => Or.inr (by simp at hk; omega))⟩
theorem fin_over {V w5 : World} (tv : Touch [] w V) (T5 : Touch [b, r] V w5) (hq : Lq w5 b r S vr vl) (e : S.left = []) (hb : b < w.heap.size) (x0 x1 : Int) : Lq (fin4 ((w5.setCell ⟨w.heap.size + 1 + 1, 0, none⟩ (.int .i64 6)).setCell ⟨b, 2, none⟩ (.slice none 0 0)) (w.heap.size + 1) x0 x1) b r S vr (.slice none 0 0) ∧ Touch [b, r] w (fin4 ((w5.setCell ⟨w.heap.size + 1 + 1, 0, none⟩ (.int .i64 6)).setCell ⟨b, 2, none⟩ (.slice none 0 0)) (w.heap.size + 1) x0 x1) := by
  have T1 : Touch [w.heap.size + 1 + 1] w5 (w5.setCell ⟨w.heap.size + 1 + 1, 0, none⟩ (.int .i64 6)) := (Touch.refl _ _).setCell (Or.inl (by simp)) _
  have h1 := hq.keep T1 (fun k hk => by simp at hk; omega)
  obtain ⟨h2, T2⟩ := h1.nil
  have e2 : (⟨S.num, S.res, [], S.p, S.n, S.wt, S.on, S.tm⟩ : Ld) = S := by rw [← e]
  rw [e2] at h2
  have x1' : Touch [b, r] w (w5.setCell ⟨w.heap.size + 1 + 1, 0, none⟩ (.int .i64 6)) := ((tv.mono (fun _ e => by cases e)).trans' T5).trans T1 (fun k hk => Or.inr (by simp at hk; omega))
  have x2 := x1'.trans T2 (fun k hk => Or.inl (by simp at hk; simp [hk]))
  have T := touch_fin4 ((w5.setCell ⟨w.heap.size + 1 + 1, 0, none⟩ (.int .i64 6)).setCell ⟨b, 2, none⟩ (.slice none 0 0)) (w.heap.size + 1) x0 x1
  exact ⟨h2.keep T (fun k hk => by simp at hk; omega), x2.trans T (fun k hk => Or.inr (by simp at hk; omega))⟩
set_option maxHeartbeats 8000000 in
set_option maxRecDepth 100000 in
theorem end_ (h : Lq w b r S vr vl) (hi : Iv S) {q : Ip} {l : List Ip} (e : S.left = q :: l) (what : Int) (o : Oc) : Calls Tryd.prog 30 #[.pointer (some ⟨b, 0, none⟩), .int .i64 what, .agg #[.int .i64 o.1, .int .i64 o.2.1, .int .i64 o.2.2.1, .int .i64 o.2.2.2]] w fun e w' => e = .returned (.agg #[.int .i64 (endW S what o), .int .i64 q.1.run, .int .i64 0, .int .i64 0]) ∧ ∃ vl', Lq w' b r (endS S o) vr vl' ∧ Touch [b, r] w w' := by
  obtain ⟨cr, rfl⟩ := h.vr
  obtain ⟨al, cl, rfl, hcl⟩ := h.vform
  obtain ⟨g, off, rfl, hA⟩ := Its.item (i := 0) h.lf.its (by rw [e]; simp)
  have hq : S.left[0]'(by rw [e]; simp) = q := by simp [e]
  rw [hq] at hA
  simp only [Nat.zero_mul, Nat.add_zero] at hA
  have hat := hi.at_lt e
  have hll : S.left.length = l.length + 1 := by rw [e]; simp
  have hrb := h.rb
  have hbw : b < w.heap.size := block_lt h.bl
  obtain ⟨V, hV⟩ : ∃ V, V = ((w.alloc (.cells #[.int .i64 o.1, .int .i64 o.2.1, .int .i64 o.2.2.1, .int .i64 o.2.2.2] 51)).alloc (.cells #[.int .i64 0, .int .i64 0, .int .i64 0, .int .i64 0] 43)).alloc (.cells #[.int .i64 what, .int .i64 q.1.run, .int .i64 0, .int .i64 0] 43) := ⟨_, rfl⟩
  have tv : Touch [] w V := by rw [hV]; exact (((Touch.refl _ _).alloc _).alloc _).alloc _
  have hb0 : V.heap[w.heap.size]? = some (.cells #[.int .i64 o.1, .int .i64 o.2.1, .int .i64 o.2.2.1, .int .i64 o.2.2.2] 51 (0, 0)) := by rw [hV]; exact (((Touch.refl [] _).alloc _).alloc _).keep (heap_alloc_new w _) (by simp)
  have hb1 : V.heap[w.heap.size + 1]? = some (.cells #[.int .i64 0, .int .i64 0, .int .i64 0, .int .i64 0] 43 (0, 0)) := by
    rw [hV]
    have := heap_alloc_new (w.alloc (.cells #[.int .i64 o.1, .int .i64 o.2.1, .int .i64 o.2.2.1, .int .i64 o.2.2.2] 51)) (.cells #[.int .i64 0, .int .i64 0, .int .i64 0, .int .i64 0] 43)
    rw [World.size_alloc] at this
    exact ((Touch.refl [] _).alloc _).keep this (by simp)
  have hb2 : V.heap[w.heap.size + 1 + 1]? = some (.cells #[.int .i64 what, .int .i64 q.1.run, .int .i64 0, .int .i64 0] 43 (0, 0)) := by
    rw [hV]
    have := heap_alloc_new ((w.alloc (.cells #[.int .i64 o.1, .int .i64 o.2.1, .int .i64 o.2.2.1, .int .i64 o.2.2.2] 51)).alloc (.cells #[.int .i64 0, .int .i64 0, .int .i64 0, .int .i64 0] 43)) (.cells #[.int .i64 what, .int .i64 q.1.run, .int .i64 0, .int .i64 0] 43)
    rw [World.size_alloc, World.size_alloc] at this
    exact this
  have hvq := h.keep0 tv
  have HA : Hid (∀ w', Touch [] V w' → Calls Tryd.prog 17 #[.pointer (some ⟨b, 0, none⟩)] w' fun e w2 => e = .returned (.int .i64 (S.at_ : Nat)) ∧ Touch [] V w2) := hid (fun w' T => by
    refine (at_ok (hvq.keep0 T) hi).mono ?_
    rintro e w2 ⟨rfl, g⟩
    exact ⟨rfl, T.trans' g⟩)
  have HZ : Hid (∀ w', Touch [] V w' → (∃ x0 x1 x2 x3 : Int, w'.cell? ⟨r, S.at_ * 5 + 1, none⟩ = some (.int .i64 x0) ∧ w'.cell? ⟨r, S.at_ * 5 + 2, none⟩ = some (.int .i64 x1) ∧ w'.cell? ⟨r, S.at_ * 5 + 3, none⟩ = some (.int .i64 x2) ∧ w'.cell? ⟨r, S.at_ * 5 + 4, none⟩ = some (.int .i64 x3)) ∧ ∀ i, w'.frozen? ⟨r, i, none⟩ = false) := hid (fun w' T => by
    have hq' := hvq.keep0 T
    obtain ⟨z0, z1, z2, z3, z4⟩ := Lq.res hq' (List.getElem?_eq_getElem hat)
    exact ⟨⟨_, _, _, _, z1, z2, z3, z4⟩, own_frozen hq'.row⟩)
  have m1 : ∀ w', Touch [] V w' → w'.cell? ⟨b, 1, none⟩ = some (.slice (some ⟨r, 0, none⟩) S.res.length cr) := fun w' T => cell_at (hvq.keep0 T).bl rfl
  have p0 : ∀ w', Touch [] V w' → w'.cell? ⟨w.heap.size, 0, none⟩ = some (.int .i64 o.1) := fun w' T => cell_at (T.keep hb0 (by simp)) rfl
  have p1 : ∀ w', Touch [] V w' → w'.cell? ⟨w.heap.size, 1, none⟩ = some (.int .i64 o.2.1) := fun w' T => cell_at (T.keep hb0 (by simp)) rfl
  have p2 : ∀ w', Touch [] V w' → w'.cell? ⟨w.heap.size, 2, none⟩ = some (.int .i64 o.2.2.1) := fun w' T => cell_at (T.keep hb0 (by simp)) rfl
  have p3 : ∀ w', Touch [] V w' → w'.cell? ⟨w.heap.size, 3, none⟩ = some (.int .i64 o.2.2.2) := fun w' T => cell_at (T.keep hb0 (by simp)) rfl
  have hS0 : Touch [] V V.drew := (Touch.refl _ _).drew
  have HW3 : Hid (∀ Y1, Touch [] V Y1 → Lq (wrO Y1 r (S.at_ * 5 + 1) o) b r (S.with_ (putO S.res S.at_ o)) (.slice (some ⟨r, 0, none⟩) S.res.length cr) (.slice (some ⟨g, off, none⟩) S.left.length cl) ∧ Touch [r] V (wrO Y1 r (S.at_ * 5 + 1) o)) := hid (fun Y1 T => ⟨(hvq.keep0 T).put hat o, (T.mono (fun _ e => by cases e)).trans' (touch_wrO _ _ _ _)⟩)
  have y0 := hA.c0
  have c2 : w.cell? ⟨b, 2, none⟩ = some (.slice (some ⟨g, off, none⟩) S.left.length cl) := cell_at h.bl rfl
  have hzl : (0 : Int) < (S.left.length : Int) := by rw [hll]; omega
  have hgw : g < w.heap.size := cell_lt' y0
  have HAT : Hid (((S.at_ : Nat) : Int) < (S.res.length : Int)) := hid (by omega)
  have HSL := hid (fun W => sl5 W g off S.left.length cl 1 (by omega))
  have HB : Hid (∀ w', Touch [b, r] V w' → w'.heap[w.heap.size]? = some (.cells #[.int .i64 o.1, .int .i64 o.2.1, .int .i64 o.2.2.1, .int .i64 o.2.2.2] 51 (0, 0)) ∧ w'.heap[w.heap.size + 1]? = some (.cells #[.int .i64 0, .int .i64 0, .int .i64 0, .int .i64 0] 43 (0, 0)) ∧ w'.heap[w.heap.size + 1 + 1]? = some (.cells #[.int .i64 what, .int .i64 q.1.run, .int .i64 0, .int .i64 0] 43 (0, 0))) := hid (fun w' T => ⟨T.keep hb0 (by simp; omega), T.keep hb1 (by simp; omega), T.keep hb2 (by simp; omega)⟩)
  have HX : Hid (∀ W4, Lq W4 b r (S.with_ (putO S.res S.at_ o)) (.slice (some ⟨r, 0, none⟩) S.res.length cr) (.slice (some ⟨g, off, none⟩) S.left.length cl) → Lf W4 b r (.slice (some (if cl = 1 then ⟨g, off, none⟩ else ⟨g, off + 1 * 5, none⟩)) l.length (cl - 1)) l) := hid (fun W4 hq4 => by
    have x : Lf W4 b r (.slice (some ⟨g, off, none⟩) (l.length + 1) cl) (q :: l) := by
      have := hq4.lf
      show Lf W4 b r _ _
      rw [← e, ← hll]
      exact this
    exact x.tail)
  have HTV := hid tv
  have HBIG := hid hi.big
  have HRB := hid (And.intro hrb (And.intro hbw (And.intro e hll)))
  clear h hA hvq hb0 hb1 hb2 hi hcl hat tv hq e hll hrb
  go_enter Tryd.func30, Tryd.ntmps30
  go_upto_region 2 with fail
  rw [← hV]
  clear hV y0 c2
  obtain ⟨n, hn⟩ : ∃ n, n = S.res.length := ⟨_, rfl⟩
  obtain ⟨k, hk⟩ : ∃ k, k = S.at_ := ⟨_, rfl⟩
  have hkn : (k : Int) < (n : Int) := by rw [hk, hn]; exact HAT.out
  rw [← hk] at HA HZ
  rw [← hn] at m1
  have HKN := hid (And.intro hn hk)
  clear hn hk
  refine wp_region_L (S := fun w' => Touch [] V w') (st := 9) (by kernel_rfl) ?_
  refine wpL_take (i := 0) (v := (.pointer (some ⟨b, 0, none⟩))) (some 17) rfl rfl (by kernel_rfl) (by kernel_rfl) (by kernel_rfl) (by kernel_rfl) (by kernel_rfl) (by decide) (fun _ _ _ h => h) (Or.inl ⟨by rfl, fun w' hS => (by go_simp)⟩) hS0 ?_
  try simp only [Go.Act.put, List.setIfInBounds_toArray, List.set_cons_zero, List.set_cons_succ]
  refine wpL_take (i := 1) (v := (.pointer (some ⟨b, 0, none⟩))) (some 18) rfl rfl (by kernel_rfl) (by kernel_rfl) (by kernel_rfl) (by kernel_rfl) (by kernel_rfl) (by decide) (fun _ _ _ h => h) (Or.inl ⟨by rfl, fun w' hS => (by go_simp)⟩) hS0 ?_
  try simp only [Go.Act.put, List.setIfInBounds_toArray, List.set_cons_zero, List.set_cons_succ]
  refine wpL_take (i := 2) (v := (.pointer (some ⟨b, 1, none⟩))) (some 19) rfl rfl (by kernel_rfl) (by kernel_rfl) (by kernel_rfl) (by kernel_rfl) (by kernel_rfl) (by decide) (fun _ _ _ h => h) (Or.inl ⟨by rfl, fun w' hS => (by go_simp)⟩) hS0 ?_
  try simp only [Go.Act.put, List.setIfInBounds_toArray, List.set_cons_zero, List.set_cons_succ]
  refine wpL_take (i := 3) (v := (.slice (some ⟨r, 0, none⟩) n cr)) (some 20) rfl rfl (by kernel_rfl) (by kernel_rfl) (by kernel_rfl) (by kernel_rfl) (by kernel_rfl) (by decide) (fun _ _ _ h => h) (Or.inl ⟨by rfl, fun w' hS => (by have z0 := m1 _ hS; go_simp)⟩) hS0 ?_
  try simp only [Go.Act.put, List.setIfInBounds_toArray, List.set_cons_zero, List.set_cons_succ]
  refine wpL_take (i := 4) (v := (.pointer (some ⟨b, 0, none⟩))) (some 21) rfl rfl (by kernel_rfl) (by kernel_rfl) (by kernel_rfl) (by kernel_rfl) (by kernel_rfl) (by decide) (fun _ _ _ h => h) (Or.inl ⟨by rfl, fun w' hS => (by go_simp)⟩) hS0 ?_
  try simp only [Go.Act.put, List.setIfInBounds_toArray, List.set_cons_zero, List.set_cons_succ]
  refine wpL_take (i := 6) (v := (.agg #[.int .i64 o.1, .int .i64 o.2.1, .int .i64 o.2.2.1, .int .i64 o.2.2.2])) (some 23) rfl rfl (by kernel_rfl) (by kernel_rfl) (by kernel_rfl) (by kernel_rfl) (by kernel_rfl) (by decide) (fun _ _ _ h => h) (Or.inl ⟨by rfl, fun w' hS => (by have z0 := p0 _ hS; have z1 := p1 _ hS; have z2 := p2 _ hS; have z3 := p3 _ hS; go_simp)⟩) hS0 ?_
  try simp only [Go.Act.put, List.setIfInBounds_toArray, List.set_cons_zero, List.set_cons_succ]
  refine wpL_ready (rs := [5]) (by kernel_rfl) (by simp) (AllL.cons (o := { dst := some 22, op := Op.call { callee := Callee.value (Operand.func 17), args := #[Operand.tmp 21], argTypes := #[23] }, type := 3, pos := _, after := #[{ on := 4, ground := Ground.data }], guard := none }) rfl (fun K' hK => ?_) AllL.nil)
  rw [if_pos (by rfl)]
  go_simp
  refine (HA.out _ hS0).mono ?_
  rintro e' Y1 ⟨rfl, gY1⟩
  have hY1 : Touch [] V Y1 := gY1
  obtain ⟨⟨x0, x1, x2, x3, z1, z2, z3, z4⟩, zf⟩ := HZ.out _ hY1
  refine hK.out _ _ (fun _ => hY1) ?_
  clear hK
  try simp only [Go.Act.put, List.setIfInBounds_toArray, List.set_cons_zero, List.set_cons_succ]
  refine wpL_takeY (i := 7) (v := (.pointer (some ⟨r, k * 5, none⟩))) (some 24) rfl rfl (by kernel_rfl) (by kernel_rfl) (by kernel_rfl) (by decide) (fun _ _ _ h => h) (Or.inl ⟨by rfl, fun w' hS => (by go_simp)⟩) (fun _ => hY1) ?_
  try simp only [Go.Act.put, List.setIfInBounds_toArray, List.set_cons_zero, List.set_cons_succ]
  refine wpL_take (i := 8) (v := (.pointer (some ⟨r, k * 5 + 1, none⟩))) (some 25) rfl rfl (by kernel_rfl) (by kernel_rfl) (by kernel_rfl) (by kernel_rfl) (by kernel_rfl) (by decide) (fun _ _ _ h => h) (Or.inl ⟨by rfl, fun w' hS => (by go_simp)⟩) hY1 ?_
  try simp only [Go.Act.put, List.setIfInBounds_toArray, List.set_cons_zero, List.set_cons_succ]
  refine wpL_ready (rs := [9]) (by kernel_rfl) (by simp) (AllL.cons (o := { dst := none, op := Op.store 51 (Operand.tmp 25) (Operand.tmp 23), type := 0, pos := _, after := #[{ on := 8, ground := Ground.data }, { on := 6, ground := Ground.data }, { on := 5, ground := Ground.chain }, { on := 0, ground := Ground.phase }, { on := 1, ground := Ground.phase }, { on := 2, ground := Ground.phase }, { on := 3, ground := Ground.phase }, { on := 4, ground := Ground.phase }, { on := 5, ground := Ground.phase }, { on := 6, ground := Ground.phase }], guard := none }) rfl (fun K' hK => ?_) AllL.nil)
  rw [if_pos (by rfl)]
  go_simp
  refine hK.out _ _ (fun h => absurd h (by decide)) ?_
  clear hK
  try simp only [Go.Act.put, List.setIfInBounds_toArray, List.set_cons_zero, List.set_cons_succ]
  refine wpL_done (by kernel_rfl) ?_ _
  have HY := hid hY1
  clear hS0 hY1 z1 z2 z3 z4 zf m1 p0 p1 p2 p3
  have HQ3 : Hid (Lq (wrO Y1 r (k * 5 + 1) o) b r (S.with_ (putO S.res S.at_ o)) (.slice (some ⟨r, 0, none⟩) S.res.length cr) (.slice (some ⟨g, off, none⟩) S.left.length cl) ∧ Touch [r] V (wrO Y1 r (k * 5 + 1) o)) := hid (by rw [HKN.out.2]; exact HW3.out Y1 HY.out)
  unfold wrO at HQ3
  obtain ⟨W3, hW3⟩ : ∃ W3, W3 = (((Y1.setCell ⟨r, k * 5 + 1, none⟩ (.int .i64 o.1)).setCell ⟨r, k * 5 + 1 + 1, none⟩ (.int .i64 o.2.1)).setCell ⟨r, k * 5 + 1 + 2, none⟩ (.int .i64 o.2.2.1)).setCell ⟨r, k * 5 + 1 + 3, none⟩ (.int .i64 o.2.2.2) := ⟨_, rfl⟩
  rw [← hW3] at HQ3 ⊢
  clear hW3 HY HA HZ HW3 hkn
  obtain ⟨av, hav⟩ : ∃ av : Addr, av = if cl = 1 then ⟨g, off, none⟩ else ⟨g, off + 1 * 5, none⟩ := ⟨_, rfl⟩
  have HSL2 : ∀ W, (Instr.slice 22 (.slice (some ⟨g, off, none⟩) S.left.length cl) (some (.int .i64 1)) none none).run Tryd.prog W = .ok (.slice (some av) l.length (cl - 1)) W := fun W => by
    have := HSL.out W
    rw [HRB.out.2.2.2, Nat.add_sub_cancel, ← hav] at this
    rw [HRB.out.2.2.2]
    exact this
  have HLF := HX.out W3 HQ3.out.1
  rw [← hav] at HLF
  clear hav HSL HX
  have HQ4 := hid (Lq.next HQ3.out.1 HLF)
  have HT3 := hid HQ3.out.2
  have b2 := cell_at (j := 2) (v := .slice (some ⟨g, off, none⟩) S.left.length cl) HQ3.out.1.bl rfl
  have b3 := cell_at (j := 3) (v := .int .i64 S.p) HQ3.out.1.bl rfl
  have b4 := cell_at (j := 4) (v := .int .i64 S.n) HQ3.out.1.bl rfl
  have b5 := cell_at (j := 5) (v := .int .i64 S.wt) HQ3.out.1.bl rfl
  have b6 := cell_at (j := 6) (v := .int .i64 S.on) HQ3.out.1.bl rfl
  have bf := froz_at HQ3.out.1.bl
  have bl := block_lt HQ3.out.1.bl
  clear HLF HQ3
  go_upto_region 4 with fail
  obtain ⟨W4, hW4⟩ : ∃ W4, W4 = ((((W3.setCell ⟨b, 2, none⟩ (.slice (some av) l.length (cl - 1))).setCell ⟨b, 3, none⟩ (.int .i64 0)).setCell ⟨b, 4, none⟩ (.int .i64 0)).setCell ⟨b, 5, none⟩ (.int .i64 0)).setCell ⟨b, 6, none⟩ (.int .i64 0) := ⟨_, rfl⟩
  rw [← hW4] at HQ4 ⊢
  clear hW4 b2 b3 b4 b5 b6 bf bl HSL2
  have HT4 : Hid (Touch [b, r] V W4) := hid ((HT3.out.mono (fun k hk => by simp at hk; simp [hk])).trans HQ4.out.2 (fun k hk => Or.inl (by simp at hk; simp [hk])))
  obtain ⟨i0, i1, i2⟩ := HB.out W4 HT4.out
  have q1 := cell_at (j := 1) (v := .int .i64 o.2.1) i0 rfl
  have q0 := cell_at (j := 0) (v := .int .i64 o.1) i0 rfl
  have q2 := cell_at (j := 2) (v := .int .i64 o.2.2.1) i0 rfl
  have q3 := cell_at (j := 3) (v := .int .i64 o.2.2.2) i0 rfl
  have HFX : Hid (∀ w5, Touch [b, r] V w5 → (w5.cell? ⟨w.heap.size + 1 + 1, 0, none⟩ = some (.int .i64 what) ∧ w5.cell? ⟨w.heap.size + 1 + 1, 1, none⟩ = some (.int .i64 q.1.run) ∧ w5.cell? ⟨w.heap.size + 1 + 1, 2, none⟩ = some (.int .i64 0) ∧ w5.cell? ⟨w.heap.size + 1 + 1, 3, none⟩ = some (.int .i64 0)) ∧ (w5.cell? ⟨w.heap.size + 1, 0, none⟩ = some (.int .i64 0) ∧ w5.cell? ⟨w.heap.size + 1, 1, none⟩ = some (.int .i64 0) ∧ w5.cell? ⟨w.heap.size + 1, 2, none⟩ = some (.int .i64 0) ∧ w5.cell? ⟨w.heap.size + 1, 3, none⟩ = some (.int .i64 0)) ∧ (∀ i, w5.frozen? ⟨w.heap.size + 1 + 1, i, none⟩ = false) ∧ (∀ i, w5.frozen? ⟨w.heap.size + 1, i, none⟩ = false) ∧ w.heap.size + 1 + 1 < w5.heap.size) := hid (fun w5 T => by
    obtain ⟨j0, j1, j2⟩ := HB.out w5 T
    exact ⟨⟨cell_at j2 rfl, cell_at j2 rfl, cell_at j2 rfl, cell_at j2 rfl⟩, ⟨cell_at j1 rfl, cell_at j1 rfl, cell_at j1 rfl, cell_at j1 rfl⟩, froz_at j2, froz_at j1, block_lt j2⟩)
  have HBC : Hid (∀ w5 S5 vl5, Lq w5 b r S5 (.slice (some ⟨r, 0, none⟩) S.res.length cr) vl5 → w5.cell? ⟨b, 2, none⟩ = some vl5 ∧ (∀ i, w5.frozen? ⟨b, i, none⟩ = false) ∧ b < w5.heap.size) := hid (fun w5 S5 vl5 h => ⟨cell_at h.bl rfl, froz_at h.bl, block_lt h.bl⟩)
  clear i0 i1 i2 HB
  by_cases h2 : o.2.1 = 2
  · have h2' : (o.2.1 == 2) = true := by simpa using h2
    have HP := hid (panics_ HQ4.out.1 (by show (putO S.res S.at_ o).length ≤ 1024; rw [putO_len]; exact HBIG.out) o)
    have HE : Hid (∀ w5, Lq w5 b r ⟨S.num, allO (putO S.res S.at_ o) o, [], 0, 0, 0, 0, S.tm⟩ (.slice (some ⟨r, 0, none⟩) S.res.length cr) (.slice none 0 0) → Touch [b, r] V w5 → endW S what o = 6 ∧ Lq (fin4 ((w5.setCell ⟨w.heap.size + 1 + 1, 0, none⟩ (.int .i64 6)).setCell ⟨b, 2, none⟩ (.slice none 0 0)) (w.heap.size + 1) 6 q.1.run) b r (endS S o) (.slice (some ⟨r, 0, none⟩) S.res.length cr) (.slice none 0 0) ∧ Touch [b, r] w (fin4 ((w5.setCell ⟨w.heap.size + 1 + 1, 0, none⟩ (.int .i64 6)).setCell ⟨b, 2, none⟩ (.slice none 0 0)) (w.heap.size + 1) 6 q.1.run)) := hid (fun w5 hq5 T5 => by
      rw [end_two h2] at hq5
      exact ⟨by unfold endW; rw [if_pos h2], fin_over HTV.out T5 hq5 (by unfold endS; rw [if_pos h2]) HRB.out.2.1 _ _⟩)
    have HOV0 : Hid (∀ w5, Lq w5 b r ⟨S.num, allO (putO S.res S.at_ o) o, [], 0, 0, 0, 0, S.tm⟩ (.slice (some ⟨r, 0, none⟩) S.res.length cr) (.slice none 0 0) → Calls Tryd.prog 11 #[.pointer (some ⟨b, 0, none⟩)] w5 fun e w' => e = .returned (.bool true) ∧ w' = w5) := hid (fun w5 hq => over_yes hq rfl)
    unfold fin4 at HE
    clear h2
    go_wp2_with (first
      | (go_at_call 47; refine HP.out.mono ?_; rintro e w5 ⟨rfl, k5, t5⟩; have HQ5 := hid k5; have T5 := hid (HT4.out.trans' t5); obtain ⟨⟨d0, d1, d2, d3⟩, ⟨f0, f1, f2, f3⟩, df, ff, dl⟩ := HFX.out w5 T5.out; obtain ⟨g2, gf, gl⟩ := HBC.out _ _ _ k5; have HR5 := hid (HE.out w5 k5 T5.out); clear k5 t5 q0 q1 q2 q3)
      | (go_at_call 11; refine (HOV0.out _ HQ5.out).mono ?_; rintro e w6 ⟨rfl, rfl⟩)
      | fail)
    refine bodyPost_ret (v := .agg #[.int .i64 6, .int .i64 q.1.run, .int .i64 0, .int .i64 0]) (by simp [results, Tryd.results30, go_sem, f0, f1, f2, f3, d0, d1, d2, d3]) rfl ?_
    obtain ⟨x0, x1, x2⟩ := HR5.out
    exact ⟨by rw [x0], _, x1, x2⟩
  · have h2' : (o.2.1 == 2) = false := by simpa using h2
    have HSE := hid (end_else (S := S) h2)
    have HL : Hid (l = S.left.tail) := hid (by rw [HRB.out.2.2.1]; rfl)
    obtain ⟨d0, d1, d2, d3⟩ := (HFX.out W4 HT4.out).1
    obtain ⟨f0, f1, f2, f3⟩ := (HFX.out W4 HT4.out).2.1
    obtain ⟨df, ff, dl⟩ := (HFX.out W4 HT4.out).2.2
    obtain ⟨g2, gf, gl⟩ := HBC.out _ _ _ HQ4.out.1
    by_cases hl : l = []
    · have HOV := hid (over_yes HQ4.out.1 hl)
      have HR5 : Hid (endW S what o = 6 ∧ Lq (fin4 ((W4.setCell ⟨w.heap.size + 1 + 1, 0, none⟩ (.int .i64 6)).setCell ⟨b, 2, none⟩ (.slice none 0 0)) (w.heap.size + 1) 6 q.1.run) b r (endS S o) (.slice (some ⟨r, 0, none⟩) S.res.length cr) (.slice none 0 0) ∧ Touch [b, r] w (fin4 ((W4.setCell ⟨w.heap.size + 1 + 1, 0, none⟩ (.int .i64 6)).setCell ⟨b, 2, none⟩ (.slice none 0 0)) (w.heap.size + 1) 6 q.1.run)) := hid (by
        have hq5 := HQ4.out.1
        have e9 : (⟨S.num, (S.with_ (putO S.res S.at_ o)).res, l, 0, 0, 0, 0, S.tm⟩ : Ld) = endS S o := by
          rw [← HSE.out, ← HL.out]
          rfl
        have hq6 : Lq W4 b r (endS S o) (.slice (some ⟨r, 0, none⟩) S.res.length cr) (.slice (some av) l.length (cl - 1)) := by rw [← e9]; exact hq5
        exact ⟨by unfold endW; rw [if_neg h2, ← HL.out, if_pos hl], fin_over HTV.out HT4.out hq6 (by rw [← e9]; exact hl) HRB.out.2.1 _ _⟩)
      unfold fin4 at HR5
      clear h2 hl
      go_wp2_with (go_at_call 11; refine HOV.out.mono ?_; rintro e w6 ⟨rfl, rfl⟩)
      refine bodyPost_ret (v := .agg #[.int .i64 6, .int .i64 q.1.run, .int .i64 0, .int .i64 0]) (by simp [results, Tryd.results30, go_sem, f0, f1, f2, f3, d0, d1, d2, d3]) rfl ?_
      obtain ⟨x0, x1, x2⟩ := HR5.out
      exact ⟨by rw [x0], _, x1, x2⟩
    · obtain ⟨q', l', hl'⟩ : ∃ q' l', l = q' :: l' := by
        cases l with
        | nil => exact absurd rfl hl
        | cons q' l' => exact ⟨q', l', rfl⟩
      have HOV := hid (over_no HQ4.out.1 hl')
      have HR5 : Hid (endW S what o = what ∧ Lq (fin4 W4 (w.heap.size + 1) what q.1.run) b r (endS S o) (.slice (some ⟨r, 0, none⟩) S.res.length cr) (.slice (some av) l.length (cl - 1)) ∧ Touch [b, r] w (fin4 W4 (w.heap.size + 1) what q.1.run)) := hid (by
        have hq5 := HQ4.out.1
        have e9 : (⟨S.num, (S.with_ (putO S.res S.at_ o)).res, l, 0, 0, 0, 0, S.tm⟩ : Ld) = endS S o := by
          rw [← HSE.out, ← HL.out]
          rfl
        have hq6 : Lq W4 b r (endS S o) (.slice (some ⟨r, 0, none⟩) S.res.length cr) (.slice (some av) l.length (cl - 1)) := by rw [← e9]; exact hq5
        exact ⟨by unfold endW; rw [if_neg h2, ← HL.out, if_neg hl], fin_on HTV.out HT4.out hq6 HRB.out.2.1 _ _⟩)
      unfold fin4 at HR5
      clear h2 hl hl'
      go_wp2_with (go_at_call 11; refine HOV.out.mono ?_; rintro e w6 ⟨rfl, rfl⟩)
      refine bodyPost_ret (v := .agg #[.int .i64 what, .int .i64 q.1.run, .int .i64 0, .int .i64 0]) (by simp [results, Tryd.results30, go_sem, f0, f1, f2, f3, d0, d1, d2, d3]) rfl ?_
      obtain ⟨x0, x1, x2⟩ := HR5.out
      exact ⟨by rw [x0], _, x1, x2⟩
end
end Go.Proofs.YtcbckehdlbbbbaaDoor
/- Tokens of which there are none, and gates at which nobody waits, in memory: New, Is, find, known, Where, Len, Open, and Come to an open gate; no conditions but those that each states. -/
namespace Go.Proofs.YtcbckehdlbbbbaaDoor
open Go.RowKit Go.Maps Go.ChangeMaps
set_option linter.unusedVariables false
/-- Tokens of which there are none, or no tokens. -/
def Tk (w : World) (v : Value) : Prop := v = .pointer none ∨ ∃ t, v = .pointer (some ⟨t, 0, none⟩) ∧ w.heap[t]? = some (.cells #[.slice none 0 0] 92 (0, 0))
theorem Tk.keep {w w' : World} {v : Value} {F : List Nat} (h : Tk w v) (ht : Touch F w w') (hn : ∀ t, v = .pointer (some ⟨t, 0, none⟩) → ¬ t ∈ F) : Tk w' v := by
  rcases h with h | ⟨t, rfl, h⟩
  · exact Or.inl h
  · exact Or.inr ⟨t, rfl, ht.keep h (hn t rfl)⟩
theorem Tk.keep0 {w w' : World} {v : Value} (h : Tk w v) (ht : Touch [] w w') : Tk w' v := h.keep ht (fun _ _ e => by cases e)
theorem tnew_ (w : World) : Calls Tryd.prog 10 #[] w fun e w' => e = .returned (PT w.heap.size) ∧ w'.heap[w.heap.size]? = some (.cells #[.slice none 0 0] 92 (0, 0)) ∧ Touch [] w w' := by
  unfold PT
  go_enter Tryd.func10, Tryd.ntmps10
  go_wp2
  go_ret
  exact ⟨rfl, heap_alloc_new w _, (Touch.refl _ _).alloc _⟩
theorem tfind_ {w : World} {v : Value} (h : Tk w v) (n : Int) : Calls Tryd.prog 57 #[v, .int .i64 n] w fun e w' => e = .returned (.pointer none) ∧ w' = w := by
  rcases h with rfl | ⟨t, rfl, h⟩
  · go_enter Tryd.func57, Tryd.ntmps57
    go_wp2
    go_ret
    exact ⟨rfl, rfl⟩
  · have c0 := cell_at (j := 0) (v := .slice none 0 0) h rfl
    clear h
    by_cases h1 : n < 1
    · go_enter Tryd.func57, Tryd.ntmps57
      go_wp2
      go_ret
      exact ⟨rfl, rfl⟩
    · have h2 : 0 < n := by omega
      go_enter Tryd.func57, Tryd.ntmps57
      go_wp2
      go_ret
      exact ⟨rfl, rfl⟩
theorem twhy_ {w : World} {v : Value} (h : Tk w v) (n : Int) : Calls Tryd.prog 46 #[v, .int .i64 n] w fun e w' => e = .returned (.int .i64 0) ∧ w' = w := by
  have HF := hid (tfind_ h n)
  clear h
  go_enter Tryd.func46, Tryd.ntmps46
  go_wp2_with (go_at_call 57; refine HF.out.mono ?_; rintro e w2 ⟨rfl, rfl⟩)
  go_ret
  exact ⟨rfl, rfl⟩
theorem tis_ {w : World} {v : Value} (h : Tk w v) (n : Int) : Calls Tryd.prog 29 #[v, .int .i64 n] w fun e w' => e = .returned (.bool false) ∧ w' = w := by
  have HF := hid (twhy_ h n)
  clear h
  go_enter Tryd.func29, Tryd.ntmps29
  go_wp2_with (go_at_call 46; refine HF.out.mono ?_; rintro e w2 ⟨rfl, rfl⟩)
  go_ret
  exact ⟨rfl, rfl⟩
/-- The gates as cells. -/
def gcf (op : Nat → Bool) (sl : Nat → Value) (m : Option Nat) (j : Nat) : Value := if j = 512 then .map m else if j % 2 = 0 then .bool (op (j / 2)) else sl (j / 2)
def gc (op : Nat → Bool) (sl : Nat → Value) (m : Option Nat) : Array Value := ((List.range 513).map (gcf op sl m)).toArray
def fup {α : Type} (f : Nat → α) (i : Nat) (v : α) : Nat → α := fun j => if j = i then v else f j
theorem fup_same {α : Type} (f : Nat → α) (i : Nat) (v : α) : fup f i v i = v := by simp [fup]
theorem fup_other {α : Type} (f : Nat → α) {i j : Nat} (v : α) (h : j ≠ i) : fup f i v j = f j := by simp [fup, h]
section
variable (op : Nat → Bool) (sl : Nat → Value) (m : Option Nat)
theorem gc_size : (gc op sl m).size = 513 := by simp [gc]
theorem gc_get {j : Nat} (h : j < 513) : (gc op sl m)[j]? = some (gcf op sl m j) := by
  unfold gc
  rw [List.getElem?_toArray, List.getElem?_map, List.getElem?_range h]
  rfl
theorem gc_open {i : Nat} (h : i < 256) : (gc op sl m)[i * 2]? = some (.bool (op i)) := by
  rw [gc_get op sl m (by omega)]
  unfold gcf
  rw [if_neg (by omega), if_pos (by omega), show i * 2 / 2 = i by omega]
theorem gc_lines {i : Nat} (h : i < 256) : (gc op sl m)[i * 2 + 1]? = some (sl i) := by
  rw [gc_get op sl m (by omega)]
  unfold gcf
  rw [if_neg (by omega), if_neg (by omega), show (i * 2 + 1) / 2 = i by omega]
theorem gc_where : (gc op sl m)[512]? = some (.map m) := by
  rw [gc_get op sl m (by omega)]
  unfold gcf
  rw [if_pos rfl]
theorem gc_setf {op' : Nat → Bool} {sl' : Nat → Value} {m' : Option Nat} {j : Nat} {v : Value} (h : j < 513) (hv : gcf op' sl' m' j = v) (ho : ∀ k, k < 513 → k ≠ j → gcf op' sl' m' k = gcf op sl m k) : (gc op sl m).setIfInBounds j v = gc op' sl' m' := by
  apply Array.ext_getElem?
  intro k
  rw [Array.getElem?_setIfInBounds, gc_size]
  by_cases hk : k < 513
  · rw [gc_get op' sl' m' hk]
    by_cases e : j = k
    · subst e; rw [if_pos rfl, if_pos h, hv]
    · rw [if_neg e, gc_get op sl m hk, ho k hk (fun e' => e e'.symm)]
  · rw [if_neg (by omega), Array.getElem?_eq_none (by rw [gc_size]; omega), Array.getElem?_eq_none (by rw [gc_size]; omega)]
theorem gc_setopen {i : Nat} (h : i < 256) (v : Bool) : (gc op sl m).setIfInBounds (i * 2) (.bool v) = gc (fup op i v) sl m := by
  refine gc_setf op sl m (by omega) ?_ (fun k hk hn => ?_)
  · unfold gcf
    rw [if_neg (by omega), if_pos (by omega), show i * 2 / 2 = i by omega, fup_same]
  · unfold gcf
    split
    · rfl
    · split
      · rw [fup_other _ _ (by omega)]
      · rfl
theorem gc_setlines {i : Nat} (h : i < 256) (v : Value) : (gc op sl m).setIfInBounds (i * 2 + 1) v = gc op (fup sl i v) m := by
  refine gc_setf op sl m (by omega) ?_ (fun k hk hn => ?_)
  · unfold gcf
    rw [if_neg (by omega), if_neg (by omega), show (i * 2 + 1) / 2 = i by omega, fup_same]
  · unfold gcf
    split
    · rfl
    · split
      · rfl
      · rw [fup_other _ _ (by omega)]
theorem gc_setwhere (m' : Option Nat) : (gc op sl m).setIfInBounds 512 (.map m') = gc op sl m' := by
  refine gc_setf op sl m (by omega) ?_ (fun k hk hn => ?_)
  · unfold gcf
    rw [if_pos rfl]
  · unfold gcf
    rw [if_neg hn, if_neg hn]
end
theorem infoG : (Tryd.prog.info? 85).map (fun i => (i.zero, i.size)) = some (some (.agg (gc (fun _ => false) (fun _ => .slice none 0 0) none)), 513) := by kernel_rfl
theorem zeroG (w : World) : (zeroValue 85).run Tryd.prog w = .ok (.agg (gc (fun _ => false) (fun _ => .slice none 0 0) none)) w := (zero_of_info infoG).1 w
/-- Gates at which nobody waits. -/
def Gn (w : World) (g : Nat) (op : Nat → Bool) : Prop := w.heap[g]? = some (.cells (gc op (fun _ => .slice none 0 0) none) 85 (0, 0))
theorem Gn.keep {w w' : World} {g : Nat} {op : Nat → Bool} {F : List Nat} (h : Gn w g op) (ht : Touch F w w') (hn : ¬ g ∈ F) : Gn w' g op := ht.keep h hn
theorem Gn.cell {w : World} {g : Nat} {op : Nat → Bool} (h : Gn w g op) {i : Nat} (hi : i < 256) : w.cell? ⟨g, i * 2, none⟩ = some (.bool (op i)) ∧ w.frozen? ⟨g, i * 2, none⟩ = false := ⟨cell_at h (gc_open _ _ _ hi), froz_at h _⟩
theorem Gn.where_ {w : World} {g : Nat} {op : Nat → Bool} (h : Gn w g op) : w.cell? ⟨g, 512, none⟩ = some (.map none) := cell_at h (gc_where _ _ _)
set_option maxHeartbeats 2000000 in
theorem gnew_ (w : World) : Calls Tryd.prog 8 #[] w fun e w' => e = .returned (PT w.heap.size) ∧ Gn w' w.heap.size (fun _ => false) ∧ Touch [] w w' := by
  have z56 := zeroG
  obtain ⟨d, hd⟩ : ∃ d, d = gc (fun _ => false) (fun _ => .slice none 0 0) none := ⟨_, rfl⟩
  rw [← hd] at z56
  have HD := hid hd
  clear hd
  unfold PT
  go_enter Tryd.func8, Tryd.ntmps8
  go_wp2
  go_ret
  refine ⟨rfl, ?_, (Touch.refl _ _).alloc _⟩
  unfold Gn
  rw [← HD.out]
  exact heap_alloc_new w _
section
variable (w : World) (g : Nat) (n : Int)
set_option maxHeartbeats 2000000 in
theorem gfind_ (h0 : 0 ≤ n) (h1 : n < 256) : Calls Tryd.prog 51 #[.pointer (some ⟨g, 0, none⟩), .int .i64 n] w fun e w' => e = .returned (.pointer (some ⟨g, n.toNat * 2, none⟩)) ∧ w' = w := by
  go_enter Tryd.func51, Tryd.ntmps51
  go_wp2
  go_ret
  exact ⟨rfl, rfl⟩
set_option maxHeartbeats 2000000 in
theorem gknown_ (h0 : 0 ≤ n) (h1 : n < 256) : Calls Tryd.prog 35 #[.pointer (some ⟨g, 0, none⟩), .int .i64 n] w fun e w' => e = .returned (.tuple #[.pointer (some ⟨g, n.toNat * 2, none⟩), .int .i64 0]) ∧ w' = w := by
  have HF := hid (gfind_ w g n h0 h1)
  clear h0 h1
  go_enter Tryd.func35, Tryd.ntmps35
  go_wp2_with (go_at_call 51; refine HF.out.mono ?_; rintro e w2 ⟨rfl, rfl⟩)
  exact bodyPost_ret (v := .tuple #[.pointer (some ⟨g, n.toNat * 2, none⟩), .int .i64 0]) (by simp [results, Tryd.results35, go_sem]) rfl ⟨rfl, rfl⟩
theorem gknown_nil : Calls Tryd.prog 35 #[.pointer none, .int .i64 n] w fun e w' => e = .returned (.tuple #[.pointer none, .int .i64 1]) ∧ w' = w := by
  go_enter Tryd.func35, Tryd.ntmps35
  go_wp2
  exact bodyPost_ret (v := .tuple #[.pointer none, .int .i64 1]) (by simp [results, Tryd.results35, go_sem]) rfl ⟨rfl, rfl⟩
end
section
variable {w : World} {g : Nat} {op : Nat → Bool}
set_option maxHeartbeats 2000000 in
theorem gwhere_ (h : Gn w g op) (x : Int) (hx : W64 x) : Calls Tryd.prog 64 #[.pointer (some ⟨g, 0, none⟩), .int .i64 x] w fun e w' => e = .returned (.tuple #[.int .i64 0, .bool false]) ∧ w' = w := by
  have c1 := h.where_
  have hl := Maps.look_nil (P := Tryd.prog) (w := w) true keyed3 Tryd.underlying83 (zero3 w) (key3 hx)
  simp only [if_true] at hl
  clear h
  go_enter Tryd.func64, Tryd.ntmps64
  go_wp2
  exact bodyPost_ret (v := .tuple #[.int .i64 0, .bool false]) (by simp [results, Tryd.results64, go_sem]) rfl ⟨rfl, rfl⟩
set_option maxHeartbeats 2000000 in
theorem glen_ (h : Gn w g op) : Calls Tryd.prog 37 #[.pointer (some ⟨g, 0, none⟩)] w fun e w' => e = .returned (.int .i64 0) ∧ w' = w := by
  have c1 := h.where_
  have hl := fun ty => Maps.len_nil (P := Tryd.prog) (w := w) Tryd.underlying83 ty
  clear h
  go_enter Tryd.func37, Tryd.ntmps37
  go_wp2
  go_ret
  exact ⟨rfl, rfl⟩
theorem gpass_ (v u : Value) : Calls Tryd.prog 36 #[v, u, .int .i64 0] w fun e w' => e = .returned (.slice none 0 0) ∧ w' = w := by
  go_enter Tryd.func36, Tryd.ntmps36
  go_wp2
  go_loopw [7] (fun x wr => x = .slice none 0 0 ∧ wr = w) (fun _ _ => 0)
  case atStart => exact ⟨rfl, rfl⟩
  case round =>
    obtain ⟨rfl, rfl⟩ := hrel
    go_wp2
    go_ret
    exact ⟨rfl, rfl⟩
theorem Gn.opens (h : Gn w g op) {i : Nat} (hi : i < 256) (v : Bool) : Gn (w.setCell ⟨g, i * 2, none⟩ (.bool v)) g (fup op i v) := by
  unfold Gn
  rw [← gc_setopen op _ _ hi v]
  exact bset h _
set_option maxHeartbeats 2000000 in
theorem gopen_ (h : Gn w g op) (n : Int) (h0 : 0 ≤ n) (h1 : n < 256) : Calls Tryd.prog 21 #[.pointer (some ⟨g, 0, none⟩), .int .i64 n] w fun e w' => e = .returned (.tuple #[.slice none 0 0, .int .i64 0]) ∧ Gn w' g (fup op n.toNat true) ∧ Touch [g] w w' := by
  have hi : n.toNat < 256 := by omega
  obtain ⟨c1, f1⟩ := h.cell hi
  have HK := hid (gknown_ w g n h0 h1)
  have HO := hid (h.opens hi true)
  have HL := hid (glen_ (h.opens hi true))
  have HT : Hid (Touch [g] w (w.setCell ⟨g, n.toNat * 2, none⟩ (.bool true))) := (Touch.refl _ _).setCell (by simp) _
  clear h hi h0 h1
  generalize fup op n.toNat true = op' at *
  generalize op n.toNat = B at *
  generalize n.toNat * 2 = o at *
  go_enter Tryd.func21, Tryd.ntmps21
  go_wp2_with (first
    | (go_at_call 35; refine HK.out.mono ?_; rintro e w2 ⟨rfl, rfl⟩)
    | (go_at_call 37; refine HL.out.mono ?_; rintro e w2 ⟨rfl, rfl⟩)
    | (go_at_call 36; refine (gpass_ _ _).mono ?_; rintro e w2 ⟨rfl, rfl⟩)
    | fail)
  exact bodyPost_ret (v := .tuple #[.slice none 0 0, .int .i64 0]) (by simp [results, Tryd.results21, go_sem]) rfl ⟨rfl, HO.out, HT.out⟩
set_option maxHeartbeats 2000000 in
theorem gcome_open (h : Gn w g op) (n x : Int) (hx : W64 x) (h0 : 0 ≤ n) (h1 : n < 256) (ho : op n.toNat = true) : Calls Tryd.prog 49 #[.pointer (some ⟨g, 0, none⟩), .int .i64 n, .int .i64 x] w fun e w' => e = .returned (.tuple #[.bool true, .int .i64 0]) ∧ w' = w := by
  have hi : n.toNat < 256 := by omega
  obtain ⟨c1, f1⟩ := h.cell hi
  rw [ho] at c1
  have HK := hid (gknown_ w g n h0 h1)
  have HW := hid (gwhere_ h x hx)
  clear h hi h0 h1 ho
  generalize n.toNat * 2 = o at *
  go_enter Tryd.func49, Tryd.ntmps49
  go_wp2_with (first
    | (go_at_call 35; refine HK.out.mono ?_; rintro e w2 ⟨rfl, rfl⟩)
    | (go_at_call 64; refine HW.out.mono ?_; rintro e w2 ⟨rfl, rfl⟩)
    | fail)
  exact bodyPost_ret (v := .tuple #[.bool true, .int .i64 0]) (by simp [results, Tryd.results49, go_sem]) rfl ⟨rfl, rfl⟩
theorem gcome_nil (w : World) (n x : Int) : Calls Tryd.prog 49 #[.pointer none, .int .i64 n, .int .i64 x] w fun e w' => e = .returned (.tuple #[.bool false, .int .i64 1]) ∧ w' = w := by
  have HK := hid (gknown_nil w n)
  go_enter Tryd.func49, Tryd.ntmps49
  go_wp2_with (go_at_call 35; refine HK.out.mono ?_; rintro e w2 ⟨rfl, rfl⟩)
  exact bodyPost_ret (v := .tuple #[.bool false, .int .i64 1]) (by simp [results, Tryd.results49, go_sem]) rfl ⟨rfl, rfl⟩
end
end Go.Proofs.YtcbckehdlbbbbaaDoor
/- Who comes to a shut gate at which nobody waits, where nobody waits at all, waits there; the conditions are those that each states. -/
namespace Go.Proofs.YtcbckehdlbbbbaaDoor
open Go.RowKit Go.Maps Go.ChangeMaps
set_option linter.unusedVariables false
set_option linter.unusedSimpArgs false
/-- An empty queue by turn. -/
def Qn (w : World) (q : Nat) : Prop := w.heap[q]? = some (.cells #[.int .i64 0, .int .i64 0, .map none] 166 (0, 0))
theorem zeroLk (w : World) : (zeroValue 168).run Tryd.prog w = .ok (.agg #[.int .i64 0, .int .i64 0]) w := by kernel_rfl
theorem eqTm (w : World) (r : Option Nat) : (binOp .eql 164 (.map r) (.map none)).run Tryd.prog w = .ok (.bool r.isNone) w := run_eql_map_nil w _ _ _ r Tryd.underlying164
theorem eqIm (w : World) (r : Option Nat) : (binOp .eql 83 (.map r) (.map none)).run Tryd.prog w = .ok (.bool r.isNone) w := run_eql_map_nil w _ _ _ r Tryd.underlying83
theorem qnew_ (w : World) : Calls Tryd.prog 83 #[] w fun e w' => e = .returned (.pointer (some ⟨w.heap.size, 0, none⟩)) ∧ Qn w' w.heap.size ∧ Touch [] w w' := by
  go_enter Tryd.func83, Tryd.ntmps83
  go_wp2
  go_ret
  exact ⟨rfl, heap_alloc_new w _, (Touch.refl _ _).alloc _⟩
section
variable {w : World} {q : Nat}
set_option maxHeartbeats 2000000 in
theorem qhas_ (h : Qn w q) (x : Int) (hx : W64 x) : Calls Tryd.prog 88 #[.pointer (some ⟨q, 0, none⟩), .int .i64 x] w fun e w' => e = .returned (.bool false) ∧ Touch [] w w' := by
  have c2 := cell_at (j := 2) (v := .map none) h rfl
  have hl := Maps.look_nil (P := Tryd.prog) (w := w) true keyed3 Tryd.underlying164 (zeroLk w) (key3 hx)
  simp only [if_true] at hl
  clear h
  go_enter Tryd.func88, Tryd.ntmps88
  go_wp2
  go_ret
  exact ⟨rfl, (Touch.refl _ _).alloc _⟩
set_option maxHeartbeats 2000000 in
theorem qlen_ (h : Qn w q) : Calls Tryd.prog 70 #[.pointer (some ⟨q, 0, none⟩)] w fun e w' => e = .returned (.int .i64 0) ∧ w' = w := by
  have c2 := cell_at (j := 2) (v := .map none) h rfl
  have hl := fun ty => Maps.len_nil (P := Tryd.prog) (w := w) Tryd.underlying164 ty
  clear h
  go_enter Tryd.func70, Tryd.ntmps70
  go_wp2
  go_ret
  exact ⟨rfl, rfl⟩
set_option maxHeartbeats 4000000 in
set_option maxRecDepth 100000 in
theorem qlast_ (h : Qn w q) (x : Int) (hx : W64 x) : Calls Tryd.prog 89 #[.pointer (some ⟨q, 0, none⟩), .int .i64 x] w fun e w' => e = .returned (.tuple #[]) ∧ Touch [q] w w' := by
  have c0 := cell_at (j := 0) (v := .int .i64 0) h rfl
  have c1 := cell_at (j := 1) (v := .int .i64 0) h rfl
  have c2 := cell_at (j := 2) (v := .map none) h rfl
  have hq := block_lt h
  have f0 := froz_at h 0
  have f1 := froz_at h 1
  have f2 := froz_at h 2
  have hmm := @run_makeMap Tryd.prog
  have hne : w.heap.size ≠ q := by omega
  have HMd : Hid (∀ V : World, V.heap.size = w.heap.size → MapAt (V.alloc (.map #[] 0)) w.heap.size 0 (fun _ => none)) := hid (fun V hV => by have := mapAt_made V; rw [hV] at this; exact this)
  have HC : Hid (Qn w q) := h
  have qTm := eqTm
  clear h
  go_enter Tryd.func89, Tryd.ntmps89
  go_wp2_with (at_len; refine wpList_mlen _ rfl _ 164 rfl 168 Tryd.underlying164 w.heap.size 0 _ rfl (HMd.out _ (by simp [World.setCell])) ?_)
  obtain ⟨V, hV⟩ : ∃ V, V = (((w.setCell ⟨q, 2, none⟩ (.map (some w.heap.size))).setCell ⟨q, 0, none⟩ (.int .i64 x)).alloc (Obj.map #[] 0)) := ⟨_, rfl⟩
  have hTV : V.heap[q]? = some (.cells #[.int .i64 x, .int .i64 0, .map (some w.heap.size)] 166 (0, 0)) := by
    rw [hV]
    refine (Below.heap_alloc _ _ _ (by simp [World.setCell]; exact hq)).trans ?_
    have := bset (i := 0) (bset (i := 2) HC.out (.map (some w.heap.size))) (.int .i64 x)
    simpa using this
  have hMV : MapAt V w.heap.size 0 (fun _ => none) := by
    rw [hV]
    exact HMd.out _ (by simp [World.setCell])
  have HT1 : Hid (Touch [q] w V) := by
    rw [hV]
    exact (((Touch.refl _ _).setCell (p := ⟨q, 2, none⟩) (by simp) _).setCell (p := ⟨q, 0, none⟩) (by simp) _).alloc _
  rw [← hV]
  clear hV HMd HC c2 f2 f1 f0 c0 c1 qTm
  obtain ⟨o, hu, hm2⟩ := (show MapAt (V).drew w.heap.size 0 (fun _ => none) from hMV.kept rfl).set (t := 164) Tryd.underlying164 (by unfold maxLen; omega) hx (.agg #[.int .i64 0, .int .i64 0])
  have hT2 : (setBlock (V).drew w.heap.size o).heap[q]? = some (.cells #[.int .i64 x, .int .i64 0, .map (some w.heap.size)] 166 (0, 0)) := (setBlock_other _ _ _ (Ne.symm hne)).trans hTV
  have HTo : Hid (Touch [w.heap.size] (V) (setBlock (V).drew w.heap.size o)) := touch_setBlock (Touch.refl _ _).drew (by simp) o
  have v1 := cell_at (j := 1) (v := .int .i64 0) hTV rfl
  have v2 := cell_at (j := 2) (v := .map (some w.heap.size)) hTV rfl
  have z1 := cell_at (j := 1) (v := .int .i64 0) hT2 rfl
  have z1f := froz_at hT2 1
  clear hm2 hT2 hTV hMV
  generalize setBlock (V).drew w.heap.size o = W2 at *
  go_region
  go_wp2
  go_end0
  exact ⟨rfl, (HT1.out.trans HTo.out (fun i hi => by simp only [List.mem_singleton] at hi; subst hi; exact Or.inr (Nat.le_refl _))).setCell (by simp) _⟩
set_option maxHeartbeats 4000000 in
theorem qput_ (h : Qn w q) (x : Int) (hx : W64 x) : Calls Tryd.prog 82 #[.pointer (some ⟨q, 0, none⟩), .int .i64 x] w fun e w' => e = .returned (.int .i64 0) ∧ Touch [q] w w' := by
  have HH := hid (qhas_ h x hx)
  have HL : Hid (∀ w', Touch [] w w' → Calls Tryd.prog 70 #[.pointer (some ⟨q, 0, none⟩)] w' fun e w2 => e = .returned (.int .i64 0) ∧ w2 = w') := hid (fun w' t => qlen_ (t.keep h (by simp)))
  have HP : Hid (∀ w', Touch [] w w' → Calls Tryd.prog 89 #[.pointer (some ⟨q, 0, none⟩), .int .i64 x] w' fun e w2 => e = .returned (.tuple #[]) ∧ Touch [q] w' w2) := hid (fun w' t => qlast_ (t.keep h (by simp)) x hx)
  clear h
  go_enter Tryd.func82, Tryd.ntmps82
  go_wp2_with (first
    | (go_at_call 88; refine HH.out.mono ?_; rintro e w2 ⟨rfl, t2⟩; have T2 := hid t2; clear t2)
    | (go_at_call 70; refine (HL.out _ T2.out).mono ?_; rintro e w3 ⟨rfl, rfl⟩)
    | (go_at_call 89; refine (HP.out _ T2.out).mono ?_; rintro e w4 ⟨rfl, t4⟩; have T4 := hid t4; clear t4)
    | fail)
  go_ret
  exact ⟨rfl, (T2.out.mono (fun _ e => by cases e)).trans' T4.out⟩
end
theorem infoPT : (Tryd.prog.info? 128).map (fun i => (i.zero, i.size, i.bytes)) = some (some (.pointer none), 1, 8) := by kernel_rfl
theorem rs_ptr (w : World) (x : Value) : Rs 128 1 (w.alloc (.cells #[x] 128)) (.slice (some ⟨w.heap.size, 0, none⟩) 1 1) 1 [x] := by
  refine ⟨rfl, _, 1, rfl, Nat.le_refl _, fun e => (by cases e), fun _ => ⟨w.heap.size, 0, rfl, _, _, heap_alloc_new w _, fun j u hu => ?_⟩⟩
  match j, hu with
  | 0, hu => simpa using hu
section
variable {w : World} {g : Nat} {op : Nat → Bool}
theorem Gn.lines (h : Gn w g op) {i : Nat} (hi : i < 256) : w.cell? ⟨g, i * 2 + 1, none⟩ = some (.slice none 0 0) ∧ w.frozen? ⟨g, i * 2 + 1, none⟩ = false := ⟨cell_at h (gc_lines _ _ _ hi), froz_at h _⟩
set_option maxHeartbeats 4000000 in
theorem gput_ (h : Gn w g op) {i : Nat} (hi : i < 256) (x : Int) (hx : W64 x) : Calls Tryd.prog 76 #[.pointer (some ⟨g, i * 2, none⟩), .int .i64 x] w fun e w' => e = .returned (.tuple #[]) ∧ Touch [g] w w' ∧ ∃ sl, w'.heap[g]? = some (.cells (gc op (fup (fun _ => .slice none 0 0) i sl) none) 85 (0, 0)) := by
  obtain ⟨c1, f1⟩ := h.lines hi
  have HN := hid (qnew_ w)
  have HP : Hid (∀ w' q, Qn w' q → Calls Tryd.prog 82 #[.pointer (some ⟨q, 0, none⟩), .int .i64 x] w' fun e w2 => e = .returned (.int .i64 0) ∧ Touch [q] w' w2) := hid (fun w' q hq => qput_ hq x hx)
  have hg : g < w.heap.size := block_lt h
  have HG : Hid (∀ w', Touch [w.heap.size] w w' → w'.cell? ⟨g, i * 2 + 1, none⟩ = some (.slice none 0 0) ∧ w'.frozen? ⟨g, i * 2 + 1, none⟩ = false ∧ g < w'.heap.size) := hid (fun w' t => by
    have k := h.keep t (by simp; omega)
    exact ⟨(k.lines hi).1, (k.lines hi).2, block_lt k⟩)
  have HE : Hid (∀ w1 w2 w3 (v5 : Value), Touch [] w w1 → Touch [w.heap.size] w1 w2 → (w2.alloc (.cells #[.pointer (some ⟨w.heap.size, 0, none⟩)] 128)).grownBy w3 none → Touch [g] w (w3.setCell ⟨g, i * 2 + 1, none⟩ v5) ∧ (w3.setCell ⟨g, i * 2 + 1, none⟩ v5).heap[g]? = some (.cells (gc op (fup (fun _ => .slice none 0 0) i v5) none) 85 (0, 0))) := hid (fun w1 w2 w3 v5 t1 t2 t3 => by
    have a1 : Touch [] w (w2.alloc (.cells #[.pointer (some ⟨w.heap.size, 0, none⟩)] 128)) := (t1.trans t2 (fun k hk => by simp only [List.mem_singleton] at hk; subst hk; exact Or.inr (Nat.le_refl _))).alloc _
    have a2 : Touch [] w w3 := a1.grown t3 (fun k hk => by cases hk)
    refine ⟨(a2.mono (fun _ e => by cases e)).setCell (by simp) _, ?_⟩
    have b := a2.keep h (by simp)
    have := bset (i := i * 2 + 1) b v5
    rw [gc_setlines op _ _ hi v5] at this
    exact this)
  clear h
  generalize i * 2 = o at *
  go_enter Tryd.func76, Tryd.ntmps76
  go_wp2_with (first
    | (go_at_call 83; refine HN.out.mono ?_; rintro e w1 ⟨rfl, q1, t1⟩; have Q1 := hid q1; have T1 := hid t1; clear q1 t1)
    | (go_at_call 82; refine (HP.out _ _ Q1.out).mono ?_; rintro e w2 ⟨rfl, t2⟩; have T2 := hid t2; obtain ⟨d1, d2, d3⟩ := HG.out w2 ((T1.out.mono (fun _ e => by cases e)).trans' t2); clear t2)
    | (at_builtin; refine wpList_append_rs rfl _ _ _ 128 rfl (.pointer none) 1 8 infoPT Tryd.underlying79 rfl (by decide) 0 (.slice none 0 0) 0 [] rfl (World.ownsRow_nil _ _ _ _) _ 1 [.pointer (some ⟨w.heap.size, 0, none⟩)] rfl (rs_ptr _ _) (fun y hy => by simp only [List.mem_singleton] at hy; subst hy; rfl) (by unfold maxLen; omega) (by omega) (by simp) ?_; intro v5 w5 o5 g5 e5; have G5 := hid (HE.out _ _ _ v5 T1.out T2.out g5); obtain ⟨a5, c5, rfl⟩ := own_form o5; have t5 : Touch [] w2 w5 := ((Touch.refl [] _).alloc _).grown g5 (fun k hk => by cases hk); obtain ⟨y1, y2, y3⟩ := HG.out w5 (((T1.out.mono (fun _ e => by cases e)).trans' T2.out).trans t5 (fun _ e => by cases e)); clear o5 g5 e5 t5)
    | fail)

  go_end0
  exact ⟨rfl, G5.out.1, _, G5.out.2⟩
set_option maxHeartbeats 4000000 in
set_option maxRecDepth 100000 in
theorem gwait_ (h : Gn w g op) (n x : Int) (hx : W64 x) (h0 : 0 ≤ n) (h1 : n < 256) : Calls Tryd.prog 65 #[.pointer (some ⟨g, 0, none⟩), .int .i64 n, .int .i64 x] w fun e w' => e = .returned (.tuple #[]) ∧ Touch [g] w w' := by
  have HP := hid (gput_ h (i := n.toNat) (by omega) x hx)
  have hg : g < w.heap.size := block_lt h
  have HE : Hid (∀ w2, Touch [g] w w2 → (∃ sl, w2.heap[g]? = some (.cells (gc op (fup (fun _ => .slice none 0 0) n.toNat sl) none) 85 (0, 0))) → (w2.cell? ⟨g, 512, none⟩ = some (.map none) ∧ w2.frozen? ⟨g, 512, none⟩ = false ∧ g < w2.heap.size) ∧ ∀ V, V = (w2.setCell ⟨g, 512, none⟩ (.map (some w2.heap.size))).alloc (.map #[] 0) → (V.cell? ⟨g, 512, none⟩ = some (.map (some w2.heap.size)) ∧ MapAt V w2.heap.size 0 (fun _ => none)) ∧ ∀ ob, Touch [g] w (setBlock V w2.heap.size ob)) := hid (fun w2 t2 ⟨sl, hb⟩ => by
    refine ⟨⟨cell_at hb (gc_where _ _ _), froz_at hb _, block_lt hb⟩, fun V hV => ?_⟩
    have t3 : Touch [g] w V := by
      rw [hV]
      exact (t2.setCell (p := ⟨g, 512, none⟩) (by simp) _).alloc _
    refine ⟨⟨?_, ?_⟩, fun ob => touch_setBlock t3 (Or.inr t2.size) ob⟩
    · have := bset (i := 512) hb (.map (some w2.heap.size))
      rw [gc_setwhere] at this
      rw [hV]
      exact cell_at ((Below.heap_alloc _ _ _ (by simp [World.setCell]; exact block_lt hb)).trans this) (gc_where _ _ _)
    · rw [hV]
      have := mapAt_made (w2.setCell ⟨g, 512, none⟩ (.map (some w2.heap.size)))
      simpa [World.setCell] using this)
  clear h
  have qIm := eqIm
  have hmm := @run_makeMap Tryd.prog
  go_enter Tryd.func65, Tryd.ntmps65
  go_wp2_with (first
    | (go_at_call 76; refine HP.out.mono ?_; rintro e w2 ⟨rfl, t2, s2⟩; obtain ⟨⟨c2, f2, g2⟩, R⟩ := HE.out w2 t2 s2; have RR := hid R; clear t2 s2 R)
    | (at_mapUpdate; refine wpList_mset _ rfl _ _ _ 83 rfl 3 Tryd.underlying83 w2.heap.size 0 (fun _ => none) rfl (RR.out _ rfl).1.2 (by unfold maxLen; omega) x rfl hx (.int .i64 n) rfl ?_; intro ob hM; have E := hid ((RR.out _ rfl).2 ob); clear hM)
    | fail)
  go_end0
  exact ⟨rfl, E.out⟩
set_option maxHeartbeats 4000000 in
theorem gcome_shut (h : Gn w g op) (n x : Int) (hx : W64 x) (h0 : 0 ≤ n) (h1 : n < 256) (ho : op n.toNat = false) : Calls Tryd.prog 49 #[.pointer (some ⟨g, 0, none⟩), .int .i64 n, .int .i64 x] w fun e w' => e = .returned (.tuple #[.bool false, .int .i64 0]) ∧ Touch [g] w w' := by
  have hi : n.toNat < 256 := by omega
  obtain ⟨c1, f1⟩ := h.cell hi
  rw [ho] at c1
  have HK := hid (gknown_ w g n h0 h1)
  have HW := hid (gwhere_ h x hx)
  have HA := hid (gwait_ h n x hx h0 h1)
  clear h hi h0 h1 ho
  generalize n.toNat * 2 = o at *
  go_enter Tryd.func49, Tryd.ntmps49
  go_wp2_with (first
    | (go_at_call 35; refine HK.out.mono ?_; rintro e w2 ⟨rfl, rfl⟩)
    | (go_at_call 64; refine HW.out.mono ?_; rintro e w2 ⟨rfl, rfl⟩)
    | (go_at_call 65; refine HA.out.mono ?_; rintro e w3 ⟨rfl, t3⟩; have T3 := hid t3; clear t3)
    | fail)
  exact bodyPost_ret (v := .tuple #[.bool false, .int .i64 0]) (by simp [results, Tryd.results49, go_sem]) rfl ⟨rfl, T3.out⟩
end
end Go.Proofs.YtcbckehdlbbbbaaDoor
/- Two small facts of this program's types, for the clock's texts; no conditions. -/
namespace Go.Proofs.YtcbckehdlbbbbaaDoor.Cl
open Go.RowKit Go.Maps Go.ChangeMaps
theorem zero2 (w : World) : (zeroValue 2).run Tryd.prog w = .ok (.int .i64 0) w := by kernel_rfl
theorem eq68 (w : World) (r : Option Nat) : (binOp .eql 83 (.map r) (.map none)).run Tryd.prog w = .ok (.bool r.isNone) w := run_eql_map_nil w _ _ _ r Tryd.underlying83
end Go.Proofs.YtcbckehdlbbbbaaDoor.Cl
/- Plain mathematics of a heap of slots: no program. -/
namespace Go.Proofs.YtcbckehdlbbbbaaDoor.Cl
set_option linter.unusedVariables false
structure Slot where
  at_ : Int
  put : Int
  item : Int
abbrev leS (x y : Slot) : Prop := x.at_ < y.at_ ∨ x.at_ = y.at_ ∧ x.put ≤ y.put
abbrev ltS (x y : Slot) : Prop := x.at_ < y.at_ ∨ x.at_ = y.at_ ∧ x.put < y.put
theorem leS.trans {a b c : Slot} (h : leS a b) (k : leS b c) : leS a c := by unfold leS at *; omega
theorem leS.refl (a : Slot) : leS a a := by unfold leS; omega
theorem ltS.le {a b : Slot} (h : ltS a b) : leS a b := by unfold leS ltS at *; omega
theorem not_lt {a b : Slot} : ¬ ltS a b ↔ leS b a := by unfold leS ltS; omega
theorem not_le {a b : Slot} : ¬ leS a b ↔ ltS b a := by unfold leS ltS; omega
theorem ltS.trans {a b c : Slot} (h : ltS a b) (k : ltS b c) : ltS a c := by unfold ltS at *; omega
theorem lt_of_le_ne {a b : Slot} (h : leS a b) (k : a.put ≠ b.put) : ltS a b := by unfold leS ltS at *; omega

def gt (s : List Slot) (i : Nat) : Slot := s.getD i ⟨0, 0, 0⟩
theorem gt_eq {s : List Slot} {i : Nat} (h : i < s.length) : gt s i = s[i] := by simp [gt, List.getD_eq_getElem?_getD, List.getElem?_eq_getElem h]
theorem gt_mem {s : List Slot} {i : Nat} (h : i < s.length) : gt s i ∈ s := by rw [gt_eq h]; exact List.getElem_mem h
def swp (s : List Slot) (i j : Nat) : List Slot := (s.set i (gt s j)).set j (gt s i)
theorem swp_len (s : List Slot) (i j : Nat) : (swp s i j).length = s.length := by simp [swp]
theorem swp_gt {s : List Slot} {i j : Nat} (hi : i < s.length) (hj : j < s.length) (k : Nat) : gt (swp s i j) k = if k = j then gt s i else if k = i then gt s j else gt s k := by
  by_cases hk : k < s.length
  · rw [gt_eq (by rw [swp_len]; exact hk)]
    unfold swp
    rw [List.getElem_set]
    by_cases h : j = k
    · rw [if_pos h, if_pos h.symm]
    · rw [if_neg h, if_neg (fun e => h e.symm), List.getElem_set]
      by_cases h' : i = k
      · rw [if_pos h', if_pos h'.symm]
      · rw [if_neg h', if_neg (fun e => h' e.symm), gt_eq hk]
  · have h1 : k ≠ j := by omega
    have h2 : k ≠ i := by omega
    rw [if_neg h1, if_neg h2]
    simp [gt, List.getD_eq_getElem?_getD, List.getElem?_eq_none (Nat.le_of_not_lt hk), List.getElem?_eq_none (show (swp s i j).length ≤ k by rw [swp_len]; omega)]
theorem swp_perm {s : List Slot} {i j : Nat} (hi : i < s.length) (hj : j < s.length) : (swp s i j).Perm s := by
  unfold swp
  rw [gt_eq hi, gt_eq hj]
  by_cases e : i = j
  · subst e
    simp
  · exact List.set_set_perm hi hj

def par (k : Nat) : Nat := (k - 1) / 2
def Heap (n : Nat) (s : List Slot) : Prop := ∀ k, 0 < k → k < n → leS (gt s (par k)) (gt s k)
def UpI (n : Nat) (s : List Slot) (j : Nat) : Prop := (∀ k, 0 < k → k < n → k ≠ j → leS (gt s (par k)) (gt s k)) ∧ (∀ k, 0 < k → k < n → par k = j → 0 < j → leS (gt s (par j)) (gt s k))
def Hole (n : Nat) (s : List Slot) (i : Nat) : Prop := (∀ k, 0 < k → k < n → k ≠ i → par k ≠ i → leS (gt s (par k)) (gt s k)) ∧ (∀ k, 0 < k → k < n → par k = i → 0 < i → leS (gt s (par i)) (gt s k))
theorem par_lt {k : Nat} (h : 0 < k) : par k < k := by unfold par; omega
theorem up_done {n : Nat} {s : List Slot} {j : Nat} (h : UpI n s j) (hj : j = 0 ∨ ¬ ltS (gt s j) (gt s (par j))) : Heap n s := fun k h0 hn => by
  by_cases e : k = j
  · subst e
    rcases hj with rfl | hj
    · omega
    · exact not_lt.1 hj
  · exact h.1 k h0 hn e
theorem up_step {n : Nat} {s : List Slot} {j : Nat} (h : UpI n s j) (hn : n ≤ s.length) (hj : j < n) (h0 : 0 < j) (hl : ltS (gt s j) (gt s (par j))) : UpI n (swp s (par j) j) (par j) := by
  have hp := par_lt h0
  have G := swp_gt (s := s) (i := par j) (j := j) (by omega) (by omega)
  refine ⟨fun k k0 kn ke => ?_, fun k k0 kn ke p0 => ?_⟩
  · rw [G, G]
    by_cases e1 : k = j
    · subst e1
      rw [if_pos rfl, if_neg (by omega), if_pos rfl]
      exact hl.le
    · rw [if_neg e1, if_neg ke]
      by_cases e2 : par k = j
      · rw [if_pos e2]
        exact h.2 k k0 kn e2 h0
      · rw [if_neg e2]
        by_cases e3 : par k = par j
        · rw [if_pos e3]
          have := h.1 k k0 kn e1
          rw [e3] at this
          exact hl.le.trans this
        · rw [if_neg e3]
          exact h.1 k k0 kn e1
  · have hpp := par_lt p0
    rw [G, G, if_neg (by omega), if_neg (by omega)]
    have hi := h.1 (par j) p0 (by omega) (by omega)
    by_cases e1 : k = j
    · rw [if_pos e1]
      exact hi
    · have hk := par_lt k0
      rw [if_neg e1, if_neg (by omega)]
      have := h.1 k k0 kn e1
      rw [ke] at this
      exact hi.trans this
theorem hole_step {n : Nat} {s : List Slot} {i j : Nat} (h : Hole n s i) (hn : n ≤ s.length) (hj : j < n) (h0 : 0 < j) (hp : par j = i) (hm : ∀ k, 0 < k → k < n → par k = i → leS (gt s j) (gt s k)) (hl : ltS (gt s j) (gt s i)) : Hole n (swp s i j) j ∧ leS (gt (swp s i j) (par j)) (gt (swp s i j) j) := by
  have hij := par_lt h0
  have G := swp_gt (s := s) (i := i) (j := j) (by omega) (by omega)
  refine ⟨⟨fun k k0 kn ke kp => ?_, fun k k0 kn ke p0 => ?_⟩, ?_⟩
  · have hk := par_lt k0
    rw [G, G, if_neg kp, if_neg ke]
    by_cases e1 : k = i
    · rw [if_pos e1, if_neg (by omega), e1]
      exact h.2 j h0 hj hp (by omega)
    · rw [if_neg e1]
      by_cases e2 : par k = i
      · rw [if_pos e2]
        exact hm k k0 kn e2
      · rw [if_neg e2]
        exact h.1 k k0 kn e1 e2
  · have hk := par_lt k0
    rw [G, G, hp, if_neg (by omega), if_pos rfl, if_neg (by omega), if_neg (by omega)]
    have := h.1 k k0 kn (by omega) (by omega)
    rw [ke] at this
    exact this
  · rw [G, G, hp, if_neg (by omega), if_pos rfl, if_pos rfl]
    exact hl.le
theorem hole_done {n : Nat} {s : List Slot} {i : Nat} (h : Hole n s i) (hp : 0 < i → leS (gt s (par i)) (gt s i)) (hc : ∀ k, 0 < k → k < n → par k = i → leS (gt s i) (gt s k)) : Heap n s := fun k k0 kn => by
  by_cases e1 : k = i
  · subst e1
    exact hp k0
  · by_cases e2 : par k = i
    · rw [e2]
      exact hc k k0 kn e2
    · exact h.1 k k0 kn e1 e2
theorem hole_up {n : Nat} {s : List Slot} {i : Nat} (h : Hole n s i) (hc : ∀ k, 0 < k → k < n → par k = i → leS (gt s i) (gt s k)) : UpI n s i := ⟨fun k k0 kn ke => by
  by_cases e2 : par k = i
  · rw [e2]
    exact hc k k0 kn e2
  · exact h.1 k k0 kn ke e2, h.2⟩
theorem heap_hole {n : Nat} {s : List Slot} {i : Nat} (h : Heap (n + 1) s) (hn : n < s.length) (hi : i < n) : Hole n (swp s i n) i := by
  have G := swp_gt (s := s) (i := i) (j := n) (by omega) (by omega)
  refine ⟨fun k k0 kn ke kp => ?_, fun k k0 kn ke p0 => ?_⟩
  · have hk := par_lt k0
    rw [G, G, if_neg (by omega), if_neg kp, if_neg (by omega), if_neg ke]
    exact h k k0 (by omega)
  · have hk := par_lt k0
    have hi := par_lt p0
    rw [G, G, if_neg (by omega), if_neg (by omega), if_neg (by omega), if_neg (by omega)]
    have h1 := h i p0 (by omega)
    have h2 := h k k0 (by omega)
    rw [ke] at h2
    exact h1.trans h2
theorem heap_mono {n m : Nat} {s : List Slot} (h : Heap n s) (hm : m ≤ n) : Heap m s := fun k k0 km => h k k0 (by omega)
theorem heap_min {n : Nat} {s : List Slot} (h : Heap n s) : ∀ k, k < n → leS (gt s 0) (gt s k) := by
  intro k
  induction k using Nat.strongRecOn with
  | _ k ih =>
    intro hk
    by_cases e : k = 0
    · subst e
      exact leS.refl _
    · have := par_lt (by omega : 0 < k)
      exact (ih (par k) this (by omega)).trans (h k (by omega) hk)
theorem heap_snoc {s : List Slot} {x : Slot} (h : Heap s.length s) : UpI (s ++ [x]).length (s ++ [x]) s.length := by
  have G : ∀ k, k < s.length → gt (s ++ [x]) k = gt s k := fun k hk => by
    rw [gt_eq (by simp; omega), gt_eq hk, List.getElem_append_left]
  refine ⟨fun k k0 kn ke => ?_, fun k k0 kn ke p0 => ?_⟩
  · simp at kn
    have := par_lt k0
    rw [G _ (by omega), G _ (by omega)]
    exact h k k0 (by omega)
  · have := par_lt k0
    simp at kn
    omega
theorem heap_congr {n : Nat} {s t : List Slot} (h : Heap n s) (he : ∀ k, k < n → gt s k = gt t k) : Heap n t := fun k k0 kn => by
  have := par_lt k0
  rw [← he k kn, ← he (par k) (by omega)]
  exact h k k0 kn
theorem heap_dropLast {s : List Slot} (h : Heap (s.length - 1) s) : Heap s.dropLast.length s.dropLast := by
  rw [List.length_dropLast]
  refine heap_congr h (fun k hk => ?_)
  rw [gt_eq (by omega), gt_eq (by rw [List.length_dropLast]; omega), List.getElem_dropLast]
end Go.Proofs.YtcbckehdlbbbbaaDoor.Cl
/- The contracts of cmp.Compare, cmp.Or and of the order of slots; no conditions. -/
namespace Go.Proofs.YtcbckehdlbbbbaaDoor.Cl
open Go.RowKit Go.Maps Go.ChangeMaps
set_option linter.unusedVariables false

def cmpI (a b : Int) : Int := if a < b then -1 else if b < a then 1 else 0
def orI (x y : Int) : Int := if x ≠ 0 then x else y
def cmpS (x y : Slot) : Int := orI (cmpI x.at_ y.at_) (cmpI x.put y.put)
theorem cmpI_bd (a b : Int) : -1 ≤ cmpI a b ∧ cmpI a b ≤ 1 := by unfold cmpI; split <;> (try split) <;> omega
theorem cmpS_neg (x y : Slot) : cmpS x y < 0 ↔ ltS x y := by
  unfold cmpS orI cmpI ltS
  rcases Int.lt_trichotomy x.at_ y.at_ with h | h | h
  · simp [h]
  · simp [h]
    split <;> (try split) <;> omega
  · have h' : ¬ x.at_ < y.at_ := by omega
    have h2 : ¬ x.at_ = y.at_ := by omega
    simp [h, h', h2]
theorem cmp49 (a b : Int) (w : World) : Calls Tryd.prog 115 #[.int .i64 a, .int .i64 b] w fun e w' => e = .returned (.int .i64 (cmpI a b)) ∧ w' = w := by
  rcases Int.lt_trichotomy a b with h | h | h
  · go_enter Tryd.func115, Tryd.ntmps115
    go_wp2
    go_ret
    exact ⟨by simp [cmpI, h], rfl⟩
  · subst h
    go_enter Tryd.func115, Tryd.ntmps115
    go_wp2
    go_ret
    exact ⟨by simp [cmpI], rfl⟩
  · have h' : ¬ a < b := by omega
    go_enter Tryd.func115, Tryd.ntmps115
    go_wp2
    go_ret
    exact ⟨by simp [cmpI, h, h'], rfl⟩
theorem cmp50 (a b : Int) (w : World) : Calls Tryd.prog 116 #[.int .i64 a, .int .i64 b] w fun e w' => e = .returned (.int .i64 (cmpI a b)) ∧ w' = w := by
  rcases Int.lt_trichotomy a b with h | h | h
  · go_enter Tryd.func116, Tryd.ntmps116
    go_wp2
    go_ret
    exact ⟨by simp [cmpI, h], rfl⟩
  · subst h
    go_enter Tryd.func116, Tryd.ntmps116
    go_wp2
    go_ret
    exact ⟨by simp [cmpI], rfl⟩
  · have h' : ¬ a < b := by omega
    go_enter Tryd.func116, Tryd.ntmps116
    go_wp2
    go_ret
    exact ⟨by simp [cmpI, h, h'], rfl⟩
theorem or48 (x y : Int) (b : Nat) (w : World) (h0 : w.cell? ⟨b, 0, none⟩ = some (.int .i64 x)) (h1 : w.cell? ⟨b, 1, none⟩ = some (.int .i64 y)) :
    Calls Tryd.prog 114 #[.slice (some ⟨b, 0, none⟩) 2 2] w fun e w' => e = .returned (.int .i64 (orI x y)) ∧ w' = w := by
  go_enter Tryd.func114, Tryd.ntmps114
  go_wp2
  go_loop [8] (fun i => ∃ k : Nat, k ≤ 2 ∧ i = .int .i64 k ∧ (0 < k → x = 0) ∧ (1 < k → y = 0)) (fun i => 2 - (intOf i).toNat)
  case atStart => exact ⟨0, by omega, rfl, by omega, by omega⟩
  case round =>
    obtain ⟨k, hk, rfl, hx, hy⟩ := hrel
    have HX := hid hx
    have HY := hid hy
    clear hx hy
    rcases (by omega : k = 0 ∨ k = 1 ∨ k = 2) with rfl | rfl | rfl
    · by_cases e : x = 0
      · have e' : (x != 0) = false := by simp [e]
        have E := hid e
        clear e
        go_wp2
        go_round
        case rel => exact ⟨1, by omega, rfl, fun _ => E.out, by omega⟩
        case measure => simp [intOf]
      · have e' : (x != 0) = true := by simp [e]
        have E := hid e
        clear e
        go_wp2
        go_ret
        exact ⟨by simp [orI, E.out], rfl⟩
    · have ex := HX.out (by omega)
      subst ex
      by_cases e : y = 0
      · have e' : (y != 0) = false := by simp [e]
        have E := hid e
        clear e
        go_wp2
        go_round
        case rel => exact ⟨2, by omega, rfl, by simp, fun _ => E.out⟩
        case measure => simp [intOf]
      · have e' : (y != 0) = true := by simp [e]
        clear e
        go_wp2
        go_ret
        exact ⟨by simp [orI], rfl⟩
    · have ex := HX.out (by omega)
      have ey := HY.out (by omega)
      subst ex ey
      go_wp2
      go_ret
      exact ⟨by simp [orI], rfl⟩
def sv (x : Slot) : Value := .agg #[.int .i64 x.at_, .int .i64 x.put, .int .i64 x.item]
/-- Draws, and blocks laid behind. -/
def Gw (w w' : World) : Prop := ∃ n os, w' = Go.Sort.grow (w.drewN n) os
theorem Gw.refl (w : World) : Gw w w := ⟨0, #[], by rw [Go.Sort.grow_empty]; rfl⟩
theorem Gw.trans {a b c : World} (h : Gw a b) (k : Gw b c) : Gw a c := by
  obtain ⟨n, os, rfl⟩ := h
  obtain ⟨m, ps, rfl⟩ := k
  exact ⟨n + m, os ++ ps, by show Go.Sort.grow (Go.Sort.grow ((a.drewN n).drewN m) os) ps = _; rw [Go.Sort.grow_grow, World.drewN_drewN]⟩
theorem Gw.drew {a b : World} (h : Gw a b) : Gw a b.drew := h.trans ⟨1, #[], by rw [Go.Sort.grow_empty]; rfl⟩
theorem Gw.alloc {a b : World} (h : Gw a b) (o : Obj) : Gw a (b.alloc o) := h.trans ⟨0, #[o], Go.Sort.alloc_eq_grow b o⟩
theorem Gw.touch {a b : World} (h : Gw a b) : Touch [] a b := by
  obtain ⟨n, os, rfl⟩ := h
  exact ⟨rfl, rfl, rfl, by simp [Go.Sort.grow], fun k hk _ => by simp [Go.Sort.grow, Array.getElem?_append, hk]⟩
theorem Gw.cell {a b : World} (h : Gw a b) {p : Addr} {v : Value} (hc : a.cell? p = some v) : b.cell? p = some v :=
  (World.cell?_of_block (h.touch.block p.block (World.block_lt_of_cell? a p hc) (by simp))).trans hc
theorem Gw.size {a b : World} (h : Gw a b) : a.heap.size ≤ b.heap.size := h.touch.size
set_option maxHeartbeats 1000000 in
theorem compare41 (x y : Slot) (w : World) : Calls Tryd.prog 113 #[sv x, sv y] w fun e w' => e = .returned (.int .i64 (cmpS x y)) ∧ Gw w w' := by
  unfold sv
  go_enter Tryd.func113, Tryd.ntmps113
  go_wp2
  obtain ⟨W, hW⟩ : ∃ W, W = (w.alloc (Obj.cells #[.int .i64 x.at_, .int .i64 x.put, .int .i64 x.item] 152)).alloc (Obj.cells #[.int .i64 y.at_, .int .i64 y.put, .int .i64 y.item] 152) := ⟨_, rfl⟩
  have HG : Hid (Gw w W) := by show Gw _ _; rw [hW]; exact ((Gw.refl _).alloc _).alloc _
  have f0 : ∀ w', Gw W w' → w'.cell? ⟨w.heap.size, 0, none⟩ = some (.int .i64 x.at_) := fun w' h => h.cell (by rw [hW]; simp)
  have f1 : ∀ w', Gw W w' → w'.cell? ⟨w.heap.size, 1, none⟩ = some (.int .i64 x.put) := fun w' h => h.cell (by rw [hW]; simp)
  have g0 : ∀ w', Gw W w' → w'.cell? ⟨w.heap.size + 1, 0, none⟩ = some (.int .i64 y.at_) := fun w' h => h.cell (by rw [hW]; simp)
  have g1 : ∀ w', Gw W w' → w'.cell? ⟨w.heap.size + 1, 1, none⟩ = some (.int .i64 y.put) := fun w' h => h.cell (by rw [hW]; simp)
  rw [← hW]
  clear hW
  generalize w.heap.size + 1 = gb at *
  generalize w.heap.size = fb at *
  go_region_held3 (fun w' => Gw W w') (first | assumption | exact (Gw.refl _).drew | exact Gw.refl _ | exact Gw.drew (by assumption) | exact Gw.alloc (by assumption) _)
    (first
      | (go_at_call 115; refine (cmp49 _ _ _).mono ?_; rintro e w1 ⟨rfl, rfl⟩)
      | (go_at_call 116; refine (cmp50 _ _ _).mono ?_; rintro e w1 ⟨rfl, rfl⟩)
      | (go_at_call 114; refine (or48 (cmpI x.at_ y.at_) (cmpI x.put y.put) _ _ (by simp) (by simp)).mono ?_; rintro e w1 ⟨rfl, rfl⟩))
  go_wp2
  go_ret
  exact ⟨rfl, HG.out.trans (by assumption)⟩
end Go.Proofs.YtcbckehdlbbbbaaDoor.Cl
/- Rows of structs of whole numbers that a call owns: reading and writing a cell; and how a queue by time lies in memory. -/
namespace Go.Proofs.YtcbckehdlbbbbaaDoor.Cl
open Go.RowKit Go.Maps Go.ChangeMaps
set_option linter.unusedVariables false

theorem own_block {w : World} {base e g c n k : Nat} {xs : List Value} (h : w.ownsRow base e k (.slice (some ⟨g, 0, none⟩) n c) n xs) :
    ∃ cur, w.heap[g]? = some (.cells cur e (0, 0)) ∧ n ≤ c ∧ c ≤ maxLen ∧ cur.size = c * k ∧ cur.toList.take (n * k) = xs ∧ base ≤ g ∧ xs.length = n * k := by
  obtain ⟨h1, h2 | ⟨g', cap', cur, hv, hg, hc, hn, hm, hs, ht⟩⟩ := h
  · cases h2.1
  · simp only [Value.slice.injEq, Option.some.injEq, Addr.mk.injEq, and_true, true_and] at hv
    obtain ⟨rfl, rfl⟩ := hv
    exact ⟨cur, hc, hn, hm, hs, ht, hg, h1⟩
theorem own_cell {w : World} {base e g c n k : Nat} {xs : List Value} (h : w.ownsRow base e k (.slice (some ⟨g, 0, none⟩) n c) n xs) {p : Nat} {v : Value} (hp : xs[p]? = some v) :
    w.cell? ⟨g, p, none⟩ = some v := by
  obtain ⟨cur, hc, hn, hm, hs, ht, hg, hl⟩ := own_block h
  have hp' : p < xs.length := (List.getElem?_eq_some_iff.1 hp).1
  have : cur[p]? = some v := by
    rw [← Array.getElem?_toList, ← hp, ← ht, List.getElem?_take, if_pos (by omega)]
  simp [World.cell?, hc, this]
theorem own_frozen {w : World} {base e g c n k : Nat} {xs : List Value} (h : w.ownsRow base e k (.slice (some ⟨g, 0, none⟩) n c) n xs) (p : Nat) : w.frozen? ⟨g, p, none⟩ = false := by
  obtain ⟨cur, hc, _⟩ := own_block h
  exact Joins.unfrozen_of_block hc _
theorem own_set {w : World} {base e g c n k : Nat} {xs : List Value} (h : w.ownsRow base e k (.slice (some ⟨g, 0, none⟩) n c) n xs) (p : Nat) (v : Value) :
    (w.setCell ⟨g, p, none⟩ v).ownsRow base e k (.slice (some ⟨g, 0, none⟩) n c) n (xs.set p v) := by
  obtain ⟨cur, hc, hn, hm, hs, ht, hg, hl⟩ := own_block h
  refine ⟨by rw [List.length_set]; exact hl, Or.inr ⟨g, c, cur.setIfInBounds p v, rfl, hg, Joins.block_setCell hc _, hn, hm, by simp [hs], ?_⟩⟩
  rw [Array.toList_setIfInBounds, List.take_set, ht]
theorem own_keep {w w' : World} {base e n k : Nat} {v : Value} {xs : List Value} (h : w.ownsRow base e k v n xs) (hk : ∀ b, v.ownBlock = some b → w'.heap[b]? = w.heap[b]?) : w'.ownsRow base e k v n xs := by
  obtain ⟨h1, h2 | ⟨g, cap, cur, rfl, hg, hc, r⟩⟩ := h
  · exact ⟨h1, Or.inl h2⟩
  · exact ⟨h1, Or.inr ⟨g, cap, cur, rfl, hg, (hk g rfl).trans hc, r⟩⟩
theorem own_touch {F : List Nat} {w w' : World} {base e n k : Nat} {v : Value} {xs : List Value} (h : w.ownsRow base e k v n xs) (ht : Touch F w w') (hk : ∀ b, v.ownBlock = some b → ¬ b ∈ F) : w'.ownsRow base e k v n xs :=
  own_keep h (fun b hb => ht.block b (h.lt b hb).2 (hk b hb))
theorem own_form {w : World} {base e n k : Nat} {v : Value} {xs : List Value} (h : w.ownsRow base e k v n xs) : ∃ p c, v = .slice p n c := by
  rcases h.2 with ⟨rfl, rfl⟩ | ⟨g, cap, cur, rfl, _⟩
  · exact ⟨_, _, rfl⟩
  · exact ⟨_, _, rfl⟩

def iv (x : Int) : Value := .int .i64 x
def cells3 (x : Slot) : List Value := [.int .i64 x.at_, .int .i64 x.put, .int .i64 x.item]
def flat (s : List Slot) : List Value := s.flatMap cells3
theorem flat_cons (x : Slot) (s : List Slot) : flat (x :: s) = .int .i64 x.at_ :: .int .i64 x.put :: .int .i64 x.item :: flat s := by simp [flat, cells3]
theorem flat_app (s t : List Slot) : flat (s ++ t) = flat s ++ flat t := by simp [flat]
theorem flat_len (s : List Slot) : (flat s).length = s.length * 3 := by
  induction s with
  | nil => rfl
  | cons x s ih => rw [flat_cons]; simp [ih]; omega
theorem flat_at : ∀ (s : List Slot) (i : Nat), i < s.length → (flat s)[i * 3]? = some (.int .i64 (gt s i).at_) ∧ (flat s)[i * 3 + 1]? = some (.int .i64 (gt s i).put) ∧ (flat s)[i * 3 + 2]? = some (.int .i64 (gt s i).item)
  | x :: s, 0, _ => by rw [flat_cons]; simp [gt]
  | x :: s, i + 1, h => by
    have ih := flat_at s i (by simpa using h)
    rw [flat_cons, show (i + 1) * 3 = i * 3 + 1 + 1 + 1 by omega, show i * 3 + 1 + 1 + 1 + 1 = (i * 3 + 1) + 1 + 1 + 1 by omega, show i * 3 + 1 + 1 + 1 + 2 = (i * 3 + 2) + 1 + 1 + 1 by omega]
    simpa [gt] using ih
theorem flat_set : ∀ (s : List Slot) (i : Nat) (x : Slot), i < s.length → flat (s.set i x) = (((flat s).set (i * 3) (.int .i64 x.at_)).set (i * 3 + 1) (.int .i64 x.put)).set (i * 3 + 2) (.int .i64 x.item)
  | a :: s, 0, x, _ => by simp [flat_cons]
  | a :: s, i + 1, x, h => by
    have ih := flat_set s i x (by simpa using h)
    rw [List.set_cons_succ, flat_cons, flat_cons, ih, show (i + 1) * 3 = i * 3 + 1 + 1 + 1 by omega, show i * 3 + 1 + 1 + 1 + 1 = (i * 3 + 1) + 1 + 1 + 1 by omega, show i * 3 + 1 + 1 + 1 + 2 = (i * 3 + 2) + 1 + 1 + 1 by omega]
    rfl
def idx (s : List Slot) (k : Int) : Option Nat := s.findIdx? (fun x => x.item == k)
def pmap (s : List Slot) (k : Int) : Option Value := (idx s k).map (fun i : Nat => Value.int .i64 (i : Int))
def Nd (s : List Slot) : Prop := (s.map Slot.item).Nodup
theorem nd_at {s : List Slot} (h : Nd s) {i j : Nat} (hi : i < s.length) (hj : j < s.length) (e : (gt s i).item = (gt s j).item) : i = j := by
  have H : ∀ a b, a < b → b < s.length → (gt s a).item ≠ (gt s b).item := fun a b hab hb => by
    have := (List.pairwise_iff_getElem.1 h) a b (by simp; omega) (by simpa using hb) hab
    simpa [gt_eq hb, gt_eq (Nat.lt_trans hab hb)] using this
  rcases Nat.lt_trichotomy i j with h1 | h1 | h1
  · exact absurd e (H i j h1 hj)
  · exact h1
  · exact absurd e.symm (H j i h1 hi)
theorem idx_at {s : List Slot} (h : Nd s) {i : Nat} (hi : i < s.length) : idx s (gt s i).item = some i := by
  unfold idx
  rw [List.findIdx?_eq_some_iff_getElem]
  refine ⟨hi, by simp [gt_eq hi], fun j hj => ?_⟩
  simp
  intro e
  have := nd_at h (i := j) (j := i) (by omega) hi (by rw [gt_eq (by omega)]; exact e)
  omega
theorem idx_some {s : List Slot} {k : Int} {i : Nat} (h : idx s k = some i) : i < s.length ∧ (gt s i).item = k := by
  unfold idx at h
  rw [List.findIdx?_eq_some_iff_getElem] at h
  obtain ⟨h1, h2, _⟩ := h
  exact ⟨h1, by rw [gt_eq h1]; simpa using h2⟩
theorem idx_none {s : List Slot} {k : Int} : idx s k = none ↔ ∀ x ∈ s, x.item ≠ k := by
  unfold idx
  rw [List.findIdx?_eq_none_iff]
  simp
theorem nd_perm {s t : List Slot} (h : Nd s) (p : t.Perm s) : Nd t := (p.map Slot.item).nodup_iff.2 h
/-- The map behind an exchange of two places. -/
theorem pmap_swp {s : List Slot} (h : Nd s) {i j : Nat} (hi : i < s.length) (hj : j < s.length) (hij : i ≠ j) (k : Int) :
    upd (upd (pmap s) (gt s j).item (.int .i64 i)) (gt s i).item (.int .i64 j) k = pmap (swp s i j) k := by
  have h' := nd_perm h (swp_perm hi hj)
  have G := swp_gt hi hj
  simp only [upd]
  by_cases e1 : k = (gt s i).item
  · rw [if_pos e1, e1]
    have := idx_at h' (i := j) (by rw [swp_len]; exact hj)
    rw [G, if_pos rfl] at this
    simp [pmap, this]
  · rw [if_neg e1]
    by_cases e2 : k = (gt s j).item
    · rw [if_pos e2, e2]
      have := idx_at h' (i := i) (by rw [swp_len]; exact hi)
      rw [G, if_neg hij, if_pos rfl] at this
      simp [pmap, this]
    · rw [if_neg e2]
      unfold pmap
      congr 1
      cases hk : idx s k with
      | none =>
        symm
        rw [idx_none] at hk ⊢
        exact fun x hx => hk x ((swp_perm hi hj).mem_iff.1 hx)
      | some p =>
        obtain ⟨p1, p2⟩ := idx_some hk
        have n1 : p ≠ i := fun e => e1 (by rw [← p2, e])
        have n2 : p ≠ j := fun e => e2 (by rw [← p2, e])
        have := idx_at h' (i := p) (by rw [swp_len]; exact p1)
        rw [G, if_neg n2, if_neg n1, p2] at this
        exact this.symm

def HC (w : World) (q : Nat) (sl : Value) (m : Option Nat) (p : Int) : Prop := w.heap[q]? = some (.cells #[sl, .map m, .int .i64 p] 120 (0, 0))
theorem HC.c0 {w : World} {q : Nat} {sl : Value} {m : Option Nat} {p : Int} (h : HC w q sl m p) : w.cell? ⟨q, 0, none⟩ = some sl := by unfold HC at h; simp [World.cell?, h]
theorem HC.c1 {w : World} {q : Nat} {sl : Value} {m : Option Nat} {p : Int} (h : HC w q sl m p) : w.cell? ⟨q, 1, none⟩ = some (.map m) := by unfold HC at h; simp [World.cell?, h]
theorem HC.c2 {w : World} {q : Nat} {sl : Value} {m : Option Nat} {p : Int} (h : HC w q sl m p) : w.cell? ⟨q, 2, none⟩ = some (.int .i64 p) := by unfold HC at h; simp [World.cell?, h]
theorem HC.fr {w : World} {q : Nat} {sl : Value} {m : Option Nat} {p : Int} (h : HC w q sl m p) (i : Nat) : w.frozen? ⟨q, i, none⟩ = false := by unfold HC at h; simp [World.frozen?, h]
def WfS (s : List Slot) : Prop := ∀ x ∈ s, W64 x.at_ ∧ W64 x.put ∧ W64 x.item
structure HQ (w : World) (q : Nat) (sl : Value) (m : Option Nat) (p : Int) (s : List Slot) : Prop where
  hc : HC w q sl m p
  row : w.ownsRow 0 152 3 sl s.length (flat s)
  mp : (m = none ∧ s = []) ∨ ∃ b, m = some b ∧ MapAt w b s.length (pmap s)
  nd : Nd s
  wf : WfS s
  le : s.length ≤ 65536
def fq (q : Nat) (sl : Value) (m : Option Nat) : List Nat := q :: (sl.ownBlock.toList ++ m.toList)
theorem row_ne {w : World} {q n : Nat} {sl sl' : Value} {m : Option Nat} {p : Int} {xs : List Value} {e k : Nat} (hc : HC w q sl m p) (h : w.ownsRow 0 e k sl' n xs) (he : e ≠ 120) : ∀ b, sl'.ownBlock = some b → b ≠ q := by
  intro b hb e'
  obtain ⟨h1, h2 | ⟨g, cap, cur, rfl, hg, hcc, r⟩⟩ := h
  · rw [h2.1] at hb; cases hb
  · simp [Value.ownBlock] at hb
    subst hb e'
    unfold HC at hc
    rw [hcc] at hc
    simp at hc
    exact he hc.2
theorem row_nm {w : World} {n b k : Nat} {sl : Value} {xs : List Value} {e : Nat} {nn : Nat} {f : Int → Option Value} (h : w.ownsRow 0 e k sl n xs) (hm : MapAt w b nn f) : ∀ g, sl.ownBlock = some g → g ≠ b := by
  intro g hb e'
  obtain ⟨h1, h2 | ⟨g, cap, cur, rfl, hg, hcc, r⟩⟩ := h
  · rw [h2.1] at hb; cases hb
  · simp [Value.ownBlock] at hb
    subst hb e'
    obtain ⟨D, ⟨es, cl, hb, _⟩, _⟩ := hm
    rw [hb] at hcc
    simp at hcc
end Go.Proofs.YtcbckehdlbbbbaaDoor.Cl
/- The contracts of the heap's Len, Less and Swap. -/
namespace Go.Proofs.YtcbckehdlbbbbaaDoor.Cl
open Go.RowKit Go.Maps Go.ChangeMaps
set_option linter.unusedVariables false
def PT (q : Nat) : Value := .pointer (some ⟨q, 0, none⟩)
theorem len86 (w : World) (q : Nat) (sl : Value) (m : Option Nat) (p : Int) (s : List Slot) (h : HQ w q sl m p s) :
    Calls Tryd.prog 108 #[PT q] w fun e w' => e = .returned (.int .i64 s.length) ∧ w' = w := by
  have c0 := h.hc.c0
  obtain ⟨a, c, rfl⟩ := own_form h.row
  clear h
  unfold PT
  go_enter Tryd.func108, Tryd.ntmps108
  go_wp2
  go_ret
  exact ⟨rfl, rfl⟩
theorem HQ.slice {w : World} {q : Nat} {sl : Value} {m : Option Nat} {p : Int} {s : List Slot} (h : HQ w q sl m p s) (h0 : 0 < s.length) : ∃ g c, sl = .slice (some ⟨g, 0, none⟩) s.length c := by
  obtain ⟨g, c, h, _⟩ := h.row.form h0
  exact ⟨g, c, h⟩
def ltB (x y : Slot) : Bool := decide (ltS x y)
set_option maxHeartbeats 1000000 in
theorem less87 (w : World) (q : Nat) (sl : Value) (m : Option Nat) (p : Int) (s : List Slot) (i j : Nat) (hi : i < s.length) (hj : j < s.length) (h : HQ w q sl m p s) :
    Calls Tryd.prog 109 #[PT q, .int .i64 i, .int .i64 j] w fun e w' => e = .returned (.bool (ltB (gt s i) (gt s j))) ∧ Gw w w' := by
  obtain ⟨g, c, rfl⟩ := h.slice (by omega)
  have hle := h.le
  obtain ⟨x0, x1, x2⟩ := flat_at s i hi
  obtain ⟨y0, y1, y2⟩ := flat_at s j hj
  have a0 : ∀ w', Gw w w' → w'.cell? ⟨g, i * 3, none⟩ = some (.int .i64 (gt s i).at_) := fun w' k => k.cell (own_cell h.row x0)
  have a1 : ∀ w', Gw w w' → w'.cell? ⟨g, i * 3 + 1, none⟩ = some (.int .i64 (gt s i).put) := fun w' k => k.cell (own_cell h.row x1)
  have a2 : ∀ w', Gw w w' → w'.cell? ⟨g, i * 3 + 2, none⟩ = some (.int .i64 (gt s i).item) := fun w' k => k.cell (own_cell h.row x2)
  have b0 : ∀ w', Gw w w' → w'.cell? ⟨g, j * 3, none⟩ = some (.int .i64 (gt s j).at_) := fun w' k => k.cell (own_cell h.row y0)
  have b1 : ∀ w', Gw w w' → w'.cell? ⟨g, j * 3 + 1, none⟩ = some (.int .i64 (gt s j).put) := fun w' k => k.cell (own_cell h.row y1)
  have b2 : ∀ w', Gw w w' → w'.cell? ⟨g, j * 3 + 2, none⟩ = some (.int .i64 (gt s j).item) := fun w' k => k.cell (own_cell h.row y2)
  have c0 : ∀ w', Gw w w' → w'.cell? ⟨q, 0, none⟩ = some (.slice (some ⟨g, 0, none⟩) s.length c) := fun w' k => k.cell h.hc.c0
  have zi : (i : Int) < (s.length : Int) := by omega
  have zj : (j : Int) < (s.length : Int) := by omega
  have zl : (s.length : Int) ≤ 65536 := by omega
  have HD : Hid (decide (cmpS (gt s i) (gt s j) < 0) = ltB (gt s i) (gt s j)) := by
    show _ = _
    unfold ltB
    rw [decide_eq_decide]
    exact cmpS_neg _ _
  clear h x0 x1 x2 y0 y1 y2
  unfold PT
  generalize s.length = n at *
  generalize gt s i = x at *
  generalize gt s j = y at *
  go_enter Tryd.func109, Tryd.ntmps109
  go_wp2
  go_region_held3 (fun w' => Gw w w') (first | assumption | exact (Gw.refl _).drew | exact Gw.refl _ | exact Gw.drew (by assumption))
    (first | (go_at_call 113; refine (compare41 x y _).mono ?_; rintro e w1 ⟨rfl, hg1⟩; have K1 : Gw w w1 := Gw.trans (by assumption) hg1; clear hg1))
  go_wp2
  go_ret
  exact ⟨congrArg (fun b => Ending.returned (.bool b)) HD.out, by assumption⟩
theorem HC.keep {w w' : World} {q : Nat} {sl : Value} {m : Option Nat} {p : Int} (h : HC w q sl m p) (hk : w'.heap[q]? = w.heap[q]?) : HC w' q sl m p := hk.trans h
theorem _root_.Go.Proofs.YtcbckehdlbbbbaaDoor.MapAt.same {w : World} {b n k : Nat} {f : Int → Option Value} (h : MapAt w b n f) (e : n = k) : MapAt w b k f := e ▸ h
theorem maxLen_big' {n : Nat} (h : n ≤ 65536) : n < maxLen := by unfold maxLen; omega
theorem wf_perm {s t : List Slot} (h : WfS s) (p : t.Perm s) : WfS t := fun x hx => h x (p.mem_iff.1 hx)
theorem row_swp {w : World} {g c : Nat} {s : List Slot} (h : w.ownsRow 0 152 3 (.slice (some ⟨g, 0, none⟩) s.length c) s.length (flat s)) {i j : Nat} (hi : i < s.length) (hj : j < s.length) :
    ((((((w.setCell ⟨g, i * 3, none⟩ (.int .i64 (gt s j).at_)).setCell ⟨g, i * 3 + 1, none⟩ (.int .i64 (gt s j).put)).setCell ⟨g, i * 3 + 2, none⟩ (.int .i64 (gt s j).item)).setCell ⟨g, j * 3, none⟩ (.int .i64 (gt s i).at_)).setCell ⟨g, j * 3 + 1, none⟩ (.int .i64 (gt s i).put)).setCell ⟨g, j * 3 + 2, none⟩ (.int .i64 (gt s i).item)).ownsRow 0 152 3 (.slice (some ⟨g, 0, none⟩) s.length c) s.length (flat (swp s i j)) := by
  unfold swp
  rw [flat_set _ _ _ (by simpa using hj), flat_set _ _ _ hi]
  exact own_set (own_set (own_set (own_set (own_set (own_set h _ _) _ _) _ _) _ _) _ _) _ _
theorem pmap_at {s : List Slot} (h : Nd s) {i : Nat} (hi : i < s.length) : pmap s (gt s i).item = some (.int .i64 i) := by simp [pmap, idx_at h hi]
def swW (w : World) (g : Nat) (i j : Nat) (x y : Slot) : World := ((((((w.setCell ⟨g, i * 3, none⟩ (.int .i64 y.at_)).setCell ⟨g, i * 3 + 1, none⟩ (.int .i64 y.put)).setCell ⟨g, i * 3 + 2, none⟩ (.int .i64 y.item)).setCell ⟨g, j * 3, none⟩ (.int .i64 x.at_)).setCell ⟨g, j * 3 + 1, none⟩ (.int .i64 x.put)).setCell ⟨g, j * 3 + 2, none⟩ (.int .i64 x.item)).drew
theorem own_drew {w : World} {base e n k : Nat} {v : Value} {xs : List Value} (h : w.ownsRow base e k v n xs) : w.drew.ownsRow base e k v n xs := own_keep h (fun _ _ => rfl)
theorem swW_touch (w : World) (g i j : Nat) (x y : Slot) : Touch [g] w (swW w g i j x y) := by
  unfold swW
  refine Touch.drew ?_
  refine Touch.setCell ?_ (by simp) _
  refine Touch.setCell ?_ (by simp) _
  refine Touch.setCell ?_ (by simp) _
  refine Touch.setCell ?_ (by simp) _
  refine Touch.setCell ?_ (by simp) _
  refine Touch.setCell ?_ (by simp) _
  exact Touch.refl _ _
theorem swW_row {w : World} {g c : Nat} {s : List Slot} (h : w.ownsRow 0 152 3 (.slice (some ⟨g, 0, none⟩) s.length c) s.length (flat s)) {i j : Nat} (hi : i < s.length) (hj : j < s.length) :
    (swW w g i j (gt s i) (gt s j)).ownsRow 0 152 3 (.slice (some ⟨g, 0, none⟩) s.length c) s.length (flat (swp s i j)) := by
  have := row_swp h hi hj
  unfold swW
  exact own_drew this
theorem HQ.map {w : World} {q b : Nat} {sl : Value} {p : Int} {s : List Slot} (h : HQ w q sl (some b) p s) : MapAt w b s.length (pmap s) := by
  rcases h.mp with ⟨e, _⟩ | ⟨b', e, hm⟩
  · cases e
  · cases e; exact hm
theorem HC.map_ne {w : World} {q b n : Nat} {sl : Value} {m : Option Nat} {p : Int} {f : Int → Option Value} (h : HC w q sl m p) (hm : MapAt w b n f) : b ≠ q := fun e => by
  obtain ⟨D, ⟨es, cl, hb, _⟩, _⟩ := hm
  unfold HC at h
  rw [← e, hb] at h
  simp at h
theorem swap_world (w : World) (q b g c : Nat) (p : Int) (s : List Slot) (i j : Nat) (hi : i < s.length) (hj : j < s.length) (hij : i ≠ j) (h : HQ w q (.slice (some ⟨g, 0, none⟩) s.length c) (some b) p s) (V : World) (hV : V = swW w g i j (gt s i) (gt s j)) :
    ∃ W2 W3, (Instr.mapUpdate 83 (.map (some b)) (.int .i64 (gt s j).item) (.int .i64 i)).run Tryd.prog V.drew = .ok () W2 ∧ (Instr.mapUpdate 83 (.map (some b)) (.int .i64 (gt s i).item) (.int .i64 j)).run Tryd.prog W2.drew = .ok () W3 ∧
      V.cell? ⟨g, i * 3 + 2, none⟩ = some (.int .i64 (gt s j).item) ∧ W2.cell? ⟨g, j * 3 + 2, none⟩ = some (.int .i64 (gt s i).item) ∧
      HC V q (.slice (some ⟨g, 0, none⟩) s.length c) (some b) p ∧ HC W2 q (.slice (some ⟨g, 0, none⟩) s.length c) (some b) p ∧
      (Touch (fq q (.slice (some ⟨g, 0, none⟩) s.length c) (some b)) w W3 ∧ HQ W3 q (.slice (some ⟨g, 0, none⟩) s.length c) (some b) p (swp s i j)) := by
  have hle := h.le
  have hm := h.map
  have hgq : g ≠ q := row_ne h.hc h.row (by decide) g rfl
  have hgb : g ≠ b := row_nm h.row hm g rfl
  have hbq : b ≠ q := h.hc.map_ne hm
  have TV : Touch [g] w V := by rw [hV]; exact swW_touch _ _ _ _ _ _
  have RV : V.ownsRow 0 152 3 (.slice (some ⟨g, 0, none⟩) s.length c) s.length (flat (swp s i j)) := by rw [hV]; exact swW_row h.row hi hj
  clear hV
  have CV : HC V q (.slice (some ⟨g, 0, none⟩) s.length c) (some b) p := h.hc.keep (TV.block q (block_lt h.hc) (by simpa using Ne.symm hgq))
  have MV : MapAt V b s.length (pmap s) := hm.kept (TV.block b hm.lt (by simpa using Ne.symm hgb))
  obtain ⟨u0, u1, u2⟩ := flat_at (swp s i j) i (by rw [swp_len]; exact hi)
  obtain ⟨v0, v1, v2⟩ := flat_at (swp s i j) j (by rw [swp_len]; exact hj)
  rw [swp_gt hi hj, if_neg hij, if_pos rfl] at u2
  rw [swp_gt hi hj, if_pos rfl] at v2
  have wfj := (h.wf _ (gt_mem hj)).2.2
  have wfi := (h.wf _ (gt_mem hi)).2.2
  have nd := h.nd
  obtain ⟨o1, hu1, hm1⟩ := (show MapAt V.drew b s.length (pmap s) from MV.kept rfl).set (t := 83) Tryd.underlying83 (maxLen_big' hle) wfj (.int .i64 i)
  have T2 : Touch [b] V (setBlock V.drew b o1) := touch_setBlock (Touch.refl _ _).drew (by simp) o1
  generalize setBlock V.drew b o1 = W2 at *
  have M2 : MapAt W2 b s.length (upd (pmap s) (gt s j).item (.int .i64 i)) := hm1.same (by rw [pmap_at nd hj]; rfl)
  obtain ⟨o2, hu2, hm2⟩ := (show MapAt W2.drew b s.length (upd (pmap s) (gt s j).item (.int .i64 i)) from M2.kept rfl).set (t := 83) Tryd.underlying83 (maxLen_big' hle) wfi (.int .i64 j)
  have T3 : Touch [b] W2 (setBlock W2.drew b o2) := touch_setBlock (Touch.refl _ _).drew (by simp) o2
  generalize setBlock W2.drew b o2 = W3 at *
  have C2 : HC W2 q (.slice (some ⟨g, 0, none⟩) s.length c) (some b) p := CV.keep (T2.block q (block_lt CV) (by simpa using Ne.symm hbq))
  have T4 : Touch [b] V W3 := T2.trans' T3
  refine ⟨W2, W3, hu1, hu2, own_cell RV u2, own_cell (own_touch RV T2 (fun k hk => by simp [Value.ownBlock] at hk; subst hk; simpa using hgb)) v2, CV, C2, ?_, ?_⟩
  · exact ((TV.mono (by simp [fq, Value.ownBlock])).trans' (T2.mono (by simp [fq, Value.ownBlock]))).trans' (T3.mono (by simp [fq, Value.ownBlock]))
  · refine ⟨CV.keep (T4.block q (block_lt CV) (by simpa using Ne.symm hbq)), ?_, Or.inr ⟨b, rfl, ?_⟩, nd_perm nd (swp_perm hi hj), wf_perm h.wf (swp_perm hi hj), by rw [swp_len]; exact hle⟩
    · rw [swp_len]
      exact own_touch RV T4 (fun k hk => by simp [Value.ownBlock] at hk; subst hk; simpa using hgb)
    · rw [swp_len]
      refine (hm2.congr (fun k _ => pmap_swp nd hi hj hij k)).same ?_
      have : (upd (pmap s) (gt s j).item (.int .i64 i) (gt s i).item).isSome = true := by
        simp only [upd]
        split
        · rfl
        · rw [pmap_at nd hi]; rfl
      rw [this]; rfl
set_option maxHeartbeats 4000000 in
set_option maxRecDepth 100000 in
theorem swap90 (w : World) (q b : Nat) (sl : Value) (p : Int) (s : List Slot) (i j : Nat) (hi : i < s.length) (hj : j < s.length) (hij : i ≠ j) (h : HQ w q sl (some b) p s) :
    Calls Tryd.prog 112 #[PT q, .int .i64 i, .int .i64 j] w fun e w' => e = .returned (.tuple #[]) ∧ Touch (fq q sl (some b)) w w' ∧ HQ w' q sl (some b) p (swp s i j) := by
  obtain ⟨g, c, rfl⟩ := h.slice (by omega)
  have hle := h.le
  obtain ⟨x0, x1, x2⟩ := flat_at s i hi
  obtain ⟨y0, y1, y2⟩ := flat_at s j hj
  have hgq : g ≠ q := row_ne h.hc h.row (by decide) g rfl
  have a0 := own_cell h.row x0
  have a1 := own_cell h.row x1
  have a2 := own_cell h.row x2
  have b0 := own_cell h.row y0
  have b1 := own_cell h.row y1
  have b2 := own_cell h.row y2
  have fz : ∀ k, w.frozen? ⟨g, k, none⟩ = false := own_frozen h.row
  have c0 := h.hc.c0
  have zi : (i : Int) < (s.length : Int) := by omega
  have zj : (j : Int) < (s.length : Int) := by omega
  have zl : (s.length : Int) ≤ 65536 := by omega
  obtain ⟨V, hV⟩ : ∃ V, V = swW w g i j (gt s i) (gt s j) := ⟨_, rfl⟩
  obtain ⟨W2, W3, hu1, hu2, r1, r2, CV, C2, HF⟩ := swap_world w q b g c p s i j hi hj hij h V hV
  have d0 := CV.c0
  have d1 := CV.c1
  have e0 := C2.c0
  have e1 := C2.c1
  have HF := hid HF
  have HV := hid hV
  clear h x0 x1 x2 y0 y1 y2 CV C2 hV
  generalize swp s i j = S at *
  generalize gt s i = x at *
  generalize gt s j = y at *
  generalize s.length = n at *
  unfold PT
  go_enter Tryd.func112, Tryd.ntmps112
  go_wp2
  go_region
  go_wp2
  have hV := HV.out
  unfold swW at hV
  rw [← hV]
  clear hV a0 a1 a2 b0 b1 b2 fz c0
  go_region
  go_wp2
  go_region
  go_end0
  exact ⟨rfl, HF.out⟩
end Go.Proofs.YtcbckehdlbbbbaaDoor.Cl
/- The contracts of container/heap's up and down at a queue by time. -/
namespace Go.Proofs.YtcbckehdlbbbbaaDoor.Cl
open Go.RowKit Go.Maps Go.ChangeMaps
set_option linter.unusedVariables false
theorem mLess (q : Nat) (w : World) : Sem.run Tryd.prog (method 303 170 (.pointer (some ⟨q, 0, none⟩)) "Less") w = .ok (109, .pointer (some ⟨q, 0, none⟩)) w := by kernel_rfl
theorem mSwap (q : Nat) (w : World) : Sem.run Tryd.prog (method 303 170 (.pointer (some ⟨q, 0, none⟩)) "Swap") w = .ok (112, .pointer (some ⟨q, 0, none⟩)) w := by kernel_rfl
theorem mLen (q : Nat) (w : World) : Sem.run Tryd.prog (method 303 170 (.pointer (some ⟨q, 0, none⟩)) "Len") w = .ok (108, .pointer (some ⟨q, 0, none⟩)) w := by kernel_rfl
theorem mPush (q : Nat) (w : World) : Sem.run Tryd.prog (method 303 170 (.pointer (some ⟨q, 0, none⟩)) "Push") w = .ok (111, .pointer (some ⟨q, 0, none⟩)) w := by kernel_rfl
theorem mPop (q : Nat) (w : World) : Sem.run Tryd.prog (method 303 170 (.pointer (some ⟨q, 0, none⟩)) "Pop") w = .ok (110, .pointer (some ⟨q, 0, none⟩)) w := by kernel_rfl
theorem HQ.keep {F : List Nat} {w w' : World} {q : Nat} {sl : Value} {m : Option Nat} {p : Int} {s : List Slot} (h : HQ w q sl m p s) (ht : Touch F w w') (hn : ∀ k, k ∈ fq q sl m → ¬ k ∈ F) : HQ w' q sl m p s := by
  refine ⟨h.hc.keep (ht.block q (block_lt h.hc) (hn q (by simp [fq]))), own_touch h.row ht (fun b hb => hn b (by simp [fq, hb])), ?_, h.nd, h.wf, h.le⟩
  rcases h.mp with hm | ⟨b, rfl, hm⟩
  · exact Or.inl hm
  · exact Or.inr ⟨b, rfl, hm.kept (ht.block b hm.lt (hn b (by simp [fq])))⟩
theorem HQ.gw {w w' : World} {q : Nat} {sl : Value} {m : Option Nat} {p : Int} {s : List Slot} (h : HQ w q sl m p s) (hg : Gw w w') : HQ w' q sl m p s := h.keep hg.touch (fun _ _ e => by cases e)
theorem Gw.touch' {w w' : World} (hg : Gw w w') (F : List Nat) : Touch F w w' := hg.touch.mono (fun _ h => by cases h)
theorem ltB_true {x y : Slot} (h : ltB x y = true) : ltS x y := of_decide_eq_true h
theorem ltB_false {x y : Slot} (h : ltB x y = false) : ¬ ltS x y := of_decide_eq_false h
def UpR (w wr : World) (q b : Nat) (sl : Value) (p : Int) (s : List Slot) (n : Nat) (t : List Slot) (k : Nat) : Prop := t.Perm s ∧ (∀ k, n ≤ k → gt t k = gt s k) ∧ UpI n t k ∧ Touch (fq q sl (some b)) w wr ∧ HQ wr q sl (some b) p t
theorem UpR.step {w wr w1 w2 : World} {q b : Nat} {sl : Value} {p : Int} {s : List Slot} {n : Nat} {t : List Slot} {k : Nat} (h : UpR w wr q b sl p s n t k) (hn : n ≤ t.length) (hk : k < n) (h0 : 0 < k) (hl : ltB (gt t k) (gt t (par k)) = true) (hg : Gw wr w1)
    (ht : Touch (fq q sl (some b)) w1 w2) (hq : HQ w2 q sl (some b) p (swp t (par k) k)) : UpR w w2 q b sl p s n (swp t (par k) k) (par k) := by
  obtain ⟨r1, r2, r3, r4, r5⟩ := h
  have := par_lt h0
  refine ⟨(swp_perm (by omega) (by omega)).trans r1, fun i hi => ?_, up_step r3 hn hk h0 (ltB_true hl), (r4.trans' (hg.touch' _)).trans' ht, hq⟩
  rw [swp_gt (by omega) (by omega), if_neg (by omega), if_neg (by omega)]
  exact r2 i hi
def IF (q : Nat) : Value := .iface 170 (.pointer (some ⟨q, 0, none⟩))
set_option maxHeartbeats 1000000 in
set_option maxRecDepth 100000 in
theorem up45 (w : World) (q b : Nat) (sl : Value) (p : Int) (s : List Slot) (n j : Nat) (hj : j < n) (hn : n ≤ s.length) (h : HQ w q sl (some b) p s) (hu : UpI n s j) :
    Calls Tryd.prog 87 #[IF q, .int .i64 j] w fun e w' => e = .returned (.tuple #[]) ∧ ∃ s', s'.Perm s ∧ (∀ k, n ≤ k → gt s' k = gt s k) ∧ Heap n s' ∧ Touch (fq q sl (some b)) w w' ∧ HQ w' q sl (some b) p s' := by
  have HH := hid h
  have HU := hid hu
  have hle := h.le
  have mL := mLess q
  have mS := mSwap q
  clear h hu
  unfold IF
  go_enter Tryd.func87, Tryd.ntmps87
  go_wp2
  go_loopw [1] (fun i wr => ∃ (k : Nat) (t : List Slot), i = .int .i64 k ∧ k < n ∧ Hid (UpR w wr q b sl p s n t k)) (fun i _ => (intOf i).toNat)
  case atStart => exact ⟨j, s, rfl, hj, List.Perm.refl _, fun _ _ => rfl, HU.out, Touch.refl _ _, HH.out⟩
  case round =>
    obtain ⟨k, t, rfl, hk, HR⟩ := hrel
    have hkl : k < t.length := by have := HR.out.1.length_eq; omega
    have hnt : n ≤ t.length := by have := HR.out.1.length_eq; omega
    by_cases h0 : k = 0
    · subst h0
      go_wp2
      go_end0
      obtain ⟨r1, r2, r3, r4, r5⟩ := HR.out
      exact ⟨rfl, t, r1, r2, up_done r3 (Or.inl rfl), r4, r5⟩
    · have hpk : par k < k := par_lt (by omega)
      have e1 : ((k : Int) - 1) / 2 = ((par k : Nat) : Int) := by unfold par; omega
      have z1 : (k : Int) ≤ 65536 := by omega
      have z2 : (1 : Int) ≤ (k : Int) := by omega
      have z3 : (((par k : Nat) : Int) == (k : Int)) = false := by simp; omega
      have z4 : ((par k : Nat) : Int) < (k : Int) := by omega
      have HL := hid (less87 wr q sl (some b) p t k (par k) hkl (by omega) HR.out.2.2.2.2)
      cases hlt : ltB (gt t k) (gt t (par k)) with
      | false =>
        rw [hlt] at HL
        have HE : Hid (∀ w1, Gw wr w1 → ∃ s', s'.Perm s ∧ (∀ k, n ≤ k → gt s' k = gt s k) ∧ Heap n s' ∧ Touch (fq q sl (some b)) w w1 ∧ HQ w1 q sl (some b) p s') := fun w1 hg => by
          obtain ⟨r1, r2, r3, r4, r5⟩ := HR.out
          exact ⟨t, r1, r2, up_done r3 (Or.inr (ltB_false hlt)), r4.trans' (hg.touch' _), r5.gw hg⟩
        clear hlt
        generalize par k = pk at *
        go_wp2_with (go_at_call 109; refine HL.out.mono ?_; rintro e w1 ⟨rfl, hg⟩)
        go_end0
        exact ⟨rfl, HE.out w1 hg⟩
      | true =>
        rw [hlt] at HL
        have HE : Hid (∀ w1 w2, Gw wr w1 → Touch (fq q sl (some b)) w1 w2 → HQ w2 q sl (some b) p (swp t (par k) k) → UpR w w2 q b sl p s n (swp t (par k) k) (par k)) := fun w1 w2 hg ht hq => HR.out.step hnt hk (by omega) hlt hg ht hq
        have HS : Hid (∀ w1, Gw wr w1 → Calls Tryd.prog 112 #[.pointer (some ⟨q, 0, none⟩), .int .i64 ((par k : Nat) : Int), .int .i64 (k : Int)] w1 fun e w' => e = .returned (.tuple #[]) ∧ Touch (fq q sl (some b)) w1 w' ∧ HQ w' q sl (some b) p (swp t (par k) k)) := fun w1 hg =>
          swap90 w1 q b sl p t (par k) k (by omega) hkl (by omega) (HR.out.2.2.2.2.gw hg)
        clear hlt
        generalize par k = pk at *
        go_wp2_with (first | (go_at_call 109; refine HL.out.mono ?_; rintro e w1 ⟨rfl, hg⟩) | (go_at_call 112; refine (HS.out _ (by assumption)).mono ?_; rintro e w2 ⟨rfl, ht, hq⟩))
        go_roundw
        case rel => exact ⟨pk, swp t pk k, rfl, by omega, HE.out w1 w2 hg ht hq⟩
        case measure => simp [intOf]; omega
end Go.Proofs.YtcbckehdlbbbbaaDoor.Cl
