/- TraceFinds: what the law's loop gathers, and the law's small functions; the conditions are that each states. -/
import Derived.Test.YtcdikdiopklcgaaGreatDoorEwi
import Derived.Test.YtcdikdiopklcgaaGreatDoorEwj
namespace Go.Proofs.YtcdikdiopklcgaaGreatDoor.Tr
open Go.RowKit Go.Sort Go.Shelf Go.Maps Go.ChangeMaps
set_option linter.unusedVariables false
set_option linter.unusedSimpArgs false
theorem bl_mem (l : List Ez) : ∀ e ∈ bl l, e ∈ l ∧ chkE e = true := by
  have key : ∀ (l acc : List Ez) (e : Ez), e ∈ l.foldl accL acc → (e ∈ l ∧ chkE e = true) ∨ e ∈ acc := by
    intro l
    induction l with
    | nil => intro acc e h; exact Or.inr h
    | cons x r ih =>
      intro acc e h
      rcases ih (accL acc x) e h with h | h
      · exact Or.inl ⟨List.mem_cons_of_mem _ h.1, h.2⟩
      · unfold accL at h
        split at h
        · rename_i hx
          rcases List.mem_append.1 h with h | h
          · exact Or.inr h
          · rw [List.mem_singleton] at h
            subst h
            refine Or.inl ⟨List.mem_cons_self, ?_⟩
            unfold addN at hx
            split at hx
            · assumption
            · omega
        · exact Or.inr h
  intro e h
  rcases key l [] e h with h | h
  · exact h
  · cases h
theorem chk_isK {e : Ez} (h : chkE e = true) : isK e.kd = true := by
  unfold chkE at h
  simp only [Bool.and_eq_true] at h
  exact h.2.1
def sel5 {α : Type} (a b c d e : α) : Nat → α
  | 0 => a | 1 => b | 2 => c | 3 => d | _ => e
def upd5 {α : Type} (f : Nat → α) (i : Nat) (v : α) : Nat → α := fun k => if k = i then v else f k
theorem upd5_same {α : Type} (f : Nat → α) (i : Nat) (v : α) : upd5 f i v i = v := by simp [upd5]
theorem upd5_ne {α : Type} (f : Nat → α) {i k : Nat} (v : α) (h : k ≠ i) : upd5 f i v k = f k := by simp [upd5, h]
def setF (U : List Int) : Int → Option Value := fun x => if x ∈ U then some (.bool true) else none
/-- what the law's loop has gathered -/
structure Fx (W0 : World) (u : Nat → Value) (mb : Nat) (z : Value) (X : Nat → List Int) (Y : List Int) (Z : List K) (w' : World) : Prop where
  t : Touch [] W0 w'
  own : ∀ i, i < 5 → w'.ownsRow W0.heap.size 3 1 (u i) (X i).length (ints (X i))
  ap : ∀ i j, i < 5 → j < 5 → i ≠ j → ∀ q, (u i).ownBlock = some q → (u j).ownBlock ≠ some q
  mlo : W0.heap.size ≤ mb
  mp : ∃ U : List Int, U.Nodup ∧ (∀ x, x ∈ U ↔ x ∈ Y) ∧ MapAt w' mb U.length (setF U)
  ks : w'.ownsRow W0.heap.size 42 2 z Z.length (Me.cellsK Z)
section
variable {W0 w' w2 W : World} {u u' : Nat → Value} {mb n : Nat} {z : Value} {X X' : Nat → List Int} {Y : List Int} {Z : List K}
theorem Fx.touch (h : Fx W0 u mb z X Y Z w') (t : Touch [] w' w2) : Fx W0 u mb z X Y Z w2 := by
  obtain ⟨U, h1, h2, h3⟩ := h.mp
  exact ⟨h.t.trans' t, fun i hi => own_touch (h.own i hi) t (by simp), h.ap, h.mlo, ⟨U, h1, h2, h3.kept (t.block _ h3.lt (by simp))⟩, own_touch h.ks t (by simp)⟩
theorem Fx.congr (h : Fx W0 u mb z X Y Z w') (hu : ∀ i, i < 5 → u i = u' i) (hX : ∀ i, i < 5 → X i = X' i) : Fx W0 u' mb z X' Y Z w' :=
  ⟨h.t, fun i hi => by rw [← hu i hi, ← hX i hi]; exact h.own i hi, fun i j hi hj hn q => by rw [← hu i hi, ← hu j hj]; exact h.ap i j hi hj hn q, h.mlo, h.mp, h.ks⟩
theorem cell_of_map {w : World} {b n : Nat} {f : Int → Option Value} (h : MapAt w b n f) {cs : Array Value} {t : TypeId} {fz : Nat × Nat} (hc : w.heap[b]? = some (.cells cs t fz)) : False := by
  obtain ⟨D, ⟨es, cl, hb, _⟩, _⟩ := h
  rw [hb] at hc
  cases hc
theorem Fx.app {i : Nat} {x : Int} {v' : Value} (h : Fx W0 u mb z X Y Z w') (hi : i < 5) (tW : Touch [] w' W) (o : w2.ownsRow W0.heap.size 3 1 v' ((X i).length + 1) (ints (X i) ++ [.int .i64 x])) (g : W.grownBy w2 (u i).ownBlock) (p : v'.ownBlock = (u i).ownBlock ∨ v'.ownBlock = some W.heap.size) :
    Fx W0 (upd5 u i v') mb z (upd5 X i (X i ++ [x])) Y Z w2 := by
  have hW := h.touch tW
  have tg : Touch (u i).ownBlock.toList W w2 := (Touch.refl _ _).grown g (fun q hq => Or.inl (by simp [hq]))
  obtain ⟨U, h1, h2, h3⟩ := hW.mp
  refine ⟨touch_grown hW.t g (hW.own i hi) (Nat.le_refl _), fun k hk => ?_, fun j k hj hk hn q hq hv => ?_, h.mlo, ⟨U, h1, h2, h3.kept (tg.block _ h3.lt (fun hm => ?_))⟩, own_touch hW.ks tg (fun q hq hm => ?_)⟩
  · by_cases e : k = i
    · subst e
      rw [upd5_same, upd5_same, List.length_append]
      simpa [ints] using o
    · rw [upd5_ne _ _ e, upd5_ne _ _ e]
      exact own_touch (hW.own k hk) tg (fun q hq hm => h.ap k i hk hi e q hq (Option.mem_toList.1 hm))
  · by_cases ej : j = i
    · subst ej
      have ek : k ≠ j := fun e => hn e.symm
      rw [upd5_same] at hq
      rw [upd5_ne _ _ ek] at hv
      rcases p with p | p
      · exact h.ap j k hj hk hn q (p ▸ hq) hv
      · rw [p] at hq
        have := ((hW.own k hk).lt q hv).2
        simp only [Option.some.injEq] at hq
        omega
    · rw [upd5_ne _ _ ej] at hq
      by_cases ek : k = i
      · subst ek
        rw [upd5_same] at hv
        rcases p with p | p
        · exact h.ap j k hj hk hn q hq (p ▸ hv)
        · rw [p] at hv
          have := ((hW.own j hj).lt q hq).2
          simp only [Option.some.injEq] at hv
          omega
      · rw [upd5_ne _ _ ek] at hv
        exact h.ap j k hj hk hn q hq hv
  · obtain ⟨cs, hc⟩ := own_kind (hW.own i hi) (Option.mem_toList.1 hm)
    exact cell_of_map h3 hc
  · obtain ⟨cs, hc⟩ := own_kind (hW.own i hi) (Option.mem_toList.1 hm)
    exact kind_ne hW.ks hc (by decide) hq
theorem Fx.keys {k : K} {v' : Value} (h : Fx W0 u mb z X Y Z w') (tW : Touch [] w' W) (o : w2.ownsRow W0.heap.size 42 2 v' (Z.length + 1) (Me.cellsK Z ++ [.int .u16 k.1, .string k.2])) (g : W.grownBy w2 z.ownBlock) :
    Fx W0 u mb v' X Y (Z ++ [k]) w2 := by
  have hW := h.touch tW
  have tg : Touch z.ownBlock.toList W w2 := (Touch.refl _ _).grown g (fun q hq => Or.inl (by simp [hq]))
  obtain ⟨U, h1, h2, h3⟩ := hW.mp
  refine ⟨touch_grown hW.t g hW.ks (Nat.le_refl _), fun k hk => own_touch (hW.own k hk) tg (fun q hq hm => ?_), h.ap, h.mlo, ⟨U, h1, h2, h3.kept (tg.block _ h3.lt (fun hm => ?_))⟩, ?_⟩
  · obtain ⟨cs, hc⟩ := own_kind hW.ks (Option.mem_toList.1 hm)
    exact kind_ne (hW.own k hk) hc (by decide) hq
  · obtain ⟨cs, hc⟩ := own_kind hW.ks (Option.mem_toList.1 hm)
    exact cell_of_map h3 hc
  · rw [List.length_append, Me.cellsK_app]; exact o
theorem Fx.run {x : Int} (h : Fx W0 u mb z X Y Z w') (hx : W64 x) (hn : Y.length < 2000000) : ∃ U, (MapAt w' mb U.length (setF U) ∧ U.length < 2000000) ∧ ∀ ob, MapAt (setBlock w' mb ob) mb (if (setF U x).isSome then U.length else U.length + 1) (upd (setF U) x (.bool true)) → Fx W0 u mb z X (Y ++ [x]) Z (setBlock w' mb ob) := by
  obtain ⟨U, h1, h2, h3⟩ := h.mp
  have hU : U.length ≤ Y.length := h1.length_le_of_subset (fun y hy => (h2 y).1 hy)
  refine ⟨U, ⟨h3, by omega⟩, fun ob hm => ?_⟩
  have t : Touch [mb] w' (setBlock w' mb ob) := touch_setBlock (Touch.refl [mb] w') (Or.inl (by simp)) ob
  refine ⟨h.t.trans t (fun i hi => Or.inr (by simp only [List.mem_singleton] at hi; rw [hi]; exact h.mlo)), fun k hk => own_touch (h.own k hk) t (fun q hq hm2 => ?_), h.ap, h.mlo, ?_, own_touch h.ks t (fun q hq hm2 => ?_)⟩
  · simp only [List.mem_singleton] at hm2
    obtain ⟨cs, hc⟩ := own_kind (h.own k hk) hq
    rw [hm2] at hc
    exact cell_of_map h3 hc
  · by_cases hx2 : x ∈ U
    · refine ⟨U, h1, fun y => ?_, ?_⟩
      · rw [List.mem_append, List.mem_singleton, ← h2 y]
        exact ⟨Or.inl, fun h => h.elim id (fun e => e ▸ hx2)⟩
      · have e1 : (setF U x).isSome = true := by simp [setF, hx2]
        rw [e1] at hm
        refine hm.congr (fun y _ => ?_)
        unfold upd setF
        by_cases e : y = x
        · subst e; simp [hx2]
        · simp [e]
    · refine ⟨U ++ [x], nd_snoc h1 hx2, fun y => ?_, ?_⟩
      · rw [List.mem_append, List.mem_append, ← h2 y]
      · have e1 : (setF U x).isSome = false := by simp [setF, hx2]
        rw [e1] at hm
        rw [List.length_append]
        refine hm.congr (fun y _ => ?_)
        unfold upd setF
        by_cases e : y = x
        · subst e; simp
        · simp [e]
  · simp only [List.mem_singleton] at hm2
    obtain ⟨cs, hc⟩ := own_kind h.ks hq
    rw [hm2] at hc
    exact cell_of_map h3 hc
end
set_option maxHeartbeats 1000000 in
theorem same_ {w : World} {v1 v2 : Value} {X : List Int} (h1 : Rd w v1 X) (h2 : Rd w v2 X) (hl : X.length ≤ 1048576) : Calls Tryz.prog 8 #[v1, v2] w fun r w' => r = .returned (.bool true) ∧ Touch [] w w' := by
  obtain ⟨a, c, rfl, _, _⟩ := h1.form
  obtain ⟨a', c', rfl, _, _⟩ := h2.form
  have H1 := hid h1
  have H2 := hid h2
  obtain ⟨n, hn⟩ : ∃ n, X.length = n := ⟨_, rfl⟩
  have HN := hid hn
  rw [hn] at hl ⊢
  obtain ⟨NL, hNL⟩ : ∃ NL : Int, (n : Int) = NL := ⟨_, rfl⟩
  have hNb : NL ≤ 1048576 := by omega
  clear h1 h2 hn
  go_enter Tryz.func8, Tryz.ntmps8
  go_wp2_with fail
  go_loopw [13] (fun i wr => ∃ j : Nat, i = .int .i64 j ∧ j ≤ n ∧ Hid (Touch [] w wr)) (fun i _ => n - (intOf i).toNat)
  case atStart => exact ⟨0, rfl, Nat.zero_le _, Touch.refl [] w⟩
  case round =>
    obtain ⟨j, rfl, hj, HT⟩ := hrel
    by_cases hlt : j < n
    · have hz : (j : Int) < NL := by omega
      have hi : j < X.length := by rw [HN.out]; exact hlt
      obtain ⟨b, rfl, c1⟩ := (HN.out ▸ H1.out : Rd w (.slice a X.length c) X).keep0 HT.out |>.cell hi
      obtain ⟨b', rfl, c2⟩ := (HN.out ▸ H2.out : Rd w (.slice a' X.length c') X).keep0 HT.out |>.cell hi
      have h0 : (0 : Int) ≤ (j : Int) := by omega
      obtain ⟨x, hx⟩ : ∃ x, X[j] = x := ⟨_, rfl⟩
      rw [hx] at c1 c2
      clear hi hx
      go_upto_region 6 with fail
      go_region
      go_wp2_with fail
      go_roundw
      case rel => exact ⟨j + 1, by go_num, by omega, HT.out.drew⟩
      case measure => simp [intOf]; omega
    · have hz : ¬ (j : Int) < NL := by omega
      go_wp2_with fail
      go_ret
      exact ⟨rfl, HT.out⟩
end Go.Proofs.YtcdikdiopklcgaaGreatDoor.Tr
