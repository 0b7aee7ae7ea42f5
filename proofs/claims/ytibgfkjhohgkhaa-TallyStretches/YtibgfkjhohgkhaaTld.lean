/- The program's small steps of counting: a kind's place, a count more, sums place by place; no conditions but those that each states. -/
import Derived.Test.YtibgfkjhohgkhaaTlb
import Derived.Test.YtibgfkjhohgkhaaMpk
namespace Go.Proofs.Ytibgfkjhohgkhaa.Ty
open Go.RowKit Go.Maps Go.ChangeMaps
open Tr
set_option linter.unusedVariables false
set_option linter.unusedSimpArgs false
def kk (k : Int) : Nat := if 1 ≤ k ∧ k ≤ 11 then k.toNat else 0
theorem kk_lt (k : Int) : kk k < 12 := by unfold kk; split <;> omega
/-- One cell written: the world behind it as a letter. -/
theorem wpList_st1 {w : World} {ops : Array Oper} {rest : List Oper} {o : Oper} {a : Act} {Q : Exit → Act → World → Prop} (hg : o.guard = none) (p v : Operand) (hop : o.op = Op.store 3 p v) (g i : Nat) (z u : Int) (hp : a.eval p = .pointer (some ⟨g, i, none⟩)) (hv : a.eval v = .int .i64 z) (hc : w.cell? ⟨g, i, none⟩ = some (.int .i64 u)) (hf : w.frozen? ⟨g, i, none⟩ = false)
    (hK : ∀ w', w' = w.setCell ⟨g, i, none⟩ (.int .i64 z) → wpList Try.prog ops Q rest (a.put o.dst undef) w') : wpList Try.prog ops Q (o :: rest) a w := by
  refine wpList_plain hg fun K' hK' => ?_
  have hrun : (Instr.storeAt 3 (.pointer (some ⟨g, i, none⟩)) (.int .i64 z)).run Try.prog w = .ok () (w.setCell ⟨g, i, none⟩ (.int .i64 z)) := by go_simp
  unfold Oper.wp
  simp only [execOp, hop, hp, hv, hrun, Sem.run_bind, Sem.run_pure, Result.andThen_ok]
  exact hK' _ _ (hK _ rfl)
theorem tcellF {F : List Nat} {w w' : World} (t : Touch F w w') {a : Addr} {v : Value} (h : w.cell? a = some v) (hn : ¬ a.block ∈ F) : w'.cell? a = some v := by
  rw [World.cell?_of_block (t.block a.block (cell_lt h) hn)]; exact h
theorem ib_keep {F : List Nat} {w w' : World} {b : Nat} {e : Ez} (h : Ib w b e) (t : Touch F w w') (hn : ¬ b ∈ F) : Ib w' b e :=
  ⟨tcellF t h.c0 hn, tcellF t h.c1 hn, tcellF t h.c2 hn, tcellF t h.c3 hn, tcellF t h.c4 hn, tcellF t h.c5 hn, tcellF t h.c6 hn, tcellF t h.c7 hn, tcellF t h.c8 hn, tcellF t h.c9 hn, tcellF t h.c10 hn, tcellF t h.c11 hn, tcellF t h.c12 hn⟩
theorem kindOf_ (e : Ez) (w : World) : Calls Try.prog 22 #[e.val] w fun r w' => r = .returned (.int .i64 (kk e.kd : Nat)) ∧ Touch [] w w' := by
  unfold Ez.val kk
  by_cases h : 1 ≤ e.kd ∧ e.kd ≤ 11
  · rw [if_pos h]
    obtain ⟨h1, h2⟩ := h
    have h3 : ((e.kd.toNat : Nat) : Int) = e.kd := by omega
    rw [h3]
    go_enter Try.func22, Try.ntmps22
    go_wp2
    go_ret
    exact ⟨rfl, (Touch.refl [] w).alloc _⟩
  · rw [if_neg h]
    by_cases h1 : e.kd < 1
    · go_enter Try.func22, Try.ntmps22
      go_wp2
      go_ret
      exact ⟨rfl, (Touch.refl [] w).alloc _⟩
    · have h2 : 11 < e.kd := by omega
      clear h
      go_enter Try.func22, Try.ntmps22
      go_wp2
      go_ret
      exact ⟨rfl, (Touch.refl [] w).alloc _⟩
/-- One more at a place, where there is one. -/
def inc (f : Nat → Int) (off m : Nat) (j : Int) : Nat → Int := if 0 ≤ j ∧ j < m then fset f (off + j.toNat) (f (off + j.toNat) + 1) else f
def Row (w : World) (b : Nat) (n : Nat) (f : Nat → Int) (t : TypeId) : Prop := w.heap[b]? = some (.cells (ic n f) t (0, 0))
section
variable {w w' : World} {b n i : Nat} {f : Nat → Int} {t : TypeId}
theorem Row.cell (h : Row w b n f t) (hi : i < n) : w.cell? ⟨b, i, none⟩ = some (.int .i64 (f i)) := cell_at h (ic_get hi)
theorem Row.froz (h : Row w b n f t) (i : Nat) : w.frozen? ⟨b, i, none⟩ = false := froz_at h i
theorem Row.set (h : Row w b n f t) (hi : i < n) (v : Int) : Row (w.setCell ⟨b, i, none⟩ (.int .i64 v)) b n (fset f i v) t := by
  have := bset h (i := i) (.int .i64 v)
  rw [ic_set hi] at this
  exact this
theorem Row.keep {F : List Nat} (h : Row w b n f t) (T : Touch F w w') (hF : ¬ b ∈ F) : Row w' b n f t := T.keep h hF
theorem Row.lt (h : Row w b n f t) : b < w.heap.size := block_lt h
end
theorem countAt_ {w : World} {b n off m : Nat} {f : Nat → Int} {t : TypeId} (h : Row w b n f t) (hm : off + m ≤ n) (hs : m ≤ 4096) (hf : ∀ j, j < n → 0 ≤ f j ∧ f j ≤ 1000000000000) (j : Int) :
    Calls Try.prog 23 #[.slice (some ⟨b, off, none⟩) m m, .int .i64 j] w fun r w' => r = .returned (.tuple #[]) ∧ Row w' b n (inc f off m j) t ∧ Touch [b] w w' := by
  unfold inc
  by_cases hj : 0 ≤ j ∧ j < m
  · rw [if_pos hj]
    obtain ⟨h1, h2⟩ := hj
    obtain ⟨k, rfl⟩ := Int.eq_ofNat_of_zero_le h1
    have h3 : k < m := by omega
    rw [show ((k : Int)).toNat = k by omega]
    have hc := h.cell (i := off + k) (by omega)
    have hz := h.froz (off + k)
    obtain ⟨b0, b1⟩ := hf (off + k) (by omega)
    have H := hid (h.set (i := off + k) (by omega) (f (off + k) + 1))
    clear h hf
    generalize f (off + k) = z at *
    go_enter Try.func23, Try.ntmps23
    go_wp2
    first | go_end0 | refine bodyPost_ret (results_none rfl _ _ _) rfl ?_
    exact ⟨rfl, H.out, (Touch.refl [b] w).setCell (Or.inl (by simp)) _⟩
  · rw [if_neg hj]
    by_cases h1 : 0 ≤ j
    · have h2 : ¬ j < m := fun x => hj ⟨h1, x⟩
      clear hj hf
      have H := hid h
      clear h
      go_enter Try.func23, Try.ntmps23
      go_wp2
      first | go_end0 | refine bodyPost_ret (results_none rfl _ _ _) rfl ?_
      exact ⟨rfl, H.out, Touch.refl [b] w⟩
    · clear hj hf
      have H := hid h
      clear h
      go_enter Try.func23, Try.ntmps23
      go_wp2
      first | go_end0 | refine bodyPost_ret (results_none rfl _ _ _) rfl ?_
      exact ⟨rfl, H.out, Touch.refl [b] w⟩
def unit : Value := .agg #[]
theorem addI_ {w : World} {b m : Nat} {g : Int → Option Value} (h : MapK KI w b m g) (hm : m < maxLen) {x : Int} (hx : W64 x) (M : Nat) (hM : M = if (g x).isSome then m else m + 1) :
    Calls Try.prog 25 #[.map (some b), .int .i64 x] w fun r w' => r = .returned (.tuple #[]) ∧ MapK KI w' b M (kupd g x unit) ∧ Touch [b] w w' := by
  have H := hid h
  have HX := hid hx
  have HM := hid hm
  have HE := hid hM
  clear h hx hm hM
  go_enter Try.func25, Try.ntmps25
  go_wp2_with (at_mapUpdate; refine wpList_kset (c := KI) _ rfl _ _ _ 60 rfl 102 Try.underlying60 b m g rfl H.out HM.out x rfl HX.out unit rfl ?_; intro ob hM; rw [← HE.out] at hM; have HS := hid hM; clear hM)
  first | go_end0 | refine bodyPost_ret (results_none rfl _ _ _) rfl ?_
  exact ⟨rfl, HS.out, touch_setBlock (Touch.refl _ _) (Or.inl (by simp)) ob⟩
theorem addK_ {w : World} {b m : Nat} {g : K → Option Value} (h : MapK KC w b m g) (hm : m < maxLen) {x : K} (hx : Ok x) (M : Nat) (hM : M = if (g x).isSome then m else m + 1) :
    Calls Try.prog 24 #[.map (some b), kv x] w fun r w' => r = .returned (.tuple #[]) ∧ MapK KC w' b M (kupd g x unit) ∧ Touch [b] w w' := by
  have hb := h.lt
  have hn : ¬ b = w.heap.size := by omega
  have H := hid (h.keep ((Touch.refl [] w).alloc (.cells #[.int .u16 x.1, .string x.2] 63)) (by simp))
  have HX := hid hx
  have HM := hid hm
  have HE := hid hM
  clear h hx hm hb hn hM
  unfold kv
  go_enter Try.func24, Try.ntmps24
  go_wp2_with (at_mapUpdate; refine wpList_kset (c := KC) _ rfl _ _ _ 58 rfl 102 Try.underlying58 b m g rfl H.out HM.out x rfl HX.out unit rfl ?_; intro ob hM; rw [← HE.out] at hM; have HS := hid hM; clear hM)
  first | go_end0 | refine bodyPost_ret (results_none rfl _ _ _) rfl ?_
  exact ⟨rfl, HS.out, touch_setBlock ((Touch.refl _ _).alloc _) (Or.inl (by simp)) ob⟩
/-- Sums, place by place. -/
def sumTo (f g : Nat → Int) (off m : Nat) : Nat → Int := fun j => if off ≤ j ∧ j < off + m then f j + g j else f j
theorem sumTo_next {f g : Nat → Int} {off m : Nat} : fset (sumTo f g off m) (off + m) (f (off + m) + g (off + m)) = sumTo f g off (m + 1) := by
  funext j
  unfold fset sumTo
  by_cases e : j = off + m
  · subst e; rw [if_pos rfl, if_pos (by omega)]
  · rw [if_neg e]
    by_cases e2 : off ≤ j ∧ j < off + m
    · rw [if_pos e2, if_pos (by omega)]
    · rw [if_neg e2, if_neg (by omega)]
theorem sumTo_at {f g : Nat → Int} {off m : Nat} : sumTo f g off m (off + m) = f (off + m) := by unfold sumTo; rw [if_neg (by omega)]
theorem addTo_ {w : World} {b c n off m : Nat} {f g : Nat → Int} {t t' : TypeId} (h : Row w b n f t) (h' : Row w c n g t') (hbc : b ≠ c) (hm : off + m ≤ n) (hs : m ≤ 4096) (hf : ∀ j, j < n → 0 ≤ f j ∧ f j ≤ 1000000000000) (hg : ∀ j, j < n → 0 ≤ g j ∧ g j ≤ 1000000000000) :
    Calls Try.prog 27 #[.slice (some ⟨b, off, none⟩) m m, .slice (some ⟨c, off, none⟩) m m] w fun r w' => r = .returned (.tuple #[]) ∧ Row w' b n (sumTo f g off m) t ∧ Touch [b] w w' := by
  have H := hid h
  have H' := hid h'
  have HF := hid hf
  have HG := hid hg
  have HM := hid hm
  clear h h' hf hg
  go_enter Try.func27, Try.ntmps27
  go_wp2
  go_loopw [8] (fun i wr => ∃ j : Nat, i = .int .i64 j ∧ j ≤ m ∧ Hid (Row wr b n (sumTo f g off j) t) ∧ Hid (Touch [b] w wr)) (fun i _ => m - (intOf i).toNat)
  case atStart => exact ⟨0, rfl, Nat.zero_le _, by show Row _ _ _ _ _; rw [show sumTo f g off 0 = f from by funext j; unfold sumTo; rw [if_neg (by omega)]]; exact H.out, Touch.refl _ _⟩
  case round =>
    obtain ⟨j, rfl, hj, R, T⟩ := hrel
    by_cases hlt : j < m
    · have c1 := R.out.cell (i := off + j) (by have := HM.out; omega)
      have c2 := (H'.out.keep T.out (by simp [Ne.symm hbc])).cell (i := off + j) (by have := HM.out; omega)
      have c3 := R.out.froz (off + j)
      rw [sumTo_at] at c1
      obtain ⟨b0, b1⟩ := HF.out (off + j) (by have := HM.out; omega)
      obtain ⟨b2, b3⟩ := HG.out (off + j) (by have := HM.out; omega)
      have HN := hid (R.out.set (i := off + j) (by have := HM.out; omega) (f (off + j) + g (off + j)))
      have HS := hid (sumTo_next (f := f) (g := g) (off := off) (m := j))
      clear HF HG
      generalize f (off + j) = y at *
      generalize g (off + j) = z at *
      go_wp2
      go_roundw
      case rel => exact ⟨j + 1, rfl, by omega, hid (by rw [← HS.out]; exact HN.out), hid (T.out.setCell (Or.inl (by simp)) _)⟩
      case measure => simp [intOf]; omega
    · obtain rfl : j = m := by omega
      go_wp2
      first | go_end0 | refine bodyPost_ret (results_none rfl _ _ _) rfl ?_
      exact ⟨rfl, R.out, T.out⟩
end Go.Proofs.Ytibgfkjhohgkhaa.Ty
