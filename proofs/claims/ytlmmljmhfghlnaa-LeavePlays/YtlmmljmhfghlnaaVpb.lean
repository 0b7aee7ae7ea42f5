/- The contracts of the small methods of seats: New, Where, Cancelled, Len, All, Of, By; no conditions but those that each states. -/
import Derived.Test.YtlmmljmhfghlnaaVpw
import Derived.Test.YtlmmljmhfghlnaaVtw
namespace Go.Proofs.Ytlmmljmhfghlnaa
open Go.RowKit Go.Maps Go.ChangeMaps
set_option linter.unusedVariables false
set_option linter.unusedSimpArgs false
def zs : Se := (0, 0, 0)
theorem zeroE (w : World) : (zeroValue 75).run Try.prog w = .ok (.agg #[]) w := by kernel_rfl
theorem callers_eq (CH : List Chr) : (CH.map Prod.snd).map Prod.fst = CH.map (fun p => p.2.1) := by simp
/-- A caller's chair, or none. -/
theorem where_ch (CH : List Chr) (c : Int) : (∃ q x, (q, x) ∈ CH ∧ cmap CH c = some (PT q) ∧ whr (CH.map Prod.snd) c = some x ∧ x.1 = c) ∨ (cmap CH c = none ∧ whr (CH.map Prod.snd) c = none) := by
  have e : whr (CH.map Prod.snd) c = (CH.find? (fun p => decide (p.2.1 = c))).map Prod.snd := by
    unfold whr
    rw [List.find?_map]
    rfl
  unfold cmap
  rw [e]
  cases hp : CH.find? (fun p => decide (p.2.1 = c)) with
  | none => exact Or.inr ⟨rfl, rfl⟩
  | some p => exact Or.inl ⟨p.1, p.2, List.mem_of_find?_eq_some hp, rfl, rfl, by simpa using List.find?_some hp⟩
def s0 (w : World) : World := w.alloc (.cells (sbc none none none) 60)
theorem new_ (w : World) : Calls Try.prog 5 #[] w fun e w' => e = .returned (PT w.heap.size) ∧ Sq w' w.heap.size [w.heap.size] [] [] 0 ∧ Touch [] w w' := by
  have HX : Hid (Sq (w.alloc (.cells (sbc none none none) 60)) w.heap.size [w.heap.size] [] [] 0) := hid ⟨none, none, none, 0, [], rfl, rfl, ⟨heap_alloc_new w _, Or.inl ⟨rfl, rfl, rfl⟩, Or.inl ⟨rfl, rfl⟩, fun b hb => (by cases hb), ⟨fun _ _ => none, fun _ _ => none, fun p hp => (by cases hp), fun k _ n => trivial⟩, List.nodup_nil⟩, ⟨List.nodup_nil, fun x hx => (by cases hx), List.nodup_nil, fun t ht => (by cases ht), Nat.le_refl _, Nat.le_refl _⟩, Nat.zero_le _⟩
  unfold sbc at HX
  unfold PT
  go_enter Try.func5, Try.ntmps5
  go_wp2
  go_ret
  exact ⟨rfl, HX.out, (Touch.refl _ _).alloc _⟩
section
variable {w : World} {s nr : Nat} {mc mr mk : Option Nat} {CH : List Chr} {G : List Int}
theorem Sm.lookC (h : Sm w s mc mr mk nr CH G) {c : Int} (hc : W64 c) : (Instr.lookup 56 (.map mc) (.int .i64 c) false).run Try.prog w = .ok ((cmap CH c).getD (.pointer none)) w := by
  rcases h.cm with ⟨h1, _, h2⟩ | ⟨b, d, h1, h2, _, h3, _⟩
  · rw [h1, h2]
    exact look_nil KI Try.underlying56 (zeroPC w) hc
  · rw [h1]
    exact h3.look (t := 56) Try.underlying56 (zeroPC w) hc
theorem Sm.lookK (h : Sm w s mc mr mk nr CH G) {t : Int} (ht : W64 t) : (Instr.lookup 58 (.map mk) (.int .i64 t) true).run Try.prog w = .ok (.tuple #[.agg #[], .bool (decide (t ∈ G))]) w := by
  rcases h.km with ⟨h1, h2⟩ | ⟨b, h1, h3⟩
  · rw [h1, h2]
    have := Maps.look_nil true KI.keyed Try.underlying58 (zeroE w) (KI.key ht)
    rw [show decide (t ∈ ([] : List Int)) = false by simp]
    exact this
  · rw [h1]
    have := h3.lookOk (t := 58) Try.underlying58 (zeroE w) (k := t) ht
    unfold kmap at this
    by_cases e : t ∈ G
    · rw [if_pos e] at this
      rw [decide_eq_true e]
      exact this
    · rw [if_neg e] at this
      rw [decide_eq_false e]
      exact this
theorem canc_ (h : Sm w s mc mr mk nr CH G) {t : Int} (ht : W64 t) : Calls Try.prog 14 #[PT s, .int .i64 t] w fun e w' => e = .returned (.bool (decide (t ∈ G))) ∧ Touch [] w w' := by
  have hl := h.lookK ht
  have c2 := h.cell.2.2.1
  clear h
  generalize decide (t ∈ G) = B at *
  unfold PT
  go_enter Try.func14, Try.ntmps14
  go_wp2
  go_ret
  exact ⟨rfl, (Touch.refl _ _).alloc _⟩
theorem len_ (h : Sm w s mc mr mk nr CH G) : Calls Try.prog 16 #[PT s] w fun e w' => e = .returned (.int .i64 (CH.length : Nat)) ∧ w' = w := by
  have c0 := h.cell.1
  rcases h.cm with ⟨rfl, _, h2⟩ | ⟨b, d, rfl, h2, _, h3, _⟩
  · rw [h2]
    clear h h2
    unfold PT
    go_enter Try.func16, Try.ntmps16
    go_wp2
    go_ret
    exact ⟨rfl, rfl⟩
  · have hl := fun ty => h3.len (t := 56) Try.underlying56 ty
    have hl3 := hl 3
    generalize CH.length = N at *
    clear h h2 h3
    unfold PT
    go_enter Try.func16, Try.ntmps16
    go_wp2
    go_ret
    exact ⟨rfl, rfl⟩
theorem where_ (h : Sm w s mc mr mk nr CH G) {c : Int} (hc : W64 c) : Calls Try.prog 8 #[PT s, .int .i64 c] w fun e w' => e = .returned (.tuple #[sv ((whr (CH.map Prod.snd) c).getD zs), .bool (whr (CH.map Prod.snd) c).isSome]) ∧ Touch [] w w' := by
  obtain ⟨V, hV⟩ : ∃ V, V = w.alloc (.cells #[.int .i64 0, .int .i64 0, .int .i64 0] 33) := ⟨_, rfl⟩
  have tv : Touch [] w V := by rw [hV]; exact (Touch.refl _ _).alloc _
  have hvb : V.heap[w.heap.size]? = some (.cells #[.int .i64 0, .int .i64 0, .int .i64 0] 33 (0, 0)) := by rw [hV]; exact heap_alloc_new w _
  have h1 := h.keep0 tv
  have c0 := h1.cell.1
  have hl := h1.lookC hc
  have v0 := cell_at (j := 0) hvb rfl
  have v1 := cell_at (j := 1) hvb rfl
  have v2 := cell_at (j := 2) hvb rfl
  have vf := froz_at hvb
  have HT := hid tv
  rcases where_ch CH c with ⟨q, x, hq, e1, e2, e3⟩ | ⟨e1, e2⟩
  · obtain ⟨A, B, hc', _⟩ := h1.lk
    have hb := hc' (q, x) hq
    have a0 := cell_at (j := 0) (v := .int .i64 x.1) hb rfl
    have a1 := cell_at (j := 1) (v := .int .i64 x.2.1) hb rfl
    have a2 := cell_at (j := 2) (v := .int .i64 x.2.2) hb rfl
    rw [e1] at hl
    rw [e2]
    have HE : Hid (Touch [] w (((V.setCell ⟨w.heap.size, 0, none⟩ (.int .i64 x.1)).setCell ⟨w.heap.size, 1, none⟩ (.int .i64 x.2.1)).setCell ⟨w.heap.size, 2, none⟩ (.int .i64 x.2.2))) := hid (((tv.setCell (Or.inr (Nat.le_refl _)) _).setCell (Or.inr (Nat.le_refl _)) _).setCell (Or.inr (Nat.le_refl _)) _)
    clear h h1 hc hc' hb hq e1 e2 e3 tv hvb
    simp only [Option.getD_some, Option.isSome_some] at hl ⊢
    unfold PT at hl
    unfold PT sv
    go_enter Try.func8, Try.ntmps8
    go_upto_region 1 with fail
    rw [← hV]
    clear hV
    go_wp2
    exact bodyPost_ret (v := .tuple #[.agg #[.int .i64 x.1, .int .i64 x.2.1, .int .i64 x.2.2], .bool true]) (by simp [results, Try.results8, go_sem, v0, v1, v2]) rfl ⟨rfl, HE.out⟩
  · rw [e1] at hl
    rw [e2]
    have HE : Hid (Touch [] w (((V.setCell ⟨w.heap.size, 0, none⟩ (.int .i64 0)).setCell ⟨w.heap.size, 1, none⟩ (.int .i64 0)).setCell ⟨w.heap.size, 2, none⟩ (.int .i64 0))) := hid (((tv.setCell (Or.inr (Nat.le_refl _)) _).setCell (Or.inr (Nat.le_refl _)) _).setCell (Or.inr (Nat.le_refl _)) _)
    clear h h1 hc e1 e2 tv hvb
    simp only [Option.getD_none, Option.isSome_none] at hl ⊢
    unfold PT sv zs
    go_enter Try.func8, Try.ntmps8
    go_upto_region 1 with fail
    rw [← hV]
    clear hV
    go_wp2
    exact bodyPost_ret (v := .tuple #[.agg #[.int .i64 0, .int .i64 0, .int .i64 0], .bool false]) (by simp [results, Try.results8, go_sem, v0, v1, v2]) rfl ⟨rfl, HE.out⟩
theorem all_ (h : Sm w s mc mr mk nr CH G) (hb : CH.length ≤ 5000000000000) : Calls Try.prog 18 #[PT s] w fun e w' => SlE e w w' (CH.map Prod.snd) := by
  have HC := hid (seats_ h (k := 0) (by omega) (n := 0) (W64.mk (by omega) (by omega)) hb)
  rw [inK0] at HC
  clear h hb
  generalize CH.map Prod.snd = L at *
  unfold PT at *
  go_enter Try.func18, Try.ntmps18
  go_wp2_with (go_at_call 30; refine HC.out.mono ?_; rintro e w2 ⟨a2, c2, rfl, r2, t2⟩; have RR := hid (And.intro r2 t2); clear r2 t2)
  go_ret
  exact ⟨a2, c2, rfl, RR.out.1, RR.out.2⟩
theorem of_ (h : Sm w s mc mr mk nr CH G) {n : Int} (hn : W64 n) (hb : CH.length ≤ 5000000000000) : Calls Try.prog 11 #[PT s, .int .i64 n] w fun e w' => IlE e w w' ((inL 1 n (CH.map Prod.snd)).map Prod.fst) := by
  have HC := hid (seats_ h (k := 1) (by omega) hn hb)
  have HL : Hid ((inK 1 n (CH.map Prod.snd)).length ≤ 5000000000000) := hid (by rw [row_len]; exact Nat.le_trans (row_le _ _ _) hb)
  rw [← inK1]
  clear h hb
  unfold PT at *
  go_enter Try.func11, Try.ntmps11
  go_wp2_with (first
    | (go_at_call 30; refine HC.out.mono ?_; rintro e w2 ⟨a2, c2, rfl, r2, t2⟩; have HD := hid (callers_ w2 _ _ _ r2 HL.out); have TT := hid t2; clear r2 t2)
    | (go_at_call 29; refine HD.out.mono ?_; rintro e w3 ⟨a3, n3, c3, rfl, r3, t3⟩; have RR := hid (And.intro r3 (TT.out.trans' t3)); clear r3 t3))
  go_ret
  exact ⟨_, _, _, rfl, RR.out.1, RR.out.2⟩
theorem by_ (h : Sm w s mc mr mk nr CH G) {n : Int} (hn : W64 n) (hb : CH.length ≤ 5000000000000) : Calls Try.prog 13 #[PT s, .int .i64 n] w fun e w' => IlE e w w' ((inL 2 n (CH.map Prod.snd)).map Prod.fst) := by
  have HC := hid (seats_ h (k := 2) (by omega) hn hb)
  have HL : Hid ((inK 2 n (CH.map Prod.snd)).length ≤ 5000000000000) := hid (by rw [row_len]; exact Nat.le_trans (row_le _ _ _) hb)
  rw [← inK2]
  clear h hb
  unfold PT at *
  go_enter Try.func13, Try.ntmps13
  go_wp2_with (first
    | (go_at_call 30; refine HC.out.mono ?_; rintro e w2 ⟨a2, c2, rfl, r2, t2⟩; have HD := hid (callers_ w2 _ _ _ r2 HL.out); have TT := hid t2; clear r2 t2)
    | (go_at_call 29; refine HD.out.mono ?_; rintro e w3 ⟨a3, n3, c3, rfl, r3, t3⟩; have RR := hid (And.intro r3 (TT.out.trans' t3)); clear r3 t3))
  go_ret
  exact ⟨_, _, _, rfl, RR.out.1, RR.out.2⟩
end
end Go.Proofs.Ytlmmljmhfghlnaa
