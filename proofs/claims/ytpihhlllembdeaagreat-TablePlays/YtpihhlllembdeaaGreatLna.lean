/- Contracts of a line's has, count and all. -/
import Derived.Test.YtpihhlllembdeaaGreatRec
import Derived.Laws.MakeOwn
import Derived.Laws.OwnMore
namespace Go.Proofs.YtpihhlllembdeaaGreat
open Go.RowKit Go.Maps Go.ChangeMaps
set_option linter.unusedVariables false
section
variable {w : World} {b : Nat} {R : Rn} {sl : Value} {m : Option Nat} {cs : List Int} {k c e : Bool} {o : O}
theorem has29 (h : Rl w b R k c e o sl m cs) (x : Int) (hx : W64 x) : Calls Tryz.prog 66 #[PL b, .int .i64 x] w fun e w' => e = .returned (.bool (decide (x ∈ wl cs))) ∧ w' = w := by
  have c6 := h.rc.cs.c6
  rcases h.ln.mp with ⟨rfl, hW⟩ | ⟨d, rfl, hm⟩
  · subst hW
    rw [show decide (x ∈ wl []) = false by simp [wl]]
    have hl := Maps.look_nil (P := Tryz.prog) (w := w) true keyed3 Tryz.underlying131 (zero3 w) (key3 hx)
    simp only [if_true] at hl
    clear h
    unfold PL
    go_enter Tryz.func66, Tryz.ntmps66
    go_wp2
    go_ret
    exact ⟨rfl, rfl⟩
  · have hl := hm.lookOk (t := 131) Tryz.underlying131 (zero3 w) hx
    rw [plv_isSome] at hl
    clear h hm
    generalize (plv cs x).getD (.int .i64 0) = z at *
    generalize decide (x ∈ wl cs) = B at *
    unfold PL
    go_enter Tryz.func66, Tryz.ntmps66
    go_wp2
    go_ret
    exact ⟨rfl, rfl⟩
theorem count35 (h : Rl w b R k c e o sl m cs) : Calls Tryz.prog 83 #[PL b] w fun e w' => e = .returned (.int .i64 ((wl cs).length : Nat)) ∧ w' = w := by
  have c6 := h.rc.cs.c6
  rcases h.ln.mp with ⟨rfl, hW⟩ | ⟨d, rfl, hm⟩
  · subst hW
    have hl := fun ty => Maps.len_nil (P := Tryz.prog) (w := w) Tryz.underlying131 ty
    clear h
    unfold PL
    go_enter Tryz.func83, Tryz.ntmps83
    go_wp2
    go_ret
    exact ⟨rfl, rfl⟩
  · have hl := fun ty => hm.len (t := 131) Tryz.underlying131 ty
    clear h hm
    generalize (wl cs).length = n at *
    unfold PL
    go_enter Tryz.func83, Tryz.ntmps83
    go_wp2
    go_ret
    exact ⟨rfl, rfl⟩
end
theorem mk33 (w : World) (n : Nat) (h : n ≤ 3000000000000) : (Instr.makeSlice 75 (.int .i64 0) (.int .i64 (n : Int))).run Tryz.prog w = .ok (.slice (some ⟨w.heap.size, 0, none⟩) 0 n) (w.alloc (.cells (madeCells #[.int .i64 0] n) 3)) := by
  obtain ⟨i3, hi3, hz0, hz1, hz2⟩ := info_parts info3
  have := run_make (P := Tryz.prog) w 75 3 i3 (.int .i64 0) Tryz.underlying75 hi3 hz0 .i64 .i64 0 (n : Int) (Int.le_refl _) (by omega) (by rw [hz2]; omega) (by omega)
  rw [hz1] at this
  simpa [Value.cells] using this
theorem mk33_own (w : World) (n : Nat) (h : n ≤ 3000000000000) : (w.alloc (.cells (madeCells #[.int .i64 0] n) 3)).ownsRow w.heap.size 3 1 (.slice (some ⟨w.heap.size, 0, none⟩) 0 n) 0 [] :=
  World.ownsRow_made w _ _ (Nat.le_refl _) (by unfold maxLen; omega) (by rw [size_madeCells, Nat.mul_one])
theorem ints_snoc (xs : List Int) (y : Int) : ints xs ++ [.int .i64 y] = ints (xs ++ [y]) := by simp [ints]
/-- A number more behind a row of numbers that a call owns. -/
theorem wpList_append_int {w : World} {ops : Array Oper} {rest : List Oper} {o : Oper} {a : Act} {Q : Exit → Act → World → Prop} (hgd : o.guard = none) (s x : Operand) (ho : o.op = .call { callee := .builtin .append, args := #[s, x], argTypes := #[75, 75] })
    (base : Nat) (v : Value) (xs : List Int) (hs : a.eval s = v) (hown : w.ownsRow base 3 1 v xs.length (ints xs)) (g' : Nat) (y : Int) (hx : a.eval x = .slice (some ⟨g', 0, none⟩) 1 1) (hc : w.cell? ⟨g', 0, none⟩ = some (.int .i64 y)) (hb : xs.length ≤ 3000000000000) (hbase : base ≤ w.heap.size)
    (h : ∀ g cap w', w'.ownsRow base 3 1 (.slice (some ⟨g, 0, none⟩) (xs.length + 1) cap) (xs.length + 1) (ints (xs ++ [y])) → w.grownBy w' v.ownBlock → (v.ownBlock = some g ∨ g = w.heap.size) → wpList Tryz.prog ops Q rest (a.put o.dst (.slice (some ⟨g, 0, none⟩) (xs.length + 1) cap)) w') : wpList Tryz.prog ops Q (o :: rest) a w := by
  obtain ⟨i3, hi3, hz0, hz1, hz2⟩ := info_parts info3
  refine wpList_append_own_at w hgd s x 75 ho base 3 i3 (.int .i64 0) 1 8 Tryz.underlying75 hi3 hz0 hz1 hz2 rfl (by decide) v xs.length (ints xs) hs hown ⟨g', 0, none⟩ 1 1 [.int .i64 y] hx rfl (fun j u hj => ?_) (fun u hu => by simp only [List.mem_singleton] at hu; subst hu; rfl) (by unfold maxLen; omega) (by omega) hbase (fun v' w' r gr nn at' => ?_)
  · match j, hj with
    | 0, hj => simp at hj; subst hj; simpa [Addr.add] using hc
  · rw [ints_snoc] at r
    obtain ⟨g, cap, rfl, _⟩ := own_some r (by omega)
    exact h g cap w' r gr (at'.elim (fun q => Or.inl q.symm) (fun q => Or.inr (by simpa [Value.ownBlock] using q)))
/-- Callers in new memory. -/
def AlE (e : Ending) (w w' : World) (xs : List Int) : Prop := ∃ g cap, e = .returned (.slice (some ⟨g, 0, none⟩) xs.length cap) ∧ w'.ownsRow w.heap.size 3 1 (.slice (some ⟨g, 0, none⟩) xs.length cap) xs.length (ints xs) ∧ Touch [] w w'
theorem wl_take {cs : List Int} {i : Nat} {x : Int} (hx : cs[i]? = some x) : wl (cs.take (i + 1)) = if x = 0 then wl (cs.take i) else wl (cs.take i) ++ [x] := by
  obtain ⟨h, rfl⟩ := List.getElem?_eq_some_iff.1 hx
  rw [List.take_succ_eq_append_getElem h, wl_app]
  split
  · rename_i e; rw [e]; simp [wl]
  · rename_i e; rw [wl_one e]
theorem wl_take_le (cs : List Int) (i : Nat) : (wl (cs.take i)).length ≤ cs.length := Nat.le_trans (wl_len _) (by simp; omega)
section
variable (w : World) (b : Nat) (R : Rn) (sl : Value) (m : Option Nat) (cs : List Int) (k c e : Bool) (o : O)
set_option maxHeartbeats 4000000 in
set_option maxRecDepth 100000 in
theorem all34 (h : Rl w b R k c e o sl m cs) (hle : cs.length ≤ 3000000000000) : Calls Tryz.prog 75 #[PL b] w fun e w' => AlE e w w' (wl cs) := by
  obtain ⟨i3, hi3, hz0, hz1, hz2⟩ := info_parts info3
  have HC := hid (count35 h)
  have hwl := wl_len cs
  have hmk := mk33 w (wl cs).length (by omega)
  have HM : Hid ((w.alloc (.cells (madeCells #[.int .i64 0] (wl cs).length) 3)).ownsRow w.heap.size 3 1 (.slice (some ⟨w.heap.size, 0, none⟩) 0 (wl cs).length) 0 [] ∧ Touch [] w (w.alloc (.cells (madeCells #[.int .i64 0] (wl cs).length) 3))) := ⟨mk33_own w _ (by omega), (Touch.refl _ _).alloc _⟩
  have c5 := h.rc.cs.c5
  have hlt0 := h.rc.lt
  have hne : b ≠ w.heap.size := by omega
  have HI : Hid (∀ wr, Touch [] w wr → ∀ g cap, sl = .slice (some ⟨g, 0, none⟩) cs.length cap → ∀ i x, cs[i]? = some x → wr.cell? ⟨g, i, none⟩ = some (.int .i64 x)) := fun wr T g cap hs i x hi => by
    have := (h.keep0 T).ln.row
    rw [hs] at this
    exact own_cell this (by simp [ints, hi])
  have HX : Hid (∀ i, i < cs.length → ∃ x, cs[i]? = some x) := fun i hi => ⟨_, List.getElem?_eq_getElem hi⟩
  have HF : Hid (∃ a cap, sl = .slice a cs.length cap ∧ (0 < cs.length → ∃ g, a = some ⟨g, 0, none⟩)) := by
    rcases h.ln.row.2 with ⟨e1, e2⟩ | ⟨g, cap, cur, e1, _⟩
    · exact ⟨none, 0, by rw [e1, e2], fun q => by omega⟩
    · exact ⟨_, cap, e1, fun _ => ⟨g, rfl⟩⟩
  have HE : Hid (∀ g cap wr, wr.ownsRow w.heap.size 3 1 (.slice (some ⟨g, 0, none⟩) (wl cs).length cap) (wl cs).length (ints (wl cs)) → Touch [] w wr → AlE (.returned (.slice (some ⟨g, 0, none⟩) (wl cs).length cap)) w wr (wl cs)) := fun g cap wr r T => ⟨g, cap, rfl, r, T⟩
  have HT : Hid (∀ i x, cs[i]? = some x → wl (cs.take (i + 1)) = if x = 0 then wl (cs.take i) else wl (cs.take i) ++ [x]) := fun i x hx => wl_take hx
  have HL : Hid (∀ i, (wl (cs.take i)).length ≤ 3000000000000) := fun i => Nat.le_trans (wl_take_le cs i) hle
  have HZ : Hid (wl (cs.take cs.length) = wl cs) := hid (by rw [List.take_length])
  obtain ⟨N, hN⟩ : ∃ N, N = (wl cs).length := ⟨_, rfl⟩
  obtain ⟨L, hL⟩ : ∃ L, L = cs.length := ⟨_, rfl⟩
  have HLL := hid hL
  have HNN := hid hN
  clear h
  rw [← hN] at hmk HM HC hwl
  rw [← hL] at hle hwl HF HI HX HZ
  clear hN hL
  obtain ⟨a, cap, rfl, hA⟩ := HF.out
  have HA := hid hA
  clear hA HF
  unfold PL at *
  go_enter Tryz.func75, Tryz.ntmps75
  go_wp2_with (go_at_call 83; refine HC.out.mono ?_; rintro e w ⟨rfl, rfl⟩)
  go_loopw [3, 14] (fun s i wr => ∃ (j g cap' : Nat), i = .int .i64 (j : Nat) ∧ j ≤ L ∧ s = .slice (some ⟨g, 0, none⟩) (wl (cs.take j)).length cap' ∧ Hid (wr.ownsRow w.heap.size 3 1 (.slice (some ⟨g, 0, none⟩) (wl (cs.take j)).length cap') (wl (cs.take j)).length (ints (wl (cs.take j))) ∧ Touch [] w wr)) (fun _ i _ => L - (intOf i).toNat)
  case atStart => exact ⟨0, w.heap.size, N, rfl, Nat.zero_le _, rfl, HM⟩
  case round =>
    obtain ⟨j, g, cap', rfl, hj, rfl, HR⟩ := hrel
    by_cases hlt : j < L
    · have zk : (j : Int) < (L : Int) := by omega
      have zL : (L : Int) < 9223372036854775807 := by omega
      obtain ⟨x, hx⟩ := HX.out j hlt
      obtain ⟨ga, rfl⟩ := HA.out (by omega)
      have hc := HI.out wr HR.out.2 ga cap rfl j x hx
      have ht := HT.out j x hx
      have hlj := HL.out j
      by_cases h0 : x = 0
      · subst h0
        rw [if_pos rfl] at ht
        have HT2 := hid ht
        clear ht
        go_wp2
        go_roundw
        case rel => exact ⟨j + 1, g, cap', by go_num, by omega, by rw [HT2.out], by rw [HT2.out]; exact HR⟩
        case measure => simp [intOf]; omega
      · rw [if_neg h0] at ht
        have hxn : (x != 0) = true := by simp [h0]
        have HT2 := hid ht
        have hs := block_lt (own_block HR.out.1).choose_spec.1
        clear ht
        have HO : Hid (∀ ob, (wr.alloc ob).ownsRow w.heap.size 3 1 (.slice (some ⟨g, 0, none⟩) (wl (cs.take j)).length cap') (wl (cs.take j)).length (ints (wl (cs.take j)))) := fun ob => own_touch HR.out.1 ((Touch.refl [] _).alloc _) (fun _ _ e => by cases e)
        have HS := hid HR.out.2.size
        have HLJ := hid hlj
        have HR2 : Hid (∀ g' cap'' w5, w5.ownsRow w.heap.size 3 1 (.slice (some ⟨g', 0, none⟩) ((wl (cs.take j)).length + 1) cap'') ((wl (cs.take j)).length + 1) (ints (wl (cs.take j) ++ [x])) → (wr.alloc (.cells #[.int .i64 x] 3)).grownBy w5 (some g) → ∃ n, n = (wl (cs.take j)).length + 1 ∧ n = (wl (cs.take (j + 1))).length ∧ Hid (w5.ownsRow w.heap.size 3 1 (.slice (some ⟨g', 0, none⟩) (wl (cs.take (j + 1))).length cap'') (wl (cs.take (j + 1))).length (ints (wl (cs.take (j + 1)))) ∧ Touch [] w w5)) := fun g' cap'' w5 r gr => by
          refine ⟨_, rfl, by rw [HT2.out]; simp, ?_⟩
          have e1 : (wl (cs.take (j + 1))).length = (wl (cs.take j)).length + 1 := by rw [HT2.out]; simp
          rw [e1, HT2.out]
          exact ⟨r, (HR.out.2.alloc _).grown gr (fun q hq => Or.inr (by cases hq; exact (own_block HR.out.1).choose_spec.2.2.2.2.2.1))⟩
        clear hlj hs
        generalize wl (cs.take j) = ys at *
        clear hx HT2 h0
        go_wp2_with (at_builtin; refine wpList_append_int rfl _ _ rfl w.heap.size (.slice (some ⟨g, 0, none⟩) ys.length cap') ys rfl (HO.out _) wr.heap.size x rfl (by simp) HLJ.out (by have := HS.out; simp; omega) ?_; intro g5 c5' w5 o5 r5 _; obtain ⟨n5, e5, e6, O5⟩ := HR2.out _ _ _ o5 r5; have E5 := hid e5; have E6 := hid e6; clear o5 r5 e5 e6)
        rw [← E5.out]
        go_wp2
        go_roundw
        case rel => exact ⟨j + 1, g5, c5', by go_num, by omega, by rw [E6.out], O5⟩
        case measure => simp [intOf]; omega
    · have e : j = L := by omega
      subst e
      have HX := hid HR.out
      rw [HZ.out] at HX
      have HX2 := hid (HE.out _ _ _ HX.out.1 HX.out.2)
      rw [HZ.out]
      clear HX HR
      generalize (wl cs).length = n at *
      go_wp2
      go_ret
      exact HX2.out
end
end Go.Proofs.YtpihhlllembdeaaGreat
