/- The program's reading of a text as a recipe; the conditions: the listed variables hold what the start lays, the text is not too long. -/
import Derived.Test.YtgjojdlbighoaaaDoorStp
import Derived.Test.YtgjojdlbighoaaaDoorGiv
namespace Go.Proofs.YtgjojdlbighoaaaDoor
open Go.RowKit Go.Sort
set_option linter.unusedVariables false

/-- what reading a text tells: the steps, the place, the error -/
def PrR (s : List UInt8) (L : List Sp) (q : Nat) (er : Int) : Prop := (s = [] ∧ L = [] ∧ q = 0 ∧ er = 0) ∨ (s ≠ [] ∧ ((Ps s 0 (.inl q) ∧ L = [] ∧ er = 80) ∨ (∃ l, Ps s 0 (.inr l) ∧ 256 < l.length ∧ L = [] ∧ q = 256 ∧ er = 3) ∨ (Ps s 0 (.inr L) ∧ L.length ≤ 256 ∧ q = 0 ∧ er = 0)))
theorem PrR.eq {s : List UInt8} {L L' : List Sp} {q q' : Nat} {er er' : Int} (h : PrR s L q er) (h' : PrR s L' q' er') : L = L' ∧ q = q' ∧ er = er' := by
  rcases h with ⟨hs, rfl, rfl, rfl⟩ | ⟨hs, h⟩
  · rcases h' with ⟨_, rfl, rfl, rfl⟩ | ⟨hs', _⟩
    · exact ⟨rfl, rfl, rfl⟩
    · exact absurd hs hs'
  · rcases h' with ⟨hs', _⟩ | ⟨_, h'⟩
    · exact absurd hs' hs
    · rcases h with ⟨h, rfl, rfl⟩ | ⟨l, h, hl, rfl, rfl, rfl⟩ | ⟨h, hl, rfl, rfl⟩ <;> rcases h' with ⟨h', rfl, rfl⟩ | ⟨l', h', hl', rfl, rfl, rfl⟩ | ⟨h', hl', rfl, rfl⟩ <;> have e := h.eq h' <;> cases e
      · exact ⟨rfl, rfl, rfl⟩
      · exact ⟨rfl, rfl, rfl⟩
      · omega
      · omega
      · exact ⟨rfl, rfl, rfl⟩
def ParE (s : ByteArray) (w w' : World) (e : Ending) : Prop := ∃ A c L q er, e = .returned (.tuple #[.slice A (L : List Sp).length c, .int .i64 (q : Nat), .int .i64 er]) ∧ Sl w' A L ∧ PrR s.data.toList L q er ∧ Gr w w'
theorem sl_nil (w : World) (A : Option Addr) : Sl w A [] := fun i hi => absurd hi (Nat.not_lt_zero _)
theorem info64 : (Tryd.prog.info? 64).map (fun i => (i.zero, i.size, i.bytes)) = some (some (.agg #[.int .i64 0, .int .i64 0, .int .i64 0]), 3, 24) := by kernel_rfl
/-- how far a text is read -/
def Rp (s : ByteArray) (acc : List Sp) (p : Nat) (ov : Bool) : Prop := (ov = false ∧ p ≤ s.size ∧ After s.data.toList acc p) ∨ (ov = true ∧ Ps s.data.toList 0 (.inr acc))
def meaP (s : ByteArray) (B : Nat) (w : World) : Nat := s.size + 2 - (intOf ((w.cell? ⟨B, 2, none⟩).getD undef)).toNat
theorem meaP_eq {s : ByteArray} {B : Nat} {w : World} {v0 v1 v3 : Value} {p : Nat} (h : Bx w B v0 v1 (.int .i64 (p : Int)) v3) : meaP s B w = s.size + 2 - p := by unfold meaP; rw [h.c2]; simp [intOf]
theorem owns_gt {w w' : World} {base e size n rb : Nat} {v : Value} {xs : List Value} (h : w.ownsRow base e size v n xs) (hb : Gt rb w w') (hr : rb < base) : w'.ownsRow base e size v n xs := by
  obtain ⟨h1, h2⟩ := h
  refine ⟨h1, ?_⟩
  rcases h2 with h2 | ⟨g, cap, cur, hv, hg, hc, r⟩
  · exact Or.inl h2
  · refine Or.inr ⟨g, cap, cur, hv, hg, ?_, r⟩
    rw [hb.block g (block_lt hc) (by omega)]
    exact hc
theorem grown_bx {w w' : World} {row : Option Nat} {b : Nat} {v0 v1 v2 v3 : Value} (h : Bx w b v0 v1 v2 v3) (hg : w.grownBy w' row) (hn : row ≠ some b) : Bx w' b v0 v1 v2 v3 := by
  have e : w'.heap[b]? = w.heap[b]? := hg.block b h.lt (fun e => hn e.symm)
  refine ⟨Nat.lt_of_lt_of_le h.lt hg.size, ?_, ?_, ?_, ?_, ?_, ?_, ?_, ?_⟩
  · rw [World.cell?_of_block (by exact e)]; exact h.c0
  · rw [World.cell?_of_block (by exact e)]; exact h.c1
  · rw [World.cell?_of_block (by exact e)]; exact h.c2
  · rw [World.cell?_of_block (by exact e)]; exact h.c3
  · rw [World.frozen?_of_block (by exact e)]; exact h.f0
  · rw [World.frozen?_of_block (by exact e)]; exact h.f1
  · rw [World.frozen?_of_block (by exact e)]; exact h.f2
  · rw [World.frozen?_of_block (by exact e)]; exact h.f3
theorem owns_any {w : World} {base e : Nat} {v : Value} {xs : List Sp} (h : w.ownsRow base e 3 v xs.length (cellsP xs)) : ∃ A c, v = .slice A xs.length c ∧ Sl w A xs := by
  rcases h.2 with ⟨rfl, h0⟩ | ⟨g, c, cur, rfl, _⟩
  · have : xs = [] := List.length_eq_zero_iff.1 h0
    subst this
    exact ⟨_, _, rfl, sl_nil _ _⟩
  · exact ⟨_, _, rfl, owns_sl h⟩
set_option maxRecDepth 20000 in
set_option maxHeartbeats 4000000 in
theorem parse26 (s : ByteArray) (w : World) (hS : Sy w) (hs : s.size ≤ 4194304) :
    Calls Tryd.prog 26 #[.string s] w fun e w' => ParE s w w' e := by
  obtain ⟨i0, hi, hz0, hz1, hz2⟩ := info_parts info64
  have mixed := mixed
  have HS : Hid (Sy w ∧ s.size ≤ 4194304) := ⟨hS, hs⟩
  clear hS hs
  by_cases hne : s = ⟨#[]⟩
  · subst hne
    go_enter Tryd.func26, Tryd.ntmps26
    go_wp2_with fail
    go_loopw [5, 6] (fun v5 v6 wr => v5 = .slice none 0 0 ∧ v6 = .bool false ∧ wr = w.alloc (.cells #[.string ⟨#[]⟩, .int .i64 0, .int .i64 0, .bool true] 98)) (fun _ _ _ => 0)
    case atStart => exact ⟨rfl, rfl, rfl⟩
    case round =>
      obtain ⟨rfl, rfl, rfl⟩ := hrel
      go_wp2_with fail
      go_ret3
      exact ⟨none, 0, [], 0, 0, rfl, sl_nil _ _, Or.inl ⟨rfl, rfl, rfl, rfl⟩, (Gr.refl _).alloc _⟩
  · have hb : (s.toList == (⟨#[]⟩ : ByteArray).toList) = false := by
      cases h : (s.toList == (⟨#[]⟩ : ByteArray).toList) with
      | true => exact absurd ((beqB _ _).1 h) hne
      | false => rfl
    have HNe : Hid (s.data.toList ≠ []) := fun h => hne (ByteArray.ext (Array.toList_inj.1 h))
    have hb2 : s.toList.isEmpty = false := by
      rw [ByteArray.toList_eq]
      cases h : s.data.toList with
      | nil => exact absurd h HNe.out
      | cons a l => rfl
    clear hne
    go_enter Tryd.func26, Tryd.ntmps26
    go_wp2_with fail
    have HB0 : Hid (Bx (w.alloc (.cells #[.string s, .int .i64 0, .int .i64 0, .bool false] 98)) w.heap.size (.string s) (.int .i64 0) (.int .i64 ((0 : Nat) : Int)) (.bool false)) := ⟨by simp, by simp, by simp, by simp, by simp, by simp, by simp, by simp, by simp⟩
    clear hb hb2
    obtain ⟨RB, hRB⟩ : ∃ RB, w.heap.size = RB := ⟨_, rfl⟩
    have HRB : Hid (w.heap.size = RB) := hRB
    clear hRB
    go_loopw [5, 6] (fun v5 v6 wr => ∃ (acc : List Sp) (p n : Nat) (ov mb : Bool) (ai : Int) (A : Option Addr) (c : Nat), v5 = .slice A n c ∧ v6 = .bool mb ∧ Hid ((acc.take 256).length = n ∧ decide (256 < acc.length) = mb) ∧ Hid (Rp s acc p ov) ∧ Hid (Bx wr w.heap.size (.string s) (.int .i64 ai) (.int .i64 p) (.bool ov)) ∧ Hid (wr.ownsRow (w.heap.size + 1) 64 3 (.slice A n c) n (cellsP (acc.take 256))) ∧ Hid (Gr w wr)) (fun _ _ wr => meaP s w.heap.size wr)
    case atStart => exact ⟨[], 0, 0, false, false, 0, none, 0, rfl, rfl, ⟨rfl, rfl⟩, Or.inl ⟨rfl, Nat.zero_le _, after_start _⟩, HB0.out, ⟨rfl, Or.inl ⟨rfl, rfl⟩⟩, (Gr.refl _).alloc _⟩
    case round =>
      obtain ⟨acc, p, n, ov, mb, ai, A, c, rfl, rfl, HN, HR, HB, HO, HG⟩ := hrel
      rcases hor : HR.out with ⟨rfl, hp, ha⟩ | ⟨rfl, hps⟩
      · clear hor HR
        have HA : Hid (After s.data.toList acc p ∧ p ≤ s.size) := ⟨ha, hp⟩
        have HC : Hid _ := step43 w s w.heap.size (.int .i64 ai) p wr HS.out.1 HG.out (Nat.le_refl _) ⟨ai, rfl⟩ HB.out HS.out.2 hp
        have HMe : Hid (meaP s w.heap.size wr = s.size + 2 - p) := meaP_eq HB.out
        have b3 := HB.out.c3
        clear ha hp
        go_wp2_with fail
        refine Calls.mono HC.out ?_
        rintro e w1 ⟨t1, hst⟩
        have HG1 : Hid (Gr w w1) := t1.gr HG.out (Nat.le_refl _)
        have HO1 : Hid (w1.ownsRow (w.heap.size + 1) 64 3 (.slice A n c) n (cellsP (acc.take 256))) := owns_gt HO.out t1 (Nat.lt_succ_self _)
        clear t1 b3 HC HO HB
        rcases hst with ⟨q, nx, ov, h1, rfl, hb1⟩ | ⟨x, e1, ai2, h1, rfl, hb1⟩
        · have HP : Hid (Ps s.data.toList 0 (.inl q)) := HA.out.1.bad h1
          have HBx : Hid (Bx (w1.alloc (.cells #[.int .i64 0, .int .i64 0, .int .i64 0] 64)) w.heap.size (.string s) (.int .i64 q) nx ov) := hb1.gr ((Gr.refl _).alloc _)
          have c1 := HBx.out.c1
          clear hb1 h1
          go_wp2_with fail
          go_quiet (fail)
          go_wp2_with fail
          go_ret3
          exact ⟨none, 0, [], q, 80, rfl, sl_nil _ _, Or.inr ⟨HNe.out, Or.inl ⟨HP.out, rfl, rfl⟩⟩, (HG1.out.alloc _).drewN _⟩
        · obtain ⟨k1, k2, k3⟩ := one_end HA.out.2 h1
          have k2' : e1 ≤ s.size := k2
          obtain ⟨x0, x1, x2⟩ := x
          have HX : Hid (oneS s.data.toList p = .inr ((x0, x1, x2), e1)) := h1
          have HK : Hid (p ≤ e1 ∧ e1 ≤ s.size) := ⟨k1, k2⟩
          have HB1 : Hid (Bx w1 w.heap.size (.string s) (.int .i64 ai2) (.int .i64 ((e1 + 1 : Nat) : Int)) (.bool (decide (e1 = s.size)))) := hb1
          have HRn : Hid (Rp s (acc ++ [(x0, x1, x2)]) (e1 + 1) (decide (e1 = s.size))) := by
            by_cases he : e1 = s.size
            · rw [decide_eq_true he]; exact Or.inr ⟨rfl, HA.out.1.done HX.out he⟩
            · rw [decide_eq_false he]; exact Or.inl ⟨rfl, by omega, HA.out.1.next HX.out he⟩
          clear hb1 h1 k1 k2 k2' k3
          obtain ⟨hn, hmb⟩ := HN.out
          have hnn : n = min 256 acc.length := by rw [← hn, List.length_take]
          by_cases hm : acc.length < 256
          · have e2 : (acc ++ [(x0, x1, x2)]).take 256 = acc.take 256 ++ [(x0, x1, x2)] := by
              rw [List.take_of_length_le (by simp; omega), List.take_of_length_le (by omega)]
            have HN2 : Hid (((acc ++ [(x0, x1, x2)]).take 256).length = n + 1 ∧ decide (256 < (acc ++ [(x0, x1, x2)]).length) = false) := ⟨by rw [e2, List.length_append, hn]; rfl, decide_eq_false (by simp; omega)⟩
            have hmf : mb = false := by rw [← hmb]; exact decide_eq_false (by omega)
            subst hmf
            have hn256 : ((n : Int) == 256) = false := by simpa using (by omega : ¬ (n : Int) = 256)
            have hown2 := (owns_gr HO1.out ((Gr.refl w1).alloc (.cells #[.int .i64 x0, .int .i64 x1, .int .i64 x2] 64)))
            have HG2 := HG1.out.size
            have HHn : Hid (n < 256) := by show n < 256; omega
            have HLn : Hid (cellsP ((acc ++ [(x0, x1, x2)]).take 256) = cellsP (acc.take 256) ++ [.int .i64 x0, .int .i64 x1, .int .i64 x2]) := by show _ = _; rw [e2, cellsP_app, cellsP_one]
            clear hnn hm e2 hn hmb HN
            go_wp2_with (at_builtin; refine wpList_append_own _ rfl _ _ 22 rfl (w.heap.size + 1) 64 i0 (.agg #[.int .i64 0, .int .i64 0, .int .i64 0]) 3 24 Tryd.underlying22 hi hz0 hz1 hz2 rfl (by decide) _ _ _ rfl (hown2.alloc _) ⟨w1.heap.size + 1, 0, none⟩ 1 1 [.int .i64 x0, .int .i64 x1, .int .i64 x2] rfl rfl (by have := cell_three_new (w1.alloc (.cells #[.int .i64 x0, .int .i64 x1, .int .i64 x2] 64)) (.int .i64 x0) (.int .i64 x1) (.int .i64 x2) 64; simp only [World.size_alloc] at this; exact this) (by simp [Value.oneCell']) (by unfold maxLen; have := HHn.out; omega) (by have := HHn.out; omega) (by simp; have := HB1.out.lt; omega) ?_; intro v3 w3 hown3 hgrow hnil)
            have hB3 : Bx w3 w.heap.size (.string s) (.int .i64 ai2) (.int .i64 ((e1 + 1 : Nat) : Int)) (.bool (decide (e1 = s.size))) := grown_bx ((HB1.out.gr ((Gr.refl _).alloc _)).gr ((Gr.refl _).alloc _)) hgrow (fun h => by have := (HO1.out.lt _ h).1; omega)
            have hG3 : Gr w w3 := Below.grown ((HG1.out.alloc _).alloc _) hgrow (by simp; omega) (fun j hj => by have := (HO1.out.lt j hj).1; omega)
            have HB3 : Hid _ := hB3
            have HG3 : Hid _ := hG3
            rw [← HLn.out, ← HN2.out.1] at hown3
            obtain ⟨A3, c3, rfl, _⟩ := owns_any hown3
            rw [HN2.out.1] at hown3 ⊢
            have HO3 : Hid _ := hown3
            clear hown3 hgrow hnil hB3 hG3 hown2
            go_wp2_with fail
            go_roundw
            case rel => exact ⟨acc ++ [(x0, x1, x2)], e1 + 1, n + 1, _, false, ai2, A3, c3, rfl, rfl, HN2.out, HRn.out, HB3.out, HO3.out, HG3.out⟩
            case measure =>
              have h1 := HMe.out
              have h2 := meaP_eq (s := s) HB3.out
              have h3 := HK.out
              rw [h1, h2]
              omega
          · have e3 : (acc ++ [(x0, x1, x2)]).take 256 = acc.take 256 := by rw [List.take_append_of_le_length (by omega)]
            have HN2 : Hid (((acc ++ [(x0, x1, x2)]).take 256).length = n ∧ decide (256 < (acc ++ [(x0, x1, x2)]).length) = true) := ⟨by rw [e3]; exact hn, decide_eq_true (by simp; omega)⟩
            have HE3 : Hid _ := e3
            obtain rfl : n = 256 := by omega
            have HB2 : Hid (Bx (w1.alloc (.cells #[.int .i64 x0, .int .i64 x1, .int .i64 x2] 64)) w.heap.size (.string s) (.int .i64 ai2) (.int .i64 ((e1 + 1 : Nat) : Int)) (.bool (decide (e1 = s.size)))) := HB1.out.gr ((Gr.refl _).alloc _)
            clear hnn hm e3 hn hmb HN
            go_wp2_with fail
            go_roundw
            case rel => exact ⟨acc ++ [(x0, x1, x2)], e1 + 1, 256, _, true, ai2, A, c, rfl, rfl, HN2.out, HRn.out, HB2.out, by show World.ownsRow _ _ _ _ _ _ _; rw [HE3.out]; exact owns_gr HO1.out ((Gr.refl _).alloc _), HG1.out.alloc _⟩
            case measure =>
              have h1 := HMe.out
              have h2 := meaP_eq (s := s) HB2.out
              have h3 := HK.out
              rw [h1, h2]
              omega
      · clear hor HR
        have HP : Hid (Ps s.data.toList 0 (.inr acc)) := hps
        have b3 := HB.out.c3
        obtain ⟨hn, hmb⟩ := HN.out
        by_cases hm : 256 < acc.length
        · have hmt : mb = true := by rw [← hmb]; exact decide_eq_true hm
          subst hmt
          have HM : Hid (256 < acc.length) := hm
          clear hm hmb hn hps
          go_wp2_with fail
          go_ret3
          exact ⟨none, 0, [], 256, 3, rfl, sl_nil _ _, Or.inr ⟨HNe.out, Or.inr (Or.inl ⟨acc, HP.out, HM.out, rfl, rfl, rfl⟩)⟩, HG.out⟩
        · have hmf : mb = false := by rw [← hmb]; exact decide_eq_false hm
          subst hmf
          have ht : acc.take 256 = acc := List.take_of_length_le (by omega)
          rw [ht] at hn
          have HO2 : Hid (wr.ownsRow (w.heap.size + 1) 64 3 (.slice A n c) n (cellsP acc)) := by have := HO.out; rw [ht] at this; exact this
          have HM : Hid (acc.length ≤ 256 ∧ acc.length = n) := ⟨by omega, hn⟩
          clear hm hmb hn hps ht HO
          go_wp2_with fail
          go_ret3
          have h2 := HO2.out
          rw [← HM.out.2] at h2 ⊢
          exact ⟨A, c, acc, 0, 0, rfl, owns_sl h2, Or.inr ⟨HNe.out, Or.inr (Or.inr ⟨HP.out, HM.out.1, rfl, rfl⟩)⟩, HG.out⟩
end Go.Proofs.YtgjojdlbighoaaaDoor
