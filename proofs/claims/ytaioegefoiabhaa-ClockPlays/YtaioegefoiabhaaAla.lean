/- The contract of All of a queue by time: its items with their ticks, in order, in a new row. -/
import Derived.Test.YtaioegefoiabhaaSor
import Derived.Test.YtaioegefoiabhaaDue
namespace Go.Proofs.Ytaioegefoiabhaa
open Go.RowKit Go.Maps Go.ChangeMaps
set_option linter.unusedVariables false
theorem info61 : (Try.prog.info? 62).map (fun i => (i.zero, i.size, i.bytes)) = some (some (.agg #[.int .i64 0, .int .i64 0]), 2, 16) := by kernel_rfl
theorem eq67 (w : World) (a : Option Addr) (n c n' c' : Nat) : (binOp .eql 78 (.slice a n c) (.slice none n' c')).run Try.prog w = .ok (.bool a.isNone) w := Lib.run_eql_slice_nil w _ _ a n c n' c' Try.underlying78
def pairC (x : Slot) : List Value := [.int .i64 x.at_, .int .i64 x.item]
def flat2 (s : List Slot) : List Value := s.flatMap pairC
theorem flat2_cons (x : Slot) (s : List Slot) : flat2 (x :: s) = .int .i64 x.at_ :: .int .i64 x.item :: flat2 s := by simp [flat2, pairC]
theorem flat2_len (s : List Slot) : (flat2 s).length = s.length * 2 := by
  induction s with
  | nil => rfl
  | cons x s ih => rw [flat2_cons]; simp [ih]; omega
theorem flat2_app (s t : List Slot) : flat2 (s ++ t) = flat2 s ++ flat2 t := by simp [flat2]
theorem flat2_at : ∀ (s : List Slot) (i : Nat), i < s.length → (flat2 s)[i * 2]? = some (.int .i64 (gt s i).at_) ∧ (flat2 s)[i * 2 + 1]? = some (.int .i64 (gt s i).item)
  | x :: s, 0, _ => by rw [flat2_cons]; simp [gt]
  | x :: s, i + 1, h => by
    have ih := flat2_at s i (by simpa using h)
    rw [flat2_cons, show (i + 1) * 2 = i * 2 + 1 + 1 by omega, show i * 2 + 1 + 1 + 1 = (i * 2 + 1) + 1 + 1 by omega]
    simpa [gt] using ih
set_option maxHeartbeats 1000000 in
theorem clone39 (w : World) (sl : Value) (s : List Slot) (h : w.ownsRow 0 86 3 sl s.length (flat s)) (hl : s.length ≤ 65536) :
    Calls Try.prog 38 #[sl] w fun e w' => ∃ v, e = .returned v ∧ w'.ownsRow w.heap.size 86 3 v s.length (flat s) ∧ Touch [] w w' := by
  obtain ⟨i0, hi, hz0, hz1, hz2⟩ := info_parts info77
  have q67 := eq67
  rcases h.2 with ⟨rfl, h0⟩ | ⟨g, cap, cur, rfl, hg, hc, hn, hm, hs, ht⟩
  · have hnil : s = [] := List.length_eq_zero_iff.1 h0
    subst hnil
    clear h
    go_enter Try.func38, Try.ntmps38
    go_wp2
    go_ret
    exact ⟨_, rfl, World.ownsRow_nil _ _ _ _, Touch.refl _ _⟩
  · have HO := hid h
    have HB := hid (show (w.alloc (.cells #[] 86)).ownsRow w.heap.size 86 3 (.slice (some ⟨w.heap.size, 0, none⟩) 0 0) 0 [] from World.ownsRow_made w #[] 0 (Nat.le_refl _) (by unfold maxLen; omega) rfl)
    have HN : Hid (∀ j u, (flat s)[j]? = some u → (w.alloc (.cells #[] 86)).cell? ((⟨g, 0, none⟩ : Addr).add j) = some u) := fun j u hj => by
      have := own_cell (own_touch h ((Touch.refl [] w).alloc (.cells #[] 86)) (fun _ _ e => by cases e)) hj
      rw [show (⟨g, 0, none⟩ : Addr).add j = ⟨g, j, none⟩ by cases j <;> simp [Addr.add]]
      exact this
    have H1 : Hid (∀ u ∈ flat s, u.oneCell' = true) := fun u hu => by
      unfold flat at hu
      rw [List.mem_flatMap] at hu
      obtain ⟨x, _, hx⟩ := hu
      simp [cells3] at hx
      rcases hx with rfl | rfl | rfl <;> rfl
    have HL := hid (flat_len s)
    clear h hc ht hs
    go_enter Try.func38, Try.ntmps38
    go_wp2_with (at_builtin; refine wpList_append_own _ rfl _ _ 78 rfl w.heap.size 86 i0 (.agg #[.int .i64 0, .int .i64 0, .int .i64 0]) 3 24 Try.underlying78 hi hz0 hz1 hz2 rfl (by decide) _ 0 [] rfl HB.out ⟨g, 0, none⟩ s.length cap (flat s) rfl HL.out HN.out H1.out (by unfold maxLen; omega) (by omega) (by simp) ?_; intro v2 w2 hown2 hgrow hnil)
    go_ret
    refine ⟨_, rfl, ?_, ((Touch.refl _ _).alloc _).grown hgrow (fun k hk => Or.inr (by have e : some w.heap.size = some k := hk; cases e; exact Nat.le_refl _))⟩
    simpa using hown2
theorem sort40_all (w : World) (base : Nat) (v : Value) (s S : List Slot) (h : w.ownsRow base 86 3 v s.length (flat s)) (hl : s.length ≤ 65536) (hp : s.Perm S) (hS : Srt S) :
    Calls Try.prog 39 #[v, .func (.func 40) #[] #[]] w fun e w' => e = .returned (.tuple #[]) ∧ w'.ownsRow base 86 3 v S.length (flat S) ∧ Touch v.ownBlock.toList w w' := by
  rcases h.2 with ⟨rfl, h0⟩ | ⟨g, cap, cur, rfl, _⟩
  · have hnil : s = [] := List.length_eq_zero_iff.1 h0
    subst hnil
    have : S = [] := hp.symm.eq_nil
    subst this
    have hc := AnyF.slices_SortFunc_none Try.sortS none 0 (.func (.func 40) #[] #[]) w
    change Calls Try.prog 39 _ _ _ at hc
    refine hc.mono ?_
    rintro e w' ⟨he, rfl⟩
    exact ⟨he, h, Touch.refl _ _⟩
  · haveI : Inhabited Slot := ⟨⟨0, 0, 0⟩⟩
    refine (sort40 w base g cap s S h hl hp hS).mono ?_
    rintro e w' ⟨he, h1, h2⟩
    rw [hp.length_eq]
    exact ⟨he, h1, h2⟩
theorem cell_two_new (w : World) (x y : Value) (t : TypeId) : ∀ j u, [x, y][j]? = some u → (w.alloc (.cells #[x, y] t)).cell? ((⟨w.heap.size, 0, none⟩ : Addr).add j) = some u := by
  intro j u hj
  match j, hj with
  | 0, hj => simp at hj; subst hj; simp [Addr.add]
  | 1, hj => simp at hj; subst hj; simp [Addr.add]
theorem cell_two_new' (w : World) (o : Obj) (x y : Value) (t : TypeId) : ∀ j u, [x, y][j]? = some u → ((w.alloc o).alloc (.cells #[x, y] t)).cell? ((⟨w.heap.size + 1, 0, none⟩ : Addr).add j) = some u := by
  have := cell_two_new (w.alloc o) x y t
  simpa using this
/-- Rows of unlike types lie in unlike blocks. -/
theorem row_row {w : World} {base base' e e' k k' n n' : Nat} {v v' : Value} {xs xs' : List Value} (h : w.ownsRow base e k v n xs) (h' : w.ownsRow base' e' k' v' n' xs') (he : e ≠ e') : ∀ b, v.ownBlock = some b → v'.ownBlock = some b → False := by
  intro b hb hb'
  obtain ⟨_, h2 | ⟨g, cap, cur, rfl, hg, hcc, r⟩⟩ := h
  · rw [h2.1] at hb; cases hb
  · obtain ⟨_, h3 | ⟨g', cap', cur', rfl, hg', hcc', r'⟩⟩ := h'
    · rw [h3.1] at hb'; cases hb'
    · simp [Value.ownBlock] at hb hb'
      subst hb hb'
      rw [hcc] at hcc'
      simp at hcc'
      exact he hcc'.2
theorem take_snocS (xs : List Slot) (k : Nat) (h : k < xs.length) : xs.take (k + 1) = xs.take k ++ [gt xs k] := by rw [gt_eq h]; exact List.take_succ_eq_append_getElem h
set_option maxHeartbeats 2000000 in
set_option maxRecDepth 100000 in
theorem all33 (w : World) (q : Nat) (F : List Nat) (p : Int) (S : List Slot) (h : Tq w q F p S) :
    Calls Try.prog 22 #[PT q] w fun e w' => ∃ v, e = .returned v ∧ w'.ownsRow w.heap.size 62 2 v S.length (flat2 S) ∧ Touch [] w w' := by
  obtain ⟨i0, hi, hz0, hz1, hz2⟩ := info_parts info61
  have hle := h.len
  obtain ⟨sl, m, rfl, t⟩ := h
  obtain ⟨s, h1, h2, h3⟩ := t.ex
  have c0 := h1.hc.c0
  have HC := hid (clone39 w sl s h1.row h1.le)
  have HS : Hid (∀ w1 v, w1.ownsRow w.heap.size 86 3 v s.length (flat s) → Calls Try.prog 39 #[v, .func (.func 40) #[] #[]] w1 fun e w' => e = .returned (.tuple #[]) ∧ w'.ownsRow w.heap.size 86 3 v S.length (flat S) ∧ Touch v.ownBlock.toList w1 w') := fun w1 v hv => sort40_all w1 _ v s S hv h1.le h3 t.srt
  clear h1 h2 h3 t
  unfold PT
  go_enter Try.func22, Try.ntmps22
  go_wp2_with fail
  refine HC.out.mono ?_
  rintro e w1 ⟨v, rfl, o1, t1⟩
  have O1 := hid o1
  have T1 := hid t1
  clear o1 t1
  go_wp2_with fail
  refine (HS.out _ _ O1.out).mono ?_
  rintro e w2 ⟨rfl, o2, t2⟩
  obtain ⟨a, c, rfl⟩ := own_form o2
  have O2 := hid o2
  have T2 : Hid (Touch [] w w2) := T1.out.trans t2 (fun k hk => Or.inr (O1.out.lt k (by simpa using hk)).1)
  clear o2 t2 O1 T1 HC HS
  have hb2 := T2.out.size
  have zl : (S.length : Int) ≤ 65536 := by omega
  go_wp2_with (at_make; refine wpList_make_own _ rfl _ _ 59 rfl w.heap.size 62 i0 (.agg #[.int .i64 0, .int .i64 0]) 2 Try.underlying59 hi hz0 hz1 .i64 .i64 _ S.length rfl rfl rfl (by rw [hz2]; omega) (by unfold maxLen; omega) hb2 ?_; intro w3 o3 g3)
  have O3 := hid o3
  have T3 : Hid (Touch [] w2 w3) := Touch.grown (Touch.refl _ _) g3 (fun k hk => by cases hk)
  clear o3 g3
  go_loopw [4, 22] (fun s4 i wr => ∃ a4 k c4, s4 = .slice a4 k c4 ∧ i = .int .i64 k ∧ k ≤ S.length ∧ Hid (wr.ownsRow w.heap.size 62 2 (.slice a4 k c4) k (flat2 (S.take k)) ∧ wr.ownsRow w.heap.size 86 3 (.slice a S.length c) S.length (flat S) ∧ Touch [] w wr)) (fun _ i _ => S.length - (intOf i).toNat)
  case atStart => exact ⟨_, 0, _, rfl, rfl, Nat.zero_le _, O3.out, own_touch O2.out T3.out (fun _ _ e => by cases e), T2.out.trans' T3.out⟩
  case round =>
    obtain ⟨a4, k, c4, rfl, rfl, hk, HR⟩ := hrel
    by_cases hlt : k < S.length
    · have zk : (k : Int) < (S.length : Int) := by omega
      obtain ⟨g, c', hv⟩ : ∃ g c', Value.slice a S.length c = .slice (some ⟨g, 0, none⟩) S.length c' := by
        obtain ⟨g, c', h, _⟩ := HR.out.2.1.form (by omega)
        exact ⟨g, c', h⟩
      injection hv with hv1 hv2 hv3
      subst hv1 hv3
      obtain ⟨x0, x1, x2⟩ := flat_at S k hlt
      have a0 := own_cell HR.out.2.1 x0
      have a1 := own_cell HR.out.2.1 x1
      have a2 := own_cell HR.out.2.1 x2
      have hbr := HR.out.2.2.size
      have HX : Hid (flat2 (S.take (k + 1)) = flat2 (S.take k) ++ [.int .i64 (gt S k).at_, .int .i64 (gt S k).item]) := by
        show _ = _
        rw [take_snocS S k hlt, flat2_app]; rfl
      clear x0 x1 x2 O2 O3 T2 T3
      generalize gt S k = x at *
      go_wp2_with (at_builtin; refine wpList_append_lies _ rfl _ _ 59 rfl w.heap.size 62 i0 (.agg #[.int .i64 0, .int .i64 0]) 2 16 Try.underlying59 hi hz0 hz1 hz2 rfl (by decide) (.slice a4 k c4) k (flat2 (S.take k)) rfl ((HR.out.1.alloc _).alloc _) ⟨wr.heap.size + 1, 0, none⟩ 1 1 [.int .i64 x.at_, .int .i64 x.item] rfl rfl (cell_two_new' _ _ _ _ _) (by simp [Value.oneCell']) (by decide) (by unfold maxLen; omega) (by omega) (by simp; omega) _ rfl ?_; intro g1 c1 w5 hown5 hgrow hat hlt5)
      have T5 : Touch (Value.slice a4 k c4).ownBlock.toList wr w5 := (((Touch.refl _ _).alloc _).alloc _).grown hgrow (fun j hj => Or.inl (by simp [hj]))
      go_roundw
      case rel =>
        refine ⟨_, k + 1, c1, rfl, by go_num, by omega, by rw [HX.out]; exact hown5, own_touch HR.out.2.1 T5 (fun b hb e => ?_), HR.out.2.2.trans T5 (fun j hj => Or.inr (HR.out.1.lt j (by simpa using hj)).1)⟩
        exact row_row HR.out.2.1 HR.out.1 (by decide) b hb (by simpa using e)
      case measure => simp [intOf]; omega
    · have e : k = S.length := by omega
      subst e
      go_wp2
      go_ret
      refine ⟨_, rfl, ?_, HR.out.2.2⟩
      have := HR.out.1
      rw [List.take_length] at this
      exact this
end Go.Proofs.Ytaioegefoiabhaa
