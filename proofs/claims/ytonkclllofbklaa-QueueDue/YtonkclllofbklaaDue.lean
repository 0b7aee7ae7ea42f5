/- The contract of Due of a queue by time. -/
import Derived.Test.YtonkclllofbklaaTms
namespace Go.Proofs.Ytonkclllofbklaa
open Go.RowKit Go.Maps Go.ChangeMaps
set_option linter.unusedVariables false
theorem info3 : (Try.prog.info? 3).map (fun i => (i.zero, i.size, i.bytes)) = some (some (.int .i64 0), 1, 8) := by kernel_rfl
theorem Tq.apart {w : World} {q : Nat} {F : List Nat} {p : Int} {S : List Slot} (h : Tq w q F p S) {base e k n : Nat} {v : Value} {xs : List Value} (ho : w.ownsRow base e k v n xs) (e1 : e ≠ 72) (e2 : e ≠ 77) : ∀ b, v.ownBlock = some b → ¬ b ∈ F := by
  obtain ⟨sl, m, rfl, ⟨s, h1, _⟩, _⟩ := h
  intro b hb hF
  obtain ⟨_, h2 | ⟨g, cap, cur, rfl, hg, hcc, r⟩⟩ := ho
  · rw [h2.1] at hb; cases hb
  · simp [Value.ownBlock] at hb
    subst hb
    simp [fq] at hF
    rcases hF with rfl | hF | hF
    · have := h1.hc
      unfold HC at this
      rw [hcc] at this
      simp at this
      exact e1 this.2
    · obtain ⟨_, h3 | ⟨g', cap', cur', rfl, hg', hcc', r'⟩⟩ := h1.row
      · rw [h3.1] at hF; cases hF
      · simp [Value.ownBlock] at hF
        subst hF
        rw [hcc] at hcc'
        simp at hcc'
        exact e2 hcc'.2
    · rcases h1.mp with ⟨rfl, _⟩ | ⟨b, rfl, hm⟩
      · cases hF
      · cases hF
        obtain ⟨D, ⟨es, cl, hb, _⟩, _⟩ := hm
        rw [hb] at hcc
        simp at hcc
def TkP (w w' : World) (q : Nat) (F : List Nat) (p : Int) (T : List Slot) (now i : Int) (ok : Bool) : Prop :=
  (ok = true ∧ ∃ x R F', T = x :: R ∧ x.at_ ≤ now ∧ i = x.item ∧ Tq w' q F' p R ∧ Touch F w w' ∧ Nf w F F') ∨ (ok = false ∧ i = 0 ∧ (T = [] ∨ now < (gt T 0).at_) ∧ Touch [] w w' ∧ Tq w' q F p T)
def TkE (e : Ending) (w w' : World) (q : Nat) (F : List Nat) (p : Int) (T : List Slot) (now : Int) : Prop := ∃ i ok, e = .returned (.tuple #[.int .i64 i, .bool ok]) ∧ TkP w w' q F p T now i ok
theorem take21 (w : World) (q : Nat) (F : List Nat) (p : Int) (T : List Slot) (now : Int) (h : Tq w q F p T) : Calls Try.prog 21 #[PT q, .int .i64 now] w fun e w' => TkE e w w' q F p T now := by
  by_cases c : T = [] ∨ now < (gt T 0).at_
  · refine (take21_no w q F p T now h c).mono ?_
    rintro e w' ⟨rfl, ht⟩
    exact ⟨0, false, rfl, Or.inr ⟨rfl, rfl, c, ht, h.keep0 ht⟩⟩
  · cases T with
    | nil => exact absurd (Or.inl rfl) c
    | cons x R =>
      have hx : x.at_ ≤ now := by
        have : ¬ now < x.at_ := fun e => c (Or.inr e)
        omega
      refine (take21_yes w q F p x R now h hx).mono ?_
      rintro e w' ⟨rfl, F', h1, h2, h3⟩
      exact ⟨x.item, true, rfl, Or.inl ⟨rfl, x, R, F', rfl, hx, rfl, h1, h2, h3⟩⟩
def items (S : List Slot) : List Value := S.map fun x => .int .i64 x.item
def lenOf : Value → Nat
  | .slice _ n _ => n
  | _ => 0
/-- How Due stands ahead of a round: k items are told. -/
structure DuS (w wr : World) (q : Nat) (F : List Nat) (p : Int) (S : List Slot) (now : Int) (v : Value) (k : Nat) (i : Int) (ok : Bool) : Prop where
  hk : k ≤ S.length
  row : wr.ownsRow w.heap.size 3 1 v k (items (S.take k))
  all : ∀ j, j < k → (gt S j).at_ ≤ now
  to : Touch F w wr
  st : (ok = true ∧ ∃ x R F', S.drop k = x :: R ∧ x.at_ ≤ now ∧ i = x.item ∧ Tq wr q F' p R ∧ Nf w F F') ∨ (ok = false ∧ ∃ F', (S.drop k = [] ∨ now < (gt (S.drop k) 0).at_) ∧ Tq wr q F' p (S.drop k) ∧ Nf w F F')
theorem Nf.trans {w w1 : World} {F G H : List Nat} (h : Nf w F G) (k : Nf w1 G H) (hz : w.heap.size ≤ w1.heap.size) : Nf w F H := fun i hi => by
  rcases k i hi with e | e
  · exact h i e
  · exact Or.inr (Nat.le_trans hz e)
theorem DuS.start {w w1 : World} {q : Nat} {F : List Nat} {p : Int} {S : List Slot} {now i : Int} {ok : Bool} (h : TkP w w1 q F p S now i ok) : DuS w w1 q F p S now (.slice none 0 0) 0 i ok := by
  refine ⟨Nat.zero_le _, World.ownsRow_nil _ _ _ _, fun j hj => by omega, ?_, ?_⟩
  · rcases h with ⟨_, x, R, F', _, _, _, _, t, _⟩ | ⟨_, _, _, t, _⟩
    · exact t
    · exact t.mono (fun _ e => by cases e)
  · rcases h with ⟨r0, x, R, F', r1, r2, r3, r4, r5, r6⟩ | ⟨r0, r1, r2, r3, r4⟩
    · exact Or.inl ⟨r0, x, R, F', r1, r2, r3, r4, r6⟩
    · exact Or.inr ⟨r0, F, r2, r4, Nf.refl _ _⟩
theorem items_snoc {S : List Slot} {k : Nat} {x : Slot} {R : List Slot} (h : S.drop k = x :: R) : k < S.length ∧ items (S.take (k + 1)) = items (S.take k) ++ [.int .i64 x.item] ∧ S.drop (k + 1) = R ∧ gt S k = x := by
  have hk : k < S.length := by
    rcases Nat.lt_or_ge k S.length with h' | h'
    · exact h'
    · rw [List.drop_of_length_le h'] at h; cases h
  have e := List.drop_eq_getElem_cons hk
  rw [h] at e
  simp only [List.cons.injEq] at e
  refine ⟨hk, ?_, e.2.symm, by rw [gt_eq hk]; exact e.1.symm⟩
  unfold items
  rw [List.take_succ_eq_append_getElem hk, List.map_append, ← e.1]
  rfl
theorem DuS.quit {w wr : World} {q : Nat} {F : List Nat} {p : Int} {S : List Slot} {now i : Int} {v : Value} {k : Nat} (h : DuS w wr q F p S now v k i false) : DuS w wr q F p S now v k 0 false := by
  refine ⟨h.hk, h.row, h.all, h.to, ?_⟩
  rcases h.st with ⟨e, _⟩ | r
  · cases e
  · exact Or.inr r
theorem DuS.step {w wr w2 w3 : World} {q : Nat} {F G : List Nat} {p : Int} {S : List Slot} {now i j : Int} {ok : Bool} {v v2 : Value} {k : Nat} {x : Slot} {R : List Slot} (h : DuS w wr q F p S now v k i true) (hd : S.drop k = x :: R) (hx : x.at_ ≤ now) (hN : Nf w F G)
    (hr : w2.ownsRow w.heap.size 3 1 v2 (k + 1) (items (S.take k) ++ [.int .i64 x.item])) (ht : Touch F w w2) (hG : Tq w2 q G p R) (hp : TkP w2 w3 q G p R now j ok) : DuS w w3 q F p S now v2 (k + 1) j ok := by
  obtain ⟨hk, e1, e2, e3⟩ := items_snoc hd
  have T3 : Touch G w2 w3 := by
    rcases hp with ⟨_, _, _, _, _, _, _, _, t, _⟩ | ⟨_, _, _, t, _⟩
    · exact t
    · exact t.mono (fun _ e => by cases e)
  refine ⟨hk, ?_, fun a ha => ?_, ht.trans T3 hN, ?_⟩
  · rw [e1]
    exact own_touch hr T3 (fun b hb => hG.apart hr (by decide) (by decide) b hb)
  · by_cases e : a = k
    · rw [e, e3]; exact hx
    · exact h.all a (by omega)
  · rw [e2]
    rcases hp with ⟨r0, y, R', F', r1, r2, r3, r4, r5, r6⟩ | ⟨r0, r1, r2, r3, r4⟩
    · exact Or.inl ⟨r0, y, R', F', r1, r2, r3, r4, hN.trans r6 ht.size⟩
    · exact Or.inr ⟨r0, G, r2, r4, hN⟩
theorem cell_one_new (w : World) (x : Value) (t : TypeId) : ∀ j u, [x][j]? = some u → (w.alloc (.cells #[x] t)).cell? ((⟨w.heap.size, 0, none⟩ : Addr).add j) = some u := by
  intro j u hj
  match j, hj with
  | 0, hj => simp at hj; subst hj; simp [Addr.add]
set_option maxHeartbeats 2000000 in
theorem due23 (w : World) (q : Nat) (F : List Nat) (p : Int) (S : List Slot) (now : Int) (h : Tq w q F p S) :
    Calls Try.prog 23 #[PT q, .int .i64 now] w fun e w' => ∃ v k, e = .returned v ∧ DuS w w' q F p S now v k 0 false := by
  obtain ⟨i3, hi, hz0, hz1, hz2⟩ := info_parts info3
  have hle := h.len
  have HT := hid (take21 w q F p S now h)
  have HT2 : Hid (∀ w2 G R, Tq w2 q G p R → Calls Try.prog 21 #[.pointer (some ⟨q, 0, none⟩), .int .i64 now] w2 fun e w' => TkE e w2 w' q G p R now) := fun w2 G R k => take21 w2 q G p R now k
  clear h
  unfold PT at HT ⊢
  go_enter Try.func23, Try.ntmps23
  go_wp2_with fail
  refine HT.out.mono ?_
  rintro e w1 ⟨i, ok, rfl, h1⟩
  have H1 := hid (DuS.start h1)
  clear h1 HT
  go_wp2
  go_loopw [5, 6, 7] (fun s5 i ok wr => ∃ a k c ii bb, s5 = .slice a k c ∧ i = .int .i64 ii ∧ ok = .bool bb ∧ Hid (DuS w wr q F p S now (.slice a k c) k ii bb)) (fun v _ _ _ => S.length - lenOf v)
  case atStart => exact ⟨_, 0, _, i, ok, rfl, rfl, rfl, H1⟩
  case round =>
    clear H1
    obtain ⟨a, k, c, ii, bb, rfl, rfl, rfl, HD⟩ := hrel
    cases bb with
    | false =>
      go_wp2
      go_ret
      exact ⟨_, k, rfl, HD.out.quit⟩
    | true =>
      obtain ⟨x, R, G, hd, hx, rfl, hG, hN⟩ : ∃ x R F', S.drop k = x :: R ∧ x.at_ ≤ now ∧ ii = x.item ∧ Tq wr q F' p R ∧ Nf w F F' := by
        rcases HD.out.st with ⟨_, r⟩ | ⟨e, _⟩
        · exact r
        · cases e
      have hk := (items_snoc hd).1
      have hb := HD.out.to.size
      have HS := hid (And.intro hd (And.intro hx (And.intro hG hN)))
      clear hd hx hG hN
      go_wp2_with (at_builtin; refine wpList_append_lies _ rfl _ _ 47 rfl w.heap.size 3 i3 (.int .i64 0) 1 8 Try.underlying47 hi hz0 hz1 hz2 rfl (by decide) (.slice a k c) k (items (S.take k)) rfl (HD.out.row.alloc _) ⟨wr.heap.size, 0, none⟩ 1 1 [.int .i64 x.item] rfl rfl (cell_one_new _ _ _) (by simp [Value.oneCell']) (by decide) (by unfold maxLen; omega) (by omega) (by simp; omega) _ rfl ?_; intro g1 c1 w2 hown2 hgrow hat hlt2)
      have T2 : Touch (Value.slice a k c).ownBlock.toList wr w2 := ((Touch.refl _ _).alloc _).grown hgrow (fun j hj => Or.inl (by simp [hj]))
      have G2 : Tq w2 q G p R := HS.out.2.2.1.keep T2 (fun j hj e => HS.out.2.2.1.apart HD.out.row (by decide) (by decide) j (by simpa using e) hj)
      have TW : Touch F w w2 := HD.out.to.trans T2 (fun j hj => Or.inr (HD.out.row.lt j (by simpa using hj)).1)
      refine (HT2.out _ _ _ G2).mono ?_
      rintro e w3 ⟨j, ok2, rfl, h3⟩
      have H3 := hid (HD.out.step HS.out.1 HS.out.2.1 HS.out.2.2.2 hown2 TW G2 h3)
      clear h3 G2 T2 hgrow hat TW hown2
      go_wp2
      go_roundw
      case rel => exact ⟨_, k + 1, _, j, ok2, rfl, rfl, rfl, H3⟩
      case measure => simp [lenOf]; omega
end Go.Proofs.Ytonkclllofbklaa
