/- The contract of the document's Use; there are at most seventy thousand entries, whose keys are unlike. -/
import Derived.Test.YtopepalpmkeffaaDwo
import Derived.Test.YtopepalpmkeffaaTel
namespace Go.Proofs.Ytopepalpmkeffaa
open Go.RowKit Go.Sort Go.Maps Go.ChangeMaps Go.WideMaps
set_option linter.unusedVariables false
set_option linter.unusedSimpArgs false
theorem own_base {w : World} {base base' e n k : Nat} {v : Value} {xs : List Value} (h : w.ownsRow base e k v n xs) (hb : base' ≤ base) : w.ownsRow base' e k v n xs := by
  obtain ⟨h1, h2 | ⟨g, cap, cur, rfl, hg, r⟩⟩ := h
  · exact ⟨h1, Or.inl h2⟩
  · exact ⟨h1, Or.inr ⟨g, cap, cur, rfl, Nat.le_trans hb hg, r⟩⟩
theorem erase_drx {xs : List En} {i : Nat} (hi : i < xs.length) {k : K} (hk : xs[i].1 = k) (hd : (keysL xs).Nodup) : xs.eraseIdx i = drx xs k := by
  induction xs generalizing i with
  | nil => simp at hi
  | cons x l ih =>
    simp only [keysL, List.map_cons, List.nodup_cons] at hd
    cases i with
    | zero =>
      have e : x.1 = k := by simpa using hk
      have hn : ∀ y ∈ l, y.1 ≠ k := fun y hy e' => hd.1 (by rw [e, ← e']; exact List.mem_map_of_mem hy)
      unfold drx
      rw [List.filter_cons, if_neg (by simp [e])]
      simp only [List.eraseIdx_cons_zero]
      exact (List.filter_eq_self.2 (fun y hy => decide_eq_true (hn y hy))).symm
    | succ i =>
      have hk' : (l[i]'(by simpa using hi)).1 = k := by simpa using hk
      have e : x.1 ≠ k := fun e => hd.1 (by rw [e, ← hk']; exact List.mem_map_of_mem (List.getElem_mem _))
      rw [List.eraseIdx_cons_succ, ih (by simpa using hi) hk' hd.2]
      unfold drx
      rw [List.filter_cons, if_pos (by simp [e])]
theorem news7 {w : World} {g : Nat} {x : En} (h : w.heap[g]? = some (.cells #[.int .u16 x.1.1, .string x.1.2, .int .i64 x.2.1.1, .int .i64 x.2.1.2.1, .int .i64 x.2.1.2.2.1, .int .i64 x.2.1.2.2.2, .int .i64 x.2.2] 62 (0, 0))) : ∀ j u, (nl x)[j]? = some u → w.cell? ((⟨g, 0, none⟩ : Addr).add j) = some u := by
  intro j u hj
  unfold nl at hj
  have h7 : j < 7 := by
    rcases Nat.lt_or_ge j 7 with h | h
    · exact h
    · rw [List.getElem?_eq_none (by simpa using h)] at hj; cases hj
  match j, h7, hj with
  | 0, _, hj => simp at hj; subst hj; simp [Addr.add, World.cell?, h]
  | 1, _, hj => simp at hj; subst hj; simp [Addr.add, World.cell?, h]
  | 2, _, hj => simp at hj; subst hj; simp [Addr.add, World.cell?, h]
  | 3, _, hj => simp at hj; subst hj; simp [Addr.add, World.cell?, h]
  | 4, _, hj => simp at hj; subst hj; simp [Addr.add, World.cell?, h]
  | 5, _, hj => simp at hj; subst hj; simp [Addr.add, World.cell?, h]
  | 6, _, hj => simp at hj; subst hj; simp [Addr.add, World.cell?, h]
theorem nl_one (x : En) : ∀ u ∈ nl x, u.oneCell' = true := by
  intro u hu
  unfold nl at hu
  simp only [List.mem_cons, List.not_mem_nil, or_false] at hu
  rcases hu with rfl | rfl | rfl | rfl | rfl | rfl | rfl <;> rfl
theorem ruse58_no (w : World) (v : Value) (xs : List En) (k : K) (hk : ¬ k ∈ keysL xs) (hl : xs.length ≤ 70000) (h : RN 62 w v xs) : Calls Try.prog 58 #[v, kv k] w fun e w' => e = .returned v ∧ Touch [] w w' := by
  have TV : Hid (Touch [] w (w.alloc (kbx 57 k))) := (Touch.refl _ _).alloc _
  have HF := hid (find31 _ v xs k hl (h.keep TV.out))
  rw [pos_no hk] at HF
  obtain ⟨a, c, rfl, _⟩ := h
  clear hk
  unfold kbx at TV HF
  unfold kv at *
  go_enter Try.func58, Try.ntmps58
  go_wp2_with (go_at_call 31; refine HF.out.mono ?_; rintro e w2 ⟨rfl, t2⟩; have T2 := hid t2; clear t2)
  go_ret
  exact ⟨rfl, TV.out.trans' T2.out⟩
set_option maxHeartbeats 4000000 in
set_option maxRecDepth 100000 in
theorem ruse58_yes (w : World) (v : Value) (xs : List En) (k : K) (i : Nat) (hi : i < xs.length) (hp : pos xs k = (i : Int)) (hl : xs.length ≤ 70000) (h : RN 62 w v xs) :
    Calls Try.prog 58 #[v, kv k] w fun e w' => ∃ v', e = .returned v' ∧ w'.ownsRow w.heap.size 62 7 v' (xs.length - 1 + 1) (cellsN (xs.eraseIdx i) ++ nl xs[i]) ∧ Touch [] w w' := by
  obtain ⟨i3, hf, hz0, hz1, hz2⟩ := info_parts info62
  have TV : Hid (Touch [] w (w.alloc (kbx 57 k))) := (Touch.refl _ _).alloc _
  have HF := hid (find31 _ v xs k hl (h.keep TV.out))
  rw [hp] at HF
  have HWo : Hid (∀ w2, Touch [] w w2 → Calls Try.prog 33 #[v, .int .i64 (i : Int)] w2 fun e w' => ∃ v', e = .returned v' ∧ w'.ownsRow w2.heap.size 62 7 v' (xs.length - 1) (cellsN (xs.eraseIdx i)) ∧ Touch [] w2 w') := fun w2 t => without33 w2 v xs i hi hl (h.keep t)
  obtain ⟨a, c, rfl, hc, hg⟩ := h
  obtain ⟨g, off, rfl, hat⟩ := hg (by omega)
  have hgl : g < w.heap.size := by obtain ⟨cs, h1, _⟩ := hat; exact block_lt h1
  have HAt : Hid (∀ w' j u, Touch [] w w' → j < 7 → (nl xs[i])[j]? = some u → w'.cell? ⟨g, off + (i * 7 + j), none⟩ = some u) := fun w' j u t hj hu => (hat.keep (t.block g hgl (by simp))).cell i j hi hj hu
  obtain ⟨n, hn⟩ : ∃ n, n = xs.length := ⟨_, rfl⟩
  rw [← hn] at hi hl hc HWo HF ⊢
  have zi : (i : Int) < (n : Int) := by omega
  clear hg hat hp hn
  generalize cellsN (xs.eraseIdx i) = L at *
  generalize xs[i] = x at *
  unfold kbx at TV HF
  unfold kv at *
  go_enter Try.func58, Try.ntmps58
  go_upto_region 4 with (go_at_call 31; refine HF.out.mono ?_; rintro e w2 ⟨rfl, t2⟩; have T2 := hid (TV.out.trans' t2); clear t2)
  have sA : ∀ w', Touch [] w2 w' → w'.cell? ⟨g, off + i * 7, none⟩ = some (.int .u16 x.1.1) := fun w' t => by simpa using HAt.out w' 0 _ (T2.out.trans' t) (by omega) rfl
  have sB : ∀ w', Touch [] w2 w' → w'.cell? ⟨g, off + i * 7 + 1, none⟩ = some (.string x.1.2) := fun w' t => HAt.out w' 1 _ (T2.out.trans' t) (by omega) rfl
  have sC : ∀ w', Touch [] w2 w' → w'.cell? ⟨g, off + i * 7 + 2, none⟩ = some (.int .i64 x.2.1.1) := fun w' t => HAt.out w' 2 _ (T2.out.trans' t) (by omega) rfl
  have sD : ∀ w', Touch [] w2 w' → w'.cell? ⟨g, off + i * 7 + 3, none⟩ = some (.int .i64 x.2.1.2.1) := fun w' t => HAt.out w' 3 _ (T2.out.trans' t) (by omega) rfl
  have sE : ∀ w', Touch [] w2 w' → w'.cell? ⟨g, off + i * 7 + 4, none⟩ = some (.int .i64 x.2.1.2.2.1) := fun w' t => HAt.out w' 4 _ (T2.out.trans' t) (by omega) rfl
  have sF : ∀ w', Touch [] w2 w' → w'.cell? ⟨g, off + i * 7 + 5, none⟩ = some (.int .i64 x.2.1.2.2.2) := fun w' t => HAt.out w' 5 _ (T2.out.trans' t) (by omega) rfl
  have sG : ∀ w', Touch [] w2 w' → w'.cell? ⟨g, off + i * 7 + 6, none⟩ = some (.int .i64 x.2.2) := fun w' t => HAt.out w' 6 _ (T2.out.trans' t) (by omega) rfl
  have t0 : Touch [] w2 w2.drew := (Touch.refl _ _).drew
  go_region_held3 (fun w' => Touch [] w2 w') (repeat (first | assumption | exact Touch.refl _ _ | apply Touch.alloc | apply Touch.drew))
    (first
      | (go_at_call 33; refine (HWo.out _ (T2.out.trans' (by assumption))).mono ?_; rintro e w3 ⟨v3, rfl, o3, t3⟩; have s3 : Touch [] w2 w3 := Touch.trans' (by assumption) t3; have O3 := hid o3; have T3 := hid t3; clear o3 t3)
      | ((refine step_append_lies _ (by rfl) _ _ 34 (by rfl) w.heap.size 62 i3 zk7 7 64 Try.underlying34 hf hz0 hz1 hz2 rfl (by decide) v3 (n - 1) L (by rfl) (own_base O3.out (Nat.le_trans T2.out.size (by simp))) ⟨w2.heap.size, 0, none⟩ 1 1 (nl x) (by rfl) rfl (news7 (T3.out.keep (heap_alloc_new w2 (.cells #[.int .u16 x.1.1, .string x.1.2, .int .i64 x.2.1.1, .int .i64 x.2.1.2.1, .int .i64 x.2.1.2.2.1, .int .i64 x.2.1.2.2.2, .int .i64 x.2.2] 62)) (by simp))) (nl_one x) (by decide) (by unfold maxLen; omega) (by omega) (Nat.le_trans T2.out.size s3.size) _ rfl ?_; intro g1 c1 w5 hown5 hgrow hat hlt5; have s5 : Touch [] w2 w5 := s3.trans ((Touch.refl v3.ownBlock.toList w3).grown hgrow (fun k hk => Or.inl (by simp [hk]))) (fun q hq => Or.inr (Nat.le_trans (by simp) (O3.out.lt q (by simpa using hq)).1)); have O5 := hid hown5; have S5 := hid s5; clear hown5 hgrow hat hlt5))
      | ((refine step_append_lies _ (by rfl) _ _ 34 (by rfl) w.heap.size 62 i3 zk7 7 64 Try.underlying34 hf hz0 hz1 hz2 rfl (by decide) v3 (n - 1) L (by rfl) ((own_base O3.out (Nat.le_trans T2.out.size (by simp))).alloc _) ⟨w3.heap.size, 0, none⟩ 1 1 (nl x) (by rfl) rfl (news7 (heap_alloc_new w3 (.cells #[.int .u16 x.1.1, .string x.1.2, .int .i64 x.2.1.1, .int .i64 x.2.1.2.1, .int .i64 x.2.1.2.2.1, .int .i64 x.2.1.2.2.2, .int .i64 x.2.2] 62))) (nl_one x) (by decide) (by unfold maxLen; omega) (by omega) (Nat.le_trans T2.out.size (Nat.le_trans s3.size (by simp))) _ rfl ?_; intro g1 c1 w5 hown5 hgrow hat hlt5; have s5 : Touch [] w2 w5 := (s3.alloc (.cells #[.int .u16 x.1.1, .string x.1.2, .int .i64 x.2.1.1, .int .i64 x.2.1.2.1, .int .i64 x.2.1.2.2.1, .int .i64 x.2.1.2.2.2, .int .i64 x.2.2] 62)).trans ((Touch.refl v3.ownBlock.toList (w3.alloc (.cells #[.int .u16 x.1.1, .string x.1.2, .int .i64 x.2.1.1, .int .i64 x.2.1.2.1, .int .i64 x.2.1.2.2.1, .int .i64 x.2.1.2.2.2, .int .i64 x.2.2] 62))).grown hgrow (fun k hk => Or.inl (by simp [hk]))) (fun q hq => Or.inr (Nat.le_trans (by simp) (O3.out.lt q (by simpa using hq)).1)); have O5 := hid hown5; have S5 := hid s5; clear hown5 hgrow hat hlt5)))
  all_goals
    go_wp2
    go_ret
    exact ⟨_, rfl, O5.out, T2.out.trans' S5.out⟩
theorem ruse58 (w : World) (v : Value) (xs : List En) (k : K) (hl : xs.length ≤ 70000) (h : RN 62 w v xs) (hd : (keysL xs).Nodup) : Calls Try.prog 58 #[v, kv k] w fun e w' => ∃ v', e = .returned v' ∧ RN 62 w' v' (useX xs k) ∧ Touch [] w w' := by
  unfold useX
  by_cases hk : k ∈ keysL xs
  · obtain ⟨i, hi, h1, h2, h3⟩ := pos_yes hk
    have hf := fnd_of_mem hd (List.getElem_mem hi)
    rw [h1] at hf
    rw [hf]
    refine (ruse58_yes w v xs k i hi h3 hl h).mono ?_
    rintro e w' ⟨v', rfl, o, t⟩
    refine ⟨v', rfl, RN.own (base := w.heap.size) ?_, t⟩
    have e1 : putY xs k xs[i].2 = xs.eraseIdx i ++ [xs[i]] := by
      unfold putY
      rw [erase_drx hi h1 hd]
      congr 2
      exact Prod.ext h1.symm rfl
    show w'.ownsRow w.heap.size 62 7 v' (putY xs k xs[i].2).length (cellsN (putY xs k xs[i].2))
    rw [e1, cellsN_app, cellsN_one, List.length_append, List.length_eraseIdx_of_lt hi]
    exact o
  · rw [fnd_none hk]
    exact (ruse58_no w v xs k hk hl h).mono fun e w' ⟨he, t⟩ => ⟨v, he, h.keep t, t⟩
end Go.Proofs.Ytopepalpmkeffaa
