/- The contract of the document's Put. -/
import Derived.Test.YtonkclllofbklaaWit
namespace Go.Proofs.Ytonkclllofbklaa
open Go.RowKit Go.Maps Go.ChangeMaps
set_option linter.unusedVariables false
theorem step_append_own {P : Program} (w : World) {ops : Array Oper} {o : Oper} {a : Act} {K : Act → World → Prop} {Q : Exit → Act → World → Prop} {E : Prop} (hgd : o.guard = none) (s x : Operand) (t : TypeId)
    (ho : o.op = .call { callee := .builtin .append, args := #[s, x], argTypes := #[t, t] })
    (base : Nat) (e : TypeId) (i : TypeInfo) (z : Value) (size bytes : Nat) (ht : P.underlying t = some (.slice e)) (hi : P.info? e = some i) (hz : i.zero = some z)
    (hsize : i.size = size) (hby : i.bytes = bytes) (hzs : z.cells.size = size) (hsz : 0 < size)
    (v : Value) (n : Nat) (xs : List Value) (hs : a.eval s = v) (hown : w.ownsRow base e size v n xs)
    (ad : Addr) (m c : Nat) (news : List Value) (hx : a.eval x = .slice (some ad) m c) (hl : news.length = m * size) (hnews : ∀ j u, news[j]? = some u → w.cell? (ad.add j) = some u) (h1 : ∀ u ∈ news, u.oneCell' = true)
    (h63 : n + m ≤ maxLen) (hbytes : (n + m) * bytes ≤ 140737488355328) (hbase : base ≤ w.heap.size)
    (h : ∀ v' w', w'.ownsRow base e size v' (n + m) (xs ++ news) → w.grownBy w' v.ownBlock → (v' = .slice none 0 0 ↔ v = .slice none 0 0 ∧ m = 0) → K (a.put o.dst v') w') :
    if Region.wanted o (yielded ops a.tmps) = true then Oper.wp P o a w K Q else E := by
  have hw : Region.wanted o (yielded ops a.tmps) = true := by simp [Region.wanted, hgd]
  rw [if_pos hw]
  exact wp_append_own w s x t ho base e i z size bytes ht hi hz hsize hby hzs hsz v n xs hs hown ad m c news hx hl hnews h1 h63 hbytes hbase h
theorem rput_arg (w : World) (v : Value) (t k : Int) (ht : isT t = false) : Calls Try.prog 16 #[v, .int .i64 t, .int .i64 k] w fun e w' => e = .returned (.tuple #[v, .int .i64 1]) ∧ w' = w := by
  have h : ¬ (0 ≤ t ∧ t ≤ 4611686018427387904) := of_decide_eq_false ht
  clear ht
  by_cases h1 : t < 0
  · clear h
    go_enter Try.func16, Try.ntmps16
    go_wp2
    exact bodyPost_ret (v := .tuple #[v, .int .i64 1]) (by simp [results, Try.results16, go_sem]) rfl ⟨rfl, rfl⟩
  · have h2 : 4611686018427387904 < t := by omega
    clear h
    go_enter Try.func16, Try.ntmps16
    go_wp2
    exact bodyPost_ret (v := .tuple #[v, .int .i64 1]) (by simp [results, Try.results16, go_sem]) rfl ⟨rfl, rfl⟩
theorem rput_there (w : World) (B : Nat) (v : Value) (l : List Tm) (t k : Int) (h : RL w B v l) (hl : l.length ≤ 65536) (ht : isT t = true) (hf : 0 ≤ fnd l k) : Calls Try.prog 16 #[v, .int .i64 t, .int .i64 k] w fun e w' => e = .returned (.tuple #[v, .int .i64 40]) ∧ Touch [] w w' := by
  have h1 : 0 ≤ t ∧ t ≤ 4611686018427387904 := of_decide_eq_true ht
  obtain ⟨h2, h3⟩ := h1
  have HF := hid (find10 w B v l k h hl)
  clear ht h
  generalize fnd l k = f at *
  go_enter Try.func16, Try.ntmps16
  go_wp2_with (go_at_call 10; refine HF.out.mono ?_; rintro e w2 ⟨rfl, t2⟩)
  exact bodyPost_ret (v := .tuple #[v, .int .i64 40]) (by simp [results, Try.results16, go_sem]) rfl ⟨rfl, t2⟩
theorem rput_many (w : World) (B : Nat) (v : Value) (l : List Tm) (t k : Int) (h : RL w B v l) (hl : l.length ≤ 65536) (ht : isT t = true) (hf : fnd l k < 0) (hm : 65536 ≤ l.length) : Calls Try.prog 16 #[v, .int .i64 t, .int .i64 k] w fun e w' => e = .returned (.tuple #[v, .int .i64 3]) ∧ Touch [] w w' := by
  have h1 : 0 ≤ t ∧ t ≤ 4611686018427387904 := of_decide_eq_true ht
  obtain ⟨h2, h3⟩ := h1
  have HF := hid (find10 w B v l k h hl)
  obtain ⟨a, c, rfl⟩ := h.slice
  have e : l.length = 65536 := by omega
  rw [e]
  rw [e] at HF
  clear ht h hl hm e
  generalize fnd l k = f at *
  go_enter Try.func16, Try.ntmps16
  go_wp2_with (go_at_call 10; refine HF.out.mono ?_; rintro e w2 ⟨rfl, t2⟩)
  exact bodyPost_ret (v := .tuple #[.slice a 65536 c, .int .i64 3]) (by simp [results, Try.results16, go_sem]) rfl ⟨rfl, t2⟩
def PosT (l : List Tm) (t : Int) (i : Nat) : Prop := i ≤ l.length ∧ (∀ j, j < l.length → i ≤ j → t < (gtT l j).at_) ∧ (0 < i → (gtT l (i - 1)).at_ ≤ t)
def insT (l : List Tm) (i : Nat) (x : Tm) : List Tm := l.take i ++ x :: l.drop i
theorem flatT_ins (l : List Tm) (i : Nat) (x : Tm) : flatT (insT l i x) = flatT (l.take i) ++ [.int .i64 x.at_, .int .i64 x.it] ++ flatT (l.drop i) := by
  unfold insT
  rw [flatT_app, flatT_cons]
  simp
theorem insT_len {l : List Tm} {i : Nat} (x : Tm) (h : i ≤ l.length) : (insT l i x).length = l.length + 1 := by
  unfold insT
  simp
  omega
def RpQ (e : Ending) (w w' : World) (l : List Tm) (t k : Int) : Prop := ∃ v' i, e = .returned (.tuple #[v', .int .i64 0]) ∧ PosT l t i ∧ RN w' w.heap.size v' (insT l i ⟨t, k⟩) ∧ Touch [] w w'
set_option maxHeartbeats 4000000 in
set_option maxRecDepth 100000 in
theorem rput_ok (w : World) (B : Nat) (v : Value) (l : List Tm) (t k : Int) (h : RN w B v l) (hl : l.length < 65536) (ht : isT t = true) (hf : fnd l k < 0) (hB : B ≤ w.heap.size) :
    Calls Try.prog 16 #[v, .int .i64 t, .int .i64 k] w fun e w' => RpQ e w w' l t k := by
  obtain ⟨i0, hi, hz0, hz1, hz2⟩ := info_parts info34
  have h1 : 0 ≤ t ∧ t ≤ 4611686018427387904 := of_decide_eq_true ht
  obtain ⟨h2, h3⟩ := h1
  have HF := hid (find10 w B v l k h.rl (by omega))
  obtain ⟨g, c, rfl, hr⟩ := h
  obtain ⟨cur, hcur, hnc, hm, _⟩ := own_block hr
  have HR := hid hr
  have zl : (l.length : Int) < 65536 := by omega
  have zc : (l.length : Int) ≤ (c : Int) := by omega
  have zm : (c : Int) ≤ 9223372036854775807 := by unfold maxLen at hm; omega
  clear hr hcur ht
  generalize fnd l k = f at *
  obtain ⟨N, hN⟩ : ∃ N, N = l.length := ⟨_, rfl⟩
  have HN := hid hN
  rw [← hN] at zl zc HF ⊢
  rw [← hN] at HR hl hnc
  clear hN
  obtain ⟨NI, hNI⟩ : ∃ NI : Int, (N : Int) = NI := ⟨_, rfl⟩
  have HNI := hid hNI
  rw [hNI] at zl zc
  have z0 : 0 ≤ NI := by omega
  have Hl := hid hl
  clear hl
  go_enter Try.func16, Try.ntmps16
  go_wp2_with (go_at_call 10; refine HF.out.mono ?_; rintro e w2 ⟨rfl, t2⟩; have T2 := hid t2; clear t2)
  have HQ : Hid (∀ (n : Nat) (w5 : World) (v5 : Value) (m : Nat) (ns : List Value), n ≤ N → m = N - n → ns = flatT (l.drop n) → w5.ownsRow w2.heap.size 34 2 v5 (0 + n + 1 + m) ([] ++ flatT (l.take n) ++ [.int .i64 t, .int .i64 k] ++ ns) → v5 ≠ .slice none 0 0 → RN w5 w.heap.size v5 (insT l n ⟨t, k⟩)) := fun n w5 v5 m ns h0 h1 h2 h3 h4 => by
    have hN := HN.out
    refine (RN.of (B := w2.heap.size) ?_ h4).base T2.out.size
    unfold RL
    rw [insT_len _ (by omega), flatT_ins, ← h2]
    rw [show 0 + n + 1 + m = l.length + 1 by omega] at h3
    simpa using h3
  go_loop [8] (fun i => ∃ n : Nat, i = .int .i64 n ∧ n ≤ N ∧ Hid (∀ j, j < N → n ≤ j → t < (gtT l j).at_)) (fun i => (intOf i).toNat)
  case atStart => exact ⟨N, by rw [HNI.out], Nat.le_refl _, fun j h1 h2 => by omega⟩
  case round =>
    obtain ⟨n, rfl, hn, HK⟩ := hrel
    have hlN := Hl.out
    by_cases hgo : 0 < n ∧ t < (gtT l (n - 1)).at_
    · obtain ⟨n0, hgt⟩ := hgo
      obtain ⟨n1, hn1⟩ : ∃ n1, n = n1 + 1 := ⟨n - 1, by omega⟩
      subst hn1
      simp only [Nat.add_sub_cancel] at hgt
      have zn : ((n1 + 1 : Nat) : Int) ≤ 65536 := by omega
      have zi : (n1 : Int) < NI := by omega
      obtain ⟨g', eg, _, a0, a1⟩ := (HR.out.keep0 T2.out).cells (k := n1) (by have := HN.out; omega)
      simp only [Option.some.injEq, Addr.mk.injEq, and_true] at eg
      subst eg
      have HK2 : Hid (∀ j, j < N → n1 ≤ j → t < (gtT l j).at_) := fun j h1 h2 => by
        by_cases e : j = n1
        · subst e; exact hgt
        · exact HK.out j h1 (by omega)
      generalize gtT l n1 = x at *
      go_wp2
      go_round
      case rel => exact ⟨n1, by go_num, by omega, HK2⟩
      case measure => simp [intOf]
    · have HP : Hid (PosT l t n) := ⟨by have := HN.out; omega, fun j h1 h2 => HK.out j (by have := HN.out; omega) h2, fun h0 => by
        have : ¬ t < (gtT l (n - 1)).at_ := fun e => hgo ⟨h0, e⟩
        omega⟩
      have zn1 : (n : Int) ≤ (c : Int) := by omega
      have zn2 : (n : Int) ≤ NI := by omega
      clear hlN
      have HB := hid (show (w2.alloc (.cells #[] 34)).ownsRow w2.heap.size 34 2 (.slice (some ⟨w2.heap.size, 0, none⟩) 0 0) 0 [] from World.ownsRow_made w2 #[] 0 (Nat.le_refl _) (by unfold maxLen; omega) rfl)
      have HL1 : Hid ((flatT (l.take n)).length = n * 2) := by show _ = _; rw [flatT_len, List.length_take, Nat.min_eq_left (by have := HN.out; omega)]
      have HL2 : Hid ((flatT (l.drop n)).length = (N - n) * 2) := by show _ = _; rw [flatT_len, List.length_drop, HN.out]
      have hlc : N ≤ c := by omega
      by_cases hn0 : n = 0
      · subst hn0
        clear hgo zn1 zn2
        have HQ0 : Hid (∀ (w5 : World) (v5 : Value), w5.ownsRow w2.heap.size 34 2 v5 (0 + 0 + 1 + N) ([] ++ [] ++ [.int .i64 t, .int .i64 k] ++ flatT l) → v5 ≠ .slice none 0 0 → RN w5 w.heap.size v5 (insT l 0 ⟨t, k⟩)) := fun w5 v5 h3 h4 => HQ.out 0 w5 v5 N (flatT l) (by omega) (by omega) (by simp) h3 h4
        have HL3 : Hid ((flatT l).length = N * 2) := by show _ = _; rw [flatT_len, HN.out]
        have HN3 : Hid (∀ w', Touch [] w w' → ∀ j u, (flatT l)[j]? = some u → w'.cell? ((⟨g, 0, none⟩ : Addr).add j) = some u) := fun w' tt j u hj => by
          have := HR.out.news HN.out 0 w' tt j u (by simpa using hj)
          simpa using this
        go_wp2_with (at_builtin; refine wpList_append_own _ rfl _ _ 26 rfl w2.heap.size 34 i0 (.agg #[.int .i64 0, .int .i64 0]) 2 16 Try.underlying26 hi hz0 hz1 hz2 rfl (by decide) (.slice (some ⟨w2.heap.size, 0, none⟩) 0 0) 0 [] rfl HB.out ⟨g, 0, none⟩ 0 c [] rfl rfl (fun j u hj => by simp at hj) (fun u hu => by simp at hu) (by unfold maxLen; omega) (by omega) (by simp) ?_; intro v3 w3 hown3 hgrow hnil; have O3 := hid hown3; have T3 : Hid (Touch [] w2 w3) := (((Touch.refl _ _).alloc _).grown hgrow (fun k hk => Or.inr (by have e : some w2.heap.size = some k := hk; cases e; exact Nat.le_refl _))); have N3 : Hid (v3 ≠ .slice none 0 0) := (fun e => absurd (hnil.1 e).1 (by simp)); clear hown3 hgrow hnil)
        have hb3 := T3.out.size
        go_region_law ((first | (refine step_append_own _ (by rfl) (.tmp 50) _ _ (by rfl) w2.heap.size 34 i0 (.agg #[.int .i64 0, .int .i64 0]) 2 16 Try.underlying26 hi hz0 hz1 hz2 (by rfl) (by decide) v3 (0 + 0) ([] ++ []) (by rfl) (own_touch O3.out (F := []) (by first | exact ((Touch.refl _ _).drew.alloc _) | exact ((Touch.refl _ _).alloc _).drew) (fun _ _ e => by cases e)) ⟨w3.heap.size, 0, none⟩ 1 1 [.int .i64 t, .int .i64 k] (by rfl) (by rfl) (cell_two_new _ _ _ _) (by simp [Value.oneCell']) (by unfold maxLen; omega) (by omega) (by simp; omega) ?_; intro v4 w4 hown4 hgrow4 hnil4; have T4 : Touch [] w2 w4 := T3.out.trans ((((Touch.refl v3.ownBlock.toList _).alloc _).drew).grown hgrow4 (fun k hk => Or.inl (by simp [hk]))) (fun k hk => Or.inr (O3.out.lt k (by simpa using hk)).1); have hb4 := T4.size) | (refine step_append_own _ (by rfl) (.tmp 55) _ _ (by rfl) w2.heap.size 34 i0 (.agg #[.int .i64 0, .int .i64 0]) 2 16 Try.underlying26 hi hz0 hz1 hz2 (by rfl) (by decide) v4 (0 + 0 + 1) ([] ++ [] ++ [.int .i64 t, .int .i64 k]) (by rfl) hown4 ⟨g, 0, none⟩ N c (flatT l) (by rfl) HL3.out (HN3.out _ (T2.out.trans' T4)) (one_flatT _) (by have := Hl.out; unfold maxLen; omega) (by have := Hl.out; omega) hb4 ?_; intro v5 w5 hown5 hgrow5 hnil5; have T5 : Touch [] w2 w5 := T4.trans ((Touch.refl v4.ownBlock.toList _).grown hgrow5 (fun k hk => Or.inl (by simp [hk]))) (fun k hk => Or.inr (hown4.lt k (by simpa using hk)).1))))
        all_goals
          go_wp2
          exact bodyPost_ret (v := .tuple #[v5, .int .i64 0]) (by simp [results, Try.results16, go_sem]) rfl ⟨v5, 0, rfl, HP.out, HQ0.out w5 v5 hown5 (fun e => N3.out (hnil4.1 (hnil5.1 e).1).1), T2.out.trans' T5⟩
      · have zn0 : (0 : Int) < (n : Int) := by omega
        obtain ⟨n1, hn1⟩ : ∃ n1, n = n1 + 1 := ⟨n - 1, by omega⟩
        have hle : (gtT l n1).at_ ≤ t := by
          have : ¬ t < (gtT l (n - 1)).at_ := fun e => hgo ⟨by omega, e⟩
          rw [hn1, Nat.add_sub_cancel] at this
          omega
        obtain ⟨g', eg, eN, a0, a1⟩ := (HR.out.keep0 T2.out).cells (k := n1) (by have := HN.out; omega)
        clear eN
        simp only [Option.some.injEq, Addr.mk.injEq, and_true] at eg
        subst eg
        have e1 : (n : Int) - 1 = (n1 : Int) := by omega
        have zi : (n1 : Int) < NI := by omega
        by_cases hcn : n = c
        · have HD : Hid (l.drop n = []) := List.drop_of_length_le (by have := HN.out; omega)
          have hNn : n = N := by omega
          subst hcn hNn
          clear hgo hn0 hn1 hNI
          generalize gtT l n1 = x at *
          go_wp2_with (at_builtin; refine wpList_append_own _ rfl _ _ 26 rfl w2.heap.size 34 i0 (.agg #[.int .i64 0, .int .i64 0]) 2 16 Try.underlying26 hi hz0 hz1 hz2 rfl (by decide) (.slice (some ⟨w2.heap.size, 0, none⟩) 0 0) 0 [] rfl HB.out ⟨g, 0, none⟩ n n (flatT (l.take n)) rfl HL1.out (HR.out.newsT HN.out n _ (T2.out.alloc _)) (one_flatT _) (by have := Hl.out; unfold maxLen; omega) (by have := Hl.out; omega) (by simp) ?_; intro v3 w3 hown3 hgrow hnil; have O3 := hid hown3; have T3 : Hid (Touch [] w2 w3) := (((Touch.refl _ _).alloc _).grown hgrow (fun k hk => Or.inr (by have e : some w2.heap.size = some k := hk; cases e; exact Nat.le_refl _))); have N3 : Hid (v3 ≠ .slice none 0 0) := (fun e => absurd (hnil.1 e).1 (by simp)); clear hown3 hgrow hnil)
          have hb3 := T3.out.size
          go_region_law ((first | (refine step_append_own _ (by rfl) (.tmp 50) _ _ (by rfl) w2.heap.size 34 i0 (.agg #[.int .i64 0, .int .i64 0]) 2 16 Try.underlying26 hi hz0 hz1 hz2 (by rfl) (by decide) v3 (0 + n) ([] ++ flatT (l.take n)) (by rfl) (own_touch O3.out (F := []) (by first | exact ((Touch.refl _ _).drew.alloc _) | exact ((Touch.refl _ _).alloc _).drew) (fun _ _ e => by cases e)) ⟨w3.heap.size, 0, none⟩ 1 1 [.int .i64 t, .int .i64 k] (by rfl) (by rfl) (cell_two_new _ _ _ _) (by simp [Value.oneCell']) (by have := Hl.out; unfold maxLen; omega) (by have := Hl.out; omega) (by simp; omega) ?_; intro v4 w4 hown4 hgrow4 hnil4; have T4 : Touch [] w2 w4 := T3.out.trans ((((Touch.refl v3.ownBlock.toList _).alloc _).drew).grown hgrow4 (fun k hk => Or.inl (by simp [hk]))) (fun k hk => Or.inr (O3.out.lt k (by simpa using hk)).1); have hb4 := T4.size) | (refine step_append_own _ (by rfl) (.tmp 55) _ _ (by rfl) w2.heap.size 34 i0 (.agg #[.int .i64 0, .int .i64 0]) 2 16 Try.underlying26 hi hz0 hz1 hz2 (by rfl) (by decide) v4 (0 + n + 1) ([] ++ flatT (l.take n) ++ [.int .i64 t, .int .i64 k]) (by rfl) hown4 _ 0 _ [] (by rfl) (by rfl) (fun j u hj => by simp at hj) (fun u hu => by simp at hu) (by have := Hl.out; unfold maxLen; omega) (by have := Hl.out; omega) hb4 ?_; intro v5 w5 hown5 hgrow5 hnil5; have T5 : Touch [] w2 w5 := T4.trans ((Touch.refl v4.ownBlock.toList _).grown hgrow5 (fun k hk => Or.inl (by simp [hk]))) (fun k hk => Or.inr (hown4.lt k (by simpa using hk)).1))))
          all_goals
            go_wp2
            exact bodyPost_ret (v := .tuple #[v5, .int .i64 0]) (by simp [results, Try.results16, go_sem]) rfl ⟨v5, n, rfl, HP.out, HQ.out n w5 v5 0 [] (by omega) (by omega) (by rw [HD.out]; rfl) hown5 (fun e => N3.out (hnil4.1 (hnil5.1 e).1).1), T2.out.trans' T5⟩
        · have hcn' : ¬ c = n := fun e => hcn e.symm
          clear hgo hn0 hn1
          generalize gtT l n1 = x at *
          go_wp2_with (at_builtin; refine wpList_append_own _ rfl _ _ 26 rfl w2.heap.size 34 i0 (.agg #[.int .i64 0, .int .i64 0]) 2 16 Try.underlying26 hi hz0 hz1 hz2 rfl (by decide) (.slice (some ⟨w2.heap.size, 0, none⟩) 0 0) 0 [] rfl HB.out ⟨g, 0, none⟩ n c (flatT (l.take n)) rfl HL1.out (HR.out.newsT HN.out n _ (T2.out.alloc _)) (one_flatT _) (by have := Hl.out; unfold maxLen; omega) (by have := Hl.out; omega) (by simp) ?_; intro v3 w3 hown3 hgrow hnil; have O3 := hid hown3; have T3 : Hid (Touch [] w2 w3) := (((Touch.refl _ _).alloc _).grown hgrow (fun k hk => Or.inr (by have e : some w2.heap.size = some k := hk; cases e; exact Nat.le_refl _))); have N3 : Hid (v3 ≠ .slice none 0 0) := (fun e => absurd (hnil.1 e).1 (by simp)); clear hown3 hgrow hnil)
          have hb3 := T3.out.size
          go_region_law ((first | (refine step_append_own _ (by rfl) (.tmp 50) _ _ (by rfl) w2.heap.size 34 i0 (.agg #[.int .i64 0, .int .i64 0]) 2 16 Try.underlying26 hi hz0 hz1 hz2 (by rfl) (by decide) v3 (0 + n) ([] ++ flatT (l.take n)) (by rfl) (own_touch O3.out (F := []) (by first | exact ((Touch.refl _ _).drew.alloc _) | exact ((Touch.refl _ _).alloc _).drew) (fun _ _ e => by cases e)) ⟨w3.heap.size, 0, none⟩ 1 1 [.int .i64 t, .int .i64 k] (by rfl) (by rfl) (cell_two_new _ _ _ _) (by simp [Value.oneCell']) (by have := Hl.out; unfold maxLen; omega) (by have := Hl.out; omega) (by simp; omega) ?_; intro v4 w4 hown4 hgrow4 hnil4; have T4 : Touch [] w2 w4 := T3.out.trans ((((Touch.refl v3.ownBlock.toList _).alloc _).drew).grown hgrow4 (fun k hk => Or.inl (by simp [hk]))) (fun k hk => Or.inr (O3.out.lt k (by simpa using hk)).1); have hb4 := T4.size) | (refine step_append_own _ (by rfl) (.tmp 55) _ _ (by rfl) w2.heap.size 34 i0 (.agg #[.int .i64 0, .int .i64 0]) 2 16 Try.underlying26 hi hz0 hz1 hz2 (by rfl) (by decide) v4 (0 + n + 1) ([] ++ flatT (l.take n) ++ [.int .i64 t, .int .i64 k]) (by rfl) hown4 ⟨g, n * 2, none⟩ (N - n) (c - n) (flatT (l.drop n)) (by rfl) HL2.out (HR.out.news HN.out n _ (T2.out.trans' T4)) (one_flatT _) (by have := Hl.out; unfold maxLen; omega) (by have := Hl.out; omega) hb4 ?_; intro v5 w5 hown5 hgrow5 hnil5; have T5 : Touch [] w2 w5 := T4.trans ((Touch.refl v4.ownBlock.toList _).grown hgrow5 (fun k hk => Or.inl (by simp [hk]))) (fun k hk => Or.inr (hown4.lt k (by simpa using hk)).1))))
          all_goals
            go_wp2
            exact bodyPost_ret (v := .tuple #[v5, .int .i64 0]) (by simp [results, Try.results16, go_sem]) rfl ⟨v5, n, rfl, HP.out, HQ.out n w5 v5 _ _ (by omega) rfl rfl hown5 (fun e => N3.out (hnil4.1 (hnil5.1 e).1).1), T2.out.trans' T5⟩
end Go.Proofs.Ytonkclllofbklaa
