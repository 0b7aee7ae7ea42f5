/- The walk of the law MemoOf; no conditions but those that it states. -/
import Derived.Test.YtopepalpmkeffaaGac
import Derived.Test.YtopepalpmkeffaaGof
import Derived.Test.YtopepalpmkeffaaOpa
import Derived.Laws.AppendOwnNone
namespace Go.Proofs.Ytopepalpmkeffaa
open Go.RowKit Go.Sort Go.Maps Go.ChangeMaps Go.WideMaps
set_option linter.unusedVariables false
set_option linter.unusedSimpArgs false

theorem RowE.news {w : World} {b off : Nat} {xs : List En} (h : RowE w b off xs) : ∀ j u, (cellsN xs)[j]? = some u → w.cell? ((⟨b, off, none⟩ : Addr).add j) = some u := by
  intro j u hu
  have hj : j < xs.length * 7 := by
    rw [← cellsN_len]
    rcases Nat.lt_or_ge j (cellsN xs).length with e | e
    · exact e
    · rw [List.getElem?_eq_none e] at hu; cases hu
  have hi : j / 7 < xs.length := by omega
  have e : j = j / 7 * 7 + j % 7 := by omega
  have h7 : j % 7 < 7 := Nat.mod_lt _ (by decide)
  generalize j / 7 = i at *
  generalize j % 7 = l at *
  subst e
  rw [cellsN_at xs i l hi h7] at hu
  rw [add_plainA]
  match l, h7, hu with
  | 0, _, hu => simp [nl] at hu; subst hu; exact h.c0 i hi
  | 1, _, hu => simp [nl] at hu; subst hu; rw [← Nat.add_assoc]; exact h.c1 i hi
  | 2, _, hu => simp [nl] at hu; subst hu; rw [← Nat.add_assoc]; exact h.c2 i hi
  | 3, _, hu => simp [nl] at hu; subst hu; rw [← Nat.add_assoc]; exact h.c3 i hi
  | 4, _, hu => simp [nl] at hu; subst hu; rw [← Nat.add_assoc]; exact h.c4 i hi
  | 5, _, hu => simp [nl] at hu; subst hu; rw [← Nat.add_assoc]; exact h.c5 i hi
  | 6, _, hu => simp [nl] at hu; subst hu; rw [← Nat.add_assoc]; exact h.c6 i hi
theorem SlE.keep {w w' : World} {v : Value} {xs : List En} (h : SlE w v xs) (t : Touch [] w w') : SlE w' v xs := by
  rcases h with h | ⟨b, off, cap, e, r⟩
  · exact Or.inl h
  · exact Or.inr ⟨b, off, cap, e, r.keep t⟩
theorem own_new56 (w : World) : (w.alloc (.cells #[] 56)).ownsRow w.heap.size 56 7 (.slice (some ⟨w.heap.size, 0, none⟩) 0 0) 0 [] :=
  ⟨rfl, Or.inr ⟨w.heap.size, 0, #[], rfl, Nat.le_refl _, heap_alloc_new w _, Nat.le_refl _, by unfold maxLen; omega, rfl, rfl⟩⟩
theorem wpList_append_ents {w : World} {ops : Array Oper} {rest : List Oper} {o : Oper} {a : Act} {Q : Exit → Act → World → Prop} (hgd : o.guard = none) (s x : Operand)
    (ho : o.op = .call { callee := .builtin .append, args := #[s, x], argTypes := #[50, 50] }) (base : Nat) (v : Value) (hs : a.eval s = v) (hown : w.ownsRow base 56 7 v 0 [])
    (u : Value) (es : List En) (hx : a.eval x = u) (hu : SlE w u es) (hl : es.length ≤ 2199023255488) (hbase : base ≤ w.heap.size)
    (h : ∀ v' w', w'.ownsRow base 56 7 v' es.length (cellsN es) → w.grownBy w' v.ownBlock → wpList Try.prog ops Q rest (a.put o.dst v') w') : wpList Try.prog ops Q (o :: rest) a w := by
  obtain ⟨i3, hf, hz0, hz1, hz2⟩ := info_parts info56
  rcases hu with ⟨rfl, rfl | ⟨ad, cu, rfl⟩⟩ | ⟨b, off, cap, rfl, r⟩
  · exact wpList_append_own_none hgd s x 50 ho base 56 i3 7 Try.underlying50 hf v 0 [] hs hown hx (h v w hown (World.grownBy.refl _ _))
  · refine wpList_append_own_at w hgd s x 50 ho base 56 i3 zk7 7 64 Try.underlying50 hf hz0 hz1 hz2 rfl (by decide) v 0 [] hs hown ad 0 cu [] hx rfl (fun j u hu => by simp at hu) (fun u hu => by simp at hu) (by unfold maxLen; omega) (by omega) hbase ?_
    intro v' w' h1 h2 _ _
    exact h v' w' h1 h2
  · refine wpList_append_own_at w hgd s x 50 ho base 56 i3 zk7 7 64 Try.underlying50 hf hz0 hz1 hz2 rfl (by decide) v 0 [] hs hown ⟨b, off, none⟩ es.length cap (cellsN es) hx (cellsN_len es) r.news (cellsN_one' es) (by unfold maxLen; omega) (by omega) hbase ?_
    intro v' w' h1 h2 _ _
    rw [Nat.zero_add, List.nil_append] at h1
    exact h v' w' h1 h2
theorem OfA.t {w w' : World} {c : Cf} {now : Int} {xs : List En} {pm : Value} (h : OfA w c now xs pm w') : Touch [] w w' := by
  rcases h with ⟨_, _, t⟩ | ⟨_, _, m, F, _, _, _, t⟩
  · exact t
  · exact t
structure GvS (w4 : World) (es : List En) (v : Value) (k : Nat) (wr : World) : Prop where
  o : wr.ownsRow w4.heap.size 62 7 v k (cellsN (es.take k))
  t : Touch [] w4 wr
theorem Touch.new9 {w wx : World} (t : Touch [] w wx) {D : Nat} (hD : w.heap.size ≤ D) (v0 v1 v2 v3 v4 v5 v6 v7 v8 : Value) : Touch [] w (((((((((wx.setCell ⟨D, 0, none⟩ (v0)).setCell ⟨D, 1, none⟩ (v1)).setCell ⟨D, 2, none⟩ (v2)).setCell ⟨D, 3, none⟩ (v3)).setCell ⟨D, 4, none⟩ (v4)).setCell ⟨D, 5, none⟩ (v5)).setCell ⟨D, 6, none⟩ (v6)).setCell ⟨D, 7, none⟩ (v7)).setCell ⟨D, 8, none⟩ (v8)) := t.trans (G := [D]) (tset9 _ _ _ _ _ _ _ _ _ _ _) (fun i hi => by simp only [List.mem_singleton] at hi; subst hi; exact Or.inr hD)
theorem mbx_set {w : World} {x : Nat} (h : w.heap[x]? = some mzx) (c : Cf) (v : Value) (now : Int) : (((((((((w.setCell ⟨x, 0, none⟩ (.int .i64 c.t)).setCell ⟨x, 1, none⟩ (.int .i64 c.n)).setCell ⟨x, 2, none⟩ (.int .i64 c.s)).setCell ⟨x, 3, none⟩ (.int .i64 c.e)).setCell ⟨x, 4, none⟩ (.int .i64 c.f)).setCell ⟨x, 5, none⟩ (.int .i64 c.b)).setCell ⟨x, 6, none⟩ (.int .i64 c.d)).setCell ⟨x, 7, none⟩ (v)).setCell ⟨x, 8, none⟩ (.int .i64 now)).heap[x]? = some (mbx c v now) := by
  have h0 : w.heap[x]? = some (.cells #[.int .i64 0, .int .i64 0, .int .i64 0, .int .i64 0, .int .i64 0, .int .i64 0, .int .i64 0, .slice none 0 0, .int .i64 0] 36 (0, 0)) := h
  have hh := bset (i := 8) (bset (i := 7) (bset (i := 6) (bset (i := 5) (bset (i := 4) (bset (i := 3) (bset (i := 2) (bset (i := 1) (bset (i := 0) h0 (.int .i64 c.t)) (.int .i64 c.n)) (.int .i64 c.s)) (.int .i64 c.e)) (.int .i64 c.f)) (.int .i64 c.b)) (.int .i64 c.d)) v) (.int .i64 now)
  simp only [List.setIfInBounds_toArray, List.set_cons_zero, List.set_cons_succ] at hh
  exact hh
set_option maxHeartbeats 16000000 in
set_option maxRecDepth 100000 in
theorem law4_w (w : World) (c : Cf) (now : Int) (au : Option Addr) (n cu : Nat) (es : List En) (xs : List ActM) (v : Value) (wc : Wc c) (hu : SlE w (.slice au n cu) es) (hnn : n = es.length) (hok : ∀ x ∈ es, Ok x.1) (hel : es.length ≤ 2199023255488) (hv : SlM w v xs) (hw : ∀ x ∈ xs, WfM x) (hL : xs.length ≤ 1759218604390) :
    Calls Try.prog 4 #[cv c, .agg #[.int .i64 now, .slice au n cu], v] w fun e w' => e = .returned (.bool true) ∧ Touch [] w w' := by
  obtain ⟨avx, cv', rfl⟩ : ∃ av cv, v = .slice av xs.length cv := by
    rcases hv with ⟨rfl, a, c, rfl⟩ | ⟨b, off, cap, rfl, _⟩
    · exact ⟨a, c, rfl⟩
    · exact ⟨_, _, rfl⟩
  have HRow : Hid (xs.length = 0 ∨ ∃ b off, avx = some ⟨b, off, none⟩ ∧ RowM w b off xs) := by
    rcases hv with ⟨rfl, _⟩ | ⟨b, off, cap, e, r⟩
    · exact Or.inl rfl
    · injection e with e1 e2 e3
      exact Or.inr ⟨b, off, e1, r⟩
  have HWf := hid hw
  clear hv hw
  obtain ⟨A, hA⟩ : ∃ A, A = xs.length := ⟨_, rfl⟩
  have HAx := hid hA
  rw [← hA] at HRow hL ⊢
  clear hA
  have zL : (A : Int) ≤ 1759218604390 := by omega
  obtain ⟨V, hV⟩ : ∃ V, V = (w.alloc (cbx c 23)).alloc (.cells #[.int .i64 now, .slice au n cu] 52) := ⟨_, rfl⟩
  have TV : Hid (Touch [] w V) := hid (by rw [hV]; exact ((Touch.refl _ _).alloc _).alloc _)
  have HC : Hid (∀ w', Touch [] V w' → C7 w' w.heap.size c ∧ w'.cell? ⟨w.heap.size + 1, 0, none⟩ = some (.int .i64 now) ∧ w'.cell? ⟨w.heap.size + 1, 1, none⟩ = some (.slice au n cu)) := hid (fun w' t => by
    have h1 : V.heap[w.heap.size]? = some (cbx c 23) := by rw [hV]; exact (Below.heap_alloc _ _ _ (by simp)).trans (heap_alloc_new w _)
    have h2 : V.heap[w.heap.size + 1]? = some (.cells #[.int .i64 now, .slice au n cu] 52 (0, 0)) := by
      rw [hV]
      have := heap_alloc_new (w.alloc (cbx c 23)) (.cells #[.int .i64 now, .slice au n cu] 52)
      rwa [World.size_alloc] at this
    have h3 := t.keep h2 (by simp)
    exact ⟨C7.mk' (t.keep h1 (by simp)), by simp [World.cell?, h3], by simp [World.cell?, h3]⟩)
  have HVs : Hid (V.heap.size = w.heap.size + 1 + 1) := hid (by rw [hV]; simp)
  have HU := hid hu
  have HN := hid hnn
  have HRw : Hid (n = 0 ∨ ∃ b off, au = some ⟨b, off, none⟩ ∧ RowE w b off es) := hid (by
    rcases hu with ⟨rfl, _⟩ | ⟨b, off, cap, e, r⟩
    · exact Or.inl hnn
    · injection e with e1 e2 e3
      exact Or.inr ⟨b, off, e1, r⟩)
  have HOK := hid hok
  have HEl := hid hel
  have HWc := hid wc
  have zn : (n : Int) ≤ 2199023255488 := by omega
  have hn0 : n ≤ 2199023255488 := by omega
  have HCf := hid (fun w => config11 w c)
  clear wc hu hnn hok hel
  unfold cv at HCf
  unfold cv
  unfold cbx at hV
  go_enter Try.func4, Try.ntmps4
  go_upto_region 1 with fail
  rw [← hV]
  clear hV
  go_upto_region 3 with (go_at_call 8; refine (awake8 _).mono ?_; rintro x w2 ⟨rfl, t2⟩; have T2 := hid t2; clear t2)
  have u1 := (HC.out w2 T2.out).2.2
  have zw2 : w.heap.size + 1 < w2.heap.size := by have := T2.out.size; have := HVs.out; omega
  go_upto_region 4 with (at_builtin; refine wpList_append_ents rfl _ _ rfl w2.heap.size (.slice (some ⟨w2.heap.size, 0, none⟩) 0 0) rfl (own_new56 w2) (.slice au n cu) es rfl (HU.out.keep ((TV.out.trans' T2.out).alloc _)) HEl.out (by simp) ?_; intro v7 w3 o3 g3; have O3 := hid (own_base o3 (Nat.zero_le _)); have T3 : Hid (Touch [] V w3) := hid (T2.out.trans ((Touch.refl (Value.slice (some ⟨w2.heap.size, 0, none⟩) 0 0).ownBlock.toList w2).alloc _ |>.grown g3 (fun k hk => Or.inl (by simp [hk]))) (fun q hq => Or.inr (by simp [Value.ownBlock] at hq; have := T2.out.size; omega))); obtain ⟨a7, c7, e7, hc7, hg7⟩ := RN.own o3; rw [← HN.out] at e7; subst e7; have RN7 : Hid (RN 56 w3 (.slice a7 n c7) es) := hid ⟨a7, c7, by rw [HN.out], hc7, hg7⟩; have HG7 : Hid (0 < n → ∃ g off, a7 = some ⟨g, off, none⟩) := hid (fun hp => by obtain ⟨g, off, h1, _⟩ := hg7 (by have := HN.out; omega); exact ⟨g, off, h1⟩); clear o3 g3 hg7)
  clear u1
  obtain ⟨⟨c0, c1', c2, c3, c4, c5, c6⟩, n0, u1⟩ := HC.out w3 T3.out
  obtain ⟨pl, hpl⟩ : ∃ pl, pl = (ofP c now es).1 := ⟨_, rfl⟩
  obtain ⟨er, her⟩ : ∃ er, er = (ofP c now es).2 := ⟨_, rfl⟩
  have HOf : Hid (Calls Try.prog 15 #[cv c, .int .i64 now, .slice a7 n c7] w3 fun e w' => ∃ pm, e = .returned (.tuple #[pm, .int .i64 pl, .int .i64 er]) ∧ OfA w3 c now es pm w') := hid (by rw [hpl, her]; exact of15 w3 c now es _ HWc.out (by have := HEl.out; omega) RN7.out HOK.out)
  have HRf : Hid (∀ wr a1 k c1, RN 62 wr (.slice a1 k c1) es → ∀ w', Touch [] wr w' → Calls Try.prog 17 #[cv c, .int .i64 now, .slice a1 k c1] w' fun e w'' => e = .returned (.tuple #[.int .i64 pl, .int .i64 er]) ∧ Touch [] wr w'') := hid (fun wr a1 k c1 hr w' t => (rof17 w' c now es _ (hr.keep t)).mono (by
    rintro e w'' ⟨rfl, t2⟩
    rw [hpl, her]
    exact ⟨rfl, t.trans' t2⟩))
  have HPE : Hid (pl = (ofP c now es).1 ∧ er = (ofP c now es).2) := hid ⟨hpl, her⟩
  clear hpl her
  unfold cv at HOf HRf
  go_upto_region 5 with (go_at_call 15; refine HOf.out.mono ?_; rintro e w4 ⟨pm, rfl, oa⟩; have OA := hid oa; have T4 := hid oa.t; clear oa)
  clear c0 c1' c2 c3 c4 c5 c6
  clear n0 u1
  obtain ⟨W5, hW5⟩ : ∃ W5, W5 = w4.alloc (.cells #[] 62) := ⟨_, rfl⟩
  have T5 : Hid (Touch [] w4 W5) := hid (by rw [hW5]; exact (Touch.refl _ _).alloc _)
  have HI0 : Hid (GvS w4 es (.slice (some ⟨w4.heap.size, 0, none⟩) 0 0) 0 W5) := hid ⟨by rw [hW5]; exact own_new62 w4, T5.out⟩
  go_upto_region 6 with fail
  rw [← hW5]
  clear hW5
  have u1 := (HC.out W5 ((T3.out.trans' T4.out).trans' T5.out)).2.2
  go_wp2_with fail
  clear u1
  obtain ⟨i3, hf, hz0, hz1, hz2⟩ := info_parts info62
  go_loopw [11, 39] (fun s11 s39 wr => ∃ (a1 : Option Addr) (c1 k : Nat), s11 = .slice a1 k c1 ∧ s39 = .int .i64 (k : Int) ∧ k ≤ n ∧ Hid (GvS w4 es (.slice a1 k c1) k wr)) (fun _ i _ => n - (intOf i).toNat)
  case atStart => exact ⟨_, 0, 0, rfl, rfl, Nat.zero_le _, HI0⟩
  case round =>
    clear HI0
    obtain ⟨a1, c1, k, rfl, rfl, hk, HS⟩ := hrel
    have TVr : Hid (Touch [] V wr) := hid ((T3.out.trans' T4.out).trans' HS.out.t)
    by_cases hlt : k < n
    · have zk : (k : Int) < (n : Int) := by omega
      obtain ⟨b, off, rfl, hrow⟩ : ∃ b off, au = some ⟨b, off, none⟩ ∧ RowE w b off es := by
        rcases HRw.out with e | e
        · omega
        · exact e
      obtain ⟨g7, off7, rfl⟩ := HG7.out (by omega)
      have hix : k < es.length := by have := HN.out; omega
      have hr := hrow.keep (TV.out.trans' TVr.out)
      have r0 := hr.c0 k hix
      have r1 := hr.c1 k hix
      have r2 := hr.c2 k hix
      have r3 := hr.c3 k hix
      have r4 := hr.c4 k hix
      have r5 := hr.c5 k hix
      have r6 := hr.c6 k hix
      have HI : Hid (∀ w', Touch [] w3 w' → w'.cell? ⟨g7, off7 + k * 7, none⟩ = some (.int .u16 es[k].1.1) ∧ w'.cell? ⟨g7, off7 + k * 7 + 1, none⟩ = some (.string es[k].1.2) ∧ w'.cell? ⟨g7, off7 + k * 7 + 2, none⟩ = some (.int .i64 es[k].2.1.1) ∧ w'.cell? ⟨g7, off7 + k * 7 + 3, none⟩ = some (.int .i64 es[k].2.1.2.1) ∧ w'.cell? ⟨g7, off7 + k * 7 + 4, none⟩ = some (.int .i64 es[k].2.1.2.2.1) ∧ w'.cell? ⟨g7, off7 + k * 7 + 5, none⟩ = some (.int .i64 es[k].2.1.2.2.2) ∧ w'.cell? ⟨g7, off7 + k * 7 + 6, none⟩ = some (.int .i64 es[k].2.2)) := hid (fun w' t => by
        have hat := (RN7.out.keep t).at1 (by omega)
        have h0 := hat.cell k 0 hix (by omega) rfl
        have h1 := hat.cell k 1 hix (by omega) rfl
        have h2 := hat.cell k 2 hix (by omega) rfl
        have h3 := hat.cell k 3 hix (by omega) rfl
        have h4 := hat.cell k 4 hix (by omega) rfl
        have h5 := hat.cell k 5 hix (by omega) rfl
        have h6 := hat.cell k 6 hix (by omega) rfl
        rw [Nat.add_zero] at h0
        simp only [← Nat.add_assoc] at h1 h2 h3 h4 h5 h6
        exact ⟨h0, h1, h2, h3, h4, h5, h6⟩)
      have HT1 : Hid (cellsN (es.take (k + 1)) = cellsN (es.take k) ++ nl es[k]) := hid (by rw [List.take_add_one, List.getElem?_eq_getElem hix, Option.toList_some, cellsN_app, cellsN_one])
      have HNk := hid (And.intro hk hlt)
      clear hr hrow hk hlt
      generalize es[k] = x at *
      clear hix
      obtain ⟨bq, hbq⟩ : ∃ bq, bq = wr.heap.size := ⟨_, rfl⟩
      obtain ⟨W1, hW1⟩ : ∃ W1, W1 = wr.alloc (.cells #[.int .u16 x.1.1, .string x.1.2, .int .i64 x.2.1.1, .int .i64 x.2.1.2.1, .int .i64 x.2.1.2.2.1, .int .i64 x.2.1.2.2.2, .int .i64 x.2.2] 56) := ⟨_, rfl⟩
      have HB1 : Hid (W1.heap[bq]? = some (.cells #[.int .u16 x.1.1, .string x.1.2, .int .i64 x.2.1.1, .int .i64 x.2.1.2.1, .int .i64 x.2.1.2.2.1, .int .i64 x.2.1.2.2.2, .int .i64 x.2.2] 56 (0, 0))) := hid (by rw [hW1, hbq]; exact heap_alloc_new wr _)
      have t1 : Touch [] wr W1 := by rw [hW1]; exact (Touch.refl _ _).alloc _
      have HS1 : Hid (GvS w4 es (.slice a1 k c1) k W1) := hid ⟨own_touch HS.out.o t1 (fun _ _ e => by cases e), HS.out.t.trans' t1⟩
      have hXc : ∀ w' : World, w'.heap[bq]? = some (.cells #[.int .u16 x.1.1, .string x.1.2, .int .i64 x.2.1.1, .int .i64 x.2.1.2.1, .int .i64 x.2.1.2.2.1, .int .i64 x.2.1.2.2.2, .int .i64 x.2.2] 56 (0, 0)) → w'.cell? ⟨bq, 0, none⟩ = some (.int .u16 x.1.1) ∧ w'.cell? ⟨bq, 1, none⟩ = some (.string x.1.2) ∧ w'.cell? ⟨bq, 2, none⟩ = some (.int .i64 x.2.1.1) ∧ w'.cell? ⟨bq, 3, none⟩ = some (.int .i64 x.2.1.2.1) ∧ w'.cell? ⟨bq, 4, none⟩ = some (.int .i64 x.2.1.2.2.1) ∧ w'.cell? ⟨bq, 5, none⟩ = some (.int .i64 x.2.1.2.2.2) ∧ w'.cell? ⟨bq, 6, none⟩ = some (.int .i64 x.2.2) := fun w' h => by simp [World.cell?, h]
      have HXc := hid hXc
      obtain ⟨p0, p1, p2, p3, p4, p5, p6⟩ := hXc W1 HB1.out
      have HGv := hid (fun w => given16 w x)
      unfold nv at HGv
      clear t1 hXc
      go_upto_region 9 with fail
      rw [← hW1, ← hbq]
      clear hW1 hbq r0 r1 r2 r3 r4 r5 r6
      go_upto_region 10 with (first
        | (go_at_call 16; refine (HGv.out _).mono ?_; rintro z w2 ⟨rfl, t2⟩; have T2' := hid t2; have HS2 : Hid (GvS w4 es (.slice a1 k c1) k w2) := hid ⟨own_touch HS1.out.o t2 (fun _ _ e => by cases e), HS1.out.t.trans' t2⟩; have hsz := HS2.out.t.size; clear t2)
        | (at_builtin; refine wpList_append_lies _ rfl _ _ 34 rfl w4.heap.size 62 i3 zk7 7 64 Try.underlying34 hf hz0 hz1 hz2 rfl (by decide) (.slice a1 k c1) k (cellsN (es.take k)) rfl (HS2.out.o.alloc _) ⟨w2.heap.size, 0, none⟩ 1 1 (nl x) rfl rfl (news7 (heap_alloc_new w2 _)) (nl_one x) (by decide) (by unfold maxLen; omega) (by omega) (by simp; omega) _ rfl ?_; intro g9 c9 w9 hown9 hgrow hat hlt9; have O9 := hid hown9; have G9 := hid hgrow; clear hown9 hgrow hat hlt9))
      clear p0 p1 p2 p3 p4 p5 p6
      have T9 : Hid (Touch (Value.slice a1 k c1).ownBlock.toList (w2.alloc (.cells #[.int .u16 x.1.1, .string x.1.2, .int .i64 x.2.1.1, .int .i64 x.2.1.2.1, .int .i64 x.2.1.2.2.1, .int .i64 x.2.1.2.2.2, .int .i64 x.2.2] 62)) w9) := hid ((Touch.refl _ _).grown G9.out (fun k hk => Or.inl (by simp [hk])))
      have T2a : Hid (Touch [] w2 (w2.alloc (.cells #[.int .u16 x.1.1, .string x.1.2, .int .i64 x.2.1.1, .int .i64 x.2.1.2.1, .int .i64 x.2.1.2.2.1, .int .i64 x.2.1.2.2.2, .int .i64 x.2.2] 62))) := hid ((Touch.refl _ _).alloc _)
      have HS9 : Hid (GvS w4 es (.slice (some ⟨g9, 0, none⟩) (k + 1) c9) (k + 1) w9) := hid ⟨by rw [HT1.out]; exact O9.out, (HS2.out.t.trans' T2a.out).trans T9.out (fun q hq => Or.inr (HS2.out.o.lt q (by simpa using hq)).1)⟩
      have HX9 : Hid (∀ w', Touch [] w9 w' → w'.cell? ⟨bq, 0, none⟩ = some (.int .u16 x.1.1) ∧ w'.cell? ⟨bq, 1, none⟩ = some (.string x.1.2) ∧ w'.cell? ⟨bq, 2, none⟩ = some (.int .i64 x.2.1.1) ∧ w'.cell? ⟨bq, 3, none⟩ = some (.int .i64 x.2.1.2.1) ∧ w'.cell? ⟨bq, 4, none⟩ = some (.int .i64 x.2.1.2.2.1) ∧ w'.cell? ⟨bq, 5, none⟩ = some (.int .i64 x.2.1.2.2.2) ∧ w'.cell? ⟨bq, 6, none⟩ = some (.int .i64 x.2.2)) := hid (fun w' t => HXc.out w' (t.keep (T9.out.keep (T2a.out.keep (T2'.out.keep HB1.out (by simp)) (by simp)) (fun hh => by
        obtain ⟨cs, h1⟩ := own_kin HS2.out.o (show (Value.slice a1 k c1).ownBlock = some bq by simpa using hh)
        rw [T2'.out.keep HB1.out (by simp)] at h1
        simp at h1)) (by simp)))
      have HI9 := hid (fun w' (t : Touch [] w9 w') => HI.out w' ((T4.out.trans' HS9.out.t).trans' t))
      clear HS1 HS2 T2' T2a T9 O9 G9 HI HXc HB1 HT1 HS hsz
      have sX0 : ∀ w', Touch [] w9 w' → w'.cell? ⟨bq, 0, none⟩ = some (.int .u16 x.1.1) := fun w' t => (HX9.out w' t).1
      have sX1 : ∀ w', Touch [] w9 w' → w'.cell? ⟨bq, 1, none⟩ = some (.string x.1.2) := fun w' t => (HX9.out w' t).2.1
      have sX2 : ∀ w', Touch [] w9 w' → w'.cell? ⟨bq, 2, none⟩ = some (.int .i64 x.2.1.1) := fun w' t => (HX9.out w' t).2.2.1
      have sX3 : ∀ w', Touch [] w9 w' → w'.cell? ⟨bq, 3, none⟩ = some (.int .i64 x.2.1.2.1) := fun w' t => (HX9.out w' t).2.2.2.1
      have sX4 : ∀ w', Touch [] w9 w' → w'.cell? ⟨bq, 4, none⟩ = some (.int .i64 x.2.1.2.2.1) := fun w' t => (HX9.out w' t).2.2.2.2.1
      have sX5 : ∀ w', Touch [] w9 w' → w'.cell? ⟨bq, 5, none⟩ = some (.int .i64 x.2.1.2.2.2) := fun w' t => (HX9.out w' t).2.2.2.2.2.1
      have sX6 : ∀ w', Touch [] w9 w' → w'.cell? ⟨bq, 6, none⟩ = some (.int .i64 x.2.2) := fun w' t => (HX9.out w' t).2.2.2.2.2.2
      have sI0 : ∀ w', Touch [] w9 w' → w'.cell? ⟨g7, off7 + k * 7, none⟩ = some (.int .u16 x.1.1) := fun w' t => (HI9.out w' t).1
      have sI1 : ∀ w', Touch [] w9 w' → w'.cell? ⟨g7, off7 + k * 7 + 1, none⟩ = some (.string x.1.2) := fun w' t => (HI9.out w' t).2.1
      have sI2 : ∀ w', Touch [] w9 w' → w'.cell? ⟨g7, off7 + k * 7 + 2, none⟩ = some (.int .i64 x.2.1.1) := fun w' t => (HI9.out w' t).2.2.1
      have sI3 : ∀ w', Touch [] w9 w' → w'.cell? ⟨g7, off7 + k * 7 + 3, none⟩ = some (.int .i64 x.2.1.2.1) := fun w' t => (HI9.out w' t).2.2.2.1
      have sI4 : ∀ w', Touch [] w9 w' → w'.cell? ⟨g7, off7 + k * 7 + 4, none⟩ = some (.int .i64 x.2.1.2.2.1) := fun w' t => (HI9.out w' t).2.2.2.2.1
      have sI5 : ∀ w', Touch [] w9 w' → w'.cell? ⟨g7, off7 + k * 7 + 5, none⟩ = some (.int .i64 x.2.1.2.2.2) := fun w' t => (HI9.out w' t).2.2.2.2.2.1
      have sI6 : ∀ w', Touch [] w9 w' → w'.cell? ⟨g7, off7 + k * 7 + 6, none⟩ = some (.int .i64 x.2.2) := fun w' t => (HI9.out w' t).2.2.2.2.2.2
      have s0 : Touch [] w9 w9.drew := (Touch.refl _ _).drew
      refine wp_region_H (S := fun w' => Touch [] w9 w') (by kernel_rfl) ?_
      refine wpH_take (i := 0) (v := (.slice (some ⟨g7, off7, none⟩) n c7)) (some 49) rfl rfl (by kernel_rfl) (by kernel_rfl) (by kernel_rfl) (fun _ _ _ h => h) (Or.inl ⟨by rfl, fun w' hS => (by go_simp)⟩) s0 ?_
      try simp only [Go.Act.put, List.setIfInBounds_toArray, List.set_cons_zero, List.set_cons_succ]
      refine wpH_take (i := 1) (v := (.int .i64 (k : Int))) (some 50) rfl rfl (by kernel_rfl) (by kernel_rfl) (by kernel_rfl) (fun _ _ _ h => h) (Or.inl ⟨by rfl, fun w' hS => (by go_simp)⟩) s0 ?_
      try simp only [Go.Act.put, List.setIfInBounds_toArray, List.set_cons_zero, List.set_cons_succ]
      refine wpH_take (i := 2) (v := (.pointer (some ⟨g7, off7 + k * 7, none⟩))) (some 51) rfl rfl (by kernel_rfl) (by kernel_rfl) (by kernel_rfl) (fun _ _ _ h => h) (Or.inl ⟨by rfl, fun w' hS => (by go_simp)⟩) s0 ?_
      try simp only [Go.Act.put, List.setIfInBounds_toArray, List.set_cons_zero, List.set_cons_succ]
      refine wpH_take (i := 3) (v := (.agg #[.int .u16 x.1.1, .string x.1.2, .int .i64 x.2.1.1, .int .i64 x.2.1.2.1, .int .i64 x.2.1.2.2.1, .int .i64 x.2.1.2.2.2, .int .i64 x.2.2])) (some 52) rfl rfl (by kernel_rfl) (by kernel_rfl) (by kernel_rfl) (fun _ _ _ h => h) (Or.inl ⟨by rfl, fun w' hS => (by have z0 := sI0 _ hS; have z1 := sI1 _ hS; have z2 := sI2 _ hS; have z3 := sI3 _ hS; have z4 := sI4 _ hS; have z5 := sI5 _ hS; have z6 := sI6 _ hS; go_simp)⟩) s0 ?_
      try simp only [Go.Act.put, List.setIfInBounds_toArray, List.set_cons_zero, List.set_cons_succ]
      refine wpH_take (i := 4) (v := (.agg #[.int .u16 x.1.1, .string x.1.2, .int .i64 x.2.1.1, .int .i64 x.2.1.2.1, .int .i64 x.2.1.2.2.1, .int .i64 x.2.1.2.2.2, .int .i64 x.2.2])) (some 53) rfl rfl (by kernel_rfl) (by kernel_rfl) (by kernel_rfl) (fun _ _ _ h => h) (Or.inl ⟨by rfl, fun w' hS => (by have z0 := sX0 _ hS; have z1 := sX1 _ hS; have z2 := sX2 _ hS; have z3 := sX3 _ hS; have z4 := sX4 _ hS; have z5 := sX5 _ hS; have z6 := sX6 _ hS; go_simp)⟩) s0 ?_
      try simp only [Go.Act.put, List.setIfInBounds_toArray, List.set_cons_zero, List.set_cons_succ]
      refine wpH_take (i := 5) (v := (.bool false)) (some 54) rfl rfl (by kernel_rfl) (by kernel_rfl) (by kernel_rfl) (fun _ _ _ h => h) (Or.inl ⟨by rfl, fun w' hS => (by go_simp)⟩) s0 ?_
      try simp only [Go.Act.put, List.setIfInBounds_toArray, List.set_cons_zero, List.set_cons_succ]
      refine wpAnyH_done (by kernel_rfl) ?_ _
      clear sX0 sX1 sX2 sX3 sX4 sX5 sX6 sI0 sI1 sI2 sI3 sI4 sI5 sI6 s0
      go_wp2_with fail
      go_roundw
      case rel => exact ⟨_, c9, k + 1, rfl, by go_num, by have := HNk.out; omega, hid ⟨own_touch HS9.out.o (Touch.refl [] _).drew (fun _ _ e => by cases e), HS9.out.t.drew⟩⟩
      case measure => simp [intOf]; have := HNk.out; omega
    · have zk : (n : Int) ≤ (k : Int) := by omega
      have HKn : Hid (k = es.length) := hid (by have := HN.out; omega)
      have HR62 : Hid (RN 62 wr (.slice a1 k c1) es) := hid (by
        have h1 := HS.out.o
        rw [List.take_of_length_le (by have := HKn.out; omega)] at h1
        have h2 := h1
        rw [HKn.out] at h2
        obtain ⟨a', c', e', k1, k2⟩ := RN.own h2
        exact ⟨a', c', by rw [← e', ← HKn.out], k1, k2⟩)
      have HRf2 := hid (HRf.out wr a1 k c1 HR62.out)
      have TWr : Hid (Touch [] w wr) := hid (TV.out.trans' TVr.out)
      clear HRf HOf HU HRw HG7 RN7 hlt hk hc7
      go_upto_region 13 with fail
      have sC0 : ∀ w', Touch [] wr w' → w'.cell? ⟨w.heap.size, 0, none⟩ = some (.int .i64 c.t) := fun w' t => (HC.out w' (TVr.out.trans' t)).1.c0
      have sC1 : ∀ w', Touch [] wr w' → w'.cell? ⟨w.heap.size, 1, none⟩ = some (.int .i64 c.n) := fun w' t => (HC.out w' (TVr.out.trans' t)).1.c1
      have sC2 : ∀ w', Touch [] wr w' → w'.cell? ⟨w.heap.size, 2, none⟩ = some (.int .i64 c.s) := fun w' t => (HC.out w' (TVr.out.trans' t)).1.c2
      have sC3 : ∀ w', Touch [] wr w' → w'.cell? ⟨w.heap.size, 3, none⟩ = some (.int .i64 c.e) := fun w' t => (HC.out w' (TVr.out.trans' t)).1.c3
      have sC4 : ∀ w', Touch [] wr w' → w'.cell? ⟨w.heap.size, 4, none⟩ = some (.int .i64 c.f) := fun w' t => (HC.out w' (TVr.out.trans' t)).1.c4
      have sC5 : ∀ w', Touch [] wr w' → w'.cell? ⟨w.heap.size, 5, none⟩ = some (.int .i64 c.b) := fun w' t => (HC.out w' (TVr.out.trans' t)).1.c5
      have sC6 : ∀ w', Touch [] wr w' → w'.cell? ⟨w.heap.size, 6, none⟩ = some (.int .i64 c.d) := fun w' t => (HC.out w' (TVr.out.trans' t)).1.c6
      have sN0 : ∀ w', Touch [] wr w' → w'.cell? ⟨w.heap.size + 1, 0, none⟩ = some (.int .i64 now) := fun w' t => (HC.out w' (TVr.out.trans' t)).2.1
      have s0 : Touch [] wr wr.drew := (Touch.refl _ _).drew
      refine wp_region_H (S := fun w' => Touch [] wr w') (by kernel_rfl) ?_
      refine wpH_take (i := 0) (v := (.agg #[.int .i64 c.t, .int .i64 c.n, .int .i64 c.s, .int .i64 c.e, .int .i64 c.f, .int .i64 c.b, .int .i64 c.d])) (some 57) rfl rfl (by kernel_rfl) (by kernel_rfl) (by kernel_rfl) (fun _ _ _ h => h) (Or.inl ⟨by rfl, fun w' hS => (by have z0 := sC0 _ hS; have z1 := sC1 _ hS; have z2 := sC2 _ hS; have z3 := sC3 _ hS; have z4 := sC4 _ hS; have z5 := sC5 _ hS; have z6 := sC6 _ hS; go_simp)⟩) s0 ?_
      try simp only [Go.Act.put, List.setIfInBounds_toArray, List.set_cons_zero, List.set_cons_succ]
      refine wpH_take (i := 2) (v := (.pointer (some ⟨w.heap.size + 1, 0, none⟩))) (some 59) rfl rfl (by kernel_rfl) (by kernel_rfl) (by kernel_rfl) (fun _ _ _ h => h) (Or.inl ⟨by rfl, fun w' hS => (by go_simp)⟩) s0 ?_
      try simp only [Go.Act.put, List.setIfInBounds_toArray, List.set_cons_zero, List.set_cons_succ]
      refine wpH_take (i := 3) (v := (.int .i64 now)) (some 60) rfl rfl (by kernel_rfl) (by kernel_rfl) (by kernel_rfl) (fun _ _ _ h => h) (Or.inl ⟨by rfl, fun w' hS => (by have z0 := sN0 _ hS; go_simp)⟩) s0 ?_
      try simp only [Go.Act.put, List.setIfInBounds_toArray, List.set_cons_zero, List.set_cons_succ]
      refine wpH_take (i := 4) (v := (.slice a1 k c1)) (some 61) rfl rfl (by kernel_rfl) (by kernel_rfl) (by kernel_rfl) (fun _ _ _ h => h) (Or.inl ⟨by rfl, fun w' hS => (by go_simp)⟩) s0 ?_
      try simp only [Go.Act.put, List.setIfInBounds_toArray, List.set_cons_zero, List.set_cons_succ]
      refine wpH_call (i := 1) (o := { dst := some 58, op := Op.call { callee := Callee.value (Operand.func 11), args := #[Operand.tmp 57], argTypes := #[23] }, type := 31, pos := _, after := #[{ on := 0, ground := Ground.data }], guard := none }) (by kernel_rfl) rfl (fun K' hK => ?_)
      rw [if_pos (by rfl)]
      go_simp
      refine (HCf.out _).mono ?_
      rintro e w5 ⟨rfl, t5⟩
      have s1 : Touch [] wr w5 := s0.trans' t5
      clear t5
      refine hK.out _ _ s1 ?_
      clear hK
      try simp only [Go.Act.put, List.setIfInBounds_toArray, List.set_cons_zero, List.set_cons_succ]
      refine wpH_call (i := 5) (o := { dst := some 62, op := Op.call { callee := Callee.value (Operand.func 17), args := #[Operand.tmp 58, Operand.tmp 60, Operand.tmp 61], argTypes := #[31, 2, 34] }, type := 64, pos := _, after := #[{ on := 1, ground := Ground.data }, { on := 3, ground := Ground.data }, { on := 4, ground := Ground.data }, { on := 1, ground := Ground.chain }], guard := none }) (by kernel_rfl) rfl (fun K' hK => ?_)
      rw [if_pos (by rfl)]
      go_simp
      refine (HRf2.out _ s1).mono ?_
      rintro e w6 ⟨rfl, s2⟩
      refine hK.out _ _ s2 ?_
      clear hK
      try simp only [Go.Act.put, List.setIfInBounds_toArray, List.set_cons_zero, List.set_cons_succ]
      refine wpH_take (i := 6) (v := (.tuple #[(.int .i64 pl), (.int .i64 er)])) (some 56) rfl rfl (by kernel_rfl) (by kernel_rfl) (by kernel_rfl) (fun _ _ _ h => h) (Or.inl ⟨by rfl, fun w' hS => (by go_simp)⟩) s2 ?_
      try simp only [Go.Act.put, List.setIfInBounds_toArray, List.set_cons_zero, List.set_cons_succ]
      refine wpH_take (i := 7) (v := (.int .i64 pl)) (some 63) rfl rfl (by kernel_rfl) (by kernel_rfl) (by kernel_rfl) (fun _ _ _ h => h) (Or.inl ⟨by rfl, fun w' hS => (by go_simp)⟩) s2 ?_
      try simp only [Go.Act.put, List.setIfInBounds_toArray, List.set_cons_zero, List.set_cons_succ]
      refine wpH_take (i := 8) (v := (.int .i64 er)) (some 64) rfl rfl (by kernel_rfl) (by kernel_rfl) (by kernel_rfl) (fun _ _ _ h => h) (Or.inl ⟨by rfl, fun w' hS => (by go_simp)⟩) s2 ?_
      try simp only [Go.Act.put, List.setIfInBounds_toArray, List.set_cons_zero, List.set_cons_succ]
      refine wpH_take (i := 9) (v := (.int .i64 pl)) (some 14) rfl rfl (by kernel_rfl) (by kernel_rfl) (by kernel_rfl) (fun _ _ _ h => h) (Or.inl ⟨by rfl, fun w' hS => (by go_simp)⟩) s2 ?_
      try simp only [Go.Act.put, List.setIfInBounds_toArray, List.set_cons_zero, List.set_cons_succ]
      refine wpH_take (i := 10) (v := (.int .i64 er)) (some 15) rfl rfl (by kernel_rfl) (by kernel_rfl) (by kernel_rfl) (fun _ _ _ h => h) (Or.inl ⟨by rfl, fun w' hS => (by go_simp)⟩) s2 ?_
      try simp only [Go.Act.put, List.setIfInBounds_toArray, List.set_cons_zero, List.set_cons_succ]
      refine wpAnyH_done (by kernel_rfl) ?_ _
      have T6 := hid s2
      clear sC0 sC1 sC2 sC3 sC4 sC5 sC6 sN0 s0 s1 s2
      rcases OA.out with ⟨he, hpm, _⟩ | ⟨he, hp0, m, F, hpm, hq, hF, _⟩
      · rw [← HPE.out.2] at he
        subst hpm
        go_wp2_with fail
        go_ret
        exact ⟨rfl, TWr.out.trans' T6.out⟩
      · rw [← HPE.out.2] at he
        have Q4 := hid hq
        have F4 := hid hF
        subst hpm
        subst he
        clear hp0 hq hF
        unfold PT
        go_upto_region 18 with fail
        have T46 : Hid (Touch [] w4 w6) := hid (HS.out.t.trans' T6.out)
        have TV6 : Hid (Touch [] V w6) := hid (TVr.out.trans' T6.out)
        have HR6 : Hid (RN 62 w6 (.slice a1 k c1) es) := hid (HR62.out.keep T6.out)
        have HK1 : Hid (Calls Try.prog 11 #[.agg #[.int .i64 c.t, .int .i64 c.n, .int .i64 c.s, .int .i64 c.e, .int .i64 c.f, .int .i64 c.b, .int .i64 c.d]] (w6.alloc mzx).drew fun e w'' => e = .returned (.agg #[.int .i64 c.t, .int .i64 c.n, .int .i64 c.s, .int .i64 c.e, .int .i64 c.f, .int .i64 c.b, .int .i64 c.d]) ∧ Touch [] w6 w'' ∧ w''.heap[w6.heap.size]? = some mzx) := hid ((HCf.out _).mono (by
          rintro e w'' ⟨rfl, t2⟩
          exact ⟨rfl, ((Touch.refl _ _).alloc _).drew.trans' t2, t2.keep (heap_alloc_new w6 mzx) (by simp)⟩))
        have HK2 : Hid (Calls Try.prog 11 #[.agg #[.int .i64 c.t, .int .i64 c.n, .int .i64 c.s, .int .i64 c.e, .int .i64 c.f, .int .i64 c.b, .int .i64 c.d]] w6.drew fun e w'' => e = .returned (.agg #[.int .i64 c.t, .int .i64 c.n, .int .i64 c.s, .int .i64 c.e, .int .i64 c.f, .int .i64 c.b, .int .i64 c.d]) ∧ Touch [] w6 w'') := hid ((HCf.out _).mono (by
          rintro e w'' ⟨rfl, t2⟩
          exact ⟨rfl, (Touch.refl _ _).drew.trans' t2⟩))
        unfold mzx at HK1
        have sC0 : ∀ w', Touch [] w6 w' → w'.cell? ⟨w.heap.size, 0, none⟩ = some (.int .i64 c.t) := fun w' t => (HC.out w' (TV6.out.trans' t)).1.c0
        have sC1 : ∀ w', Touch [] w6 w' → w'.cell? ⟨w.heap.size, 1, none⟩ = some (.int .i64 c.n) := fun w' t => (HC.out w' (TV6.out.trans' t)).1.c1
        have sC2 : ∀ w', Touch [] w6 w' → w'.cell? ⟨w.heap.size, 2, none⟩ = some (.int .i64 c.s) := fun w' t => (HC.out w' (TV6.out.trans' t)).1.c2
        have sC3 : ∀ w', Touch [] w6 w' → w'.cell? ⟨w.heap.size, 3, none⟩ = some (.int .i64 c.e) := fun w' t => (HC.out w' (TV6.out.trans' t)).1.c3
        have sC4 : ∀ w', Touch [] w6 w' → w'.cell? ⟨w.heap.size, 4, none⟩ = some (.int .i64 c.f) := fun w' t => (HC.out w' (TV6.out.trans' t)).1.c4
        have sC5 : ∀ w', Touch [] w6 w' → w'.cell? ⟨w.heap.size, 5, none⟩ = some (.int .i64 c.b) := fun w' t => (HC.out w' (TV6.out.trans' t)).1.c5
        have sC6 : ∀ w', Touch [] w6 w' → w'.cell? ⟨w.heap.size, 6, none⟩ = some (.int .i64 c.d) := fun w' t => (HC.out w' (TV6.out.trans' t)).1.c6
        have sN0 : ∀ w', Touch [] w6 w' → w'.cell? ⟨w.heap.size + 1, 0, none⟩ = some (.int .i64 now) := fun w' t => (HC.out w' (TV6.out.trans' t)).2.1
        have t0 : Touch [] w6 w6.drew := (Touch.refl _ _).drew
        go_cut [16, 17] from 82 to 87 (fun s16 s17 wx => ∃ X, s16 = .pointer (some ⟨X, 0, none⟩) ∧ s17 = .bool true ∧ Hid (w6.heap.size ≤ X ∧ wx.heap[X]? = some (mbx c (.slice a1 k c1) now) ∧ Touch [] w6 wx))
        case first =>
          go_region_held3 (fun w' => Touch [] w6 w') (first | with_reducible assumption | with_reducible exact Touch.alloc t7 _ | with_reducible exact Touch.drew (Touch.alloc (Touch.refl _ _) _) | with_reducible exact Touch.alloc (Touch.drew (Touch.refl _ _)) _ | with_reducible exact Touch.alloc (Touch.refl _ _) _ | with_reducible exact Touch.new9 t7 (Nat.le_refl _) _ _ _ _ _ _ _ _ _)
            (first
              | (go_at_call 11; refine HK1.out.mono ?_; rintro e w7 ⟨rfl, t7, g7'⟩; have G7 := hid g7'; obtain ⟨z0, z1, z2, z3, z4, z5, z6, z7, z8⟩ : w7.cell? ⟨w6.heap.size, 0, none⟩ = some (.int .i64 0) ∧ w7.cell? ⟨w6.heap.size, 1, none⟩ = some (.int .i64 0) ∧ w7.cell? ⟨w6.heap.size, 2, none⟩ = some (.int .i64 0) ∧ w7.cell? ⟨w6.heap.size, 3, none⟩ = some (.int .i64 0) ∧ w7.cell? ⟨w6.heap.size, 4, none⟩ = some (.int .i64 0) ∧ w7.cell? ⟨w6.heap.size, 5, none⟩ = some (.int .i64 0) ∧ w7.cell? ⟨w6.heap.size, 6, none⟩ = some (.int .i64 0) ∧ w7.cell? ⟨w6.heap.size, 7, none⟩ = some (.slice none 0 0) ∧ w7.cell? ⟨w6.heap.size, 8, none⟩ = some (.int .i64 0) := (by simp [World.cell?, g7']); have zf : ∀ i, w7.frozen? ⟨w6.heap.size, i, none⟩ = false := (fun i => by simp [World.frozen?, g7']); clear g7')
              | (go_at_call 11; refine HK2.out.mono ?_; rintro e w7 ⟨rfl, t7⟩))
          all_goals
            go_wp2_with fail
            go_meet
          case rel => exact ⟨_, rfl, rfl, hid ⟨t7.size, heap_alloc_new _ _, Touch.alloc t7 _⟩⟩
          case rel => exact ⟨_, rfl, rfl, hid ⟨Nat.le_refl _, mbx_set G7.out c _ now, Touch.new9 t7 (Nat.le_refl _) _ _ _ _ _ _ _ _ _⟩⟩
        case rest =>
          obtain ⟨x0, rfl, rfl, HGG⟩ := hcut
          have T4c : Hid (Touch [] w4 wc) := hid (T46.out.trans' HGG.out.2.2)
          have TWc : Hid (Touch [] w wc) := hid ((TWr.out.trans' T6.out).trans' HGG.out.2.2)
          have HL : Hid (LpS w m c x0 wc) := hid ⟨F, a1, k, c1, now, es, Q4.out.keep0 T4c.out, fun i hi => by have := F4.out i hi; have := (TV.out.trans' T3.out).size; omega, HGG.out.2.1, HR6.out.keep HGG.out.2.2, by have := HGG.out.1; have := (TWr.out.trans' T6.out).size; omega, TWc.out⟩
          have HSt : Hid (Calls Try.prog 14 #[PT m, mvv c (.slice a1 k c1) now, .agg #[.int .u16 0, .string ⟨#[]⟩]] wc fun e w' => e = .returned (.bool true) ∧ Touch [] wc w') := hid (stands14 wc m F c now es (.slice a1 k c1) (0, ⟨#[]⟩) ⟨by decide, by simp [ByteArray.size, maxLen]⟩ (Q4.out.keep0 T4c.out) (HR6.out.keep HGG.out.2.2))
          unfold PT mvv at HSt
          obtain ⟨a0, a1', a2', a3', a4, a5, a6, a7, a8, fz⟩ := M9.mk' HGG.out.2.1
          clear sC0 sC1 sC2 sC3 sC4 sC5 sC6 sN0 t0 HK1 HK2
          go_upto_region 21 with (go_at_call 14; refine HSt.out.mono ?_; rintro e w8 ⟨rfl, t8⟩; have HI1 : Hid (LpS w m c x0 w8) := hid (by obtain ⟨F', b1, b2, b3, b4, b5, b6, b7, b8, b9, b10, b11⟩ := HL.out; exact ⟨F', b1, b2, b3, b4, b5, b6.keep0 t8, b7, t8.keep b8 (by simp), b9.keep t8, b10, b11.trans' t8⟩); clear t8)
          clear a0 a1' a2' a3' a4 a5 a6 a7 a8 fz
          clear HSt HL HGG T4c TWc Q4 F4 HR6 T46 TV6 HR62 HRf2 HS TVr
          go_wp2_with fail
          go_loopw [95] (fun s95 wr => ∃ j : Nat, s95 = .int .i64 (j : Int) ∧ j ≤ A ∧ Hid (LpS w m c x0 wr)) (fun i _ => A - (intOf i).toNat)
          case atStart => exact ⟨0, rfl, Nat.zero_le _, HI1⟩
          case round =>
            clear HI1
            obtain ⟨k2, rfl, hk, HR0⟩ := hrel
            by_cases hlt : k2 < A
            · have zk : (k2 : Int) < (A : Int) := by omega
              obtain ⟨ba, off, rfl, hrow⟩ : ∃ ba off, avx = some ⟨ba, off, none⟩ ∧ RowM w ba off xs := by
                rcases HRow.out with e | e
                · omega
                · exact e
              have hnx : k2 < xs.length := by have := HAx.out; omega
              have hr := hrow.keep HR0.out.t
              have q0 := hr.c0 k2 hnx
              have q1 := hr.c1 k2 hnx
              have q2 := hr.c2 k2 hnx
              have q3 := hr.c3 k2 hnx
              have q4 := hr.c4 k2 hnx
              have q5 := hr.c5 k2 hnx
              have q6 := hr.c6 k2 hnx
              have q7 := hr.c7 k2 hnx
              have q8 := hr.c8 k2 hnx
              have HWx := hid (HWf.out xs[k2] (List.getElem_mem hnx)).2.2.2.1
              generalize xs[k2] = ac at *
              obtain ⟨a1, n1, c1, now, zs, hx0, hla⟩ := HR0.out.start ac
              obtain ⟨W1, hW1⟩ : ∃ W1, W1 = wr.alloc (abx ac) := ⟨_, rfl⟩
              rw [← hW1] at hla
              have L1 := hid hla
              have HNk := hid (And.intro hk hlt)
              clear hrow hr hx0 hla hk hlt hnx
              unfold abx at hW1
              go_upto_region 24 with fail
              rw [← hW1]
              clear hW1 q0 q1 q2 q3 q4 q5 q6 q7 q8
              generalize wr.heap.size = bq at *
              have HAc := hid (L1.out.act HWx.out)
              unfold PT mvv avv at HAc
              obtain ⟨a0, a1', a2', a3', a4, a5, a6, a7, a8, fz⟩ := M9.mk' L1.out.hx
              obtain ⟨b0, b1, b2, b3, b4, b5, b6, b7, b8⟩ := B9.mk' L1.out.hb
              go_upto_region 25 with (go_at_call 13; refine HAc.out.mono ?_; rintro e w5 ⟨a2, n2, c2, now2, ys, rfl, l5⟩; have L5 := hid l5; clear l5; clear a0 a1' a2' a3' a4 a5 a6 a7 a8 fz; clear b0 b1 b2 b3 b4 b5 b6 b7 b8; obtain ⟨a0, a1', a2', a3', a4, a5, a6, a7, a8, fz⟩ := M9.mk' L5.out.hx)
              clear a0 a1' a2' a3' a4 a5 a6 a7 a8 fz
              have L6 := hid L5.out.set
              generalize hW6 : (((((((((w5.setCell ⟨x0, 0, none⟩ (.int .i64 c.t)).setCell ⟨x0, 1, none⟩ (.int .i64 c.n)).setCell ⟨x0, 2, none⟩ (.int .i64 c.s)).setCell ⟨x0, 3, none⟩ (.int .i64 c.e)).setCell ⟨x0, 4, none⟩ (.int .i64 c.f)).setCell ⟨x0, 5, none⟩ (.int .i64 c.b)).setCell ⟨x0, 6, none⟩ (.int .i64 c.d)).setCell ⟨x0, 7, none⟩ (.slice a2 n2 c2)).setCell ⟨x0, 8, none⟩ (.int .i64 now2)) = W6 at *
              clear hW6 L5 L1 HAc
              obtain ⟨a0, a1', a2', a3', a4, a5, a6, a7, a8, fz⟩ := M9.mk' L6.out.hx
              obtain ⟨b0, b1, b2, b3, b4, b5, b6, b7, b8⟩ := B9.mk' L6.out.hb
              have HSt := hid (L6.out.stands HWx.out)
              unfold PT mvv kv at HSt
              go_wp2_with (go_at_call 14; refine HSt.out.mono ?_; rintro e w7 ⟨rfl, l7⟩; have L7 := hid l7; clear l7)
              go_roundw
              case rel => exact ⟨k2 + 1, by go_num, by have := HNk.out; omega, L7.out.lp⟩
              case measure => simp [intOf]; have := HNk.out; omega
            · have zk : (A : Int) ≤ (k2 : Int) := by omega
              go_wp2_with fail
              go_ret
              exact ⟨rfl, HR0.out.t⟩
theorem law4 (w : World) (c : Cf) (now : Int) (u : Value) (es : List En) (xs : List ActM) (v : Value) (wc : Wc c) (hu : SlE w u es) (hok : ∀ x ∈ es, Ok x.1) (hel : es.length ≤ 2199023255488) (hv : SlM w v xs) (hw : ∀ x ∈ xs, WfM x) (hL : xs.length ≤ 1759218604390) :
    Calls Try.prog 4 #[cv c, .agg #[.int .i64 now, u], v] w fun e w' => e = .returned (.bool true) ∧ Touch [] w w' := by
  obtain ⟨au, n, cu, rfl, hn⟩ : ∃ au n cu, u = .slice au n cu ∧ n = es.length := by
    rcases hu with ⟨rfl, rfl | ⟨ad, cu, rfl⟩⟩ | ⟨b, off, cap, rfl, r⟩
    · exact ⟨_, _, _, rfl, rfl⟩
    · exact ⟨_, _, _, rfl, rfl⟩
    · exact ⟨_, _, _, rfl, rfl⟩
  exact law4_w w c now au n cu es xs v wc hu hn hok hel hv hw hL
end Go.Proofs.Ytopepalpmkeffaa
