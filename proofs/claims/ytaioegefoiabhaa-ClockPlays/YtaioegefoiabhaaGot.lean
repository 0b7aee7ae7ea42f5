/- The contract of goTo: the clock stands at a tick, and what is due rings. -/
import Derived.Test.YtaioegefoiabhaaStp
namespace Go.Proofs.Ytaioegefoiabhaa
open Go.RowKit Go.Maps Go.ChangeMaps
set_option linter.unusedVariables false
theorem info45 : (Try.prog.info? 45).map (fun i => (i.zero, i.size, i.bytes)) = some (some (.agg #[.int .i64 0, .int .i64 0]), 2, 16) := by kernel_rfl
theorem cell_two_newR (w : World) (x y : Value) (t : TypeId) : ∀ j u, [x, y][j]? = some u → (w.alloc (.cells #[x, y] t)).cell? ((⟨w.heap.size, 0, none⟩ : Addr).add j) = some u := by
  intro j u hj
  match j, hj with
  | 0, hj => simp at hj; subst hj; simp [Addr.add]
  | 1, hj => simp at hj; subst hj; simp [Addr.add]
/-- A ring that lies in a block of its own. -/
def FB (w : World) (b : Nat) (i t : Int) : Prop := w.heap[b]? = some (.cells #[.int .i64 i, .int .i64 t] 45 (0, 0))
section
variable {w w' : World} {b : Nat} {i t : Int}
theorem FB.c0 (h : FB w b i t) : w.cell? ⟨b, 0, none⟩ = some (.int .i64 i) := by unfold FB at h; simp [World.cell?, h]
theorem FB.c1 (h : FB w b i t) : w.cell? ⟨b, 1, none⟩ = some (.int .i64 t) := by unfold FB at h; simp [World.cell?, h]
theorem FB.fr (h : FB w b i t) (j : Nat) : w.frozen? ⟨b, j, none⟩ = false := by unfold FB at h; simp [World.frozen?, h]
theorem FB.set (h : FB w b i t) (i' t' : Int) : FB ((w.setCell ⟨b, 0, none⟩ (.int .i64 i')).setCell ⟨b, 1, none⟩ (.int .i64 t')) b i' t' := by
  have h1 : FB (w.setCell ⟨b, 0, none⟩ (.int .i64 i')) b i' t := Joins.block_setCell h _
  exact Joins.block_setCell h1 _
theorem FB.keep {F : List Nat} (h : FB w b i t) (ht : Touch F w w') (hn : ¬ b ∈ F) : FB w' b i t := ht.keep h hn
theorem FB.new (w : World) (i t : Int) : FB (w.alloc (.cells #[.int .i64 i, .int .i64 t] 45)) w.heap.size i t := heap_alloc_new _ _
end
theorem Tq.notin {w : World} {q : Nat} {F : List Nat} {p : Int} {S : List Slot} (h : Tq w q F p S) {b e : Nat} {cs : Array Value} {z : Nat × Nat} (hb : w.heap[b]? = some (.cells cs e z)) (e1 : e ≠ 83) (e2 : e ≠ 86) : ¬ b ∈ F := by
  obtain ⟨sl, m, rfl, ⟨s, h1, _⟩, _⟩ := h
  intro hF
  simp [fq] at hF
  rcases hF with rfl | hF | hF
  · have := h1.hc
    unfold HC at this
    rw [hb] at this
    simp at this
    exact e1 this.2.1
  · obtain ⟨_, h3 | ⟨g', cap', cur', rfl, hg', hcc', r'⟩⟩ := h1.row
    · rw [h3.1] at hF; cases hF
    · simp [Value.ownBlock] at hF
      subst hF
      rw [hb] at hcc'
      simp at hcc'
      exact e2 hcc'.2.1
  · rcases h1.mp with ⟨rfl, _⟩ | ⟨b', rfl, hm⟩
    · cases hF
    · cases hF
      obtain ⟨D, ⟨es, cl, hb', _⟩, _⟩ := hm
      rw [hb'] at hb
      simp at hb
theorem own_ne {w : World} {base e k n : Nat} {v : Value} {xs : List Value} (h : w.ownsRow base e k v n xs) {b e' : Nat} {cs : Array Value} {z : Nat × Nat} (hb : w.heap[b]? = some (.cells cs e' z)) (he : e ≠ e') : ∀ g, v.ownBlock = some g → g ≠ b := by
  intro g hg eg
  obtain ⟨_, h2 | ⟨g', cap, cur, rfl, hg', hcc, r⟩⟩ := h
  · rw [h2.1] at hg; cases hg
  · simp [Value.ownBlock] at hg
    subst hg eg
    rw [hb] at hcc
    simp at hcc
    exact he hcc.2.1.symm
/-- What Next tells of a queue that stands as R. -/
def NxP (i t : Int) (b : Bool) (R : List Slot) : Prop := (b = true ∧ ∃ x R', R = x :: R' ∧ i = x.item ∧ t = x.at_) ∨ (b = false ∧ R = [])
def NxE (e : Ending) (w w' : World) (R : List Slot) : Prop := ∃ i t b, e = .returned (.tuple #[.agg #[.int .i64 i, .int .i64 t], .bool b]) ∧ Touch [] w w' ∧ NxP i t b R
theorem next17 {w : World} {c q : Nat} {G : List Nat} {p now last : Int} {R : List Slot} (hc : CC w c q now last) (hq : Tq w q G p R) : Calls Try.prog 17 #[.pointer (some ⟨c, 0, none⟩)] w fun e w' => NxE e w w' R := by
  cases R with
  | nil =>
    refine (next17_nil0 w c hc hq).mono ?_
    rintro e w' ⟨rfl, ht⟩
    exact ⟨0, 0, false, rfl, ht, Or.inr ⟨rfl, rfl⟩⟩
  | cons y R =>
    refine (next17_cons0 w c hc hq).mono ?_
    rintro e w' ⟨rfl, ht⟩
    exact ⟨y.item, y.at_, true, rfl, ht, Or.inl ⟨rfl, y, R, rfl, rfl, rfl⟩⟩
/-- How goTo stands ahead of a round: k have rung. -/
structure GoS (w wr : World) (c q : Nat) (G : List Nat) (p last to : Int) (S : List Slot) (v : Value) (k fb : Nat) (i t : Int) (b : Bool) : Prop where
  hk : k ≤ S.length
  row : wr.ownsRow w.heap.size 45 2 v k (flatT (tms (S.take k)))
  all : ∀ j, j < k → (gt S j).at_ ≤ to
  tc : Touch (c :: G) w wr
  cc : CC wr c q to last
  tq : ∃ G', Tq wr q G' p (S.drop k) ∧ Nf w G G'
  fc : FB wr fb i t
  fn : w.heap.size ≤ fb
  fa : ∀ b, v.ownBlock = some b → b ≠ fb
  nx : NxP i t b (S.drop k)
theorem GoS.start {w w2 : World} {c q : Nat} {G : List Nat} {p last to now : Int} {S : List Slot} {i t : Int} {b : Bool} (hc : CC w c q now last) (hq : Tq w q G p S) (ha : ¬ c ∈ G) (ht : Touch [] (w.setCell ⟨c, 0, none⟩ (.int .i64 to)) w2) (hn : NxP i t b S) :
    GoS w (w2.alloc (.cells #[.int .i64 i, .int .i64 t] 45)) c q G p last to S (.slice none 0 0) 0 w2.heap.size i t b := by
  have T1 : Touch [c] w (w.setCell ⟨c, 0, none⟩ (.int .i64 to)) := (Touch.refl _ _).setCell (p := ⟨c, 0, none⟩) (Or.inl (by simp)) _
  have T2 : Touch [c] w (w2.alloc (.cells #[.int .i64 i, .int .i64 t] 45)) := (T1.trans' (ht.mono (fun _ e => by cases e))).alloc _
  have T3 : Touch [] (w.setCell ⟨c, 0, none⟩ (.int .i64 to)) (w2.alloc (.cells #[.int .i64 i, .int .i64 t] 45)) := ht.alloc _
  refine ⟨Nat.zero_le _, World.ownsRow_nil _ _ _ _, fun j hj => by omega, T2.mono (fun k hk => by simp at hk; simp [hk]), (hc.set0 to).keep T3 (by simp), ⟨G, ?_, Nf.refl _ _⟩, FB.new _ _ _, ?_, fun b hb => (by cases hb), by simpa using hn⟩
  · exact hq.keep T2 (fun k hk e => ha (by simp at e; rw [← e]; exact hk))
  · exact Nat.le_trans T1.size ht.size
theorem tms_snoc {S : List Slot} {k : Nat} {x : Slot} {R : List Slot} (h : S.drop k = x :: R) : k < S.length ∧ flatT (tms (S.take (k + 1))) = flatT (tms (S.take k)) ++ [.int .i64 x.item, .int .i64 x.at_] ∧ S.drop (k + 1) = R ∧ gt S k = x := by
  have hk : k < S.length := by
    rcases Nat.lt_or_ge k S.length with h' | h'
    · exact h'
    · rw [List.drop_of_length_le h'] at h; cases h
  have e := List.drop_eq_getElem_cons hk
  rw [h] at e
  simp only [List.cons.injEq] at e
  refine ⟨hk, ?_, e.2.symm, by rw [gt_eq hk]; exact e.1.symm⟩
  unfold tms
  rw [List.take_succ_eq_append_getElem hk, List.map_append, ← e.1, flatT_app]
  rfl
/-- Behind Take and the append, ahead of the next Next. -/
theorem GoS.mid {w wr w2 w3 : World} {c q : Nat} {G G2 : List Nat} {p last to : Int} {S : List Slot} {v v2 : Value} {k fb : Nat} {i t : Int} {x : Slot} {R : List Slot} {G1 : List Nat} (h : GoS w wr c q G p last to S v k fb i t true) (hd : S.drop k = x :: R) (hx : x.at_ ≤ to)
    (h1 : Tq wr q G1 p (S.drop k)) (n1 : Nf w G G1) (h2 : Tq w2 q G2 p R) (t2 : Touch G1 wr w2) (n2 : Nf wr G1 G2)
    (hr : w3.ownsRow w.heap.size 45 2 v2 (k + 1) (flatT (tms (S.take k)) ++ [.int .i64 x.item, .int .i64 x.at_])) (t3 : Touch v.ownBlock.toList w2 w3) (hlt : ∀ b, v2.ownBlock = some b → b < w3.heap.size) (i' t' : Int) :
    (CC (w3.alloc (.cells #[.int .i64 i', .int .i64 t'] 45)) c q to last ∧ Tq (w3.alloc (.cells #[.int .i64 i', .int .i64 t'] 45)) q G2 p R) ∧ ∀ w5 i5 t5 b5, Touch [] (w3.alloc (.cells #[.int .i64 i', .int .i64 t'] 45)) w5 → NxP i5 t5 b5 R →
      FB w5 w3.heap.size i' t' ∧ GoS w ((w5.setCell ⟨w3.heap.size, 0, none⟩ (.int .i64 i5)).setCell ⟨w3.heap.size, 1, none⟩ (.int .i64 t5)) c q G p last to S v2 (k + 1) w3.heap.size i5 t5 b5 := by
  obtain ⟨hk, e1, e2, e3⟩ := tms_snoc hd
  have c1 : ¬ c ∈ G1 := h1.notin h.cc (by decide) (by decide)
  have cc2 := h.cc.keep t2 c1
  have r2 : w2.ownsRow w.heap.size 45 2 v k (flatT (tms (S.take k))) := own_touch h.row t2 (fun b hb => h1.apart h.row (by decide) (by decide) b hb)
  have cc3 : CC w3 c q to last := cc2.keep t3 (fun e => own_ne r2 cc2 (by decide) c (by simpa using e) rfl)
  have q3 : Tq w3 q G2 p R := h2.keep t3 (fun i hi e => h2.apart r2 (by decide) (by decide) i (by simpa using e) hi)
  have T4 : Touch [] w3 (w3.alloc (.cells #[.int .i64 i', .int .i64 t'] 45)) := (Touch.refl _ _).alloc _
  have W3 : Touch (c :: G) w w3 := (h.tc.trans t2 (fun i hi => by
    rcases n1 i hi with e | e
    · exact Or.inl (List.mem_cons_of_mem _ e)
    · exact Or.inr e)).trans t3 (fun i hi => Or.inr (h.row.lt i (by simpa using hi)).1)
  refine ⟨⟨cc3.keep T4 (by simp), q3.keep0 T4⟩, fun w5 i5 t5 b5 t5' hn => ?_⟩
  have F5 : FB w5 w3.heap.size i' t' := (FB.new w3 i' t').keep t5' (by simp)
  have T5 : Touch [] w3 w5 := T4.trans' t5'
  have T6 : Touch [w3.heap.size] w5 ((w5.setCell ⟨w3.heap.size, 0, none⟩ (.int .i64 i5)).setCell ⟨w3.heap.size, 1, none⟩ (.int .i64 t5)) := ((Touch.refl _ _).setCell (p := ⟨w3.heap.size, 0, none⟩) (Or.inl (by simp)) _).setCell (p := ⟨w3.heap.size, 1, none⟩) (Or.inl (by simp)) _
  have cl := block_lt cc3
  refine ⟨F5, ⟨hk, ?_, fun a ha => ?_, (W3.trans' (T5.mono (fun _ e => by cases e))).trans T6 (fun i hi => Or.inr (by simp at hi; have := W3.size; omega)), (cc3.keep T5 (by simp)).keep T6 (by simp; omega), ⟨G2, ?_, n1.trans n2 h.tc.size⟩, F5.set _ _, W3.size, fun b hb e => by have := hlt b hb; omega, by rw [e2]; exact hn⟩⟩
  · rw [e1]
    exact own_touch (own_touch hr T5 (fun _ _ e => by cases e)) T6 (fun b hb e => by have := hlt b hb; simp at e; omega)
  · by_cases ea : a = k
    · rw [ea, e3]; exact hx
    · exact h.all a (by omega)
  · rw [e2]
    exact (q3.keep0 T5).keep T6 (fun i hi e => by have := q3.lt i hi; simp at e; omega)
theorem tmsDue {S : List Slot} {to : Int} {k : Nat} (hk : k ≤ S.length) (ha : ∀ j, j < k → (gt S j).at_ ≤ to) (he : S.drop k = [] ∨ ∃ x R, S.drop k = x :: R ∧ to < x.at_) : dueT (tms S) to = k := by
  refine dueT_of (by rw [tms_len]; exact hk) (fun j hj => by rw [gtT_tms (by omega)]; exact ha j hj) ?_
  rcases he with e | ⟨x, R, e, hx⟩
  · left
    have := List.drop_eq_nil_iff.1 e
    rw [tms_len]
    omega
  · right
    obtain ⟨h1, _, _, h4⟩ := tms_snoc e
    rw [gtT_tms h1, h4]
    exact hx
def GoE (e : Ending) (w w' : World) (c : Nat) (F : List Nat) (s : Cs) (to : Int) : Prop := ∃ a n x, e = .returned (.slice a n x) ∧ RR 45 w' w.heap.size (.slice a n x) (goR s to) ∧ Nx w w' c F (goS s to)
theorem GoS.done {w wr : World} {c q : Nat} {G : List Nat} {p to : Int} {S : List Slot} {a : Option Addr} {n x : Nat} {k fb : Nat} {i t : Int} {b : Bool} {s : Cs} (h0 : CkS w c q G p S s) (hto : s.now ≤ to) (h1 : to ≤ 4611686018427387904) (h : GoS w wr c q G p s.last to S (.slice a n x) k fb i t b) (hb : b = false ∨ to < t) :
    GoE (.returned (.slice a n x)) w wr c (c :: G) s to := by
  have hd : dueT s.T to = k := by
    rw [h0.eq]
    refine tmsDue h.hk h.all ?_
    rcases h.nx with ⟨r1, y, R, r2, r3, r4⟩ | ⟨r1, r2⟩
    · right
      refine ⟨y, R, r2, ?_⟩
      rcases hb with e | e
      · rw [r1] at e; cases e
      · omega
    · exact Or.inl r2
  obtain ⟨G', q1, n1⟩ := h.tq
  refine ⟨a, n, x, rfl, ?_, c :: G', ⟨q, G', p, S.drop k, rfl, h.cc, q1, q1.notin h.cc (by decide) (by decide), h0.pl, ?_, h0.ok.go hto h1⟩, h.tc, fun j hj => ?_⟩
  · unfold RR goR
    rw [hd, h0.eq]
    have e1 : (tms S).take k = tms (S.take k) := by unfold tms; rw [List.map_take]
    rw [e1, tms_len, List.length_take, Nat.min_eq_left h.hk]
    exact h.row
  · show s.T.drop (dueT s.T to) = _
    rw [hd, h0.eq]
    unfold tms
    rw [List.map_drop]
  · rcases List.mem_cons.1 hj with rfl | hj
    · exact Or.inl List.mem_cons_self
    · rcases n1 j hj with e | e
      · exact Or.inl (List.mem_cons_of_mem _ e)
      · exact Or.inr e
set_option maxHeartbeats 2000000 in
set_option maxRecDepth 100000 in
theorem goTo27 (w : World) (c : Nat) (F : List Nat) (s : Cs) (to : Int) (h : Ck w c F s) (hto : s.now ≤ to) (h1 : to ≤ 4611686018427387904) :
    Calls Try.prog 27 #[PC c, .int .i64 to] w fun e w' => GoE e w w' c F s to := by
  obtain ⟨i45, hi, hz0, hz1, hz2⟩ := info_parts info45
  obtain ⟨q, G, p, S, rfl, k⟩ := h
  have c0 := k.cc.c0
  have cf := k.cc.fr 0
  have hle := k.tq.len
  have HK := hid (And.intro k (And.intro hto h1))
  have HN1 : Hid (Calls Try.prog 17 #[.pointer (some ⟨c, 0, none⟩)] (w.setCell ⟨c, 0, none⟩ (.int .i64 to)) fun e w' => NxE e (w.setCell ⟨c, 0, none⟩ (.int .i64 to)) w' S) := next17 (k.cc.set0 to) (k.tq.keep (F := G) (G := [c]) ((Touch.refl _ _).setCell (p := ⟨c, 0, none⟩) (Or.inl (by simp)) _) (fun i hi e => k.ap (by simp at e; rw [← e]; exact hi)))
  have HN2 : Hid (∀ w2 G2 R, CC w2 c q to s.last ∧ Tq w2 q G2 p R → Calls Try.prog 17 #[.pointer (some ⟨c, 0, none⟩)] w2 fun e w' => NxE e w2 w' R) := fun w2 G2 R h => next17 h.1 h.2
  have HT : Hid (∀ w2 G1 x R, Tq w2 q G1 p (x :: R) → x.at_ ≤ to → Calls Try.prog 42 #[.pointer (some ⟨q, 0, none⟩), .int .i64 to] w2 fun e w' => e = .returned (.tuple #[.int .i64 x.item, .bool true]) ∧ ∃ F', Tq w' q F' p R ∧ Touch G1 w2 w' ∧ Nf w2 G1 F') := fun w2 G1 x R h hx => take21_yes w2 q G1 p x R to h hx
  have HE : Hid (∀ wr a n x k fb i t b, GoS w wr c q G p s.last to S (.slice a n x) k fb i t b → (b = false ∨ to < t) → GoE (.returned (.slice a n x)) w wr c (c :: G) s to) := fun wr a n x k' fb i t b h hb => h.done k hto h1 hb
  have HLe := hid hle
  clear k hto h1 hle
  unfold PC
  go_enter Try.func27, Try.ntmps27
  go_wp2_with fail
  refine HN1.out.mono ?_
  rintro e w2 ⟨i, t, b, rfl, t2, hn⟩
  have H1 := hid (And.intro t2 hn)
  clear t2 hn HN1
  go_wp2
  go_loopw [5, 6, 7] (fun s5 s6 s7 wr => ∃ a k x fb ii tt bb, s5 = .slice a k x ∧ s6 = .pointer (some ⟨fb, 0, none⟩) ∧ s7 = .bool bb ∧ Hid (GoS w wr c q G p s.last to S (.slice a k x) k fb ii tt bb)) (fun v _ _ _ => S.length - lenOf v)
  case atStart => exact ⟨_, 0, _, _, i, t, b, rfl, rfl, rfl, GoS.start HK.out.1.cc HK.out.1.tq HK.out.1.ap H1.out.1 H1.out.2⟩
  case round =>
    clear H1
    obtain ⟨a, k, x, fb, ii, tt, bb, rfl, rfl, rfl, HD⟩ := hrel
    have f0 := HD.out.fc.c0
    have f1 := HD.out.fc.c1
    by_cases hgo : bb = true ∧ tt ≤ to
    · obtain ⟨rfl, hle2⟩ := hgo
      obtain ⟨y, R, hd, rfl, rfl⟩ : ∃ y R, S.drop k = y :: R ∧ ii = y.item ∧ tt = y.at_ := by
        rcases HD.out.nx with ⟨_, r⟩ | ⟨e, _⟩
        · exact r
        · cases e
      obtain ⟨G1, q1, n1⟩ := HD.out.tq
      have cr2 := HD.out.cc.c2
      have hk := (tms_snoc hd).1
      have hb := HD.out.tc.size
      have HS := hid (And.intro hd (And.intro q1 n1))
      have fG : ¬ fb ∈ G1 := q1.notin HD.out.fc (by decide) (by decide)
      have HfG := hid fG
      rw [hd] at q1
      have Q1 := hid q1
      clear hd q1 n1 fG
      have HRow : Hid (∀ wt, Touch G1 wr wt → wt.ownsRow w.heap.size 45 2 (.slice a k x) k (flatT (tms (S.take k)))) := fun wt t2 => own_touch HD.out.row t2 (fun b hb => HS.out.2.1.apart HD.out.row (by decide) (by decide) b hb)
      go_wp2_with (first
        | (at_builtin; refine wpList_append_lies _ rfl _ _ 34 rfl w.heap.size 45 i45 (.agg #[.int .i64 0, .int .i64 0]) 2 16 Try.underlying34 hi hz0 hz1 hz2 rfl (by decide) (.slice a k x) k (flatT (tms (S.take k))) rfl ((HRow.out _ H2.out.2.1).alloc _) ⟨wt.heap.size, 0, none⟩ 1 1 [.int .i64 y.item, .int .i64 y.at_] rfl rfl (cell_two_newR _ _ _ _) (by simp [Value.oneCell']) (by decide) (by have := HLe.out; unfold maxLen; omega) (by have := HLe.out; omega) (by have := H2.out.2.1.size; simp; omega) _ rfl ?_; intro g1 c1 w3 hown3 hgrow hat hlt3; have F3 : FB w3 fb y.item y.at_ := F2.out.keep (((Touch.refl (Value.slice a k x).ownBlock.toList _).alloc _).grown hgrow (fun j hj => Or.inl (by simp [hj]))) (fun e => HD.out.fa fb (by simpa using e) rfl); have f30 := F3.c0; have f31 := F3.c1)
        | (go_at_call 42; refine (HT.out _ _ _ _ Q1.out hle2).mono ?_; rintro e wt ⟨rfl, G2, q2, t2, n2⟩; have H2 := hid (And.intro q2 (And.intro t2 n2)); have F2 := hid (HD.out.fc.keep t2 HfG.out); have f20 := F2.out.c0; have f21 := F2.out.c1; clear q2 t2 n2))
      have T3 : Touch (Value.slice a k x).ownBlock.toList wt w3 := ((Touch.refl _ _).alloc _).grown hgrow (fun j hj => Or.inl (by simp [hj]))
      obtain ⟨M1, M2⟩ := HD.out.mid HS.out.1 hle2 HS.out.2.1 HS.out.2.2 H2.out.1 H2.out.2.1 H2.out.2.2 hown3 T3 (fun b hb => by simp [Value.ownBlock] at hb; omega) y.item y.at_
      have HM := hid M2
      refine (HN2.out _ _ _ M1).mono ?_
      rintro e w5 ⟨i5, t5, b5, rfl, h5, p5⟩
      obtain ⟨F5, G5⟩ := HM.out w5 i5 t5 b5 h5 p5
      have H5 := hid G5
      have g0 := F5.c0
      have g1' := F5.c1
      have gf0 := F5.fr 0
      have gf1 := F5.fr 1
      clear h5 p5 G5 F5 M1 M2 HM T3 hgrow hat hown3 F3 hlt3 H2 F2 f20 f21 f30 f31 f0 f1
      go_wp2
      go_roundw
      case rel => exact ⟨_, k + 1, _, _, i5, t5, b5, rfl, rfl, rfl, H5⟩
      case measure => simp [lenOf]; omega
    · have HX := hid (HE.out wr a k x k fb ii tt bb HD.out (by
        cases bb with
        | false => exact Or.inl rfl
        | true => exact Or.inr (by have : ¬ tt ≤ to := fun e => hgo ⟨rfl, e⟩; omega)))
      cases bb with
      | false =>
        clear hgo HD
        go_wp2
        go_ret
        exact HX.out
      | true =>
        have hgo' : to < tt := by have : ¬ tt ≤ to := fun e => hgo ⟨rfl, e⟩; omega
        clear hgo HD
        go_wp2
        go_ret
        exact HX.out
end Go.Proofs.Ytaioegefoiabhaa
