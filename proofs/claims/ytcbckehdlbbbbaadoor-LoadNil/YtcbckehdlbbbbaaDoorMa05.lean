/- The contracts of Arm as one, and of In, Stop, Left and Next of a clock. -/
import Derived.Test.YtcbckehdlbbbbaaDoorMa04
import Derived.Test.YtcbckehdlbbbbaaDoorMa03
import Derived.Test.YtcbckehdlbbbbaaDoorMa01
namespace Go.Proofs.YtcbckehdlbbbbaaDoor.Cl
open Go.RowKit Go.Maps Go.ChangeMaps
set_option linter.unusedVariables false
section
variable (w : World) (c : Nat) (F : List Nat) (s : Cs) (t : Int)
theorem arm10 (h : Ck w c F s) (hl : s.last < 4611686018427387904) : Calls Tryd.prog 67 #[PC c, .int .i64 t] w fun e w' => e = .returned (.tuple #[.int .i64 (armN s t), .int .i64 (armE s t)]) ∧ Nx w w' c F (armS s t) := by
  by_cases he : armE s t = 0
  · have hn : armN s t = s.last + 1 := by unfold armN; rw [if_pos he]
    rw [he, hn]
    exact arm10_ok w c F s t h he hl
  · have hn : armN s t = 0 := by unfold armN; rw [if_neg he]
    have hs : armS s t = s := by unfold armS; rw [if_neg he]
    rw [hn, hs]
    have R : ∀ {P : Int}, armE s t = P → (Calls Tryd.prog 67 #[PC c, .int .i64 t] w fun e w' => e = .returned (.tuple #[.int .i64 0, .int .i64 P]) ∧ w' = w) → Calls Tryd.prog 67 #[PC c, .int .i64 t] w fun e w' => e = .returned (.tuple #[.int .i64 0, .int .i64 (armE s t)]) ∧ Nx w w' c F s := fun {P} e k => by
      refine k.mono ?_
      rintro e1 w' ⟨rfl, rfl⟩
      exact ⟨by rw [e], Nx.same h (Touch.refl _ _)⟩
    by_cases h1 : isT t = false
    · exact R (by unfold armE; rw [if_pos h1]) (arm10_tick w c F s t h h1)
    · have h1' : isT t = true := by simpa using h1
      by_cases h2 : t < s.now
      · exact R (by unfold armE; rw [if_neg h1, if_pos h2]) (arm10_past w c F s t h h1' h2)
      · by_cases h3 : 65536 ≤ s.T.length
        · exact R (by unfold armE; rw [if_neg h1, if_neg h2, if_pos h3]) (arm10_many w c F s t h h1' (by omega) h3)
        · exact absurd (by unfold armE; rw [if_neg h1, if_neg h2, if_neg h3]) he
variable (d : Int)
theorem in16 (h : Ck w c F s) (hl : s.last < 4611686018427387904) (hd : W64 d) : Calls Tryd.prog 50 #[PC c, .int .i64 d] w fun e w' => e = .returned (.tuple #[.int .i64 (inN s d), .int .i64 (inE s d)]) ∧ Nx w w' c F (inS s d) := by
  have ok := h.ok
  by_cases h0 : d < 0
  · have e1 : inN s d = 0 := by unfold inN; rw [if_pos h0]
    have e2 : inE s d = 11 := by unfold inE; rw [if_pos h0]
    have e3 : inS s d = s := by unfold inS; rw [if_pos h0]
    rw [e1, e2, e3]
    have HN : Hid (Nx w w c F s) := Nx.same h (Touch.refl _ _)
    clear h e1 e2 e3 ok
    unfold PC
    go_enter Tryd.func50, Tryd.ntmps50
    go_wp2
    exact bodyPost_ret (v := .tuple #[.int .i64 0, .int .i64 11]) (by simp [results, Tryd.results50, go_sem]) rfl ⟨rfl, HN.out⟩
  · have e1 : inN s d = armN s (inT s d) := by unfold inN; rw [if_neg h0]
    have e2 : inE s d = armE s (inT s d) := by unfold inE; rw [if_neg h0]
    have e3 : inS s d = armS s (inT s d) := by unfold inS; rw [if_neg h0]
    rw [e1, e2, e3]
    have HA := hid (arm10 w c F s (inT s d) h hl)
    have HF := hid (after26 s.now d w ok.n0 ok.n1 (by omega) hd.hi)
    rw [show (if 4611686018427387904 - s.now < d then 4611686018427387904 else s.now + d) = inT s d from rfl] at HF
    obtain ⟨q, G, p, S, rfl, k⟩ := h
    have c0 := k.cc.c0
    clear k e1 e2 e3 ok hd hl
    generalize armS s (inT s d) = s1 at *
    generalize armN s (inT s d) = n1 at *
    generalize armE s (inT s d) = m1 at *
    generalize inT s d = t at *
    generalize decide (d ≤ 4611686018427387904 - s.now) = b at *
    generalize s.now = n at *
    unfold PC at *
    go_enter Tryd.func50, Tryd.ntmps50
    go_wp2_with (first | (go_at_call 66; refine HF.out.mono ?_; rintro e w2 ⟨rfl, rfl⟩) | (go_at_call 67; refine HA.out.mono ?_; rintro e w3 ⟨rfl, r⟩; have R := hid r; clear r))
    exact bodyPost_ret (v := .tuple #[.int .i64 n1, .int .i64 m1]) (by simp [results, Tryd.results50, go_sem]) rfl ⟨rfl, R.out⟩
variable (m : Int)
theorem tms_nil {S : List Slot} (h : tms S = []) : S = [] := by
  cases S with
  | nil => rfl
  | cons x S => simp [tms] at h
theorem tms_cons {S : List Slot} {x : Tm} {l : List Tm} (h : tms S = x :: l) : ∃ y R, S = y :: R ∧ x = tmOf y ∧ l = tms R := by
  cases S with
  | nil => simp [tms] at h
  | cons y S =>
    simp only [tms, List.map_cons, List.cons.injEq] at h
    exact ⟨y, S, rfl, h.1.symm, h.2.symm⟩
theorem next17_nil0 {q : Nat} {G : List Nat} {p now last : Int} (hc : CC w c q now last) (hq : Tq w q G p []) : Calls Tryd.prog 38 #[PC c] w fun e w' => e = .returned (.tuple #[.agg #[.int .i64 0, .int .i64 0], .bool false]) ∧ Touch [] w w' := by
  have c2 := hc.c2
  have HD : Hid (∀ w1, Touch [] w w1 → Calls Tryd.prog 54 #[.pointer (some ⟨q, 0, none⟩)] w1 fun e w' => e = .returned (.tuple #[.int .i64 0, .int .i64 0, .bool false]) ∧ w' = w1) := fun w1 t1 => next27_nil w1 q G p (hq.keep0 t1)
  have hb : c < w.heap.size := block_lt hc
  clear hc hq
  unfold PC
  go_enter Tryd.func38, Tryd.ntmps38
  go_wp2_with (go_at_call 54; refine (HD.out _ ((Touch.refl _ _).alloc _)).mono ?_; rintro e w3 ⟨rfl, rfl⟩)
  exact bodyPost_ret (v := .tuple #[.agg #[.int .i64 0, .int .i64 0], .bool false]) (by simp [results, Tryd.results38, go_sem]) rfl ⟨rfl, (Touch.refl _ _).alloc _⟩
theorem next17_cons0 {q : Nat} {G : List Nat} {p now last : Int} {y : Slot} {R : List Slot} (hc : CC w c q now last) (hq : Tq w q G p (y :: R)) : Calls Tryd.prog 38 #[PC c] w fun e w' => e = .returned (.tuple #[.agg #[.int .i64 y.item, .int .i64 y.at_], .bool true]) ∧ Touch [] w w' := by
  have c2 := hc.c2
  have HD : Hid (∀ w1, Touch [] w w1 → Calls Tryd.prog 54 #[.pointer (some ⟨q, 0, none⟩)] w1 fun e w' => e = .returned (.tuple #[.int .i64 y.at_, .int .i64 y.item, .bool true]) ∧ Touch [] w1 w') := fun w1 t1 => next27_cons w1 q G p y R (hq.keep0 t1)
  have hb : c < w.heap.size := block_lt hc
  clear hc hq
  generalize y.at_ = u at *
  generalize y.item = v at *
  unfold PC
  go_enter Tryd.func38, Tryd.ntmps38
  go_wp2_with (go_at_call 54; refine (HD.out _ ((Touch.refl _ _).alloc _)).mono ?_; rintro e w3 ⟨rfl, t3⟩; have B3 := hid (t3.keep (heap_alloc_new w _) (by simp)); have T3 := hid t3; clear t3; have b0 : w3.cell? ⟨w.heap.size, 0, none⟩ = some (.int .i64 0) := (by simp [World.cell?, B3.out]); have b1 : w3.cell? ⟨w.heap.size, 1, none⟩ = some (.int .i64 0) := (by simp [World.cell?, B3.out]); have bf0 : w3.frozen? ⟨w.heap.size, 0, none⟩ = false := (by simp [World.frozen?, B3.out]); have bf1 : w3.frozen? ⟨w.heap.size, 1, none⟩ = false := (by simp [World.frozen?, B3.out]))
  exact bodyPost_ret (v := .tuple #[.agg #[.int .i64 v, .int .i64 u], .bool true]) (by simp [results, Tryd.results38, go_sem, b0, b1]) rfl ⟨rfl, ((((Touch.refl _ _).alloc _).trans' T3.out).setCell (Or.inr (Nat.le_refl _)) _).setCell (Or.inr (Nat.le_refl _)) _⟩
theorem next17_nil (h : Ck w c F s) (hT : s.T = []) : Calls Tryd.prog 38 #[PC c] w fun e w' => e = .returned (.tuple #[.agg #[.int .i64 0, .int .i64 0], .bool false]) ∧ Touch [] w w' := by
  obtain ⟨q, G, p, S, rfl, k⟩ := h
  have hS : S = [] := tms_nil (by rw [← k.eq]; exact hT)
  subst hS
  exact next17_nil0 w c k.cc k.tq
theorem next17_cons (h : Ck w c F s) {x : Tm} {l : List Tm} (hT : s.T = x :: l) : Calls Tryd.prog 38 #[PC c] w fun e w' => e = .returned (.tuple #[.agg #[.int .i64 x.it, .int .i64 x.at_], .bool true]) ∧ Touch [] w w' := by
  obtain ⟨q, G, p, S, rfl, k⟩ := h
  obtain ⟨y, R, rfl, rfl, rfl⟩ := tms_cons (by rw [← k.eq]; exact hT)
  exact next17_cons0 w c k.cc k.tq
end
end Go.Proofs.YtcbckehdlbbbbaaDoor.Cl
/- The contract of goTo: the clock stands at a tick, and what is due rings. -/
namespace Go.Proofs.YtcbckehdlbbbbaaDoor.Cl
open Go.RowKit Go.Maps Go.ChangeMaps
set_option linter.unusedVariables false
theorem info45 : (Tryd.prog.info? 105).map (fun i => (i.zero, i.size, i.bytes)) = some (some (.agg #[.int .i64 0, .int .i64 0]), 2, 16) := by kernel_rfl
theorem cell_two_newR (w : World) (x y : Value) (t : TypeId) : ∀ j u, [x, y][j]? = some u → (w.alloc (.cells #[x, y] t)).cell? ((⟨w.heap.size, 0, none⟩ : Addr).add j) = some u := by
  intro j u hj
  match j, hj with
  | 0, hj => simp at hj; subst hj; simp [Addr.add]
  | 1, hj => simp at hj; subst hj; simp [Addr.add]
/-- A ring that lies in a block of its own. -/
def FB (w : World) (b : Nat) (i t : Int) : Prop := w.heap[b]? = some (.cells #[.int .i64 i, .int .i64 t] 105 (0, 0))
section
variable {w w' : World} {b : Nat} {i t : Int}
theorem FB.c0 (h : FB w b i t) : w.cell? ⟨b, 0, none⟩ = some (.int .i64 i) := by unfold FB at h; simp [World.cell?, h]
theorem FB.c1 (h : FB w b i t) : w.cell? ⟨b, 1, none⟩ = some (.int .i64 t) := by unfold FB at h; simp [World.cell?, h]
theorem FB.fr (h : FB w b i t) (j : Nat) : w.frozen? ⟨b, j, none⟩ = false := by unfold FB at h; simp [World.frozen?, h]
theorem FB.set (h : FB w b i t) (i' t' : Int) : FB ((w.setCell ⟨b, 0, none⟩ (.int .i64 i')).setCell ⟨b, 1, none⟩ (.int .i64 t')) b i' t' := by
  have h1 : FB (w.setCell ⟨b, 0, none⟩ (.int .i64 i')) b i' t := Joins.block_setCell h _
  exact Joins.block_setCell h1 _
theorem FB.keep {F : List Nat} (h : FB w b i t) (ht : Touch F w w') (hn : ¬ b ∈ F) : FB w' b i t := ht.keep h hn
theorem FB.new (w : World) (i t : Int) : FB (w.alloc (.cells #[.int .i64 i, .int .i64 t] 105)) w.heap.size i t := heap_alloc_new _ _
end
theorem Tq.notin {w : World} {q : Nat} {F : List Nat} {p : Int} {S : List Slot} (h : Tq w q F p S) {b e : Nat} {cs : Array Value} {z : Nat × Nat} (hb : w.heap[b]? = some (.cells cs e z)) (e1 : e ≠ 120) (e2 : e ≠ 152) : ¬ b ∈ F := by
  obtain ⟨sl, m, rfl, ⟨s, h1, _⟩, _⟩ := h
  intro hF
  simp [fq] at hF
  rcases hF with rfl | hF | hF
  · have := h1.hc
    unfold HC at this
    rw [hb] at this
    simp at this
    exact e1 this.2.1
  · obtain ⟨_, h3 | ⟨g', cap', cur', rfl, hg', hcc', r'⟩⟩ := h1.row
    · rw [h3.1] at hF; cases hF
    · simp [Value.ownBlock] at hF
      subst hF
      rw [hb] at hcc'
      simp at hcc'
      exact e2 hcc'.2.1
  · rcases h1.mp with ⟨rfl, _⟩ | ⟨b', rfl, hm⟩
    · cases hF
    · cases hF
      obtain ⟨D, ⟨es, cl, hb', _⟩, _⟩ := hm
      rw [hb'] at hb
      simp at hb
theorem own_ne {w : World} {base e k n : Nat} {v : Value} {xs : List Value} (h : w.ownsRow base e k v n xs) {b e' : Nat} {cs : Array Value} {z : Nat × Nat} (hb : w.heap[b]? = some (.cells cs e' z)) (he : e ≠ e') : ∀ g, v.ownBlock = some g → g ≠ b := by
  intro g hg eg
  obtain ⟨_, h2 | ⟨g', cap, cur, rfl, hg', hcc, r⟩⟩ := h
  · rw [h2.1] at hg; cases hg
  · simp [Value.ownBlock] at hg
    subst hg eg
    rw [hb] at hcc
    simp at hcc
    exact he hcc.2.1.symm
/-- What Next tells of a queue that stands as R. -/
def NxP (i t : Int) (b : Bool) (R : List Slot) : Prop := (b = true ∧ ∃ x R', R = x :: R' ∧ i = x.item ∧ t = x.at_) ∨ (b = false ∧ R = [])
def NxE (e : Ending) (w w' : World) (R : List Slot) : Prop := ∃ i t b, e = .returned (.tuple #[.agg #[.int .i64 i, .int .i64 t], .bool b]) ∧ Touch [] w w' ∧ NxP i t b R
theorem next17 {w : World} {c q : Nat} {G : List Nat} {p now last : Int} {R : List Slot} (hc : CC w c q now last) (hq : Tq w q G p R) : Calls Tryd.prog 38 #[.pointer (some ⟨c, 0, none⟩)] w fun e w' => NxE e w w' R := by
  cases R with
  | nil =>
    refine (next17_nil0 w c hc hq).mono ?_
    rintro e w' ⟨rfl, ht⟩
    exact ⟨0, 0, false, rfl, ht, Or.inr ⟨rfl, rfl⟩⟩
  | cons y R =>
    refine (next17_cons0 w c hc hq).mono ?_
    rintro e w' ⟨rfl, ht⟩
    exact ⟨y.item, y.at_, true, rfl, ht, Or.inl ⟨rfl, y, R, rfl, rfl, rfl⟩⟩
/-- How goTo stands ahead of a round: k have rung. -/
structure GoS (w wr : World) (c q : Nat) (G : List Nat) (p last to : Int) (S : List Slot) (v : Value) (k fb : Nat) (i t : Int) (b : Bool) : Prop where
  hk : k ≤ S.length
  row : wr.ownsRow w.heap.size 105 2 v k (flatT (tms (S.take k)))
  all : ∀ j, j < k → (gt S j).at_ ≤ to
  tc : Touch (c :: G) w wr
  cc : CC wr c q to last
  tq : ∃ G', Tq wr q G' p (S.drop k) ∧ Nf w G G'
  fc : FB wr fb i t
  fn : w.heap.size ≤ fb
  fa : ∀ b, v.ownBlock = some b → b ≠ fb
  nx : NxP i t b (S.drop k)
theorem GoS.start {w w2 : World} {c q : Nat} {G : List Nat} {p last to now : Int} {S : List Slot} {i t : Int} {b : Bool} (hc : CC w c q now last) (hq : Tq w q G p S) (ha : ¬ c ∈ G) (ht : Touch [] (w.setCell ⟨c, 0, none⟩ (.int .i64 to)) w2) (hn : NxP i t b S) :
    GoS w (w2.alloc (.cells #[.int .i64 i, .int .i64 t] 105)) c q G p last to S (.slice none 0 0) 0 w2.heap.size i t b := by
  have T1 : Touch [c] w (w.setCell ⟨c, 0, none⟩ (.int .i64 to)) := (Touch.refl _ _).setCell (p := ⟨c, 0, none⟩) (Or.inl (by simp)) _
  have T2 : Touch [c] w (w2.alloc (.cells #[.int .i64 i, .int .i64 t] 105)) := (T1.trans' (ht.mono (fun _ e => by cases e))).alloc _
  have T3 : Touch [] (w.setCell ⟨c, 0, none⟩ (.int .i64 to)) (w2.alloc (.cells #[.int .i64 i, .int .i64 t] 105)) := ht.alloc _
  refine ⟨Nat.zero_le _, World.ownsRow_nil _ _ _ _, fun j hj => by omega, T2.mono (fun k hk => by simp at hk; simp [hk]), (hc.set0 to).keep T3 (by simp), ⟨G, ?_, Nf.refl _ _⟩, FB.new _ _ _, ?_, fun b hb => (by cases hb), by simpa using hn⟩
  · exact hq.keep T2 (fun k hk e => ha (by simp at e; rw [← e]; exact hk))
  · exact Nat.le_trans T1.size ht.size
theorem tms_snoc {S : List Slot} {k : Nat} {x : Slot} {R : List Slot} (h : S.drop k = x :: R) : k < S.length ∧ flatT (tms (S.take (k + 1))) = flatT (tms (S.take k)) ++ [.int .i64 x.item, .int .i64 x.at_] ∧ S.drop (k + 1) = R ∧ gt S k = x := by
  have hk : k < S.length := by
    rcases Nat.lt_or_ge k S.length with h' | h'
    · exact h'
    · rw [List.drop_of_length_le h'] at h; cases h
  have e := List.drop_eq_getElem_cons hk
  rw [h] at e
  simp only [List.cons.injEq] at e
  refine ⟨hk, ?_, e.2.symm, by rw [gt_eq hk]; exact e.1.symm⟩
  unfold tms
  rw [List.take_succ_eq_append_getElem hk, List.map_append, ← e.1, flatT_app]
  rfl
/-- Behind Take and the append, ahead of the next Next. -/
theorem GoS.mid {w wr w2 w3 : World} {c q : Nat} {G G2 : List Nat} {p last to : Int} {S : List Slot} {v v2 : Value} {k fb : Nat} {i t : Int} {x : Slot} {R : List Slot} {G1 : List Nat} (h : GoS w wr c q G p last to S v k fb i t true) (hd : S.drop k = x :: R) (hx : x.at_ ≤ to)
    (h1 : Tq wr q G1 p (S.drop k)) (n1 : Nf w G G1) (h2 : Tq w2 q G2 p R) (t2 : Touch G1 wr w2) (n2 : Nf wr G1 G2)
    (hr : w3.ownsRow w.heap.size 105 2 v2 (k + 1) (flatT (tms (S.take k)) ++ [.int .i64 x.item, .int .i64 x.at_])) (t3 : Touch v.ownBlock.toList w2 w3) (hlt : ∀ b, v2.ownBlock = some b → b < w3.heap.size) (i' t' : Int) :
    (CC (w3.alloc (.cells #[.int .i64 i', .int .i64 t'] 105)) c q to last ∧ Tq (w3.alloc (.cells #[.int .i64 i', .int .i64 t'] 105)) q G2 p R) ∧ ∀ w5 i5 t5 b5, Touch [] (w3.alloc (.cells #[.int .i64 i', .int .i64 t'] 105)) w5 → NxP i5 t5 b5 R →
      FB w5 w3.heap.size i' t' ∧ GoS w ((w5.setCell ⟨w3.heap.size, 0, none⟩ (.int .i64 i5)).setCell ⟨w3.heap.size, 1, none⟩ (.int .i64 t5)) c q G p last to S v2 (k + 1) w3.heap.size i5 t5 b5 := by
  obtain ⟨hk, e1, e2, e3⟩ := tms_snoc hd
  have c1 : ¬ c ∈ G1 := h1.notin h.cc (by decide) (by decide)
  have cc2 := h.cc.keep t2 c1
  have r2 : w2.ownsRow w.heap.size 105 2 v k (flatT (tms (S.take k))) := own_touch h.row t2 (fun b hb => h1.apart h.row (by decide) (by decide) b hb)
  have cc3 : CC w3 c q to last := cc2.keep t3 (fun e => own_ne r2 cc2 (by decide) c (by simpa using e) rfl)
  have q3 : Tq w3 q G2 p R := h2.keep t3 (fun i hi e => h2.apart r2 (by decide) (by decide) i (by simpa using e) hi)
  have T4 : Touch [] w3 (w3.alloc (.cells #[.int .i64 i', .int .i64 t'] 105)) := (Touch.refl _ _).alloc _
  have W3 : Touch (c :: G) w w3 := (h.tc.trans t2 (fun i hi => by
    rcases n1 i hi with e | e
    · exact Or.inl (List.mem_cons_of_mem _ e)
    · exact Or.inr e)).trans t3 (fun i hi => Or.inr (h.row.lt i (by simpa using hi)).1)
  refine ⟨⟨cc3.keep T4 (by simp), q3.keep0 T4⟩, fun w5 i5 t5 b5 t5' hn => ?_⟩
  have F5 : FB w5 w3.heap.size i' t' := (FB.new w3 i' t').keep t5' (by simp)
  have T5 : Touch [] w3 w5 := T4.trans' t5'
  have T6 : Touch [w3.heap.size] w5 ((w5.setCell ⟨w3.heap.size, 0, none⟩ (.int .i64 i5)).setCell ⟨w3.heap.size, 1, none⟩ (.int .i64 t5)) := ((Touch.refl _ _).setCell (p := ⟨w3.heap.size, 0, none⟩) (Or.inl (by simp)) _).setCell (p := ⟨w3.heap.size, 1, none⟩) (Or.inl (by simp)) _
  have cl := block_lt cc3
  refine ⟨F5, ⟨hk, ?_, fun a ha => ?_, (W3.trans' (T5.mono (fun _ e => by cases e))).trans T6 (fun i hi => Or.inr (by simp at hi; have := W3.size; omega)), (cc3.keep T5 (by simp)).keep T6 (by simp; omega), ⟨G2, ?_, n1.trans n2 h.tc.size⟩, F5.set _ _, W3.size, fun b hb e => by have := hlt b hb; omega, by rw [e2]; exact hn⟩⟩
  · rw [e1]
    exact own_touch (own_touch hr T5 (fun _ _ e => by cases e)) T6 (fun b hb e => by have := hlt b hb; simp at e; omega)
  · by_cases ea : a = k
    · rw [ea, e3]; exact hx
    · exact h.all a (by omega)
  · rw [e2]
    exact (q3.keep0 T5).keep T6 (fun i hi e => by have := q3.lt i hi; simp at e; omega)
theorem tmsDue {S : List Slot} {to : Int} {k : Nat} (hk : k ≤ S.length) (ha : ∀ j, j < k → (gt S j).at_ ≤ to) (he : S.drop k = [] ∨ ∃ x R, S.drop k = x :: R ∧ to < x.at_) : dueT (tms S) to = k := by
  refine dueT_of (by rw [tms_len]; exact hk) (fun j hj => by rw [gtT_tms (by omega)]; exact ha j hj) ?_
  rcases he with e | ⟨x, R, e, hx⟩
  · left
    have := List.drop_eq_nil_iff.1 e
    rw [tms_len]
    omega
  · right
    obtain ⟨h1, _, _, h4⟩ := tms_snoc e
    rw [gtT_tms h1, h4]
    exact hx
def GoE (e : Ending) (w w' : World) (c : Nat) (F : List Nat) (s : Cs) (to : Int) : Prop := ∃ a n x, e = .returned (.slice a n x) ∧ RR 105 w' w.heap.size (.slice a n x) (goR s to) ∧ Nx w w' c F (goS s to)
theorem GoS.done {w wr : World} {c q : Nat} {G : List Nat} {p to : Int} {S : List Slot} {a : Option Addr} {n x : Nat} {k fb : Nat} {i t : Int} {b : Bool} {s : Cs} (h0 : CkS w c q G p S s) (hto : s.now ≤ to) (h1 : to ≤ 4611686018427387904) (h : GoS w wr c q G p s.last to S (.slice a n x) k fb i t b) (hb : b = false ∨ to < t) :
    GoE (.returned (.slice a n x)) w wr c (c :: G) s to := by
  have hd : dueT s.T to = k := by
    rw [h0.eq]
    refine tmsDue h.hk h.all ?_
    rcases h.nx with ⟨r1, y, R, r2, r3, r4⟩ | ⟨r1, r2⟩
    · right
      refine ⟨y, R, r2, ?_⟩
      rcases hb with e | e
      · rw [r1] at e; cases e
      · omega
    · exact Or.inl r2
  obtain ⟨G', q1, n1⟩ := h.tq
  refine ⟨a, n, x, rfl, ?_, c :: G', ⟨q, G', p, S.drop k, rfl, h.cc, q1, q1.notin h.cc (by decide) (by decide), h0.pl, ?_, h0.ok.go hto h1⟩, h.tc, fun j hj => ?_⟩
  · unfold RR goR
    rw [hd, h0.eq]
    have e1 : (tms S).take k = tms (S.take k) := by unfold tms; rw [List.map_take]
    rw [e1, tms_len, List.length_take, Nat.min_eq_left h.hk]
    exact h.row
  · show s.T.drop (dueT s.T to) = _
    rw [hd, h0.eq]
    unfold tms
    rw [List.map_drop]
  · rcases List.mem_cons.1 hj with rfl | hj
    · exact Or.inl List.mem_cons_self
    · rcases n1 j hj with e | e
      · exact Or.inl (List.mem_cons_of_mem _ e)
      · exact Or.inr e
set_option maxHeartbeats 2000000 in
set_option maxRecDepth 100000 in
theorem goTo27 (w : World) (c : Nat) (F : List Nat) (s : Cs) (to : Int) (h : Ck w c F s) (hto : s.now ≤ to) (h1 : to ≤ 4611686018427387904) :
    Calls Tryd.prog 39 #[PC c, .int .i64 to] w fun e w' => GoE e w w' c F s to := by
  obtain ⟨i45, hi, hz0, hz1, hz2⟩ := info_parts info45
  obtain ⟨q, G, p, S, rfl, k⟩ := h
  have c0 := k.cc.c0
  have cf := k.cc.fr 0
  have hle := k.tq.len
  have HK := hid (And.intro k (And.intro hto h1))
  have HN1 : Hid (Calls Tryd.prog 38 #[.pointer (some ⟨c, 0, none⟩)] (w.setCell ⟨c, 0, none⟩ (.int .i64 to)) fun e w' => NxE e (w.setCell ⟨c, 0, none⟩ (.int .i64 to)) w' S) := next17 (k.cc.set0 to) (k.tq.keep (F := G) (G := [c]) ((Touch.refl _ _).setCell (p := ⟨c, 0, none⟩) (Or.inl (by simp)) _) (fun i hi e => k.ap (by simp at e; rw [← e]; exact hi)))
  have HN2 : Hid (∀ w2 G2 R, CC w2 c q to s.last ∧ Tq w2 q G2 p R → Calls Tryd.prog 38 #[.pointer (some ⟨c, 0, none⟩)] w2 fun e w' => NxE e w2 w' R) := fun w2 G2 R h => next17 h.1 h.2
  have HT : Hid (∀ w2 G1 x R, Tq w2 q G1 p (x :: R) → x.at_ ≤ to → Calls Tryd.prog 55 #[.pointer (some ⟨q, 0, none⟩), .int .i64 to] w2 fun e w' => e = .returned (.tuple #[.int .i64 x.item, .bool true]) ∧ ∃ F', Tq w' q F' p R ∧ Touch G1 w2 w' ∧ Nf w2 G1 F') := fun w2 G1 x R h hx => take21_yes w2 q G1 p x R to h hx
  have HE : Hid (∀ wr a n x k fb i t b, GoS w wr c q G p s.last to S (.slice a n x) k fb i t b → (b = false ∨ to < t) → GoE (.returned (.slice a n x)) w wr c (c :: G) s to) := fun wr a n x k' fb i t b h hb => h.done k hto h1 hb
  have HLe := hid hle
  clear k hto h1 hle
  unfold PC
  go_enter Tryd.func39, Tryd.ntmps39
  go_wp2_with fail
  refine HN1.out.mono ?_
  rintro e w2 ⟨i, t, b, rfl, t2, hn⟩
  have H1 := hid (And.intro t2 hn)
  clear t2 hn HN1
  go_wp2
  go_loopw [5, 6, 7] (fun s5 s6 s7 wr => ∃ a k x fb ii tt bb, s5 = .slice a k x ∧ s6 = .pointer (some ⟨fb, 0, none⟩) ∧ s7 = .bool bb ∧ Hid (GoS w wr c q G p s.last to S (.slice a k x) k fb ii tt bb)) (fun v _ _ _ => S.length - lenOf v)
  case atStart => exact ⟨_, 0, _, _, i, t, b, rfl, rfl, rfl, GoS.start HK.out.1.cc HK.out.1.tq HK.out.1.ap H1.out.1 H1.out.2⟩
  case round =>
    clear H1
    obtain ⟨a, k, x, fb, ii, tt, bb, rfl, rfl, rfl, HD⟩ := hrel
    have f0 := HD.out.fc.c0
    have f1 := HD.out.fc.c1
    by_cases hgo : bb = true ∧ tt ≤ to
    · obtain ⟨rfl, hle2⟩ := hgo
      obtain ⟨y, R, hd, rfl, rfl⟩ : ∃ y R, S.drop k = y :: R ∧ ii = y.item ∧ tt = y.at_ := by
        rcases HD.out.nx with ⟨_, r⟩ | ⟨e, _⟩
        · exact r
        · cases e
      obtain ⟨G1, q1, n1⟩ := HD.out.tq
      have cr2 := HD.out.cc.c2
      have hk := (tms_snoc hd).1
      have hb := HD.out.tc.size
      have HS := hid (And.intro hd (And.intro q1 n1))
      have fG : ¬ fb ∈ G1 := q1.notin HD.out.fc (by decide) (by decide)
      have HfG := hid fG
      rw [hd] at q1
      have Q1 := hid q1
      clear hd q1 n1 fG
      have HRow : Hid (∀ wt, Touch G1 wr wt → wt.ownsRow w.heap.size 105 2 (.slice a k x) k (flatT (tms (S.take k)))) := fun wt t2 => own_touch HD.out.row t2 (fun b hb => HS.out.2.1.apart HD.out.row (by decide) (by decide) b hb)
      go_wp2_with (first
        | (at_builtin; refine wpList_append_lies _ rfl _ _ 65 rfl w.heap.size 105 i45 (.agg #[.int .i64 0, .int .i64 0]) 2 16 Tryd.underlying65 hi hz0 hz1 hz2 rfl (by decide) (.slice a k x) k (flatT (tms (S.take k))) rfl ((HRow.out _ H2.out.2.1).alloc _) ⟨wt.heap.size, 0, none⟩ 1 1 [.int .i64 y.item, .int .i64 y.at_] rfl rfl (cell_two_newR _ _ _ _) (by simp [Value.oneCell']) (by decide) (by have := HLe.out; unfold maxLen; omega) (by have := HLe.out; omega) (by have := H2.out.2.1.size; simp; omega) _ rfl ?_; intro g1 c1 w3 hown3 hgrow hat hlt3; have F3 : FB w3 fb y.item y.at_ := F2.out.keep (((Touch.refl (Value.slice a k x).ownBlock.toList _).alloc _).grown hgrow (fun j hj => Or.inl (by simp [hj]))) (fun e => HD.out.fa fb (by simpa using e) rfl); have f30 := F3.c0; have f31 := F3.c1)
        | (go_at_call 55; refine (HT.out _ _ _ _ Q1.out hle2).mono ?_; rintro e wt ⟨rfl, G2, q2, t2, n2⟩; have H2 := hid (And.intro q2 (And.intro t2 n2)); have F2 := hid (HD.out.fc.keep t2 HfG.out); have f20 := F2.out.c0; have f21 := F2.out.c1; clear q2 t2 n2))
      have T3 : Touch (Value.slice a k x).ownBlock.toList wt w3 := ((Touch.refl _ _).alloc _).grown hgrow (fun j hj => Or.inl (by simp [hj]))
      obtain ⟨M1, M2⟩ := HD.out.mid HS.out.1 hle2 HS.out.2.1 HS.out.2.2 H2.out.1 H2.out.2.1 H2.out.2.2 hown3 T3 (fun b hb => by simp [Value.ownBlock] at hb; omega) y.item y.at_
      have HM := hid M2
      refine (HN2.out _ _ _ M1).mono ?_
      rintro e w5 ⟨i5, t5, b5, rfl, h5, p5⟩
      obtain ⟨F5, G5⟩ := HM.out w5 i5 t5 b5 h5 p5
      have H5 := hid G5
      have g0 := F5.c0
      have g1' := F5.c1
      have gf0 := F5.fr 0
      have gf1 := F5.fr 1
      clear h5 p5 G5 F5 M1 M2 HM T3 hgrow hat hown3 F3 hlt3 H2 F2 f20 f21 f30 f31 f0 f1
      go_wp2
      go_roundw
      case rel => exact ⟨_, k + 1, _, _, i5, t5, b5, rfl, rfl, rfl, H5⟩
      case measure => simp [lenOf]; omega
    · have HX := hid (HE.out wr a k x k fb ii tt bb HD.out (by
        cases bb with
        | false => exact Or.inl rfl
        | true => exact Or.inr (by have : ¬ tt ≤ to := fun e => hgo ⟨rfl, e⟩; omega)))
      cases bb with
      | false =>
        clear hgo HD
        go_wp2
        go_ret
        exact HX.out
      | true =>
        have hgo' : to < tt := by have : ¬ tt ≤ to := fun e => hgo ⟨rfl, e⟩; omega
        clear hgo HD
        go_wp2
        go_ret
        exact HX.out
end Go.Proofs.YtcbckehdlbbbbaaDoor.Cl
/- The contracts of Advance and Leap of a clock. -/
namespace Go.Proofs.YtcbckehdlbbbbaaDoor.Cl
open Go.RowKit Go.Maps Go.ChangeMaps
set_option linter.unusedVariables false
/-- A row of rings and a word beside it, and how the clock stands. -/
def AdE (e : Ending) (w w' : World) (c : Nat) (F : List Nat) (s : Cs) (R : List Tm) (x : Value) : Prop := ∃ a n m, e = .returned (.tuple #[.slice a n m, x]) ∧ RR 105 w' w.heap.size (.slice a n m) R ∧ Nx w w' c F s
section
variable (w : World) (c : Nat) (F : List Nat) (s : Cs) (d : Int)
theorem leap18 (h : Ck w c F s) : Calls Tryd.prog 22 #[PC c] w fun e w' => AdE e w w' c F (leapS s) (leapR s) (.bool (decide (s.T ≠ []))) := by
  have ok := h.ok
  cases hT : s.T with
  | nil =>
    have e2 : leapS s = s := by unfold leapS; rw [hT]
    have e3 : leapR s = [] := by unfold leapR; rw [hT]
    rw [e2, e3, decide_eq_false (fun e => e rfl)]
    have HX := hid (next17_nil w c F s h hT)
    have HN : Hid (∀ w', Touch [] w w' → AdE (.returned (.tuple #[.slice none 0 0, .bool false])) w w' c F s [] (.bool false)) := fun w' t => ⟨none, 0, 0, rfl, RR.nil _ _ _, Nx.same h t⟩
    clear h e2 e3 ok hT
    unfold PC at *
    go_enter Tryd.func22, Tryd.ntmps22
    go_wp2_with (go_at_call 38; refine HX.out.mono ?_; rintro e w2 ⟨rfl, t2⟩)
    exact bodyPost_ret (v := .tuple #[.slice none 0 0, .bool false]) (by simp [results, Tryd.results22, go_sem]) rfl (HN.out _ (t2.alloc _))
  | cons x l =>
    have e2 : leapS s = goS s x.at_ := by unfold leapS; rw [hT]
    have e3 : leapR s = goR s x.at_ := by unfold leapR; rw [hT]
    rw [e2, e3, decide_eq_true (show x :: l ≠ [] by simp)]
    have hx : x ∈ s.T := by rw [hT]; exact List.mem_cons_self
    have HX := hid (next17_cons w c F s h hT)
    have HG : Hid (∀ w1, Touch [] w w1 → Calls Tryd.prog 39 #[.pointer (some ⟨c, 0, none⟩), .int .i64 x.at_] w1 fun e w' => GoE e w w' c F s x.at_) := fun w1 t1 => by
      refine (goTo27 w1 c F s x.at_ (h.keep0 t1) (ok.at0 x hx) (ok.at1 x hx)).mono ?_
      rintro e w' ⟨a, n, m, r1, r2, r3⟩
      exact ⟨a, n, m, r1, r2.base t1.size, r3.pre t1⟩
    clear h e2 e3 ok hT hx
    unfold PC at *
    generalize x.at_ = u at *
    generalize x.it = v at *
    go_enter Tryd.func22, Tryd.ntmps22
    go_wp2_with (first | (go_at_call 38; refine HX.out.mono ?_; rintro e w2 ⟨rfl, t2⟩) | (go_at_call 39; refine (HG.out _ (t2.alloc _)).mono ?_; rintro e w3 ⟨a, n3, m, rfl, r1, r2⟩; have R := hid (And.intro r1 r2); clear r1 r2))
    exact bodyPost_ret (v := .tuple #[.slice a n3 m, .bool true]) (by simp [results, Tryd.results22, go_sem]) rfl ⟨a, n3, m, rfl, R.out.1, R.out.2⟩
end
end Go.Proofs.YtcbckehdlbbbbaaDoor.Cl
/- A load's recipe goes on: the program's goOn, by what its next state waits for; the conditions are those that each states. -/
namespace Go.Proofs.YtcbckehdlbbbbaaDoor
open Go.RowKit Go.Maps Go.ChangeMaps
set_option linter.unusedVariables false
set_option linter.unusedSimpArgs false
section
variable {w : World} {b r : Nat} {S : Ld} {vr vl : Value}
/-- a load's state is laid -/
def wrS (w : World) (b : Nat) (q : Nat) (m wt on tm : Int) : World := ((((w.setCell ⟨b, 3, none⟩ (.int .i64 q)).setCell ⟨b, 4, none⟩ (.int .i64 m)).setCell ⟨b, 5, none⟩ (.int .i64 wt)).setCell ⟨b, 6, none⟩ (.int .i64 on)).setCell ⟨b, 7, none⟩ (.int .i64 tm)
theorem touch_wrS (w : World) (b q : Nat) (m wt on tm : Int) : Touch [b] w (wrS w b q m wt on tm) := by
  unfold wrS
  exact (((((Touch.refl _ _).setCell (Or.inl (by simp)) _).setCell (Or.inl (by simp)) _).setCell (Or.inl (by simp)) _).setCell (Or.inl (by simp)) _).setCell (Or.inl (by simp)) _
theorem Lq.state (h : Lq w b r S vr vl) (q : Nat) (m wt on tm : Int) : Lq (wrS w b q m wt on tm) b r (goS S q m wt on tm) vr vl := by
  have T := touch_wrS w b q m wt on tm
  refine ⟨?_, own_touch h.row T (fun q hq e' => ?_), h.vr, h.lf.keep T (fun k hk => Or.inr (by simp only [List.mem_singleton] at hk; omega)), h.rb⟩
  · have := bset (i := 7) (bset (i := 6) (bset (i := 5) (bset (i := 4) (bset (i := 3) h.bl (.int .i64 q)) (.int .i64 m)) (.int .i64 wt)) (.int .i64 on)) (.int .i64 tm)
    simpa [lc, goS, wrS] using this
  · obtain ⟨c, e⟩ := h.vr
    rw [e] at hq
    simp only [Value.ownBlock, Option.some.injEq] at hq
    subst hq
    have := h.rb
    simp at e'
    omega
/-- the boxes of goOn -/
structure Gb (w V : World) (q : Nat) (m wt on a0 run a2 a3 : Int) : Prop where
  z : w.heap.size + 1 + 1 < V.heap.size
  b0 : V.heap[w.heap.size]? = some (.cells #[.int .i64 q, .int .i64 m, .int .i64 wt, .int .i64 on] 76 (0, 0))
  b1 : V.heap[w.heap.size + 1]? = some (.cells #[.int .i64 0, .int .i64 0, .int .i64 0, .int .i64 0] 43 (0, 0))
  b2 : V.heap[w.heap.size + 1 + 1]? = some (.cells #[.int .i64 a0, .int .i64 run, .int .i64 a2, .int .i64 a3] 43 (0, 0))
theorem gb_start (w : World) (q : Nat) (m wt on run : Int) (V : World) (hV : V = ((w.alloc (.cells #[.int .i64 q, .int .i64 m, .int .i64 wt, .int .i64 on] 76)).alloc (.cells #[.int .i64 0, .int .i64 0, .int .i64 0, .int .i64 0] 43)).alloc (.cells #[.int .i64 1, .int .i64 run, .int .i64 0, .int .i64 0] 43)) : Touch [] w V ∧ Gb w V q m wt on 1 run 0 0 := by
  have hb2 : V.heap[w.heap.size + 1 + 1]? = some (.cells #[.int .i64 1, .int .i64 run, .int .i64 0, .int .i64 0] 43 (0, 0)) := by
    rw [hV]
    have := heap_alloc_new ((w.alloc (.cells #[.int .i64 q, .int .i64 m, .int .i64 wt, .int .i64 on] 76)).alloc (.cells #[.int .i64 0, .int .i64 0, .int .i64 0, .int .i64 0] 43)) (.cells #[.int .i64 1, .int .i64 run, .int .i64 0, .int .i64 0] 43)
    rw [World.size_alloc, World.size_alloc] at this
    exact this
  refine ⟨by rw [hV]; exact (((Touch.refl _ _).alloc _).alloc _).alloc _, block_lt hb2, ?_, ?_, hb2⟩
  · rw [hV]; exact (((Touch.refl [] _).alloc _).alloc _).keep (heap_alloc_new w _) (by simp)
  · rw [hV]
    have := heap_alloc_new (w.alloc (.cells #[.int .i64 q, .int .i64 m, .int .i64 wt, .int .i64 on] 76)) (.cells #[.int .i64 0, .int .i64 0, .int .i64 0, .int .i64 0] 43)
    rw [World.size_alloc] at this
    exact ((Touch.refl [] _).alloc _).keep this (by simp)
theorem Gb.keep {V V' : World} {q : Nat} {m wt on a0 run a2 a3 : Int} {F : List Nat} (h : Gb w V q m wt on a0 run a2 a3) (T : Touch F V V') (hF : ∀ k ∈ F, k < w.heap.size) : Gb w V' q m wt on a0 run a2 a3 :=
  ⟨Nat.lt_of_lt_of_le h.z T.size, T.keep h.b0 (fun e => by have := hF _ e; omega), T.keep h.b1 (fun e => by have := hF _ e; omega), T.keep h.b2 (fun e => by have := hF _ e; omega)⟩
def fin4g (w : World) (g : Nat) (x0 x1 x2 x3 : Int) : World := (((w.setCell ⟨g, 0, none⟩ (.int .i64 x0)).setCell ⟨g, 1, none⟩ (.int .i64 x1)).setCell ⟨g, 2, none⟩ (.int .i64 x2)).setCell ⟨g, 3, none⟩ (.int .i64 x3)
theorem touch_fin4g (w : World) (g : Nat) (x0 x1 x2 x3 : Int) : Touch [g] w (fin4g w g x0 x1 x2 x3) := by
  unfold fin4g
  exact ((((Touch.refl _ _).setCell (Or.inl (by simp)) _).setCell (Or.inl (by simp)) _).setCell (Or.inl (by simp)) _).setCell (Or.inl (by simp)) _
/-- what is read at the end of goOn -/
structure Gf (w W5 : World) (a0 run a2 a3 : Int) : Prop where
  d0 : W5.cell? ⟨w.heap.size + 1 + 1, 0, none⟩ = some (.int .i64 a0)
  d1 : W5.cell? ⟨w.heap.size + 1 + 1, 1, none⟩ = some (.int .i64 run)
  d2 : W5.cell? ⟨w.heap.size + 1 + 1, 2, none⟩ = some (.int .i64 a2)
  d3 : W5.cell? ⟨w.heap.size + 1 + 1, 3, none⟩ = some (.int .i64 a3)
  f0 : W5.cell? ⟨w.heap.size + 1, 0, none⟩ = some (.int .i64 0)
  f1 : W5.cell? ⟨w.heap.size + 1, 1, none⟩ = some (.int .i64 0)
  f2 : W5.cell? ⟨w.heap.size + 1, 2, none⟩ = some (.int .i64 0)
  f3 : W5.cell? ⟨w.heap.size + 1, 3, none⟩ = some (.int .i64 0)
  ff : ∀ i, W5.frozen? ⟨w.heap.size + 1, i, none⟩ = false
  z : w.heap.size + 1 + 1 < W5.heap.size
theorem Gb.gf {V : World} {q : Nat} {m wt on a0 run a2 a3 : Int} (h : Gb w V q m wt on a0 run a2 a3) : Gf w V a0 run a2 a3 :=
  ⟨cell_at h.b2 rfl, cell_at h.b2 rfl, cell_at h.b2 rfl, cell_at h.b2 rfl, cell_at h.b1 rfl, cell_at h.b1 rfl, cell_at h.b1 rfl, cell_at h.b1 rfl, froz_at h.b1, h.z⟩
theorem go_fin {W : World} {q : Nat} {m wt on a0 run a2 a3 : Int} {F : List Nat} (hg : Gb w W q m wt on a0 run a2 a3) (hq : Lq W b r S vr vl) (T : Touch F w W) (hF : b ∈ F) (hb : b < w.heap.size) (W5 : World) (h5 : W5 = (wrS W b q m wt on a3).drew) :
    Gf w W5 a0 run a2 a3 ∧ Lq (fin4g W5 (w.heap.size + 1) a0 run a2 a3) b r (goS S q m wt on a3) vr vl ∧ Touch F w (fin4g W5 (w.heap.size + 1) a0 run a2 a3) ∧ Touch [b, w.heap.size + 1] W (fin4g W5 (w.heap.size + 1) a0 run a2 a3) := by
  have T5 : Touch [b] W W5 := by rw [h5]; exact (touch_wrS W b q m wt on a3).drew
  have g5 := hg.keep T5 (fun k hk => by simp at hk; omega)
  have q5 : Lq W5 b r (goS S q m wt on a3) vr vl := by rw [h5]; exact (hq.state q m wt on a3).keep0 (Touch.refl _ _).drew
  have T6 := touch_fin4g W5 (w.heap.size + 1) a0 run a2 a3
  refine ⟨g5.gf, q5.keep T6 (fun k hk => by simp at hk; omega), (T.trans T5 (fun k hk => Or.inl (by simp at hk; rw [hk]; exact hF))).trans T6 (fun k hk => Or.inr (by simp at hk; omega)), ?_⟩
  exact (T5.mono (fun k hk => by simp at hk; simp [hk])).trans T6 (fun k hk => Or.inl (by simp at hk; simp [hk]))
/-- boxes that were written -/
theorem Gb.cook {V : World} {q : Nat} {m wt on a0 run a2 a3 : Int} (h : Gb w V q m wt on a0 run a2 a3) : Gb w ((V.setCell ⟨w.heap.size, 2, none⟩ (.int .i64 0)).setCell ⟨w.heap.size, 3, none⟩ (.int .i64 0)) q m 0 0 a0 run a2 a3 := by
  have T : Touch [w.heap.size] V ((V.setCell ⟨w.heap.size, 2, none⟩ (.int .i64 0)).setCell ⟨w.heap.size, 3, none⟩ (.int .i64 0)) := ((Touch.refl _ _).setCell (Or.inl (by simp)) _).setCell (Or.inl (by simp)) _
  refine ⟨Nat.lt_of_lt_of_le h.z T.size, ?_, T.keep h.b1 (by simp), T.keep h.b2 (by simp; omega)⟩
  have := bset (i := 3) (bset (i := 2) h.b0 (.int .i64 0)) (.int .i64 0)
  simpa using this
theorem Gb.done2 {V : World} {q : Nat} {m wt on a0 run a2 a3 : Int} (h : Gb w V q m wt on a0 run a2 a3) (x0 x2 : Int) : Gb w ((V.setCell ⟨w.heap.size + 1 + 1, 0, none⟩ (.int .i64 x0)).setCell ⟨w.heap.size + 1 + 1, 2, none⟩ (.int .i64 x2)) q m wt on x0 run x2 a3 := by
  have T : Touch [w.heap.size + 1 + 1] V ((V.setCell ⟨w.heap.size + 1 + 1, 0, none⟩ (.int .i64 x0)).setCell ⟨w.heap.size + 1 + 1, 2, none⟩ (.int .i64 x2)) := ((Touch.refl _ _).setCell (Or.inl (by simp)) _).setCell (Or.inl (by simp)) _
  refine ⟨Nat.lt_of_lt_of_le h.z T.size, T.keep h.b0 (by simp; omega), T.keep h.b1 (by simp), ?_⟩
  have := bset (i := 2) (bset (i := 0) h.b2 (.int .i64 x0)) (.int .i64 x2)
  simpa using this
theorem Gb.done3 {V : World} {q : Nat} {m wt on a0 run a2 a3 : Int} (h : Gb w V q m wt on a0 run a2 a3) (x0 x2 x3 : Int) : Gb w (((V.setCell ⟨w.heap.size + 1 + 1, 0, none⟩ (.int .i64 x0)).setCell ⟨w.heap.size + 1 + 1, 2, none⟩ (.int .i64 x2)).setCell ⟨w.heap.size + 1 + 1, 3, none⟩ (.int .i64 x3)) q m wt on x0 run x2 x3 := by
  have h2 := h.done2 x0 x2
  have T : Touch [w.heap.size + 1 + 1] ((V.setCell ⟨w.heap.size + 1 + 1, 0, none⟩ (.int .i64 x0)).setCell ⟨w.heap.size + 1 + 1, 2, none⟩ (.int .i64 x2)) (((V.setCell ⟨w.heap.size + 1 + 1, 0, none⟩ (.int .i64 x0)).setCell ⟨w.heap.size + 1 + 1, 2, none⟩ (.int .i64 x2)).setCell ⟨w.heap.size + 1 + 1, 3, none⟩ (.int .i64 x3)) := (Touch.refl _ _).setCell (Or.inl (by simp)) _
  refine ⟨Nat.lt_of_lt_of_le h2.z T.size, T.keep h2.b0 (by simp; omega), T.keep h2.b1 (by simp), ?_⟩
  have := bset (i := 3) h2.b2 (.int .i64 x3)
  simpa using this
set_option maxHeartbeats 8000000 in
set_option maxRecDepth 100000 in
theorem goOn_none (h : Lq w b r S vr vl) {q0 : Ip} {l0 : List Ip} (e : S.left = q0 :: l0) (q : Nat) (m on : Int) (vg vc : Value) : Calls Tryd.prog 33 #[.pointer (some ⟨b, 0, none⟩), .agg #[.int .i64 q, .int .i64 m, .int .i64 0, .int .i64 on], vg, vc] w fun e w' => e = .returned (.tuple #[.agg #[.int .i64 1, .int .i64 q0.1.run, .int .i64 0, .int .i64 0], .int .i64 0]) ∧ Lq w' b r (goS S q m 0 on 0) vr vl ∧ Touch [b] w w' := by
  obtain ⟨al, cl, rfl, hcl⟩ := h.vform
  obtain ⟨g, off, rfl, hA⟩ := Its.item (i := 0) h.lf.its (by rw [e]; simp)
  have hq : S.left[0]'(by rw [e]; simp) = q0 := by simp [e]
  rw [hq] at hA
  simp only [Nat.zero_mul, Nat.add_zero] at hA
  have hbw : b < w.heap.size := block_lt h.bl
  obtain ⟨V, hV⟩ : ∃ V, V = ((w.alloc (.cells #[.int .i64 q, .int .i64 m, .int .i64 0, .int .i64 on] 76)).alloc (.cells #[.int .i64 0, .int .i64 0, .int .i64 0, .int .i64 0] 43)).alloc (.cells #[.int .i64 1, .int .i64 q0.1.run, .int .i64 0, .int .i64 0] 43) := ⟨_, rfl⟩
  have HG := hid (gb_start w q m 0 on q0.1.run V hV)
  have HL := hid h
  have y0 := hA.c0
  have c2 : w.cell? ⟨b, 2, none⟩ = some (.slice (some ⟨g, off, none⟩) S.left.length cl) := cell_at h.bl rfl
  have hzl : (0 : Int) < (S.left.length : Int) := by rw [e]; simp
  have hgw : g < w.heap.size := cell_lt' y0
  clear h hA hcl hq e
  go_enter Tryd.func33, Tryd.ntmps33
  go_upto_region 2 with fail
  rw [← hV]
  clear hV y0 c2
  have HGW := hid HG.out.2
  have HQW := hid (HL.out.keep0 HG.out.1)
  have HTW : Hid (Touch [b] w V) := hid (HG.out.1.mono (fun _ e => by cases e))
  have x2 := cell_at (j := 2) (v := .int .i64 0) HGW.out.b0 rfl
  go_upto_region 15 with fail
  clear x2
  refine wp_region_H (S := fun w' => Touch [b] V w') (by kernel_rfl) ?_
  have s0 : Touch [b] V V.drew := (Touch.refl _ _).drew
  have x0 : ∀ w', Touch [b] V w' → w'.cell? ⟨w.heap.size, 0, none⟩ = some (.int .i64 (q : Nat)) := fun w' T => cell_at (T.keep HGW.out.b0 (by simp; omega)) rfl
  have x1 : ∀ w', Touch [b] V w' → w'.cell? ⟨w.heap.size, 1, none⟩ = some (.int .i64 m) := fun w' T => cell_at (T.keep HGW.out.b0 (by simp; omega)) rfl
  have x2 : ∀ w', Touch [b] V w' → w'.cell? ⟨w.heap.size, 2, none⟩ = some (.int .i64 0) := fun w' T => cell_at (T.keep HGW.out.b0 (by simp; omega)) rfl
  have x3 : ∀ w', Touch [b] V w' → w'.cell? ⟨w.heap.size, 3, none⟩ = some (.int .i64 on) := fun w' T => cell_at (T.keep HGW.out.b0 (by simp; omega)) rfl
  have d3 : ∀ w', Touch [b] V w' → w'.cell? ⟨w.heap.size + 1 + 1, 3, none⟩ = some (.int .i64 0) := fun w' T => cell_at (T.keep HGW.out.b2 (by simp; omega)) rfl
  have s3 := cell_at (j := 3) (v := .int .i64 S.p) HQW.out.bl rfl
  have s4 := cell_at (j := 4) (v := .int .i64 S.n) HQW.out.bl rfl
  have s5 := cell_at (j := 5) (v := .int .i64 S.wt) HQW.out.bl rfl
  have s6 := cell_at (j := 6) (v := .int .i64 S.on) HQW.out.bl rfl
  have s7 := cell_at (j := 7) (v := .int .i64 S.tm) HQW.out.bl rfl
  have sf := froz_at HQW.out.bl
  have sl := block_lt HQW.out.bl
  refine wpH_take (i := 0) (v := (.pointer (some ⟨b, 0, none⟩))) (some 68) rfl rfl (by kernel_rfl) (by kernel_rfl) (by kernel_rfl) (fun _ _ _ h => h) (Or.inl ⟨by rfl, fun w' hS => (by go_simp)⟩) s0 ?_
  try simp only [Go.Act.put, List.setIfInBounds_toArray, List.set_cons_zero, List.set_cons_succ]
  refine wpH_take (i := 1) (v := (.pointer (some ⟨b, 0, none⟩))) (some 69) rfl rfl (by kernel_rfl) (by kernel_rfl) (by kernel_rfl) (fun _ _ _ h => h) (Or.inl ⟨by rfl, fun w' hS => (by go_simp)⟩) s0 ?_
  try simp only [Go.Act.put, List.setIfInBounds_toArray, List.set_cons_zero, List.set_cons_succ]
  refine wpH_take (i := 2) (v := (.agg #[.int .i64 (q : Nat), .int .i64 m, .int .i64 0, .int .i64 on])) (some 70) rfl rfl (by kernel_rfl) (by kernel_rfl) (by kernel_rfl) (fun _ _ _ h => h) (Or.inl ⟨by rfl, fun w' hS => (by have z0 := x0 _ hS; have z1 := x1 _ hS; have z2 := x2 _ hS; have z3 := x3 _ hS; go_simp)⟩) s0 ?_
  try simp only [Go.Act.put, List.setIfInBounds_toArray, List.set_cons_zero, List.set_cons_succ]
  refine wpH_take (i := 3) (v := (.pointer (some ⟨w.heap.size + 1 + 1, 3, none⟩))) (some 71) rfl rfl (by kernel_rfl) (by kernel_rfl) (by kernel_rfl) (fun _ _ _ h => h) (Or.inl ⟨by rfl, fun w' hS => (by go_simp)⟩) s0 ?_
  try simp only [Go.Act.put, List.setIfInBounds_toArray, List.set_cons_zero, List.set_cons_succ]
  refine wpH_take (i := 4) (v := (.int .i64 0)) (some 72) rfl rfl (by kernel_rfl) (by kernel_rfl) (by kernel_rfl) (fun _ _ _ h => h) (Or.inl ⟨by rfl, fun w' hS => (by have z0 := d3 _ hS; go_simp)⟩) s0 ?_
  try simp only [Go.Act.put, List.setIfInBounds_toArray, List.set_cons_zero, List.set_cons_succ]
  refine wpH_take (i := 5) (v := (.pointer (some ⟨b, 0, none⟩))) (some 73) rfl rfl (by kernel_rfl) (by kernel_rfl) (by kernel_rfl) (fun _ _ _ h => h) (Or.inl ⟨by rfl, fun w' hS => (by go_simp)⟩) s0 ?_
  try simp only [Go.Act.put, List.setIfInBounds_toArray, List.set_cons_zero, List.set_cons_succ]
  refine wpH_take (i := 6) (v := (.pointer (some ⟨b, 3, none⟩))) (some 74) rfl rfl (by kernel_rfl) (by kernel_rfl) (by kernel_rfl) (fun _ _ _ h => h) (Or.inl ⟨by rfl, fun w' hS => (by go_simp)⟩) s0 ?_
  try simp only [Go.Act.put, List.setIfInBounds_toArray, List.set_cons_zero, List.set_cons_succ]
  refine wpH_call (i := 7) (o := { dst := none, op := Op.store 76 (Operand.tmp 74) (Operand.tmp 70), type := 0, pos := _, after := #[{ on := 6, ground := Ground.data }, { on := 2, ground := Ground.data }, { on := 0, ground := Ground.phase }, { on := 1, ground := Ground.textOnly Departure.lateStores }, { on := 2, ground := Ground.phase }, { on := 3, ground := Ground.textOnly Departure.lateStores }, { on := 4, ground := Ground.textOnly Departure.lateStores }], guard := none }) (by kernel_rfl) rfl (fun K' hK => ?_)
  rw [if_pos (by rfl)]
  go_simp
  refine hK.out _ _ ((((((Touch.refl _ _).setCell (Or.inl (by simp)) _).setCell (Or.inl (by simp)) _).setCell (Or.inl (by simp)) _).setCell (Or.inl (by simp)) _).drew) ?_
  clear hK
  try simp only [Go.Act.put, List.setIfInBounds_toArray, List.set_cons_zero, List.set_cons_succ]
  refine wpH_take (i := 8) (v := (.pointer (some ⟨b, 0, none⟩))) (some 75) rfl rfl (by kernel_rfl) (by kernel_rfl) (by kernel_rfl) (fun _ _ _ h => h) (Or.inl ⟨by rfl, fun w' hS => (by go_simp)⟩) ((((((Touch.refl _ _).setCell (Or.inl (by simp)) _).setCell (Or.inl (by simp)) _).setCell (Or.inl (by simp)) _).setCell (Or.inl (by simp)) _).drew) ?_
  try simp only [Go.Act.put, List.setIfInBounds_toArray, List.set_cons_zero, List.set_cons_succ]
  refine wpH_take (i := 9) (v := (.pointer (some ⟨b, 7, none⟩))) (some 76) rfl rfl (by kernel_rfl) (by kernel_rfl) (by kernel_rfl) (fun _ _ _ h => h) (Or.inl ⟨by rfl, fun w' hS => (by go_simp)⟩) ((((((Touch.refl _ _).setCell (Or.inl (by simp)) _).setCell (Or.inl (by simp)) _).setCell (Or.inl (by simp)) _).setCell (Or.inl (by simp)) _).drew) ?_
  try simp only [Go.Act.put, List.setIfInBounds_toArray, List.set_cons_zero, List.set_cons_succ]
  refine wpH_call (i := 10) (o := { dst := none, op := Op.store 3 (Operand.tmp 76) (Operand.tmp 72), type := 0, pos := _, after := #[{ on := 9, ground := Ground.data }, { on := 4, ground := Ground.data }, { on := 7, ground := Ground.chain }, { on := 0, ground := Ground.phase }, { on := 1, ground := Ground.phase }, { on := 2, ground := Ground.phase }, { on := 3, ground := Ground.phase }, { on := 4, ground := Ground.phase }, { on := 5, ground := Ground.phase }, { on := 6, ground := Ground.phase }, { on := 7, ground := Ground.phase }], guard := none }) (by kernel_rfl) rfl (fun K' hK => ?_)
  rw [if_pos (by rfl)]
  go_simp
  refine hK.out _ _ (((((((Touch.refl _ _).setCell (Or.inl (by simp)) _).setCell (Or.inl (by simp)) _).setCell (Or.inl (by simp)) _).setCell (Or.inl (by simp)) _).setCell (Or.inl (by simp)) _).drew) ?_
  clear hK
  try simp only [Go.Act.put, List.setIfInBounds_toArray, List.set_cons_zero, List.set_cons_succ]
  refine wpAnyH_done (by kernel_rfl) ?_ _
  obtain ⟨W5, hW5⟩ : ∃ W5, W5 = (((((V.setCell ⟨b, 3, none⟩ (.int .i64 (q : Nat))).setCell ⟨b, 4, none⟩ (.int .i64 m)).setCell ⟨b, 5, none⟩ (.int .i64 0)).setCell ⟨b, 6, none⟩ (.int .i64 on)).setCell ⟨b, 7, none⟩ (.int .i64 0)).drew := ⟨_, rfl⟩
  rw [← hW5]
  have HF := hid (go_fin HGW.out HQW.out HTW.out (by simp) hbw W5 hW5)
  clear hW5 s0 x0 x1 x2 x3 d3 s3 s4 s5 s6 s7 sf sl
  have d0 := HF.out.1.d0
  have d1 := HF.out.1.d1
  have d2 := HF.out.1.d2
  have d3 := HF.out.1.d3
  have f0 := HF.out.1.f0
  have f1 := HF.out.1.f1
  have f2 := HF.out.1.f2
  have f3 := HF.out.1.f3
  have ff := HF.out.1.ff
  have zz := HF.out.1.z
  have HR := hid HF.out.2
  unfold fin4g at HR
  clear HF
  go_wp2
  refine bodyPost_ret (v := .tuple #[.agg #[.int .i64 1, .int .i64 q0.1.run, .int .i64 0, .int .i64 0], .int .i64 0]) (by simp [results, Tryd.results33, go_sem, f0, f1, f2, f3, d0, d1, d2, d3]) rfl ?_
  exact ⟨rfl, HR.out.1, HR.out.2.1⟩
set_option maxHeartbeats 8000000 in
set_option maxRecDepth 100000 in
theorem goOn_open (h : Lq w b r S vr vl) {q0 : Ip} {l0 : List Ip} (e : S.left = q0 :: l0) (q : Nat) (m on : Int) (vg vc : Value) {FG : List Nat} (hFG : ∀ k ∈ FG, b < k ∧ k < w.heap.size) (hc : ∀ w1, Touch [] w w1 → Calls Tryd.prog 49 #[vg, .int .i64 on, .int .i64 S.num] w1 fun e w2 => e = .returned (.tuple #[.bool true, .int .i64 0]) ∧ Touch FG w1 w2) : Calls Tryd.prog 33 #[.pointer (some ⟨b, 0, none⟩), .agg #[.int .i64 q, .int .i64 m, .int .i64 1, .int .i64 on], vg, vc] w fun e w' => e = .returned (.tuple #[.agg #[.int .i64 1, .int .i64 q0.1.run, .int .i64 0, .int .i64 0], .int .i64 0]) ∧ Lq w' b r (goS S q m 0 0 0) vr vl ∧ Touch (b :: FG) w w' := by
  obtain ⟨al, cl, rfl, hcl⟩ := h.vform
  obtain ⟨g, off, rfl, hA⟩ := Its.item (i := 0) h.lf.its (by rw [e]; simp)
  have hq : S.left[0]'(by rw [e]; simp) = q0 := by simp [e]
  rw [hq] at hA
  simp only [Nat.zero_mul, Nat.add_zero] at hA
  have hbw : b < w.heap.size := block_lt h.bl
  obtain ⟨V, hV⟩ : ∃ V, V = ((w.alloc (.cells #[.int .i64 q, .int .i64 m, .int .i64 1, .int .i64 on] 76)).alloc (.cells #[.int .i64 0, .int .i64 0, .int .i64 0, .int .i64 0] 43)).alloc (.cells #[.int .i64 1, .int .i64 q0.1.run, .int .i64 0, .int .i64 0] 43) := ⟨_, rfl⟩
  have HG := hid (gb_start w q m 1 on q0.1.run V hV)
  have HL := hid h
  have y0 := hA.c0
  have c2 : w.cell? ⟨b, 2, none⟩ = some (.slice (some ⟨g, off, none⟩) S.left.length cl) := cell_at h.bl rfl
  have hzl : (0 : Int) < (S.left.length : Int) := by rw [e]; simp
  have hgw : g < w.heap.size := cell_lt' y0
  clear h hA hcl hq e
  go_enter Tryd.func33, Tryd.ntmps33
  go_upto_region 2 with fail
  rw [← hV]
  clear hV y0 c2
  have HC : Hid (Calls Tryd.prog 49 #[vg, .int .i64 on, .int .i64 S.num] V.drew fun e w2 => e = .returned (.tuple #[.bool true, .int .i64 0]) ∧ Touch FG V w2) := hid ((hc _ (HG.out.1.trans' (Touch.refl _ _).drew)).mono (by
    rintro e w2 ⟨rfl, g⟩
    exact ⟨rfl, ((Touch.refl FG V).drew).trans' g⟩))
  have x2 := cell_at (j := 2) (v := .int .i64 1) HG.out.2.b0 rfl
  go_upto_region 4 with fail
  clear x2
  refine wp_region_H (S := fun w' => Touch FG V w') (by kernel_rfl) ?_
  have s0 : Touch FG V V.drew := (Touch.refl _ _).drew
  have x3 : ∀ w', Touch FG V w' → w'.cell? ⟨w.heap.size, 3, none⟩ = some (.int .i64 on) := fun w' T => cell_at (T.keep HG.out.2.b0 (fun e => by have := hFG _ e; omega)) rfl
  have n0 : ∀ w', Touch FG V w' → w'.cell? ⟨b, 0, none⟩ = some (.int .i64 S.num) := fun w' T => cell_at (T.keep (HL.out.keep0 HG.out.1).bl (fun e => by have := hFG _ e; omega)) rfl
  refine wpH_take (i := 0) (v := (vg)) (some 28) rfl rfl (by kernel_rfl) (by kernel_rfl) (by kernel_rfl) (fun _ _ _ h => h) (Or.inl ⟨by rfl, fun w' hS => (by go_simp)⟩) s0 ?_
  try simp only [Go.Act.put, List.setIfInBounds_toArray, List.set_cons_zero, List.set_cons_succ]
  refine wpH_take (i := 1) (v := (.pointer (some ⟨w.heap.size, 3, none⟩))) (some 29) rfl rfl (by kernel_rfl) (by kernel_rfl) (by kernel_rfl) (fun _ _ _ h => h) (Or.inl ⟨by rfl, fun w' hS => (by go_simp)⟩) s0 ?_
  try simp only [Go.Act.put, List.setIfInBounds_toArray, List.set_cons_zero, List.set_cons_succ]
  refine wpH_take (i := 2) (v := (.int .i64 on)) (some 30) rfl rfl (by kernel_rfl) (by kernel_rfl) (by kernel_rfl) (fun _ _ _ h => h) (Or.inl ⟨by rfl, fun w' hS => (by have z0 := x3 _ hS; go_simp)⟩) s0 ?_
  try simp only [Go.Act.put, List.setIfInBounds_toArray, List.set_cons_zero, List.set_cons_succ]
  refine wpH_take (i := 3) (v := (.pointer (some ⟨b, 0, none⟩))) (some 31) rfl rfl (by kernel_rfl) (by kernel_rfl) (by kernel_rfl) (fun _ _ _ h => h) (Or.inl ⟨by rfl, fun w' hS => (by go_simp)⟩) s0 ?_
  try simp only [Go.Act.put, List.setIfInBounds_toArray, List.set_cons_zero, List.set_cons_succ]
  refine wpH_take (i := 4) (v := (.pointer (some ⟨b, 0, none⟩))) (some 32) rfl rfl (by kernel_rfl) (by kernel_rfl) (by kernel_rfl) (fun _ _ _ h => h) (Or.inl ⟨by rfl, fun w' hS => (by go_simp)⟩) s0 ?_
  try simp only [Go.Act.put, List.setIfInBounds_toArray, List.set_cons_zero, List.set_cons_succ]
  refine wpH_take (i := 5) (v := (.pointer (some ⟨b, 0, none⟩))) (some 33) rfl rfl (by kernel_rfl) (by kernel_rfl) (by kernel_rfl) (fun _ _ _ h => h) (Or.inl ⟨by rfl, fun w' hS => (by go_simp)⟩) s0 ?_
  try simp only [Go.Act.put, List.setIfInBounds_toArray, List.set_cons_zero, List.set_cons_succ]
  refine wpH_take (i := 6) (v := (.int .i64 S.num)) (some 34) rfl rfl (by kernel_rfl) (by kernel_rfl) (by kernel_rfl) (fun _ _ _ h => h) (Or.inl ⟨by rfl, fun w' hS => (by have z0 := n0 _ hS; go_simp)⟩) s0 ?_
  try simp only [Go.Act.put, List.setIfInBounds_toArray, List.set_cons_zero, List.set_cons_succ]
  refine wpH_call (i := 7) (o := { dst := some 35, op := Op.call { callee := Callee.value (Operand.func 49), args := #[Operand.tmp 28, Operand.tmp 30, Operand.tmp 34], argTypes := #[36, 3, 3] }, type := 123, pos := _, after := #[{ on := 0, ground := Ground.data }, { on := 2, ground := Ground.data }, { on := 6, ground := Ground.data }], guard := none }) (by kernel_rfl) rfl (fun K' hK => ?_)
  rw [if_pos (by rfl)]
  go_simp
  refine HC.out.mono ?_
  rintro e' Y ⟨rfl, gY⟩
  have hY : Touch FG V Y := gY
  refine hK.out _ _ hY ?_
  clear hK
  try simp only [Go.Act.put, List.setIfInBounds_toArray, List.set_cons_zero, List.set_cons_succ]
  refine wpH_take (i := 8) (v := (.tuple #[(.bool true), (.int .i64 0)])) (some 27) rfl rfl (by kernel_rfl) (by kernel_rfl) (by kernel_rfl) (fun _ _ _ h => h) (Or.inl ⟨by rfl, fun w' hS => (by go_simp)⟩) hY ?_
  try simp only [Go.Act.put, List.setIfInBounds_toArray, List.set_cons_zero, List.set_cons_succ]
  refine wpH_take (i := 9) (v := (.bool true)) (some 36) rfl rfl (by kernel_rfl) (by kernel_rfl) (by kernel_rfl) (fun _ _ _ h => h) (Or.inl ⟨by rfl, fun w' hS => (by go_simp)⟩) hY ?_
  try simp only [Go.Act.put, List.setIfInBounds_toArray, List.set_cons_zero, List.set_cons_succ]
  refine wpH_take (i := 10) (v := (.int .i64 0)) (some 37) rfl rfl (by kernel_rfl) (by kernel_rfl) (by kernel_rfl) (fun _ _ _ h => h) (Or.inl ⟨by rfl, fun w' hS => (by go_simp)⟩) hY ?_
  try simp only [Go.Act.put, List.setIfInBounds_toArray, List.set_cons_zero, List.set_cons_succ]
  refine wpH_take (i := 11) (v := (.bool true)) (some 11) rfl rfl (by kernel_rfl) (by kernel_rfl) (by kernel_rfl) (fun _ _ _ h => h) (Or.inl ⟨by rfl, fun w' hS => (by go_simp)⟩) hY ?_
  try simp only [Go.Act.put, List.setIfInBounds_toArray, List.set_cons_zero, List.set_cons_succ]
  refine wpH_take (i := 12) (v := (.int .i64 0)) (some 12) rfl rfl (by kernel_rfl) (by kernel_rfl) (by kernel_rfl) (fun _ _ _ h => h) (Or.inl ⟨by rfl, fun w' hS => (by go_simp)⟩) hY ?_
  try simp only [Go.Act.put, List.setIfInBounds_toArray, List.set_cons_zero, List.set_cons_succ]
  refine wpAnyH_done (by kernel_rfl) ?_ _
  have HY := hid hY
  clear s0 hY x3 n0 gY
  have HGY : Hid (Gb w Y q m 1 on 1 q0.1.run 0 0) := hid (HG.out.2.keep HY.out (fun k hk => (hFG k hk).2))
  have HQY := hid ((HL.out.keep0 HG.out.1).keep HY.out (fun k hk => (hFG k hk).1))
  have HTY : Hid (Touch FG w Y) := hid ((HG.out.1.mono (fun _ e => by cases e)).trans' HY.out)
  have x2 := cell_at (j := 2) (v := .int .i64 1) HGY.out.b0 rfl
  have x3 := cell_at (j := 3) (v := .int .i64 on) HGY.out.b0 rfl
  have xf := froz_at HGY.out.b0
  have xl := block_lt HGY.out.b0
  go_upto_region 15 with fail
  obtain ⟨W, hW⟩ : ∃ W, W = (Y.setCell ⟨w.heap.size, 2, none⟩ (.int .i64 0)).setCell ⟨w.heap.size, 3, none⟩ (.int .i64 0) := ⟨_, rfl⟩
  rw [← hW]
  have HT : Hid (Touch [w.heap.size] Y W) := hid (by rw [hW]; exact ((Touch.refl _ _).setCell (Or.inl (by simp)) _).setCell (Or.inl (by simp)) _)
  have HGW := hid HGY.out.cook
  rw [← hW] at HGW
  have HQW := hid (HQY.out.keep HT.out (fun k hk => by simp at hk; omega))
  have HTW : Hid (Touch (b :: FG) w W) := hid ((HTY.out.mono (fun k hk => List.mem_cons_of_mem _ hk)).trans HT.out (fun k hk => Or.inr (by simp at hk; omega)))
  clear hW x2 x3 xf xl
  refine wp_region_H (S := fun w' => Touch [b] W w') (by kernel_rfl) ?_
  have s0 : Touch [b] W W.drew := (Touch.refl _ _).drew
  have x0 : ∀ w', Touch [b] W w' → w'.cell? ⟨w.heap.size, 0, none⟩ = some (.int .i64 (q : Nat)) := fun w' T => cell_at (T.keep HGW.out.b0 (by simp; omega)) rfl
  have x1 : ∀ w', Touch [b] W w' → w'.cell? ⟨w.heap.size, 1, none⟩ = some (.int .i64 m) := fun w' T => cell_at (T.keep HGW.out.b0 (by simp; omega)) rfl
  have x2 : ∀ w', Touch [b] W w' → w'.cell? ⟨w.heap.size, 2, none⟩ = some (.int .i64 0) := fun w' T => cell_at (T.keep HGW.out.b0 (by simp; omega)) rfl
  have x3 : ∀ w', Touch [b] W w' → w'.cell? ⟨w.heap.size, 3, none⟩ = some (.int .i64 0) := fun w' T => cell_at (T.keep HGW.out.b0 (by simp; omega)) rfl
  have d3 : ∀ w', Touch [b] W w' → w'.cell? ⟨w.heap.size + 1 + 1, 3, none⟩ = some (.int .i64 0) := fun w' T => cell_at (T.keep HGW.out.b2 (by simp; omega)) rfl
  have s3 := cell_at (j := 3) (v := .int .i64 S.p) HQW.out.bl rfl
  have s4 := cell_at (j := 4) (v := .int .i64 S.n) HQW.out.bl rfl
  have s5 := cell_at (j := 5) (v := .int .i64 S.wt) HQW.out.bl rfl
  have s6 := cell_at (j := 6) (v := .int .i64 S.on) HQW.out.bl rfl
  have s7 := cell_at (j := 7) (v := .int .i64 S.tm) HQW.out.bl rfl
  have sf := froz_at HQW.out.bl
  have sl := block_lt HQW.out.bl
  refine wpH_take (i := 0) (v := (.pointer (some ⟨b, 0, none⟩))) (some 68) rfl rfl (by kernel_rfl) (by kernel_rfl) (by kernel_rfl) (fun _ _ _ h => h) (Or.inl ⟨by rfl, fun w' hS => (by go_simp)⟩) s0 ?_
  try simp only [Go.Act.put, List.setIfInBounds_toArray, List.set_cons_zero, List.set_cons_succ]
  refine wpH_take (i := 1) (v := (.pointer (some ⟨b, 0, none⟩))) (some 69) rfl rfl (by kernel_rfl) (by kernel_rfl) (by kernel_rfl) (fun _ _ _ h => h) (Or.inl ⟨by rfl, fun w' hS => (by go_simp)⟩) s0 ?_
  try simp only [Go.Act.put, List.setIfInBounds_toArray, List.set_cons_zero, List.set_cons_succ]
  refine wpH_take (i := 2) (v := (.agg #[.int .i64 (q : Nat), .int .i64 m, .int .i64 0, .int .i64 0])) (some 70) rfl rfl (by kernel_rfl) (by kernel_rfl) (by kernel_rfl) (fun _ _ _ h => h) (Or.inl ⟨by rfl, fun w' hS => (by have z0 := x0 _ hS; have z1 := x1 _ hS; have z2 := x2 _ hS; have z3 := x3 _ hS; go_simp)⟩) s0 ?_
  try simp only [Go.Act.put, List.setIfInBounds_toArray, List.set_cons_zero, List.set_cons_succ]
  refine wpH_take (i := 3) (v := (.pointer (some ⟨w.heap.size + 1 + 1, 3, none⟩))) (some 71) rfl rfl (by kernel_rfl) (by kernel_rfl) (by kernel_rfl) (fun _ _ _ h => h) (Or.inl ⟨by rfl, fun w' hS => (by go_simp)⟩) s0 ?_
  try simp only [Go.Act.put, List.setIfInBounds_toArray, List.set_cons_zero, List.set_cons_succ]
  refine wpH_take (i := 4) (v := (.int .i64 0)) (some 72) rfl rfl (by kernel_rfl) (by kernel_rfl) (by kernel_rfl) (fun _ _ _ h => h) (Or.inl ⟨by rfl, fun w' hS => (by have z0 := d3 _ hS; go_simp)⟩) s0 ?_
  try simp only [Go.Act.put, List.setIfInBounds_toArray, List.set_cons_zero, List.set_cons_succ]
  refine wpH_take (i := 5) (v := (.pointer (some ⟨b, 0, none⟩))) (some 73) rfl rfl (by kernel_rfl) (by kernel_rfl) (by kernel_rfl) (fun _ _ _ h => h) (Or.inl ⟨by rfl, fun w' hS => (by go_simp)⟩) s0 ?_
  try simp only [Go.Act.put, List.setIfInBounds_toArray, List.set_cons_zero, List.set_cons_succ]
  refine wpH_take (i := 6) (v := (.pointer (some ⟨b, 3, none⟩))) (some 74) rfl rfl (by kernel_rfl) (by kernel_rfl) (by kernel_rfl) (fun _ _ _ h => h) (Or.inl ⟨by rfl, fun w' hS => (by go_simp)⟩) s0 ?_
  try simp only [Go.Act.put, List.setIfInBounds_toArray, List.set_cons_zero, List.set_cons_succ]
  refine wpH_call (i := 7) (o := { dst := none, op := Op.store 76 (Operand.tmp 74) (Operand.tmp 70), type := 0, pos := _, after := #[{ on := 6, ground := Ground.data }, { on := 2, ground := Ground.data }, { on := 0, ground := Ground.phase }, { on := 1, ground := Ground.textOnly Departure.lateStores }, { on := 2, ground := Ground.phase }, { on := 3, ground := Ground.textOnly Departure.lateStores }, { on := 4, ground := Ground.textOnly Departure.lateStores }], guard := none }) (by kernel_rfl) rfl (fun K' hK => ?_)
  rw [if_pos (by rfl)]
  go_simp
  refine hK.out _ _ ((((((Touch.refl _ _).setCell (Or.inl (by simp)) _).setCell (Or.inl (by simp)) _).setCell (Or.inl (by simp)) _).setCell (Or.inl (by simp)) _).drew) ?_
  clear hK
  try simp only [Go.Act.put, List.setIfInBounds_toArray, List.set_cons_zero, List.set_cons_succ]
  refine wpH_take (i := 8) (v := (.pointer (some ⟨b, 0, none⟩))) (some 75) rfl rfl (by kernel_rfl) (by kernel_rfl) (by kernel_rfl) (fun _ _ _ h => h) (Or.inl ⟨by rfl, fun w' hS => (by go_simp)⟩) ((((((Touch.refl _ _).setCell (Or.inl (by simp)) _).setCell (Or.inl (by simp)) _).setCell (Or.inl (by simp)) _).setCell (Or.inl (by simp)) _).drew) ?_
  try simp only [Go.Act.put, List.setIfInBounds_toArray, List.set_cons_zero, List.set_cons_succ]
  refine wpH_take (i := 9) (v := (.pointer (some ⟨b, 7, none⟩))) (some 76) rfl rfl (by kernel_rfl) (by kernel_rfl) (by kernel_rfl) (fun _ _ _ h => h) (Or.inl ⟨by rfl, fun w' hS => (by go_simp)⟩) ((((((Touch.refl _ _).setCell (Or.inl (by simp)) _).setCell (Or.inl (by simp)) _).setCell (Or.inl (by simp)) _).setCell (Or.inl (by simp)) _).drew) ?_
  try simp only [Go.Act.put, List.setIfInBounds_toArray, List.set_cons_zero, List.set_cons_succ]
  refine wpH_call (i := 10) (o := { dst := none, op := Op.store 3 (Operand.tmp 76) (Operand.tmp 72), type := 0, pos := _, after := #[{ on := 9, ground := Ground.data }, { on := 4, ground := Ground.data }, { on := 7, ground := Ground.chain }, { on := 0, ground := Ground.phase }, { on := 1, ground := Ground.phase }, { on := 2, ground := Ground.phase }, { on := 3, ground := Ground.phase }, { on := 4, ground := Ground.phase }, { on := 5, ground := Ground.phase }, { on := 6, ground := Ground.phase }, { on := 7, ground := Ground.phase }], guard := none }) (by kernel_rfl) rfl (fun K' hK => ?_)
  rw [if_pos (by rfl)]
  go_simp
  refine hK.out _ _ (((((((Touch.refl _ _).setCell (Or.inl (by simp)) _).setCell (Or.inl (by simp)) _).setCell (Or.inl (by simp)) _).setCell (Or.inl (by simp)) _).setCell (Or.inl (by simp)) _).drew) ?_
  clear hK
  try simp only [Go.Act.put, List.setIfInBounds_toArray, List.set_cons_zero, List.set_cons_succ]
  refine wpAnyH_done (by kernel_rfl) ?_ _
  obtain ⟨W5, hW5⟩ : ∃ W5, W5 = (((((W.setCell ⟨b, 3, none⟩ (.int .i64 (q : Nat))).setCell ⟨b, 4, none⟩ (.int .i64 m)).setCell ⟨b, 5, none⟩ (.int .i64 0)).setCell ⟨b, 6, none⟩ (.int .i64 0)).setCell ⟨b, 7, none⟩ (.int .i64 0)).drew := ⟨_, rfl⟩
  rw [← hW5]
  have HF := hid (go_fin HGW.out HQW.out HTW.out (by simp) hbw W5 hW5)
  clear hW5 s0 x0 x1 x2 x3 d3 s3 s4 s5 s6 s7 sf sl
  have d0 := HF.out.1.d0
  have d1 := HF.out.1.d1
  have d2 := HF.out.1.d2
  have d3 := HF.out.1.d3
  have f0 := HF.out.1.f0
  have f1 := HF.out.1.f1
  have f2 := HF.out.1.f2
  have f3 := HF.out.1.f3
  have ff := HF.out.1.ff
  have zz := HF.out.1.z
  have HR := hid HF.out.2
  unfold fin4g at HR
  clear HF
  go_wp2
  refine bodyPost_ret (v := .tuple #[.agg #[.int .i64 1, .int .i64 q0.1.run, .int .i64 0, .int .i64 0], .int .i64 0]) (by simp [results, Tryd.results33, go_sem, f0, f1, f2, f3, d0, d1, d2, d3]) rfl ?_
  exact ⟨rfl, HR.out.1, HR.out.2.1⟩
end
end Go.Proofs.YtcbckehdlbbbbaaDoor
/- A load's recipe goes on: the program's goOn where it comes to a shut gate, to no gates, where it sleeps, and where no clock is; the conditions are those that each states. -/
namespace Go.Proofs.YtcbckehdlbbbbaaDoor
open Go.RowKit Go.Maps Go.ChangeMaps
set_option linter.unusedVariables false
set_option linter.unusedSimpArgs false
section
variable {w : World} {b r : Nat} {S : Ld} {vr vl : Value}
set_option maxHeartbeats 8000000 in
set_option maxRecDepth 100000 in
theorem goOn_shut (h : Lq w b r S vr vl) {q0 : Ip} {l0 : List Ip} (e : S.left = q0 :: l0) (q : Nat) (m on : Int) (vg vc : Value) {FG : List Nat} (hFG : ∀ k ∈ FG, b < k ∧ k < w.heap.size) (hc : ∀ w1, Touch [] w w1 → Calls Tryd.prog 49 #[vg, .int .i64 on, .int .i64 S.num] w1 fun e w2 => e = .returned (.tuple #[.bool false, .int .i64 0]) ∧ Touch FG w1 w2) : Calls Tryd.prog 33 #[.pointer (some ⟨b, 0, none⟩), .agg #[.int .i64 q, .int .i64 m, .int .i64 1, .int .i64 on], vg, vc] w fun e w' => e = .returned (.tuple #[.agg #[.int .i64 2, .int .i64 q0.1.run, .int .i64 on, .int .i64 0], .int .i64 0]) ∧ Lq w' b r (goS S q m 1 on 0) vr vl ∧ Touch (b :: FG) w w' := by
  obtain ⟨al, cl, rfl, hcl⟩ := h.vform
  obtain ⟨g, off, rfl, hA⟩ := Its.item (i := 0) h.lf.its (by rw [e]; simp)
  have hq : S.left[0]'(by rw [e]; simp) = q0 := by simp [e]
  rw [hq] at hA
  simp only [Nat.zero_mul, Nat.add_zero] at hA
  have hbw : b < w.heap.size := block_lt h.bl
  obtain ⟨V, hV⟩ : ∃ V, V = ((w.alloc (.cells #[.int .i64 q, .int .i64 m, .int .i64 1, .int .i64 on] 76)).alloc (.cells #[.int .i64 0, .int .i64 0, .int .i64 0, .int .i64 0] 43)).alloc (.cells #[.int .i64 1, .int .i64 q0.1.run, .int .i64 0, .int .i64 0] 43) := ⟨_, rfl⟩
  have HG := hid (gb_start w q m 1 on q0.1.run V hV)
  have HL := hid h
  have y0 := hA.c0
  have c2 : w.cell? ⟨b, 2, none⟩ = some (.slice (some ⟨g, off, none⟩) S.left.length cl) := cell_at h.bl rfl
  have hzl : (0 : Int) < (S.left.length : Int) := by rw [e]; simp
  have hgw : g < w.heap.size := cell_lt' y0
  clear h hA hcl hq e
  go_enter Tryd.func33, Tryd.ntmps33
  go_upto_region 2 with fail
  rw [← hV]
  clear hV y0 c2
  have HC : Hid (Calls Tryd.prog 49 #[vg, .int .i64 on, .int .i64 S.num] V.drew fun e w2 => e = .returned (.tuple #[.bool false, .int .i64 0]) ∧ Touch FG V w2) := hid ((hc _ (HG.out.1.trans' (Touch.refl _ _).drew)).mono (by
    rintro e w2 ⟨rfl, g⟩
    exact ⟨rfl, ((Touch.refl FG V).drew).trans' g⟩))
  have x2 := cell_at (j := 2) (v := .int .i64 1) HG.out.2.b0 rfl
  go_upto_region 4 with fail
  clear x2
  refine wp_region_H (S := fun w' => Touch FG V w') (by kernel_rfl) ?_
  have s0 : Touch FG V V.drew := (Touch.refl _ _).drew
  have x3 : ∀ w', Touch FG V w' → w'.cell? ⟨w.heap.size, 3, none⟩ = some (.int .i64 on) := fun w' T => cell_at (T.keep HG.out.2.b0 (fun e => by have := hFG _ e; omega)) rfl
  have n0 : ∀ w', Touch FG V w' → w'.cell? ⟨b, 0, none⟩ = some (.int .i64 S.num) := fun w' T => cell_at (T.keep (HL.out.keep0 HG.out.1).bl (fun e => by have := hFG _ e; omega)) rfl
  refine wpH_take (i := 0) (v := (vg)) (some 28) rfl rfl (by kernel_rfl) (by kernel_rfl) (by kernel_rfl) (fun _ _ _ h => h) (Or.inl ⟨by rfl, fun w' hS => (by go_simp)⟩) s0 ?_
  try simp only [Go.Act.put, List.setIfInBounds_toArray, List.set_cons_zero, List.set_cons_succ]
  refine wpH_take (i := 1) (v := (.pointer (some ⟨w.heap.size, 3, none⟩))) (some 29) rfl rfl (by kernel_rfl) (by kernel_rfl) (by kernel_rfl) (fun _ _ _ h => h) (Or.inl ⟨by rfl, fun w' hS => (by go_simp)⟩) s0 ?_
  try simp only [Go.Act.put, List.setIfInBounds_toArray, List.set_cons_zero, List.set_cons_succ]
  refine wpH_take (i := 2) (v := (.int .i64 on)) (some 30) rfl rfl (by kernel_rfl) (by kernel_rfl) (by kernel_rfl) (fun _ _ _ h => h) (Or.inl ⟨by rfl, fun w' hS => (by have z0 := x3 _ hS; go_simp)⟩) s0 ?_
  try simp only [Go.Act.put, List.setIfInBounds_toArray, List.set_cons_zero, List.set_cons_succ]
  refine wpH_take (i := 3) (v := (.pointer (some ⟨b, 0, none⟩))) (some 31) rfl rfl (by kernel_rfl) (by kernel_rfl) (by kernel_rfl) (fun _ _ _ h => h) (Or.inl ⟨by rfl, fun w' hS => (by go_simp)⟩) s0 ?_
  try simp only [Go.Act.put, List.setIfInBounds_toArray, List.set_cons_zero, List.set_cons_succ]
  refine wpH_take (i := 4) (v := (.pointer (some ⟨b, 0, none⟩))) (some 32) rfl rfl (by kernel_rfl) (by kernel_rfl) (by kernel_rfl) (fun _ _ _ h => h) (Or.inl ⟨by rfl, fun w' hS => (by go_simp)⟩) s0 ?_
  try simp only [Go.Act.put, List.setIfInBounds_toArray, List.set_cons_zero, List.set_cons_succ]
  refine wpH_take (i := 5) (v := (.pointer (some ⟨b, 0, none⟩))) (some 33) rfl rfl (by kernel_rfl) (by kernel_rfl) (by kernel_rfl) (fun _ _ _ h => h) (Or.inl ⟨by rfl, fun w' hS => (by go_simp)⟩) s0 ?_
  try simp only [Go.Act.put, List.setIfInBounds_toArray, List.set_cons_zero, List.set_cons_succ]
  refine wpH_take (i := 6) (v := (.int .i64 S.num)) (some 34) rfl rfl (by kernel_rfl) (by kernel_rfl) (by kernel_rfl) (fun _ _ _ h => h) (Or.inl ⟨by rfl, fun w' hS => (by have z0 := n0 _ hS; go_simp)⟩) s0 ?_
  try simp only [Go.Act.put, List.setIfInBounds_toArray, List.set_cons_zero, List.set_cons_succ]
  refine wpH_call (i := 7) (o := { dst := some 35, op := Op.call { callee := Callee.value (Operand.func 49), args := #[Operand.tmp 28, Operand.tmp 30, Operand.tmp 34], argTypes := #[36, 3, 3] }, type := 123, pos := _, after := #[{ on := 0, ground := Ground.data }, { on := 2, ground := Ground.data }, { on := 6, ground := Ground.data }], guard := none }) (by kernel_rfl) rfl (fun K' hK => ?_)
  rw [if_pos (by rfl)]
  go_simp
  refine HC.out.mono ?_
  rintro e' Y ⟨rfl, gY⟩
  have hY : Touch FG V Y := gY
  refine hK.out _ _ hY ?_
  clear hK
  try simp only [Go.Act.put, List.setIfInBounds_toArray, List.set_cons_zero, List.set_cons_succ]
  refine wpH_take (i := 8) (v := (.tuple #[(.bool false), (.int .i64 0)])) (some 27) rfl rfl (by kernel_rfl) (by kernel_rfl) (by kernel_rfl) (fun _ _ _ h => h) (Or.inl ⟨by rfl, fun w' hS => (by go_simp)⟩) hY ?_
  try simp only [Go.Act.put, List.setIfInBounds_toArray, List.set_cons_zero, List.set_cons_succ]
  refine wpH_take (i := 9) (v := (.bool false)) (some 36) rfl rfl (by kernel_rfl) (by kernel_rfl) (by kernel_rfl) (fun _ _ _ h => h) (Or.inl ⟨by rfl, fun w' hS => (by go_simp)⟩) hY ?_
  try simp only [Go.Act.put, List.setIfInBounds_toArray, List.set_cons_zero, List.set_cons_succ]
  refine wpH_take (i := 10) (v := (.int .i64 0)) (some 37) rfl rfl (by kernel_rfl) (by kernel_rfl) (by kernel_rfl) (fun _ _ _ h => h) (Or.inl ⟨by rfl, fun w' hS => (by go_simp)⟩) hY ?_
  try simp only [Go.Act.put, List.setIfInBounds_toArray, List.set_cons_zero, List.set_cons_succ]
  refine wpH_take (i := 11) (v := (.bool false)) (some 11) rfl rfl (by kernel_rfl) (by kernel_rfl) (by kernel_rfl) (fun _ _ _ h => h) (Or.inl ⟨by rfl, fun w' hS => (by go_simp)⟩) hY ?_
  try simp only [Go.Act.put, List.setIfInBounds_toArray, List.set_cons_zero, List.set_cons_succ]
  refine wpH_take (i := 12) (v := (.int .i64 0)) (some 12) rfl rfl (by kernel_rfl) (by kernel_rfl) (by kernel_rfl) (fun _ _ _ h => h) (Or.inl ⟨by rfl, fun w' hS => (by go_simp)⟩) hY ?_
  try simp only [Go.Act.put, List.setIfInBounds_toArray, List.set_cons_zero, List.set_cons_succ]
  refine wpAnyH_done (by kernel_rfl) ?_ _
  have HY := hid hY
  clear s0 hY x3 n0 gY
  have HGY : Hid (Gb w Y q m 1 on 1 q0.1.run 0 0) := hid (HG.out.2.keep HY.out (fun k hk => (hFG k hk).2))
  have HQY := hid ((HL.out.keep0 HG.out.1).keep HY.out (fun k hk => (hFG k hk).1))
  have HTY : Hid (Touch FG w Y) := hid ((HG.out.1.mono (fun _ e => by cases e)).trans' HY.out)
  go_upto_region 9 with fail
  refine wp_region_H (S := fun w' => Touch [w.heap.size + 1 + 1] Y w') (by kernel_rfl) ?_
  have s0 : Touch [w.heap.size + 1 + 1] Y Y.drew := (Touch.refl _ _).drew
  have x3 : ∀ w', Touch [w.heap.size + 1 + 1] Y w' → w'.cell? ⟨w.heap.size, 3, none⟩ = some (.int .i64 on) := fun w' T => cell_at (T.keep HGY.out.b0 (by simp; omega)) rfl
  have e0 := cell_at (j := 0) (v := .int .i64 1) HGY.out.b2 rfl
  have e2 := cell_at (j := 2) (v := .int .i64 0) HGY.out.b2 rfl
  have ef := froz_at HGY.out.b2
  have el := block_lt HGY.out.b2
  refine wpH_take (i := 0) (v := (.pointer (some ⟨w.heap.size, 3, none⟩))) (some 45) rfl rfl (by kernel_rfl) (by kernel_rfl) (by kernel_rfl) (fun _ _ _ h => h) (Or.inl ⟨by rfl, fun w' hS => (by go_simp)⟩) s0 ?_
  try simp only [Go.Act.put, List.setIfInBounds_toArray, List.set_cons_zero, List.set_cons_succ]
  refine wpH_take (i := 1) (v := (.int .i64 on)) (some 46) rfl rfl (by kernel_rfl) (by kernel_rfl) (by kernel_rfl) (fun _ _ _ h => h) (Or.inl ⟨by rfl, fun w' hS => (by have z0 := x3 _ hS; go_simp)⟩) s0 ?_
  try simp only [Go.Act.put, List.setIfInBounds_toArray, List.set_cons_zero, List.set_cons_succ]
  refine wpH_take (i := 2) (v := (.pointer (some ⟨w.heap.size + 1 + 1, 0, none⟩))) (some 47) rfl rfl (by kernel_rfl) (by kernel_rfl) (by kernel_rfl) (fun _ _ _ h => h) (Or.inl ⟨by rfl, fun w' hS => (by go_simp)⟩) s0 ?_
  try simp only [Go.Act.put, List.setIfInBounds_toArray, List.set_cons_zero, List.set_cons_succ]
  refine wpH_call (i := 3) (o := { dst := none, op := Op.store 3 (Operand.tmp 47) (Operand.const (Value.int IntKind.i64 2)), type := 0, pos := _, after := #[{ on := 2, ground := Ground.data }, { on := 0, ground := Ground.textOnly Departure.lateStores }, { on := 1, ground := Ground.textOnly Departure.lateStores }], guard := none }) (by kernel_rfl) rfl (fun K' hK => ?_)
  rw [if_pos (by rfl)]
  go_simp
  refine hK.out _ _ (((Touch.refl _ _).setCell (Or.inl (by simp)) _).drew) ?_
  clear hK
  try simp only [Go.Act.put, List.setIfInBounds_toArray, List.set_cons_zero, List.set_cons_succ]
  refine wpH_take (i := 4) (v := (.pointer (some ⟨w.heap.size + 1 + 1, 2, none⟩))) (some 48) rfl rfl (by kernel_rfl) (by kernel_rfl) (by kernel_rfl) (fun _ _ _ h => h) (Or.inl ⟨by rfl, fun w' hS => (by go_simp)⟩) (((Touch.refl _ _).setCell (Or.inl (by simp)) _).drew) ?_
  try simp only [Go.Act.put, List.setIfInBounds_toArray, List.set_cons_zero, List.set_cons_succ]
  refine wpH_call (i := 5) (o := { dst := none, op := Op.store 2 (Operand.tmp 48) (Operand.tmp 46), type := 0, pos := _, after := #[{ on := 4, ground := Ground.data }, { on := 1, ground := Ground.data }, { on := 3, ground := Ground.chain }, { on := 0, ground := Ground.phase }, { on := 1, ground := Ground.phase }, { on := 2, ground := Ground.phase }, { on := 3, ground := Ground.phase }], guard := none }) (by kernel_rfl) rfl (fun K' hK => ?_)
  rw [if_pos (by rfl)]
  go_simp
  refine hK.out _ _ ((((Touch.refl _ _).setCell (Or.inl (by simp)) _).setCell (Or.inl (by simp)) _).drew) ?_
  clear hK
  try simp only [Go.Act.put, List.setIfInBounds_toArray, List.set_cons_zero, List.set_cons_succ]
  refine wpAnyH_done (by kernel_rfl) ?_ _
  obtain ⟨W, hW⟩ : ∃ W, W = ((Y.setCell ⟨w.heap.size + 1 + 1, 0, none⟩ (.int .i64 2)).setCell ⟨w.heap.size + 1 + 1, 2, none⟩ (.int .i64 on)).drew := ⟨_, rfl⟩
  rw [← hW]
  have HT : Hid (Touch [w.heap.size + 1 + 1] Y W) := hid (by rw [hW]; exact (((Touch.refl _ _).setCell (Or.inl (by simp)) _).setCell (Or.inl (by simp)) _).drew)
  have HGW : Hid (Gb w W q m 1 on 2 q0.1.run on 0) := hid (by rw [hW]; exact (HGY.out.done2 2 on).keep (Touch.refl [] _).drew (fun _ e => by cases e))
  have HQW := hid (HQY.out.keep HT.out (fun k hk => by simp at hk; omega))
  have HTW : Hid (Touch (b :: FG) w W) := hid ((HTY.out.mono (fun k hk => List.mem_cons_of_mem _ hk)).trans HT.out (fun k hk => Or.inr (by simp at hk; omega)))
  clear hW s0 x3 e0 e2 ef el
  go_upto_region 15 with fail
  refine wp_region_H (S := fun w' => Touch [b] W w') (by kernel_rfl) ?_
  have s0 : Touch [b] W W.drew := (Touch.refl _ _).drew
  have x0 : ∀ w', Touch [b] W w' → w'.cell? ⟨w.heap.size, 0, none⟩ = some (.int .i64 (q : Nat)) := fun w' T => cell_at (T.keep HGW.out.b0 (by simp; omega)) rfl
  have x1 : ∀ w', Touch [b] W w' → w'.cell? ⟨w.heap.size, 1, none⟩ = some (.int .i64 m) := fun w' T => cell_at (T.keep HGW.out.b0 (by simp; omega)) rfl
  have x2 : ∀ w', Touch [b] W w' → w'.cell? ⟨w.heap.size, 2, none⟩ = some (.int .i64 1) := fun w' T => cell_at (T.keep HGW.out.b0 (by simp; omega)) rfl
  have x3 : ∀ w', Touch [b] W w' → w'.cell? ⟨w.heap.size, 3, none⟩ = some (.int .i64 on) := fun w' T => cell_at (T.keep HGW.out.b0 (by simp; omega)) rfl
  have d3 : ∀ w', Touch [b] W w' → w'.cell? ⟨w.heap.size + 1 + 1, 3, none⟩ = some (.int .i64 0) := fun w' T => cell_at (T.keep HGW.out.b2 (by simp; omega)) rfl
  have s3 := cell_at (j := 3) (v := .int .i64 S.p) HQW.out.bl rfl
  have s4 := cell_at (j := 4) (v := .int .i64 S.n) HQW.out.bl rfl
  have s5 := cell_at (j := 5) (v := .int .i64 S.wt) HQW.out.bl rfl
  have s6 := cell_at (j := 6) (v := .int .i64 S.on) HQW.out.bl rfl
  have s7 := cell_at (j := 7) (v := .int .i64 S.tm) HQW.out.bl rfl
  have sf := froz_at HQW.out.bl
  have sl := block_lt HQW.out.bl
  refine wpH_take (i := 0) (v := (.pointer (some ⟨b, 0, none⟩))) (some 68) rfl rfl (by kernel_rfl) (by kernel_rfl) (by kernel_rfl) (fun _ _ _ h => h) (Or.inl ⟨by rfl, fun w' hS => (by go_simp)⟩) s0 ?_
  try simp only [Go.Act.put, List.setIfInBounds_toArray, List.set_cons_zero, List.set_cons_succ]
  refine wpH_take (i := 1) (v := (.pointer (some ⟨b, 0, none⟩))) (some 69) rfl rfl (by kernel_rfl) (by kernel_rfl) (by kernel_rfl) (fun _ _ _ h => h) (Or.inl ⟨by rfl, fun w' hS => (by go_simp)⟩) s0 ?_
  try simp only [Go.Act.put, List.setIfInBounds_toArray, List.set_cons_zero, List.set_cons_succ]
  refine wpH_take (i := 2) (v := (.agg #[.int .i64 (q : Nat), .int .i64 m, .int .i64 1, .int .i64 on])) (some 70) rfl rfl (by kernel_rfl) (by kernel_rfl) (by kernel_rfl) (fun _ _ _ h => h) (Or.inl ⟨by rfl, fun w' hS => (by have z0 := x0 _ hS; have z1 := x1 _ hS; have z2 := x2 _ hS; have z3 := x3 _ hS; go_simp)⟩) s0 ?_
  try simp only [Go.Act.put, List.setIfInBounds_toArray, List.set_cons_zero, List.set_cons_succ]
  refine wpH_take (i := 3) (v := (.pointer (some ⟨w.heap.size + 1 + 1, 3, none⟩))) (some 71) rfl rfl (by kernel_rfl) (by kernel_rfl) (by kernel_rfl) (fun _ _ _ h => h) (Or.inl ⟨by rfl, fun w' hS => (by go_simp)⟩) s0 ?_
  try simp only [Go.Act.put, List.setIfInBounds_toArray, List.set_cons_zero, List.set_cons_succ]
  refine wpH_take (i := 4) (v := (.int .i64 0)) (some 72) rfl rfl (by kernel_rfl) (by kernel_rfl) (by kernel_rfl) (fun _ _ _ h => h) (Or.inl ⟨by rfl, fun w' hS => (by have z0 := d3 _ hS; go_simp)⟩) s0 ?_
  try simp only [Go.Act.put, List.setIfInBounds_toArray, List.set_cons_zero, List.set_cons_succ]
  refine wpH_take (i := 5) (v := (.pointer (some ⟨b, 0, none⟩))) (some 73) rfl rfl (by kernel_rfl) (by kernel_rfl) (by kernel_rfl) (fun _ _ _ h => h) (Or.inl ⟨by rfl, fun w' hS => (by go_simp)⟩) s0 ?_
  try simp only [Go.Act.put, List.setIfInBounds_toArray, List.set_cons_zero, List.set_cons_succ]
  refine wpH_take (i := 6) (v := (.pointer (some ⟨b, 3, none⟩))) (some 74) rfl rfl (by kernel_rfl) (by kernel_rfl) (by kernel_rfl) (fun _ _ _ h => h) (Or.inl ⟨by rfl, fun w' hS => (by go_simp)⟩) s0 ?_
  try simp only [Go.Act.put, List.setIfInBounds_toArray, List.set_cons_zero, List.set_cons_succ]
  refine wpH_call (i := 7) (o := { dst := none, op := Op.store 76 (Operand.tmp 74) (Operand.tmp 70), type := 0, pos := _, after := #[{ on := 6, ground := Ground.data }, { on := 2, ground := Ground.data }, { on := 0, ground := Ground.phase }, { on := 1, ground := Ground.textOnly Departure.lateStores }, { on := 2, ground := Ground.phase }, { on := 3, ground := Ground.textOnly Departure.lateStores }, { on := 4, ground := Ground.textOnly Departure.lateStores }], guard := none }) (by kernel_rfl) rfl (fun K' hK => ?_)
  rw [if_pos (by rfl)]
  go_simp
  refine hK.out _ _ ((((((Touch.refl _ _).setCell (Or.inl (by simp)) _).setCell (Or.inl (by simp)) _).setCell (Or.inl (by simp)) _).setCell (Or.inl (by simp)) _).drew) ?_
  clear hK
  try simp only [Go.Act.put, List.setIfInBounds_toArray, List.set_cons_zero, List.set_cons_succ]
  refine wpH_take (i := 8) (v := (.pointer (some ⟨b, 0, none⟩))) (some 75) rfl rfl (by kernel_rfl) (by kernel_rfl) (by kernel_rfl) (fun _ _ _ h => h) (Or.inl ⟨by rfl, fun w' hS => (by go_simp)⟩) ((((((Touch.refl _ _).setCell (Or.inl (by simp)) _).setCell (Or.inl (by simp)) _).setCell (Or.inl (by simp)) _).setCell (Or.inl (by simp)) _).drew) ?_
  try simp only [Go.Act.put, List.setIfInBounds_toArray, List.set_cons_zero, List.set_cons_succ]
  refine wpH_take (i := 9) (v := (.pointer (some ⟨b, 7, none⟩))) (some 76) rfl rfl (by kernel_rfl) (by kernel_rfl) (by kernel_rfl) (fun _ _ _ h => h) (Or.inl ⟨by rfl, fun w' hS => (by go_simp)⟩) ((((((Touch.refl _ _).setCell (Or.inl (by simp)) _).setCell (Or.inl (by simp)) _).setCell (Or.inl (by simp)) _).setCell (Or.inl (by simp)) _).drew) ?_
  try simp only [Go.Act.put, List.setIfInBounds_toArray, List.set_cons_zero, List.set_cons_succ]
  refine wpH_call (i := 10) (o := { dst := none, op := Op.store 3 (Operand.tmp 76) (Operand.tmp 72), type := 0, pos := _, after := #[{ on := 9, ground := Ground.data }, { on := 4, ground := Ground.data }, { on := 7, ground := Ground.chain }, { on := 0, ground := Ground.phase }, { on := 1, ground := Ground.phase }, { on := 2, ground := Ground.phase }, { on := 3, ground := Ground.phase }, { on := 4, ground := Ground.phase }, { on := 5, ground := Ground.phase }, { on := 6, ground := Ground.phase }, { on := 7, ground := Ground.phase }], guard := none }) (by kernel_rfl) rfl (fun K' hK => ?_)
  rw [if_pos (by rfl)]
  go_simp
  refine hK.out _ _ (((((((Touch.refl _ _).setCell (Or.inl (by simp)) _).setCell (Or.inl (by simp)) _).setCell (Or.inl (by simp)) _).setCell (Or.inl (by simp)) _).setCell (Or.inl (by simp)) _).drew) ?_
  clear hK
  try simp only [Go.Act.put, List.setIfInBounds_toArray, List.set_cons_zero, List.set_cons_succ]
  refine wpAnyH_done (by kernel_rfl) ?_ _
  obtain ⟨W5, hW5⟩ : ∃ W5, W5 = (((((W.setCell ⟨b, 3, none⟩ (.int .i64 (q : Nat))).setCell ⟨b, 4, none⟩ (.int .i64 m)).setCell ⟨b, 5, none⟩ (.int .i64 1)).setCell ⟨b, 6, none⟩ (.int .i64 on)).setCell ⟨b, 7, none⟩ (.int .i64 0)).drew := ⟨_, rfl⟩
  rw [← hW5]
  have HF := hid (go_fin HGW.out HQW.out HTW.out (by simp) hbw W5 hW5)
  clear hW5 s0 x0 x1 x2 x3 d3 s3 s4 s5 s6 s7 sf sl
  have d0 := HF.out.1.d0
  have d1 := HF.out.1.d1
  have d2 := HF.out.1.d2
  have d3 := HF.out.1.d3
  have f0 := HF.out.1.f0
  have f1 := HF.out.1.f1
  have f2 := HF.out.1.f2
  have f3 := HF.out.1.f3
  have ff := HF.out.1.ff
  have zz := HF.out.1.z
  have HR := hid HF.out.2
  unfold fin4g at HR
  clear HF
  go_wp2
  refine bodyPost_ret (v := .tuple #[.agg #[.int .i64 2, .int .i64 q0.1.run, .int .i64 on, .int .i64 0], .int .i64 0]) (by simp [results, Tryd.results33, go_sem, f0, f1, f2, f3, d0, d1, d2, d3]) rfl ?_
  exact ⟨rfl, HR.out.1, HR.out.2.1⟩
set_option maxHeartbeats 8000000 in
set_option maxRecDepth 100000 in
theorem goOn_gerr (h : Lq w b r S vr vl) {q0 : Ip} {l0 : List Ip} (e : S.left = q0 :: l0) (q : Nat) (m on : Int) (er : Int) (her : er ≠ 0) (vg vc : Value) {FG : List Nat} (hFG : ∀ k ∈ FG, b < k ∧ k < w.heap.size) (hc : ∀ w1, Touch [] w w1 → Calls Tryd.prog 49 #[vg, .int .i64 on, .int .i64 S.num] w1 fun e w2 => e = .returned (.tuple #[.bool false, .int .i64 er]) ∧ Touch FG w1 w2) : Calls Tryd.prog 33 #[.pointer (some ⟨b, 0, none⟩), .agg #[.int .i64 q, .int .i64 m, .int .i64 1, .int .i64 on], vg, vc] w fun e w' => e = .returned (.tuple #[.agg #[.int .i64 0, .int .i64 0, .int .i64 0, .int .i64 0], .int .i64 er]) ∧ Lq w' b r S vr vl ∧ Touch FG w w' := by
  obtain ⟨al, cl, rfl, hcl⟩ := h.vform
  obtain ⟨g, off, rfl, hA⟩ := Its.item (i := 0) h.lf.its (by rw [e]; simp)
  have hq : S.left[0]'(by rw [e]; simp) = q0 := by simp [e]
  rw [hq] at hA
  simp only [Nat.zero_mul, Nat.add_zero] at hA
  have hbw : b < w.heap.size := block_lt h.bl
  obtain ⟨V, hV⟩ : ∃ V, V = ((w.alloc (.cells #[.int .i64 q, .int .i64 m, .int .i64 1, .int .i64 on] 76)).alloc (.cells #[.int .i64 0, .int .i64 0, .int .i64 0, .int .i64 0] 43)).alloc (.cells #[.int .i64 1, .int .i64 q0.1.run, .int .i64 0, .int .i64 0] 43) := ⟨_, rfl⟩
  have HG := hid (gb_start w q m 1 on q0.1.run V hV)
  have HL := hid h
  have y0 := hA.c0
  have c2 : w.cell? ⟨b, 2, none⟩ = some (.slice (some ⟨g, off, none⟩) S.left.length cl) := cell_at h.bl rfl
  have hzl : (0 : Int) < (S.left.length : Int) := by rw [e]; simp
  have hgw : g < w.heap.size := cell_lt' y0
  clear h hA hcl hq e
  go_enter Tryd.func33, Tryd.ntmps33
  go_upto_region 2 with fail
  rw [← hV]
  clear hV y0 c2
  have her' : (er != 0) = true := by simpa using her
  clear her
  have HC : Hid (Calls Tryd.prog 49 #[vg, .int .i64 on, .int .i64 S.num] V.drew fun e w2 => e = .returned (.tuple #[.bool false, .int .i64 er]) ∧ Touch FG V w2) := hid ((hc _ (HG.out.1.trans' (Touch.refl _ _).drew)).mono (by
    rintro e w2 ⟨rfl, g⟩
    exact ⟨rfl, ((Touch.refl FG V).drew).trans' g⟩))
  have x2 := cell_at (j := 2) (v := .int .i64 1) HG.out.2.b0 rfl
  go_upto_region 4 with fail
  clear x2
  refine wp_region_H (S := fun w' => Touch FG V w') (by kernel_rfl) ?_
  have s0 : Touch FG V V.drew := (Touch.refl _ _).drew
  have x3 : ∀ w', Touch FG V w' → w'.cell? ⟨w.heap.size, 3, none⟩ = some (.int .i64 on) := fun w' T => cell_at (T.keep HG.out.2.b0 (fun e => by have := hFG _ e; omega)) rfl
  have n0 : ∀ w', Touch FG V w' → w'.cell? ⟨b, 0, none⟩ = some (.int .i64 S.num) := fun w' T => cell_at (T.keep (HL.out.keep0 HG.out.1).bl (fun e => by have := hFG _ e; omega)) rfl
  refine wpH_take (i := 0) (v := (vg)) (some 28) rfl rfl (by kernel_rfl) (by kernel_rfl) (by kernel_rfl) (fun _ _ _ h => h) (Or.inl ⟨by rfl, fun w' hS => (by go_simp)⟩) s0 ?_
  try simp only [Go.Act.put, List.setIfInBounds_toArray, List.set_cons_zero, List.set_cons_succ]
  refine wpH_take (i := 1) (v := (.pointer (some ⟨w.heap.size, 3, none⟩))) (some 29) rfl rfl (by kernel_rfl) (by kernel_rfl) (by kernel_rfl) (fun _ _ _ h => h) (Or.inl ⟨by rfl, fun w' hS => (by go_simp)⟩) s0 ?_
  try simp only [Go.Act.put, List.setIfInBounds_toArray, List.set_cons_zero, List.set_cons_succ]
  refine wpH_take (i := 2) (v := (.int .i64 on)) (some 30) rfl rfl (by kernel_rfl) (by kernel_rfl) (by kernel_rfl) (fun _ _ _ h => h) (Or.inl ⟨by rfl, fun w' hS => (by have z0 := x3 _ hS; go_simp)⟩) s0 ?_
  try simp only [Go.Act.put, List.setIfInBounds_toArray, List.set_cons_zero, List.set_cons_succ]
  refine wpH_take (i := 3) (v := (.pointer (some ⟨b, 0, none⟩))) (some 31) rfl rfl (by kernel_rfl) (by kernel_rfl) (by kernel_rfl) (fun _ _ _ h => h) (Or.inl ⟨by rfl, fun w' hS => (by go_simp)⟩) s0 ?_
  try simp only [Go.Act.put, List.setIfInBounds_toArray, List.set_cons_zero, List.set_cons_succ]
  refine wpH_take (i := 4) (v := (.pointer (some ⟨b, 0, none⟩))) (some 32) rfl rfl (by kernel_rfl) (by kernel_rfl) (by kernel_rfl) (fun _ _ _ h => h) (Or.inl ⟨by rfl, fun w' hS => (by go_simp)⟩) s0 ?_
  try simp only [Go.Act.put, List.setIfInBounds_toArray, List.set_cons_zero, List.set_cons_succ]
  refine wpH_take (i := 5) (v := (.pointer (some ⟨b, 0, none⟩))) (some 33) rfl rfl (by kernel_rfl) (by kernel_rfl) (by kernel_rfl) (fun _ _ _ h => h) (Or.inl ⟨by rfl, fun w' hS => (by go_simp)⟩) s0 ?_
  try simp only [Go.Act.put, List.setIfInBounds_toArray, List.set_cons_zero, List.set_cons_succ]
  refine wpH_take (i := 6) (v := (.int .i64 S.num)) (some 34) rfl rfl (by kernel_rfl) (by kernel_rfl) (by kernel_rfl) (fun _ _ _ h => h) (Or.inl ⟨by rfl, fun w' hS => (by have z0 := n0 _ hS; go_simp)⟩) s0 ?_
  try simp only [Go.Act.put, List.setIfInBounds_toArray, List.set_cons_zero, List.set_cons_succ]
  refine wpH_call (i := 7) (o := { dst := some 35, op := Op.call { callee := Callee.value (Operand.func 49), args := #[Operand.tmp 28, Operand.tmp 30, Operand.tmp 34], argTypes := #[36, 3, 3] }, type := 123, pos := _, after := #[{ on := 0, ground := Ground.data }, { on := 2, ground := Ground.data }, { on := 6, ground := Ground.data }], guard := none }) (by kernel_rfl) rfl (fun K' hK => ?_)
  rw [if_pos (by rfl)]
  go_simp
  refine HC.out.mono ?_
  rintro e' Y ⟨rfl, gY⟩
  have hY : Touch FG V Y := gY
  refine hK.out _ _ hY ?_
  clear hK
  try simp only [Go.Act.put, List.setIfInBounds_toArray, List.set_cons_zero, List.set_cons_succ]
  refine wpH_take (i := 8) (v := (.tuple #[(.bool false), (.int .i64 er)])) (some 27) rfl rfl (by kernel_rfl) (by kernel_rfl) (by kernel_rfl) (fun _ _ _ h => h) (Or.inl ⟨by rfl, fun w' hS => (by go_simp)⟩) hY ?_
  try simp only [Go.Act.put, List.setIfInBounds_toArray, List.set_cons_zero, List.set_cons_succ]
  refine wpH_take (i := 9) (v := (.bool false)) (some 36) rfl rfl (by kernel_rfl) (by kernel_rfl) (by kernel_rfl) (fun _ _ _ h => h) (Or.inl ⟨by rfl, fun w' hS => (by go_simp)⟩) hY ?_
  try simp only [Go.Act.put, List.setIfInBounds_toArray, List.set_cons_zero, List.set_cons_succ]
  refine wpH_take (i := 10) (v := (.int .i64 er)) (some 37) rfl rfl (by kernel_rfl) (by kernel_rfl) (by kernel_rfl) (fun _ _ _ h => h) (Or.inl ⟨by rfl, fun w' hS => (by go_simp)⟩) hY ?_
  try simp only [Go.Act.put, List.setIfInBounds_toArray, List.set_cons_zero, List.set_cons_succ]
  refine wpH_take (i := 11) (v := (.bool false)) (some 11) rfl rfl (by kernel_rfl) (by kernel_rfl) (by kernel_rfl) (fun _ _ _ h => h) (Or.inl ⟨by rfl, fun w' hS => (by go_simp)⟩) hY ?_
  try simp only [Go.Act.put, List.setIfInBounds_toArray, List.set_cons_zero, List.set_cons_succ]
  refine wpH_take (i := 12) (v := (.int .i64 er)) (some 12) rfl rfl (by kernel_rfl) (by kernel_rfl) (by kernel_rfl) (fun _ _ _ h => h) (Or.inl ⟨by rfl, fun w' hS => (by go_simp)⟩) hY ?_
  try simp only [Go.Act.put, List.setIfInBounds_toArray, List.set_cons_zero, List.set_cons_succ]
  refine wpAnyH_done (by kernel_rfl) ?_ _
  have HY := hid hY
  clear s0 hY x3 n0 gY
  have HGY : Hid (Gb w Y q m 1 on 1 q0.1.run 0 0) := hid (HG.out.2.keep HY.out (fun k hk => (hFG k hk).2))
  have HQY := hid ((HL.out.keep0 HG.out.1).keep HY.out (fun k hk => (hFG k hk).1))
  have HTY : Hid (Touch FG w Y) := hid ((HG.out.1.mono (fun _ e => by cases e)).trans' HY.out)
  have f0 := cell_at (j := 0) (v := .int .i64 0) HGY.out.b1 rfl
  have f1 := cell_at (j := 1) (v := .int .i64 0) HGY.out.b1 rfl
  have f2 := cell_at (j := 2) (v := .int .i64 0) HGY.out.b1 rfl
  have f3 := cell_at (j := 3) (v := .int .i64 0) HGY.out.b1 rfl
  have ff := froz_at HGY.out.b1
  have fl := block_lt HGY.out.b1
  have HX : Hid (Lq (fin4g Y (w.heap.size + 1) 0 0 0 0) b r S vr (.slice (some ⟨g, off, none⟩) S.left.length cl) ∧ Touch FG w (fin4g Y (w.heap.size + 1) 0 0 0 0)) := hid (by
    have T6 := touch_fin4g Y (w.heap.size + 1) 0 0 0 0
    exact ⟨HQY.out.keep T6 (fun k hk => by simp at hk; omega), HTY.out.trans T6 (fun k hk => Or.inr (by simp at hk; omega))⟩)
  unfold fin4g at HX
  go_wp2
  refine bodyPost_ret (v := .tuple #[.agg #[.int .i64 0, .int .i64 0, .int .i64 0, .int .i64 0], .int .i64 er]) (by simp [results, Tryd.results33, go_sem, f0, f1, f2, f3]) rfl ?_
  exact ⟨rfl, HX.out⟩
set_option maxHeartbeats 8000000 in
set_option maxRecDepth 100000 in
theorem goOn_serr (h : Lq w b r S vr vl) {q0 : Ip} {l0 : List Ip} (e : S.left = q0 :: l0) (q : Nat) (m on : Int) (er : Int) (her : er ≠ 0) (vg vc : Value) {FG : List Nat} (hFG : ∀ k ∈ FG, b < k ∧ k < w.heap.size) (hc : ∀ w1, Touch [] w w1 → Calls Tryd.prog 50 #[vc, .int .i64 on] w1 fun e w2 => e = .returned (.tuple #[.int .i64 0, .int .i64 er]) ∧ Touch FG w1 w2) : Calls Tryd.prog 33 #[.pointer (some ⟨b, 0, none⟩), .agg #[.int .i64 q, .int .i64 m, .int .i64 2, .int .i64 on], vg, vc] w fun e w' => e = .returned (.tuple #[.agg #[.int .i64 0, .int .i64 0, .int .i64 0, .int .i64 0], .int .i64 er]) ∧ Lq w' b r S vr vl ∧ Touch FG w w' := by
  obtain ⟨al, cl, rfl, hcl⟩ := h.vform
  obtain ⟨g, off, rfl, hA⟩ := Its.item (i := 0) h.lf.its (by rw [e]; simp)
  have hq : S.left[0]'(by rw [e]; simp) = q0 := by simp [e]
  rw [hq] at hA
  simp only [Nat.zero_mul, Nat.add_zero] at hA
  have hbw : b < w.heap.size := block_lt h.bl
  obtain ⟨V, hV⟩ : ∃ V, V = ((w.alloc (.cells #[.int .i64 q, .int .i64 m, .int .i64 2, .int .i64 on] 76)).alloc (.cells #[.int .i64 0, .int .i64 0, .int .i64 0, .int .i64 0] 43)).alloc (.cells #[.int .i64 1, .int .i64 q0.1.run, .int .i64 0, .int .i64 0] 43) := ⟨_, rfl⟩
  have HG := hid (gb_start w q m 2 on q0.1.run V hV)
  have HL := hid h
  have y0 := hA.c0
  have c2 : w.cell? ⟨b, 2, none⟩ = some (.slice (some ⟨g, off, none⟩) S.left.length cl) := cell_at h.bl rfl
  have hzl : (0 : Int) < (S.left.length : Int) := by rw [e]; simp
  have hgw : g < w.heap.size := cell_lt' y0
  clear h hA hcl hq e
  go_enter Tryd.func33, Tryd.ntmps33
  go_upto_region 2 with fail
  rw [← hV]
  clear hV y0 c2
  have her' : (er != 0) = true := by simpa using her
  clear her
  have HC : Hid (Calls Tryd.prog 50 #[vc, .int .i64 on] V fun e w2 => e = .returned (.tuple #[.int .i64 0, .int .i64 er]) ∧ Touch FG V w2) := hid (hc _ HG.out.1)
  have x2 := cell_at (j := 2) (v := .int .i64 2) HG.out.2.b0 rfl
  have x3 := cell_at (j := 3) (v := .int .i64 on) HG.out.2.b0 rfl
  go_upto_region 12 with (go_at_call 50; refine HC.out.mono ?_; rintro e Y ⟨rfl, gY⟩; have HY := hid gY; clear gY)
  clear x2 x3
  have HGY : Hid (Gb w Y q m 2 on 1 q0.1.run 0 0) := hid (HG.out.2.keep HY.out (fun k hk => (hFG k hk).2))
  have HQY := hid ((HL.out.keep0 HG.out.1).keep HY.out (fun k hk => (hFG k hk).1))
  have HTY : Hid (Touch FG w Y) := hid ((HG.out.1.mono (fun _ e => by cases e)).trans' HY.out)
  have f0 := cell_at (j := 0) (v := .int .i64 0) HGY.out.b1 rfl
  have f1 := cell_at (j := 1) (v := .int .i64 0) HGY.out.b1 rfl
  have f2 := cell_at (j := 2) (v := .int .i64 0) HGY.out.b1 rfl
  have f3 := cell_at (j := 3) (v := .int .i64 0) HGY.out.b1 rfl
  have ff := froz_at HGY.out.b1
  have fl := block_lt HGY.out.b1
  have HX : Hid (Lq (fin4g Y (w.heap.size + 1) 0 0 0 0) b r S vr (.slice (some ⟨g, off, none⟩) S.left.length cl) ∧ Touch FG w (fin4g Y (w.heap.size + 1) 0 0 0 0)) := hid (by
    have T6 := touch_fin4g Y (w.heap.size + 1) 0 0 0 0
    exact ⟨HQY.out.keep T6 (fun k hk => by simp at hk; omega), HTY.out.trans T6 (fun k hk => Or.inr (by simp at hk; omega))⟩)
  unfold fin4g at HX
  go_wp2
  refine bodyPost_ret (v := .tuple #[.agg #[.int .i64 0, .int .i64 0, .int .i64 0, .int .i64 0], .int .i64 er]) (by simp [results, Tryd.results33, go_sem, f0, f1, f2, f3]) rfl ?_
  exact ⟨rfl, HX.out⟩
set_option maxHeartbeats 8000000 in
set_option maxRecDepth 100000 in
theorem goOn_slp (h : Lq w b r S vr vl) {q0 : Ip} {l0 : List Ip} (e : S.left = q0 :: l0) (q : Nat) (m on : Int) (vg : Value) {vc : Value} {c : Nat} {F : List Nat} {s : Cl.Cs} (hvc : vc = .pointer (some ⟨c, 0, none⟩)) (hck : Cl.Ck w c F s) (hF : ∀ k ∈ F, b < k) (hl : s.last < 4611686018427387904) (hd : W64 on) (he : Cl.inE s on = 0) : Calls Tryd.prog 33 #[.pointer (some ⟨b, 0, none⟩), .agg #[.int .i64 q, .int .i64 m, .int .i64 2, .int .i64 on], vg, vc] w fun e w' => e = .returned (.tuple #[.agg #[.int .i64 3, .int .i64 q0.1.run, .int .i64 on, .int .i64 (Cl.inN s on)], .int .i64 0]) ∧ Lq w' b r (goS S q m 2 on (Cl.inN s on)) vr vl ∧ ∃ F', Cl.Ck w' c F' (Cl.inS s on) ∧ Nf w F F' ∧ Touch (b :: F) w w' := by
  obtain ⟨al, cl, rfl, hcl⟩ := h.vform
  obtain ⟨g, off, rfl, hA⟩ := Its.item (i := 0) h.lf.its (by rw [e]; simp)
  have hq : S.left[0]'(by rw [e]; simp) = q0 := by simp [e]
  rw [hq] at hA
  simp only [Nat.zero_mul, Nat.add_zero] at hA
  have hbw : b < w.heap.size := block_lt h.bl
  obtain ⟨V, hV⟩ : ∃ V, V = ((w.alloc (.cells #[.int .i64 q, .int .i64 m, .int .i64 2, .int .i64 on] 76)).alloc (.cells #[.int .i64 0, .int .i64 0, .int .i64 0, .int .i64 0] 43)).alloc (.cells #[.int .i64 1, .int .i64 q0.1.run, .int .i64 0, .int .i64 0] 43) := ⟨_, rfl⟩
  have HG := hid (gb_start w q m 2 on q0.1.run V hV)
  have HL := hid h
  have y0 := hA.c0
  have c2 : w.cell? ⟨b, 2, none⟩ = some (.slice (some ⟨g, off, none⟩) S.left.length cl) := cell_at h.bl rfl
  have hzl : (0 : Int) < (S.left.length : Int) := by rw [e]; simp
  have hgw : g < w.heap.size := cell_lt' y0
  clear h hA hcl hq e
  go_enter Tryd.func33, Tryd.ntmps33
  go_upto_region 2 with fail
  rw [← hV]
  clear hV y0 c2
  subst hvc
  have hlt := hck.lt
  have HC : Hid (Calls Tryd.prog 50 #[.pointer (some ⟨c, 0, none⟩), .int .i64 on] V fun e w2 => e = .returned (.tuple #[.int .i64 (Cl.inN s on), .int .i64 0]) ∧ Cl.Nx V w2 c F (Cl.inS s on)) := hid (by
    have := Cl.in16 V c F s on (hck.keep0 HG.out.1) hl hd
    rw [he] at this
    exact this)
  have x2 := cell_at (j := 2) (v := .int .i64 2) HG.out.2.b0 rfl
  have x3 := cell_at (j := 3) (v := .int .i64 on) HG.out.2.b0 rfl
  clear hck hl hd he
  go_upto_region 12 with (go_at_call 50; refine HC.out.mono ?_; rintro e Y ⟨rfl, gY⟩; obtain ⟨F', k1, k2, k3⟩ := gY; have HK := hid k1; have HY := hid k2; have HN := hid k3; clear k1 k2 k3)
  clear x2 x3
  have HGY : Hid (Gb w Y q m 2 on 1 q0.1.run 0 0) := hid (HG.out.2.keep HY.out (fun k hk => hlt k hk))
  have HQY := hid ((HL.out.keep0 HG.out.1).keep HY.out (fun k hk => hF k hk))
  have HTY : Hid (Touch F w Y) := hid ((HG.out.1.mono (fun _ e => by cases e)).trans' HY.out)
  have HFN : Hid (∀ k ∈ F', b < k ∧ k ≠ w.heap.size ∧ k ≠ w.heap.size + 1 ∧ k ≠ w.heap.size + 1 + 1) := hid (fun k hk => by
    have z := HG.out.2.z
    rcases HN.out k hk with e | e
    · have := hF k e
      have := hlt k e
      omega
    · omega)
  have HNF : Hid (Nf w F F') := hid (fun k hk => (HN.out k hk).elim Or.inl (fun e => Or.inr (Nat.le_trans HG.out.1.size e)))
  obtain ⟨tm, htm⟩ : ∃ tm, tm = Cl.inN s on := ⟨_, rfl⟩
  rw [← htm]
  have HTM := hid htm
  clear htm HC HN
  go_upto_region 14 with fail
  refine wp_region_H (S := fun w' => Touch [w.heap.size + 1 + 1] Y w') (by kernel_rfl) ?_
  have s0 : Touch [w.heap.size + 1 + 1] Y Y.drew := (Touch.refl _ _).drew
  have x3 : ∀ w', Touch [w.heap.size + 1 + 1] Y w' → w'.cell? ⟨w.heap.size, 3, none⟩ = some (.int .i64 on) := fun w' T => cell_at (T.keep HGY.out.b0 (by simp; omega)) rfl
  have e0 := cell_at (j := 0) (v := .int .i64 1) HGY.out.b2 rfl
  have e2 := cell_at (j := 2) (v := .int .i64 0) HGY.out.b2 rfl
  have e3 := cell_at (j := 3) (v := .int .i64 0) HGY.out.b2 rfl
  have ef := froz_at HGY.out.b2
  have el := block_lt HGY.out.b2
  refine wpH_take (i := 0) (v := (.pointer (some ⟨w.heap.size, 3, none⟩))) (some 62) rfl rfl (by kernel_rfl) (by kernel_rfl) (by kernel_rfl) (fun _ _ _ h => h) (Or.inl ⟨by rfl, fun w' hS => (by go_simp)⟩) s0 ?_
  try simp only [Go.Act.put, List.setIfInBounds_toArray, List.set_cons_zero, List.set_cons_succ]
  refine wpH_take (i := 1) (v := (.int .i64 on)) (some 63) rfl rfl (by kernel_rfl) (by kernel_rfl) (by kernel_rfl) (fun _ _ _ h => h) (Or.inl ⟨by rfl, fun w' hS => (by have z0 := x3 _ hS; go_simp)⟩) s0 ?_
  try simp only [Go.Act.put, List.setIfInBounds_toArray, List.set_cons_zero, List.set_cons_succ]
  refine wpH_take (i := 2) (v := (.int .i64 tm)) (some 64) rfl rfl (by kernel_rfl) (by kernel_rfl) (by kernel_rfl) (fun _ _ _ h => h) (Or.inl ⟨by rfl, fun w' hS => (by go_simp)⟩) s0 ?_
  try simp only [Go.Act.put, List.setIfInBounds_toArray, List.set_cons_zero, List.set_cons_succ]
  refine wpH_take (i := 3) (v := (.pointer (some ⟨w.heap.size + 1 + 1, 0, none⟩))) (some 65) rfl rfl (by kernel_rfl) (by kernel_rfl) (by kernel_rfl) (fun _ _ _ h => h) (Or.inl ⟨by rfl, fun w' hS => (by go_simp)⟩) s0 ?_
  try simp only [Go.Act.put, List.setIfInBounds_toArray, List.set_cons_zero, List.set_cons_succ]
  refine wpH_call (i := 4) (o := { dst := none, op := Op.store 3 (Operand.tmp 65) (Operand.const (Value.int IntKind.i64 3)), type := 0, pos := _, after := #[{ on := 3, ground := Ground.data }, { on := 0, ground := Ground.textOnly Departure.lateStores }, { on := 1, ground := Ground.textOnly Departure.lateStores }, { on := 2, ground := Ground.textOnly Departure.lateStores }], guard := none }) (by kernel_rfl) rfl (fun K' hK => ?_)
  rw [if_pos (by rfl)]
  go_simp
  refine hK.out _ _ (((Touch.refl _ _).setCell (Or.inl (by simp)) _).drew) ?_
  clear hK
  try simp only [Go.Act.put, List.setIfInBounds_toArray, List.set_cons_zero, List.set_cons_succ]
  refine wpH_take (i := 5) (v := (.pointer (some ⟨w.heap.size + 1 + 1, 2, none⟩))) (some 66) rfl rfl (by kernel_rfl) (by kernel_rfl) (by kernel_rfl) (fun _ _ _ h => h) (Or.inl ⟨by rfl, fun w' hS => (by go_simp)⟩) (((Touch.refl _ _).setCell (Or.inl (by simp)) _).drew) ?_
  try simp only [Go.Act.put, List.setIfInBounds_toArray, List.set_cons_zero, List.set_cons_succ]
  refine wpH_call (i := 6) (o := { dst := none, op := Op.store 2 (Operand.tmp 66) (Operand.tmp 63), type := 0, pos := _, after := #[{ on := 5, ground := Ground.data }, { on := 1, ground := Ground.data }, { on := 4, ground := Ground.chain }, { on := 0, ground := Ground.phase }, { on := 1, ground := Ground.phase }, { on := 2, ground := Ground.textOnly Departure.lateStores }, { on := 3, ground := Ground.phase }, { on := 4, ground := Ground.phase }], guard := none }) (by kernel_rfl) rfl (fun K' hK => ?_)
  rw [if_pos (by rfl)]
  go_simp
  refine hK.out _ _ ((((Touch.refl _ _).setCell (Or.inl (by simp)) _).setCell (Or.inl (by simp)) _).drew) ?_
  clear hK
  try simp only [Go.Act.put, List.setIfInBounds_toArray, List.set_cons_zero, List.set_cons_succ]
  refine wpH_take (i := 7) (v := (.pointer (some ⟨w.heap.size + 1 + 1, 3, none⟩))) (some 67) rfl rfl (by kernel_rfl) (by kernel_rfl) (by kernel_rfl) (fun _ _ _ h => h) (Or.inl ⟨by rfl, fun w' hS => (by go_simp)⟩) ((((Touch.refl _ _).setCell (Or.inl (by simp)) _).setCell (Or.inl (by simp)) _).drew) ?_
  try simp only [Go.Act.put, List.setIfInBounds_toArray, List.set_cons_zero, List.set_cons_succ]
  refine wpH_call (i := 8) (o := { dst := none, op := Op.store 3 (Operand.tmp 67) (Operand.tmp 64), type := 0, pos := _, after := #[{ on := 7, ground := Ground.data }, { on := 2, ground := Ground.data }, { on := 6, ground := Ground.chain }, { on := 0, ground := Ground.phase }, { on := 1, ground := Ground.phase }, { on := 2, ground := Ground.phase }, { on := 3, ground := Ground.phase }, { on := 4, ground := Ground.phase }, { on := 5, ground := Ground.phase }, { on := 6, ground := Ground.phase }], guard := none }) (by kernel_rfl) rfl (fun K' hK => ?_)
  rw [if_pos (by rfl)]
  go_simp
  refine hK.out _ _ (((((Touch.refl _ _).setCell (Or.inl (by simp)) _).setCell (Or.inl (by simp)) _).setCell (Or.inl (by simp)) _).drew) ?_
  clear hK
  try simp only [Go.Act.put, List.setIfInBounds_toArray, List.set_cons_zero, List.set_cons_succ]
  refine wpAnyH_done (by kernel_rfl) ?_ _
  obtain ⟨W, hW⟩ : ∃ W, W = (((Y.setCell ⟨w.heap.size + 1 + 1, 0, none⟩ (.int .i64 3)).setCell ⟨w.heap.size + 1 + 1, 2, none⟩ (.int .i64 on)).setCell ⟨w.heap.size + 1 + 1, 3, none⟩ (.int .i64 tm)).drew := ⟨_, rfl⟩
  rw [← hW]
  have HT : Hid (Touch [w.heap.size + 1 + 1] Y W) := hid (by rw [hW]; exact ((((Touch.refl _ _).setCell (Or.inl (by simp)) _).setCell (Or.inl (by simp)) _).setCell (Or.inl (by simp)) _).drew)
  have HGW : Hid (Gb w W q m 2 on 3 q0.1.run on tm) := hid (by rw [hW]; exact (HGY.out.done3 3 on tm).keep (Touch.refl [] _).drew (fun _ e => by cases e))
  have HQW := hid (HQY.out.keep HT.out (fun k hk => by simp at hk; omega))
  have HTW : Hid (Touch (b :: F) w W) := hid ((HTY.out.mono (fun k hk => List.mem_cons_of_mem _ hk)).trans HT.out (fun k hk => Or.inr (by simp at hk; omega)))
  have HKW := hid (HK.out.keep HT.out (fun k hk e => by simp at e; exact (HFN.out k hk).2.2.2 e))
  clear hW s0 x3 e0 e2 e3 ef el
  go_upto_region 15 with fail
  refine wp_region_H (S := fun w' => Touch [b] W w') (by kernel_rfl) ?_
  have s0 : Touch [b] W W.drew := (Touch.refl _ _).drew
  have x0 : ∀ w', Touch [b] W w' → w'.cell? ⟨w.heap.size, 0, none⟩ = some (.int .i64 (q : Nat)) := fun w' T => cell_at (T.keep HGW.out.b0 (by simp; omega)) rfl
  have x1 : ∀ w', Touch [b] W w' → w'.cell? ⟨w.heap.size, 1, none⟩ = some (.int .i64 m) := fun w' T => cell_at (T.keep HGW.out.b0 (by simp; omega)) rfl
  have x2 : ∀ w', Touch [b] W w' → w'.cell? ⟨w.heap.size, 2, none⟩ = some (.int .i64 2) := fun w' T => cell_at (T.keep HGW.out.b0 (by simp; omega)) rfl
  have x3 : ∀ w', Touch [b] W w' → w'.cell? ⟨w.heap.size, 3, none⟩ = some (.int .i64 on) := fun w' T => cell_at (T.keep HGW.out.b0 (by simp; omega)) rfl
  have d3 : ∀ w', Touch [b] W w' → w'.cell? ⟨w.heap.size + 1 + 1, 3, none⟩ = some (.int .i64 tm) := fun w' T => cell_at (T.keep HGW.out.b2 (by simp; omega)) rfl
  have s3 := cell_at (j := 3) (v := .int .i64 S.p) HQW.out.bl rfl
  have s4 := cell_at (j := 4) (v := .int .i64 S.n) HQW.out.bl rfl
  have s5 := cell_at (j := 5) (v := .int .i64 S.wt) HQW.out.bl rfl
  have s6 := cell_at (j := 6) (v := .int .i64 S.on) HQW.out.bl rfl
  have s7 := cell_at (j := 7) (v := .int .i64 S.tm) HQW.out.bl rfl
  have sf := froz_at HQW.out.bl
  have sl := block_lt HQW.out.bl
  refine wpH_take (i := 0) (v := (.pointer (some ⟨b, 0, none⟩))) (some 68) rfl rfl (by kernel_rfl) (by kernel_rfl) (by kernel_rfl) (fun _ _ _ h => h) (Or.inl ⟨by rfl, fun w' hS => (by go_simp)⟩) s0 ?_
  try simp only [Go.Act.put, List.setIfInBounds_toArray, List.set_cons_zero, List.set_cons_succ]
  refine wpH_take (i := 1) (v := (.pointer (some ⟨b, 0, none⟩))) (some 69) rfl rfl (by kernel_rfl) (by kernel_rfl) (by kernel_rfl) (fun _ _ _ h => h) (Or.inl ⟨by rfl, fun w' hS => (by go_simp)⟩) s0 ?_
  try simp only [Go.Act.put, List.setIfInBounds_toArray, List.set_cons_zero, List.set_cons_succ]
  refine wpH_take (i := 2) (v := (.agg #[.int .i64 (q : Nat), .int .i64 m, .int .i64 2, .int .i64 on])) (some 70) rfl rfl (by kernel_rfl) (by kernel_rfl) (by kernel_rfl) (fun _ _ _ h => h) (Or.inl ⟨by rfl, fun w' hS => (by have z0 := x0 _ hS; have z1 := x1 _ hS; have z2 := x2 _ hS; have z3 := x3 _ hS; go_simp)⟩) s0 ?_
  try simp only [Go.Act.put, List.setIfInBounds_toArray, List.set_cons_zero, List.set_cons_succ]
  refine wpH_take (i := 3) (v := (.pointer (some ⟨w.heap.size + 1 + 1, 3, none⟩))) (some 71) rfl rfl (by kernel_rfl) (by kernel_rfl) (by kernel_rfl) (fun _ _ _ h => h) (Or.inl ⟨by rfl, fun w' hS => (by go_simp)⟩) s0 ?_
  try simp only [Go.Act.put, List.setIfInBounds_toArray, List.set_cons_zero, List.set_cons_succ]
  refine wpH_take (i := 4) (v := (.int .i64 tm)) (some 72) rfl rfl (by kernel_rfl) (by kernel_rfl) (by kernel_rfl) (fun _ _ _ h => h) (Or.inl ⟨by rfl, fun w' hS => (by have z0 := d3 _ hS; go_simp)⟩) s0 ?_
  try simp only [Go.Act.put, List.setIfInBounds_toArray, List.set_cons_zero, List.set_cons_succ]
  refine wpH_take (i := 5) (v := (.pointer (some ⟨b, 0, none⟩))) (some 73) rfl rfl (by kernel_rfl) (by kernel_rfl) (by kernel_rfl) (fun _ _ _ h => h) (Or.inl ⟨by rfl, fun w' hS => (by go_simp)⟩) s0 ?_
  try simp only [Go.Act.put, List.setIfInBounds_toArray, List.set_cons_zero, List.set_cons_succ]
  refine wpH_take (i := 6) (v := (.pointer (some ⟨b, 3, none⟩))) (some 74) rfl rfl (by kernel_rfl) (by kernel_rfl) (by kernel_rfl) (fun _ _ _ h => h) (Or.inl ⟨by rfl, fun w' hS => (by go_simp)⟩) s0 ?_
  try simp only [Go.Act.put, List.setIfInBounds_toArray, List.set_cons_zero, List.set_cons_succ]
  refine wpH_call (i := 7) (o := { dst := none, op := Op.store 76 (Operand.tmp 74) (Operand.tmp 70), type := 0, pos := _, after := #[{ on := 6, ground := Ground.data }, { on := 2, ground := Ground.data }, { on := 0, ground := Ground.phase }, { on := 1, ground := Ground.textOnly Departure.lateStores }, { on := 2, ground := Ground.phase }, { on := 3, ground := Ground.textOnly Departure.lateStores }, { on := 4, ground := Ground.textOnly Departure.lateStores }], guard := none }) (by kernel_rfl) rfl (fun K' hK => ?_)
  rw [if_pos (by rfl)]
  go_simp
  refine hK.out _ _ ((((((Touch.refl _ _).setCell (Or.inl (by simp)) _).setCell (Or.inl (by simp)) _).setCell (Or.inl (by simp)) _).setCell (Or.inl (by simp)) _).drew) ?_
  clear hK
  try simp only [Go.Act.put, List.setIfInBounds_toArray, List.set_cons_zero, List.set_cons_succ]
  refine wpH_take (i := 8) (v := (.pointer (some ⟨b, 0, none⟩))) (some 75) rfl rfl (by kernel_rfl) (by kernel_rfl) (by kernel_rfl) (fun _ _ _ h => h) (Or.inl ⟨by rfl, fun w' hS => (by go_simp)⟩) ((((((Touch.refl _ _).setCell (Or.inl (by simp)) _).setCell (Or.inl (by simp)) _).setCell (Or.inl (by simp)) _).setCell (Or.inl (by simp)) _).drew) ?_
  try simp only [Go.Act.put, List.setIfInBounds_toArray, List.set_cons_zero, List.set_cons_succ]
  refine wpH_take (i := 9) (v := (.pointer (some ⟨b, 7, none⟩))) (some 76) rfl rfl (by kernel_rfl) (by kernel_rfl) (by kernel_rfl) (fun _ _ _ h => h) (Or.inl ⟨by rfl, fun w' hS => (by go_simp)⟩) ((((((Touch.refl _ _).setCell (Or.inl (by simp)) _).setCell (Or.inl (by simp)) _).setCell (Or.inl (by simp)) _).setCell (Or.inl (by simp)) _).drew) ?_
  try simp only [Go.Act.put, List.setIfInBounds_toArray, List.set_cons_zero, List.set_cons_succ]
  refine wpH_call (i := 10) (o := { dst := none, op := Op.store 3 (Operand.tmp 76) (Operand.tmp 72), type := 0, pos := _, after := #[{ on := 9, ground := Ground.data }, { on := 4, ground := Ground.data }, { on := 7, ground := Ground.chain }, { on := 0, ground := Ground.phase }, { on := 1, ground := Ground.phase }, { on := 2, ground := Ground.phase }, { on := 3, ground := Ground.phase }, { on := 4, ground := Ground.phase }, { on := 5, ground := Ground.phase }, { on := 6, ground := Ground.phase }, { on := 7, ground := Ground.phase }], guard := none }) (by kernel_rfl) rfl (fun K' hK => ?_)
  rw [if_pos (by rfl)]
  go_simp
  refine hK.out _ _ (((((((Touch.refl _ _).setCell (Or.inl (by simp)) _).setCell (Or.inl (by simp)) _).setCell (Or.inl (by simp)) _).setCell (Or.inl (by simp)) _).setCell (Or.inl (by simp)) _).drew) ?_
  clear hK
  try simp only [Go.Act.put, List.setIfInBounds_toArray, List.set_cons_zero, List.set_cons_succ]
  refine wpAnyH_done (by kernel_rfl) ?_ _
  obtain ⟨W5, hW5⟩ : ∃ W5, W5 = (((((W.setCell ⟨b, 3, none⟩ (.int .i64 (q : Nat))).setCell ⟨b, 4, none⟩ (.int .i64 m)).setCell ⟨b, 5, none⟩ (.int .i64 2)).setCell ⟨b, 6, none⟩ (.int .i64 on)).setCell ⟨b, 7, none⟩ (.int .i64 tm)).drew := ⟨_, rfl⟩
  rw [← hW5]
  have HF := hid (go_fin HGW.out HQW.out HTW.out (by simp) hbw W5 hW5)
  clear hW5 s0 x0 x1 x2 x3 d3 s3 s4 s5 s6 s7 sf sl
  have d0 := HF.out.1.d0
  have d1 := HF.out.1.d1
  have d2 := HF.out.1.d2
  have d3 := HF.out.1.d3
  have f0 := HF.out.1.f0
  have f1 := HF.out.1.f1
  have f2 := HF.out.1.f2
  have f3 := HF.out.1.f3
  have ff := HF.out.1.ff
  have zz := HF.out.1.z
  have HR := hid HF.out.2
  unfold fin4g at HR
  clear HF
  go_wp2
  refine bodyPost_ret (v := .tuple #[.agg #[.int .i64 3, .int .i64 q0.1.run, .int .i64 on, .int .i64 tm], .int .i64 0]) (by simp [results, Tryd.results33, go_sem, f0, f1, f2, f3, d0, d1, d2, d3]) rfl ?_
  exact ⟨by rw [HTM.out], by rw [← HTM.out]; exact HR.out.1, F', HKW.out.keep HR.out.2.2 (fun k hk e => by simp at e; have := HFN.out k hk; omega), HNF.out, HR.out.2.1⟩
end
end Go.Proofs.YtcbckehdlbbbbaaDoor
/- Steps of a recipe as the program's own calls tell them, with the error; the conditions: the recipe may be and lies in memory, the table holds what the start lays, the state is ready, the key's space is a number of 16 bits. -/
namespace Go.Proofs.YtcbckehdlbbbbaaDoor.Rc
open Go.RowKit Go.Sort
set_option linter.unusedVariables false
set_option linter.unusedSimpArgs false

/-- a step's answer with no error -/
def rs4 (R : Rs) : Value := R.elim (fun z => .tuple #[ckV (z.1 : Int) z.2.1 z.2.2.1 z.2.2.2, otV 0 0 0 0, .bool false, .int .i64 0]) (fun z => .tuple #[ckV 0 0 0 0, otV z.1 z.2.1 z.2.2.1 z.2.2.2, .bool true, .int .i64 0])
theorem rs_parts (R : Rs) : ∃ (k0 k1 k2 k3 o0 o1 o2 o3 : Int) (bb : Bool), rsV R = .tuple #[.agg #[.int .i64 k0, .int .i64 k1, .int .i64 k2, .int .i64 k3], .agg #[.int .i64 o0, .int .i64 o1, .int .i64 o2, .int .i64 o3], .bool bb] ∧ rs4 R = .tuple #[.agg #[.int .i64 k0, .int .i64 k1, .int .i64 k2, .int .i64 k3], .agg #[.int .i64 o0, .int .i64 o1, .int .i64 o2, .int .i64 o3], .bool bb, .int .i64 0] := by
  rcases R with ⟨q, m, wt, o⟩ | ⟨v, k, c, r⟩
  · exact ⟨q, m, wt, o, 0, 0, 0, 0, false, rfl, rfl⟩
  · exact ⟨0, 0, 0, 0, v, k, c, r, true, rfl, rfl⟩
set_option maxHeartbeats 2000000 in
theorem do12 (L : List Sp) (A : Option Addr) (c : Nat) (p : Nat) (n on : Int) (x : Ar) (w : World) (hk : Kd w) (hs : Sl w A L) (hg : Good L) (hw : WfS L) (hn : I64 n) (hp : p ≤ L.length) (hx : x.ok) :
    Calls Tryd.prog 32 #[.slice A L.length c, .agg #[.int .i64 p, .int .i64 n, .int .i64 0, .int .i64 on], .agg #[.int .u16 x.sp, .string x.nm, .int .i64 x.r, .bool x.cn]] w fun e w' => (∃ R, e = .returned (rs4 R) ∧ R = x.f L p n) ∧ Gr w w' := by
  have HC : Hid _ := ready30_ok L A c p n on ((((w.alloc (.cells #[.int .i64 p, .int .i64 n, .int .i64 0, .int .i64 on] 76)).alloc (.cells #[.int .u16 x.sp, .string x.nm, .int .i64 x.r, .bool x.cn] 71)).alloc (.cells #[.int .i64 0, .int .i64 0, .int .i64 0, .int .i64 0] 76)).alloc (.cells #[.int .i64 0, .int .i64 0, .int .i64 0, .int .i64 0] 51)) (hk.gr (onB_start w p n on x).g) (hs.gr (onB_start w p n on x).g) hw hg hp
  have HD : Hid _ := fun w' (hg' : Gr w w') => do31 L A c p n on x w' (hs.gr hg') hg hn hp hx
  clear hk hs hg hw hn hp hx
  go_enter Tryd.func32, Tryd.ntmps32
  go_wp2_with fail
  refine Calls.mono HC.out ?_
  rintro e w0 ⟨rfl, hg0⟩
  have HB : Hid (OnB w w0 p n on x) := (onB_start w p n on x).gr hg0
  have a0 := HB.out.b0.c0
  have a1 := HB.out.b0.c1
  have a2 := HB.out.b0.c2
  have a3 := HB.out.b0.c3
  have b0 := HB.out.b1.c0
  have b1 := HB.out.b1.c1
  have b2 := HB.out.b1.c2
  have b3 := HB.out.b1.c3
  clear HC hg0
  go_wp2_with fail
  refine Calls.mono (HD.out _ HB.out.g) ?_
  rintro e w1 ⟨rfl, hg⟩
  obtain ⟨k0, k1, k2, k3, v, k, cc, r, bb, hR1, hR2⟩ := rs_parts (x.f L p n)
  rw [hR1]
  have HE : Hid (∃ R, Ending.returned (.tuple #[.agg #[.int .i64 k0, .int .i64 k1, .int .i64 k2, .int .i64 k3], .agg #[.int .i64 v, .int .i64 k, .int .i64 cc, .int .i64 r], .bool bb, .int .i64 0]) = .returned (rs4 R) ∧ R = x.f L p n) := ⟨_, by rw [hR2], rfl⟩
  clear hR1 hR2 HD 
  have HB2 : Hid (OnB w ((w1.alloc (.cells #[.int .i64 k0, .int .i64 k1, .int .i64 k2, .int .i64 k3] 76)).alloc (.cells #[.int .i64 v, .int .i64 k, .int .i64 cc, .int .i64 r] 51)) p n on x) := (HB.out.gr hg).gr (((Gr.refl _).alloc _).alloc _)
  clear a0 a1 a2 a3 b0 b1 b2 b3
  have HN : Hid (Bx ((w1.alloc (.cells #[.int .i64 k0, .int .i64 k1, .int .i64 k2, .int .i64 k3] 76)).alloc (.cells #[.int .i64 v, .int .i64 k, .int .i64 cc, .int .i64 r] 51)) w1.heap.size (.int .i64 k0) (.int .i64 k1) (.int .i64 k2) (.int .i64 k3)) := (bx_new w1 _ _ _ _ _).al _
  have HN2 : Hid (Bx ((w1.alloc (.cells #[.int .i64 k0, .int .i64 k1, .int .i64 k2, .int .i64 k3] 76)).alloc (.cells #[.int .i64 v, .int .i64 k, .int .i64 cc, .int .i64 r] 51)) (w1.heap.size + 1) (.int .i64 v) (.int .i64 k) (.int .i64 cc) (.int .i64 r)) := by
    have := bx_new (w1.alloc (.cells #[.int .i64 k0, .int .i64 k1, .int .i64 k2, .int .i64 k3] 76)) (.int .i64 v) (.int .i64 k) (.int .i64 cc) (.int .i64 r) 51
    simp only [World.size_alloc] at this
    exact this
  have hlt := (HB.out.gr hg).b3.lt
  go_wp2_with fail
  generalize hV : (w1.alloc (.cells #[.int .i64 k0, .int .i64 k1, .int .i64 k2, .int .i64 k3] 76)).alloc (.cells #[.int .i64 v, .int .i64 k, .int .i64 cc, .int .i64 r] 51) = V at *
  clear hV
  obtain ⟨R2, hR2⟩ : ∃ R2, w.heap.size + 1 + 1 = R2 := ⟨_, rfl⟩
  obtain ⟨R3, hR3⟩ : ∃ R3, w.heap.size + 1 + 1 + 1 = R3 := ⟨_, rfl⟩
  obtain ⟨N1, hN1⟩ : ∃ N1, w1.heap.size = N1 := ⟨_, rfl⟩
  obtain ⟨N2, hN2⟩ : ∃ N2, w1.heap.size + 1 = N2 := ⟨_, rfl⟩
  have n1 : ¬ R2 = R3 := by omega
  have n2 : ¬ R2 = N1 := by omega
  have n3 : ¬ R2 = N2 := by omega
  have n4 : ¬ R3 = N1 := by omega
  have n5 : ¬ R3 = N2 := by omega
  have HG : Hid (Gr w V ∧ w.heap.size ≤ R2 ∧ w.heap.size ≤ R3) := ⟨HB2.out.g, by omega, by omega⟩
  have B2 := HB2.out.b2
  have B3 := HB2.out.b3
  have M1 := HN.out
  have M2 := HN2.out
  rw [hR3] at B3 ⊢
  rw [hR2] at B2 ⊢
  rw [hN2] at M2 ⊢
  rw [hN1] at M1 ⊢
  clear hR2 hR3 hN1 hN2 HB2 HN HN2 hg hlt HB
  have HX : Hid _ := (B3.far n1 (.int .i64 k0) (.int .i64 k1) (.int .i64 k2) (.int .i64 k3)).set (.int .i64 v) (.int .i64 k) (.int .i64 cc) (.int .i64 r)
  have HY : Hid _ := (B2.set (.int .i64 k0) (.int .i64 k1) (.int .i64 k2) (.int .i64 k3)).far (fun e => n1 e.symm) (.int .i64 v) (.int .i64 k) (.int .i64 cc) (.int .i64 r)
  obtain ⟨_, p0, p1, p2, p3, q0, q1, q2, q3⟩ := B2
  obtain ⟨_, r0, r1, r2, r3, s0, s1, s2, s3⟩ := B3
  obtain ⟨_, t0, t1, t2, t3, _, _, _, _⟩ := M1
  obtain ⟨_, v0, v1, v2, v3, _, _, _, _⟩ := M2
  go_region
  all_goals
    go_wp2
    obtain ⟨_, x0, x1, x2, x3, _, _, _, _⟩ := HX.out
    obtain ⟨_, y0, y1, y2, y3, _, _, _, _⟩ := HY.out
    have hw := ((HG.out.1.set4 HG.out.2.1 (.int .i64 k0) (.int .i64 k1) (.int .i64 k2) (.int .i64 k3)).set4 HG.out.2.2 (.int .i64 v) (.int .i64 k) (.int .i64 cc) (.int .i64 r)).drew
    generalize V.setCell ⟨R2, 0, none⟩ (.int .i64 k0) = V1 at *
    exact bodyPost_ret (v := .tuple #[.agg #[.int .i64 k0, .int .i64 k1, .int .i64 k2, .int .i64 k3], .agg #[.int .i64 v, .int .i64 k, .int .i64 cc, .int .i64 r], .bool bb, .int .i64 0]) (by simp [results, Tryd.results32, go_sem, x0, x1, x2, x3, y0, y1, y2, y3]) rfl ⟨HE.out, hw⟩
end Go.Proofs.YtcbckehdlbbbbaaDoor.Rc
