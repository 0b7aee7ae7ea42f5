/- The contract of the document's Make. -/
import Derived.Test.YtbjnajiicljnbaaRle
namespace Go.Proofs.Ytbjnajiicljnbaa
open Go.RowKit Go.Maps Go.ChangeMaps
set_option linter.unusedVariables false
theorem step_append_own {P : Program} (w : World) {ops : Array Oper} {o : Oper} {a : Go.Act} {K : Go.Act → World → Prop} {Q : Exit → Go.Act → World → Prop} {E : Prop} (hgd : o.guard = none) (s x : Operand) (t : TypeId)
    (ho : o.op = .call { callee := .builtin .append, args := #[s, x], argTypes := #[t, t] })
    (base : Nat) (e : TypeId) (i : TypeInfo) (z : Value) (size bytes : Nat) (ht : P.underlying t = some (.slice e)) (hi : P.info? e = some i) (hz : i.zero = some z)
    (hsize : i.size = size) (hby : i.bytes = bytes) (hzs : z.cells.size = size) (hsz : 0 < size)
    (v : Value) (n : Nat) (xs : List Value) (hs : a.eval s = v) (hown : w.ownsRow base e size v n xs)
    (ad : Addr) (m c : Nat) (news : List Value) (hx : a.eval x = .slice (some ad) m c) (hl : news.length = m * size) (hnews : ∀ j u, news[j]? = some u → w.cell? (ad.add j) = some u) (h1 : ∀ u ∈ news, u.oneCell' = true)
    (h63 : n + m ≤ maxLen) (hbytes : (n + m) * bytes ≤ 140737488355328) (hbase : base ≤ w.heap.size)
    (h : ∀ v' w', w'.ownsRow base e size v' (n + m) (xs ++ news) → w.grownBy w' v.ownBlock → (v' = .slice none 0 0 ↔ v = .slice none 0 0 ∧ m = 0) → K (a.put o.dst v') w') :
    if Region.wanted o (yielded ops a.tmps) = true then Oper.wp P o a w K Q else E := by
  have hw : Region.wanted o (yielded ops a.tmps) = true := by simp [Region.wanted, hgd]
  rw [if_pos hw]
  exact wp_append_own w s x t ho base e i z size bytes ht hi hz hsize hby hzs hsz v n xs hs hown ad m c news hx hl hnews h1 h63 hbytes hbase h
theorem own_some {w : World} {B e k n : Nat} {v : Value} {xs : List Value} (h : w.ownsRow B e k v n xs) (hv : v ≠ .slice none 0 0) : ∃ g c, v = .slice (some ⟨g, 0, none⟩) n c := by
  rcases h.2 with ⟨e, _⟩ | ⟨g, cap, cur, e, _⟩
  · exact absurd e hv
  · exact ⟨g, cap, e⟩
theorem cell_three_at (w : World) (b : Nat) (x y z : Value) (t : TypeId) (h : w.heap[b]? = some (.cells #[x, y, z] t (0, 0))) : ∀ j u, [x, y, z][j]? = some u → w.cell? ((⟨b, 0, none⟩ : Addr).add j) = some u := by
  intro j u hj
  match j, hj with
  | 0, hj => simp at hj; subst hj; simp [Addr.add, World.cell?, h]
  | 1, hj => simp at hj; subst hj; simp [Addr.add, World.cell?, h]
  | 2, hj => simp at hj; subst hj; simp [Addr.add, World.cell?, h]
theorem flat3_make {S : List Tk} {p : Nat} (h2 : p ≤ S.length) : flat3 (makeS S p) = flat3 S ++ [.int .i64 (p : Nat), .int .i64 0, .int .i64 ((if p = 0 then 0 else (tk S p).why : Nat) : Int)] := by
  unfold makeS
  by_cases e : p = 0
  · subst e
    rw [if_pos rfl, if_pos rfl, flat3_app]
    rfl
  · rw [if_neg e, if_neg e, flat3_app]
    congr 1
    have hp : p - 1 < S.length := by omega
    rw [flat3_set S (p - 1) _ hp]
    obtain ⟨a0, a1, a2⟩ := flat3_at S (p - 1) hp
    have b0 : (flat3 S).set ((p - 1) * 3) (.int .i64 ((tk S p).par : Nat)) = flat3 S := set_same a0
    have b1 : (flat3 S).set ((p - 1) * 3 + 1) (.int .i64 ((tk S p).hol : Nat)) = flat3 S := set_same a1
    have b2 : (flat3 S).set ((p - 1) * 3 + 2) (.int .i64 ((tk S p).why : Nat)) = flat3 S := set_same a2
    show (((flat3 S).set ((p - 1) * 3) (.int .i64 ((tk S p).par : Nat))).set ((p - 1) * 3 + 1) (.int .i64 ((tk S p).hol : Nat))).set ((p - 1) * 3 + 2) (.int .i64 ((tk S p).why : Nat)) = flat3 S
    rw [b0, b1, b2]
/-- What the document's Make answers. -/
def RmE (e : Ending) (w w' : World) (B g : Nat) (S : List Tk) (i : Int) : Prop := ∃ g' c', e = .returned (.tuple #[.slice (some ⟨g', 0, none⟩) (mkS S i).length c', .int .i64 (mkN S i), .int .i64 (mkE S i)]) ∧ RR w' B g' c' (mkS S i) ∧ Touch [] w w' ∧ (g' = g ∨ w.heap.size ≤ g')
/-- How the new token lies ahead of the appends. -/
structure Rx (w W : World) (B g c b : Nat) (S : List Tk) (p y : Int) : Prop where
  rr : RR W B g c S
  bx : W.heap[b]? = some (.cells #[.int .i64 p, .int .i64 0, .int .i64 y] 39 (0, 0))
  tc : Touch [] w W
theorem made2 (W : World) (o o' : Obj) : ((W.alloc o).alloc o').heap[W.heap.size]? = some o := by
  rw [Below.heap_alloc _ _ _ (by simp)]
  exact heap_alloc_new W o
theorem made3 (W : World) (o o' : Obj) : ((W.alloc o).alloc o').heap[W.heap.size + 1]? = some o' := by
  have := heap_alloc_new (W.alloc o) o'
  simpa using this
/-- The first of the two appends, in whatever world it comes up. -/
structure Cs (W X : World) (g AD b N : Nat) (S : List Tk) (p y : Int) : Prop where
  made : X.ownsRow W.heap.size 39 3 (.slice (some ⟨AD, 0, none⟩) 0 0) 0 []
  cells : ∀ j u, (flat3 S)[j]? = some u → X.cell? ((⟨g, 0, none⟩ : Addr).add j) = some u
  size : W.heap.size ≤ X.heap.size
  next : ∀ v1 w1, w1.ownsRow W.heap.size 39 3 v1 (0 + N) ([] ++ flat3 S) → X.grownBy w1 (Value.slice (some ⟨AD, 0, none⟩) 0 0).ownBlock → (v1 = .slice none 0 0 ↔ Value.slice (some ⟨AD, 0, none⟩) 0 0 = .slice none 0 0 ∧ N = 0) → ∃ g1 c1, v1 = .slice (some ⟨g1, 0, none⟩) N c1 ∧ w1.ownsRow W.heap.size 39 3 (.slice (some ⟨g1, 0, none⟩) N c1) N (flat3 S) ∧ Touch [] W w1 ∧ (w1.cell? ⟨b, 0, none⟩ = some (.int .i64 p) ∧ w1.cell? ⟨b, 1, none⟩ = some (.int .i64 0) ∧ w1.cell? ⟨b, 2, none⟩ = some (.int .i64 y)) ∧ ∀ k, k ≠ AD → k < X.heap.size → w1.heap[k]? = X.heap[k]?
theorem Rx.copy {w W X : World} {B g c b AD N : Nat} {S : List Tk} {p y : Int} (A : Rx w W B g c b S p y) (hN : N = S.length) (hX : Touch [] W X) (hAD : X.heap[AD]? = some (.cells #[] 39 (0, 0))) (hlt : W.heap.size ≤ AD) : Cs W X g AD b N S p y := by
  have hr := A.rr.keep0 hX
  refine ⟨own_of_cells hAD hlt (Nat.le_refl _) (by unfold maxLen; omega) rfl rfl (fun p v hp => by simp at hp), fun j u hu => ?_, hX.size, fun v1 w1 r gr nn => ?_⟩
  · have := own_cell hr hu
    by_cases hj : j = 0
    · subst hj
      simpa [Addr.add] using this
    · simpa [Addr.add, hj] using this
  · obtain ⟨g1, c1, rfl⟩ := own_some r (fun e => by have := (nn.1 e).1; cases this)
    rw [Nat.zero_add, List.nil_append] at r
    rw [Nat.zero_add]
    have T1 : Touch [AD] X w1 := (Touch.refl _ _).grown gr (fun k hk => Or.inl (by simp [Value.ownBlock] at hk; simp [hk]))
    have T2 : Touch [] W w1 := hX.trans T1 (fun i hi => Or.inr (by simp at hi; omega))
    have hb := T2.keep A.bx (by simp)
    exact ⟨g1, c1, rfl, r, T2, by simp [World.cell?, hb], fun k hk hl => T1.block k hl (by simpa using hk)⟩
section
variable (w : World) (B g c : Nat) (S : List Tk)
theorem rmake18_no (i : Int) (h : RR w B g c S) (h0 : i ≠ 0) (hv : vaB S i = false) : Calls Try.prog 18 #[.slice (some ⟨g, 0, none⟩) S.length c, .int .i64 i] w fun e w' => RmE e w w' B g S i := by
  have HI := hid (ris9 w g c S i)
  rw [hv] at HI
  have HE : Hid (RmE (.returned (.tuple #[.slice (some ⟨g, 0, none⟩) S.length c, .int .i64 0, .int .i64 60])) w w B g S i) := by
    have e : mkB S i = false := by unfold mkB; rw [hv]; simp [h0]
    refine ⟨g, c, ?_, ?_, Touch.refl _ _, Or.inl rfl⟩
    · unfold mkS mkN mkE; rw [e]; rfl
    · unfold mkS; rw [e]; exact h
  have hb : (i != 0) = true := by simp [h0]
  clear h hv h0
  generalize S.length = N at *
  go_enter Try.func18, Try.ntmps18
  go_wp2_with (go_at_call 9; refine HI.out.mono ?_; rintro e w ⟨rfl, rfl⟩)
  exact bodyPost_ret (v := .tuple #[.slice (some ⟨g, 0, none⟩) N c, .int .i64 0, .int .i64 60]) (by simp [results, Try.results18, go_sem]) rfl HE.out
set_option maxHeartbeats 2000000 in
set_option maxRecDepth 100000 in
theorem rmake18_top (h : RR w B g c S) (hB : B ≤ w.heap.size) (hle : S.length < 65536) : Calls Try.prog 18 #[.slice (some ⟨g, 0, none⟩) S.length c, .int .i64 0] w fun e w' => RmE e w w' B g S 0 := by
  obtain ⟨i0, hi, hz0, hz1, hz2⟩ := info_parts info39
  obtain ⟨W, hW⟩ : ∃ W, W = w.alloc (.cells #[.int .i64 0, .int .i64 0, .int .i64 0] 39) := ⟨_, rfl⟩
  have A : Rx w W B g c w.heap.size S 0 0 := by
    have T : Touch [] w W := by rw [hW]; exact (Touch.refl _ _).alloc _
    exact ⟨h.keep0 T, by rw [hW]; exact heap_alloc_new _ _, T⟩
  have HW := hid hW
  have HC1 : Hid (Cs W (W.alloc (.cells #[] 39)).drew g W.heap.size w.heap.size S.length S 0 0) := A.copy rfl ((Touch.refl [] W).alloc _).drew (heap_alloc_new _ _) (Nat.le_refl _)
  have HC2 : Hid (Cs W ((W.alloc (.cells #[] 39)).alloc (.cells #[.int .i64 0, .int .i64 0, .int .i64 0] 39)).drew g W.heap.size w.heap.size S.length S 0 0) := A.copy rfl (((Touch.refl [] W).alloc _).alloc _).drew (made2 _ _ _) (Nat.le_refl _)
  have HC3 : Hid (Cs W ((W.alloc (.cells #[.int .i64 0, .int .i64 0, .int .i64 0] 39)).alloc (.cells #[] 39)).drew g (W.heap.size + 1) w.heap.size S.length S 0 0) := A.copy rfl (((Touch.refl [] W).alloc _).alloc _).drew (made3 _ _ _) (by omega)
  have bx0 : W.cell? ⟨w.heap.size, 0, none⟩ = some (.int .i64 0) := by simp [World.cell?, A.bx]
  have bx1 : W.cell? ⟨w.heap.size, 1, none⟩ = some (.int .i64 0) := by simp [World.cell?, A.bx]
  have bx2 : W.cell? ⟨w.heap.size, 2, none⟩ = some (.int .i64 0) := by simp [World.cell?, A.bx]
  have hbl : w.heap.size < W.heap.size := block_lt A.bx
  have HE : Hid (∀ g1 c1 w', w'.ownsRow W.heap.size 39 3 (.slice (some ⟨g1, 0, none⟩) (S.length + 1) c1) (S.length + 1) (flat3 S ++ [.int .i64 0, .int .i64 0, .int .i64 0]) → Touch [] W w' → RmE (.returned (.tuple #[.slice (some ⟨g1, 0, none⟩) (S.length + 1) c1, .int .i64 ((S.length : Int) + 1), .int .i64 0])) w w' B g S 0) := fun g1 c1 w' r T => by
    have e : mkB S 0 = true := by simp [mkB]
    have hs : mkS S 0 = makeS S 0 := by unfold mkS; rw [e]; rfl
    have hb := (World.ownsRow.lt r g1 rfl).1
    have r2 : RR w' W.heap.size g1 c1 (makeS S 0) := by
      unfold RR
      rw [makeS_len, flat3_make (Nat.zero_le _)]
      exact r
    refine ⟨g1, c1, ?_, ?_, A.tc.trans' T, Or.inr (Nat.le_trans A.tc.size hb)⟩
    · rw [hs, makeS_len]; unfold mkN mkE; rw [e]; rfl
    · rw [hs]; exact r2.base (Nat.le_trans hB A.tc.size)
  clear h A hW hB
  have HB : Hid (S.length < 65536) := hle
  clear hle
  have HL := hid (flat3_len S)
  generalize S.length = N at *
  obtain ⟨L, hL⟩ : ∃ L : Int, (N : Int) = L := ⟨_, rfl⟩
  have z1 : L < 65536 := by have := HB.out; omega
  have z2 : 0 ≤ L := by omega
  simp only [hL] at HE
  generalize hbw : w.heap.size = bw at *
  have Hbw := hid hbw
  clear hbw
  go_enter Try.func18, Try.ntmps18
  go_upto_region 8 with fail
  rw [Hbw.out, ← HW.out]
  clear HW
  go_region_law (first
    | (refine step_append_own _ (by rfl) _ _ _ (by rfl) W.heap.size 39 i0 (.agg #[.int .i64 0, .int .i64 0, .int .i64 0]) 3 24 Try.underlying26 hi hz0 hz1 hz2 (by rfl) (by decide) (.slice (some ⟨W.heap.size, 0, none⟩) 0 0) 0 [] (by rfl) HC1.out.made ⟨g, 0, none⟩ N c (flat3 S) (by rfl) HL.out HC1.out.cells flat3_one (by have := HB.out; unfold maxLen; omega) (by have := HB.out; omega) HC1.out.size ?_; intro v1 w1 hr1 hg1 hn1; obtain ⟨g1, c1, rfl, q1, q2, ⟨q3, q4, q5⟩, q6⟩ := HC1.out.next v1 w1 hr1 hg1 hn1; have Q1 := hid (And.intro q1 q2); skip; clear hr1 hg1 hn1 q1 q2 q6)
    | (refine step_append_own _ (by rfl) _ _ _ (by rfl) W.heap.size 39 i0 (.agg #[.int .i64 0, .int .i64 0, .int .i64 0]) 3 24 Try.underlying26 hi hz0 hz1 hz2 (by rfl) (by decide) (.slice (some ⟨W.heap.size, 0, none⟩) 0 0) 0 [] (by rfl) HC2.out.made ⟨g, 0, none⟩ N c (flat3 S) (by rfl) HL.out HC2.out.cells flat3_one (by have := HB.out; unfold maxLen; omega) (by have := HB.out; omega) HC2.out.size ?_; intro v1 w1 hr1 hg1 hn1; obtain ⟨g1, c1, rfl, q1, q2, ⟨q3, q4, q5⟩, q6⟩ := HC2.out.next v1 w1 hr1 hg1 hn1; have Q1 := hid (And.intro q1 q2); have XB := hid ((q6 (W.heap.size + 1) (by omega) (by simp <;> omega)).trans (made3 W (.cells #[] 39) (.cells #[.int .i64 0, .int .i64 0, .int .i64 0] 39))); clear hr1 hg1 hn1 q1 q2 q6)
    | (refine step_append_own _ (by rfl) _ _ _ (by rfl) W.heap.size 39 i0 (.agg #[.int .i64 0, .int .i64 0, .int .i64 0]) 3 24 Try.underlying26 hi hz0 hz1 hz2 (by rfl) (by decide) (.slice (some ⟨W.heap.size + 1, 0, none⟩) 0 0) 0 [] (by rfl) HC3.out.made ⟨g, 0, none⟩ N c (flat3 S) (by rfl) HL.out HC3.out.cells flat3_one (by have := HB.out; unfold maxLen; omega) (by have := HB.out; omega) HC3.out.size ?_; intro v1 w1 hr1 hg1 hn1; obtain ⟨g1, c1, rfl, q1, q2, ⟨q3, q4, q5⟩, q6⟩ := HC3.out.next v1 w1 hr1 hg1 hn1; have Q1 := hid (And.intro q1 q2); have XB := hid ((q6 W.heap.size (by omega) (by simp <;> omega)).trans (made2 W (.cells #[.int .i64 0, .int .i64 0, .int .i64 0] 39) (.cells #[] 39))); clear hr1 hg1 hn1 q1 q2 q6)
    | (refine step_append_lies _ (by rfl) _ _ _ (by rfl) W.heap.size 39 i0 (.agg #[.int .i64 0, .int .i64 0, .int .i64 0]) 3 24 Try.underlying26 hi hz0 hz1 hz2 (by rfl) (by decide) (.slice (some ⟨g1, 0, none⟩) N c1) N (flat3 S) (by rfl) (Q1.out.1.alloc _) ⟨w1.heap.size, 0, none⟩ 1 1 [.int .i64 0, .int .i64 0, .int .i64 0] (by rfl) (by rfl) (cell_three_at _ _ _ _ _ _ (heap_alloc_new w1 _)) (by simp [Value.oneCell']) (by decide) (by have := HB.out; unfold maxLen; omega) (by have := HB.out; omega) (Nat.le_trans Q1.out.2.size (by simp)) _ rfl ?_; intro g2 c2 w2 hr2 hg2 hat2 hlt2; have HX := hid (HE.out g2 c2 w2 hr2 (Q1.out.2.trans (((Touch.refl (Value.slice (some ⟨g1, 0, none⟩) N c1).ownBlock.toList w1).alloc _).grown hg2 (fun k hk => Or.inl (by simp [hk]))) (fun j hj => Or.inr (Q1.out.1.lt j (by simpa using hj)).1))); clear hr2 hg2 hat2 hlt2)
    | (refine step_append_lies _ (by rfl) _ _ _ (by rfl) W.heap.size 39 i0 (.agg #[.int .i64 0, .int .i64 0, .int .i64 0]) 3 24 Try.underlying26 hi hz0 hz1 hz2 (by rfl) (by decide) (.slice (some ⟨g1, 0, none⟩) N c1) N (flat3 S) (by rfl) (Q1.out.1) ⟨W.heap.size + 1, 0, none⟩ 1 1 [.int .i64 0, .int .i64 0, .int .i64 0] (by rfl) (by rfl) (cell_three_at _ _ _ _ _ _ XB.out) (by simp [Value.oneCell']) (by decide) (by have := HB.out; unfold maxLen; omega) (by have := HB.out; omega) (Nat.le_trans Q1.out.2.size (by simp)) _ rfl ?_; intro g2 c2 w2 hr2 hg2 hat2 hlt2; have HX := hid (HE.out g2 c2 w2 hr2 (Q1.out.2.trans (((Touch.refl (Value.slice (some ⟨g1, 0, none⟩) N c1).ownBlock.toList w1)).grown hg2 (fun k hk => Or.inl (by simp [hk]))) (fun j hj => Or.inr (Q1.out.1.lt j (by simpa using hj)).1))); clear hr2 hg2 hat2 hlt2)
    | (refine step_append_lies _ (by rfl) _ _ _ (by rfl) W.heap.size 39 i0 (.agg #[.int .i64 0, .int .i64 0, .int .i64 0]) 3 24 Try.underlying26 hi hz0 hz1 hz2 (by rfl) (by decide) (.slice (some ⟨g1, 0, none⟩) N c1) N (flat3 S) (by rfl) (Q1.out.1) ⟨W.heap.size, 0, none⟩ 1 1 [.int .i64 0, .int .i64 0, .int .i64 0] (by rfl) (by rfl) (cell_three_at _ _ _ _ _ _ XB.out) (by simp [Value.oneCell']) (by decide) (by have := HB.out; unfold maxLen; omega) (by have := HB.out; omega) (Nat.le_trans Q1.out.2.size (by simp)) _ rfl ?_; intro g2 c2 w2 hr2 hg2 hat2 hlt2; have HX := hid (HE.out g2 c2 w2 hr2 (Q1.out.2.trans (((Touch.refl (Value.slice (some ⟨g1, 0, none⟩) N c1).ownBlock.toList w1)).grown hg2 (fun k hk => Or.inl (by simp [hk]))) (fun j hj => Or.inr (Q1.out.1.lt j (by simpa using hj)).1))); clear hr2 hg2 hat2 hlt2)
    | fail)
  all_goals
    clear HC1 HC2 HC3
    have z3 : ((N + 1 : Nat) : Int) = L + 1 := by omega
    go_wp2
    exact bodyPost_ret (v := .tuple #[.slice (some ⟨g2, 0, none⟩) (N + 1) c2, .int .i64 (L + 1), .int .i64 0]) (by simp [results, Try.results18, go_sem]) rfl HX.out
set_option maxHeartbeats 2000000 in
set_option maxRecDepth 100000 in
theorem rmake18_ok (m : Nat) (h : RR w B g c S) (hB : B ≤ w.heap.size) (hle : S.length < 65536) (h1 : 1 ≤ m) (h2 : m ≤ S.length) : Calls Try.prog 18 #[.slice (some ⟨g, 0, none⟩) S.length c, .int .i64 (m : Nat)] w fun e w' => RmE e w w' B g S (m : Int) := by
  obtain ⟨i0, hi, hz0, hz1, hz2⟩ := info_parts info39
  have hv : vaB S m = true := by simp [vaB]; omega
  have HI := hid (ris9 w g c S m)
  rw [hv] at HI
  obtain ⟨V, hV⟩ : ∃ V, V = w.alloc (.cells #[.int .i64 (m : Int), .int .i64 0, .int .i64 0] 39) := ⟨_, rfl⟩
  have TV : Touch [] w V := by rw [hV]; exact (Touch.refl _ _).alloc _
  have bV : V.heap[w.heap.size]? = some (.cells #[.int .i64 (m : Int), .int .i64 0, .int .i64 0] 39 (0, 0)) := by rw [hV]; exact heap_alloc_new _ _
  obtain ⟨W, hW⟩ : ∃ W, W = V.setCell ⟨w.heap.size, 2, none⟩ (.int .i64 ((tk S m).why : Int)) := ⟨_, rfl⟩
  have A : Rx w W B g c w.heap.size S (m : Int) ((tk S m).why : Int) := by
    have T : Touch [w.heap.size] V W := by rw [hW]; exact (Touch.refl _ _).setCell (Or.inl (by simp)) _
    have T2 : Touch [] w W := TV.trans T (fun i hi => Or.inr (by simp at hi; omega))
    exact ⟨h.keep0 T2, by rw [hW]; exact Joins.block_setCell (i := 2) bV _, T2⟩
  have x2 : V.cell? ⟨g, (m - 1) * 3 + 2, none⟩ = some (.int .i64 ((tk S m).why : Nat)) := ((h.keep0 TV).cells h1 h2).2.2
  have vb2 : V.cell? ⟨w.heap.size, 2, none⟩ = some (.int .i64 0) := by simp [World.cell?, bV]
  have vf2 : V.frozen? ⟨w.heap.size, 2, none⟩ = false := by simp [World.frozen?, bV]
  have HV := hid hV
  have HW := hid hW
  have HC1 : Hid (Cs W (W.alloc (.cells #[] 39)).drew g W.heap.size w.heap.size S.length S (m : Int) ((tk S m).why : Int)) := A.copy rfl ((Touch.refl [] W).alloc _).drew (heap_alloc_new _ _) (Nat.le_refl _)
  have HC2 : Hid (Cs W ((W.alloc (.cells #[] 39)).alloc (.cells #[.int .i64 (m : Int), .int .i64 0, .int .i64 ((tk S m).why : Int)] 39)).drew g W.heap.size w.heap.size S.length S (m : Int) ((tk S m).why : Int)) := A.copy rfl (((Touch.refl [] W).alloc _).alloc _).drew (made2 _ _ _) (Nat.le_refl _)
  have HC3 : Hid (Cs W ((W.alloc (.cells #[.int .i64 (m : Int), .int .i64 0, .int .i64 ((tk S m).why : Int)] 39)).alloc (.cells #[] 39)).drew g (W.heap.size + 1) w.heap.size S.length S (m : Int) ((tk S m).why : Int)) := A.copy rfl (((Touch.refl [] W).alloc _).alloc _).drew (made3 _ _ _) (by omega)
  have bx0 : W.cell? ⟨w.heap.size, 0, none⟩ = some (.int .i64 (m : Int)) := by simp [World.cell?, A.bx]
  have bx1 : W.cell? ⟨w.heap.size, 1, none⟩ = some (.int .i64 0) := by simp [World.cell?, A.bx]
  have bx2 : W.cell? ⟨w.heap.size, 2, none⟩ = some (.int .i64 ((tk S m).why : Int)) := by simp [World.cell?, A.bx]
  have hbl : w.heap.size < W.heap.size := block_lt A.bx
  have HE : Hid (∀ g1 c1 w', w'.ownsRow W.heap.size 39 3 (.slice (some ⟨g1, 0, none⟩) (S.length + 1) c1) (S.length + 1) (flat3 S ++ [.int .i64 (m : Int), .int .i64 0, .int .i64 ((tk S m).why : Int)]) → Touch [] W w' → RmE (.returned (.tuple #[.slice (some ⟨g1, 0, none⟩) (S.length + 1) c1, .int .i64 ((S.length : Int) + 1), .int .i64 0])) w w' B g S (m : Int)) := fun g1 c1 w' r T => by
    have e : mkB S (m : Int) = true := by unfold mkB; rw [hv, Bool.or_true]
    have hs : mkS S (m : Int) = makeS S m := by unfold mkS; rw [e]; rfl
    have hb := (World.ownsRow.lt r g1 rfl).1
    have r2 : RR w' W.heap.size g1 c1 (makeS S m) := by
      unfold RR
      rw [makeS_len, flat3_make h2]
      rw [if_neg (by omega)]
      exact r
    refine ⟨g1, c1, ?_, ?_, A.tc.trans' T, Or.inr (Nat.le_trans A.tc.size hb)⟩
    · rw [hs, makeS_len]; unfold mkN mkE; rw [e]; rfl
    · rw [hs]; exact r2.base (Nat.le_trans hB A.tc.size)
  clear h A hW hB
  clear hV hv TV bV
  have HB : Hid (S.length < 65536) := hle
  clear hle
  have HL := hid (flat3_len S)
  obtain ⟨i, hin⟩ : ∃ i, m = i + 1 := ⟨m - 1, by omega⟩
  have ei : m - 1 = i := by omega
  have zi1 : (m : Int) - 1 = (i : Int) := by omega
  have zi2 : (i : Int) < (S.length : Int) := by omega
  have zi3 : ((m : Int) != 0) = true := by rw [bne_iff_ne]; omega
  rw [ei] at x2
  clear ei hin h1 h2
  generalize S.length = N at *
  obtain ⟨L, hL⟩ : ∃ L : Int, (N : Int) = L := ⟨_, rfl⟩
  have z1 : L < 65536 := by have := HB.out; omega
  have z2 : 0 ≤ L := by omega
  simp only [hL] at HE
  generalize ((tk S m).why : Int) = yw at *
  generalize (m : Int) = mi at *
  rw [hL] at zi2
  generalize hbw : w.heap.size = bw at *
  have Hbw := hid hbw
  clear hbw
  go_enter Try.func18, Try.ntmps18
  go_upto_region 7 with (go_at_call 9; refine HI.out.mono ?_; rintro e w ⟨rfl, rfl⟩)
  rw [Hbw.out, ← HV.out]
  clear HI HV
  go_upto_region 8 with fail
  rw [← HW.out]
  clear HW x2 vb2 vf2 zi1 zi2
  go_region_law (first
    | (refine step_append_own _ (by rfl) _ _ _ (by rfl) W.heap.size 39 i0 (.agg #[.int .i64 0, .int .i64 0, .int .i64 0]) 3 24 Try.underlying26 hi hz0 hz1 hz2 (by rfl) (by decide) (.slice (some ⟨W.heap.size, 0, none⟩) 0 0) 0 [] (by rfl) HC1.out.made ⟨g, 0, none⟩ N c (flat3 S) (by rfl) HL.out HC1.out.cells flat3_one (by have := HB.out; unfold maxLen; omega) (by have := HB.out; omega) HC1.out.size ?_; intro v1 w1 hr1 hg1 hn1; obtain ⟨g1, c1, rfl, q1, q2, ⟨q3, q4, q5⟩, q6⟩ := HC1.out.next v1 w1 hr1 hg1 hn1; have Q1 := hid (And.intro q1 q2); skip; clear hr1 hg1 hn1 q1 q2 q6)
    | (refine step_append_own _ (by rfl) _ _ _ (by rfl) W.heap.size 39 i0 (.agg #[.int .i64 0, .int .i64 0, .int .i64 0]) 3 24 Try.underlying26 hi hz0 hz1 hz2 (by rfl) (by decide) (.slice (some ⟨W.heap.size, 0, none⟩) 0 0) 0 [] (by rfl) HC2.out.made ⟨g, 0, none⟩ N c (flat3 S) (by rfl) HL.out HC2.out.cells flat3_one (by have := HB.out; unfold maxLen; omega) (by have := HB.out; omega) HC2.out.size ?_; intro v1 w1 hr1 hg1 hn1; obtain ⟨g1, c1, rfl, q1, q2, ⟨q3, q4, q5⟩, q6⟩ := HC2.out.next v1 w1 hr1 hg1 hn1; have Q1 := hid (And.intro q1 q2); have XB := hid ((q6 (W.heap.size + 1) (by omega) (by simp <;> omega)).trans (made3 W (.cells #[] 39) (.cells #[.int .i64 mi, .int .i64 0, .int .i64 yw] 39))); clear hr1 hg1 hn1 q1 q2 q6)
    | (refine step_append_own _ (by rfl) _ _ _ (by rfl) W.heap.size 39 i0 (.agg #[.int .i64 0, .int .i64 0, .int .i64 0]) 3 24 Try.underlying26 hi hz0 hz1 hz2 (by rfl) (by decide) (.slice (some ⟨W.heap.size + 1, 0, none⟩) 0 0) 0 [] (by rfl) HC3.out.made ⟨g, 0, none⟩ N c (flat3 S) (by rfl) HL.out HC3.out.cells flat3_one (by have := HB.out; unfold maxLen; omega) (by have := HB.out; omega) HC3.out.size ?_; intro v1 w1 hr1 hg1 hn1; obtain ⟨g1, c1, rfl, q1, q2, ⟨q3, q4, q5⟩, q6⟩ := HC3.out.next v1 w1 hr1 hg1 hn1; have Q1 := hid (And.intro q1 q2); have XB := hid ((q6 W.heap.size (by omega) (by simp <;> omega)).trans (made2 W (.cells #[.int .i64 mi, .int .i64 0, .int .i64 yw] 39) (.cells #[] 39))); clear hr1 hg1 hn1 q1 q2 q6)
    | (refine step_append_lies _ (by rfl) _ _ _ (by rfl) W.heap.size 39 i0 (.agg #[.int .i64 0, .int .i64 0, .int .i64 0]) 3 24 Try.underlying26 hi hz0 hz1 hz2 (by rfl) (by decide) (.slice (some ⟨g1, 0, none⟩) N c1) N (flat3 S) (by rfl) (Q1.out.1.alloc _) ⟨w1.heap.size, 0, none⟩ 1 1 [.int .i64 mi, .int .i64 0, .int .i64 yw] (by rfl) (by rfl) (cell_three_at _ _ _ _ _ _ (heap_alloc_new w1 _)) (by simp [Value.oneCell']) (by decide) (by have := HB.out; unfold maxLen; omega) (by have := HB.out; omega) (Nat.le_trans Q1.out.2.size (by simp)) _ rfl ?_; intro g2 c2 w2 hr2 hg2 hat2 hlt2; have HX := hid (HE.out g2 c2 w2 hr2 (Q1.out.2.trans (((Touch.refl (Value.slice (some ⟨g1, 0, none⟩) N c1).ownBlock.toList w1).alloc _).grown hg2 (fun k hk => Or.inl (by simp [hk]))) (fun j hj => Or.inr (Q1.out.1.lt j (by simpa using hj)).1))); clear hr2 hg2 hat2 hlt2)
    | (refine step_append_lies _ (by rfl) _ _ _ (by rfl) W.heap.size 39 i0 (.agg #[.int .i64 0, .int .i64 0, .int .i64 0]) 3 24 Try.underlying26 hi hz0 hz1 hz2 (by rfl) (by decide) (.slice (some ⟨g1, 0, none⟩) N c1) N (flat3 S) (by rfl) (Q1.out.1) ⟨W.heap.size + 1, 0, none⟩ 1 1 [.int .i64 mi, .int .i64 0, .int .i64 yw] (by rfl) (by rfl) (cell_three_at _ _ _ _ _ _ XB.out) (by simp [Value.oneCell']) (by decide) (by have := HB.out; unfold maxLen; omega) (by have := HB.out; omega) (Nat.le_trans Q1.out.2.size (by simp)) _ rfl ?_; intro g2 c2 w2 hr2 hg2 hat2 hlt2; have HX := hid (HE.out g2 c2 w2 hr2 (Q1.out.2.trans (((Touch.refl (Value.slice (some ⟨g1, 0, none⟩) N c1).ownBlock.toList w1)).grown hg2 (fun k hk => Or.inl (by simp [hk]))) (fun j hj => Or.inr (Q1.out.1.lt j (by simpa using hj)).1))); clear hr2 hg2 hat2 hlt2)
    | (refine step_append_lies _ (by rfl) _ _ _ (by rfl) W.heap.size 39 i0 (.agg #[.int .i64 0, .int .i64 0, .int .i64 0]) 3 24 Try.underlying26 hi hz0 hz1 hz2 (by rfl) (by decide) (.slice (some ⟨g1, 0, none⟩) N c1) N (flat3 S) (by rfl) (Q1.out.1) ⟨W.heap.size, 0, none⟩ 1 1 [.int .i64 mi, .int .i64 0, .int .i64 yw] (by rfl) (by rfl) (cell_three_at _ _ _ _ _ _ XB.out) (by simp [Value.oneCell']) (by decide) (by have := HB.out; unfold maxLen; omega) (by have := HB.out; omega) (Nat.le_trans Q1.out.2.size (by simp)) _ rfl ?_; intro g2 c2 w2 hr2 hg2 hat2 hlt2; have HX := hid (HE.out g2 c2 w2 hr2 (Q1.out.2.trans (((Touch.refl (Value.slice (some ⟨g1, 0, none⟩) N c1).ownBlock.toList w1)).grown hg2 (fun k hk => Or.inl (by simp [hk]))) (fun j hj => Or.inr (Q1.out.1.lt j (by simpa using hj)).1))); clear hr2 hg2 hat2 hlt2)
    | fail)
  all_goals
    clear HC1 HC2 HC3
    have z3 : ((N + 1 : Nat) : Int) = L + 1 := by omega
    go_wp2
    exact bodyPost_ret (v := .tuple #[.slice (some ⟨g2, 0, none⟩) (N + 1) c2, .int .i64 (L + 1), .int .i64 0]) (by simp [results, Try.results18, go_sem]) rfl HX.out
theorem rmake18 (i : Int) (h : RR w B g c S) (hB : B ≤ w.heap.size) (hle : S.length < 65536) : Calls Try.prog 18 #[.slice (some ⟨g, 0, none⟩) S.length c, .int .i64 i] w fun e w' => RmE e w w' B g S i := by
  by_cases h0 : i = 0
  · subst h0
    exact rmake18_top w B g c S h hB hle
  · by_cases hv : vaB S i = true
    · obtain ⟨m, rfl, h1, h2⟩ := va_yes hv
      exact rmake18_ok w B g c S m h hB hle h1 h2
    · exact rmake18_no w B g c S i h h0 (by simpa using hv)
end
end Go.Proofs.Ytbjnajiicljnbaa
