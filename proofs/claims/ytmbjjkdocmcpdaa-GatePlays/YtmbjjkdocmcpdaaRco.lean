/- The contract of the document's Come. -/
import Derived.Test.YtmbjjkdocmcpdaaRwt
namespace Go.Proofs.Ytmbjjkdocmcpdaa
open Go.RowKit Go.Maps Go.ChangeMaps
set_option linter.unusedVariables false
theorem made2 (W : World) (o o' : Obj) : ((W.alloc o).alloc o').heap[W.heap.size]? = some o := by
  rw [Below.heap_alloc _ _ _ (by simp)]
  exact heap_alloc_new W o
theorem made3 (W : World) (o o' : Obj) : ((W.alloc o).alloc o').heap[W.heap.size + 1]? = some o' := by
  have := heap_alloc_new (W.alloc o) o'
  simpa using this
/-- The document's gates in a box of their own, and a box for what is answered. -/
structure Bx (w W : World) (b1 b2 : Nat) (c d : Array Value) : Prop where
  h1 : W.heap[b1]? = some (.cells c 29 (0, 0))
  h2 : W.heap[b2]? = some (.cells d 29 (0, 0))
  tc : Touch [] w W
  n1 : w.heap.size ≤ b1
  n2 : w.heap.size ≤ b2
  ne : b1 ≠ b2
theorem Bx.start (w : World) (c d : Array Value) : Bx w ((w.alloc (.cells c 29)).alloc (.cells d 29)) w.heap.size (w.heap.size + 1) c d :=
  ⟨made2 _ _ _, made3 _ _ _, ((Touch.refl _ _).alloc _).alloc _, Nat.le_refl _, by omega, by omega⟩
section
variable {w W W' : World} {b1 b2 : Nat} {c d c' : Array Value}
theorem Bx.keep (h : Bx w W b1 b2 c d) (T : Touch [] W W') : Bx w W' b1 b2 c d := ⟨T.keep h.h1 (by simp), T.keep h.h2 (by simp), h.tc.trans' T, h.n1, h.n2, h.ne⟩
theorem Bx.set (h : Bx w W b1 b2 c d) (j : Nat) (v : Value) : Bx w (W.setCell ⟨b1, j, none⟩ v) b1 b2 (c.setIfInBounds j v) d := by
  have T : Touch [b1] W (W.setCell ⟨b1, j, none⟩ v) := (Touch.refl _ _).setCell (by simp) _
  exact ⟨bset h.h1 v, T.keep h.h2 (by simpa using Ne.symm h.ne), h.tc.trans T (fun i hi => Or.inr (by simp only [List.mem_singleton] at hi; rw [hi]; exact h.n1)), h.n1, h.n2, h.ne⟩
theorem Bx.fill (h : Bx w W b1 b2 c d) (h2 : W'.heap[b2]? = some (.cells c' 29 (0, 0))) (T : Touch [b2] W W') : Bx w W' b1 b2 c c' :=
  ⟨T.keep h.h1 (by simpa using h.ne), h2, h.tc.trans T (fun i hi => Or.inr (by simp only [List.mem_singleton] at hi; rw [hi]; exact h.n2)), h.n1, h.n2, h.ne⟩
theorem Bx.lt (h : Bx w W b1 b2 c d) : b1 < W.heap.size ∧ b2 < W.heap.size := ⟨block_lt h.h1, block_lt h.h2⟩
end
/-- What a call of the document answers: the gates, two values. -/
def RcE (e : Ending) (w w' : World) (op : Nat → Bool) (ps : List (Int × Int)) (v1 v2 : Value) : Prop := ∃ c A B, e = .returned (.tuple #[.agg c, v1, v2]) ∧ Ds w' c op ps A B ∧ Touch [] w w'
section
variable {w : World} {c : Array Value} {op : Nat → Bool} {ps : List (Int × Int)} {A B : Value}
set_option maxHeartbeats 4000000 in
set_option maxRecDepth 100000 in
theorem come24_no (h : Ds w c op ps A B) (n x : Int) (hn : inG n = false) : Calls Try.prog 24 #[.agg c, .int .i64 n, .int .i64 x] w fun e w' => RcE e w w' op ps (.bool false) (.int .i64 70) := by
  have z29 := zero29
  have d0 := dc_size (fun _ => false) (.slice none 0 0) (.slice none 0 0)
  generalize dc (fun _ => false) (.slice none 0 0) (.slice none 0 0) = d at *
  obtain ⟨W1, hW1⟩ : ∃ W1, W1 = (w.alloc (.cells c 29)).alloc (.cells d 29) := ⟨_, rfl⟩
  have bx := Bx.start w c d
  rw [← hW1] at bx
  have HI : Hid (∀ W, Calls Try.prog 29 #[.int .i64 n] W fun e w' => e = .returned (.bool false) ∧ w' = W) := fun W => by rw [← hn]; exact is29 W n
  have HD := hid h.dg
  have HE : Hid (∀ W', Bx w W' w.heap.size (w.heap.size + 1) c c → RcE (.returned (.tuple #[.agg c, .bool false, .int .i64 70])) w W' op ps (.bool false) (.int .i64 70)) := fun W' b => ⟨c, A, B, rfl, h.keep0 b.tc, b.tc⟩
  have HDs := hid d0
  have HB := hid bx
  have HW := hid hW1
  clear h d0 hn bx hW1
  go_enter Try.func24, Try.ntmps24
  go_upto_region 1 with fail
  rw [← HW.out]
  clear HW
  generalize w.heap.size = b1 at *
  generalize b1 + 1 = b2 at *
  go_wp2_with (first
    | (go_at_call 29; refine (HI.out _).mono ?_; rintro e w2 ⟨rfl, rfl⟩)
    | (refine wpList_load29 rfl _ rfl b1 c 29 (0, 0) rfl HB.out.h1 HD.out.size ?_)
    | (refine wpList_store29 rfl _ _ rfl b2 d c 29 rfl rfl HB.out.h2 HDs.out HD.out ?_; intro w3 h3 t3 s3; have B3 := hid (HB.out.fill h3 t3); clear h3 t3 s3)
    | fail)
  exact bodyPost_ret (v := .tuple #[.agg c, .bool false, .int .i64 70]) (by rw [results_cell3 Try.results24 _ _ rfl B3.out.h2 HD.out.size]; rfl) rfl (HE.out _ B3.out)
set_option maxHeartbeats 4000000 in
set_option maxRecDepth 100000 in
theorem come24_twice (h : Ds w c op ps A B) (n x : Int) (hn : inG n = true) (hl : ps.length ≤ 4398046511104) (hp : 0 ≤ posI (ps.map (·.1)) x) : Calls Try.prog 24 #[.agg c, .int .i64 n, .int .i64 x] w fun e w' => RcE e w w' op ps (.bool false) (.int .i64 71) := by
  have z29 := zero29
  have d0 := dc_size (fun _ => false) (.slice none 0 0) (.slice none 0 0)
  generalize dc (fun _ => false) (.slice none 0 0) (.slice none 0 0) = d at *
  obtain ⟨W1, hW1⟩ : ∃ W1, W1 = (w.alloc (.cells c 29)).alloc (.cells d 29) := ⟨_, rfl⟩
  have bx := Bx.start w c d
  rw [← hW1] at bx
  have HI : Hid (∀ W, Calls Try.prog 29 #[.int .i64 n] W fun e w' => e = .returned (.bool true) ∧ w' = W) := fun W => by rw [← hn]; exact is29 W n
  have HD := hid h.dg
  have HDs := hid d0
  have HB := hid bx
  have HW := hid hW1
  obtain ⟨hn0, hn1⟩ := inG_yes hn
  have hni := (inG_nat hn).1
  have HH := hid (where28 (h.keep0 bx.tc) x hl)
  generalize posI (ps.map (·.1)) x = z at *
  have HE : Hid (∀ W', Bx w W' w.heap.size (w.heap.size + 1) c c → RcE (.returned (.tuple #[.agg c, .bool false, .int .i64 71])) w W' op ps (.bool false) (.int .i64 71)) := fun W' b => ⟨c, A, B, rfl, h.keep0 b.tc, b.tc⟩
  clear h d0 hn bx hW1 hni
  go_enter Try.func24, Try.ntmps24
  go_upto_region 1 with fail
  rw [← HW.out]
  clear HW
  generalize w.heap.size = b1 at *
  generalize b1 + 1 = b2 at *
  go_wp2_with (first
    | (go_at_call 29; refine (HI.out _).mono ?_; rintro e w2 ⟨rfl, rfl⟩)
    | (go_at_call 28; refine HH.out.mono ?_; rintro e w4 ⟨rfl, t4⟩; have B4 := hid (HB.out.keep t4); clear t4)
    | (refine wpList_load29 rfl _ rfl b1 c 29 (0, 0) rfl HB.out.h1 HD.out.size ?_)
    | (refine wpList_load29 rfl _ rfl b1 c 29 (0, 0) rfl B4.out.h1 HD.out.size ?_)
    | (refine wpList_store29 rfl _ _ rfl b2 d c 29 rfl rfl B4.out.h2 HDs.out HD.out ?_; intro w3 h3 t3 s3; have B3 := hid (B4.out.fill h3 t3); clear h3 t3 s3)
    | fail)
  exact bodyPost_ret (v := .tuple #[.agg c, .bool false, .int .i64 71]) (by rw [results_cell3 Try.results24 _ _ rfl B3.out.h2 HD.out.size]; rfl) rfl (HE.out _ B3.out)
set_option maxHeartbeats 4000000 in
set_option maxRecDepth 100000 in
theorem come24_open (h : Ds w c op ps A B) (n x : Int) (hn : inG n = true) (hl : ps.length ≤ 4398046511104) (hp : posI (ps.map (·.1)) x = -1) (ho : op n.toNat = true) : Calls Try.prog 24 #[.agg c, .int .i64 n, .int .i64 x] w fun e w' => RcE e w w' op ps (.bool true) (.int .i64 0) := by
  have z29 := zero29
  have d0 := dc_size (fun _ => false) (.slice none 0 0) (.slice none 0 0)
  generalize dc (fun _ => false) (.slice none 0 0) (.slice none 0 0) = d at *
  obtain ⟨W1, hW1⟩ : ∃ W1, W1 = (w.alloc (.cells c 29)).alloc (.cells d 29) := ⟨_, rfl⟩
  have bx := Bx.start w c d
  rw [← hW1] at bx
  have HI : Hid (∀ W, Calls Try.prog 29 #[.int .i64 n] W fun e w' => e = .returned (.bool true) ∧ w' = W) := fun W => by rw [← hn]; exact is29 W n
  have HD := hid h.dg
  have HDs := hid d0
  have HB := hid bx
  have HW := hid hW1
  obtain ⟨hn0, hn1⟩ := inG_yes hn
  have hni := (inG_nat hn).1
  have HH := hid (where28 (h.keep0 bx.tc) x hl)
  rw [hp] at HH
  have HO : Hid (c[n.toNat]? = some (.bool true)) := by rw [← ho]; exact h.cells.2.2 _ hni
  clear hp ho
  have HE : Hid (∀ W', Bx w W' w.heap.size (w.heap.size + 1) c c → RcE (.returned (.tuple #[.agg c, .bool true, .int .i64 0])) w W' op ps (.bool true) (.int .i64 0)) := fun W' b => ⟨c, A, B, rfl, h.keep0 b.tc, b.tc⟩
  skip
  clear h d0 hn bx hW1 hni
  go_enter Try.func24, Try.ntmps24
  go_upto_region 1 with fail
  rw [← HW.out]
  clear HW
  generalize w.heap.size = b1 at *
  generalize b1 + 1 = b2 at *
  go_wp2_with (first
    | (go_at_call 29; refine (HI.out _).mono ?_; rintro e w2 ⟨rfl, rfl⟩)
    | (go_at_call 28; refine HH.out.mono ?_; rintro e w4 ⟨rfl, t4⟩; have B4 := hid (HB.out.keep t4); have y4 := cell_at B4.out.h1 HO.out; clear t4)
    | (refine wpList_load29 rfl _ rfl b1 c 29 (0, 0) rfl HB.out.h1 HD.out.size ?_)
    | (refine wpList_load29 rfl _ rfl b1 c 29 (0, 0) rfl B4.out.h1 HD.out.size ?_)
    | (refine wpList_store29 rfl _ _ rfl b2 d c 29 rfl rfl B4.out.h2 HDs.out HD.out ?_; intro w3 h3 t3 s3; have B3 := hid (B4.out.fill h3 t3); clear h3 t3 s3)
    | fail)
  exact bodyPost_ret (v := .tuple #[.agg c, .bool true, .int .i64 0]) (by rw [results_cell3 Try.results24 _ _ rfl B3.out.h2 HD.out.size]; rfl) rfl (HE.out _ B3.out)
/-- A row of its own with one number more. -/
theorem rd_more {w W w5 : World} {b c0 m : Nat} {xs : List Int} {y : Int} (h : w5.ownsRow W.heap.size 3 1 (.slice (some ⟨b, 0, none⟩) (xs.length + 1) c0) (xs.length + 1) (ints xs ++ [.int .i64 y])) : Rd w5 (.slice (some ⟨b, 0, none⟩) (xs.length + 1) c0) (xs ++ [y]) := by
  have e : (xs ++ [y]).length = xs.length + 1 := by simp
  rw [← e] at h ⊢
  refine Rd.of_own (B := W.heap.size) ?_
  rw [ints_app]
  exact h
set_option maxHeartbeats 8000000 in
set_option maxRecDepth 100000 in
theorem come24_wait (h : Ds w c op ps A B) (n x : Int) (hn : inG n = true) (hl : ps.length ≤ 4398046511103) (hp : posI (ps.map (·.1)) x = -1) (ho : op n.toNat = false) : Calls Try.prog 24 #[.agg c, .int .i64 n, .int .i64 x] w fun e w' => RcE e w w' op (ps ++ [(x, n)]) (.bool false) (.int .i64 0) := by
  obtain ⟨i3, hi3, hz0, hz1, hz2⟩ := info_parts info3
  have z29 := zero29
  have d0 := dc_size (fun _ => false) (.slice none 0 0) (.slice none 0 0)
  generalize dc (fun _ => false) (.slice none 0 0) (.slice none 0 0) = d at *
  obtain ⟨W1, hW1⟩ : ∃ W1, W1 = (w.alloc (.cells c 29)).alloc (.cells d 29) := ⟨_, rfl⟩
  have bx := Bx.start w c d
  rw [← hW1] at bx
  have HI : Hid (∀ W, Calls Try.prog 29 #[.int .i64 n] W fun e w' => e = .returned (.bool true) ∧ w' = W) := fun W => by rw [← hn]; exact is29 W n
  have HD := hid h.dg
  have HDs := hid d0
  have HB := hid bx
  have HW := hid hW1
  obtain ⟨hn0, hn1⟩ := inG_yes hn
  have hni := (inG_nat hn).1
  have HH := hid (where28 (h.keep0 bx.tc) x (by omega))
  rw [hp] at HH
  have HO : Hid (c[n.toNat]? = some (.bool false)) := by rw [← ho]; exact h.cells.2.2 _ hni
  have HA : Hid (c[256]? = some A ∧ c[257]? = some B) := ⟨h.cells.1, h.cells.2.1⟩
  have HR : Hid (∀ W, Touch [] w W → Rd W A (ps.map (·.1)) ∧ Rd W B (ps.map (·.2))) := fun W T => ⟨h.who.keep0 T, h.at_.keep0 T⟩
  have HN : Hid (∀ v5 v9, v5.oneCell' = true → v9.oneCell' = true → (c.setIfInBounds 256 v5).setIfInBounds 257 v9 = dc op v5 v9 ∧ Dg (dc op v5 v9)) := fun v5 v9 h5 h9 => ⟨by rw [h.eq, dc_setwho, dc_setat], dc_dg op h5 h9⟩
  have h257 : ∀ v5 : Value, (c.setIfInBounds 256 v5)[257]? = some B := fun v5 => by rw [Array.getElem?_setIfInBounds, if_neg (by omega)]; exact h.cells.2.1
  have H257 := hid h257
  have hlA : (ps.map (·.1)).length = ps.length := by simp
  have hlB : (ps.map (·.2)).length = ps.length := by simp
  have HE : Hid (∀ W' v5 v9, Bx w W' w.heap.size (w.heap.size + 1) (dc op v5 v9) (dc op v5 v9) → Rd W' v5 (ps.map (·.1) ++ [x]) → Rd W' v9 (ps.map (·.2) ++ [n]) → RcE (.returned (.tuple #[.agg (dc op v5 v9), .bool false, .int .i64 0])) w W' op (ps ++ [(x, n)]) (.bool false) (.int .i64 0)) := fun W' v5 v9 b r5 r9 => ⟨_, v5, v9, rfl, ⟨rfl, by simpa using r5, by simpa using r9⟩, b.tc⟩
  have HL : Hid ((ps.map (·.1)).length ≤ 4398046511103 ∧ (ps.map (·.2)).length ≤ 4398046511103) := by rw [hlA, hlB]; exact ⟨hl, hl⟩
  clear h d0 hn bx hW1 hni hp ho h257 hlA hlB
  generalize ps.map (·.1) = xs at *
  generalize ps.map (·.2) = ys at *
  go_enter Try.func24, Try.ntmps24
  go_upto_region 1 with fail
  rw [← HW.out]
  clear HW
  have hb1 : Hid (w.heap.size < w.heap.size + 1) := Nat.lt_succ_self _
  generalize hbb : w.heap.size = b1 at *
  generalize b1 + 1 = b2 at *
  go_upto_region 7 with (first
    | (go_at_call 29; refine (HI.out _).mono ?_; rintro e w2 ⟨rfl, rfl⟩)
    | (go_at_call 28; refine HH.out.mono ?_; rintro e w4 ⟨rfl, t4⟩; have B4 := hid (HB.out.keep t4); have y4 := cell_at B4.out.h1 HO.out; clear t4)
    | (refine wpList_load29 rfl _ rfl b1 c 29 (0, 0) rfl HB.out.h1 HD.out.size ?_)
    | fail)
  clear y4 HB HI HH HO
  have hW4 := B4.out.tc
  have bwa := B4.out.lt.1
  have nea : w4.heap.size ≠ b1 := by omega
  have nea' : b1 ≠ w4.heap.size := by omega
  have ya := cell_at B4.out.h1 HA.out.1
  have Ma : Hid ((w4.alloc (.cells #[] 3)).ownsRow w4.heap.size 3 1 (.slice (some ⟨w4.heap.size, 0, none⟩) 0 0) 0 []) := World.ownsRow_made w4 #[] 0 (Nat.le_refl _) (by unfold maxLen; omega) rfl
  have Ra : Hid (∀ X, Touch [] w4 X → Rd X A xs) := fun X T => (HR.out X (B4.out.tc.trans' T)).1
  have Ca : Hid (∀ X, Touch [] w4 X → X.cell? ⟨b1, 256, none⟩ = some A ∧ X.frozen? ⟨b1, 256, none⟩ = false) := fun X T => ⟨cell_at (T.keep B4.out.h1 (by simp)) HA.out.1, froz_at (T.keep B4.out.h1 (by simp)) _⟩
  have La : Hid (xs.length ≤ 4398046511103) := HL.out.1
  go_upto_region 8 with (first
    | (at_builtin; refine wpList_append_rd rfl _ _ rfl w4.heap.size w4.heap.size 0 0 [] rfl Ma.out A xs rfl (Ra.out _ ((Touch.refl _ _).alloc _)) (by have := La.out; omega) (by simp) ?_; intro pa qa uaw owa gra; have Aa : Hid (uaw.ownsRow w4.heap.size 3 1 (.slice (some ⟨pa, 0, none⟩) xs.length qa) xs.length (ints xs) ∧ Touch [] w4 uaw) := ⟨by simpa using owa, (Touch.refl _ _).trans (((Touch.refl [w4.heap.size] w4).alloc _).grown gra (fun k hk => Or.inl (by cases hk; simp))) (fun k hk => Or.inr (by simp only [List.mem_singleton] at hk; omega))⟩; clear owa gra)
    | (at_builtin; refine wpList_append_lies _ rfl _ _ 27 rfl w4.heap.size 3 i3 (.int .i64 0) 1 8 Try.underlying27 hi3 hz0 hz1 hz2 rfl (by decide) (.slice (some ⟨pa, 0, none⟩) xs.length qa) xs.length (ints xs) rfl (Aa.out.1.alloc _) ⟨uaw.heap.size, 0, none⟩ 1 1 [.int .i64 x] rfl rfl (cell_one_new _ _ _) (by simp [Value.oneCell']) (by decide) (by have := La.out; unfold maxLen; omega) (by have := La.out; omega) (Nat.le_trans Aa.out.2.size (by simp)) _ rfl ?_; intro ra sa vaw owa gra hba hla; have Ea : Hid (vaw.ownsRow w4.heap.size 3 1 (.slice (some ⟨ra, 0, none⟩) (xs.length + 1) sa) (xs.length + 1) (ints xs ++ [.int .i64 x]) ∧ Touch [] w4 vaw) := ⟨owa, Aa.out.2.trans ((((Touch.refl (Value.slice (some ⟨pa, 0, none⟩) xs.length qa).ownBlock.toList uaw).alloc _)).grown gra (fun k hk => Or.inl (by rw [hk]; simp))) (fun k hk => Or.inr (Aa.out.1.lt k (by simpa using hk)).1)⟩; obtain ⟨ka, fa⟩ := Ca.out vaw Ea.out.2; clear owa gra hba hla)
    | fail)
  have Va : Hid (Rd vaw (.slice (some ⟨ra, 0, none⟩) (xs.length + 1) sa) (xs ++ [x])) := rd_more (W := w4) (m := 0) (w := w4) Ea.out.1
  have Za : Hid (w4.heap.size ≤ ra) := (Ea.out.1.lt ra rfl).1
  obtain ⟨v5, hv5⟩ : ∃ v5, v5 = Value.slice (some ⟨ra, 0, none⟩) (xs.length + 1) sa := ⟨_, rfl⟩
  obtain ⟨W5, hW5⟩ : ∃ W5, W5 = vaw.setCell ⟨b1, 256, none⟩ v5 := ⟨_, rfl⟩
  have B5 : Hid (Bx w W5 b1 b2 (c.setIfInBounds 256 v5) d) := by rw [hW5]; exact (B4.out.keep Ea.out.2).set 256 v5
  have V5 : Hid (Rd W5 v5 (xs ++ [x])) := by
    rw [hW5, hv5]
    refine Va.out.keep (F := [b1]) ((Touch.refl _ _).setCell (by simp) _) (fun b hb e => ?_)
    simp only [Value.ownBlock, Option.some.injEq, List.mem_singleton] at hb e
    have := Za.out
    omega
  have X5 : Hid (∀ b, v5.ownBlock = some b → b ≠ b1 ∧ b ≠ b2) := fun b hb => by
    rw [hv5] at hb
    simp only [Value.ownBlock, Option.some.injEq] at hb
    have := Za.out
    have := B4.out.lt
    omega
  rw [← hv5, ← hW5]
  have O5 : Hid (v5.oneCell' = true) := V5.out.one
  clear hv5 hW5 Va Za Ea Aa Ca La Ra Ma ya nea nea' bwa ka fa B4
  have bwb := B5.out.lt.1
  have neb : W5.heap.size ≠ b1 := by omega
  have neb' : b1 ≠ W5.heap.size := by omega
  have yb := cell_at B5.out.h1 (H257.out v5)
  have Mb : Hid ((W5.alloc (.cells #[] 3)).ownsRow W5.heap.size 3 1 (.slice (some ⟨W5.heap.size, 0, none⟩) 0 0) 0 []) := World.ownsRow_made W5 #[] 0 (Nat.le_refl _) (by unfold maxLen; omega) rfl
  have Rb : Hid (∀ X, Touch [] W5 X → Rd X B ys) := fun X T => (HR.out X (B5.out.tc.trans' T)).2
  have Cb : Hid (∀ X, Touch [] W5 X → X.cell? ⟨b1, 257, none⟩ = some B ∧ X.frozen? ⟨b1, 257, none⟩ = false) := fun X T => ⟨cell_at (T.keep B5.out.h1 (by simp)) (H257.out v5), froz_at (T.keep B5.out.h1 (by simp)) _⟩
  have Lb : Hid (ys.length ≤ 4398046511103) := HL.out.2
  go_upto_region 9 with (first
    | (at_builtin; refine wpList_append_rd rfl _ _ rfl W5.heap.size W5.heap.size 0 0 [] rfl Mb.out B ys rfl (Rb.out _ ((Touch.refl _ _).alloc _)) (by have := Lb.out; omega) (by simp) ?_; intro pb qb ubw owb grb; have Ab : Hid (ubw.ownsRow W5.heap.size 3 1 (.slice (some ⟨pb, 0, none⟩) ys.length qb) ys.length (ints ys) ∧ Touch [] W5 ubw) := ⟨by simpa using owb, (Touch.refl _ _).trans (((Touch.refl [W5.heap.size] W5).alloc _).grown grb (fun k hk => Or.inl (by cases hk; simp))) (fun k hk => Or.inr (by simp only [List.mem_singleton] at hk; omega))⟩; clear owb grb)
    | (at_builtin; refine wpList_append_lies _ rfl _ _ 27 rfl W5.heap.size 3 i3 (.int .i64 0) 1 8 Try.underlying27 hi3 hz0 hz1 hz2 rfl (by decide) (.slice (some ⟨pb, 0, none⟩) ys.length qb) ys.length (ints ys) rfl (Ab.out.1.alloc _) ⟨ubw.heap.size, 0, none⟩ 1 1 [.int .i64 n] rfl rfl (cell_one_new _ _ _) (by simp [Value.oneCell']) (by decide) (by have := Lb.out; unfold maxLen; omega) (by have := Lb.out; omega) (Nat.le_trans Ab.out.2.size (by simp)) _ rfl ?_; intro rb sb vbw owb grb hbb hlb; have Eb : Hid (vbw.ownsRow W5.heap.size 3 1 (.slice (some ⟨rb, 0, none⟩) (ys.length + 1) sb) (ys.length + 1) (ints ys ++ [.int .i64 n]) ∧ Touch [] W5 vbw) := ⟨owb, Ab.out.2.trans ((((Touch.refl (Value.slice (some ⟨pb, 0, none⟩) ys.length qb).ownBlock.toList ubw).alloc _)).grown grb (fun k hk => Or.inl (by rw [hk]; simp))) (fun k hk => Or.inr (Ab.out.1.lt k (by simpa using hk)).1)⟩; obtain ⟨kb, fb⟩ := Cb.out vbw Eb.out.2; clear owb grb hbb hlb)
    | fail)
  have Vb : Hid (Rd vbw (.slice (some ⟨rb, 0, none⟩) (ys.length + 1) sb) (ys ++ [n])) := rd_more (W := W5) (m := 0) (w := W5) Eb.out.1
  have Zb : Hid (W5.heap.size ≤ rb) := (Eb.out.1.lt rb rfl).1
  obtain ⟨v9, hv9⟩ : ∃ v9, v9 = Value.slice (some ⟨rb, 0, none⟩) (ys.length + 1) sb := ⟨_, rfl⟩
  obtain ⟨W9, hW9⟩ : ∃ W9, W9 = vbw.setCell ⟨b1, 257, none⟩ v9 := ⟨_, rfl⟩
  have O9 : Hid (v9.oneCell' = true) := by rw [hv9]; rfl
  have B9 : Hid (Bx w W9 b1 b2 (dc op v5 v9) d) := by rw [hW9, ← (HN.out v5 v9 O5.out O9.out).1]; exact (B5.out.keep Eb.out.2).set 257 v9
  have V9 : Hid (Rd W9 v5 (xs ++ [x]) ∧ Rd W9 v9 (ys ++ [n])) := by
    have T9 : Touch [b1] vbw W9 := by rw [hW9]; exact (Touch.refl _ _).setCell (by simp) _
    refine ⟨?_, ?_⟩
    · have r := V5.out.keep0 Eb.out.2
      refine r.keep T9 (fun b hb e => ?_)
      simp only [List.mem_singleton] at e
      exact (X5.out b hb).1 e
    · rw [hv9]
      refine Vb.out.keep T9 (fun b hb e => ?_)
      simp only [Value.ownBlock, Option.some.injEq, List.mem_singleton] at hb e
      have := Zb.out
      have := B5.out.lt.1
      omega
  have X9 : Hid (∀ b, v9.ownBlock = some b → b ≠ b1 ∧ b ≠ b2) := fun b hb => by
    rw [hv9] at hb
    simp only [Value.ownBlock, Option.some.injEq] at hb
    have := Zb.out
    have := B5.out.lt
    omega
  rw [← hv9, ← hW9]
  have HE9 : Hid (∀ W', Bx w W' b1 b2 (dc op v5 v9) (dc op v5 v9) → Rd W' v5 (xs ++ [x]) → Rd W' v9 (ys ++ [n]) → RcE (.returned (.tuple #[.agg (dc op v5 v9), .bool false, .int .i64 0])) w W' op (ps ++ [(x, n)]) (.bool false) (.int .i64 0)) := fun W' => HE.out W' v5 v9
  have D9 := hid (HN.out v5 v9 O5.out O9.out).2
  clear hv9 hW9 Vb Zb Eb Ab Cb Lb Rb Mb yb neb neb' bwb kb fb B5 V5 HN
  generalize dc op v5 v9 = c9 at *
  go_wp2_with (first
    | (refine wpList_load29 rfl _ rfl b1 c9 29 (0, 0) rfl B9.out.h1 D9.out.size ?_)
    | (refine wpList_store29 rfl _ _ rfl b2 d c9 29 rfl rfl B9.out.h2 HDs.out D9.out ?_; intro w3 h3 t3 s3; have B3 := hid (And.intro (B9.out.fill h3 t3) t3); clear h3 t3 s3)
    | fail)
  refine bodyPost_ret (v := .tuple #[.agg c9, .bool false, .int .i64 0]) (by rw [results_cell3 Try.results24 _ _ rfl B3.out.1.h2 D9.out.size]; rfl) rfl (HE9.out _ B3.out.1 (V9.out.1.keep B3.out.2 (fun b hb e => (X5.out b hb).2 (by simpa using e))) (V9.out.2.keep B3.out.2 (fun b hb e => (X9.out b hb).2 (by simpa using e))))
end
end Go.Proofs.Ytmbjjkdocmcpdaa
