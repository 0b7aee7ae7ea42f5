/- The contract of the document's Lay. -/
import Derived.Test.YtmbjjkdocmcpdaaRpa
namespace Go.Proofs.Ytmbjjkdocmcpdaa
open Go.RowKit Go.Maps Go.ChangeMaps
set_option linter.unusedVariables false
/-- A gate's cell in the box is written. -/
theorem Ds.opens {w : World} {c : Array Value} {op : Nat → Bool} {ps : List (Int × Int)} {A B : Value} (h : Ds w c op ps A B) {i : Nat} (hi : i < 256) (v : Bool) : Ds w (c.setIfInBounds i (.bool v)) (fup op i v) ps A B :=
  ⟨by rw [h.eq, dc_setopen op A B hi v], h.who, h.at_⟩
theorem lay_end {w W W2 W3 : World} {b1 b2 : Nat} {c d c3 : Array Value} {op : Nat → Bool} {ps : List (Int × Int)} {A B l : Value} {L : List Int} {i : Nat} {v : Bool} (hB : Bx w W b1 b2 c d) (h : Ds W c op ps A B) (hr : Rd W l L) (hd : d[0]? = some (.bool false)) (hi : i < 256) (e2 : W2 = W.setCell ⟨b1, i, none⟩ (.bool v)) (e3 : c3 = c.setIfInBounds i (.bool v)) (h3 : W3.heap[b2]? = some (.cells c3 29 (0, 0))) (t3 : Touch [b2] W2 W3) : RpE (.returned (.tuple #[.agg c3, l, .int .i64 0])) w W3 (fup op i v) ps L 0 := by
  have T2 : Touch [b1] W W2 := by rw [e2]; exact (Touch.refl _ _).setCell (by simp) _
  have B2 : Bx w W2 b1 b2 c3 d := by rw [e2, e3]; exact hB.set i _
  have s2 : Ds W2 c3 (fup op i v) ps A B := by rw [e3]; exact (h.keepB T2 hB.h1 (h.cells.2.2 0 (by omega))).opens hi v
  have r2 := hr.keepB T2 hB.h1 (h.cells.2.2 0 (by omega))
  exact ⟨c3, A, B, l, rfl, s2.keepB t3 B2.h2 hd, r2.keepB t3 B2.h2 hd, (B2.fill h3 t3).tc⟩
section
variable {w : World} {c : Array Value} {op : Nat → Bool} {ps : List (Int × Int)} {A B : Value}
set_option maxHeartbeats 4000000 in
theorem lay25_no (h : Ds w c op ps A B) (n : Int) (v : Bool) (hn : inG n = false) : Calls Try.prog 25 #[.agg c, .int .i64 n, .bool v] w fun e w' => RpE e w w' op ps [] 70 := by
  have z29 := zero29
  have d0 := dc_size (fun _ => false) (.slice none 0 0) (.slice none 0 0)
  have dz := dc_open (fun _ => false) (.slice none 0 0) (.slice none 0 0) (show 0 < 256 by omega)
  generalize dc (fun _ => false) (.slice none 0 0) (.slice none 0 0) = d at *
  obtain ⟨W1, hW1⟩ : ∃ W1, W1 = (w.alloc (.cells c 29)).alloc (.cells d 29) := ⟨_, rfl⟩
  have bx := Bx.start w c d
  rw [← hW1] at bx
  have HI : Hid (∀ W, Calls Try.prog 29 #[.int .i64 n] W fun e w' => e = .returned (.bool false) ∧ w' = W) := fun W => by rw [← hn]; exact is29 W n
  have HD := hid h.dg
  have HDs := hid (And.intro d0 dz)
  have HB := hid bx
  have HW := hid hW1
  have HE : Hid (∀ W', Bx w W' w.heap.size (w.heap.size + 1) c c → RpE (.returned (.tuple #[.agg c, .slice none 0 0, .int .i64 70])) w W' op ps [] 70) := fun W' b => ⟨c, A, B, _, rfl, h.keep0 b.tc, Rd.nil _, b.tc⟩
  clear h d0 dz hn bx hW1
  go_enter Try.func25, Try.ntmps25
  go_upto_region 1 with fail
  rw [← HW.out]
  clear HW
  generalize w.heap.size = b1 at *
  generalize b1 + 1 = b2 at *
  go_wp2_with (first
    | (go_at_call 29; refine (HI.out _).mono ?_; rintro e w2 ⟨rfl, rfl⟩)
    | (refine wpList_load29 rfl _ rfl b1 c 29 (0, 0) rfl HB.out.h1 HD.out.size ?_)
    | (refine wpList_store29 rfl _ _ rfl b2 d c 29 rfl rfl HB.out.h2 HDs.out.1 HD.out ?_; intro w3 h3 t3 s3; have B3 := hid (HB.out.fill h3 t3); clear h3 t3 s3)
    | fail)
  exact bodyPost_ret (v := .tuple #[.agg c, .slice none 0 0, .int .i64 70]) (by rw [results_cell3 Try.results25 _ _ rfl B3.out.h2 HD.out.size]; rfl) rfl (HE.out _ B3.out)
set_option maxHeartbeats 4000000 in
set_option maxRecDepth 100000 in
theorem lay25_shut (h : Ds w c op ps A B) (n : Int) (hn : inG n = true) : Calls Try.prog 25 #[.agg c, .int .i64 n, .bool false] w fun e w' => RpE e w w' (fup op n.toNat false) ps [] 0 := by
  have z29 := zero29
  have d0 := dc_size (fun _ => false) (.slice none 0 0) (.slice none 0 0)
  have dz := dc_open (fun _ => false) (.slice none 0 0) (.slice none 0 0) (show 0 < 256 by omega)
  generalize dc (fun _ => false) (.slice none 0 0) (.slice none 0 0) = d at *
  obtain ⟨W1, hW1⟩ : ∃ W1, W1 = (w.alloc (.cells c 29)).alloc (.cells d 29) := ⟨_, rfl⟩
  have bx := Bx.start w c d
  rw [← hW1] at bx
  have HI : Hid (∀ W, Calls Try.prog 29 #[.int .i64 n] W fun e w' => e = .returned (.bool true) ∧ w' = W) := fun W => by rw [← hn]; exact is29 W n
  have HD := hid h.dg
  have HDs := hid (And.intro d0 dz)
  have HB := hid bx
  have HW := hid hW1
  obtain ⟨hn0, hn1⟩ := inG_yes hn
  have hni := (inG_nat hn).1
  have HC : Hid (∀ W, Bx w W w.heap.size (w.heap.size + 1) c d → W.cell? ⟨w.heap.size, n.toNat, none⟩ = some (.bool (op n.toNat)) ∧ W.frozen? ⟨w.heap.size, n.toNat, none⟩ = false) := fun W b => ⟨cell_at b.h1 (h.cells.2.2 _ hni), froz_at b.h1 _⟩
  obtain ⟨c3, hc3⟩ : ∃ c3, c3 = c.setIfInBounds n.toNat (.bool false) := ⟨_, rfl⟩
  have HD3 : Hid (Dg c3) := by rw [hc3]; exact (h.opens hni false).dg
  have HE : Hid (∀ W W3 l, Bx w W w.heap.size (w.heap.size + 1) c d → Rd W l [] → W3.heap[w.heap.size + 1]? = some (.cells c3 29 (0, 0)) → Touch [w.heap.size + 1] (W.setCell ⟨w.heap.size, n.toNat, none⟩ (.bool false)) W3 → RpE (.returned (.tuple #[.agg c3, l, .int .i64 0])) w W3 (fup op n.toNat false) ps [] 0) := fun W W3 l b r h3 t3 => lay_end b (h.keep0 b.tc) r HDs.out.2 hni rfl hc3 h3 t3
  have HX : Hid (∀ W, Bx w W w.heap.size (w.heap.size + 1) c d → (W.setCell ⟨w.heap.size, n.toNat, none⟩ (.bool false)).heap[w.heap.size]? = some (.cells c3 29 (0, 0)) ∧ (W.setCell ⟨w.heap.size, n.toNat, none⟩ (.bool false)).heap[w.heap.size + 1]? = some (.cells d 29 (0, 0))) := fun W b => by
    have := b.set n.toNat (.bool false)
    rw [← hc3] at this
    exact ⟨this.h1, this.h2⟩
  clear h d0 dz hn bx hW1 hni hc3
  generalize fup op n.toNat false = op' at *
  generalize op n.toNat = bo at *
  go_enter Try.func25, Try.ntmps25
  go_upto_region 1 with fail
  rw [← HW.out]
  clear HW
  generalize w.heap.size = b1 at *
  generalize b1 + 1 = b2 at *
  go_upto_region 6 with (first
    | (go_at_call 29; refine (HI.out _).mono ?_; rintro e w2 ⟨rfl, rfl⟩)
    | fail)
  have B4 := hid (HB.out.keep ((Touch.refl [] w2).alloc (.cells #[] 3)))
  have hl4 : Rd (w2.alloc (.cells #[] 3)) (.slice (some ⟨w2.heap.size, 0, none⟩) 0 0) [] := ⟨_, _, rfl, Nat.le_refl _, Nat.zero_le _, fun e => (by cases e), Or.inl rfl⟩
  have L4 := hid hl4
  obtain ⟨y4, f4⟩ := HC.out _ B4.out
  obtain ⟨x1, x2⟩ := HX.out _ B4.out
  have X1 := hid x1
  have X2 := hid x2
  clear hl4 x1 x2
  generalize w2.alloc (.cells #[] 3) = w4 at *
  go_wp2_with (first
    | (refine wpList_load29 rfl _ rfl b1 c3 29 (0, 0) rfl X1.out HD3.out.size ?_)
    | (refine wpList_store29 rfl _ _ rfl b2 d c3 29 rfl rfl X2.out HDs.out.1 HD3.out ?_; intro w3 h3 t3 s3; have B3 := hid (And.intro (HE.out w4 w3 _ B4.out L4.out h3 t3) h3); clear h3 t3 s3)
    | fail)
  exact bodyPost_ret (v := .tuple #[.agg c3, .slice (some ⟨w2.heap.size, 0, none⟩) 0 0, .int .i64 0]) (by rw [results_cell3 Try.results25 _ _ rfl B3.out.2 HD3.out.size]; rfl) rfl B3.out.1
set_option maxHeartbeats 4000000 in
set_option maxRecDepth 100000 in
theorem lay25_open (h : Ds w c op ps A B) (hd : Dk ps) (n : Int) (hn : inG n = true) (hl : ps.length ≤ 4398046511104) : Calls Try.prog 25 #[.agg c, .int .i64 n, .bool true] w fun e w' => RpE e w w' (fup op n.toNat true) (lvs (wOf ps n) ps) (wOf ps n) 0 := by
  have z29 := zero29
  have d0 := dc_size (fun _ => false) (.slice none 0 0) (.slice none 0 0)
  have dz := dc_open (fun _ => false) (.slice none 0 0) (.slice none 0 0) (show 0 < 256 by omega)
  generalize dc (fun _ => false) (.slice none 0 0) (.slice none 0 0) = d at *
  obtain ⟨W1, hW1⟩ : ∃ W1, W1 = (w.alloc (.cells c 29)).alloc (.cells d 29) := ⟨_, rfl⟩
  have bx := Bx.start w c d
  rw [← hW1] at bx
  have HI : Hid (∀ W, Calls Try.prog 29 #[.int .i64 n] W fun e w' => e = .returned (.bool true) ∧ w' = W) := fun W => by rw [← hn]; exact is29 W n
  have HD := hid h.dg
  have HDs := hid (And.intro d0 dz)
  have HB := hid bx
  have HW := hid hW1
  obtain ⟨hn0, hn1⟩ := inG_yes hn
  have hni := (inG_nat hn).1
  have HA : Hid (∀ W, Bx w W w.heap.size (w.heap.size + 1) c d → W.cell? ⟨w.heap.size, 256, none⟩ = some A) := fun W b => cell_at b.h1 h.cells.1
  have HP : Hid (∀ W, Bx w W w.heap.size (w.heap.size + 1) c d → Calls Try.prog 26 #[.agg c, .int .i64 n, .int .i64 ps.length] W fun e w' => RpE e W w' op (lvs (wOf ps n) ps) (wOf ps n) 0) := fun W b => by
    have := pass26_yes (h.keep0 b.tc) hd n ps.length hn (by omega) hl
    rw [Int.toNat_natCast, List.take_of_length_le (wOf_len ps n)] at this
    exact this
  have HE : Hid (∀ W W3 c5 A5 B5 l, Bx w W w.heap.size (w.heap.size + 1) c5 d → Ds W c5 op (lvs (wOf ps n) ps) A5 B5 → Rd W l (wOf ps n) → W3.heap[w.heap.size + 1]? = some (.cells (c5.setIfInBounds n.toNat (.bool true)) 29 (0, 0)) → Touch [w.heap.size + 1] (W.setCell ⟨w.heap.size, n.toNat, none⟩ (.bool true)) W3 → RpE (.returned (.tuple #[.agg (c5.setIfInBounds n.toNat (.bool true)), l, .int .i64 0])) w W3 (fup op n.toNat true) (lvs (wOf ps n) ps) (wOf ps n) 0) := fun W W3 c5 A5 B5 l b s r h3 t3 => lay_end b s r HDs.out.2 hni rfl rfl h3 t3
  have HX : Hid (∀ W c5 A5 B5, Bx w W w.heap.size (w.heap.size + 1) c5 d → Ds W c5 op (lvs (wOf ps n) ps) A5 B5 → (W.cell? ⟨w.heap.size, n.toNat, none⟩ = some (.bool (op n.toNat)) ∧ W.frozen? ⟨w.heap.size, n.toNat, none⟩ = false) ∧ Dg (c5.setIfInBounds n.toNat (.bool true)) ∧ (W.setCell ⟨w.heap.size, n.toNat, none⟩ (.bool true)).heap[w.heap.size]? = some (.cells (c5.setIfInBounds n.toNat (.bool true)) 29 (0, 0)) ∧ (W.setCell ⟨w.heap.size, n.toNat, none⟩ (.bool true)).heap[w.heap.size + 1]? = some (.cells d 29 (0, 0))) := fun W c5 A5 B5 b s => by
    have := b.set n.toNat (.bool true)
    exact ⟨⟨cell_at b.h1 (s.cells.2.2 _ hni), froz_at b.h1 _⟩, (s.opens hni true).dg, this.h1, this.h2⟩
  have HSt : Hid (∀ W w5 w6 c5 A5 B5 l, Bx w W w.heap.size (w.heap.size + 1) c d → Touch [] W w5 → Ds w5 c5 op (lvs (wOf ps n) ps) A5 B5 → Rd w5 l (wOf ps n) → w6.heap[w.heap.size]? = some (.cells c5 29 (0, 0)) → Touch [w.heap.size] w5 w6 → Bx w w6 w.heap.size (w.heap.size + 1) c5 d ∧ Ds w6 c5 op (lvs (wOf ps n) ps) A5 B5 ∧ Rd w6 l (wOf ps n)) := fun W w5 w6 c5 A5 B5 l b t5 s5 r5 h6 t6 => by
    have b5 := b.keep t5
    have q0 := h.cells.2.2 0 (by omega)
    exact ⟨⟨h6, t6.keep b5.h2 (by simp), b5.tc.trans t6 (fun i hi => Or.inr (by simp only [List.mem_singleton] at hi; omega)), b.n1, b.n2, b.ne⟩, s5.keepB t6 b5.h1 q0, r5.keepB t6 b5.h1 q0⟩
  obtain ⟨a0, ca, eA, _, _⟩ := h.who.form
  rw [List.length_map] at eA
  have zl : (ps.length : Int) ≤ 4398046511104 := by omega
  clear h hd d0 dz hn bx hW1 hni hl
  subst eA
  generalize fup op n.toNat true = op' at *
  generalize op n.toNat = bo at *
  go_enter Try.func25, Try.ntmps25
  go_upto_region 1 with fail
  rw [← HW.out]
  clear HW
  generalize w.heap.size = b1 at *
  generalize b1 + 1 = b2 at *
  go_upto_region 4 with (first
    | (go_at_call 29; refine (HI.out _).mono ?_; rintro e w2 ⟨rfl, rfl⟩)
    | fail)
  have B4 := hid (HB.out.keep ((Touch.refl [] w2).alloc (.cells #[] 3)))
  have y4 := HA.out _ B4.out
  generalize hw4 : w2.alloc (.cells #[] 3) = w4 at *
  clear hw4
  go_wp2_with (first
    | (refine wpList_load29 rfl _ rfl b1 c 29 (0, 0) rfl B4.out.h1 HD.out.size ?_)
    | (go_at_call 26; refine (HP.out _ B4.out).mono ?_; rintro e w5 ⟨c5, A5, B5, l5, rfl, s5, r5, t5⟩; have S5 := hid (And.intro s5 (And.intro r5 t5)); have D5 := hid s5.dg; clear s5 r5 t5)
    | (refine wpList_store29 rfl _ _ rfl b1 c c5 29 rfl rfl (B4.out.keep S5.out.2.2).h1 HD.out.size D5.out ?_; intro w6 h6 t6 s6; obtain ⟨b6, d6, r6⟩ := HSt.out w4 w5 w6 c5 A5 B5 l5 B4.out S5.out.2.2 S5.out.1 S5.out.2.1 h6 t6; obtain ⟨⟨y6, f6⟩, g6, x61, x62⟩ := HX.out w6 c5 A5 B5 b6 d6; have E6 := hid (HE.out w6 · c5 A5 B5 l5 b6 d6 r6); have X6 := hid (And.intro g6 (And.intro x61 x62)); clear h6 t6 s6 b6 d6 r6 g6 x61 x62; generalize c5.setIfInBounds n.toNat (.bool true) = c6 at *)
    | (refine wpList_load29 rfl _ rfl b1 c6 29 (0, 0) rfl X6.out.2.1 X6.out.1.size ?_)
    | (refine wpList_store29 rfl _ _ rfl b2 d c6 29 rfl rfl X6.out.2.2 HDs.out.1 X6.out.1 ?_; intro w3 h3 t3 s3; have B3 := hid (And.intro (E6.out w3 h3 t3) h3); clear h3 t3 s3)
    | fail)
  exact bodyPost_ret (v := .tuple #[.agg c6, l5, .int .i64 0]) (by rw [results_cell3 Try.results25 _ _ rfl B3.out.2 X6.out.1.size]; rfl) rfl B3.out.1
end
end Go.Proofs.Ytmbjjkdocmcpdaa
