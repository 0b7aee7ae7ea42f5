/- The law's one, who comes: both sides answer alike. -/
import Derived.Test.YtmbjjkdocmcpdaaStp
import Derived.Test.YtmbjjkdocmcpdaaOpn
namespace Go.Proofs.Ytmbjjkdocmcpdaa
open Go.RowKit Go.Maps Go.ChangeMaps
set_option linter.unusedVariables false
/-- What one act makes of both. -/
def Ro (e : Ending) (w w' : World) (g : Nat) (F : List Nat) (ps : List (Int × Int)) : Prop := ∃ c' op' W' ps' A' B', e = .returned (.tuple #[.agg c', .bool true]) ∧ WaE w w' g F op' W' ∧ Ds w' c' op' ps' A' B' ∧ Iv op' W' ps' ∧ ps'.length ≤ ps.length + 1
theorem one_end {w W1 w2 w3 w4 w4' w5 : World} {g : Nat} {F : List Nat} {op' : Nat → Bool} {W' : Nat → List Int} {ps ps' : List (Int × Int)} {c3 d : Array Value} {A3 B3 : Value} {b2 : Nat}
    (t1 : Touch [] w W1) (hF : ∀ k, k ∈ F → k < w.heap.size) (pa : WaE W1 w2 g F op' W') (s3 : Ds w3 c3 op' ps' A3 B3) (t3 : Touch [] w2 w3) (iv : Iv op' W' ps') (hlen : ps'.length ≤ ps.length + 1) (dz : d[0]? = some (.bool false))
    (t4 : Touch [w3.heap.size] (w3.alloc (.cells d 29)) w4) (t45 : Touch [] w4 w4') (hb2 : w4'.heap[b2]? = some (.cells d 29 (0, 0))) (n2 : w.heap.size ≤ b2) (t5 : Touch [b2] w4' w5) : Ro (.returned (.tuple #[.agg c3, .bool true])) w w5 g F ps := by
  obtain ⟨F', g2, t2, nf⟩ := pa
  have ta : Touch [] w3 (w3.alloc (.cells d 29)) := (Touch.refl _ _).alloc _
  have g3 := g2.keep0 t3
  have ga := g3.keep0 ta
  have g4 := ga.keep t4 (fun k hk e => by simp only [List.mem_singleton] at e; have := g3.lt k hk; omega)
  have g4' := g4.keep0 t45
  have g5 := g4'.keep t5 (fun k hk e => by simp only [List.mem_singleton] at e; subst e; exact g4'.away hb2 (by decide) hk)
  have hz1 := t1.size
  have hz2 := t2.size
  have hz3 := t3.size
  have T2 : Touch F w w2 := (t1.mono (fun _ e => by cases e)).trans' t2
  have T3 : Touch F w (w3.alloc (.cells d 29)) := T2.trans (t3.trans' ta) (fun _ e => by cases e)
  have T4 : Touch F w w4 := T3.trans t4 (fun k hk => Or.inr (by simp only [List.mem_singleton] at hk; omega))
  have T5 : Touch F w w5 := (T4.trans t45 (fun _ e => by cases e)).trans t5 (fun k hk => Or.inr (by simp only [List.mem_singleton] at hk; omega))
  have sa := s3.keep0 ta
  have s4 := sa.keepB t4 (heap_alloc_new w3 _) dz
  have s5 := (s4.keep0 t45).keepB t5 hb2 dz
  refine ⟨c3, op', W', ps', A3, B3, rfl, ⟨F', g5, T5, fun k hk => ?_⟩, s5, iv, hlen⟩
  rcases nf k hk with e | e
  · exact Or.inl e
  · exact Or.inr (by omega)
/-- The boxes of one. -/
structure Bo (w W : World) (F : List Nat) (b1 bA b2 : Nat) (c d cA : Array Value) : Prop where
  h1 : W.heap[b1]? = some (.cells c 29 (0, 0))
  hA : W.heap[bA]? = some (.cells cA 31 (0, 0))
  h2 : W.heap[b2]? = some (.cells d 29 (0, 0))
  n1 : w.heap.size ≤ b1
  nA : w.heap.size ≤ bA
  n2 : w.heap.size ≤ b2
  lt : ∀ k, k ∈ F → k < w.heap.size
theorem Bo.start (w : World) {F : List Nat} (c d cA : Array Value) (hF : ∀ k, k ∈ F → k < w.heap.size) : Bo w (((w.alloc (.cells c 29)).alloc (.cells cA 31)).alloc (.cells d 29)) F w.heap.size (w.heap.size + 1) (w.heap.size + 1 + 1) c d cA := by
  refine ⟨?_, ?_, ?_, Nat.le_refl _, by omega, by omega, hF⟩
  · rw [Below.heap_alloc _ _ _ (by simp; omega)]
    exact made2 _ _ _
  · rw [Below.heap_alloc _ _ _ (by simp)]
    exact made3 _ _ _
  · have := heap_alloc_new ((w.alloc (.cells c 29)).alloc (.cells cA 31)) (.cells d 29)
    simpa using this
theorem Bo.keep {w W W' : World} {F : List Nat} {b1 bA b2 : Nat} {c d cA : Array Value} (h : Bo w W F b1 bA b2 c d cA) (T : Touch F W W') : Bo w W' F b1 bA b2 c d cA :=
  ⟨T.keep h.h1 (fun e => by have := h.lt _ e; have := h.n1; omega), T.keep h.hA (fun e => by have := h.lt _ e; have := h.nA; omega), T.keep h.h2 (fun e => by have := h.lt _ e; have := h.n2; omega), h.n1, h.nA, h.n2, h.lt⟩
theorem Bo.keep0 {w W W' : World} {F : List Nat} {b1 bA b2 : Nat} {c d cA : Array Value} (h : Bo w W F b1 bA b2 c d cA) (T : Touch [] W W') : Bo w W' F b1 bA b2 c d cA := h.keep (T.mono (fun _ e => by cases e))
section
variable {w : World} {g : Nat} {F : List Nat} {c : Array Value} {op : Nat → Bool} {ps : List (Int × Int)} {A B : Value} {W : Nat → List Int}
set_option maxHeartbeats 8000000 in
set_option maxRecDepth 100000 in
theorem one10_come (hg : Gs w g F op W) (h : Ds w c op ps A B) (iv : Iv op W ps) (n x k : Int) (hx : W64 x) (hl : ps.length ≤ 4398046511103) : Calls Try.prog 10 #[.pointer (some ⟨g, 0, none⟩), .agg c, .agg #[.int .i64 0, .int .i64 n, .int .i64 x, .int .i64 k]] w fun e w' => Ro e w w' g F ps := by
  have z29 := zero29
  have d0 := dc_size (fun _ => false) (.slice none 0 0) (.slice none 0 0)
  have dz := dc_open (fun _ => false) (.slice none 0 0) (.slice none 0 0) (show 0 < 256 by omega)
  generalize dc (fun _ => false) (.slice none 0 0) (.slice none 0 0) = d at *
  obtain ⟨W1, hW1⟩ : ∃ W1, W1 = ((w.alloc (.cells c 29)).alloc (.cells #[.int .i64 0, .int .i64 n, .int .i64 x, .int .i64 k] 31)).alloc (.cells d 29) := ⟨_, rfl⟩
  have bo := Bo.start w c d #[.int .i64 0, .int .i64 n, .int .i64 x, .int .i64 k] hg.lt
  rw [← hW1] at bo
  have t1 : Touch [] w W1 := by rw [hW1]; exact (((Touch.refl _ _).alloc _).alloc _).alloc _
  have g1 := hg.keep0 t1
  have htot : tot W = ps.length := tot_rel iv.rel iv.dk
  have HP := hid (come9 g1 n x hx (by omega))
  have HQ : Hid (∀ w2 w3, WaE W1 w2 g F op (comeW op W n x) → Touch [] w2 w3 → Calls Try.prog 24 #[.agg c, .int .i64 n, .int .i64 x] w3 fun e w' => DcE e w3 w' op (comeW op W n x) ps (.bool (comeB op W n x)) (.int .i64 (comeE W n x))) := fun w2 w3 ⟨F', _, t2, _⟩ t3 => dcome (((h.keep0 t1).keepG g1 t2).keep0 t3) hg.ok iv n x hx hl
  have HE : Hid (∀ w2 w3 w4 w5 c3 A3 B3 ps', WaE W1 w2 g F op (comeW op W n x) → Ds w3 c3 op ps' A3 B3 → Touch [] w2 w3 → Iv op (comeW op W n x) ps' → ps'.length ≤ ps.length + 1 → Touch [w3.heap.size] (w3.alloc (.cells d 29)) w4 → w4.heap[w.heap.size + 1 + 1]? = some (.cells d 29 (0, 0)) → Touch [w.heap.size + 1 + 1] w4 w5 → Ro (.returned (.tuple #[.agg c3, .bool true])) w w5 g F ps) := fun w2 w3 w4 w5 c3 A3 B3 ps' pa s3 t3 iv' hlen t4 hb2 t5 => one_end t1 hg.lt pa s3 t3 iv' hlen dz t4 (Touch.refl _ _) hb2 (by omega) t5
  have HD := hid h.dg
  have HDs := hid (And.intro d0 dz)
  have HB := hid bo
  have HW := hid hW1
  clear hg h iv d0 dz bo t1 g1 htot hW1 hl
  generalize comeB op W n x = cB at *
  generalize comeE W n x = cE at *
  generalize comeW op W n x = cW at *
  go_enter Try.func10, Try.ntmps10
  go_upto_region 1 with fail
  rw [← HW.out]
  clear HW
  generalize w.heap.size = b1 at *
  generalize b1 + 1 = bA at *
  generalize bA + 1 = b2 at *
  have y0 := cell_at HB.out.hA (j := 0) rfl
  have y1 := cell_at HB.out.hA (j := 1) rfl
  have y2 := cell_at HB.out.hA (j := 2) rfl
  go_wp2_with (first
    | (go_at_call 9; refine HP.out.mono ?_; rintro e w2 ⟨rfl, wa2⟩; have b2' := (show Bo w w2 F b1 bA b2 c d _ by obtain ⟨F', _, tt, _⟩ := wa2; exact HB.out.keep tt); have B2 := hid b2'; have A2 := hid wa2; have u0 := cell_at b2'.hA (j := 0) rfl; have u1 := cell_at b2'.hA (j := 1) rfl; have u2 := cell_at b2'.hA (j := 2) rfl; clear wa2 b2')
    | (refine wpList_load29 rfl _ rfl b1 c 29 (0, 0) rfl B2.out.h1 HD.out.size ?_)
    | (go_at_call 24; refine (HQ.out w2 w2 A2.out (Touch.refl _ _)).mono ?_; rintro e w3 ⟨ps', ⟨c3, A3, B3, rfl, s3, t3⟩, iv3, hl3⟩; have S3 := hid (And.intro s3 (And.intro t3 (And.intro iv3 hl3))); have D3 := hid s3.dg; clear s3 t3 iv3 hl3)
    | (refine wpList_store29 rfl _ _ rfl w3.heap.size d c3 29 rfl rfl (heap_alloc_new w3 _) HDs.out.1 D3.out ?_; intro w4 h4 t4 s4; have bx4 := (B2.out.keep0 (S3.out.2.1.alloc (.cells d 29))); have q4 := t4.keep bx4.h2 (by simp only [List.mem_singleton]; intro e; have := block_lt (B2.out.keep0 S3.out.2.1).h2; omega); have H4 := hid (And.intro h4 (And.intro t4 q4)); clear h4 t4 s4 bx4 q4)
    | (refine wpList_load29 rfl _ rfl w3.heap.size c3 29 (0, 0) rfl H4.out.1 D3.out.size ?_)
    | (refine wpList_store29 rfl _ _ rfl b2 d c3 29 rfl rfl H4.out.2.2 HDs.out.1 D3.out ?_; intro w5 h5 t5 s5; have E5 := hid (And.intro (HE.out w2 w3 w4 w5 c3 A3 B3 ps' A2.out S3.out.1 S3.out.2.1 S3.out.2.2.1 S3.out.2.2.2 H4.out.2.1 H4.out.2.2 t5) h5); clear h5 t5 s5)
    | fail)
  exact bodyPost_ret (v := .tuple #[.agg c3, .bool true]) (by rw [results_cell2 Try.results10 _ _ rfl E5.out.2 D3.out.size]; rfl) rfl E5.out.1
end
end Go.Proofs.Ytmbjjkdocmcpdaa
