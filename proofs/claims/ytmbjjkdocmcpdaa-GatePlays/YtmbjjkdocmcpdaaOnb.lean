/- The law's one, a gate is shut, or who leaves: both sides answer alike. -/
import Derived.Test.YtmbjjkdocmcpdaaOne
namespace Go.Proofs.Ytmbjjkdocmcpdaa
open Go.RowKit Go.Maps Go.ChangeMaps
set_option linter.unusedVariables false
set_option linter.unusedSimpArgs false
section
variable {w : World} {g : Nat} {F : List Nat} {c : Array Value} {op : Nat → Bool} {ps : List (Int × Int)} {A B : Value} {W : Nat → List Int}
set_option maxHeartbeats 8000000 in
set_option maxRecDepth 100000 in
theorem one10_shut (hg : Gs w g F op W) (h : Ds w c op ps A B) (iv : Iv op W ps) (n x k : Int) (hx : W64 x) (hl : ps.length ≤ 4398046511103) : Calls Try.prog 10 #[.pointer (some ⟨g, 0, none⟩), .agg c, .agg #[.int .i64 2, .int .i64 n, .int .i64 x, .int .i64 k]] w fun e w' => Ro e w w' g F ps := by
  have z29 := zero29
  have d0 := dc_size (fun _ => false) (.slice none 0 0) (.slice none 0 0)
  have dz := dc_open (fun _ => false) (.slice none 0 0) (.slice none 0 0) (show 0 < 256 by omega)
  generalize dc (fun _ => false) (.slice none 0 0) (.slice none 0 0) = d at *
  obtain ⟨W1, hW1⟩ : ∃ W1, W1 = ((w.alloc (.cells c 29)).alloc (.cells #[.int .i64 2, .int .i64 n, .int .i64 x, .int .i64 k] 31)).alloc (.cells d 29) := ⟨_, rfl⟩
  have bo := Bo.start w c d #[.int .i64 2, .int .i64 n, .int .i64 x, .int .i64 k] hg.lt
  rw [← hW1] at bo
  have t1 : Touch [] w W1 := by rw [hW1]; exact (((Touch.refl _ _).alloc _).alloc _).alloc _
  have g1 := hg.keep0 t1
  have htot : tot W = ps.length := tot_rel iv.rel iv.dk
  have HP := hid (shut19 g1 n)
  have HQ : Hid (∀ w2 w3, WaE W1 w2 g F (opO op n false) W → Touch [] w2 w3 → Calls Try.prog 25 #[.agg c, .int .i64 n, .bool false] w3 fun e w' => DpE e w3 w' (opO op n false) W ps [] (eG n)) := fun w2 w3 ⟨F', _, t2, _⟩ t3 => dshut (((h.keep0 t1).keepG g1 t2).keep0 t3) iv n
  have HE : Hid (∀ w2 w3 w4 w5 c3 A3 B3 ps', WaE W1 w2 g F (opO op n false) W → Ds w3 c3 (opO op n false) ps' A3 B3 → Touch [] w2 w3 → Iv (opO op n false) W ps' → ps'.length ≤ ps.length + 1 → Touch [w3.heap.size] (w3.alloc (.cells d 29)) w4 → w4.heap[w.heap.size + 1 + 1]? = some (.cells d 29 (0, 0)) → Touch [w.heap.size + 1 + 1] w4 w5 → Ro (.returned (.tuple #[.agg c3, .bool true])) w w5 g F ps) := fun w2 w3 w4 w5 c3 A3 B3 ps' pa s3 t3 iv' hlen t4 hb2 t5 => one_end t1 hg.lt pa s3 t3 iv' hlen dz t4 (Touch.refl _ _) hb2 (by omega) t5
  have HD := hid h.dg
  have HDs := hid (And.intro d0 dz)
  have HB := hid bo
  have HW := hid hW1
  clear hg h iv d0 dz bo t1 g1 htot hW1 hl
  generalize eG n = cE at *
  generalize opO op n false = op2 at *
  go_enter Try.func10, Try.ntmps10
  go_upto_region 1 with fail
  rw [← HW.out]
  clear HW
  generalize w.heap.size = b1 at *
  generalize b1 + 1 = bA at *
  generalize bA + 1 = b2 at *
  have y0 := cell_at HB.out.hA (j := 0) rfl
  have y1 := cell_at HB.out.hA (j := 1) rfl
  have y2 := cell_at HB.out.hA (j := 2) rfl
  go_wp2_with (first
    | (go_at_call 19; refine HP.out.mono ?_; rintro e w2 ⟨rfl, wa2⟩; have b2' := (show Bo w w2 F b1 bA b2 c d _ by obtain ⟨F', _, tt, _⟩ := wa2; exact HB.out.keep tt); have B2 := hid b2'; have A2 := hid wa2; have u0 := cell_at b2'.hA (j := 0) rfl; have u1 := cell_at b2'.hA (j := 1) rfl; have u2 := cell_at b2'.hA (j := 2) rfl; clear wa2 b2')
    | (refine wpList_load29 rfl _ rfl b1 c 29 (0, 0) rfl B2.out.h1 HD.out.size ?_)
    | (go_at_call 25; refine (HQ.out w2 w2 A2.out (Touch.refl _ _)).mono ?_; rintro e w3 ⟨ps', ⟨c3, A3, B3, l3, rfl, s3, r3, t3⟩, iv3, hl3'⟩; have hl3 : ps'.length ≤ ps.length + 1 := (by omega); have S3 := hid (And.intro s3 (And.intro t3 (And.intro iv3 hl3))); have D3 := hid s3.dg; clear s3 t3 iv3 hl3 hl3' r3)
    | (refine wpList_store29 rfl _ _ rfl w3.heap.size d c3 29 rfl rfl (heap_alloc_new w3 _) HDs.out.1 D3.out ?_; intro w4 h4 t4 s4; have bx4 := (B2.out.keep0 (S3.out.2.1.alloc (.cells d 29))); have q4 := t4.keep bx4.h2 (by simp only [List.mem_singleton]; intro e; have := block_lt (B2.out.keep0 S3.out.2.1).h2; omega); have H4 := hid (And.intro h4 (And.intro t4 q4)); clear h4 t4 s4 bx4 q4)
    | (refine wpList_load29 rfl _ rfl w3.heap.size c3 29 (0, 0) rfl H4.out.1 D3.out.size ?_)
    | (refine wpList_store29 rfl _ _ rfl b2 d c3 29 rfl rfl H4.out.2.2 HDs.out.1 D3.out ?_; intro w5 h5 t5 s5; have E5 := hid (And.intro (HE.out w2 w3 w4 w5 c3 A3 B3 ps' A2.out S3.out.1 S3.out.2.1 S3.out.2.2.1 S3.out.2.2.2 H4.out.2.1 H4.out.2.2 t5) h5); clear h5 t5 s5)
    | fail)
  exact bodyPost_ret (v := .tuple #[.agg c3, .bool true]) (by rw [results_cell2 Try.results10 _ _ rfl E5.out.2 D3.out.size]; rfl) rfl E5.out.1
set_option maxHeartbeats 8000000 in
set_option maxRecDepth 100000 in
theorem one10_leave (hg : Gs w g F op W) (h : Ds w c op ps A B) (iv : Iv op W ps) (kd n x k : Int) (z0 : (kd == 0) = false) (z1 : (kd == 1) = false) (z2 : (kd == 2) = false) (z3 : (kd == 3) = false) (hx : W64 x) (hl : ps.length ≤ 4398046511103) : Calls Try.prog 10 #[.pointer (some ⟨g, 0, none⟩), .agg c, .agg #[.int .i64 kd, .int .i64 n, .int .i64 x, .int .i64 k]] w fun e w' => Ro e w w' g F ps := by
  have z29 := zero29
  have d0 := dc_size (fun _ => false) (.slice none 0 0) (.slice none 0 0)
  have dz := dc_open (fun _ => false) (.slice none 0 0) (.slice none 0 0) (show 0 < 256 by omega)
  generalize dc (fun _ => false) (.slice none 0 0) (.slice none 0 0) = d at *
  obtain ⟨W1, hW1⟩ : ∃ W1, W1 = ((w.alloc (.cells c 29)).alloc (.cells #[.int .i64 kd, .int .i64 n, .int .i64 x, .int .i64 k] 31)).alloc (.cells d 29) := ⟨_, rfl⟩
  have bo := Bo.start w c d #[.int .i64 kd, .int .i64 n, .int .i64 x, .int .i64 k] hg.lt
  rw [← hW1] at bo
  have t1 : Touch [] w W1 := by rw [hW1]; exact (((Touch.refl _ _).alloc _).alloc _).alloc _
  have g1 := hg.keep0 t1
  have htot : tot W = ps.length := tot_rel iv.rel iv.dk
  have HP := hid (leave17 g1 x hx (by omega))
  have HQ : Hid (∀ w2 w3, WaE W1 w2 g F op (WL W x) → Touch [] w2 w3 → Calls Try.prog 27 #[.agg c, .int .i64 x] w3 fun e w' => DcE e w3 w' op (WL W x) ps (.int .i64 (locI W x)) (.bool (loc W x).isSome)) := fun w2 w3 ⟨F', _, t2, _⟩ t3 => dleave (((h.keep0 t1).keepG g1 t2).keep0 t3) hg.ok iv x (by omega)
  have HE : Hid (∀ w2 w3 w4 w5 c3 A3 B3 ps', WaE W1 w2 g F op (WL W x) → Ds w3 c3 op ps' A3 B3 → Touch [] w2 w3 → Iv op (WL W x) ps' → ps'.length ≤ ps.length + 1 → Touch [w3.heap.size] (w3.alloc (.cells d 29)) w4 → w4.heap[w.heap.size + 1 + 1]? = some (.cells d 29 (0, 0)) → Touch [w.heap.size + 1 + 1] w4 w5 → Ro (.returned (.tuple #[.agg c3, .bool true])) w w5 g F ps) := fun w2 w3 w4 w5 c3 A3 B3 ps' pa s3 t3 iv' hlen t4 hb2 t5 => one_end t1 hg.lt pa s3 t3 iv' hlen dz t4 (Touch.refl _ _) hb2 (by omega) t5
  have HD := hid h.dg
  have HDs := hid (And.intro d0 dz)
  have HB := hid bo
  have HW := hid hW1
  clear hg h iv d0 dz bo t1 g1 htot hW1 hl
  generalize locI W x = cE at *
  generalize (loc W x).isSome = cB at *
  generalize WL W x = cW at *
  go_enter Try.func10, Try.ntmps10
  go_upto_region 1 with fail
  rw [← HW.out]
  clear HW
  generalize w.heap.size = b1 at *
  generalize b1 + 1 = bA at *
  generalize bA + 1 = b2 at *
  have y0 := cell_at HB.out.hA (j := 0) rfl
  have y1 := cell_at HB.out.hA (j := 1) rfl
  have y2 := cell_at HB.out.hA (j := 2) rfl
  go_wp2_with (first
    | (go_at_call 17; refine HP.out.mono ?_; rintro e w2 ⟨rfl, wa2⟩; have b2' := (show Bo w w2 F b1 bA b2 c d _ by obtain ⟨F', _, tt, _⟩ := wa2; exact HB.out.keep tt); have B2 := hid b2'; have A2 := hid wa2; have u0 := cell_at b2'.hA (j := 0) rfl; have u1 := cell_at b2'.hA (j := 1) rfl; have u2 := cell_at b2'.hA (j := 2) rfl; clear wa2 b2')
    | (refine wpList_load29 rfl _ rfl b1 c 29 (0, 0) rfl B2.out.h1 HD.out.size ?_)
    | (go_at_call 27; refine (HQ.out w2 w2 A2.out (Touch.refl _ _)).mono ?_; rintro e w3 ⟨ps', ⟨c3, A3, B3, rfl, s3, t3⟩, iv3, hl3⟩; have S3 := hid (And.intro s3 (And.intro t3 (And.intro iv3 hl3))); have D3 := hid s3.dg; clear s3 t3 iv3 hl3)
    | (refine wpList_store29 rfl _ _ rfl w3.heap.size d c3 29 rfl rfl (heap_alloc_new w3 _) HDs.out.1 D3.out ?_; intro w4 h4 t4 s4; have bx4 := (B2.out.keep0 (S3.out.2.1.alloc (.cells d 29))); have q4 := t4.keep bx4.h2 (by simp only [List.mem_singleton]; intro e; have := block_lt (B2.out.keep0 S3.out.2.1).h2; omega); have H4 := hid (And.intro h4 (And.intro t4 q4)); clear h4 t4 s4 bx4 q4)
    | (refine wpList_load29 rfl _ rfl w3.heap.size c3 29 (0, 0) rfl H4.out.1 D3.out.size ?_)
    | (refine wpList_store29 rfl _ _ rfl b2 d c3 29 rfl rfl H4.out.2.2 HDs.out.1 D3.out ?_; intro w5 h5 t5 s5; have E5 := hid (And.intro (HE.out w2 w3 w4 w5 c3 A3 B3 ps' A2.out S3.out.1 S3.out.2.1 S3.out.2.2.1 S3.out.2.2.2 H4.out.2.1 H4.out.2.2 t5) h5); clear h5 t5 s5)
    | fail)
  exact bodyPost_ret (v := .tuple #[.agg c3, .bool true]) (by rw [results_cell2 Try.results10 _ _ rfl E5.out.2 D3.out.size]; rfl) rfl E5.out.1
end
end Go.Proofs.Ytmbjjkdocmcpdaa
