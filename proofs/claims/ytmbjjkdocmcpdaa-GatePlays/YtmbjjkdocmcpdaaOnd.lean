/- The law's one, some pass: both sides answer alike. -/
import Derived.Test.YtmbjjkdocmcpdaaOne
namespace Go.Proofs.Ytmbjjkdocmcpdaa
open Go.RowKit Go.Maps Go.ChangeMaps
set_option linter.unusedVariables false
set_option linter.unusedSimpArgs false
section
variable {w : World} {g : Nat} {F : List Nat} {c : Array Value} {op : Nat → Bool} {ps : List (Int × Int)} {A B : Value} {W : Nat → List Int}
set_option maxHeartbeats 8000000 in
set_option maxRecDepth 100000 in
theorem one10_pass (hg : Gs w g F op W) (h : Ds w c op ps A B) (iv : Iv op W ps) (n x k : Int) (hx : W64 x) (hl : ps.length ≤ 4398046511103) : Calls Try.prog 10 #[.pointer (some ⟨g, 0, none⟩), .agg c, .agg #[.int .i64 3, .int .i64 n, .int .i64 x, .int .i64 k]] w fun e w' => Ro e w w' g F ps := by
  have z29 := zero29
  have d0 := dc_size (fun _ => false) (.slice none 0 0) (.slice none 0 0)
  have dz := dc_open (fun _ => false) (.slice none 0 0) (.slice none 0 0) (show 0 < 256 by omega)
  generalize dc (fun _ => false) (.slice none 0 0) (.slice none 0 0) = d at *
  obtain ⟨W1, hW1⟩ : ∃ W1, W1 = ((w.alloc (.cells c 29)).alloc (.cells #[.int .i64 3, .int .i64 n, .int .i64 x, .int .i64 k] 31)).alloc (.cells d 29) := ⟨_, rfl⟩
  have bo := Bo.start w c d #[.int .i64 3, .int .i64 n, .int .i64 x, .int .i64 k] hg.lt
  rw [← hW1] at bo
  have t1 : Touch [] w W1 := by rw [hW1]; exact (((Touch.refl _ _).alloc _).alloc _).alloc _
  have g1 := hg.keep0 t1
  have htot : tot W = ps.length := tot_rel iv.rel iv.dk
  have HP := hid (pass16 g1 n k (by omega))
  have HQ : Hid (∀ w2 w3, WaE W1 w2 g F op (WP W n k) → Touch [] w2 w3 → Calls Try.prog 26 #[.agg c, .int .i64 n, .int .i64 k] w3 fun e w' => DpE e w3 w' op (WP W n k) ps (lP W n k) (eP n k)) := fun w2 w3 ⟨F', _, t2, _⟩ t3 => dpass (((h.keep0 t1).keepG g1 t2).keep0 t3) hg.ok iv n k (by omega)
  have HE : Hid (∀ w2 w3 w4 w4' w5 c3 A3 B3 ps', WaE W1 w2 g F op (WP W n k) → Ds w3 c3 op ps' A3 B3 → Touch [] w2 w3 → Iv op (WP W n k) ps' → ps'.length ≤ ps.length + 1 → Touch [w3.heap.size] (w3.alloc (.cells d 29)) w4 → Touch [] w4 w4' → w4'.heap[w.heap.size + 1 + 1]? = some (.cells d 29 (0, 0)) → Touch [w.heap.size + 1 + 1] w4' w5 → Ro (.returned (.tuple #[.agg c3, .bool true])) w w5 g F ps) := fun w2 w3 w4 w4' w5 c3 A3 B3 ps' pa s3 t3 iv' hlen t4 t45 hb2 t5 => one_end t1 hg.lt pa s3 t3 iv' hlen dz t4 t45 hb2 (by omega) t5
  have HLc : Hid ((lP W n k).length ≤ 4398046511104) := by
    show _ ≤ _
    unfold lP
    split
    · rename_i hin
      have hg' : inG n = true := by unfold okP at hin; simp at hin; exact hin.1
      have := tot_le W (inG_nat hg').1
      rw [List.length_take]
      omega
    · simp
  have HD := hid h.dg
  have HDs := hid (And.intro d0 dz)
  have HB := hid bo
  have HW := hid hW1
  clear hg h iv d0 dz bo t1 g1 htot hW1 hl
  generalize eP n k = cE at *
  generalize WP W n k = cW at *
  generalize lP W n k = cL at *
  go_enter Try.func10, Try.ntmps10
  go_upto_region 1 with fail
  rw [← HW.out]
  clear HW
  generalize w.heap.size = b1 at *
  generalize b1 + 1 = bA at *
  generalize bA + 1 = b2 at *
  have y0 := cell_at HB.out.hA (j := 0) rfl
  have y1 := cell_at HB.out.hA (j := 1) rfl
  have y2 := cell_at HB.out.hA (j := 2) rfl
  have y3 := cell_at HB.out.hA (j := 3) rfl
  go_upto_region 17 with (first
    | (go_at_call 16; refine HP.out.mono ?_; rintro e w2 ⟨v2, rfl, ow2, wa2⟩; have R2 := hid (Rd.of_own ow2); clear ow2; have b2' := (show Bo w w2 F b1 bA b2 c d _ by obtain ⟨F', _, tt, _⟩ := wa2; exact HB.out.keep tt); have B2 := hid b2'; have A2 := hid wa2; have u0 := cell_at b2'.hA (j := 0) rfl; have u1 := cell_at b2'.hA (j := 1) rfl; have u2 := cell_at b2'.hA (j := 2) rfl; have u3 := cell_at b2'.hA (j := 3) rfl; clear wa2 b2')
    | (refine wpList_load29 rfl _ rfl b1 c 29 (0, 0) rfl B2.out.h1 HD.out.size ?_)
    | (go_at_call 26; refine (HQ.out w2 w2 A2.out (Touch.refl _ _)).mono ?_; rintro e w3 ⟨ps', ⟨c3, A3, B3, l3, rfl, s3, r3, t3⟩, iv3, hl3'⟩; have hl3 : ps'.length ≤ ps.length + 1 := (by omega); have R3 := hid r3; have S3 := hid (And.intro s3 (And.intro t3 (And.intro iv3 hl3))); have D3 := hid s3.dg; clear s3 t3 iv3 hl3 hl3' r3)
    | (refine wpList_store29 rfl _ _ rfl w3.heap.size d c3 29 rfl rfl (heap_alloc_new w3 _) HDs.out.1 D3.out ?_; intro w4 h4 t4 s4; have bx4 := (B2.out.keep0 (S3.out.2.1.alloc (.cells d 29))); have q4 := t4.keep bx4.h2 (by simp only [List.mem_singleton]; intro e; have := block_lt (B2.out.keep0 S3.out.2.1).h2; omega); have H4 := hid (And.intro h4 (And.intro t4 q4)); clear h4 t4 s4 bx4 q4)
    | fail)
  have r2 : Rd w4 v2 cL := (R2.out.keep0 (S3.out.2.1.alloc (.cells d 29))).keepB H4.out.2.1 (heap_alloc_new w3 _) HDs.out.2
  have r3 : Rd w4 l3 cL := (R3.out.keep0 ((Touch.refl _ _).alloc (.cells d 29))).keepB H4.out.2.1 (heap_alloc_new w3 _) HDs.out.2
  have HC := hid (ints12 w4.drew v2 l3 cL (r2.keep0 (Touch.refl _ _).drew) (r3.keep0 (Touch.refl _ _).drew) HLc.out)
  clear r2 r3 R2 R3
  refine wp_region_L (S := (fun w' => w'.heap[w3.heap.size]? = some (.cells c3 29 (0, 0)))) (st := 9) (by kernel_rfl) ?_
  have hS0 : w4.drew.heap[w3.heap.size]? = some (.cells c3 29 (0, 0)) := H4.out.1
  refine wpL_take (i := 0) (v := .agg c3) (some 129) rfl rfl (by kernel_rfl) (by kernel_rfl) (by kernel_rfl) (by kernel_rfl) (by kernel_rfl) (by decide) (fun _ _ _ h => h) (Or.inl ⟨by rfl, fun w' hS => exec_load29 _ rfl rfl hS D3.out.size⟩) hS0 ?_
  try simp only [Go.Act.put, List.setIfInBounds_toArray, List.set_cons_zero, List.set_cons_succ]
  refine wpL_takeY (i := 1) (v := v2) (some 130) rfl rfl (by kernel_rfl) (by kernel_rfl) (by kernel_rfl) (by decide) (fun _ _ _ h => h) (Or.inl ⟨by rfl, fun w' _ => by go_simp⟩) (fun _ => hS0) ?_
  try simp only [Go.Act.put, List.setIfInBounds_toArray, List.set_cons_zero, List.set_cons_succ]
  refine wpL_takeY (i := 2) (v := l3) (some 131) rfl rfl (by kernel_rfl) (by kernel_rfl) (by kernel_rfl) (by decide) (fun _ _ _ h => h) (Or.inl ⟨by rfl, fun w' _ => by go_simp⟩) (fun _ => hS0) ?_
  try simp only [Go.Act.put, List.setIfInBounds_toArray, List.set_cons_zero, List.set_cons_succ]
  refine wpL_ready (rs := [3]) (by kernel_rfl) (by simp) (AllL.cons (o := { dst := some 132, op := Op.call { callee := Callee.value (Operand.func 12), args := #[Operand.tmp 130, Operand.tmp 131], argTypes := #[27, 27] }, type := 4, pos := _, after := #[{ on := 1, ground := Ground.data }, { on := 2, ground := Ground.data }], guard := none }) rfl (fun K' hK => ?_) AllL.nil)
  rw [if_pos (by rfl)]
  go_simp
  refine HC.out.mono ?_
  rintro e w6 ⟨rfl, t6⟩
  have t46 : Touch [] w4 w6 := ((Touch.refl _ _).drew).trans' t6
  have hS6 : w6.heap[w3.heap.size]? = some (.cells c3 29 (0, 0)) := t46.keep H4.out.1 (by simp)
  have hb6 := t46.keep H4.out.2.2 (by simp)
  refine hK.out _ _ (fun _ => hS6) ?_
  clear hK t6
  try simp only [Go.Act.put, List.setIfInBounds_toArray, List.set_cons_zero, List.set_cons_succ]
  refine wpL_takeY (i := 4) (v := .bool true) (some 133) rfl rfl (by kernel_rfl) (by kernel_rfl) (by kernel_rfl) (by decide) (fun _ _ _ h => h) (Or.inl ⟨by rfl, fun w' _ => by go_simp⟩) (fun _ => hS6) ?_
  try simp only [Go.Act.put, List.setIfInBounds_toArray, List.set_cons_zero, List.set_cons_succ]
  refine wpL_takeY (i := 5) (v := .int .i64 cE) (some 134) rfl rfl (by kernel_rfl) (by kernel_rfl) (by kernel_rfl) (by decide) (fun _ _ _ h => h) (Or.inl ⟨by rfl, fun w' _ => by go_simp⟩) (fun _ => hS6) ?_
  try simp only [Go.Act.put, List.setIfInBounds_toArray, List.set_cons_zero, List.set_cons_succ]
  refine wpL_takeY (i := 6) (v := .int .i64 cE) (some 135) rfl rfl (by kernel_rfl) (by kernel_rfl) (by kernel_rfl) (by decide) (fun _ _ _ h => h) (Or.inl ⟨by rfl, fun w' _ => by go_simp⟩) (fun _ => hS6) ?_
  try simp only [Go.Act.put, List.setIfInBounds_toArray, List.set_cons_zero, List.set_cons_succ]
  refine wpL_takeY (i := 7) (v := .bool true) (some 136) rfl rfl (by kernel_rfl) (by kernel_rfl) (by kernel_rfl) (by decide) (fun _ _ _ h => h) (Or.inl ⟨by rfl, fun w' _ => by go_simp⟩) (fun _ => hS6) ?_
  try simp only [Go.Act.put, List.setIfInBounds_toArray, List.set_cons_zero, List.set_cons_succ]
  refine wpL_takeY (i := 8) (v := .bool true) (some 137) rfl rfl (by kernel_rfl) (by kernel_rfl) (by kernel_rfl) (by decide) (fun _ _ _ h => h) (Or.inl ⟨by rfl, fun w' _ => by go_simp⟩) (fun _ => hS6) ?_
  try simp only [Go.Act.put, List.setIfInBounds_toArray, List.set_cons_zero, List.set_cons_succ]
  refine wpL_ready (rs := [9]) (by kernel_rfl) (by simp) (AllL.cons (o := { dst := none, op := Op.store 29 (Operand.tmp 6) (Operand.tmp 129), type := 0, pos := _, after := #[{ on := 0, ground := Ground.data }, { on := 4, ground := Ground.chain }, { on := 0, ground := Ground.phase }, { on := 1, ground := Ground.textOnly Departure.lateStores }, { on := 2, ground := Ground.textOnly Departure.lateStores }, { on := 3, ground := Ground.textOnly Departure.lateStoresUnsure }, { on := 4, ground := Ground.textOnly Departure.lateStores }, { on := 5, ground := Ground.textOnly Departure.lateStores }, { on := 6, ground := Ground.textOnly Departure.lateStores }, { on := 7, ground := Ground.textOnly Departure.lateStores }, { on := 8, ground := Ground.textOnly Departure.lateStores }], guard := none }) rfl (fun K' hK => ?_) AllL.nil)
  rw [if_pos (by rfl)]
  refine wp_store29 (Operand.tmp 6) (Operand.tmp 129) rfl b2 d c3 29 rfl rfl hb6 HDs.out.1 D3.out (fun w5 h5 t5 s5 => ?_)
  refine hK.out _ _ (fun h => by cases (show true = false from h)) ?_
  have E5 := hid (And.intro (HE.out w2 w3 w4 w6 w5 c3 A3 B3 ps' A2.out S3.out.1 S3.out.2.1 S3.out.2.2.1 S3.out.2.2.2 H4.out.2.1 t46 hb6 t5) h5)
  clear hK h5 t5 s5 hS0 hS6 hb6 t46
  try simp only [Go.Act.put, List.setIfInBounds_toArray, List.set_cons_zero, List.set_cons_succ]
  refine wpL_takeY (i := 10) (v := .bool true) (some 7) rfl rfl (by kernel_rfl) (by kernel_rfl) (by kernel_rfl) (by decide) (fun _ _ _ h => h) (Or.inl ⟨by rfl, fun w' _ => by go_simp⟩) (fun h => by cases (show true = false from h)) ?_
  try simp only [Go.Act.put, List.setIfInBounds_toArray, List.set_cons_zero, List.set_cons_succ]
  refine wpL_done (by kernel_rfl) ?_ _
  go_wp2_with fail
  exact bodyPost_ret (v := .tuple #[.agg c3, .bool true]) (by rw [results_cell2 Try.results10 _ _ rfl E5.out.2 D3.out.size]; rfl) rfl E5.out.1
end
end Go.Proofs.Ytmbjjkdocmcpdaa
