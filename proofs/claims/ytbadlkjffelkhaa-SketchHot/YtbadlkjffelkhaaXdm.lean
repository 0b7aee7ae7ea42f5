/- The document's sketch in memory, and the contracts of its Place and Count; no conditions but those that each states. -/
import Derived.Test.YtbadlkjffelkhaaXab
namespace Go.Proofs.Ytbadlkjffelkhaa.Sk
open Go.RowKit Go.Maps Go.ChangeMaps
set_option maxRecDepth 100000
set_option linter.unusedVariables false
set_option linter.unusedSimpArgs false
def dv (u : Value) (X : S) : Value := .agg #[.int .i64 (X.b : Nat), u, .int .u64 (X.t : Nat)]
def ro (Q Cp : Nat → Nat) (b r : Nat) : List Value := (List.range r).map fun i => .slice (some ⟨Q i, 0, none⟩) (2 ^ b) (Cp i)
theorem ro_at {Q Cp : Nat → Nat} {b r i : Nat} (h : i < r) : (ro Q Cp b r)[i]? = some (.slice (some ⟨Q i, 0, none⟩) (2 ^ b) (Cp i)) := by simp [ro, h]
theorem ro_succ (Q Cp : Nat → Nat) (b r : Nat) : ro Q Cp b (r + 1) = ro Q Cp b r ++ [.slice (some ⟨Q r, 0, none⟩) (2 ^ b) (Cp r)] := by simp [ro, List.range_succ]
theorem ro_congr {Q Cp Q' Cp' : Nat → Nat} {b r : Nat} (h : ∀ i, i < r → Q i = Q' i ∧ Cp i = Cp' i) : ro Q Cp b r = ro Q' Cp' b r := by
  unfold ro
  refine List.map_congr_left fun i hi => ?_
  rw [(h i (by simpa using hi)).1, (h i (by simpa using hi)).2]
structure Dq (w : World) (B G cap : Nat) (Q Cp : Nat → Nat) (X : S) : Prop where
  top : w.ownsRow B 69 1 (.slice (some ⟨G, 0, none⟩) X.r cap) X.r (ro Q Cp X.b X.r)
  row : ∀ i, i < X.r → w.ownsRow B 3 1 (.slice (some ⟨Q i, 0, none⟩) (2 ^ X.b) (Cp i)) (2 ^ X.b) (rowv X.b (X.c i))
  inj : ∀ i j, i < X.r → j < X.r → Q i = Q j → i = j
  r1 : 1 ≤ X.r
  r2 : X.r ≤ 8
  b2 : X.b ≤ 16
section
variable {w w' : World} {B G cap : Nat} {Q Cp : Nat → Nat} {X : S}
theorem Dq.keep {F : List Nat} (h : Dq w B G cap Q Cp X) (T : Touch F w w') (h1 : ¬ G ∈ F) (h2 : ∀ i, i < X.r → ¬ Q i ∈ F) : Dq w' B G cap Q Cp X :=
  ⟨own_touch h.top T (fun b hb => by cases hb; exact h1), fun i hi => own_touch (h.row i hi) T (fun b hb => by cases hb; exact h2 i hi), h.inj, h.r1, h.r2, h.b2⟩
theorem Dq.keep0 (h : Dq w B G cap Q Cp X) (T : Touch [] w w') : Dq w' B G cap Q Cp X := h.keep T (by simp) (fun _ _ => by simp)
theorem Dq.base {B' : Nat} (h : Dq w B G cap Q Cp X) (hb : B' ≤ B) : Dq w B' G cap Q Cp X := ⟨own_base h.top hb, fun i hi => own_base (h.row i hi) hb, h.inj, h.r1, h.r2, h.b2⟩
theorem Dq.apart (h : Dq w B G cap Q Cp X) {q t : Nat} {cs : Array Value} {fr : Nat × Nat} (hb : w.heap[q]? = some (.cells cs t fr)) (h1 : t ≠ 69) (h2 : t ≠ 3) : G ≠ q ∧ ∀ i, i < X.r → Q i ≠ q := by
  refine ⟨?_, fun i hi => ?_⟩
  · rintro rfl
    obtain ⟨cs', h3⟩ := own_kind h.top rfl
    rw [hb] at h3
    cases h3
    exact h1 rfl
  · rintro rfl
    obtain ⟨cs', h3⟩ := own_kind (h.row i hi) rfl
    rw [hb] at h3
    cases h3
    exact h2 rfl
theorem Dq.gq (h : Dq w B G cap Q Cp X) {i : Nat} (hi : i < X.r) : G ≠ Q i := by
  intro e
  obtain ⟨cs, h1⟩ := own_kind h.top (b := G) rfl
  obtain ⟨cs', h2⟩ := own_kind (h.row i hi) (b := Q i) rfl
  rw [← e, h1] at h2
  cases h2
theorem Dq.ltG (h : Dq w B G cap Q Cp X) : B ≤ G ∧ G < w.heap.size := h.top.lt G rfl
theorem Dq.ltQ (h : Dq w B G cap Q Cp X) {i : Nat} (hi : i < X.r) : B ≤ Q i ∧ Q i < w.heap.size := (h.row i hi).lt (Q i) rfl
/-- A step that touches the program's sketch alone. -/
theorem Dq.prog {s g cap2 : Nat} {Y : S} (h : Dq w B G cap Q Cp X) (k : Kq w s g cap2 Y) (T : Touch [s, g] w w') : Dq w' B G cap Q Cp X := by
  obtain ⟨cs, hg⟩ := own_kind k.row (b := g) rfl
  obtain ⟨a1, a2⟩ := h.apart k.box (by decide) (by decide)
  obtain ⟨b1, b2⟩ := h.apart hg (by decide) (by decide)
  exact h.keep T (by simp [a1, b1]) (fun i hi => by simp [a2 i hi, b2 i hi])
theorem Dq.c0 (h : Dq w B G cap Q Cp X) {i : Nat} (hi : i < X.r) : w.cell? ⟨G, i, none⟩ = some (.slice (some ⟨Q i, 0, none⟩) (2 ^ X.b) (Cp i)) := own_cell h.top (ro_at hi)
theorem Dq.c1 (h : Dq w B G cap Q Cp X) {i p : Nat} (hi : i < X.r) (hp : p < 2 ^ X.b) : w.cell? ⟨Q i, p, none⟩ = some (.int .i64 (X.c i p : Nat)) := own_cell (h.row i hi) (rowv_at (X.c i) hp)
theorem Dq.fz (h : Dq w B G cap Q Cp X) {i : Nat} (hi : i < X.r) (p : Nat) : w.frozen? ⟨Q i, p, none⟩ = false := own_frozen (h.row i hi) p
theorem Dq.setC (h : Dq w B G cap Q Cp X) {i p : Nat} (v : Nat) (hi : i < X.r) (hp : p < 2 ^ X.b) : Dq (w.setCell ⟨Q i, p, none⟩ (.int .i64 (v : Nat))) B G cap Q Cp { X with c := upd X.c i p v } := by
  have ht := Touch.setCell (F := [Q i]) (Touch.refl _ w) (p := ⟨Q i, p, none⟩) (Or.inl (by simp)) (.int .i64 (v : Nat))
  refine ⟨own_touch h.top ht (fun b hb => by cases hb; simp [h.gq hi]), fun j hj => ?_, h.inj, h.r1, h.r2, h.b2⟩
  by_cases e : j = i
  · subst e
    have := own_set (h.row j hj) p (.int .i64 (v : Nat))
    rw [rowv_set (X.c j) hp] at this
    have e2 : rowv X.b (upd X.c j p v j) = rowv X.b (fun q => if q = p then v else X.c j q) := rowv_congr fun q _ => by simp [upd]
    show World.ownsRow _ B 3 1 _ _ (rowv X.b (upd X.c j p v j))
    rw [e2]
    exact this
  · have e2 : rowv X.b (upd X.c i p v j) = rowv X.b (X.c j) := rowv_congr fun q _ => by simp [upd, e]
    show World.ownsRow _ B 3 1 _ _ (rowv X.b (upd X.c i p v j))
    rw [e2]
    refine own_touch (h.row j hj) ht (fun b hb => ?_)
    cases hb
    simp only [List.mem_singleton]
    exact fun e3 => e (h.inj j i hj hi e3)
theorem Dq.congr {Y : S} (h : Dq w B G cap Q Cp X) (hr : Y.r = X.r) (hb : Y.b = X.b) (hc : ∀ i p, i < X.r → p < 2 ^ X.b → Y.c i p = X.c i p) : Dq w B G cap Q Cp Y := by
  refine ⟨by rw [hr, hb]; exact h.top, fun i hi => ?_, fun i j hi hj => h.inj i j (by omega) (by omega), by rw [hr]; exact h.r1, by rw [hr]; exact h.r2, by rw [hb]; exact h.b2⟩
  rw [hr] at hi
  rw [hb, rowv_congr (fun p hp => hc i p hi hp)]
  exact h.row i hi
theorem dhash_ {k : K} (hk : Ok k) (h64 : k.2.size ≤ 9223372036854775800) (w : World) : Calls Try.prog 45 #[kv k] w fun e w' => e = .returned (.int .u64 (hK k : Nat)) ∧ Touch [] w w' :=
  hash21 k.1 k.2 w (Ok.sp hk).1 (Ok.sp hk).2 h64
theorem rplace_0 {k : K} {a : Option Addr} {n c : Nat} (h0 : X.b = 0) (i : Nat) : Calls Try.prog 30 #[dv (.slice a n c) X, kv k, .int .i64 (i : Nat)] w fun e w' => e = .returned (.int .i64 (plc X.b (hK k) i : Nat)) ∧ Touch [] w w' := by
  have e : plc X.b (hK k) i = 0 := by simp [plc, h0]
  rw [e]
  have h0' : (X.b : Int) = 0 := by omega
  clear h0 e
  unfold dv kv
  rw [h0']
  go_enter Try.func30, Try.ntmps30
  go_wp2
  go_ret
  exact ⟨rfl, ((Touch.refl _ _).alloc _).alloc _⟩
set_option maxHeartbeats 1000000 in
theorem rplace_1 {k : K} {a : Option Addr} {n c : Nat} (hk : Ok k) (h64 : k.2.size ≤ 9223372036854775800) (h1 : 1 ≤ X.b) (h2 : X.b ≤ 16) (i : Nat) (hi : i ≤ 8) : Calls Try.prog 30 #[dv (.slice a n c) X, kv k, .int .i64 (i : Nat)] w fun e w' => e = .returned (.int .i64 (plc X.b (hK k) i : Nat)) ∧ Touch [] w w' := by
  obtain ⟨V, hV⟩ : ∃ V, V = (w.alloc (.cells #[.int .i64 (X.b : Nat), .slice a n c, .int .u64 (X.t : Nat)] 29)).alloc (.cells #[.int .u16 k.1, .string k.2] 50) := ⟨_, rfl⟩
  have TV : Touch [] w V := by rw [hV]; exact ((Touch.refl _ _).alloc _).alloc _
  have hb1 : V.heap[w.heap.size]? = some (.cells #[.int .i64 (X.b : Nat), .slice a n c, .int .u64 (X.t : Nat)] 29) := by rw [hV]; exact ((Touch.refl [] _).alloc _).keep (heap_alloc_new w _) (by simp)
  have hb2 : V.heap[w.heap.size + 1]? = some (.cells #[.int .u16 k.1, .string k.2] 50) := by
    have := heap_alloc_new (w.alloc (.cells #[.int .i64 (X.b : Nat), .slice a n c, .int .u64 (X.t : Nat)] 29)) (.cells #[.int .u16 k.1, .string k.2] 50)
    rw [World.size_alloc] at this
    rw [hV]; exact this
  have C0 : ∀ w1, Touch [] V w1 → w1.cell? ⟨w.heap.size, 0, none⟩ = some (.int .i64 (X.b : Nat)) := fun w1 t1 => cell_at (t1.keep hb1 (by simp)) rfl
  have c0 := C0 V (Touch.refl _ _)
  have d0 := cell_at (j := 0) (v := .int .u16 k.1) hb2 rfl
  have d1 := cell_at (j := 1) (v := .string k.2) hb2 rfl
  have HH := hid (dhash_ hk h64 V)
  have hhl := hK_lt k
  obtain ⟨hv, hhv⟩ : ∃ hv, hv = hK k := ⟨_, rfl⟩
  rw [← hhv] at HH hhl ⊢
  have hz : ¬ (X.b : Int) = 0 := by omega
  have hm : (hv + i * 11400714819323198485) % 18446744073709551616 < 18446744073709551616 := Nat.mod_lt _ (by omega)
  have HMX := hid (fun w => mix31 _ hm w)
  have HF := hid (fun w => fold37_yes (mixN ((hv + i * 11400714819323198485) % 18446744073709551616)) X.b h1 (by omega) w)
  have ep : plc X.b hv i = foldG (mixN ((hv + i * 11400714819323198485) % 18446744073709551616)) X.b 64 := by
    unfold plc
    rw [if_neg (by omega)]
  rw [ep]
  have hq := foldG_bits (mixN ((hv + i * 11400714819323198485) % 18446744073709551616)) X.b 64 h1
  have hq2 := pow_le16 h2
  generalize foldG (mixN ((hv + i * 11400714819323198485) % 18446744073709551616)) X.b 64 = q at *
  have wq : IntKind.i64.wrap (q : Int) = (q : Int) := by rw [IntKind.wrap_i64]; omega
  generalize mixN ((hv + i * 11400714819323198485) % 18446744073709551616) = m at *
  have HT := hid TV
  clear hk h64 hb1 hb2 TV hq hq2 ep h1 h2 hhv
  unfold dv kv at *
  go_enter Try.func30, Try.ntmps30
  go_upto_region 1 with fail
  rw [← hV]
  clear hV
  go_wp2_with (go_at_call 45; refine HH.out.mono ?_; rintro e w1 ⟨rfl, t1⟩; have T1 := hid t1; clear t1)
  go_loopw [7, 8] (fun s7 s8 wr => ∃ j z : Nat, j ≤ i ∧ s8 = .int .i64 j ∧ s7 = .int .u64 z ∧ z < 18446744073709551616 ∧ Hid (z = (hv + j * 11400714819323198485) % 18446744073709551616) ∧ Touch [] V wr) (fun _ s8 _ => i - (intOf s8).toNat)
  case atStart => exact ⟨0, hv, Nat.zero_le _, rfl, rfl, hhl, hid (by omega), T1.out⟩
  case round =>
    obtain ⟨j, z, hj, rfl, rfl, hz2, HZ, T⟩ := hrel
    by_cases hlt : j < i
    · have zi : (j : Int) < (i : Int) := by omega
      obtain ⟨z2, hz3⟩ : ∃ z2, z2 = (z + 11400714819323198485) % 18446744073709551616 := ⟨_, rfl⟩
      have wz : IntKind.u64.wrap ((z : Int) + 11400714819323198485) = (z2 : Int) := by rw [IntKind.wrap_u64]; omega
      have HZ2 : Hid (z2 = (hv + (j + 1) * 11400714819323198485) % 18446744073709551616) := hid (by rw [hz3, HZ.out]; omega)
      have hz4 : z2 < 18446744073709551616 := by omega
      clear hz3 HZ HF HMX
      go_wp2
      refine ⟨⟨j + 1, z2, by omega, rfl, rfl, hz4, HZ2, T⟩, by simp [intOf]; omega⟩
    · obtain rfl : j = i := by omega
      have zi : ¬ (j : Int) < (j : Int) := by omega
      have HMX : Hid (∀ w, Calls Try.prog 47 #[.int .u64 (z : Nat)] w fun e w' => e = .returned (.int .u64 (m : Nat)) ∧ w' = w) := by
        rw [HZ.out]; exact HMX
      clear HZ hz2 hm hhl
      go_wp2
      go_region_held3 (fun w' => Touch [] V w') (first | assumption | exact Touch.drew (by assumption))
        (first
          | (go_at_call 47; refine (HMX.out _).mono ?_; rintro e w2 ⟨rfl, rfl⟩)
          | (go_at_call 46; refine (HF.out _).mono ?_; rintro e w3 ⟨rfl, rfl⟩))
      all_goals
        go_wp2
        go_ret
        exact ⟨rfl, HT.out.trans' (by assumption)⟩
theorem rplace_ {k : K} {a : Option Addr} {n c : Nat} (hk : Ok k) (h64 : k.2.size ≤ 9223372036854775800) (h2 : X.b ≤ 16) (i : Nat) (hi : i ≤ 8) (w : World) : Calls Try.prog 30 #[dv (.slice a n c) X, kv k, .int .i64 (i : Nat)] w fun e w' => e = .returned (.int .i64 (plc X.b (hK k) i : Nat)) ∧ Touch [] w w' := by
  by_cases h0 : X.b = 0
  · exact rplace_0 h0 i
  · exact rplace_1 hk h64 (by omega) h2 i hi
end
end Go.Proofs.Ytbadlkjffelkhaa.Sk
