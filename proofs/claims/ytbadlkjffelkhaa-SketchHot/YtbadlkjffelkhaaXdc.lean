/- The contracts of the document's Count and Copy; no conditions but those that each states. -/
import Derived.Test.YtbadlkjffelkhaaXdm
namespace Go.Proofs.Ytbadlkjffelkhaa.Sk
open Go.RowKit Go.Maps Go.ChangeMaps
set_option maxRecDepth 100000
set_option linter.unusedVariables false
set_option linter.unusedSimpArgs false
def bxd (X : S) (G cap : Nat) : Array Value := #[.int .i64 (X.b : Nat), .slice (some ⟨G, 0, none⟩) X.r cap, .int .u64 (X.t : Nat)]
def bxk (k : K) : Array Value := #[.int .u16 k.1, .string k.2]
section
variable {w w' : World} {B G cap : Nat} {Q Cp : Nat → Nat} {X : S}
/-- Two boxes laid one behind the other. -/
theorem two_new (w : World) (a b : Array Value) (ta tb : TypeId) : Touch [] w ((w.alloc (.cells a ta)).alloc (.cells b tb)) ∧ ((w.alloc (.cells a ta)).alloc (.cells b tb)).heap[w.heap.size]? = some (.cells a ta (0, 0)) ∧ ((w.alloc (.cells a ta)).alloc (.cells b tb)).heap[w.heap.size + 1]? = some (.cells b tb (0, 0)) := by
  refine ⟨((Touch.refl _ _).alloc _).alloc _, ((Touch.refl [] _).alloc _).keep (heap_alloc_new w _) (by simp), ?_⟩
  have := heap_alloc_new (w.alloc (.cells a ta)) (.cells b tb)
  rw [World.size_alloc] at this
  exact this
theorem rcount_no {k : K} {u : Option Addr} {n c : Nat} (h64 : 64 < k.2.size) (w : World) : Calls Try.prog 19 #[dv (.slice u n c) X, kv k] w fun e w' => e = .returned (.int .i64 0) ∧ Touch [] w w' := by
  have z : (64 : Int) < (k.2.size : Int) := by omega
  clear h64
  unfold dv kv
  go_enter Try.func19, Try.ntmps19
  go_wp2
  go_ret
  exact ⟨rfl, ((Touch.refl _ _).alloc _).alloc _⟩
set_option maxHeartbeats 4000000 in
theorem rcount_ok (h : Dq w B G cap Q Cp X) {k : K} (hk : Ok k) (h64 : k.2.size ≤ 64) (hc : ∀ i p, X.c i p ≤ 1000) : Calls Try.prog 19 #[dv (.slice (some ⟨G, 0, none⟩) X.r cap) X, kv k] w fun e w' => e = .returned (.int .i64 (cnt X (hK k) : Nat)) ∧ Touch [] w w' := by
  obtain ⟨V, hV⟩ : ∃ V, V = (w.alloc (.cells (bxd X G cap) 29)).alloc (.cells (bxk k) 50) := ⟨_, rfl⟩
  obtain ⟨TV, hb1, hb2⟩ := two_new w (bxd X G cap) (bxk k) 29 50
  rw [← hV] at TV hb1 hb2
  have C0 : ∀ w1, Touch [] V w1 → w1.cell? ⟨w.heap.size, 0, none⟩ = some (.int .i64 (X.b : Nat)) := fun w1 t1 => cell_at (t1.keep hb1 (by simp)) rfl
  have C1 : ∀ w1, Touch [] V w1 → w1.cell? ⟨w.heap.size, 1, none⟩ = some (.slice (some ⟨G, 0, none⟩) X.r cap) := fun w1 t1 => cell_at (t1.keep hb1 (by simp)) rfl
  have C2 : ∀ w1, Touch [] V w1 → w1.cell? ⟨w.heap.size, 2, none⟩ = some (.int .u64 (X.t : Nat)) := fun w1 t1 => cell_at (t1.keep hb1 (by simp)) rfl
  have D0 : ∀ w1, Touch [] V w1 → w1.cell? ⟨w.heap.size + 1, 0, none⟩ = some (.int .u16 k.1) := fun w1 t1 => cell_at (t1.keep hb2 (by simp)) rfl
  have D1 : ∀ w1, Touch [] V w1 → w1.cell? ⟨w.heap.size + 1, 1, none⟩ = some (.string k.2) := fun w1 t1 => cell_at (t1.keep hb2 (by simp)) rfl
  have d1 := D1 V (Touch.refl _ _)
  have HR : Hid (∀ i, i < X.r → ∀ w1, Touch [] V w1 → w1.cell? ⟨G, i, none⟩ = some (.slice (some ⟨Q i, 0, none⟩) (2 ^ X.b) (Cp i)) ∧ w1.cell? ⟨Q i, plc X.b (hK k) i, none⟩ = some (.int .i64 (at_ X (hK k) i : Nat))) := hid (fun i hi w1 t1 => by
    have h1 := h.keep0 (TV.trans' t1)
    exact ⟨h1.c0 hi, h1.c1 hi (plc_lt _ _ _)⟩)
  have HP := hid (fun (i : Nat) (hi : i ≤ 8) w1 => rplace_ (X := X) (a := some ⟨G, 0, none⟩) (n := X.r) (c := cap) hk (by omega) h.b2 i hi w1)
  have HL := hid (fun i => plc_lt X.b (hK k) i)
  have h2 := pow_le16 h.b2
  have r2 := h.r2
  have z : ¬ (64 : Int) < (k.2.size : Int) := by omega
  have HE : Hid (cntG X (hK k) X.r = cnt X (hK k)) := rfl
  have HT := hid TV
  have cc1 := C1 V (Touch.refl _ _)
  generalize cnt X (hK k) = C at *
  obtain ⟨hv, hhv⟩ : ∃ hv, hv = hK k := ⟨_, rfl⟩
  rw [← hhv] at HR HP HL HE
  clear h hk h64 hb1 hb2 TV hhv
  unfold dv kv bxd bxk at *
  generalize 2 ^ X.b = W at *
  go_enter Try.func19, Try.ntmps19
  go_upto_region 1 with fail
  rw [← hV]
  clear hV
  go_wp2
  go_loopw [5, 6] (fun s5 s6 wr => ∃ i : Nat, i ≤ X.r ∧ s6 = .int .i64 i ∧ s5 = .int .i64 (cntG X hv i : Nat) ∧ Touch [] V wr) (fun _ s6 _ => X.r - (intOf s6).toNat)
  case atStart => exact ⟨0, Nat.zero_le _, rfl, rfl, Touch.refl _ _⟩
  case round =>
    obtain ⟨i, hi, rfl, rfl, T⟩ := hrel
    have e1 := C1 wr T
    by_cases hlt : i < X.r
    · have zi : (i : Int) < (X.r : Int) := by omega
      have HP1 := hid (HP.out i (by omega))
      have hl := HL.out i
      have g0 := fun w1 t1 => (HR.out i hlt w1 t1).1
      have g1 := fun w1 t1 => (HR.out i hlt w1 t1).2
      have HN : Hid (cntG X hv (i + 1) = min (cntG X hv i) (at_ X hv i)) := rfl
      generalize plc X.b hv i = p at *
      have hl2 : (p : Int) < (W : Int) := by omega
      have ha : at_ X hv i ≤ 1000 := hc _ _
      generalize at_ X hv i = a at *
      generalize cntG X hv i = m at *
      clear HP HL HR HE d1 cc1
      by_cases hm : a < m
      · have hm1 : (a : Int) < (m : Int) := by omega
        go_wp2
        go_region_held3 (fun w' => Touch [] V w') (first | assumption | exact Touch.drew (by assumption))
          (first | (go_at_call 30; refine (HP1.out _).mono ?_; rintro e w2 ⟨rfl, t2⟩; have T2 : Touch [] V w2 := Touch.trans' (by assumption) t2; clear t2))
        all_goals
          go_wp2
          refine ⟨⟨i + 1, by omega, rfl, by rw [HN.out, Nat.min_eq_right (by omega)], by assumption⟩, by simp [intOf]; omega⟩
      · have hm1 : ¬ (a : Int) < (m : Int) := by omega
        go_wp2
        go_region_held3 (fun w' => Touch [] V w') (first | assumption | exact Touch.drew (by assumption))
          (first | (go_at_call 30; refine (HP1.out _).mono ?_; rintro e w2 ⟨rfl, t2⟩; have T2 : Touch [] V w2 := Touch.trans' (by assumption) t2; clear t2))
        all_goals
          go_wp2
          refine ⟨⟨i + 1, by omega, rfl, by rw [HN.out, Nat.min_eq_left (by omega)], by assumption⟩, by simp [intOf]; omega⟩
    · have ei : i = X.r := by omega
      subst ei
      have zi : ¬ (X.r : Int) < (X.r : Int) := by omega
      rw [HE.out]
      clear HP HL HR d1 cc1
      go_wp2
      go_ret
      exact ⟨rfl, HT.out.trans' T⟩
end
end Go.Proofs.Ytbadlkjffelkhaa.Sk
