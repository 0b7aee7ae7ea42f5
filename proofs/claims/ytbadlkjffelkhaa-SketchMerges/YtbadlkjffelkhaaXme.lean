/- The law SketchMerges' walk; no conditions. -/
import Derived.Test.YtbadlkjffelkhaaXpy
namespace Go.Proofs.Ytbadlkjffelkhaa.Sk
open Go.RowKit Go.Maps Go.ChangeMaps
set_option maxRecDepth 100000
set_option linter.unusedVariables false
set_option linter.unusedSimpArgs false
def kc (k : K) : List Value := [.int .u16 k.1, .string k.2]
theorem kc_len (k : K) : (kc k).length = 2 := rfl
theorem infoK : (Try.prog.info? 43).map (fun i => (i.zero, i.size, i.bytes)) = some (some (.agg #[.int .u16 0, .string ⟨#[]⟩]), 2, 24) := by kernel_rfl
theorem KyS.of_own {w : World} {B n c : Nat} {a : Option Addr} {ks : List K} (h : w.ownsRow B 43 2 (.slice a n c) n (ks.flatMap kc)) (hn : n = ks.length) (hk : ∀ k ∈ ks, Ok k) : KyS w a ks := fun w1 t i hi => by
  subst hn
  have h1 := own_touch h t (fun _ _ e => by cases e)
  obtain ⟨b, c', e, _, _⟩ := own_some h1 (by omega)
  cases e
  have q := fun j hj => Go.Proofs.Ytbadlkjffelkhaa.flat_at (f := kc) (k := 2) kc_len ks i j ks[i] (List.getElem?_eq_getElem hi) hj
  refine ⟨hk _ (List.getElem_mem hi), b, 0, rfl, ?_, ?_⟩
  · rw [Nat.zero_add]
    exact own_cell h1 (p := i * 2) (q 0 (by omega))
  · rw [Nat.zero_add]
    exact own_cell h1 (p := i * 2 + 1) (q 1 (by omega))
section
variable {w V : World}
/-- played, whatever it hands back. -/
theorem played_any {a : Option Addr} {xs : List ActX} {c : Nat} (r b : Int) (hA : AcS w a xs) (hl : xs.length ≤ 5000000000000) : Calls Try.prog 8 #[.int .i64 r, .int .i64 b, .slice a xs.length c] w fun e w' => ∃ p z0 z1 z2 z3 z4, e = .returned (.tuple #[.pointer p, .agg #[.int .i64 z0, .slice z1 z2 z3, .int .u64 z4], .bool true]) ∧ Touch [] w w' ∧ (p = none ↔ mayZ r b = false) := by
  by_cases h : mayZ r b = true
  · refine (played_ok r b h hA hl).mono ?_
    rintro e w1 ⟨v, u, rfl, s, g, cap, X, G, cp, Q, Cp, rfl, rfl, k1, d1, e1, e2, l1, l2, t1⟩
    exact ⟨_, _, _, _, _, _, rfl, t1, by simp [h]⟩
  · refine (played_no (w := w) r b (by simpa using h) (.slice a xs.length c)).mono ?_
    rintro e w1 ⟨rfl, t1⟩
    exact ⟨none, 0, none, 0, 0, 0, rfl, t1, by simpa using h⟩
end
set_option maxHeartbeats 8000000 in
theorem merges_early (w : World) (r1 b1 r2 b2 : Int) (xs os : List ActX) (a1 a2 : Option Addr) (c1 c2 : Nat) (hA : AcS w a1 xs) (hO : AcS w a2 os) (l1 : xs.length ≤ 4398046510976) (l2 : os.length ≤ 4398046510976) (hm : mayZ r1 b1 = false ∨ mayZ r2 b2 = false) : Calls Try.prog 4 #[.agg #[.int .i64 r1, .int .i64 b1, .int .i64 r2, .int .i64 b2], .slice a1 xs.length c1, .slice a2 os.length c2] w fun e w' => e = .returned (.bool true) ∧ Touch [] w w' := by
  obtain ⟨V, hV⟩ : ∃ V, V = w.alloc (.cells #[.int .i64 r1, .int .i64 b1, .int .i64 r2, .int .i64 b2] 35) := ⟨_, rfl⟩
  have TV : Touch [] w V := by rw [hV]; exact (Touch.refl _ _).alloc _
  have HBX : Hid (∀ w1, Touch [] V w1 → w1.cell? ⟨w.heap.size, 2, none⟩ = some (.int .i64 r2) ∧ w1.cell? ⟨w.heap.size, 3, none⟩ = some (.int .i64 b2)) := hid (fun w1 t1 => by
    have hbx : V.heap[w.heap.size]? = some (.cells #[.int .i64 r1, .int .i64 b1, .int .i64 r2, .int .i64 b2] 35 (0, 0)) := by rw [hV]; exact heap_alloc_new w _
    have := t1.keep hbx (by simp)
    exact ⟨cell_at this rfl, cell_at this rfl⟩)
  have hbx : V.heap[w.heap.size]? = some (.cells #[.int .i64 r1, .int .i64 b1, .int .i64 r2, .int .i64 b2] 35 (0, 0)) := by rw [hV]; exact heap_alloc_new w _
  have y0 := cell_at (j := 0) (v := .int .i64 r1) hbx rfl
  have y1 := cell_at (j := 1) (v := .int .i64 b1) hbx rfl
  have HW := hid awake_
  have HT := hid TV
  have HP1 := hid (played_any (c := c1) r1 b1 (hA.keep TV) (by omega))
  have HP2 := hid (fun w1 (t1 : Touch [] V w1) => played_any (c := c2) r2 b2 ((hO.keep TV).keep t1) (by omega))
  clear hA hO l1 l2 TV hbx
  generalize xs.length = nx at *
  generalize os.length = no at *
  by_cases m1 : mayZ r1 b1 = false
  · go_enter Try.func4, Try.ntmps4
    go_upto_region 1 with fail
    rw [← hV]
    clear hV
    go_wp2_with (first
      | (go_at_call_of 8 (#[Value.int .i64 r1, Value.int .i64 b1, Value.slice a1 nx c1] : Array Value); refine HP1.out.mono ?_; rintro e w1 ⟨p, z0, z1, z2, z3, z4, rfl, t1, hp⟩; obtain rfl := hp.2 m1; have T1 := hid (t1.alloc (.cells #[.int .i64 z0, .slice z1 z2 z3, .int .u64 z4] 29)); obtain ⟨y2, y3⟩ := HBX.out _ T1.out; clear t1 HP1 hp)
      | (go_at_call 8; refine (HP2.out _ T1.out).mono ?_; rintro e w2 ⟨p2, x0, x1, x2, x3, x4, rfl, t2, hp2⟩; have T2 := hid (T1.out.trans' (t2.alloc (.cells #[.int .i64 x0, .slice x1 x2 x3, .int .u64 x4] 29))); clear t2 HP2 hp2)
      | (go_at_call 9; refine (HW.out _).mono ?_; rintro e w3 ⟨rfl, t3⟩; have T3 := hid (T2.out.trans' t3); clear t3 T2)
      | (go_at_call 9; refine (HW.out _).mono ?_; rintro e w4 ⟨rfl, t4⟩; have T4 := hid (T3.out.trans' t4); clear t4))
    go_ret
    exact ⟨rfl, HT.out.trans' T4.out⟩
  · have m2 : mayZ r2 b2 = false := by rcases hm with h | h; exact absurd h m1; exact h
    have HP1 : Hid (Calls Try.prog 8 #[.int .i64 r1, .int .i64 b1, .slice a1 nx c1] V fun e w' => ∃ ad z0 z1 z2 z3 z4, e = .returned (.tuple #[.pointer (some ad), .agg #[.int .i64 z0, .slice z1 z2 z3, .int .u64 z4], .bool true]) ∧ Touch [] V w') := hid (by
      refine HP1.out.mono ?_
      rintro e w1 ⟨p, z0, z1, z2, z3, z4, rfl, t1, hp⟩
      cases p with
      | none => exact absurd (hp.1 rfl) m1
      | some ad => exact ⟨ad, z0, z1, z2, z3, z4, rfl, t1⟩)
    go_enter Try.func4, Try.ntmps4
    go_upto_region 1 with fail
    rw [← hV]
    clear hV
    go_wp2_with (first
      | (go_at_call_of 8 (#[Value.int .i64 r1, Value.int .i64 b1, Value.slice a1 nx c1] : Array Value); refine HP1.out.mono ?_; rintro e w1 ⟨ad, z0, z1, z2, z3, z4, rfl, t1⟩; have T1 := hid (t1.alloc (.cells #[.int .i64 z0, .slice z1 z2 z3, .int .u64 z4] 29)); obtain ⟨y2, y3⟩ := HBX.out _ T1.out; clear t1 HP1)
      | (go_at_call 8; refine (HP2.out _ T1.out).mono ?_; rintro e w2 ⟨p2, x0, x1, x2, x3, x4, rfl, t2, hp2⟩; obtain rfl := hp2.2 m2; have T2 := hid (T1.out.trans' (t2.alloc (.cells #[.int .i64 x0, .slice x1 x2 x3, .int .u64 x4] 29))); clear t2 HP2 hp2)
      | (go_at_call 9; refine (HW.out _).mono ?_; rintro e w3 ⟨rfl, t3⟩; have T3 := hid (T2.out.trans' t3); clear t3 T2)
      | (go_at_call 9; refine (HW.out _).mono ?_; rintro e w4 ⟨rfl, t4⟩; have T4 := hid (T3.out.trans' t4); clear t4))
    go_ret
    exact ⟨rfl, HT.out.trans' T4.out⟩
end Go.Proofs.Ytbadlkjffelkhaa.Sk
