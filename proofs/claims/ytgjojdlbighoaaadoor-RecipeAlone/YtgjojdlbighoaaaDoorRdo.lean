/- One step of a recipe, done by the document's own code; the conditions: the recipe may be and lies in memory, the state is ready. -/
import Derived.Test.YtgjojdlbighoaaaDoorRsm
import Derived.Test.YtgjojdlbighoaaaDoorDos
import Derived.Deep.RegionWith
namespace Go.Proofs.YtgjojdlbighoaaaDoor
open Go.RowKit Go.Sort
set_option linter.unusedVariables false

set_option maxHeartbeats 1000000 in
theorem do15_end (L : List Sp) (A : Option Addr) (c : Nat) (p : Nat) (n : Int) (sp : Int) (nm : ByteArray) (r : Int) (cn : Bool) (w : World) (hp : p = L.length) :
    Calls Tryd.prog 15 #[.slice A L.length c, .agg #[.int .i64 p, .int .i64 n, .int .i64 0, .int .i64 0], .agg #[.int .u16 sp, .string nm, .int .i64 r, .bool cn]] w fun e w' => e = .returned (.tuple #[.agg #[.int .i64 0, .int .i64 0, .int .i64 0, .int .i64 0], .agg #[.int .i64 n, .int .i64 0, .int .i64 0, .int .i64 0], .bool true]) ∧ Gr w w' := by
  subst hp
  go_enter Tryd.func15, Tryd.ntmps15
  go_wp2_with fail
  go_region
  all_goals
    go_wp2
    exact bodyPost_ret (v := .tuple #[.agg #[.int .i64 0, .int .i64 0, .int .i64 0, .int .i64 0], .agg #[.int .i64 n, .int .i64 0, .int .i64 0, .int .i64 0], .bool true]) (by simp [results, Tryd.results15, go_sem]) rfl ⟨rfl, by repeat (first | exact Gr.refl _ | apply Gr.alloc | apply Gr.drew)⟩
set_option maxHeartbeats 1000000 in
theorem do15_1 (L : List Sp) (A : Option Addr) (c : Nat) (p : Nat) (n : Int) (sp : Int) (nm : ByteArray) (r : Int) (cn : Bool) (w : World) (b off : Nat) (hA : A = some ⟨b, off, none⟩) (a x : Int) (c0 : w.cell? ⟨b, off + p * 3, none⟩ = some (.int .i64 1)) (c1 : w.cell? ⟨b, off + p * 3 + 1, none⟩ = some (.int .i64 a)) (c2 : w.cell? ⟨b, off + p * 3 + 2, none⟩ = some (.int .i64 x)) (hp : p < L.length) (hl : L.length ≤ 256) :
    Calls Tryd.prog 15 #[.slice A L.length c, .agg #[.int .i64 p, .int .i64 n, .int .i64 0, .int .i64 0], .agg #[.int .u16 sp, .string nm, .int .i64 r, .bool cn]] w fun e w' => e = .returned (.tuple #[.agg #[.int .i64 ((p : Int) + 1), .int .i64 (IntKind.i64.wrap (n + a)), .int .i64 0, .int .i64 0], .agg #[.int .i64 0, .int .i64 0, .int .i64 0, .int .i64 0], .bool false]) ∧ Gr w w' := by
  subst hA
  have hpz : ¬ (L.length : Int) ≤ (p : Int) := by omega
  have hpl : (p : Int) < (L.length : Int) := by omega
  have G4 : Gr w ((((w.alloc (.cells #[.int .i64 p, .int .i64 n, .int .i64 0, .int .i64 0] 45)).alloc (.cells #[.int .u16 sp, .string nm, .int .i64 r, .bool cn] 54)).alloc (.cells #[.int .i64 0, .int .i64 0, .int .i64 0, .int .i64 0] 45)).alloc (.cells #[.int .i64 0, .int .i64 0, .int .i64 0, .int .i64 0] 48)) := ((((Gr.refl w).alloc _).alloc _).alloc _).alloc _
  have d0 := G4.cell' c0
  have d1 := G4.cell' c1
  have d2 := G4.cell' c2
  clear c0 c1 c2 G4
  have wp1 : IntKind.i64.wrap ((p : Int) + 1) = (p : Int) + 1 := by rw [IntKind.wrap_i64]; omega
  obtain ⟨y, hy⟩ : ∃ y, IntKind.i64.wrap (n + a) = y := ⟨_, rfl⟩
  rw [hy]
  go_enter Tryd.func15, Tryd.ntmps15
  go_wp2
  exact bodyPost_ret (v := .tuple #[.agg #[.int .i64 ((p : Int) + 1), .int .i64 (y), .int .i64 0, .int .i64 0], .agg #[.int .i64 0, .int .i64 0, .int .i64 0, .int .i64 0], .bool false]) (by simp [results, Tryd.results15, go_sem]) rfl ⟨rfl, by repeat (first | exact Gr.refl _ | apply Gr.alloc | apply Gr.drew)⟩
set_option maxHeartbeats 1000000 in
theorem do15_2 (L : List Sp) (A : Option Addr) (c : Nat) (p : Nat) (n : Int) (sp : Int) (nm : ByteArray) (r : Int) (cn : Bool) (w : World) (b off : Nat) (hA : A = some ⟨b, off, none⟩) (a x : Int) (c0 : w.cell? ⟨b, off + p * 3, none⟩ = some (.int .i64 2)) (c1 : w.cell? ⟨b, off + p * 3 + 1, none⟩ = some (.int .i64 a)) (c2 : w.cell? ⟨b, off + p * 3 + 2, none⟩ = some (.int .i64 x)) (hp : p < L.length) (hl : L.length ≤ 256) (hn : I64 n) (h1 : -63 ≤ a) (h2 : a ≤ 63) :
    Calls Tryd.prog 15 #[.slice A L.length c, .agg #[.int .i64 p, .int .i64 n, .int .i64 0, .int .i64 0], .agg #[.int .u16 sp, .string nm, .int .i64 r, .bool cn]] w fun e w' => e = .returned (.tuple #[.agg #[.int .i64 ((p : Int) + 1), .int .i64 (shiftI n a), .int .i64 0, .int .i64 0], .agg #[.int .i64 0, .int .i64 0, .int .i64 0, .int .i64 0], .bool false]) ∧ Gr w w' := by
  subst hA
  have hpz : ¬ (L.length : Int) ≤ (p : Int) := by omega
  have hpl : (p : Int) < (L.length : Int) := by omega
  have G4 : Gr w ((((w.alloc (.cells #[.int .i64 p, .int .i64 n, .int .i64 0, .int .i64 0] 45)).alloc (.cells #[.int .u16 sp, .string nm, .int .i64 r, .bool cn] 54)).alloc (.cells #[.int .i64 0, .int .i64 0, .int .i64 0, .int .i64 0] 45)).alloc (.cells #[.int .i64 0, .int .i64 0, .int .i64 0, .int .i64 0] 48)) := ((((Gr.refl w).alloc _).alloc _).alloc _).alloc _
  have d0 := G4.cell' c0
  have d1 := G4.cell' c1
  have d2 := G4.cell' c2
  clear c0 c1 c2 G4
  have wp1 : IntKind.i64.wrap ((p : Int) + 1) = (p : Int) + 1 := by rw [IntKind.wrap_i64]; omega
  have HC : Hid _ := fun w => shift33 n a w hn h1 h2
  generalize shiftI n a = y at *
  clear h1 h2 hn
  go_enter Tryd.func15, Tryd.ntmps15
  go_wp2_with (go_at_call 33; refine (HC.out _).mono ?_; rintro e w1 ⟨rfl, rfl⟩)
  exact bodyPost_ret (v := .tuple #[.agg #[.int .i64 ((p : Int) + 1), .int .i64 y, .int .i64 0, .int .i64 0], .agg #[.int .i64 0, .int .i64 0, .int .i64 0, .int .i64 0], .bool false]) (by simp [results, Tryd.results15, go_sem]) rfl ⟨rfl, by repeat (first | exact Gr.refl _ | apply Gr.alloc | apply Gr.drew)⟩
set_option maxHeartbeats 1000000 in
theorem do15_3 (L : List Sp) (A : Option Addr) (c : Nat) (p : Nat) (n : Int) (sp : Int) (nm : ByteArray) (r : Int) (cn : Bool) (w : World) (b off : Nat) (hA : A = some ⟨b, off, none⟩) (a x : Int) (c0 : w.cell? ⟨b, off + p * 3, none⟩ = some (.int .i64 3)) (c1 : w.cell? ⟨b, off + p * 3 + 1, none⟩ = some (.int .i64 a)) (c2 : w.cell? ⟨b, off + p * 3 + 2, none⟩ = some (.int .i64 x)) (hp : p < L.length) (hl : L.length ≤ 256) (h1 : 0 ≤ sp) (h2 : sp ≤ 65535) (h3 : nm.size ≤ 9223372036854775800) :
    Calls Tryd.prog 15 #[.slice A L.length c, .agg #[.int .i64 p, .int .i64 n, .int .i64 0, .int .i64 0], .agg #[.int .u16 sp, .string nm, .int .i64 r, .bool cn]] w fun e w' => e = .returned (.tuple #[.agg #[.int .i64 ((p : Int) + 1), .int .i64 (bits .xor .i64 n (hI sp nm)), .int .i64 0, .int .i64 0], .agg #[.int .i64 0, .int .i64 0, .int .i64 0, .int .i64 0], .bool false]) ∧ Gr w w' := by
  subst hA
  have hpz : ¬ (L.length : Int) ≤ (p : Int) := by omega
  have hpl : (p : Int) < (L.length : Int) := by omega
  have G4 : Gr w ((((w.alloc (.cells #[.int .i64 p, .int .i64 n, .int .i64 0, .int .i64 0] 45)).alloc (.cells #[.int .u16 sp, .string nm, .int .i64 r, .bool cn] 54)).alloc (.cells #[.int .i64 0, .int .i64 0, .int .i64 0, .int .i64 0] 45)).alloc (.cells #[.int .i64 0, .int .i64 0, .int .i64 0, .int .i64 0] 48)) := ((((Gr.refl w).alloc _).alloc _).alloc _).alloc _
  have d0 := G4.cell' c0
  have d1 := G4.cell' c1
  have d2 := G4.cell' c2
  clear c0 c1 c2 G4
  have wp1 : IntKind.i64.wrap ((p : Int) + 1) = (p : Int) + 1 := by rw [IntKind.wrap_i64]; omega
  have mixed := mixed
  have HC : Hid _ := fun w => hash34x sp nm w h1 h2 h3
  have hH : IntKind.i64.wrap ((hashK sp nm : Nat) : Int) = hI sp nm := rfl
  generalize hI sp nm = H at *
  generalize hashK sp nm = K at *
  obtain ⟨y, hy⟩ : ∃ y, bits .xor .i64 n H = y := ⟨_, rfl⟩
  rw [hy]
  clear h1 h2 h3
  go_enter Tryd.func15, Tryd.ntmps15
  go_wp2_with fail
  go_region_with (go_at_call 34; refine (HC.out _).mono ?_; rintro e w1 ⟨rfl, o1, o2, o3, rfl⟩)
  all_goals
    go_wp2
    exact bodyPost_ret (v := .tuple #[.agg #[.int .i64 ((p : Int) + 1), .int .i64 y, .int .i64 0, .int .i64 0], .agg #[.int .i64 0, .int .i64 0, .int .i64 0, .int .i64 0], .bool false]) (by simp [results, Tryd.results15, go_sem]) rfl ⟨rfl, by repeat (first | exact Gr.refl _ | apply Gr.alloc | apply Gr.drew)⟩
set_option maxHeartbeats 1000000 in
theorem do15_4 (L : List Sp) (A : Option Addr) (c : Nat) (p : Nat) (n : Int) (sp : Int) (nm : ByteArray) (r : Int) (cn : Bool) (w : World) (b off : Nat) (hA : A = some ⟨b, off, none⟩) (a x : Int) (c0 : w.cell? ⟨b, off + p * 3, none⟩ = some (.int .i64 4)) (c1 : w.cell? ⟨b, off + p * 3 + 1, none⟩ = some (.int .i64 a)) (c2 : w.cell? ⟨b, off + p * 3 + 2, none⟩ = some (.int .i64 x)) (hp : p < L.length) (hl : L.length ≤ 256) :
    Calls Tryd.prog 15 #[.slice A L.length c, .agg #[.int .i64 p, .int .i64 n, .int .i64 0, .int .i64 0], .agg #[.int .u16 sp, .string nm, .int .i64 r, .bool cn]] w fun e w' => e = .returned (.tuple #[.agg #[.int .i64 ((p : Int) + 1), .int .i64 (IntKind.i64.wrap (n + r)), .int .i64 0, .int .i64 0], .agg #[.int .i64 0, .int .i64 0, .int .i64 0, .int .i64 0], .bool false]) ∧ Gr w w' := by
  subst hA
  have hpz : ¬ (L.length : Int) ≤ (p : Int) := by omega
  have hpl : (p : Int) < (L.length : Int) := by omega
  have G4 : Gr w ((((w.alloc (.cells #[.int .i64 p, .int .i64 n, .int .i64 0, .int .i64 0] 45)).alloc (.cells #[.int .u16 sp, .string nm, .int .i64 r, .bool cn] 54)).alloc (.cells #[.int .i64 0, .int .i64 0, .int .i64 0, .int .i64 0] 45)).alloc (.cells #[.int .i64 0, .int .i64 0, .int .i64 0, .int .i64 0] 48)) := ((((Gr.refl w).alloc _).alloc _).alloc _).alloc _
  have d0 := G4.cell' c0
  have d1 := G4.cell' c1
  have d2 := G4.cell' c2
  clear c0 c1 c2 G4
  have wp1 : IntKind.i64.wrap ((p : Int) + 1) = (p : Int) + 1 := by rw [IntKind.wrap_i64]; omega
  obtain ⟨y, hy⟩ : ∃ y, IntKind.i64.wrap (n + r) = y := ⟨_, rfl⟩
  rw [hy]
  go_enter Tryd.func15, Tryd.ntmps15
  go_wp2
  exact bodyPost_ret (v := .tuple #[.agg #[.int .i64 ((p : Int) + 1), .int .i64 (y), .int .i64 0, .int .i64 0], .agg #[.int .i64 0, .int .i64 0, .int .i64 0, .int .i64 0], .bool false]) (by simp [results, Tryd.results15, go_sem]) rfl ⟨rfl, by repeat (first | exact Gr.refl _ | apply Gr.alloc | apply Gr.drew)⟩
set_option maxHeartbeats 1000000 in
theorem do15_5 (L : List Sp) (A : Option Addr) (c : Nat) (p : Nat) (n : Int) (sp : Int) (nm : ByteArray) (r : Int) (cn : Bool) (w : World) (b off : Nat) (hA : A = some ⟨b, off, none⟩) (a x : Int) (c0 : w.cell? ⟨b, off + p * 3, none⟩ = some (.int .i64 5)) (c1 : w.cell? ⟨b, off + p * 3 + 1, none⟩ = some (.int .i64 a)) (c2 : w.cell? ⟨b, off + p * 3 + 2, none⟩ = some (.int .i64 x)) (hp : p < L.length) (hl : L.length ≤ 256) (h1 : 0 ≤ a) (h2 : a ≤ 63) :
    Calls Tryd.prog 15 #[.slice A L.length c, .agg #[.int .i64 p, .int .i64 n, .int .i64 0, .int .i64 0], .agg #[.int .u16 sp, .string nm, .int .i64 r, .bool cn]] w fun e w' => e = .returned (.tuple #[.agg #[.int .i64 ((p : Int) + 1), .int .i64 (turnI n a), .int .i64 0, .int .i64 0], .agg #[.int .i64 0, .int .i64 0, .int .i64 0, .int .i64 0], .bool false]) ∧ Gr w w' := by
  subst hA
  have hpz : ¬ (L.length : Int) ≤ (p : Int) := by omega
  have hpl : (p : Int) < (L.length : Int) := by omega
  have G4 : Gr w ((((w.alloc (.cells #[.int .i64 p, .int .i64 n, .int .i64 0, .int .i64 0] 45)).alloc (.cells #[.int .u16 sp, .string nm, .int .i64 r, .bool cn] 54)).alloc (.cells #[.int .i64 0, .int .i64 0, .int .i64 0, .int .i64 0] 45)).alloc (.cells #[.int .i64 0, .int .i64 0, .int .i64 0, .int .i64 0] 48)) := ((((Gr.refl w).alloc _).alloc _).alloc _).alloc _
  have d0 := G4.cell' c0
  have d1 := G4.cell' c1
  have d2 := G4.cell' c2
  clear c0 c1 c2 G4
  have wp1 : IntKind.i64.wrap ((p : Int) + 1) = (p : Int) + 1 := by rw [IntKind.wrap_i64]; omega
  obtain ⟨j, rfl⟩ : ∃ j : Nat, a = j := ⟨a.toNat, by omega⟩
  have HC : Hid _ := fun w => turn35 n j w (by omega)
  generalize turnI n j = y at *
  clear h1 h2
  go_enter Tryd.func15, Tryd.ntmps15
  go_wp2_with (go_at_call 35; refine (HC.out _).mono ?_; rintro e w1 ⟨rfl, rfl⟩)
  exact bodyPost_ret (v := .tuple #[.agg #[.int .i64 ((p : Int) + 1), .int .i64 y, .int .i64 0, .int .i64 0], .agg #[.int .i64 0, .int .i64 0, .int .i64 0, .int .i64 0], .bool false]) (by simp [results, Tryd.results15, go_sem]) rfl ⟨rfl, by repeat (first | exact Gr.refl _ | apply Gr.alloc | apply Gr.drew)⟩
set_option maxHeartbeats 1000000 in
theorem do15_6 (L : List Sp) (A : Option Addr) (c : Nat) (p : Nat) (n : Int) (sp : Int) (nm : ByteArray) (r : Int) (cn : Bool) (w : World) (b off : Nat) (hA : A = some ⟨b, off, none⟩) (a x : Int) (c0 : w.cell? ⟨b, off + p * 3, none⟩ = some (.int .i64 6)) (c1 : w.cell? ⟨b, off + p * 3 + 1, none⟩ = some (.int .i64 a)) (c2 : w.cell? ⟨b, off + p * 3 + 2, none⟩ = some (.int .i64 x)) (hp : p < L.length) (hl : L.length ≤ 256) :
    Calls Tryd.prog 15 #[.slice A L.length c, .agg #[.int .i64 p, .int .i64 n, .int .i64 0, .int .i64 0], .agg #[.int .u16 sp, .string nm, .int .i64 r, .bool cn]] w fun e w' => e = .returned (.tuple #[.agg #[.int .i64 ((p : Int) + 1), .int .i64 n, .int .i64 1, .int .i64 a], .agg #[.int .i64 0, .int .i64 0, .int .i64 0, .int .i64 0], .bool false]) ∧ Gr w w' := by
  subst hA
  have hpz : ¬ (L.length : Int) ≤ (p : Int) := by omega
  have hpl : (p : Int) < (L.length : Int) := by omega
  have G4 : Gr w ((((w.alloc (.cells #[.int .i64 p, .int .i64 n, .int .i64 0, .int .i64 0] 45)).alloc (.cells #[.int .u16 sp, .string nm, .int .i64 r, .bool cn] 54)).alloc (.cells #[.int .i64 0, .int .i64 0, .int .i64 0, .int .i64 0] 45)).alloc (.cells #[.int .i64 0, .int .i64 0, .int .i64 0, .int .i64 0] 48)) := ((((Gr.refl w).alloc _).alloc _).alloc _).alloc _
  have d0 := G4.cell' c0
  have d1 := G4.cell' c1
  have d2 := G4.cell' c2
  clear c0 c1 c2 G4
  have wp1 : IntKind.i64.wrap ((p : Int) + 1) = (p : Int) + 1 := by rw [IntKind.wrap_i64]; omega
  go_enter Tryd.func15, Tryd.ntmps15
  go_wp2_with fail
  go_region
  all_goals
    go_wp2
    exact bodyPost_ret (v := .tuple #[.agg #[.int .i64 ((p : Int) + 1), .int .i64 n, .int .i64 1, .int .i64 a], .agg #[.int .i64 0, .int .i64 0, .int .i64 0, .int .i64 0], .bool false]) (by simp [results, Tryd.results15, go_sem]) rfl ⟨rfl, by repeat (first | exact Gr.refl _ | apply Gr.alloc | apply Gr.drew)⟩
set_option maxHeartbeats 1000000 in
theorem do15_7 (L : List Sp) (A : Option Addr) (c : Nat) (p : Nat) (n : Int) (sp : Int) (nm : ByteArray) (r : Int) (cn : Bool) (w : World) (b off : Nat) (hA : A = some ⟨b, off, none⟩) (a x : Int) (c0 : w.cell? ⟨b, off + p * 3, none⟩ = some (.int .i64 7)) (c1 : w.cell? ⟨b, off + p * 3 + 1, none⟩ = some (.int .i64 a)) (c2 : w.cell? ⟨b, off + p * 3 + 2, none⟩ = some (.int .i64 x)) (hp : p < L.length) (hl : L.length ≤ 256) :
    Calls Tryd.prog 15 #[.slice A L.length c, .agg #[.int .i64 p, .int .i64 n, .int .i64 0, .int .i64 0], .agg #[.int .u16 sp, .string nm, .int .i64 r, .bool cn]] w fun e w' => e = .returned (.tuple #[.agg #[.int .i64 ((p : Int) + 1), .int .i64 n, .int .i64 2, .int .i64 a], .agg #[.int .i64 0, .int .i64 0, .int .i64 0, .int .i64 0], .bool false]) ∧ Gr w w' := by
  subst hA
  have hpz : ¬ (L.length : Int) ≤ (p : Int) := by omega
  have hpl : (p : Int) < (L.length : Int) := by omega
  have G4 : Gr w ((((w.alloc (.cells #[.int .i64 p, .int .i64 n, .int .i64 0, .int .i64 0] 45)).alloc (.cells #[.int .u16 sp, .string nm, .int .i64 r, .bool cn] 54)).alloc (.cells #[.int .i64 0, .int .i64 0, .int .i64 0, .int .i64 0] 45)).alloc (.cells #[.int .i64 0, .int .i64 0, .int .i64 0, .int .i64 0] 48)) := ((((Gr.refl w).alloc _).alloc _).alloc _).alloc _
  have d0 := G4.cell' c0
  have d1 := G4.cell' c1
  have d2 := G4.cell' c2
  clear c0 c1 c2 G4
  have wp1 : IntKind.i64.wrap ((p : Int) + 1) = (p : Int) + 1 := by rw [IntKind.wrap_i64]; omega
  go_enter Tryd.func15, Tryd.ntmps15
  go_wp2_with fail
  go_region
  all_goals
    go_wp2
    exact bodyPost_ret (v := .tuple #[.agg #[.int .i64 ((p : Int) + 1), .int .i64 n, .int .i64 2, .int .i64 a], .agg #[.int .i64 0, .int .i64 0, .int .i64 0, .int .i64 0], .bool false]) (by simp [results, Tryd.results15, go_sem]) rfl ⟨rfl, by repeat (first | exact Gr.refl _ | apply Gr.alloc | apply Gr.drew)⟩
set_option maxHeartbeats 1000000 in
theorem do15_8y (L : List Sp) (A : Option Addr) (c : Nat) (p : Nat) (n : Int) (sp : Int) (nm : ByteArray) (r : Int) (cn : Bool) (w : World) (b off : Nat) (hA : A = some ⟨b, off, none⟩) (a x : Int) (c0 : w.cell? ⟨b, off + p * 3, none⟩ = some (.int .i64 8)) (c1 : w.cell? ⟨b, off + p * 3 + 1, none⟩ = some (.int .i64 a)) (c2 : w.cell? ⟨b, off + p * 3 + 2, none⟩ = some (.int .i64 x)) (hp : p < L.length) (hl : L.length ≤ 256) (hc : cn = true) :
    Calls Tryd.prog 15 #[.slice A L.length c, .agg #[.int .i64 p, .int .i64 n, .int .i64 0, .int .i64 0], .agg #[.int .u16 sp, .string nm, .int .i64 r, .bool cn]] w fun e w' => e = .returned (.tuple #[.agg #[.int .i64 0, .int .i64 0, .int .i64 0, .int .i64 0], .agg #[.int .i64 0, .int .i64 5, .int .i64 0, .int .i64 r], .bool true]) ∧ Gr w w' := by
  subst hA
  have hpz : ¬ (L.length : Int) ≤ (p : Int) := by omega
  have hpl : (p : Int) < (L.length : Int) := by omega
  have G4 : Gr w ((((w.alloc (.cells #[.int .i64 p, .int .i64 n, .int .i64 0, .int .i64 0] 45)).alloc (.cells #[.int .u16 sp, .string nm, .int .i64 r, .bool cn] 54)).alloc (.cells #[.int .i64 0, .int .i64 0, .int .i64 0, .int .i64 0] 45)).alloc (.cells #[.int .i64 0, .int .i64 0, .int .i64 0, .int .i64 0] 48)) := ((((Gr.refl w).alloc _).alloc _).alloc _).alloc _
  have d0 := G4.cell' c0
  have d1 := G4.cell' c1
  have d2 := G4.cell' c2
  clear c0 c1 c2 G4
  have wp1 : IntKind.i64.wrap ((p : Int) + 1) = (p : Int) + 1 := by rw [IntKind.wrap_i64]; omega
  subst hc
  go_enter Tryd.func15, Tryd.ntmps15
  go_wp2_with fail
  go_region
  all_goals
    go_wp2
    exact bodyPost_ret (v := .tuple #[.agg #[.int .i64 0, .int .i64 0, .int .i64 0, .int .i64 0], .agg #[.int .i64 0, .int .i64 5, .int .i64 0, .int .i64 r], .bool true]) (by simp [results, Tryd.results15, go_sem]) rfl ⟨rfl, by repeat (first | exact Gr.refl _ | apply Gr.alloc | apply Gr.drew)⟩
set_option maxHeartbeats 1000000 in
theorem do15_8n (L : List Sp) (A : Option Addr) (c : Nat) (p : Nat) (n : Int) (sp : Int) (nm : ByteArray) (r : Int) (cn : Bool) (w : World) (b off : Nat) (hA : A = some ⟨b, off, none⟩) (a x : Int) (c0 : w.cell? ⟨b, off + p * 3, none⟩ = some (.int .i64 8)) (c1 : w.cell? ⟨b, off + p * 3 + 1, none⟩ = some (.int .i64 a)) (c2 : w.cell? ⟨b, off + p * 3 + 2, none⟩ = some (.int .i64 x)) (hp : p < L.length) (hl : L.length ≤ 256) (hc : cn = false) :
    Calls Tryd.prog 15 #[.slice A L.length c, .agg #[.int .i64 p, .int .i64 n, .int .i64 0, .int .i64 0], .agg #[.int .u16 sp, .string nm, .int .i64 r, .bool cn]] w fun e w' => e = .returned (.tuple #[.agg #[.int .i64 ((p : Int) + 1), .int .i64 n, .int .i64 0, .int .i64 0], .agg #[.int .i64 0, .int .i64 0, .int .i64 0, .int .i64 0], .bool false]) ∧ Gr w w' := by
  subst hA
  have hpz : ¬ (L.length : Int) ≤ (p : Int) := by omega
  have hpl : (p : Int) < (L.length : Int) := by omega
  have G4 : Gr w ((((w.alloc (.cells #[.int .i64 p, .int .i64 n, .int .i64 0, .int .i64 0] 45)).alloc (.cells #[.int .u16 sp, .string nm, .int .i64 r, .bool cn] 54)).alloc (.cells #[.int .i64 0, .int .i64 0, .int .i64 0, .int .i64 0] 45)).alloc (.cells #[.int .i64 0, .int .i64 0, .int .i64 0, .int .i64 0] 48)) := ((((Gr.refl w).alloc _).alloc _).alloc _).alloc _
  have d0 := G4.cell' c0
  have d1 := G4.cell' c1
  have d2 := G4.cell' c2
  clear c0 c1 c2 G4
  have wp1 : IntKind.i64.wrap ((p : Int) + 1) = (p : Int) + 1 := by rw [IntKind.wrap_i64]; omega
  subst hc
  go_enter Tryd.func15, Tryd.ntmps15
  go_wp2
  exact bodyPost_ret (v := .tuple #[.agg #[.int .i64 ((p : Int) + 1), .int .i64 n, .int .i64 0, .int .i64 0], .agg #[.int .i64 0, .int .i64 0, .int .i64 0, .int .i64 0], .bool false]) (by simp [results, Tryd.results15, go_sem]) rfl ⟨rfl, by repeat (first | exact Gr.refl _ | apply Gr.alloc | apply Gr.drew)⟩
set_option maxHeartbeats 1000000 in
theorem do15_9a (L : List Sp) (A : Option Addr) (c : Nat) (p : Nat) (n : Int) (sp : Int) (nm : ByteArray) (r : Int) (cn : Bool) (w : World) (b off : Nat) (hA : A = some ⟨b, off, none⟩) (a x : Int) (c0 : w.cell? ⟨b, off + p * 3, none⟩ = some (.int .i64 9)) (c1 : w.cell? ⟨b, off + p * 3 + 1, none⟩ = some (.int .i64 a)) (c2 : w.cell? ⟨b, off + p * 3 + 2, none⟩ = some (.int .i64 x)) (hp : p < L.length) (hl : L.length ≤ 256) (hx1 : 1 ≤ x) (hx2 : x ≤ 256) (hn : I64 n) (hc : skipI a n cn = true) (hm : (p : Int) + 1 + x ≤ (L.length : Int)) :
    Calls Tryd.prog 15 #[.slice A L.length c, .agg #[.int .i64 p, .int .i64 n, .int .i64 0, .int .i64 0], .agg #[.int .u16 sp, .string nm, .int .i64 r, .bool cn]] w fun e w' => e = .returned (.tuple #[.agg #[.int .i64 ((p : Int) + 1 + x), .int .i64 n, .int .i64 0, .int .i64 0], .agg #[.int .i64 0, .int .i64 0, .int .i64 0, .int .i64 0], .bool false]) ∧ Gr w w' := by
  subst hA
  have hpz : ¬ (L.length : Int) ≤ (p : Int) := by omega
  have hpl : (p : Int) < (L.length : Int) := by omega
  have G4 : Gr w ((((w.alloc (.cells #[.int .i64 p, .int .i64 n, .int .i64 0, .int .i64 0] 45)).alloc (.cells #[.int .u16 sp, .string nm, .int .i64 r, .bool cn] 54)).alloc (.cells #[.int .i64 0, .int .i64 0, .int .i64 0, .int .i64 0] 45)).alloc (.cells #[.int .i64 0, .int .i64 0, .int .i64 0, .int .i64 0] 48)) := ((((Gr.refl w).alloc _).alloc _).alloc _).alloc _
  have d0 := G4.cell' c0
  have d1 := G4.cell' c1
  have d2 := G4.cell' c2
  clear c0 c1 c2 G4
  have wp1 : IntKind.i64.wrap ((p : Int) + 1) = (p : Int) + 1 := by rw [IntKind.wrap_i64]; omega
  have HC : Hid _ := fun w => skips36 a n cn w hn
  rw [hc] at HC
  have wp2 : IntKind.i64.wrap ((p : Int) + 1 + x) = (p : Int) + 1 + x := by rw [IntKind.wrap_i64]; omega
  clear hc hn
  go_enter Tryd.func15, Tryd.ntmps15
  go_wp2_with (go_at_call 36; refine (HC.out _).mono ?_; rintro e w1 ⟨rfl, rfl⟩)
  exact bodyPost_ret (v := .tuple #[.agg #[.int .i64 ((p : Int) + 1 + x), .int .i64 n, .int .i64 0, .int .i64 0], .agg #[.int .i64 0, .int .i64 0, .int .i64 0, .int .i64 0], .bool false]) (by simp [results, Tryd.results15, go_sem]) rfl ⟨rfl, by repeat (first | exact Gr.refl _ | apply Gr.alloc | apply Gr.drew)⟩
set_option maxHeartbeats 1000000 in
theorem do15_9b (L : List Sp) (A : Option Addr) (c : Nat) (p : Nat) (n : Int) (sp : Int) (nm : ByteArray) (r : Int) (cn : Bool) (w : World) (b off : Nat) (hA : A = some ⟨b, off, none⟩) (a x : Int) (c0 : w.cell? ⟨b, off + p * 3, none⟩ = some (.int .i64 9)) (c1 : w.cell? ⟨b, off + p * 3 + 1, none⟩ = some (.int .i64 a)) (c2 : w.cell? ⟨b, off + p * 3 + 2, none⟩ = some (.int .i64 x)) (hp : p < L.length) (hl : L.length ≤ 256) (hx1 : 1 ≤ x) (hx2 : x ≤ 256) (hn : I64 n) (hc : skipI a n cn = true) (hm : (L.length : Int) < (p : Int) + 1 + x) :
    Calls Tryd.prog 15 #[.slice A L.length c, .agg #[.int .i64 p, .int .i64 n, .int .i64 0, .int .i64 0], .agg #[.int .u16 sp, .string nm, .int .i64 r, .bool cn]] w fun e w' => e = .returned (.tuple #[.agg #[.int .i64 L.length, .int .i64 n, .int .i64 0, .int .i64 0], .agg #[.int .i64 0, .int .i64 0, .int .i64 0, .int .i64 0], .bool false]) ∧ Gr w w' := by
  subst hA
  have hpz : ¬ (L.length : Int) ≤ (p : Int) := by omega
  have hpl : (p : Int) < (L.length : Int) := by omega
  have G4 : Gr w ((((w.alloc (.cells #[.int .i64 p, .int .i64 n, .int .i64 0, .int .i64 0] 45)).alloc (.cells #[.int .u16 sp, .string nm, .int .i64 r, .bool cn] 54)).alloc (.cells #[.int .i64 0, .int .i64 0, .int .i64 0, .int .i64 0] 45)).alloc (.cells #[.int .i64 0, .int .i64 0, .int .i64 0, .int .i64 0] 48)) := ((((Gr.refl w).alloc _).alloc _).alloc _).alloc _
  have d0 := G4.cell' c0
  have d1 := G4.cell' c1
  have d2 := G4.cell' c2
  clear c0 c1 c2 G4
  have wp1 : IntKind.i64.wrap ((p : Int) + 1) = (p : Int) + 1 := by rw [IntKind.wrap_i64]; omega
  have HC : Hid _ := fun w => skips36 a n cn w hn
  rw [hc] at HC
  have wp2 : IntKind.i64.wrap ((p : Int) + 1 + x) = (p : Int) + 1 + x := by rw [IntKind.wrap_i64]; omega
  clear hc hn
  go_enter Tryd.func15, Tryd.ntmps15
  go_wp2_with (go_at_call 36; refine (HC.out _).mono ?_; rintro e w1 ⟨rfl, rfl⟩)
  exact bodyPost_ret (v := .tuple #[.agg #[.int .i64 L.length, .int .i64 n, .int .i64 0, .int .i64 0], .agg #[.int .i64 0, .int .i64 0, .int .i64 0, .int .i64 0], .bool false]) (by simp [results, Tryd.results15, go_sem]) rfl ⟨rfl, by repeat (first | exact Gr.refl _ | apply Gr.alloc | apply Gr.drew)⟩
set_option maxHeartbeats 1000000 in
theorem do15_9n (L : List Sp) (A : Option Addr) (c : Nat) (p : Nat) (n : Int) (sp : Int) (nm : ByteArray) (r : Int) (cn : Bool) (w : World) (b off : Nat) (hA : A = some ⟨b, off, none⟩) (a x : Int) (c0 : w.cell? ⟨b, off + p * 3, none⟩ = some (.int .i64 9)) (c1 : w.cell? ⟨b, off + p * 3 + 1, none⟩ = some (.int .i64 a)) (c2 : w.cell? ⟨b, off + p * 3 + 2, none⟩ = some (.int .i64 x)) (hp : p < L.length) (hl : L.length ≤ 256) (hn : I64 n) (hc : skipI a n cn = false) :
    Calls Tryd.prog 15 #[.slice A L.length c, .agg #[.int .i64 p, .int .i64 n, .int .i64 0, .int .i64 0], .agg #[.int .u16 sp, .string nm, .int .i64 r, .bool cn]] w fun e w' => e = .returned (.tuple #[.agg #[.int .i64 ((p : Int) + 1), .int .i64 n, .int .i64 0, .int .i64 0], .agg #[.int .i64 0, .int .i64 0, .int .i64 0, .int .i64 0], .bool false]) ∧ Gr w w' := by
  subst hA
  have hpz : ¬ (L.length : Int) ≤ (p : Int) := by omega
  have hpl : (p : Int) < (L.length : Int) := by omega
  have G4 : Gr w ((((w.alloc (.cells #[.int .i64 p, .int .i64 n, .int .i64 0, .int .i64 0] 45)).alloc (.cells #[.int .u16 sp, .string nm, .int .i64 r, .bool cn] 54)).alloc (.cells #[.int .i64 0, .int .i64 0, .int .i64 0, .int .i64 0] 45)).alloc (.cells #[.int .i64 0, .int .i64 0, .int .i64 0, .int .i64 0] 48)) := ((((Gr.refl w).alloc _).alloc _).alloc _).alloc _
  have d0 := G4.cell' c0
  have d1 := G4.cell' c1
  have d2 := G4.cell' c2
  clear c0 c1 c2 G4
  have wp1 : IntKind.i64.wrap ((p : Int) + 1) = (p : Int) + 1 := by rw [IntKind.wrap_i64]; omega
  have HC : Hid _ := fun w => skips36 a n cn w hn
  rw [hc] at HC
  clear hc hn
  go_enter Tryd.func15, Tryd.ntmps15
  go_wp2_with (go_at_call 36; refine (HC.out _).mono ?_; rintro e w1 ⟨rfl, rfl⟩)
  exact bodyPost_ret (v := .tuple #[.agg #[.int .i64 ((p : Int) + 1), .int .i64 n, .int .i64 0, .int .i64 0], .agg #[.int .i64 0, .int .i64 0, .int .i64 0, .int .i64 0], .bool false]) (by simp [results, Tryd.results15, go_sem]) rfl ⟨rfl, by repeat (first | exact Gr.refl _ | apply Gr.alloc | apply Gr.drew)⟩
set_option maxHeartbeats 1000000 in
theorem do15_10 (L : List Sp) (A : Option Addr) (c : Nat) (p : Nat) (n : Int) (sp : Int) (nm : ByteArray) (r : Int) (cn : Bool) (w : World) (b off : Nat) (hA : A = some ⟨b, off, none⟩) (a x : Int) (c0 : w.cell? ⟨b, off + p * 3, none⟩ = some (.int .i64 10)) (c1 : w.cell? ⟨b, off + p * 3 + 1, none⟩ = some (.int .i64 a)) (c2 : w.cell? ⟨b, off + p * 3 + 2, none⟩ = some (.int .i64 x)) (hp : p < L.length) (hl : L.length ≤ 256) :
    Calls Tryd.prog 15 #[.slice A L.length c, .agg #[.int .i64 p, .int .i64 n, .int .i64 0, .int .i64 0], .agg #[.int .u16 sp, .string nm, .int .i64 r, .bool cn]] w fun e w' => e = .returned (.tuple #[.agg #[.int .i64 0, .int .i64 0, .int .i64 0, .int .i64 0], .agg #[.int .i64 n, .int .i64 0, .int .i64 0, .int .i64 0], .bool true]) ∧ Gr w w' := by
  subst hA
  have hpz : ¬ (L.length : Int) ≤ (p : Int) := by omega
  have hpl : (p : Int) < (L.length : Int) := by omega
  have G4 : Gr w ((((w.alloc (.cells #[.int .i64 p, .int .i64 n, .int .i64 0, .int .i64 0] 45)).alloc (.cells #[.int .u16 sp, .string nm, .int .i64 r, .bool cn] 54)).alloc (.cells #[.int .i64 0, .int .i64 0, .int .i64 0, .int .i64 0] 45)).alloc (.cells #[.int .i64 0, .int .i64 0, .int .i64 0, .int .i64 0] 48)) := ((((Gr.refl w).alloc _).alloc _).alloc _).alloc _
  have d0 := G4.cell' c0
  have d1 := G4.cell' c1
  have d2 := G4.cell' c2
  clear c0 c1 c2 G4
  have wp1 : IntKind.i64.wrap ((p : Int) + 1) = (p : Int) + 1 := by rw [IntKind.wrap_i64]; omega
  go_enter Tryd.func15, Tryd.ntmps15
  go_wp2_with fail
  go_region
  all_goals
    go_wp2
    exact bodyPost_ret (v := .tuple #[.agg #[.int .i64 0, .int .i64 0, .int .i64 0, .int .i64 0], .agg #[.int .i64 n, .int .i64 0, .int .i64 0, .int .i64 0], .bool true]) (by simp [results, Tryd.results15, go_sem]) rfl ⟨rfl, by repeat (first | exact Gr.refl _ | apply Gr.alloc | apply Gr.drew)⟩
set_option maxHeartbeats 1000000 in
theorem do15_11 (L : List Sp) (A : Option Addr) (c : Nat) (p : Nat) (n : Int) (sp : Int) (nm : ByteArray) (r : Int) (cn : Bool) (w : World) (b off : Nat) (hA : A = some ⟨b, off, none⟩) (a x : Int) (c0 : w.cell? ⟨b, off + p * 3, none⟩ = some (.int .i64 11)) (c1 : w.cell? ⟨b, off + p * 3 + 1, none⟩ = some (.int .i64 a)) (c2 : w.cell? ⟨b, off + p * 3 + 2, none⟩ = some (.int .i64 x)) (hp : p < L.length) (hl : L.length ≤ 256) :
    Calls Tryd.prog 15 #[.slice A L.length c, .agg #[.int .i64 p, .int .i64 n, .int .i64 0, .int .i64 0], .agg #[.int .u16 sp, .string nm, .int .i64 r, .bool cn]] w fun e w' => e = .returned (.tuple #[.agg #[.int .i64 0, .int .i64 0, .int .i64 0, .int .i64 0], .agg #[.int .i64 0, .int .i64 1, .int .i64 a, .int .i64 r], .bool true]) ∧ Gr w w' := by
  subst hA
  have hpz : ¬ (L.length : Int) ≤ (p : Int) := by omega
  have hpl : (p : Int) < (L.length : Int) := by omega
  have G4 : Gr w ((((w.alloc (.cells #[.int .i64 p, .int .i64 n, .int .i64 0, .int .i64 0] 45)).alloc (.cells #[.int .u16 sp, .string nm, .int .i64 r, .bool cn] 54)).alloc (.cells #[.int .i64 0, .int .i64 0, .int .i64 0, .int .i64 0] 45)).alloc (.cells #[.int .i64 0, .int .i64 0, .int .i64 0, .int .i64 0] 48)) := ((((Gr.refl w).alloc _).alloc _).alloc _).alloc _
  have d0 := G4.cell' c0
  have d1 := G4.cell' c1
  have d2 := G4.cell' c2
  clear c0 c1 c2 G4
  have wp1 : IntKind.i64.wrap ((p : Int) + 1) = (p : Int) + 1 := by rw [IntKind.wrap_i64]; omega
  go_enter Tryd.func15, Tryd.ntmps15
  go_wp2_with fail
  go_region
  all_goals
    go_wp2
    exact bodyPost_ret (v := .tuple #[.agg #[.int .i64 0, .int .i64 0, .int .i64 0, .int .i64 0], .agg #[.int .i64 0, .int .i64 1, .int .i64 a, .int .i64 r], .bool true]) (by simp [results, Tryd.results15, go_sem]) rfl ⟨rfl, by repeat (first | exact Gr.refl _ | apply Gr.alloc | apply Gr.drew)⟩
set_option maxHeartbeats 1000000 in
theorem do15_12 (L : List Sp) (A : Option Addr) (c : Nat) (p : Nat) (n : Int) (sp : Int) (nm : ByteArray) (r : Int) (cn : Bool) (w : World) (b off : Nat) (hA : A = some ⟨b, off, none⟩) (a x : Int) (c0 : w.cell? ⟨b, off + p * 3, none⟩ = some (.int .i64 12)) (c1 : w.cell? ⟨b, off + p * 3 + 1, none⟩ = some (.int .i64 a)) (c2 : w.cell? ⟨b, off + p * 3 + 2, none⟩ = some (.int .i64 x)) (hp : p < L.length) (hl : L.length ≤ 256) :
    Calls Tryd.prog 15 #[.slice A L.length c, .agg #[.int .i64 p, .int .i64 n, .int .i64 0, .int .i64 0], .agg #[.int .u16 sp, .string nm, .int .i64 r, .bool cn]] w fun e w' => e = .returned (.tuple #[.agg #[.int .i64 0, .int .i64 0, .int .i64 0, .int .i64 0], .agg #[.int .i64 0, .int .i64 2, .int .i64 a, .int .i64 r], .bool true]) ∧ Gr w w' := by
  subst hA
  have hpz : ¬ (L.length : Int) ≤ (p : Int) := by omega
  have hpl : (p : Int) < (L.length : Int) := by omega
  have G4 : Gr w ((((w.alloc (.cells #[.int .i64 p, .int .i64 n, .int .i64 0, .int .i64 0] 45)).alloc (.cells #[.int .u16 sp, .string nm, .int .i64 r, .bool cn] 54)).alloc (.cells #[.int .i64 0, .int .i64 0, .int .i64 0, .int .i64 0] 45)).alloc (.cells #[.int .i64 0, .int .i64 0, .int .i64 0, .int .i64 0] 48)) := ((((Gr.refl w).alloc _).alloc _).alloc _).alloc _
  have d0 := G4.cell' c0
  have d1 := G4.cell' c1
  have d2 := G4.cell' c2
  clear c0 c1 c2 G4
  have wp1 : IntKind.i64.wrap ((p : Int) + 1) = (p : Int) + 1 := by rw [IntKind.wrap_i64]; omega
  go_enter Tryd.func15, Tryd.ntmps15
  go_wp2_with fail
  go_region
  all_goals
    go_wp2
    exact bodyPost_ret (v := .tuple #[.agg #[.int .i64 0, .int .i64 0, .int .i64 0, .int .i64 0], .agg #[.int .i64 0, .int .i64 2, .int .i64 a, .int .i64 r], .bool true]) (by simp [results, Tryd.results15, go_sem]) rfl ⟨rfl, by repeat (first | exact Gr.refl _ | apply Gr.alloc | apply Gr.drew)⟩
theorem do15 (L : List Sp) (A : Option Addr) (c : Nat) (p : Nat) (n : Int) (x : Ar) (w : World) (hs : Sl w A L) (hg : Good L) (hn : I64 n) (hp : p ≤ L.length) (hx : x.ok) :
    Calls Tryd.prog 15 #[.slice A L.length c, .agg #[.int .i64 p, .int .i64 n, .int .i64 0, .int .i64 0], .agg #[.int .u16 x.sp, .string x.nm, .int .i64 x.r, .bool x.cn]] w fun e w' => e = .returned (rsV (x.f L p n)) ∧ Gr w w' := by
  obtain ⟨sp, nm, r, cn⟩ := x
  obtain ⟨h1, h2, h3, _⟩ := hx
  show Calls Tryd.prog 15 #[.slice A L.length c, .agg #[.int .i64 p, .int .i64 n, .int .i64 0, .int .i64 0], .agg #[.int .u16 sp, .string nm, .int .i64 r, .bool cn]] w fun e w' => e = .returned (rsV (stepS (hI sp nm) r cn L p n)) ∧ Gr w w'
  by_cases he : p = L.length
  · rw [stepS_end (by omega)]
    exact do15_end L A c p n sp nm r cn w he
  · have hlt : p < L.length := by omega
    obtain ⟨b, off, hA, c0, c1, c2⟩ := hs p hlt
    have hgt : L[p]? = some L[p] := List.getElem?_eq_getElem hlt
    have hm : may L[p] := hg.2 _ (List.getElem_mem hlt)
    generalize L[p] = z at *
    obtain ⟨op, a, y⟩ := z
    have hl := hg.1
    rw [stepS_at hgt]
    have hmay : may3 op a y := hm
    unfold may3 at hmay
    rcases hmay with ⟨rfl, _⟩ | ⟨rfl, k1, k2, _⟩ | ⟨rfl, _⟩ | ⟨rfl, _⟩ | ⟨rfl, k1, k2, _⟩ | ⟨rfl, k1, k2, _⟩ | ⟨rfl, k1, k2, _⟩ | ⟨rfl, _⟩ | ⟨rfl, k1, k2, k3, k4⟩ | ⟨rfl, _⟩ | ⟨rfl, _⟩ | ⟨rfl, _⟩
    · rw [stepO_1]; exact do15_1 L A c p n sp nm r cn w b off hA a y c0 c1 c2 hlt hl
    · rw [stepO_2]; exact do15_2 L A c p n sp nm r cn w b off hA a y c0 c1 c2 hlt hl hn k1 k2
    · rw [stepO_3]; exact do15_3 L A c p n sp nm r cn w b off hA a y c0 c1 c2 hlt hl h1 h2 h3
    · rw [stepO_4]; exact do15_4 L A c p n sp nm r cn w b off hA a y c0 c1 c2 hlt hl
    · rw [stepO_5]; exact do15_5 L A c p n sp nm r cn w b off hA a y c0 c1 c2 hlt hl k1 k2
    · rw [stepO_6]; exact do15_6 L A c p n sp nm r cn w b off hA a y c0 c1 c2 hlt hl
    · rw [stepO_7]; exact do15_7 L A c p n sp nm r cn w b off hA a y c0 c1 c2 hlt hl
    · rw [stepO_8]
      cases cn with
      | true => exact do15_8y L A c p n sp nm r true w b off hA a y c0 c1 c2 hlt hl rfl
      | false => exact do15_8n L A c p n sp nm r false w b off hA a y c0 c1 c2 hlt hl rfl
    · rw [stepO_9]
      cases hk : skipI a n cn with
      | true =>
        rw [if_pos rfl]
        by_cases hm2 : (p : Int) + 1 + y ≤ (L.length : Int)
        · have e : ((min (p + 1 + y.toNat) L.length : Nat) : Int) = (p : Int) + 1 + y := by omega
          show Calls _ _ _ _ fun e w' => e = .returned (.tuple #[ckV ((min (p + 1 + y.toNat) L.length : Nat) : Int) n 0 0, otV 0 0 0 0, .bool false]) ∧ Gr w w'
          rw [e]
          exact do15_9a L A c p n sp nm r cn w b off hA a y c0 c1 c2 hlt hl k3 k4 hn hk hm2
        · have e : ((min (p + 1 + y.toNat) L.length : Nat) : Int) = (L.length : Int) := by omega
          show Calls _ _ _ _ fun e w' => e = .returned (.tuple #[ckV ((min (p + 1 + y.toNat) L.length : Nat) : Int) n 0 0, otV 0 0 0 0, .bool false]) ∧ Gr w w'
          rw [e]
          exact do15_9b L A c p n sp nm r cn w b off hA a y c0 c1 c2 hlt hl k3 k4 hn hk (by omega)
      | false =>
        rw [if_neg (by decide)]
        exact do15_9n L A c p n sp nm r cn w b off hA a y c0 c1 c2 hlt hl hn hk
    · rw [stepO_10]; exact do15_10 L A c p n sp nm r cn w b off hA a y c0 c1 c2 hlt hl
    · rw [stepO_11]; exact do15_11 L A c p n sp nm r cn w b off hA a y c0 c1 c2 hlt hl
    · rw [stepO_12]; exact do15_12 L A c p n sp nm r cn w b off hA a y c0 c1 c2 hlt hl
end Go.Proofs.YtgjojdlbighoaaaDoor
