/- One step of a recipe, done by the program; the conditions: the recipe may be and lies in memory, the state is ready. -/
import Derived.Test.YtgjojdlbighoaaaDoorSml
import Derived.Laws.Closers25b
import Derived.Deep.RegionWith
namespace Go.Proofs.YtgjojdlbighoaaaDoor
open Go.RowKit Go.Sort
set_option linter.unusedVariables false

/-- a key's hash as a number with a sign -/
def hI (sp : Int) (nm : ByteArray) : Int := IntKind.i64.wrap ((hashK sp nm : Nat) : Int)
set_option maxHeartbeats 1000000 in
theorem do31_end (L : List Sp) (A : Option Addr) (c : Nat) (p : Nat) (n on : Int) (sp : Int) (nm : ByteArray) (r : Int) (cn : Bool) (w : World) (hp : p = L.length) :
    Calls Tryd.prog 31 #[.slice A L.length c, .agg #[.int .i64 p, .int .i64 n, .int .i64 0, .int .i64 on], .agg #[.int .u16 sp, .string nm, .int .i64 r, .bool cn]] w fun e w' => e = .returned (.tuple #[.agg #[.int .i64 0, .int .i64 0, .int .i64 0, .int .i64 0], .agg #[.int .i64 n, .int .i64 0, .int .i64 0, .int .i64 0], .bool true]) ∧ Gr w w' := by
  subst hp
  go_enter Tryd.func31, Tryd.ntmps31
  go_wp2_with (go_at_call 48; refine (answers48 _ _).mono ?_; rintro e w1 ⟨rfl, rfl⟩)
  exact bodyPost_ret (v := .tuple #[.agg #[.int .i64 0, .int .i64 0, .int .i64 0, .int .i64 0], .agg #[.int .i64 n, .int .i64 0, .int .i64 0, .int .i64 0], .bool true]) (by simp [results, Tryd.results31, go_sem]) rfl ⟨rfl, by repeat (first | exact Gr.refl _ | apply Gr.alloc | apply Gr.drew)⟩
set_option maxHeartbeats 1000000 in
theorem do31_1 (L : List Sp) (A : Option Addr) (c : Nat) (p : Nat) (n on : Int) (sp : Int) (nm : ByteArray) (r : Int) (cn : Bool) (w : World) (b off : Nat) (hA : A = some ⟨b, off, none⟩) (a x : Int) (c0 : w.cell? ⟨b, off + p * 3, none⟩ = some (.int .i64 1)) (c1 : w.cell? ⟨b, off + p * 3 + 1, none⟩ = some (.int .i64 a)) (c2 : w.cell? ⟨b, off + p * 3 + 2, none⟩ = some (.int .i64 x)) (hp : p < L.length) (hl : L.length ≤ 256) :
    Calls Tryd.prog 31 #[.slice A L.length c, .agg #[.int .i64 p, .int .i64 n, .int .i64 0, .int .i64 on], .agg #[.int .u16 sp, .string nm, .int .i64 r, .bool cn]] w fun e w' => e = .returned (.tuple #[.agg #[.int .i64 ((p : Int) + 1), .int .i64 (IntKind.i64.wrap (n + a)), .int .i64 0, .int .i64 0], .agg #[.int .i64 0, .int .i64 0, .int .i64 0, .int .i64 0], .bool false]) ∧ Gr w w' := by
  subst hA
  have hb : b < w.heap.size := cell_lt c0
  have hpz : ((p : Int) == (L.length : Int)) = false := by simpa using (by omega : ¬ (p : Int) = (L.length : Int))
  have hpl : (p : Int) < (L.length : Int) := by omega
  have G4 : Gr w ((((w.alloc (.cells #[.int .i64 p, .int .i64 n, .int .i64 0, .int .i64 on] 24)).alloc (.cells #[.int .u16 sp, .string nm, .int .i64 r, .bool cn] 29)).alloc (.cells #[.int .i64 0, .int .i64 0, .int .i64 0, .int .i64 0] 24)).alloc (.cells #[.int .i64 0, .int .i64 0, .int .i64 0, .int .i64 0] 41)) := ((((Gr.refl w).alloc _).alloc _).alloc _).alloc _
  have d0 := G4.cell' c0
  have d1 := G4.cell' c1
  have d2 := G4.cell' c2
  clear c0 c1 c2 hb G4
  have wp1 : IntKind.i64.wrap ((p : Int) + 1) = (p : Int) + 1 := by rw [IntKind.wrap_i64]; omega
  obtain ⟨y, hy⟩ : ∃ y, IntKind.i64.wrap (n + a) = y := ⟨_, rfl⟩
  rw [hy]
  go_enter Tryd.func31, Tryd.ntmps31
  go_wp2
  exact bodyPost_ret (v := .tuple #[.agg #[.int .i64 ((p : Int) + 1), .int .i64 (y), .int .i64 0, .int .i64 0], .agg #[.int .i64 0, .int .i64 0, .int .i64 0, .int .i64 0], .bool false]) (by simp [results, Tryd.results31, go_sem]) rfl ⟨rfl, by repeat (first | exact Gr.refl _ | apply Gr.alloc | apply Gr.drew)⟩
set_option maxHeartbeats 1000000 in
theorem do31_2 (L : List Sp) (A : Option Addr) (c : Nat) (p : Nat) (n on : Int) (sp : Int) (nm : ByteArray) (r : Int) (cn : Bool) (w : World) (b off : Nat) (hA : A = some ⟨b, off, none⟩) (a x : Int) (c0 : w.cell? ⟨b, off + p * 3, none⟩ = some (.int .i64 2)) (c1 : w.cell? ⟨b, off + p * 3 + 1, none⟩ = some (.int .i64 a)) (c2 : w.cell? ⟨b, off + p * 3 + 2, none⟩ = some (.int .i64 x)) (hp : p < L.length) (hl : L.length ≤ 256) (h1 : -63 ≤ a) (h2 : a ≤ 63) :
    Calls Tryd.prog 31 #[.slice A L.length c, .agg #[.int .i64 p, .int .i64 n, .int .i64 0, .int .i64 on], .agg #[.int .u16 sp, .string nm, .int .i64 r, .bool cn]] w fun e w' => e = .returned (.tuple #[.agg #[.int .i64 ((p : Int) + 1), .int .i64 (shiftI n a), .int .i64 0, .int .i64 0], .agg #[.int .i64 0, .int .i64 0, .int .i64 0, .int .i64 0], .bool false]) ∧ Gr w w' := by
  subst hA
  have hb : b < w.heap.size := cell_lt c0
  have hpz : ((p : Int) == (L.length : Int)) = false := by simpa using (by omega : ¬ (p : Int) = (L.length : Int))
  have hpl : (p : Int) < (L.length : Int) := by omega
  have G4 : Gr w ((((w.alloc (.cells #[.int .i64 p, .int .i64 n, .int .i64 0, .int .i64 on] 24)).alloc (.cells #[.int .u16 sp, .string nm, .int .i64 r, .bool cn] 29)).alloc (.cells #[.int .i64 0, .int .i64 0, .int .i64 0, .int .i64 0] 24)).alloc (.cells #[.int .i64 0, .int .i64 0, .int .i64 0, .int .i64 0] 41)) := ((((Gr.refl w).alloc _).alloc _).alloc _).alloc _
  have d0 := G4.cell' c0
  have d1 := G4.cell' c1
  have d2 := G4.cell' c2
  clear c0 c1 c2 hb G4
  have wp1 : IntKind.i64.wrap ((p : Int) + 1) = (p : Int) + 1 := by rw [IntKind.wrap_i64]; omega
  have HC : Hid _ := fun w => shifted49 n a w h1 h2
  generalize shiftI n a = y at *
  clear h1 h2
  go_enter Tryd.func31, Tryd.ntmps31
  go_wp2_with (go_at_call 49; refine (HC.out _).mono ?_; rintro e w1 ⟨rfl, rfl⟩)
  exact bodyPost_ret (v := .tuple #[.agg #[.int .i64 ((p : Int) + 1), .int .i64 y, .int .i64 0, .int .i64 0], .agg #[.int .i64 0, .int .i64 0, .int .i64 0, .int .i64 0], .bool false]) (by simp [results, Tryd.results31, go_sem]) rfl ⟨rfl, by repeat (first | exact Gr.refl _ | apply Gr.alloc | apply Gr.drew)⟩
set_option maxHeartbeats 1000000 in
theorem do31_3 (L : List Sp) (A : Option Addr) (c : Nat) (p : Nat) (n on : Int) (sp : Int) (nm : ByteArray) (r : Int) (cn : Bool) (w : World) (b off : Nat) (hA : A = some ⟨b, off, none⟩) (a x : Int) (c0 : w.cell? ⟨b, off + p * 3, none⟩ = some (.int .i64 3)) (c1 : w.cell? ⟨b, off + p * 3 + 1, none⟩ = some (.int .i64 a)) (c2 : w.cell? ⟨b, off + p * 3 + 2, none⟩ = some (.int .i64 x)) (hp : p < L.length) (hl : L.length ≤ 256) (h1 : 0 ≤ sp) (h2 : sp ≤ 65535) (h3 : nm.size ≤ 9223372036854775800) :
    Calls Tryd.prog 31 #[.slice A L.length c, .agg #[.int .i64 p, .int .i64 n, .int .i64 0, .int .i64 on], .agg #[.int .u16 sp, .string nm, .int .i64 r, .bool cn]] w fun e w' => e = .returned (.tuple #[.agg #[.int .i64 ((p : Int) + 1), .int .i64 (bits .xor .i64 n (hI sp nm)), .int .i64 0, .int .i64 0], .agg #[.int .i64 0, .int .i64 0, .int .i64 0, .int .i64 0], .bool false]) ∧ Gr w w' := by
  subst hA
  have hb : b < w.heap.size := cell_lt c0
  have hpz : ((p : Int) == (L.length : Int)) = false := by simpa using (by omega : ¬ (p : Int) = (L.length : Int))
  have hpl : (p : Int) < (L.length : Int) := by omega
  have G4 : Gr w ((((w.alloc (.cells #[.int .i64 p, .int .i64 n, .int .i64 0, .int .i64 on] 24)).alloc (.cells #[.int .u16 sp, .string nm, .int .i64 r, .bool cn] 29)).alloc (.cells #[.int .i64 0, .int .i64 0, .int .i64 0, .int .i64 0] 24)).alloc (.cells #[.int .i64 0, .int .i64 0, .int .i64 0, .int .i64 0] 41)) := ((((Gr.refl w).alloc _).alloc _).alloc _).alloc _
  have d0 := G4.cell' c0
  have d1 := G4.cell' c1
  have d2 := G4.cell' c2
  clear c0 c1 c2 hb G4
  have wp1 : IntKind.i64.wrap ((p : Int) + 1) = (p : Int) + 1 := by rw [IntKind.wrap_i64]; omega
  have mixed := mixed
  have HC : Hid _ := fun w => hash50 sp nm w h1 h2 h3
  have hH : IntKind.i64.wrap ((hashK sp nm : Nat) : Int) = hI sp nm := rfl
  generalize hI sp nm = H at *
  generalize hashK sp nm = K at *
  obtain ⟨y, hy⟩ : ∃ y, bits .xor .i64 n H = y := ⟨_, rfl⟩
  rw [hy]
  clear h1 h2 h3
  go_enter Tryd.func31, Tryd.ntmps31
  go_wp2_with fail
  go_region_with (go_at_call 50; refine (HC.out _).mono ?_; rintro e w1 ⟨rfl, o1, o2, o3, o4, rfl⟩)
  all_goals
    go_wp2
    exact bodyPost_ret (v := .tuple #[.agg #[.int .i64 ((p : Int) + 1), .int .i64 y, .int .i64 0, .int .i64 0], .agg #[.int .i64 0, .int .i64 0, .int .i64 0, .int .i64 0], .bool false]) (by simp [results, Tryd.results31, go_sem]) rfl ⟨rfl, by repeat (first | exact Gr.refl _ | apply Gr.alloc | apply Gr.drew)⟩
set_option maxHeartbeats 1000000 in
theorem do31_4 (L : List Sp) (A : Option Addr) (c : Nat) (p : Nat) (n on : Int) (sp : Int) (nm : ByteArray) (r : Int) (cn : Bool) (w : World) (b off : Nat) (hA : A = some ⟨b, off, none⟩) (a x : Int) (c0 : w.cell? ⟨b, off + p * 3, none⟩ = some (.int .i64 4)) (c1 : w.cell? ⟨b, off + p * 3 + 1, none⟩ = some (.int .i64 a)) (c2 : w.cell? ⟨b, off + p * 3 + 2, none⟩ = some (.int .i64 x)) (hp : p < L.length) (hl : L.length ≤ 256) :
    Calls Tryd.prog 31 #[.slice A L.length c, .agg #[.int .i64 p, .int .i64 n, .int .i64 0, .int .i64 on], .agg #[.int .u16 sp, .string nm, .int .i64 r, .bool cn]] w fun e w' => e = .returned (.tuple #[.agg #[.int .i64 ((p : Int) + 1), .int .i64 (IntKind.i64.wrap (n + r)), .int .i64 0, .int .i64 0], .agg #[.int .i64 0, .int .i64 0, .int .i64 0, .int .i64 0], .bool false]) ∧ Gr w w' := by
  subst hA
  have hb : b < w.heap.size := cell_lt c0
  have hpz : ((p : Int) == (L.length : Int)) = false := by simpa using (by omega : ¬ (p : Int) = (L.length : Int))
  have hpl : (p : Int) < (L.length : Int) := by omega
  have G4 : Gr w ((((w.alloc (.cells #[.int .i64 p, .int .i64 n, .int .i64 0, .int .i64 on] 24)).alloc (.cells #[.int .u16 sp, .string nm, .int .i64 r, .bool cn] 29)).alloc (.cells #[.int .i64 0, .int .i64 0, .int .i64 0, .int .i64 0] 24)).alloc (.cells #[.int .i64 0, .int .i64 0, .int .i64 0, .int .i64 0] 41)) := ((((Gr.refl w).alloc _).alloc _).alloc _).alloc _
  have d0 := G4.cell' c0
  have d1 := G4.cell' c1
  have d2 := G4.cell' c2
  clear c0 c1 c2 hb G4
  have wp1 : IntKind.i64.wrap ((p : Int) + 1) = (p : Int) + 1 := by rw [IntKind.wrap_i64]; omega
  obtain ⟨y, hy⟩ : ∃ y, IntKind.i64.wrap (n + r) = y := ⟨_, rfl⟩
  rw [hy]
  go_enter Tryd.func31, Tryd.ntmps31
  go_wp2
  exact bodyPost_ret (v := .tuple #[.agg #[.int .i64 ((p : Int) + 1), .int .i64 (y), .int .i64 0, .int .i64 0], .agg #[.int .i64 0, .int .i64 0, .int .i64 0, .int .i64 0], .bool false]) (by simp [results, Tryd.results31, go_sem]) rfl ⟨rfl, by repeat (first | exact Gr.refl _ | apply Gr.alloc | apply Gr.drew)⟩
set_option maxHeartbeats 1000000 in
theorem do31_5 (L : List Sp) (A : Option Addr) (c : Nat) (p : Nat) (n on : Int) (sp : Int) (nm : ByteArray) (r : Int) (cn : Bool) (w : World) (b off : Nat) (hA : A = some ⟨b, off, none⟩) (a x : Int) (c0 : w.cell? ⟨b, off + p * 3, none⟩ = some (.int .i64 5)) (c1 : w.cell? ⟨b, off + p * 3 + 1, none⟩ = some (.int .i64 a)) (c2 : w.cell? ⟨b, off + p * 3 + 2, none⟩ = some (.int .i64 x)) (hp : p < L.length) (hl : L.length ≤ 256) (h1 : 0 ≤ a) (h2 : a ≤ 63) :
    Calls Tryd.prog 31 #[.slice A L.length c, .agg #[.int .i64 p, .int .i64 n, .int .i64 0, .int .i64 on], .agg #[.int .u16 sp, .string nm, .int .i64 r, .bool cn]] w fun e w' => e = .returned (.tuple #[.agg #[.int .i64 ((p : Int) + 1), .int .i64 (turnI n a), .int .i64 0, .int .i64 0], .agg #[.int .i64 0, .int .i64 0, .int .i64 0, .int .i64 0], .bool false]) ∧ Gr w w' := by
  subst hA
  have hb : b < w.heap.size := cell_lt c0
  have hpz : ((p : Int) == (L.length : Int)) = false := by simpa using (by omega : ¬ (p : Int) = (L.length : Int))
  have hpl : (p : Int) < (L.length : Int) := by omega
  have G4 : Gr w ((((w.alloc (.cells #[.int .i64 p, .int .i64 n, .int .i64 0, .int .i64 on] 24)).alloc (.cells #[.int .u16 sp, .string nm, .int .i64 r, .bool cn] 29)).alloc (.cells #[.int .i64 0, .int .i64 0, .int .i64 0, .int .i64 0] 24)).alloc (.cells #[.int .i64 0, .int .i64 0, .int .i64 0, .int .i64 0] 41)) := ((((Gr.refl w).alloc _).alloc _).alloc _).alloc _
  have d0 := G4.cell' c0
  have d1 := G4.cell' c1
  have d2 := G4.cell' c2
  clear c0 c1 c2 hb G4
  have wp1 : IntKind.i64.wrap ((p : Int) + 1) = (p : Int) + 1 := by rw [IntKind.wrap_i64]; omega
  obtain ⟨j, rfl⟩ : ∃ j : Nat, a = j := ⟨a.toNat, by omega⟩
  obtain ⟨u, hu⟩ : ∃ u : Nat, n % 18446744073709551616 = u := ⟨(n % 18446744073709551616).toNat, by omega⟩
  have HC : Hid _ := fun w => rotate51 u j w (by omega) (by omega)
  have hw : IntKind.u64.wrap n = (u : Int) := by rw [IntKind.wrap_u64]; exact hu
  have ht : IntKind.i64.wrap ((rot u j : Nat) : Int) = turnI n j := by unfold turnI; rw [hu, Int.toNat_natCast, Int.toNat_natCast]
  generalize turnI n j = y at *
  generalize rot u j = R at *
  clear h1 h2 hu
  go_enter Tryd.func31, Tryd.ntmps31
  go_wp2_with (go_at_call 51; refine (HC.out _).mono ?_; rintro e w1 ⟨rfl, rfl⟩)
  exact bodyPost_ret (v := .tuple #[.agg #[.int .i64 ((p : Int) + 1), .int .i64 y, .int .i64 0, .int .i64 0], .agg #[.int .i64 0, .int .i64 0, .int .i64 0, .int .i64 0], .bool false]) (by simp [results, Tryd.results31, go_sem]) rfl ⟨rfl, by repeat (first | exact Gr.refl _ | apply Gr.alloc | apply Gr.drew)⟩
set_option maxHeartbeats 1000000 in
theorem do31_6 (L : List Sp) (A : Option Addr) (c : Nat) (p : Nat) (n on : Int) (sp : Int) (nm : ByteArray) (r : Int) (cn : Bool) (w : World) (b off : Nat) (hA : A = some ⟨b, off, none⟩) (a x : Int) (c0 : w.cell? ⟨b, off + p * 3, none⟩ = some (.int .i64 6)) (c1 : w.cell? ⟨b, off + p * 3 + 1, none⟩ = some (.int .i64 a)) (c2 : w.cell? ⟨b, off + p * 3 + 2, none⟩ = some (.int .i64 x)) (hp : p < L.length) (hl : L.length ≤ 256) :
    Calls Tryd.prog 31 #[.slice A L.length c, .agg #[.int .i64 p, .int .i64 n, .int .i64 0, .int .i64 on], .agg #[.int .u16 sp, .string nm, .int .i64 r, .bool cn]] w fun e w' => e = .returned (.tuple #[.agg #[.int .i64 ((p : Int) + 1), .int .i64 n, .int .i64 1, .int .i64 a], .agg #[.int .i64 0, .int .i64 0, .int .i64 0, .int .i64 0], .bool false]) ∧ Gr w w' := by
  subst hA
  have hb : b < w.heap.size := cell_lt c0
  have hpz : ((p : Int) == (L.length : Int)) = false := by simpa using (by omega : ¬ (p : Int) = (L.length : Int))
  have hpl : (p : Int) < (L.length : Int) := by omega
  have G4 : Gr w ((((w.alloc (.cells #[.int .i64 p, .int .i64 n, .int .i64 0, .int .i64 on] 24)).alloc (.cells #[.int .u16 sp, .string nm, .int .i64 r, .bool cn] 29)).alloc (.cells #[.int .i64 0, .int .i64 0, .int .i64 0, .int .i64 0] 24)).alloc (.cells #[.int .i64 0, .int .i64 0, .int .i64 0, .int .i64 0] 41)) := ((((Gr.refl w).alloc _).alloc _).alloc _).alloc _
  have d0 := G4.cell' c0
  have d1 := G4.cell' c1
  have d2 := G4.cell' c2
  clear c0 c1 c2 hb G4
  have wp1 : IntKind.i64.wrap ((p : Int) + 1) = (p : Int) + 1 := by rw [IntKind.wrap_i64]; omega
  go_enter Tryd.func31, Tryd.ntmps31
  go_wp2_with fail
  go_region
  all_goals
    go_wp2
    exact bodyPost_ret (v := .tuple #[.agg #[.int .i64 ((p : Int) + 1), .int .i64 n, .int .i64 1, .int .i64 a], .agg #[.int .i64 0, .int .i64 0, .int .i64 0, .int .i64 0], .bool false]) (by simp [results, Tryd.results31, go_sem]) rfl ⟨rfl, by repeat (first | exact Gr.refl _ | apply Gr.alloc | apply Gr.drew)⟩
set_option maxHeartbeats 1000000 in
theorem do31_7 (L : List Sp) (A : Option Addr) (c : Nat) (p : Nat) (n on : Int) (sp : Int) (nm : ByteArray) (r : Int) (cn : Bool) (w : World) (b off : Nat) (hA : A = some ⟨b, off, none⟩) (a x : Int) (c0 : w.cell? ⟨b, off + p * 3, none⟩ = some (.int .i64 7)) (c1 : w.cell? ⟨b, off + p * 3 + 1, none⟩ = some (.int .i64 a)) (c2 : w.cell? ⟨b, off + p * 3 + 2, none⟩ = some (.int .i64 x)) (hp : p < L.length) (hl : L.length ≤ 256) :
    Calls Tryd.prog 31 #[.slice A L.length c, .agg #[.int .i64 p, .int .i64 n, .int .i64 0, .int .i64 on], .agg #[.int .u16 sp, .string nm, .int .i64 r, .bool cn]] w fun e w' => e = .returned (.tuple #[.agg #[.int .i64 ((p : Int) + 1), .int .i64 n, .int .i64 2, .int .i64 a], .agg #[.int .i64 0, .int .i64 0, .int .i64 0, .int .i64 0], .bool false]) ∧ Gr w w' := by
  subst hA
  have hb : b < w.heap.size := cell_lt c0
  have hpz : ((p : Int) == (L.length : Int)) = false := by simpa using (by omega : ¬ (p : Int) = (L.length : Int))
  have hpl : (p : Int) < (L.length : Int) := by omega
  have G4 : Gr w ((((w.alloc (.cells #[.int .i64 p, .int .i64 n, .int .i64 0, .int .i64 on] 24)).alloc (.cells #[.int .u16 sp, .string nm, .int .i64 r, .bool cn] 29)).alloc (.cells #[.int .i64 0, .int .i64 0, .int .i64 0, .int .i64 0] 24)).alloc (.cells #[.int .i64 0, .int .i64 0, .int .i64 0, .int .i64 0] 41)) := ((((Gr.refl w).alloc _).alloc _).alloc _).alloc _
  have d0 := G4.cell' c0
  have d1 := G4.cell' c1
  have d2 := G4.cell' c2
  clear c0 c1 c2 hb G4
  have wp1 : IntKind.i64.wrap ((p : Int) + 1) = (p : Int) + 1 := by rw [IntKind.wrap_i64]; omega
  go_enter Tryd.func31, Tryd.ntmps31
  go_wp2_with fail
  go_region
  all_goals
    go_wp2
    exact bodyPost_ret (v := .tuple #[.agg #[.int .i64 ((p : Int) + 1), .int .i64 n, .int .i64 2, .int .i64 a], .agg #[.int .i64 0, .int .i64 0, .int .i64 0, .int .i64 0], .bool false]) (by simp [results, Tryd.results31, go_sem]) rfl ⟨rfl, by repeat (first | exact Gr.refl _ | apply Gr.alloc | apply Gr.drew)⟩
set_option maxHeartbeats 1000000 in
theorem do31_8y (L : List Sp) (A : Option Addr) (c : Nat) (p : Nat) (n on : Int) (sp : Int) (nm : ByteArray) (r : Int) (cn : Bool) (w : World) (b off : Nat) (hA : A = some ⟨b, off, none⟩) (a x : Int) (c0 : w.cell? ⟨b, off + p * 3, none⟩ = some (.int .i64 8)) (c1 : w.cell? ⟨b, off + p * 3 + 1, none⟩ = some (.int .i64 a)) (c2 : w.cell? ⟨b, off + p * 3 + 2, none⟩ = some (.int .i64 x)) (hp : p < L.length) (hl : L.length ≤ 256) (hc : cn = true) :
    Calls Tryd.prog 31 #[.slice A L.length c, .agg #[.int .i64 p, .int .i64 n, .int .i64 0, .int .i64 on], .agg #[.int .u16 sp, .string nm, .int .i64 r, .bool cn]] w fun e w' => e = .returned (.tuple #[.agg #[.int .i64 0, .int .i64 0, .int .i64 0, .int .i64 0], .agg #[.int .i64 0, .int .i64 5, .int .i64 0, .int .i64 r], .bool true]) ∧ Gr w w' := by
  subst hA
  have hb : b < w.heap.size := cell_lt c0
  have hpz : ((p : Int) == (L.length : Int)) = false := by simpa using (by omega : ¬ (p : Int) = (L.length : Int))
  have hpl : (p : Int) < (L.length : Int) := by omega
  have G4 : Gr w ((((w.alloc (.cells #[.int .i64 p, .int .i64 n, .int .i64 0, .int .i64 on] 24)).alloc (.cells #[.int .u16 sp, .string nm, .int .i64 r, .bool cn] 29)).alloc (.cells #[.int .i64 0, .int .i64 0, .int .i64 0, .int .i64 0] 24)).alloc (.cells #[.int .i64 0, .int .i64 0, .int .i64 0, .int .i64 0] 41)) := ((((Gr.refl w).alloc _).alloc _).alloc _).alloc _
  have d0 := G4.cell' c0
  have d1 := G4.cell' c1
  have d2 := G4.cell' c2
  clear c0 c1 c2 hb G4
  have wp1 : IntKind.i64.wrap ((p : Int) + 1) = (p : Int) + 1 := by rw [IntKind.wrap_i64]; omega
  subst hc
  go_enter Tryd.func31, Tryd.ntmps31
  go_wp2_with (go_at_call 52; refine (fails52 _ _ _ _ _ _ _).mono ?_; rintro e w1 ⟨rfl, rfl⟩)
  exact bodyPost_ret (v := .tuple #[.agg #[.int .i64 0, .int .i64 0, .int .i64 0, .int .i64 0], .agg #[.int .i64 0, .int .i64 5, .int .i64 0, .int .i64 r], .bool true]) (by simp [results, Tryd.results31, go_sem]) rfl ⟨rfl, by repeat (first | exact Gr.refl _ | apply Gr.alloc | apply Gr.drew)⟩
set_option maxHeartbeats 1000000 in
theorem do31_8n (L : List Sp) (A : Option Addr) (c : Nat) (p : Nat) (n on : Int) (sp : Int) (nm : ByteArray) (r : Int) (cn : Bool) (w : World) (b off : Nat) (hA : A = some ⟨b, off, none⟩) (a x : Int) (c0 : w.cell? ⟨b, off + p * 3, none⟩ = some (.int .i64 8)) (c1 : w.cell? ⟨b, off + p * 3 + 1, none⟩ = some (.int .i64 a)) (c2 : w.cell? ⟨b, off + p * 3 + 2, none⟩ = some (.int .i64 x)) (hp : p < L.length) (hl : L.length ≤ 256) (hc : cn = false) :
    Calls Tryd.prog 31 #[.slice A L.length c, .agg #[.int .i64 p, .int .i64 n, .int .i64 0, .int .i64 on], .agg #[.int .u16 sp, .string nm, .int .i64 r, .bool cn]] w fun e w' => e = .returned (.tuple #[.agg #[.int .i64 ((p : Int) + 1), .int .i64 n, .int .i64 0, .int .i64 0], .agg #[.int .i64 0, .int .i64 0, .int .i64 0, .int .i64 0], .bool false]) ∧ Gr w w' := by
  subst hA
  have hb : b < w.heap.size := cell_lt c0
  have hpz : ((p : Int) == (L.length : Int)) = false := by simpa using (by omega : ¬ (p : Int) = (L.length : Int))
  have hpl : (p : Int) < (L.length : Int) := by omega
  have G4 : Gr w ((((w.alloc (.cells #[.int .i64 p, .int .i64 n, .int .i64 0, .int .i64 on] 24)).alloc (.cells #[.int .u16 sp, .string nm, .int .i64 r, .bool cn] 29)).alloc (.cells #[.int .i64 0, .int .i64 0, .int .i64 0, .int .i64 0] 24)).alloc (.cells #[.int .i64 0, .int .i64 0, .int .i64 0, .int .i64 0] 41)) := ((((Gr.refl w).alloc _).alloc _).alloc _).alloc _
  have d0 := G4.cell' c0
  have d1 := G4.cell' c1
  have d2 := G4.cell' c2
  clear c0 c1 c2 hb G4
  have wp1 : IntKind.i64.wrap ((p : Int) + 1) = (p : Int) + 1 := by rw [IntKind.wrap_i64]; omega
  subst hc
  go_enter Tryd.func31, Tryd.ntmps31
  go_wp2
  exact bodyPost_ret (v := .tuple #[.agg #[.int .i64 ((p : Int) + 1), .int .i64 n, .int .i64 0, .int .i64 0], .agg #[.int .i64 0, .int .i64 0, .int .i64 0, .int .i64 0], .bool false]) (by simp [results, Tryd.results31, go_sem]) rfl ⟨rfl, by repeat (first | exact Gr.refl _ | apply Gr.alloc | apply Gr.drew)⟩
set_option maxHeartbeats 1000000 in
theorem do31_9a (L : List Sp) (A : Option Addr) (c : Nat) (p : Nat) (n on : Int) (sp : Int) (nm : ByteArray) (r : Int) (cn : Bool) (w : World) (b off : Nat) (hA : A = some ⟨b, off, none⟩) (a x : Int) (c0 : w.cell? ⟨b, off + p * 3, none⟩ = some (.int .i64 9)) (c1 : w.cell? ⟨b, off + p * 3 + 1, none⟩ = some (.int .i64 a)) (c2 : w.cell? ⟨b, off + p * 3 + 2, none⟩ = some (.int .i64 x)) (hp : p < L.length) (hl : L.length ≤ 256) (hx1 : 1 ≤ x) (hx2 : x ≤ 256) (hn : I64 n) (hc : skipI a n cn = true) (hm : (p : Int) + 1 + x ≤ (L.length : Int)) :
    Calls Tryd.prog 31 #[.slice A L.length c, .agg #[.int .i64 p, .int .i64 n, .int .i64 0, .int .i64 on], .agg #[.int .u16 sp, .string nm, .int .i64 r, .bool cn]] w fun e w' => e = .returned (.tuple #[.agg #[.int .i64 ((p : Int) + 1 + x), .int .i64 n, .int .i64 0, .int .i64 0], .agg #[.int .i64 0, .int .i64 0, .int .i64 0, .int .i64 0], .bool false]) ∧ Gr w w' := by
  subst hA
  have hb : b < w.heap.size := cell_lt c0
  have hpz : ((p : Int) == (L.length : Int)) = false := by simpa using (by omega : ¬ (p : Int) = (L.length : Int))
  have hpl : (p : Int) < (L.length : Int) := by omega
  have G4 : Gr w ((((w.alloc (.cells #[.int .i64 p, .int .i64 n, .int .i64 0, .int .i64 on] 24)).alloc (.cells #[.int .u16 sp, .string nm, .int .i64 r, .bool cn] 29)).alloc (.cells #[.int .i64 0, .int .i64 0, .int .i64 0, .int .i64 0] 24)).alloc (.cells #[.int .i64 0, .int .i64 0, .int .i64 0, .int .i64 0] 41)) := ((((Gr.refl w).alloc _).alloc _).alloc _).alloc _
  have d0 := G4.cell' c0
  have d1 := G4.cell' c1
  have d2 := G4.cell' c2
  clear c0 c1 c2 hb G4
  have wp1 : IntKind.i64.wrap ((p : Int) + 1) = (p : Int) + 1 := by rw [IntKind.wrap_i64]; omega
  have HC : Hid _ := fun w => skips53 a n sp nm r cn w hn
  rw [hc] at HC
  have wp2 : IntKind.i64.wrap ((p : Int) + 1 + x) = (p : Int) + 1 + x := by rw [IntKind.wrap_i64]; omega
  clear hc hn
  go_enter Tryd.func31, Tryd.ntmps31
  go_wp2_with (go_at_call 53; refine (HC.out _).mono ?_; rintro e w1 ⟨rfl, rfl⟩)
  exact bodyPost_ret (v := .tuple #[.agg #[.int .i64 ((p : Int) + 1 + x), .int .i64 n, .int .i64 0, .int .i64 0], .agg #[.int .i64 0, .int .i64 0, .int .i64 0, .int .i64 0], .bool false]) (by simp [results, Tryd.results31, go_sem]) rfl ⟨rfl, by repeat (first | exact Gr.refl _ | apply Gr.alloc | apply Gr.drew)⟩
set_option maxHeartbeats 1000000 in
theorem do31_9b (L : List Sp) (A : Option Addr) (c : Nat) (p : Nat) (n on : Int) (sp : Int) (nm : ByteArray) (r : Int) (cn : Bool) (w : World) (b off : Nat) (hA : A = some ⟨b, off, none⟩) (a x : Int) (c0 : w.cell? ⟨b, off + p * 3, none⟩ = some (.int .i64 9)) (c1 : w.cell? ⟨b, off + p * 3 + 1, none⟩ = some (.int .i64 a)) (c2 : w.cell? ⟨b, off + p * 3 + 2, none⟩ = some (.int .i64 x)) (hp : p < L.length) (hl : L.length ≤ 256) (hx1 : 1 ≤ x) (hx2 : x ≤ 256) (hn : I64 n) (hc : skipI a n cn = true) (hm : (L.length : Int) < (p : Int) + 1 + x) :
    Calls Tryd.prog 31 #[.slice A L.length c, .agg #[.int .i64 p, .int .i64 n, .int .i64 0, .int .i64 on], .agg #[.int .u16 sp, .string nm, .int .i64 r, .bool cn]] w fun e w' => e = .returned (.tuple #[.agg #[.int .i64 L.length, .int .i64 n, .int .i64 0, .int .i64 0], .agg #[.int .i64 0, .int .i64 0, .int .i64 0, .int .i64 0], .bool false]) ∧ Gr w w' := by
  subst hA
  have hb : b < w.heap.size := cell_lt c0
  have hpz : ((p : Int) == (L.length : Int)) = false := by simpa using (by omega : ¬ (p : Int) = (L.length : Int))
  have hpl : (p : Int) < (L.length : Int) := by omega
  have G4 : Gr w ((((w.alloc (.cells #[.int .i64 p, .int .i64 n, .int .i64 0, .int .i64 on] 24)).alloc (.cells #[.int .u16 sp, .string nm, .int .i64 r, .bool cn] 29)).alloc (.cells #[.int .i64 0, .int .i64 0, .int .i64 0, .int .i64 0] 24)).alloc (.cells #[.int .i64 0, .int .i64 0, .int .i64 0, .int .i64 0] 41)) := ((((Gr.refl w).alloc _).alloc _).alloc _).alloc _
  have d0 := G4.cell' c0
  have d1 := G4.cell' c1
  have d2 := G4.cell' c2
  clear c0 c1 c2 hb G4
  have wp1 : IntKind.i64.wrap ((p : Int) + 1) = (p : Int) + 1 := by rw [IntKind.wrap_i64]; omega
  have HC : Hid _ := fun w => skips53 a n sp nm r cn w hn
  rw [hc] at HC
  have wp2 : IntKind.i64.wrap ((p : Int) + 1 + x) = (p : Int) + 1 + x := by rw [IntKind.wrap_i64]; omega
  clear hc hn
  go_enter Tryd.func31, Tryd.ntmps31
  go_wp2_with (go_at_call 53; refine (HC.out _).mono ?_; rintro e w1 ⟨rfl, rfl⟩)
  exact bodyPost_ret (v := .tuple #[.agg #[.int .i64 L.length, .int .i64 n, .int .i64 0, .int .i64 0], .agg #[.int .i64 0, .int .i64 0, .int .i64 0, .int .i64 0], .bool false]) (by simp [results, Tryd.results31, go_sem]) rfl ⟨rfl, by repeat (first | exact Gr.refl _ | apply Gr.alloc | apply Gr.drew)⟩
set_option maxHeartbeats 1000000 in
theorem do31_9n (L : List Sp) (A : Option Addr) (c : Nat) (p : Nat) (n on : Int) (sp : Int) (nm : ByteArray) (r : Int) (cn : Bool) (w : World) (b off : Nat) (hA : A = some ⟨b, off, none⟩) (a x : Int) (c0 : w.cell? ⟨b, off + p * 3, none⟩ = some (.int .i64 9)) (c1 : w.cell? ⟨b, off + p * 3 + 1, none⟩ = some (.int .i64 a)) (c2 : w.cell? ⟨b, off + p * 3 + 2, none⟩ = some (.int .i64 x)) (hp : p < L.length) (hl : L.length ≤ 256) (hn : I64 n) (hc : skipI a n cn = false) :
    Calls Tryd.prog 31 #[.slice A L.length c, .agg #[.int .i64 p, .int .i64 n, .int .i64 0, .int .i64 on], .agg #[.int .u16 sp, .string nm, .int .i64 r, .bool cn]] w fun e w' => e = .returned (.tuple #[.agg #[.int .i64 ((p : Int) + 1), .int .i64 n, .int .i64 0, .int .i64 0], .agg #[.int .i64 0, .int .i64 0, .int .i64 0, .int .i64 0], .bool false]) ∧ Gr w w' := by
  subst hA
  have hb : b < w.heap.size := cell_lt c0
  have hpz : ((p : Int) == (L.length : Int)) = false := by simpa using (by omega : ¬ (p : Int) = (L.length : Int))
  have hpl : (p : Int) < (L.length : Int) := by omega
  have G4 : Gr w ((((w.alloc (.cells #[.int .i64 p, .int .i64 n, .int .i64 0, .int .i64 on] 24)).alloc (.cells #[.int .u16 sp, .string nm, .int .i64 r, .bool cn] 29)).alloc (.cells #[.int .i64 0, .int .i64 0, .int .i64 0, .int .i64 0] 24)).alloc (.cells #[.int .i64 0, .int .i64 0, .int .i64 0, .int .i64 0] 41)) := ((((Gr.refl w).alloc _).alloc _).alloc _).alloc _
  have d0 := G4.cell' c0
  have d1 := G4.cell' c1
  have d2 := G4.cell' c2
  clear c0 c1 c2 hb G4
  have wp1 : IntKind.i64.wrap ((p : Int) + 1) = (p : Int) + 1 := by rw [IntKind.wrap_i64]; omega
  have HC : Hid _ := fun w => skips53 a n sp nm r cn w hn
  rw [hc] at HC
  clear hc hn
  go_enter Tryd.func31, Tryd.ntmps31
  go_wp2_with (go_at_call 53; refine (HC.out _).mono ?_; rintro e w1 ⟨rfl, rfl⟩)
  exact bodyPost_ret (v := .tuple #[.agg #[.int .i64 ((p : Int) + 1), .int .i64 n, .int .i64 0, .int .i64 0], .agg #[.int .i64 0, .int .i64 0, .int .i64 0, .int .i64 0], .bool false]) (by simp [results, Tryd.results31, go_sem]) rfl ⟨rfl, by repeat (first | exact Gr.refl _ | apply Gr.alloc | apply Gr.drew)⟩
set_option maxHeartbeats 1000000 in
theorem do31_10 (L : List Sp) (A : Option Addr) (c : Nat) (p : Nat) (n on : Int) (sp : Int) (nm : ByteArray) (r : Int) (cn : Bool) (w : World) (b off : Nat) (hA : A = some ⟨b, off, none⟩) (a x : Int) (c0 : w.cell? ⟨b, off + p * 3, none⟩ = some (.int .i64 10)) (c1 : w.cell? ⟨b, off + p * 3 + 1, none⟩ = some (.int .i64 a)) (c2 : w.cell? ⟨b, off + p * 3 + 2, none⟩ = some (.int .i64 x)) (hp : p < L.length) (hl : L.length ≤ 256) :
    Calls Tryd.prog 31 #[.slice A L.length c, .agg #[.int .i64 p, .int .i64 n, .int .i64 0, .int .i64 on], .agg #[.int .u16 sp, .string nm, .int .i64 r, .bool cn]] w fun e w' => e = .returned (.tuple #[.agg #[.int .i64 0, .int .i64 0, .int .i64 0, .int .i64 0], .agg #[.int .i64 n, .int .i64 0, .int .i64 0, .int .i64 0], .bool true]) ∧ Gr w w' := by
  subst hA
  have hb : b < w.heap.size := cell_lt c0
  have hpz : ((p : Int) == (L.length : Int)) = false := by simpa using (by omega : ¬ (p : Int) = (L.length : Int))
  have hpl : (p : Int) < (L.length : Int) := by omega
  have G4 : Gr w ((((w.alloc (.cells #[.int .i64 p, .int .i64 n, .int .i64 0, .int .i64 on] 24)).alloc (.cells #[.int .u16 sp, .string nm, .int .i64 r, .bool cn] 29)).alloc (.cells #[.int .i64 0, .int .i64 0, .int .i64 0, .int .i64 0] 24)).alloc (.cells #[.int .i64 0, .int .i64 0, .int .i64 0, .int .i64 0] 41)) := ((((Gr.refl w).alloc _).alloc _).alloc _).alloc _
  have d0 := G4.cell' c0
  have d1 := G4.cell' c1
  have d2 := G4.cell' c2
  clear c0 c1 c2 hb G4
  have wp1 : IntKind.i64.wrap ((p : Int) + 1) = (p : Int) + 1 := by rw [IntKind.wrap_i64]; omega
  go_enter Tryd.func31, Tryd.ntmps31
  go_wp2_with (go_at_call 48; refine (answers48 _ _).mono ?_; rintro e w1 ⟨rfl, rfl⟩)
  exact bodyPost_ret (v := .tuple #[.agg #[.int .i64 0, .int .i64 0, .int .i64 0, .int .i64 0], .agg #[.int .i64 n, .int .i64 0, .int .i64 0, .int .i64 0], .bool true]) (by simp [results, Tryd.results31, go_sem]) rfl ⟨rfl, by repeat (first | exact Gr.refl _ | apply Gr.alloc | apply Gr.drew)⟩
set_option maxHeartbeats 1000000 in
theorem do31_11 (L : List Sp) (A : Option Addr) (c : Nat) (p : Nat) (n on : Int) (sp : Int) (nm : ByteArray) (r : Int) (cn : Bool) (w : World) (b off : Nat) (hA : A = some ⟨b, off, none⟩) (a x : Int) (c0 : w.cell? ⟨b, off + p * 3, none⟩ = some (.int .i64 11)) (c1 : w.cell? ⟨b, off + p * 3 + 1, none⟩ = some (.int .i64 a)) (c2 : w.cell? ⟨b, off + p * 3 + 2, none⟩ = some (.int .i64 x)) (hp : p < L.length) (hl : L.length ≤ 256) :
    Calls Tryd.prog 31 #[.slice A L.length c, .agg #[.int .i64 p, .int .i64 n, .int .i64 0, .int .i64 on], .agg #[.int .u16 sp, .string nm, .int .i64 r, .bool cn]] w fun e w' => e = .returned (.tuple #[.agg #[.int .i64 0, .int .i64 0, .int .i64 0, .int .i64 0], .agg #[.int .i64 0, .int .i64 1, .int .i64 a, .int .i64 r], .bool true]) ∧ Gr w w' := by
  subst hA
  have hb : b < w.heap.size := cell_lt c0
  have hpz : ((p : Int) == (L.length : Int)) = false := by simpa using (by omega : ¬ (p : Int) = (L.length : Int))
  have hpl : (p : Int) < (L.length : Int) := by omega
  have G4 : Gr w ((((w.alloc (.cells #[.int .i64 p, .int .i64 n, .int .i64 0, .int .i64 on] 24)).alloc (.cells #[.int .u16 sp, .string nm, .int .i64 r, .bool cn] 29)).alloc (.cells #[.int .i64 0, .int .i64 0, .int .i64 0, .int .i64 0] 24)).alloc (.cells #[.int .i64 0, .int .i64 0, .int .i64 0, .int .i64 0] 41)) := ((((Gr.refl w).alloc _).alloc _).alloc _).alloc _
  have d0 := G4.cell' c0
  have d1 := G4.cell' c1
  have d2 := G4.cell' c2
  clear c0 c1 c2 hb G4
  have wp1 : IntKind.i64.wrap ((p : Int) + 1) = (p : Int) + 1 := by rw [IntKind.wrap_i64]; omega
  go_enter Tryd.func31, Tryd.ntmps31
  go_wp2_with (go_at_call 52; refine (fails52 _ _ _ _ _ _ _).mono ?_; rintro e w1 ⟨rfl, rfl⟩)
  exact bodyPost_ret (v := .tuple #[.agg #[.int .i64 0, .int .i64 0, .int .i64 0, .int .i64 0], .agg #[.int .i64 0, .int .i64 1, .int .i64 a, .int .i64 r], .bool true]) (by simp [results, Tryd.results31, go_sem]) rfl ⟨rfl, by repeat (first | exact Gr.refl _ | apply Gr.alloc | apply Gr.drew)⟩
set_option maxHeartbeats 1000000 in
theorem do31_12 (L : List Sp) (A : Option Addr) (c : Nat) (p : Nat) (n on : Int) (sp : Int) (nm : ByteArray) (r : Int) (cn : Bool) (w : World) (b off : Nat) (hA : A = some ⟨b, off, none⟩) (a x : Int) (c0 : w.cell? ⟨b, off + p * 3, none⟩ = some (.int .i64 12)) (c1 : w.cell? ⟨b, off + p * 3 + 1, none⟩ = some (.int .i64 a)) (c2 : w.cell? ⟨b, off + p * 3 + 2, none⟩ = some (.int .i64 x)) (hp : p < L.length) (hl : L.length ≤ 256) :
    Calls Tryd.prog 31 #[.slice A L.length c, .agg #[.int .i64 p, .int .i64 n, .int .i64 0, .int .i64 on], .agg #[.int .u16 sp, .string nm, .int .i64 r, .bool cn]] w fun e w' => e = .returned (.tuple #[.agg #[.int .i64 0, .int .i64 0, .int .i64 0, .int .i64 0], .agg #[.int .i64 0, .int .i64 2, .int .i64 a, .int .i64 r], .bool true]) ∧ Gr w w' := by
  subst hA
  have hb : b < w.heap.size := cell_lt c0
  have hpz : ((p : Int) == (L.length : Int)) = false := by simpa using (by omega : ¬ (p : Int) = (L.length : Int))
  have hpl : (p : Int) < (L.length : Int) := by omega
  have G4 : Gr w ((((w.alloc (.cells #[.int .i64 p, .int .i64 n, .int .i64 0, .int .i64 on] 24)).alloc (.cells #[.int .u16 sp, .string nm, .int .i64 r, .bool cn] 29)).alloc (.cells #[.int .i64 0, .int .i64 0, .int .i64 0, .int .i64 0] 24)).alloc (.cells #[.int .i64 0, .int .i64 0, .int .i64 0, .int .i64 0] 41)) := ((((Gr.refl w).alloc _).alloc _).alloc _).alloc _
  have d0 := G4.cell' c0
  have d1 := G4.cell' c1
  have d2 := G4.cell' c2
  clear c0 c1 c2 hb G4
  have wp1 : IntKind.i64.wrap ((p : Int) + 1) = (p : Int) + 1 := by rw [IntKind.wrap_i64]; omega
  go_enter Tryd.func31, Tryd.ntmps31
  go_wp2_with (go_at_call 52; refine (fails52 _ _ _ _ _ _ _).mono ?_; rintro e w1 ⟨rfl, rfl⟩)
  exact bodyPost_ret (v := .tuple #[.agg #[.int .i64 0, .int .i64 0, .int .i64 0, .int .i64 0], .agg #[.int .i64 0, .int .i64 2, .int .i64 a, .int .i64 r], .bool true]) (by simp [results, Tryd.results31, go_sem]) rfl ⟨rfl, by repeat (first | exact Gr.refl _ | apply Gr.alloc | apply Gr.drew)⟩
end Go.Proofs.YtgjojdlbighoaaaDoor
