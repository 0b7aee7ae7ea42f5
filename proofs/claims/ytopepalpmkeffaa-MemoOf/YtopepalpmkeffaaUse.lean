/- The contract of Use; the key may be, and there are at most seventy thousand. -/
import Derived.Test.YtopepalpmkeffaaPub
namespace Go.Proofs.Ytopepalpmkeffaa
open Go.RowKit Go.Sort Go.Maps Go.ChangeMaps Go.WideMaps
set_option linter.unusedVariables false
set_option linter.unusedSimpArgs false
theorem ch_comp {w w1 w2 : World} {o : Nat} {F F1 : List Nat} {most : Int} {zs : List K} (a2 : Touch F w w1) (a3 : Nf w F F1) (h : Ch w1 o F1 most zs w2) : Ch w o F most zs w2 := by
  obtain ⟨F2, b1, b2, b3⟩ := h
  exact ⟨F2, b1, a2.trans b2 a3, a3.trans b3 a2.size⟩
set_option maxHeartbeats 4000000 in
theorem use11_yf (w : World) (o : Nat) (F : List Nat) (most : Int) (xs ys : List K) (k : K) (hk : Ok k) (h64 : k.2.size ≤ 64) (hl : xs.length ≤ 70000) (hy : ys = dr xs k ++ [k]) (hn : k ∈ xs) (hf : (ys.length : Int) ≤ most) (h : Oq w o F most xs) :
    Calls Try.prog 61 #[PT o, kv k] w fun e w' => e = .returned (.tuple #[kv kz, .bool false, .int .i64 0]) ∧ Ch w o F most ys w' := by
  have hF := hid h.lt
  obtain ⟨V, hV⟩ : ∃ V, V = (w.alloc (bx k)).alloc (bx kz) := ⟨_, rfl⟩
  have TV : Touch [] w V := by rw [hV]; exact ((Touch.refl _ _).alloc _).alloc _
  have B0 : V.heap[w.heap.size]? = some (bx k) := by rw [hV]; exact (Below.heap_alloc _ _ _ (by simp)).trans (heap_alloc_new w _)
  have B1 : V.heap[w.heap.size + 1]? = some (bx kz) := by
    rw [hV]
    have := heap_alloc_new (w.alloc (bx k)) (bx kz)
    rwa [World.size_alloc] at this
  have hz : w.heap.size + 1 < V.heap.size := by rw [hV]; simp
  have HC := hid (check29_ok V k h64)
  have hlen : ys.length < 100000 := by
    have := List.length_filter_le (fun x => decide (x ≠ k)) xs
    rw [hy]
    unfold dr
    simp only [List.length_append, List.length_singleton]
    omega
  have HT : Hid (∀ w2, Touch [] V w2 → Calls Try.prog 51 #[PT o, kv k] w2 fun x w' => x = .returned (.bool true) ∧ Ch w2 o F most ys w') := fun w2 t => by
    rw [hy]
    exact touchO_yes w2 o F most xs k hn (h.keep0 (TV.trans' t))
  have HL : Hid (∀ w2 w3, Ch w2 o F most ys w3 → Calls Try.prog 72 #[PT o] w3 fun x w' => x = .returned (.int .i64 ys.length) ∧ w' = w3) := fun w2 w3 c => by
    obtain ⟨F', c1, _⟩ := c
    exact lenO w3 o F' most _ c1
  have HM : Hid (∀ w2 w3, Ch w2 o F most ys w3 → w3.cell? ⟨o, 0, none⟩ = some (.int .i64 most)) := fun w2 w3 c => by
    obtain ⟨F', c1, _⟩ := c
    exact c1.c0
  have HB : Hid (∀ w2 w3 ys, Touch [] V w2 → Ch w2 o F most ys w3 → w3.heap[w.heap.size]? = some (bx k) ∧ w3.heap[w.heap.size + 1]? = some (bx kz)) := fun w2 w3 ys t c => by
    refine ⟨c.block (t.keep B0 (by simp)) (fun hh => ?_), c.block (t.keep B1 (by simp)) (fun hh => ?_)⟩
    · have := hF.out _ hh; omega
    · have := hF.out _ hh; omega
  have HK : Hid (∀ w2, Touch [] V w2 → w2.cell? ⟨w.heap.size, 0, none⟩ = some (.int .u16 k.1) ∧ w2.cell? ⟨w.heap.size, 1, none⟩ = some (.string k.2)) := fun w2 t => by
    have h1 := t.keep B0 (by simp)
    unfold bx at h1
    simp [World.cell?, h1]
  have HZ : Hid (∀ w2 w3, Touch [] V w2 → Ch w2 o F most ys w3 → (w3.cell? ⟨w.heap.size + 1, 0, none⟩ = some (.int .u16 0) ∧ w3.cell? ⟨w.heap.size + 1, 1, none⟩ = some (.string ⟨#[]⟩) ∧ w3.frozen? ⟨w.heap.size + 1, 0, none⟩ = false ∧ w3.frozen? ⟨w.heap.size + 1, 1, none⟩ = false) ∧ Ch w o F most ys ((w3.setCell ⟨w.heap.size + 1, 0, none⟩ (.int .u16 kz.1)).setCell ⟨w.heap.size + 1, 1, none⟩ (.string kz.2))) := fun w2 w3 t c => by
    have h1 := (HB.out w2 w3 _ t c).2
    unfold bx at h1
    refine ⟨⟨by simp [World.cell?, h1, kz], by simp [World.cell?, h1, kz], by simp [World.frozen?, h1], by simp [World.frozen?, h1]⟩, ?_⟩
    refine c.own (r := w.heap.size + 1) (((Touch.refl _ _).setCell (by simp) _).setCell (by simp) _) w (TV.trans' t) (by omega) (by have := t.size; omega) hF.out
  have TR : Hid (Touch [] V V) := Touch.refl _ _
  have hlI : (ys.length : Int) < 100000 := by omega
  clear h hk h64 hl hlen TV B0 B1 hz hF hy hn
  generalize (ys.length : Int) = n at *
  subst hV
  unfold PT kv at *
  unfold bx at *
  unfold kz at *
  go_enter Try.func61, Try.ntmps61
  go_wp2_with (first
    | (go_at_call 49; refine HC.out.mono ?_; rintro x w2 ⟨rfl, t2⟩; obtain ⟨b0, b1⟩ := HK.out w2 t2; have T2 := hid t2; clear t2)
    | (go_at_call 51; refine (HT.out _ T2.out).mono ?_; rintro x w3 ⟨rfl, c3⟩; have C3 := hid c3; have m0 := HM.out _ _ c3; clear c3 b0 b1))
  go_quiet ((go_at_call 72; exact Calls.quiet_of_same (HL.out _ _ (C3.out.keep0 ((Touch.refl _ _).drewN _)))))
  have C4 := hid (C3.out.keep0 ((Touch.refl [] w3).drewN nq))
  obtain ⟨⟨z0, z1, z2, z3⟩, r⟩ := HZ.out _ _ T2.out C4.out
  have R := hid r
  clear r
  go_wp2
  exact bodyPost_ret (v := .tuple #[.agg #[.int .u16 0, .string ⟨#[]⟩], .bool false, .int .i64 0]) (by simp [results, Try.results61, go_sem, z0, z1]) rfl ⟨rfl, R.out⟩
set_option maxHeartbeats 4000000 in
theorem use11_yo (w : World) (o : Nat) (F : List Nat) (most : Int) (xs ys : List K) (k : K) (hk : Ok k) (h64 : k.2.size ≤ 64) (hl : xs.length ≤ 70000) (hy : ys = dr xs k ++ [k]) (hn : k ∈ xs) (hf : most < (ys.length : Int)) (g : K) (zs : List K) (hg : ys = g :: zs) (h : Oq w o F most xs) :
    Calls Try.prog 61 #[PT o, kv k] w fun e w' => e = .returned (.tuple #[kv g, .bool true, .int .i64 0]) ∧ Ch w o F most zs w' := by
  have hF := hid h.lt
  obtain ⟨V, hV⟩ : ∃ V, V = (w.alloc (bx k)).alloc (bx kz) := ⟨_, rfl⟩
  have TV : Touch [] w V := by rw [hV]; exact ((Touch.refl _ _).alloc _).alloc _
  have B0 : V.heap[w.heap.size]? = some (bx k) := by rw [hV]; exact (Below.heap_alloc _ _ _ (by simp)).trans (heap_alloc_new w _)
  have B1 : V.heap[w.heap.size + 1]? = some (bx kz) := by
    rw [hV]
    have := heap_alloc_new (w.alloc (bx k)) (bx kz)
    rwa [World.size_alloc] at this
  have hz : w.heap.size + 1 < V.heap.size := by rw [hV]; simp
  have HC := hid (check29_ok V k h64)
  have hlen : ys.length < 100000 := by
    have := List.length_filter_le (fun x => decide (x ≠ k)) xs
    rw [hy]
    unfold dr
    simp only [List.length_append, List.length_singleton]
    omega
  have HT : Hid (∀ w2, Touch [] V w2 → Calls Try.prog 51 #[PT o, kv k] w2 fun x w' => x = .returned (.bool true) ∧ Ch w2 o F most ys w') := fun w2 t => by
    rw [hy]
    exact touchO_yes w2 o F most xs k hn (h.keep0 (TV.trans' t))
  have HL : Hid (∀ w2 w3, Ch w2 o F most ys w3 → Calls Try.prog 72 #[PT o] w3 fun x w' => x = .returned (.int .i64 ys.length) ∧ w' = w3) := fun w2 w3 c => by
    obtain ⟨F', c1, _⟩ := c
    exact lenO w3 o F' most _ c1
  have HM : Hid (∀ w2 w3, Ch w2 o F most ys w3 → w3.cell? ⟨o, 0, none⟩ = some (.int .i64 most)) := fun w2 w3 c => by
    obtain ⟨F', c1, _⟩ := c
    exact c1.c0
  have HV : Hid (∀ w2 w3, Ch w2 o F most ys w3 → Calls Try.prog 73 #[PT o] w3 fun x w' => x = .returned (kv g) ∧ Ch w2 o F most zs w') := fun w2 w3 c => by
    obtain ⟨F', c1, a2, a3⟩ := c
    rw [hg] at c1 hlen
    refine (leaveO w3 o F' most g zs (by simp at hlen; omega) c1).mono ?_
    rintro x w' ⟨rfl, c2⟩
    exact ⟨rfl, ch_comp a2 a3 c2⟩
  have HB : Hid (∀ w2 w3 ys, Touch [] V w2 → Ch w2 o F most ys w3 → w3.heap[w.heap.size]? = some (bx k) ∧ w3.heap[w.heap.size + 1]? = some (bx kz)) := fun w2 w3 ys t c => by
    refine ⟨c.block (t.keep B0 (by simp)) (fun hh => ?_), c.block (t.keep B1 (by simp)) (fun hh => ?_)⟩
    · have := hF.out _ hh; omega
    · have := hF.out _ hh; omega
  have HK : Hid (∀ w2, Touch [] V w2 → w2.cell? ⟨w.heap.size, 0, none⟩ = some (.int .u16 k.1) ∧ w2.cell? ⟨w.heap.size, 1, none⟩ = some (.string k.2)) := fun w2 t => by
    have h1 := t.keep B0 (by simp)
    unfold bx at h1
    simp [World.cell?, h1]
  have HZ : Hid (∀ w2 w3, Touch [] V w2 → Ch w2 o F most zs w3 → (w3.cell? ⟨w.heap.size + 1, 0, none⟩ = some (.int .u16 0) ∧ w3.cell? ⟨w.heap.size + 1, 1, none⟩ = some (.string ⟨#[]⟩) ∧ w3.frozen? ⟨w.heap.size + 1, 0, none⟩ = false ∧ w3.frozen? ⟨w.heap.size + 1, 1, none⟩ = false) ∧ Ch w o F most zs ((w3.setCell ⟨w.heap.size + 1, 0, none⟩ (.int .u16 g.1)).setCell ⟨w.heap.size + 1, 1, none⟩ (.string g.2))) := fun w2 w3 t c => by
    have h1 := (HB.out w2 w3 _ t c).2
    unfold bx at h1
    refine ⟨⟨by simp [World.cell?, h1, kz], by simp [World.cell?, h1, kz], by simp [World.frozen?, h1], by simp [World.frozen?, h1]⟩, ?_⟩
    refine c.own (r := w.heap.size + 1) (((Touch.refl _ _).setCell (by simp) _).setCell (by simp) _) w (TV.trans' t) (by omega) (by have := t.size; omega) hF.out
  have TR : Hid (Touch [] V V) := Touch.refl _ _
  have hlI : (ys.length : Int) < 100000 := by omega
  clear h hk h64 hl hlen TV B0 B1 hz hF hy hn
  generalize (ys.length : Int) = n at *
  subst hV
  unfold PT kv at *
  unfold bx at *
  unfold kz at *
  go_enter Try.func61, Try.ntmps61
  go_wp2_with (first
    | (go_at_call 49; refine HC.out.mono ?_; rintro x w2 ⟨rfl, t2⟩; obtain ⟨b0, b1⟩ := HK.out w2 t2; have T2 := hid t2; clear t2)
    | (go_at_call 51; refine (HT.out _ T2.out).mono ?_; rintro x w3 ⟨rfl, c3⟩; have C3 := hid c3; have m0 := HM.out _ _ c3; clear c3 b0 b1))
  go_quiet ((go_at_call 72; exact Calls.quiet_of_same (HL.out _ _ (C3.out.keep0 ((Touch.refl _ _).drewN _)))))
  have C4 := hid (C3.out.keep0 ((Touch.refl [] w3).drewN nq))
  go_wp2_with (go_at_call 73; refine (HV.out _ _ C4.out).mono ?_; rintro x w5 ⟨rfl, c5⟩; obtain ⟨⟨z0, z1, z2, z3⟩, r⟩ := HZ.out _ _ T2.out c5; have R := hid r; clear r c5)
  exact bodyPost_ret (v := .tuple #[.agg #[.int .u16 g.1, .string g.2], .bool true, .int .i64 0]) (by simp [results, Try.results61, go_sem, z0, z1]) rfl ⟨rfl, R.out⟩
set_option maxHeartbeats 4000000 in
theorem use11_nf (w : World) (o : Nat) (F : List Nat) (most : Int) (xs ys : List K) (k : K) (hk : Ok k) (h64 : k.2.size ≤ 64) (hl : xs.length ≤ 70000) (hy : ys = dr xs k ++ [k]) (hn : ¬ k ∈ xs) (hf : (ys.length : Int) ≤ most) (h : Oq w o F most xs) :
    Calls Try.prog 61 #[PT o, kv k] w fun e w' => e = .returned (.tuple #[kv kz, .bool false, .int .i64 0]) ∧ Ch w o F most ys w' := by
  have hF := hid h.lt
  obtain ⟨V, hV⟩ : ∃ V, V = (w.alloc (bx k)).alloc (bx kz) := ⟨_, rfl⟩
  have TV : Touch [] w V := by rw [hV]; exact ((Touch.refl _ _).alloc _).alloc _
  have B0 : V.heap[w.heap.size]? = some (bx k) := by rw [hV]; exact (Below.heap_alloc _ _ _ (by simp)).trans (heap_alloc_new w _)
  have B1 : V.heap[w.heap.size + 1]? = some (bx kz) := by
    rw [hV]
    have := heap_alloc_new (w.alloc (bx k)) (bx kz)
    rwa [World.size_alloc] at this
  have hz : w.heap.size + 1 < V.heap.size := by rw [hV]; simp
  have HC := hid (check29_ok V k h64)
  have hlen : ys.length < 100000 := by
    have := List.length_filter_le (fun x => decide (x ≠ k)) xs
    rw [hy]
    unfold dr
    simp only [List.length_append, List.length_singleton]
    omega
  have HT : Hid (∀ w2, Touch [] V w2 → Calls Try.prog 51 #[PT o, kv k] w2 fun x w' => x = .returned (.bool false) ∧ Touch [] w2 w') := fun w2 t => touchO_no w2 o F most xs k hk hn (h.keep0 (TV.trans' t))
  have HE : Hid (∀ w2, Touch [] V w2 → Calls Try.prog 70 #[PT o, kv k] w2 fun x w' => x = .returned (.tuple #[]) ∧ Ch w2 o F most ys w') := fun w2 t => by
    rw [hy, dr_no hn]
    exact enterO w2 o F most xs k hk hn (by omega) (h.keep0 (TV.trans' t))
  have HL : Hid (∀ w2 w3, Ch w2 o F most ys w3 → Calls Try.prog 72 #[PT o] w3 fun x w' => x = .returned (.int .i64 ys.length) ∧ w' = w3) := fun w2 w3 c => by
    obtain ⟨F', c1, _⟩ := c
    exact lenO w3 o F' most _ c1
  have HM : Hid (∀ w2 w3, Ch w2 o F most ys w3 → w3.cell? ⟨o, 0, none⟩ = some (.int .i64 most)) := fun w2 w3 c => by
    obtain ⟨F', c1, _⟩ := c
    exact c1.c0
  have HB : Hid (∀ w2 w3 ys, Touch [] V w2 → Ch w2 o F most ys w3 → w3.heap[w.heap.size]? = some (bx k) ∧ w3.heap[w.heap.size + 1]? = some (bx kz)) := fun w2 w3 ys t c => by
    refine ⟨c.block (t.keep B0 (by simp)) (fun hh => ?_), c.block (t.keep B1 (by simp)) (fun hh => ?_)⟩
    · have := hF.out _ hh; omega
    · have := hF.out _ hh; omega
  have HK : Hid (∀ w2, Touch [] V w2 → w2.cell? ⟨w.heap.size, 0, none⟩ = some (.int .u16 k.1) ∧ w2.cell? ⟨w.heap.size, 1, none⟩ = some (.string k.2)) := fun w2 t => by
    have h1 := t.keep B0 (by simp)
    unfold bx at h1
    simp [World.cell?, h1]
  have HZ : Hid (∀ w2 w3, Touch [] V w2 → Ch w2 o F most ys w3 → (w3.cell? ⟨w.heap.size + 1, 0, none⟩ = some (.int .u16 0) ∧ w3.cell? ⟨w.heap.size + 1, 1, none⟩ = some (.string ⟨#[]⟩) ∧ w3.frozen? ⟨w.heap.size + 1, 0, none⟩ = false ∧ w3.frozen? ⟨w.heap.size + 1, 1, none⟩ = false) ∧ Ch w o F most ys ((w3.setCell ⟨w.heap.size + 1, 0, none⟩ (.int .u16 kz.1)).setCell ⟨w.heap.size + 1, 1, none⟩ (.string kz.2))) := fun w2 w3 t c => by
    have h1 := (HB.out w2 w3 _ t c).2
    unfold bx at h1
    refine ⟨⟨by simp [World.cell?, h1, kz], by simp [World.cell?, h1, kz], by simp [World.frozen?, h1], by simp [World.frozen?, h1]⟩, ?_⟩
    refine c.own (r := w.heap.size + 1) (((Touch.refl _ _).setCell (by simp) _).setCell (by simp) _) w (TV.trans' t) (by omega) (by have := t.size; omega) hF.out
  have TR : Hid (Touch [] V V) := Touch.refl _ _
  have hlI : (ys.length : Int) < 100000 := by omega
  clear h hk h64 hl hlen TV B0 B1 hz hF hy hn
  generalize (ys.length : Int) = n at *
  subst hV
  unfold PT kv at *
  unfold bx at *
  unfold kz at *
  go_enter Try.func61, Try.ntmps61
  go_wp2_with (first
    | (go_at_call 49; refine HC.out.mono ?_; rintro x w2 ⟨rfl, t2⟩; obtain ⟨b0, b1⟩ := HK.out w2 t2; have T2 := hid t2; clear t2)
    | (go_at_call 51; refine (HT.out _ T2.out).mono ?_; rintro x w4 ⟨rfl, t4⟩; have T4 := hid (T2.out.trans' t4); clear t4 b0 b1; obtain ⟨b0, b1⟩ := HK.out w4 T4.out)
    | (go_at_call 70; refine (HE.out _ T4.out).mono ?_; rintro x w3 ⟨rfl, c3⟩; have C3 := hid c3; have m0 := HM.out _ _ c3; clear c3 b0 b1))
  go_quiet ((go_at_call 72; exact Calls.quiet_of_same (HL.out _ _ (C3.out.keep0 ((Touch.refl _ _).drewN _)))))
  have C4 := hid (C3.out.keep0 ((Touch.refl [] w3).drewN nq))
  obtain ⟨⟨z0, z1, z2, z3⟩, r⟩ := HZ.out _ _ T4.out C4.out
  have R := hid r
  clear r
  go_wp2
  exact bodyPost_ret (v := .tuple #[.agg #[.int .u16 0, .string ⟨#[]⟩], .bool false, .int .i64 0]) (by simp [results, Try.results61, go_sem, z0, z1]) rfl ⟨rfl, R.out⟩
set_option maxHeartbeats 4000000 in
theorem use11_no (w : World) (o : Nat) (F : List Nat) (most : Int) (xs ys : List K) (k : K) (hk : Ok k) (h64 : k.2.size ≤ 64) (hl : xs.length ≤ 70000) (hy : ys = dr xs k ++ [k]) (hn : ¬ k ∈ xs) (hf : most < (ys.length : Int)) (g : K) (zs : List K) (hg : ys = g :: zs) (h : Oq w o F most xs) :
    Calls Try.prog 61 #[PT o, kv k] w fun e w' => e = .returned (.tuple #[kv g, .bool true, .int .i64 0]) ∧ Ch w o F most zs w' := by
  have hF := hid h.lt
  obtain ⟨V, hV⟩ : ∃ V, V = (w.alloc (bx k)).alloc (bx kz) := ⟨_, rfl⟩
  have TV : Touch [] w V := by rw [hV]; exact ((Touch.refl _ _).alloc _).alloc _
  have B0 : V.heap[w.heap.size]? = some (bx k) := by rw [hV]; exact (Below.heap_alloc _ _ _ (by simp)).trans (heap_alloc_new w _)
  have B1 : V.heap[w.heap.size + 1]? = some (bx kz) := by
    rw [hV]
    have := heap_alloc_new (w.alloc (bx k)) (bx kz)
    rwa [World.size_alloc] at this
  have hz : w.heap.size + 1 < V.heap.size := by rw [hV]; simp
  have HC := hid (check29_ok V k h64)
  have hlen : ys.length < 100000 := by
    have := List.length_filter_le (fun x => decide (x ≠ k)) xs
    rw [hy]
    unfold dr
    simp only [List.length_append, List.length_singleton]
    omega
  have HT : Hid (∀ w2, Touch [] V w2 → Calls Try.prog 51 #[PT o, kv k] w2 fun x w' => x = .returned (.bool false) ∧ Touch [] w2 w') := fun w2 t => touchO_no w2 o F most xs k hk hn (h.keep0 (TV.trans' t))
  have HE : Hid (∀ w2, Touch [] V w2 → Calls Try.prog 70 #[PT o, kv k] w2 fun x w' => x = .returned (.tuple #[]) ∧ Ch w2 o F most ys w') := fun w2 t => by
    rw [hy, dr_no hn]
    exact enterO w2 o F most xs k hk hn (by omega) (h.keep0 (TV.trans' t))
  have HL : Hid (∀ w2 w3, Ch w2 o F most ys w3 → Calls Try.prog 72 #[PT o] w3 fun x w' => x = .returned (.int .i64 ys.length) ∧ w' = w3) := fun w2 w3 c => by
    obtain ⟨F', c1, _⟩ := c
    exact lenO w3 o F' most _ c1
  have HM : Hid (∀ w2 w3, Ch w2 o F most ys w3 → w3.cell? ⟨o, 0, none⟩ = some (.int .i64 most)) := fun w2 w3 c => by
    obtain ⟨F', c1, _⟩ := c
    exact c1.c0
  have HV : Hid (∀ w2 w3, Ch w2 o F most ys w3 → Calls Try.prog 73 #[PT o] w3 fun x w' => x = .returned (kv g) ∧ Ch w2 o F most zs w') := fun w2 w3 c => by
    obtain ⟨F', c1, a2, a3⟩ := c
    rw [hg] at c1 hlen
    refine (leaveO w3 o F' most g zs (by simp at hlen; omega) c1).mono ?_
    rintro x w' ⟨rfl, c2⟩
    exact ⟨rfl, ch_comp a2 a3 c2⟩
  have HB : Hid (∀ w2 w3 ys, Touch [] V w2 → Ch w2 o F most ys w3 → w3.heap[w.heap.size]? = some (bx k) ∧ w3.heap[w.heap.size + 1]? = some (bx kz)) := fun w2 w3 ys t c => by
    refine ⟨c.block (t.keep B0 (by simp)) (fun hh => ?_), c.block (t.keep B1 (by simp)) (fun hh => ?_)⟩
    · have := hF.out _ hh; omega
    · have := hF.out _ hh; omega
  have HK : Hid (∀ w2, Touch [] V w2 → w2.cell? ⟨w.heap.size, 0, none⟩ = some (.int .u16 k.1) ∧ w2.cell? ⟨w.heap.size, 1, none⟩ = some (.string k.2)) := fun w2 t => by
    have h1 := t.keep B0 (by simp)
    unfold bx at h1
    simp [World.cell?, h1]
  have HZ : Hid (∀ w2 w3, Touch [] V w2 → Ch w2 o F most zs w3 → (w3.cell? ⟨w.heap.size + 1, 0, none⟩ = some (.int .u16 0) ∧ w3.cell? ⟨w.heap.size + 1, 1, none⟩ = some (.string ⟨#[]⟩) ∧ w3.frozen? ⟨w.heap.size + 1, 0, none⟩ = false ∧ w3.frozen? ⟨w.heap.size + 1, 1, none⟩ = false) ∧ Ch w o F most zs ((w3.setCell ⟨w.heap.size + 1, 0, none⟩ (.int .u16 g.1)).setCell ⟨w.heap.size + 1, 1, none⟩ (.string g.2))) := fun w2 w3 t c => by
    have h1 := (HB.out w2 w3 _ t c).2
    unfold bx at h1
    refine ⟨⟨by simp [World.cell?, h1, kz], by simp [World.cell?, h1, kz], by simp [World.frozen?, h1], by simp [World.frozen?, h1]⟩, ?_⟩
    refine c.own (r := w.heap.size + 1) (((Touch.refl _ _).setCell (by simp) _).setCell (by simp) _) w (TV.trans' t) (by omega) (by have := t.size; omega) hF.out
  have TR : Hid (Touch [] V V) := Touch.refl _ _
  have hlI : (ys.length : Int) < 100000 := by omega
  clear h hk h64 hl hlen TV B0 B1 hz hF hy hn
  generalize (ys.length : Int) = n at *
  subst hV
  unfold PT kv at *
  unfold bx at *
  unfold kz at *
  go_enter Try.func61, Try.ntmps61
  go_wp2_with (first
    | (go_at_call 49; refine HC.out.mono ?_; rintro x w2 ⟨rfl, t2⟩; obtain ⟨b0, b1⟩ := HK.out w2 t2; have T2 := hid t2; clear t2)
    | (go_at_call 51; refine (HT.out _ T2.out).mono ?_; rintro x w4 ⟨rfl, t4⟩; have T4 := hid (T2.out.trans' t4); clear t4 b0 b1; obtain ⟨b0, b1⟩ := HK.out w4 T4.out)
    | (go_at_call 70; refine (HE.out _ T4.out).mono ?_; rintro x w3 ⟨rfl, c3⟩; have C3 := hid c3; have m0 := HM.out _ _ c3; clear c3 b0 b1))
  go_quiet ((go_at_call 72; exact Calls.quiet_of_same (HL.out _ _ (C3.out.keep0 ((Touch.refl _ _).drewN _)))))
  have C4 := hid (C3.out.keep0 ((Touch.refl [] w3).drewN nq))
  go_wp2_with (go_at_call 73; refine (HV.out _ _ C4.out).mono ?_; rintro x w5 ⟨rfl, c5⟩; obtain ⟨⟨z0, z1, z2, z3⟩, r⟩ := HZ.out _ _ T4.out c5; have R := hid r; clear r c5)
  exact bodyPost_ret (v := .tuple #[.agg #[.int .u16 g.1, .string g.2], .bool true, .int .i64 0]) (by simp [results, Try.results61, go_sem, z0, z1]) rfl ⟨rfl, R.out⟩
end Go.Proofs.Ytopepalpmkeffaa
