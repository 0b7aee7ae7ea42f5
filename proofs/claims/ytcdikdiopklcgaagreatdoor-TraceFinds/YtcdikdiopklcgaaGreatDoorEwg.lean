/- The places of events of some kinds, of a run, a key, a client, of some ticks; the conditions are that each states. -/
import Derived.Test.YtcdikdiopklcgaaGreatDoorEwf
namespace Go.Proofs.YtcdikdiopklcgaaGreatDoor.Tr
open Go.RowKit Go.Sort Go.Shelf Go.Maps Go.ChangeMaps
set_option linter.unusedVariables false
set_option linter.unusedSimpArgs false
/-- the answer of a look for places -/
def WhQ (P : Ez → Bool) (L : List Ez) (r : Ending) (w w' : World) : Prop := ∃ u, r = .returned u ∧ w'.ownsRow w.heap.size 3 1 u (plc P L).length (ints (plc P L)) ∧ Touch [] w w'
theorem WhQ.up {P : Ez → Bool} {L : List Ez} {r : Ending} {w w1 w' : World} (h : WhQ P L r w1 w') (t : Touch [] w w1) : WhQ P L r w w' := by
  obtain ⟨u, h1, h2, h3⟩ := h
  exact ⟨u, h1, own_base h2 t.size, t.trans' h3⟩
set_option maxHeartbeats 1000000 in
theorem where_run {w : World} {B b : Nat} {v : Value} {L : List Ez} (h : Tq w B b v L) (x0 : Value) (P : Ez → Bool) (hF : ∀ e, e ∈ L → ∀ w', Touch [] w w' → Calls Tryz.prog 26 #[e.val, x0] w' fun r w'' => r = .returned (.bool (P e)) ∧ Touch [] w' w'') :
    Calls Tryz.prog 24 #[PT b, .func (.func 26) #[] #[x0]] w fun r w' => WhQ P L r w w' := by
  have hmf := makef Tryz.prog
  obtain ⟨W0, hW⟩ : ∃ W0, W0 = w.alloc (.cells #[.func (.func 26) #[] #[x0]] 70) := ⟨_, rfl⟩
  have tW : Touch [] w W0 := by rw [hW]; exact (Touch.refl [] w).alloc _
  have hs : W0.heap.size = w.heap.size + 1 := by rw [hW]; simp
  have hkf : W0.cell? ⟨w.heap.size, 0, none⟩ = some (.func (.func 26) #[] #[x0]) := by rw [hW]; simp
  have HE : Hid (Calls Tryz.prog 31 #[PT b, .func (.func 44) #[] #[PT w.heap.size, PT (w.heap.size + 1)]] (W0.alloc (.cells #[.slice none 0 0] 23)) fun r w' => r = .returned (.tuple #[]) ∧ Cj W0 (w.heap.size + 1) 23 3 1 (plc P L).length (ints (plc P L)) w') := by
    have h0 := Cj.new W0 23 3 1
    rw [hs] at h0
    refine each_where (PT w.heap.size) (PT (w.heap.size + 1)) (fun i w' => Cj W0 (w.heap.size + 1) 23 3 1 (plc P (L.take i)).length (ints (plc P (L.take i))) w') _ (B := B) (b := b) (v := v) (L := L) h0 (fun i w' hj => (h.touch0 tW).touch0 hj.t) (fun i w' o hj => hj.touch ((Touch.refl [] w').alloc o)) (fun i e w' he hj => ?_) (fun w' hj => by rw [List.take_length] at hj; exact hj)
    have hl : (plc P (L.take i)).length ≤ 1048576 := Nat.le_trans (plc_len _ _) (by have := h.le; rw [List.length_take]; omega)
    refine (where1_run x0 (P e) hj hl hkf e (fun w2 t2 => hF e (List.mem_of_getElem? he) w2 (tW.trans' t2)) i).mono fun r w2 hq => Or.inl ⟨hq.1, ?_⟩
    have h2 := hq.2
    have e1 := plc_take P L i e he
    rw [e1, List.length_append]
    cases hP : P e with
    | false => rw [hP] at h2; simpa using h2
    | true => rw [hP] at h2; simpa [ints] using h2
  have HT := hid tW
  unfold PT at *
  clear h hF hkf tW
  go_enter Tryz.func24, Tryz.ntmps24
  go_wp2_with fail
  rw [← hW]
  clear hW hs
  refine Calls.mono HE.out ?_
  rintro r w1 ⟨rfl, h1⟩
  obtain ⟨u, hu, ho⟩ := h1.bx
  have u0 := cell_at hu (j := 0) rfl
  have H1 : Hid (WhQ P L (.returned u) w w1) := ⟨u, rfl, own_base ho HT.out.size, HT.out.trans' h1.t⟩
  clear h1 hu ho HE
  go_wp2_with fail
  go_ret
  exact H1.out
set_option maxHeartbeats 1000000 in
theorem where_cl {w : World} {B b : Nat} {v : Value} {L : List Ez} (h : Tq w B b v L) (x0 : Value) (P : Ez → Bool) (hF : ∀ e, e ∈ L → ∀ w', Touch [] w w' → Calls Tryz.prog 29 #[e.val, x0] w' fun r w'' => r = .returned (.bool (P e)) ∧ Touch [] w' w'') :
    Calls Tryz.prog 24 #[PT b, .func (.func 29) #[] #[x0]] w fun r w' => WhQ P L r w w' := by
  have hmf := makef Tryz.prog
  obtain ⟨W0, hW⟩ : ∃ W0, W0 = w.alloc (.cells #[.func (.func 29) #[] #[x0]] 70) := ⟨_, rfl⟩
  have tW : Touch [] w W0 := by rw [hW]; exact (Touch.refl [] w).alloc _
  have hs : W0.heap.size = w.heap.size + 1 := by rw [hW]; simp
  have hkf : W0.cell? ⟨w.heap.size, 0, none⟩ = some (.func (.func 29) #[] #[x0]) := by rw [hW]; simp
  have HE : Hid (Calls Tryz.prog 31 #[PT b, .func (.func 44) #[] #[PT w.heap.size, PT (w.heap.size + 1)]] (W0.alloc (.cells #[.slice none 0 0] 23)) fun r w' => r = .returned (.tuple #[]) ∧ Cj W0 (w.heap.size + 1) 23 3 1 (plc P L).length (ints (plc P L)) w') := by
    have h0 := Cj.new W0 23 3 1
    rw [hs] at h0
    refine each_where (PT w.heap.size) (PT (w.heap.size + 1)) (fun i w' => Cj W0 (w.heap.size + 1) 23 3 1 (plc P (L.take i)).length (ints (plc P (L.take i))) w') _ (B := B) (b := b) (v := v) (L := L) h0 (fun i w' hj => (h.touch0 tW).touch0 hj.t) (fun i w' o hj => hj.touch ((Touch.refl [] w').alloc o)) (fun i e w' he hj => ?_) (fun w' hj => by rw [List.take_length] at hj; exact hj)
    have hl : (plc P (L.take i)).length ≤ 1048576 := Nat.le_trans (plc_len _ _) (by have := h.le; rw [List.length_take]; omega)
    refine (where1_cl x0 (P e) hj hl hkf e (fun w2 t2 => hF e (List.mem_of_getElem? he) w2 (tW.trans' t2)) i).mono fun r w2 hq => Or.inl ⟨hq.1, ?_⟩
    have h2 := hq.2
    have e1 := plc_take P L i e he
    rw [e1, List.length_append]
    cases hP : P e with
    | false => rw [hP] at h2; simpa using h2
    | true => rw [hP] at h2; simpa [ints] using h2
  have HT := hid tW
  unfold PT at *
  clear h hF hkf tW
  go_enter Tryz.func24, Tryz.ntmps24
  go_wp2_with fail
  rw [← hW]
  clear hW hs
  refine Calls.mono HE.out ?_
  rintro r w1 ⟨rfl, h1⟩
  obtain ⟨u, hu, ho⟩ := h1.bx
  have u0 := cell_at hu (j := 0) rfl
  have H1 : Hid (WhQ P L (.returned u) w w1) := ⟨u, rfl, own_base ho HT.out.size, HT.out.trans' h1.t⟩
  clear h1 hu ho HE
  go_wp2_with fail
  go_ret
  exact H1.out
set_option maxHeartbeats 1000000 in
theorem where_key {w : World} {B b : Nat} {v : Value} {L : List Ez} (h : Tq w B b v L) (x0 : Value) (P : Ez → Bool) (hF : ∀ e, e ∈ L → ∀ w', Touch [] w w' → Calls Tryz.prog 27 #[e.val, x0] w' fun r w'' => r = .returned (.bool (P e)) ∧ Touch [] w' w'') :
    Calls Tryz.prog 24 #[PT b, .func (.func 27) #[] #[x0]] w fun r w' => WhQ P L r w w' := by
  have hmf := makef Tryz.prog
  obtain ⟨W0, hW⟩ : ∃ W0, W0 = w.alloc (.cells #[.func (.func 27) #[] #[x0]] 70) := ⟨_, rfl⟩
  have tW : Touch [] w W0 := by rw [hW]; exact (Touch.refl [] w).alloc _
  have hs : W0.heap.size = w.heap.size + 1 := by rw [hW]; simp
  have hkf : W0.cell? ⟨w.heap.size, 0, none⟩ = some (.func (.func 27) #[] #[x0]) := by rw [hW]; simp
  have HE : Hid (Calls Tryz.prog 31 #[PT b, .func (.func 44) #[] #[PT w.heap.size, PT (w.heap.size + 1)]] (W0.alloc (.cells #[.slice none 0 0] 23)) fun r w' => r = .returned (.tuple #[]) ∧ Cj W0 (w.heap.size + 1) 23 3 1 (plc P L).length (ints (plc P L)) w') := by
    have h0 := Cj.new W0 23 3 1
    rw [hs] at h0
    refine each_where (PT w.heap.size) (PT (w.heap.size + 1)) (fun i w' => Cj W0 (w.heap.size + 1) 23 3 1 (plc P (L.take i)).length (ints (plc P (L.take i))) w') _ (B := B) (b := b) (v := v) (L := L) h0 (fun i w' hj => (h.touch0 tW).touch0 hj.t) (fun i w' o hj => hj.touch ((Touch.refl [] w').alloc o)) (fun i e w' he hj => ?_) (fun w' hj => by rw [List.take_length] at hj; exact hj)
    have hl : (plc P (L.take i)).length ≤ 1048576 := Nat.le_trans (plc_len _ _) (by have := h.le; rw [List.length_take]; omega)
    refine (where1_key x0 (P e) hj hl hkf e (fun w2 t2 => hF e (List.mem_of_getElem? he) w2 (tW.trans' t2)) i).mono fun r w2 hq => Or.inl ⟨hq.1, ?_⟩
    have h2 := hq.2
    have e1 := plc_take P L i e he
    rw [e1, List.length_append]
    cases hP : P e with
    | false => rw [hP] at h2; simpa using h2
    | true => rw [hP] at h2; simpa [ints] using h2
  have HT := hid tW
  unfold PT at *
  clear h hF hkf tW
  go_enter Tryz.func24, Tryz.ntmps24
  go_wp2_with fail
  rw [← hW]
  clear hW hs
  refine Calls.mono HE.out ?_
  rintro r w1 ⟨rfl, h1⟩
  obtain ⟨u, hu, ho⟩ := h1.bx
  have u0 := cell_at hu (j := 0) rfl
  have H1 : Hid (WhQ P L (.returned u) w w1) := ⟨u, rfl, own_base ho HT.out.size, HT.out.trans' h1.t⟩
  clear h1 hu ho HE
  go_wp2_with fail
  go_ret
  exact H1.out
set_option maxHeartbeats 1000000 in
theorem where_bet {w : World} {B b : Nat} {v : Value} {L : List Ez} (h : Tq w B b v L) (x0 x1 : Value) (P : Ez → Bool) (hF : ∀ e, e ∈ L → ∀ w', Touch [] w w' → Calls Tryz.prog 30 #[e.val, x0, x1] w' fun r w'' => r = .returned (.bool (P e)) ∧ Touch [] w' w'') :
    Calls Tryz.prog 24 #[PT b, .func (.func 30) #[] #[x0, x1]] w fun r w' => WhQ P L r w w' := by
  have hmf := makef Tryz.prog
  obtain ⟨W0, hW⟩ : ∃ W0, W0 = w.alloc (.cells #[.func (.func 30) #[] #[x0, x1]] 70) := ⟨_, rfl⟩
  have tW : Touch [] w W0 := by rw [hW]; exact (Touch.refl [] w).alloc _
  have hs : W0.heap.size = w.heap.size + 1 := by rw [hW]; simp
  have hkf : W0.cell? ⟨w.heap.size, 0, none⟩ = some (.func (.func 30) #[] #[x0, x1]) := by rw [hW]; simp
  have HE : Hid (Calls Tryz.prog 31 #[PT b, .func (.func 44) #[] #[PT w.heap.size, PT (w.heap.size + 1)]] (W0.alloc (.cells #[.slice none 0 0] 23)) fun r w' => r = .returned (.tuple #[]) ∧ Cj W0 (w.heap.size + 1) 23 3 1 (plc P L).length (ints (plc P L)) w') := by
    have h0 := Cj.new W0 23 3 1
    rw [hs] at h0
    refine each_where (PT w.heap.size) (PT (w.heap.size + 1)) (fun i w' => Cj W0 (w.heap.size + 1) 23 3 1 (plc P (L.take i)).length (ints (plc P (L.take i))) w') _ (B := B) (b := b) (v := v) (L := L) h0 (fun i w' hj => (h.touch0 tW).touch0 hj.t) (fun i w' o hj => hj.touch ((Touch.refl [] w').alloc o)) (fun i e w' he hj => ?_) (fun w' hj => by rw [List.take_length] at hj; exact hj)
    have hl : (plc P (L.take i)).length ≤ 1048576 := Nat.le_trans (plc_len _ _) (by have := h.le; rw [List.length_take]; omega)
    refine (where1_bet x0 x1 (P e) hj hl hkf e (fun w2 t2 => hF e (List.mem_of_getElem? he) w2 (tW.trans' t2)) i).mono fun r w2 hq => Or.inl ⟨hq.1, ?_⟩
    have h2 := hq.2
    have e1 := plc_take P L i e he
    rw [e1, List.length_append]
    cases hP : P e with
    | false => rw [hP] at h2; simpa using h2
    | true => rw [hP] at h2; simpa [ints] using h2
  have HT := hid tW
  unfold PT at *
  clear h hF hkf tW
  go_enter Tryz.func24, Tryz.ntmps24
  go_wp2_with fail
  rw [← hW]
  clear hW hs
  refine Calls.mono HE.out ?_
  rintro r w1 ⟨rfl, h1⟩
  obtain ⟨u, hu, ho⟩ := h1.bx
  have u0 := cell_at hu (j := 0) rfl
  have H1 : Hid (WhQ P L (.returned u) w w1) := ⟨u, rfl, own_base ho HT.out.size, HT.out.trans' h1.t⟩
  clear h1 hu ho HE
  go_wp2_with fail
  go_ret
  exact H1.out
set_option maxHeartbeats 1000000 in
theorem where_kind {w : World} {B b : Nat} {v : Value} {L : List Ez} (h : Tq w B b v L) (x0 : Value) (P : Ez → Bool) (hF : ∀ e, e ∈ L → ∀ w', Touch [] w w' → Calls Tryz.prog 25 #[e.val, x0] w' fun r w'' => r = .returned (.bool (P e)) ∧ Touch [] w' w'') :
    Calls Tryz.prog 24 #[PT b, .func (.func 25) #[] #[x0]] w fun r w' => WhQ P L r w w' := by
  have hmf := makef Tryz.prog
  obtain ⟨W0, hW⟩ : ∃ W0, W0 = w.alloc (.cells #[.func (.func 25) #[] #[x0]] 70) := ⟨_, rfl⟩
  have tW : Touch [] w W0 := by rw [hW]; exact (Touch.refl [] w).alloc _
  have hs : W0.heap.size = w.heap.size + 1 := by rw [hW]; simp
  have hkf : W0.cell? ⟨w.heap.size, 0, none⟩ = some (.func (.func 25) #[] #[x0]) := by rw [hW]; simp
  have HE : Hid (Calls Tryz.prog 31 #[PT b, .func (.func 44) #[] #[PT w.heap.size, PT (w.heap.size + 1)]] (W0.alloc (.cells #[.slice none 0 0] 23)) fun r w' => r = .returned (.tuple #[]) ∧ Cj W0 (w.heap.size + 1) 23 3 1 (plc P L).length (ints (plc P L)) w') := by
    have h0 := Cj.new W0 23 3 1
    rw [hs] at h0
    refine each_where (PT w.heap.size) (PT (w.heap.size + 1)) (fun i w' => Cj W0 (w.heap.size + 1) 23 3 1 (plc P (L.take i)).length (ints (plc P (L.take i))) w') _ (B := B) (b := b) (v := v) (L := L) h0 (fun i w' hj => (h.touch0 tW).touch0 hj.t) (fun i w' o hj => hj.touch ((Touch.refl [] w').alloc o)) (fun i e w' he hj => ?_) (fun w' hj => by rw [List.take_length] at hj; exact hj)
    have hl : (plc P (L.take i)).length ≤ 1048576 := Nat.le_trans (plc_len _ _) (by have := h.le; rw [List.length_take]; omega)
    refine (where1_kind x0 (P e) hj hl hkf e (fun w2 t2 => hF e (List.mem_of_getElem? he) w2 (tW.trans' t2)) i).mono fun r w2 hq => Or.inl ⟨hq.1, ?_⟩
    have h2 := hq.2
    have e1 := plc_take P L i e he
    rw [e1, List.length_append]
    cases hP : P e with
    | false => rw [hP] at h2; simpa using h2
    | true => rw [hP] at h2; simpa [ints] using h2
  have HT := hid tW
  unfold PT at *
  clear h hF hkf tW
  go_enter Tryz.func24, Tryz.ntmps24
  go_wp2_with fail
  rw [← hW]
  clear hW hs
  refine Calls.mono HE.out ?_
  rintro r w1 ⟨rfl, h1⟩
  obtain ⟨u, hu, ho⟩ := h1.bx
  have u0 := cell_at hu (j := 0) rfl
  have H1 : Hid (WhQ P L (.returned u) w w1) := ⟨u, rfl, own_base ho HT.out.size, HT.out.trans' h1.t⟩
  clear h1 hu ho HE
  go_wp2_with fail
  go_ret
  exact H1.out
theorem ofRun1_ (kr : Nat) (n : Int) (e : Ez) (w : World) (hr : w.cell? ⟨kr, 0, none⟩ = some (.int .i64 n)) :
    Calls Tryz.prog 26 #[e.val, PT kr] w fun r w' => r = .returned (.bool (decide (n ≠ 0) && decide (e.ru = n))) ∧ Touch [] w w' := by
  have hlt := cell_lt hr
  have hlt' : kr < w.heap.size := hlt
  unfold Ez.val PT
  by_cases h1 : n = 0
  · subst h1
    go_enter Tryz.func26, Tryz.ntmps26
    go_wp2_with fail
    go_ret
    exact ⟨by simp, (Touch.refl [] w).alloc _⟩
  · have h2 : (n != 0) = true := by simp [h1]
    have h3 : Hid (¬ n = 0) := h1
    clear h1
    go_enter Tryz.func26, Tryz.ntmps26
    go_wp2_with fail
    go_ret
    exact ⟨by have h5 := h3.out; by_cases h4 : e.ru = n <;> simp [h4, h5], (Touch.refl [] w).alloc _⟩
theorem ofCl1_ (kr : Nat) (n : Int) (e : Ez) (w : World) (hr : w.cell? ⟨kr, 0, none⟩ = some (.int .i64 n)) :
    Calls Tryz.prog 29 #[e.val, PT kr] w fun r w' => r = .returned (.bool (decide (n ≠ 0) && decide (e.cl = n))) ∧ Touch [] w w' := by
  have hlt := cell_lt hr
  have hlt' : kr < w.heap.size := hlt
  unfold Ez.val PT
  by_cases h1 : n = 0
  · subst h1
    go_enter Tryz.func29, Tryz.ntmps29
    go_wp2_with fail
    go_ret
    exact ⟨by simp, (Touch.refl [] w).alloc _⟩
  · have h2 : (n != 0) = true := by simp [h1]
    have h3 : Hid (¬ n = 0) := h1
    clear h1
    go_enter Tryz.func29, Tryz.ntmps29
    go_wp2_with fail
    go_ret
    exact ⟨by have h5 := h3.out; by_cases h4 : e.cl = n <;> simp [h4, h5], (Touch.refl [] w).alloc _⟩
theorem ofRun_ {w : World} {B b : Nat} {v : Value} {L : List Ez} (h : Tq w B b v L) (n : Int) : Calls Tryz.prog 10 #[PT b, .int .i64 n] w fun r w' => WhQ (fun e => decide (n ≠ 0) && decide (e.ru = n)) L r w w' := by
  have hmf := makef Tryz.prog
  have tW : Touch [] w (w.alloc (.cells #[.int .i64 n] 3)) := (Touch.refl [] w).alloc _
  have HW := hid (where_run (h.touch0 tW) (PT w.heap.size) (fun e => decide (n ≠ 0) && decide (e.ru = n)) (fun e _ w' t => ofRun1_ w.heap.size n e w' (tcell t (by simp))))
  have HT := hid tW
  unfold PT at *
  clear h tW
  go_enter Tryz.func10, Tryz.ntmps10
  go_wp2_with fail
  refine Calls.mono HW.out ?_
  rintro r w1 ⟨u, rfl, h1⟩
  have H1 := hid h1
  clear h1 HW
  go_wp2_with fail
  go_ret
  exact WhQ.up ⟨u, rfl, H1.out⟩ HT.out
theorem ofCl_ {w : World} {B b : Nat} {v : Value} {L : List Ez} (h : Tq w B b v L) (n : Int) : Calls Tryz.prog 12 #[PT b, .int .i64 n] w fun r w' => WhQ (fun e => decide (n ≠ 0) && decide (e.cl = n)) L r w w' := by
  have hmf := makef Tryz.prog
  have tW : Touch [] w (w.alloc (.cells #[.int .i64 n] 3)) := (Touch.refl [] w).alloc _
  have HW := hid (where_cl (h.touch0 tW) (PT w.heap.size) (fun e => decide (n ≠ 0) && decide (e.cl = n)) (fun e _ w' t => ofCl1_ w.heap.size n e w' (tcell t (by simp))))
  have HT := hid tW
  unfold PT at *
  clear h tW
  go_enter Tryz.func12, Tryz.ntmps12
  go_wp2_with fail
  refine Calls.mono HW.out ?_
  rintro r w1 ⟨u, rfl, h1⟩
  have H1 := hid h1
  clear h1 HW
  go_wp2_with fail
  go_ret
  exact WhQ.up ⟨u, rfl, H1.out⟩ HT.out
/-- are two keys the same? -/
def keqB (sp : Int) (nm : ByteArray) (sp' : Int) (nm' : ByteArray) : Bool := decide (sp = sp') && decide (nm.toList = nm'.toList)
theorem eqK (w : World) (sp : Int) (nm : ByteArray) (sp' : Int) (nm' : ByteArray) : (binOp .eql 26 (.agg #[.int .u16 sp, .string nm]) (.agg #[.int .u16 sp', .string nm'])).run Tryz.prog w = .ok (.bool (keqB sp nm sp' nm')) w := by
  unfold keqB
  by_cases h0 : sp = sp'
  · by_cases h1 : nm.toList = nm'.toList
    · go_simp
    · go_simp
  · go_simp
theorem ofKey1_ (kr : Nat) (sp : Int) (nm : ByteArray) (e : Ez) (w : World) (hk : Tk w) (h0 : w.cell? ⟨kr, 0, none⟩ = some (.int .u16 sp)) (h1 : w.cell? ⟨kr, 1, none⟩ = some (.string nm)) :
    Calls Tryz.prog 27 #[e.val, PT kr] w fun r w' => r = .returned (.bool (nmB e.kd 107 && keqB e.sp e.nm sp nm)) ∧ Touch [] w w' := by
  have HN := hid (fun w' (t : Touch [] w w') => namK_ e w' (hk.touch t))
  have HR : Hid (∀ w', Touch [] w w' → w'.cell? ⟨kr, 0, none⟩ = some (.int .u16 sp) ∧ w'.cell? ⟨kr, 1, none⟩ = some (.string nm)) := hid (fun w' t => ⟨tcell t h0, tcell t h1⟩)
  have HB : Hid (∀ w', Touch [] (w.alloc (.cells #[.int .i64 e.at_, .int .i64 e.kd, .int .i64 e.cl, .int .i64 e.ca, .int .i64 e.ru, .int .i64 e.ge, .int .i64 e.ho, .int .u16 e.sp, .string e.nm, .int .i64 e.va, .int .i64 e.fk, .int .i64 e.fc, .int .i64 e.fr] 40)) w' → Ib w' w.heap.size e) := hid (fun w' t => (Ib.new w e 40).touch t)
  have TA : Hid (Touch [] w (w.alloc (.cells #[.int .i64 e.at_, .int .i64 e.kd, .int .i64 e.cl, .int .i64 e.ca, .int .i64 e.ru, .int .i64 e.ge, .int .i64 e.ho, .int .u16 e.sp, .string e.nm, .int .i64 e.va, .int .i64 e.fk, .int .i64 e.fc, .int .i64 e.fr] 40))) := (Touch.refl [] w).alloc _
  have hq := fun w' => eqK w' e.sp e.nm sp nm
  generalize nmB e.kd 107 = R at *
  generalize keqB e.sp e.nm sp nm = Q at *
  clear hk h0 h1
  unfold Ez.val PT at *
  go_enter Tryz.func27, Tryz.ntmps27
  go_wp2_with fail
  refine (HN.out _ TA.out).mono ?_
  rintro r w1 ⟨rfl, t1⟩
  obtain ⟨c0, c1, c2, c3, c4, c5, c6, c7, c8, c9, c10, c11, c12⟩ := HB.out _ t1
  have T1 := hid (TA.out.trans' t1)
  obtain ⟨k0, k1⟩ := HR.out _ T1.out
  clear t1 HB HR HN TA
  cases R with
  | false =>
    go_wp2_with fail
    go_ret
    exact ⟨by simp, T1.out⟩
  | true =>
    go_wp2_with fail
    go_ret
    exact ⟨by simp, T1.out⟩
theorem ofKey_ {w : World} {B b : Nat} {v : Value} {L : List Ez} (h : Tq w B b v L) (hk : Tk w) (sp : Int) (nm : ByteArray) : Calls Tryz.prog 11 #[PT b, .agg #[.int .u16 sp, .string nm]] w fun r w' => WhQ (fun e => nmB e.kd 107 && keqB e.sp e.nm sp nm) L r w w' := by
  have hmf := makef Tryz.prog
  have tW : Touch [] w (w.alloc (.cells #[.int .u16 sp, .string nm] 26)) := (Touch.refl [] w).alloc _
  have HW := hid (where_key (h.touch0 tW) (PT w.heap.size) (fun e => nmB e.kd 107 && keqB e.sp e.nm sp nm) (fun e _ w' t => ofKey1_ w.heap.size sp nm e w' (hk.touch (tW.trans' t)) (tcell t (by simp)) (tcell t (by simp))))
  have HT := hid tW
  unfold PT at *
  clear h tW hk
  go_enter Tryz.func11, Tryz.ntmps11
  go_wp2_with fail
  refine Calls.mono HW.out ?_
  rintro r w1 ⟨u, rfl, h1⟩
  have H1 := hid h1
  clear h1 HW
  go_wp2_with fail
  go_ret
  exact WhQ.up ⟨u, rfl, H1.out⟩ HT.out
theorem betw1_ (kf kt : Nat) (ff tt : Int) (e : Ez) (w : World) (h0 : w.cell? ⟨kf, 0, none⟩ = some (.int .i64 ff)) (h1 : w.cell? ⟨kt, 0, none⟩ = some (.int .i64 tt)) :
    Calls Tryz.prog 30 #[e.val, PT kf, PT kt] w fun r w' => r = .returned (.bool (decide (ff ≤ e.at_) && decide (e.at_ ≤ tt))) ∧ Touch [] w w' := by
  have l0 : kf < w.heap.size := cell_lt h0
  have l1 : kt < w.heap.size := cell_lt h1
  unfold Ez.val PT
  by_cases h2 : ff ≤ e.at_
  · have H2 := hid h2
    go_enter Tryz.func30, Tryz.ntmps30
    go_wp2_with fail
    go_ret
    exact ⟨by simp [H2.out], (Touch.refl [] w).alloc _⟩
  · have H2 := hid h2
    go_enter Tryz.func30, Tryz.ntmps30
    go_wp2_with fail
    go_ret
    exact ⟨by have h5 := H2.out; simp; intro; omega, (Touch.refl [] w).alloc _⟩
theorem betw_ {w : World} {B b : Nat} {v : Value} {L : List Ez} (h : Tq w B b v L) (ff tt : Int) : Calls Tryz.prog 13 #[PT b, .int .i64 ff, .int .i64 tt] w fun r w' => WhQ (fun e => decide (ff ≤ e.at_) && decide (e.at_ ≤ tt)) L r w w' := by
  have hmf := makef Tryz.prog
  have tW : Touch [] w ((w.alloc (.cells #[.int .i64 ff] 2)).alloc (.cells #[.int .i64 tt] 2)) := ((Touch.refl [] w).alloc _).alloc _
  have HW := hid (where_bet (h.touch0 tW) (PT w.heap.size) (PT (w.heap.size + 1)) (fun e => decide (ff ≤ e.at_) && decide (e.at_ ≤ tt)) (fun e _ w' t => betw1_ w.heap.size (w.heap.size + 1) ff tt e w' (tcell t (by simp)) (tcell t (by simp))))
  have HT := hid tW
  unfold PT at *
  clear h tW
  go_enter Tryz.func13, Tryz.ntmps13
  go_wp2_with fail
  refine Calls.mono HW.out ?_
  rintro r w1 ⟨u, rfl, h1⟩
  have H1 := hid h1
  clear h1 HW
  go_wp2_with fail
  go_ret
  exact WhQ.up ⟨u, rfl, H1.out⟩ HT.out
theorem kind1_ (kb : Nat) (ks : List Int) (e : Ez) (w : World) (hb : WBox w kb ks) (hk : isK e.kd = true) :
    Calls Tryz.prog 25 #[e.val, PT kb] w fun r w' => r = .returned (.bool (ks.contains e.kd)) ∧ Touch [] w w' := by
  obtain ⟨cs, h1, h2, h3⟩ := hb
  have hd : 1 ≤ e.kd ∧ e.kd ≤ 11 := of_decide_eq_true hk
  obtain ⟨n, hn⟩ : ∃ n : Nat, e.kd = n := ⟨e.kd.toNat, by omega⟩
  have hc := cell_at h1 (h3 n (by omega))
  have hw : wantK ks n = ks.contains e.kd := by unfold wantK; rw [← hn, hk]; simp
  rw [hw] at hc
  have hlt := block_lt h1
  obtain ⟨t, kd, cl, ca, ru, ge, ho, sp, nm, va, fk, fc, fr⟩ := e
  dsimp only at *
  subst hn
  have n0 : (0 : Int) ≤ (n : Int) := by omega
  have n1 : (n : Int) < 12 := by omega
  generalize ks.contains (n : Int) = R at *
  clear h1 h2 h3 hk hd hw
  unfold Ez.val PT
  go_enter Tryz.func25, Tryz.ntmps25
  go_wp2_with fail
  go_ret
  exact ⟨rfl, (Touch.refl [] w).alloc _⟩
theorem WBox.touch {w w' : World} {b : Nat} {ks : List Int} (h : WBox w b ks) (t : Touch [] w w') : WBox w' b ks := by
  obtain ⟨cs, h1, h2, h3⟩ := h
  exact ⟨cs, t.keep h1 (by simp), h2, h3⟩
theorem ofKindT_ {w : World} {B b : Nat} {v : Value} {L : List Ez} (h : Tq w B b v L) (hL : ∀ e ∈ L, isK e.kd = true) (ks : List Int) (a : Option Addr) (c : Nat) (hx : KRow w a ks) (hl : ks.length ≤ 1000000000000000) : Calls Tryz.prog 9 #[PT b, .slice a ks.length c] w fun r w' => WhQ (fun e => ks.contains e.kd) L r w w' := by
  refine (ofKind_ (PT b) ks a c w hx hl (fun v w' => WhQ (fun e => ks.contains e.kd) L (.returned v) w w') (fun w' k t hb _ => ?_)).mono fun r w' ⟨u, e1, h2⟩ => by rw [e1]; exact h2
  refine (where_kind (h.touch0 t) (PT k) (fun e => ks.contains e.kd) (fun e he w2 t2 => kind1_ k ks e w2 (hb.touch t2) (hL e he))).mono fun r w2 h2 => ?_
  obtain ⟨u, e1, h3⟩ := h2
  exact ⟨u, e1, WhQ.up ⟨u, rfl, h3⟩ t⟩
end Go.Proofs.YtcdikdiopklcgaaGreatDoor.Tr
