/- The contract of says: an order and the document's that are the same list say the same; there are at most seventy thousand keys. -/
import Derived.Test.YtjcdloijodfpgaaCln
import Derived.Test.YtjcdloijodfpgaaRhk
import Derived.Test.YtjcdloijodfpgaaShr
import Derived.Test.YtjcdloijodfpgaaHlh
import Derived.Maps.OwnIn
namespace Go.Proofs.Ytjcdloijodfpgaa
open Go.RowKit Go.Sort Go.Maps Go.ChangeMaps Go.WideMaps Go.Shelf
set_option linter.unusedVariables false
set_option linter.unusedSimpArgs false
attribute [local go_sem] Oper.semAt_some
theorem eqf (w : World) (b : Nat) : (binOp .eql 47 (.func (.func 32) #[] #[.pointer (some ⟨b, 0, none⟩)]) .nilFunc).run Try.prog w = .ok (.bool false) w := by kernel_rfl
theorem say_start {w w1 V : World} {o : Nat} {most : Int} {v : Value} {k x : K} (t1 : Touch [] ((w.alloc (.cells #[.int .i64 most, v] 31)).alloc (.cells #[.int .u16 k.1, .string k.2] 36)) w1) (hV : V = (w1.alloc (.cells #[.int .u16 x.1, .string x.2] 36)).alloc (.cells #[PT o] 23)) :
    Touch [] w V ∧ V.heap[w.heap.size]? = some (.cells #[.int .i64 most, v] 31 (0, 0)) ∧ V.heap[w.heap.size + 1]? = some (.cells #[.int .u16 k.1, .string k.2] 36 (0, 0)) ∧ V.heap[w1.heap.size]? = some (.cells #[.int .u16 x.1, .string x.2] 36 (0, 0)) ∧ V.heap[w1.heap.size + 1]? = some (.cells #[PT o] 23 (0, 0)) ∧ w.heap.size + 2 ≤ w1.heap.size := by
  subst hV
  have hz := t1.size
  simp only [World.size_alloc] at hz
  have tV : Touch [] w1 ((w1.alloc (.cells #[.int .u16 x.1, .string x.2] 36)).alloc (.cells #[PT o] 23)) := ((Touch.refl _ _).alloc _).alloc _
  refine ⟨(((Touch.refl _ _).alloc _).alloc _).trans' (t1.trans' tV), tV.keep (t1.keep ((Below.heap_alloc _ _ _ (by simp)).trans (heap_alloc_new w _)) (by simp)) (by simp), tV.keep (t1.keep ?_ (by simp)) (by simp), (Below.heap_alloc _ _ _ (by simp)).trans (heap_alloc_new _ _), ?_, by omega⟩
  · have := heap_alloc_new (w.alloc (.cells #[.int .i64 most, v] 31)) (.cells #[.int .u16 k.1, .string k.2] 36)
    rwa [World.size_alloc] at this
  · have := heap_alloc_new (w1.alloc (.cells #[.int .u16 x.1, .string x.2] 36)) (.cells #[PT o] 23)
    rwa [World.size_alloc] at this
/-- What the law's own list is while All is gone over. -/
def SyI (B : World) (b : Nat) (X : List Nat) (pre : List K) (W : World) : Prop :=
  ∃ a c, W.heap[b]? = some (.cells #[.slice a pre.length c] 51 (0, 0)) ∧ W.ownsRow B.heap.size 36 2 (.slice a pre.length c) pre.length (cellsK pre) ∧ (∀ g, (Value.slice a pre.length c).ownBlock = some g → ¬ g ∈ X) ∧ ¬ b ∈ X ∧ B.heap.size ≤ b ∧ (∀ k ∈ X, B.heap.size ≤ k) ∧ Touch [] B W
theorem SyI.step {B : World} {b : Nat} {X : List Nat} {pre : List K} {W W' : World} (h : SyI B b X pre W) (t : Touch X W W') : SyI B b X pre W' := by
  obtain ⟨a, c, h1, h2, h3, h4, h5, h6, h7⟩ := h
  exact ⟨a, c, t.keep h1 h4, own_touch h2 t h3, h3, h4, h5, h6, h7.trans t (fun i hi => Or.inr (h6 i hi))⟩
theorem SyI.app {B : World} {b : Nat} {X : List Nat} {pre : List K} {W w5 : World} {a : Option Addr} {c : Nat} {v' : Value} {o : Obj} (x : K) (h1 : W.heap[b]? = some (.cells #[.slice a pre.length c] 51 (0, 0))) (h2 : W.ownsRow B.heap.size 36 2 (.slice a pre.length c) pre.length (cellsK pre)) (h3 : ∀ g, (Value.slice a pre.length c).ownBlock = some g → ¬ g ∈ X) (h4 : ¬ b ∈ X) (h5 : B.heap.size ≤ b) (h6 : ∀ k ∈ X, B.heap.size ≤ k) (h7 : Touch [] B W) (hX : ∀ k ∈ X, k < W.heap.size)
    (hown : w5.ownsRow B.heap.size 36 2 v' (pre.length + 1) (cellsK pre ++ [.int .u16 x.1, .string x.2])) (hg : (W.alloc o).grownBy w5 (Value.slice a pre.length c).ownBlock) (hat : v'.ownBlock = (Value.slice a pre.length c).ownBlock ∨ v'.ownBlock = some (W.alloc o).heap.size) :
    w5.heap[b]? = some (.cells #[.slice a pre.length c] 51 (0, 0)) ∧ (∀ k ∈ X, (w5.setCell ⟨b, 0, none⟩ v').heap[k]? = W.heap[k]?) ∧ SyI B b X (pre ++ [x]) (w5.setCell ⟨b, 0, none⟩ v') := by
  have t : Touch (Value.slice a pre.length c).ownBlock.toList W w5 := ((Touch.refl _ _).alloc _).grown hg (fun j hj => Or.inl (by simp [hj]))
  have hty : ∀ g, (Value.slice a pre.length c).ownBlock = some g → g ≠ b := fun g hg' e => by
    obtain ⟨cs, hc⟩ := own_type h2 hg'
    rw [e, h1] at hc
    simp at hc
  have k1 : w5.heap[b]? = some (.cells #[.slice a pre.length c] 51 (0, 0)) := t.keep h1 (fun hh => hty b (by simpa using hh) rfl)
  have hty5 : ∀ g, v'.ownBlock = some g → g ≠ b := fun g hg' e => by
    obtain ⟨cs, hc⟩ := own_type hown hg'
    rw [e, k1] at hc
    simp at hc
  have hl : (pre ++ [x]).length = pre.length + 1 := by simp
  have hc5 : cellsK (pre ++ [x]) = cellsK pre ++ [.int .u16 x.1, .string x.2] := by rw [cellsK_app]; rfl
  obtain ⟨a', c', rfl⟩ : ∃ a' c', v' = .slice a' (pre.length + 1) c' := by
    rcases hown.2 with ⟨rfl, h⟩ | ⟨g, cap, cur, rfl, _⟩
    · omega
    · exact ⟨_, _, rfl⟩
  refine ⟨k1, fun k hk => ?_, a', c', ?_, ?_, ?_, h4, h5, h6, ?_⟩
  · refine (Below.heap_setCell _ _ _ _ (fun (e : k = b) => h4 (e ▸ hk))).trans (t.block k (hX k hk) (fun hh => h3 k (by simpa using hh) hk))
  · rw [hl]
    exact bset k1 _
  · rw [hl, hc5]
    exact own_keep hown (fun g hg' => Below.heap_setCell _ _ _ _ (hty5 g hg'))
  · rw [hl]
    intro g hg' hh
    rcases hat with e | e
    · exact h3 g (by rw [← e]; exact hg') hh
    · rw [hg'] at e
      have e2 : g = W.heap.size + 1 := by simpa using e
      have := hX g hh
      omega
  · refine (h7.trans t (fun i hi => Or.inr (h2.lt i (by simpa using hi)).1)).setCell (Or.inr h5) _
set_option maxRecDepth 100000 in
set_option maxHeartbeats 4000000 in
theorem says10_cons (w : World) (o : Nat) (F : List Nat) (most : Int) (v : Value) (k : K) (x : K) (ys : List K) (hl : (x :: ys).length ≤ 70000) (hk : Ok k) (h : Oq w o F most (x :: ys)) (hr : RK w v (x :: ys)) :
    Calls Try.prog 10 #[PT o, rv most v, kv k] w fun e w' => e = .returned (.bool true) ∧ Touch [] w w' := by
  refine (callsIn_wide (n := 0)).1 ?_
  obtain ⟨i3, hi, hz0, hz1, hz2⟩ := info_parts info36
  have H := hid h
  have HK := hid hr
  obtain ⟨a0, c0, rfl, hc0, hform⟩ := hr.form
  obtain ⟨g, rfl⟩ := hform 0 (by simp)
  have HC := hid (fun w' (t : Touch [] w w') => own_cells (HK.out.keep t) 0 (by simp))
  obtain ⟨N, hN⟩ : ∃ N, N = (x :: ys).length := ⟨_, rfl⟩
  have HN := hid hN
  have hN2 : 0 < N := by rw [hN, List.length_cons]; omega
  have hN3 : ¬ N = 0 := by omega
  have hN1 : (0 : Int) < (N : Int) := by omega
  have hNl : (N : Int) ≤ 70000 := by omega
  rw [← hN]
  rw [← hN] at HK
  clear hN
  have hxs : (x :: ys).length < 100000 := by omega
  clear h hr hform
  refine callsIn_of_wp_marks Try.func10 rfl trivial ?_ rfl
  simp only [Try.ntmps10, List.size_toArray, List.length_cons, List.length_nil, Nat.reduceAdd, Nat.reduceSub, Array.replicate_succ, Array.replicate_zero, List.push_toArray, List.append_toArray, List.nil_append, List.cons_append]
  have HO := hid (fun w' (t : Touch [] w w') => oldestO w' o F most (x :: ys) hxs (H.out.keep0 t))
  have e1 : decide (0 < (x :: ys).length) = true := by simp
  rw [e1] at HO
  simp only [List.headD_cons] at HO
  clear e1
  unfold PT kv rv at *
  gi_wp2
  refine ⟨trivial, rfl, ?_⟩
  refine (callsIn_wide.2 (HO.out _ (((Touch.refl _ _).alloc _).alloc _))).mono ?_
  rintro e w1 ⟨rfl, t1⟩
  gi_wp2
  refine ⟨trivial, rfl, ?_⟩
  have HA := fun w => all13 w o
  unfold PT at HA
  refine (callsIn_wide.2 (HA _)).mono ?_
  rintro e w2 ⟨rfl, rfl⟩
  gi_wp2
  obtain ⟨V, hV⟩ : ∃ V, V = (w1.alloc (.cells #[.int .u16 x.1, .string x.2] 36)).alloc (.cells #[.pointer (some ⟨o, 0, none⟩)] 23) := ⟨_, rfl⟩
  have SV := hid (say_start (x := (x.1, x.2)) t1 hV)
  rw [← hV]
  clear hV t1 HO
  have TV := SV.out.1
  have s0 : ∀ w', Touch [] V w' → w'.cell? ⟨w.heap.size, 0, none⟩ = some (.int .i64 most) := fun w' t => by have := t.keep SV.out.2.1 (by simp); simp [World.cell?, this]
  have s1 : ∀ w', Touch [] V w' → w'.cell? ⟨w.heap.size, 1, none⟩ = some (.slice (some ⟨g, 0, none⟩) N c0) := fun w' t => by have := t.keep SV.out.2.1 (by simp); simp [World.cell?, this]
  have s2 : ∀ w', Touch [] V w' → w'.cell? ⟨w.heap.size + 1, 0, none⟩ = some (.int .u16 k.1) := fun w' t => by have := t.keep SV.out.2.2.1 (by simp); simp [World.cell?, this]
  have s3 : ∀ w', Touch [] V w' → w'.cell? ⟨w.heap.size + 1, 1, none⟩ = some (.string k.2) := fun w' t => by have := t.keep SV.out.2.2.1 (by simp); simp [World.cell?, this]
  have s4 : ∀ w', Touch [] V w' → w'.cell? ⟨w1.heap.size, 0, none⟩ = some (.int .u16 x.1) := fun w' t => by have := t.keep SV.out.2.2.2.1 (by simp); simp [World.cell?, this]
  have s5 : ∀ w', Touch [] V w' → w'.cell? ⟨w1.heap.size, 1, none⟩ = some (.string x.2) := fun w' t => by have := t.keep SV.out.2.2.2.1 (by simp); simp [World.cell?, this]
  have s6 : ∀ w', Touch [] V w' → w'.cell? ⟨g, 0, none⟩ = some (.int .u16 x.1) := fun w' t => (HC.out w' (TV.trans' t)).1
  have s7 : ∀ w', Touch [] V w' → w'.cell? ⟨g, 1, none⟩ = some (.string x.2) := fun w' t => (HC.out w' (TV.trans' t)).2
  have G20 := hid (fun w' (t : Touch [] V w') => lenO w' o F most (x :: ys) (H.out.keep0 (TV.trans' t)))
  have G21 := hid (fun w' (t : Touch [] V w') => mostO w' o F most (x :: ys) (H.out.keep0 (TV.trans' t)))
  have G19 := hid (fun w' (t : Touch [] V w') => hasO w' o F most (x :: ys) k hk (H.out.keep0 (TV.trans' t)))
  have G14 := hid (fun w' => ref14 w' k)
  have G15 := hid (fun w' => ref14 w' (x.1, x.2))
  have G28 := hid (fun w' (t : Touch [] V w') => rhas28 w' most _ (x :: ys) k (by omega) (HK.out.keep (TV.trans' t)))
  have ef := fun w => eqf w (w1.heap.size + 1)
  have np := fun w => neqp w (x.1, x.2) (x.1, x.2)
  rw [decide_eq_false (fun h => h rfl)] at np
  have nk := fun w => neqk w (x.1, x.2) (x.1, x.2)
  rw [decide_eq_false (fun h => h rfl)] at nk
  rw [← HN.out] at G20
  unfold PT kv rv at *
  generalize hs (x :: ys) k = B at *
  have nB : (B != B) = false := by simp
  refine wpIn_wide.2 (wp_region_noPanic ?_)
  refine wp_region_H (S := (fun w' => Touch [] V w')) (by kernel_rfl) ?_
  have hS0 : Touch [] V V.drew := (Touch.refl _ _).drew
  refine wpH_take (i := 0) (v := .func (.func 32) #[] #[.pointer (some ⟨w1.heap.size + 1, 0, none⟩)]) (some 19) rfl rfl (by kernel_rfl) (by kernel_rfl) (by kernel_rfl) (fun _ _ _ h => h) (Or.inl ⟨by rfl, fun w' hS => (by go_simp)⟩) hS0 ?_
  try simp only [Go.Act.put, List.setIfInBounds_toArray, List.set_cons_zero, List.set_cons_succ]
  refine wpH_take (i := 1) (v := .bool false) (some 20) rfl rfl (by kernel_rfl) (by kernel_rfl) (by kernel_rfl) (fun _ _ _ h => h) (Or.inl ⟨by rfl, fun w' hS => (by go_simp)⟩) hS0 ?_
  try simp only [Go.Act.put, List.setIfInBounds_toArray, List.set_cons_zero, List.set_cons_succ]
  refine wpH_take (i := 2) (v := .bool false) (some 21) rfl rfl (by kernel_rfl) (by kernel_rfl) (by kernel_rfl) (fun _ _ _ h => h) (Or.inl ⟨by rfl, fun w' hS => (by go_simp)⟩) hS0 ?_
  try simp only [Go.Act.put, List.setIfInBounds_toArray, List.set_cons_zero, List.set_cons_succ]
  refine wpH_take (i := 3) (v := .pointer (some ⟨o, 0, none⟩)) (some 22) rfl rfl (by kernel_rfl) (by kernel_rfl) (by kernel_rfl) (fun _ _ _ h => h) (Or.inl ⟨by rfl, fun w' hS => (by go_simp)⟩) hS0 ?_
  try simp only [Go.Act.put, List.setIfInBounds_toArray, List.set_cons_zero, List.set_cons_succ]
  refine wpH_take (i := 5) (v := .pointer (some ⟨w.heap.size, 1, none⟩)) (some 24) rfl rfl (by kernel_rfl) (by kernel_rfl) (by kernel_rfl) (fun _ _ _ h => h) (Or.inl ⟨by rfl, fun w' hS => (by go_simp)⟩) hS0 ?_
  try simp only [Go.Act.put, List.setIfInBounds_toArray, List.set_cons_zero, List.set_cons_succ]
  refine wpH_take (i := 6) (v := .slice (some ⟨g, 0, none⟩) N c0) (some 25) rfl rfl (by kernel_rfl) (by kernel_rfl) (by kernel_rfl) (fun _ _ _ h => h) (Or.inl ⟨by rfl, fun w' hS => (by have z0 := s1 _ hS; go_simp)⟩) hS0 ?_
  try simp only [Go.Act.put, List.setIfInBounds_toArray, List.set_cons_zero, List.set_cons_succ]
  refine wpH_take (i := 7) (v := .int .i64 (N : Int)) (some 26) rfl rfl (by kernel_rfl) (by kernel_rfl) (by kernel_rfl) (fun _ _ _ h => h) (Or.inl ⟨by rfl, fun w' hS => (by go_simp)⟩) hS0 ?_
  try simp only [Go.Act.put, List.setIfInBounds_toArray, List.set_cons_zero, List.set_cons_succ]
  refine wpH_call (i := 4) (o := { dst := some 23, op := Op.call { callee := Callee.value (Operand.func 20), args := #[Operand.tmp 22], argTypes := #[23] }, type := 3, pos := _, after := #[{ on := 3, ground := Ground.data }, { on := 2, ground := Ground.chain }, { on := 2, ground := Ground.guard }], guard := some (2, false) }) (by kernel_rfl) rfl (fun K' hK => ?_)
  rw [if_pos (by rfl)]
  go_simp
  refine ((G20.out _ hS0)).mono ?_
  rintro e w3 ⟨rfl, t3⟩
  have hS3 : Touch [] V w3 := by rw [t3]; exact hS0
  clear t3
  refine hK.out _ _ hS3 ?_
  clear hK
  try simp only [Go.Act.put, List.setIfInBounds_toArray, List.set_cons_zero, List.set_cons_succ]
  refine wpH_take (i := 8) (v := .bool false) (some 27) rfl rfl (by kernel_rfl) (by kernel_rfl) (by kernel_rfl) (fun _ _ _ h => h) (Or.inl ⟨by rfl, fun w' hS => (by go_simp)⟩) hS3 ?_
  try simp only [Go.Act.put, List.setIfInBounds_toArray, List.set_cons_zero, List.set_cons_succ]
  refine wpH_take (i := 9) (v := .bool false) (some 28) rfl rfl (by kernel_rfl) (by kernel_rfl) (by kernel_rfl) (fun _ _ _ h => h) (Or.inl ⟨by rfl, fun w' hS => (by go_simp)⟩) hS3 ?_
  try simp only [Go.Act.put, List.setIfInBounds_toArray, List.set_cons_zero, List.set_cons_succ]
  refine wpH_take (i := 10) (v := .bool false) (some 29) rfl rfl (by kernel_rfl) (by kernel_rfl) (by kernel_rfl) (fun _ _ _ h => h) (Or.inl ⟨by rfl, fun w' hS => (by go_simp)⟩) hS3 ?_
  try simp only [Go.Act.put, List.setIfInBounds_toArray, List.set_cons_zero, List.set_cons_succ]
  refine wpH_take (i := 11) (v := .pointer (some ⟨o, 0, none⟩)) (some 30) rfl rfl (by kernel_rfl) (by kernel_rfl) (by kernel_rfl) (fun _ _ _ h => h) (Or.inl ⟨by rfl, fun w' hS => (by go_simp)⟩) hS3 ?_
  try simp only [Go.Act.put, List.setIfInBounds_toArray, List.set_cons_zero, List.set_cons_succ]
  refine wpH_take (i := 13) (v := .pointer (some ⟨w.heap.size, 0, none⟩)) (some 32) rfl rfl (by kernel_rfl) (by kernel_rfl) (by kernel_rfl) (fun _ _ _ h => h) (Or.inl ⟨by rfl, fun w' hS => (by go_simp)⟩) hS3 ?_
  try simp only [Go.Act.put, List.setIfInBounds_toArray, List.set_cons_zero, List.set_cons_succ]
  refine wpH_take (i := 14) (v := .int .i64 most) (some 33) rfl rfl (by kernel_rfl) (by kernel_rfl) (by kernel_rfl) (fun _ _ _ h => h) (Or.inl ⟨by rfl, fun w' hS => (by have z0 := s0 _ hS; go_simp)⟩) hS3 ?_
  try simp only [Go.Act.put, List.setIfInBounds_toArray, List.set_cons_zero, List.set_cons_succ]
  refine wpH_call (i := 12) (o := { dst := some 31, op := Op.call { callee := Callee.value (Operand.func 21), args := #[Operand.tmp 30], argTypes := #[23] }, type := 3, pos := _, after := #[{ on := 11, ground := Ground.data }, { on := 10, ground := Ground.chain }, { on := 10, ground := Ground.guard }], guard := some (10, false) }) (by kernel_rfl) rfl (fun K' hK => ?_)
  rw [if_pos (by rfl)]
  go_simp
  refine ((G21.out _ hS3)).mono ?_
  rintro e w4 ⟨rfl, t4⟩
  have hS4 : Touch [] V w4 := by rw [t4]; exact hS3
  clear t4
  refine hK.out _ _ hS4 ?_
  clear hK
  try simp only [Go.Act.put, List.setIfInBounds_toArray, List.set_cons_zero, List.set_cons_succ]
  refine wpH_take (i := 15) (v := .bool false) (some 34) rfl rfl (by kernel_rfl) (by kernel_rfl) (by kernel_rfl) (fun _ _ _ h => h) (Or.inl ⟨by rfl, fun w' hS => (by go_simp)⟩) hS4 ?_
  try simp only [Go.Act.put, List.setIfInBounds_toArray, List.set_cons_zero, List.set_cons_succ]
  refine wpH_take (i := 16) (v := .bool false) (some 35) rfl rfl (by kernel_rfl) (by kernel_rfl) (by kernel_rfl) (fun _ _ _ h => h) (Or.inl ⟨by rfl, fun w' hS => (by go_simp)⟩) hS4 ?_
  try simp only [Go.Act.put, List.setIfInBounds_toArray, List.set_cons_zero, List.set_cons_succ]
  refine wpH_take (i := 17) (v := .bool false) (some 36) rfl rfl (by kernel_rfl) (by kernel_rfl) (by kernel_rfl) (fun _ _ _ h => h) (Or.inl ⟨by rfl, fun w' hS => (by go_simp)⟩) hS4 ?_
  try simp only [Go.Act.put, List.setIfInBounds_toArray, List.set_cons_zero, List.set_cons_succ]
  refine wpH_take (i := 18) (v := .pointer (some ⟨o, 0, none⟩)) (some 37) rfl rfl (by kernel_rfl) (by kernel_rfl) (by kernel_rfl) (fun _ _ _ h => h) (Or.inl ⟨by rfl, fun w' hS => (by go_simp)⟩) hS4 ?_
  try simp only [Go.Act.put, List.setIfInBounds_toArray, List.set_cons_zero, List.set_cons_succ]
  refine wpH_take (i := 19) (v := .agg #[.int .u16 k.1, .string k.2]) (some 38) rfl rfl (by kernel_rfl) (by kernel_rfl) (by kernel_rfl) (fun _ _ _ h => h) (Or.inl ⟨by rfl, fun w' hS => (by have z0 := s2 _ hS; have z1 := s3 _ hS; go_simp)⟩) hS4 ?_
  try simp only [Go.Act.put, List.setIfInBounds_toArray, List.set_cons_zero, List.set_cons_succ]
  refine wpH_take (i := 21) (v := .agg #[.int .i64 most, .slice (some ⟨g, 0, none⟩) N c0]) (some 40) rfl rfl (by kernel_rfl) (by kernel_rfl) (by kernel_rfl) (fun _ _ _ h => h) (Or.inl ⟨by rfl, fun w' hS => (by have z0 := s0 _ hS; have z1 := s1 _ hS; go_simp)⟩) hS4 ?_
  try simp only [Go.Act.put, List.setIfInBounds_toArray, List.set_cons_zero, List.set_cons_succ]
  refine wpH_take (i := 22) (v := .agg #[.int .u16 k.1, .string k.2]) (some 41) rfl rfl (by kernel_rfl) (by kernel_rfl) (by kernel_rfl) (fun _ _ _ h => h) (Or.inl ⟨by rfl, fun w' hS => (by have z0 := s2 _ hS; have z1 := s3 _ hS; go_simp)⟩) hS4 ?_
  try simp only [Go.Act.put, List.setIfInBounds_toArray, List.set_cons_zero, List.set_cons_succ]
  refine wpH_call (i := 20) (o := { dst := some 39, op := Op.call { callee := Callee.value (Operand.func 19), args := #[Operand.tmp 37, Operand.tmp 38], argTypes := #[23, 36] }, type := 4, pos := _, after := #[{ on := 18, ground := Ground.data }, { on := 19, ground := Ground.data }, { on := 17, ground := Ground.chain }, { on := 17, ground := Ground.guard }], guard := some (17, false) }) (by kernel_rfl) rfl (fun K' hK => ?_)
  rw [if_pos (by rfl)]
  go_simp
  refine ((G19.out _ hS4)).mono ?_
  rintro e w5 ⟨rfl, t5⟩
  have hS5 := hS4.trans' t5
  clear t5
  refine hK.out _ _ hS5 ?_
  clear hK
  try simp only [Go.Act.put, List.setIfInBounds_toArray, List.set_cons_zero, List.set_cons_succ]
  refine wpH_call (i := 23) (o := { dst := some 42, op := Op.call { callee := Callee.value (Operand.func 14), args := #[Operand.tmp 41], argTypes := #[36] }, type := 44, pos := _, after := #[{ on := 22, ground := Ground.data }, { on := 20, ground := Ground.chain }, { on := 17, ground := Ground.guard }], guard := some (17, false) }) (by kernel_rfl) rfl (fun K' hK => ?_)
  rw [if_pos (by rfl)]
  go_simp
  refine ((G14.out _)).mono ?_
  rintro e w6 ⟨rfl, t6⟩
  have hS6 := hS5.trans' t6
  clear t6
  refine hK.out _ _ hS6 ?_
  clear hK
  try simp only [Go.Act.put, List.setIfInBounds_toArray, List.set_cons_zero, List.set_cons_succ]
  refine wpH_call (i := 24) (o := { dst := some 43, op := Op.call { callee := Callee.value (Operand.func 28), args := #[Operand.tmp 40, Operand.tmp 42], argTypes := #[31, 44] }, type := 4, pos := _, after := #[{ on := 21, ground := Ground.data }, { on := 23, ground := Ground.data }, { on := 23, ground := Ground.chain }, { on := 17, ground := Ground.guard }], guard := some (17, false) }) (by kernel_rfl) rfl (fun K' hK => ?_)
  rw [if_pos (by rfl)]
  go_simp
  refine ((G28.out _ hS6)).mono ?_
  rintro e w7 ⟨rfl, t7⟩
  have hS7 := hS6.trans' t7
  clear t7
  refine hK.out _ _ hS7 ?_
  clear hK
  try simp only [Go.Act.put, List.setIfInBounds_toArray, List.set_cons_zero, List.set_cons_succ]
  refine wpH_take (i := 25) (v := .bool false) (some 44) rfl rfl (by kernel_rfl) (by kernel_rfl) (by kernel_rfl) (fun _ _ _ h => h) (Or.inl ⟨by rfl, fun w' hS => (by go_simp)⟩) hS7 ?_
  try simp only [Go.Act.put, List.setIfInBounds_toArray, List.set_cons_zero, List.set_cons_succ]
  refine wpH_take (i := 26) (v := .bool false) (some 45) rfl rfl (by kernel_rfl) (by kernel_rfl) (by kernel_rfl) (fun _ _ _ h => h) (Or.inl ⟨by rfl, fun w' hS => (by go_simp)⟩) hS7 ?_
  try simp only [Go.Act.put, List.setIfInBounds_toArray, List.set_cons_zero, List.set_cons_succ]
  refine wpH_take (i := 27) (v := .bool false) (some 46) rfl rfl (by kernel_rfl) (by kernel_rfl) (by kernel_rfl) (fun _ _ _ h => h) (Or.inl ⟨by rfl, fun w' hS => (by go_simp)⟩) hS7 ?_
  try simp only [Go.Act.put, List.setIfInBounds_toArray, List.set_cons_zero, List.set_cons_succ]
  refine wpH_take (i := 28) (v := .bool true) (some 47) rfl rfl (by kernel_rfl) (by kernel_rfl) (by kernel_rfl) (fun _ _ _ h => h) (Or.inl ⟨by rfl, fun w' hS => (by go_simp)⟩) hS7 ?_
  try simp only [Go.Act.put, List.setIfInBounds_toArray, List.set_cons_zero, List.set_cons_succ]
  refine wpH_take (i := 29) (v := .pointer (some ⟨w.heap.size, 1, none⟩)) (some 48) rfl rfl (by kernel_rfl) (by kernel_rfl) (by kernel_rfl) (fun _ _ _ h => h) (Or.inl ⟨by rfl, fun w' hS => (by go_simp)⟩) hS7 ?_
  try simp only [Go.Act.put, List.setIfInBounds_toArray, List.set_cons_zero, List.set_cons_succ]
  refine wpH_take (i := 30) (v := .slice (some ⟨g, 0, none⟩) N c0) (some 49) rfl rfl (by kernel_rfl) (by kernel_rfl) (by kernel_rfl) (fun _ _ _ h => h) (Or.inl ⟨by rfl, fun w' hS => (by have z0 := s1 _ hS; go_simp)⟩) hS7 ?_
  try simp only [Go.Act.put, List.setIfInBounds_toArray, List.set_cons_zero, List.set_cons_succ]
  refine wpH_take (i := 31) (v := .int .i64 (N : Int)) (some 50) rfl rfl (by kernel_rfl) (by kernel_rfl) (by kernel_rfl) (fun _ _ _ h => h) (Or.inl ⟨by rfl, fun w' hS => (by go_simp)⟩) hS7 ?_
  try simp only [Go.Act.put, List.setIfInBounds_toArray, List.set_cons_zero, List.set_cons_succ]
  refine wpH_take (i := 32) (v := .bool true) (some 51) rfl rfl (by kernel_rfl) (by kernel_rfl) (by kernel_rfl) (fun _ _ _ h => h) (Or.inl ⟨by rfl, fun w' hS => (by go_simp)⟩) hS7 ?_
  try simp only [Go.Act.put, List.setIfInBounds_toArray, List.set_cons_zero, List.set_cons_succ]
  refine wpH_take (i := 33) (v := .bool false) (some 52) rfl rfl (by kernel_rfl) (by kernel_rfl) (by kernel_rfl) (fun _ _ _ h => h) (Or.inl ⟨by rfl, fun w' hS => (by go_simp)⟩) hS7 ?_
  try simp only [Go.Act.put, List.setIfInBounds_toArray, List.set_cons_zero, List.set_cons_succ]
  refine wpH_take (i := 34) (v := .bool false) (some 53) rfl rfl (by kernel_rfl) (by kernel_rfl) (by kernel_rfl) (fun _ _ _ h => h) (Or.inl ⟨by rfl, fun w' hS => (by go_simp)⟩) hS7 ?_
  try simp only [Go.Act.put, List.setIfInBounds_toArray, List.set_cons_zero, List.set_cons_succ]
  refine wpH_take (i := 35) (v := .bool false) (some 54) rfl rfl (by kernel_rfl) (by kernel_rfl) (by kernel_rfl) (fun _ _ _ h => h) (Or.inl ⟨by rfl, fun w' hS => (by go_simp)⟩) hS7 ?_
  try simp only [Go.Act.put, List.setIfInBounds_toArray, List.set_cons_zero, List.set_cons_succ]
  refine wpH_take (i := 36) (v := .bool true) (some 55) rfl rfl (by kernel_rfl) (by kernel_rfl) (by kernel_rfl) (fun _ _ _ h => h) (Or.inl ⟨by rfl, fun w' hS => (by go_simp)⟩) hS7 ?_
  try simp only [Go.Act.put, List.setIfInBounds_toArray, List.set_cons_zero, List.set_cons_succ]
  refine wpH_take (i := 37) (v := .bool true) (some 56) rfl rfl (by kernel_rfl) (by kernel_rfl) (by kernel_rfl) (fun _ _ _ h => h) (Or.inl ⟨by rfl, fun w' hS => (by go_simp)⟩) hS7 ?_
  try simp only [Go.Act.put, List.setIfInBounds_toArray, List.set_cons_zero, List.set_cons_succ]
  refine wpH_take (i := 38) (v := .agg #[.int .u16 x.1, .string x.2]) (some 57) rfl rfl (by kernel_rfl) (by kernel_rfl) (by kernel_rfl) (fun _ _ _ h => h) (Or.inl ⟨by rfl, fun w' hS => (by have z0 := s4 _ hS; have z1 := s5 _ hS; go_simp)⟩) hS7 ?_
  try simp only [Go.Act.put, List.setIfInBounds_toArray, List.set_cons_zero, List.set_cons_succ]
  refine wpH_take (i := 40) (v := .pointer (some ⟨w.heap.size, 1, none⟩)) (some 59) rfl rfl (by kernel_rfl) (by kernel_rfl) (by kernel_rfl) (fun _ _ _ h => h) (Or.inl ⟨by rfl, fun w' hS => (by go_simp)⟩) hS7 ?_
  try simp only [Go.Act.put, List.setIfInBounds_toArray, List.set_cons_zero, List.set_cons_succ]
  refine wpH_take (i := 41) (v := .slice (some ⟨g, 0, none⟩) N c0) (some 60) rfl rfl (by kernel_rfl) (by kernel_rfl) (by kernel_rfl) (fun _ _ _ h => h) (Or.inl ⟨by rfl, fun w' hS => (by have z0 := s1 _ hS; go_simp)⟩) hS7 ?_
  try simp only [Go.Act.put, List.setIfInBounds_toArray, List.set_cons_zero, List.set_cons_succ]
  refine wpH_take (i := 42) (v := .pointer (some ⟨g, 0, none⟩)) (some 61) rfl rfl (by kernel_rfl) (by kernel_rfl) (by kernel_rfl) (fun _ _ _ h => h) (Or.inl ⟨by rfl, fun w' hS => (by go_simp)⟩) hS7 ?_
  try simp only [Go.Act.put, List.setIfInBounds_toArray, List.set_cons_zero, List.set_cons_succ]
  refine wpH_take (i := 43) (v := .agg #[.int .u16 x.1, .string x.2]) (some 62) rfl rfl (by kernel_rfl) (by kernel_rfl) (by kernel_rfl) (fun _ _ _ h => h) (Or.inl ⟨by rfl, fun w' hS => (by have z0 := s6 _ hS; have z1 := s7 _ hS; go_simp)⟩) hS7 ?_
  try simp only [Go.Act.put, List.setIfInBounds_toArray, List.set_cons_zero, List.set_cons_succ]
  refine wpH_call (i := 39) (o := { dst := some 58, op := Op.call { callee := Callee.value (Operand.func 14), args := #[Operand.tmp 57], argTypes := #[36] }, type := 44, pos := _, after := #[{ on := 38, ground := Ground.data }, { on := 37, ground := Ground.chain }, { on := 37, ground := Ground.guard }], guard := some (37, true) }) (by kernel_rfl) rfl (fun K' hK => ?_)
  rw [if_pos (by rfl)]
  go_simp
  refine ((G15.out _)).mono ?_
  rintro e w8 ⟨rfl, t8⟩
  have hS8 := hS7.trans' t8
  clear t8
  refine hK.out _ _ hS8 ?_
  clear hK
  try simp only [Go.Act.put, List.setIfInBounds_toArray, List.set_cons_zero, List.set_cons_succ]
  refine wpH_take (i := 44) (v := .bool false) (some 63) rfl rfl (by kernel_rfl) (by kernel_rfl) (by kernel_rfl) (fun _ _ _ h => h) (Or.inl ⟨by rfl, fun w' hS => (by go_simp)⟩) hS8 ?_
  try simp only [Go.Act.put, List.setIfInBounds_toArray, List.set_cons_zero, List.set_cons_succ]
  refine wpH_take (i := 45) (v := .bool false) (some 64) rfl rfl (by kernel_rfl) (by kernel_rfl) (by kernel_rfl) (fun _ _ _ h => h) (Or.inl ⟨by rfl, fun w' hS => (by go_simp)⟩) hS8 ?_
  try simp only [Go.Act.put, List.setIfInBounds_toArray, List.set_cons_zero, List.set_cons_succ]
  refine wpH_take (i := 46) (v := .bool false) (some 65) rfl rfl (by kernel_rfl) (by kernel_rfl) (by kernel_rfl) (fun _ _ _ h => h) (Or.inl ⟨by rfl, fun w' hS => (by go_simp)⟩) hS8 ?_
  try simp only [Go.Act.put, List.setIfInBounds_toArray, List.set_cons_zero, List.set_cons_succ]
  refine wpH_take (i := 47) (v := .bool false) (some 66) rfl rfl (by kernel_rfl) (by kernel_rfl) (by kernel_rfl) (fun _ _ _ h => h) (Or.inl ⟨by rfl, fun w' hS => (by go_simp)⟩) hS8 ?_
  try simp only [Go.Act.put, List.setIfInBounds_toArray, List.set_cons_zero, List.set_cons_succ]
  refine wpH_take (i := 48) (v := .bool true) (some 67) rfl rfl (by kernel_rfl) (by kernel_rfl) (by kernel_rfl) (fun _ _ _ h => h) (Or.inl ⟨by rfl, fun w' hS => (by go_simp)⟩) hS8 ?_
  try simp only [Go.Act.put, List.setIfInBounds_toArray, List.set_cons_zero, List.set_cons_succ]
  refine wpH_take (i := 49) (v := .bool false) (some 68) rfl rfl (by kernel_rfl) (by kernel_rfl) (by kernel_rfl) (fun _ _ _ h => h) (Or.inl ⟨by rfl, fun w' hS => (by go_simp)⟩) hS8 ?_
  try simp only [Go.Act.put, List.setIfInBounds_toArray, List.set_cons_zero, List.set_cons_succ]
  refine wpH_take (i := 50) (v := .bool false) (some 69) rfl rfl (by kernel_rfl) (by kernel_rfl) (by kernel_rfl) (fun _ _ _ h => h) (Or.inl ⟨by rfl, fun w' hS => (by go_simp)⟩) hS8 ?_
  try simp only [Go.Act.put, List.setIfInBounds_toArray, List.set_cons_zero, List.set_cons_succ]
  refine wpH_take (i := 51) (v := undef) (some 70) rfl rfl (by kernel_rfl) (by kernel_rfl) (by kernel_rfl) (fun _ _ _ h => h) (Or.inr ⟨by rfl, rfl⟩) hS8 ?_
  try simp only [Go.Act.put, List.setIfInBounds_toArray, List.set_cons_zero, List.set_cons_succ]
  refine wpH_take (i := 52) (v := undef) (some 71) rfl rfl (by kernel_rfl) (by kernel_rfl) (by kernel_rfl) (fun _ _ _ h => h) (Or.inr ⟨by rfl, rfl⟩) hS8 ?_
  try simp only [Go.Act.put, List.setIfInBounds_toArray, List.set_cons_zero, List.set_cons_succ]
  refine wpH_take (i := 53) (v := undef) (some 72) rfl rfl (by kernel_rfl) (by kernel_rfl) (by kernel_rfl) (fun _ _ _ h => h) (Or.inr ⟨by rfl, rfl⟩) hS8 ?_
  try simp only [Go.Act.put, List.setIfInBounds_toArray, List.set_cons_zero, List.set_cons_succ]
  refine wpH_take (i := 54) (v := .bool false) (some 73) rfl rfl (by kernel_rfl) (by kernel_rfl) (by kernel_rfl) (fun _ _ _ h => h) (Or.inl ⟨by rfl, fun w' hS => (by go_simp)⟩) hS8 ?_
  try simp only [Go.Act.put, List.setIfInBounds_toArray, List.set_cons_zero, List.set_cons_succ]
  refine wpH_take (i := 55) (v := .bool false) (some 74) rfl rfl (by kernel_rfl) (by kernel_rfl) (by kernel_rfl) (fun _ _ _ h => h) (Or.inl ⟨by rfl, fun w' hS => (by go_simp)⟩) hS8 ?_
  try simp only [Go.Act.put, List.setIfInBounds_toArray, List.set_cons_zero, List.set_cons_succ]
  refine wpAnyH_done (by kernel_rfl) ?_ _
  refine NoPanic.normal ?_
  gi_wp2
  obtain ⟨W0, hW0⟩ : ∃ W0, (w8.alloc (.cells #[] 36)).alloc (.cells #[.slice (some ⟨w8.heap.size, 0, none⟩) 0 0] 51) = W0 := ⟨_, rfl⟩
  rw [hW0]
  have T0 : Touch [] w8 W0 := by rw [← hW0]; exact ((Touch.refl _ _).alloc _).alloc _
  have I0 : ∀ X W, Touch [] W0 W → (∀ k ∈ X, W0.heap.size ≤ k) → SyI w8 (w8.heap.size + 1) X [] W := fun X W t hX => by
    have z0 : W0.heap.size = w8.heap.size + 2 := by rw [← hW0]; simp
    have k0 : W0.heap[w8.heap.size]? = some (.cells #[] 36 (0, 0)) := by rw [← hW0]; exact (Below.heap_alloc _ _ _ (by simp)).trans (heap_alloc_new _ _)
    have k1 : W0.heap[w8.heap.size + 1]? = some (.cells #[.slice (some ⟨w8.heap.size, 0, none⟩) 0 0] 51 (0, 0)) := by
      rw [← hW0]
      have := heap_alloc_new (w8.alloc (.cells #[] 36)) (.cells #[.slice (some ⟨w8.heap.size, 0, none⟩) 0 0] 51)
      rwa [World.size_alloc] at this
    refine ⟨some ⟨w8.heap.size, 0, none⟩, 0, t.keep k1 (by simp), ⟨rfl, Or.inr ⟨_, 0, #[], rfl, Nat.le_refl _, t.keep k0 (by simp), Nat.le_refl _, by unfold maxLen; omega, rfl, rfl⟩⟩, fun g hg hh => ?_, fun hh => by have := hX _ hh; omega, by omega, fun k hk => by have := hX k hk; omega, T0.trans' t⟩
    have e : g = w8.heap.size := by cases hg; rfl
    have := hX _ hh
    omega
  have TW : Touch [] w W0 := (TV.trans' hS8).trans' T0
  have kb : W0.heap[w1.heap.size + 1]? = some (.cells #[.pointer (some ⟨o, 0, none⟩)] 23 (0, 0)) := T0.keep (hS8.keep SV.out.2.2.2.2.1 (by simp)) (by simp)
  have HS4 := hid (fun w' (t : Touch [] w8 w') => s1 w' (hS8.trans' t))
  have HTV := hid (TV.trans' hS8)
  clear s0 s1 s2 s3 s4 s5 s6 s7 G20 G21 G19 G14 G15 G28 ef np nk nB hW0 SV
  refine range_at (s := 11) (p := 77) (w1.heap.size + 1) o F most (x :: ys) rfl rfl (by simp [World.cell?, kb, PT]) (block_lt kb) (H.out.keep0 TW) hxs (SyI w8 (w8.heap.size + 1)) (fun _ _ => False) I0 (fun X pre W W' hi ht => hi.step ht) (fun _ _ _ h _ => h) ?_ ?_ ?_ ?_
  · intro l x W K hK
    unfold ax kv at hK
    unfold kv
    gi_wp2
    exact hK
  · rintro l X pre x b W hi hb hX ⟨post, hpost⟩
    have hbx : W.heap[b]? = some (.cells #[.int .u16 x.1, .string x.2] 36 (0, 0)) := hb
    have b0 : W.cell? ⟨b, 0, none⟩ = some (.int .u16 x.1) := by simp [World.cell?, hbx]
    have b1 : W.cell? ⟨b, 1, none⟩ = some (.string x.2) := by simp [World.cell?, hbx]
    obtain ⟨a9, c9, i1, i2, i3', i4, i5, i6, i7⟩ := hi
    have p0 : W.cell? ⟨w8.heap.size + 1, 0, none⟩ = some (.slice a9 pre.length c9) := by simp [World.cell?, i1]
    have f0 : W.frozen? ⟨w8.heap.size + 1, 0, none⟩ = false := by simp [World.frozen?, i1]
    have hbl := block_lt hb
    have hXl : ∀ k ∈ X, k < W.heap.size := fun k hk => by have := hX k hk; omega
    have hpl : pre.length < 100000 := by have h9 := hxs; rw [hpost] at h9; simp at h9; omega
    have i7s := i7.size
    unfold ax kv
    simp only [List.setIfInBounds_toArray, List.set_cons_zero, List.set_cons_succ]
    have HI := hid (And.intro i1 (And.intro i2 (And.intro i3' (And.intro i4 (And.intro i5 (And.intro i6 (And.intro i7 hXl)))))))
    clear i1 i3' i4 i5 i6 i7 hXl hbx hb hX hpost
    gi_wp2_with (gi_at_builtin; refine wpListIn_append_own_at _ rfl _ _ 51 rfl w8.heap.size 36 i3 (.agg #[.int .u16 0, .string ⟨#[]⟩]) 2 24 Try.underlying51 hi hz0 hz1 hz2 rfl (by decide) (.slice a9 pre.length c9) pre.length (cellsK pre) rfl (i2.alloc _) ⟨W.heap.size, 0, none⟩ 1 1 [.int .u16 x.1, .string x.2] rfl rfl (cell_two_new _ _ _ _) (by simp [Value.oneCell']) (by unfold maxLen; omega) (by omega) (by simp; omega) ?_; intro v' w5 hown' hgrow hnil hat; obtain ⟨g5, c5, rfl⟩ := ownsRow_succ hown'; obtain ⟨j1, j2, j3, j4, j5, j6, j7, j8⟩ := HI.out; have A := hid (SyI.app x j1 j2 j3 j4 j5 j6 j7 j8 hown' hgrow hat); clear hown' hgrow hnil hat j1 j2 j3 j4 j5 j6 j7 j8; have k5 := A.out.1; have q0 : w5.cell? ⟨w8.heap.size + 1, 0, none⟩ = some (.slice a9 pre.length c9) := (by simp [World.cell?, k5]); have q1 : w5.frozen? ⟨w8.heap.size + 1, 0, none⟩ = false := (by simp [World.frozen?, k5]); clear k5)
    exact ⟨A.out.2.1, A.out.2.2⟩
  · rintro X D W hD hDX hi hK
    obtain ⟨a9, c9, i1, i2, i3', i4, i5, i6, i7⟩ := hi
    have p0 : W.cell? ⟨w8.heap.size + 1, 0, none⟩ = some (.slice a9 (x :: ys).length c9) := by simp [World.cell?, i1]
    have p1 := HS4.out W i7
    have HKW := hid (HK.out.keep (HTV.out.trans' i7))
    have HP := hid (own_zero i2)
    have T7 := HTV.out.trans' i7
    have HE := hid (keys27 W _ _ (x :: ys) (by omega) HP.out HKW.out)
    have hDw : w.heap.size ≤ D := Nat.le_trans TW.size hD
    have HKD := hid hK
    rw [← HN.out] at p0 HE
    clear hK i1 i2 i3' i4 i5 i6 i7 HKW HP
    unfold dfr
    gi_wp2
    refine ⟨trivial, rfl, ?_⟩
    refine (callsIn_wide.2 HE.out).mono ?_
    rintro e w9 ⟨rfl, t9⟩
    gi_wp2
    refine ⟨by simp, .inl ⟨_, _, rfl, run_takeDeferred (t9.keep HKD.out (by simp)), ?_⟩⟩
    refine ⟨_, results_tmp rfl _ _ _, rfl, ?_⟩
    exact (T7.trans' t9).trans (touch_putObj (X := [D]) w9 (l := D) (.deferred none) (by simp)) (fun i hi => by simp only [List.mem_singleton] at hi; subst hi; exact Or.inr hDw)
  · intro X D W _ _ h
    exact h.elim
set_option maxRecDepth 100000 in
set_option maxHeartbeats 4000000 in
theorem says10_nil (w : World) (o : Nat) (F : List Nat) (most : Int) (v : Value) (k : K) (hk : Ok k) (h : Oq w o F most ([] : List K)) (hr : RK w v ([] : List K)) :
    Calls Try.prog 10 #[PT o, rv most v, kv k] w fun e w' => e = .returned (.bool true) ∧ Touch [] w w' := by
  refine (callsIn_wide (n := 0)).1 ?_
  obtain ⟨i3, hi, hz0, hz1, hz2⟩ := info_parts info36
  have H := hid h
  have HK := hid hr
  obtain ⟨a, c0, rfl, hc0, hform⟩ := hr.form
  simp only [List.length_nil] at HK
  have hxs : ([] : List K).length < 100000 := by simp
  clear h hr hform
  refine callsIn_of_wp_marks Try.func10 rfl trivial ?_ rfl
  simp only [Try.ntmps10, List.size_toArray, List.length_cons, List.length_nil, Nat.reduceAdd, Nat.reduceSub, Array.replicate_succ, Array.replicate_zero, List.push_toArray, List.append_toArray, List.nil_append, List.cons_append]
  have HO := hid (fun w' (t : Touch [] w w') => oldestO w' o F most ([] : List K) hxs (H.out.keep0 t))
  simp only [List.headD_nil, List.length_nil, Nat.lt_irrefl, decide_false] at HO
  unfold PT kv rv kz at *
  gi_wp2
  refine ⟨trivial, rfl, ?_⟩
  refine (callsIn_wide.2 (HO.out _ (((Touch.refl _ _).alloc _).alloc _))).mono ?_
  rintro e w1 ⟨rfl, t1⟩
  gi_wp2
  refine ⟨trivial, rfl, ?_⟩
  have HA := fun w => all13 w o
  unfold PT at HA
  refine (callsIn_wide.2 (HA _)).mono ?_
  rintro e w2 ⟨rfl, rfl⟩
  gi_wp2
  obtain ⟨V, hV⟩ : ∃ V, V = (w1.alloc (.cells #[.int .u16 0, .string ⟨#[]⟩] 36)).alloc (.cells #[.pointer (some ⟨o, 0, none⟩)] 23) := ⟨_, rfl⟩
  have SV := hid (say_start (x := (0, ⟨#[]⟩)) t1 hV)
  rw [← hV]
  clear hV t1 HO
  have TV := SV.out.1
  have s0 : ∀ w', Touch [] V w' → w'.cell? ⟨w.heap.size, 0, none⟩ = some (.int .i64 most) := fun w' t => by have := t.keep SV.out.2.1 (by simp); simp [World.cell?, this]
  have s1 : ∀ w', Touch [] V w' → w'.cell? ⟨w.heap.size, 1, none⟩ = some (.slice a 0 c0) := fun w' t => by have := t.keep SV.out.2.1 (by simp); simp [World.cell?, this]
  have s2 : ∀ w', Touch [] V w' → w'.cell? ⟨w.heap.size + 1, 0, none⟩ = some (.int .u16 k.1) := fun w' t => by have := t.keep SV.out.2.2.1 (by simp); simp [World.cell?, this]
  have s3 : ∀ w', Touch [] V w' → w'.cell? ⟨w.heap.size + 1, 1, none⟩ = some (.string k.2) := fun w' t => by have := t.keep SV.out.2.2.1 (by simp); simp [World.cell?, this]
  have s4 : ∀ w', Touch [] V w' → w'.cell? ⟨w1.heap.size, 0, none⟩ = some (.int .u16 0) := fun w' t => by have := t.keep SV.out.2.2.2.1 (by simp); simp [World.cell?, this]
  have s5 : ∀ w', Touch [] V w' → w'.cell? ⟨w1.heap.size, 1, none⟩ = some (.string ⟨#[]⟩) := fun w' t => by have := t.keep SV.out.2.2.2.1 (by simp); simp [World.cell?, this]
  have G20 := hid (fun w' (t : Touch [] V w') => lenO w' o F most ([] : List K) (H.out.keep0 (TV.trans' t)))
  have G21 := hid (fun w' (t : Touch [] V w') => mostO w' o F most ([] : List K) (H.out.keep0 (TV.trans' t)))
  have G19 := hid (fun w' (t : Touch [] V w') => hasO w' o F most ([] : List K) k hk (H.out.keep0 (TV.trans' t)))
  have G14 := hid (fun w' => ref14 w' k)
  have G15 := hid (fun w' => ref14 w' (0, ⟨#[]⟩))
  have G28 := hid (fun w' (t : Touch [] V w') => rhas28 w' most _ ([] : List K) k (by simp) (HK.out.keep (TV.trans' t)))
  have ef := fun w => eqf w (w1.heap.size + 1)
  have np := fun w => neqp w (0, ⟨#[]⟩) (0, ⟨#[]⟩)
  rw [decide_eq_false (fun h => h rfl)] at np
  have nk := fun w => neqk w (0, ⟨#[]⟩) (0, ⟨#[]⟩)
  rw [decide_eq_false (fun h => h rfl)] at nk
  simp only [List.length_nil] at G20
  unfold PT kv rv at *
  generalize hs ([] : List K) k = B at *
  have nB : (B != B) = false := by simp
  refine wpIn_wide.2 (wp_region_noPanic ?_)
  refine wp_region_H (S := (fun w' => Touch [] V w')) (by kernel_rfl) ?_
  have hS0 : Touch [] V V.drew := (Touch.refl _ _).drew
  refine wpH_take (i := 0) (v := .func (.func 32) #[] #[.pointer (some ⟨w1.heap.size + 1, 0, none⟩)]) (some 19) rfl rfl (by kernel_rfl) (by kernel_rfl) (by kernel_rfl) (fun _ _ _ h => h) (Or.inl ⟨by rfl, fun w' hS => (by go_simp)⟩) hS0 ?_
  try simp only [Go.Act.put, List.setIfInBounds_toArray, List.set_cons_zero, List.set_cons_succ]
  refine wpH_take (i := 1) (v := .bool false) (some 20) rfl rfl (by kernel_rfl) (by kernel_rfl) (by kernel_rfl) (fun _ _ _ h => h) (Or.inl ⟨by rfl, fun w' hS => (by go_simp)⟩) hS0 ?_
  try simp only [Go.Act.put, List.setIfInBounds_toArray, List.set_cons_zero, List.set_cons_succ]
  refine wpH_take (i := 2) (v := .bool false) (some 21) rfl rfl (by kernel_rfl) (by kernel_rfl) (by kernel_rfl) (fun _ _ _ h => h) (Or.inl ⟨by rfl, fun w' hS => (by go_simp)⟩) hS0 ?_
  try simp only [Go.Act.put, List.setIfInBounds_toArray, List.set_cons_zero, List.set_cons_succ]
  refine wpH_take (i := 3) (v := .pointer (some ⟨o, 0, none⟩)) (some 22) rfl rfl (by kernel_rfl) (by kernel_rfl) (by kernel_rfl) (fun _ _ _ h => h) (Or.inl ⟨by rfl, fun w' hS => (by go_simp)⟩) hS0 ?_
  try simp only [Go.Act.put, List.setIfInBounds_toArray, List.set_cons_zero, List.set_cons_succ]
  refine wpH_take (i := 5) (v := .pointer (some ⟨w.heap.size, 1, none⟩)) (some 24) rfl rfl (by kernel_rfl) (by kernel_rfl) (by kernel_rfl) (fun _ _ _ h => h) (Or.inl ⟨by rfl, fun w' hS => (by go_simp)⟩) hS0 ?_
  try simp only [Go.Act.put, List.setIfInBounds_toArray, List.set_cons_zero, List.set_cons_succ]
  refine wpH_take (i := 6) (v := .slice a 0 c0) (some 25) rfl rfl (by kernel_rfl) (by kernel_rfl) (by kernel_rfl) (fun _ _ _ h => h) (Or.inl ⟨by rfl, fun w' hS => (by have z0 := s1 _ hS; go_simp)⟩) hS0 ?_
  try simp only [Go.Act.put, List.setIfInBounds_toArray, List.set_cons_zero, List.set_cons_succ]
  refine wpH_take (i := 7) (v := .int .i64 0) (some 26) rfl rfl (by kernel_rfl) (by kernel_rfl) (by kernel_rfl) (fun _ _ _ h => h) (Or.inl ⟨by rfl, fun w' hS => (by go_simp)⟩) hS0 ?_
  try simp only [Go.Act.put, List.setIfInBounds_toArray, List.set_cons_zero, List.set_cons_succ]
  refine wpH_call (i := 4) (o := { dst := some 23, op := Op.call { callee := Callee.value (Operand.func 20), args := #[Operand.tmp 22], argTypes := #[23] }, type := 3, pos := _, after := #[{ on := 3, ground := Ground.data }, { on := 2, ground := Ground.chain }, { on := 2, ground := Ground.guard }], guard := some (2, false) }) (by kernel_rfl) rfl (fun K' hK => ?_)
  rw [if_pos (by rfl)]
  go_simp
  refine ((G20.out _ hS0)).mono ?_
  rintro e w3 ⟨rfl, t3⟩
  have hS3 : Touch [] V w3 := by rw [t3]; exact hS0
  clear t3
  refine hK.out _ _ hS3 ?_
  clear hK
  try simp only [Go.Act.put, List.setIfInBounds_toArray, List.set_cons_zero, List.set_cons_succ]
  refine wpH_take (i := 8) (v := .bool false) (some 27) rfl rfl (by kernel_rfl) (by kernel_rfl) (by kernel_rfl) (fun _ _ _ h => h) (Or.inl ⟨by rfl, fun w' hS => (by go_simp)⟩) hS3 ?_
  try simp only [Go.Act.put, List.setIfInBounds_toArray, List.set_cons_zero, List.set_cons_succ]
  refine wpH_take (i := 9) (v := .bool false) (some 28) rfl rfl (by kernel_rfl) (by kernel_rfl) (by kernel_rfl) (fun _ _ _ h => h) (Or.inl ⟨by rfl, fun w' hS => (by go_simp)⟩) hS3 ?_
  try simp only [Go.Act.put, List.setIfInBounds_toArray, List.set_cons_zero, List.set_cons_succ]
  refine wpH_take (i := 10) (v := .bool false) (some 29) rfl rfl (by kernel_rfl) (by kernel_rfl) (by kernel_rfl) (fun _ _ _ h => h) (Or.inl ⟨by rfl, fun w' hS => (by go_simp)⟩) hS3 ?_
  try simp only [Go.Act.put, List.setIfInBounds_toArray, List.set_cons_zero, List.set_cons_succ]
  refine wpH_take (i := 11) (v := .pointer (some ⟨o, 0, none⟩)) (some 30) rfl rfl (by kernel_rfl) (by kernel_rfl) (by kernel_rfl) (fun _ _ _ h => h) (Or.inl ⟨by rfl, fun w' hS => (by go_simp)⟩) hS3 ?_
  try simp only [Go.Act.put, List.setIfInBounds_toArray, List.set_cons_zero, List.set_cons_succ]
  refine wpH_take (i := 13) (v := .pointer (some ⟨w.heap.size, 0, none⟩)) (some 32) rfl rfl (by kernel_rfl) (by kernel_rfl) (by kernel_rfl) (fun _ _ _ h => h) (Or.inl ⟨by rfl, fun w' hS => (by go_simp)⟩) hS3 ?_
  try simp only [Go.Act.put, List.setIfInBounds_toArray, List.set_cons_zero, List.set_cons_succ]
  refine wpH_take (i := 14) (v := .int .i64 most) (some 33) rfl rfl (by kernel_rfl) (by kernel_rfl) (by kernel_rfl) (fun _ _ _ h => h) (Or.inl ⟨by rfl, fun w' hS => (by have z0 := s0 _ hS; go_simp)⟩) hS3 ?_
  try simp only [Go.Act.put, List.setIfInBounds_toArray, List.set_cons_zero, List.set_cons_succ]
  refine wpH_call (i := 12) (o := { dst := some 31, op := Op.call { callee := Callee.value (Operand.func 21), args := #[Operand.tmp 30], argTypes := #[23] }, type := 3, pos := _, after := #[{ on := 11, ground := Ground.data }, { on := 10, ground := Ground.chain }, { on := 10, ground := Ground.guard }], guard := some (10, false) }) (by kernel_rfl) rfl (fun K' hK => ?_)
  rw [if_pos (by rfl)]
  go_simp
  refine ((G21.out _ hS3)).mono ?_
  rintro e w4 ⟨rfl, t4⟩
  have hS4 : Touch [] V w4 := by rw [t4]; exact hS3
  clear t4
  refine hK.out _ _ hS4 ?_
  clear hK
  try simp only [Go.Act.put, List.setIfInBounds_toArray, List.set_cons_zero, List.set_cons_succ]
  refine wpH_take (i := 15) (v := .bool false) (some 34) rfl rfl (by kernel_rfl) (by kernel_rfl) (by kernel_rfl) (fun _ _ _ h => h) (Or.inl ⟨by rfl, fun w' hS => (by go_simp)⟩) hS4 ?_
  try simp only [Go.Act.put, List.setIfInBounds_toArray, List.set_cons_zero, List.set_cons_succ]
  refine wpH_take (i := 16) (v := .bool false) (some 35) rfl rfl (by kernel_rfl) (by kernel_rfl) (by kernel_rfl) (fun _ _ _ h => h) (Or.inl ⟨by rfl, fun w' hS => (by go_simp)⟩) hS4 ?_
  try simp only [Go.Act.put, List.setIfInBounds_toArray, List.set_cons_zero, List.set_cons_succ]
  refine wpH_take (i := 17) (v := .bool false) (some 36) rfl rfl (by kernel_rfl) (by kernel_rfl) (by kernel_rfl) (fun _ _ _ h => h) (Or.inl ⟨by rfl, fun w' hS => (by go_simp)⟩) hS4 ?_
  try simp only [Go.Act.put, List.setIfInBounds_toArray, List.set_cons_zero, List.set_cons_succ]
  refine wpH_take (i := 18) (v := .pointer (some ⟨o, 0, none⟩)) (some 37) rfl rfl (by kernel_rfl) (by kernel_rfl) (by kernel_rfl) (fun _ _ _ h => h) (Or.inl ⟨by rfl, fun w' hS => (by go_simp)⟩) hS4 ?_
  try simp only [Go.Act.put, List.setIfInBounds_toArray, List.set_cons_zero, List.set_cons_succ]
  refine wpH_take (i := 19) (v := .agg #[.int .u16 k.1, .string k.2]) (some 38) rfl rfl (by kernel_rfl) (by kernel_rfl) (by kernel_rfl) (fun _ _ _ h => h) (Or.inl ⟨by rfl, fun w' hS => (by have z0 := s2 _ hS; have z1 := s3 _ hS; go_simp)⟩) hS4 ?_
  try simp only [Go.Act.put, List.setIfInBounds_toArray, List.set_cons_zero, List.set_cons_succ]
  refine wpH_take (i := 21) (v := .agg #[.int .i64 most, .slice a 0 c0]) (some 40) rfl rfl (by kernel_rfl) (by kernel_rfl) (by kernel_rfl) (fun _ _ _ h => h) (Or.inl ⟨by rfl, fun w' hS => (by have z0 := s0 _ hS; have z1 := s1 _ hS; go_simp)⟩) hS4 ?_
  try simp only [Go.Act.put, List.setIfInBounds_toArray, List.set_cons_zero, List.set_cons_succ]
  refine wpH_take (i := 22) (v := .agg #[.int .u16 k.1, .string k.2]) (some 41) rfl rfl (by kernel_rfl) (by kernel_rfl) (by kernel_rfl) (fun _ _ _ h => h) (Or.inl ⟨by rfl, fun w' hS => (by have z0 := s2 _ hS; have z1 := s3 _ hS; go_simp)⟩) hS4 ?_
  try simp only [Go.Act.put, List.setIfInBounds_toArray, List.set_cons_zero, List.set_cons_succ]
  refine wpH_call (i := 20) (o := { dst := some 39, op := Op.call { callee := Callee.value (Operand.func 19), args := #[Operand.tmp 37, Operand.tmp 38], argTypes := #[23, 36] }, type := 4, pos := _, after := #[{ on := 18, ground := Ground.data }, { on := 19, ground := Ground.data }, { on := 17, ground := Ground.chain }, { on := 17, ground := Ground.guard }], guard := some (17, false) }) (by kernel_rfl) rfl (fun K' hK => ?_)
  rw [if_pos (by rfl)]
  go_simp
  refine ((G19.out _ hS4)).mono ?_
  rintro e w5 ⟨rfl, t5⟩
  have hS5 := hS4.trans' t5
  clear t5
  refine hK.out _ _ hS5 ?_
  clear hK
  try simp only [Go.Act.put, List.setIfInBounds_toArray, List.set_cons_zero, List.set_cons_succ]
  refine wpH_call (i := 23) (o := { dst := some 42, op := Op.call { callee := Callee.value (Operand.func 14), args := #[Operand.tmp 41], argTypes := #[36] }, type := 44, pos := _, after := #[{ on := 22, ground := Ground.data }, { on := 20, ground := Ground.chain }, { on := 17, ground := Ground.guard }], guard := some (17, false) }) (by kernel_rfl) rfl (fun K' hK => ?_)
  rw [if_pos (by rfl)]
  go_simp
  refine ((G14.out _)).mono ?_
  rintro e w6 ⟨rfl, t6⟩
  have hS6 := hS5.trans' t6
  clear t6
  refine hK.out _ _ hS6 ?_
  clear hK
  try simp only [Go.Act.put, List.setIfInBounds_toArray, List.set_cons_zero, List.set_cons_succ]
  refine wpH_call (i := 24) (o := { dst := some 43, op := Op.call { callee := Callee.value (Operand.func 28), args := #[Operand.tmp 40, Operand.tmp 42], argTypes := #[31, 44] }, type := 4, pos := _, after := #[{ on := 21, ground := Ground.data }, { on := 23, ground := Ground.data }, { on := 23, ground := Ground.chain }, { on := 17, ground := Ground.guard }], guard := some (17, false) }) (by kernel_rfl) rfl (fun K' hK => ?_)
  rw [if_pos (by rfl)]
  go_simp
  refine ((G28.out _ hS6)).mono ?_
  rintro e w7 ⟨rfl, t7⟩
  have hS7 := hS6.trans' t7
  clear t7
  refine hK.out _ _ hS7 ?_
  clear hK
  try simp only [Go.Act.put, List.setIfInBounds_toArray, List.set_cons_zero, List.set_cons_succ]
  refine wpH_take (i := 25) (v := .bool false) (some 44) rfl rfl (by kernel_rfl) (by kernel_rfl) (by kernel_rfl) (fun _ _ _ h => h) (Or.inl ⟨by rfl, fun w' hS => (by go_simp)⟩) hS7 ?_
  try simp only [Go.Act.put, List.setIfInBounds_toArray, List.set_cons_zero, List.set_cons_succ]
  refine wpH_take (i := 26) (v := .bool false) (some 45) rfl rfl (by kernel_rfl) (by kernel_rfl) (by kernel_rfl) (fun _ _ _ h => h) (Or.inl ⟨by rfl, fun w' hS => (by go_simp)⟩) hS7 ?_
  try simp only [Go.Act.put, List.setIfInBounds_toArray, List.set_cons_zero, List.set_cons_succ]
  refine wpH_take (i := 27) (v := .bool false) (some 46) rfl rfl (by kernel_rfl) (by kernel_rfl) (by kernel_rfl) (fun _ _ _ h => h) (Or.inl ⟨by rfl, fun w' hS => (by go_simp)⟩) hS7 ?_
  try simp only [Go.Act.put, List.setIfInBounds_toArray, List.set_cons_zero, List.set_cons_succ]
  refine wpH_take (i := 28) (v := .bool false) (some 47) rfl rfl (by kernel_rfl) (by kernel_rfl) (by kernel_rfl) (fun _ _ _ h => h) (Or.inl ⟨by rfl, fun w' hS => (by go_simp)⟩) hS7 ?_
  try simp only [Go.Act.put, List.setIfInBounds_toArray, List.set_cons_zero, List.set_cons_succ]
  refine wpH_take (i := 29) (v := .pointer (some ⟨w.heap.size, 1, none⟩)) (some 48) rfl rfl (by kernel_rfl) (by kernel_rfl) (by kernel_rfl) (fun _ _ _ h => h) (Or.inl ⟨by rfl, fun w' hS => (by go_simp)⟩) hS7 ?_
  try simp only [Go.Act.put, List.setIfInBounds_toArray, List.set_cons_zero, List.set_cons_succ]
  refine wpH_take (i := 30) (v := .slice a 0 c0) (some 49) rfl rfl (by kernel_rfl) (by kernel_rfl) (by kernel_rfl) (fun _ _ _ h => h) (Or.inl ⟨by rfl, fun w' hS => (by have z0 := s1 _ hS; go_simp)⟩) hS7 ?_
  try simp only [Go.Act.put, List.setIfInBounds_toArray, List.set_cons_zero, List.set_cons_succ]
  refine wpH_take (i := 31) (v := .int .i64 0) (some 50) rfl rfl (by kernel_rfl) (by kernel_rfl) (by kernel_rfl) (fun _ _ _ h => h) (Or.inl ⟨by rfl, fun w' hS => (by go_simp)⟩) hS7 ?_
  try simp only [Go.Act.put, List.setIfInBounds_toArray, List.set_cons_zero, List.set_cons_succ]
  refine wpH_take (i := 32) (v := .bool false) (some 51) rfl rfl (by kernel_rfl) (by kernel_rfl) (by kernel_rfl) (fun _ _ _ h => h) (Or.inl ⟨by rfl, fun w' hS => (by go_simp)⟩) hS7 ?_
  try simp only [Go.Act.put, List.setIfInBounds_toArray, List.set_cons_zero, List.set_cons_succ]
  refine wpH_take (i := 33) (v := .bool false) (some 52) rfl rfl (by kernel_rfl) (by kernel_rfl) (by kernel_rfl) (fun _ _ _ h => h) (Or.inl ⟨by rfl, fun w' hS => (by go_simp)⟩) hS7 ?_
  try simp only [Go.Act.put, List.setIfInBounds_toArray, List.set_cons_zero, List.set_cons_succ]
  refine wpH_take (i := 34) (v := .bool false) (some 53) rfl rfl (by kernel_rfl) (by kernel_rfl) (by kernel_rfl) (fun _ _ _ h => h) (Or.inl ⟨by rfl, fun w' hS => (by go_simp)⟩) hS7 ?_
  try simp only [Go.Act.put, List.setIfInBounds_toArray, List.set_cons_zero, List.set_cons_succ]
  refine wpH_take (i := 35) (v := .bool false) (some 54) rfl rfl (by kernel_rfl) (by kernel_rfl) (by kernel_rfl) (fun _ _ _ h => h) (Or.inl ⟨by rfl, fun w' hS => (by go_simp)⟩) hS7 ?_
  try simp only [Go.Act.put, List.setIfInBounds_toArray, List.set_cons_zero, List.set_cons_succ]
  refine wpH_take (i := 36) (v := .bool false) (some 55) rfl rfl (by kernel_rfl) (by kernel_rfl) (by kernel_rfl) (fun _ _ _ h => h) (Or.inl ⟨by rfl, fun w' hS => (by go_simp)⟩) hS7 ?_
  try simp only [Go.Act.put, List.setIfInBounds_toArray, List.set_cons_zero, List.set_cons_succ]
  refine wpH_take (i := 37) (v := .bool false) (some 56) rfl rfl (by kernel_rfl) (by kernel_rfl) (by kernel_rfl) (fun _ _ _ h => h) (Or.inl ⟨by rfl, fun w' hS => (by go_simp)⟩) hS7 ?_
  try simp only [Go.Act.put, List.setIfInBounds_toArray, List.set_cons_zero, List.set_cons_succ]
  refine wpH_take (i := 38) (v := undef) (some 57) rfl rfl (by kernel_rfl) (by kernel_rfl) (by kernel_rfl) (fun _ _ _ h => h) (Or.inr ⟨by rfl, rfl⟩) hS7 ?_
  try simp only [Go.Act.put, List.setIfInBounds_toArray, List.set_cons_zero, List.set_cons_succ]
  refine wpH_take (i := 39) (v := undef) (some 58) rfl rfl (by kernel_rfl) (by kernel_rfl) (by kernel_rfl) (fun _ _ _ h => h) (Or.inr ⟨by rfl, rfl⟩) hS7 ?_
  try simp only [Go.Act.put, List.setIfInBounds_toArray, List.set_cons_zero, List.set_cons_succ]
  refine wpH_take (i := 40) (v := undef) (some 59) rfl rfl (by kernel_rfl) (by kernel_rfl) (by kernel_rfl) (fun _ _ _ h => h) (Or.inr ⟨by rfl, rfl⟩) hS7 ?_
  try simp only [Go.Act.put, List.setIfInBounds_toArray, List.set_cons_zero, List.set_cons_succ]
  refine wpH_take (i := 41) (v := undef) (some 60) rfl rfl (by kernel_rfl) (by kernel_rfl) (by kernel_rfl) (fun _ _ _ h => h) (Or.inr ⟨by rfl, rfl⟩) hS7 ?_
  try simp only [Go.Act.put, List.setIfInBounds_toArray, List.set_cons_zero, List.set_cons_succ]
  refine wpH_take (i := 42) (v := undef) (some 61) rfl rfl (by kernel_rfl) (by kernel_rfl) (by kernel_rfl) (fun _ _ _ h => h) (Or.inr ⟨by rfl, rfl⟩) hS7 ?_
  try simp only [Go.Act.put, List.setIfInBounds_toArray, List.set_cons_zero, List.set_cons_succ]
  refine wpH_take (i := 43) (v := undef) (some 62) rfl rfl (by kernel_rfl) (by kernel_rfl) (by kernel_rfl) (fun _ _ _ h => h) (Or.inr ⟨by rfl, rfl⟩) hS7 ?_
  try simp only [Go.Act.put, List.setIfInBounds_toArray, List.set_cons_zero, List.set_cons_succ]
  refine wpH_take (i := 44) (v := undef) (some 63) rfl rfl (by kernel_rfl) (by kernel_rfl) (by kernel_rfl) (fun _ _ _ h => h) (Or.inr ⟨by rfl, rfl⟩) hS7 ?_
  try simp only [Go.Act.put, List.setIfInBounds_toArray, List.set_cons_zero, List.set_cons_succ]
  refine wpH_take (i := 45) (v := .bool false) (some 64) rfl rfl (by kernel_rfl) (by kernel_rfl) (by kernel_rfl) (fun _ _ _ h => h) (Or.inl ⟨by rfl, fun w' hS => (by go_simp)⟩) hS7 ?_
  try simp only [Go.Act.put, List.setIfInBounds_toArray, List.set_cons_zero, List.set_cons_succ]
  refine wpH_take (i := 46) (v := .bool false) (some 65) rfl rfl (by kernel_rfl) (by kernel_rfl) (by kernel_rfl) (fun _ _ _ h => h) (Or.inl ⟨by rfl, fun w' hS => (by go_simp)⟩) hS7 ?_
  try simp only [Go.Act.put, List.setIfInBounds_toArray, List.set_cons_zero, List.set_cons_succ]
  refine wpH_take (i := 47) (v := .bool false) (some 66) rfl rfl (by kernel_rfl) (by kernel_rfl) (by kernel_rfl) (fun _ _ _ h => h) (Or.inl ⟨by rfl, fun w' hS => (by go_simp)⟩) hS7 ?_
  try simp only [Go.Act.put, List.setIfInBounds_toArray, List.set_cons_zero, List.set_cons_succ]
  refine wpH_take (i := 48) (v := .bool false) (some 67) rfl rfl (by kernel_rfl) (by kernel_rfl) (by kernel_rfl) (fun _ _ _ h => h) (Or.inl ⟨by rfl, fun w' hS => (by go_simp)⟩) hS7 ?_
  try simp only [Go.Act.put, List.setIfInBounds_toArray, List.set_cons_zero, List.set_cons_succ]
  refine wpH_take (i := 49) (v := .bool true) (some 68) rfl rfl (by kernel_rfl) (by kernel_rfl) (by kernel_rfl) (fun _ _ _ h => h) (Or.inl ⟨by rfl, fun w' hS => (by go_simp)⟩) hS7 ?_
  try simp only [Go.Act.put, List.setIfInBounds_toArray, List.set_cons_zero, List.set_cons_succ]
  refine wpH_take (i := 50) (v := .bool true) (some 69) rfl rfl (by kernel_rfl) (by kernel_rfl) (by kernel_rfl) (fun _ _ _ h => h) (Or.inl ⟨by rfl, fun w' hS => (by go_simp)⟩) hS7 ?_
  try simp only [Go.Act.put, List.setIfInBounds_toArray, List.set_cons_zero, List.set_cons_succ]
  refine wpH_take (i := 51) (v := .agg #[.int .u16 0, .string ⟨#[]⟩]) (some 70) rfl rfl (by kernel_rfl) (by kernel_rfl) (by kernel_rfl) (fun _ _ _ h => h) (Or.inl ⟨by rfl, fun w' hS => (by have z0 := s4 _ hS; have z1 := s5 _ hS; go_simp)⟩) hS7 ?_
  try simp only [Go.Act.put, List.setIfInBounds_toArray, List.set_cons_zero, List.set_cons_succ]
  refine wpH_take (i := 52) (v := .agg #[.int .u16 0, .string ⟨#[]⟩]) (some 71) rfl rfl (by kernel_rfl) (by kernel_rfl) (by kernel_rfl) (fun _ _ _ h => h) (Or.inl ⟨by rfl, fun w' hS => (by go_simp)⟩) hS7 ?_
  try simp only [Go.Act.put, List.setIfInBounds_toArray, List.set_cons_zero, List.set_cons_succ]
  refine wpH_take (i := 53) (v := .bool false) (some 72) rfl rfl (by kernel_rfl) (by kernel_rfl) (by kernel_rfl) (fun _ _ _ h => h) (Or.inl ⟨by rfl, fun w' hS => (by go_simp)⟩) hS7 ?_
  try simp only [Go.Act.put, List.setIfInBounds_toArray, List.set_cons_zero, List.set_cons_succ]
  refine wpH_take (i := 54) (v := .bool false) (some 73) rfl rfl (by kernel_rfl) (by kernel_rfl) (by kernel_rfl) (fun _ _ _ h => h) (Or.inl ⟨by rfl, fun w' hS => (by go_simp)⟩) hS7 ?_
  try simp only [Go.Act.put, List.setIfInBounds_toArray, List.set_cons_zero, List.set_cons_succ]
  refine wpH_take (i := 55) (v := .bool false) (some 74) rfl rfl (by kernel_rfl) (by kernel_rfl) (by kernel_rfl) (fun _ _ _ h => h) (Or.inl ⟨by rfl, fun w' hS => (by go_simp)⟩) hS7 ?_
  try simp only [Go.Act.put, List.setIfInBounds_toArray, List.set_cons_zero, List.set_cons_succ]
  refine wpAnyH_done (by kernel_rfl) ?_ _
  refine NoPanic.normal ?_
  gi_wp2
  obtain ⟨W0, hW0⟩ : ∃ W0, (w7.alloc (.cells #[] 36)).alloc (.cells #[.slice (some ⟨w7.heap.size, 0, none⟩) 0 0] 51) = W0 := ⟨_, rfl⟩
  rw [hW0]
  have T0 : Touch [] w7 W0 := by rw [← hW0]; exact ((Touch.refl _ _).alloc _).alloc _
  have I0 : ∀ X W, Touch [] W0 W → (∀ k ∈ X, W0.heap.size ≤ k) → SyI w7 (w7.heap.size + 1) X [] W := fun X W t hX => by
    have z0 : W0.heap.size = w7.heap.size + 2 := by rw [← hW0]; simp
    have k0 : W0.heap[w7.heap.size]? = some (.cells #[] 36 (0, 0)) := by rw [← hW0]; exact (Below.heap_alloc _ _ _ (by simp)).trans (heap_alloc_new _ _)
    have k1 : W0.heap[w7.heap.size + 1]? = some (.cells #[.slice (some ⟨w7.heap.size, 0, none⟩) 0 0] 51 (0, 0)) := by
      rw [← hW0]
      have := heap_alloc_new (w7.alloc (.cells #[] 36)) (.cells #[.slice (some ⟨w7.heap.size, 0, none⟩) 0 0] 51)
      rwa [World.size_alloc] at this
    refine ⟨some ⟨w7.heap.size, 0, none⟩, 0, t.keep k1 (by simp), ⟨rfl, Or.inr ⟨_, 0, #[], rfl, Nat.le_refl _, t.keep k0 (by simp), Nat.le_refl _, by unfold maxLen; omega, rfl, rfl⟩⟩, fun g hg hh => ?_, fun hh => by have := hX _ hh; omega, by omega, fun k hk => by have := hX k hk; omega, T0.trans' t⟩
    have e : g = w7.heap.size := by cases hg; rfl
    have := hX _ hh
    omega
  have TW : Touch [] w W0 := (TV.trans' hS7).trans' T0
  have kb : W0.heap[w1.heap.size + 1]? = some (.cells #[.pointer (some ⟨o, 0, none⟩)] 23 (0, 0)) := T0.keep (hS7.keep SV.out.2.2.2.2.1 (by simp)) (by simp)
  have HS4 := hid (fun w' (t : Touch [] w7 w') => s1 w' (hS7.trans' t))
  have HTV := hid (TV.trans' hS7)
  clear s0 s1 s2 s3 s4 s5  G20 G21 G19 G14 G15 G28 ef np nk nB hW0 SV
  refine range_at (s := 11) (p := 77) (w1.heap.size + 1) o F most ([] : List K) rfl rfl (by simp [World.cell?, kb, PT]) (block_lt kb) (H.out.keep0 TW) hxs (SyI w7 (w7.heap.size + 1)) (fun _ _ => False) I0 (fun X pre W W' hi ht => hi.step ht) (fun _ _ _ h _ => h) ?_ ?_ ?_ ?_
  · intro l x W K hK
    unfold ax kv at hK
    unfold kv
    gi_wp2
    exact hK
  · rintro l X pre x b W hi hb hX ⟨post, hpost⟩
    have hbx : W.heap[b]? = some (.cells #[.int .u16 x.1, .string x.2] 36 (0, 0)) := hb
    have b0 : W.cell? ⟨b, 0, none⟩ = some (.int .u16 x.1) := by simp [World.cell?, hbx]
    have b1 : W.cell? ⟨b, 1, none⟩ = some (.string x.2) := by simp [World.cell?, hbx]
    obtain ⟨a9, c9, i1, i2, i3', i4, i5, i6, i7⟩ := hi
    have p0 : W.cell? ⟨w7.heap.size + 1, 0, none⟩ = some (.slice a9 pre.length c9) := by simp [World.cell?, i1]
    have f0 : W.frozen? ⟨w7.heap.size + 1, 0, none⟩ = false := by simp [World.frozen?, i1]
    have hbl := block_lt hb
    have hXl : ∀ k ∈ X, k < W.heap.size := fun k hk => by have := hX k hk; omega
    have hpl : pre.length < 100000 := by have h9 := hxs; rw [hpost] at h9; simp at h9; omega
    have i7s := i7.size
    unfold ax kv
    simp only [List.setIfInBounds_toArray, List.set_cons_zero, List.set_cons_succ]
    have HI := hid (And.intro i1 (And.intro i2 (And.intro i3' (And.intro i4 (And.intro i5 (And.intro i6 (And.intro i7 hXl)))))))
    clear i1 i3' i4 i5 i6 i7 hXl hbx hb hX hpost
    gi_wp2_with (gi_at_builtin; refine wpListIn_append_own_at _ rfl _ _ 51 rfl w7.heap.size 36 i3 (.agg #[.int .u16 0, .string ⟨#[]⟩]) 2 24 Try.underlying51 hi hz0 hz1 hz2 rfl (by decide) (.slice a9 pre.length c9) pre.length (cellsK pre) rfl (i2.alloc _) ⟨W.heap.size, 0, none⟩ 1 1 [.int .u16 x.1, .string x.2] rfl rfl (cell_two_new _ _ _ _) (by simp [Value.oneCell']) (by unfold maxLen; omega) (by omega) (by simp; omega) ?_; intro v' w5 hown' hgrow hnil hat; obtain ⟨g5, c5, rfl⟩ := ownsRow_succ hown'; obtain ⟨j1, j2, j3, j4, j5, j6, j7, j8⟩ := HI.out; have A := hid (SyI.app x j1 j2 j3 j4 j5 j6 j7 j8 hown' hgrow hat); clear hown' hgrow hnil hat j1 j2 j3 j4 j5 j6 j7 j8; have k5 := A.out.1; have q0 : w5.cell? ⟨w7.heap.size + 1, 0, none⟩ = some (.slice a9 pre.length c9) := (by simp [World.cell?, k5]); have q1 : w5.frozen? ⟨w7.heap.size + 1, 0, none⟩ = false := (by simp [World.frozen?, k5]); clear k5)
    exact ⟨A.out.2.1, A.out.2.2⟩
  · rintro X D W hD hDX hi hK
    obtain ⟨a9, c9, i1, i2, i3', i4, i5, i6, i7⟩ := hi
    have p0 : W.cell? ⟨w7.heap.size + 1, 0, none⟩ = some (.slice a9 ([] : List K).length c9) := by simp [World.cell?, i1]
    have p1 := HS4.out W i7
    have HKW := hid (HK.out.keep (HTV.out.trans' i7))
    have HP := hid (own_zero i2)
    have T7 := HTV.out.trans' i7
    have HE := hid (keys27 W _ _ ([] : List K) (by simp) HP.out HKW.out)
    have hDw : w.heap.size ≤ D := Nat.le_trans TW.size hD
    have HKD := hid hK
    simp only [List.length_nil] at p0 HE
    clear hK i1 i2 i3' i4 i5 i6 i7 HKW HP
    unfold dfr
    gi_wp2
    refine ⟨trivial, rfl, ?_⟩
    refine (callsIn_wide.2 HE.out).mono ?_
    rintro e w9 ⟨rfl, t9⟩
    gi_wp2
    refine ⟨by simp, .inl ⟨_, _, rfl, run_takeDeferred (t9.keep HKD.out (by simp)), ?_⟩⟩
    refine ⟨_, results_tmp rfl _ _ _, rfl, ?_⟩
    exact (T7.trans' t9).trans (touch_putObj (X := [D]) w9 (l := D) (.deferred none) (by simp)) (fun i hi => by simp only [List.mem_singleton] at hi; subst hi; exact Or.inr hDw)
  · intro X D W _ _ h
    exact h.elim
theorem saysO (w : World) (o : Nat) (F : List Nat) (most : Int) (v : Value) (k : K) (xs : List K) (hl : xs.length ≤ 70000) (hk : Ok k) (h : Oq w o F most xs) (hr : RK w v xs) :
    Calls Try.prog 10 #[PT o, rv most v, kv k] w fun e w' => e = .returned (.bool true) ∧ Touch [] w w' := by
  cases xs with
  | nil => exact says10_nil w o F most v k hk h hr
  | cons x ys => exact says10_cons w o F most v k x ys hl hk h hr
end Go.Proofs.Ytjcdloijodfpgaa
