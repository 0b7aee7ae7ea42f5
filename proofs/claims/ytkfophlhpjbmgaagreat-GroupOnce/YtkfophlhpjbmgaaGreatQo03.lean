/- Contracts of see, Get and Look; no conditions but those that each states. -/
import Derived.Test.YtkfophlhpjbmgaaGreatQo02
import Derived.Test.YtkfophlhpjbmgaaGreatQo01
import Derived.Deep.CutRange
import Derived.Deep.CutBlock
import Derived.Laws.MakeOwn
import Derived.Laws.OwnMore
import Derived.Shelf.SlMaps.Clone
set_option linter.unusedVariables false
set_option linter.unusedSimpArgs false
set_option maxRecDepth 100000
namespace Go.Proofs.YtkfophlhpjbmgaaGreat.Me
open Go.RowKit Go.Sort Go.Maps Go.ChangeMaps Go.WideMaps
set_option maxHeartbeats 4000000 in
theorem see50_yes (w : World) (m b o : Nat) (G : List Nat) (c : Cf) (now : Int) (xs : List En) (h : Mb w m b o G c now xs) (k : K) (hk : Ok k) (v : V) (hf : fnd xs k = some v) :
  Calls Tryz.prog 126 #[PT m, kv k] w fun e w' => e = .returned (lv (howC c v.1 (now - v.2), now - v.2, v.1)) ∧ Touch [] w w' := by
 obtain ⟨V, hV⟩ : ∃ V, V = (w.alloc (bx k)).alloc (.cells #[.int .i64 0, .int .i64 0, .int .i64 0, .int .i64 0, .int .i64 0, .int .i64 0] 161) := ⟨_, rfl⟩
 have TV : Hid (Touch [] w V) := by rw [hV]; exact ((Touch.refl _ _).alloc _).alloc _
 have hB : V.heap[w.heap.size]? = some (bx k) := by rw [hV]; exact (Below.heap_alloc _ _ _ (by simp)).trans (heap_alloc_new w _)
 have hZ : V.heap[w.heap.size + 1]? = some (.cells #[.int .i64 0, .int .i64 0, .int .i64 0, .int .i64 0, .int .i64 0, .int .i64 0] 161 (0, 0)) := by
  rw [hV]
  have := heap_alloc_new (w.alloc (bx k)) (.cells #[.int .i64 0, .int .i64 0, .int .i64 0, .int .i64 0, .int .i64 0, .int .i64 0] 161)
  rwa [World.size_alloc] at this
 have sA : ∀ w', Touch [] V w' → w'.cell? ⟨m, 8, none⟩ = some (.map (some b)) := fun w' t => (h.keep0 (TV.out.trans' t)).md.cs.c8
 have sB : ∀ w', Touch [] V w' → w'.cell? ⟨w.heap.size, 0, none⟩ = some (.int .u16 k.1) := fun w' t => by
  have := t.keep hB (by simp)
  unfold bx at this
  simp [World.cell?, this]
 have sC : ∀ w', Touch [] V w' → w'.cell? ⟨w.heap.size, 1, none⟩ = some (.string k.2) := fun w' t => by
  have := t.keep hB (by simp)
  unfold bx at this
  simp [World.cell?, this]
 have sL : ∀ w', Touch [] V w' → (Instr.lookup 152 (.map (some b)) (.agg #[.int .u16 k.1, .string k.2]) true).run Tryz.prog w' = .ok (.tuple #[.agg #[.int .i64 v.1.1, .int .i64 v.1.2.1, .int .i64 v.1.2.2.1, .int .i64 v.1.2.2.2, .int .i64 v.2], .bool true]) w' := fun w' t => by
  have := (h.keep0 (TV.out.trans' t)).look hk
  rw [hf] at this
  exact this
 obtain ⟨U, hU⟩ : ∃ U, U = (V.alloc (ebx v)).drew := ⟨_, rfl⟩
 have TU : Touch [] V U := by rw [hU]; exact ((Touch.refl _ _).alloc _).drew
 have hE : U.heap[V.heap.size]? = some (ebx v) := by rw [hU]; exact heap_alloc_new V _
 have hZ' := TU.keep hZ (by simp)
 have hlt : w.heap.size + 1 < V.heap.size := block_lt hZ
 have HS : Hid (Sr U (w.heap.size + 1) 161 6 U) := Sr.mk' hZ' rfl
 have hmr : m < w.heap.size := h.md.lt
 have rA : ∀ w', Sr U (w.heap.size + 1) 161 6 w' → w'.cell? ⟨m, 7, none⟩ = some (.int .i64 now) := fun w' s => by
  have hm := TU.keep (TV.out.keep h.md (by simp)) (by simp)
  exact (show Md w' m c now b o from s.keep hm (by omega)).cs.c7
 have rE : ∀ w', Sr U (w.heap.size + 1) 161 6 w' → w'.heap[V.heap.size]? = some (ebx v) := fun w' s => s.keep hE (by omega)
 have r0 : ∀ w', Sr U (w.heap.size + 1) 161 6 w' → w'.cell? ⟨V.heap.size, 0, none⟩ = some (.int .i64 v.1.1) := fun w' s => by have := rE w' s; unfold ebx at this; simp [World.cell?, this]
 have r1 : ∀ w', Sr U (w.heap.size + 1) 161 6 w' → w'.cell? ⟨V.heap.size, 1, none⟩ = some (.int .i64 v.1.2.1) := fun w' s => by have := rE w' s; unfold ebx at this; simp [World.cell?, this]
 have r2 : ∀ w', Sr U (w.heap.size + 1) 161 6 w' → w'.cell? ⟨V.heap.size, 2, none⟩ = some (.int .i64 v.1.2.2.1) := fun w' s => by have := rE w' s; unfold ebx at this; simp [World.cell?, this]
 have r3 : ∀ w', Sr U (w.heap.size + 1) 161 6 w' → w'.cell? ⟨V.heap.size, 3, none⟩ = some (.int .i64 v.1.2.2.2) := fun w' s => by have := rE w' s; unfold ebx at this; simp [World.cell?, this]
 have r4 : ∀ w', Sr U (w.heap.size + 1) 161 6 w' → w'.cell? ⟨V.heap.size, 4, none⟩ = some (.int .i64 v.2) := fun w' s => by have := rE w' s; unfold ebx at this; simp [World.cell?, this]
 have y0 : ∀ w', Sr U (w.heap.size + 1) 161 6 w' → w'.cell? ⟨w.heap.size + 1, 0, none⟩ = some (gc w' (w.heap.size + 1) 0) := fun w' s => s.cell 0 (by omega)
 have y1 : ∀ w', Sr U (w.heap.size + 1) 161 6 w' → w'.cell? ⟨w.heap.size + 1, 1, none⟩ = some (gc w' (w.heap.size + 1) 1) := fun w' s => s.cell 1 (by omega)
 have y2 : ∀ w', Sr U (w.heap.size + 1) 161 6 w' → w'.cell? ⟨w.heap.size + 1, 2, none⟩ = some (gc w' (w.heap.size + 1) 2) := fun w' s => s.cell 2 (by omega)
 have y3 : ∀ w', Sr U (w.heap.size + 1) 161 6 w' → w'.cell? ⟨w.heap.size + 1, 3, none⟩ = some (gc w' (w.heap.size + 1) 3) := fun w' s => s.cell 3 (by omega)
 have y4 : ∀ w', Sr U (w.heap.size + 1) 161 6 w' → w'.cell? ⟨w.heap.size + 1, 4, none⟩ = some (gc w' (w.heap.size + 1) 4) := fun w' s => s.cell 4 (by omega)
 have y5 : ∀ w', Sr U (w.heap.size + 1) 161 6 w' → w'.cell? ⟨w.heap.size + 1, 5, none⟩ = some (gc w' (w.heap.size + 1) 5) := fun w' s => s.cell 5 (by omega)
 have yf : ∀ w', Sr U (w.heap.size + 1) 161 6 w' → ∀ i, w'.frozen? ⟨w.heap.size + 1, i, none⟩ = false := fun w' s i => s.frozen i
 have HH : Hid (∀ w', Sr U (w.heap.size + 1) 161 6 w' → Calls Tryz.prog 158 #[PT m, ev v] w' fun e w'' => e = .returned (.int .i64 (howC c v.1 (now - v.2))) ∧ Touch [] w' w'') := fun w' s => (h.keep ((TV.out.trans' TU).mono (fun _ e => by cases e) |>.trans (G := [w.heap.size + 1]) s.tc (fun i hi => Or.inl hi)) (fun k' hk' => by
  have := h.lt k' hk'
  simp only [List.mem_singleton]
  omega)).how hf
 have TW : Hid (Touch [] w U) := TV.out.trans' TU
 have hw : IntKind.i64.wrap (now - v.2) = now - v.2 := by
  obtain ⟨q1, q2, q3⟩ := h.ats hf
  have := h.gd.n1
  unfold MT at this
  simp [IntKind.wrap, IntKind.bits, IntKind.signed, IntKind.min, IntKind.max]
  omega
 clear h hB hZ TU hE hZ' rE hf hk hmr
 unfold PT ev at HH
 unfold PT kv lv sv
 simp only
 generalize howC c v.1 (now - v.2) = hh at *
 go_enter Tryz.func126, Tryz.ntmps126
 go_wp2
 unfold bx at hV
 rw [← hV]
 clear hV
 have t0 : Touch [] V V.drew := (Touch.refl _ _).drew
 go_region_held3 (fun w' => Touch [] V w') (repeat (first | assumption | exact Touch.refl _ _ | apply Touch.alloc | apply Touch.drew | (refine Touch.setCell ?_ (Or.inr (by simp)) _))) (fail)
 all_goals
  clear sA sB sC sL t0
  unfold ebx at hU
  rw [← hU]
  clear hU
  have s0 := HS.out.drew
  go_upto_region 4 with fail
  refine wp_region_H (S := fun w' => Sr U (w.heap.size + 1) 161 6 w') (by kernel_rfl) ?_
  refine wpH_take (i := 0) (v := (.pointer (some ⟨m, 0, none⟩))) (some 19) rfl rfl (by kernel_rfl) (by kernel_rfl) (by kernel_rfl) (fun _ _ _ h => h) (Or.inl ⟨by rfl, fun w' hS => (by go_simp)⟩) s0 ?_
  try simp only [Go.Act.put, Zx, Zy, Zz]
  refine wpH_take (i := 1) (v := (.agg #[.int .i64 v.1.1, .int .i64 v.1.2.1, .int .i64 v.1.2.2.1, .int .i64 v.1.2.2.2, .int .i64 v.2])) (some 20) rfl rfl (by kernel_rfl) (by kernel_rfl) (by kernel_rfl) (fun _ _ _ h => h) (Or.inl ⟨by rfl, fun w' hS => (by have z0 := r0 _ hS; have z1 := r1 _ hS; have z2 := r2 _ hS; have z3 := r3 _ hS; have z4 := r4 _ hS; go_simp)⟩) s0 ?_
  try simp only [Go.Act.put, Zx, Zy, Zz]
  refine wpH_take (i := 3) (v := (.pointer (some ⟨m, 0, none⟩))) (some 22) rfl rfl (by kernel_rfl) (by kernel_rfl) (by kernel_rfl) (fun _ _ _ h => h) (Or.inl ⟨by rfl, fun w' hS => (by go_simp)⟩) s0 ?_
  try simp only [Go.Act.put, Zx, Zy, Zz]
  refine wpH_take (i := 4) (v := (.pointer (some ⟨m, 0, none⟩))) (some 23) rfl rfl (by kernel_rfl) (by kernel_rfl) (by kernel_rfl) (fun _ _ _ h => h) (Or.inl ⟨by rfl, fun w' hS => (by go_simp)⟩) s0 ?_
  try simp only [Go.Act.put, Zx, Zy, Zz]
  refine wpH_take (i := 5) (v := (.pointer (some ⟨m, 7, none⟩))) (some 24) rfl rfl (by kernel_rfl) (by kernel_rfl) (by kernel_rfl) (fun _ _ _ h => h) (Or.inl ⟨by rfl, fun w' hS => (by go_simp)⟩) s0 ?_
  try simp only [Go.Act.put, Zx, Zy, Zz]
  refine wpH_take (i := 6) (v := (.int .i64 now)) (some 25) rfl rfl (by kernel_rfl) (by kernel_rfl) (by kernel_rfl) (fun _ _ _ h => h) (Or.inl ⟨by rfl, fun w' hS => (by have z0 := rA _ hS; go_simp)⟩) s0 ?_
  try simp only [Go.Act.put, Zx, Zy, Zz]
  refine wpH_take (i := 7) (v := (.pointer (some ⟨V.heap.size, 4, none⟩))) (some 26) rfl rfl (by kernel_rfl) (by kernel_rfl) (by kernel_rfl) (fun _ _ _ h => h) (Or.inl ⟨by rfl, fun w' hS => (by go_simp)⟩) s0 ?_
  try simp only [Go.Act.put, Zx, Zy, Zz]
  refine wpH_take (i := 8) (v := (.int .i64 v.2)) (some 27) rfl rfl (by kernel_rfl) (by kernel_rfl) (by kernel_rfl) (fun _ _ _ h => h) (Or.inl ⟨by rfl, fun w' hS => (by have z0 := r4 _ hS; go_simp)⟩) s0 ?_
  try simp only [Go.Act.put, Zx, Zy, Zz]
  refine wpH_take (i := 9) (v := (.int .i64 (now - v.2))) (some 28) rfl rfl (by kernel_rfl) (by kernel_rfl) (by kernel_rfl) (fun _ _ _ h => h) (Or.inl ⟨by rfl, fun w' hS => (by go_simp)⟩) s0 ?_
  try simp only [Go.Act.put, Zx, Zy, Zz]
  refine wpH_take (i := 10) (v := (.pointer (some ⟨V.heap.size, 0, none⟩))) (some 29) rfl rfl (by kernel_rfl) (by kernel_rfl) (by kernel_rfl) (fun _ _ _ h => h) (Or.inl ⟨by rfl, fun w' hS => (by go_simp)⟩) s0 ?_
  try simp only [Go.Act.put, Zx, Zy, Zz]
  refine wpH_take (i := 11) (v := (.agg #[.int .i64 v.1.1, .int .i64 v.1.2.1, .int .i64 v.1.2.2.1, .int .i64 v.1.2.2.2])) (some 30) rfl rfl (by kernel_rfl) (by kernel_rfl) (by kernel_rfl) (fun _ _ _ h => h) (Or.inl ⟨by rfl, fun w' hS => (by have z0 := r0 _ hS; have z1 := r1 _ hS; have z2 := r2 _ hS; have z3 := r3 _ hS; go_simp)⟩) s0 ?_
  try simp only [Go.Act.put, Zx, Zy, Zz]
  refine wpH_call (i := 2) (o := { dst := some 21, op := Op.call { callee := Callee.value (Operand.func 158), args := #[Operand.tmp 19, Operand.tmp 20], argTypes := #[99, 186] }, type := 3, pos := _, after := #[{ on := 0, ground := Ground.data }, { on := 1, ground := Ground.data }], guard := none }) (by kernel_rfl) rfl (fun K' hK => ?_)
  rw [if_pos (by rfl)]
  go_simp
  refine (HH.out _ s0).mono ?_
  rintro e w1 ⟨rfl, t1⟩
  have s1 := s0.go t1
  clear t1
  obtain ⟨q0, q1, q2, q3, q4, q5⟩ : w1.cell? ⟨w.heap.size + 1, 0, none⟩ = some (gc w1 (w.heap.size + 1) 0) ∧ w1.cell? ⟨w.heap.size + 1, 1, none⟩ = some (gc w1 (w.heap.size + 1) 1) ∧ w1.cell? ⟨w.heap.size + 1, 2, none⟩ = some (gc w1 (w.heap.size + 1) 2) ∧ w1.cell? ⟨w.heap.size + 1, 3, none⟩ = some (gc w1 (w.heap.size + 1) 3) ∧ w1.cell? ⟨w.heap.size + 1, 4, none⟩ = some (gc w1 (w.heap.size + 1) 4) ∧ w1.cell? ⟨w.heap.size + 1, 5, none⟩ = some (gc w1 (w.heap.size + 1) 5) := ⟨y0 _ s1, y1 _ s1, y2 _ s1, y3 _ s1, y4 _ s1, y5 _ s1⟩
  have qf := yf _ s1
  refine hK.out _ _ s1 ?_
  clear hK
  try simp only [Go.Act.put, Zx, Zy, Zz]
  refine wpH_take (i := 12) (v := (.agg #[.int .i64 hh, .int .i64 (now - v.2), .int .i64 v.1.1, .int .i64 v.1.2.1, .int .i64 v.1.2.2.1, .int .i64 v.1.2.2.2])) (some 31) rfl rfl (by kernel_rfl) (by kernel_rfl) (by kernel_rfl) (fun _ _ _ h => h) (Or.inl ⟨by rfl, fun w' hS => (by go_simp)⟩) s1 ?_
  try simp only [Go.Act.put, Zx, Zy, Zz]
  refine wpH_call (i := 13) (o := { dst := none, op := Op.store 161 (Operand.tmp 4) (Operand.tmp 31), type := 0, pos := _, after := #[{ on := 12, ground := Ground.data }, { on := 2, ground := Ground.chain }, { on := 0, ground := Ground.phase }, { on := 1, ground := Ground.phase }, { on := 2, ground := Ground.phase }, { on := 3, ground := Ground.phase }, { on := 4, ground := Ground.phase }, { on := 5, ground := Ground.phase }, { on := 6, ground := Ground.phase }, { on := 7, ground := Ground.phase }, { on := 8, ground := Ground.phase }, { on := 9, ground := Ground.phase }, { on := 10, ground := Ground.phase }, { on := 11, ground := Ground.phase }, { on := 12, ground := Ground.phase }], guard := none }) (by kernel_rfl) rfl (fun K' hK => ?_)
  rw [if_pos (by rfl)]
  go_simp
  refine hK.out _ _ (Sr.s6 s1 _ _ _ _ _ _) ?_
  clear hK
  try simp only [Go.Act.put, Zx, Zy, Zz]
  refine wpAnyH_done (by kernel_rfl) ?_ _
  have S1 := hid s1
  clear rA r0 r1 r2 r3 r4 y0 y1 y2 y3 y4 y5 yf s0 s1 qf
  go_wp2
  refine bodyPost_ret (v := .agg #[.int .i64 hh, .int .i64 (now - v.2), .int .i64 v.1.1, .int .i64 v.1.2.1, .int .i64 v.1.2.2.1, .int .i64 v.1.2.2.2]) (by simp [results, Tryz.results126, go_sem, q0, q1, q2, q3, q4, q5]) rfl ⟨rfl, ?_⟩
  refine (S1.out.new TW.out (Nat.le_succ _)).trans (G := [w.heap.size + 1]) ?_ (fun i hi => by simp only [List.mem_singleton] at hi; subst hi; exact Or.inr (Nat.le_succ _))
  exact tset6 _ _ _ _ _ _ _ _
end Go.Proofs.YtkfophlhpjbmgaaGreat.Me
/- Contracts of Get, Look and Tell; no conditions but those that each states. -/
namespace Go.Proofs.YtkfophlhpjbmgaaGreat.Me
open Go.RowKit Go.Sort Go.Maps Go.ChangeMaps Go.WideMaps
theorem seeM (w : World) (m : Nat) (F : List Nat) (c : Cf) (now : Int) (xs : List En) (h : Mq w m F c now xs) (k : K) (hk : Ok k) :
  Calls Tryz.prog 126 #[PT m, kv k] w fun e w' => e = .returned (lv (lookS c now xs k)) ∧ Touch [] w w' := by
 obtain ⟨b, o, G, rfl, h⟩ := h
 unfold lookS
 cases hf : fnd xs k with
 | none => exact see50_no w m b o G c now xs h k hk hf
 | some v => exact see50_yes w m b o G c now xs h k hk v hf
end Go.Proofs.YtkfophlhpjbmgaaGreat.Me
/- The contract of Look; a key's space is a number of 16 bits, a name's length fits. -/
namespace Go.Proofs.YtkfophlhpjbmgaaGreat.Me
open Go.RowKit Go.Sort Go.Maps Go.ChangeMaps Go.WideMaps
theorem tickE_ok {now n : Int} (h : tickE now n = 0) : now ≤ n ∧ n ≤ MT := by
 unfold tickE isT at h
 unfold MT
 split at h
 ·rename_i h1
  simp only [Bool.and_eq_true, decide_eq_true_eq] at h1
  split at h <;> omega
 ·omega
theorem Mb.time {w : World} {m b o : Nat} {G : List Nat} {c : Cf} {now n : Int} {xs : List En} (h : Mb w m b o G c now xs) (h1 : now ≤ n) (h2 : n ≤ MT) : Mb (w.setCell ⟨m, 7, none⟩ (.int .i64 n)) m b o G c n xs := by
 have t : Touch [m] w (w.setCell ⟨m, 7, none⟩ (.int .i64 n)) := (Touch.refl _ _).setCell (Or.inl (by simp)) _
 refine ⟨h.md.set7 n, h.mp.kept (t.block b h.mp.lt (by simpa using h.mb)), h.oq.keep t (fun k hk hh => ?_), h.gd.later h1 h2, h.bg⟩
 simp only [List.mem_singleton] at hh
 subst hh
 exact h.mg hk
theorem Mq.time {w : World} {m : Nat} {F : List Nat} {c : Cf} {now n : Int} {xs : List En} (h : Mq w m F c now xs) (h1 : now ≤ n) (h2 : n ≤ MT) : Mc w m F c n xs (w.setCell ⟨m, 7, none⟩ (.int .i64 n)) := by
 obtain ⟨b, o, G, rfl, h⟩ := h
 exact ⟨_, ⟨b, o, G, rfl, h.time h1 h2⟩, (Touch.refl _ _).setCell (Or.inl (by simp)) _, Nf.refl _ _⟩
theorem Mq.mem {w : World} {m : Nat} {F : List Nat} {c : Cf} {now : Int} {xs : List En} (h : Mq w m F c now xs) : m ∈ F := by
 obtain ⟨b, o, G, rfl, h⟩ := h
 simp
theorem Mq.tick {w : World} {m : Nat} {F : List Nat} {c : Cf} {now : Int} {xs : List En} (h : Mq w m F c now xs) (n : Int) : Calls Tryz.prog 96 #[PT m, .int .i64 n] w fun e w' => e = .returned (.int .i64 (tickE now n)) ∧ w' = w := by
 obtain ⟨b, o, G, rfl, h⟩ := h
 exact tick45 w m c now n b o h.md
theorem Mq.c7 {w : World} {m : Nat} {F : List Nat} {c : Cf} {now : Int} {xs : List En} (h : Mq w m F c now xs) : w.cell? ⟨m, 7, none⟩ = some (.int .i64 now) ∧ w.frozen? ⟨m, 7, none⟩ = false := by
 obtain ⟨b, o, G, rfl, h⟩ := h
 exact ⟨h.md.cs.c7, h.md.cs.f7⟩
def askE (now n : Int) (k : K) : Int := if tickE now n = 0 then (if 64 < k.2.size then 20 else 0) else tickE now n
def zbx : Obj := .cells #[.int .i64 0, .int .i64 0, .int .i64 0, .int .i64 0, .int .i64 0, .int .i64 0] 161
structure Z6 (w : World) (r : Nat) : Prop where
 z0 : w.cell? ⟨r, 0, none⟩ = some (.int .i64 0)
 z1 : w.cell? ⟨r, 1, none⟩ = some (.int .i64 0)
 z2 : w.cell? ⟨r, 2, none⟩ = some (.int .i64 0)
 z3 : w.cell? ⟨r, 3, none⟩ = some (.int .i64 0)
 z4 : w.cell? ⟨r, 4, none⟩ = some (.int .i64 0)
 z5 : w.cell? ⟨r, 5, none⟩ = some (.int .i64 0)
 f0 : w.frozen? ⟨r, 0, none⟩ = false
 f1 : w.frozen? ⟨r, 1, none⟩ = false
 f2 : w.frozen? ⟨r, 2, none⟩ = false
 f3 : w.frozen? ⟨r, 3, none⟩ = false
 f4 : w.frozen? ⟨r, 4, none⟩ = false
 f5 : w.frozen? ⟨r, 5, none⟩ = false
theorem Z6.mk' {w : World} {r : Nat} (h : w.heap[r]? = some zbx) : Z6 w r := by
 unfold zbx at h
 constructor <;> simp [World.cell?, World.frozen?, h]
section
variable {w : World} {m : Nat} {F : List Nat} {c : Cf} {now : Int} {xs : List En}
theorem look21_tick (w : World) (m : Nat) (F : List Nat) (c : Cf) (now n : Int) (xs : List En) (h : Mq w m F c now xs) (k : K) (ht : tickE now n ≠ 0) :
  Calls Tryz.prog 83 #[PT m, .int .i64 n, kv k] w fun e w' => e = .returned (.tuple #[lv (0, 0, oz), .int .i64 (tickE now n)]) ∧ Touch [] w w' := by
 obtain ⟨V, hV⟩ : ∃ V, V = (w.alloc (bx k)).alloc zbx := ⟨_, rfl⟩
 have TV : Hid (Touch [] w V) := by rw [hV]; exact ((Touch.refl _ _).alloc _).alloc _
 have hZ : V.heap[w.heap.size + 1]? = some zbx := by
  rw [hV]
  have := heap_alloc_new (w.alloc (bx k)) zbx
  rwa [World.size_alloc] at this
 obtain ⟨z0, z1, z2, z3, z4, z5, f0, f1, f2, f3, f4, f5⟩ := Z6.mk' hZ
 have HT := hid ((h.keep0 TV.out).tick n)
 clear h hZ
 have hb : ((tickE now n) == 0) = false := by simp [ht]
 clear ht
 generalize tickE now n = E at *
 unfold PT kv lv sv oz at *
 go_enter Tryz.func83, Tryz.ntmps83
 go_upto_region 1 with fail
 unfold bx zbx at hV
 rw [← hV]
 clear hV
 go_wp2_with (go_at_call 96; refine HT.out.mono ?_; rintro e w2 ⟨rfl, e2⟩; rw [e2]; clear e2 w2)
 refine bodyPost_ret (v := .tuple #[.agg #[.int .i64 0, .int .i64 0, .int .i64 0, .int .i64 0, .int .i64 0, .int .i64 0], .int .i64 E]) (by simp [results, Tryz.results83, go_sem, z0, z1, z2, z3, z4, z5]) rfl ⟨rfl, ?_⟩
 refine TV.out.trans (G := [w.heap.size + 1]) ?_ (fun i hi => by simp only [List.mem_singleton] at hi; subst hi; exact Or.inr (Nat.le_succ _))
 exact tset6 _ _ _ _ _ _ _ _
theorem look21_key (w : World) (m : Nat) (F : List Nat) (c : Cf) (now n : Int) (xs : List En) (h : Mq w m F c now xs) (k : K) (ht : tickE now n = 0) (hk : 64 < k.2.size) :
  Calls Tryz.prog 83 #[PT m, .int .i64 n, kv k] w fun e w' => e = .returned (.tuple #[lv (0, 0, oz), .int .i64 20]) ∧ Touch [] w w' := by
 obtain ⟨V, hV⟩ : ∃ V, V = (w.alloc (bx k)).alloc zbx := ⟨_, rfl⟩
 have TV : Hid (Touch [] w V) := by rw [hV]; exact ((Touch.refl _ _).alloc _).alloc _
 have hB : V.heap[w.heap.size]? = some (bx k) := by rw [hV]; exact (Below.heap_alloc _ _ _ (by simp)).trans (heap_alloc_new w _)
 have hZ : V.heap[w.heap.size + 1]? = some zbx := by
  rw [hV]
  have := heap_alloc_new (w.alloc (bx k)) zbx
  rwa [World.size_alloc] at this
 have HZ : Hid (∀ w2, Touch [] V w2 → Z6 w2 (w.heap.size + 1)) := fun w2 t => Z6.mk' (t.keep hZ (by simp))
 unfold bx at hB
 have b0 : V.cell? ⟨w.heap.size, 0, none⟩ = some (.int .u16 k.1) := by simp [World.cell?, hB]
 have b1 : V.cell? ⟨w.heap.size, 1, none⟩ = some (.string k.2) := by simp [World.cell?, hB]
 have HT := hid ((h.keep0 TV.out).tick n)
 rw [ht] at HT
 have HC := hid (check29_no V k hk)
 clear h hZ hB ht hk
 unfold PT kv lv sv oz at *
 go_enter Tryz.func83, Tryz.ntmps83
 go_upto_region 1 with fail
 unfold bx zbx at hV
 rw [← hV]
 clear hV
 go_wp2_with (first
  | (go_at_call 96; refine HT.out.mono ?_; rintro e w2 ⟨rfl, e2⟩; rw [e2]; clear e2 w2)
  | (go_at_call 80; refine HC.out.mono ?_; rintro e w3 ⟨rfl, t3⟩; have T3 := hid t3; obtain ⟨z0, z1, z2, z3, z4, z5, f0, f1, f2, f3, f4, f5⟩ := HZ.out _ t3; clear t3))
 refine bodyPost_ret (v := .tuple #[.agg #[.int .i64 0, .int .i64 0, .int .i64 0, .int .i64 0, .int .i64 0, .int .i64 0], .int .i64 20]) (by simp [results, Tryz.results83, go_sem, z0, z1, z2, z3, z4, z5]) rfl ⟨rfl, ?_⟩
 refine (TV.out.trans' T3.out).trans (G := [w.heap.size + 1]) ?_ (fun i hi => by simp only [List.mem_singleton] at hi; subst hi; exact Or.inr (Nat.le_succ _))
 exact tset6 _ _ _ _ _ _ _ _
set_option maxHeartbeats 1000000 in
theorem look21_ok (w : World) (m : Nat) (F : List Nat) (c : Cf) (now n : Int) (xs : List En) (h : Mq w m F c now xs) (k : K) (ok : Ok k) (ht : tickE now n = 0) (hk : k.2.size ≤ 64) :
  Calls Tryz.prog 83 #[PT m, .int .i64 n, kv k] w fun e w' => e = .returned (.tuple #[lv (lookS c n xs k), .int .i64 0]) ∧ Mc w m F c n xs w' := by
 obtain ⟨V, hV⟩ : ∃ V, V = (w.alloc (bx k)).alloc zbx := ⟨_, rfl⟩
 have TV : Hid (Touch [] w V) := by rw [hV]; exact ((Touch.refl _ _).alloc _).alloc _
 have hB : V.heap[w.heap.size]? = some (bx k) := by rw [hV]; exact (Below.heap_alloc _ _ _ (by simp)).trans (heap_alloc_new w _)
 have hZ : V.heap[w.heap.size + 1]? = some zbx := by
  rw [hV]
  have := heap_alloc_new (w.alloc (bx k)) zbx
  rwa [World.size_alloc] at this
 have hF := h.lt
 obtain ⟨q1, q2⟩ := tickE_ok ht
 have HK : Hid (∀ w2, Touch [] V w2 → (w2.cell? ⟨w.heap.size, 0, none⟩ = some (.int .u16 k.1) ∧ w2.cell? ⟨w.heap.size, 1, none⟩ = some (.string k.2)) ∧ w2.cell? ⟨m, 7, none⟩ = some (.int .i64 now) ∧ w2.frozen? ⟨m, 7, none⟩ = false) := fun w2 t => by
  have := t.keep hB (by simp)
  unfold bx at this
  exact ⟨by simp [World.cell?, this], (h.keep0 (TV.out.trans' t)).c7⟩
 have hm : m < w.heap.size := hF m h.mem
 have hne : w.heap.size ≠ m := by omega
 have HS : Hid (∀ w2, Touch [] V w2 → Calls Tryz.prog 126 #[PT m, kv k] (w2.setCell ⟨m, 7, none⟩ (.int .i64 n)) fun e w' => e = .returned (lv (lookS c n xs k)) ∧ Z6 w' (w.heap.size + 1) ∧ ∀ w5, Touch [w.heap.size + 1] w' w5 → Mc w m F c n xs w5) := fun w2 t => by
  have C := (h.keep0 (TV.out.trans' t)).time q1 q2
  obtain ⟨F', C1, C2, C3⟩ := C
  refine (seeM _ m F' c n xs C1 k ok).mono ?_
  rintro e w4 ⟨rfl, t4⟩
  have tm : Touch [m] w2 (w2.setCell ⟨m, 7, none⟩ (.int .i64 n)) := (Touch.refl _ _).setCell (Or.inl (by simp)) _
  refine ⟨rfl, Z6.mk' (t4.keep (tm.keep (t.keep hZ (by simp)) (by simp; omega)) (by simp)), fun w5 t5 => ?_⟩
  exact (Mc.keep0 (⟨F', C1, C2, C3⟩ : Mc w2 m F c n xs _) t4).own t5 (TV.out.trans' t) (Nat.le_succ _) (by have := block_lt (t.keep hZ (by simp)); omega) hF
 have HT := hid ((h.keep0 TV.out).tick n)
 rw [ht] at HT
 have HC := hid (check29_ok V k hk)
 obtain ⟨⟨b0, b1⟩, g0, g1⟩ := HK.out V (Touch.refl _ _)
 clear h hZ hB ht hk hF q1 q2
 obtain ⟨s, hs⟩ : ∃ s, s = lookS c n xs k := ⟨_, rfl⟩
 rw [← hs] at HS ⊢
 clear hs
 obtain ⟨sh, sa, so⟩ := s
 unfold PT kv lv sv at *
 simp only at HS ⊢
 go_enter Tryz.func83, Tryz.ntmps83
 go_upto_region 1 with fail
 unfold bx zbx at hV
 rw [← hV]
 clear hV
 go_wp2_with (first
  | (go_at_call 96; refine HT.out.mono ?_; rintro e w2 ⟨rfl, e2⟩; rw [e2]; clear e2 w2)
  | (go_at_call 80; refine HC.out.mono ?_; rintro e w3 ⟨rfl, t3⟩; have T3 := hid t3; clear b0 b1 g0 g1; obtain ⟨⟨b0, b1⟩, g0, g1⟩ := HK.out _ t3; clear t3)
  | (go_at_call 126; refine (HS.out _ T3.out).mono ?_; rintro e w4 ⟨rfl, hz, hc⟩; obtain ⟨z0, z1, z2, z3, z4, z5, f0, f1, f2, f3, f4, f5⟩ := hz; have HC4 := hid hc; clear hc))
 refine bodyPost_ret (v := .tuple #[.agg #[.int .i64 sh, .int .i64 sa, .int .i64 so.1, .int .i64 so.2.1, .int .i64 so.2.2.1, .int .i64 so.2.2.2], .int .i64 0]) (by simp [results, Tryz.results83, go_sem, z0, z1, z2, z3, z4, z5]) rfl ⟨rfl, ?_⟩
 exact HC4.out _ (tset6 _ _ _ _ _ _ _ _)
end
def askR (c : Cf) (now n : Int) (xs : List En) (k : K) : Int × Int × O := if askE now n k = 0 then lookS c n xs k else (0, 0, oz)
def askN (now n : Int) (k : K) : Int := if askE now n k = 0 then n else now
theorem lookM (w : World) (m : Nat) (F : List Nat) (c : Cf) (now n : Int) (xs : List En) (h : Mq w m F c now xs) (k : K) (ok : Ok k) :
  Calls Tryz.prog 83 #[PT m, .int .i64 n, kv k] w fun e w' => e = .returned (.tuple #[lv (askR c now n xs k), .int .i64 (askE now n k)]) ∧ Mc w m F c (askN now n k) xs w' := by
 by_cases ht : tickE now n = 0
 ·by_cases hk : 64 < k.2.size
  ·have e : askE now n k = 20 := by unfold askE; rw [if_pos ht, if_pos hk]
   unfold askR askN
   rw [e, if_neg (by decide), if_neg (by decide)]
   exact (look21_key w m F c now n xs h k ht hk).mono fun e w' ⟨he, t⟩ => ⟨he, (Mc.refl h).keep0 t⟩
  ·have e : askE now n k = 0 := by unfold askE; rw [if_pos ht, if_neg hk]
   unfold askR askN
   rw [e, if_pos rfl, if_pos rfl]
   exact look21_ok w m F c now n xs h k ok ht (by omega)
 ·have e : askE now n k = tickE now n := by unfold askE; rw [if_neg ht]
  unfold askR askN
  rw [e, if_neg ht, if_neg ht]
  exact (look21_tick w m F c now n xs h k ht).mono fun e w' ⟨he, t⟩ => ⟨he, (Mc.refl h).keep0 t⟩
end Go.Proofs.YtkfophlhpjbmgaaGreat.Me
/- Outcomes that may be, as a plain function; the contracts of the program's and of the document's look at them; no conditions. -/
namespace Go.Proofs.YtkfophlhpjbmgaaGreat.Ta
open Go.RowKit Go.Maps Go.ChangeMaps
abbrev O := Int × Int × Int × Int
def ov (o : O) : Value := .agg #[.int .i64 o.1, .int .i64 o.2.1, .int .i64 o.2.2.1, .int .i64 o.2.2.2]
def oz : O := (0, 0, 0, 0)
def mayF (kd cd rn : Int) : Bool :=
 if kd = 0 then decide (cd = 0) && decide (rn = 0) else if kd = 1 then decide (1 ≤ rn) else if kd = 2 then decide (1 ≤ rn)
 else if kd = 3 then decide (cd = 0) && decide (rn = 0) else if kd = 4 then decide (cd = 0) && decide (rn = 0)
 else if kd = 5 then decide (cd = 0) && decide (1 ≤ rn) else false
def nonF (kd cd rn : Int) : Bool := decide (kd = 0) && (decide (cd = 0) && decide (rn = 0))
def right (o : O) : Bool := mayF o.2.1 o.2.2.1 o.2.2.2 && (nonF o.2.1 o.2.2.1 o.2.2.2 || decide (o.1 = 0))
theorem eqf (w : World) (a b c : Int) : (binOp .eql 40 (.agg #[.int .i64 a, .int .i64 b, .int .i64 c]) (.agg #[.int .i64 0, .int .i64 0, .int .i64 0])).run Tryz.prog w = .ok (.bool (nonF a b c)) w := by
 unfold nonF
 by_cases h1 : a = 0
 ·by_cases h2 : b = 0
  ·by_cases h3 : c = 0
   ·go_simp
   ·go_simp
  ·go_simp
 ·go_simp
theorem same45 (w : World) (a b c : Int) : Calls Tryz.prog 188 #[.agg #[.int .i64 a, .int .i64 b, .int .i64 c], .agg #[.int .i64 0, .int .i64 0, .int .i64 0]] w fun e w' => e = .returned (.bool (nonF a b c)) ∧ Touch [] w w' := by
 have h := fun w => eqf w a b c
 generalize nonF a b c = r at *
 go_enter Tryz.func188, Tryz.ntmps188
 go_wp2
 go_ret
 exact ⟨rfl, by repeat (first | exact Touch.refl _ _ | apply Touch.alloc)⟩
theorem none41 (w : World) (a b c : Int) : Calls Tryz.prog 164 #[.agg #[.int .i64 a, .int .i64 b, .int .i64 c]] w fun e w' => e = .returned (.bool (nonF a b c)) ∧ Touch [] w w' := by
 have H := hid (fun w => same45 w a b c)
 generalize nonF a b c = r at *
 go_enter Tryz.func164, Tryz.ntmps164
 go_wp2_with (go_at_call 188; refine (H.out _).mono ?_; rintro e w2 ⟨rfl, t2⟩; have T2 := hid t2; clear t2)
 go_ret
 exact ⟨rfl, ((Touch.refl _ _).alloc _).trans' T2.out⟩
theorem may40 (w : World) (a b c : Int) : Calls Tryz.prog 163 #[.agg #[.int .i64 a, .int .i64 b, .int .i64 c]] w fun e w' => e = .returned (.bool (mayF a b c)) ∧ Touch [] w w' := by
 have H := hid (fun w => none41 w a b c)
 unfold mayF
 by_cases h0 : a = 0
 ·subst h0
  have e0 : nonF 0 b c = (decide (b = 0) && decide (c = 0)) := by simp [nonF]
  rw [e0] at H
  simp only [if_true]
  generalize (decide (b = 0) && decide (c = 0)) = r at *
  go_enter Tryz.func163, Tryz.ntmps163
  go_wp2_with (go_at_call 164; refine (H.out _).mono ?_; rintro e w2 ⟨rfl, t2⟩; have T2 := hid t2; clear t2)
  go_ret
  exact ⟨rfl, ((Touch.refl _ _).alloc _).trans' T2.out⟩
 rw [if_neg h0]
 clear H
 have b0 : (a == 0) = false := by simp [h0]
 by_cases h1 : a = 1
 ·subst h1
  rw [if_pos rfl]
  go_enter Tryz.func163, Tryz.ntmps163
  go_wp2
  go_ret
  exact ⟨rfl, by repeat (first | exact Touch.refl _ _ | apply Touch.alloc)⟩
 rw [if_neg h1]
 have b1 : (a == 1) = false := by simp [h1]
 by_cases h2 : a = 2
 ·subst h2
  rw [if_pos rfl]
  go_enter Tryz.func163, Tryz.ntmps163
  go_wp2
  go_ret
  exact ⟨rfl, by repeat (first | exact Touch.refl _ _ | apply Touch.alloc)⟩
 rw [if_neg h2]
 have b2 : (a == 2) = false := by simp [h2]
 by_cases h3 : a = 3
 ·subst h3
  rw [if_pos rfl]
  by_cases hb : b = 0
  ·subst hb
   go_enter Tryz.func163, Tryz.ntmps163
   go_wp2
   go_ret
   exact ⟨by by_cases hc : c = 0 <;> simp [hc], by repeat (first | exact Touch.refl _ _ | apply Touch.alloc)⟩
  ·have hb' : (b == 0) = false := by simp [hb]
   go_enter Tryz.func163, Tryz.ntmps163
   go_wp2
   go_ret
   exact ⟨by simp [hb], by repeat (first | exact Touch.refl _ _ | apply Touch.alloc)⟩
 rw [if_neg h3]
 have b3 : (a == 3) = false := by simp [h3]
 by_cases h4 : a = 4
 ·subst h4
  rw [if_pos rfl]
  by_cases hb : b = 0
  ·subst hb
   go_enter Tryz.func163, Tryz.ntmps163
   go_wp2
   go_ret
   exact ⟨by by_cases hc : c = 0 <;> simp [hc], by repeat (first | exact Touch.refl _ _ | apply Touch.alloc)⟩
  ·have hb' : (b == 0) = false := by simp [hb]
   go_enter Tryz.func163, Tryz.ntmps163
   go_wp2
   go_ret
   exact ⟨by simp [hb], by repeat (first | exact Touch.refl _ _ | apply Touch.alloc)⟩
 rw [if_neg h4]
 have b4 : (a == 4) = false := by simp [h4]
 by_cases h5 : a = 5
 ·subst h5
  rw [if_pos rfl]
  by_cases hb : b = 0
  ·subst hb
   go_enter Tryz.func163, Tryz.ntmps163
   go_wp2
   go_ret
   exact ⟨by by_cases hc : c = 0 <;> simp [hc], by repeat (first | exact Touch.refl _ _ | apply Touch.alloc)⟩
  ·have hb' : (b == 0) = false := by simp [hb]
   go_enter Tryz.func163, Tryz.ntmps163
   go_wp2
   go_ret
   exact ⟨by simp [hb], by repeat (first | exact Touch.refl _ _ | apply Touch.alloc)⟩
 rw [if_neg h5]
 have b5 : (a == 5) = false := by simp [h5]
 go_enter Tryz.func163, Tryz.ntmps163
 go_wp2
 go_ret
 exact ⟨rfl, by repeat (first | exact Touch.refl _ _ | apply Touch.alloc)⟩
theorem right32 (w : World) (o : O) : Calls Tryz.prog 134 #[ov o] w fun e w' => e = .returned (.bool (right o)) ∧ Touch [] w w' := by
 obtain ⟨v, a, b, c⟩ := o
 have HM := hid (fun w => may40 w a b c)
 have HN := hid (fun w => none41 w a b c)
 unfold ov right
 simp only
 have B : ∀ w2, Touch [] (w.alloc (.cells #[.int .i64 v, .int .i64 a, .int .i64 b, .int .i64 c] 42)) w2 → w2.heap[w.heap.size]? = some (.cells #[.int .i64 v, .int .i64 a, .int .i64 b, .int .i64 c] 42 (0, 0)) := fun w2 t => t.keep (heap_alloc_new w _) (by simp)
 have HC : Hid (∀ w2, Touch [] (w.alloc (.cells #[.int .i64 v, .int .i64 a, .int .i64 b, .int .i64 c] 42)) w2 → w2.cell? ⟨w.heap.size, 0, none⟩ = some (.int .i64 v) ∧ w2.cell? ⟨w.heap.size, 1, none⟩ = some (.int .i64 a) ∧ w2.cell? ⟨w.heap.size, 2, none⟩ = some (.int .i64 b) ∧ w2.cell? ⟨w.heap.size, 3, none⟩ = some (.int .i64 c)) := fun w2 t => by
  have := B w2 t
  simp [World.cell?, this]
 clear B
 generalize mayF a b c = r at *
 generalize nonF a b c = s at *
 cases r
 ·go_enter Tryz.func134, Tryz.ntmps134
  go_wp2_with (go_at_call 163; refine (HM.out _).mono ?_; rintro e w2 ⟨rfl, t2⟩; have T2 := hid t2; clear t2)
  go_ret
  exact ⟨rfl, ((Touch.refl _ _).alloc _).trans' T2.out⟩
 ·cases s
  ·by_cases hv : v = 0
   ·subst hv
    go_enter Tryz.func134, Tryz.ntmps134
    go_wp2_with (first
     | (go_at_call 163; refine (HM.out _).mono ?_; rintro e w2 ⟨rfl, t2⟩; have T2 := hid t2; obtain ⟨c0, c1, c2, c3⟩ := HC.out _ t2; clear t2)
     | (go_at_call 164; refine (HN.out _).mono ?_; rintro e w3 ⟨rfl, t3⟩; have T3 := hid (T2.out.trans' t3); clear c0 c1 c2 c3 T2 t3; obtain ⟨c0, c1, c2, c3⟩ := HC.out _ T3.out))
    go_ret
    exact ⟨rfl, ((Touch.refl _ _).alloc _).trans' T3.out⟩
   ·have hv' : (v == 0) = false := by simp [hv]
    go_enter Tryz.func134, Tryz.ntmps134
    go_wp2_with (first
     | (go_at_call 163; refine (HM.out _).mono ?_; rintro e w2 ⟨rfl, t2⟩; have T2 := hid t2; obtain ⟨c0, c1, c2, c3⟩ := HC.out _ t2; clear t2)
     | (go_at_call 164; refine (HN.out _).mono ?_; rintro e w3 ⟨rfl, t3⟩; have T3 := hid (T2.out.trans' t3); clear c0 c1 c2 c3 T2 t3; obtain ⟨c0, c1, c2, c3⟩ := HC.out _ T3.out))
    go_ret
    exact ⟨by simp [hv], ((Touch.refl _ _).alloc _).trans' T3.out⟩
  ·go_enter Tryz.func134, Tryz.ntmps134
   go_wp2_with (first
    | (go_at_call 163; refine (HM.out _).mono ?_; rintro e w2 ⟨rfl, t2⟩; have T2 := hid t2; obtain ⟨c0, c1, c2, c3⟩ := HC.out _ t2; clear t2)
    | (go_at_call 164; refine (HN.out _).mono ?_; rintro e w3 ⟨rfl, t3⟩; have T3 := hid (T2.out.trans' t3); clear c0 c1 c2 c3 T2 t3; obtain ⟨c0, c1, c2, c3⟩ := HC.out _ T3.out))
   go_ret
   exact ⟨rfl, ((Touch.refl _ _).alloc _).trans' T3.out⟩
end Go.Proofs.YtkfophlhpjbmgaaGreat.Ta
/- Who waits, as plain lists with holes where one went; what a record is and how it changes; no program. -/
namespace Go.Proofs.YtkfophlhpjbmgaaGreat.Ta
def wl (cs : List Int) : List Int := cs.filter (fun x => decide (x ≠ 0))
def plv (cs : List Int) (x : Int) : Option Value := if x ≠ 0 ∧ x ∈ cs then some (.int .i64 ((cs.idxOf x : Nat) : Int)) else none
structure Okc (cs : List Int) : Prop where
 nd : (wl cs).Nodup
 wf : ∀ x ∈ cs, W64 x
theorem wl_len (cs : List Int) : (wl cs).length ≤ cs.length := List.length_filter_le _ _
theorem mem_wl {cs : List Int} {x : Int} : x ∈ wl cs ↔ x ∈ cs ∧ x ≠ 0 := by simp [wl]
theorem wl_app (a b : List Int) : wl (a ++ b) = wl a ++ wl b := by simp [wl]
theorem wl_one {x : Int} (h : x ≠ 0) : wl [x] = [x] := by simp [wl, h]
theorem wl_cons_zero (l : List Int) : wl (0 :: l) = wl l := by simp [wl]
theorem wl_cons {x : Int} (h : x ≠ 0) (l : List Int) : wl (x :: l) = x :: wl l := by simp [wl, h]
theorem wl_wl (cs : List Int) : wl (wl cs) = wl cs := by simp [wl]
theorem plv_isSome (cs : List Int) (x : Int) : (plv cs x).isSome = decide (x ∈ wl cs) := by
 unfold plv
 by_cases h : x ≠ 0 ∧ x ∈ cs
 ·rw [if_pos h]; simp [mem_wl, h.1, h.2]
 ·rw [if_neg h]
  have : ¬ x ∈ wl cs := fun e => h ⟨(mem_wl.1 e).2, (mem_wl.1 e).1⟩
  simp [this]
theorem plv_none {cs : List Int} {x : Int} (h : ¬ x ∈ wl cs) : plv cs x = none := by
 have := plv_isSome cs x
 rw [show decide (x ∈ wl cs) = false by simp [h]] at this
 exact Option.not_isSome_iff_eq_none.1 (by simp [this])
theorem plv_some {cs : List Int} {x : Int} (h : x ∈ wl cs) : plv cs x = some (.int .i64 ((cs.idxOf x : Nat) : Int)) := by
 unfold plv
 rw [if_pos ⟨(mem_wl.1 h).2, (mem_wl.1 h).1⟩]
theorem plv_nil (x : Int) : plv [] x = none := by simp [plv]
theorem Okc.nil : Okc [] := ⟨by simp [wl], fun x h => by simp at h⟩
theorem Okc.put {cs : List Int} (h : Okc cs) {x : Int} (hx : W64 x) (h0 : x ≠ 0) (hn : ¬ x ∈ wl cs) : Okc (cs ++ [x]) := by
 refine ⟨?_, fun y hy => ?_⟩
 ·rw [wl_app, wl_one h0]; exact nd_snoc h.nd hn
 ·rcases List.mem_append.1 hy with e | e
  ·exact h.wf y e
  ·simp only [List.mem_singleton] at e; subst e; exact hx
theorem idx_app {a b : List Int} {x : Int} (h : x ∈ a) : (a ++ b).idxOf x = a.idxOf x := by
 rw [List.idxOf_append, if_pos h]
theorem idx_app' {a b : List Int} {x : Int} (h : ¬ x ∈ a) : (a ++ b).idxOf x = b.idxOf x + a.length := by
 rw [List.idxOf_append, if_neg h]
theorem plv_put {cs : List Int} {x : Int} (h0 : x ≠ 0) (hn : ¬ x ∈ wl cs) (k : Int) : upd (plv cs) x (.int .i64 (cs.length : Nat)) k = plv (cs ++ [x]) k := by
 have hn' : ¬ x ∈ cs := fun e => hn (mem_wl.2 ⟨e, h0⟩)
 unfold upd
 split
 ·rename_i e
  subst e
  rw [plv_some (mem_wl.2 ⟨by simp, h0⟩), idx_app' hn']
  simp
 ·rename_i e
  by_cases hk : k ∈ wl cs
  ·rw [plv_some hk, plv_some (by rw [wl_app]; exact List.mem_append_left _ hk), idx_app (mem_wl.1 hk).1]
  ·rw [plv_none hk, plv_none]
   rw [wl_app, wl_one h0]
   simp [hk, e]
theorem cut {cs : List Int} {x : Int} (h : x ∈ cs) : ∃ a b, cs = a ++ x :: b ∧ ¬ x ∈ a ∧ cs.idxOf x = a.length := by
 obtain ⟨a, b, e, hn⟩ := List.append_of_mem h |> fun _ => List.eq_append_cons_of_mem h
 refine ⟨a, b, e, hn, ?_⟩
 rw [e, idx_app' hn]
 simp
def holeL (cs : List Int) (x : Int) : List Int := cs.set (cs.idxOf x) 0
theorem holeL_len (cs : List Int) (x : Int) : (holeL cs x).length = cs.length := by simp [holeL]
theorem holeL_cut {a b : List Int} {x : Int} (hn : ¬ x ∈ a) : holeL (a ++ x :: b) x = a ++ 0 :: b := by
 unfold holeL
 rw [idx_app' hn]
 simp
theorem wl_hole {cs : List Int} (ok : Okc cs) {x : Int} (h : x ∈ wl cs) : wl (holeL cs x) = (wl cs).filter (fun y => decide (y ≠ x)) := by
 obtain ⟨a, b, e, hn, _⟩ := cut (mem_wl.1 h).1
 have h0 := (mem_wl.1 h).2
 have nd := ok.nd
 subst e
 rw [holeL_cut hn, wl_app, wl_app, wl_cons_zero, wl_cons h0]
 rw [wl_app, wl_cons h0] at nd
 have n1 : ¬ x ∈ wl a := fun e => hn (mem_wl.1 e).1
 have n2 : ¬ x ∈ wl b := by
  have := (List.nodup_append.1 nd).2.1
  exact (List.nodup_cons.1 this).1
 have f1 : (wl a).filter (fun y => decide (y ≠ x)) = wl a := List.filter_eq_self.2 (fun y hy => by simp; intro e; subst e; exact n1 hy)
 have f2 : (wl b).filter (fun y => decide (y ≠ x)) = wl b := List.filter_eq_self.2 (fun y hy => by simp; intro e; subst e; exact n2 hy)
 rw [List.filter_append, List.filter_cons, f1, f2]
 simp
theorem plv_hole {cs : List Int} (ok : Okc cs) {x : Int} (h : x ∈ wl cs) (k : Int) : del (plv cs) x k = plv (holeL cs x) k := by
 have hw := wl_hole ok h
 obtain ⟨a, b, e, hn, _⟩ := cut (mem_wl.1 h).1
 have h0 := (mem_wl.1 h).2
 unfold del
 split
 ·rename_i e
  subst e
  rw [plv_none]
  rw [hw]
  simp
 ·rename_i ek
  by_cases hk : k ∈ wl cs
  ·have hk0 := (mem_wl.1 hk).2
   rw [plv_some hk, plv_some (by rw [hw]; simp [hk, ek])]
   subst e
   rw [holeL_cut hn]
   by_cases ha : k ∈ a
   ·rw [idx_app ha, idx_app ha]
   ·rw [idx_app' ha, idx_app' ha, List.idxOf_cons, List.idxOf_cons]
    have q1 : (x == k) = false := by simp; exact fun e => ek e.symm
    have q2 : ((0 : Int) == k) = false := by simp; exact fun e => hk0 e.symm
    rw [q1, q2]
  ·rw [plv_none hk, plv_none]
   rw [hw]
   simp [hk]
theorem Okc.hole {cs : List Int} (ok : Okc cs) {x : Int} (h : x ∈ wl cs) : Okc (holeL cs x) := by
 refine ⟨?_, fun y hy => ?_⟩
 ·rw [wl_hole ok h]; exact ok.nd.sublist List.filter_sublist
 ·unfold holeL at hy
  rcases List.mem_or_eq_of_mem_set hy with e | e
  ·exact ok.wf y e
  ·subst e; exact W64.mk (by omega) (by omega)
theorem Okc.close {cs : List Int} (ok : Okc cs) : Okc (wl cs) := ⟨by rw [wl_wl]; exact ok.nd, fun x hx => ok.wf x (mem_wl.1 hx).1⟩
def clv (cs : List Int) (k : Nat) (x : Int) : Option Value := if x ∈ (wl cs).take k then some (.int .i64 (((wl cs).idxOf x : Nat) : Int)) else plv cs x
theorem clv_zero (cs : List Int) (x : Int) : clv cs 0 x = plv cs x := by simp [clv]
theorem clv_last (cs : List Int) (x : Int) : clv cs (wl cs).length x = plv (wl cs) x := by
 unfold clv
 rw [List.take_length]
 by_cases h : x ∈ wl cs
 ·rw [if_pos h, plv_some (by rw [wl_wl]; exact h)]
 ·rw [if_neg h, plv_none h, plv_none (by rw [wl_wl]; exact h)]
theorem idx_nd {l : List Int} (h : l.Nodup) {k : Nat} (hk : k < l.length) : l.idxOf l[k] = k := h.idxOf_getElem k hk
theorem clv_step {cs : List Int} (ok : Okc cs) {k : Nat} (hk : k < (wl cs).length) (x : Int) : upd (clv cs k) (wl cs)[k] (.int .i64 (k : Nat)) x = clv cs (k + 1) x := by
 have hm : ∀ y, y ∈ (wl cs).take (k + 1) ↔ y ∈ (wl cs).take k ∨ y = (wl cs)[k] := fun y => by
  rw [List.take_succ_eq_append_getElem hk, List.mem_append, List.mem_singleton]
 unfold upd clv
 split
 ·rename_i e
  subst e
  rw [if_pos ((hm _).2 (Or.inr rfl)), idx_nd ok.nd hk]
 ·rename_i e
  by_cases h : x ∈ (wl cs).take k
  ·rw [if_pos h, if_pos ((hm _).2 (Or.inl h))]
  ·rw [if_neg h, if_neg (fun q => ((hm _).1 q).elim h e)]
theorem clv_has (cs : List Int) (k : Nat) {x : Int} (h : x ∈ wl cs) : (clv cs k x).isSome = true := by
 unfold clv
 split
 ·rfl
 ·rw [plv_some h]; rfl
structure Rn where
 run : Int
 sp : Int
 nm : ByteArray
 gen : Int
 rf : Bool
structure St where
 who : List Int
 kept : Bool
 canc : Bool
 ended : Bool
 out : O
structure Iv (S : St) : Prop where
 en : S.ended = true → S.who = []
 no : S.ended = false → S.out = oz
 ca : S.ended = false → S.canc = true → S.who = [] ∧ S.kept = false
 pos : ∀ x ∈ S.who, W64 x ∧ 1 ≤ x
 nd : S.who.Nodup
def inter (S : St) : Int := (S.who.length : Int) + (if S.kept && !S.ended then 1 else 0)
def joinE (S : St) (x : Int) : Int := if x < 1 then 1 else if S.ended then 110 else if S.canc then 113 else if x ∈ S.who then 111 else 0
def joinS (S : St) (x : Int) : St := if joinE S x = 0 then { S with who := S.who ++ [x] } else S
def lessS (S : St) (x : Int) : St := { S with who := S.who.filter (fun y => decide (y ≠ x)) }
def leftB (S : St) : Bool := decide (inter S = 0)
def leftS (S : St) : St := { S with canc := leftB S }
def leaveE (S : St) (x : Int) : Int := if S.ended then 110 else if x ∈ S.who then 0 else 112
def leaveB (S : St) (x : Int) : Bool := if leaveE S x = 0 then leftB (lessS S x) else false
def leaveS (S : St) (x : Int) : St := if leaveE S x = 0 then leftS (lessS S x) else S
def relB (S : St) : Bool := if S.kept && !S.ended then leftB { S with kept := false } else false
def relS (S : St) : St := if S.kept && !S.ended then leftS { S with kept := false } else S
def endE (S : St) (o : O) : Int := if S.ended then 110 else if right o then 0 else 30
def endS (S : St) (o : O) : St := if endE S o = 0 then { S with who := [], ended := true, out := o } else S
def endL (S : St) (o : O) : List Int := if endE S o = 0 then S.who else []
theorem inter_zero {S : St} : inter S = 0 ↔ S.who = [] ∧ (S.kept && !S.ended) = false := by
 unfold inter
 cases h : (S.kept && !S.ended)
 ·simp
 ·simp; omega
theorem Iv.join {S : St} (h : Iv S) {x : Int} (hx : W64 x) : Iv (joinS S x) := by
 unfold joinS
 split
 ·rename_i e
  unfold joinE at e
  repeat' (split at e <;> first | omega | skip)
  rename_i h1 h2 h3 h4
  refine ⟨fun e => absurd e h2, h.no, fun _ e => absurd e h3, fun y hy => ?_, nd_snoc h.nd h4⟩
  rcases List.mem_append.1 hy with e | e
  ·exact h.pos y e
  ·simp only [List.mem_singleton] at e; subst e; exact ⟨hx, by omega⟩
 ·exact h
theorem Iv.left {S : St} (h : Iv S) (hc : S.ended = false) : Iv (leftS S) := by
 refine ⟨h.en, h.no, fun _ e => ?_, h.pos, h.nd⟩
 have e1 : inter S = 0 := of_decide_eq_true e
 have := inter_zero.1 e1
 rw [hc] at this
 exact ⟨this.1, by have q := this.2; simp at q; exact q⟩
theorem Iv.less {S : St} (h : Iv S) (x : Int) : Iv (lessS S x) := by
 refine ⟨fun e => ?_, h.no, fun e1 e2 => ?_, fun y hy => h.pos y (List.mem_filter.1 hy).1, h.nd.sublist List.filter_sublist⟩
 ·simp only [lessS] at e ⊢; rw [h.en e]; rfl
 ·simp only [lessS] at e1 e2 ⊢; rw [(h.ca e1 e2).1]; exact ⟨rfl, (h.ca e1 e2).2⟩
theorem Iv.leave {S : St} (h : Iv S) (x : Int) : Iv (leaveS S x) := by
 unfold leaveS
 split
 ·rename_i e
  have : S.ended = false := by unfold leaveE at e; cases hE : S.ended <;> simp_all
  exact (h.less x).left this
 ·exact h
theorem Iv.end_ {S : St} (h : Iv S) (o : O) : Iv (endS S o) := by
 unfold endS
 split
 ·exact ⟨fun _ => rfl, fun e => (by cases e), fun e => (by cases e), fun x hx => (by simp at hx), List.nodup_nil⟩
 ·exact h
end Go.Proofs.YtkfophlhpjbmgaaGreat.Ta
/- A record in memory: its block, the line of callers and the map of their places; what a step may touch. -/
namespace Go.Proofs.YtkfophlhpjbmgaaGreat.Ta
open Go.RowKit Go.Maps Go.ChangeMaps
def rc (R : Rn) (sl mp : Value) (k c e : Bool) (o : O) : Array Value := #[.int .i64 R.run, .int .u16 R.sp, .string R.nm, .int .i64 R.gen, .bool R.rf, sl, mp, .bool k, .bool c, .bool e, .int .i64 o.1, .int .i64 o.2.1, .int .i64 o.2.2.1, .int .i64 o.2.2.2]
def rv (R : Rn) : Value := .agg #[.int .i64 R.run, .int .u16 R.sp, .string R.nm, .int .i64 R.gen, .bool R.rf]
def PL (b : Nat) : Value := .pointer (some ⟨b, 5, none⟩)
structure Rc (w : World) (b : Nat) (R : Rn) (sl mp : Value) (k c e : Bool) (o : O) : Prop where
 bl : w.heap[b]? = some (.cells (rc R sl mp k c e o) 238 (0, 0))
structure Rcs (w : World) (b : Nat) (R : Rn) (sl mp : Value) (k c e : Bool) (o : O) : Prop where
 c0 : w.cell? ⟨b, 0, none⟩ = some (.int .i64 R.run)
 c1 : w.cell? ⟨b, 1, none⟩ = some (.int .u16 R.sp)
 c2 : w.cell? ⟨b, 2, none⟩ = some (.string R.nm)
 c3 : w.cell? ⟨b, 3, none⟩ = some (.int .i64 R.gen)
 c4 : w.cell? ⟨b, 4, none⟩ = some (.bool R.rf)
 c5 : w.cell? ⟨b, 5, none⟩ = some sl
 c6 : w.cell? ⟨b, 6, none⟩ = some mp
 c7 : w.cell? ⟨b, 7, none⟩ = some (.bool k)
 c8 : w.cell? ⟨b, 8, none⟩ = some (.bool c)
 c9 : w.cell? ⟨b, 9, none⟩ = some (.bool e)
 c10 : w.cell? ⟨b, 10, none⟩ = some (.int .i64 o.1)
 c11 : w.cell? ⟨b, 11, none⟩ = some (.int .i64 o.2.1)
 c12 : w.cell? ⟨b, 12, none⟩ = some (.int .i64 o.2.2.1)
 c13 : w.cell? ⟨b, 13, none⟩ = some (.int .i64 o.2.2.2)
section
variable {w w' : World} {b : Nat} {R : Rn} {sl mp : Value} {k c e : Bool} {o : O}
theorem Rc.lt (h : Rc w b R sl mp k c e o) : b < w.heap.size := block_lt h.bl
theorem Rc.cs (h : Rc w b R sl mp k c e o) : Rcs w b R sl mp k c e o :=
 ⟨cell_at h.bl rfl, cell_at h.bl rfl, cell_at h.bl rfl, cell_at h.bl rfl, cell_at h.bl rfl, cell_at h.bl rfl, cell_at h.bl rfl, cell_at h.bl rfl, cell_at h.bl rfl, cell_at h.bl rfl, cell_at h.bl rfl, cell_at h.bl rfl, cell_at h.bl rfl, cell_at h.bl rfl⟩
theorem Rc.fz (h : Rc w b R sl mp k c e o) (j : Nat) : w.frozen? ⟨b, j, none⟩ = false := froz_at h.bl j
theorem Rc.keep {F : List Nat} (h : Rc w b R sl mp k c e o) (T : Touch F w w') (hb : ¬ b ∈ F) : Rc w' b R sl mp k c e o := ⟨T.keep h.bl hb⟩
theorem Rc.set5 (h : Rc w b R sl mp k c e o) (v : Value) : Rc (w.setCell ⟨b, 5, none⟩ v) b R v mp k c e o := ⟨bset h.bl v⟩
theorem Rc.set6 (h : Rc w b R sl mp k c e o) (v : Value) : Rc (w.setCell ⟨b, 6, none⟩ v) b R sl v k c e o := ⟨bset h.bl v⟩
theorem Rc.set7 (h : Rc w b R sl mp k c e o) (v : Bool) : Rc (w.setCell ⟨b, 7, none⟩ (.bool v)) b R sl mp v c e o := ⟨bset h.bl _⟩
theorem Rc.set8 (h : Rc w b R sl mp k c e o) (v : Bool) : Rc (w.setCell ⟨b, 8, none⟩ (.bool v)) b R sl mp k v e o := ⟨bset h.bl _⟩
theorem Rc.set9 (h : Rc w b R sl mp k c e o) (v : Bool) : Rc (w.setCell ⟨b, 9, none⟩ (.bool v)) b R sl mp k c v o := ⟨bset h.bl _⟩
end
def Mp (w : World) (m : Option Nat) (cs : List Int) : Prop := (m = none ∧ cs = []) ∨ ∃ d, m = some d ∧ MapAt w d (wl cs).length (plv cs)
structure Ln (w : World) (sl : Value) (m : Option Nat) (cs : List Int) : Prop where
 row : w.ownsRow 0 3 1 sl cs.length (ints cs)
 mp : Mp w m cs
 ok : Okc cs
def fpR (b : Nat) (sl : Value) (m : Option Nat) : List Nat := b :: (sl.ownBlock.toList ++ m.toList)
theorem mem_fpR {b : Nat} {sl : Value} {m : Option Nat} {k : Nat} : k ∈ fpR b sl m ↔ k = b ∨ sl.ownBlock = some k ∨ m = some k := by
 simp [fpR]
section
variable {w w' : World} {b : Nat} {R : Rn} {sl : Value} {m : Option Nat} {cs : List Int} {k c e : Bool} {o : O} {F : List Nat}
theorem mapAt_kind {d n : Nat} {f : Int → Option Value} (h : MapAt w d n f) : ∃ es cl, w.heap[d]? = some (.map es cl) := by
 obtain ⟨D, ⟨es, cl, hb, _⟩, _⟩ := h
 exact ⟨es, cl, hb⟩
theorem Mp.kind (h : Mp w m cs) {d : Nat} (hd : m = some d) : ∃ es cl, w.heap[d]? = some (.map es cl) := by
 rcases h with ⟨h, _⟩ | ⟨d', hd', hm⟩
 ·rw [h] at hd; cases hd
 ·rw [hd'] at hd; cases hd; exact mapAt_kind hm
theorem Mp.lt (h : Mp w m cs) {d : Nat} (hd : m = some d) : d < w.heap.size := by
 obtain ⟨es, cl, h1⟩ := h.kind hd
 exact block_lt h1
theorem Mp.keep (h : Mp w m cs) (T : Touch F w w') (hF : ∀ d, m = some d → ¬ d ∈ F) : Mp w' m cs := by
 rcases h with h | ⟨d, hd, hm⟩
 ·exact Or.inl h
 ·exact Or.inr ⟨d, hd, hm.kept (T.block d hm.lt (hF d hd))⟩
theorem Ln.keep (h : Ln w sl m cs) (T : Touch F w w') (h1 : ∀ d, sl.ownBlock = some d → ¬ d ∈ F) (h2 : ∀ d, m = some d → ¬ d ∈ F) : Ln w' sl m cs :=
 ⟨own_touch h.row T h1, h.mp.keep T h2, h.ok⟩
theorem Ln.nil (w : World) : Ln w (.slice none 0 0) none [] := ⟨World.ownsRow_nil _ _ _ _, Or.inl ⟨rfl, rfl⟩, Okc.nil⟩
theorem row_ne (h : Rc w b R sl (.map m) k c e o) {v : Value} {n : Nat} {xs : List Value} {B : Nat} (hr : w.ownsRow B 3 1 v n xs) {d : Nat} (hd : v.ownBlock = some d) : d ≠ b := fun e' => by
 obtain ⟨cur, hc⟩ := own_kind hr hd
 subst e'
 rw [h.bl] at hc
 simp at hc
theorem map_ne (h : Rc w b R sl (.map m) k c e o) (hm : Mp w m cs) {d : Nat} (hd : m = some d) : d ≠ b := fun e' => by
 obtain ⟨es, cl, hc⟩ := hm.kind hd
 subst e'
 rw [h.bl] at hc
 simp at hc
theorem row_map {v : Value} {n : Nat} {xs : List Value} {B : Nat} (hr : w.ownsRow B 3 1 v n xs) (hm : Mp w m cs) {d d' : Nat} (hd : v.ownBlock = some d) (hd' : m = some d') : d ≠ d' := fun e' => by
 obtain ⟨cur, hc⟩ := own_kind hr hd
 obtain ⟨es, cl, hc'⟩ := hm.kind hd'
 subst e'
 rw [hc] at hc'
 simp at hc'
structure Rl (w : World) (b : Nat) (R : Rn) (k c e : Bool) (o : O) (sl : Value) (m : Option Nat) (cs : List Int) : Prop where
 rc : Rc w b R sl (.map m) k c e o
 ln : Ln w sl m cs
theorem Rl.lt (h : Rl w b R k c e o sl m cs) : ∀ d, d ∈ fpR b sl m → d < w.heap.size := fun d hd => by
 rcases mem_fpR.1 hd with e | e | e
 ·subst e; exact h.rc.lt
 ·exact (h.ln.row.lt d e).2
 ·exact h.ln.mp.lt e
theorem Rl.keep (h : Rl w b R k c e o sl m cs) (T : Touch F w w') (hF : ∀ d, d ∈ fpR b sl m → ¬ d ∈ F) : Rl w' b R k c e o sl m cs :=
 ⟨h.rc.keep T (hF b (mem_fpR.2 (Or.inl rfl))), h.ln.keep T (fun d hd => hF d (mem_fpR.2 (Or.inr (Or.inl hd)))) (fun d hd => hF d (mem_fpR.2 (Or.inr (Or.inr hd))))⟩
theorem Rl.keep0 (h : Rl w b R k c e o sl m cs) (T : Touch [] w w') : Rl w' b R k c e o sl m cs := h.keep T (fun _ _ e => by cases e)
def LnE (w w' : World) (b : Nat) (R : Rn) (k c e : Bool) (o : O) (F : List Nat) (cs : List Int) : Prop := ∃ sl m, Rl w' b R k c e o sl m cs ∧ Touch F w w' ∧ Nf w F (fpR b sl m)
end
end Go.Proofs.YtkfophlhpjbmgaaGreat.Ta
/- Contracts of a line's has, count and all. -/
namespace Go.Proofs.YtkfophlhpjbmgaaGreat.Ta
open Go.RowKit Go.Maps Go.ChangeMaps
section
variable {w : World} {b : Nat} {R : Rn} {sl : Value} {m : Option Nat} {cs : List Int} {k c e : Bool} {o : O}
theorem has29 (h : Rl w b R k c e o sl m cs) (x : Int) (hx : W64 x) : Calls Tryz.prog 160 #[PL b, .int .i64 x] w fun e w' => e = .returned (.bool (decide (x ∈ wl cs))) ∧ w' = w := by
 have c6 := h.rc.cs.c6
 rcases h.ln.mp with ⟨rfl, hW⟩ | ⟨d, rfl, hm⟩
 ·subst hW
  rw [show decide (x ∈ wl []) = false by simp [wl]]
  have hl := Maps.look_nil (P := Tryz.prog) (w := w) true keyed3 Tryz.underlying31 (zero3 w) (key3 hx)
  simp only [if_true] at hl
  clear h
  unfold PL
  go_enter Tryz.func160, Tryz.ntmps160
  go_wp2
  go_ret
  exact ⟨rfl, rfl⟩
 ·have hl := hm.lookOk (t := 31) Tryz.underlying31 (zero3 w) hx
  rw [plv_isSome] at hl
  clear h hm
  generalize (plv cs x).getD (.int .i64 0) = z at *
  generalize decide (x ∈ wl cs) = B at *
  unfold PL
  go_enter Tryz.func160, Tryz.ntmps160
  go_wp2
  go_ret
  exact ⟨rfl, rfl⟩
theorem count35 (h : Rl w b R k c e o sl m cs) : Calls Tryz.prog 165 #[PL b] w fun e w' => e = .returned (.int .i64 ((wl cs).length : Nat)) ∧ w' = w := by
 have c6 := h.rc.cs.c6
 rcases h.ln.mp with ⟨rfl, hW⟩ | ⟨d, rfl, hm⟩
 ·subst hW
  have hl := fun ty => Maps.len_nil (P := Tryz.prog) (w := w) Tryz.underlying31 ty
  clear h
  unfold PL
  go_enter Tryz.func165, Tryz.ntmps165
  go_wp2
  go_ret
  exact ⟨rfl, rfl⟩
 ·have hl := fun ty => hm.len (t := 31) Tryz.underlying31 ty
  clear h hm
  generalize (wl cs).length = n at *
  unfold PL
  go_enter Tryz.func165, Tryz.ntmps165
  go_wp2
  go_ret
  exact ⟨rfl, rfl⟩
end
theorem mk33 (w : World) (n : Nat) (h : n ≤ 3000000000000) : (Instr.makeSlice 47 (.int .i64 0) (.int .i64 (n : Int))).run Tryz.prog w = .ok (.slice (some ⟨w.heap.size, 0, none⟩) 0 n) (w.alloc (.cells (madeCells #[.int .i64 0] n) 3)) := by
 obtain ⟨i3, hi3, hz0, hz1, hz2⟩ := info_parts info3
 have := run_make (P := Tryz.prog) w 47 3 i3 (.int .i64 0) Tryz.underlying47 hi3 hz0 .i64 .i64 0 (n : Int) (Int.le_refl _) (by omega) (by rw [hz2]; omega) (by omega)
 rw [hz1] at this
 simpa [Value.cells] using this
theorem mk33_own (w : World) (n : Nat) (h : n ≤ 3000000000000) : (w.alloc (.cells (madeCells #[.int .i64 0] n) 3)).ownsRow w.heap.size 3 1 (.slice (some ⟨w.heap.size, 0, none⟩) 0 n) 0 [] :=
 World.ownsRow_made w _ _ (Nat.le_refl _) (by unfold maxLen; omega) (by rw [size_madeCells, Nat.mul_one])
theorem ints_snoc (xs : List Int) (y : Int) : ints xs ++ [.int .i64 y] = ints (xs ++ [y]) := by simp [ints]
theorem wpList_append_int {w : World} {ops : Array Oper} {rest : List Oper} {o : Oper} {a : Act} {Q : Exit → Act → World → Prop} (hgd : o.guard = none) (s x : Operand) (ho : o.op = .call { callee := .builtin .append, args := #[s, x], argTypes := #[47, 47] })
  (base : Nat) (v : Value) (xs : List Int) (hs : a.eval s = v) (hown : w.ownsRow base 3 1 v xs.length (ints xs)) (g' : Nat) (y : Int) (hx : a.eval x = .slice (some ⟨g', 0, none⟩) 1 1) (hc : w.cell? ⟨g', 0, none⟩ = some (.int .i64 y)) (hb : xs.length ≤ 3000000000000) (hbase : base ≤ w.heap.size)
  (h : ∀ g cap w', w'.ownsRow base 3 1 (.slice (some ⟨g, 0, none⟩) (xs.length + 1) cap) (xs.length + 1) (ints (xs ++ [y])) → w.grownBy w' v.ownBlock → (v.ownBlock = some g ∨ g = w.heap.size) → wpList Tryz.prog ops Q rest (a.put o.dst (.slice (some ⟨g, 0, none⟩) (xs.length + 1) cap)) w') : wpList Tryz.prog ops Q (o :: rest) a w := by
 obtain ⟨i3, hi3, hz0, hz1, hz2⟩ := info_parts info3
 refine wpList_append_own_at w hgd s x 47 ho base 3 i3 (.int .i64 0) 1 8 Tryz.underlying47 hi3 hz0 hz1 hz2 rfl (by decide) v xs.length (ints xs) hs hown ⟨g', 0, none⟩ 1 1 [.int .i64 y] hx rfl (fun j u hj => ?_) (fun u hu => by simp only [List.mem_singleton] at hu; subst hu; rfl) (by unfold maxLen; omega) (by omega) hbase (fun v' w' r gr nn at' => ?_)
 ·match j, hj with
  | 0, hj => simp at hj; subst hj; simpa [Addr.add] using hc
 ·rw [ints_snoc] at r
  obtain ⟨g, cap, rfl, _⟩ := own_some r (by omega)
  exact h g cap w' r gr (at'.elim (fun q => Or.inl q.symm) (fun q => Or.inr (by simpa [Value.ownBlock] using q)))
def AlE (e : Ending) (w w' : World) (xs : List Int) : Prop := ∃ g cap, e = .returned (.slice (some ⟨g, 0, none⟩) xs.length cap) ∧ w'.ownsRow w.heap.size 3 1 (.slice (some ⟨g, 0, none⟩) xs.length cap) xs.length (ints xs) ∧ Touch [] w w'
theorem wl_take {cs : List Int} {i : Nat} {x : Int} (hx : cs[i]? = some x) : wl (cs.take (i + 1)) = if x = 0 then wl (cs.take i) else wl (cs.take i) ++ [x] := by
 obtain ⟨h, rfl⟩ := List.getElem?_eq_some_iff.1 hx
 rw [List.take_succ_eq_append_getElem h, wl_app]
 split
 ·rename_i e; rw [e]; simp [wl]
 ·rename_i e; rw [wl_one e]
theorem wl_take_le (cs : List Int) (i : Nat) : (wl (cs.take i)).length ≤ cs.length := Nat.le_trans (wl_len _) (by simp; omega)
section
variable (w : World) (b : Nat) (R : Rn) (sl : Value) (m : Option Nat) (cs : List Int) (k c e : Bool) (o : O)
set_option maxHeartbeats 4000000 in
set_option maxRecDepth 100000 in
theorem all34 (h : Rl w b R k c e o sl m cs) (hle : cs.length ≤ 3000000000000) : Calls Tryz.prog 136 #[PL b] w fun e w' => AlE e w w' (wl cs) := by
 obtain ⟨i3, hi3, hz0, hz1, hz2⟩ := info_parts info3
 have HC := hid (count35 h)
 have hwl := wl_len cs
 have hmk := mk33 w (wl cs).length (by omega)
 have HM : Hid ((w.alloc (.cells (madeCells #[.int .i64 0] (wl cs).length) 3)).ownsRow w.heap.size 3 1 (.slice (some ⟨w.heap.size, 0, none⟩) 0 (wl cs).length) 0 [] ∧ Touch [] w (w.alloc (.cells (madeCells #[.int .i64 0] (wl cs).length) 3))) := ⟨mk33_own w _ (by omega), (Touch.refl _ _).alloc _⟩
 have c5 := h.rc.cs.c5
 have hlt0 := h.rc.lt
 have hne : b ≠ w.heap.size := by omega
 have HI : Hid (∀ wr, Touch [] w wr → ∀ g cap, sl = .slice (some ⟨g, 0, none⟩) cs.length cap → ∀ i x, cs[i]? = some x → wr.cell? ⟨g, i, none⟩ = some (.int .i64 x)) := fun wr T g cap hs i x hi => by
  have := (h.keep0 T).ln.row
  rw [hs] at this
  exact own_cell this (by simp [ints, hi])
 have HX : Hid (∀ i, i < cs.length → ∃ x, cs[i]? = some x) := fun i hi => ⟨_, List.getElem?_eq_getElem hi⟩
 have HF : Hid (∃ a cap, sl = .slice a cs.length cap ∧ (0 < cs.length → ∃ g, a = some ⟨g, 0, none⟩)) := by
  rcases h.ln.row.2 with ⟨e1, e2⟩ | ⟨g, cap, cur, e1, _⟩
  ·exact ⟨none, 0, by rw [e1, e2], fun q => by omega⟩
  ·exact ⟨_, cap, e1, fun _ => ⟨g, rfl⟩⟩
 have HE : Hid (∀ g cap wr, wr.ownsRow w.heap.size 3 1 (.slice (some ⟨g, 0, none⟩) (wl cs).length cap) (wl cs).length (ints (wl cs)) → Touch [] w wr → AlE (.returned (.slice (some ⟨g, 0, none⟩) (wl cs).length cap)) w wr (wl cs)) := fun g cap wr r T => ⟨g, cap, rfl, r, T⟩
 have HT : Hid (∀ i x, cs[i]? = some x → wl (cs.take (i + 1)) = if x = 0 then wl (cs.take i) else wl (cs.take i) ++ [x]) := fun i x hx => wl_take hx
 have HL : Hid (∀ i, (wl (cs.take i)).length ≤ 3000000000000) := fun i => Nat.le_trans (wl_take_le cs i) hle
 have HZ : Hid (wl (cs.take cs.length) = wl cs) := hid (by rw [List.take_length])
 obtain ⟨N, hN⟩ : ∃ N, N = (wl cs).length := ⟨_, rfl⟩
 obtain ⟨L, hL⟩ : ∃ L, L = cs.length := ⟨_, rfl⟩
 have HLL := hid hL
 have HNN := hid hN
 clear h
 rw [← hN] at hmk HM HC hwl
 rw [← hL] at hle hwl HF HI HX HZ
 clear hN hL
 obtain ⟨a, cap, rfl, hA⟩ := HF.out
 have HA := hid hA
 clear hA HF
 unfold PL at *
 go_enter Tryz.func136, Tryz.ntmps136
 go_wp2_with (go_at_call 165; refine HC.out.mono ?_; rintro e w ⟨rfl, rfl⟩)
 go_loopw [3, 14] (fun s i wr => ∃ (j g cap' : Nat), i = .int .i64 (j : Nat) ∧ j ≤ L ∧ s = .slice (some ⟨g, 0, none⟩) (wl (cs.take j)).length cap' ∧ Hid (wr.ownsRow w.heap.size 3 1 (.slice (some ⟨g, 0, none⟩) (wl (cs.take j)).length cap') (wl (cs.take j)).length (ints (wl (cs.take j))) ∧ Touch [] w wr)) (fun _ i _ => L - (intOf i).toNat)
 case atStart => exact ⟨0, w.heap.size, N, rfl, Nat.zero_le _, rfl, HM⟩
 case round =>
  obtain ⟨j, g, cap', rfl, hj, rfl, HR⟩ := hrel
  by_cases hlt : j < L
  ·have zk : (j : Int) < (L : Int) := by omega
   have zL : (L : Int) < 9223372036854775807 := by omega
   obtain ⟨x, hx⟩ := HX.out j hlt
   obtain ⟨ga, rfl⟩ := HA.out (by omega)
   have hc := HI.out wr HR.out.2 ga cap rfl j x hx
   have ht := HT.out j x hx
   have hlj := HL.out j
   by_cases h0 : x = 0
   ·subst h0
    rw [if_pos rfl] at ht
    have HT2 := hid ht
    clear ht
    go_wp2
    go_roundw
    case rel => exact ⟨j + 1, g, cap', by go_num, by omega, by rw [HT2.out], by rw [HT2.out]; exact HR⟩
    case measure => simp [intOf]; omega
   ·rw [if_neg h0] at ht
    have hxn : (x != 0) = true := by simp [h0]
    have HT2 := hid ht
    have hs := block_lt (own_block HR.out.1).choose_spec.1
    clear ht
    have HO : Hid (∀ ob, (wr.alloc ob).ownsRow w.heap.size 3 1 (.slice (some ⟨g, 0, none⟩) (wl (cs.take j)).length cap') (wl (cs.take j)).length (ints (wl (cs.take j)))) := fun ob => own_touch HR.out.1 ((Touch.refl [] _).alloc _) (fun _ _ e => by cases e)
    have HS := hid HR.out.2.size
    have HLJ := hid hlj
    have HR2 : Hid (∀ g' cap'' w5, w5.ownsRow w.heap.size 3 1 (.slice (some ⟨g', 0, none⟩) ((wl (cs.take j)).length + 1) cap'') ((wl (cs.take j)).length + 1) (ints (wl (cs.take j) ++ [x])) → (wr.alloc (.cells #[.int .i64 x] 3)).grownBy w5 (some g) → ∃ n, n = (wl (cs.take j)).length + 1 ∧ n = (wl (cs.take (j + 1))).length ∧ Hid (w5.ownsRow w.heap.size 3 1 (.slice (some ⟨g', 0, none⟩) (wl (cs.take (j + 1))).length cap'') (wl (cs.take (j + 1))).length (ints (wl (cs.take (j + 1)))) ∧ Touch [] w w5)) := fun g' cap'' w5 r gr => by
     refine ⟨_, rfl, by rw [HT2.out]; simp, ?_⟩
     have e1 : (wl (cs.take (j + 1))).length = (wl (cs.take j)).length + 1 := by rw [HT2.out]; simp
     rw [e1, HT2.out]
     exact ⟨r, (HR.out.2.alloc _).grown gr (fun q hq => Or.inr (by cases hq; exact (own_block HR.out.1).choose_spec.2.2.2.2.2.1))⟩
    clear hlj hs
    generalize wl (cs.take j) = ys at *
    clear hx HT2 h0
    go_wp2_with (at_builtin; refine wpList_append_int rfl _ _ rfl w.heap.size (.slice (some ⟨g, 0, none⟩) ys.length cap') ys rfl (HO.out _) wr.heap.size x rfl (by simp) HLJ.out (by have := HS.out; simp; omega) ?_; intro g5 c5' w5 o5 r5 _; obtain ⟨n5, e5, e6, O5⟩ := HR2.out _ _ _ o5 r5; have E5 := hid e5; have E6 := hid e6; clear o5 r5 e5 e6)
    rw [← E5.out]
    go_wp2
    go_roundw
    case rel => exact ⟨j + 1, g5, c5', by go_num, by omega, by rw [E6.out], O5⟩
    case measure => simp [intOf]; omega
  ·have e : j = L := by omega
   subst e
   have HX := hid HR.out
   rw [HZ.out] at HX
   have HX2 := hid (HE.out _ _ _ HX.out.1 HX.out.2)
   rw [HZ.out]
   clear HX HR
   generalize (wl cs).length = n at *
   go_wp2
   go_ret
   exact HX2.out
end
end Go.Proofs.YtkfophlhpjbmgaaGreat.Ta
/- The contract of a line's add. -/
namespace Go.Proofs.YtkfophlhpjbmgaaGreat.Ta
open Go.RowKit Go.Maps Go.ChangeMaps
theorem eq63 (w : World) (r : Option Nat) : (binOp .eql 31 (.map r) (.map none)).run Tryz.prog w = .ok (.bool r.isNone) w := run_eql_map_nil w _ _ _ r Tryz.underlying31
section
variable (w : World) (b : Nat) (R : Rn) (sl : Value) (m : Option Nat) (cs : List Int) (k c e : Bool) (o : O)
set_option maxHeartbeats 4000000 in
set_option maxRecDepth 100000 in
theorem add21_some (d : Nat) (h : Rl w b R k c e o sl (some d) cs) (x : Int) (hx : W64 x) (h0 : x ≠ 0) (hn : ¬ x ∈ wl cs) (hle : cs.length ≤ 3000000000000) : Calls Tryz.prog 161 #[PL b, .int .i64 x] w fun e' w' => e' = .returned (.tuple #[]) ∧ LnE w w' b R k c e o (fpR b sl (some d)) (cs ++ [x]) := by
 obtain ⟨a, cap, rfl⟩ := own_form h.ln.row
 have q63 := eq63
 have c6 := h.rc.cs.c6
 have H5 : ∀ w', Touch [] w w' → w'.cell? ⟨b, 5, none⟩ = some (.slice a cs.length cap) := fun w' T => (h.keep0 T).rc.cs.c5
 have H6 : ∀ w', Touch [] w w' → w'.cell? ⟨b, 6, none⟩ = some (.map (some d)) := fun w' T => (h.keep0 T).rc.cs.c6
 have HMP : Hid (MapAt w.drew d (wl cs).length (plv cs)) := by
  rcases h.ln.mp with ⟨q, _⟩ | ⟨d', q, hm⟩
  ·cases q
  ·cases q; exact hm.kept rfl
 have HNM : Hid ((wl cs).length < maxLen) := by have := wl_len cs; unfold maxLen; exact hid (by omega)
 unfold PL
 have HLE := hid hle
 have HH := hid h
 clear hle h
 go_enter Tryz.func161, Tryz.ntmps161
 go_upto_region 2 with fail
 have s0 : Touch [] w w.drew := (Touch.refl _ _).drew
 refine wp_region_L (S := fun w' => Touch [] w w') (st := 10) (by kernel_rfl) ?_
 refine wpL_take (i := 0) (v := (.pointer (some ⟨b, 5, none⟩))) (some 13) rfl rfl (by kernel_rfl) (by kernel_rfl) (by kernel_rfl) (by kernel_rfl) (by kernel_rfl) (by decide) (fun _ _ _ h => h) (Or.inl ⟨by rfl, fun w' hS => (by go_simp)⟩) s0 ?_
 try simp only [Go.Act.put, Zx, Zy, Zz]
 refine wpL_take (i := 1) (v := (.pointer (some ⟨b, 5, none⟩))) (some 14) rfl rfl (by kernel_rfl) (by kernel_rfl) (by kernel_rfl) (by kernel_rfl) (by kernel_rfl) (by decide) (fun _ _ _ h => h) (Or.inl ⟨by rfl, fun w' hS => (by go_simp)⟩) s0 ?_
 try simp only [Go.Act.put, Zx, Zy, Zz]
 refine wpL_take (i := 2) (v := (.pointer (some ⟨b, 6, none⟩))) (some 15) rfl rfl (by kernel_rfl) (by kernel_rfl) (by kernel_rfl) (by kernel_rfl) (by kernel_rfl) (by decide) (fun _ _ _ h => h) (Or.inl ⟨by rfl, fun w' hS => (by go_simp)⟩) s0 ?_
 try simp only [Go.Act.put, Zx, Zy, Zz]
 refine wpL_take (i := 3) (v := (.map (some d))) (some 16) rfl rfl (by kernel_rfl) (by kernel_rfl) (by kernel_rfl) (by kernel_rfl) (by kernel_rfl) (by decide) (fun _ _ _ h => h) (Or.inl ⟨by rfl, fun w' hS => (by have z0 := H6 _ hS; go_simp)⟩) s0 ?_
 try simp only [Go.Act.put, Zx, Zy, Zz]
 refine wpL_take (i := 4) (v := (.int .i64 x)) (some 17) rfl rfl (by kernel_rfl) (by kernel_rfl) (by kernel_rfl) (by kernel_rfl) (by kernel_rfl) (by decide) (fun _ _ _ h => h) (Or.inl ⟨by rfl, fun w' hS => (by go_simp)⟩) s0 ?_
 try simp only [Go.Act.put, Zx, Zy, Zz]
 refine wpL_take (i := 5) (v := (.pointer (some ⟨b, 5, none⟩))) (some 18) rfl rfl (by kernel_rfl) (by kernel_rfl) (by kernel_rfl) (by kernel_rfl) (by kernel_rfl) (by decide) (fun _ _ _ h => h) (Or.inl ⟨by rfl, fun w' hS => (by go_simp)⟩) s0 ?_
 try simp only [Go.Act.put, Zx, Zy, Zz]
 refine wpL_take (i := 6) (v := (.pointer (some ⟨b, 5, none⟩))) (some 19) rfl rfl (by kernel_rfl) (by kernel_rfl) (by kernel_rfl) (by kernel_rfl) (by kernel_rfl) (by decide) (fun _ _ _ h => h) (Or.inl ⟨by rfl, fun w' hS => (by go_simp)⟩) s0 ?_
 try simp only [Go.Act.put, Zx, Zy, Zz]
 refine wpL_take (i := 7) (v := (.pointer (some ⟨b, 5, none⟩))) (some 20) rfl rfl (by kernel_rfl) (by kernel_rfl) (by kernel_rfl) (by kernel_rfl) (by kernel_rfl) (by decide) (fun _ _ _ h => h) (Or.inl ⟨by rfl, fun w' hS => (by go_simp)⟩) s0 ?_
 try simp only [Go.Act.put, Zx, Zy, Zz]
 refine wpL_take (i := 8) (v := (.slice a cs.length cap)) (some 21) rfl rfl (by kernel_rfl) (by kernel_rfl) (by kernel_rfl) (by kernel_rfl) (by kernel_rfl) (by decide) (fun _ _ _ h => h) (Or.inl ⟨by rfl, fun w' hS => (by have z0 := H5 _ hS; go_simp)⟩) s0 ?_
 try simp only [Go.Act.put, Zx, Zy, Zz]
 refine wpL_take (i := 9) (v := (.int .i64 (cs.length : Nat))) (some 22) rfl rfl (by kernel_rfl) (by kernel_rfl) (by kernel_rfl) (by kernel_rfl) (by kernel_rfl) (by decide) (fun _ _ _ h => h) (Or.inl ⟨by rfl, fun w' hS => (by go_simp)⟩) s0 ?_
 try simp only [Go.Act.put, Zx, Zy, Zz]
 refine wpL_ready (rs := [10]) (by kernel_rfl) (by simp) (AllL.cons (o := { dst := none, op := Op.mapUpdate 31 (Operand.tmp 16) (Operand.tmp 17) (Operand.tmp 22), type := 0, pos := _, after := #[{ on := 3, ground := Ground.data }, { on := 4, ground := Ground.data }, { on := 9, ground := Ground.data }, { on := 0, ground := Ground.phase }, { on := 1, ground := Ground.phase }, { on := 2, ground := Ground.phase }, { on := 3, ground := Ground.phase }, { on := 4, ground := Ground.phase }, { on := 5, ground := Ground.phase }, { on := 6, ground := Ground.phase }, { on := 7, ground := Ground.phase }, { on := 8, ground := Ground.phase }, { on := 9, ground := Ground.phase }], guard := none }) rfl (fun K' hK => ?_) AllL.nil)
 rw [if_pos (by rfl)]
 go_simp
 obtain ⟨ob, hrun, hM⟩ := HMP.out.set (t := 31) Tryz.underlying31 HNM.out hx (.int .i64 (cs.length : Nat))
 simp only [hrun]
 refine hK.out _ _ (fun h => absurd h (by decide)) ?_
 clear hK
 try simp only [Go.Act.put, Zx, Zy, Zz]
 refine wpL_done (by kernel_rfl) ?_ _
 obtain ⟨W2, hW2⟩ : ∃ W2, W2 = setBlock w.drew d ob := ⟨_, rfl⟩
 have T2 : Touch [d] w W2 := by rw [hW2]; exact touch_setBlock (Touch.refl _ _).drew (by simp) ob
 have HD : Hid (MapAt W2 d ((wl cs).length + 1) (plv (cs ++ [x])) ∧ W2.ownsRow 0 3 1 (.slice a cs.length cap) cs.length (ints cs) ∧ Rc W2 b R (.slice a cs.length cap) (.map (some d)) k c e o) := by
  have h := HH.out
  have hr := h.ln.row
  have hrc := h.rc
  refine ⟨?_, own_touch hr T2 (fun q hq e' => ?_), hrc.keep T2 (fun e' => ?_)⟩
  ·rw [← hW2] at hM
   rw [plv_none hn] at hM
   refine (show MapAt W2 d ((wl cs).length + 1) _ from hM).congr (fun q _ => ?_)
   exact plv_put h0 hn q
  ·simp only [List.mem_singleton] at e'
   exact row_map h.ln.row h.ln.mp hq rfl e'
  ·simp only [List.mem_singleton] at e'
   exact map_ne h.rc h.ln.mp rfl e'.symm
 clear hrun hM
 rw [← hW2]
 clear hW2 ob s0 H5 H6 c6 HMP HNM q63
 have T2' := hid T2
 clear T2
 have c5 := HD.out.2.2.cs.c5
 have hbl := HD.out.2.2.lt
 have hne : b ≠ W2.heap.size := by omega
 have HO : Hid (∀ ob, (W2.alloc ob).ownsRow 0 3 1 (.slice a cs.length cap) cs.length (ints cs)) := fun ob => by
  exact own_touch HD.out.2.1 ((Touch.refl [] _).alloc _) (fun _ _ e => by cases e)
 have HX : Hid (∀ g5 c5 w5, w5.ownsRow 0 3 1 (.slice (some ⟨g5, 0, none⟩) (cs.length + 1) c5) (cs.length + 1) (ints (cs ++ [x])) → (W2.alloc (.cells #[.int .i64 x] 3)).grownBy w5 (Value.slice a cs.length cap).ownBlock → ((Value.slice a cs.length cap).ownBlock = some g5 ∨ g5 = (W2.alloc (.cells #[.int .i64 x] 3)).heap.size) →
   (w5.cell? ⟨b, 5, none⟩ = some (.slice a cs.length cap) ∧ w5.frozen? ⟨b, 5, none⟩ = false ∧ b < w5.heap.size) ∧ LnE w (w5.setCell ⟨b, 5, none⟩ (.slice (some ⟨g5, 0, none⟩) (cs.length + 1) c5)) b R k c e o (fpR b (.slice a cs.length cap) (some d)) (cs ++ [x])) := fun g5 c5 w5 o5 r5 p5 => by
  obtain ⟨hm, hr, hrc⟩ := HD.out
  have tA : Touch ((Value.slice a cs.length cap).ownBlock.toList) W2 w5 := ((Touch.refl _ _).alloc _).grown r5 (fun q hq => Or.inl (by rw [hq]; simp))
  have hrc5 : Rc w5 b R (.slice a cs.length cap) (.map (some d)) k c e o := hrc.keep tA (fun e' => by
   simp only [Option.mem_toList] at e'
   exact row_ne hrc hr e' rfl)
  refine ⟨⟨hrc5.cs.c5, hrc5.fz 5, hrc5.lt⟩, ?_⟩
  have tB : Touch [b] w5 (w5.setCell ⟨b, 5, none⟩ (.slice (some ⟨g5, 0, none⟩) (cs.length + 1) c5)) := (Touch.refl _ _).setCell (Or.inl (by simp)) _
  have hm2 : Mp W2 (some d) (cs ++ [x]) := Or.inr ⟨d, rfl, by rw [wl_app, wl_one h0]; simpa using hm⟩
  have hm5 : Mp w5 (some d) (cs ++ [x]) := hm2.keep tA (fun q hq e' => by
   simp only [Option.mem_toList] at e'
   exact row_map hr hm2 e' hq rfl)
  refine ⟨_, some d, ⟨hrc5.set5 _, ⟨?_, hm5.keep tB (fun q hq e' => ?_), HH.out.ln.ok.put hx h0 hn⟩⟩, ?_, fun q hq => ?_⟩
  ·rw [show (cs ++ [x]).length = cs.length + 1 by simp]
   refine own_touch o5 tB (fun q hq e' => ?_)
   simp only [List.mem_singleton] at e'
   exact row_ne hrc5 o5 hq e'
  ·simp only [List.mem_singleton] at e'
   exact map_ne hrc5 hm5 hq e'
  ·refine (((T2'.out.mono (fun q hq => ?_)).trans tA (fun q hq => ?_)).trans tB (fun q hq => ?_))
   ·simp only [List.mem_singleton] at hq; exact mem_fpR.2 (Or.inr (Or.inr (by rw [hq])))
   ·simp only [Option.mem_toList] at hq; exact Or.inl (mem_fpR.2 (Or.inr (Or.inl hq)))
   ·simp only [List.mem_singleton] at hq; exact Or.inl (mem_fpR.2 (Or.inl hq))
  ·rcases mem_fpR.1 hq with e' | e' | e'
   ·exact Or.inl (mem_fpR.2 (Or.inl e'))
   ·simp only [Value.ownBlock, Option.some.injEq] at e'
    subst e'
    rcases p5 with p | p
    ·exact Or.inl (mem_fpR.2 (Or.inr (Or.inl p)))
    ·refine Or.inr ?_
     have := T2'.out.size
     rw [p]; simp; omega
   ·exact Or.inl (mem_fpR.2 (Or.inr (Or.inr e')))
 clear HD HH hx h0 hn T2'
 go_wp2_with (at_builtin; refine wpList_append_int rfl _ _ rfl 0 (.slice a cs.length cap) cs rfl (HO.out _) W2.heap.size x rfl (by simp) HLE.out (Nat.zero_le _) ?_; intro g5 c5' w5 o5 r5 p5; obtain ⟨⟨y1, y2, y3⟩, y4⟩ := HX.out _ _ _ o5 r5 p5; have Y4 := hid y4; clear o5 r5 p5 y4)
 go_end0
 exact ⟨rfl, Y4.out⟩
set_option maxHeartbeats 4000000 in
set_option maxRecDepth 100000 in
theorem add21_none (h : Rl w b R k c e o sl none cs) (x : Int) (hx : W64 x) (h0 : x ≠ 0) (hn : ¬ x ∈ wl cs) (hle : cs.length ≤ 3000000000000) : Calls Tryz.prog 161 #[PL b, .int .i64 x] w fun e' w' => e' = .returned (.tuple #[]) ∧ LnE w w' b R k c e o (fpR b sl none) (cs ++ [x]) := by
 obtain ⟨a, cap, rfl⟩ := own_form h.ln.row
 have hcs : cs = [] := by
  rcases h.ln.mp with ⟨_, q⟩ | ⟨d', q, hm⟩
  ·exact q
  ·cases q
 have q63 := eq63
 have hmm := @run_makeMap Tryz.prog
 have c6 := h.rc.cs.c6
 have f6 := h.rc.fz 6
 have hbl := h.rc.lt
 have hne : b ≠ w.heap.size := by omega
 obtain ⟨W1, hW1⟩ : ∃ W1, W1 = (w.setCell ⟨b, 6, none⟩ (.map (some w.heap.size))).alloc (.map #[] 0) := ⟨_, rfl⟩
 have T1 : Hid (Touch [b] w W1) := by rw [hW1]; exact ((Touch.refl _ _).setCell (Or.inl (by simp)) _).alloc _
 have HH : Hid (Rl W1 b R k c e o (.slice a cs.length cap) (some w.heap.size) cs) := by
  refine ⟨?_, own_touch h.ln.row T1.out (fun q hq e' => ?_), Or.inr ⟨_, rfl, ?_⟩, h.ln.ok⟩
  ·rw [hW1]
   exact (h.rc.set6 _).keep ((Touch.refl [] _).alloc _) (by simp)
  ·simp only [List.mem_singleton] at e'
   exact row_ne h.rc h.ln.row hq e'
  ·rw [hW1, hcs]
   have := mapAt_made (w.setCell ⟨b, 6, none⟩ (.map (some w.heap.size)))
   have e1 : (w.setCell ⟨b, 6, none⟩ (.map (some w.heap.size))).heap.size = w.heap.size := by simp [World.setCell]
   rw [e1] at this
   exact this.congr (fun q _ => (plv_nil q).symm)
 have HSZ := hid h.rc.lt
 clear h hcs
 obtain ⟨d, hd⟩ : ∃ d, d = w.heap.size := ⟨_, rfl⟩
 have HDD := hid hd
 rw [← hd] at HH
 have HLE := hid hle
 clear hle
 unfold PL
 go_enter Tryz.func161, Tryz.ntmps161
 go_upto_region 2 with fail
 rw [← hW1, ← hd]
 clear hd hW1 c6 f6 hbl hne hmm
 have HFIN : Hid (∀ w', LnE W1 w' b R k c e o (fpR b (.slice a cs.length cap) (some d)) (cs ++ [x]) → LnE w w' b R k c e o (fpR b (.slice a cs.length cap) none) (cs ++ [x])) := fun w' ⟨sl', m', r1, r2, r3⟩ => by
  have hz := T1.out.size
  have aux : ∀ q, q ∈ fpR b (.slice a cs.length cap) (some d) → q ∈ fpR b (.slice a cs.length cap) none ∨ w.heap.size ≤ q := fun q hq => by
   rcases mem_fpR.1 hq with e' | e' | e'
   ·exact Or.inl (mem_fpR.2 (Or.inl e'))
   ·exact Or.inl (mem_fpR.2 (Or.inr (Or.inl e')))
   ·refine Or.inr ?_
    cases e'
    rw [HDD.out]
    exact Nat.le_refl _
  refine ⟨sl', m', r1, (T1.out.mono (fun q hq => ?_)).trans r2 aux, fun q hq => ?_⟩
  ·simp only [List.mem_singleton] at hq; exact mem_fpR.2 (Or.inl hq)
  ·rcases r3 q hq with e' | e'
   ·exact aux q e'
   ·exact Or.inr (Nat.le_trans hz e')
 clear T1 HSZ HDD
 have H5 : ∀ w', Touch [] W1 w' → w'.cell? ⟨b, 5, none⟩ = some (.slice a cs.length cap) := fun w' T => (HH.out.keep0 T).rc.cs.c5
 have H6 : ∀ w', Touch [] W1 w' → w'.cell? ⟨b, 6, none⟩ = some (.map (some d)) := fun w' T => (HH.out.keep0 T).rc.cs.c6
 have HMP : Hid (MapAt W1.drew d (wl cs).length (plv cs)) := by
  rcases HH.out.ln.mp with ⟨q, _⟩ | ⟨d', q, hm⟩
  ·cases q
  ·cases q; exact hm.kept rfl
 have HNM : Hid ((wl cs).length < maxLen) := by have := wl_len cs; have := HLE.out; unfold maxLen; exact hid (by omega)
 have s0 : Touch [] W1 W1.drew := (Touch.refl _ _).drew
 refine wp_region_L (S := fun w' => Touch [] W1 w') (st := 10) (by kernel_rfl) ?_
 refine wpL_take (i := 0) (v := (.pointer (some ⟨b, 5, none⟩))) (some 13) rfl rfl (by kernel_rfl) (by kernel_rfl) (by kernel_rfl) (by kernel_rfl) (by kernel_rfl) (by decide) (fun _ _ _ h => h) (Or.inl ⟨by rfl, fun w' hS => (by go_simp)⟩) s0 ?_
 try simp only [Go.Act.put, Zx, Zy, Zz]
 refine wpL_take (i := 1) (v := (.pointer (some ⟨b, 5, none⟩))) (some 14) rfl rfl (by kernel_rfl) (by kernel_rfl) (by kernel_rfl) (by kernel_rfl) (by kernel_rfl) (by decide) (fun _ _ _ h => h) (Or.inl ⟨by rfl, fun w' hS => (by go_simp)⟩) s0 ?_
 try simp only [Go.Act.put, Zx, Zy, Zz]
 refine wpL_take (i := 2) (v := (.pointer (some ⟨b, 6, none⟩))) (some 15) rfl rfl (by kernel_rfl) (by kernel_rfl) (by kernel_rfl) (by kernel_rfl) (by kernel_rfl) (by decide) (fun _ _ _ h => h) (Or.inl ⟨by rfl, fun w' hS => (by go_simp)⟩) s0 ?_
 try simp only [Go.Act.put, Zx, Zy, Zz]
 refine wpL_take (i := 3) (v := (.map (some d))) (some 16) rfl rfl (by kernel_rfl) (by kernel_rfl) (by kernel_rfl) (by kernel_rfl) (by kernel_rfl) (by decide) (fun _ _ _ h => h) (Or.inl ⟨by rfl, fun w' hS => (by have z0 := H6 _ hS; go_simp)⟩) s0 ?_
 try simp only [Go.Act.put, Zx, Zy, Zz]
 refine wpL_take (i := 4) (v := (.int .i64 x)) (some 17) rfl rfl (by kernel_rfl) (by kernel_rfl) (by kernel_rfl) (by kernel_rfl) (by kernel_rfl) (by decide) (fun _ _ _ h => h) (Or.inl ⟨by rfl, fun w' hS => (by go_simp)⟩) s0 ?_
 try simp only [Go.Act.put, Zx, Zy, Zz]
 refine wpL_take (i := 5) (v := (.pointer (some ⟨b, 5, none⟩))) (some 18) rfl rfl (by kernel_rfl) (by kernel_rfl) (by kernel_rfl) (by kernel_rfl) (by kernel_rfl) (by decide) (fun _ _ _ h => h) (Or.inl ⟨by rfl, fun w' hS => (by go_simp)⟩) s0 ?_
 try simp only [Go.Act.put, Zx, Zy, Zz]
 refine wpL_take (i := 6) (v := (.pointer (some ⟨b, 5, none⟩))) (some 19) rfl rfl (by kernel_rfl) (by kernel_rfl) (by kernel_rfl) (by kernel_rfl) (by kernel_rfl) (by decide) (fun _ _ _ h => h) (Or.inl ⟨by rfl, fun w' hS => (by go_simp)⟩) s0 ?_
 try simp only [Go.Act.put, Zx, Zy, Zz]
 refine wpL_take (i := 7) (v := (.pointer (some ⟨b, 5, none⟩))) (some 20) rfl rfl (by kernel_rfl) (by kernel_rfl) (by kernel_rfl) (by kernel_rfl) (by kernel_rfl) (by decide) (fun _ _ _ h => h) (Or.inl ⟨by rfl, fun w' hS => (by go_simp)⟩) s0 ?_
 try simp only [Go.Act.put, Zx, Zy, Zz]
 refine wpL_take (i := 8) (v := (.slice a cs.length cap)) (some 21) rfl rfl (by kernel_rfl) (by kernel_rfl) (by kernel_rfl) (by kernel_rfl) (by kernel_rfl) (by decide) (fun _ _ _ h => h) (Or.inl ⟨by rfl, fun w' hS => (by have z0 := H5 _ hS; go_simp)⟩) s0 ?_
 try simp only [Go.Act.put, Zx, Zy, Zz]
 refine wpL_take (i := 9) (v := (.int .i64 (cs.length : Nat))) (some 22) rfl rfl (by kernel_rfl) (by kernel_rfl) (by kernel_rfl) (by kernel_rfl) (by kernel_rfl) (by decide) (fun _ _ _ h => h) (Or.inl ⟨by rfl, fun w' hS => (by go_simp)⟩) s0 ?_
 try simp only [Go.Act.put, Zx, Zy, Zz]
 refine wpL_ready (rs := [10]) (by kernel_rfl) (by simp) (AllL.cons (o := { dst := none, op := Op.mapUpdate 31 (Operand.tmp 16) (Operand.tmp 17) (Operand.tmp 22), type := 0, pos := _, after := #[{ on := 3, ground := Ground.data }, { on := 4, ground := Ground.data }, { on := 9, ground := Ground.data }, { on := 0, ground := Ground.phase }, { on := 1, ground := Ground.phase }, { on := 2, ground := Ground.phase }, { on := 3, ground := Ground.phase }, { on := 4, ground := Ground.phase }, { on := 5, ground := Ground.phase }, { on := 6, ground := Ground.phase }, { on := 7, ground := Ground.phase }, { on := 8, ground := Ground.phase }, { on := 9, ground := Ground.phase }], guard := none }) rfl (fun K' hK => ?_) AllL.nil)
 rw [if_pos (by rfl)]
 go_simp
 obtain ⟨ob, hrun, hM⟩ := HMP.out.set (t := 31) Tryz.underlying31 HNM.out hx (.int .i64 (cs.length : Nat))
 simp only [hrun]
 refine hK.out _ _ (fun h => absurd h (by decide)) ?_
 clear hK
 try simp only [Go.Act.put, Zx, Zy, Zz]
 refine wpL_done (by kernel_rfl) ?_ _
 obtain ⟨W2, hW2⟩ : ∃ W2, W2 = setBlock W1.drew d ob := ⟨_, rfl⟩
 have T2 : Touch [d] W1 W2 := by rw [hW2]; exact touch_setBlock (Touch.refl _ _).drew (by simp) ob
 have HD : Hid (MapAt W2 d ((wl cs).length + 1) (plv (cs ++ [x])) ∧ W2.ownsRow 0 3 1 (.slice a cs.length cap) cs.length (ints cs) ∧ Rc W2 b R (.slice a cs.length cap) (.map (some d)) k c e o) := by
  have h := HH.out
  have hr := h.ln.row
  have hrc := h.rc
  refine ⟨?_, own_touch hr T2 (fun q hq e' => ?_), hrc.keep T2 (fun e' => ?_)⟩
  ·rw [← hW2] at hM
   rw [plv_none hn] at hM
   refine (show MapAt W2 d ((wl cs).length + 1) _ from hM).congr (fun q _ => ?_)
   exact plv_put h0 hn q
  ·simp only [List.mem_singleton] at e'
   exact row_map h.ln.row h.ln.mp hq rfl e'
  ·simp only [List.mem_singleton] at e'
   exact map_ne h.rc h.ln.mp rfl e'.symm
 clear hrun hM
 rw [← hW2]
 clear hW2 ob s0 H5 H6 HMP HNM q63
 have T2' := hid T2
 clear T2
 have c5 := HD.out.2.2.cs.c5
 have hbl := HD.out.2.2.lt
 have hne : b ≠ W2.heap.size := by omega
 have HO : Hid (∀ ob, (W2.alloc ob).ownsRow 0 3 1 (.slice a cs.length cap) cs.length (ints cs)) := fun ob => by
  exact own_touch HD.out.2.1 ((Touch.refl [] _).alloc _) (fun _ _ e => by cases e)
 have HX : Hid (∀ g5 c5 w5, w5.ownsRow 0 3 1 (.slice (some ⟨g5, 0, none⟩) (cs.length + 1) c5) (cs.length + 1) (ints (cs ++ [x])) → (W2.alloc (.cells #[.int .i64 x] 3)).grownBy w5 (Value.slice a cs.length cap).ownBlock → ((Value.slice a cs.length cap).ownBlock = some g5 ∨ g5 = (W2.alloc (.cells #[.int .i64 x] 3)).heap.size) →
   (w5.cell? ⟨b, 5, none⟩ = some (.slice a cs.length cap) ∧ w5.frozen? ⟨b, 5, none⟩ = false ∧ b < w5.heap.size) ∧ LnE W1 (w5.setCell ⟨b, 5, none⟩ (.slice (some ⟨g5, 0, none⟩) (cs.length + 1) c5)) b R k c e o (fpR b (.slice a cs.length cap) (some d)) (cs ++ [x])) := fun g5 c5 w5 o5 r5 p5 => by
  obtain ⟨hm, hr, hrc⟩ := HD.out
  have tA : Touch ((Value.slice a cs.length cap).ownBlock.toList) W2 w5 := ((Touch.refl _ _).alloc _).grown r5 (fun q hq => Or.inl (by rw [hq]; simp))
  have hrc5 : Rc w5 b R (.slice a cs.length cap) (.map (some d)) k c e o := hrc.keep tA (fun e' => by
   simp only [Option.mem_toList] at e'
   exact row_ne hrc hr e' rfl)
  refine ⟨⟨hrc5.cs.c5, hrc5.fz 5, hrc5.lt⟩, ?_⟩
  have tB : Touch [b] w5 (w5.setCell ⟨b, 5, none⟩ (.slice (some ⟨g5, 0, none⟩) (cs.length + 1) c5)) := (Touch.refl _ _).setCell (Or.inl (by simp)) _
  have hm2 : Mp W2 (some d) (cs ++ [x]) := Or.inr ⟨d, rfl, by rw [wl_app, wl_one h0]; simpa using hm⟩
  have hm5 : Mp w5 (some d) (cs ++ [x]) := hm2.keep tA (fun q hq e' => by
   simp only [Option.mem_toList] at e'
   exact row_map hr hm2 e' hq rfl)
  refine ⟨_, some d, ⟨hrc5.set5 _, ⟨?_, hm5.keep tB (fun q hq e' => ?_), HH.out.ln.ok.put hx h0 hn⟩⟩, ?_, fun q hq => ?_⟩
  ·rw [show (cs ++ [x]).length = cs.length + 1 by simp]
   refine own_touch o5 tB (fun q hq e' => ?_)
   simp only [List.mem_singleton] at e'
   exact row_ne hrc5 o5 hq e'
  ·simp only [List.mem_singleton] at e'
   exact map_ne hrc5 hm5 hq e'
  ·refine (((T2'.out.mono (fun q hq => ?_)).trans tA (fun q hq => ?_)).trans tB (fun q hq => ?_))
   ·simp only [List.mem_singleton] at hq; exact mem_fpR.2 (Or.inr (Or.inr (by rw [hq])))
   ·simp only [Option.mem_toList] at hq; exact Or.inl (mem_fpR.2 (Or.inr (Or.inl hq)))
   ·simp only [List.mem_singleton] at hq; exact Or.inl (mem_fpR.2 (Or.inl hq))
  ·rcases mem_fpR.1 hq with e' | e' | e'
   ·exact Or.inl (mem_fpR.2 (Or.inl e'))
   ·simp only [Value.ownBlock, Option.some.injEq] at e'
    subst e'
    rcases p5 with p | p
    ·exact Or.inl (mem_fpR.2 (Or.inr (Or.inl p)))
    ·refine Or.inr ?_
     have := T2'.out.size
     rw [p]; simp; omega
   ·exact Or.inl (mem_fpR.2 (Or.inr (Or.inr e')))
 clear HD HH hx h0 hn T2'
 go_wp2_with (at_builtin; refine wpList_append_int rfl _ _ rfl 0 (.slice a cs.length cap) cs rfl (HO.out _) W2.heap.size x rfl (by simp) HLE.out (Nat.zero_le _) ?_; intro g5 c5' w5 o5 r5 p5; obtain ⟨⟨y1, y2, y3⟩, y4⟩ := HX.out _ _ _ o5 r5 p5; have Y4 := hid y4; clear o5 r5 p5 y4)
 go_end0
 exact ⟨rfl, HFIN.out _ Y4.out⟩
theorem add21 (h : Rl w b R k c e o sl m cs) (x : Int) (hx : W64 x) (h0 : x ≠ 0) (hn : ¬ x ∈ wl cs) (hle : cs.length ≤ 3000000000000) : Calls Tryz.prog 161 #[PL b, .int .i64 x] w fun e' w' => e' = .returned (.tuple #[]) ∧ LnE w w' b R k c e o (fpR b sl m) (cs ++ [x]) := by
 cases m with
 | none => exact add21_none w b R sl cs k c e o h x hx h0 hn hle
 | some d => exact add21_some w b R sl cs k c e o d h x hx h0 hn hle
end
end Go.Proofs.YtkfophlhpjbmgaaGreat.Ta
/- The contract of a line's closeUp. -/
namespace Go.Proofs.YtkfophlhpjbmgaaGreat.Ta
open Go.RowKit Go.Maps Go.ChangeMaps
structure CuS (w wr : World) (b : Nat) (R : Rn) (k c e : Bool) (o : O) (F : List Nat) (d g cap : Nat) (cs : List Int) (j : Nat) : Prop where
 rc : Rc wr b R (.slice (some ⟨g, 0, none⟩) (wl cs).length cap) (.map (some d)) k c e o
 row : wr.ownsRow 0 3 1 (.slice (some ⟨g, 0, none⟩) (wl cs).length cap) (wl cs).length (ints (wl cs))
 mp : MapAt wr d (wl cs).length (clv cs j)
 tc : Touch F w wr
theorem CuS.ne {w wr : World} {b : Nat} {R : Rn} {k c e : Bool} {o : O} {F : List Nat} {d g cap : Nat} {cs : List Int} {j : Nat} (h : CuS w wr b R k c e o F d g cap cs j) : b ≠ d ∧ g ≠ d := by
 obtain ⟨es, cl, h1⟩ := mapAt_kind h.mp
 obtain ⟨cur, h2⟩ := own_kind h.row (b := g) rfl
 refine ⟨fun q => ?_, fun q => ?_⟩
 ·subst q; rw [h.rc.bl] at h1; simp at h1
 ·subst q; rw [h2] at h1; simp at h1
theorem CuS.step {w wr : World} {b : Nat} {R : Rn} {k c e : Bool} {o : O} {F : List Nat} {d g cap : Nat} {cs : List Int} {j : Nat} (h : CuS w wr b R k c e o F d g cap cs j) (ok : Okc cs) (hd : d ∈ F) (hj : j < (wl cs).length) (ob : Obj)
  (hM : MapAt (setBlock wr d ob) d (if (clv cs j (wl cs)[j]).isSome then (wl cs).length else (wl cs).length + 1) (upd (clv cs j) (wl cs)[j] (.int .i64 (j : Nat)))) : CuS w (setBlock wr d ob) b R k c e o F d g cap cs (j + 1) := by
 have T : Touch [d] wr (setBlock wr d ob) := touch_setBlock (Touch.refl _ _) (Or.inl (by simp)) ob
 obtain ⟨n1, n2⟩ := h.ne
 refine ⟨h.rc.keep T (by simpa using n1), own_touch h.row T (fun q hq => ?_), ?_, h.tc.trans' (T.mono (fun q hq => by simp at hq; rw [hq]; exact hd))⟩
 ·simp only [Value.ownBlock, Option.some.injEq] at hq
  subst hq
  simpa using n2
 ·rw [clv_has cs j (List.getElem_mem hj), if_pos rfl] at hM
  exact hM.congr (fun q _ => clv_step ok hj q)
section
variable (w : World) (b : Nat) (R : Rn) (sl : Value) (d : Nat) (cs : List Int) (k c e : Bool) (o : O)
set_option maxHeartbeats 4000000 in
set_option maxRecDepth 100000 in
theorem closeUp39 (h : Rl w b R k c e o sl (some d) cs) (hle : cs.length ≤ 3000000000000) : Calls Tryz.prog 199 #[PL b] w fun e' w' => e' = .returned (.tuple #[]) ∧ LnE w w' b R k c e o (fpR b sl (some d)) (wl cs) := by
 have HA := hid (all34 w b R sl (some d) cs k c e o h hle)
 have hwl := wl_len cs
 have HN : Hid ((wl cs).length ≤ 3000000000000) := by exact hid (by omega)
 have HG : Hid (∀ w2, Touch [] w w2 → (w2.cell? ⟨b, 5, none⟩ = some sl ∧ w2.frozen? ⟨b, 5, none⟩ = false ∧ b < w2.heap.size)) := fun w2 T => ⟨(h.keep0 T).rc.cs.c5, (h.keep0 T).rc.fz 5, (h.keep0 T).rc.lt⟩
 have HS : Hid (∀ g cap w2, Touch [] w w2 → w2.ownsRow w.heap.size 3 1 (.slice (some ⟨g, 0, none⟩) (wl cs).length cap) (wl cs).length (ints (wl cs)) → CuS w (w2.setCell ⟨b, 5, none⟩ (.slice (some ⟨g, 0, none⟩) (wl cs).length cap)) b R k c e o (fpR b sl (some d)) d g cap cs 0) := fun g cap w2 T r => by
  have h2 := h.keep0 T
  have tB : Touch [b] w2 (w2.setCell ⟨b, 5, none⟩ (.slice (some ⟨g, 0, none⟩) (wl cs).length cap)) := (Touch.refl _ _).setCell (Or.inl (by simp)) _
  have hm := h2.ln.mp.keep tB (fun q hq e' => by simp only [List.mem_singleton] at e'; exact map_ne h2.rc h2.ln.mp hq e')
  refine ⟨h2.rc.set5 _, own_touch (own_base r (Nat.zero_le _)) tB (fun q hq e' => ?_), ?_, (T.mono (fun _ q => by cases q)).trans' (tB.mono (fun q hq => by simp at hq; rw [hq]; exact mem_fpR.2 (Or.inl rfl)))⟩
  ·simp only [List.mem_singleton] at e'
   exact row_ne h2.rc r hq e'
  ·rcases hm with ⟨q, _⟩ | ⟨d', q, hm⟩
   ·cases q
   ·cases q
    exact hm.congr (fun q _ => (clv_zero cs q).symm)
 have HT : Hid (∀ wr g cap j, CuS w wr b R k c e o (fpR b sl (some d)) d g cap cs j → ∀ (hj : j < (wl cs).length) ob, MapAt (setBlock wr d ob) d (if (clv cs j (wl cs)[j]).isSome then (wl cs).length else (wl cs).length + 1) (upd (clv cs j) (wl cs)[j] (.int .i64 (j : Nat))) → CuS w (setBlock wr d ob) b R k c e o (fpR b sl (some d)) d g cap cs (j + 1)) := fun wr g cap j hc hj ob hM => hc.step h.ln.ok (mem_fpR.2 (Or.inr (Or.inr rfl))) hj ob hM
 have HW : Hid (∀ x, x ∈ wl cs → W64 x) := fun x hx => h.ln.ok.wf x (mem_wl.1 hx).1
 have HE : Hid (∀ wr g cap, w.heap.size ≤ g → CuS w wr b R k c e o (fpR b sl (some d)) d g cap cs (wl cs).length → LnE w wr b R k c e o (fpR b sl (some d)) (wl cs)) := fun wr g cap hg hc => by
  refine ⟨_, some d, ⟨hc.rc, ⟨hc.row, Or.inr ⟨d, rfl, ?_⟩, h.ln.ok.close⟩⟩, hc.tc, fun q hq => ?_⟩
  ·rw [wl_wl]
   exact hc.mp.congr (fun q _ => clv_last cs q)
  ·rcases mem_fpR.1 hq with e' | e' | e'
   ·exact Or.inl (mem_fpR.2 (Or.inl e'))
   ·simp only [Value.ownBlock, Option.some.injEq] at e'
    subst e'
    exact Or.inr hg
   ·exact Or.inl (mem_fpR.2 (Or.inr (Or.inr e')))
 clear h hle hwl
 unfold AlE at HA
 unfold PL at *
 go_enter Tryz.func199, Tryz.ntmps199
 go_wp2_with (go_at_call 136; refine HA.out.mono ?_; rintro e w2 ⟨g, cap, rfl, r2, t2⟩; have H0 := hid (HS.out g cap w2 t2 r2); have HGG := hid ((own_block r2).choose_spec.2.2.2.2.2.1); obtain ⟨y1, y2, y3⟩ := HG.out w2 t2; clear r2 t2)
 clear HA HS HG
 have c5 := H0.out.rc.cs.c5
 go_loopw [14] (fun i wr => ∃ j : Nat, i = .int .i64 (j : Nat) ∧ j ≤ (wl cs).length ∧ Hid (CuS w wr b R k c e o (fpR b sl (some d)) d g cap cs j)) (fun i _ => (wl cs).length - (intOf i).toNat)
 case atStart => exact ⟨0, rfl, Nat.zero_le _, H0⟩
 case round =>
  clear H0
  obtain ⟨j, rfl, hj, HR⟩ := hrel
  by_cases hlt : j < (wl cs).length
  ·have zk : (j : Int) < ((wl cs).length : Int) := by omega
   have zL : ((wl cs).length : Int) < 9223372036854775807 := by have := HN.out; omega
   have x1 := own_cell HR.out.row (p := j) (v := .int .i64 (wl cs)[j]) (by simp [ints, hlt])
   have x2 := HR.out.rc.cs.c6
   have HM := hid HR.out.mp
   have hxw := HW.out _ (List.getElem_mem hlt)
   have HNX : Hid ((wl cs).length < maxLen) := by have := HN.out; unfold maxLen; exact hid (by omega)
   have HT2 := hid (HT.out wr g cap j HR.out hlt)
   clear c5 y1 y2 y3
   generalize (wl cs)[j] = x at *
   go_wp2_with (at_mapUpdate; refine wpList_mset _ rfl _ _ _ 31 rfl 3 Tryz.underlying31 d (wl cs).length (clv cs j) rfl HM.out HNX.out x rfl hxw (.int .i64 (j : Nat)) rfl ?_; intro ob hM; have HN2 := hid (HT2.out ob hM); clear hM)
   go_roundw
   case rel => exact ⟨j + 1, by go_num, by omega, HN2⟩
   case measure => simp [intOf]; omega
  ·have e' : j = (wl cs).length := by omega
   subst e'
   have HX := hid (HE.out _ _ _ HGG.out HR.out)
   clear hj hlt
   go_wp2
   go_end0
   exact ⟨rfl, HX.out⟩
end
end Go.Proofs.YtkfophlhpjbmgaaGreat.Ta
/- The contract of a line's remove. -/
namespace Go.Proofs.YtkfophlhpjbmgaaGreat.Ta
open Go.RowKit Go.Maps Go.ChangeMaps
def RmE (w w' : World) (b : Nat) (R : Rn) (k c e : Bool) (o : O) (F : List Nat) (cs : List Int) (x : Int) : Prop := ∃ cs', wl cs' = (wl cs).filter (fun y => decide (y ≠ x)) ∧ cs'.length ≤ cs.length ∧ LnE w w' b R k c e o F cs'
theorem hole_len {cs : List Int} {x : Int} (h : x ∈ wl cs) : (wl (holeL cs x)).length = (wl cs).length - 1 := by
 obtain ⟨a, b, e, hn, _⟩ := cut (mem_wl.1 h).1
 have h0 := (mem_wl.1 h).2
 subst e
 rw [holeL_cut hn, wl_app, wl_app, wl_cons_zero, wl_cons h0]
 simp
section
variable (w : World) (b : Nat) (R : Rn) (sl : Value) (m : Option Nat) (cs : List Int) (k c e : Bool) (o : O)
set_option maxHeartbeats 4000000 in
set_option maxRecDepth 100000 in
theorem remove30 (h : Rl w b R k c e o sl m cs) (x : Int) (hx : x ∈ wl cs) (hle : cs.length ≤ 3000000000000) : Calls Tryz.prog 171 #[PL b, .int .i64 x] w fun e' w' => e' = .returned (.tuple #[]) ∧ RmE w w' b R k c e o (fpR b sl m) cs x := by
 obtain ⟨d, rfl⟩ : ∃ d, m = some d := by
  rcases h.ln.mp with ⟨_, q⟩ | ⟨d, q, _⟩
  ·subst q; simp [wl] at hx
  ·exact ⟨d, q⟩
 have hmem := (mem_wl.1 hx).1
 have hpos : 0 < cs.length := List.length_pos_of_mem hmem
 obtain ⟨g, cap, rfl, _, hglt⟩ := own_some h.ln.row hpos
 have hp : cs.idxOf x < cs.length := List.idxOf_lt_length_iff.2 hmem
 have hxp : cs[cs.idxOf x]? = some x := by
  obtain ⟨a, b', e1, e2, e3⟩ := cut hmem
  rw [e3, e1]; simp
 have hW := h.ln.ok.wf x hmem
 have hM0 : MapAt w d (wl cs).length (plv cs) := by
  rcases h.ln.mp with ⟨q, _⟩ | ⟨d', q, hm⟩
  ·cases q
  ·cases q; exact hm
 have H5 : ∀ w', Touch [] w w' → w'.cell? ⟨b, 5, none⟩ = some (.slice (some ⟨g, 0, none⟩) cs.length cap) := fun w' T => (h.keep0 T).rc.cs.c5
 have H6 : ∀ w', Touch [] w w' → w'.cell? ⟨b, 6, none⟩ = some (.map (some d)) := fun w' T => (h.keep0 T).rc.cs.c6
 have HLK : ∀ w', Touch [] w w' → (Instr.lookup 31 (.map (some d)) (.int .i64 x) false).run Tryz.prog w' = .ok (.int .i64 ((cs.idxOf x : Nat) : Int)) w' := fun w' T => by
  have := (hM0.kept (T.block d hM0.lt (by simp))).look (t := 31) Tryz.underlying31 (zero3 w') hW
  rw [plv_some hx] at this
  exact this
 have hcell : w.cell? ⟨g, cs.idxOf x, none⟩ = some (.int .i64 x) := own_cell h.ln.row (by simp [ints, hxp])
 have hfz : w.frozen? ⟨g, cs.idxOf x, none⟩ = false := own_frozen h.ln.row _
 have HH := hid h
 have HLE := hid hle
 have zk : ((cs.idxOf x : Nat) : Int) < ((cs.length : Nat) : Int) := by omega
 have HP := hid (show cs.idxOf x = cs.idxOf x from rfl)
 obtain ⟨p, hpp⟩ : ∃ p, p = cs.idxOf x := ⟨_, rfl⟩
 have HPP := hid hpp
 rw [← hpp] at HLK hcell hfz zk
 clear h hle hM0 hxp hp hpos hmem hpp HP
 have s0 : Touch [] w w.drew := (Touch.refl _ _).drew
 unfold PL
 go_enter Tryz.func171, Tryz.ntmps171
 go_upto_region 0 with fail
 refine wp_region_L (S := fun w' => Touch [] w w') (st := 11) (by kernel_rfl) ?_
 refine wpL_take (i := 0) (v := (.pointer (some ⟨b, 5, none⟩))) (some 4) rfl rfl (by kernel_rfl) (by kernel_rfl) (by kernel_rfl) (by kernel_rfl) (by kernel_rfl) (by decide) (fun _ _ _ h => h) (Or.inl ⟨by rfl, fun w' hS => (by go_simp)⟩) s0 ?_
 try simp only [Go.Act.put, Zx, Zy, Zz]
 refine wpL_take (i := 1) (v := (.pointer (some ⟨b, 5, none⟩))) (some 5) rfl rfl (by kernel_rfl) (by kernel_rfl) (by kernel_rfl) (by kernel_rfl) (by kernel_rfl) (by decide) (fun _ _ _ h => h) (Or.inl ⟨by rfl, fun w' hS => (by go_simp)⟩) s0 ?_
 try simp only [Go.Act.put, Zx, Zy, Zz]
 refine wpL_take (i := 2) (v := (.pointer (some ⟨b, 5, none⟩))) (some 6) rfl rfl (by kernel_rfl) (by kernel_rfl) (by kernel_rfl) (by kernel_rfl) (by kernel_rfl) (by decide) (fun _ _ _ h => h) (Or.inl ⟨by rfl, fun w' hS => (by go_simp)⟩) s0 ?_
 try simp only [Go.Act.put, Zx, Zy, Zz]
 refine wpL_take (i := 3) (v := (.slice (some ⟨g, 0, none⟩) cs.length cap)) (some 7) rfl rfl (by kernel_rfl) (by kernel_rfl) (by kernel_rfl) (by kernel_rfl) (by kernel_rfl) (by decide) (fun _ _ _ h => h) (Or.inl ⟨by rfl, fun w' hS => (by have z0 := H5 _ hS; go_simp)⟩) s0 ?_
 try simp only [Go.Act.put, Zx, Zy, Zz]
 refine wpL_take (i := 4) (v := (.pointer (some ⟨b, 5, none⟩))) (some 8) rfl rfl (by kernel_rfl) (by kernel_rfl) (by kernel_rfl) (by kernel_rfl) (by kernel_rfl) (by decide) (fun _ _ _ h => h) (Or.inl ⟨by rfl, fun w' hS => (by go_simp)⟩) s0 ?_
 try simp only [Go.Act.put, Zx, Zy, Zz]
 refine wpL_take (i := 5) (v := (.pointer (some ⟨b, 5, none⟩))) (some 9) rfl rfl (by kernel_rfl) (by kernel_rfl) (by kernel_rfl) (by kernel_rfl) (by kernel_rfl) (by decide) (fun _ _ _ h => h) (Or.inl ⟨by rfl, fun w' hS => (by go_simp)⟩) s0 ?_
 try simp only [Go.Act.put, Zx, Zy, Zz]
 refine wpL_take (i := 6) (v := (.pointer (some ⟨b, 6, none⟩))) (some 10) rfl rfl (by kernel_rfl) (by kernel_rfl) (by kernel_rfl) (by kernel_rfl) (by kernel_rfl) (by decide) (fun _ _ _ h => h) (Or.inl ⟨by rfl, fun w' hS => (by go_simp)⟩) s0 ?_
 try simp only [Go.Act.put, Zx, Zy, Zz]
 refine wpL_take (i := 7) (v := (.map (some d))) (some 11) rfl rfl (by kernel_rfl) (by kernel_rfl) (by kernel_rfl) (by kernel_rfl) (by kernel_rfl) (by decide) (fun _ _ _ h => h) (Or.inl ⟨by rfl, fun w' hS => (by have z0 := H6 _ hS; go_simp)⟩) s0 ?_
 try simp only [Go.Act.put, Zx, Zy, Zz]
 refine wpL_take (i := 8) (v := (.int .i64 x)) (some 12) rfl rfl (by kernel_rfl) (by kernel_rfl) (by kernel_rfl) (by kernel_rfl) (by kernel_rfl) (by decide) (fun _ _ _ h => h) (Or.inl ⟨by rfl, fun w' hS => (by go_simp)⟩) s0 ?_
 try simp only [Go.Act.put, Zx, Zy, Zz]
 refine wpL_take (i := 9) (v := (.int .i64 (p : Nat))) (some 13) rfl rfl (by kernel_rfl) (by kernel_rfl) (by kernel_rfl) (by kernel_rfl) (by kernel_rfl) (by decide) (fun _ _ _ h => h) (Or.inl ⟨by rfl, fun w' hS => (by have z := HLK _ hS; go_simp)⟩) s0 ?_
 try simp only [Go.Act.put, Zx, Zy, Zz]
 refine wpL_take (i := 10) (v := (.pointer (some ⟨g, p, none⟩))) (some 14) rfl rfl (by kernel_rfl) (by kernel_rfl) (by kernel_rfl) (by kernel_rfl) (by kernel_rfl) (by decide) (fun _ _ _ h => h) (Or.inl ⟨by rfl, fun w' hS => (by go_simp)⟩) s0 ?_
 try simp only [Go.Act.put, Zx, Zy, Zz]
 refine wpL_ready (rs := [11]) (by kernel_rfl) (by simp) (AllL.cons (o := { dst := none, op := Op.store 3 (Operand.tmp 14) (Operand.const (Value.int IntKind.i64 0)), type := 0, pos := _, after := #[{ on := 10, ground := Ground.data }, { on := 0, ground := Ground.phase }, { on := 1, ground := Ground.phase }, { on := 2, ground := Ground.phase }, { on := 3, ground := Ground.phase }, { on := 4, ground := Ground.phase }, { on := 5, ground := Ground.phase }, { on := 6, ground := Ground.phase }, { on := 7, ground := Ground.phase }, { on := 8, ground := Ground.phase }, { on := 9, ground := Ground.phase }], guard := none }) rfl (fun K' hK => ?_) AllL.nil)
 rw [if_pos (by rfl)]
 go_simp
 refine hK.out _ _ (fun h => absurd h (by decide)) ?_
 clear hK
 try simp only [Go.Act.put, Zx, Zy, Zz]
 refine wpL_done (by kernel_rfl) ?_ _
 obtain ⟨W2, hW2⟩ : ∃ W2, W2 = (w.setCell ⟨g, p, none⟩ (.int .i64 0)).drew := ⟨_, rfl⟩
 have HD : Hid (Touch [g] w W2 ∧ MapAt W2 d (wl cs).length (plv cs) ∧ W2.ownsRow 0 3 1 (.slice (some ⟨g, 0, none⟩) cs.length cap) cs.length (ints (holeL cs x)) ∧ Rc W2 b R (.slice (some ⟨g, 0, none⟩) cs.length cap) (.map (some d)) k c e o) := by
  have h := HH.out
  have T : Touch [g] w W2 := by rw [hW2]; exact ((Touch.refl _ _).setCell (Or.inl (by simp)) _).drew
  have hm := h.ln.mp.keep T (fun q hq e' => by simp only [List.mem_singleton] at e'; exact row_map h.ln.row h.ln.mp rfl hq e'.symm)
  refine ⟨T, ?_, ?_, h.rc.keep T (fun e' => ?_)⟩
  ·rcases hm with ⟨q, _⟩ | ⟨d', q, hm⟩
   ·cases q
   ·cases q; exact hm
  ·have := own_set h.ln.row p (.int .i64 0)
   rw [hW2]
   rw [show ints (holeL cs x) = (ints cs).set p (.int .i64 0) by unfold ints holeL; rw [HPP.out, List.map_set]]
   exact this
  ·simp only [List.mem_singleton] at e'
   exact row_ne h.rc h.ln.row rfl e'.symm
 rw [← hW2]
 clear hW2 s0 H5 H6 HLK hcell hfz zk
 have c6 := HD.out.2.2.2.cs.c6
 have HM2 := hid HD.out.2.1
 go_upto_region 2 with (at_delete; refine wpList_mdel _ rfl _ _ 31 rfl 3 Tryz.underlying31 d (wl cs).length (plv cs) rfl HM2.out x rfl hW ?_; intro ob hM3; have M3 := hid hM3; clear hM3)
 obtain ⟨W3, hW3⟩ : ∃ W3, W3 = setBlock W2 d ob := ⟨_, rfl⟩
 have HR : Hid (Rl W3 b R k c e o (.slice (some ⟨g, 0, none⟩) cs.length cap) (some d) (holeL cs x) ∧ Touch (fpR b (.slice (some ⟨g, 0, none⟩) cs.length cap) (some d)) w W3) := by
  have T : Touch [d] W2 W3 := by rw [hW3]; exact touch_setBlock (Touch.refl _ _) (Or.inl (by simp)) ob
  obtain ⟨t1, m1, r1, q1⟩ := HD.out
  have hm : Mp W2 (some d) cs := Or.inr ⟨d, rfl, m1⟩
  have h3 := M3.out
  rw [plv_some hx] at h3
  have e1 : (wl (holeL cs x)).length = (wl cs).length - 1 := hole_len hx
  refine ⟨⟨q1.keep T (fun e' => ?_), ⟨?_, Or.inr ⟨d, rfl, ?_⟩, HH.out.ln.ok.hole hx⟩⟩, (t1.mono (fun q hq => ?_)).trans' (T.mono (fun q hq => ?_))⟩
  ·simp only [List.mem_singleton] at e'
   exact map_ne q1 hm rfl e'.symm
  ·rw [holeL_len]
   refine own_touch r1 T (fun q hq e' => ?_)
   simp only [List.mem_singleton] at e'
   exact row_map r1 hm hq rfl e'
  ·rw [e1, hW3]
   exact (show MapAt (setBlock W2 d ob) d ((wl cs).length - 1) _ from h3).congr (fun q _ => plv_hole HH.out.ln.ok hx q)
  ·simp only [List.mem_singleton] at hq; exact mem_fpR.2 (Or.inr (Or.inl (by rw [hq]; rfl)))
  ·simp only [List.mem_singleton] at hq; exact mem_fpR.2 (Or.inr (Or.inr (by rw [hq])))
 rw [← hW3]
 clear hW3 HD HM2 M3 c6 ob
 have HW := hid (wl_hole HH.out.ln.ok hx)
 have K5 : ∀ w', Touch [] W3 w' → w'.cell? ⟨b, 5, none⟩ = some (.slice (some ⟨g, 0, none⟩) cs.length cap) := fun w' T => (HR.out.1.keep0 T).rc.cs.c5
 obtain ⟨n, hn⟩ : ∃ n, n = (wl (holeL cs x)).length := ⟨_, rfl⟩
 have HC : Hid (∀ w', Touch [] W3 w' → Calls Tryz.prog 165 #[PL b] w' fun e w'' => e = .returned (.int .i64 (n : Nat)) ∧ w'' = w') := fun w' T => by rw [hn]; exact count35 (HR.out.1.keep0 T)
 have hn2 : n ≤ 3000000000000 := by rw [hn]; have := wl_len (holeL cs x); rw [holeL_len] at this; have := HLE.out; omega
 obtain ⟨gt, hgt⟩ : ∃ gt, gt = decide (2 * (n : Int) < (cs.length : Int)) := ⟨_, rfl⟩
 have HGT := hid hgt
 have HCU : Hid (∀ w', Touch [] W3 w' → Calls Tryz.prog 199 #[PL b] w' fun e' w'' => e' = .returned (.tuple #[]) ∧ LnE w' w'' b R k c e o (fpR b (.slice (some ⟨g, 0, none⟩) cs.length cap) (some d)) (wl (holeL cs x))) := fun w' T => closeUp39 w' b R _ d _ k c e o (HR.out.1.keep0 T) (by rw [holeL_len]; exact HLE.out)
 have HE1 : Hid (∀ w' w'', Touch [] W3 w' → LnE w' w'' b R k c e o (fpR b (.slice (some ⟨g, 0, none⟩) cs.length cap) (some d)) (wl (holeL cs x)) → RmE w w'' b R k c e o (fpR b (.slice (some ⟨g, 0, none⟩) cs.length cap) (some d)) cs x) := fun w' w'' T ⟨sl', m', r1, r2, r3⟩ => by
  refine ⟨wl (holeL cs x), by rw [wl_wl]; exact HW.out, Nat.le_trans (wl_len _) (by rw [holeL_len]; exact Nat.le_refl _), sl', m', r1, (HR.out.2.trans' (T.mono (fun _ q => by cases q))).trans' r2, fun q hq => ?_⟩
  rcases r3 q hq with e' | e'
  ·exact Or.inl e'
  ·exact Or.inr (Nat.le_trans (Nat.le_trans HR.out.2.size T.size) e')
 have HE2 : Hid (∀ w', Touch [] W3 w' → RmE w w' b R k c e o (fpR b (.slice (some ⟨g, 0, none⟩) cs.length cap) (some d)) cs x) := fun w' T =>
  ⟨holeL cs x, HW.out, by rw [holeL_len]; exact Nat.le_refl _, _, some d, HR.out.1.keep0 T, HR.out.2.trans' (T.mono (fun _ q => by cases q)), Nf.refl _ _⟩
 clear hn hgt HR HW HH hx hW
 unfold PL at *
 have k0 : Touch [] W3 W3.drew := (Touch.refl _ _).drew
 refine wp_region_H (S := fun w' => Touch [] W3 w') (by kernel_rfl) ?_
 refine wpH_take (i := 0) (v := (.pointer (some ⟨b, 5, none⟩))) (some 20) rfl rfl (by kernel_rfl) (by kernel_rfl) (by kernel_rfl) (fun _ _ _ h => h) (Or.inl ⟨by rfl, fun w' hS => (by go_simp)⟩) k0 ?_
 try simp only [Go.Act.put, Zx, Zy, Zz]
 refine wpH_take (i := 1) (v := (.pointer (some ⟨b, 5, none⟩))) (some 21) rfl rfl (by kernel_rfl) (by kernel_rfl) (by kernel_rfl) (fun _ _ _ h => h) (Or.inl ⟨by rfl, fun w' hS => (by go_simp)⟩) k0 ?_
 try simp only [Go.Act.put, Zx, Zy, Zz]
 refine wpH_take (i := 2) (v := (.pointer (some ⟨b, 5, none⟩))) (some 22) rfl rfl (by kernel_rfl) (by kernel_rfl) (by kernel_rfl) (fun _ _ _ h => h) (Or.inl ⟨by rfl, fun w' hS => (by go_simp)⟩) k0 ?_
 try simp only [Go.Act.put, Zx, Zy, Zz]
 refine wpH_take (i := 3) (v := (.slice (some ⟨g, 0, none⟩) cs.length cap)) (some 23) rfl rfl (by kernel_rfl) (by kernel_rfl) (by kernel_rfl) (fun _ _ _ h => h) (Or.inl ⟨by rfl, fun w' hS => (by have z0 := K5 _ hS; go_simp)⟩) k0 ?_
 try simp only [Go.Act.put, Zx, Zy, Zz]
 refine wpH_take (i := 4) (v := (.int .i64 (cs.length : Nat))) (some 24) rfl rfl (by kernel_rfl) (by kernel_rfl) (by kernel_rfl) (fun _ _ _ h => h) (Or.inl ⟨by rfl, fun w' hS => (by go_simp)⟩) k0 ?_
 try simp only [Go.Act.put, Zx, Zy, Zz]
 refine wpH_take (i := 5) (v := (.pointer (some ⟨b, 5, none⟩))) (some 25) rfl rfl (by kernel_rfl) (by kernel_rfl) (by kernel_rfl) (fun _ _ _ h => h) (Or.inl ⟨by rfl, fun w' hS => (by go_simp)⟩) k0 ?_
 try simp only [Go.Act.put, Zx, Zy, Zz]
 refine wpH_call (i := 6) (o := { dst := some 26, op := Op.call { callee := Callee.value (Operand.func 165), args := #[Operand.tmp 25], argTypes := #[263] }, type := 3, pos := _, after := #[{ on := 5, ground := Ground.data }], guard := none }) (by kernel_rfl) rfl (fun K' hK => ?_)
 rw [if_pos (by rfl)]
 go_simp
 refine (HC.out _ k0).mono ?_
 rintro e w4 ⟨rfl, rfl⟩
 refine hK.out _ _ k0 ?_
 clear hK
 try simp only [Go.Act.put, Zx, Zy, Zz]
 refine wpH_take (i := 7) (v := (.int .i64 (2 * (n : Int)))) (some 27) rfl rfl (by kernel_rfl) (by kernel_rfl) (by kernel_rfl) (fun _ _ _ h => h) (Or.inl ⟨by rfl, fun w' hS => (by go_simp; rw [IntKind.wrap_i64]; omega)⟩) k0 ?_
 try simp only [Go.Act.put, Zx, Zy, Zz]
 refine wpH_take (i := 8) (v := (.bool gt)) (some 28) rfl rfl (by kernel_rfl) (by kernel_rfl) (by kernel_rfl) (fun _ _ _ h => h) (Or.inl ⟨by rfl, fun w' hS => (by go_simp; exact HGT.out.symm)⟩) k0 ?_
 try simp only [Go.Act.put, Zx, Zy, Zz]
 refine wpAnyH_done (by kernel_rfl) ?_ _
 cases gt
 ·go_wp2
  go_end0
  exact ⟨rfl, HE2.out _ k0⟩
 ·go_wp2_with (go_at_call 199; refine (HCU.out _ k0).mono ?_; rintro e w5 ⟨rfl, r5⟩; have R5 := hid (HE1.out _ _ k0 r5); clear r5)
  go_end0
  exact ⟨rfl, R5.out⟩
end
end Go.Proofs.YtkfophlhpjbmgaaGreat.Ta
/- A record as a plain state; the contracts of what only reads one. -/
namespace Go.Proofs.YtkfophlhpjbmgaaGreat.Ta
open Go.RowKit Go.Maps Go.ChangeMaps
def Rq (w : World) (b : Nat) (F : List Nat) (R : Rn) (S : St) (N : Nat) : Prop := ∃ sl m cs, F = fpR b sl m ∧ Rl w b R (S.kept && !S.ended) S.canc S.ended S.out sl m cs ∧ wl cs = S.who ∧ cs.length ≤ N ∧ Iv S
def RqE (w w' : World) (b : Nat) (F : List Nat) (R : Rn) (S : St) (N : Nat) : Prop := ∃ F', Rq w' b F' R S N ∧ Touch F w w' ∧ Nf w F F'
section
variable {w w' : World} {b N M : Nat} {F G : List Nat} {R : Rn} {S : St}
theorem Rq.lt (h : Rq w b F R S N) : ∀ d, d ∈ F → d < w.heap.size := by
 obtain ⟨sl, m, cs, rfl, h, _⟩ := h
 exact h.lt
theorem Rq.keep (h : Rq w b F R S N) (T : Touch G w w') (hG : ∀ d, d ∈ F → ¬ d ∈ G) : Rq w' b F R S N := by
 obtain ⟨sl, m, cs, rfl, h, r⟩ := h
 exact ⟨sl, m, cs, rfl, h.keep T hG, r⟩
theorem Rq.keep0 (h : Rq w b F R S N) (T : Touch [] w w') : Rq w' b F R S N := h.keep T (fun _ _ e => by cases e)
theorem Rq.mono (h : Rq w b F R S N) (hN : N ≤ M) : Rq w b F R S M := by
 obtain ⟨sl, m, cs, rfl, h, h1, h2, h3⟩ := h
 exact ⟨sl, m, cs, rfl, h, h1, Nat.le_trans h2 hN, h3⟩
theorem Rq.iv (h : Rq w b F R S N) : Iv S := by
 obtain ⟨sl, m, cs, rfl, h, h1, h2, h3⟩ := h
 exact h3
theorem Rq.wlen (h : Rq w b F R S N) : S.who.length ≤ N := by
 obtain ⟨sl, m, cs, rfl, h, h1, h2, h3⟩ := h
 rw [← h1]
 exact Nat.le_trans (wl_len _) h2
theorem Rq.mem (h : Rq w b F R S N) : b ∈ F := by
 obtain ⟨sl, m, cs, rfl, _⟩ := h
 exact mem_fpR.2 (Or.inl rfl)
theorem RqE.same (h : Rq w b F R S N) (hN : N ≤ M) : RqE w w b F R S M := ⟨F, h.mono hN, Touch.refl _ _, Nf.refl _ _⟩
theorem Rq.cs (h : Rq w b F R S N) : ∃ sl mp, Rcs w b R sl mp (S.kept && !S.ended) S.canc S.ended S.out ∧ ∀ i, w.frozen? ⟨b, i, none⟩ = false := by
 obtain ⟨sl, m, cs, rfl, h, _⟩ := h
 exact ⟨sl, .map m, h.rc.cs, h.rc.fz⟩
theorem Rq.blt (h : Rq w b F R S N) : b < w.heap.size := h.lt b h.mem
end
section
variable (w : World) (b N : Nat) (F : List Nat) (R : Rn) (S : St)
theorem run8 (h : Rq w b F R S N) : Calls Tryz.prog 92 #[PT b] w fun e w' => e = .returned (rv R) ∧ Touch [] w w' := by
 have hl := h.blt
 have hne : b ≠ w.heap.size := by omega
 obtain ⟨sl, mp, ⟨c0, c1, c2, c3, c4, c5, c6, c7, c8, c9, c10, c11, c12, c13⟩, -⟩ := h.cs
 clear h c5 c6 c7 c8 c9 c10 c11 c12 c13
 unfold PT rv
 go_enter Tryz.func92, Tryz.ntmps92
 go_wp2
 refine bodyPost_ret (v := .agg #[.int .i64 R.run, .int .u16 R.sp, .string R.nm, .int .i64 R.gen, .bool R.rf]) (by simp [results, Tryz.results92, go_sem]) rfl ⟨rfl, ?_⟩
 repeat (first | exact Touch.refl _ _ | apply Touch.alloc | (refine Touch.setCell ?_ (Or.inr (by simp)) _))
theorem waiters18 (h : Rq w b F R S N) (hN : N ≤ 3000000000000) : Calls Tryz.prog 100 #[PT b] w fun e w' => AlE e w w' S.who := by
 obtain ⟨sl, m, cs, rfl, h, h1, h2, h3⟩ := h
 have HA := hid (all34 w b R sl m cs _ _ _ _ h (by omega))
 rw [h1] at HA
 clear h h1 h2 h3
 unfold PT
 unfold PL at HA
 go_enter Tryz.func100, Tryz.ntmps100
 go_wp2_with (go_at_call 136; refine HA.out.mono ?_; rintro e w2 ⟨g, cap, rfl, r⟩; have RR := hid r; clear r)
 go_ret
 exact ⟨g, cap, rfl, RR.out⟩
theorem interest19 (h : Rq w b F R S N) (hN : N ≤ 3000000000000) : Calls Tryz.prog 172 #[PT b] w fun e w' => e = .returned (.int .i64 (inter S)) ∧ w' = w := by
 have hw := h.wlen
 obtain ⟨sl, m, cs, rfl, h, h1, h2, h3⟩ := h
 have HC := hid (count35 h)
 rw [h1] at HC
 have c7 := h.rc.cs.c7
 have HN := hid (show 0 ≤ ((S.who.length : Nat) : Int) ∧ ((S.who.length : Nat) : Int) ≤ 3000000000000 by omega)
 unfold inter
 clear h h1 h2 h3 hw hN
 generalize (S.who.length : Int) = n at *
 generalize (S.kept && !S.ended) = B at *
 unfold PT
 unfold PL at HC
 have hwr : IntKind.i64.wrap (n + 1) = n + 1 := by have := HN.out; rw [IntKind.wrap_i64]; omega
 cases B
 ·clear hwr
  go_enter Tryz.func172, Tryz.ntmps172
  go_wp2_with (go_at_call 165; refine HC.out.mono ?_; rintro e w2 ⟨rfl, rfl⟩)
  go_ret
  exact ⟨by simp, rfl⟩
 ·go_enter Tryz.func172, Tryz.ntmps172
  go_wp2_with (go_at_call 165; refine HC.out.mono ?_; rintro e w2 ⟨rfl, rfl⟩)
  go_ret
  exact ⟨by simp, rfl⟩
end
end Go.Proofs.YtkfophlhpjbmgaaGreat.Ta
