/- The contracts of the library's clones of a slice of numbers and of a map, and of a line's clone. -/
import Derived.Test.YtpihhlllembdeaaGreatLnd
import Derived.Shelf.SlMaps.Clone
namespace Go.Proofs.YtpihhlllembdeaaGreat
open Go.RowKit Go.Maps Go.ChangeMaps
set_option linter.unusedVariables false
set_option linter.unusedSimpArgs false
theorem MapAt.copy {w : World} {b n : Nat} {f : Int → Option Value} (h : MapAt w b n f) : ∃ es cl, w.heap[b]? = some (.map es cl) ∧ MapAt (w.alloc (.map es cl)) w.heap.size n f := by
  obtain ⟨D, ⟨es, cl, hb, r⟩, h2, h3⟩ := h
  exact ⟨es, cl, hb, D, ⟨es, cl, heap_alloc_new w _, r⟩, h2, h3⟩
def CmE (e : Ending) (w w' : World) (cs : List Int) : Prop := ∃ m2, e = .returned (.map m2) ∧ Mp w' m2 cs ∧ (∀ q, m2 = some q → w.heap.size ≤ q) ∧ Touch [] w w'
set_option maxHeartbeats 1000000 in
set_option maxRecDepth 100000 in
theorem clone43 (w : World) (m : Option Nat) (cs : List Int) (h : Mp w m cs) : Calls Tryz.prog 87 #[.map m] w fun e w' => CmE e w w' cs := by
  have hq := fun (w : World) (m : Option Nat) => run_eql_map_nil_sl (P := Tryz.prog) w 131 _ _ m Tryz.underlying131
  rcases h with ⟨rfl, rfl⟩ | ⟨d, rfl, hm0⟩
  · go_enter Tryz.func87, Tryz.ntmps87
    go_wp2
    go_ret
    exact ⟨none, rfl, Or.inl ⟨rfl, rfl⟩, fun q hq => (by cases hq), Touch.refl _ _⟩
  · obtain ⟨es, cl, hb, hm⟩ := hm0.copy
    have HM := hid hm
    have hta := fun w v => run_typeAssert_map_sl (P := Tryz.prog) w 131 20 _ _ v Tryz.underlying131
    clear hm0 hm
    go_enter Tryz.func87, Tryz.ntmps87
    go_wp2
    rw [run_callFunc_extern Tryz.func72 (by kernel_rfl) (by kernel_rfl) (by kernel_rfl) (e := Extern.MapsClone.clone) (by kernel_rfl), run_maps_clone_sl w 131 hb]
    simp only [Result.andThen]
    rw [Oper.upon_value]
    go_wp2
    go_ret
    exact ⟨some w.heap.size, rfl, Or.inr ⟨_, rfl, HM.out⟩, fun q hq => (by cases hq; exact Nat.le_refl _), (Touch.refl _ _).alloc _⟩
theorem eq33 (W : World) (a : Option Addr) (n c : Nat) : (binOp .eql 75 (.slice a n c) (.slice none 0 0)).run Tryz.prog W = .ok (.bool a.isNone) W := Lib.run_eql_slice_nil W _ _ a n c 0 0 Tryz.underlying75
def CsE (e : Ending) (w w' : World) (xs : List Int) : Prop := ∃ a n c, e = .returned (.slice a n c) ∧ w'.ownsRow w.heap.size 3 1 (.slice a n c) xs.length (ints xs) ∧ Touch [] w w'
set_option maxHeartbeats 1000000 in
theorem clone42 (w : World) (v : Value) (xs : List Int) (h : w.ownsRow 0 3 1 v xs.length (ints xs)) (hle : xs.length ≤ 3000000000000) : Calls Tryz.prog 86 #[v] w fun e w' => CsE e w w' xs := by
  have q33 := eq33
  rcases h.2 with ⟨rfl, e0⟩ | ⟨g, cap, cur, rfl, _⟩
  · have e1 : xs = [] := List.length_eq_zero_iff.1 e0
    subst e1
    clear h
    go_enter Tryz.func86, Tryz.ntmps86
    go_wp2
    go_ret
    exact ⟨none, 0, 0, rfl, World.ownsRow_nil _ _ _ _, Touch.refl _ _⟩
  · have HR : Hid (∀ ob, Rd (w.alloc ob) (.slice (some ⟨g, 0, none⟩) xs.length cap) xs) := fun ob => (Rd.of_own h).keep0 ((Touch.refl [] _).alloc _)
    have HM : Hid ((w.alloc (.cells #[] 3)).ownsRow w.heap.size 3 1 (.slice (some ⟨w.heap.size, 0, none⟩) 0 0) 0 []) := World.ownsRow_made (e := 3) (size := 1) w #[] 0 (Nat.le_refl _) (by unfold maxLen; omega) rfl
    have HLE := hid hle
    have HE : Hid (∀ b c w', w'.ownsRow w.heap.size 3 1 (.slice (some ⟨b, 0, none⟩) (0 + xs.length) c) (0 + xs.length) ([] ++ ints xs) → (w.alloc (.cells #[] 3)).grownBy w' (some w.heap.size) → CsE (.returned (.slice (some ⟨b, 0, none⟩) (0 + xs.length) c)) w w' xs) := fun b c w' r gr => by
      rw [Nat.zero_add, List.nil_append] at r
      rw [Nat.zero_add]
      exact ⟨_, _, c, rfl, r, ((Touch.refl [] w).alloc _).grown gr (fun k hk => Or.inr (by cases hk; exact Nat.le_refl _))⟩
    clear h hle
    go_enter Tryz.func86, Tryz.ntmps86
    go_wp2_with (at_builtin; refine wpList_append_rd rfl _ _ rfl w.heap.size w.heap.size 0 0 [] rfl HM.out _ xs rfl (HR.out _) (by have := HLE.out; omega) (by simp) ?_; intro b5 c5 w5 o5 g5; have O5 := hid (HE.out _ _ _ o5 g5); clear o5 g5)
    rw [Nat.zero_add] at *
    go_ret
    exact O5.out
def ClE (e : Ending) (w w' : World) (cs : List Int) : Prop := ∃ sl m, e = .returned (.agg #[sl, .map m]) ∧ Ln w' sl m cs ∧ (∀ q, sl.ownBlock = some q ∨ m = some q → w.heap.size ≤ q) ∧ Touch [] w w'
section
variable (w : World) (b : Nat) (R : Rn) (sl : Value) (m : Option Nat) (cs : List Int) (k c e : Bool) (o : O)
set_option maxHeartbeats 4000000 in
set_option maxRecDepth 100000 in
theorem clone36 (h : Rl w b R k c e o sl m cs) (hle : cs.length ≤ 3000000000000) : Calls Tryz.prog 71 #[PL b] w fun e' w' => ClE e' w w' cs := by
  obtain ⟨V, hV⟩ : ∃ V, V = w.alloc (.cells #[.slice none 0 0, .map none] 133) := ⟨_, rfl⟩
  have TV : Hid (Touch [] w V) := by rw [hV]; exact (Touch.refl _ _).alloc _
  have HBX : Hid (V.heap[w.heap.size]? = some (.cells #[.slice none 0 0, .map none] 133 (0, 0))) := by rw [hV]; exact heap_alloc_new w _
  have hv := h.keep0 TV.out
  have H5 : ∀ w', Touch [] V w' → w'.cell? ⟨b, 5, none⟩ = some sl := fun w' T => (hv.keep0 T).rc.cs.c5
  have H6 : ∀ w', Touch [] V w' → w'.cell? ⟨b, 6, none⟩ = some (.map m) := fun w' T => (hv.keep0 T).rc.cs.c6
  have HA : Hid (∀ w', Touch [] V w' → Calls Tryz.prog 86 #[sl] w' fun e w2 => ∃ a n c, e = .returned (.slice a n c) ∧ w2.ownsRow w.heap.size 3 1 (.slice a n c) cs.length (ints cs) ∧ Touch [] V w2) := fun w' T => by
    refine (clone42 w' sl cs (hv.keep0 T).ln.row hle).mono ?_
    rintro e w2 ⟨a, n, c, rfl, r, t⟩
    exact ⟨a, n, c, rfl, own_base r (Nat.le_trans TV.out.size T.size), T.trans' t⟩
  have HB : Hid (∀ w', Touch [] V w' → Calls Tryz.prog 87 #[.map m] w' fun e w2 => ∃ m2, e = .returned (.map m2) ∧ (Mp w2 m2 cs ∧ (∀ q, m2 = some q → w.heap.size ≤ q) ∧ Touch [] w' w2) ∧ Touch [] V w2) := fun w' T => by
    refine (clone43 w' m cs (hv.keep0 T).ln.mp).mono ?_
    rintro e w2 ⟨m2, rfl, r1, r2, t⟩
    exact ⟨m2, rfl, ⟨r1, fun q hq => Nat.le_trans (Nat.le_trans TV.out.size T.size) (r2 q hq), t⟩, T.trans' t⟩
  have HQ : Hid (∀ w', Touch [] V w' → w'.cell? ⟨w.heap.size, 0, none⟩ = some (.slice none 0 0) ∧ w'.cell? ⟨w.heap.size, 1, none⟩ = some (.map none) ∧ ∀ i, w'.frozen? ⟨w.heap.size, i, none⟩ = false) := fun w' T => by
    have := T.keep HBX.out (by simp)
    exact ⟨cell_at this rfl, cell_at this rfl, fun i => froz_at this i⟩
  have HOK := hid h.ln.ok
  clear h hv hle
  have s0 : Touch [] V V.drew := (Touch.refl _ _).drew
  unfold PL
  go_enter Tryz.func71, Tryz.ntmps71
  go_upto_region 1 with fail
  rw [← hV]
  clear hV
  refine wp_region_L (S := fun w' => Touch [] V w') (st := 11) (by kernel_rfl) ?_
  refine wpL_take (i := 0) (v := (.pointer (some ⟨b, 5, none⟩))) (some 3) rfl rfl (by kernel_rfl) (by kernel_rfl) (by kernel_rfl) (by kernel_rfl) (by kernel_rfl) (by decide) (fun _ _ _ h => h) (Or.inl ⟨by rfl, fun w' hS => (by go_simp)⟩) s0 ?_
  try simp only [Go.Act.put, List.setIfInBounds_toArray, List.set_cons_zero, List.set_cons_succ]
  refine wpL_take (i := 1) (v := (.pointer (some ⟨b, 5, none⟩))) (some 4) rfl rfl (by kernel_rfl) (by kernel_rfl) (by kernel_rfl) (by kernel_rfl) (by kernel_rfl) (by decide) (fun _ _ _ h => h) (Or.inl ⟨by rfl, fun w' hS => (by go_simp)⟩) s0 ?_
  try simp only [Go.Act.put, List.setIfInBounds_toArray, List.set_cons_zero, List.set_cons_succ]
  refine wpL_take (i := 2) (v := (.pointer (some ⟨b, 5, none⟩))) (some 5) rfl rfl (by kernel_rfl) (by kernel_rfl) (by kernel_rfl) (by kernel_rfl) (by kernel_rfl) (by decide) (fun _ _ _ h => h) (Or.inl ⟨by rfl, fun w' hS => (by go_simp)⟩) s0 ?_
  try simp only [Go.Act.put, List.setIfInBounds_toArray, List.set_cons_zero, List.set_cons_succ]
  refine wpL_take (i := 3) (v := (sl)) (some 6) rfl rfl (by kernel_rfl) (by kernel_rfl) (by kernel_rfl) (by kernel_rfl) (by kernel_rfl) (by decide) (fun _ _ _ h => h) (Or.inl ⟨by rfl, fun w' hS => (by have z0 := H5 _ hS; go_simp)⟩) s0 ?_
  try simp only [Go.Act.put, List.setIfInBounds_toArray, List.set_cons_zero, List.set_cons_succ]
  refine wpL_take (i := 5) (v := (.pointer (some ⟨b, 5, none⟩))) (some 8) rfl rfl (by kernel_rfl) (by kernel_rfl) (by kernel_rfl) (by kernel_rfl) (by kernel_rfl) (by decide) (fun _ _ _ h => h) (Or.inl ⟨by rfl, fun w' hS => (by go_simp)⟩) s0 ?_
  try simp only [Go.Act.put, List.setIfInBounds_toArray, List.set_cons_zero, List.set_cons_succ]
  refine wpL_take (i := 6) (v := (.pointer (some ⟨b, 5, none⟩))) (some 9) rfl rfl (by kernel_rfl) (by kernel_rfl) (by kernel_rfl) (by kernel_rfl) (by kernel_rfl) (by decide) (fun _ _ _ h => h) (Or.inl ⟨by rfl, fun w' hS => (by go_simp)⟩) s0 ?_
  try simp only [Go.Act.put, List.setIfInBounds_toArray, List.set_cons_zero, List.set_cons_succ]
  refine wpL_take (i := 7) (v := (.pointer (some ⟨b, 6, none⟩))) (some 10) rfl rfl (by kernel_rfl) (by kernel_rfl) (by kernel_rfl) (by kernel_rfl) (by kernel_rfl) (by decide) (fun _ _ _ h => h) (Or.inl ⟨by rfl, fun w' hS => (by go_simp)⟩) s0 ?_
  try simp only [Go.Act.put, List.setIfInBounds_toArray, List.set_cons_zero, List.set_cons_succ]
  refine wpL_take (i := 8) (v := (.map m)) (some 11) rfl rfl (by kernel_rfl) (by kernel_rfl) (by kernel_rfl) (by kernel_rfl) (by kernel_rfl) (by decide) (fun _ _ _ h => h) (Or.inl ⟨by rfl, fun w' hS => (by have z0 := H6 _ hS; go_simp)⟩) s0 ?_
  try simp only [Go.Act.put, List.setIfInBounds_toArray, List.set_cons_zero, List.set_cons_succ]
  refine wpL_ready (rs := [4]) (by kernel_rfl) (by simp) (AllL.cons (o := { dst := some 7, op := Op.call { callee := Callee.value (Operand.func 86), args := #[Operand.tmp 6], argTypes := #[75] }, type := 75, pos := _, after := #[{ on := 3, ground := Ground.data }], guard := none }) rfl (fun K' hK => ?_) AllL.nil)
  rw [if_pos (by rfl)]
  go_simp
  refine (HA.out _ s0).mono ?_
  rintro e' w2 ⟨a2, n2, c2, rfl, r2, s1⟩
  have R2 := hid r2
  clear r2
  refine hK.out _ _ (fun _ => s1) ?_
  clear hK
  try simp only [Go.Act.put, List.setIfInBounds_toArray, List.set_cons_zero, List.set_cons_succ]
  refine wpL_ready (rs := [9]) (by kernel_rfl) (by simp) (AllL.cons (o := { dst := some 12, op := Op.call { callee := Callee.value (Operand.func 87), args := #[Operand.tmp 11], argTypes := #[131] }, type := 131, pos := _, after := #[{ on := 8, ground := Ground.data }, { on := 4, ground := Ground.chain }], guard := none }) rfl (fun K' hK => ?_) AllL.nil)
  rw [if_pos (by rfl)]
  go_simp
  refine (HB.out _ s1).mono ?_
  rintro e' w3 ⟨m3, rfl, r3, s2⟩
  have R3 := hid r3
  clear r3
  obtain ⟨q0, q1, qf⟩ := HQ.out _ s2
  refine hK.out _ _ (fun _ => s2) ?_
  clear hK
  try simp only [Go.Act.put, List.setIfInBounds_toArray, List.set_cons_zero, List.set_cons_succ]
  refine wpL_take (i := 10) (v := (.agg #[.slice a2 n2 c2, .map m3])) (some 13) rfl rfl (by kernel_rfl) (by kernel_rfl) (by kernel_rfl) (by kernel_rfl) (by kernel_rfl) (by decide) (fun _ _ _ h => h) (Or.inl ⟨by rfl, fun w' hS => (by go_simp)⟩) s2 ?_
  try simp only [Go.Act.put, List.setIfInBounds_toArray, List.set_cons_zero, List.set_cons_succ]
  refine wpL_ready (rs := [11]) (by kernel_rfl) (by simp) (AllL.cons (o := { dst := none, op := Op.store 133 (Operand.tmp 2) (Operand.tmp 13), type := 0, pos := _, after := #[{ on := 10, ground := Ground.data }, { on := 9, ground := Ground.chain }, { on := 0, ground := Ground.phase }, { on := 1, ground := Ground.phase }, { on := 2, ground := Ground.phase }, { on := 3, ground := Ground.phase }, { on := 4, ground := Ground.phase }, { on := 5, ground := Ground.phase }, { on := 6, ground := Ground.phase }, { on := 7, ground := Ground.phase }, { on := 8, ground := Ground.phase }, { on := 9, ground := Ground.phase }, { on := 10, ground := Ground.phase }], guard := none }) rfl (fun K' hK => ?_) AllL.nil)
  rw [if_pos (by rfl)]
  go_simp
  refine hK.out _ _ (fun h => absurd h (by decide)) ?_
  clear hK
  try simp only [Go.Act.put, List.setIfInBounds_toArray, List.set_cons_zero, List.set_cons_succ]
  refine wpL_done (by kernel_rfl) ?_ _
  have HF : Hid (ClE (.returned (.agg #[.slice a2 n2 c2, .map m3])) w ((w3.setCell ⟨w.heap.size, 0, none⟩ (.slice a2 n2 c2)).setCell ⟨w.heap.size, 1, none⟩ (.map m3)) cs) := by
    obtain ⟨r1, r2, r3⟩ := R3.out
    have row3 : w3.ownsRow w.heap.size 3 1 (.slice a2 n2 c2) cs.length (ints cs) := own_touch R2.out r3 (fun _ _ e => by cases e)
    have hbx : w3.heap[w.heap.size]? = some (.cells #[.slice none 0 0, .map none] 133 (0, 0)) := s2.keep HBX.out (by simp)
    have T : Touch [w.heap.size] w3 ((w3.setCell ⟨w.heap.size, 0, none⟩ (.slice a2 n2 c2)).setCell ⟨w.heap.size, 1, none⟩ (.map m3)) := ((Touch.refl _ _).setCell (Or.inl (by simp)) _).setCell (Or.inl (by simp)) _
    refine ⟨_, m3, rfl, ⟨own_base (own_touch row3 T (fun q hq e' => ?_)) (Nat.zero_le _), r1.keep T (fun q hq e' => ?_), HOK.out⟩, fun q hq => ?_, ((TV.out.trans' s2).mono (fun _ q => by cases q)).trans (F := []) T (fun q hq => ?_)⟩
    · simp only [List.mem_singleton] at e'
      subst e'
      obtain ⟨cur, hc⟩ := own_kind row3 hq
      rw [hbx] at hc
      simp at hc
    · simp only [List.mem_singleton] at e'
      subst e'
      obtain ⟨es, cl, hc⟩ := r1.kind hq
      rw [hbx] at hc
      simp at hc
    · rcases hq with hq | hq
      · exact (row3.lt q hq).1
      · exact r2 q hq
    · simp only [List.mem_singleton] at hq
      exact Or.inr (by rw [hq]; exact Nat.le_refl _)
  clear R2 R3 HA HB H5 H6 HQ HOK TV s0 s1 s2
  go_wp2
  exact bodyPost_ret (v := .agg #[.slice a2 n2 c2, .map m3]) (by simp [results, Tryz.results71, go_sem, q0, q1]) rfl HF.out
end
end Go.Proofs.YtpihhlllembdeaaGreat
