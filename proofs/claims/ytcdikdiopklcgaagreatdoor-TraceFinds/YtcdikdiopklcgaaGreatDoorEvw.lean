/- A trace in memory, and the contracts of its length and of what stands at a place; no conditions but those that each states. -/
import Derived.Test.YtcdikdiopklcgaaGreatDoorEvl
import Derived.Test.YtcdikdiopklcgaaGreatDoorHlg
import Derived.Test.YtcdikdiopklcgaaGreatDoorAlh
namespace Go.Proofs.YtcdikdiopklcgaaGreatDoor.Tr
open Go.RowKit Go.Sort Go.Shelf Go.Maps Go.ChangeMaps
set_option linter.unusedVariables false
set_option linter.unusedSimpArgs false
def evs (L : List Ez) : List Value := L.flatMap Ez.cells
theorem cells_len (e : Ez) : e.cells.length = 13 := rfl
theorem evs_len (L : List Ez) : (evs L).length = L.length * 13 := flat_len cells_len L
theorem evs_snoc (L : List Ez) (e : Ez) : evs (L ++ [e]) = evs L ++ e.cells := by unfold evs; simp
theorem cells_one (e : Ez) : ∀ y ∈ e.cells, y.oneCell' = true := fun y hy => by
  simp only [Ez.cells, List.mem_cons, List.not_mem_nil, or_false] at hy
  rcases hy with rfl | rfl | rfl | rfl | rfl | rfl | rfl | rfl | rfl | rfl | rfl | rfl | rfl <;> rfl
theorem evs_one (L : List Ez) : ∀ y ∈ evs L, y.oneCell' = true := fun y hy => by
  obtain ⟨e, _, h⟩ := List.mem_flatMap.1 hy
  exact cells_one e y h
theorem infoE : (Tryz.prog.info? 40).map (fun i => (i.zero, i.size, i.bytes)) = some (some e0.val, 13, 112) := by kernel_rfl
theorem infoRE : (Tryz.prog.info? 47).map (fun i => (i.zero, i.size, i.bytes)) = some (some e0.val, 13, 112) := by kernel_rfl
/-- An event within a row. -/
structure Rc (w : World) (g p : Nat) (e : Ez) : Prop where
  c0 : w.cell? ⟨g, p, none⟩ = some (.int .i64 e.at_)
  c1 : w.cell? ⟨g, p + 1, none⟩ = some (.int .i64 e.kd)
  c2 : w.cell? ⟨g, p + 2, none⟩ = some (.int .i64 e.cl)
  c3 : w.cell? ⟨g, p + 3, none⟩ = some (.int .i64 e.ca)
  c4 : w.cell? ⟨g, p + 4, none⟩ = some (.int .i64 e.ru)
  c5 : w.cell? ⟨g, p + 5, none⟩ = some (.int .i64 e.ge)
  c6 : w.cell? ⟨g, p + 6, none⟩ = some (.int .i64 e.ho)
  c7 : w.cell? ⟨g, p + 7, none⟩ = some (.int .u16 e.sp)
  c8 : w.cell? ⟨g, p + 8, none⟩ = some (.string e.nm)
  c9 : w.cell? ⟨g, p + 9, none⟩ = some (.int .i64 e.va)
  c10 : w.cell? ⟨g, p + 10, none⟩ = some (.int .i64 e.fk)
  c11 : w.cell? ⟨g, p + 11, none⟩ = some (.int .i64 e.fc)
  c12 : w.cell? ⟨g, p + 12, none⟩ = some (.int .i64 e.fr)
theorem rc_own {w : World} {B t g c n : Nat} {L : List Ez} (h : w.ownsRow B t 13 (.slice (some ⟨g, 0, none⟩) n c) n (evs L)) {i : Nat} {e : Ez} (hi : L[i]? = some e) : Rc w g (i * 13) e := by
  have q : ∀ j v, j < 13 → e.cells[j]? = some v → w.cell? ⟨g, i * 13 + j, none⟩ = some v := fun j v hj hv =>
    own_cell h ((flat_at cells_len L i j e hi hj).trans hv)
  exact ⟨q 0 _ (by decide) rfl, q 1 _ (by decide) rfl, q 2 _ (by decide) rfl, q 3 _ (by decide) rfl, q 4 _ (by decide) rfl, q 5 _ (by decide) rfl, q 6 _ (by decide) rfl, q 7 _ (by decide) rfl, q 8 _ (by decide) rfl, q 9 _ (by decide) rfl, q 10 _ (by decide) rfl, q 11 _ (by decide) rfl, q 12 _ (by decide) rfl⟩
/-- A trace: block b, its slice v, its events L. -/
structure Tq (w : World) (B b : Nat) (v : Value) (L : List Ez) : Prop where
  bx : w.heap[b]? = some (.cells #[v] 79 (0, 0))
  ow : w.ownsRow B 40 13 v L.length (evs L)
  le : L.length ≤ 1048576
theorem Tq.touch {F : List Nat} {w w' : World} {B b : Nat} {v : Value} {L : List Ez} (h : Tq w B b v L) (t : Touch F w w') (hb : ¬ b ∈ F) (hv : ∀ q, v.ownBlock = some q → ¬ q ∈ F) : Tq w' B b v L :=
  ⟨t.keep h.bx hb, own_touch h.ow t hv, h.le⟩
theorem Tq.touch0 {w w' : World} {B b : Nat} {v : Value} {L : List Ez} (h : Tq w B b v L) (t : Touch [] w w') : Tq w' B b v L := h.touch t (by simp) (fun _ _ => by simp)
theorem Tq.ap {w : World} {B b : Nat} {v : Value} {L : List Ez} (h : Tq w B b v L) : v.ownBlock ≠ some b := fun e => by
  obtain ⟨cs, hc⟩ := own_kind h.ow e
  rw [h.bx] at hc
  simp at hc
theorem len_ {w : World} {B b : Nat} {v : Value} {L : List Ez} (h : Tq w B b v L) : Calls Tryz.prog 42 #[PT b] w fun r w' => r = .returned (.int .i64 L.length) ∧ w' = w := by
  obtain ⟨a, c, rfl⟩ := own_form h.ow
  have c0 := cell_at h.bx (j := 0) rfl
  generalize (L.length : Nat) = n at *
  unfold PT
  clear h
  go_enter Tryz.func42, Tryz.ntmps42
  go_wp2
  go_ret
  exact ⟨rfl, rfl⟩
set_option maxHeartbeats 1000000 in
theorem at_out {w : World} {B b : Nat} {v : Value} {L : List Ez} (h : Tq w B b v L) (n : Int) (hn : n < 0 ∨ (L.length : Int) ≤ n) : Calls Tryz.prog 41 #[PT b, .int .i64 n] w fun r w' => r = .returned (.tuple #[e0.val, .bool false]) ∧ Touch [] w w' := by
  have HL : Hid (∀ w', Touch [] w w' → Calls Tryz.prog 42 #[PT b] w' fun r w'' => r = .returned (.int .i64 L.length) ∧ w'' = w') := fun w' t => len_ (h.touch0 t)
  unfold PT Ez.val e0 at *
  have HM : Hid (Touch [] w (w.alloc (.cells #[.int .i64 0, .int .i64 0, .int .i64 0, .int .i64 0, .int .i64 0, .int .i64 0, .int .i64 0, .int .u16 0, .string ⟨#[]⟩, .int .i64 0, .int .i64 0, .int .i64 0, .int .i64 0] 40))) := (Touch.refl [] w).alloc _
  rcases hn with hn | hn
  · clear HL h
    go_enter Tryz.func41, Tryz.ntmps41
    go_wp2
    exact bodyPost_ret (v := .tuple #[.agg #[.int .i64 0, .int .i64 0, .int .i64 0, .int .i64 0, .int .i64 0, .int .i64 0, .int .i64 0, .int .u16 0, .string ⟨#[]⟩, .int .i64 0, .int .i64 0, .int .i64 0, .int .i64 0], .bool false]) (by simp [results, Tryz.results41, go_sem]) rfl ⟨rfl, HM.out⟩
  · have hm : 0 ≤ n := by omega
    clear h
    generalize (L.length : Int) = N at *
    go_enter Tryz.func41, Tryz.ntmps41
    go_wp2_with fail
    refine (HL.out _ HM.out).mono ?_
    rintro r w1 ⟨rfl, e1⟩
    rw [e1]
    clear e1 w1
    go_wp2_with fail
    exact bodyPost_ret (v := .tuple #[.agg #[.int .i64 0, .int .i64 0, .int .i64 0, .int .i64 0, .int .i64 0, .int .i64 0, .int .i64 0, .int .u16 0, .string ⟨#[]⟩, .int .i64 0, .int .i64 0, .int .i64 0, .int .i64 0], .bool false]) (by simp [results, Tryz.results41, go_sem]) rfl ⟨rfl, HM.out⟩
set_option maxHeartbeats 1000000 in
theorem at_in {w : World} {B b : Nat} {v : Value} {L : List Ez} (h : Tq w B b v L) (i : Nat) (e : Ez) (hi : L[i]? = some e) : Calls Tryz.prog 41 #[PT b, .int .i64 i] w fun r w' => r = .returned (.tuple #[e.val, .bool true]) ∧ Touch [] w w' := by
  have HL : Hid (∀ w', Touch [] w w' → Calls Tryz.prog 42 #[PT b] w' fun r w'' => r = .returned (.int .i64 L.length) ∧ w'' = w') := fun w' t => len_ (h.touch0 t)
  have hlt : i < L.length := (List.getElem?_eq_some_iff.1 hi).1
  have HT : Hid (Touch [] w (w.alloc (.cells #[.int .i64 0, .int .i64 0, .int .i64 0, .int .i64 0, .int .i64 0, .int .i64 0, .int .i64 0, .int .u16 0, .string ⟨#[]⟩, .int .i64 0, .int .i64 0, .int .i64 0, .int .i64 0] 40))) := (Touch.refl [] w).alloc _
  obtain ⟨g, c, e1, _, hgw⟩ := own_some h.ow (by omega)
  have hq := h
  rw [e1] at hq
  have cb := cell_at hq.bx (j := 0) rfl
  obtain ⟨c0, c1, c2, c3, c4, c5, c6, c7, c8, c9, c10, c11, c12⟩ := rc_own hq.ow hi
  have hbw : b < w.heap.size := block_lt h.bx
  have h0 : (0 : Int) ≤ (i : Int) := by omega
  have h1 : (i : Int) < (L.length : Int) := by omega
  generalize L.length = N at *
  unfold PT Ez.val at *
  clear h hq hi hlt e1
  go_enter Tryz.func41, Tryz.ntmps41
  go_wp2_with fail
  refine (HL.out _ HT.out).mono ?_
  rintro r w1 ⟨rfl, e1⟩
  rw [e1]
  clear e1 w1
  go_wp2_with fail
  exact bodyPost_ret (v := .tuple #[.agg #[.int .i64 e.at_, .int .i64 e.kd, .int .i64 e.cl, .int .i64 e.ca, .int .i64 e.ru, .int .i64 e.ge, .int .i64 e.ho, .int .u16 e.sp, .string e.nm, .int .i64 e.va, .int .i64 e.fk, .int .i64 e.fc, .int .i64 e.fr], .bool true]) (by simp [results, Tryz.results41, go_sem]) rfl ⟨rfl, by repeat (first | exact Touch.refl _ _ | apply Touch.alloc)⟩
end Go.Proofs.YtcdikdiopklcgaaGreatDoor.Tr
