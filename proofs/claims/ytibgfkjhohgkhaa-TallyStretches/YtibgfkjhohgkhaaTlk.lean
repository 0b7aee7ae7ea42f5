/- The events as the document has them; no conditions but those that each states. -/
import Derived.Test.YtibgfkjhohgkhaaTlg
import Derived.Test.YtibgfkjhohgkhaaRsl
namespace Go.Proofs.Ytibgfkjhohgkhaa.Ty
open Go.RowKit Go.Maps Go.ChangeMaps
open Tr
set_option linter.unusedVariables false
set_option linter.unusedSimpArgs false
def evs (L : List Ez) : List Value := L.flatMap Ez.cells
theorem cells_len (e : Ez) : e.cells.length = 13 := rfl
theorem evs_len (L : List Ez) : (evs L).length = L.length * 13 := flat_len cells_len L
theorem evs_snoc (L : List Ez) (e : Ez) : evs (L ++ [e]) = evs L ++ e.cells := by unfold evs; simp
theorem cells_one (e : Ez) : ∀ y ∈ e.cells, y.oneCell' = true := fun y hy => by
  simp only [Ez.cells, List.mem_cons, List.not_mem_nil, or_false] at hy
  rcases hy with rfl | rfl | rfl | rfl | rfl | rfl | rfl | rfl | rfl | rfl | rfl | rfl | rfl <;> rfl
def e0 : Ez := ⟨0, 0, 0, 0, 0, 0, 0, 0, ⟨#[]⟩, 0, 0, 0, 0⟩
theorem infoRE : (Try.prog.info? 82).map (fun i => (i.zero, i.size, i.bytes)) = some (some e0.val, 13, 112) := by kernel_rfl
theorem rc_own {w : World} {B t g c n : Nat} {L : List Ez} (h : w.ownsRow B t 13 (.slice (some ⟨g, 0, none⟩) n c) n (evs L)) {i : Nat} {e : Ez} (hi : L[i]? = some e) : Rc w g (i * 13) e := by
  have q : ∀ j v, j < 13 → e.cells[j]? = some v → w.cell? ⟨g, i * 13 + j, none⟩ = some v := fun j v hj hv =>
    own_cell h ((flat_at cells_len L i j e hi hj).trans hv)
  exact ⟨q 0 _ (by decide) rfl, q 1 _ (by decide) rfl, q 2 _ (by decide) rfl, q 3 _ (by decide) rfl, q 4 _ (by decide) rfl, q 5 _ (by decide) rfl, q 6 _ (by decide) rfl, q 7 _ (by decide) rfl, q 8 _ (by decide) rfl, q 9 _ (by decide) rfl, q 10 _ (by decide) rfl, q 11 _ (by decide) rfl, q 12 _ (by decide) rfl⟩
/-- An event of a slice that can be read. -/
theorem Ev.at_ {w : World} {a : Option Addr} {n c : Nat} {L : List Ez} (h : Ev w (.slice a n c) L) {j : Nat} {e : Ez} (he : L[j]? = some e) : ∃ g off, a = some ⟨g, off, none⟩ ∧ g < w.heap.size ∧ Rc w g (off + j * 13) e := by
  obtain ⟨a', c', e1, _, hr⟩ := h
  cases e1
  have hj := (List.getElem?_eq_some_iff.1 he).1
  obtain ⟨g, off, e2, hg, hc⟩ := hr (by omega)
  exact ⟨g, off, e2, hg, hc j e he⟩
/-- A row that a call owns can be read. -/
theorem Ev.own {w : World} {B t : Nat} {v : Value} {L : List Ez} (h : w.ownsRow B t 13 v L.length (evs L)) : Ev w v L := by
  by_cases hn : 0 < L.length
  · obtain ⟨g, c, e1, _, hg⟩ := own_some h hn
    subst e1
    have hh := h
    rcases h with ⟨h1, ⟨_, e0⟩ | ⟨g', cap, cur, e2, _, _, hle, _⟩⟩
    · omega
    · cases e2
      exact ⟨_, c, rfl, hle, fun _ => ⟨g, 0, rfl, hg, fun i e hi => by rw [Nat.zero_add]; exact rc_own hh hi⟩⟩
  · obtain ⟨p, c, e⟩ := own_form h
    exact ⟨p, c, e, by omega, fun h => absurd h hn⟩
set_option maxHeartbeats 1000000 in
set_option maxRecDepth 20000 in
theorem given_ {w : World} {v : Value} {L : List Ez} (h : Ev w v L) (hl : L.length ≤ 2000) :
    Calls Try.prog 10 #[v] w fun r w' => ∃ v', r = .returned v' ∧ Ev w' v' L ∧ Touch [] w w' := by
  have H := hid h
  obtain ⟨a, c, rfl, hc, hrow⟩ := h
  clear hrow
  obtain ⟨n, hn⟩ : ∃ n, L.length = n := ⟨_, rfl⟩
  have HN := hid hn
  rw [hn] at hl hc H ⊢
  clear hn
  have HM : Hid ((w.alloc (.cells #[] 82)).ownsRow w.heap.size 82 13 (.slice (some ⟨w.heap.size, 0, none⟩) 0 0) 0 []) := World.ownsRow_made (e := 82) (size := 13) w #[] 0 (Nat.le_refl _) (by unfold maxLen; omega) rfl
  go_enter Try.func10, Try.ntmps10
  go_wp2_with fail
  go_loopw [3, 10] (fun o i wr => ∃ (j : Nat) (p : Option Addr) (k : Nat), i = .int .i64 j ∧ o = .slice p j k ∧ j ≤ n ∧ Hid (wr.ownsRow w.heap.size 82 13 (.slice p j k) j (evs (L.take j))) ∧ Hid (Touch [] w wr)) (fun _ i _ => n - (intOf i).toNat)
  case atStart => exact ⟨0, _, 0, rfl, rfl, Nat.zero_le _, HM, hid ((Touch.refl [] w).alloc _)⟩
  case round =>
    obtain ⟨j, p, k, rfl, rfl, hj, HO, HT⟩ := hrel
    by_cases hlt : j < n
    · obtain ⟨e, he⟩ : ∃ e, L[j]? = some e := ⟨_, List.getElem?_eq_getElem (by rw [HN.out]; exact hlt)⟩
      obtain ⟨g, off, rfl, hg, c0, c1, c2, c3, c4, c5, c6, c7, c8, c9, c10, c11, c12⟩ := (H.out.keep HT.out).at_ he
      have HE := hid (show evs (L.take j) ++ e.cells = evs (L.take (j + 1)) by rw [List.take_add_one, he]; exact (evs_snoc _ _).symm)
      have hgw := HT.out.size
      clear he
      generalize evs (L.take j) = xs at *
      have B1 : Ib (wr.alloc (.cells #[.int .i64 e.at_, .int .i64 e.kd, .int .i64 e.cl, .int .i64 e.ca, .int .i64 e.ru, .int .i64 e.ge, .int .i64 e.ho, .int .u16 e.sp, .string e.nm, .int .i64 e.va, .int .i64 e.fk, .int .i64 e.fc, .int .i64 e.fr] 69)) wr.heap.size e := Ib.new wr e 69
      have t1 : Touch [] wr (wr.alloc (.cells #[.int .i64 e.at_, .int .i64 e.kd, .int .i64 e.cl, .int .i64 e.ca, .int .i64 e.ru, .int .i64 e.ge, .int .i64 e.ho, .int .u16 e.sp, .string e.nm, .int .i64 e.va, .int .i64 e.fk, .int .i64 e.fc, .int .i64 e.fr] 69)) := (Touch.refl [] wr).alloc _
      have z1 : (wr.alloc (.cells #[.int .i64 e.at_, .int .i64 e.kd, .int .i64 e.cl, .int .i64 e.ca, .int .i64 e.ru, .int .i64 e.ge, .int .i64 e.ho, .int .u16 e.sp, .string e.nm, .int .i64 e.va, .int .i64 e.fk, .int .i64 e.fc, .int .i64 e.fr] 69)).heap.size = wr.heap.size + 1 := by simp
      go_upto_region 5 with fail
      clear c0 c1 c2 c3 c4 c5 c6 c7 c8 c9 c10 c11 c12
      generalize wr.alloc (.cells #[.int .i64 e.at_, .int .i64 e.kd, .int .i64 e.cl, .int .i64 e.ca, .int .i64 e.ru, .int .i64 e.ge, .int .i64 e.ho, .int .u16 e.sp, .string e.nm, .int .i64 e.va, .int .i64 e.fk, .int .i64 e.fc, .int .i64 e.fr] 69) = W1 at *
      have B2 : Ib (W1.alloc (.cells #[.int .i64 e.fk, .int .i64 e.fc, .int .i64 e.fr] 65)) wr.heap.size e := ib_keep B1 ((Touch.refl [] W1).alloc _) (by simp)
      have d0 : (W1.alloc (.cells #[.int .i64 e.fk, .int .i64 e.fc, .int .i64 e.fr] 65)).cell? ⟨W1.heap.size, 0, none⟩ = some (.int .i64 e.fk) := cell_at (heap_alloc_new W1 _) rfl
      have d1 : (W1.alloc (.cells #[.int .i64 e.fk, .int .i64 e.fc, .int .i64 e.fr] 65)).cell? ⟨W1.heap.size, 1, none⟩ = some (.int .i64 e.fc) := cell_at (heap_alloc_new W1 _) rfl
      have d2 : (W1.alloc (.cells #[.int .i64 e.fk, .int .i64 e.fc, .int .i64 e.fr] 65)).cell? ⟨W1.heap.size, 2, none⟩ = some (.int .i64 e.fr) := cell_at (heap_alloc_new W1 _) rfl
      have t2 : Touch [] wr (W1.alloc (.cells #[.int .i64 e.fk, .int .i64 e.fc, .int .i64 e.fr] 65)) := t1.alloc _
      rw [z1] at d0 d1 d2
      obtain ⟨c0, c1, c2, c3, c4, c5, c6, c7, c8, c9, c10, c11, c12⟩ := B1
      go_upto_region 6 with fail
      clear c0 c1 c2 c3 c4 c5 c6 c7 c8 c9 c10 c11 c12
      generalize W1.alloc (.cells #[.int .i64 e.fk, .int .i64 e.fc, .int .i64 e.fr] 65) = W2 at *
      have ho := HO.out
      have ho2 := own_touch ho t2 (fun _ _ h => (by cases h))
      have HO2 := hid ho2
      clear ho ho2
      have HT2 := hid (HT.out.trans' t2)
      have hgw2 := HT2.out.size
      obtain ⟨c0, c1, c2, c3, c4, c5, c6, c7, c8, c9, c10, c11, c12⟩ := B2
      clear HO t1 t2 z1 HT
      have HR := hid (Rs.new W2 #[.int .i64 e.at_, .int .i64 e.kd, .int .i64 e.cl, .int .i64 e.ca, .int .i64 e.ru, .int .i64 e.ge, .int .i64 e.ho, .int .u16 e.sp, .string e.nm, .int .i64 e.va, .int .i64 e.fk, .int .i64 e.fc, .int .i64 e.fr] 82 13 rfl)
      have tw : Touch [] W2 (W2.alloc (.cells #[.int .i64 e.at_, .int .i64 e.kd, .int .i64 e.cl, .int .i64 e.ca, .int .i64 e.ru, .int .i64 e.ge, .int .i64 e.ho, .int .u16 e.sp, .string e.nm, .int .i64 e.va, .int .i64 e.fk, .int .i64 e.fc, .int .i64 e.fr] 82)) := (Touch.refl [] W2).alloc _
      have HOW := hid (own_touch HO2.out tw (fun _ _ h => (by cases h)))
      have HTW := hid (HT2.out.trans' tw)
      have HZ := hid HTW.out.size
      have HZP := hid (show w.heap.size ≤ w.heap.size from Nat.le_refl _)
      have HJ := hid (show j + 1 ≤ maxLen ∧ (j + 1) * 112 ≤ 140737488355328 from ⟨by unfold maxLen; omega, by omega⟩)
      have HC1 := hid (cells_one e)
      clear tw hgw2 HO2 HT2
      go_upto_region 7 with (at_builtin; refine wpList_append_rs rfl _ _ 32 82 rfl e0.val 13 112 infoRE Try.underlying32 rfl (by decide) w.heap.size (.slice p j k) j xs rfl HOW.out (.slice (some ⟨W2.heap.size, 0, none⟩) 1 1) 1 e.cells rfl HR.out HC1.out HJ.out.1 HJ.out.2 HZ.out ?_; intro v' w' o' g' p'; have HT3 := hid (touch_grown HTW.out g' HOW.out HZP.out); clear g' p' HR HOW HTW; obtain ⟨a', c', ea⟩ := own_form o'; subst ea; rw [HE.out] at o'; have HO3 := hid o'; clear o')
      clear c0 c1 c2 c3 c4 c5 c6 c7 c8 c9 c10 c11 c12 d0 d1 d2
      go_wp2_with fail
      go_roundw
      case rel => exact ⟨j + 1, a', c', rfl, rfl, hlt, HO3, HT3⟩
      case measure => simp [intOf]; omega
    · obtain rfl : j = n := by omega
      rw [← HN.out, List.take_length, HN.out] at HO
      go_wp2
      go_ret
      exact ⟨.slice p j k, rfl, Ev.own (v := .slice p j k) (by rw [HN.out]; exact HO.out), HT.out⟩
end Go.Proofs.Ytibgfkjhohgkhaa.Ty
