/- What a replacer writes into; no conditions but those that each states. -/
import Derived.Test.YtlffleigahfdlaaGreatDoorFfe
import Derived.Test.YtlffleigahfdlaaGreatDoorFga
namespace Go.Proofs.YtlffleigahfdlaaGreatDoor.Tr
open Go.RowKit Go.Sort Go.Shelf Go.Maps Go.ChangeMaps
set_option linter.unusedVariables false
set_option linter.unusedSimpArgs false
/-- A writer that gathers bytes: block b. -/
def Wb (U w : World) (b : Nat) (L : List UInt8) : Prop := ∃ v, w.heap[b]? = some (.cells #[v] 294 (0, 0)) ∧ Ob U U.heap.size L v w ∧ U.heap.size ≤ b
theorem Wb.touch {U w w' : World} {b : Nat} {L : List UInt8} (h : Wb U w b L) (t : Touch [] w w') : Wb U w' b L := by
  obtain ⟨v, h0, h1, h2⟩ := h
  exact ⟨v, t.keep h0 (by simp), h1.touch t, h2⟩
theorem Wb.tt {U w : World} {b : Nat} {L : List UInt8} (h : Wb U w b L) : Touch [] U w := by
  obtain ⟨v, h0, h1, h2⟩ := h
  exact h1.2.1
theorem Wb.store {U w w1 : World} {b : Nat} {L m : List UInt8} {v v' : Value} (hb : w.heap[b]? = some (.cells #[v] 294 (0, 0))) (ho : Ob U U.heap.size L v w) (h2 : U.heap.size ≤ b) (o : w1.ownsRow U.heap.size 5 1 v' (L.length + m.length) (bcl L ++ bcl m)) (g : w.grownBy w1 v.ownBlock) :
    w1.heap[b]? = some (.cells #[v] 294 (0, 0)) ∧ Wb U (w1.setCell ⟨b, 0, none⟩ v') b (L ++ m) := by
  have hne : v.ownBlock ≠ some b := fun e => by
    obtain ⟨cs, hc⟩ := own_kind ho.1 e
    rw [hb] at hc
    simp at hc
  have hb1 : w1.heap[b]? = some (.cells #[v] 294 (0, 0)) := (g.block b (block_lt hb) (fun e => hne e.symm)).trans hb
  have hne' : v'.ownBlock ≠ some b := fun e => by
    obtain ⟨cs, hc⟩ := own_kind o e
    rw [hb1] at hc
    simp at hc
  have o2 := ho.add o g
  have ts : Touch [b] w1 (w1.setCell ⟨b, 0, none⟩ v') := (Touch.refl [b] w1).setCell (p := ⟨b, 0, none⟩) (Or.inl (by simp)) _
  exact ⟨hb1, v', heap_set hb1 v', ⟨own_touch o2.1 ts (fun k hk hm => hne' (by simp only [List.mem_singleton] at hm; rw [← hm]; exact hk)), o2.2.1.trans ts (fun i hi => Or.inr (by simp only [List.mem_singleton] at hi; omega)), by simp [World.setCell]; exact o2.2.2.1, o2.2.2.2⟩, h2⟩
set_option maxHeartbeats 2000000 in
theorem sw_ {U w : World} {b : Nat} {L : List UInt8} (h : Wb U w b L) (x : ByteArray) (hl : L.length + x.size ≤ 1099511627777) :
    Calls Tryz.prog 252 #[.pointer (some ⟨b, 0, none⟩), .string x] w fun e w' => e = .returned (.tuple #[.int .i64 x.size, .nilIface]) ∧ Wb U w' b (L ++ x.data.toList) := by
  obtain ⟨v, h0, h1, h2⟩ := h
  obtain ⟨va, vc, hv⟩ := own_form h1.1
  subst hv
  obtain ⟨i5, f5, y5, x5, b5⟩ := info_parts info5
  have c0 := cell_at h0 (j := 0) (v := .slice va L.length vc) rfl
  have HI := hid (And.intro f5 (And.intro y5 (And.intro x5 b5)))
  have HL1 := hid (show L.length + x.size ≤ maxLen by unfold maxLen; omega)
  have HL2 := hid (show L.length + x.size ≤ 140737488355328 by omega)
  have HO := hid h1
  have HS := hid (fun (v' : Value) (w1 : World) (o : w1.ownsRow U.heap.size 5 1 v' (L.length + x.data.toList.length) (bcl L ++ bcl x.data.toList)) (g : w.grownBy w1 (Value.slice va L.length vc).ownBlock) => Wb.store h0 h1 h2 o g)
  generalize hln : L.length = ln at *
  clear h0 h1 h2 f5 y5 x5 b5 hl
  go_enter Tryz.func252, Tryz.ntmps252
  go_wp2_with (at_builtin; go_must (refine Lib.wpList_append_own_string _ rfl _ _ 294 9 rfl U.heap.size 5 i5 Tryz.underlying294 Tryz.underlying9 HI.out.1 HI.out.2.1 HI.out.2.2.1 HI.out.2.2.2 (.slice va ln vc) _ _ rfl (hln ▸ HO.out.1) x rfl HL1.out HL2.out HO.out.2.2.1 ?_); intro v6 w6 o6 g6 e6; clear e6; obtain ⟨k1, k2⟩ := HS.out v6 w6 o6 g6; have K2 := hid k2; have c6 := cell_at k1 (j := 0) (v := .slice va ln vc) rfl; have f6 := froz_at k1 0; obtain ⟨a6, l6, e6⟩ := own_form o6; subst e6; clear o6 g6 k1 k2)
  go_ret2
  exact ⟨rfl, K2.out⟩
end Go.Proofs.YtlffleigahfdlaaGreatDoor.Tr
