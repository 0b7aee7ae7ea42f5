/- The contracts of the program's own look at an error that was made here: nil of nil, and the struct itself of one that was made here; the condition is the library's variable of the type error. -/
import Derived.Test.YtifhfdndbnmhlaaDoorAs
import Derived.Defers
import Derived.Recover
import Derived.Laws.Pointers
namespace Go.Proofs.YtifhfdndbnmhlaaDoor
open Go.RowKit Go.Sort
set_option linter.unusedVariables false

/-- the library's variable of the type error -/
def Et (w : World) : Prop := w.cell? ⟨1, 0, none⟩ = some (.iface 133 (.agg #[.pointer (some ⟨8, 47, none⟩)]))
theorem Et.gr {w w' : World} (h : Et w) (hg : Gr w w') : Et w' := hg.cell' h

theorem catch51 (p : Addr) (w : World) :
    CallsD Tryd.prog 51 #[.pointer (some p)] .returning w fun e u' w' => e = .returned (.tuple #[]) ∧ u' = .returning ∧ w' = w := by
  refine callsD_of_wpS Tryd.func51 rfl fun c₀ cs hu => ?_
  apply wpS_seq
  apply wpS_region
  simp [wpOpsS, go_sem, recoverD, hu, Tryd.ntmps51, Exit.thenS]
  refine wpS_cond (t := false) (by simp [Act.eval, Array.replicate]) ?_
  simp only [Bool.false_eq_true, if_false]
  refine wpS_of_wp (wp_skip ?_)
  cases c₀
  simp_all [bodyPostS, results, Tryd.results51]

theorem neq_same (e : Addr) (w : World) : (binOp .neq 47 (.iface 69 (.pointer (some e))) (.iface 69 (.pointer (some e)))).run Tryd.prog w = .ok (.bool false) w := by
  cases hi : Tryd.prog.info? 69 with
  | none => exact absurd hi (by have h : (Tryd.prog.info? 69).isSome = true := by kernel_rfl
                                intro h'; rw [h'] at h; cases h)
  | some i =>
    cases hj : Tryd.prog.info? 71 with
    | none => exact absurd hj (by have h : (Tryd.prog.info? 71).isSome = true := by kernel_rfl
                                  intro h'; rw [h'] at h; cases h)
    | some j =>
      have hc : i.comparable = true := by
        have h : (Tryd.prog.info? 69).map (·.comparable) = some true := by kernel_rfl
        rw [hi] at h
        exact Option.some.inj h
      simp only [binOp]
      simp [Op.equal, Op.maxDepth, run_equalIn_iface_ptr_same w 9998 e Tryd.underlying47 Tryd.underlying69 hi hc hj]

set_option maxRecDepth 20000 in
set_option maxHeartbeats 1000000 in
theorem made45_nil (w : World) :
    Calls Tryd.prog 45 #[.nilIface] w fun e w' => e = .returned (.pointer none) ∧ Gr w w' := by
  have hmf : ∀ (fn : Fn) (first cap : Array Value) (w : World), (Instr.makeFunc fn first cap).run Tryd.prog w = .ok (.func fn first cap) w := fun _ _ _ _ => rfl
  go_enter_defers Tryd.func45, Tryd.ntmps45
  go_wp2_with (go_at_call 52; refine (as_nil _ _).mono ?_; rintro e w' ⟨rfl, rfl⟩)
  refine leaves_cons (f := 51) (args := #[.pointer (some ⟨w.heap.size, 0, none⟩)]) (by simp) (by simp [go_sem]) ?_
  refine (catch51 ⟨w.heap.size, 0, none⟩ _).mono ?_
  rintro e u' w'' ⟨rfl, rfl, rfl⟩
  simp [Leaves, settle, results, Tryd.results45, go_sem]
  exact (Gr.refl w).alloc _

theorem as52 (e t : Addr) (old : Value) (w w0 : World) (hE : Et w) (ht : w.cell? t = some old) (hf : w.frozen? t = false) (h0 : Gr w0 w) (hb : w0.heap.size ≤ t.block) :
    Calls Tryd.prog 52 #[.iface 69 (.pointer (some e)), .iface 91 (.pointer (some t))] w fun ev w' => ev = .returned (.bool true) ∧ w'.cell? t = some (.pointer (some e)) ∧ w'.frozen? t = false ∧ Gr w0 w' := by
  refine (as_hit e t old w hE ht hf).mono fun ev w' ⟨h1, h2⟩ => ⟨h1, ?_, ?_, ?_⟩
  · subst h2
    have G : Gr w ((((w.alloc (.cells #[.pointer (some t)] 91)).alloc (.cells #[.pointer (some ⟨8, 91, none⟩), .pointer (some ⟨w.heap.size, 0, none⟩), .int .u64 150] 109)).alloc (.cells #[.pointer (some ⟨8, 91, none⟩), .pointer (some ⟨w.heap.size, 0, none⟩), .int .u64 150] 109)).alloc (.cells #[.pointer (some e)] 69)) := ((((Gr.refl w).alloc _).alloc _).alloc _).alloc _
    exact World.cell?_setCell_same _ _ _ (G.cell' ht)
  · subst h2
    have hl := cell_lt ht
    rw [World.frozen?_setCell]
    have G : Gr w ((((w.alloc (.cells #[.pointer (some t)] 91)).alloc (.cells #[.pointer (some ⟨8, 91, none⟩), .pointer (some ⟨w.heap.size, 0, none⟩), .int .u64 150] 109)).alloc (.cells #[.pointer (some ⟨8, 91, none⟩), .pointer (some ⟨w.heap.size, 0, none⟩), .int .u64 150] 109)).alloc (.cells #[.pointer (some e)] 69)) := ((((Gr.refl w).alloc _).alloc _).alloc _).alloc _
    rw [G.below.frozen hl]
    exact hf
  · subst h2
    exact Gr.setCell (((((h0).alloc _).alloc _).alloc _).alloc _) hb _

set_option maxRecDepth 20000 in
set_option maxHeartbeats 1000000 in
theorem made45_hit (e : Addr) (w : World) (hE : Et w) :
    Calls Tryd.prog 45 #[.iface 69 (.pointer (some e))] w fun ev w' => ev = .returned (.pointer (some e)) ∧ Gr w w' := by
  have hmf : ∀ (fn : Fn) (first cap : Array Value) (w : World), (Instr.makeFunc fn first cap).run Tryd.prog w = .ok (.func fn first cap) w := fun _ _ _ _ => rfl
  have hne := neq_same e
  have hE1 : Et (w.alloc (.cells #[.pointer none] 69)) := hE.gr ((Gr.refl w).alloc _)
  go_enter_defers Tryd.func45, Tryd.ntmps45
  go_wp2_with (go_at_call 52; refine (as52 e ⟨w.heap.size, 0, none⟩ (.pointer none) _ w hE1 (by simp) (by simp) ((Gr.refl w).alloc _) (Nat.le_refl _)).mono ?_; rintro ev w1 ⟨rfl, hc, hz, hg⟩)
  have hw : Gr w (w1.setCell ⟨w.heap.size, 0, none⟩ (.pointer (some e))) := hg.setCell (Nat.le_refl _) _
  have hc2 : (w1.setCell ⟨w.heap.size, 0, none⟩ (.pointer (some e))).cell? ⟨w.heap.size, 0, none⟩ = some (.pointer (some e)) := World.cell?_setCell_same _ _ _ hc
  refine leaves_cons (f := 51) (args := #[.pointer (some ⟨w.heap.size, 0, none⟩)]) (by simp) (by simp [go_sem]) ?_
  refine (catch51 ⟨w.heap.size, 0, none⟩ _).mono ?_
  rintro e u' w'' ⟨rfl, rfl, rfl⟩
  simp [Leaves, settle, results, Tryd.results45, go_sem, hc2, hw]
end Go.Proofs.YtifhfdndbnmhlaaDoor
