/- The contracts of how deep an error is wrapped, and of whether two errors carry the same failure; the conditions: the library's variable of the type error, and that an error was not wrapped too often for one slice. -/
import Derived.Test.YtifhfdndbnmhlaaDoorAwk
import Derived.Deep.RegionWith
namespace Go.Proofs.YtifhfdndbnmhlaaDoor
open Go.RowKit Go.Sort
set_option linter.unusedVariables false

/-- an error of this program's: nil of the failure none, else a chain in memory -/
def Ev (w : World) (v : Value) (k c r : Int) (ns : List ByteArray) : Prop :=
  (none3 k c r = true ∧ v = .nilIface) ∨ (none3 k c r = false ∧ ∃ b, v = er b ∧ Chain w k c r b ns)
theorem Ev.gr {w w' : World} {v : Value} {k c r : Int} {ns : List ByteArray} (h : Ev w v k c r ns) (hg : Gr w w') : Ev w' v k c r ns := by
  rcases h with h | ⟨hn, b, hv, hc⟩
  · exact Or.inl h
  · exact Or.inr ⟨hn, b, hv, hc.gr hg⟩
theorem none_zero {k c r : Int} (h : none3 k c r = true) : k = 0 ∧ c = 0 ∧ r = 0 := of_decide_eq_true h
theorem ofE (k c r : Int) (w : World) : Calls Tryd.prog 20 #[fl k c r] w fun e w' => ∃ v, e = .returned v ∧ Ev w' v k c r [] ∧ Gr w w' := by
  cases hn : none3 k c r with
  | true =>
    obtain ⟨rfl, rfl, rfl⟩ := none_zero hn
    exact (of20_none w).mono fun e w' ⟨he, hg⟩ => ⟨_, he, Or.inl ⟨hn, rfl⟩, hg⟩
  | false => exact (of20 k c r w hn).mono fun e w' ⟨b, he, hc, hg⟩ => ⟨_, he, Or.inr ⟨hn, b, rfl, hc⟩, hg⟩
theorem wrapE (v : Value) (k c r : Int) (ns : List ByteArray) (s : ByteArray) (w : World) (h : Ev w v k c r ns) : Calls Tryd.prog 22 #[v, .string s] w fun e w' => ∃ v', e = .returned v' ∧ Ev w' v' k c r (s :: ns) ∧ Gr w w' := by
  rcases h with ⟨hn, rfl⟩ | ⟨hn, b, rfl, hc⟩
  · exact (wrap22_nil s w).mono fun e w' ⟨he, hg⟩ => ⟨_, he, Or.inl ⟨hn, rfl⟩, hg⟩
  · exact (wrap22 k c r b ns s w hc).mono fun e w' ⟨b', he, hc', hg⟩ => ⟨_, he, Or.inr ⟨hn, b', rfl, hc'⟩, hg⟩
theorem findE (v : Value) (k c r : Int) (ns : List ByteArray) (w : World) (hE : Et w) (hl : ns.length ≤ 1048576) (h : Ev w v k c r ns) : Calls Tryd.prog 23 #[v] w fun e w' => e = .returned (.tuple #[fl k c r, .bool (!none3 k c r)]) ∧ Gr w w' := by
  rcases h with ⟨hn, rfl⟩ | ⟨hn, b, rfl, hc⟩
  · obtain ⟨rfl, rfl, rfl⟩ := none_zero hn
    exact find23_nil w
  · rw [hn]
    exact find23 k c r b ns w hE hc hl hn
theorem unwrapE (v : Value) (k c r : Int) (ns : List ByteArray) (w : World) (hE : Et w) (hl : ns.length ≤ 1048576) (h : Ev w v k c r ns) : Calls Tryd.prog 37 #[v] w fun e w' => ∃ A cp, e = .returned (.tuple #[.slice A (if none3 k c r then 0 else ns.length) cp, fl k c r]) ∧ Gr w w' := by
  rcases h with ⟨hn, rfl⟩ | ⟨hn, b, rfl, hc⟩
  · obtain ⟨rfl, rfl, rfl⟩ := none_zero hn
    exact (unwrap37_nil w).mono fun e w' ⟨he, hg⟩ => ⟨none, 0, he, hg⟩
  · rw [hn]
    exact (unwrap37 k c r b ns w hE hc hl).mono fun e w' ⟨A, cp, he, _, hg⟩ => ⟨A, cp, he, hg⟩
theorem deepE (v : Value) (k c r : Int) (ns : List ByteArray) (w : World) (hE : Et w) (hl : ns.length ≤ 1048576) (h : Ev w v k c r ns) : Calls Tryd.prog 21 #[v] w fun e w' => e = .returned (.int .i64 ((if none3 k c r then 0 else ns.length : Nat) : Int)) ∧ Gr w w' := by
  have HV : Hid (∀ w', Gr w w' → Calls Tryd.prog 37 #[v] w' fun e w'' => ∃ A cp, e = .returned (.tuple #[.slice A (if none3 k c r then 0 else ns.length) cp, fl k c r]) ∧ Gr w' w'') := fun w' hg => unwrapE v k c r ns w' (hE.gr hg) hl (h.gr hg)
  generalize (if none3 k c r then 0 else ns.length) = n at *
  clear h hE
  go_enter Tryd.func21, Tryd.ntmps21
  go_wp2_with (go_at_call 37; refine (HV.out _ (by repeat (first | exact Gr.refl _ | apply Gr.alloc))).mono ?_; rintro e w1 ⟨A, cp, rfl, hg⟩)
  go_ret
  exact ⟨rfl, by first | exact hg.alloc _ | exact (((Gr.refl w).alloc _).trans hg) | exact (((Gr.refl w).alloc _).trans hg).alloc _⟩
theorem eql_nil (b : Nat) (w : World) : (binOp .eql 47 (er b) .nilIface).run Tryd.prog w = .ok (.bool false) w := by
  go_simp
set_option maxRecDepth 20000 in
set_option maxHeartbeats 1000000 in
theorem isE (v : Value) (k c r : Int) (ns : List ByteArray) (v' : Value) (k' c' r' : Int) (ns' : List ByteArray) (w : World) (hE : Et w) (hl : ns.length ≤ 1048576) (hl' : ns'.length ≤ 1048576) (h : Ev w v k c r ns) (h' : Ev w v' k' c' r' ns') :
    Calls Tryd.prog 25 #[v, v'] w fun e w' => e = .returned (.bool (same k c r k' c' r')) ∧ Gr w w' := by
  have F1 : Hid (∀ w', Gr w w' → Calls Tryd.prog 23 #[v] w' fun e w'' => e = .returned (.tuple #[fl k c r, .bool (!none3 k c r)]) ∧ Gr w' w'') := fun w' hg => findE v k c r ns w' (hE.gr hg) hl (h.gr hg)
  have F2 : Hid (∀ w', Gr w w' → Calls Tryd.prog 23 #[v'] w' fun e w'' => e = .returned (.tuple #[fl k' c' r', .bool (!none3 k' c' r')]) ∧ Gr w' w'') := fun w' hg => findE v' k' c' r' ns' w' (hE.gr hg) hl' (h'.gr hg)
  rcases h with ⟨hn, rfl⟩ | ⟨hn, b, rfl, hc⟩
  · obtain ⟨rfl, rfl, rfl⟩ := none_zero hn
    rcases h' with ⟨hn', rfl⟩ | ⟨hn', b', rfl, hc'⟩
    · obtain ⟨rfl, rfl, rfl⟩ := none_zero hn'
      go_enter Tryd.func25, Tryd.ntmps25
      go_wp2
      go_ret
      exact ⟨rfl, Gr.refl _⟩
    · have hs : same 0 0 0 k' c' r' = false := by
        have h1 := of_decide_eq_false hn'
        exact decide_eq_false (fun e => h1 ⟨e.1.symm, e.2.1.symm, e.2.2.symm⟩)
      rw [hs]
      rw [hn'] at F2
      rw [hn] at F1
      clear hc'
      go_enter Tryd.func25, Tryd.ntmps25
      go_wp2_with (first
        | (go_at_call_of 23 (Value.nilIface); refine (F1.out _ (Gr.refl _)).mono ?_; rintro e w1 ⟨rfl, hg1⟩)
        | (go_at_call 23; refine (F2.out _ (hg1.alloc _)).mono ?_; rintro e w2 ⟨rfl, hg2⟩))
      go_ret
      exact ⟨rfl, ((hg1.alloc _).trans hg2).alloc _⟩
  · rcases h' with ⟨hn', rfl⟩ | ⟨hn', b', rfl, hc'⟩
    · obtain ⟨rfl, rfl, rfl⟩ := none_zero hn'
      have hs : same k c r 0 0 0 = false := by
        have h1 := of_decide_eq_false hn
        exact decide_eq_false h1
      rw [hs]
      rw [hn'] at F2
      rw [hn] at F1
      clear hc
      go_enter Tryd.func25, Tryd.ntmps25
      go_wp2_with (first
        | (go_at_call_of 23 (Value.nilIface); refine (F2.out _ (hg1.alloc _)).mono ?_; rintro e w2 ⟨rfl, hg2⟩)
        | (go_at_call 23; refine (F1.out _ (Gr.refl _)).mono ?_; rintro e w1 ⟨rfl, hg1⟩))
      go_ret
      exact ⟨rfl, ((hg1.alloc _).trans hg2).alloc _⟩
    · rw [hn'] at F2
      rw [hn] at F1
      clear hc hc'
      go_enter Tryd.func25, Tryd.ntmps25
      go_wp2_with (first
        | (go_at_call_of 23 (er b); refine (F1.out _ (Gr.refl _)).mono ?_; rintro e w1 ⟨rfl, hg1⟩; have G1 : Hid (Gr w w1) := hg1; clear hg1)
        | (go_at_call_of 23 (er b'); refine (F2.out _ (G1.out.alloc _)).mono ?_; rintro e w2 ⟨rfl, hg2⟩; have G2 : Hid (Gr w w2) := (G1.out.alloc _).trans hg2; obtain ⟨r0, r1, r2, t0, t1, t2⟩ := (box_new w1 k c r 23).gr (hg2.alloc (.cells #[.int .i64 k', .int .i64 c', .int .i64 r'] 23)); clear hg2)
        | (go_at_call 13; refine (same13 k c r k' c' r' _).mono ?_; rintro e w3 ⟨rfl, hg3⟩))
      go_ret
      exact ⟨rfl, (G2.out.alloc _).trans hg3⟩
end Go.Proofs.YtifhfdndbnmhlaaDoor
