/- Of nil seats, whatever seat and runs: the walk of the law; the runs are within the form's reach. -/
import Derived.Test.YtlmmljmhfghlnaaVnl
import Derived.Test.YtlmmljmhfghlnaaVdm
import Derived.Test.YtlmmljmhfghlnaaVop
namespace Go.Proofs.Ytlmmljmhfghlnaa
open Go.RowKit Go.Maps Go.ChangeMaps
set_option linter.unusedVariables false
set_option linter.unusedSimpArgs false
theorem dd0 (w : World) : Dd w (.slice none 0 0) (.slice none 0 0) [] [] := ⟨Rs.of_own (World.ownsRow_nil w 0 38 3), Rs.of_own (World.ownsRow_nil w 0 3 1)⟩
theorem emq_le (L : List Se) (rs : List Int) : (emq L rs).length ≤ rs.length := by
  have := emq_len L rs rs.length
  rwa [List.take_length] at this
set_option maxHeartbeats 8000000 in
set_option maxRecDepth 100000 in
theorem nil_ok (w : World) (x : SeA) (rs : List Int) (v : Value) (hx : x.ok) (hv : Ra w v rs) (hw : ∀ r ∈ rs, W64 r) (hl : rs.length ≤ 17592186043904) : Calls Try.prog 4 #[.agg x.cs, v] w fun e w' => e = .returned (.bool true) ∧ Touch [] w w' := by
  obtain ⟨av, cv, rfl⟩ := hv.fm
  obtain ⟨V, hV⟩ : ∃ V, V = w.alloc (.cells #[.int .i64 x.ca, .int .i64 x.rn, .int .i64 x.tk] 33) := ⟨_, rfl⟩
  have tv : Touch [] w V := by rw [hV]; exact (Touch.refl _ _).alloc _
  have hvb : V.heap[w.heap.size]? = some (.cells #[.int .i64 x.ca, .int .i64 x.rn, .int .i64 x.tk] 33 (0, 0)) := by rw [hV]; exact heap_alloc_new w _
  have HB : Hid (∀ w', Touch [] V w' → w'.cell? ⟨w.heap.size, 0, none⟩ = some (.int .i64 x.ca) ∧ w'.cell? ⟨w.heap.size, 1, none⟩ = some (.int .i64 x.rn) ∧ w'.cell? ⟨w.heap.size, 2, none⟩ = some (.int .i64 x.tk)) := hid (fun w' t => ⟨cell_at (t.keep hvb (by simp)) rfl, cell_at (t.keep hvb (by simp)) rfl, cell_at (t.keep hvb (by simp)) rfl⟩)
  have HE : Hid (∀ w', Touch [] V w' → Calls Try.prog 19 #[.pointer none, .slice av rs.length cv] w' fun e w2 => ∃ a n c, e = .returned (.slice a n c) ∧ Touch [] V w2 ∧ Calls Try.prog 20 #[.agg #[.slice none 0 0, .slice none 0 0], .slice av rs.length cv] w2 fun e w3 => ∃ a' n' c', e = .returned (.slice a' n' c') ∧ Touch [] V w3 ∧ Calls Try.prog 10 #[.slice a n c, .slice a' n' c'] w3 fun e w4 => e = .returned (.bool true) ∧ Touch [] V w4) := hid (fun w' t => by
    have hv1 := hv.keep0 (tv.trans' t)
    refine (empty_nil w' rs _ hv1 hw hl).mono ?_
    rintro e w2 ⟨a, n, c, rfl, q1, q2⟩
    refine ⟨a, n, c, rfl, t.trans' q2, ?_⟩
    refine (rempty_ w2 _ _ [] [] (dd0 w2) rs _ (hv1.keep0 q2) (by simp) hl).mono ?_
    rintro e w3 ⟨a', n', c', rfl, q3, q4⟩
    refine ⟨a', n', c', rfl, (t.trans' q2).trans' q4, ?_⟩
    refine (ints_ w3 _ _ (emq [] rs) (q1.keep0 q4) q3 (Nat.le_trans (emq_le [] rs) (by omega))).mono ?_
    rintro e w4 ⟨rfl, q5⟩
    exact ⟨rfl, ((t.trans' q2).trans' q4).trans' q5⟩)
  obtain ⟨b0, b1, b2⟩ := HB.out V (Touch.refl _ _)
  have HTV := hid tv
  have C0 : Hid (Touch [] V V) := Touch.refl _ _
  clear tv hvb hv hw hl hx
  generalize rs.length = n at *
  unfold SeA.cs
  go_enter Try.func4, Try.ntmps4
  go_upto_region 1 with fail
  rw [← hV]
  clear hV
  go_upto_region 3 with (go_at_call 21; refine (stand_nil _ _).mono ?_; rintro e w2 ⟨rfl, t2⟩; replace C0 := hid ((C0.out.trans' t2).alloc (.cells #[.int .i64 0, .int .i64 0, .int .i64 0] 33)); clear t2 b0 b1 b2)
  obtain ⟨W3, hW3⟩ : ∃ W3, W3 = w2.alloc (.cells #[.int .i64 0, .int .i64 0, .int .i64 0] 33) := ⟨_, rfl⟩
  rw [← hW3] at C0 ⊢
  clear hW3
  obtain ⟨b0, b1, b2⟩ := HB.out _ C0.out
  go_upto_region 4 with (go_at_call 8; refine (where_nil _ _).mono ?_; rintro e w4 ⟨rfl, t4⟩; replace C0 := hid ((C0.out.trans' t4).alloc (.cells #[.int .i64 0, .int .i64 0, .int .i64 0] 33)); clear t4 b0 b1 b2)
  obtain ⟨W5, hW5⟩ : ∃ W5, W5 = w4.alloc (.cells #[.int .i64 0, .int .i64 0, .int .i64 0] 33) := ⟨_, rfl⟩
  rw [← hW5] at C0 ⊢
  clear hW5
  obtain ⟨b0, b1, b2⟩ := HB.out _ C0.out
  have q1 := True.intro
  go_wp2_with (first
    | (go_at_call 6; refine (awake_ _).mono ?_; rintro e wa ⟨rfl, t6⟩; clear b0 b1 b2; replace C0 := hid (C0.out.trans' t6); obtain ⟨b0, b1, b2⟩ := HB.out _ C0.out; clear t6)
    | (go_at_call 22; refine (sit_nil _ (x.ca, x.rn, x.tk)).mono ?_; rintro e wb ⟨rfl, t6⟩; clear b0 b1 b2; replace C0 := hid (C0.out.trans' t6); obtain ⟨b0, b1, b2⟩ := HB.out _ C0.out; clear t6)
    | (go_at_call 14; refine (canc_nil _ _).mono ?_; rintro e wb ⟨rfl, t6⟩; clear b0 b1 b2; replace C0 := hid (C0.out.trans' t6); obtain ⟨b0, b1, b2⟩ := HB.out _ C0.out; clear t6)
    | (go_at_call 11; refine (of_nil _ _).mono ?_; rintro e wb ⟨⟨a6, c6, rfl⟩, t6⟩; clear b0 b1 b2; replace C0 := hid (C0.out.trans' t6); obtain ⟨b0, b1, b2⟩ := HB.out _ C0.out; clear t6)
    | (go_at_call 13; refine (by_nil _ _).mono ?_; rintro e wb ⟨⟨a6, c6, rfl⟩, t6⟩; clear b0 b1 b2; replace C0 := hid (C0.out.trans' t6); obtain ⟨b0, b1, b2⟩ := HB.out _ C0.out; clear t6)
    | (go_at_call 23; refine (end_nil _ _).mono ?_; rintro e wb ⟨rfl, t6⟩; clear b0 b1 b2; replace C0 := hid (C0.out.trans' t6); obtain ⟨b0, b1, b2⟩ := HB.out _ C0.out; clear t6)
    | (go_at_call 24; refine (cancel_nil _ _).mono ?_; rintro e wb ⟨rfl, t6⟩; clear b0 b1 b2; replace C0 := hid (C0.out.trans' t6); obtain ⟨b0, b1, b2⟩ := HB.out _ C0.out; clear t6)
    | (go_at_call 18; refine (all_nil _).mono ?_; rintro e wb ⟨rfl, t6⟩; clear b0 b1 b2; replace C0 := hid (C0.out.trans' t6); have HE2 := hid (HE.out _ C0.out); clear t6)
    | (go_at_call 19; refine HE2.out.mono ?_; rintro e wb ⟨a7, n7, c7, rfl, t6, q6⟩; have HE3 := hid q6; clear t6 q6)
    | (go_at_call 20; refine HE3.out.mono ?_; rintro e wb ⟨a8, n8, c8, rfl, t6, q6⟩; have HE4 := hid q6; clear t6 q6)
    | (go_at_call 10; refine HE4.out.mono ?_; rintro e wb ⟨rfl, t6⟩; have C9 := hid t6; clear t6)
    | (go_at_call 16; refine (len_nil _).mono ?_; rintro e wb ⟨rfl, t6⟩; replace C9 := hid (C9.out.trans' t6); clear t6)
    | (go_at_call 25; refine (clone_nil _).mono ?_; rintro e wb ⟨rfl, t6⟩; replace C9 := hid (C9.out.trans' t6); clear t6))
  go_ret
  exact ⟨rfl, HTV.out.trans' C9.out⟩
end Go.Proofs.Ytlmmljmhfghlnaa
