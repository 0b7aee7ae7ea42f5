/- Of every key and number a nil order answers as the document says: the walk of the law; no conditions. -/
import Derived.Test.YtjcdloijodfpgaaAwk
namespace Go.Proofs.Ytjcdloijodfpgaa
open Go.RowKit Go.Sort Go.Maps Go.ChangeMaps Go.WideMaps
set_option linter.unusedVariables false
set_option linter.unusedSimpArgs false
set_option maxHeartbeats 4000000 in
theorem law5 (w : World) (k : K) (n : Int) : Calls Try.prog 5 #[kv k, .int .i64 n] w fun e w' => e = .returned (.bool true) ∧ Touch [] w w' := by
  have T0 : Touch [] w (w.alloc (bx k)) := (Touch.refl _ _).alloc _
  have HK := hid (box_cells w k)
  have HU := fun w => hid (use11_nilp w k)
  have HT := fun w => hid (touch17_nilp w k)
  have HD := fun w => hid (drop18_nilp w k)
  have HH := fun w => hid (has19_nilp w k)
  have S0 : Hid (Touch [] (w.alloc (bx k)) (w.alloc (bx k))) := Touch.refl _ _
  have HO := fun w => hid (oldest16_nilp w)
  unfold kv at *
  unfold bx at *
  unfold nz at *
  go_enter Try.func5, Try.ntmps5
  go_wp2_with (first
    | (go_at_call 11; refine (HU _).out.mono ?_; rintro x w1 ⟨rfl, t1⟩; have S1 := hid (S0.out.trans' t1); clear t1)
    | (go_at_call 15; refine (shrink15_nilp _ n).mono ?_; rintro x w2 ⟨rfl, rfl⟩)
    | (go_at_call 16; refine (HO _).out.mono ?_; rintro x w3 ⟨rfl, t3⟩; have S3 := hid ((S1.out.alloc (.cells #[.int .u16 0, .string ⟨#[]⟩] 36)).trans' t3); clear t3)
    | (go_at_call 7; refine (awake7 _).mono ?_; rintro x w4 ⟨rfl, t4⟩; have S4 := hid ((S3.out.alloc (.cells #[.int .u16 0, .string ⟨#[]⟩] 36)).trans' t4); clear t4; obtain ⟨b0, b1⟩ := HK.out _ S4.out)
    | (go_at_call 17; refine (HT _).out.mono ?_; rintro x w5 ⟨rfl, t5⟩; have S5 := hid (S4.out.trans' t5); clear t5 b0 b1; obtain ⟨b0, b1⟩ := HK.out _ S5.out)
    | (go_at_call 18; refine (HD _).out.mono ?_; rintro x w6 ⟨rfl, t6⟩; have S6 := hid (S5.out.trans' t6); clear t6 b0 b1; obtain ⟨b0, b1⟩ := HK.out _ S6.out)
    | (go_at_call 19; refine (HH _).out.mono ?_; rintro x w7 ⟨rfl, t7⟩; have S7 := hid (S6.out.trans' t7); clear t7 b0 b1)
    | (go_at_call 20; refine (len20_nilp _).mono ?_; rintro x w8 ⟨rfl, rfl⟩)
    | (go_at_call 21; refine (most21_nilp _).mono ?_; rintro x w9 ⟨rfl, rfl⟩)
    | (go_at_call 22; refine (clone22_nilp _).mono ?_; rintro x w10 ⟨rfl, rfl⟩))
  go_ret
  exact ⟨rfl, T0.trans' S7.out⟩
theorem laidOut : laidOutB Try.prog = true := by kernel_rfl
theorem open_key {H : Type} {enc : TypeId × Value → H} {W : World} {b0 base : Nat} {sp : Nat → Bool} {held : Bool} {v : Value} {d : DataW H} {p : List MemPlace} (hv : Value.okWide Try.prog W .any b0 36 v) (h : DataW.Trod enc Try.prog W base sp held 36 v d p) :
    ∃ k : K, v = kv k ∧ d = .agg [.lit (.int .u16 k.1), .lit (.string k.2.data.toList)] ∧ p = [] ∧ Ok k := by
  obtain ⟨c0, c1, y0, y1, m, rfl, rfl, rfl, hy0, hy1⟩ := Joins.open_agg2 Try.underlying36 (by kernel_rfl) cells36 hv h
  obtain ⟨a, e0, rfl, wa⟩ := DataW.trod_int Try.underlying34 hy0
  obtain ⟨s, e1, rfl, ws⟩ := DataW.trod_string Try.underlying9 hy1
  simp only [List.cons.injEq, and_true] at e0 e1
  subst e0 e1
  exact ⟨(a, s), rfl, rfl, rfl, wa, ws⟩
end Go.Proofs.Ytjcdloijodfpgaa
