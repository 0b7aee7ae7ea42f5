/- Of every schedule that may not be, and every list of acts: the walk of the law ReadyPlays, its first part; lengths are within the form's reach. -/
import Derived.Test.YthpkkfmphoopnaaJpv
import Derived.Test.YthpkkfmphoopnaaJst
import Derived.Test.YthpkkfmphoopnaaJaw
namespace Go.Proofs.Ythpkkfmphoopnaa.Re
open Go.RowKit Go.Maps Go.ChangeMaps
set_option linter.unusedVariables false
set_option linter.unusedSimpArgs false
theorem ow_store {w : World} {B g off c : Nat} {ys : List Int} (h : Ow w B (.slice (some ⟨g, off, none⟩) ys.length c) ys) {k : Nat} (hk : k < ys.length) (z : Int) :
    (w.cell? ⟨g, off + k, none⟩ = some (.int .i64 ys[k])) ∧ w.frozen? ⟨g, off + k, none⟩ = false ∧ Ow (w.setCell ⟨g, off + k, none⟩ (.int .i64 z)) B (.slice (some ⟨g, off, none⟩) (ys.set k z).length c) (ys.set k z) := by
  rcases h with ⟨e, _⟩ | ⟨g', off', c', cur, e, hBg, hg, hn, hmx, hs, hc⟩
  · cases e
  cases e
  refine ⟨hc k _ (List.getElem?_eq_getElem hk), by simp [World.frozen?, hg], Or.inr ⟨g, off, c, _, rfl, hBg, bset (i := off + k) hg _, by rw [List.length_set]; exact hn, hmx, by simp; exact hs, fun i r hi => ?_⟩⟩
  have hcell : (w.setCell ⟨g, off + k, none⟩ (.int .i64 z)).cell? ⟨g, off + i, none⟩ = (cur.setIfInBounds (off + k) (.int .i64 z))[off + i]? := by
    simp [World.cell?, bset (i := off + k) hg (.int .i64 z)]
  rw [hcell, Array.getElem?_setIfInBounds]
  by_cases hik : i = k
  · subst hik
    rw [if_pos rfl, if_pos (by omega)]
    rw [List.getElem?_set_self hk] at hi
    cases hi
    rfl
  · rw [if_neg (by omega)]
    rw [List.getElem?_set_ne (fun e => hik e.symm)] at hi
    have := hc i r hi
    simpa [World.cell?, hg] using this
/-- The law's own copy of the picks, while it is written over. -/
def Lo (W7 wr : World) (B : Nat) (v : Value) (n : Nat) : Prop := ∃ ys : List Int, ys.length = n ∧ Ow wr B v ys ∧ Touch v.ownBlock.toList W7 wr
theorem Lo.go {W7 wr : World} {B n c : Nat} {a : Option Addr} (h : Lo W7 wr B (.slice a n c) n) {k : Nat} (hk : k < n) (z : Int) : ∃ g off y, a = some ⟨g, off, none⟩ ∧ wr.cell? ⟨g, off + k, none⟩ = some (.int .i64 y) ∧ wr.frozen? ⟨g, off + k, none⟩ = false ∧ Lo W7 (wr.setCell ⟨g, off + k, none⟩ (.int .i64 z)) B (.slice (some ⟨g, off, none⟩) n c) n := by
  obtain ⟨ys, hl, ho, ht⟩ := h
  obtain ⟨g, off, e, _, _⟩ := ho.ra.cell (i := 0) (by omega)
  subst e
  have ho' : Ow wr B (.slice (some ⟨g, off, none⟩) ys.length c) ys := by rw [hl]; exact ho
  obtain ⟨h1, h2, h3⟩ := ow_store ho' (k := k) (by omega) z
  refine ⟨g, off, _, rfl, h1, h2, ys.set k z, by rw [List.length_set]; exact hl, ?_, ht.setCell (Or.inl (by simp [Value.ownBlock])) _⟩
  rw [List.length_set, hl] at h3
  exact h3
set_option maxHeartbeats 8000000 in
set_option maxRecDepth 100000 in
theorem plays_no (w : World) (x : SchA) (v : Value) (hx : Ra w x.u x.xs ∧ x.ok) (hxl : x.xs.length ≤ 17592186043904) (xs : List ActR) (hv : SlActR w v xs) (h0 : newE x.p x.xs.length ≠ 0) : Calls Try.prog 3 #[.agg x.cs, v] w fun e w' => e = .returned (.bool true) ∧ Touch [] w w' := by
  obtain ⟨av, cv, rfl⟩ : ∃ av cv, v = .slice av xs.length cv := by
    rcases hv with ⟨rfl, a, c, rfl⟩ | ⟨b, off, cap, rfl, _⟩
    · exact ⟨a, c, rfl⟩
    · exact ⟨_, _, rfl⟩
  have HRow : Hid (xs.length = 0 ∨ ∃ b off, av = some ⟨b, off, none⟩ ∧ RowActR w b off xs) := by
    rcases hv with ⟨rfl, _⟩ | ⟨b, off, cap, e, r⟩
    · exact Or.inl rfl
    · simp only [Value.slice.injEq] at e
      exact Or.inr ⟨b, off, e.1, r⟩
  obtain ⟨nv, hnv⟩ : ∃ nv, nv = xs.length := ⟨_, rfl⟩
  have HNv := hid hnv
  rw [← hnv] at HRow ⊢
  clear hnv hv
  obtain ⟨s, hs⟩ : ∃ s : Nat, x.s = (s : Int) := ⟨x.s.toNat, by have := u64_bounds hx.2.2.1; omega⟩
  have hs2 : s < 18446744073709551616 := by have := u64_bounds hx.2.2.1; omega
  obtain ⟨V, hV⟩ : ∃ V, V = w.alloc (.cells x.cs 25) := ⟨_, rfl⟩
  have tv : Touch [] w V := by rw [hV]; exact (Touch.refl _ _).alloc _
  have hbx : V.heap[w.heap.size]? = some (.cells x.cs 25 (0, 0)) := by rw [hV]; exact heap_alloc_new w _
  obtain ⟨au, cu, eu, _⟩ := hx.1.form
  have HRx := hid (fun w' (T : Touch [] V w') => hx.1.keep0 (tv.trans' T))
  have HWx := hid hx.2.2.2
  have HB : Hid (∀ w', Touch [] V w' → w'.cell? ⟨w.heap.size, 0, none⟩ = some (.int .i64 x.p) ∧ w'.cell? ⟨w.heap.size, 1, none⟩ = some (.int .u64 (s : Int)) ∧ w'.cell? ⟨w.heap.size, 2, none⟩ = some (.slice au x.xs.length cu)) := hid (fun w' T => by
    have hb := T.keep hbx (by simp)
    refine ⟨cell_at (j := 0) hb rfl, by rw [← hs]; exact cell_at (j := 1) hb rfl, by rw [← eu]; exact cell_at (j := 2) hb rfl⟩)
  obtain ⟨i0, i1, i2⟩ := HB.out V (Touch.refl _ _)
  have TV := hid tv
  have HLx := hid hxl
  have hxx := hx
  unfold SchA.cs at hV ⊢
  rw [hs] at hV ⊢
  rw [eu] at hV HRx ⊢
  obtain ⟨n, hn⟩ : ∃ n, n = x.xs.length := ⟨_, rfl⟩
  have HNn := hid hn
  rw [← hn] at hV HRx HB i2 HLx ⊢
  have zn : (n : Int) < 9223372036854775807 := by have := HLx.out; omega
  have lt0 : w.heap.size < V.heap.size := by rw [hV]; simp
  have HNo := hid (fun w' (v' : Value) (q : Ra w' v' x.xs) => new_no w' x.p s x.xs v' q h0)
  have HDn := hid (fun w' (v' : Value) (q : Ra w' v' x.xs) => dnew_ w' x.p s x.xs v' q)
  simp only [if_neg h0] at HDn
  have hek : (newE x.p x.xs.length == 0) = false := by simp [h0]
  generalize newE x.p x.xs.length = ek at *
  unfold dz at HDn
  clear hx hxl hxx tv hbx hn h0
  go_enter Try.func3, Try.ntmps3
  go_upto_region 1 with fail
  rw [← hV]
  clear hV
  go_upto_region 2 with (at_builtin; refine wpList_append_ow rfl _ _ rfl V.heap.size (.slice (some ⟨V.heap.size, 0, none⟩) 0 0) [] rfl (ow_new _ (Nat.le_refl _)) _ x.xs rfl (HRx.out _ ((Touch.refl _ _).alloc _)) (by have := HNn.out; have := HLx.out; simp; omega) (by simp) ?_; intro v2 w2 o2 t2 e2; have T2 := hid (app_touch (ow_new V (Nat.le_refl _)) ((Touch.refl _ _).alloc _) t2); rw [List.nil_append] at o2; have O2 := hid o2; obtain ⟨ai, ci, e3⟩ : ∃ a c, v2 = .slice a n c := (by obtain ⟨a, c, e, _⟩ := o2.form; exact ⟨a, c, by rw [e, HNn.out]⟩); subst e3; clear o2 t2 e2)
  clear i0 i1 i2 lt0
  obtain ⟨i0, i1, i2⟩ := HB.out _ T2.out
  go_upto_region 3 with (go_at_call 7; refine (HNo.out _ _ O2.out.ra).mono ?_; rintro e w3 ⟨rfl, e3⟩; rw [e3]; clear e3 w3)
  go_upto_region 4 with (go_at_call 8; refine (HDn.out _ _ (HRx.out _ T2.out)).mono ?_; rintro e w4 ⟨rfl, t4⟩; have T4 := hid (T2.out.trans' t4); have Q4 := hid t4; clear t4)
  obtain ⟨W5, hW5⟩ : ∃ W5, W5 = w4.alloc (.cells #[.int .i64 0, .int .u64 0, .slice none 0 0, .slice none 0 0, .slice none 0 0] 32) := ⟨_, rfl⟩
  have T5 : Hid (Touch [] w2 W5) := hid (by rw [hW5]; exact Q4.out.alloc _)
  rw [← hW5]
  clear hW5 i0 i1 i2 Q4 T4
  have HS : Hid (∀ w', Touch [] W5 w' → Calls Try.prog 10 #[.slice ai n ci, .slice au n cu] w' fun e w6 => e = .returned (.bool true) ∧ Touch [] w' w6) := hid (fun w' T => same_ w' _ _ x.xs (O2.out.ra.keep0 (T5.out.trans' T)) (HRx.out _ (T2.out.trans' (T5.out.trans' T))) (by have := HNn.out; have := HLx.out; omega))
  go_upto_region 6 with (first
    | (go_at_call 9; refine (awake_ _).mono ?_; rintro e w6 ⟨rfl, t6⟩; obtain ⟨i0, i1, i2⟩ := HB.out _ (T2.out.trans' (T5.out.trans' t6)); have T6 := hid t6; clear t6)
    | (go_at_call 10; refine (HS.out _ T6.out).mono ?_; rintro e w7 ⟨rfl, t7⟩; have T7 := hid (T6.out.trans' t7); clear t7 i0 i1 i2))
  have HI : Hid (Lo w7 w7 V.heap.size (.slice ai n ci) n) := hid ⟨x.xs, HNn.out.symm, O2.out.keep0 (T5.out.trans' T7.out), Touch.refl _ _⟩
  have HX : Hid (∀ wr, Lo w7 wr V.heap.size (.slice ai n ci) n → Touch [] w wr) := hid (fun wr q => by
    obtain ⟨ys, q1, q2, q3⟩ := q
    refine (TV.out.trans' (T2.out.trans' (T5.out.trans' T7.out))).trans q3 (fun q hq => Or.inr ?_)
    have := (q2.lt (by simpa using hq)).1
    have := TV.out.size
    omega)
  clear HS T5 T6 T7 HNo HDn O2 HB HRx T2
  go_wp2_with fail
  go_loopw [68] (fun s68 wr => ∃ k : Nat, s68 = .int .i64 (k : Int) ∧ k ≤ n ∧ Hid (Lo w7 wr V.heap.size (.slice ai n ci) n)) (fun i _ => n - (intOf i).toNat)
  case atStart => exact ⟨0, rfl, Nat.zero_le _, HI⟩
  case round =>
    clear HI
    obtain ⟨k, rfl, hk, HR⟩ := hrel
    by_cases hlt : k < n
    · have zk : (k : Int) < (n : Int) := by omega
      obtain ⟨g, off, y, e1, y1, y2, q⟩ := HR.out.go hlt 99
      subst e1
      have Q := hid q
      clear HR q
      go_wp2_with fail
      go_roundw
      case rel => exact ⟨k + 1, by go_num, by omega, Q⟩
      case measure => simp [intOf]; omega
    · have zk : ¬ (k : Int) < (n : Int) := by omega
      have HT := hid (HX.out _ HR.out)
      clear HR HX
      go_wp2_with fail
      obtain ⟨W9, hW9⟩ : ∃ W9, W9 = wr := ⟨_, rfl⟩
      rw [← hW9] at HT ⊢
      clear hW9 zk hlt hk zn hek
      go_loopw [77] (fun s77 wr => s77 = .int .i64 0 ∧ wr = W9) (fun _ _ => 0)
      case atStart => exact ⟨rfl, rfl⟩
      case round =>
        obtain ⟨rfl, rfl⟩ := hrel
        by_cases hnv : (0 : Int) < (nv : Int)
        · obtain ⟨ba, off, e1, hrow⟩ : ∃ ba off, av = some ⟨ba, off, none⟩ ∧ RowActR w ba off xs := by
            rcases HRow.out with e | e
            · omega
            · exact e
          subst e1
          have hnx : 0 < xs.length := by have := HNv.out; omega
          have q0 := (hrow.keep HT.out).c0 0 hnx
          have q1 := (hrow.keep HT.out).c1 0 hnx
          rw [Nat.zero_mul, Nat.add_zero] at q0 q1
          generalize xs[0] = ac at *
          have HTa := hid (fun ob => HT.out.alloc ob)
          clear hrow hnx HRow
          go_wp2_with fail
          go_ret
          exact ⟨rfl, HTa.out _⟩
        · go_wp2_with fail
          go_ret
          exact ⟨rfl, HT.out⟩
end Go.Proofs.Ythpkkfmphoopnaa.Re
