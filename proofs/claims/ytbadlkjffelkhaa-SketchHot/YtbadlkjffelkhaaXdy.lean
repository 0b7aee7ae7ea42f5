/- The contract of the document's Copy; no conditions but those that it states. -/
import Derived.Test.YtbadlkjffelkhaaXdc
namespace Go.Proofs.Ytbadlkjffelkhaa.Sk
open Go.RowKit Go.Maps Go.ChangeMaps
set_option maxRecDepth 100000
set_option linter.unusedVariables false
set_option linter.unusedSimpArgs false
theorem infoL : (Try.prog.info? 69).map (fun i => (i.zero, i.size, i.bytes)) = some (some (.slice none 0 0), 1, 24) := by kernel_rfl
def up1 (f : Nat → Nat) (i v : Nat) : Nat → Nat := fun j => if j = i then v else f j
theorem up1_same (f : Nat → Nat) (i v : Nat) : up1 f i v i = v := by simp [up1]
theorem up1_other (f : Nat → Nat) {i v j : Nat} (h : j ≠ i) : up1 f i v j = f j := by simp [up1, h]
/-- The first i rows of a sketch of the document's. -/
structure Dp (w : World) (B : Nat) (a : Option Addr) (c i b : Nat) (Q Cp : Nat → Nat) (f : Nat → Nat → Nat) : Prop where
  top : w.ownsRow B 69 1 (.slice a i c) i (ro Q Cp b i)
  row : ∀ j, j < i → w.ownsRow B 3 1 (.slice (some ⟨Q j, 0, none⟩) (2 ^ b) (Cp j)) (2 ^ b) (rowv b (f j))
  inj : ∀ j k, j < i → k < i → Q j = Q k → j = k
section
variable {w w' wr w5 w6 : World} {B G cap b i q cp c : Nat} {a : Option Addr} {Q Cp : Nat → Nat} {f : Nat → Nat → Nat} {X : S}
theorem Dp.keep0 (h : Dp w B a c i b Q Cp f) (T : Touch [] w w') : Dp w' B a c i b Q Cp f :=
  ⟨own_touch h.top T (fun _ _ e => by cases e), fun j hj => own_touch (h.row j hj) T (fun _ _ e => by cases e), h.inj⟩
theorem Dp.step {ob : Obj} {v6 : Value} (h : Dp wr B a c i b Q Cp f) (T5 : Touch [] wr w5) (o5 : w5.ownsRow wr.heap.size 3 1 (.slice (some ⟨q, 0, none⟩) (2 ^ b) cp) (2 ^ b) (rowv b (f i))) (hB : B ≤ wr.heap.size)
    (g6 : (w5.alloc ob).grownBy w6 (Value.slice a i c).ownBlock) (o6 : w6.ownsRow B 69 1 v6 (i + 1) (ro Q Cp b i ++ [.slice (some ⟨q, 0, none⟩) (2 ^ b) cp])) :
    ∃ a' c', v6 = .slice a' (i + 1) c' ∧ Dp w6 B a' c' (i + 1) b (up1 Q i q) (up1 Cp i cp) f := by
  obtain ⟨a', c', e6⟩ := own_form o6
  subst e6
  have hq : wr.heap.size ≤ q := (o5.lt q rfl).1
  have h5 := h.keep0 (T5.alloc ob)
  have o5' := own_touch o5 ((Touch.refl [] w5).alloc ob) (fun _ _ e => by cases e)
  have T6 : Touch (Value.slice a i c).ownBlock.toList (w5.alloc ob) w6 := (Touch.refl _ _).grown g6 (fun k hk => Or.inl (by simp [hk]))
  have kind : ∀ k, k ∈ (Value.slice a i c).ownBlock.toList → ∃ cs, (w5.alloc ob).heap[k]? = some (.cells cs 69 (0, 0)) := fun k hk => own_kind h5.top (by simpa using hk)
  have rows : ∀ (n cp' : Nat) (q' : Nat) (vs : List Value) (B' : Nat), (w5.alloc ob).ownsRow B' 3 1 (.slice (some ⟨q', 0, none⟩) n cp') n vs → w6.ownsRow B' 3 1 (.slice (some ⟨q', 0, none⟩) n cp') n vs := fun n cp' q' vs B' o => by
    refine own_touch o T6 (fun k hk hm => ?_)
    cases hk
    obtain ⟨cs, h1⟩ := kind _ hm
    obtain ⟨cs', h2⟩ := own_kind o (b := q') rfl
    rw [h1] at h2
    cases h2
  refine ⟨a', c', rfl, ⟨?_, fun j hj => ?_, fun j k hj hk e => ?_⟩⟩
  · rw [ro_succ, up1_same, up1_same, ro_congr (Q' := Q) (Cp' := Cp) (fun j hj => ⟨up1_other Q (by omega), up1_other Cp (by omega)⟩)]
    exact o6
  · by_cases e : j = i
    · subst e
      rw [up1_same, up1_same]
      exact own_base (rows _ _ _ _ _ o5') hB
    · rw [up1_other Q e, up1_other Cp e]
      exact rows _ _ _ _ _ (h5.row j (by omega))
  · have old : ∀ j, j < i → Q j < q := fun j hj => Nat.lt_of_lt_of_le ((h.row j hj).lt (Q j) rfl).2 hq
    by_cases e1 : j = i
    · by_cases e2 : k = i
      · omega
      · rw [e1, up1_same, up1_other Q e2] at e
        have := old k (by omega)
        omega
    · by_cases e2 : k = i
      · rw [e2, up1_same, up1_other Q e1] at e
        have := old j (by omega)
        omega
      · rw [up1_other Q e1, up1_other Q e2] at e
        exact h.inj j k (by omega) (by omega) e
theorem Dp.done {G' : Nat} (h : Dp w B (some ⟨G', 0, none⟩) c X.r X.b Q Cp X.c) (r1 : 1 ≤ X.r) (r2 : X.r ≤ 8) (b2 : X.b ≤ 16) : Dq w B G' c Q Cp X := ⟨h.top, h.row, h.inj, r1, r2, b2⟩
/-- A sketch of the document's is handed back. -/
def DnE (v : Value) (w w' : World) (X : S) : Prop := ∃ G cap Q Cp, v = dv (.slice (some ⟨G, 0, none⟩) X.r cap) X ∧ Dq w' w.heap.size G cap Q Cp X ∧ Touch [] w w'
theorem rowv_one (b : Nat) (f : Nat → Nat) : ∀ y ∈ rowv b f, y.oneCell' = true := by
  intro y hy
  simp only [rowv, List.mem_map] at hy
  obtain ⟨j, _, rfl⟩ := hy
  rfl
set_option maxHeartbeats 4000000 in
theorem rcopy_ (h : Dq w B G cap Q Cp X) : Calls Try.prog 32 #[dv (.slice (some ⟨G, 0, none⟩) X.r cap) X] w fun e w' => ∃ v, e = .returned v ∧ DnE v w w' X := by
  obtain ⟨V, hV⟩ : ∃ V, V = (w.alloc (.cells (bxd X G cap) 29)).alloc (.cells #[.int .i64 0, .slice none 0 0, .int .u64 0] 29) := ⟨_, rfl⟩
  obtain ⟨TV, hb1, hb2⟩ := two_new w (bxd X G cap) #[.int .i64 0, .slice none 0 0, .int .u64 0] 29 29
  rw [← hV] at TV hb1 hb2
  have HSZ : Hid (w.heap.size + 2 ≤ V.heap.size) := hid (by rw [hV]; simp)
  have HB := hid (fun w1 (t1 : Touch [] V w1) => (And.intro (t1.keep hb1 (by simp)) (t1.keep hb2 (by simp)) : _ ∧ _))
  have C1 : ∀ w1, Touch [] V w1 → w1.cell? ⟨w.heap.size, 1, none⟩ = some (.slice (some ⟨G, 0, none⟩) X.r cap) := fun w1 t1 => cell_at (t1.keep hb1 (by simp)) rfl
  have cc1 := C1 V (Touch.refl _ _)
  have HR : Hid (∀ i, i < X.r → ∀ w1, Touch [] V w1 → w1.cell? ⟨G, i, none⟩ = some (.slice (some ⟨Q i, 0, none⟩) (2 ^ X.b) (Cp i)) ∧ Rs 3 1 w1 (.slice (some ⟨Q i, 0, none⟩) (2 ^ X.b) (Cp i)) (2 ^ X.b) (rowv X.b (X.c i))) := hid (fun i hi w1 t1 => by
    have h1 := h.keep0 (TV.trans' t1)
    exact ⟨h1.c0 hi, Rs.of_own (h1.row i hi)⟩)
  have r2 := h.r2
  have r1 := h.r1
  have b2 := h.b2
  have h2 := pow_le16 h.b2
  have HT := hid TV
  have HD0 : Hid (Dp (V.alloc (.cells #[] 69)) V.heap.size (some ⟨V.heap.size, 0, none⟩) 0 0 X.b Q Cp X.c) := hid ⟨World.ownsRow_made (e := 69) (size := 1) V #[] 0 (Nat.le_refl _) (by unfold maxLen; omega) rfl, fun j hj => by omega, fun j k hj => by omega⟩
  clear h hb1 hb2 TV
  unfold dv bxd at *
  go_enter Try.func32, Try.ntmps32
  go_upto_region 1 with fail
  rw [← hV]
  clear hV
  go_wp2
  go_loopw [3, 4] (fun s3 s4 wr => ∃ (i : Nat) (a : Option Addr) (c : Nat) (Q' Cp' : Nat → Nat), i ≤ X.r ∧ s4 = .int .i64 i ∧ s3 = .slice a i c ∧ Touch [] V wr ∧ Dp wr V.heap.size a c i X.b Q' Cp' X.c) (fun _ s4 _ => X.r - (intOf s4).toNat)
  case atStart => exact ⟨0, _, _, _, _, Nat.zero_le _, rfl, rfl, (Touch.refl _ _).alloc _, HD0.out⟩
  case round =>
    obtain ⟨i, a, c, Q', Cp', hi, rfl, rfl, T, D⟩ := hrel
    have e1 := C1 wr T
    by_cases hlt : i < X.r
    · have zi : (i : Int) < (X.r : Int) := by omega
      have g1 := C1 (wr.alloc (.cells #[] 3)) (T.alloc _)
      have g0 := (HR.out i hlt _ (T.alloc (.cells #[] 3))).1
      have HRS := hid (HR.out i hlt _ (T.alloc (.cells #[] 3))).2
      have HM : Hid ((wr.alloc (.cells #[] 3)).ownsRow wr.heap.size 3 1 (.slice (some ⟨wr.heap.size, 0, none⟩) 0 0) 0 []) := World.ownsRow_made (e := 3) (size := 1) wr #[] 0 (Nat.le_refl _) (by unfold maxLen; omega) rfl
      have HO := hid (rowv_one X.b (X.c i))
      have hw0 := Nat.two_pow_pos X.b
      have HE : Hid (∀ v' w5, w5.ownsRow wr.heap.size 3 1 v' (0 + 2 ^ X.b) ([] ++ rowv X.b (X.c i)) → (wr.alloc (.cells #[] 3)).grownBy w5 (some wr.heap.size) → ∃ q cp, v' = .slice (some ⟨q, 0, none⟩) (2 ^ X.b) cp ∧ w5.ownsRow wr.heap.size 3 1 v' (2 ^ X.b) (rowv X.b (X.c i)) ∧ Touch [] wr w5) := hid (fun v' w5 r gr => by
        rw [Nat.zero_add, List.nil_append] at r
        obtain ⟨g', c', e1, e2, e3⟩ := own_some r hw0
        exact ⟨g', c', e1, r, ((Touch.refl [] wr).alloc _).grown gr (fun k hk => Or.inr (by cases hk; exact Nat.le_refl _))⟩)
      have HX : Hid (∀ w5 w6 q cp v6 ob, Touch [] wr w5 → w5.ownsRow wr.heap.size 3 1 (.slice (some ⟨q, 0, none⟩) (2 ^ X.b) cp) (2 ^ X.b) (rowv X.b (X.c i)) → (w5.alloc ob).grownBy w6 (Value.slice a i c).ownBlock → w6.ownsRow V.heap.size 69 1 v6 (i + 1) (ro Q' Cp' X.b i ++ [.slice (some ⟨q, 0, none⟩) (2 ^ X.b) cp]) → ∃ a' c', v6 = .slice a' (i + 1) c' ∧ Touch [] V w6 ∧ ∃ Q2 Cp2, Dp w6 V.heap.size a' c' (i + 1) X.b Q2 Cp2 X.c) := hid (fun w5 w6 q cp v6 ob t5 o5 g6 o6 => by
        obtain ⟨a', c', e6, d6⟩ := D.step t5 o5 T.size g6 o6
        have t6 := touch_grown (T.trans' (t5.alloc ob)) g6 (D.keep0 (t5.alloc ob)).top (Nat.le_refl _)
        exact ⟨a', c', e6, t6, _, _, d6⟩)
      have HTop : Hid (∀ w5 ob, Touch [] wr w5 → (w5.alloc ob).ownsRow V.heap.size 69 1 (.slice a i c) i (ro Q' Cp' X.b i) ∧ V.heap.size ≤ (w5.alloc ob).heap.size) := hid (fun w5 ob t5 => ⟨(D.keep0 (t5.alloc ob)).top, (T.trans' (t5.alloc ob)).size⟩)
      clear HR D hw0 HD0
      generalize 2 ^ X.b = W at *
      generalize rowv X.b (X.c i) = L at *
      generalize ro Q' Cp' X.b i = R at *
      go_wp2_with (first
        | (at_builtin; refine wpList_append_rs rfl _ _ 69 3 rfl (.int .i64 0) 1 8 info3 Try.underlying69 rfl (by decide) wr.heap.size (.slice (some ⟨wr.heap.size, 0, none⟩) 0 0) 0 [] rfl HM.out _ W L rfl HRS.out HO.out (by unfold maxLen; omega) (by omega) (by simp) ?_; intro v5 w5 o5 g5 _; obtain ⟨q5, cp5, e5, o5', t5⟩ := HE.out _ _ o5 g5; subst e5; have O5 := hid o5'; have T5 := hid t5; clear o5 g5 o5' t5)
        | (at_builtin; refine wpList_append_rs rfl _ _ 26 69 rfl (.slice none 0 0) 1 24 infoL Try.underlying26 rfl (by decide) V.heap.size (.slice a i c) i R rfl (HTop.out w5 _ T5.out).1 (.slice (some ⟨w5.heap.size, 0, none⟩) 1 1) 1 _ rfl (Rs.new w5 #[.slice (some ⟨q5, 0, none⟩) W cp5] 69 1 rfl) (by simp [Value.oneCell']) (by unfold maxLen; omega) (by omega) (HTop.out w5 _ T5.out).2 ?_; intro v6 w6 o6 g6 _; obtain ⟨a6, c6, e6, t6, d6⟩ := HX.out _ _ _ _ _ _ T5.out O5.out g6 o6; subst e6; have T6 := hid t6; have D6 := hid d6; clear o6 g6 t6 d6))
      obtain ⟨Q2, Cp2, d6⟩ := D6.out
      refine ⟨⟨i + 1, a6, c6, Q2, Cp2, by omega, rfl, rfl, T6.out, d6⟩, by simp [intOf]; omega⟩
    · have ei : i = X.r := by omega
      subst ei
      have zi : ¬ (X.r : Int) < (X.r : Int) := by omega
      obtain ⟨G', c', ee, gl, gu⟩ := own_some D.top r1
      cases ee
      obtain ⟨m1, m2⟩ := HB.out wr T
      have x0 := cell_at (j := 0) (v := .int .i64 (X.b : Nat)) m1 rfl
      have x2 := cell_at (j := 2) (v := .int .u64 (X.t : Nat)) m1 rfl
      have y0 := cell_at (j := 0) (v := .int .i64 0) m2 rfl
      have y1 := cell_at (j := 1) (v := .slice none 0 0) m2 rfl
      have y2 := cell_at (j := 2) (v := .int .u64 0) m2 rfl
      have f0 := froz_at m1
      have f1 := froz_at m2
      clear HR
      have HD := hid (Dp.done D r1 r2 b2)
      go_wp2
      refine bodyPost_ret (v := dv (.slice (some ⟨G', 0, none⟩) X.r c) X) (by simp [results, Try.results32, go_sem, dv, y0, y1, y2]) rfl ⟨_, rfl, G', c, Q', Cp', rfl, ?_, ?_⟩
      · have tt : Touch [w.heap.size, w.heap.size + 1] wr _ := ((((Touch.refl _ wr).setCell (p := ⟨w.heap.size, 1, none⟩) (Or.inl (by simp)) (.slice (some ⟨G', 0, none⟩) X.r c)).setCell (p := ⟨w.heap.size + 1, 0, none⟩) (Or.inl (by simp)) (.int .i64 (X.b : Nat))).setCell (p := ⟨w.heap.size + 1, 1, none⟩) (Or.inl (by simp)) (.slice (some ⟨G', 0, none⟩) X.r c)).setCell (p := ⟨w.heap.size + 1, 2, none⟩) (Or.inl (by simp)) (.int .u64 (X.t : Nat))
        have hs := HSZ.out
        refine (HD.out.keep tt ?_ (fun j hj => ?_)).base (by omega)
        · have := HD.out.ltG
          simp only [List.mem_cons, List.mem_nil_iff, or_false]
          omega
        · have := HD.out.ltQ hj
          simp only [List.mem_cons, List.mem_nil_iff, or_false]
          omega
      · exact ((((HT.out.trans' T).setCell (p := ⟨w.heap.size, 1, none⟩) (Or.inr (Nat.le_refl _)) _).setCell (p := ⟨w.heap.size + 1, 0, none⟩) (Or.inr (Nat.le_succ _)) _).setCell (p := ⟨w.heap.size + 1, 1, none⟩) (Or.inr (Nat.le_succ _)) _).setCell (p := ⟨w.heap.size + 1, 2, none⟩) (Or.inr (Nat.le_succ _)) _
end
end Go.Proofs.Ytbadlkjffelkhaa.Sk
