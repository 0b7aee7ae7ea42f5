/- The contract of the document's Halve; no conditions but those that it states. -/
import Derived.Test.YtbadlkjffelkhaaXdy
namespace Go.Proofs.Ytbadlkjffelkhaa.Sk
open Go.RowKit Go.Maps Go.ChangeMaps
set_option maxRecDepth 100000
set_option linter.unusedVariables false
set_option linter.unusedSimpArgs false
/-- A counter changed at every place ahead of (i, p). -/
def fr2 (F f : Nat → Nat → Nat) (i p : Nat) : Nat → Nat → Nat := fun j q => if j < i ∨ (j = i ∧ q < p) then F j q else f j q
theorem fr2_here (F f : Nat → Nat → Nat) (i p : Nat) : fr2 F f i p i p = f i p := by simp [fr2]
theorem fr2_next (F f : Nat → Nat → Nat) (i p : Nat) (j q : Nat) : upd (fr2 F f i p) i p (F i p) j q = fr2 F f i (p + 1) j q := by
  unfold upd fr2
  by_cases e : j = i ∧ q = p
  · obtain ⟨rfl, rfl⟩ := e
    rw [if_pos ⟨rfl, rfl⟩, if_pos (Or.inr ⟨rfl, by omega⟩)]
  · rw [if_neg e]
    by_cases h : j < i ∨ (j = i ∧ q < p)
    · rw [if_pos h, if_pos (by omega)]
    · rw [if_neg h, if_neg (by omega)]
section
variable {w w' : World} {B G cap : Nat} {Q Cp : Nat → Nat} {X : S} {F : Nat → Nat → Nat}
theorem Dq.next {i p : Nat} {v : Nat} (h : Dq w B G cap Q Cp { X with c := fr2 F X.c i p }) (hi : i < X.r) (hp : p < 2 ^ X.b) (hv : v = F i p) : Dq (w.setCell ⟨Q i, p, none⟩ (.int .i64 (v : Nat))) B G cap Q Cp { X with c := fr2 F X.c i (p + 1) } := by
  subst hv
  exact (h.setC (F i p) hi hp).congr rfl rfl (fun j q _ _ => (fr2_next F X.c i p j q).symm)
theorem Dq.turn {i : Nat} (h : Dq w B G cap Q Cp { X with c := fr2 F X.c i (2 ^ X.b) }) : Dq w B G cap Q Cp { X with c := fr2 F X.c (i + 1) 0 } :=
  h.congr rfl rfl (fun j q _ hq => by
    show fr2 F X.c (i + 1) 0 j q = fr2 F X.c i (2 ^ X.b) j q
    have hq' : q < 2 ^ X.b := hq
    unfold fr2
    by_cases h : j < i ∨ (j = i ∧ q < 2 ^ X.b)
    · rw [if_pos h, if_pos (by omega)]
    · rw [if_neg h, if_neg (by omega)])
theorem Dq.all (h : Dq w B G cap Q Cp { X with c := fr2 F X.c X.r 0 }) {Y : S} (hr : Y.r = X.r) (hb : Y.b = X.b) (hc : ∀ i p, i < X.r → p < 2 ^ X.b → Y.c i p = F i p) : Dq w B G cap Q Cp Y :=
  h.congr hr hb (fun j q hj hq => by
    rw [hc j q hj hq]
    show F j q = fr2 F X.c X.r 0 j q
    unfold fr2
    rw [if_pos (Or.inl hj)])
theorem Dq.zero (h : Dq w B G cap Q Cp X) : Dq w B G cap Q Cp { X with c := fr2 F X.c 0 0 } :=
  h.congr rfl rfl (fun j q _ _ => by
    show fr2 F X.c 0 0 j q = X.c j q
    unfold fr2
    rw [if_neg (by omega)])
/-- A copy at work: its box, and the rows that it owns. -/
structure Cw (V wr : World) (bx G cap : Nat) (Q Cp : Nat → Nat) (Y : S) : Prop where
  t : Touch [bx] V wr
  box : wr.heap[bx]? = some (.cells (bxd Y G cap) 29 (0, 0))
  d : Dq wr V.heap.size G cap Q Cp Y
  lt : bx < V.heap.size
section
variable {V wr w1 w2 : World} {bx : Nat} {Y : S}
theorem Cw.start {cs : Array Value} (T : Touch [] V w1) (D : Dq w1 V.heap.size G cap Q Cp Y) (hb : w1.heap[bx]? = some (.cells cs 29 (0, 0))) (hc : cs.size = 3) (hl : bx < V.heap.size) : Cw V (((w1.setCell ⟨bx, 0, none⟩ (.int .i64 (Y.b : Nat))).setCell ⟨bx, 1, none⟩ (.slice (some ⟨G, 0, none⟩) Y.r cap)).setCell ⟨bx, 2, none⟩ (.int .u64 (Y.t : Nat))) bx G cap Q Cp Y := by
  obtain ⟨l⟩ := cs
  match l, hc with
  | [a, b, c], _ =>
    have tt : Touch [bx] w1 _ := (((Touch.refl _ w1).setCell (p := ⟨bx, 0, none⟩) (Or.inl (by simp)) (.int .i64 (Y.b : Nat))).setCell (p := ⟨bx, 1, none⟩) (Or.inl (by simp)) (.slice (some ⟨G, 0, none⟩) Y.r cap)).setCell (p := ⟨bx, 2, none⟩) (Or.inl (by simp)) (.int .u64 (Y.t : Nat))
    obtain ⟨a1, a2⟩ := D.apart hb (by decide) (by decide)
    exact ⟨(T.mono (by simp)).trans' tt, bset (i := 2) (bset (i := 1) (bset (i := 0) hb _) _) _, D.keep tt (by simp [a1]) (fun j hj => by simp [a2 j hj]), hl⟩
theorem Cw.c0 (h : Cw V wr bx G cap Q Cp Y) : wr.cell? ⟨bx, 0, none⟩ = some (.int .i64 (Y.b : Nat)) := cell_at h.box rfl
theorem Cw.c1 (h : Cw V wr bx G cap Q Cp Y) : wr.cell? ⟨bx, 1, none⟩ = some (.slice (some ⟨G, 0, none⟩) Y.r cap) := cell_at h.box rfl
theorem Cw.c2 (h : Cw V wr bx G cap Q Cp Y) : wr.cell? ⟨bx, 2, none⟩ = some (.int .u64 (Y.t : Nat)) := cell_at h.box rfl
theorem Cw.fz (h : Cw V wr bx G cap Q Cp Y) (j : Nat) : wr.frozen? ⟨bx, j, none⟩ = false := froz_at h.box j
theorem Cw.keep0 (h : Cw V wr bx G cap Q Cp Y) (T : Touch [] wr w2) : Cw V w2 bx G cap Q Cp Y := ⟨h.t.trans T (by simp), T.keep h.box (by simp), h.d.keep0 T, h.lt⟩
theorem Cw.setC (h : Cw V wr bx G cap Q Cp Y) {i p : Nat} (v : Nat) (hi : i < Y.r) (hp : p < 2 ^ Y.b) : Cw V (wr.setCell ⟨Q i, p, none⟩ (.int .i64 (v : Nat))) bx G cap Q Cp { Y with c := upd Y.c i p v } := by
  obtain ⟨a1, a2⟩ := h.d.apart h.box (by decide) (by decide)
  exact ⟨h.t.setCell (Or.inr (h.d.ltQ hi).1) _, (Touch.setCell (F := [Q i]) (Touch.refl _ wr) (p := ⟨Q i, p, none⟩) (Or.inl (by simp)) _).keep h.box (by simp; exact Ne.symm (a2 i hi)), h.d.setC v hi hp, h.lt⟩
theorem Cw.setT (h : Cw V wr bx G cap Q Cp Y) (t : Nat) : Cw V (wr.setCell ⟨bx, 2, none⟩ (.int .u64 (t : Nat))) bx G cap Q Cp { Y with t := t } := by
  obtain ⟨a1, a2⟩ := h.d.apart h.box (by decide) (by decide)
  have tt : Touch [bx] wr _ := (Touch.refl _ wr).setCell (p := ⟨bx, 2, none⟩) (Or.inl (by simp)) (.int .u64 (t : Nat))
  have d2 := h.d.keep tt (by simp [a1]) (fun j hj => by simp [a2 j hj])
  exact ⟨h.t.setCell (Or.inl (by simp)) _, bset (i := 2) h.box _, ⟨d2.top, d2.row, d2.inj, d2.r1, d2.r2, d2.b2⟩, h.lt⟩
theorem Cw.congr {Z : S} (h : Cw V wr bx G cap Q Cp Y) (hr : Z.r = Y.r) (hb : Z.b = Y.b) (ht : Z.t = Y.t) (hc : ∀ i p, i < Y.r → p < 2 ^ Y.b → Z.c i p = Y.c i p) : Cw V wr bx G cap Q Cp Z :=
  ⟨h.t, by unfold bxd; rw [hr, hb, ht]; exact h.box, h.d.congr hr hb hc, h.lt⟩
theorem Cw.next {i p v : Nat} (h : Cw V wr bx G cap Q Cp { Y with c := fr2 F Y.c i p }) (hi : i < Y.r) (hp : p < 2 ^ Y.b) (hv : v = F i p) : Cw V (wr.setCell ⟨Q i, p, none⟩ (.int .i64 (v : Nat))) bx G cap Q Cp { Y with c := fr2 F Y.c i (p + 1) } := by
  subst hv
  exact (h.setC (F i p) hi hp).congr rfl rfl rfl (fun j q _ _ => (fr2_next F Y.c i p j q).symm)
theorem Cw.turn {i : Nat} (h : Cw V wr bx G cap Q Cp { Y with c := fr2 F Y.c i (2 ^ Y.b) }) : Cw V wr bx G cap Q Cp { Y with c := fr2 F Y.c (i + 1) 0 } := ⟨h.t, h.box, h.d.turn, h.lt⟩
theorem Cw.zero (h : Cw V wr bx G cap Q Cp Y) : Cw V wr bx G cap Q Cp { Y with c := fr2 F Y.c 0 0 } := ⟨h.t, h.box, h.d.zero, h.lt⟩
/-- The copy is laid into the result's cell. -/
theorem Cw.fin {r : Nat} (h : Cw V wr bx G cap Q Cp Y) (T : Touch [] w V) (hb : w.heap.size ≤ bx) (hr : w.heap.size ≤ r) (hrV : r < V.heap.size) : DnE (dv (.slice (some ⟨G, 0, none⟩) Y.r cap) Y) w (((wr.setCell ⟨r, 0, none⟩ (.int .i64 (Y.b : Nat))).setCell ⟨r, 1, none⟩ (.slice (some ⟨G, 0, none⟩) Y.r cap)).setCell ⟨r, 2, none⟩ (.int .u64 (Y.t : Nat))) Y := by
  have tt : Touch [r] wr _ := (((Touch.refl _ wr).setCell (p := ⟨r, 0, none⟩) (Or.inl (by simp)) (.int .i64 (Y.b : Nat))).setCell (p := ⟨r, 1, none⟩) (Or.inl (by simp)) (.slice (some ⟨G, 0, none⟩) Y.r cap)).setCell (p := ⟨r, 2, none⟩) (Or.inl (by simp)) (.int .u64 (Y.t : Nat))
  refine ⟨G, cap, Q, Cp, rfl, (h.d.keep tt ?_ (fun j hj => ?_)).base T.size, (T.trans h.t (fun q hq => Or.inr ?_)).trans tt (fun q hq => Or.inr ?_)⟩
  · have := h.d.ltG
    simp only [List.mem_singleton]
    omega
  · have := h.d.ltQ hj
    simp only [List.mem_singleton]
    omega
  · simp only [List.mem_singleton] at hq; omega
  · simp only [List.mem_singleton] at hq; omega
end
set_option maxHeartbeats 4000000 in
theorem rhalve_ (h : Dq w B G cap Q Cp X) (hw : Wf X) : Calls Try.prog 29 #[dv (.slice (some ⟨G, 0, none⟩) X.r cap) X] w fun e w' => ∃ v, e = .returned v ∧ DnE v w w' (halveS X) := by
  obtain ⟨V, hV⟩ : ∃ V, V = (w.alloc (.cells (bxd X G cap) 29)).alloc (.cells #[.int .i64 0, .slice none 0 0, .int .u64 0] 29) := ⟨_, rfl⟩
  obtain ⟨TV, hb1, hb2⟩ := two_new w (bxd X G cap) #[.int .i64 0, .slice none 0 0, .int .u64 0] 29 29
  rw [← hV] at TV hb1 hb2
  have HSZ : Hid (w.heap.size + 2 ≤ V.heap.size) := hid (by rw [hV]; simp)
  have HCP := hid (rcopy_ (h.keep0 TV))
  have r2 := h.r2
  have r1 := h.r1
  have b2 := h.b2
  have h2 := pow_le16 h.b2
  have HT := hid TV
  have HB := hid (fun w1 (t1 : Touch [] V w1) => (And.intro (t1.keep hb1 (by simp)) (t1.keep hb2 (by simp)) : _ ∧ _))
  obtain ⟨m1, m2⟩ := HB.out V (Touch.refl _ _)
  have c0 := cell_at (j := 0) (v := .int .i64 (X.b : Nat)) m1 rfl
  have c1 := cell_at (j := 1) (v := .slice (some ⟨G, 0, none⟩) X.r cap) m1 rfl
  have c2 := cell_at (j := 2) (v := .int .u64 (X.t : Nat)) m1 rfl
  have HW := hid hw
  have wt : IntKind.u64.wrap ((X.t : Int) / 2) = ((X.t / 2 : Nat) : Int) := by rw [IntKind.wrap_u64]; have := hw.t2; omega
  clear h hb1 hb2 TV m1 m2 hw
  have HCP : Hid (Calls Try.prog 32 #[dv (.slice (some ⟨G, 0, none⟩) X.r cap) X] V fun e w1 => ∃ G1 cap1 Q1 Cp1, e = .returned (dv (.slice (some ⟨G1, 0, none⟩) X.r cap1) X) ∧ (∃ a b c, w1.cell? ⟨w.heap.size, 0, none⟩ = some a ∧ w1.cell? ⟨w.heap.size, 1, none⟩ = some b ∧ w1.cell? ⟨w.heap.size, 2, none⟩ = some c) ∧ (∀ j, w1.frozen? ⟨w.heap.size, j, none⟩ = false) ∧ Cw V (((w1.setCell ⟨w.heap.size, 0, none⟩ (.int .i64 (X.b : Nat))).setCell ⟨w.heap.size, 1, none⟩ (.slice (some ⟨G1, 0, none⟩) X.r cap1)).setCell ⟨w.heap.size, 2, none⟩ (.int .u64 (X.t : Nat))) w.heap.size G1 cap1 Q1 Cp1 X) := hid (by
    refine HCP.out.mono ?_
    rintro e w1 ⟨v1, rfl, G1, cap1, Q1, Cp1, rfl, D1, T1⟩
    have m1 := (HB.out _ T1).1
    exact ⟨G1, cap1, Q1, Cp1, rfl, ⟨_, _, _, cell_at (j := 0) m1 rfl, cell_at (j := 1) m1 rfl, cell_at (j := 2) m1 rfl⟩, froz_at m1, Cw.start T1 D1 m1 rfl (by have := HSZ.out; omega)⟩)
  have HFN : Hid (∀ wr G1 cap1 Q1 Cp1 Y, Cw V wr w.heap.size G1 cap1 Q1 Cp1 Y → (∃ a b c, wr.cell? ⟨w.heap.size + 1, 0, none⟩ = some a ∧ wr.cell? ⟨w.heap.size + 1, 1, none⟩ = some b ∧ wr.cell? ⟨w.heap.size + 1, 2, none⟩ = some c) ∧ (∀ j, wr.frozen? ⟨w.heap.size + 1, j, none⟩ = false) ∧ DnE (dv (.slice (some ⟨G1, 0, none⟩) Y.r cap1) Y) w (((wr.setCell ⟨w.heap.size + 1, 0, none⟩ (.int .i64 (Y.b : Nat))).setCell ⟨w.heap.size + 1, 1, none⟩ (.slice (some ⟨G1, 0, none⟩) Y.r cap1)).setCell ⟨w.heap.size + 1, 2, none⟩ (.int .u64 (Y.t : Nat))) Y) := hid (fun wr G1 cap1 Q1 Cp1 Y h => by
    have m2 := h.t.keep (HB.out V (Touch.refl _ _)).2 (by simp)
    exact ⟨⟨_, _, _, cell_at (j := 0) m2 rfl, cell_at (j := 1) m2 rfl, cell_at (j := 2) m2 rfl⟩, froz_at m2, h.fin HT.out (Nat.le_refl _) (Nat.le_succ _) (by have := HSZ.out; omega)⟩)
  obtain ⟨F, hF⟩ : ∃ F : Nat → Nat → Nat, F = fun i p => X.c i p / 2 := ⟨_, rfl⟩
  have HF0 : Hid (∀ i p, F i p = X.c i p / 2) := hid (fun i p => by rw [hF])
  have HC : Hid (∀ wr G1 cap1 Q1 Cp1 i p, Cw V wr w.heap.size G1 cap1 Q1 Cp1 { X with c := fr2 F X.c i p } → i < X.r → wr.cell? ⟨w.heap.size, 1, none⟩ = some (.slice (some ⟨G1, 0, none⟩) X.r cap1) ∧ wr.cell? ⟨G1, i, none⟩ = some (.slice (some ⟨Q1 i, 0, none⟩) (2 ^ X.b) (Cp1 i)) ∧ (p < 2 ^ X.b → wr.cell? ⟨Q1 i, p, none⟩ = some (.int .i64 (X.c i p : Nat)) ∧ wr.frozen? ⟨Q1 i, p, none⟩ = false ∧ Cw V (wr.setCell ⟨Q1 i, p, none⟩ (.int .i64 ((X.c i p / 2 : Nat) : Int))) w.heap.size G1 cap1 Q1 Cp1 { X with c := fr2 F X.c i (p + 1) })) := hid (fun wr G1 cap1 Q1 Cp1 i p h hi => by
    refine ⟨h.c1, h.d.c0 hi, fun hp => ⟨?_, h.d.fz hi p, h.next hi hp (by rw [HF0.out])⟩⟩
    have := h.d.c1 (i := i) (p := p) hi hp
    have e : fr2 F X.c i p i p = X.c i p := fr2_here F X.c i p
    rw [← e]; exact this)
  have HZ : Hid (∀ wr G1 cap1 Q1 Cp1, Cw V wr w.heap.size G1 cap1 Q1 Cp1 { X with c := fr2 F X.c X.r 0 } → wr.cell? ⟨w.heap.size, 0, none⟩ = some (.int .i64 (X.b : Nat)) ∧ wr.cell? ⟨w.heap.size, 1, none⟩ = some (.slice (some ⟨G1, 0, none⟩) X.r cap1) ∧ wr.cell? ⟨w.heap.size, 2, none⟩ = some (.int .u64 (X.t : Nat)) ∧ (∀ j, wr.frozen? ⟨w.heap.size, j, none⟩ = false) ∧ Cw V (wr.setCell ⟨w.heap.size, 2, none⟩ (.int .u64 ((X.t / 2 : Nat) : Int))) w.heap.size G1 cap1 Q1 Cp1 (halveS X)) := hid (fun wr G1 cap1 Q1 Cp1 h => by
    refine ⟨h.c0, h.c1, h.c2, h.fz, (h.setT (X.t / 2)).congr rfl rfl rfl (fun i p hi hp => ?_)⟩
    show X.c i p / 2 = fr2 F X.c X.r 0 i p
    unfold fr2
    rw [if_pos (Or.inl hi), HF0.out])
  have HZ0 : Hid (∀ wr G1 cap1 Q1 Cp1, Cw V wr w.heap.size G1 cap1 Q1 Cp1 X → wr.cell? ⟨w.heap.size, 1, none⟩ = some (.slice (some ⟨G1, 0, none⟩) X.r cap1) ∧ Cw V wr w.heap.size G1 cap1 Q1 Cp1 { X with c := fr2 F X.c 0 0 }) := hid (fun wr G1 cap1 Q1 Cp1 h => ⟨h.c1, h.zero⟩)
  have HTN : Hid (∀ wr G1 cap1 Q1 Cp1 i, Cw V wr w.heap.size G1 cap1 Q1 Cp1 { X with c := fr2 F X.c i (2 ^ X.b) } → Cw V wr w.heap.size G1 cap1 Q1 Cp1 { X with c := fr2 F X.c (i + 1) 0 }) := hid (fun wr G1 cap1 Q1 Cp1 i h => h.turn)
  have HWW : Hid (∀ i p, IntKind.i64.wrap ((X.c i p : Int) / 2) = ((X.c i p / 2 : Nat) : Int) ∧ X.c i p ≤ 255) := hid (fun i p => by rw [IntKind.wrap_i64]; have := HW.out.c2 i p; omega)
  clear HF0 hF HW HB
  unfold dv bxd at *
  obtain ⟨W, hW⟩ : ∃ W, W = 2 ^ X.b := ⟨_, rfl⟩
  rw [← hW] at HC HTN h2
  clear hW
  have ht2 : (halveS X).t = X.t / 2 := rfl
  obtain ⟨t2, hh2⟩ : ∃ t2, t2 = X.t / 2 := ⟨_, rfl⟩
  rw [← hh2] at HZ wt ht2
  have HT2 := hid ht2
  clear hh2 ht2
  go_enter Try.func29, Try.ntmps29
  go_upto_region 1 with fail
  rw [← hV]
  clear hV
  go_wp2_with (go_at_call 32; refine HCP.out.mono ?_; rintro e w1 ⟨G1, cap1, Q1, Cp1, rfl, ⟨x0, x1, x2, g0, g1, g2⟩, f1, C1⟩; obtain ⟨e1, C1⟩ := HZ0.out _ _ _ _ _ C1; have C1 := hid C1; clear HCP HZ0)
  go_loopw [3] (fun s3 wr => ∃ i : Nat, i ≤ X.r ∧ s3 = .int .i64 i ∧ Cw V wr w.heap.size G1 cap1 Q1 Cp1 { X with c := fr2 F X.c i 0 }) (fun s3 _ => X.r - (intOf s3).toNat)
  case atStart => exact ⟨0, Nat.zero_le _, rfl, C1.out⟩
  case round =>
    obtain ⟨i, hi, rfl, CQ⟩ := hrel
    clear C1 e1
    by_cases hlt : i < X.r
    · have zi : (i : Int) < (X.r : Int) := by omega
      obtain ⟨q1, q2, _⟩ := HC.out _ _ _ _ _ i 0 CQ hlt
      go_wp2
      have C0 := hid CQ
      clear CQ q1 q2
      go_loopw [4] (fun s4 wr => ∃ p : Nat, p ≤ W ∧ s4 = .int .i64 p ∧ Cw V wr w.heap.size G1 cap1 Q1 Cp1 { X with c := fr2 F X.c i p }) (fun s4 _ => W - (intOf s4).toNat)
      case atStart => exact ⟨0, Nat.zero_le _, rfl, C0.out⟩
      case round =>
        obtain ⟨p, hp, rfl, CQ⟩ := hrel
        clear C0
        obtain ⟨q1, q2, q3⟩ := HC.out _ _ _ _ _ i p CQ hlt
        by_cases hpt : p < W
        · have zp : (p : Int) < (W : Int) := by omega
          obtain ⟨q4, q5, q6⟩ := q3 hpt
          obtain ⟨w8, w9⟩ := HWW.out i p
          have Q6 := hid q6
          clear q3 q6 HC HZ HFN HTN CQ HWW
          generalize X.c i p / 2 = v2 at *
          generalize X.c i p = v1 at *
          go_wp2
          refine ⟨⟨p + 1, by omega, rfl, Q6.out⟩, by simp [intOf]; omega⟩
        · have ep : p = W := by omega
          subst ep
          have zp : ¬ (p : Int) < (p : Int) := by omega
          have C2 := hid (HTN.out _ _ _ _ _ i CQ)
          clear q3 HC HZ HFN HTN CQ HWW
          go_wp2
          refine ⟨⟨i + 1, by omega, rfl, C2.out⟩, by simp [intOf]; omega⟩
    · have ei : i = X.r := by omega
      subst ei
      have zi : ¬ (X.r : Int) < (X.r : Int) := by omega
      obtain ⟨q0, q1, q2, q3, q4⟩ := HZ.out _ _ _ _ _ CQ
      obtain ⟨⟨y0, y1, y2, k0, k1, k2⟩, k3, k4⟩ := HFN.out _ _ _ _ _ _ q4
      have K4 := hid k4
      clear k4 q4 HC HZ HFN HTN CQ HWW
      go_wp2
      refine bodyPost_ret (v := dv (.slice (some ⟨G1, 0, none⟩) X.r cap1) (halveS X)) (by simp [results, Try.results29, go_sem, dv, k0, k1, k2, HT2.out]; rfl) rfl ⟨_, rfl, ?_⟩
      have K5 := K4.out
      rw [HT2.out] at K5
      unfold dv
      rw [HT2.out]
      exact K5
end
end Go.Proofs.Ytbadlkjffelkhaa.Sk
