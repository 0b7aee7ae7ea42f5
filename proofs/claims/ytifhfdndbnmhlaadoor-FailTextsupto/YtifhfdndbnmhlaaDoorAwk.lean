/- The contracts of finding a failure in an error, and of the laws' wakefulness; the conditions: the library's variable of the type error, the tables of words and of powers of ten. -/
import Derived.Test.YtifhfdndbnmhlaaDoorUnw
import Derived.Test.YtifhfdndbnmhlaaDoorTxt
import Derived.Deep.RegionWith
namespace Go.Proofs.YtifhfdndbnmhlaaDoor
open Go.RowKit Go.Sort
set_option linter.unusedVariables false

/-- a box of three numbers -/
structure Box (w : World) (b : Nat) (k c r : Int) : Prop where
  c0 : w.cell? ⟨b, 0, none⟩ = some (.int .i64 k)
  c1 : w.cell? ⟨b, 1, none⟩ = some (.int .i64 c)
  c2 : w.cell? ⟨b, 2, none⟩ = some (.int .i64 r)
  z0 : w.frozen? ⟨b, 0, none⟩ = false
  z1 : w.frozen? ⟨b, 1, none⟩ = false
  z2 : w.frozen? ⟨b, 2, none⟩ = false
theorem box_new (w : World) (k c r : Int) (t : Nat) : Box (w.alloc (.cells #[.int .i64 k, .int .i64 c, .int .i64 r] t)) w.heap.size k c r := ⟨by simp, by simp, by simp, by simp, by simp, by simp⟩
theorem Box.gr {w w' : World} {b : Nat} {k c r : Int} (h : Box w b k c r) (hg : Gr w w') : Box w' b k c r := by
  have hl : b < w.heap.size := cell_lt h.c0
  exact ⟨hg.cell' h.c0, hg.cell' h.c1, hg.cell' h.c2, by rw [hg.below.frozen (p := ⟨b, 0, none⟩) hl]; exact h.z0, by rw [hg.below.frozen (p := ⟨b, 1, none⟩) hl]; exact h.z1, by rw [hg.below.frozen (p := ⟨b, 2, none⟩) hl]; exact h.z2⟩

set_option maxRecDepth 20000 in
set_option maxHeartbeats 1000000 in
theorem find23_of (ev : Value) (k c r : Int) (w : World) (hU : ∀ w', Gr w w' → Calls Tryd.prog 37 #[ev] w' fun e w'' => ∃ A n cp, e = .returned (.tuple #[.slice A n cp, fl k c r]) ∧ Gr w' w'') :
    Calls Tryd.prog 23 #[ev] w fun e w' => e = .returned (.tuple #[fl k c r, .bool (!none3 k c r)]) ∧ Gr w w' := by
  have mixed := mixed
  have HU : Hid _ := hU
  clear hU
  go_enter Tryd.func23, Tryd.ntmps23
  go_wp2_with (go_at_call 37; refine (HU.out _ ((Gr.refl w).alloc _)).mono ?_; rintro e w1 ⟨A, n, cp, rfl, hg⟩)
  have HB1 : Hid (Box (w1.alloc (.cells #[.int .i64 k, .int .i64 c, .int .i64 r] 23)) w.heap.size 0 0 0) := (box_new w 0 0 0 23).gr (hg.alloc _)
  have HB2 : Hid (Box (w1.alloc (.cells #[.int .i64 k, .int .i64 c, .int .i64 r] 23)) w1.heap.size k c r) := box_new w1 k c r 23
  have G : Hid (Gr w (w1.alloc (.cells #[.int .i64 k, .int .i64 c, .int .i64 r] 23))) := (((Gr.refl w).alloc _).trans hg).alloc _
  have hlt : w.heap.size ≤ w1.heap.size := (((Gr.refl w).alloc _).trans hg).size
  generalize w1.heap.size = b1 at *
  generalize w1.alloc (.cells #[.int .i64 k, .int .i64 c, .int .i64 r] 23) = W at *
  obtain ⟨p0, p1, p2, y0, y1, y2⟩ := HB1.out
  obtain ⟨q0, q1, q2, x0, x1, x2⟩ := HB2.out
  clear hg
  go_region_with (go_at_call 28; refine (none28 k c r _).mono ?_; rintro e w2 ⟨rfl, hg2⟩; have G2 : Hid (Gr W w2) := (Gr.refl W).drew.trans hg2; obtain ⟨r0, r1, r2, t0, t1, t2⟩ := HB1.out.gr ((Gr.refl W).drew.trans hg2); obtain ⟨s0, s1, s2, v0, v1, v2⟩ := HB2.out.gr ((Gr.refl W).drew.trans hg2); clear hg2)
  all_goals
    go_wp2
    refine bodyPost_ret (v := .tuple #[fl k c r, .bool (!none3 k c r)]) ?_ rfl ⟨rfl, ?_⟩
    · simp [results, Tryd.results23, go_sem, r0, r1, r2]
    · exact ((((G.out.trans G2.out).setCell (Nat.le_refl _) _).setCell (Nat.le_refl _) _).setCell (Nat.le_refl _) _)
theorem find23_nil (w : World) : Calls Tryd.prog 23 #[.nilIface] w fun e w' => e = .returned (.tuple #[fl 0 0 0, .bool false]) ∧ Gr w w' :=
  find23_of .nilIface 0 0 0 w fun w' _ => (unwrap37_nil w').mono fun e w'' ⟨he, hg⟩ => ⟨none, 0, 0, he, hg⟩
theorem find23 (k c r : Int) (b : Nat) (ns : List ByteArray) (w : World) (hE : Et w) (hC : Chain w k c r b ns) (hl : ns.length ≤ 1048576) (hn : none3 k c r = false) :
    Calls Tryd.prog 23 #[er b] w fun e w' => e = .returned (.tuple #[fl k c r, .bool true]) ∧ Gr w w' := by
  have h := find23_of (er b) k c r w fun w' hg => (unwrap37 k c r b ns w' (hE.gr hg) (hC.gr hg) hl).mono fun e w'' ⟨A, cp, he, _, hg⟩ => ⟨A, ns.length, cp, he, hg⟩
  rw [hn] at h
  exact h

/-- what every law of this layer leans on: the variables that the start lays -/
structure St (w : World) : Prop where
  et : Et w
  tab : Tab w
  wo : Wo w
theorem St.gr {w w' : World} (h : St w) (hg : Gr w w') : St w' := ⟨h.et.gr hg, h.tab.gr hg, h.wo.gr hg⟩
theorem text_awake : textB 1 7 3 = ⟨#[108, 111, 97, 100, 32, 55, 32, 51]⟩ := by
  have h7 : itoaB 7 = ⟨#[55]⟩ := by unfold itoaB Lib.itoa; rw [if_neg (by decide), Lib.decDigits_one (by decide)]; rfl
  have h3 : itoaB 3 = ⟨#[51]⟩ := by unfold itoaB Lib.itoa; rw [if_neg (by decide), Lib.decDigits_one (by decide)]; rfl
  unfold textB
  rw [h7, h3]
  rfl
theorem text18_awake (w : World) (hS : St w) : Calls Tryd.prog 18 #[fl 1 7 3] w fun e w' => e = .returned (.string ⟨#[108, 111, 97, 100, 32, 55, 32, 51]⟩) ∧ Gr w w' := by
  have h := text18 1 7 3 (by unfold I64; omega) (by unfold I64; omega) (by unfold I64; omega) w hS.tab hS.wo
  rw [text_awake] at h
  exact h
set_option maxRecDepth 20000 in
set_option maxHeartbeats 1000000 in
theorem awake9 (w : World) (hS : St w) : Calls Tryd.prog 9 #[] w fun e w' => e = .returned (.bool true) ∧ Gr w w' := by
  have HS : Hid (St w) := hS
  clear hS
  go_enter Tryd.func9, Tryd.ntmps9
  go_wp2_with (first
    | (go_at_call 20; refine (of20 1 7 3 _ rfl).mono ?_; rintro e w1 ⟨b, rfl, hC, hg⟩; have C1 : Hid (Chain w1 1 7 3 b []) := hC; have G1 : Hid (Gr w w1) := ((Gr.refl w).alloc _).trans hg; have HB : Hid (Box w1 w.heap.size 1 7 3) := (box_new w 1 7 3 23).gr hg; clear hC hg)
    | (go_at_call 22; refine (wrap22 1 7 3 _ [] ⟨#[97]⟩ _ C1.out).mono ?_; rintro e w2 ⟨b2, rfl, hC, hg⟩; have C2 : Hid (Chain w2 1 7 3 b2 [⟨#[97]⟩]) := hC; have G2 : Hid (Gr w1 w2) := hg; clear hC hg)
    | (go_at_call 23; refine (find23 1 7 3 b2 [⟨#[97]⟩] _ (HS.out.gr (G1.out.trans G2.out)).et C2.out (by decide) rfl).mono ?_; rintro e w3 ⟨rfl, hg⟩; have G3 : Hid (Gr w2 w3) := hg; clear hg; obtain ⟨r0, r1, r2, t0, t1, t2⟩ := HB.out.gr ((G2.out.trans G3.out).alloc (.cells #[.int .i64 1, .int .i64 7, .int .i64 3] 23)))
    | (go_at_call 18; refine (text18_awake _ (HS.out.gr ((G1.out.trans (G2.out.trans G3.out)).alloc _))).mono ?_; rintro e w4 ⟨rfl, hg⟩))
  go_ret
  exact ⟨rfl, ((G1.out.trans (G2.out.trans G3.out)).alloc _).trans hg⟩
end Go.Proofs.YtifhfdndbnmhlaaDoor
