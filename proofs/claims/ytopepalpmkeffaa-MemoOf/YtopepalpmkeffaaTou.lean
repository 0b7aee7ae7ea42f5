/- The contracts of Touch and Drop; no conditions but those that each states. -/
import Derived.Test.YtopepalpmkeffaaEnt
import Derived.Test.YtopepalpmkeffaaHlg
namespace Go.Proofs.Ytopepalpmkeffaa
open Go.RowKit Go.Sort Go.Maps Go.ChangeMaps Go.WideMaps
set_option linter.unusedVariables false
set_option linter.unusedSimpArgs false
def bx (k : K) : Obj := .cells #[.int .u16 k.1, .string k.2] 39
theorem box_cells (w : World) (k : K) : ∀ w2, Touch [] (w.alloc (bx k)) w2 → w2.cell? ⟨w.heap.size, 0, none⟩ = some (.int .u16 k.1) ∧ w2.cell? ⟨w.heap.size, 1, none⟩ = some (.string k.2) := fun w2 t => by
  have h := t.keep (k := w.heap.size) (heap_alloc_new w (bx k)) (by simp)
  unfold bx at h
  simp [World.cell?, h]
theorem find_key {L : List E} {k : K} (h : k ∈ L.map Prod.fst) : ∃ A e B, L = A ++ e :: B ∧ e.1 = k := by
  obtain ⟨e, he, rfl⟩ := List.mem_map.1 h
  obtain ⟨A, B, rfl⟩ := List.append_of_mem he
  exact ⟨A, e, B, rfl, rfl⟩
/-- The list behind a place's taking out from the line. -/
theorem mapAt_away {w : World} {o : Nat} {m : Option Nat} {most : Int} {L : List E} (h : Od w o m most L) {b n : Nat} {f : K → Option Value} (hm : MapAt w b n f) : ¬ b ∈ fpL o L := fun hb => by
  obtain ⟨cs, t, fr, hc⟩ := h.ln.cells b hb
  exact hm.ne_block hc rfl
theorem nd_mid {A B : List E} {e : E} (h : ((A ++ e :: B).map Prod.fst).Nodup) : (∀ e' ∈ A, e'.1 ≠ e.1) ∧ (∀ e' ∈ B, e'.1 ≠ e.1) ∧ ((A ++ B).map Prod.fst).Nodup ∧ ((A ++ B ++ [e]).map Prod.fst).Nodup := by
  simp only [List.map_append, List.map_cons, List.nodup_append, List.nodup_cons, List.mem_map, List.mem_cons, List.map_nil, List.not_mem_nil, List.nodup_nil, List.mem_append] at h ⊢
  obtain ⟨h1, ⟨h2, h3⟩, h4⟩ := h
  have a1 : ∀ e' ∈ A, e'.1 ≠ e.1 := fun e' he => h4 _ ⟨e', he, rfl⟩ _ (Or.inl rfl)
  have a2 : ∀ e' ∈ B, e'.1 ≠ e.1 := fun e' he h => h2 ⟨e', he, h⟩
  have a3 : ∀ (a : K), (∃ a_1, a_1 ∈ A ∧ a_1.fst = a) → ∀ (b : K), (∃ a, a ∈ B ∧ a.fst = b) → a ≠ b := fun a ha b hb => h4 a ha b (Or.inr hb)
  refine ⟨a1, a2, ⟨h1, h3, a3⟩, ⟨h1, h3, a3⟩, ⟨not_false, trivial⟩, ?_⟩
  rintro a ha b (rfl | hb)
  · rcases ha with ⟨x, hx, rfl⟩ | ⟨x, hx, rfl⟩
    · exact a1 x hx
    · exact a2 x hx
  · exact hb.elim
def RmS (w : World) (o : Nat) (m : Option Nat) (most : Int) (A B : List E) (e : E) (w3 : World) : Prop :=
  Ln w3 o most m (A ++ B) ∧ Touch (fpL o (A ++ e :: B)) w w3 ∧ ∃ a z, Nd w3 e.2 e.1 a z
theorem rm (w w2 : World) (o : Nat) (m : Option Nat) (most : Int) (A B : List E) (e : E) (h : Od w o m most (A ++ e :: B)) (t : Touch [] w w2) :
    Calls Try.prog 67 #[LP o, PT e.2] w2 fun x w' => x = .returned (.tuple #[]) ∧ RmS w o m most A B e w' := by
  have h2 := h.keep0 t
  refine (remove34 w2 o most m A B e h2.ln).mono ?_
  rintro x w' ⟨rfl, h3, t3, hk⟩
  obtain ⟨a, z, hn⟩ := h2.ln.sg.mem e (by simp)
  exact ⟨rfl, h3, (t.mono (fun _ e => by cases e)).trans' t3, a, z, hn.keep hk⟩
def TcQ (w : World) (o : Nat) (m : Option Nat) (most : Int) (A B : List E) (e : E) (w' : World) : Prop :=
  Od w' o m most (A ++ B ++ [e]) ∧ Touch (fp o m (A ++ e :: B)) w w'
theorem touch_end (w w3 : World) (o : Nat) (m : Option Nat) (most : Int) (A B : List E) (e : E) (h : Od w o m most (A ++ e :: B)) (t : RmS w o m most A B e w3) :
    Calls Try.prog 68 #[LP o, PT e.2] w3 fun x w' => x = .returned (.tuple #[]) ∧ TcQ w o m most A B e w' := by
  obtain ⟨h3, t3, a, z, hn⟩ := t
  obtain ⟨q1, q2, q3, q4, q5⟩ := nb_ne h.ln.nb
  refine (add35 w3 o most m (A ++ B) e a z h3 hn (fun e' he => (List.mem_append.1 he).elim (q1 e') (q2 e'))).mono ?_
  rintro x w' ⟨rfl, h4, t4⟩
  have hsub : ∀ i, i ∈ e.2 :: fpL o (A ++ B) → i ∈ fpL o (A ++ e :: B) := fun i hi => by
    simp only [fpL, List.mem_cons, List.map_append, List.mem_append, List.map_cons] at hi ⊢
    rcases hi with hi | hi | hi | hi
    · exact Or.inr (Or.inr (Or.inl hi))
    · exact Or.inl hi
    · exact Or.inr (Or.inl hi)
    · exact Or.inr (Or.inr (Or.inr hi))
  have tt : Touch (fpL o (A ++ e :: B)) w w' := t3.trans' (t4.mono hsub)
  refine ⟨rfl, ⟨h4, (nd_mid h.nd).2.2.2, fun e' he => h.ok e' ?_, ?_⟩, tt.mono (fun i hi => fpL_fp hi)⟩
  · simp only [List.mem_append, List.mem_cons, List.not_mem_nil, or_false] at he ⊢
    rcases he with (he | he) | he
    · exact Or.inl he
    · exact Or.inr (Or.inr he)
    · exact Or.inr (Or.inl he)
  · rcases h.mp with ⟨_, e0⟩ | ⟨b, f, rfl, hm, hf⟩
    · simp at e0
    · refine Or.inr ⟨b, f, rfl, ?_, fun e' he => hf.1 e' ?_, fun k hk => hf.2 k (fun h => hk ?_)⟩
      · have : (A ++ B ++ [e]).length = (A ++ e :: B).length := by simp only [List.length_append, List.length_cons, List.length_nil]; omega
        rw [this]
        exact hm.kept (tt.block b hm.lt (mapAt_away h hm))
      · simp only [List.mem_append, List.mem_cons, List.not_mem_nil, or_false] at he ⊢
        rcases he with (he | he) | he
        · exact Or.inl he
        · exact Or.inr (Or.inr he)
        · exact Or.inr (Or.inl he)
      · simp only [List.map_append, List.map_cons, List.map_nil, List.mem_append, List.mem_cons, List.not_mem_nil, or_false] at h ⊢
        rcases h with h | h | h
        · exact Or.inl (Or.inl h)
        · exact Or.inr h
        · exact Or.inl (Or.inr h)
theorem touch17_no (w : World) (o : Nat) (m : Option Nat) (most : Int) (L : List E) (k : K) (hk : Ok k) (hn : ¬ k ∈ L.map Prod.fst) (h : Od w o m most L) : Calls Try.prog 51 #[PT o, kv k] w fun x w' => x = .returned (.bool false) ∧ Touch [] w w' := by
  have HH := hid (has19_no (w.alloc (bx k)) o m most L k hk hn (h.keep0 ((Touch.refl _ _).alloc _)))
  clear h
  unfold PT kv bx at *
  go_enter Try.func51, Try.ntmps51
  go_wp2_with (go_at_call 66; refine HH.out.mono ?_; rintro x w2 ⟨rfl, t2⟩)
  go_ret
  exact ⟨rfl, ((Touch.refl _ _).alloc _).trans' t2⟩
set_option maxHeartbeats 2000000 in
theorem touch17_yes (w : World) (o : Nat) (m : Option Nat) (most : Int) (A B : List E) (e : E) (h : Od w o m most (A ++ e :: B)) : Calls Try.prog 51 #[PT o, kv e.1] w fun x w' => x = .returned (.bool true) ∧ TcQ w o m most A B e w' := by
  have T0 : Touch [] w (w.alloc (bx e.1)) := (Touch.refl _ _).alloc _
  have HH := hid (has19_yes (w.alloc (bx e.1)) o m most _ e (by simp) (h.keep0 T0))
  have HR := hid (fun w2 t => rm w w2 o m most A B e h t)
  have HA := hid (fun w3 t => touch_end w w3 o m most A B e h t)
  have HC : Hid (∀ w2, Touch [] w w2 → w2.cell? ⟨o, 1, none⟩ = some (.map m) ∧ (Instr.lookup 124 (.map m) (kv e.1) false).run Try.prog w2 = .ok (PT e.2) w2) := fun w2 t => ⟨(h.keep0 t).ln.oc.c1, (h.keep0 t).look_yes (by simp)⟩
  have HB := hid (box_cells w e.1)
  clear h
  unfold PT kv LP bx at *
  go_enter Try.func51, Try.ntmps51
  go_wp2_with (go_at_call 66; refine HH.out.mono ?_; rintro x w2 ⟨rfl, t2⟩; have T2 := T0.trans' t2; have c1 := (HC.out w2 T2).1; have hl := fun n => (HC.out (w2.drewN n) (T2.drewN n)).2; obtain ⟨b0, b1⟩ := HB.out w2 t2; clear t2)
  go_quiet (fail)
  go_wp2_with (first
    | (go_at_call 67; refine (HR.out _ (T2.drewN _)).mono ?_; rintro x w3 ⟨rfl, r3⟩; have R3 := hid r3; clear r3)
    | (go_at_call 68; refine (HA.out _ R3.out).mono ?_; rintro x w4 ⟨rfl, r4⟩; have R4 := hid r4; clear r4))
  go_ret
  exact ⟨rfl, R4.out⟩
end Go.Proofs.Ytopepalpmkeffaa
