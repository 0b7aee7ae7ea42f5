/- An order in memory as a plain list of keys, the oldest first; the contracts of what only reads it, and of its maker; no conditions but those that each states. -/
import Derived.Test.YtopepalpmkeffaaLin
namespace Go.Proofs.Ytopepalpmkeffaa
open Go.RowKit Go.Sort Go.Maps Go.ChangeMaps Go.WideMaps
set_option linter.unusedVariables false
set_option linter.unusedSimpArgs false

def Mf (f : K → Option Value) (L : List E) : Prop := (∀ e ∈ L, f e.1 = some (PT e.2)) ∧ ∀ k, ¬ k ∈ L.map Prod.fst → f k = none
structure Od (w : World) (o : Nat) (m : Option Nat) (most : Int) (L : List E) : Prop where
  ln : Ln w o most m L
  nd : (L.map Prod.fst).Nodup
  ok : ∀ e ∈ L, Ok e.1
  mp : (m = none ∧ L = []) ∨ ∃ b f, m = some b ∧ MapAt w b L.length f ∧ Mf f L
def fp (o : Nat) (m : Option Nat) (L : List E) : List Nat := o :: (m.toList ++ L.map Prod.snd)
theorem fpL_fp {o : Nat} {m : Option Nat} {L : List E} {k : Nat} (h : k ∈ fpL o L) : k ∈ fp o m L := by
  simp only [fpL, fp, List.mem_cons, List.mem_append] at h ⊢
  rcases h with h | h
  · exact Or.inl h
  · exact Or.inr (Or.inr h)
theorem Od.keep {G : List Nat} {w w' : World} {o : Nat} {m : Option Nat} {most : Int} {L : List E} (h : Od w o m most L) (ht : Touch G w w') (hn : ∀ k, k ∈ fp o m L → ¬ k ∈ G) : Od w' o m most L := by
  refine ⟨h.ln.keep ht (fun k hk => hn k (fpL_fp hk)), h.nd, h.ok, ?_⟩
  rcases h.mp with h1 | ⟨b, f, rfl, hm, hf⟩
  · exact Or.inl h1
  · exact Or.inr ⟨b, f, rfl, hm.kept (ht.block b hm.lt (hn b (by simp [fp]))), hf⟩
theorem Od.keep0 {w w' : World} {o : Nat} {m : Option Nat} {most : Int} {L : List E} (h : Od w o m most L) (ht : Touch [] w w') : Od w' o m most L := h.keep ht (fun _ _ h => by cases h)
theorem Od.lt {w : World} {o : Nat} {m : Option Nat} {most : Int} {L : List E} (h : Od w o m most L) : ∀ k, k ∈ fp o m L → k < w.heap.size := fun k hk => by
  simp only [fp, List.mem_cons, List.mem_append] at hk
  rcases hk with rfl | hk | hk
  · exact h.ln.oc.lt
  · rcases h.mp with ⟨rfl, _⟩ | ⟨b, f, rfl, hm, hf⟩
    · simp at hk
    · simp at hk; subst hk; exact hm.lt
  · obtain ⟨e, he, rfl⟩ := List.mem_map.1 hk
    obtain ⟨x, y, hx⟩ := h.ln.sg.mem e he
    exact hx.lt
section
variable {w : World} {o : Nat} {m : Option Nat} {most : Int} {L : List E}
theorem Od.look_yes (h : Od w o m most L) {e : E} (he : e ∈ L) : (Instr.lookup 124 (.map m) (kv e.1) false).run Try.prog w = .ok (PT e.2) w := by
  rcases h.mp with ⟨_, rfl⟩ | ⟨b, f, rfl, hm, hf⟩
  · cases he
  · have := hm.look (t := 124) Try.underlying124 (zero61 w) (h.ok e he)
    rw [hf.1 e he] at this
    exact this
theorem Od.look_no (h : Od w o m most L) {k : K} (hk : Ok k) (hn : ¬ k ∈ L.map Prod.fst) : (Instr.lookup 124 (.map m) (kv k) false).run Try.prog w = .ok (.pointer none) w := by
  rcases h.mp with ⟨rfl, rfl⟩ | ⟨b, f, rfl, hm, hf⟩
  · have := Maps.look_nil (P := Try.prog) (w := w) false keyed36 Try.underlying124 (zero61 w) (key36 hk)
    simpa using this
  · have := hm.look (t := 124) Try.underlying124 (zero61 w) hk
    rw [hf.2 k hn] at this
    exact this
theorem Od.len (h : Od w o m most L) (ty : TypeId) : (Builtin.len_ #[124] ty #[.map m]).run Try.prog w = .ok (.int .i64 L.length) w := by
  rcases h.mp with ⟨rfl, rfl⟩ | ⟨b, f, rfl, hm, hf⟩
  · exact Maps.len_nil (P := Try.prog) (w := w) Try.underlying124 ty
  · exact hm.len (t := 124) Try.underlying124 ty
end
theorem mayBe23 (w : World) (n : Int) : Calls Try.prog 56 #[.int .i64 n] w fun e w' => e = .returned (.bool (decide (0 ≤ n) && decide (n ≤ 65536))) ∧ w' = w := by
  by_cases h : 0 ≤ n
  · go_enter Try.func56, Try.ntmps56
    go_wp2
    go_ret
    simp [h]
  · go_enter Try.func56, Try.ntmps56
    go_wp2
    go_ret
    have h2 : decide (0 ≤ n) = false := decide_eq_false (by omega)
    simp [h2]
theorem check29_ok (w : World) (k : K) (h : k.2.size ≤ 64) : Calls Try.prog 49 #[kv k] w fun e w' => e = .returned (.int .i64 0) ∧ Touch [] w w' := by
  unfold kv
  go_enter Try.func49, Try.ntmps49
  go_wp2
  go_ret
  exact ⟨rfl, (Touch.refl _ _).alloc _⟩
theorem check29_no (w : World) (k : K) (h : 64 < k.2.size) : Calls Try.prog 49 #[kv k] w fun e w' => e = .returned (.int .i64 20) ∧ Touch [] w w' := by
  have h' : (64 : Int) < (k.2.size : Int) := by omega
  unfold kv
  go_enter Try.func49, Try.ntmps49
  go_wp2
  go_ret
  exact ⟨rfl, (Touch.refl _ _).alloc _⟩
theorem new6_ok (w : World) (n : Int) (h : 0 ≤ n) (h2 : n ≤ 65536) : Calls Try.prog 29 #[.int .i64 n] w fun e w' => e = .returned (.tuple #[PT w.heap.size, .int .i64 0]) ∧ Od w' w.heap.size none n [] ∧ Touch [] w w' := by
  have HM := mayBe23 w n
  rw [decide_eq_true h, decide_eq_true h2] at HM
  simp only [Bool.and_self] at HM
  go_enter Try.func29, Try.ntmps29
  go_wp2_with (go_at_call 56; refine HM.mono ?_; rintro e w2 ⟨rfl, rfl⟩)
  exact bodyPost_ret (v := .tuple #[PT w2.heap.size, .int .i64 0]) (by simp [results, Try.results29, go_sem, PT]) rfl ⟨rfl, ⟨⟨heap_alloc_new w2 _, trivial, by simp⟩, by simp, fun e he => by (cases he), Or.inl ⟨rfl, rfl⟩⟩, (Touch.refl _ _).alloc _⟩
theorem new6_no (w : World) (n : Int) (h : ¬ (0 ≤ n ∧ n ≤ 65536)) : Calls Try.prog 29 #[.int .i64 n] w fun e w' => e = .returned (.tuple #[.pointer none, .int .i64 1]) ∧ w' = w := by
  have HM := mayBe23 w n
  have hb : (decide (0 ≤ n) && decide (n ≤ 65536)) = false := by simp; omega
  rw [hb] at HM
  go_enter Try.func29, Try.ntmps29
  go_wp2_with (go_at_call 56; refine HM.mono ?_; rintro e w2 ⟨rfl, rfl⟩)
  exact bodyPost_ret (v := .tuple #[.pointer none, .int .i64 1]) (by simp [results, Try.results29, go_sem]) rfl ⟨rfl, rfl⟩
theorem len20 (w : World) (o : Nat) (m : Option Nat) (most : Int) (L : List E) (h : Od w o m most L) : Calls Try.prog 72 #[PT o] w fun e w' => e = .returned (.int .i64 L.length) ∧ w' = w := by
  have c1 := h.ln.oc.c1
  have hl := h.len
  clear h
  generalize (L.length : Int) = n at *
  unfold PT
  go_enter Try.func72, Try.ntmps72
  go_wp2
  go_ret
  exact ⟨rfl, rfl⟩
theorem oldest16_nil (w : World) (o : Nat) (m : Option Nat) (most : Int) (h : Od w o m most []) : Calls Try.prog 78 #[PT o] w fun e w' => e = .returned (.tuple #[.agg #[.int .u16 0, .string ⟨#[]⟩], .bool false]) ∧ Touch [] w w' := by
  have HL : Hid (∀ w', Touch [] w w' → Calls Try.prog 72 #[.pointer (some ⟨o, 0, none⟩)] w' fun e w'' => e = .returned (.int .i64 0) ∧ w'' = w') := fun w' t => len20 w' o m most [] (h.keep0 t)
  clear h
  unfold PT
  go_enter Try.func78, Try.ntmps78
  go_wp2_with (go_at_call 72; refine (HL.out _ ((Touch.refl _ _).alloc _)).mono ?_; rintro e w2 ⟨rfl, rfl⟩)
  refine bodyPost_ret (v := .tuple #[.agg #[.int .u16 0, .string ⟨#[]⟩], .bool false]) (by simp [results, Try.results78, go_sem]) rfl ⟨rfl, ?_⟩
  exact (Touch.refl _ _).alloc _
theorem oldest16_cons (w : World) (o : Nat) (m : Option Nat) (most : Int) (x : E) (L : List E) (hl : L.length < 100000) (h : Od w o m most (x :: L)) : Calls Try.prog 78 #[PT o] w fun e w' => e = .returned (.tuple #[kv x.1, .bool true]) ∧ Touch [] w w' := by
  have HL : Hid (∀ w', Touch [] w w' → Calls Try.prog 72 #[.pointer (some ⟨o, 0, none⟩)] w' fun e w'' => e = .returned (.int .i64 (x :: L).length) ∧ w'' = w') := fun w' t => len20 w' o m most (x :: L) (h.keep0 t)
  have hne : (((x :: L).length : Int) == 0) = false := by simp; omega
  have ho := h.ln.oc.lt
  have c2 := h.ln.oc.c2
  have hn := h.ln.sg.1
  have hx := hn.lt
  have n0 := hn.c0
  have n1 := hn.c1
  unfold PP at c2
  simp only [hd, Option.map_some] at c2
  clear h hn
  generalize ((x :: L).length : Int) = n at *
  unfold PT kv
  go_enter Try.func78, Try.ntmps78
  go_wp2_with (go_at_call 72; refine (HL.out _ ((Touch.refl _ _).alloc _)).mono ?_; rintro e w2 ⟨rfl, rfl⟩)
  refine bodyPost_ret (v := .tuple #[.agg #[.int .u16 x.1.1, .string x.1.2], .bool true]) (by simp [results, Try.results78, go_sem]) rfl ⟨rfl, ?_⟩
  exact (Touch.refl _ _).alloc _
theorem has19_yes (w : World) (o : Nat) (m : Option Nat) (most : Int) (L : List E) (e : E) (he : e ∈ L) (h : Od w o m most L) : Calls Try.prog 66 #[PT o, kv e.1] w fun x w' => x = .returned (.bool true) ∧ Touch [] w w' := by
  have hl : ∀ n, (Instr.lookup 124 (.map m) (kv e.1) false).run Try.prog ((w.alloc (.cells #[.int .u16 e.1.1, .string e.1.2] 39)).drewN n) = .ok (PT e.2) ((w.alloc (.cells #[.int .u16 e.1.1, .string e.1.2] 39)).drewN n) := fun n => (h.keep0 (((Touch.refl _ _).alloc _).drewN n)).look_yes he
  have c1 := (h.keep0 ((Touch.refl _ _).alloc (.cells #[.int .u16 e.1.1, .string e.1.2] 39))).ln.oc.c1
  unfold PT kv at *
  clear h
  go_enter Try.func66, Try.ntmps66
  go_wp2
  go_quiet (fail)
  go_wp2
  go_ret
  exact ⟨rfl, ((Touch.refl _ _).alloc _).drewN _⟩
theorem has19_no (w : World) (o : Nat) (m : Option Nat) (most : Int) (L : List E) (k : K) (hk : Ok k) (hn : ¬ k ∈ L.map Prod.fst) (h : Od w o m most L) : Calls Try.prog 66 #[PT o, kv k] w fun x w' => x = .returned (.bool false) ∧ Touch [] w w' := by
  have hl : ∀ n, (Instr.lookup 124 (.map m) (kv k) false).run Try.prog ((w.alloc (.cells #[.int .u16 k.1, .string k.2] 39)).drewN n) = .ok (.pointer none) ((w.alloc (.cells #[.int .u16 k.1, .string k.2] 39)).drewN n) := fun n => (h.keep0 (((Touch.refl _ _).alloc _).drewN n)).look_no hk hn
  have c1 := (h.keep0 ((Touch.refl _ _).alloc (.cells #[.int .u16 k.1, .string k.2] 39))).ln.oc.c1
  unfold PT kv at *
  clear h
  go_enter Try.func66, Try.ntmps66
  go_wp2
  go_quiet (fail)
  go_wp2
  go_ret
  exact ⟨rfl, ((Touch.refl _ _).alloc _).drewN _⟩
end Go.Proofs.Ytopepalpmkeffaa
