/- Who is ready, in memory, and the contracts of the small functions: Has, Len, Turns, All, Told, New; no conditions but those that each states. -/
import Derived.Test.YthpkkfmphoopnaaJth
import Derived.Test.YthpkkfmphoopnaaJrw
import Derived.Test.YthpkkfmphoopnaaMpg
namespace Go.Proofs.Ythpkkfmphoopnaa.Re
open Go.RowKit Go.Maps Go.ChangeMaps
set_option linter.unusedVariables false
set_option linter.unusedSimpArgs false
def rc (S : Rz) (v u : Value) (m : Option Nat) (t : Value) : Array Value := #[.int .i64 S.pol, .int .u64 (S.st : Int), v, u, .map m, t]
def kmap (G : List Int) (t : Int) : Option Value := if t ∈ G then some (.agg #[]) else none
def Mp (w : World) (m : Option Nat) (l : List Int) : Prop := (m = none ∧ l = []) ∨ ∃ d, m = some d ∧ MapK KI w d l.length (kmap l)
structure Rm (w : World) (b : Nat) (v u : Value) (m : Option Nat) (t : Value) (S : Rz) : Prop where
  hb : w.heap[b]? = some (.cells (rc S v u m t) 59 (0, 0))
  pk : Ow w 0 v S.pk
  ln : Ow w 0 u S.ln
  mp : Mp w m S.ln
  tl : Ow w 0 t S.tl
  vu : ∀ q, v.ownBlock = some q → u.ownBlock ≠ some q
  vt : ∀ q, v.ownBlock = some q → t.ownBlock ≠ some q
  ut : ∀ q, u.ownBlock = some q → t.ownBlock ≠ some q
def fpR (b : Nat) (v u : Value) (m : Option Nat) (t : Value) : List Nat := b :: (v.ownBlock.toList ++ u.ownBlock.toList ++ m.toList ++ t.ownBlock.toList)
theorem mem_fpR {b : Nat} {v u : Value} {m : Option Nat} {t : Value} {q : Nat} : q ∈ fpR b v u m t ↔ q = b ∨ v.ownBlock = some q ∨ u.ownBlock = some q ∨ m = some q ∨ t.ownBlock = some q := by
  unfold fpR
  simp only [List.mem_cons, List.mem_append, Option.mem_toList, or_assoc]
def Rq (w : World) (b : Nat) (F : List Nat) (S : Rz) (N : Nat) : Prop := ∃ v u m t, F = fpR b v u m t ∧ Rm w b v u m t S ∧ Iv S N
section
variable {w w' : World} {b : Nat} {v u t : Value} {m : Option Nat} {S : Rz} {F G : List Nat} {N : Nat}
theorem Mp.keep {l : List Int} (h : Mp w m l) (T : Touch G w w') (hn : ∀ q, m = some q → ¬ q ∈ G) : Mp w' m l := by
  rcases h with h | ⟨d, rfl, h⟩
  · exact Or.inl h
  · exact Or.inr ⟨d, rfl, h.keep T (hn d rfl)⟩
theorem Mp.kind {l : List Int} (h : Mp w m l) {q : Nat} (hq : m = some q) : ∃ es cl, w.heap[q]? = some (.map es cl) := by
  rcases h with ⟨rfl, _⟩ | ⟨d, rfl, h⟩
  · cases hq
  · cases hq; exact h.kind
theorem Rm.lt (h : Rm w b v u m t S) : b < w.heap.size := block_lt h.hb
theorem Rm.keep (h : Rm w b v u m t S) (T : Touch G w w') (hn : ∀ q, q ∈ fpR b v u m t → ¬ q ∈ G) : Rm w' b v u m t S :=
  ⟨T.keep h.hb (hn b (mem_fpR.2 (Or.inl rfl))), h.pk.keep T (fun q hq => hn q (mem_fpR.2 (Or.inr (Or.inl hq)))), h.ln.keep T (fun q hq => hn q (mem_fpR.2 (Or.inr (Or.inr (Or.inl hq))))), h.mp.keep T (fun q hq => hn q (mem_fpR.2 (Or.inr (Or.inr (Or.inr (Or.inl hq)))))), h.tl.keep T (fun q hq => hn q (mem_fpR.2 (Or.inr (Or.inr (Or.inr (Or.inr hq)))))), h.vu, h.vt, h.ut⟩
theorem Rm.keep0 (h : Rm w b v u m t S) (T : Touch [] w w') : Rm w' b v u m t S := h.keep T (fun _ _ e => by cases e)
theorem ow_ne {B : Nat} {xs : List Int} {x : Value} (h : Ow w B x xs) {cs : Array Value} {ty : TypeId} {fr : Nat × Nat} (hb : w.heap[b]? = some (.cells cs ty fr)) (ht : ty ≠ 3) : x.ownBlock ≠ some b := fun e => by
  obtain ⟨c, hc⟩ := h.kind e
  rw [hb] at hc
  simp only [Option.some.injEq, Obj.cells.injEq] at hc
  exact ht hc.2.1
theorem ow_nm {B : Nat} {xs l : List Int} {x : Value} (h : Ow w B x xs) (hm : Mp w m l) : ∀ q, x.ownBlock = some q → m ≠ some q := fun q hq e => by
  obtain ⟨c, hc⟩ := h.kind hq
  obtain ⟨es, cl, hd⟩ := hm.kind e
  rw [hc] at hd
  cases hd
theorem mp_ne {l : List Int} (hm : Mp w m l) {cs : Array Value} {ty : TypeId} {fr : Nat × Nat} (hb : w.heap[b]? = some (.cells cs ty fr)) : m ≠ some b := fun e => by
  obtain ⟨es, cl, hd⟩ := hm.kind e
  rw [hb] at hd
  cases hd
theorem Rm.ub (h : Rm w b v u m t S) : u.ownBlock ≠ some b := ow_ne h.ln h.hb (by decide)
theorem Rm.vb (h : Rm w b v u m t S) : v.ownBlock ≠ some b := ow_ne h.pk h.hb (by decide)
theorem Rm.tb (h : Rm w b v u m t S) : t.ownBlock ≠ some b := ow_ne h.tl h.hb (by decide)
theorem Rm.mb (h : Rm w b v u m t S) : m ≠ some b := mp_ne h.mp h.hb
theorem Rm.all (h : Rm w b v u m t S) : ∀ q, q ∈ fpR b v u m t → q < w.heap.size := fun q hq => by
  rcases mem_fpR.1 hq with e | e | e | e | e
  · rw [e]; exact h.lt
  · exact (h.pk.lt e).2
  · exact (h.ln.lt e).2
  · obtain ⟨es, cl, hd⟩ := h.mp.kind e
    exact block_lt hd
  · exact (h.tl.lt e).2
theorem Rq.keep (h : Rq w b F S N) (T : Touch G w w') (hn : ∀ q, q ∈ F → ¬ q ∈ G) : Rq w' b F S N := by
  obtain ⟨v, u, m, t, rfl, h1, h2⟩ := h
  exact ⟨v, u, m, t, rfl, h1.keep T hn, h2⟩
theorem Rq.keep0 (h : Rq w b F S N) (T : Touch [] w w') : Rq w' b F S N := h.keep T (fun _ _ e => by cases e)
theorem Rq.lt (h : Rq w b F S N) : ∀ q, q ∈ F → q < w.heap.size := by
  obtain ⟨v, u, m, t, rfl, h1, h2⟩ := h
  exact h1.all
theorem Rq.mono (h : Rq w b F S N) {M : Nat} (hm : N ≤ M) : Rq w b F S M := by
  obtain ⟨v, u, m, t, rfl, h1, h2⟩ := h
  exact ⟨v, u, m, t, rfl, h1, h2.mono hm⟩
theorem Rq.mem (h : Rq w b F S N) : b ∈ F := by
  obtain ⟨v, u, m, t, rfl, h1, h2⟩ := h
  exact mem_fpR.2 (Or.inl rfl)
theorem Rq.iv (h : Rq w b F S N) : Iv S N := by
  obtain ⟨v, u, m, t, rfl, h1, h2⟩ := h
  exact h2
/-- What a step leaves. -/
def RqE (w w' : World) (b : Nat) (F : List Nat) (S : Rz) (N : Nat) : Prop := ∃ F', Rq w' b F' S N ∧ Touch F w w' ∧ Nf w F F'
theorem len_ (h : Rm w b v u m t S) : Calls Try.prog 26 #[PT b] w fun e w' => e = .returned (.int .i64 (S.ln.length : Int)) ∧ w' = w := by
  obtain ⟨a, c, rfl, _⟩ := h.ln.form
  have c3 := cell_at (j := 3) (v := .slice a S.ln.length c) h.hb rfl
  clear h
  unfold PT
  go_enter Try.func26, Try.ntmps26
  go_wp2
  go_ret
  exact ⟨rfl, rfl⟩
theorem turns_ (h : Rm w b v u m t S) : Calls Try.prog 23 #[PT b] w fun e w' => e = .returned (.int .i64 (S.tl.length : Int)) ∧ w' = w := by
  obtain ⟨a, c, rfl, _⟩ := h.tl.form
  have c5 := cell_at (j := 5) (v := .slice a S.tl.length c) h.hb rfl
  clear h
  unfold PT
  go_enter Try.func23, Try.ntmps23
  go_wp2
  go_ret
  exact ⟨rfl, rfl⟩
def CpE (e : Ending) (w w' : World) (xs : List Int) : Prop := ∃ a c, e = .returned (.slice a xs.length c) ∧ Ow w' w.heap.size (.slice a xs.length c) xs ∧ Touch [] w w'
theorem copied_ (w : World) (v : Value) (xs : List Int) (h : Ra w v xs) (hl : xs.length ≤ 17592186044416) : Calls Try.prog 27 #[v] w fun e w' => CpE e w w' xs := by
  have HA := hid h
  have HL := hid hl
  have HE : Hid (∀ v' w', Ow w' w.heap.size v' ([] ++ xs) → Touch (Value.slice none 0 0).ownBlock.toList w w' → ∃ a c, v' = .slice a xs.length c ∧ CpE (.returned (.slice a xs.length c)) w w' xs) := fun v' w' q1 q2 => by
    rw [List.nil_append] at q1
    obtain ⟨a, c, rfl, _⟩ := q1.form
    exact ⟨a, c, rfl, a, c, rfl, q1, q2⟩
  obtain ⟨a, c, rfl, _⟩ := h.form
  clear h hl
  go_enter Try.func27, Try.ntmps27
  go_wp2_with (at_builtin; refine wpList_append_ow rfl _ _ rfl w.heap.size (.slice none 0 0) [] rfl (Ow.nil _ _) _ xs rfl HA.out (by have := HL.out; simpa using this) (Nat.le_refl _) ?_; intro v5 w5 o5 t5 e5; obtain ⟨a5, c5, rfl, q5⟩ := HE.out _ _ o5 t5; have Q5 := hid q5; clear o5 t5 e5 q5)
  go_ret
  exact Q5.out
theorem all_ (h : Rm w b v u m t S) (hv : Iv S N) : Calls Try.prog 22 #[PT b] w fun e w' => CpE e w w' S.ln := by
  have HC := hid (copied_ w u S.ln h.ln.ra (by have := hv.l1; omega))
  obtain ⟨a, c, rfl, _⟩ := h.ln.form
  have c3 := cell_at (j := 3) (v := .slice a S.ln.length c) h.hb rfl
  clear h hv
  unfold PT
  go_enter Try.func22, Try.ntmps22
  go_wp2_with (go_at_call 27; refine HC.out.mono ?_; rintro e w2 ⟨a2, c2, rfl, q1, q2⟩; have Q := hid (And.intro q1 q2); clear q1 q2)
  go_ret
  exact ⟨_, _, rfl, Q.out.1, Q.out.2⟩
theorem told_ (h : Rm w b v u m t S) (hv : Iv S N) (hN : N ≤ 17592186044416) : Calls Try.prog 21 #[PT b] w fun e w' => CpE e w w' S.tl := by
  have HC := hid (copied_ w t S.tl h.tl.ra (by have := hv.t1; omega))
  obtain ⟨a, c, rfl, _⟩ := h.tl.form
  have c5 := cell_at (j := 5) (v := .slice a S.tl.length c) h.hb rfl
  clear h hv
  unfold PT
  go_enter Try.func21, Try.ntmps21
  go_wp2_with (go_at_call 27; refine HC.out.mono ?_; rintro e w2 ⟨a2, c2, rfl, q1, q2⟩; have Q := hid (And.intro q1 q2); clear q1 q2)
  go_ret
  exact ⟨_, _, rfl, Q.out.1, Q.out.2⟩
theorem has_ (h : Rm w b v u m t S) (x : Int) (hx : W64 x) : Calls Try.prog 24 #[PT b, .int .i64 x] w fun e w' => e = .returned (.bool (decide (x ∈ S.ln))) ∧ Touch [] w w' := by
  have c4 := cell_at (j := 4) (v := .map m) h.hb rfl
  have hz : ∀ w : World, (zeroValue 67).run Try.prog w = .ok (.agg #[]) w := fun w => by kernel_rfl
  have hL : (Instr.lookup 57 (.map m) (.int .i64 x) true).run Try.prog w = .ok (.tuple #[.agg #[], .bool (decide (x ∈ S.ln))]) w := (by
    rcases h.mp with ⟨rfl, e⟩ | ⟨d, rfl, hm⟩
    · have := Maps.look_nil (P := Try.prog) (w := w) true KI.keyed Try.underlying57 (hz w) (KI.key hx)
      rw [e]
      simpa [KI] using this
    · have := hm.lookOk Try.underlying57 (hz w) (k := x) hx
      by_cases hi : x ∈ S.ln
      · simp [kmap, hi, KI] at this ⊢
        exact this
      · simp [kmap, hi, KI] at this ⊢
        exact this)
  generalize decide (x ∈ S.ln) = B at *
  clear h hz
  unfold PT
  go_enter Try.func24, Try.ntmps24
  go_wp2
  go_ret
  exact ⟨rfl, (Touch.refl _ _).alloc _⟩
end
end Go.Proofs.Ythpkkfmphoopnaa.Re
