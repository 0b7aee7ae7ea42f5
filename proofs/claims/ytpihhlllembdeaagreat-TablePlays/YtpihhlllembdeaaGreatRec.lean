/- A record in memory: its block, the line of callers and the map of their places; what a step may touch. -/
import Derived.Test.YtpihhlllembdeaaGreatThy
namespace Go.Proofs.YtpihhlllembdeaaGreat
open Go.RowKit Go.Maps Go.ChangeMaps
set_option linter.unusedVariables false
def rc (R : Rn) (sl mp : Value) (k c e : Bool) (o : O) : Array Value := #[.int .i64 R.run, .int .u16 R.sp, .string R.nm, .int .i64 R.gen, .bool R.rf, sl, mp, .bool k, .bool c, .bool e, .int .i64 o.1, .int .i64 o.2.1, .int .i64 o.2.2.1, .int .i64 o.2.2.2]
def rv (R : Rn) : Value := .agg #[.int .i64 R.run, .int .u16 R.sp, .string R.nm, .int .i64 R.gen, .bool R.rf]
def PL (b : Nat) : Value := .pointer (some ⟨b, 5, none⟩)
structure Rc (w : World) (b : Nat) (R : Rn) (sl mp : Value) (k c e : Bool) (o : O) : Prop where
  bl : w.heap[b]? = some (.cells (rc R sl mp k c e o) 135 (0, 0))
/-- The cells of a record's block, each for itself. -/
structure Rcs (w : World) (b : Nat) (R : Rn) (sl mp : Value) (k c e : Bool) (o : O) : Prop where
  c0 : w.cell? ⟨b, 0, none⟩ = some (.int .i64 R.run)
  c1 : w.cell? ⟨b, 1, none⟩ = some (.int .u16 R.sp)
  c2 : w.cell? ⟨b, 2, none⟩ = some (.string R.nm)
  c3 : w.cell? ⟨b, 3, none⟩ = some (.int .i64 R.gen)
  c4 : w.cell? ⟨b, 4, none⟩ = some (.bool R.rf)
  c5 : w.cell? ⟨b, 5, none⟩ = some sl
  c6 : w.cell? ⟨b, 6, none⟩ = some mp
  c7 : w.cell? ⟨b, 7, none⟩ = some (.bool k)
  c8 : w.cell? ⟨b, 8, none⟩ = some (.bool c)
  c9 : w.cell? ⟨b, 9, none⟩ = some (.bool e)
  c10 : w.cell? ⟨b, 10, none⟩ = some (.int .i64 o.1)
  c11 : w.cell? ⟨b, 11, none⟩ = some (.int .i64 o.2.1)
  c12 : w.cell? ⟨b, 12, none⟩ = some (.int .i64 o.2.2.1)
  c13 : w.cell? ⟨b, 13, none⟩ = some (.int .i64 o.2.2.2)
section
variable {w w' : World} {b : Nat} {R : Rn} {sl mp : Value} {k c e : Bool} {o : O}
theorem Rc.lt (h : Rc w b R sl mp k c e o) : b < w.heap.size := block_lt h.bl
theorem Rc.cs (h : Rc w b R sl mp k c e o) : Rcs w b R sl mp k c e o :=
  ⟨cell_at h.bl rfl, cell_at h.bl rfl, cell_at h.bl rfl, cell_at h.bl rfl, cell_at h.bl rfl, cell_at h.bl rfl, cell_at h.bl rfl, cell_at h.bl rfl, cell_at h.bl rfl, cell_at h.bl rfl, cell_at h.bl rfl, cell_at h.bl rfl, cell_at h.bl rfl, cell_at h.bl rfl⟩
theorem Rc.fz (h : Rc w b R sl mp k c e o) (j : Nat) : w.frozen? ⟨b, j, none⟩ = false := froz_at h.bl j
theorem Rc.keep {F : List Nat} (h : Rc w b R sl mp k c e o) (T : Touch F w w') (hb : ¬ b ∈ F) : Rc w' b R sl mp k c e o := ⟨T.keep h.bl hb⟩
theorem Rc.set5 (h : Rc w b R sl mp k c e o) (v : Value) : Rc (w.setCell ⟨b, 5, none⟩ v) b R v mp k c e o := ⟨bset h.bl v⟩
theorem Rc.set6 (h : Rc w b R sl mp k c e o) (v : Value) : Rc (w.setCell ⟨b, 6, none⟩ v) b R sl v k c e o := ⟨bset h.bl v⟩
theorem Rc.set7 (h : Rc w b R sl mp k c e o) (v : Bool) : Rc (w.setCell ⟨b, 7, none⟩ (.bool v)) b R sl mp v c e o := ⟨bset h.bl _⟩
theorem Rc.set8 (h : Rc w b R sl mp k c e o) (v : Bool) : Rc (w.setCell ⟨b, 8, none⟩ (.bool v)) b R sl mp k v e o := ⟨bset h.bl _⟩
theorem Rc.set9 (h : Rc w b R sl mp k c e o) (v : Bool) : Rc (w.setCell ⟨b, 9, none⟩ (.bool v)) b R sl mp k c v o := ⟨bset h.bl _⟩
end
def Mp (w : World) (m : Option Nat) (cs : List Int) : Prop := (m = none ∧ cs = []) ∨ ∃ d, m = some d ∧ MapAt w d (wl cs).length (plv cs)
structure Ln (w : World) (sl : Value) (m : Option Nat) (cs : List Int) : Prop where
  row : w.ownsRow 0 3 1 sl cs.length (ints cs)
  mp : Mp w m cs
  ok : Okc cs
def fpR (b : Nat) (sl : Value) (m : Option Nat) : List Nat := b :: (sl.ownBlock.toList ++ m.toList)
theorem mem_fpR {b : Nat} {sl : Value} {m : Option Nat} {k : Nat} : k ∈ fpR b sl m ↔ k = b ∨ sl.ownBlock = some k ∨ m = some k := by
  simp [fpR]
section
variable {w w' : World} {b : Nat} {R : Rn} {sl : Value} {m : Option Nat} {cs : List Int} {k c e : Bool} {o : O} {F : List Nat}
theorem mapAt_kind {d n : Nat} {f : Int → Option Value} (h : MapAt w d n f) : ∃ es cl, w.heap[d]? = some (.map es cl) := by
  obtain ⟨D, ⟨es, cl, hb, _⟩, _⟩ := h
  exact ⟨es, cl, hb⟩
theorem Mp.kind (h : Mp w m cs) {d : Nat} (hd : m = some d) : ∃ es cl, w.heap[d]? = some (.map es cl) := by
  rcases h with ⟨h, _⟩ | ⟨d', hd', hm⟩
  · rw [h] at hd; cases hd
  · rw [hd'] at hd; cases hd; exact mapAt_kind hm
theorem Mp.lt (h : Mp w m cs) {d : Nat} (hd : m = some d) : d < w.heap.size := by
  obtain ⟨es, cl, h1⟩ := h.kind hd
  exact block_lt h1
theorem Mp.keep (h : Mp w m cs) (T : Touch F w w') (hF : ∀ d, m = some d → ¬ d ∈ F) : Mp w' m cs := by
  rcases h with h | ⟨d, hd, hm⟩
  · exact Or.inl h
  · exact Or.inr ⟨d, hd, hm.kept (T.block d hm.lt (hF d hd))⟩
theorem Ln.keep (h : Ln w sl m cs) (T : Touch F w w') (h1 : ∀ d, sl.ownBlock = some d → ¬ d ∈ F) (h2 : ∀ d, m = some d → ¬ d ∈ F) : Ln w' sl m cs :=
  ⟨own_touch h.row T h1, h.mp.keep T h2, h.ok⟩
theorem Ln.keep0 (h : Ln w sl m cs) (T : Touch [] w w') : Ln w' sl m cs := h.keep T (fun _ _ e => by cases e) (fun _ _ e => by cases e)
theorem Ln.nil (w : World) : Ln w (.slice none 0 0) none [] := ⟨World.ownsRow_nil _ _ _ _, Or.inl ⟨rfl, rfl⟩, Okc.nil⟩
/-- The line's blocks are not the record's. -/
theorem row_ne (h : Rc w b R sl (.map m) k c e o) {v : Value} {n : Nat} {xs : List Value} {B : Nat} (hr : w.ownsRow B 3 1 v n xs) {d : Nat} (hd : v.ownBlock = some d) : d ≠ b := fun e' => by
  obtain ⟨cur, hc⟩ := own_kind hr hd
  subst e'
  rw [h.bl] at hc
  simp at hc
theorem map_ne (h : Rc w b R sl (.map m) k c e o) (hm : Mp w m cs) {d : Nat} (hd : m = some d) : d ≠ b := fun e' => by
  obtain ⟨es, cl, hc⟩ := hm.kind hd
  subst e'
  rw [h.bl] at hc
  simp at hc
theorem row_map {v : Value} {n : Nat} {xs : List Value} {B : Nat} (hr : w.ownsRow B 3 1 v n xs) (hm : Mp w m cs) {d d' : Nat} (hd : v.ownBlock = some d) (hd' : m = some d') : d ≠ d' := fun e' => by
  obtain ⟨cur, hc⟩ := own_kind hr hd
  obtain ⟨es, cl, hc'⟩ := hm.kind hd'
  subst e'
  rw [hc] at hc'
  simp at hc'
structure Rl (w : World) (b : Nat) (R : Rn) (k c e : Bool) (o : O) (sl : Value) (m : Option Nat) (cs : List Int) : Prop where
  rc : Rc w b R sl (.map m) k c e o
  ln : Ln w sl m cs
theorem Rl.lt (h : Rl w b R k c e o sl m cs) : ∀ d, d ∈ fpR b sl m → d < w.heap.size := fun d hd => by
  rcases mem_fpR.1 hd with e | e | e
  · subst e; exact h.rc.lt
  · exact (h.ln.row.lt d e).2
  · exact h.ln.mp.lt e
theorem Rl.keep (h : Rl w b R k c e o sl m cs) (T : Touch F w w') (hF : ∀ d, d ∈ fpR b sl m → ¬ d ∈ F) : Rl w' b R k c e o sl m cs :=
  ⟨h.rc.keep T (hF b (mem_fpR.2 (Or.inl rfl))), h.ln.keep T (fun d hd => hF d (mem_fpR.2 (Or.inr (Or.inl hd)))) (fun d hd => hF d (mem_fpR.2 (Or.inr (Or.inr hd))))⟩
theorem Rl.keep0 (h : Rl w b R k c e o sl m cs) (T : Touch [] w w') : Rl w' b R k c e o sl m cs := h.keep T (fun _ _ e => by cases e)
/-- The line of a record behind a step. -/
def LnE (w w' : World) (b : Nat) (R : Rn) (k c e : Bool) (o : O) (F : List Nat) (cs : List Int) : Prop := ∃ sl m, Rl w' b R k c e o sl m cs ∧ Touch F w w' ∧ Nf w F (fpR b sl m)
end
end Go.Proofs.YtpihhlllembdeaaGreat
