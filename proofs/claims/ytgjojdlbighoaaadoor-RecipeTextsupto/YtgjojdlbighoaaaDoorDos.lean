/- One step of any recipe that may be, and steps until it waits or ends, done by the program; the conditions: the recipe may be and lies in memory, the state is ready, the key's space is a number of 16 bits. -/
import Derived.Test.YtgjojdlbighoaaaDoorDoo
namespace Go.Proofs.YtgjojdlbighoaaaDoor
open Go.RowKit Go.Sort
set_option linter.unusedVariables false

/-- what surrounds a loader -/
structure Ar where
  sp : Int
  nm : ByteArray
  r : Int
  cn : Bool
def Ar.ok (x : Ar) : Prop := 0 ≤ x.sp ∧ x.sp ≤ 65535 ∧ x.nm.size ≤ 9223372036854775800 ∧ I64 x.r
def Ar.f (x : Ar) (L : List Sp) : Nat → Int → Rs := stepS (hI x.sp x.nm) x.r x.cn L
theorem do31 (L : List Sp) (A : Option Addr) (c : Nat) (p : Nat) (n on : Int) (x : Ar) (w : World) (hs : Sl w A L) (hg : Good L) (hn : I64 n) (hp : p ≤ L.length) (hx : x.ok) :
    Calls Tryd.prog 31 #[.slice A L.length c, .agg #[.int .i64 p, .int .i64 n, .int .i64 0, .int .i64 on], .agg #[.int .u16 x.sp, .string x.nm, .int .i64 x.r, .bool x.cn]] w fun e w' => e = .returned (rsV (x.f L p n)) ∧ Gr w w' := by
  obtain ⟨sp, nm, r, cn⟩ := x
  obtain ⟨h1, h2, h3, _⟩ := hx
  show Calls Tryd.prog 31 #[.slice A L.length c, .agg #[.int .i64 p, .int .i64 n, .int .i64 0, .int .i64 on], .agg #[.int .u16 sp, .string nm, .int .i64 r, .bool cn]] w fun e w' => e = .returned (rsV (stepS (hI sp nm) r cn L p n)) ∧ Gr w w'
  by_cases he : p = L.length
  · rw [stepS_end (by omega)]
    exact do31_end L A c p n on sp nm r cn w he
  · have hlt : p < L.length := by omega
    obtain ⟨b, off, hA, c0, c1, c2⟩ := hs p hlt
    have hgt : L[p]? = some L[p] := List.getElem?_eq_getElem hlt
    have hm : may L[p] := hg.2 _ (List.getElem_mem hlt)
    generalize L[p] = z at *
    obtain ⟨op, a, y⟩ := z
    have hl := hg.1
    rw [stepS_at hgt]
    have hmay : may3 op a y := hm
    unfold may3 at hmay
    rcases hmay with ⟨rfl, _⟩ | ⟨rfl, k1, k2, _⟩ | ⟨rfl, _⟩ | ⟨rfl, _⟩ | ⟨rfl, k1, k2, _⟩ | ⟨rfl, k1, k2, _⟩ | ⟨rfl, k1, k2, _⟩ | ⟨rfl, _⟩ | ⟨rfl, k1, k2, k3, k4⟩ | ⟨rfl, _⟩ | ⟨rfl, _⟩ | ⟨rfl, _⟩
    · rw [stepO_1]; exact do31_1 L A c p n on sp nm r cn w b off hA a y c0 c1 c2 hlt hl
    · rw [stepO_2]; exact do31_2 L A c p n on sp nm r cn w b off hA a y c0 c1 c2 hlt hl k1 k2
    · rw [stepO_3]; exact do31_3 L A c p n on sp nm r cn w b off hA a y c0 c1 c2 hlt hl h1 h2 h3
    · rw [stepO_4]; exact do31_4 L A c p n on sp nm r cn w b off hA a y c0 c1 c2 hlt hl
    · rw [stepO_5]; exact do31_5 L A c p n on sp nm r cn w b off hA a y c0 c1 c2 hlt hl k1 k2
    · rw [stepO_6]; exact do31_6 L A c p n on sp nm r cn w b off hA a y c0 c1 c2 hlt hl
    · rw [stepO_7]; exact do31_7 L A c p n on sp nm r cn w b off hA a y c0 c1 c2 hlt hl
    · rw [stepO_8]
      cases cn with
      | true => exact do31_8y L A c p n on sp nm r true w b off hA a y c0 c1 c2 hlt hl rfl
      | false => exact do31_8n L A c p n on sp nm r false w b off hA a y c0 c1 c2 hlt hl rfl
    · rw [stepO_9]
      cases hk : skipI a n cn with
      | true =>
        rw [if_pos rfl]
        by_cases hm2 : (p : Int) + 1 + y ≤ (L.length : Int)
        · have e : ((min (p + 1 + y.toNat) L.length : Nat) : Int) = (p : Int) + 1 + y := by omega
          show Calls _ _ _ _ fun e w' => e = .returned (.tuple #[ckV ((min (p + 1 + y.toNat) L.length : Nat) : Int) n 0 0, otV 0 0 0 0, .bool false]) ∧ Gr w w'
          rw [e]
          exact do31_9a L A c p n on sp nm r cn w b off hA a y c0 c1 c2 hlt hl k3 k4 hn hk hm2
        · have e : ((min (p + 1 + y.toNat) L.length : Nat) : Int) = (L.length : Int) := by omega
          show Calls _ _ _ _ fun e w' => e = .returned (.tuple #[ckV ((min (p + 1 + y.toNat) L.length : Nat) : Int) n 0 0, otV 0 0 0 0, .bool false]) ∧ Gr w w'
          rw [e]
          exact do31_9b L A c p n on sp nm r cn w b off hA a y c0 c1 c2 hlt hl k3 k4 hn hk (by omega)
      | false =>
        rw [if_neg (by decide)]
        exact do31_9n L A c p n on sp nm r cn w b off hA a y c0 c1 c2 hlt hl hn hk
    · rw [stepO_10]; exact do31_10 L A c p n on sp nm r cn w b off hA a y c0 c1 c2 hlt hl
    · rw [stepO_11]; exact do31_11 L A c p n on sp nm r cn w b off hA a y c0 c1 c2 hlt hl
    · rw [stepO_12]; exact do31_12 L A c p n on sp nm r cn w b off hA a y c0 c1 c2 hlt hl
theorem xor_in (n h : Int) : I64 (bits .xor .i64 n h) := ⟨bits_lo_i64 _ _ _, bits_hi_i64 _ _ _⟩
theorem f_go {x : Ar} {L : List Sp} {p : Nat} {n : Int} {q : Nat} {m wt on : Int} (hL : Good L) (hw : WfS L) (hn : I64 n) (e : x.f L p n = .go q m wt on) :
    p < q ∧ q ≤ L.length ∧ I64 m ∧ (wt = 0 ∨ wt = 1 ∨ wt = 2) ∧ (wt = 2 → 0 ≤ on ∧ on ≤ 4611686018427387904) ∧ I64 on ∧ (wt = 0 → on = 0) := step_go hL hw hn e (xor_in _ _)
/-- four cells of a block, that may be written -/
structure Bx (w : World) (b : Nat) (v0 v1 v2 v3 : Value) : Prop where
  lt : b < w.heap.size
  c0 : w.cell? ⟨b, 0, none⟩ = some v0
  c1 : w.cell? ⟨b, 1, none⟩ = some v1
  c2 : w.cell? ⟨b, 2, none⟩ = some v2
  c3 : w.cell? ⟨b, 3, none⟩ = some v3
  f0 : w.frozen? ⟨b, 0, none⟩ = false
  f1 : w.frozen? ⟨b, 1, none⟩ = false
  f2 : w.frozen? ⟨b, 2, none⟩ = false
  f3 : w.frozen? ⟨b, 3, none⟩ = false
theorem Bx.gr {w w' : World} {b : Nat} {v0 v1 v2 v3 : Value} (h : Bx w b v0 v1 v2 v3) (hg : Gr w w') : Bx w' b v0 v1 v2 v3 :=
  ⟨Nat.lt_of_lt_of_le h.lt hg.size, hg.cell' h.c0, hg.cell' h.c1, hg.cell' h.c2, hg.cell' h.c3, hg.fz h.f0 h.lt, hg.fz h.f1 h.lt, hg.fz h.f2 h.lt, hg.fz h.f3 h.lt⟩
theorem sc_same {w : World} {b o : Nat} {u v : Value} (h : w.cell? ⟨b, o, none⟩ = some u) : (w.setCell ⟨b, o, none⟩ v).cell? ⟨b, o, none⟩ = some v := World.cell?_setCell_same _ _ _ h
theorem sc_off {w : World} {b o q : Nat} {v : Value} (h : o ≠ q) : (w.setCell ⟨b, o, none⟩ v).cell? ⟨b, q, none⟩ = w.cell? ⟨b, q, none⟩ := World.cell?_setCell_other _ _ _ _ (fun e => h (by cases e; rfl))
theorem sc_far {w : World} {b d o q : Nat} {v : Value} (h : b ≠ d) : (w.setCell ⟨b, o, none⟩ v).cell? ⟨d, q, none⟩ = w.cell? ⟨d, q, none⟩ := World.cell?_setCell_other _ _ _ _ (fun e => h (by cases e; rfl))
theorem size_set (w : World) (a : Addr) (v : Value) : (w.setCell a v).heap.size = w.heap.size := by
  have h1 := (Gr.refl w)
  simp
theorem Bx.set {w : World} {b : Nat} {v0 v1 v2 v3 : Value} (h : Bx w b v0 v1 v2 v3) (u0 u1 u2 u3 : Value) : Bx ((((w.setCell ⟨b, 0, none⟩ u0).setCell ⟨b, 1, none⟩ u1).setCell ⟨b, 2, none⟩ u2).setCell ⟨b, 3, none⟩ u3) b u0 u1 u2 u3 := by
  refine ⟨by rw [size_set, size_set, size_set, size_set]; exact h.lt, ?_, ?_, ?_, ?_, ?_, ?_, ?_, ?_⟩
  · rw [sc_off (by decide), sc_off (by decide), sc_off (by decide)]; exact sc_same h.c0
  · rw [sc_off (by decide), sc_off (by decide)]; exact sc_same (by rw [sc_off (by decide)]; exact h.c1)
  · rw [sc_off (by decide)]; exact sc_same (by rw [sc_off (by decide), sc_off (by decide)]; exact h.c2)
  · exact sc_same (by rw [sc_off (by decide), sc_off (by decide), sc_off (by decide)]; exact h.c3)
  · simp only [World.frozen?_setCell]; exact h.f0
  · simp only [World.frozen?_setCell]; exact h.f1
  · simp only [World.frozen?_setCell]; exact h.f2
  · simp only [World.frozen?_setCell]; exact h.f3
theorem Bx.far {w : World} {b d : Nat} {v0 v1 v2 v3 : Value} (h : Bx w d v0 v1 v2 v3) (hd : b ≠ d) (u0 u1 u2 u3 : Value) : Bx ((((w.setCell ⟨b, 0, none⟩ u0).setCell ⟨b, 1, none⟩ u1).setCell ⟨b, 2, none⟩ u2).setCell ⟨b, 3, none⟩ u3) d v0 v1 v2 v3 := by
  refine ⟨by rw [size_set, size_set, size_set, size_set]; exact h.lt, ?_, ?_, ?_, ?_, ?_, ?_, ?_, ?_⟩
  · rw [sc_far hd, sc_far hd, sc_far hd, sc_far hd]; exact h.c0
  · rw [sc_far hd, sc_far hd, sc_far hd, sc_far hd]; exact h.c1
  · rw [sc_far hd, sc_far hd, sc_far hd, sc_far hd]; exact h.c2
  · rw [sc_far hd, sc_far hd, sc_far hd, sc_far hd]; exact h.c3
  · simp only [World.frozen?_setCell]; exact h.f0
  · simp only [World.frozen?_setCell]; exact h.f1
  · simp only [World.frozen?_setCell]; exact h.f2
  · simp only [World.frozen?_setCell]; exact h.f3
theorem Gr.set4 {w0 w : World} {b : Nat} (h : Gr w0 w) (hb : w0.heap.size ≤ b) (u0 u1 u2 u3 : Value) : Gr w0 ((((w.setCell ⟨b, 0, none⟩ u0).setCell ⟨b, 1, none⟩ u1).setCell ⟨b, 2, none⟩ u2).setCell ⟨b, 3, none⟩ u3) :=
  (((h.setCell hb _).setCell hb _).setCell hb _).setCell hb _
end Go.Proofs.YtgjojdlbighoaaaDoor
