/- Of every schedule and every list of acts: who is ready, is picked and rests as in the document's list: the walk of the law ReadyPlays; lengths are within the form's reach. -/
import Derived.Test.YthpkkfmphoopnaaJpx
namespace Go.Proofs.Ythpkkfmphoopnaa.Re
open Go.RowKit Go.Maps Go.ChangeMaps
set_option linter.unusedVariables false
set_option linter.unusedSimpArgs false
/-- What stands between two acts. -/
def Lz (w : World) (M b N : Nat) (wx : World) : Prop := ∃ F S a1 n1 c1 a2 n2 c2 a3 n3 c3, Lv w M b N F S S (.slice a1 n1 c1) (.slice a2 n2 c2) (.slice a3 n3 c3) wx ∧ wx.heap[M]? = some (.cells (dvc S (.slice a1 n1 c1) (.slice a2 n2 c2) (.slice a3 n3 c3)) 32 (0, 0))
theorem Lz.t {w wx : World} {M b N : Nat} (h : Lz w M b N wx) : Touch [] w wx := by
  obtain ⟨F, S, a1, n1, c1, a2, n2, c2, a3, n3, c3, h1, h2⟩ := h
  exact h1.t
theorem lz_start {w w2 w3 w4 w7 wr W5 : World} {b n : Nat} {S : Rz} {u vin : Value} {B : Nat} (hS : S.ln = [] ∧ S.tl = []) (hB : w.heap.size < B) (T2 : Touch [] w w2) (hr : Rf w2 w3 b S 0) (T4 : Touch [] w3 w4) (hW5 : W5 = w4.alloc (.cells (dvc S u (.slice none 0 0) (.slice none 0 0)) 32)) (T7 : Touch [] W5 w7) (hu : Ra w u S.pk) (ho : Ow w2 B vin S.pk) (hl : Lo w7 wr B vin n) : Lz w w4.heap.size b 0 wr := by
  obtain ⟨F, q1, q2, q3⟩ := hr
  obtain ⟨ys, y1, y2, y3⟩ := hl
  obtain ⟨au, cu, eu, _⟩ := hu.form
  have hT45 : Touch [] w4 W5 := by rw [hW5]; exact (Touch.refl _ _).alloc _
  have hb5 : W5.heap[w4.heap.size]? = some (.cells (dvc S u (.slice none 0 0) (.slice none 0 0)) 32 (0, 0)) := by rw [hW5]; exact heap_alloc_new w4 _
  have hz : w.heap.size ≤ w2.heap.size ∧ w2.heap.size ≤ w3.heap.size ∧ w3.heap.size ≤ w4.heap.size := ⟨T2.size, q2.size, T4.size⟩
  have hin : ∀ q, vin.ownBlock = some q → B ≤ q ∧ q < w2.heap.size := fun q hq => ho.lt hq
  have hz7 : w4.heap.size < w7.heap.size := Nat.lt_of_lt_of_le (block_lt hb5) T7.size
  have T37 := T4.trans' (hT45.trans' T7)
  have hbr : wr.heap[w4.heap.size]? = some (.cells (dvc S u (.slice none 0 0) (.slice none 0 0)) 32 (0, 0)) := y3.keep (T7.keep hb5 (by simp)) (fun e => by have := (hin _ (by simpa using e)).2; omega)
  have TT : Touch [] w wr := (T2.trans' (q2.trans' T37)).trans y3 (fun q hq => Or.inr (by have := (hin q (by simpa using hq)).1; omega))
  have hur := hu.keep0 TT
  subst eu
  refine ⟨F, S, _, _, _, none, 0, 0, none, 0, 0, ⟨(q1.keep0 T37).keep y3 (fun q hq e => by have := q3 q hq; have := (hin q (by simpa using e)).2; omega), ⟨?_, ?_, ?_⟩, fun hp q hq e => ?_, fun hp => ?_, fun hp => ?_, fun q hq => by have := q3 q hq; omega, by omega, Nat.lt_of_lt_of_le hz7 y3.size, q1.iv, TT⟩, hbr⟩
  · rw [hS.2]; exact hur
  · rw [hS.1]; exact Ra.nil _
  · rw [hS.2]; exact Ra.nil _
  · rw [hS.2, List.length_nil, List.drop_zero] at hp
    have hlt := hu.blt hp hq
    rcases List.mem_cons.1 e with e | e
    · omega
    · have := q3 q e; omega
  · rw [hS.1] at hp; exact absurd hp (Nat.lt_irrefl 0)
  · rw [hS.2] at hp; exact absurd hp (Nat.lt_irrefl 0)
section
variable {w wx w2 : World} {M b N g : Nat} {F : List Nat} {S D : Rz} {p l t : Value}
/-- A copy goes its own way. -/
theorem clone_way (h : Lv w M b N F S S p l t wx) (hN : N ≤ 8796093022207) (x : Int) (hx : W64 x) : Calls Try.prog 16 #[PT b] wx fun e w2 => ∃ b2, e = .returned (PT b2) ∧ Touch [] wx w2 ∧ Calls Try.prog 17 #[PT b2, dvv S p l t, .int .i64 x] w2 fun e w3 => e = .returned (.bool true) ∧ Touch [] wx w3 ∧ Calls Try.prog 18 #[PT b2, .int .i64 x] w3 fun e w4 => ∃ k, e = .returned (.int .i64 k) ∧ Touch [] wx w4 ∧ Calls Try.prog 11 #[PT b2] w4 fun e w5 => ∃ k o, e = .returned (.tuple #[.int .i64 k, .bool o]) ∧ Touch [] wx w5 := by
  obtain ⟨pv, uv, mv, tv0, eF, hm, hv⟩ := h.rq
  refine (clone_ hm hv (by omega)).mono ?_
  rintro e w2 ⟨b2, F2, rfl, q1, q2, q3⟩
  refine ⟨b2, rfl, q2, ?_⟩
  refine (stands_ q1 (h.d.keep0 q2) (by omega) x hx).mono ?_
  rintro e w3 ⟨rfl, t3⟩
  refine ⟨rfl, q2.trans' t3, ?_⟩
  refine (wake_ (q1.keep0 t3) x hx).mono ?_
  rintro e w4 ⟨rfl, F4, r1, r2, r3⟩
  have t4 : Touch [] wx w4 := (q2.trans' t3).trans r2 (fun q hq => Or.inr (q3 q hq))
  have f4 : ∀ q, q ∈ F4 → wx.heap.size ≤ q := fun q hq => by
    have := (q2.trans' t3).size
    rcases r3 q hq with e | e
    · exact q3 q e
    · omega
  refine ⟨_, rfl, t4, ?_⟩
  refine (pick_ r1 (by omega)).mono ?_
  rintro e w5 ⟨rfl, F5, u1, u2, u3⟩
  exact ⟨_, _, rfl, t4.trans u2 (fun q hq => Or.inr (f4 q hq))⟩
end
end Go.Proofs.Ythpkkfmphoopnaa.Re
