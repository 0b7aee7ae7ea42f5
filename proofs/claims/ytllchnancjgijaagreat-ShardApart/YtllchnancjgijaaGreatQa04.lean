/- What a batch is, in plain words: one state for the program's and the document's, and its steps; no conditions. -/
import Derived.Test.YtllchnancjgijaaGreatQa01
import Derived.Test.YtllchnancjgijaaGreatQa03
set_option linter.unusedVariables false
set_option linter.unusedSimpArgs false
set_option maxRecDepth 100000
namespace Go.Proofs.YtllchnancjgijaaGreat.Ba
open Go.RowKit Go.Maps Go.ChangeMaps
structure Bs where
 cnt : Int
 win : Int
 tim : Int
 lst : Int
 run : List Int
 snc : Int
 snt : Int
def aft (n d : Int) : Int := if 4611686018427387904 - n < d then 4611686018427387904 else n + d
def dueS (S : Bs) : Int := aft S.snc S.win
def wrongE (S : Bs) (n : Int) : Int := if n < 0 then 10 else if 4611686018427387904 < n then 10 else if n < S.tim then 50 else 0
def forceS (S : Bs) : Bs := if S.run = [] then S else { S with run := [], snt := S.snt + 1 }
def addE (S : Bs) (n x : Int) : Int := if wrongE S n ≠ 0 then wrongE S n else if x < 1 then 1 else if x ≤ S.lst then 130 else 0
def addM (S : Bs) (n x : Int) : Bs := { S with tim := n, lst := x, run := S.run ++ [x], snc := if S.run = [] then n else S.snc }
def addF (S : Bs) : Bool := decide (S.cnt ≤ ((S.run.length + 1 : Nat) : Int)) || decide (S.win = 0)
def addS (S : Bs) (n x : Int) : Bs := if addE S n x ≠ 0 then S else if addF S then forceS (addM S n x) else addM S n x
def addL (S : Bs) (n x : Int) : List Int := if addE S n x ≠ 0 then [] else if addF S then S.run ++ [x] else []
structure Iv (S : Bs) (N : Nat) : Prop where
 c1 : 1 ≤ S.cnt
 c2 : S.cnt ≤ 1024
 w1 : 0 ≤ S.win
 w2 : S.win ≤ 9223372036854775807
 t1 : 0 ≤ S.tim
 t2 : S.tim ≤ 4611686018427387904
 l1 : 0 ≤ S.lst
 l2 : W64 S.lst
 len : S.run.length < 1024
 inc : S.run.Pairwise (· < ·)
 le : ∀ x ∈ S.run, 1 ≤ x ∧ x ≤ S.lst
 s1 : 0 ≤ S.snc
 s2 : S.snc ≤ 4611686018427387904
 n1 : 0 ≤ S.snt
 n2 : S.snt ≤ (N : Int)
theorem wrong0 {S : Bs} {n : Int} (h : ¬ wrongE S n ≠ 0) : 0 ≤ n ∧ n ≤ 4611686018427387904 ∧ S.tim ≤ n := by
 unfold wrongE at h
 split at h
 ·simp at h
 ·split at h
  ·simp at h
  ·split at h
   ·simp at h
   ·omega
theorem add0 {S : Bs} {n x : Int} (h : ¬ addE S n x ≠ 0) : wrongE S n = 0 ∧ 1 ≤ x ∧ S.lst < x := by
 unfold addE at h
 split at h
 ·rename_i h1; exact absurd h1 h
 ·rename_i h1
  split at h
  ·simp at h
  ·split at h
   ·simp at h
   ·exact ⟨Decidable.not_not.1 h1, by omega, by omega⟩
theorem Iv.mono {S : Bs} {N M : Nat} (h : Iv S N) (hm : N ≤ M) : Iv S M := { h with n2 := by have := h.n2; omega }
theorem Iv.mid {S : Bs} {N : Nat} (h : Iv S N) {n x : Int} (hx : W64 x) (h0 : ¬ addE S n x ≠ 0) (hl : S.run.length + 1 < 1024) : Iv (addM S n x) N := by
 obtain ⟨h1, h2, h3⟩ := add0 h0
 obtain ⟨h4, h5, h6⟩ := wrong0 (by rw [h1]; simp : ¬ wrongE S n ≠ 0)
 refine { h with t1 := h4, t2 := h5, l1 := by show 0 ≤ x; omega, l2 := hx, len := by simpa [addM] using hl, inc := ?_, le := ?_, s1 := ?_, s2 := ?_ }
 ·show (S.run ++ [x]).Pairwise (· < ·)
  rw [List.pairwise_append]
  exact ⟨h.inc, by simp, fun a ha b hb => by simp only [List.mem_singleton] at hb; subst hb; have := (h.le a ha).2; omega⟩
 ·intro y hy
  have hy' : y ∈ S.run ++ [x] := hy
  show 1 ≤ y ∧ y ≤ x
  rcases List.mem_append.1 hy' with q | q
  ·have := h.le y q; omega
  ·simp only [List.mem_singleton] at q; omega
 ·show 0 ≤ if S.run = [] then n else S.snc
  split
  ·exact h4
  ·exact h.s1
 ·show (if S.run = [] then n else S.snc) ≤ 4611686018427387904
  split
  ·exact h5
  ·exact h.s2
theorem Iv.add {S : Bs} {N : Nat} (h : Iv S N) {n x : Int} (hx : W64 x) : Iv (addS S n x) (N + 1) := by
 unfold addS
 split
 ·exact h.mono (Nat.le_succ N)
 ·rename_i h0
  split
  ·obtain ⟨h1, h2, h3⟩ := add0 h0
   obtain ⟨h4, h5, h6⟩ := wrong0 (by rw [h1]; simp : ¬ wrongE S n ≠ 0)
   unfold forceS
   rw [if_neg (by simp [addM])]
   refine { h with t1 := h4, t2 := h5, l1 := by show 0 ≤ x; omega, l2 := hx, len := by simp, inc := by simp, le := by simp, s1 := ?_, s2 := ?_, n1 := by have := h.n1; show 0 ≤ S.snt + 1; omega, n2 := by have := h.n2; show S.snt + 1 ≤ _; omega }
   ·show 0 ≤ if S.run = [] then n else S.snc
    split
    ·exact h4
    ·exact h.s1
   ·show (if S.run = [] then n else S.snc) ≤ 4611686018427387904
    split
    ·exact h5
    ·exact h.s2
  ·rename_i hf
   refine (h.mid hx h0 ?_).mono (Nat.le_succ N)
   unfold addF at hf
   simp only [Bool.or_eq_true, decide_eq_true_eq, not_or] at hf
   have := h.c2
   omega
theorem due_mid {S : Bs} {n x : Int} : dueS (addM S n x) = if S.run = [] then aft n S.win else dueS S := by
 unfold dueS addM
 simp only
 split <;> rfl
end Go.Proofs.YtllchnancjgijaaGreat.Ba
/- The program's batch in memory, and the contracts of its small functions: ticks, Due, Sent, Force; no conditions but those that each states. -/
namespace Go.Proofs.YtllchnancjgijaaGreat.Ba
open Go.RowKit Go.Maps Go.ChangeMaps
def isT (t : Int) : Bool := decide (0 ≤ t) && decide (t ≤ 4611686018427387904)
theorem is_ (t : Int) (w : World) : Calls Tryz.prog 96 #[.int .i64 t] w fun e w' => e = .returned (.bool (isT t)) ∧ w' = w := by
 by_cases h0 : 0 ≤ t
 ·by_cases h1 : t ≤ 4611686018427387904
  ·go_enter Tryz.func96, Tryz.ntmps96
   go_wp2
   go_ret
   exact ⟨by simp [isT, h0, h1], rfl⟩
  ·go_enter Tryz.func96, Tryz.ntmps96
   go_wp2
   go_ret
   exact ⟨by simp [isT, h1], rfl⟩
 ·have hn : isT t = false := by simp [isT]; omega
  rw [hn]
  go_enter Tryz.func96, Tryz.ntmps96
  go_wp2
  go_ret
  exact ⟨rfl, rfl⟩
theorem isT_yes {t : Int} (h : 0 ≤ t) (h2 : t ≤ 4611686018427387904) : isT t = true := by unfold isT; simp; omega
theorem after_ (n d : Int) (w : World) (h1 : 0 ≤ n) (h2 : n ≤ 4611686018427387904) (h3 : 0 ≤ d) (h4 : d ≤ 9223372036854775807) : Calls Tryz.prog 179 #[.int .i64 n, .int .i64 d] w fun e w' => (∃ k, e = .returned (.tuple #[.int .i64 (aft n d), .bool k])) ∧ w' = w := by
 have H1 := is_ n
 rw [isT_yes h1 h2] at H1
 have hw : IntKind.i64.wrap (4611686018427387904 - n) = 4611686018427387904 - n := by simp [IntKind.wrap, IntKind.bits, IntKind.signed, IntKind.min, IntKind.max]; omega
 by_cases hz : 4611686018427387904 - n < d
 ·have e1 : aft n d = 4611686018427387904 := by unfold aft; rw [if_pos hz]
  rw [e1]
  clear e1
  go_enter Tryz.func179, Tryz.ntmps179
  go_wp2_with (go_at_call 96; refine (H1 _).mono ?_; rintro e w2 ⟨rfl, rfl⟩)
  exact bodyPost_ret (v := .tuple #[.int .i64 4611686018427387904, .bool false]) (by simp [results, Tryz.results179, go_sem]) rfl ⟨⟨_, rfl⟩, rfl⟩
 ·have e1 : aft n d = n + d := by unfold aft; rw [if_neg hz]
  have hv : IntKind.i64.wrap (n + d) = n + d := by simp [IntKind.wrap, IntKind.bits, IntKind.signed, IntKind.min, IntKind.max]; omega
  rw [e1]
  clear e1
  go_enter Tryz.func179, Tryz.ntmps179
  go_wp2_with (go_at_call 96; refine (H1 _).mono ?_; rintro e w2 ⟨rfl, rfl⟩)
  exact bodyPost_ret (v := .tuple #[.int .i64 (n + d), .bool true]) (by simp [results, Tryz.results179, go_sem]) rfl ⟨⟨_, rfl⟩, rfl⟩
def pc (S : Bs) (sl : Value) (d : Int) : Array Value := #[.int .i64 S.cnt, .int .i64 S.win, .int .i64 S.tim, .int .i64 S.lst, sl, .int .i64 d, .int .i64 S.snt]
structure Bm (w : World) (b : Nat) (sl : Value) (d : Int) (S : Bs) : Prop where
 hb : w.heap[b]? = some (.cells (pc S sl d) 217 (0, 0))
 row : w.ownsRow 0 3 1 sl S.run.length (ints S.run)
 du : S.run ≠ [] → d = dueS S
def fpB (b : Nat) (sl : Value) : List Nat := b :: sl.ownBlock.toList
theorem mem_fpB {b : Nat} {sl : Value} {q : Nat} : q ∈ fpB b sl ↔ q = b ∨ sl.ownBlock = some q := by
 unfold fpB
 cases sl.ownBlock <;> simp [eq_comm]
def Bq (w : World) (b : Nat) (F : List Nat) (S : Bs) (N : Nat) : Prop := ∃ sl d, F = fpB b sl ∧ Bm w b sl d S ∧ Iv S N
section
variable {w w' : World} {b : Nat} {sl : Value} {d : Int} {S : Bs} {F G : List Nat} {N : Nat}
theorem Bm.lt (h : Bm w b sl d S) : b < w.heap.size := block_lt h.hb
theorem Bm.keep (h : Bm w b sl d S) (T : Touch G w w') (hn : ∀ q, q ∈ fpB b sl → ¬ q ∈ G) : Bm w' b sl d S :=
 ⟨T.keep h.hb (hn b (mem_fpB.2 (Or.inl rfl))), own_touch h.row T (fun q hq => hn q (mem_fpB.2 (Or.inr hq))), h.du⟩
theorem Bm.keep0 (h : Bm w b sl d S) (T : Touch [] w w') : Bm w' b sl d S := h.keep T (fun _ _ e => by cases e)
theorem Bm.ne (h : Bm w b sl d S) {q : Nat} (hq : sl.ownBlock = some q) : q ≠ b := fun e => by
 subst e
 obtain ⟨cs, hc⟩ := own_kind h.row hq
 rw [h.hb] at hc
 simp at hc
theorem Bm.all (h : Bm w b sl d S) : ∀ q, q ∈ fpB b sl → q < w.heap.size := fun q hq => by
 rcases mem_fpB.1 hq with e | e
 ·rw [e]; exact h.lt
 ·exact (h.row.lt q e).2
theorem Bq.keep (h : Bq w b F S N) (T : Touch G w w') (hn : ∀ q, q ∈ F → ¬ q ∈ G) : Bq w' b F S N := by
 obtain ⟨sl, d, rfl, h1, h2⟩ := h
 exact ⟨sl, d, rfl, h1.keep T hn, h2⟩
theorem Bq.lt (h : Bq w b F S N) : ∀ q, q ∈ F → q < w.heap.size := by
 obtain ⟨sl, d, rfl, h1, h2⟩ := h
 exact h1.all
end
def BqE (w w' : World) (b : Nat) (F : List Nat) (S : Bs) (N : Nat) (ls : List Int) (v : Value) : Prop := (∃ F', Bq w' b F' S N ∧ Touch F w w' ∧ Nf w F F') ∧ Rd w' v ls ∧ ∃ a n c, v = .slice a n c
section
variable {w : World} {b : Nat} {sl : Value} {d : Int} {S : Bs}
theorem tell_ (h : Bm w b sl d S) (x : Int) : Calls Tryz.prog 120 #[PT b, .int .i64 x] w fun e w' => e = .returned (.int .i64 (wrongE S x)) ∧ w' = w := by
 have H1 := is_ x
 have c2 := cell_at (j := 2) (v := .int .i64 S.tim) h.hb rfl
 unfold PT
 by_cases h0 : x < 0
 ·rw [show isT x = false by simp [isT]; omega] at H1
  rw [show wrongE S x = 10 by simp [wrongE, h0]]
  go_enter Tryz.func120, Tryz.ntmps120
  go_wp2_with (go_at_call 96; refine (H1 _).mono ?_; rintro e w2 ⟨rfl, rfl⟩)
  go_ret
  exact ⟨rfl, rfl⟩
 ·by_cases h1 : 4611686018427387904 < x
  ·rw [show isT x = false by simp [isT]; omega] at H1
   rw [show wrongE S x = 10 by simp [wrongE, h1]]
   go_enter Tryz.func120, Tryz.ntmps120
   go_wp2_with (go_at_call 96; refine (H1 _).mono ?_; rintro e w2 ⟨rfl, rfl⟩)
   go_ret
   exact ⟨rfl, rfl⟩
  ·rw [isT_yes (by omega) (by omega)] at H1
   by_cases h2 : x < S.tim
   ·rw [show wrongE S x = 50 by simp [wrongE, h0, h1, h2]]
    go_enter Tryz.func120, Tryz.ntmps120
    go_wp2_with (go_at_call 96; refine (H1 _).mono ?_; rintro e w2 ⟨rfl, rfl⟩)
    go_ret
    exact ⟨rfl, rfl⟩
   ·rw [show wrongE S x = 0 by simp [wrongE, h0, h1, h2]]
    go_enter Tryz.func120, Tryz.ntmps120
    go_wp2_with (go_at_call 96; refine (H1 _).mono ?_; rintro e w2 ⟨rfl, rfl⟩)
    go_ret
    exact ⟨rfl, rfl⟩
theorem force_no (h : Bm w b sl d S) (he : S.run = []) : Calls Tryz.prog 121 #[PT b] w fun e w' => e = .returned (.slice none 0 0) ∧ w' = w := by
 obtain ⟨a, c, rfl⟩ := own_form h.row
 have c4 := cell_at (j := 4) (v := .slice a S.run.length c) h.hb rfl
 rw [he] at c4
 clear h
 unfold PT
 go_enter Tryz.func121, Tryz.ntmps121
 go_wp2
 go_ret
 exact ⟨rfl, rfl⟩
theorem force_yes (h : Bm w b sl d S) (he : S.run ≠ []) (hn : 0 ≤ S.snt) (hm : S.snt < 9000000000000000000) : Calls Tryz.prog 121 #[PT b] w fun e w' => e = .returned sl ∧ w' = (w.setCell ⟨b, 4, none⟩ (.slice none 0 0)).setCell ⟨b, 6, none⟩ (.int .i64 (S.snt + 1)) := by
 obtain ⟨a, c, rfl⟩ := own_form h.row
 have c4 := cell_at (j := 4) (v := .slice a S.run.length c) h.hb rfl
 have c6 := cell_at (j := 6) (v := .int .i64 S.snt) h.hb rfl
 have ff := froz_at h.hb
 have hlt := h.lt
 have hw : IntKind.i64.wrap (S.snt + 1) = S.snt + 1 := by simp [IntKind.wrap, IntKind.bits, IntKind.signed, IntKind.min, IntKind.max]; omega
 have hl : 0 < S.run.length := List.length_pos_iff.2 he
 generalize S.run.length = n at *
 have hz : ((n : Int) == 0) = false := by simp; omega
 clear he hl h hn hm
 unfold PT
 go_enter Tryz.func121, Tryz.ntmps121
 go_wp2
 go_ret
 exact ⟨rfl, rfl⟩
theorem Bm.forced (h : Bm w b sl d S) (he : S.run ≠ []) : Bm ((w.setCell ⟨b, 4, none⟩ (.slice none 0 0)).setCell ⟨b, 6, none⟩ (.int .i64 (S.snt + 1))) b (.slice none 0 0) d (forceS S) := by
 have e : forceS S = { S with run := [], snt := S.snt + 1 } := by unfold forceS; rw [if_neg he]
 rw [e]
 refine ⟨?_, World.ownsRow_nil _ _ _ _, fun h => absurd rfl h⟩
 have := bset (i := 6) (bset (i := 4) h.hb (.slice none 0 0)) (.int .i64 (S.snt + 1))
 simpa [pc] using this
theorem forced_touch (w : World) (b : Nat) (n : Int) : Touch [b] w ((w.setCell ⟨b, 4, none⟩ (.slice none 0 0)).setCell ⟨b, 6, none⟩ (.int .i64 n)) := ((Touch.refl _ _).setCell (Or.inl (by simp)) _).setCell (Or.inl (by simp)) _
theorem force_ (h : Bm w b sl d S) (hn : 0 ≤ S.snt) (hm : S.snt < 9000000000000000000) : Calls Tryz.prog 121 #[PT b] w fun e w' => ∃ v sl', e = .returned v ∧ (∃ a n c, v = .slice a n c) ∧ Bm w' b sl' d (forceS S) ∧ (sl' = sl ∨ sl' = .slice none 0 0) ∧ Touch [b] w w' ∧ Rd w' v S.run := by
 by_cases he : S.run = []
 ·refine (force_no h he).mono ?_
  rintro e w' ⟨rfl, rfl⟩
  have e2 : forceS S = S := by unfold forceS; rw [if_pos he]
  rw [e2, he]
  exact ⟨_, sl, rfl, ⟨_, _, _, rfl⟩, h, Or.inl rfl, Touch.refl _ _, Rd.nil _⟩
 ·refine (force_yes h he hn hm).mono ?_
  rintro e w' ⟨rfl, rfl⟩
  obtain ⟨a, c, e1⟩ := own_form h.row
  refine ⟨sl, _, rfl, ⟨_, _, _, e1⟩, h.forced he, Or.inr rfl, forced_touch _ _ _, Rd.of_own (own_touch h.row (forced_touch _ _ _) (fun q hq e => ?_))⟩
  simp only [List.mem_singleton] at e
  exact h.ne hq e
end
end Go.Proofs.YtllchnancjgijaaGreat.Ba
/- What seats are, in plain words: a list, and the tokens that are cancelled; chains with both neighbours as plain functions; no conditions. -/
namespace Go.Proofs.YtllchnancjgijaaGreat.Lv
open Go.RowKit Go.Maps Go.ChangeMaps
abbrev Se := Int × Int × Int
def bn (b : Nat) (x : Se) : Int := match b with | 0 => x.1 | 1 => x.2.1 | _ => x.2.2
def inL (b : Nat) (n : Int) (L : List Se) : List Se := L.filter (fun x => decide (bn b x = n))
def outL (b : Nat) (n : Int) (L : List Se) : List Se := L.filter (fun x => !decide (bn b x = n))
def whr (L : List Se) (c : Int) : Option Se := L.find? (fun x => decide (x.1 = c))
def may (x : Se) : Bool := decide (1 ≤ x.1) && decide (1 ≤ x.2.1) && decide (0 ≤ x.2.2)
def sitE (L : List Se) (G : List Int) (x : Se) : Int := if may x = false then 150 else if x.2.2 ∈ G then 152 else if (whr L x.1).isSome then 151 else 0
def sitL (L : List Se) (G : List Int) (x : Se) : List Se := if sitE L G x = 0 then L ++ [x] else L
def Wf (x : Se) : Prop := W64 x.1 ∧ W64 x.2.1 ∧ W64 x.2.2
structure Iv (L : List Se) (G : List Int) (N : Nat) : Prop where
 nc : (L.map Prod.fst).Nodup
 ok : ∀ x ∈ L, may x = true ∧ Wf x
 ng : G.Nodup
 wg : ∀ t ∈ G, 1 ≤ t ∧ W64 t
 ll : L.length ≤ N
 lg : G.length ≤ N
theorem Iv.mono {L : List Se} {G : List Int} {N M : Nat} (h : Iv L G N) (hm : N ≤ M) : Iv L G M := { h with ll := Nat.le_trans h.ll hm, lg := Nat.le_trans h.lg hm }
theorem Iv.sub {L M : List Se} {G : List Int} {N : Nat} (h : Iv L G N) (hs : M.Sublist L) : Iv M G N :=
 { h with nc := h.nc.sublist (hs.map _), ok := fun x hx => h.ok x (hs.subset hx), ll := Nat.le_trans hs.length_le h.ll }
theorem Iv.out {L : List Se} {G : List Int} {N : Nat} (h : Iv L G N) (b : Nat) (n : Int) : Iv (outL b n L) G N := h.sub List.filter_sublist
theorem whr_none {L : List Se} {c : Int} : (whr L c).isSome = false ↔ ∀ x ∈ L, x.1 ≠ c := by
 unfold whr
 constructor
 ·intro h x hx e
  have : (L.find? (fun x => decide (x.1 = c))).isSome = true := List.find?_isSome.2 ⟨x, hx, by simp [e]⟩
  rw [h] at this
  cases this
 ·intro h
  rw [List.find?_eq_none.2 (fun x hx => by simp [h x hx])]
  rfl
theorem whr_mem {L : List Se} {c : Int} {x : Se} (h : whr L c = some x) : x ∈ L ∧ x.1 = c := by
 unfold whr at h
 exact ⟨List.mem_of_find?_eq_some h, by simpa using List.find?_some h⟩
theorem Iv.snoc {L : List Se} {G : List Int} {N : Nat} (h : Iv L G N) {x : Se} (hx : Wf x) (hm : may x = true) (hn : ∀ y ∈ L, y.1 ≠ x.1) : Iv (L ++ [x]) G (N + 1) := by
 refine { h.mono (Nat.le_succ N) with nc := ?_, ok := fun y hy => ?_, ll := by have := h.ll; simp; omega }
 ·rw [List.map_append, List.map_cons, List.map_nil]
  refine nd_snoc h.nc (fun e => ?_)
  obtain ⟨y, hy, e⟩ := List.mem_map.1 e
  exact hn y hy e
 ·rcases List.mem_append.1 hy with e | e
  ·exact h.ok y e
  ·simp only [List.mem_singleton] at e
   subst e
   exact ⟨hm, hx⟩
theorem in_caller {L : List Se} (h : (L.map Prod.fst).Nodup) {x : Se} (hx : x ∈ L) : inL 0 x.1 L = [x] := by
 unfold inL
 induction L with
 | nil => cases hx
 | cons y r ih =>
  rw [List.map_cons, List.nodup_cons] at h
  rcases List.mem_cons.1 hx with e | e
  ·subst e
   rw [List.filter_cons_of_pos (by simp [bn])]
   rw [List.filter_eq_nil_iff.2 (fun y hy => ?_)]
   simp only [bn, decide_eq_true_eq]
   exact fun e => h.1 (List.mem_map.2 ⟨y, hy, e⟩)
  ·rw [List.filter_cons_of_neg ?_, ih h.2 e]
   simp only [bn, decide_eq_true_eq]
   exact fun e' => h.1 (List.mem_map.2 ⟨x, e, e'.symm⟩)
def outs (L : List Se) (xs : List Se) : List Se := xs.foldl (fun M x => outL 0 x.1 M) L
theorem outs_eq (L xs : List Se) : outs L xs = L.filter (fun y => !decide (y.1 ∈ xs.map Prod.fst)) := by
 induction xs generalizing L with
 | nil => exact (List.filter_eq_self.2 (fun _ _ => rfl)).symm
 | cons x r ih =>
  rw [outs, List.foldl_cons, ← outs, ih]
  unfold outL
  rw [List.filter_filter]
  refine List.filter_congr (fun y _ => ?_)
  simp only [bn, List.map_cons, List.mem_cons]
  by_cases h1 : y.1 = x.1 <;> by_cases h2 : y.1 ∈ r.map Prod.fst <;> simp [h1, h2]
theorem outs_in {L : List Se} (h : (L.map Prod.fst).Nodup) (b : Nat) (n : Int) : outs L (inL b n L) = outL b n L := by
 rw [outs_eq]
 unfold outL
 refine List.filter_congr (fun y hy => ?_)
 congr 1
 rw [decide_eq_decide]
 constructor
 ·intro e
  obtain ⟨z, hz, e⟩ := List.mem_map.1 e
  have hz' := List.mem_filter.1 hz
  have : z = y := by
   have h1 := in_caller h hy
   have h2 : z ∈ inL 0 y.1 L := List.mem_filter.2 ⟨hz'.1, by simp [bn, e]⟩
   rw [h1] at h2
   simpa using h2
  subst this
  simpa using hz'.2
 ·intro e
  exact List.mem_map.2 ⟨y, List.mem_filter.2 ⟨hy, by simp [e]⟩, rfl⟩
theorem outs_snoc (L xs : List Se) (x : Se) : outs L (xs ++ [x]) = outL 0 x.1 (outs L xs) := by simp [outs]
def Lk (f g : Nat → Option Nat) : Option Nat → List Nat → Prop
 | _, [] => True
 | p, q :: r => f q = p ∧ g q = r.head? ∧ Lk f g (some q) r
def lastO : Option Nat → List Nat → Option Nat
 | p, [] => p
 | _, q :: r => lastO (some q) r
def updO (f : Nat → Option Nat) (o : Option Nat) (v : Option Nat) : Nat → Option Nat := fun j => if o = some j then v else f j
theorem Lk.congr {f g f' g' : Nat → Option Nat} : ∀ {p : Option Nat} {xs : List Nat}, Lk f g p xs → (∀ q ∈ xs, f' q = f q ∧ g' q = g q) → Lk f' g' p xs
 | _, [], _, _ => trivial
 | p, q :: r, h, hc => ⟨(hc q (by simp)).1.trans h.1, (hc q (by simp)).2.trans h.2.1, Lk.congr h.2.2 (fun z hz => hc z (by simp [hz]))⟩
theorem lastO_mem : ∀ {xs : List Nat} {p : Option Nat} {z : Nat}, lastO p xs = some z → p = some z ∨ z ∈ xs
 | [], p, z, h => Or.inl h
 | q :: r, p, z, h => by
  rcases lastO_mem (xs := r) h with e | e
  ·simp only [Option.some.injEq] at e
   exact Or.inr (by simp [e])
  ·exact Or.inr (by simp [e])
theorem lastO_append (u v : List Nat) (p : Option Nat) : lastO p (u ++ v) = lastO (lastO p u) v := by
 induction u generalizing p with
 | nil => rfl
 | cons a r ih => exact ih (some a)
theorem lastO_none {xs : List Nat} (h : lastO none xs = none) : xs = [] := by
 cases xs with
 | nil => rfl
 | cons a r =>
  exfalso
  have : ∀ (r : List Nat) (a : Nat), lastO (some a) r ≠ none := fun r => by
   induction r with
   | nil => intro a; simp [lastO]
   | cons b s ih => intro a; exact ih b
  exact this r a h
theorem Lk.at {f g : Nat → Option Nat} {q : Nat} {v : List Nat} : ∀ {p : Option Nat} {u : List Nat}, Lk f g p (u ++ q :: v) → f q = lastO p u ∧ g q = v.head?
 | p, [], h => ⟨h.1, h.2.1⟩
 | p, a :: u, h => Lk.at (p := some a) (u := u) h.2.2
theorem Lk.next {f g : Nat → Option Nat} {p : Option Nat} {xs : List Nat} (h : Lk f g p xs) {i q : Nat} (hi : xs[i]? = some q) : g q = xs[i + 1]? := by
 induction xs generalizing p i with
 | nil => simp at hi
 | cons a r ih =>
  cases i with
  | zero =>
   simp at hi
   subst hi
   rw [h.2.1]
   simp [List.head?_eq_getElem?]
  | succ i => simpa using ih h.2.2 (by simpa using hi)
theorem Lk.snoc {f g : Nat → Option Nat} {q : Nat} : ∀ {p : Option Nat} {xs : List Nat}, Lk f g p xs → (xs ++ [q]).Nodup → g q = none → p ≠ some q →
  Lk (updO f (some q) (lastO p xs)) (updO g (lastO p xs) (some q)) p (xs ++ [q])
 | p, [], h, hn, hg, hp => by
  refine ⟨by simp [updO, lastO], ?_, trivial⟩
  simp [updO, lastO, hp, hg]
 | p, a :: r, h, hn, hg, hp => by
  have hn' : a ∉ r ++ [q] ∧ (r ++ [q]).Nodup := List.nodup_cons.1 hn
  have haq : a ≠ q := fun e => hn'.1 (by simp [e])
  have ih := Lk.snoc (p := some a) h.2.2 hn'.2 hg (by simpa using haq)
  refine ⟨?_, ?_, ih⟩
  ·unfold updO
   rw [if_neg (by simp only [Option.some.injEq]; exact fun e => haq e.symm)]
   exact h.1
  ·cases r with
   | nil => simp [updO, lastO]
   | cons b s =>
    have : lastO (some a) (b :: s) ≠ some a := fun e => by
     rcases lastO_mem (xs := s) (p := some b) e with e | e
     ·simp only [Option.some.injEq] at e
      exact hn'.1 (by simp [e])
     ·exact hn'.1 (by simp [e])
    show updO g (lastO (some a) (b :: s)) (some q) a = _
    unfold updO
    rw [if_neg this, h.2.1]
    rfl
theorem Lk.del {f g : Nat → Option Nat} {q : Nat} {v : List Nat} : ∀ {p : Option Nat} {u : List Nat}, Lk f g p (u ++ q :: v) → (u ++ q :: v).Nodup → (∀ z ∈ u ++ q :: v, p ≠ some z) →
  Lk (updO f (g q) (f q)) (updO g (f q) (g q)) p (u ++ v)
 | p, [], h, hn, hp => by
  obtain ⟨h1, h2, h3⟩ := h
  have hn' : q ∉ v ∧ v.Nodup := List.nodup_cons.1 hn
  show Lk _ _ p v
  rw [h1, h2]
  cases v with
  | nil => trivial
  | cons b s =>
   have hb : b ∉ s ∧ s.Nodup := List.nodup_cons.1 hn'.2
   refine ⟨by simp [updO], ?_, ?_⟩
   ·unfold updO
    rw [if_neg (hp b (by simp))]
    exact h3.2.1
   ·refine h3.2.2.congr (fun z hz => ⟨?_, ?_⟩)
    ·unfold updO
     rw [if_neg]
     simp only [List.head?_cons, Option.some.injEq]
     exact fun e => hb.1 (e ▸ hz)
    ·unfold updO
     rw [if_neg (hp z (by simp [hz]))]
 | p, a :: u, h, hn, hp => by
  have hn' : a ∉ u ++ q :: v ∧ (u ++ q :: v).Nodup := List.nodup_cons.1 hn
  have ih := Lk.del (p := some a) (u := u) h.2.2 hn'.2 (fun z hz e => by simp only [Option.some.injEq] at e; exact hn'.1 (e ▸ hz))
  obtain ⟨e1, e2⟩ := Lk.at (p := some a) (u := u) h.2.2
  refine ⟨?_, ?_, ih⟩
  ·unfold updO
   rw [if_neg, h.1]
   rw [e2]
   intro e
   exact hn'.1 (by have := List.mem_of_mem_head? e; simp [this])
  ·rw [e1, e2]
   have h2 := h.2.1
   cases u with
   | nil => simp [updO, lastO]
   | cons b s =>
    unfold updO
    rw [if_neg]
    ·exact h2
    ·intro e
     rcases lastO_mem (xs := s) (p := some b) e with e | e
     ·simp only [Option.some.injEq] at e
      exact hn'.1 (by simp [e])
     ·exact hn'.1 (by simp [e])
end Go.Proofs.YtllchnancjgijaaGreat.Lv
/- Seats in memory: chairs linked in three rows each, maps of chairs by caller, of rows by name, of cancelled tokens; how all this stays; no conditions. -/
namespace Go.Proofs.YtllchnancjgijaaGreat.Lv
open Go.RowKit Go.Maps Go.ChangeMaps Go.WideMaps
abbrev Nm := Int × Int
def OkN (x : Nm) : Prop := W64 x.1 ∧ W64 x.2
def nv (x : Nm) : Value := .agg #[.int .i64 x.1, .int .i64 x.2]
def datN (x : Nm) : DataW Unit := .agg [.lit (.int .i64 x.1), .lit (.int .i64 x.2)]
def nlit (x : Nm) : Lit := (datN x).asKey
theorem cellsN : Tryz.prog.cellsOf 200 = 2 := by kernel_rfl
theorem shut_name {H : Type} {enc : TypeId × Value → H} {W : World} {base : Nat} {sp : Nat → Bool} {held : Bool} {a b : Int} (wa : W64 a) (wb : W64 b) :
  DataW.Trod enc Tryz.prog W base sp held 200 (.agg #[.int .i64 a, .int .i64 b]) (.agg [.lit (.int .i64 a), .lit (.int .i64 b)]) [] :=
 Joins.shut_agg2 (y0 := (.lit (.int .i64 a), [])) (y1 := (.lit (.int .i64 b), [])) Tryz.underlying200 (by kernel_rfl) cellsN ⟨1, by have wa' : (Lit.int .i64 a).wf = true := wa; simp [DataW.trod, Tryz.underlying3, wa']⟩ ⟨1, by have wb' : (Lit.int .i64 b).wf = true := wb; simp [DataW.trod, Tryz.underlying3, wb']⟩
theorem wideN : (match Tryz.prog.underlying 200 with | some (.array _ _) | some (.struct _) => true | _ => false) = true := by kernel_rfl
theorem deepN : Tryz.prog.keyTypeAt (Tryz.prog.types.size + 1) 200 = true := by kernel_rfl
theorem formedN (a b : Int) : (Value.agg #[.int .i64 a, .int .i64 b]).formed Tryz.prog 200 = true := by
 simp [Value.formed, Tryz.underlying200, cellsN]
set_option maxRecDepth 100000 in
theorem lawN : KeyLaw Tryz.prog 200 := deep_law_laid (by kernel_rfl) (m := 2) (by omega) (of_decide_eq_true (by kernel_rfl)) (by kernel_rfl) wideN
theorem keyedN : Keyed Tryz.prog 200 := Keyed.of_law lawN
set_option maxRecDepth 100000 in
theorem keyN {x : Nm} (h : OkN x) : keyOf Tryz.prog 200 (nv x) = some (nlit x) :=
 (keyOf_asKey (enc := fun _ => ()) (w := default) (base := 0) (sp := fun _ => true) (held := true) deepN wideN (formedN _ _) (shut_name h.1 h.2)).1
theorem nlit_inj {x y : Nm} (hx : OkN x) (hy : OkN y) (e : nlit x = nlit y) : x = y := by
 have h1 := keyN hx
 have h2 := keyN hy
 rw [← e] at h2
 have h3 := lawN.inj h1 h2
 simp only [nv, Value.agg.injEq, Array.mk.injEq, List.cons.injEq, Value.int.injEq, and_true, true_and] at h3
 exact Prod.ext h3.1 h3.2
def KN : KK Tryz.prog 200 Nm := ⟨OkN, nv, nlit, keyedN, keyN, nlit_inj⟩
def pv (o : Option Nat) : Value := .pointer (o.map (fun q => ⟨q, 0, none⟩))
theorem pv_some (q : Nat) : pv (some q) = PT q := rfl
def sc (x : Se) : List Value := [.int .i64 x.1, .int .i64 x.2.1, .int .i64 x.2.2]
def sv (x : Se) : Value := .agg #[.int .i64 x.1, .int .i64 x.2.1, .int .i64 x.2.2]
theorem sc_len (x : Se) : (sc x).length = 3 := rfl
def chc (x : Se) (a b : Nat → Option Nat) : Array Value := #[.int .i64 x.1, .int .i64 x.2.1, .int .i64 x.2.2, pv (a 0), pv (a 1), pv (a 2), pv (b 0), pv (b 1), pv (b 2)]
def updN (a : Nat → Option Nat) (k : Nat) (v : Option Nat) : Nat → Option Nat := fun j => if j = k then v else a j
theorem chc_a {x : Se} {a b : Nat → Option Nat} {k : Nat} (hk : k < 3) : (chc x a b)[3 + k]? = some (pv (a k)) := by
 match k, hk with
 | 0, _ => rfl
 | 1, _ => rfl
 | 2, _ => rfl
theorem chc_b {x : Se} {a b : Nat → Option Nat} {k : Nat} (hk : k < 3) : (chc x a b)[6 + k]? = some (pv (b k)) := by
 match k, hk with
 | 0, _ => rfl
 | 1, _ => rfl
 | 2, _ => rfl
theorem chc_sa {x : Se} {a b : Nat → Option Nat} {k : Nat} (hk : k < 3) (v : Option Nat) : (chc x a b).setIfInBounds (3 + k) (pv v) = chc x (updN a k v) b := by
 match k, hk with
 | 0, _ => simp [chc, updN]
 | 1, _ => simp [chc, updN]
 | 2, _ => simp [chc, updN]
theorem chc_sb {x : Se} {a b : Nat → Option Nat} {k : Nat} (hk : k < 3) (v : Option Nat) : (chc x a b).setIfInBounds (6 + k) (pv v) = chc x a (updN b k v) := by
 match k, hk with
 | 0, _ => simp [chc, updN]
 | 1, _ => simp [chc, updN]
 | 2, _ => simp [chc, updN]
abbrev Chr := Nat × Se
def num (k : Nat) (x : Se) : Int := match k with | 0 => 0 | 1 => x.2.1 | _ => x.2.2
def rowOf (k : Nat) (n : Int) (CH : List Chr) : List Nat := (CH.filter (fun p => decide (num k p.2 = n))).map Prod.fst
def rowC (xs : List Nat) : Array Value := #[pv xs.head?, pv (lastO none xs)]
def rowV (xs : List Nat) : Value := .agg (rowC xs)
def cmap (CH : List Chr) (c : Int) : Option Value := (CH.find? (fun p => decide (p.2.1 = c))).map (fun p => PT p.1)
def rmap (CH : List Chr) (n : Nm) : Option Value := if 0 ≤ n.1 ∧ n.1 < 3 ∧ rowOf n.1.toNat n.2 CH ≠ [] then some (rowV (rowOf n.1.toNat n.2 CH)) else none
def kmap (G : List Int) (t : Int) : Option Value := if t ∈ G then some (.agg #[]) else none
def Ch (w : World) (CH : List Chr) (A B : Nat → Nat → Option Nat) : Prop := ∀ p ∈ CH, w.heap[p.1]? = some (.cells (chc p.2 (fun k => A k p.1) (fun k => B k p.1)) 238 (0, 0))
def Lks (A B : Nat → Nat → Option Nat) (CH : List Chr) : Prop := ∀ k, k < 3 → ∀ n, Lk (A k) (B k) none (rowOf k n CH)
def sbc (mc mr mk : Option Nat) : Array Value := #[.map mc, .map mr, .map mk]
structure Sm (w : World) (s : Nat) (mc mr mk : Option Nat) (nr : Nat) (CH : List Chr) (G : List Int) : Prop where
 hb : w.heap[s]? = some (.cells (sbc mc mr mk) 197 (0, 0))
 cm : (mc = none ∧ mr = none ∧ CH = []) ∨ ∃ b d, mc = some b ∧ mr = some d ∧ b ≠ d ∧ MapK KI w b CH.length (cmap CH) ∧ MapK KN w d nr (rmap CH)
 km : (mk = none ∧ G = []) ∨ ∃ b, mk = some b ∧ MapK KI w b G.length (kmap G)
 kc : ∀ b, mk = some b → mc ≠ some b ∧ mr ≠ some b
 lk : ∃ A B, Ch w CH A B ∧ Lks A B CH
 nb : (CH.map Prod.fst).Nodup
def fpS (s : Nat) (mc mr mk : Option Nat) (CH : List Chr) : List Nat := s :: (mc.toList ++ (mr.toList ++ (mk.toList ++ CH.map Prod.fst)))
theorem mem_fpS {s : Nat} {mc mr mk : Option Nat} {CH : List Chr} {q : Nat} : q ∈ fpS s mc mr mk CH ↔ q = s ∨ mc = some q ∨ mr = some q ∨ mk = some q ∨ q ∈ CH.map Prod.fst := by
 simp only [fpS, List.mem_cons, List.mem_append, Option.mem_toList, Option.mem_def]
def Own1 (w : World) (q : Nat) : Prop := (∃ cs z, w.heap[q]? = some (.cells cs 197 z)) ∨ (∃ cs z, w.heap[q]? = some (.cells cs 238 z)) ∨ ∃ es cl, w.heap[q]? = some (.map es cl)
def Sq (w : World) (s : Nat) (F : List Nat) (L : List Se) (G : List Int) (N : Nat) : Prop := ∃ mc mr mk nr CH, F = fpS s mc mr mk CH ∧ L = CH.map Prod.snd ∧ Sm w s mc mr mk nr CH G ∧ Iv L G N ∧ nr ≤ 3 * N
def SqE (w w' : World) (s : Nat) (F : List Nat) (L : List Se) (G : List Int) (N : Nat) : Prop := ∃ F', Sq w' s F' L G N ∧ Touch F w w' ∧ Nf w F F'
section
variable {w w' : World} {s nr : Nat} {mc mr mk : Option Nat} {CH : List Chr} {G : List Int} {F X : List Nat} {L : List Se} {N M : Nat}
theorem Sm.own (h : Sm w s mc mr mk nr CH G) : ∀ q, q ∈ fpS s mc mr mk CH → Own1 w q := fun q hq => by
 rcases mem_fpS.1 hq with e | e | e | e | e
 ·subst e; exact Or.inl ⟨_, _, h.hb⟩
 ·rcases h.cm with ⟨h1, _⟩ | ⟨b, d, h1, h2, _, h3, h4⟩
  ·rw [h1] at e; cases e
  ·rw [h1] at e; cases e; exact Or.inr (Or.inr h3.kind)
 ·rcases h.cm with ⟨_, h1, _⟩ | ⟨b, d, h1, h2, _, h3, h4⟩
  ·rw [h1] at e; cases e
  ·rw [h2] at e; cases e; exact Or.inr (Or.inr h4.kind)
 ·rcases h.km with ⟨h1, _⟩ | ⟨b, h1, h2⟩
  ·rw [h1] at e; cases e
  ·rw [h1] at e; cases e; exact Or.inr (Or.inr h2.kind)
 ·obtain ⟨p, hp, rfl⟩ := List.mem_map.1 e
  obtain ⟨A, B, h1, _⟩ := h.lk
  exact Or.inr (Or.inl ⟨_, _, h1 p hp⟩)
theorem Own1.lt {q : Nat} (h : Own1 w q) : q < w.heap.size := by
 rcases h with ⟨_, _, h⟩ | ⟨_, _, h⟩ | ⟨_, _, h⟩ <;> exact block_lt h
theorem Own1.ne {q r : Nat} (h : Own1 w q) {cs : Array Value} {t : TypeId} {z : Nat × Nat} (hr : w.heap[r]? = some (.cells cs t z)) (h1 : t ≠ 197) (h2 : t ≠ 238) : q ≠ r := fun e => by
 subst e
 rcases h with ⟨_, _, h⟩ | ⟨_, _, h⟩ | ⟨_, _, h⟩
 ·rw [hr] at h; simp only [Option.some.injEq, Obj.cells.injEq] at h; exact h1 h.2.1
 ·rw [hr] at h; simp only [Option.some.injEq, Obj.cells.injEq] at h; exact h2 h.2.1
 ·rw [hr] at h; cases h
theorem Sm.keep (h : Sm w s mc mr mk nr CH G) (T : Touch X w w') (hX : ∀ q, q ∈ fpS s mc mr mk CH → ¬ q ∈ X) : Sm w' s mc mr mk nr CH G := by
 refine ⟨T.keep h.hb (hX s (mem_fpS.2 (Or.inl rfl))), ?_, ?_, h.kc, ?_, h.nb⟩
 ·rcases h.cm with h1 | ⟨b, d, h1, h2, hne, h3, h4⟩
  ·exact Or.inl h1
  ·exact Or.inr ⟨b, d, h1, h2, hne, h3.keep T (hX b (mem_fpS.2 (Or.inr (Or.inl h1)))), h4.keep T (hX d (mem_fpS.2 (Or.inr (Or.inr (Or.inl h2)))))⟩
 ·rcases h.km with h1 | ⟨b, h1, h2⟩
  ·exact Or.inl h1
  ·exact Or.inr ⟨b, h1, h2.keep T (hX b (mem_fpS.2 (Or.inr (Or.inr (Or.inr (Or.inl h1))))))⟩
 ·obtain ⟨A, B, h1, h2⟩ := h.lk
  exact ⟨A, B, fun p hp => T.keep (h1 p hp) (hX p.1 (mem_fpS.2 (Or.inr (Or.inr (Or.inr (Or.inr (List.mem_map.2 ⟨p, hp, rfl⟩))))))), h2⟩
theorem Sm.keep0 (h : Sm w s mc mr mk nr CH G) (T : Touch [] w w') : Sm w' s mc mr mk nr CH G := h.keep T (fun _ _ e => by cases e)
theorem Sq.own (h : Sq w s F L G N) : ∀ q, q ∈ F → Own1 w q := by
 obtain ⟨mc, mr, mk, nr, CH, rfl, rfl, h1, _⟩ := h
 exact h1.own
theorem Sq.lt (h : Sq w s F L G N) : ∀ q, q ∈ F → q < w.heap.size := fun q hq => (h.own q hq).lt
theorem Sq.mem (h : Sq w s F L G N) : s ∈ F := by
 obtain ⟨mc, mr, mk, nr, CH, rfl, rfl, h1, _⟩ := h
 exact mem_fpS.2 (Or.inl rfl)
theorem Sq.slt (h : Sq w s F L G N) : s < w.heap.size := h.lt s h.mem
theorem Sq.keep (h : Sq w s F L G N) (T : Touch X w w') (hX : ∀ q, q ∈ F → ¬ q ∈ X) : Sq w' s F L G N := by
 obtain ⟨mc, mr, mk, nr, CH, rfl, rfl, h1, h2, h3⟩ := h
 exact ⟨mc, mr, mk, nr, CH, rfl, rfl, h1.keep T hX, h2, h3⟩
theorem Sq.keep0 (h : Sq w s F L G N) (T : Touch [] w w') : Sq w' s F L G N := h.keep T (fun _ _ e => by cases e)
theorem Sq.mono (h : Sq w s F L G N) (hm : N ≤ M) : Sq w s F L G M := by
 obtain ⟨mc, mr, mk, nr, CH, rfl, rfl, h1, h2, h3⟩ := h
 exact ⟨mc, mr, mk, nr, CH, rfl, rfl, h1, h2.mono hm, by omega⟩
theorem Sq.iv (h : Sq w s F L G N) : Iv L G N := by
 obtain ⟨mc, mr, mk, nr, CH, rfl, rfl, h1, h2, h3⟩ := h
 exact h2
theorem SqE.same (h : Sq w s F L G N) (hm : N ≤ M) (T : Touch [] w w') : SqE w w' s F L G M := ⟨F, (h.keep0 T).mono hm, T.mono (fun _ e => by cases e), Nf.refl _ _⟩
theorem SqE.trans {w2 : World} {F1 : List Nat} (t1 : Touch F w w') (n1 : Nf w F F1) (h2 : SqE w' w2 s F1 L G N) : SqE w w2 s F L G N := by
 obtain ⟨F2, r1, r2, r3⟩ := h2
 exact ⟨F2, r1, t1.trans r2 n1, n1.trans r3 t1.size⟩
theorem SqE.from0 {w2 : World} (t1 : Touch [] w w') (h2 : SqE w' w2 s F L G N) : SqE w w2 s F L G N := SqE.trans (t1.mono (fun _ e => by cases e)) (Nf.refl _ _) h2
end
end Go.Proofs.YtllchnancjgijaaGreat.Lv
/- A group in memory: its memo, its table, its batch and its seats side by side, and how a step of one of them is a step of the group; no conditions. -/
namespace Go.Proofs.YtllchnancjgijaaGreat
open Go.RowKit Go.Maps Go.ChangeMaps
structure Gp where
 c : Me.Cf
 mn : Int
 en : List Me.En
 T : Ta.Tb
 B : Ba.Bs
 L : List Lv.Se
 G : List Int
 now : Int
structure Pt where
 m : Nat
 t : Nat
 b : Nat
 s : Nat
structure Cn where
 t : Nat
 b : Nat
 s : Nat
def gcs (P : Pt) (now : Int) : Array Value := #[PT P.m, PT P.t, PT P.b, PT P.s, .int .i64 now]
def Dj (A B : List Nat) : Prop := ∀ k, k ∈ A → ¬ k ∈ B
theorem Dj.symm {A B : List Nat} (h : Dj A B) : Dj B A := fun k hk e => h k e hk
theorem Dj.grow {w : World} {A A' B : List Nat} (h : Dj A B) (nf : Nf w A A') (hB : ∀ k, k ∈ B → k < w.heap.size) : Dj A' B := fun k hk e => by
 rcases nf k hk with q | q
 ·exact h k q e
 ·have := hB k e; omega
structure Gm (w : World) (g : Nat) (P : Pt) (Fm Ft Fb Fs : List Nat) (X : Gp) (N : Cn) : Prop where
 bl : w.heap[g]? = some (.cells (gcs P X.now) 109 (0, 0))
 mq : Me.Mq w P.m Fm X.c X.mn X.en
 tq : Ta.Tq w P.t Ft X.T N.t
 bq : Ba.Bq w P.b Fb X.B N.b
 sq : Lv.Sq w P.s Fs X.L X.G N.s
 gm : Dj [g] Fm
 gt : Dj [g] Ft
 gb : Dj [g] Fb
 gs : Dj [g] Fs
 mt : Dj Fm Ft
 mb : Dj Fm Fb
 ms : Dj Fm Fs
 tb : Dj Ft Fb
 ts : Dj Ft Fs
 bs : Dj Fb Fs
def fpG (g : Nat) (Fm Ft Fb Fs : List Nat) : List Nat := g :: (Fm ++ (Ft ++ (Fb ++ Fs)))
theorem mem_fpG {g k : Nat} {Fm Ft Fb Fs : List Nat} : k ∈ fpG g Fm Ft Fb Fs ↔ k = g ∨ k ∈ Fm ∨ k ∈ Ft ∨ k ∈ Fb ∨ k ∈ Fs := by simp [fpG]
def Gq (w : World) (g : Nat) (P : Pt) (F : List Nat) (X : Gp) (N : Cn) : Prop := ∃ Fm Ft Fb Fs, F = fpG g Fm Ft Fb Fs ∧ Gm w g P Fm Ft Fb Fs X N
def GqE (w w' : World) (g : Nat) (P : Pt) (F : List Nat) (X : Gp) (N : Cn) : Prop := ∃ F', Gq w' g P F' X N ∧ Touch F w w' ∧ Nf w F F'
section
variable {w w' w2 : World} {g : Nat} {P : Pt} {F F1 D Fm Ft Fb Fs : List Nat} {X Y : Gp} {N M : Cn}
theorem Gm.glt (h : Gm w g P Fm Ft Fb Fs X N) : g < w.heap.size := block_lt h.bl
theorem Gm.lt (h : Gm w g P Fm Ft Fb Fs X N) : ∀ k, k ∈ fpG g Fm Ft Fb Fs → k < w.heap.size := fun k hk => by
 rcases mem_fpG.1 hk with e | e | e | e | e
 ·subst e; exact h.glt
 ·exact h.mq.lt k e
 ·exact h.tq.lt k e
 ·exact h.bq.lt k e
 ·exact h.sq.lt k e
theorem Gq.lt (h : Gq w g P F X N) : ∀ k, k ∈ F → k < w.heap.size := by
 obtain ⟨Fm, Ft, Fb, Fs, rfl, h⟩ := h
 exact h.lt
theorem Gm.keep (h : Gm w g P Fm Ft Fb Fs X N) (T : Touch D w w') (hD : ∀ k, k ∈ fpG g Fm Ft Fb Fs → ¬ k ∈ D) : Gm w' g P Fm Ft Fb Fs X N :=
 { h with
  bl := T.keep h.bl (hD g (mem_fpG.2 (Or.inl rfl)))
  mq := h.mq.keep T (fun k hk => hD k (mem_fpG.2 (Or.inr (Or.inl hk))))
  tq := h.tq.keep T (fun k hk => hD k (mem_fpG.2 (Or.inr (Or.inr (Or.inl hk)))))
  bq := h.bq.keep T (fun k hk => hD k (mem_fpG.2 (Or.inr (Or.inr (Or.inr (Or.inl hk))))))
  sq := h.sq.keep T (fun k hk => hD k (mem_fpG.2 (Or.inr (Or.inr (Or.inr (Or.inr hk)))))) }
theorem Gq.keep (h : Gq w g P F X N) (T : Touch D w w') (hD : ∀ k, k ∈ F → ¬ k ∈ D) : Gq w' g P F X N := by
 obtain ⟨Fm, Ft, Fb, Fs, rfl, h⟩ := h
 exact ⟨Fm, Ft, Fb, Fs, rfl, h.keep T hD⟩
theorem Gq.keep0 (h : Gq w g P F X N) (T : Touch [] w w') : Gq w' g P F X N := h.keep T (fun _ _ e => by cases e)
theorem GqE.same (h : Gq w g P F X N) (T : Touch [] w w') : GqE w w' g P F X N := ⟨F, h.keep0 T, T.mono (fun _ e => by cases e), Nf.refl _ _⟩
theorem GqE.refl (h : Gq w g P F X N) : GqE w w g P F X N := GqE.same h (Touch.refl _ _)
theorem GqE.then0 (h1 : GqE w w' g P F X N) (t2 : Touch [] w' w2) : GqE w w2 g P F X N := by
 obtain ⟨F1, q1, q2, q3⟩ := h1
 exact ⟨F1, q1.keep0 t2, q2.trans t2 (fun _ e => by cases e), q3⟩
theorem Nf.out {k : Nat} (n : Nf w F F1) (hk : k < w.heap.size) (hF : ¬ k ∈ F) : ¬ k ∈ F1 := fun e => by
 rcases n k e with q | q
 ·exact hF q
 ·omega
structure GmC (w : World) (g : Nat) (P : Pt) (now : Int) : Prop where
 c0 : w.cell? ⟨g, 0, none⟩ = some (.pointer (some ⟨P.m, 0, none⟩))
 c1 : w.cell? ⟨g, 1, none⟩ = some (.pointer (some ⟨P.t, 0, none⟩))
 c2 : w.cell? ⟨g, 2, none⟩ = some (.pointer (some ⟨P.b, 0, none⟩))
 c3 : w.cell? ⟨g, 3, none⟩ = some (.pointer (some ⟨P.s, 0, none⟩))
 c4 : w.cell? ⟨g, 4, none⟩ = some (.int .i64 now)
 f4 : w.frozen? ⟨g, 4, none⟩ = false
theorem Gm.cs (h : Gm w g P Fm Ft Fb Fs X N) : GmC w g P X.now := by
 have := h.bl
 unfold gcs PT at this
 constructor <;> simp [World.cell?, World.frozen?, this]
theorem Gq.cs (h : Gq w g P F X N) : GmC w g P X.now := by
 obtain ⟨Fm, Ft, Fb, Fs, rfl, h⟩ := h
 exact h.cs
theorem Gq.memo (h : Gq w g P F X N) : ∃ Fm, Me.Mq w P.m Fm X.c X.mn X.en ∧ (∀ k, k ∈ Fm → k ∈ F) ∧ ∀ w' n e, Me.Mc w P.m Fm X.c n e w' → GqE w w' g P F { X with mn := n, en := e } N := by
 obtain ⟨Fm, Ft, Fb, Fs, rfl, h⟩ := h
 refine ⟨Fm, h.mq, fun k hk => mem_fpG.2 (Or.inr (Or.inl hk)), fun w' n e hc => ?_⟩
 obtain ⟨F', q1, q2, q3⟩ := hc
 refine ⟨fpG g F' Ft Fb Fs, ⟨F', Ft, Fb, Fs, rfl, ?_⟩, q2.mono (fun k hk => mem_fpG.2 (Or.inr (Or.inl hk))), fun k hk => ?_⟩
 ·exact ⟨q2.keep h.bl (h.gm g (by simp)), q1, h.tq.keep q2 h.mt.symm, h.bq.keep q2 h.mb.symm, h.sq.keep q2 h.ms.symm, (h.gm.symm.grow q3 (fun k hk => by simp at hk; subst hk; exact h.glt)).symm, h.gt, h.gb, h.gs, h.mt.grow q3 h.tq.lt, h.mb.grow q3 h.bq.lt, h.ms.grow q3 h.sq.lt, h.tb, h.ts, h.bs⟩
 ·rcases mem_fpG.1 hk with e | e | e | e | e
  ·exact Or.inl (mem_fpG.2 (Or.inl e))
  ·exact (q3 k e).elim (fun e => Or.inl (mem_fpG.2 (Or.inr (Or.inl e)))) Or.inr
  ·exact Or.inl (mem_fpG.2 (Or.inr (Or.inr (Or.inl e))))
  ·exact Or.inl (mem_fpG.2 (Or.inr (Or.inr (Or.inr (Or.inl e)))))
  ·exact Or.inl (mem_fpG.2 (Or.inr (Or.inr (Or.inr (Or.inr e)))))
theorem Gq.tab (h : Gq w g P F X N) : ∃ Ft, Ta.Tq w P.t Ft X.T N.t ∧ (∀ k, k ∈ Ft → k ∈ F) ∧ ∀ w' T' M, Ta.TqE w w' P.t Ft T' M → GqE w w' g P F { X with T := T' } { N with t := M } := by
 obtain ⟨Fm, Ft, Fb, Fs, rfl, h⟩ := h
 refine ⟨Ft, h.tq, fun k hk => mem_fpG.2 (Or.inr (Or.inr (Or.inl hk))), fun w' T' M hc => ?_⟩
 obtain ⟨F', q1, q2, q3⟩ := hc
 refine ⟨fpG g Fm F' Fb Fs, ⟨Fm, F', Fb, Fs, rfl, ?_⟩, q2.mono (fun k hk => mem_fpG.2 (Or.inr (Or.inr (Or.inl hk)))), fun k hk => ?_⟩
 ·exact ⟨q2.keep h.bl (h.gt g (by simp)), h.mq.keep q2 h.mt, q1, h.bq.keep q2 h.tb.symm, h.sq.keep q2 h.ts.symm, h.gm, (h.gt.symm.grow q3 (fun k hk => by simp at hk; subst hk; exact h.glt)).symm, h.gb, h.gs, (h.mt.symm.grow q3 h.mq.lt).symm, h.mb, h.ms, h.tb.grow q3 h.bq.lt, h.ts.grow q3 h.sq.lt, h.bs⟩
 ·rcases mem_fpG.1 hk with e | e | e | e | e
  ·exact Or.inl (mem_fpG.2 (Or.inl e))
  ·exact Or.inl (mem_fpG.2 (Or.inr (Or.inl e)))
  ·exact (q3 k e).elim (fun e => Or.inl (mem_fpG.2 (Or.inr (Or.inr (Or.inl e))))) Or.inr
  ·exact Or.inl (mem_fpG.2 (Or.inr (Or.inr (Or.inr (Or.inl e)))))
  ·exact Or.inl (mem_fpG.2 (Or.inr (Or.inr (Or.inr (Or.inr e)))))
theorem Gq.bat (h : Gq w g P F X N) : ∃ Fb, Ba.Bq w P.b Fb X.B N.b ∧ (∀ k, k ∈ Fb → k ∈ F) ∧ ∀ w' S' M, (∃ F', Ba.Bq w' P.b F' S' M ∧ Touch Fb w w' ∧ Nf w Fb F') → GqE w w' g P F { X with B := S' } { N with b := M } := by
 obtain ⟨Fm, Ft, Fb, Fs, rfl, h⟩ := h
 refine ⟨Fb, h.bq, fun k hk => mem_fpG.2 (Or.inr (Or.inr (Or.inr (Or.inl hk)))), fun w' T' M hc => ?_⟩
 obtain ⟨F', q1, q2, q3⟩ := hc
 refine ⟨fpG g Fm Ft F' Fs, ⟨Fm, Ft, F', Fs, rfl, ?_⟩, q2.mono (fun k hk => mem_fpG.2 (Or.inr (Or.inr (Or.inr (Or.inl hk))))), fun k hk => ?_⟩
 ·exact ⟨q2.keep h.bl (h.gb g (by simp)), h.mq.keep q2 h.mb, h.tq.keep q2 h.tb, q1, h.sq.keep q2 h.bs.symm, h.gm, h.gt, (h.gb.symm.grow q3 (fun k hk => by simp at hk; subst hk; exact h.glt)).symm, h.gs, h.mt, (h.mb.symm.grow q3 h.mq.lt).symm, h.ms, (h.tb.symm.grow q3 h.tq.lt).symm, h.ts, h.bs.grow q3 h.sq.lt⟩
 ·rcases mem_fpG.1 hk with e | e | e | e | e
  ·exact Or.inl (mem_fpG.2 (Or.inl e))
  ·exact Or.inl (mem_fpG.2 (Or.inr (Or.inl e)))
  ·exact Or.inl (mem_fpG.2 (Or.inr (Or.inr (Or.inl e))))
  ·exact (q3 k e).elim (fun e => Or.inl (mem_fpG.2 (Or.inr (Or.inr (Or.inr (Or.inl e)))))) Or.inr
  ·exact Or.inl (mem_fpG.2 (Or.inr (Or.inr (Or.inr (Or.inr e)))))
theorem Gq.sea (h : Gq w g P F X N) : ∃ Fs, Lv.Sq w P.s Fs X.L X.G N.s ∧ (∀ k, k ∈ Fs → k ∈ F) ∧ ∀ w' L' G' M, Lv.SqE w w' P.s Fs L' G' M → GqE w w' g P F { X with L := L', G := G' } { N with s := M } := by
 obtain ⟨Fm, Ft, Fb, Fs, rfl, h⟩ := h
 refine ⟨Fs, h.sq, fun k hk => mem_fpG.2 (Or.inr (Or.inr (Or.inr (Or.inr hk)))), fun w' L' G' M hc => ?_⟩
 obtain ⟨F', q1, q2, q3⟩ := hc
 refine ⟨fpG g Fm Ft Fb F', ⟨Fm, Ft, Fb, F', rfl, ?_⟩, q2.mono (fun k hk => mem_fpG.2 (Or.inr (Or.inr (Or.inr (Or.inr hk))))), fun k hk => ?_⟩
 ·exact ⟨q2.keep h.bl (h.gs g (by simp)), h.mq.keep q2 h.ms, h.tq.keep q2 h.ts, h.bq.keep q2 h.bs, q1, h.gm, h.gt, h.gb, (h.gs.symm.grow q3 (fun k hk => by simp at hk; subst hk; exact h.glt)).symm, h.mt, h.mb, (h.ms.symm.grow q3 h.mq.lt).symm, h.tb, (h.ts.symm.grow q3 h.tq.lt).symm, (h.bs.symm.grow q3 h.bq.lt).symm⟩
 ·rcases mem_fpG.1 hk with e | e | e | e | e
  ·exact Or.inl (mem_fpG.2 (Or.inl e))
  ·exact Or.inl (mem_fpG.2 (Or.inr (Or.inl e)))
  ·exact Or.inl (mem_fpG.2 (Or.inr (Or.inr (Or.inl e))))
  ·exact Or.inl (mem_fpG.2 (Or.inr (Or.inr (Or.inr (Or.inl e)))))
  ·exact (q3 k e).elim (fun e => Or.inl (mem_fpG.2 (Or.inr (Or.inr (Or.inr (Or.inr e)))))) Or.inr
theorem Gq.setNow (h : Gq w g P F X N) (n : Int) : GqE w (w.setCell ⟨g, 4, none⟩ (.int .i64 n)) g P F { X with now := n } N := by
 obtain ⟨Fm, Ft, Fb, Fs, rfl, h⟩ := h
 have T : Touch [g] w (w.setCell ⟨g, 4, none⟩ (.int .i64 n)) := (Touch.refl _ _).setCell (Or.inl (by simp)) _
 refine ⟨_, ⟨Fm, Ft, Fb, Fs, rfl, { h with bl := ?_, mq := h.mq.keep T h.gm.symm, tq := h.tq.keep T h.gt.symm, bq := h.bq.keep T h.gb.symm, sq := h.sq.keep T h.gs.symm }⟩, T.mono (fun k hk => by simp at hk; exact mem_fpG.2 (Or.inl hk)), Nf.refl _ _⟩
 have := bset h.bl (i := 4) (.int .i64 n)
 unfold gcs at this ⊢
 simpa using this
theorem Gq.iv (h : Gq w g P F X N) : Me.Gd X.c X.mn X.en ∧ Ta.Ti X.T N.t ∧ Ta.Lv X.T ∧ Lv.Iv X.L X.G N.s ∧ Ba.Iv X.B N.b := by
 obtain ⟨Fm, Ft, Fb, Fs, rfl, h⟩ := h
 refine ⟨h.mq.gd, h.tq.iv, h.tq.live, h.sq.iv, ?_⟩
 obtain ⟨sl, d, e, hm, hv⟩ := h.bq
 exact hv
end
section
variable {W w w' w2 : World} {g : Nat} {P : Pt} {F Bx : List Nat} {X Y : Gp} {N M : Cn}
end
section
variable {W w w' w1 w2 : World} {g : Nat} {P : Pt} {F : List Nat} {X Y : Gp} {N M : Cn}
theorem GqE.tch (h : GqE W w1 g P F X N) : Touch F W w1 := by
 obtain ⟨F1, q1, q2, q3⟩ := h
 exact q2
theorem GqE.bk (h : GqE W w1 g P F X N) {k : Nat} {ob : Obj} (hk : W.heap[k]? = some ob) (hn : ¬ k ∈ F) : w1.heap[k]? = some ob := h.tch.keep hk hn
theorem GqE.cs (h : GqE W w1 g P F X N) : GmC w1 g P X.now := by
 obtain ⟨F1, q1, q2, q3⟩ := h
 exact q1.cs
theorem GqE.sub (h : GqE W w1 g P F X N) : ∃ F1, Gq w1 g P F1 X N ∧ (∀ k, k < W.heap.size → ¬ k ∈ F → ¬ k ∈ F1) ∧ ∀ w2 Y M, GqE w1 w2 g P F1 Y M → GqE W w2 g P F Y M := by
 obtain ⟨F1, q1, q2, q3⟩ := h
 refine ⟨F1, q1, fun k h1 h2 => q3.out h1 h2, fun w2 Y M hE => ?_⟩
 obtain ⟨F2, r1, r2, r3⟩ := hE
 exact ⟨F2, r1, q2.trans r2 q3, q3.trans r3 q2.size⟩
theorem GqE.box (t0 : Touch [] w W) (h : GqE W w1 g P F X N) (hF : ∀ d, d ∈ F → d < w.heap.size) {Bs : List Nat} (hb : ∀ b, b ∈ Bs → w.heap.size ≤ b ∧ b < W.heap.size) (T2 : Touch Bs w1 w2) : GqE w w2 g P F X N := by
 obtain ⟨F1, q1, q2, q3⟩ := h
 refine ⟨F1, q1.keep T2 (fun d hd e => ?_), ((t0.mono (fun _ e => by cases e)).trans' q2).trans T2 (fun i hi => Or.inr (hb i hi).1), fun k hk => (q3 k hk).elim Or.inl (fun e => Or.inr (Nat.le_trans t0.size e))⟩
 have := hb d e
 rcases q3 d hd with q | q
 ·have := hF d q; omega
 ·omega
end
end Go.Proofs.YtllchnancjgijaaGreat
/- The contract of put; a key's name has at most 64 bytes. -/
namespace Go.Proofs.YtllchnancjgijaaGreat.Me
open Go.RowKit Go.Sort Go.Maps Go.ChangeMaps Go.WideMaps
def RT (t : Nat) (w : World) (v : Value) (xs : List K) : Prop := w.ownsRow 0 t 2 v xs.length (cellsK xs)
theorem RT.nil (t : Nat) (w : World) : RT t w (.slice none 0 0) [] := World.ownsRow_nil _ _ _ _
theorem RT.one {t : Nat} {w : World} {g : Nat} {x : K} (h : w.heap[g]? = some (.cells #[.int .u16 x.1, .string x.2] t (0, 0))) : RT t w (.slice (some ⟨g, 0, none⟩) 1 1) [x] :=
 ⟨rfl, Or.inr ⟨g, 1, #[.int .u16 x.1, .string x.2], rfl, Nat.zero_le _, h, Nat.le_refl _, by unfold maxLen; decide, rfl, rfl⟩⟩
theorem RT.form {t : Nat} {w : World} {v : Value} {xs : List K} (h : RT t w v xs) : ∃ a c, v = .slice a xs.length c ∧ ∀ k (hk : k < xs.length), ∃ g, a = some ⟨g, 0, none⟩ := by
 obtain ⟨h1, h2 | ⟨g, cap, cur, rfl, hg, hc, hn, r⟩⟩ := h
 ·obtain ⟨h2, h3⟩ := h2
  exact ⟨none, 0, by rw [h3]; exact h2, fun k hk => by omega⟩
 ·exact ⟨_, cap, rfl, fun k hk => ⟨g, rfl⟩⟩
theorem RT.cells {t : Nat} {w : World} {g c : Nat} {xs : List K} (h : RT t w (.slice (some ⟨g, 0, none⟩) xs.length c) xs) (k : Nat) (hk : k < xs.length) : w.cell? ⟨g, k * 2, none⟩ = some (.int .u16 xs[k].1) ∧ w.cell? ⟨g, k * 2 + 1, none⟩ = some (.string xs[k].2) :=
 ⟨own_cell h (cellsK_at0 xs k hk), own_cell h (cellsK_at1 xs k hk)⟩
def goneL (e : Int) (xs : List En) (k : K) : List K := if useB e (keysL xs) k then [useG e (keysL xs) k] else []
structure Pm (w : World) (m b o : Nat) (G : List Nat) (c : Cf) (now : Int) (xs : List En) (k : K) (v : V) (W : World) : Prop where
 md : Md W m c now b o
 mp : MapAt W b (if (mpf xs k).isSome then xs.length else xs.length + 1) (upd (mpf xs) k (ev v))
 oq : ∃ G', Oq W o G' c.e (useL c.e (keysL xs) k) ∧ ¬ b ∈ G' ∧ Nf w G G'
 t : Touch (m :: b :: G) w W
theorem dr_len_mem {xs : List K} {k : K} (hn : xs.Nodup) (h : k ∈ xs) : (dr xs k).length + 1 = xs.length := by
 obtain ⟨A, B, rfl⟩ := List.append_of_mem h
 rw [List.nodup_append, List.nodup_cons] at hn
 rw [dr_mid (fun x hx e => hn.2.2 x hx k (by simp) e) (fun x hx e => hn.2.1.1 (e ▸ hx))]
 simp only [List.length_append, List.length_cons]
 omega
theorem putY_len {xs : List En} (hn : (keysL xs).Nodup) (k : K) (v : V) : (putY xs k v).length = if (mpf xs k).isSome then xs.length else xs.length + 1 := by
 unfold putY mpf
 simp only [List.length_append, List.length_singleton, Option.isSome_map]
 rw [fnd_isSome]
 by_cases h : k ∈ keysL xs
 ·rw [hs_yes h, if_pos rfl]
  have h1 := dr_len_mem hn h
  rw [← drx_keys, keysL_len, keysL_len] at h1
  exact h1
 ·rw [hs_no h]
  simp only [Bool.false_eq_true, if_false]
  have h1 := congrArg List.length (dr_no h)
  rw [← drx_keys, keysL_len, keysL_len] at h1
  omega
theorem upd_mpf (xs : List En) (k : K) (v : V) : upd (mpf xs) k (ev v) = mpf (putY xs k v) := by
 funext j
 unfold upd mpf
 rw [fnd_putY]
 split <;> rfl
section
variable {w W : World} {m b o : Nat} {G : List Nat} {c : Cf} {now : Int} {xs : List En} {k : K} {v : V}
theorem Pm.end1 (h : Pm w m b o G c now xs k v W) (hn : (keysL xs).Nodup) (hg : Gd c now xs) (hv : right v.1 = true ∧ 0 ≤ v.2 ∧ v.2 ≤ now) (hb : useB c.e (keysL xs) k = false) : Mc w m (m :: b :: G) c now (putL c.e xs k v) W := by
 obtain ⟨md, mp, ⟨G', o1, o2, o3⟩, t⟩ := h
 have e : putL c.e xs k v = putY xs k v := by unfold putL; rw [hb]; rfl
 refine ⟨m :: b :: G', ⟨b, o, G', rfl, md, ?_, ?_, hg.put k v hv, o2⟩, t, fun i hi => ?_⟩
 ·rw [e, putY_len hn, ← upd_mpf]
  exact mp
 ·rw [putL_keys]
  exact o1
 ·simp only [List.mem_cons] at hi ⊢
  rcases hi with rfl | rfl | hi
  ·exact Or.inl (Or.inl rfl)
  ·exact Or.inl (Or.inr (Or.inl rfl))
  ·exact (o3 i hi).elim (fun e => Or.inl (Or.inr (Or.inr e))) Or.inr
theorem Pm.end2 (h : Pm w m b o G c now xs k v W) (hn : (keysL xs).Nodup) (hok : ∀ k ∈ keysL xs, Ok k) (hk : Ok k) (hg : Gd c now xs) (hv : right v.1 = true ∧ 0 ≤ v.2 ∧ v.2 ≤ now) (hb : useB c.e (keysL xs) k = true) (ty : TypeId) :
  ∃ ob, (Builtin.delete_ #[160, 35] ty #[.map (some b), kv (useG c.e (keysL xs) k)]).run Tryz.prog W.drew = .ok (.tuple #[]) (setBlock W.drew b ob) ∧ Mc w m (m :: b :: G) c now (putL c.e xs k v) (setBlock W.drew b ob) := by
 obtain ⟨md, mp, ⟨G', o1, o2, o3⟩, t⟩ := h
 obtain ⟨g, zs, hy⟩ : ∃ g zs, putY xs k v = g :: zs := by
  cases e : putY xs k v with
  | nil => simp [putY] at e
  | cons g zs => exact ⟨g, zs, rfl⟩
 have eG : useG c.e (keysL xs) k = g.1 := by
  unfold useG
  rw [if_pos hb, ← putY_keys xs k v, hy]
  rfl
 have e : putL c.e xs k v = zs := by unfold putL; rw [hb, hy]; rfl
 have hmem : ∀ x ∈ keysL (putY xs k v), Ok x := fun x hx => by
  obtain ⟨y, hy1, rfl⟩ := List.mem_map.1 hx
  rcases mem_putY hy1 with e | e
  ·exact hok _ (List.mem_map_of_mem e)
  ·rw [e]; exact hk
 have hnd : (keysL (putY xs k v)).Nodup := by
  rw [putY_keys]
  unfold useY dr
  rw [List.nodup_append]
  refine ⟨hn.filter _, by simp, fun a ha b hb e => ?_⟩
  simp only [List.mem_singleton] at hb
  have := (List.mem_filter.1 ha).2
  simp only [ne_eq, decide_eq_true_eq] at this
  exact this (e.trans hb)
 rw [hy] at hnd hmem
 simp only [keysL, List.map_cons, List.nodup_cons] at hnd
 rw [upd_mpf, ← putY_len hn k v, hy] at mp
 rw [eG]
 obtain ⟨ob, hu, hs⟩ := (show MapAt W.drew b _ _ from mp.kept rfl).del (t := 160) Tryz.underlying160 (hmem g.1 (by simp [keysL])) ty
 refine ⟨ob, hu, m :: b :: G', ⟨b, o, G', rfl, ?_, ?_, ?_, hg.put k v hv, o2⟩, ?_, fun i hi => ?_⟩
 ·have hne : m ≠ b := fun e => by
   have := mp.ne_block md
   exact this e.symm
  unfold Md
  rw [setBlock_other _ _ _ hne]
  exact md
 ·rw [e]
  have h1 : (mpf (g :: zs) g.1).isSome = true := by simp [mpf, fnd]
  rw [h1, if_pos rfl] at hs
  simp only [List.length_cons, Nat.add_sub_cancel] at hs
  refine hs.congr (fun j _ => ?_)
  unfold YtllchnancjgijaaGreat.Me.del mpf
  rw [fnd_tail hnd.1 j]
  split <;> rfl
 ·rw [putL_keys]
  have t2 : Touch [b] W (setBlock W.drew b ob) := touch_setBlock ((Touch.refl _ _).drew) (Or.inl (by simp)) _
  exact o1.keep t2 (fun i hi hh => by simp only [List.mem_singleton] at hh; subst hh; exact o2 hi)
 ·exact t.trans' (touch_setBlock ((Touch.refl _ _).drew) (Or.inl (by simp)) _)
 ·simp only [List.mem_cons] at hi ⊢
  rcases hi with rfl | rfl | hi
  ·exact Or.inl (Or.inl rfl)
  ·exact Or.inl (Or.inr (Or.inl rfl))
  ·exact (o3 i hi).elim (fun e => Or.inl (Or.inr (Or.inr e))) Or.inr
theorem put_mid {V W1 w2 w3 W : World} (h : Mb w m b o G c now xs) (TV : Touch [] w V) {ob : Obj} (hW : W1 = setBlock V.drew b ob) (hm : MapAt W1 b (if (mpf xs k).isSome then xs.length else xs.length + 1) (upd (mpf xs) k (ev v)))
  (t2 : Touch [] W1 w2) (c3 : Ch w2 o G c.e (useL c.e (keysL xs) k) w3) (t4 : Touch [] w3 W ∨ ∃ q, Touch [q] w3 W ∧ W1.heap.size ≤ q ∧ q < w2.heap.size) : Pm w m b o G c now xs k v W := by
 have T1 : Touch [b] w W1 := by rw [hW]; exact touch_setBlock ((TV.drew).mono (fun _ e => by cases e)) (Or.inl (by simp)) _
 have m1 : Md W1 m c now b o := T1.keep h.md (by simpa using h.mb.symm)
 obtain ⟨G', c1, c2, c4⟩ := c3
 have hlt := h.lt
 have hz1 : w.heap.size ≤ W1.heap.size := T1.size
 have m3 : Md w3 m c now b o := c2.keep (t2.keep m1 (by simp)) h.mg
 have p3 : MapAt w3 b _ _ := (hm.kept (t2.block b hm.lt (by simp))).kept (c2.block b (Nat.lt_of_lt_of_le hm.lt t2.size) h.bg)
 have bG : ¬ b ∈ G' := fun hh => (c4 b hh).elim h.bg (fun e => by have := hlt b (by simp); have := t2.size; omega)
 have nf : Nf w G G' := fun i hi => (c4 i hi).elim Or.inl (fun e => Or.inr (by have := t2.size; omega))
 have T3 : Touch (m :: b :: G) w w3 := ((T1.mono (fun i hi => by simp only [List.mem_singleton] at hi; subst hi; simp)).trans' (t2.mono (fun _ e => by cases e))).trans' (c2.mono (fun i hi => by simp [hi]))
 rcases t4 with t4 | ⟨q, t4, q1, q2⟩
 ·exact ⟨t4.keep m3 (by simp), p3.kept (t4.block b p3.lt (by simp)), ⟨G', c1.keep0 t4, bG, nf⟩, T3.trans' (t4.mono (fun _ e => by cases e))⟩
 ·have hq : ∀ i, i ∈ m :: b :: G → i ≠ q := fun i hi => by have := hlt i hi; omega
  refine ⟨t4.keep m3 (by simpa using hq m (by simp)), p3.kept (t4.block b p3.lt (by simpa using hq b (by simp))), ⟨G', c1.keep t4 (fun i hi hh => ?_), bG, nf⟩, T3.trans t4 (fun i hi => by simp only [List.mem_singleton] at hi; subst hi; exact Or.inr (by omega))⟩
  simp only [List.mem_singleton] at hh
  subst hh
  rcases c4 i hi with e | e
  ·exact hq i (by simp [e]) rfl
  ·omega
end
end Go.Proofs.YtllchnancjgijaaGreat.Me
/- The walk of put; a key's name has at most 64 bytes. -/
namespace Go.Proofs.YtllchnancjgijaaGreat.Me
open Go.RowKit Go.Sort Go.Maps Go.ChangeMaps Go.WideMaps
set_option maxHeartbeats 4000000 in
theorem put41_no (w : World) (m b o : Nat) (G : List Nat) (c : Cf) (now : Int) (xs : List En) (h : Mb w m b o G c now xs) (k : K) (hk : Ok k) (h64 : k.2.size ≤ 64) (v : V) (hv : right v.1 = true ∧ 0 ≤ v.2 ∧ v.2 ≤ now) (hb : useB c.e (keysL xs) k = false) :
  Calls Tryz.prog 119 #[PT m, kv k, ev v] w fun e w' => ∃ u, e = .returned u ∧ RT 35 w' u (goneL c.e xs k) ∧ Mc w m (m :: b :: G) c now (putL c.e xs k v) w' := by
 obtain ⟨V, hV⟩ : ∃ V, V = (w.alloc (bx k)).alloc (ebx v) := ⟨_, rfl⟩
 have TV : Touch [] w V := by rw [hV]; exact ((Touch.refl _ _).alloc _).alloc _
 have hB : V.heap[w.heap.size]? = some (bx k) := by rw [hV]; exact (Below.heap_alloc _ _ _ (by simp)).trans (heap_alloc_new w _)
 have hE : V.heap[w.heap.size + 1]? = some (ebx v) := by
  rw [hV]
  have := heap_alloc_new (w.alloc (bx k)) (ebx v)
  rwa [World.size_alloc] at this
 have hV' := h.keep0 TV
 obtain ⟨ob, hu, hmp⟩ := (show MapAt V.drew b _ _ from hV'.mp.kept rfl).set (t := 160) Tryz.underlying160 (maxLen_big (by have := h.len; omega)) hk (ev v)
 obtain ⟨W1, hW⟩ : ∃ W1, W1 = setBlock V.drew b ob := ⟨_, rfl⟩
 rw [← hW] at hu hmp
 have T1 : Touch [b] V W1 := by rw [hW]; exact touch_setBlock ((Touch.refl _ _).drew) (Or.inl (by simp)) _
 have hlt := h.lt
 have hbl := hlt b (by simp)
 have O1 : Oq W1 o G c.e (keysL xs) := hV'.oq.keep T1 (fun i hi hh => by simp only [List.mem_singleton] at hh; subst hh; exact h.bg hi)
 have m1 : Md W1 m c now b o := T1.keep hV'.md (by simpa using h.mb.symm)
 have B1 : W1.heap[w.heap.size]? = some (bx k) := T1.keep hB (by simp; omega)
 have hz1 : w.heap.size + 2 ≤ W1.heap.size := by have := T1.size; have := block_lt hE; omega
 have sA : ∀ w', Touch G W1 w' → w'.cell? ⟨m, 9, none⟩ = some (.pointer (some ⟨o, 0, none⟩)) := fun w' t => (show Md w' m c now b o from t.keep m1 h.mg).cs.c9
 have sB : ∀ w', Touch G W1 w' → w'.cell? ⟨w.heap.size, 0, none⟩ = some (.int .u16 k.1) := fun w' t => by
  have := t.keep B1 (fun hh => by have := hlt w.heap.size (by simp [hh]); omega)
  unfold bx at this
  simp [World.cell?, this]
 have sC : ∀ w', Touch G W1 w' → w'.cell? ⟨w.heap.size, 1, none⟩ = some (.string k.2) := fun w' t => by
  have := t.keep B1 (fun hh => by have := hlt w.heap.size (by simp [hh]); omega)
  unfold bx at this
  simp [World.cell?, this]
 have HU : Hid (∀ w2, Touch [] W1 w2 → Calls Tryz.prog 168 #[PT o, kv k] w2 fun e w' => e = .returned (.tuple #[kv (useG c.e (keysL xs) k), .bool false, .int .i64 0]) ∧ Ch w2 o G c.e (useL c.e (keysL xs) k) w') := fun w2 t => by
  have := useO w2 o G c.e (keysL xs) k hk h64 (by rw [keysL_len]; have := h.len; omega) (O1.keep0 t)
  rw [hb] at this
  exact this
 have HP : Hid (∀ w2 w3 W, Touch [] W1 w2 → Ch w2 o G c.e (useL c.e (keysL xs) k) w3 → (Touch [] w3 W ∨ ∃ q, Touch [q] w3 W ∧ W1.heap.size ≤ q ∧ q < w2.heap.size) → Pm w m b o G c now xs k v W) := fun w2 w3 W t2 c3 t4 => put_mid h TV hW hmp t2 c3 t4
 have HQ : Hid (∀ w2 w3, w2.heap[W1.heap.size]? = some (bx kz) → Ch w2 o G c.e (useL c.e (keysL xs) k) w3 → w3.heap[W1.heap.size]? = some (bx kz)) := fun w2 w3 q c3 => c3.block q (fun hh => by have := hlt W1.heap.size (by simp [hh]); omega)
 have c8 : V.cell? ⟨m, 8, none⟩ = some (.map (some b)) := hV'.md.cs.c8
 unfold bx at hB
 unfold ebx at hE
 have b0 : V.cell? ⟨w.heap.size, 0, none⟩ = some (.int .u16 k.1) := by simp [World.cell?, hB]
 have b1 : V.cell? ⟨w.heap.size, 1, none⟩ = some (.string k.2) := by simp [World.cell?, hB]
 have e0 : V.cell? ⟨w.heap.size + 1, 0, none⟩ = some (.int .i64 v.1.1) := by simp [World.cell?, hE]
 have e1 : V.cell? ⟨w.heap.size + 1, 1, none⟩ = some (.int .i64 v.1.2.1) := by simp [World.cell?, hE]
 have e2 : V.cell? ⟨w.heap.size + 1, 2, none⟩ = some (.int .i64 v.1.2.2.1) := by simp [World.cell?, hE]
 have e3 : V.cell? ⟨w.heap.size + 1, 3, none⟩ = some (.int .i64 v.1.2.2.2) := by simp [World.cell?, hE]
 have e4 : V.cell? ⟨w.heap.size + 1, 4, none⟩ = some (.int .i64 v.2) := by simp [World.cell?, hE]
 have tA : Hid (Touch [] W1 (W1.alloc (bx kz)).drew) := ((Touch.refl _ _).alloc _).drew
 have qA : Hid ((W1.alloc (bx kz)).drew.heap[W1.heap.size]? = some (bx kz)) := heap_alloc_new W1 _
 have tB : Hid (Touch [] W1 W1.drew) := (Touch.refl _ _).drew
 have SA : Hid (∀ w2 w3, Touch [] W1 w2 → Ch w2 o G c.e (useL c.e (keysL xs) k) w3 → Touch G W1 w3) := fun w2 w3 t c3 => by
  obtain ⟨G', c1, c2, c4⟩ := c3
  exact (t.mono (fun _ e => by cases e)).trans' c2
 have HEnd : Hid (∀ W, Pm w m b o G c now xs k v W → Mc w m (m :: b :: G) c now (putL c.e xs k v) W) := fun W p => p.end1 h.nd h.gd hv hb
 have hgo : goneL c.e xs k = [] := by unfold goneL; rw [hb]; rfl
 rw [hgo]
 have hbb : b < W1.heap.size := by omega
 clear h hV' hmp T1 O1 m1 B1 hB hE hW hv hk h64 hb hgo TV
 generalize useG c.e (keysL xs) k = g at *
 generalize useL c.e (keysL xs) k = ys at *
 generalize putL c.e xs k v = zs at *
 unfold PT kv ev at *
 unfold bx at HQ tA qA
 unfold kz at HQ tA qA
 go_enter Tryz.func119, Tryz.ntmps119
 go_wp2
 unfold bx ebx at hV
 rw [← hV]
 clear hV
 go_region
 clear b0 b1 e0 e1 e2 e3 e4 c8 hu
 go_upto_region 2 with fail
 go_region_held3 (fun w' => Touch G W1 w') (repeat (first | assumption | exact Touch.refl _ _ | apply Touch.alloc | apply Touch.drew | (refine Touch.setCell ?_ (Or.inr (by simp)) _)))
  (first
   | (go_at_call 168; refine (HU.out _ tA.out).mono ?_; rintro e w3 ⟨rfl, c3⟩; have s3 := SA.out _ _ tA.out c3; have hq := HQ.out _ _ qA.out c3; have y0 : w3.cell? ⟨W1.heap.size, 0, none⟩ = some (.int .u16 0) := (by simp [World.cell?, hq]); have y1 : w3.cell? ⟨W1.heap.size, 1, none⟩ = some (.string ⟨#[]⟩) := (by simp [World.cell?, hq]); have y2 : w3.frozen? ⟨W1.heap.size, 0, none⟩ = false := (by simp [World.frozen?, hq]); have y3 : w3.frozen? ⟨W1.heap.size, 1, none⟩ = false := (by simp [World.frozen?, hq]); have C3 := hid c3; clear c3)
   | (go_at_call 168; refine (HU.out _ tB.out).mono ?_; rintro e w3 ⟨rfl, c3⟩; have s3 := SA.out _ _ tB.out c3; have C3 := hid c3; clear c3))
 ·clear sA sB sC
  obtain ⟨W, hWd⟩ : ∃ W, W = w3.alloc (.cells #[.int .u16 g.1, .string g.2] 35) := ⟨_, rfl⟩
  have P := hid (HP.out _ _ W tB.out C3.out (Or.inl (by rw [hWd]; exact (Touch.refl _ _).alloc _)))
  have hqq : W.heap[w3.heap.size]? = some (.cells #[.int .u16 g.1, .string g.2] 35 (0, 0)) := by rw [hWd]; exact heap_alloc_new w3 _
  have hqb : w3.heap.size ≠ b := by have := s3.size; omega
  rw [← hWd]
  clear hWd s3
  generalize w3.heap.size = q at *
  go_wp2
  go_ret
  exact ⟨_, rfl, RT.nil _ _, HEnd.out _ P.out⟩
 ·clear sA sB sC
  obtain ⟨W, hWd⟩ : ∃ W, W = (w3.setCell ⟨W1.heap.size, 0, none⟩ (.int .u16 g.1)).setCell ⟨W1.heap.size, 1, none⟩ (.string g.2) := ⟨_, rfl⟩
  have P := hid (HP.out _ _ W tA.out C3.out (Or.inr ⟨W1.heap.size, by rw [hWd]; exact tset2 _ _ _ _, Nat.le_refl _, block_lt qA.out⟩))
  have hqq : W.heap[W1.heap.size]? = some (.cells #[.int .u16 g.1, .string g.2] 35 (0, 0)) := by rw [hWd]; exact bset (bset hq _) _
  have hqb : W1.heap.size ≠ b := by omega
  rw [← hWd]
  clear hWd s3 y0 y1 y2 y3 hq
  clear tA qA HQ tB SA HU HP C3
  generalize W1.heap.size = q at *
  go_wp2
  go_ret
  exact ⟨_, rfl, RT.nil _ _, HEnd.out _ P.out⟩
set_option maxHeartbeats 4000000 in
theorem put41_go (w : World) (m b o : Nat) (G : List Nat) (c : Cf) (now : Int) (xs : List En) (h : Mb w m b o G c now xs) (k : K) (hk : Ok k) (h64 : k.2.size ≤ 64) (v : V) (hv : right v.1 = true ∧ 0 ≤ v.2 ∧ v.2 ≤ now) (hb : useB c.e (keysL xs) k = true) :
  Calls Tryz.prog 119 #[PT m, kv k, ev v] w fun e w' => ∃ u, e = .returned u ∧ RT 35 w' u (goneL c.e xs k) ∧ Mc w m (m :: b :: G) c now (putL c.e xs k v) w' := by
 obtain ⟨V, hV⟩ : ∃ V, V = (w.alloc (bx k)).alloc (ebx v) := ⟨_, rfl⟩
 have TV : Touch [] w V := by rw [hV]; exact ((Touch.refl _ _).alloc _).alloc _
 have hB : V.heap[w.heap.size]? = some (bx k) := by rw [hV]; exact (Below.heap_alloc _ _ _ (by simp)).trans (heap_alloc_new w _)
 have hE : V.heap[w.heap.size + 1]? = some (ebx v) := by
  rw [hV]
  have := heap_alloc_new (w.alloc (bx k)) (ebx v)
  rwa [World.size_alloc] at this
 have hV' := h.keep0 TV
 obtain ⟨ob, hu, hmp⟩ := (show MapAt V.drew b _ _ from hV'.mp.kept rfl).set (t := 160) Tryz.underlying160 (maxLen_big (by have := h.len; omega)) hk (ev v)
 obtain ⟨W1, hW⟩ : ∃ W1, W1 = setBlock V.drew b ob := ⟨_, rfl⟩
 rw [← hW] at hu hmp
 have T1 : Touch [b] V W1 := by rw [hW]; exact touch_setBlock ((Touch.refl _ _).drew) (Or.inl (by simp)) _
 have hlt := h.lt
 have hbl := hlt b (by simp)
 have O1 : Oq W1 o G c.e (keysL xs) := hV'.oq.keep T1 (fun i hi hh => by simp only [List.mem_singleton] at hh; subst hh; exact h.bg hi)
 have m1 : Md W1 m c now b o := T1.keep hV'.md (by simpa using h.mb.symm)
 have B1 : W1.heap[w.heap.size]? = some (bx k) := T1.keep hB (by simp; omega)
 have hz1 : w.heap.size + 2 ≤ W1.heap.size := by have := T1.size; have := block_lt hE; omega
 have sA : ∀ w', Touch G W1 w' → w'.cell? ⟨m, 9, none⟩ = some (.pointer (some ⟨o, 0, none⟩)) := fun w' t => (show Md w' m c now b o from t.keep m1 h.mg).cs.c9
 have sB : ∀ w', Touch G W1 w' → w'.cell? ⟨w.heap.size, 0, none⟩ = some (.int .u16 k.1) := fun w' t => by
  have := t.keep B1 (fun hh => by have := hlt w.heap.size (by simp [hh]); omega)
  unfold bx at this
  simp [World.cell?, this]
 have sC : ∀ w', Touch G W1 w' → w'.cell? ⟨w.heap.size, 1, none⟩ = some (.string k.2) := fun w' t => by
  have := t.keep B1 (fun hh => by have := hlt w.heap.size (by simp [hh]); omega)
  unfold bx at this
  simp [World.cell?, this]
 have HU : Hid (∀ w2, Touch [] W1 w2 → Calls Tryz.prog 168 #[PT o, kv k] w2 fun e w' => e = .returned (.tuple #[kv (useG c.e (keysL xs) k), .bool true, .int .i64 0]) ∧ Ch w2 o G c.e (useL c.e (keysL xs) k) w') := fun w2 t => by
  have := useO w2 o G c.e (keysL xs) k hk h64 (by rw [keysL_len]; have := h.len; omega) (O1.keep0 t)
  rw [hb] at this
  exact this
 have HP : Hid (∀ w2 w3 W, Touch [] W1 w2 → Ch w2 o G c.e (useL c.e (keysL xs) k) w3 → (Touch [] w3 W ∨ ∃ q, Touch [q] w3 W ∧ W1.heap.size ≤ q ∧ q < w2.heap.size) → Pm w m b o G c now xs k v W) := fun w2 w3 W t2 c3 t4 => put_mid h TV hW hmp t2 c3 t4
 have HQ : Hid (∀ w2 w3, w2.heap[W1.heap.size]? = some (bx kz) → Ch w2 o G c.e (useL c.e (keysL xs) k) w3 → w3.heap[W1.heap.size]? = some (bx kz)) := fun w2 w3 q c3 => c3.block q (fun hh => by have := hlt W1.heap.size (by simp [hh]); omega)
 have c8 : V.cell? ⟨m, 8, none⟩ = some (.map (some b)) := hV'.md.cs.c8
 unfold bx at hB
 unfold ebx at hE
 have b0 : V.cell? ⟨w.heap.size, 0, none⟩ = some (.int .u16 k.1) := by simp [World.cell?, hB]
 have b1 : V.cell? ⟨w.heap.size, 1, none⟩ = some (.string k.2) := by simp [World.cell?, hB]
 have e0 : V.cell? ⟨w.heap.size + 1, 0, none⟩ = some (.int .i64 v.1.1) := by simp [World.cell?, hE]
 have e1 : V.cell? ⟨w.heap.size + 1, 1, none⟩ = some (.int .i64 v.1.2.1) := by simp [World.cell?, hE]
 have e2 : V.cell? ⟨w.heap.size + 1, 2, none⟩ = some (.int .i64 v.1.2.2.1) := by simp [World.cell?, hE]
 have e3 : V.cell? ⟨w.heap.size + 1, 3, none⟩ = some (.int .i64 v.1.2.2.2) := by simp [World.cell?, hE]
 have e4 : V.cell? ⟨w.heap.size + 1, 4, none⟩ = some (.int .i64 v.2) := by simp [World.cell?, hE]
 have tA : Hid (Touch [] W1 (W1.alloc (bx kz)).drew) := ((Touch.refl _ _).alloc _).drew
 have qA : Hid ((W1.alloc (bx kz)).drew.heap[W1.heap.size]? = some (bx kz)) := heap_alloc_new W1 _
 have tB : Hid (Touch [] W1 W1.drew) := (Touch.refl _ _).drew
 have SA : Hid (∀ w2 w3, Touch [] W1 w2 → Ch w2 o G c.e (useL c.e (keysL xs) k) w3 → Touch G W1 w3) := fun w2 w3 t c3 => by
  obtain ⟨G', c1, c2, c4⟩ := c3
  exact (t.mono (fun _ e => by cases e)).trans' c2
 have HEnd : Hid (∀ W, Pm w m b o G c now xs k v W → (W.cell? ⟨m, 8, none⟩ = some (.map (some b)) ∧ W.cell? ⟨m, 8, none⟩ = some (.map (some b))) ∧ ∀ ty, ∃ ob, (Builtin.delete_ #[160, 35] ty #[.map (some b), kv (useG c.e (keysL xs) k)]).run Tryz.prog W.drew = .ok (.tuple #[]) (setBlock W.drew b ob) ∧ b ≠ w.heap.size ∧ Mc w m (m :: b :: G) c now (putL c.e xs k v) (setBlock W.drew b ob)) := fun W p => by
  refine ⟨⟨p.md.cs.c8, p.md.cs.c8⟩, fun ty => ?_⟩
  obtain ⟨ob2, u1, u2⟩ := p.end2 h.nd h.ok hk h.gd hv hb ty
  exact ⟨ob2, u1, by omega, u2⟩
 have hgo : goneL c.e xs k = [useG c.e (keysL xs) k] := by unfold goneL; rw [hb]; rfl
 rw [hgo]
 have hbb : b < W1.heap.size := by omega
 clear h hV' hmp T1 O1 m1 B1 hB hE hW hv hk h64 hb hgo TV
 generalize useG c.e (keysL xs) k = g at *
 generalize useL c.e (keysL xs) k = ys at *
 generalize putL c.e xs k v = zs at *
 unfold PT kv ev at *
 unfold bx at HQ tA qA
 unfold kz at HQ tA qA
 go_enter Tryz.func119, Tryz.ntmps119
 go_wp2
 unfold bx ebx at hV
 rw [← hV]
 clear hV
 go_region
 clear b0 b1 e0 e1 e2 e3 e4 c8 hu
 go_upto_region 2 with fail
 go_region_held3 (fun w' => Touch G W1 w') (repeat (first | assumption | exact Touch.refl _ _ | apply Touch.alloc | apply Touch.drew | (refine Touch.setCell ?_ (Or.inr (by simp)) _)))
  (first
   | (go_at_call 168; refine (HU.out _ tA.out).mono ?_; rintro e w3 ⟨rfl, c3⟩; have s3 := SA.out _ _ tA.out c3; have hq := HQ.out _ _ qA.out c3; have y0 : w3.cell? ⟨W1.heap.size, 0, none⟩ = some (.int .u16 0) := (by simp [World.cell?, hq]); have y1 : w3.cell? ⟨W1.heap.size, 1, none⟩ = some (.string ⟨#[]⟩) := (by simp [World.cell?, hq]); have y2 : w3.frozen? ⟨W1.heap.size, 0, none⟩ = false := (by simp [World.frozen?, hq]); have y3 : w3.frozen? ⟨W1.heap.size, 1, none⟩ = false := (by simp [World.frozen?, hq]); have C3 := hid c3; clear c3)
   | (go_at_call 168; refine (HU.out _ tB.out).mono ?_; rintro e w3 ⟨rfl, c3⟩; have s3 := SA.out _ _ tB.out c3; have C3 := hid c3; clear c3))
 ·clear sA sB sC
  obtain ⟨W, hWd⟩ : ∃ W, W = w3.alloc (.cells #[.int .u16 g.1, .string g.2] 35) := ⟨_, rfl⟩
  have P := hid (HP.out _ _ W tB.out C3.out (Or.inl (by rw [hWd]; exact (Touch.refl _ _).alloc _)))
  have hqq : W.heap[w3.heap.size]? = some (.cells #[.int .u16 g.1, .string g.2] 35 (0, 0)) := by rw [hWd]; exact heap_alloc_new w3 _
  have hqb : w3.heap.size ≠ b := by have := s3.size; omega
  rw [← hWd]
  clear hWd s3
  generalize w3.heap.size = q at *
  obtain ⟨⟨c8, _⟩, hdel⟩ := HEnd.out W P.out
  obtain ⟨ob2, hu2, _, hmc⟩ := hdel 0
  have q0 : W.cell? ⟨q, 0, none⟩ = some (.int .u16 g.1) := by simp [World.cell?, hqq]
  have q1 : W.cell? ⟨q, 1, none⟩ = some (.string g.2) := by simp [World.cell?, hqq]
  obtain ⟨W4, hW4⟩ : ∃ W4, W4 = setBlock W.drew b ob2 := ⟨_, rfl⟩
  rw [← hW4] at hu2 hmc
  have k0 : W4.cell? ⟨q, 0, none⟩ = some (.int .u16 g.1) := by rw [hW4, cell_setBlock _ hqb]; exact q0
  have k1 : W4.cell? ⟨q, 1, none⟩ = some (.string g.2) := by rw [hW4, cell_setBlock _ hqb]; exact q1
  have HM := hid hmc
  clear hdel hW4 hmc hqq
  go_upto_region 5 with fail
  go_region
  clear q0 q1 c8
  go_wp2
  go_ret
  exact ⟨_, rfl, RT.one (heap_alloc_new W4 _), HM.out.keep0 ((Touch.refl _ _).alloc _)⟩
 ·clear sA sB sC
  obtain ⟨W, hWd⟩ : ∃ W, W = (w3.setCell ⟨W1.heap.size, 0, none⟩ (.int .u16 g.1)).setCell ⟨W1.heap.size, 1, none⟩ (.string g.2) := ⟨_, rfl⟩
  have P := hid (HP.out _ _ W tA.out C3.out (Or.inr ⟨W1.heap.size, by rw [hWd]; exact tset2 _ _ _ _, Nat.le_refl _, block_lt qA.out⟩))
  have hqq : W.heap[W1.heap.size]? = some (.cells #[.int .u16 g.1, .string g.2] 35 (0, 0)) := by rw [hWd]; exact bset (bset hq _) _
  have hqb : W1.heap.size ≠ b := by omega
  rw [← hWd]
  clear hWd s3 y0 y1 y2 y3 hq
  clear tA qA HQ tB SA HU HP C3
  generalize W1.heap.size = q at *
  obtain ⟨⟨c8, _⟩, hdel⟩ := HEnd.out W P.out
  obtain ⟨ob2, hu2, _, hmc⟩ := hdel 0
  have q0 : W.cell? ⟨q, 0, none⟩ = some (.int .u16 g.1) := by simp [World.cell?, hqq]
  have q1 : W.cell? ⟨q, 1, none⟩ = some (.string g.2) := by simp [World.cell?, hqq]
  obtain ⟨W4, hW4⟩ : ∃ W4, W4 = setBlock W.drew b ob2 := ⟨_, rfl⟩
  rw [← hW4] at hu2 hmc
  have k0 : W4.cell? ⟨q, 0, none⟩ = some (.int .u16 g.1) := by rw [hW4, cell_setBlock _ hqb]; exact q0
  have k1 : W4.cell? ⟨q, 1, none⟩ = some (.string g.2) := by rw [hW4, cell_setBlock _ hqb]; exact q1
  have HM := hid hmc
  clear hdel hW4 hmc hqq
  go_upto_region 5 with fail
  go_region
  clear q0 q1 c8
  go_wp2
  go_ret
  exact ⟨_, rfl, RT.one (heap_alloc_new W4 _), HM.out.keep0 ((Touch.refl _ _).alloc _)⟩
theorem putM (w : World) (m : Nat) (F : List Nat) (c : Cf) (now : Int) (xs : List En) (h : Mq w m F c now xs) (k : K) (hk : Ok k) (h64 : k.2.size ≤ 64) (v : V) (hv : right v.1 = true ∧ 0 ≤ v.2 ∧ v.2 ≤ now) :
  Calls Tryz.prog 119 #[PT m, kv k, ev v] w fun e w' => ∃ u, e = .returned u ∧ RT 35 w' u (goneL c.e xs k) ∧ Mc w m F c now (putL c.e xs k v) w' := by
 obtain ⟨b, o, G, rfl, h⟩ := h
 cases hb : useB c.e (keysL xs) k with
 | false => exact put41_no w m b o G c now xs h k hk h64 v hv hb
 | true => exact put41_go w m b o G c now xs h k hk h64 v hv hb
end Go.Proofs.YtllchnancjgijaaGreat.Me
/- The contract of Keep; a key's space is a number of 16 bits, a name's length fits. -/
namespace Go.Proofs.YtllchnancjgijaaGreat.Me
open Go.RowKit Go.Sort Go.Maps Go.ChangeMaps Go.WideMaps
def obx (x : O) : Obj := .cells #[.int .i64 x.1, .int .i64 x.2.1, .int .i64 x.2.2.1, .int .i64 x.2.2.2] 39
theorem pairE_ok {k : K} {x : O} (h : pairE k x = 0) : k.2.size ≤ 64 ∧ right x = true := by
 unfold pairE at h
 split at h
 ·omega
 ·split at h
  ·exact ⟨by omega, by assumption⟩
  ·omega
def keepE (now n : Int) (k : K) (x : O) : Int := if tickE now n = 0 then pairE k x else tickE now n
def kpB (c : Cf) (now n : Int) (k : K) (x : O) : Bool := decide (keepE now n k x = 0) && keepsC c x
def kpG (c : Cf) (now n : Int) (xs : List En) (k : K) (x : O) : List K := if kpB c now n k x then goneL c.e xs k else []
def kpN (now n : Int) (k : K) (x : O) : Int := if keepE now n k x = 0 then n else now
def kpX (c : Cf) (now n : Int) (xs : List En) (k : K) (x : O) : List En := if kpB c now n k x then putL c.e xs k (x, n) else xs
structure KpV (w : World) (k : K) (x : O) (V : World) : Prop where
 t : Touch [] w V
 hB : V.heap[w.heap.size]? = some (bx k)
 hO : V.heap[w.heap.size + 1]? = some (obx x)
theorem KpV.mk' (w : World) (k : K) (x : O) : KpV w k x ((w.alloc (bx k)).alloc (obx x)) :=
 ⟨((Touch.refl _ _).alloc _).alloc _, (Below.heap_alloc _ _ _ (by simp)).trans (heap_alloc_new w _), by
  have := heap_alloc_new (w.alloc (bx k)) (obx x)
  rwa [World.size_alloc] at this⟩
theorem KpV.cells {w V w2 : World} {k : K} {x : O} {F : List Nat} (h : KpV w k x V) (t : Touch F V w2) (hF : ∀ i ∈ F, i < w.heap.size) : (w2.cell? ⟨w.heap.size, 0, none⟩ = some (.int .u16 k.1) ∧ w2.cell? ⟨w.heap.size, 1, none⟩ = some (.string k.2)) ∧ w2.cell? ⟨w.heap.size + 1, 0, none⟩ = some (.int .i64 x.1) ∧ w2.cell? ⟨w.heap.size + 1, 1, none⟩ = some (.int .i64 x.2.1) ∧ w2.cell? ⟨w.heap.size + 1, 2, none⟩ = some (.int .i64 x.2.2.1) ∧ w2.cell? ⟨w.heap.size + 1, 3, none⟩ = some (.int .i64 x.2.2.2) := by
 have h1 := t.keep h.hB (fun hh => by have := hF _ hh; omega)
 have h2 := t.keep h.hO (fun hh => by have := hF _ hh; omega)
 unfold bx at h1
 unfold obx at h2
 simp [World.cell?, h1, h2]
theorem keep18_tick (w : World) (m : Nat) (F : List Nat) (c : Cf) (now n : Int) (xs : List En) (h : Mq w m F c now xs) (k : K) (x : O) (ht : tickE now n ≠ 0) :
  Calls Tryz.prog 70 #[PT m, .int .i64 n, kv k, ov x] w fun e w' => e = .returned (.tuple #[.bool false, .slice none 0 0, .int .i64 (tickE now n)]) ∧ Touch [] w w' := by
 obtain ⟨V, hV⟩ : ∃ V, V = (w.alloc (bx k)).alloc (obx x) := ⟨_, rfl⟩
 have TV : Hid (Touch [] w V) := by rw [hV]; exact (KpV.mk' w k x).t
 have HT := hid ((h.keep0 TV.out).tick n)
 clear h
 have hb : ((tickE now n) == 0) = false := by simp [ht]
 clear ht
 generalize tickE now n = E at *
 unfold PT kv ov at *
 go_enter Tryz.func70, Tryz.ntmps70
 go_upto_region 1 with fail
 unfold bx obx at hV
 rw [← hV]
 clear hV
 go_wp2_with (go_at_call 116; refine HT.out.mono ?_; rintro e w2 ⟨rfl, e2⟩; rw [e2]; clear e2 w2)
 exact bodyPost_ret (v := .tuple #[.bool false, .slice none 0 0, .int .i64 E]) (by simp [results, Tryz.results70, go_sem]) rfl ⟨rfl, TV.out⟩
theorem keep18_pair (w : World) (m : Nat) (F : List Nat) (c : Cf) (now n : Int) (xs : List En) (h : Mq w m F c now xs) (k : K) (x : O) (ht : tickE now n = 0) (hp : pairE k x ≠ 0) :
  Calls Tryz.prog 70 #[PT m, .int .i64 n, kv k, ov x] w fun e w' => e = .returned (.tuple #[.bool false, .slice none 0 0, .int .i64 (pairE k x)]) ∧ Touch [] w w' := by
 obtain ⟨V, hV⟩ : ∃ V, V = (w.alloc (bx k)).alloc (obx x) := ⟨_, rfl⟩
 have KV : KpV w k x V := by rw [hV]; exact KpV.mk' w k x
 have TV := hid KV.t
 have HT := hid ((h.keep0 TV.out).tick n)
 rw [ht] at HT
 have HP := hid (pair46 V k x)
 obtain ⟨⟨b0, b1⟩, o0, o1, o2, o3⟩ := KV.cells (Touch.refl [] V) (fun _ e => by cases e)
 clear h ht KV
 have hb : ((pairE k x) == 0) = false := by simp [hp]
 clear hp
 generalize pairE k x = E at *
 unfold PT kv ov at *
 go_enter Tryz.func70, Tryz.ntmps70
 go_upto_region 1 with fail
 unfold bx obx at hV
 rw [← hV]
 clear hV
 go_wp2_with (first
  | (go_at_call 116; refine HT.out.mono ?_; rintro e w2 ⟨rfl, e2⟩; rw [e2]; clear e2 w2)
  | (go_at_call 117; refine HP.out.mono ?_; rintro e w3 ⟨rfl, t3⟩; have T3 := hid t3; clear t3))
 exact bodyPost_ret (v := .tuple #[.bool false, .slice none 0 0, .int .i64 E]) (by simp [results, Tryz.results70, go_sem]) rfl ⟨rfl, TV.out.trans' T3.out⟩
theorem Mq.keeps {w : World} {m : Nat} {F : List Nat} {c : Cf} {now : Int} {xs : List En} (h : Mq w m F c now xs) (x : O) : Calls Tryz.prog 118 #[PT m, ov x] w fun e w' => e = .returned (.bool (keepsC c x)) ∧ Touch [] w w' := by
 obtain ⟨b, o, G, rfl, h⟩ := h
 exact keeps47 w m c now b o h.md x
set_option maxHeartbeats 1000000 in
theorem keep18_not (w : World) (m : Nat) (F : List Nat) (c : Cf) (now n : Int) (xs : List En) (h : Mq w m F c now xs) (k : K) (x : O) (ht : tickE now n = 0) (hp : pairE k x = 0) (hk : keepsC c x = false) :
  Calls Tryz.prog 70 #[PT m, .int .i64 n, kv k, ov x] w fun e w' => e = .returned (.tuple #[.bool false, .slice none 0 0, .int .i64 0]) ∧ Mc w m F c n xs w' := by
 obtain ⟨V, hV⟩ : ∃ V, V = (w.alloc (bx k)).alloc (obx x) := ⟨_, rfl⟩
 have KV : KpV w k x V := by rw [hV]; exact KpV.mk' w k x
 have TV := hid KV.t
 have HT := hid ((h.keep0 TV.out).tick n)
 rw [ht] at HT
 have HP := hid (pair46 V k x)
 rw [hp] at HP
 obtain ⟨q1, q2⟩ := tickE_ok ht
 have hF := h.lt
 have hm : m < w.heap.size := hF m h.mem
 have hne : w.heap.size ≠ m := by omega
 have hne1 : w.heap.size + 1 ≠ m := by omega
 have HC : Hid (∀ w2, Touch [] V w2 → ((w2.cell? ⟨w.heap.size, 0, none⟩ = some (.int .u16 k.1) ∧ w2.cell? ⟨w.heap.size, 1, none⟩ = some (.string k.2)) ∧ w2.cell? ⟨w.heap.size + 1, 0, none⟩ = some (.int .i64 x.1) ∧ w2.cell? ⟨w.heap.size + 1, 1, none⟩ = some (.int .i64 x.2.1) ∧ w2.cell? ⟨w.heap.size + 1, 2, none⟩ = some (.int .i64 x.2.2.1) ∧ w2.cell? ⟨w.heap.size + 1, 3, none⟩ = some (.int .i64 x.2.2.2)) ∧ w2.cell? ⟨m, 7, none⟩ = some (.int .i64 now) ∧ w2.frozen? ⟨m, 7, none⟩ = false) := fun w2 t => ⟨KV.cells t (fun _ e => by cases e), (h.keep0 (TV.out.trans' t)).c7⟩
 have HK : Hid (∀ w2, Touch [] V w2 → Calls Tryz.prog 118 #[PT m, ov x] (w2.setCell ⟨m, 7, none⟩ (.int .i64 n)) fun e w' => e = .returned (.bool false) ∧ Mc w m F c n xs w') := fun w2 t => by
  have C := (h.keep0 (TV.out.trans' t)).time q1 q2
  obtain ⟨F', C1, C2, C3⟩ := C
  have := C1.keeps x
  rw [hk] at this
  refine this.mono ?_
  rintro e w4 ⟨rfl, t4⟩
  exact ⟨rfl, (Mc.keep0 (⟨F', C1, C2, C3⟩ : Mc w2 m F c n xs _) t4).from0 (TV.out.trans' t)⟩
 obtain ⟨⟨⟨b0, b1⟩, o0, o1, o2, o3⟩, g0, g1⟩ := HC.out V (Touch.refl _ _)
 clear h ht hp hk KV q1 q2 hF
 unfold PT kv ov at *
 go_enter Tryz.func70, Tryz.ntmps70
 go_upto_region 1 with fail
 unfold bx obx at hV
 rw [← hV]
 clear hV
 go_wp2_with (first
  | (go_at_call 116; refine HT.out.mono ?_; rintro e w2 ⟨rfl, e2⟩; rw [e2]; clear e2 w2)
  | (go_at_call 117; refine HP.out.mono ?_; rintro e w3 ⟨rfl, t3⟩; have T3 := hid t3; clear b0 b1 o0 o1 o2 o3 g0 g1; obtain ⟨⟨⟨b0, b1⟩, o0, o1, o2, o3⟩, g0, g1⟩ := HC.out _ t3; clear t3)
  | (go_at_call 118; refine (HK.out _ T3.out).mono ?_; rintro e w4 ⟨rfl, hc⟩; have C4 := hid hc; clear hc))
 exact bodyPost_ret (v := .tuple #[.bool false, .slice none 0 0, .int .i64 0]) (by simp [results, Tryz.results70, go_sem]) rfl ⟨rfl, C4.out⟩
def PtQ (w : World) (m : Nat) (F : List Nat) (c : Cf) (n : Int) (gs : List K) (ys : List En) (u : Value) (w' : World) : Prop := RT 35 w' u gs ∧ Mc w m F c n ys w'
set_option maxHeartbeats 1000000 in
theorem keep18_yes (w : World) (m : Nat) (F : List Nat) (c : Cf) (now n : Int) (xs : List En) (h : Mq w m F c now xs) (k : K) (ok : Ok k) (x : O) (ht : tickE now n = 0) (hp : pairE k x = 0) (hk : keepsC c x = true) :
  Calls Tryz.prog 70 #[PT m, .int .i64 n, kv k, ov x] w fun e w' => ∃ u, e = .returned (.tuple #[.bool true, u, .int .i64 0]) ∧ PtQ w m F c n (goneL c.e xs k) (putL c.e xs k (x, n)) u w' := by
 obtain ⟨V, hV⟩ : ∃ V, V = (w.alloc (bx k)).alloc (obx x) := ⟨_, rfl⟩
 have KV : KpV w k x V := by rw [hV]; exact KpV.mk' w k x
 have TV := hid KV.t
 have HT := hid ((h.keep0 TV.out).tick n)
 rw [ht] at HT
 have HP := hid (pair46 V k x)
 rw [hp] at HP
 obtain ⟨q1, q2⟩ := tickE_ok ht
 obtain ⟨p1, p2⟩ := pairE_ok hp
 have n0 := h.gd.n0
 have hF := h.lt
 have hm : m < w.heap.size := hF m h.mem
 have hne : w.heap.size ≠ m := by omega
 have hne1 : w.heap.size + 1 ≠ m := by omega
 have HC : Hid (∀ w2, Touch [] V w2 → ((w2.cell? ⟨w.heap.size, 0, none⟩ = some (.int .u16 k.1) ∧ w2.cell? ⟨w.heap.size, 1, none⟩ = some (.string k.2)) ∧ w2.cell? ⟨w.heap.size + 1, 0, none⟩ = some (.int .i64 x.1) ∧ w2.cell? ⟨w.heap.size + 1, 1, none⟩ = some (.int .i64 x.2.1) ∧ w2.cell? ⟨w.heap.size + 1, 2, none⟩ = some (.int .i64 x.2.2.1) ∧ w2.cell? ⟨w.heap.size + 1, 3, none⟩ = some (.int .i64 x.2.2.2)) ∧ w2.cell? ⟨m, 7, none⟩ = some (.int .i64 now) ∧ w2.frozen? ⟨m, 7, none⟩ = false) := fun w2 t => ⟨KV.cells t (fun _ e => by cases e), (h.keep0 (TV.out.trans' t)).c7⟩
 have HK : Hid (∀ w2, Touch [] V w2 → Calls Tryz.prog 118 #[PT m, ov x] (w2.setCell ⟨m, 7, none⟩ (.int .i64 n)) fun e w' => e = .returned (.bool true) ∧ Mc w m F c n xs w' ∧ Touch [m] V w') := fun w2 t => by
  have C := (h.keep0 (TV.out.trans' t)).time q1 q2
  obtain ⟨F', C1, C2, C3⟩ := C
  have := C1.keeps x
  rw [hk] at this
  refine this.mono ?_
  rintro e w4 ⟨rfl, t4⟩
  exact ⟨rfl, (Mc.keep0 (⟨F', C1, C2, C3⟩ : Mc w2 m F c n xs _) t4).from0 (TV.out.trans' t), ((t.mono (fun _ e => by cases e)).setCell (Or.inl (by simp)) _).trans' (t4.mono (fun _ e => by cases e))⟩
 have HD : Hid (∀ w2, Touch [m] V w2 → ((w2.cell? ⟨w.heap.size, 0, none⟩ = some (.int .u16 k.1) ∧ w2.cell? ⟨w.heap.size, 1, none⟩ = some (.string k.2)) ∧ w2.cell? ⟨w.heap.size + 1, 0, none⟩ = some (.int .i64 x.1) ∧ w2.cell? ⟨w.heap.size + 1, 1, none⟩ = some (.int .i64 x.2.1) ∧ w2.cell? ⟨w.heap.size + 1, 2, none⟩ = some (.int .i64 x.2.2.1) ∧ w2.cell? ⟨w.heap.size + 1, 3, none⟩ = some (.int .i64 x.2.2.2))) := fun w2 t => KV.cells t (fun i hi => by simp only [List.mem_singleton] at hi; subst hi; exact hm)
 have HU : Hid (∀ w4, Mc w m F c n xs w4 → Calls Tryz.prog 119 #[PT m, kv k, ev (x, n)] w4 fun e w' => ∃ u, e = .returned u ∧ PtQ w m F c n (goneL c.e xs k) (putL c.e xs k (x, n)) u w') := fun w4 C => by
  obtain ⟨F', C1, C2, C3⟩ := C
  refine (putM w4 m F' c n xs C1 k ok p1 (x, n) ⟨p2, by show 0 ≤ n; omega, Int.le_refl _⟩).mono ?_
  rintro e w5 ⟨u, rfl, r, d⟩
  refine ⟨u, rfl, r, ?_⟩
  obtain ⟨F2, d1, d2, d3⟩ := d
  exact ⟨F2, d1, C2.trans d2 C3, C3.trans d3 C2.size⟩
 obtain ⟨⟨⟨b0, b1⟩, o0, o1, o2, o3⟩, g0, g1⟩ := HC.out V (Touch.refl _ _)
 clear h ht hp hk KV q1 q2 hF p1 p2 n0
 generalize goneL c.e xs k = gs at *
 generalize putL c.e xs k (x, n) = ys at *
 unfold PT kv ov ev at *
 simp only at HU
 go_enter Tryz.func70, Tryz.ntmps70
 go_upto_region 1 with fail
 unfold bx obx at hV
 rw [← hV]
 clear hV
 go_wp2_with (first
  | (go_at_call 116; refine HT.out.mono ?_; rintro e w2 ⟨rfl, e2⟩; rw [e2]; clear e2 w2)
  | (go_at_call 117; refine HP.out.mono ?_; rintro e w3 ⟨rfl, t3⟩; have T3 := hid t3; clear b0 b1 o0 o1 o2 o3 g0 g1; obtain ⟨⟨⟨b0, b1⟩, o0, o1, o2, o3⟩, g0, g1⟩ := HC.out _ t3; clear t3)
  | (go_at_call 118; refine (HK.out _ T3.out).mono ?_; rintro e w4 ⟨rfl, hc, t4⟩; have C4 := hid hc; clear hc b0 b1 o0 o1 o2 o3 g0 g1; obtain ⟨⟨b0, b1⟩, o0, o1, o2, o3⟩ := HD.out _ t4; clear t4)
  | (go_at_call 119; refine (HU.out _ C4.out).mono ?_; rintro e w5 ⟨u, rfl, hq⟩; have HQ := hid hq; clear hq))
 exact bodyPost_ret (v := .tuple #[.bool true, u, .int .i64 0]) (by simp [results, Tryz.results70, go_sem]) rfl ⟨u, rfl, HQ.out⟩
theorem keepM (w : World) (m : Nat) (F : List Nat) (c : Cf) (now n : Int) (xs : List En) (h : Mq w m F c now xs) (k : K) (ok : Ok k) (x : O) :
  Calls Tryz.prog 70 #[PT m, .int .i64 n, kv k, ov x] w fun e w' => ∃ u, e = .returned (.tuple #[.bool (kpB c now n k x), u, .int .i64 (keepE now n k x)]) ∧ PtQ w m F c (kpN now n k x) (kpG c now n xs k x) (kpX c now n xs k x) u w' := by
 by_cases ht : tickE now n = 0
 ·by_cases hp : pairE k x = 0
  ·have e : keepE now n k x = 0 := by unfold keepE; rw [if_pos ht, hp]
   cases hk : keepsC c x
   ·have e2 : kpB c now n k x = false := by unfold kpB; rw [hk]; simp
    unfold kpN kpG kpX
    rw [e2, e, if_pos rfl]
    exact (keep18_not w m F c now n xs h k x ht hp hk).mono fun e w' ⟨he, t⟩ => ⟨_, he, RT.nil _ _, t⟩
   ·have e2 : kpB c now n k x = true := by unfold kpB; rw [hk, e]; rfl
    unfold kpN kpG kpX
    rw [e2, e, if_pos rfl, if_pos rfl, if_pos rfl]
    exact keep18_yes w m F c now n xs h k ok x ht hp hk
  ·have e : keepE now n k x = pairE k x := by unfold keepE; rw [if_pos ht]
   have e2 : kpB c now n k x = false := by unfold kpB; rw [e, decide_eq_false hp]; rfl
   unfold kpN kpG kpX
   rw [e2, e, if_neg hp]
   exact (keep18_pair w m F c now n xs h k x ht hp).mono fun e w' ⟨he, t⟩ => ⟨_, he, RT.nil _ _, (Mc.refl h).keep0 t⟩
 ·have e : keepE now n k x = tickE now n := by unfold keepE; rw [if_neg ht]
  have e2 : kpB c now n k x = false := by unfold kpB; rw [e, decide_eq_false ht]; rfl
  unfold kpN kpG kpX
  rw [e2, e, if_neg ht]
  exact (keep18_tick w m F c now n xs h k x ht).mono fun e w' ⟨he, t⟩ => ⟨_, he, RT.nil _ _, (Mc.refl h).keep0 t⟩
end Go.Proofs.YtllchnancjgijaaGreat.Me
/- The contract of Tell; a key's space is a number of 16 bits, a name's length fits. -/
namespace Go.Proofs.YtllchnancjgijaaGreat.Me
open Go.RowKit Go.Sort Go.Maps Go.ChangeMaps Go.WideMaps
def useX (xs : List En) (k : K) : List En := match fnd xs k with
 | none => xs
 | some v => putY xs k v
def isUse (h : Int) : Bool := decide (h = 1) || decide (h = 2)
def tellX (c : Cf) (now n : Int) (xs : List En) (k : K) : List En := if isUse (askR c now n xs k).1 then useX xs k else xs
theorem mpf_use {xs : List En} {k : K} {v : V} (h : fnd xs k = some v) : mpf (putY xs k v) = mpf xs := by
 funext j
 unfold mpf
 rw [fnd_putY]
 by_cases e : j = k
 ·rw [if_pos e, e, h]
 ·rw [if_neg e]
theorem putY_len' {xs : List En} {k : K} {v : V} (hn : (keysL xs).Nodup) (h : fnd xs k = some v) : (putY xs k v).length = xs.length := by
 rw [putY_len hn]
 unfold mpf
 rw [h]
 rfl
theorem Gd.use {c : Cf} {now : Int} {xs : List En} {k : K} {v : V} (h : Gd c now xs) (hn : (keysL xs).Nodup) (hf : fnd xs k = some v) : Gd c now (putY xs k v) :=
 h.sub (fun x hx => (mem_putY hx).elim id (fun e => e ▸ fnd_mem hf)) (Nat.le_of_eq (putY_len' hn hf))
theorem Mb.touch {w w' : World} {m b o : Nat} {G : List Nat} {c : Cf} {now : Int} {xs : List En} {k : K} {v : V} (h : Mb w m b o G c now xs) (hf : fnd xs k = some v) (hc : Ch w o G c.e (dr (keysL xs) k ++ [k]) w') : Mc w m (m :: b :: G) c now (putY xs k v) w' := by
 obtain ⟨G', c1, c2, c3⟩ := hc
 have hlt := h.lt
 refine ⟨m :: b :: G', ⟨b, o, G', rfl, c2.keep h.md h.mg, ?_, ?_, h.gd.use h.nd hf, fun hh => (c3 b hh).elim h.bg (fun e => by have := hlt b (by simp); omega)⟩, c2.mono (fun i hi => by simp [hi]), fun i hi => ?_⟩
 ·rw [putY_len' h.nd hf, mpf_use hf]
  exact h.mp.kept (c2.block b h.mp.lt h.bg)
 ·rw [putY_keys]
  exact c1
 ·simp only [List.mem_cons] at hi ⊢
  rcases hi with rfl | rfl | hi
  ·exact Or.inl (Or.inl rfl)
  ·exact Or.inl (Or.inr (Or.inl rfl))
  ·exact (c3 i hi).elim (fun e => Or.inl (Or.inr (Or.inr e))) Or.inr
def sbx (h a : Int) (x : O) : Obj := .cells #[.int .i64 h, .int .i64 a, .int .i64 x.1, .int .i64 x.2.1, .int .i64 x.2.2.1, .int .i64 x.2.2.2] 173
structure S6 (w : World) (r : Nat) (h a : Int) (x : O) : Prop where
 c0 : w.cell? ⟨r, 0, none⟩ = some (.int .i64 h)
 c1 : w.cell? ⟨r, 1, none⟩ = some (.int .i64 a)
 c2 : w.cell? ⟨r, 2, none⟩ = some (.int .i64 x.1)
 c3 : w.cell? ⟨r, 3, none⟩ = some (.int .i64 x.2.1)
 c4 : w.cell? ⟨r, 4, none⟩ = some (.int .i64 x.2.2.1)
 c5 : w.cell? ⟨r, 5, none⟩ = some (.int .i64 x.2.2.2)
theorem S6.mk' {w : World} {r : Nat} {h a : Int} {x : O} (hh : w.heap[r]? = some (sbx h a x)) : S6 w r h a x := by
 unfold sbx at hh
 constructor <;> simp [World.cell?, hh]
structure TlV (w : World) (k : K) (V : World) : Prop where
 t : Touch [] w V
 hB : V.heap[w.heap.size]? = some (bx k)
 hZ : V.heap[w.heap.size + 1]? = some zbx
theorem TlV.mk' (w : World) (k : K) : TlV w k ((w.alloc (bx k)).alloc zbx) :=
 ⟨((Touch.refl _ _).alloc _).alloc _, (Below.heap_alloc _ _ _ (by simp)).trans (heap_alloc_new w _), by
  have := heap_alloc_new (w.alloc (bx k)) zbx
  rwa [World.size_alloc] at this⟩
set_option maxHeartbeats 2000000 in
theorem tell22_not (w : World) (m : Nat) (F : List Nat) (c : Cf) (now n : Int) (xs : List En) (h : Mq w m F c now xs) (k : K) (ok : Ok k) (hu : isUse (askR c now n xs k).1 = false) :
  Calls Tryz.prog 90 #[PT m, .int .i64 n, kv k] w fun e w' => e = .returned (.tuple #[lv (askR c now n xs k), .int .i64 (askE now n k)]) ∧ Mc w m F c (askN now n k) xs w' := by
 obtain ⟨V, hV⟩ : ∃ V, V = (w.alloc (bx k)).alloc zbx := ⟨_, rfl⟩
 have KV : TlV w k V := by rw [hV]; exact TlV.mk' w k
 have hF := h.lt
 have HL := hid (lookM V m F c now n xs (h.keep0 KV.t) k ok)
 generalize askR c now n xs k = s at *
 generalize askE now n k = E at *
 generalize askN now n k = n' at *
 obtain ⟨sh, sa, so⟩ := s
 have HW : Hid (∀ w2, Mc V m F c n' xs w2 → Z6 (w2.alloc (sbx sh sa so)) (w.heap.size + 1) ∧ S6 (w2.alloc (sbx sh sa so)) w2.heap.size sh sa so ∧ ∀ w5, Touch [w.heap.size + 1] (w2.alloc (sbx sh sa so)) w5 → Mc w m F c n' xs w5) := fun w2 C => by
  have hz := block_lt KV.hZ
  have C' := C.keep0 ((Touch.refl [] w2).alloc (sbx sh sa so))
  exact ⟨Z6.mk' (C'.block KV.hZ (fun hh => by have := hF _ hh; omega)), S6.mk' (heap_alloc_new w2 _), fun w5 t5 => C'.own t5 KV.t (Nat.le_succ _) hz hF⟩
 unfold isUse at hu
 simp only [Bool.or_eq_false_iff, decide_eq_false_iff_not] at hu
 have u1 : (sh == 1) = false := by simp [hu.1]
 have u2 : (sh == 2) = false := by simp [hu.2]
 have hB := KV.hB
 unfold bx at hB
 have b0 : V.cell? ⟨w.heap.size, 0, none⟩ = some (.int .u16 k.1) := by simp [World.cell?, hB]
 have b1 : V.cell? ⟨w.heap.size, 1, none⟩ = some (.string k.2) := by simp [World.cell?, hB]
 clear KV hB hu h ok hF
 unfold PT kv lv sv at *
 unfold sbx at HW
 simp only at HL HW ⊢
 go_enter Tryz.func90, Tryz.ntmps90
 go_upto_region 1 with fail
 unfold bx zbx at hV
 rw [← hV]
 clear hV
 go_wp2_with (go_at_call 88; refine HL.out.mono ?_; rintro e w2 ⟨rfl, c2⟩; obtain ⟨hz, hs, hc⟩ := HW.out _ c2; obtain ⟨z0, z1, z2, z3, z4, z5, f0, f1, f2, f3, f4, f5⟩ := hz; obtain ⟨s0, s1, s2, s3, s4, s5⟩ := hs; have HC := hid hc; clear hc c2)
 refine bodyPost_ret (v := .tuple #[.agg #[.int .i64 sh, .int .i64 sa, .int .i64 so.1, .int .i64 so.2.1, .int .i64 so.2.2.1, .int .i64 so.2.2.2], .int .i64 E]) (by simp [results, Tryz.results90, go_sem, z0, z1, z2, z3, z4, z5]) rfl ⟨rfl, ?_⟩
 exact HC.out _ (tset6 _ _ _ _ _ _ _ _)
set_option maxHeartbeats 2000000 in
theorem tell22_yes (w : World) (m : Nat) (F : List Nat) (c : Cf) (now n : Int) (xs : List En) (h : Mq w m F c now xs) (k : K) (ok : Ok k) (hu : isUse (askR c now n xs k).1 = true) (v : V) (hf : fnd xs k = some v) :
  Calls Tryz.prog 90 #[PT m, .int .i64 n, kv k] w fun e w' => e = .returned (.tuple #[lv (askR c now n xs k), .int .i64 (askE now n k)]) ∧ Mc w m F c (askN now n k) (putY xs k v) w' := by
 obtain ⟨V, hV⟩ : ∃ V, V = (w.alloc (bx k)).alloc zbx := ⟨_, rfl⟩
 have KV : TlV w k V := by rw [hV]; exact TlV.mk' w k
 have hF := h.lt
 have HL := hid (lookM V m F c now n xs (h.keep0 KV.t) k ok)
 generalize askR c now n xs k = s at *
 generalize askE now n k = E at *
 generalize askN now n k = n' at *
 obtain ⟨sh, sa, so⟩ := s
 have HW : Hid (∀ w2, Mc V m F c n' xs w2 → ∃ o G, (∀ w', Touch G (w2.alloc (sbx sh sa so)) w' → w'.cell? ⟨m, 9, none⟩ = some (.pointer (some ⟨o, 0, none⟩)) ∧ (w'.cell? ⟨w.heap.size, 0, none⟩ = some (.int .u16 k.1) ∧ w'.cell? ⟨w.heap.size, 1, none⟩ = some (.string k.2)) ∧ Z6 w' (w.heap.size + 1) ∧ S6 w' w2.heap.size sh sa so) ∧
   (Calls Tryz.prog 132 #[PT o, kv k] (w2.alloc (sbx sh sa so)).drew fun e w' => e = .returned (.bool true) ∧ Touch G (w2.alloc (sbx sh sa so)) w' ∧ ∀ w5, Touch [w.heap.size + 1] w' w5 → Mc w m F c n' (putY xs k v) w5)) := fun w2 C => by
  have hz := block_lt KV.hZ
  obtain ⟨F2, C1, C2, C3⟩ := C.keep0 ((Touch.refl [] w2).alloc (sbx sh sa so))
  obtain ⟨b, o, G, rfl, hm⟩ := C1
  have hlt := hm.lt
  have hzz := (Mc.keep0 C (Touch.refl [] w2))
  have hw2 : V.heap.size ≤ w2.heap.size := by obtain ⟨_, _, t, _⟩ := C; exact t.size
  have hw2' : w.heap.size + 2 ≤ V.heap.size := by omega
  have nG : ∀ q, w.heap.size ≤ q → q < V.heap.size → ¬ q ∈ m :: b :: G := fun q h1 h2 hh => by
   rcases C3 q hh with e | e
   ·have := hF q e; omega
   ·omega
  have nG2 : ¬ w2.heap.size ∈ G := hm.oq.away (heap_alloc_new w2 (sbx sh sa so)) (by decide) (by decide)
  refine ⟨o, G, fun w' t => ?_, ?_⟩
  ·have k1 := t.keep (C2.keep KV.hB (fun hh => by have := hF _ hh; omega)) (fun hh => nG w.heap.size (Nat.le_refl _) (by omega) (by simp [hh]))
   unfold bx at k1
   exact ⟨(show Md w' m c n' b o from t.keep hm.md hm.mg).cs.c9, by simp [World.cell?, k1], Z6.mk' (t.keep (C2.keep KV.hZ (fun hh => by have := hF _ hh; omega)) (fun hh => nG (w.heap.size + 1) (by omega) (by omega) (by simp [hh]))), S6.mk' (t.keep (heap_alloc_new w2 (sbx sh sa so)) nG2)⟩
  ·have hd := hm.keep0 ((Touch.refl [] _).drew)
   refine (touchO_yes _ o G c.e (keysL xs) k ?_ hd.oq).mono ?_
   ·by_cases e : k ∈ keysL xs
    ·exact e
    ·rw [fnd_none e] at hf; cases hf
   ·rintro e w3 ⟨rfl, c3⟩
    have M3 := hd.touch hf c3
    refine ⟨rfl, ?_, fun w5 t5 => ?_⟩
    ·obtain ⟨_, _, t, _⟩ := c3
     exact ((Touch.refl G _).drew).trans' t
    ·have M4 : Mc V m F c n' (putY xs k v) w3 := by
      obtain ⟨F3, m1, m2, m3⟩ := M3
      exact ⟨F3, m1, (C2.trans (((Touch.refl (m :: b :: G) _).drew).trans' m2) C3), C3.trans (fun i hi => m3 i hi) C2.size⟩
     exact M4.own t5 KV.t (Nat.le_succ _) hz hF
 have hB := KV.hB
 unfold bx at hB
 have b0 : V.cell? ⟨w.heap.size, 0, none⟩ = some (.int .u16 k.1) := by simp [World.cell?, hB]
 have b1 : V.cell? ⟨w.heap.size, 1, none⟩ = some (.string k.2) := by simp [World.cell?, hB]
 clear KV hB h ok hF hf
 generalize putY xs k v = ys at *
 unfold isUse at hu
 simp only [Bool.or_eq_true, decide_eq_true_eq] at hu
 unfold PT kv lv sv at *
 unfold sbx at HW
 simp only at HL HW ⊢
 rcases hu with hu | hu
 ·subst hu
  go_enter Tryz.func90, Tryz.ntmps90
  go_upto_region 1 with fail
  unfold bx zbx at hV
  rw [← hV]
  clear hV
  go_upto_region 3 with (go_at_call 88; refine HL.out.mono ?_; rintro e w2 ⟨rfl, c2⟩; have C2 := hid c2; clear c2)
  obtain ⟨o, G, h1, h2⟩ := HW.out _ C2.out
  obtain ⟨W, hW⟩ : ∃ W, W = w2.alloc (.cells #[.int .i64 1, .int .i64 sa, .int .i64 so.1, .int .i64 so.2.1, .int .i64 so.2.2.1, .int .i64 so.2.2.2] 173) := ⟨_, rfl⟩
  rw [← hW] at h1 h2 ⊢
  clear hW b0 b1
  have sA : ∀ w', Touch G W w' → w'.cell? ⟨m, 9, none⟩ = some (.pointer (some ⟨o, 0, none⟩)) := fun w' t => (h1 w' t).1
  have sB : ∀ w', Touch G W w' → w'.cell? ⟨w.heap.size, 0, none⟩ = some (.int .u16 k.1) := fun w' t => (h1 w' t).2.1.1
  have sC : ∀ w', Touch G W w' → w'.cell? ⟨w.heap.size, 1, none⟩ = some (.string k.2) := fun w' t => (h1 w' t).2.1.2
  have H1 : Hid (∀ w', Touch G W w' → Z6 w' (w.heap.size + 1) ∧ S6 w' w2.heap.size 1 sa so) := fun w' t => (h1 w' t).2.2
  have H2 := hid h2
  clear h1 h2
  have t0 : Touch G W W.drew := (Touch.refl _ _).drew
  go_region_held3 (fun w' => Touch G W w') (first | assumption | exact (Touch.refl _ _).drew) ((go_at_call 132; refine H2.out.mono ?_; rintro e w3 ⟨rfl, t3, c3⟩; have C3 := hid c3; clear c3))
  obtain ⟨hz, hs⟩ := H1.out _ t3
  obtain ⟨z0, z1, z2, z3, z4, z5, f0, f1, f2, f3, f4, f5⟩ := hz
  obtain ⟨s0, s1, s2, s3, s4, s5⟩ := hs
  clear sA sB sC t0 t3
  go_wp2
  refine bodyPost_ret (v := .tuple #[.agg #[.int .i64 1, .int .i64 sa, .int .i64 so.1, .int .i64 so.2.1, .int .i64 so.2.2.1, .int .i64 so.2.2.2], .int .i64 E]) (by simp [results, Tryz.results90, go_sem, z0, z1, z2, z3, z4, z5]) rfl ⟨rfl, ?_⟩
  exact C3.out _ (tset6 _ _ _ _ _ _ _ _)
 ·subst hu
  go_enter Tryz.func90, Tryz.ntmps90
  go_upto_region 1 with fail
  unfold bx zbx at hV
  rw [← hV]
  clear hV
  go_upto_region 3 with (go_at_call 88; refine HL.out.mono ?_; rintro e w2 ⟨rfl, c2⟩; have C2 := hid c2; clear c2)
  obtain ⟨o, G, h1, h2⟩ := HW.out _ C2.out
  obtain ⟨W, hW⟩ : ∃ W, W = w2.alloc (.cells #[.int .i64 2, .int .i64 sa, .int .i64 so.1, .int .i64 so.2.1, .int .i64 so.2.2.1, .int .i64 so.2.2.2] 173) := ⟨_, rfl⟩
  rw [← hW] at h1 h2 ⊢
  clear hW b0 b1
  have sA : ∀ w', Touch G W w' → w'.cell? ⟨m, 9, none⟩ = some (.pointer (some ⟨o, 0, none⟩)) := fun w' t => (h1 w' t).1
  have sB : ∀ w', Touch G W w' → w'.cell? ⟨w.heap.size, 0, none⟩ = some (.int .u16 k.1) := fun w' t => (h1 w' t).2.1.1
  have sC : ∀ w', Touch G W w' → w'.cell? ⟨w.heap.size, 1, none⟩ = some (.string k.2) := fun w' t => (h1 w' t).2.1.2
  have H1 : Hid (∀ w', Touch G W w' → Z6 w' (w.heap.size + 1) ∧ S6 w' w2.heap.size 2 sa so) := fun w' t => (h1 w' t).2.2
  have H2 := hid h2
  clear h1 h2
  have t0 : Touch G W W.drew := (Touch.refl _ _).drew
  go_region_held3 (fun w' => Touch G W w') (first | assumption | exact (Touch.refl _ _).drew) ((go_at_call 132; refine H2.out.mono ?_; rintro e w3 ⟨rfl, t3, c3⟩; have C3 := hid c3; clear c3))
  obtain ⟨hz, hs⟩ := H1.out _ t3
  obtain ⟨z0, z1, z2, z3, z4, z5, f0, f1, f2, f3, f4, f5⟩ := hz
  obtain ⟨s0, s1, s2, s3, s4, s5⟩ := hs
  clear sA sB sC t0 t3
  go_wp2
  refine bodyPost_ret (v := .tuple #[.agg #[.int .i64 2, .int .i64 sa, .int .i64 so.1, .int .i64 so.2.1, .int .i64 so.2.2.1, .int .i64 so.2.2.2], .int .i64 E]) (by simp [results, Tryz.results90, go_sem, z0, z1, z2, z3, z4, z5]) rfl ⟨rfl, ?_⟩
  exact C3.out _ (tset6 _ _ _ _ _ _ _ _)
theorem isUse_fnd {c : Cf} {now n : Int} {xs : List En} {k : K} (h : isUse (askR c now n xs k).1 = true) : ∃ v, fnd xs k = some v := by
 unfold askR lookS at h
 cases hf : fnd xs k with
 | some v => exact ⟨v, rfl⟩
 | none =>
  rw [hf] at h
  split at h <;> simp [isUse] at h
theorem tellM (w : World) (m : Nat) (F : List Nat) (c : Cf) (now n : Int) (xs : List En) (h : Mq w m F c now xs) (k : K) (ok : Ok k) :
  Calls Tryz.prog 90 #[PT m, .int .i64 n, kv k] w fun e w' => e = .returned (.tuple #[lv (askR c now n xs k), .int .i64 (askE now n k)]) ∧ Mc w m F c (askN now n k) (tellX c now n xs k) w' := by
 unfold tellX
 cases hu : isUse (askR c now n xs k).1 with
 | false => exact tell22_not w m F c now n xs h k ok hu
 | true =>
  obtain ⟨v, hf⟩ := isUse_fnd hu
  rw [if_pos rfl]
  unfold useX
  rw [hf]
  exact tell22_yes w m F c now n xs h k ok hu v hf
end Go.Proofs.YtllchnancjgijaaGreat.Me
/- What a group does, in plain words: its steps and what they tell; no program. -/
namespace Go.Proofs.YtllchnancjgijaaGreat
abbrev O := Int × Int × Int × Int
structure Jd where
 how : Int
 run : Int
 bg : Bool
 o : O
 sent : List Int
def Jd.z : Jd := ⟨0, 0, false, (0, 0, 0, 0), []⟩
def tkE (X : Gp) (n : Int) : Int := Me.tickE X.now n
def mayE (X : Gp) (n : Int) (k : K) (x t : Int) : Int := if tkE X n ≠ 0 then tkE X n else if 64 < k.2.size then 20 else if x < 1 then 1 else if t < 0 then 1 else if t ∈ X.G then 152 else if (Lv.whr X.L x).isSome then 160 else 0
def begX (X : Gp) (r : Int) : Gp := { X with B := Ba.addS X.B X.now r }
def begJ (X : Gp) (h r : Int) : Jd := ⟨h, r, true, (0, 0, 0, 0), Ba.addL X.B X.now r⟩
def runX (X : Gp) (k : K) (x : Int) (rf : Bool) : Gp := { X with T := Ta.tBeg X.T k x rf }
def renB (X : Gp) (k : K) : Bool := (Ta.curOf X.T k).isSome || decide (Ta.tBegE X.T k 0 true = 0)
def renX (X : Gp) (k : K) : Gp := match Ta.curOf X.T k with
 | some _ => X
 | none => if Ta.tBegE X.T k 0 true = 0 then begX (runX X k 0 true) (X.T.bg + 1) else X
def renJ (X : Gp) (k : K) : Jd := match Ta.curOf X.T k with
 | some R => ⟨2, R.run, false, (0, 0, 0, 0), []⟩
 | none => if Ta.tBegE X.T k 0 true = 0 then begJ X 2 (X.T.bg + 1) else Jd.z
def renC (X : Gp) (k : K) (N : Cn) : Cn := match Ta.curOf X.T k with
 | some _ => N
 | none => if Ta.tBegE X.T k 0 true = 0 then ⟨N.t + 1, N.b + 1, N.s⟩ else { N with t := N.t + 1 }
def seenOf (X : Gp) (k : K) : Int × Int × O := Me.lookS X.c X.now X.en k
def meeB (X : Gp) (k : K) (h : Int) : Bool := if h = 1 then true else if h = 2 then renB X k else false
def meeX (X : Gp) (k : K) (h : Int) : Gp := if h = 2 then renX X k else X
def meeJ (X : Gp) (k : K) (h : Int) : Jd := if h = 1 then ⟨1, 0, false, (0, 0, 0, 0), []⟩ else if h = 2 then renJ X k else Jd.z
def meeC (X : Gp) (k : K) (h : Int) (N : Cn) : Cn := if h = 2 then renC X k N else N
def telB (X : Gp) (k : K) : Bool := meeB X k (seenOf X k).1
def telX (X : Gp) (k : K) : Gp := if telB X k then { meeX X k (seenOf X k).1 with mn := X.now, en := Me.useX X.en k } else { meeX X k (seenOf X k).1 with mn := X.now }
def telJ (X : Gp) (k : K) : Jd := if telB X k then { meeJ X k (seenOf X k).1 with o := (seenOf X k).2.2 } else Jd.z
def sitX (X : Gp) (x r t : Int) : Gp := { X with L := Lv.sitL X.L X.G (x, r, t) }
def waiX (X : Gp) (k : K) (x t : Int) : Gp := match Ta.curOf X.T k with
 | some R => sitX { X with T := Ta.tJoin X.T R.run x } x R.run t
 | none => if Ta.tBegE X.T k x false = 0 then begX (sitX (runX X k x false) x (X.T.bg + 1) t) (X.T.bg + 1) else X
def waiJ (X : Gp) (k : K) (x : Int) : Jd := match Ta.curOf X.T k with
 | some R => ⟨3, R.run, false, (0, 0, 0, 0), []⟩
 | none => if Ta.tBegE X.T k x false = 0 then begJ X 5 (X.T.bg + 1) else ⟨4, 0, false, (0, 4, 0, 0), []⟩
def joX (X : Gp) (n : Int) (k : K) (x t : Int) : Gp := if mayE X n k x t ≠ 0 then X else
 if telB { X with now := n } k then telX { X with now := n } k else waiX (telX { X with now := n } k) k x t
def joJ (X : Gp) (n : Int) (k : K) (x t : Int) : Jd := if mayE X n k x t ≠ 0 then Jd.z else
 if telB { X with now := n } k then telJ { X with now := n } k else waiJ (telX { X with now := n } k) k x
def waiC (X : Gp) (k : K) (x : Int) (N : Cn) : Cn := match Ta.curOf X.T k with
 | some _ => ⟨N.t + 1, N.b, N.s + 1⟩
 | none => if Ta.tBegE X.T k x false = 0 then ⟨N.t + 1, N.b + 1, N.s + 1⟩ else { N with t := N.t + 1 }
def joC (X : Gp) (n : Int) (k : K) (x t : Int) (N : Cn) : Cn := if mayE X n k x t ≠ 0 then N else
 if telB { X with now := n } k then meeC { X with now := n } k (seenOf { X with now := n } k).1 N else waiC (telX { X with now := n } k) k x (meeC { X with now := n } k (seenOf { X with now := n } k).1 N)
end Go.Proofs.YtllchnancjgijaaGreat
/- What is none of a group's stays as it is at each of the group's steps: boxes and slices of other kinds; no conditions. -/
namespace Go.Proofs.YtllchnancjgijaaGreat
open Go.RowKit Go.Maps Go.ChangeMaps
def boxT (t : Nat) : Bool := !(([3, 109, 162, 231, 299, 204, 274, 217, 197, 238] : List Nat).contains t)
structure BoxT (u : Nat) : Prop where
 i : u ≠ 3
 g : u ≠ 109
 m : u ≠ 162
 o : u ≠ 231
 p : u ≠ 299
 t : u ≠ 204
 r : u ≠ 274
 b : u ≠ 217
 s : u ≠ 197
 c : u ≠ 238
theorem boxT_of {t : Nat} (h : boxT t = true) : BoxT t := by
 unfold boxT at h
 simp only [List.contains_eq_mem, List.mem_cons, List.not_mem_nil, or_false, Bool.not_eq_true', decide_eq_false_iff_not, not_or] at h
 obtain ⟨h1, h2, h3, h4, h5, h6, h7, h8, h9, h10⟩ := h
 exact ⟨h1, h2, h3, h4, h5, h6, h7, h8, h9, h10⟩
section
variable {w : World} {t k : Nat} {F : List Nat} {cs : Array Value} {u : TypeId} {z : Nat × Nat}
theorem Ta.Tq.away {T : Ta.Tb} {N : Nat} (h : Ta.Tq w t F T N) (hk : w.heap[k]? = some (.cells cs u z)) (hu : BoxT u) : ¬ k ∈ F := fun e => by
 obtain ⟨p, c, g, nc, ng, Ps, rfl, h, hL⟩ := h
 have hm : ∀ d, (∃ es cl, w.heap[d]? = some (.map es cl)) → k ≠ d := fun d ⟨es, cl, hd⟩ e => by rw [e, hd] at hk; cases hk
 rcases Ta.mem_fpT.1 e with e | e | e | e | ⟨q, hq, e⟩
 ·rw [e, h.bl] at hk
  simp only [Option.some.injEq, Obj.cells.injEq] at hk
  exact hu.t hk.2.1.symm
 ·exact hm _ h.pm.kind e
 ·exact hm _ h.cm.kind e
 ·exact hm _ (h.gm.kind e) rfl
 ·obtain ⟨sl, m, ys, eF, hr, -⟩ := h.recs q hq
  rw [eF] at e
  rcases Ta.mem_fpR.1 e with e | e | e
  ·rw [e, hr.rc.bl] at hk
   simp only [Option.some.injEq, Obj.cells.injEq] at hk
   exact hu.r hk.2.1.symm
  ·obtain ⟨cc, hc⟩ := own_kind hr.ln.row e
   rw [hc] at hk
   simp only [Option.some.injEq, Obj.cells.injEq] at hk
   exact hu.i hk.2.1.symm
  ·exact hm _ (hr.ln.mp.kind e) rfl
theorem Ba.Bq.away {S : Ba.Bs} {N : Nat} (h : Ba.Bq w t F S N) (hk : w.heap[k]? = some (.cells cs u z)) (hu : BoxT u) : ¬ k ∈ F := fun e => by
 obtain ⟨sl, d, rfl, h, hv⟩ := h
 rcases Ba.mem_fpB.1 e with e | e
 ·rw [e, h.hb] at hk
  simp only [Option.some.injEq, Obj.cells.injEq] at hk
  exact hu.b hk.2.1.symm
 ·obtain ⟨cc, hc⟩ := own_kind h.row e
  rw [hc] at hk
  simp only [Option.some.injEq, Obj.cells.injEq] at hk
  exact hu.i hk.2.1.symm
theorem Lv.Sq.away {L : List Lv.Se} {G : List Int} {N : Nat} (h : Lv.Sq w t F L G N) (hk : w.heap[k]? = some (.cells cs u z)) (hu : BoxT u) : ¬ k ∈ F := fun e => by
 rcases h.own k e with ⟨c, z, h⟩ | ⟨c, z, h⟩ | ⟨es, cl, h⟩
 ·rw [h] at hk
  simp only [Option.some.injEq, Obj.cells.injEq] at hk
  exact hu.s hk.2.1.symm
 ·rw [h] at hk
  simp only [Option.some.injEq, Obj.cells.injEq] at hk
  exact hu.c hk.2.1.symm
 ·rw [h] at hk; cases hk
theorem Gq.away {g : Nat} {P : Pt} {X : Gp} {N : Cn} (h : Gq w g P F X N) (hk : w.heap[k]? = some (.cells cs u z)) (hu : boxT u = true) : ¬ k ∈ F := fun e => by
 have hu := boxT_of hu
 obtain ⟨Fm, Ft, Fb, Fs, rfl, h⟩ := h
 rcases mem_fpG.1 e with e | e | e | e | e
 ·rw [e, h.bl] at hk
  simp only [Option.some.injEq, Obj.cells.injEq] at hk
  exact hu.g hk.2.1.symm
 ·exact h.mq.away hk hu.o hu.p hu.m e
 ·exact h.tq.away hk hu e
 ·exact h.bq.away hk hu e
 ·exact h.sq.away hk hu e
end
def Keeps (w w' : World) : Prop := ∀ (k : Nat) (cs : Array Value) (t : TypeId) (z : Nat × Nat), boxT t = true → w.heap[k]? = some (.cells cs t z) → w'.heap[k]? = some (.cells cs t z)
theorem Touch.keeps {w w' : World} (T : Touch [] w w') : Keeps w w' := fun k cs t z _ hk => T.keep hk (by simp)
theorem Keeps.trans {w w1 w2 : World} (h : Keeps w w1) (h' : Keeps w1 w2) : Keeps w w2 := fun k cs t z ht hk => h' k cs t z ht (h k cs t z ht hk)
section
variable {w w1 w2 : World} {g : Nat} {P : Pt} {F : List Nat} {X Y : Gp} {N M : Cn}
theorem GqE.keeps (h : Gq w g P F X N) (hE : GqE w w1 g P F Y M) : Keeps w w1 := fun k cs t z ht hk => hE.tch.keep hk (h.away hk ht)
theorem GqE.go (Q : GqE w w1 g P F X N) : ∃ F1, Gq w1 g P F1 X N ∧ ∀ w2 Y M, GqE w1 w2 g P F1 Y M → GqE w w2 g P F Y M ∧ Keeps w1 w2 := by
 obtain ⟨F1, q1, -, q2⟩ := Q.sub
 exact ⟨F1, q1, fun w2 Y M hE => ⟨q2 _ _ _ hE, GqE.keeps q1 hE⟩⟩
theorem GqE.put (Q : GqE w w1 g P F X N) {k : Nat} {cs : Array Value} {t : TypeId} {z : Nat × Nat} (hk : w1.heap[k]? = some (.cells cs t z)) (ht : boxT t = true) (h0 : w.heap.size ≤ k) (T : Touch [k] w1 w2) : GqE w w2 g P F X N := by
 obtain ⟨F1, q1, q2, q3⟩ := Q
 refine ⟨F1, q1.keep T (fun d hd e => ?_), q2.trans T (fun i hi => Or.inr (by simp only [List.mem_singleton] at hi; omega)), q3⟩
 simp only [List.mem_singleton] at e
 rw [e] at hd
 exact q1.away hk ht hd
theorem GqE.memo (Q : GqE w w1 g P F X N) : ∃ Fm, Me.Mq w1 P.m Fm X.c X.mn X.en ∧ ∀ w2 n e, Me.Mc w1 P.m Fm X.c n e w2 → GqE w w2 g P F { X with mn := n, en := e } N ∧ Keeps w1 w2 ∧ Touch Fm w1 w2 := by
 obtain ⟨F1, q1, q2⟩ := Q.go
 obtain ⟨Fm, hm, -, hs⟩ := q1.memo
 refine ⟨Fm, hm, fun w2 n e hc => ?_⟩
 obtain ⟨F', r1, r2, r3⟩ := hc
 have := q2 _ _ _ (hs w2 n e ⟨F', r1, r2, r3⟩)
 exact ⟨this.1, this.2, r2⟩
theorem GqE.tab (Q : GqE w w1 g P F X N) : ∃ Ft, Ta.Tq w1 P.t Ft X.T N.t ∧ ∀ w2 T' M, Ta.TqE w1 w2 P.t Ft T' M → GqE w w2 g P F { X with T := T' } { N with t := M } ∧ Keeps w1 w2 := by
 obtain ⟨F1, q1, q2⟩ := Q.go
 obtain ⟨Ft, ht, -, hs⟩ := q1.tab
 exact ⟨Ft, ht, fun w2 T' M hE => q2 _ _ _ (hs w2 T' M hE)⟩
theorem GqE.sea (Q : GqE w w1 g P F X N) : ∃ Fs, Lv.Sq w1 P.s Fs X.L X.G N.s ∧ ∀ w2 L' G' M, Lv.SqE w1 w2 P.s Fs L' G' M → GqE w w2 g P F { X with L := L', G := G' } { N with s := M } ∧ Keeps w1 w2 := by
 obtain ⟨F1, q1, q2⟩ := Q.go
 obtain ⟨Fs, ht, -, hs⟩ := q1.sea
 exact ⟨Fs, ht, fun w2 L' G' M hE => q2 _ _ _ (hs w2 L' G' M hE)⟩
theorem GqE.setNow (Q : GqE w w1 g P F X N) (n : Int) : GqE w (w1.setCell ⟨g, 4, none⟩ (.int .i64 n)) g P F { X with now := n } N ∧ Keeps w1 (w1.setCell ⟨g, 4, none⟩ (.int .i64 n)) := by
 obtain ⟨F1, q1, q2⟩ := Q.go
 exact q2 _ _ _ (q1.setNow n)
theorem GqE.iv (Q : GqE w w1 g P F X N) : Me.Gd X.c X.mn X.en ∧ Ta.Ti X.T N.t ∧ Ta.Lv X.T ∧ Lv.Iv X.L X.G N.s ∧ Ba.Iv X.B N.b := by
 obtain ⟨F1, q1, q2⟩ := Q.go
 exact q1.iv
end
end Go.Proofs.YtllchnancjgijaaGreat
