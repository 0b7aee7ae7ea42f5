/- The walk of the law of keys apart; conditions: those of its arguments. -/
import Derived.Test.YtllchnancjgijaaGreatQa15
set_option linter.unusedVariables false
set_option linter.unusedSimpArgs false
set_option maxRecDepth 100000
namespace Go.Proofs.YtllchnancjgijaaGreat
open Go.RowKit Go.Maps Go.ChangeMaps
theorem neqO (w : World) (a b c d : Int) : (binOp .neq 39 (.agg #[.int .i64 a, .int .i64 b, .int .i64 c, .int .i64 d]) (.agg #[.int .i64 a, .int .i64 b, .int .i64 c, .int .i64 d])).run Tryz.prog w = .ok (.bool false) w := by
 simp [go_sem]
def okN (n : Int) (c : Me.Cf) : Prop := (1 ≤ n ∧ n ≤ 64) ∧ Me.okC c = true
theorem snew_any (n : Int) (c : Me.Cf) (hw : W7 c) (w : World) : Calls Tryz.prog 6 #[.int .i64 n, Me.cv c] w fun e w' => ∃ o E, e = .returned (.tuple #[.pointer o, .int .i64 E]) ∧ Touch [] w w' ∧ (¬ okN n c → (E != 0) = true) := by
 by_cases hn : 1 ≤ n ∧ n ≤ 64
 ·obtain ⟨m, rfl⟩ : ∃ m : Nat, n = m := ⟨n.toNat, by omega⟩
  by_cases hc : Me.okC c = true
  ·refine (snew_ m c w (by omega) (by omega) hc hw).mono ?_
   rintro e w' ⟨s, F, rfl, _, t, _⟩
   exact ⟨_, _, rfl, t, fun h => absurd ⟨hn, hc⟩ h⟩
  ·refine (snew_cfg m c w (by omega) (by omega) (by simpa using hc)).mono ?_
   rintro e w' ⟨rfl, t⟩
   exact ⟨_, _, rfl, t, fun _ => rfl⟩
 ·refine (snew_arg n c w hn).mono ?_
  rintro e w' ⟨rfl, t⟩
  exact ⟨_, _, rfl, t, fun _ => rfl⟩
theorem gnew_any (c : Me.Cf) (hw : W7 c) (w : World) : Calls Tryz.prog 7 #[Me.cv c] w fun e w' => ∃ o E, e = .returned (.tuple #[.pointer o, .int .i64 E]) ∧ Touch [] w w' := by
 by_cases hc : Me.okC c = true
 ·refine (new_ w c hc hw).mono ?_
  rintro e w' ⟨g, rfl, P, F, _, t, _⟩
  exact ⟨_, _, rfl, t⟩
 ·refine (new_no w c (by simpa using hc)).mono ?_
  rintro e w' ⟨rfl, t⟩
  exact ⟨_, _, rfl, t⟩
theorem As4.start {w V w1 w2 w3 w4 : World} {O1 O2 O3 O4 : World → List Nat → Prop} (b1 : Ob O1) (b2 : Ob O2) (b3 : Ob O3) (b4 : Ob O4) (hv : Touch [] w V) {F1 F2 F3 F4 : List Nat} (h1 : O1 w1 F1) (t1 : Touch [] V w1) (f1 : ∀ k, k ∈ F1 → V.heap.size ≤ k) (h2 : O2 w2 F2) (t2 : Touch [] w1 w2) (f2 : ∀ k, k ∈ F2 → w1.heap.size ≤ k) (h3 : O3 w3 F3) (t3 : Touch [] w2 w3) (f3 : ∀ k, k ∈ F3 → w2.heap.size ≤ k) (h4 : O4 w4 F4) (t4 : Touch [] w3 w4) (f4 : ∀ k, k ∈ F4 → w3.heap.size ≤ k) : As4 w w4 O1 O2 O3 O4 := by
 have n0 : ∀ (F : List Nat) (k : Nat), k ∈ F → ¬ k ∈ ([] : List Nat) := fun F k _ e => by cases e
 have r0 : ∀ {w : World} (g : Nat) (cs : Array Value) (z : Nat × Nat), w.heap[g]? = some (.cells cs 29 z) → ¬ g ∈ ([] : List Nat) := fun _ _ _ _ e => by cases e
 have s0 := hv.size
 have s1 := t1.size
 have s2 := t2.size
 have s3 := t3.size
 refine ⟨F1, F2, F3, F4, b1.kp h1 ((t2.trans' t3).trans' t4) (n0 _) r0, b2.kp h2 (t3.trans' t4) (n0 _) r0, b3.kp h3 t4 (n0 _) r0, h4, fun k a b => ?_, fun k a b => ?_, fun k a b => ?_, fun k a b => ?_, fun k a b => ?_, fun k a b => ?_, (((hv.trans' t1).trans' t2).trans' t3).trans' t4, fun k hk => ?_⟩
 ·have := b1.lt h1 k a; have := f2 k b; omega
 ·have := b1.lt h1 k a; have := f3 k b; omega
 ·have := b1.lt h1 k a; have := f4 k b; omega
 ·have := b2.lt h2 k a; have := f3 k b; omega
 ·have := b2.lt h2 k a; have := f4 k b; omega
 ·have := b3.lt h3 k a; have := f4 k b; omega
 ·simp only [List.mem_append] at hk
  rcases hk with e | e | e | e
  ·have := f1 k e; omega
  ·have := f2 k e; omega
  ·have := f3 k e; omega
  ·have := f4 k e; omega
theorem As4.mono {w wr : World} {s t u g M : Nat} {ls lt : List Gp} {X : Gp} {ns nt n1 : Int} {m1 m2 m3 m4 : Nat} (h : As4 w wr (Ho s ls ns m1) (Ho t lt nt m2) (Ho u [X] n1 m3) (Go4 g X m4)) (h1 : m1 ≤ M) (h2 : m2 ≤ M) (h3 : m3 ≤ M) (h4 : m4 ≤ M) : As4 w wr (Ho s ls ns M) (Ho t lt nt M) (Ho u [X] n1 M) (Go4 g X M) := by
 obtain ⟨F1, F2, F3, F4, q1, q2, q3, ⟨P, N, q4, q5⟩, r⟩ := h
 exact ⟨F1, F2, F3, F4, Hq.mono q1 h1, Hq.mono q2 h2, Hq.mono q3 h3, ⟨P, N, q4, q5.mono h4⟩, r⟩
section
variable {w wr : World} {s t u g m1 m2 m3 m4 : Nat} {ls lt : List Gp} {X Y : Gp} {ns nt n1 : Int}
def jcl (J : Jd) (a : Option Addr) (m c : Nat) : Array Value := #[.int .i64 J.how, .int .i64 J.run, .bool J.bg, .int .i64 J.o.1, .int .i64 J.o.2.1, .int .i64 J.o.2.2.1, .int .i64 J.o.2.2.2, .slice a m c]
theorem As4.joinS {O2 O3 O4 : World → List Nat → Prop} {M' : Nat} (h : As4 w wr (Ho s ls ns m1) O2 O3 O4) (b2 : Ob O2) (b3 : Ob O3) (b4 : Ob O4) (hM : m1 ≤ 2800000000000) (hMM : m1 + 1 ≤ M') (n : Int) (k : K) (hk : Ok k) {x t : Int} (hx : W64 x) (ht : W64 t) (h0 : sjE ls ns [] n k x t = 0) (hp : ls[Ky.plc k ls.length]? = some X) (hcs : ∀ N, Gk X N m1 → Ta.Ti X.T N.t → Gk (joX X n k x t) (joC X n k x t N) M') : Calls Tryz.prog 10 #[PT s, .int .i64 n, kv k, .int .i64 x, .int .i64 t] wr fun e w2 => ∃ a m c, e = .returned (.tuple #[.agg (jcl (sjJ ls.length (Ky.plc k ls.length) (joJ X n k x t)) a m c), .int .i64 0]) ∧ As4 w w2 (Ho s (ls.set (Ky.plc k ls.length) (joX X n k x t)) n M') O2 O3 O4 ∧ KeepS wr w2 := by
 obtain ⟨F1, F2, F3, F4, q1, r0⟩ := h
 refine (sjoin_ q1 hM hMM n k hk hx ht h0 hp hcs).mono ?_
 rintro e w2 ⟨v, e1, ⟨e2, a, m, c, rfl⟩, q2⟩
 obtain ⟨F', q, T, nf⟩ := q2
 exact ⟨a, m, c, e1, as4_step (ob_h _ _ _ _) b2 b3 b4 q1 r0 q T nf⟩
theorem As4.endS {O2 O3 O4 : World → List Nat → Prop} {M' : Nat} (h : As4 w wr (Ho s ls ns m1) O2 O3 O4) (b2 : Ob O2) (b3 : Ob O3) (b4 : Ob O4) (hM : m1 ≤ 2800000000000) (hMM : m1 ≤ M') (n : Int) {r : Int} (hr : W64 r) (oo : O) (h0 : Me.tickE ns n = 0) (h1 : 1 ≤ r) (hp : ls[plR ls.length r]? = some X) (hcs : ∀ N, Gk X N m1 → Ta.Ti X.T N.t → (Me.keysL X.en).Nodup → (X.L.map Prod.fst).Nodup → Gk (edX X n (owR ls.length r) oo) (edC X n (owR ls.length r) oo N) M') : Calls Tryz.prog 12 #[PT s, .int .i64 n, .int .i64 r, Me.ov oo] wr fun e w2 => (∃ d E, e = .returned (.tuple #[.agg d, .int .i64 E])) ∧ As4 w w2 (Ho s (if edE X n (owR ls.length r) oo ≠ 0 then ls else ls.set (plR ls.length r) (edX X n (owR ls.length r) oo)) (if edE X n (owR ls.length r) oo ≠ 0 then ns else n) M') O2 O3 O4 ∧ KeepS wr w2 := by
 obtain ⟨F1, F2, F3, F4, q1, r0⟩ := h
 refine (send_ok q1 hM hMM n hr oo h0 h1 hp hcs).mono ?_
 rintro e w2 (⟨e0, e1, q2⟩ | ⟨e0, tv, gv, lv, e1, _, q2⟩)
 ·rw [if_pos e0, if_pos e0]
  obtain ⟨F', q, T, nf⟩ := q2
  exact ⟨⟨_, _, e1⟩, as4_step (ob_h _ _ _ _) b2 b3 b4 q1 r0 q T nf⟩
 ·rw [if_neg (by simp [e0]), if_neg (by simp [e0])]
  obtain ⟨F', q, T, nf⟩ := q2
  exact ⟨⟨_, _, e1⟩, as4_step (ob_h _ _ _ _) b2 b3 b4 q1 r0 q T nf⟩
theorem As4.joinG {O2 O3 O4 : World → List Nat → Prop} (h : As4 w wr (Go4 g X m1) O2 O3 O4) (b2 : Ob O2) (b3 : Ob O3) (b4 : Ob O4) (hM : m1 ≤ 2800000000000) (n : Int) (k : K) (hk : Ok k) {x t : Int} (hx : W64 x) (ht : W64 t) : Calls Tryz.prog 11 #[PT g, .int .i64 n, kv k, .int .i64 x, .int .i64 t] wr fun e w2 => ∃ a m c, e = .returned (.tuple #[.agg (jcl (joJ X n k x t) a m c), .int .i64 (mayE X n k x t)]) ∧ As4 w w2 (Go4 g (joX X n k x t) (m1 + 2)) O2 O3 O4 ∧ KeepS wr w2 := by
 obtain ⟨F1, F2, F3, F4, ⟨P, N, q1, hg⟩, r0⟩ := h
 have b1 := hg.nt
 have b2' := hg.nb
 have b3' := hg.ns
 refine (join_ q1 hg.gt n k hk hx ht (by omega) (by omega) (by omega)).mono ?_
 rintro e w2 ⟨v, e1, ⟨e2, a, m, c, rfl⟩, F', q, T, nf⟩
 exact ⟨a, m, c, e1, as4_step (O1 := Go4 g X m1) (ob_g _ _ _) b2 b3 b4 ⟨P, N, q1, hg⟩ r0 (O1' := Go4 g (joX X n k x t) (m1 + 2)) ⟨P, _, q, hg.join q1.ivs.1 n k x t⟩ T nf⟩
theorem As4.placeS {O2 O3 O4 : World → List Nat → Prop} (h : As4 w wr (Ho s ls ns m1) O2 O3 O4) (b2 : Ob O2) (b3 : Ob O3) (b4 : Ob O4) (k : K) (hk : Ok k) : Calls Tryz.prog 9 #[PT s, kv k] wr fun e w2 => e = .returned (.int .i64 (Ky.plc k ls.length : Nat)) ∧ As4 w w2 (Ho s ls ns m1) O2 O3 O4 ∧ KeepS wr w2 := by
 have h' := h
 obtain ⟨F1, _, _, _, ⟨gv, mw, mc, U, rfl, hl, hx, hs⟩, _⟩ := h'
 obtain ⟨a, c, rfl⟩ := hx.row
 have hlen : U.length = ls.length := by rw [← hl, List.length_map]
 have c0 := hx.cs.c0
 rw [hlen] at c0
 refine (place_ c0 hs.l1 hs.l2 k hk).mono ?_
 rintro e w2 ⟨e1, T⟩
 exact ⟨e1, h.keep0 (ob_h _ _ _ _) b2 b3 b4 T, T.keepS⟩
theorem As4.iv {O2 O3 O4 : World → List Nat → Prop} (h : As4 w wr (Ho s ls ns m1) O2 O3 O4) : Si ls ns [] ∧ ∀ Z ∈ ls, ∃ N, Gk Z N m1 ∧ Ta.Ti Z.T N.t := by
 obtain ⟨F1, _, _, _, ⟨gv, mw, mc, U, rfl, rfl, hx, hs⟩, _⟩ := h
 refine ⟨hs, fun Z hZ => ?_⟩
 obtain ⟨u, hu, rfl⟩ := List.mem_map.1 hZ
 exact ⟨u.N, hx.gk u hu, (hx.gs u hu).ivs.1⟩
end
/-! ### The four things' calls, in their order -/
section
variable {w wr : World} {s t u g m1 m2 m3 m4 : Nat} {ls lt : List Gp} {X : Gp} {ns nt n1 : Int} {O1 O2 O3 O4 : World → List Nat → Prop}
theorem ap_ju (h : As4 w wr O1 O2 (Ho u [X] n1 m3) O4) (b1 : Ob O1) (b2 : Ob O2) (b4 : Ob O4) (hM : m3 ≤ 2800000000000) (n : Int) (k : K) (hk : Ok k) {x : Int} (hx : W64 x) (h0 : sjE [X] n1 [] n k x 0 = 0) : Calls Tryz.prog 10 #[PT u, .int .i64 n, kv k, .int .i64 x, .int .i64 0] wr fun e w2 => ∃ a m c, e = .returned (.tuple #[.agg (jcl (joJ X n k x 0) a m c), .int .i64 0]) ∧ As4 w w2 O1 O2 (Ho u [joX X n k x 0] n (m3 + 2)) O4 ∧ KeepS wr w2 := by
 have h2 := h.rot.rot
 obtain ⟨N, hg, hT⟩ := h2.iv.2 X (by simp)
 have hr := jo_run hT n k x 0
 have b := hg.nt
 have hlen : [X].length = 1 := rfl
 refine (h2.joinS b4 b1 b2 hM (M' := m3 + 2) (by omega) n k hk hx (by rfl) h0 (X := X) (by rw [hlen, plc_one]; rfl) (fun N hg hT => hg.join hT _ _ _ _)).mono ?_
 rintro e w2 ⟨a, m, c, e1, q, ks⟩
 rw [hlen, plc_one] at e1 q
 refine ⟨a, m, c, ?_, q.rot.rot, ks⟩
 rw [e1]
 unfold jcl sjJ
 dsimp only
 rw [num_one hr.1 (by omega)]
theorem ap_jg (h : As4 w wr O1 O2 O3 (Go4 g X m4)) (b1 : Ob O1) (b2 : Ob O2) (b3 : Ob O3) (hM : m4 ≤ 2800000000000) (n : Int) (k : K) (hk : Ok k) {x : Int} (hx : W64 x) (h0 : mayE X n k x 0 = 0) : Calls Tryz.prog 11 #[PT g, .int .i64 n, kv k, .int .i64 x, .int .i64 0] wr fun e w2 => ∃ a m c, e = .returned (.tuple #[.agg (jcl (joJ X n k x 0) a m c), .int .i64 0]) ∧ As4 w w2 O1 O2 O3 (Go4 g (joX X n k x 0) (m4 + 2)) ∧ KeepS wr w2 := by
 refine (h.rot.rot.rot.joinG b1 b2 b3 hM n k hk hx (by rfl)).mono ?_
 rintro e w2 ⟨a, m, c, e1, q, ks⟩
 rw [h0] at e1
 exact ⟨a, m, c, e1, q.rot, ks⟩
theorem ap_jt {M' : Nat} (h : As4 w wr O1 (Ho t lt nt m2) O3 O4) (b1 : Ob O1) (b3 : Ob O3) (b4 : Ob O4) (hM : m2 ≤ 2800000000000) (hMM : m2 + 1 ≤ M') (n : Int) (k : K) (hk : Ok k) {x : Int} (hx : W64 x) (h0 : sjE lt nt [] n k x 0 = 0) (hp : lt[Ky.plc k lt.length]? = some X) (hcs : ∀ N, Gk X N m2 → Ta.Ti X.T N.t → Gk (joX X n k x 0) (joC X n k x 0 N) M') : Calls Tryz.prog 10 #[PT t, .int .i64 n, kv k, .int .i64 x, .int .i64 0] wr fun e w2 => ∃ a m c, e = .returned (.tuple #[.agg (jcl (sjJ lt.length (Ky.plc k lt.length) (joJ X n k x 0)) a m c), .int .i64 0]) ∧ As4 w w2 O1 (Ho t (lt.set (Ky.plc k lt.length) (joX X n k x 0)) n M') O3 O4 ∧ KeepS wr w2 := by
 refine (h.rot.joinS b3 b4 b1 hM hMM n k hk hx (by rfl) h0 hp hcs).mono ?_
 rintro e w2 ⟨a, m, c, e1, q, ks⟩
 exact ⟨a, m, c, e1, q.rot.rot.rot, ks⟩
theorem tick_self {n : Int} (h0 : 0 ≤ n) (h1 : n ≤ 4611686018427387904) : Me.tickE n n = 0 := by
 unfold Me.tickE Me.isT
 rw [if_pos (by simp; omega), if_neg (by omega)]
def edL (l : List Gp) (p : Nat) (Y : Gp) (n r : Int) (o : O) : List Gp := if edE Y n r o ≠ 0 then l else l.set p (edX Y n r o)
theorem ap_es {M' : Nat} (h : As4 w wr (Ho s ls n1 m1) O2 O3 O4) (b2 : Ob O2) (b3 : Ob O3) (b4 : Ob O4) (hM : m1 ≤ 2800000000000) (hMM : m1 ≤ M') (h0 : 0 ≤ n1) (h1 : n1 ≤ 4611686018427387904) {p : Nat} {r : Int} (hr : 1 ≤ r) (hr2 : r ≤ 3000000000000) (hp : p < ls.length) (oo : O) (hX : ls[p]? = some X) (hcs : ∀ N, Gk X N m1 → Ta.Ti X.T N.t → (Me.keysL X.en).Nodup → Gk (edX X n1 r oo) (edC X n1 r oo N) M') : Calls Tryz.prog 12 #[PT s, .int .i64 n1, .int .i64 (numW ls.length (p : Int) r), Me.ov oo] wr fun e w2 => (∃ d E, e = .returned (.tuple #[.agg d, .int .i64 E])) ∧ As4 w w2 (Ho s (edL ls p X n1 r oo) n1 M') O2 O3 O4 ∧ KeepS wr w2 := by
 have hs := h.iv.1
 obtain ⟨e1, e2⟩ := num_back hp hs.l2 hr hr2
 obtain ⟨e3, e4, e5⟩ := num_small hp hs.l2 hr hr2
 refine (h.endS b2 b3 b4 hM hMM n1 (by rw [e3]; exact W64.mk (by omega) (by omega)) oo (tick_self h0 h1) (by rw [e3]; exact e4) (by rw [e1]; exact hX) (fun N a b c d => by rw [e2]; exact hcs N a b c)).mono ?_
 rintro e w2 ⟨q1, q2, ks⟩
 rw [e1, e2, ite_self] at q2
 exact ⟨q1, q2, ks⟩
theorem ap_et {M' : Nat} (h : As4 w wr O1 (Ho t lt n1 m2) O3 O4) (b1 : Ob O1) (b3 : Ob O3) (b4 : Ob O4) (hM : m2 ≤ 2800000000000) (hMM : m2 ≤ M') (h0 : 0 ≤ n1) (h1 : n1 ≤ 4611686018427387904) {p : Nat} {r : Int} (hr : 1 ≤ r) (hr2 : r ≤ 3000000000000) (hp : p < lt.length) (oo : O) (hX : lt[p]? = some X) (hcs : ∀ N, Gk X N m2 → Ta.Ti X.T N.t → (Me.keysL X.en).Nodup → Gk (edX X n1 r oo) (edC X n1 r oo N) M') : Calls Tryz.prog 12 #[PT t, .int .i64 n1, .int .i64 (numW lt.length (p : Int) r), Me.ov oo] wr fun e w2 => (∃ d E, e = .returned (.tuple #[.agg d, .int .i64 E])) ∧ As4 w w2 O1 (Ho t (edL lt p X n1 r oo) n1 M') O3 O4 ∧ KeepS wr w2 := by
 refine (ap_es h.rot b3 b4 b1 hM hMM h0 h1 hr hr2 hp oo hX hcs).mono ?_
 rintro e w2 ⟨q1, q2, ks⟩
 exact ⟨q1, q2.rot.rot.rot, ks⟩
theorem edL_len (l : List Gp) (p : Nat) (Y : Gp) (n r : Int) (o : O) : (edL l p Y n r o).length = l.length := by unfold edL; split <;> simp
theorem edL_at {l m : List Gp} {p : Nat} {Y : Gp} (h1 : l[p]? = some Y) (h2 : m[p]? = some Y) (n r : Int) (o : O) : (edL l p Y n r o)[p]? = (edL m p Y n r o)[p]? := by
 unfold edL
 split
 ·rw [h1, h2]
 ·rw [List.getElem?_set_self (lt_of_at h1), List.getElem?_set_self (lt_of_at h2)]
theorem edL_upto {l : List Gp} {p i : Nat} {Y : Gp} (h : Upto l i) (hY : Y ∈ l) (n r : Int) (o : O) : Upto (edL l p Y n r o) i := by
 unfold edL
 split
 ·exact h
 ·exact h.set (ed_upto (h Y hY) n r o)
end
theorem upto_new (c : Me.Cf) (m : Nat) : Upto (List.replicate m (G0 c 0 [])) 0 := fun Z hZ c hc => by
 obtain ⟨y, hy, _⟩ := hc
 rw [(List.mem_replicate.1 hZ).2] at hy
 cases hy
set_option maxHeartbeats 32000000 in
theorem apart_law (w : World) (n : Int) (c : CfG) (xs : List ActG) (v : Value) (hn : W64 n) (hc : c.ok) (hsl : SlActG w v xs) (hok : ∀ x ∈ xs, x.ok) (hlen : xs.length ≤ 1390000000000) : Calls Tryz.prog 3 #[.int .i64 n, .agg c.cs, v] w fun e w' => e = .returned (.bool true) ∧ Touch [] w w' := by
 obtain ⟨va, vc, rfl⟩ : ∃ a k, v = .slice a xs.length k := by
  rcases hsl with ⟨rfl, a, k, rfl⟩ | ⟨b, off, cap, rfl, _⟩
  ·exact ⟨a, k, rfl⟩
  ·exact ⟨_, _, rfl⟩
 have HRow : Hid (xs.length = 0 ∨ ∃ b off, va = some ⟨b, off, none⟩ ∧ RowActG w b off xs) := by
  rcases hsl with ⟨rfl, _⟩ | ⟨b, off, cap, e, r⟩
  ·exact Or.inl rfl
  ·simp only [Value.slice.injEq] at e
   exact Or.inr ⟨b, off, e.1, r⟩
 obtain ⟨A, hA⟩ : ∃ A, A = xs.length := ⟨_, rfl⟩
 have HAx := hid hA
 have HWf := hid hok
 rw [← hA] at HRow hlen ⊢
 have HLe := hid hlen
 obtain ⟨V, hV⟩ : ∃ V, V = w.alloc (.cells c.cs 23) := ⟨_, rfl⟩
 have tv : Touch [] w V := by rw [hV]; exact (Touch.refl _ _).alloc _
 have hb : V.heap[w.heap.size]? = some (.cells c.cs 23 (0, 0)) := by rw [hV]; exact heap_alloc_new w _
 have TV := hid tv
 have HCB : Hid (∀ w1, Touch [] V w1 → w1.heap[w.heap.size]? = some (.cells c.cs 23 (0, 0))) := hid (fun w1 T => T.keep hb (by simp))
 have hw7 := CfG.w7 hc
 have hcv : Value.agg c.cs = Me.cv c.cf := rfl
 have HB0 := hid hb
 clear hA hok hlen hsl tv hc hb
 by_cases hN : okN n c.cf
 ·obtain ⟨hn1, hcc⟩ := hN
  obtain ⟨n0, rfl⟩ : ∃ m : Nat, n = m := ⟨n.toNat, by omega⟩
  have h64 : 1 ≤ n0 ∧ n0 ≤ 64 := by omega
  have HN1 : Hid (∀ w1, Calls Tryz.prog 6 #[.int .i64 (n0 : Int), .agg c.cs] w1 fun e w2 => ∃ s F, e = .returned (.tuple #[PT s, .int .i64 0]) ∧ Ho s (List.replicate n0 (G0 c.cf 0 [])) 0 0 w2 F ∧ Touch [] w1 w2 ∧ ∀ k, k ∈ F → w1.heap.size ≤ k) := hid (fun w1 => snew_ n0 c.cf w1 h64.1 h64.2 hcc hw7)
  have HN2 : Hid (∀ w1, Calls Tryz.prog 6 #[.int .i64 1, .agg c.cs] w1 fun e w2 => ∃ s F, e = .returned (.tuple #[PT s, .int .i64 0]) ∧ Ho s [G0 c.cf 0 []] 0 0 w2 F ∧ Touch [] w1 w2 ∧ ∀ k, k ∈ F → w1.heap.size ≤ k) := hid (fun w1 => snew_ 1 c.cf w1 (by omega) (by omega) hcc hw7)
  have HN3 : Hid (∀ w1, Calls Tryz.prog 7 #[.agg c.cs] w1 fun e w2 => ∃ g F, e = .returned (.tuple #[PT g, .int .i64 0]) ∧ Go4 g (G0 c.cf 0 []) 0 w2 F ∧ Touch [] w1 w2 ∧ ∀ k, k ∈ F → w1.heap.size ≤ k) := hid (fun w1 => by
   refine (new_ w1 c.cf hcc hw7).mono ?_
   rintro e w2 ⟨g, rfl, P, F, q, t, f⟩
   exact ⟨g, F, rfl, ⟨P, C0, q, ⟨Gi.zero _ _ _, ⟨Int.le_refl _, Int.le_refl _, by show (0 : Int) ≤ _; omega⟩, by simp [C0, G0], by simp [C0], by simp [C0]⟩⟩, t, fun k hk => (f k hk).resolve_left (by simp)⟩)
  have HAW := hid (fun w => sawake_ w)
  have H64 := hid h64
  have hb := HB0.out
  clear hn1 hcc h64 hn hcv hw7
  unfold CfG.cs at *
  have c0 := cell_at (j := 0) (v := .int .i64 c.t) hb rfl
  have c1 := cell_at (j := 1) (v := .int .i64 c.n) hb rfl
  have c2 := cell_at (j := 2) (v := .int .i64 c.s) hb rfl
  have c3 := cell_at (j := 3) (v := .int .i64 c.e) hb rfl
  have c4 := cell_at (j := 4) (v := .int .i64 c.f) hb rfl
  have c5 := cell_at (j := 5) (v := .int .i64 c.b) hb rfl
  have c6 := cell_at (j := 6) (v := .int .i64 c.d) hb rfl
  clear hb
  unfold PT at *
  go_enter Tryz.func3, Tryz.ntmps3
  go_upto_region 1 with fail
  rw [← hV]
  clear hV
  go_upto_region 2 with (go_at_call 6; refine (HN1.out _).mono ?_; rintro e w1 ⟨s, F1, rfl, r1⟩; have R1 := hid r1; clear c0 c1 c2 c3 c4 c5 c6; have hb := HCB.out _ r1.2.1; have c0 := cell_at (j := 0) (v := .int .i64 c.t) hb rfl; have c1 := cell_at (j := 1) (v := .int .i64 c.n) hb rfl; have c2 := cell_at (j := 2) (v := .int .i64 c.s) hb rfl; have c3 := cell_at (j := 3) (v := .int .i64 c.e) hb rfl; have c4 := cell_at (j := 4) (v := .int .i64 c.f) hb rfl; have c5 := cell_at (j := 5) (v := .int .i64 c.b) hb rfl; have c6 := cell_at (j := 6) (v := .int .i64 c.d) hb rfl; clear hb r1)
  go_upto_region 3 with (go_at_call 6; refine (HN1.out _).mono ?_; rintro e w2 ⟨t, F2, rfl, r2⟩; have R2 := hid r2; clear c0 c1 c2 c3 c4 c5 c6; have hb := HCB.out _ (R1.out.2.1.trans' r2.2.1); have c0 := cell_at (j := 0) (v := .int .i64 c.t) hb rfl; have c1 := cell_at (j := 1) (v := .int .i64 c.n) hb rfl; have c2 := cell_at (j := 2) (v := .int .i64 c.s) hb rfl; have c3 := cell_at (j := 3) (v := .int .i64 c.e) hb rfl; have c4 := cell_at (j := 4) (v := .int .i64 c.f) hb rfl; have c5 := cell_at (j := 5) (v := .int .i64 c.b) hb rfl; have c6 := cell_at (j := 6) (v := .int .i64 c.d) hb rfl; clear hb r2)
  go_upto_region 4 with (go_at_call 6; refine (HN2.out _).mono ?_; rintro e w3 ⟨u, F3, rfl, r3⟩; have R3 := hid r3; clear c0 c1 c2 c3 c4 c5 c6; have hb := HCB.out _ ((R1.out.2.1.trans' R2.out.2.1).trans' r3.2.1); have c0 := cell_at (j := 0) (v := .int .i64 c.t) hb rfl; have c1 := cell_at (j := 1) (v := .int .i64 c.n) hb rfl; have c2 := cell_at (j := 2) (v := .int .i64 c.s) hb rfl; have c3 := cell_at (j := 3) (v := .int .i64 c.e) hb rfl; have c4 := cell_at (j := 4) (v := .int .i64 c.f) hb rfl; have c5 := cell_at (j := 5) (v := .int .i64 c.b) hb rfl; have c6 := cell_at (j := 6) (v := .int .i64 c.d) hb rfl; clear hb r3)
  go_upto_region 5 with (go_at_call 7; refine (HN3.out _).mono ?_; rintro e w4 ⟨g, F4, rfl, r4⟩; have R4 := hid r4; clear r4 c0 c1 c2 c3 c4 c5 c6)
  have HS0 := hid (As4.start (ob_h _ _ _ _) (ob_h _ _ _ _) (ob_h _ _ _ _) (ob_g _ _ _) TV.out R1.out.1 R1.out.2.1 R1.out.2.2 R2.out.1 R2.out.2.1 R2.out.2.2 R3.out.1 R3.out.2.1 R3.out.2.2 R4.out.1 R4.out.2.1 R4.out.2.2)
  clear R1 R2 R3 R4 HN1 HN2 HN3 HCB HB0
  go_upto_region 7 with (go_at_call 8; refine (HAW.out _).mono ?_; rintro e w5 ⟨rfl, t5⟩; have HS1 := hid (HS0.out.keep0 (ob_h _ _ _ _) (ob_h _ _ _ _) (ob_h _ _ _ _) (ob_g _ _ _) t5); clear t5)
  have HL0 : Hid (ApI w w5 s t u g n0 0 0 (-1)) := hid ⟨_, _, _, 0, 0, 0, HS1.out, ⟨by simp, by simp, Int.le_refl _, Int.le_refl _, Int.le_refl _, Int.le_refl _, by omega, upto_new _ _, upto_new _ _, upto_new _ 1, Or.inl ⟨rfl, rfl⟩⟩⟩
  clear HS0 HS1 HAW TV
  go_wp2
  go_loopw [15, 16, 69] (fun s15 s16 s69 wr => ∃ i : Nat, s69 = .int .i64 (i : Int) ∧ i ≤ A ∧ ∃ now p : Int, s15 = .int .i64 now ∧ s16 = .int .i64 p ∧ Hid (ApI w wr s t u g n0 i now p)) (fun _ _ i _ => A - (intOf i).toNat)
  case atStart => exact ⟨0, rfl, Nat.zero_le _, 0, -1, rfl, rfl, HL0⟩
  case round =>
   clear HL0
   obtain ⟨i, rfl, hi, now, p, rfl, rfl, HR⟩ := hrel
   by_cases hlt : i < A
   ·have zi : (i : Int) < (A : Int) := by omega
    have zA : (A : Int) ≤ 1390000000000 := by have := HLe.out; omega
    obtain ⟨ba, off, rfl, hrow⟩ : ∃ ba off, va = some ⟨ba, off, none⟩ ∧ RowActG w ba off xs := by
     rcases HRow.out with e | e
     ·omega
     ·exact e
    have hnx : i < xs.length := by have := HAx.out; omega
    obtain ⟨ls, lt, X, ns, nt, n1, as0, pp⟩ := HR.out
    have hrw := hrow.keep as0.tch
    have q0 := hrw.c0 i hnx
    have q1 := hrw.c1 i hnx
    have q2 := hrw.c2 i hnx
    have q3 := hrw.c3 i hnx
    have q4 := hrw.c4 i hnx
    have q5 := hrw.c5 i hnx
    have q6 := hrw.c6 i hnx
    have q7 := hrw.c7 i hnx
    have q8 := hrw.c8 i hnx
    have q9 := hrw.c9 i hnx
    have q10 := hrw.c10 i hnx
    have q11 := hrw.c11 i hnx
    have HWx := hid (HWf.out xs[i] (List.getElem_mem hnx))
    have zn0 : 0 ≤ now := pp.z
    have zn1 : now ≤ 4611686018427387904 + 8 * i := pp.y
    have HAS := hid as0
    have HPP := hid pp
    have HIA : Hid (i ≤ 1390000000000) := hid (by have := HLe.out; omega)
    have HWL := hid as0.tch.size
    clear hrow hrw as0 pp HR
    generalize xs[i] = ac at *
    clear hnx
    go_upto_region 12 with fail
    obtain ⟨W1, hW1⟩ : ∃ W, W = wr.alloc (.cells #[.int .i64 ac.kd, .int .i64 ac.cl, .int .i64 ac.tk, .int .i64 ac.rn, .int .i64 ac.st, .int .i64 ac.od, .int .u16 ac.k.sp, .string ac.k.nm, .int .i64 ac.o.va, .int .i64 ac.o.fl.kd, .int .i64 ac.o.fl.cd, .int .i64 ac.o.fl.rn] 41) := ⟨_, rfl⟩
    have h1 := heap_alloc_new wr (.cells #[.int .i64 ac.kd, .int .i64 ac.cl, .int .i64 ac.tk, .int .i64 ac.rn, .int .i64 ac.st, .int .i64 ac.od, .int .u16 ac.k.sp, .string ac.k.nm, .int .i64 ac.o.va, .int .i64 ac.o.fl.kd, .int .i64 ac.o.fl.cd, .int .i64 ac.o.fl.rn] 41)
    have l1 := HAS.out.keep0 (ob_h _ _ _ _) (ob_h _ _ _ _) (ob_h _ _ _ _) (ob_g _ _ _) ((Touch.refl [] wr).alloc (.cells #[.int .i64 ac.kd, .int .i64 ac.cl, .int .i64 ac.tk, .int .i64 ac.rn, .int .i64 ac.st, .int .i64 ac.od, .int .u16 ac.k.sp, .string ac.k.nm, .int .i64 ac.o.va, .int .i64 ac.o.fl.kd, .int .i64 ac.o.fl.cd, .int .i64 ac.o.fl.rn] 41))
    rw [← hW1] at h1 l1 ⊢
    obtain ⟨ab, hab⟩ : ∃ ab, ab = wr.heap.size := ⟨_, rfl⟩
    have HAB : Hid (w.heap.size ≤ ab) := hid (by rw [hab]; exact HWL.out)
    rw [← hab] at h1 ⊢
    have y4 : W1.cell? ⟨ab, 4, none⟩ = some (.int .i64 ac.st) := cell_at h1 rfl
    have yf := froz_at h1
    have L1 := hid l1
    have H1 := hid h1
    clear hW1 hab l1 h1 HAS HWL q0 q1 q2 q3 q4 q5 q6 q7 q8 q9 q10 q11
    go_upto_region 13 with fail
    obtain ⟨q8, hq8⟩ : ∃ q8, q8 = ac.st.tmod 8 := ⟨_, rfl⟩
    have HQ8 : Hid (apS ac.st = if q8 < 0 then 0 else q8) := hid (by rw [hq8]; rfl)
    rw [← hq8]
    clear hq8 y4 yf
    obtain ⟨W2, hW2⟩ : ∃ W2, W2 = W1.setCell ⟨ab, 4, none⟩ (.int .i64 q8) := ⟨_, rfl⟩
    have t2 : Touch [ab] W1 W2 := by rw [hW2]; exact (Touch.refl _ _).setCell (Or.inl (by simp)) _
    have h2 : W2.heap[ab]? = some (.cells #[.int .i64 ac.kd, .int .i64 ac.cl, .int .i64 ac.tk, .int .i64 ac.rn, .int .i64 q8, .int .i64 ac.od, .int .u16 ac.k.sp, .string ac.k.nm, .int .i64 ac.o.va, .int .i64 ac.o.fl.kd, .int .i64 ac.o.fl.cd, .int .i64 ac.o.fl.rn] 41 (0, 0)) := by
     rw [hW2]
     have := bset H1.out (i := 4) (.int .i64 q8)
     simpa using this
    have l2 := L1.out.box (ob_h _ _ _ _) (ob_h _ _ _ _) (ob_h _ _ _ _) (ob_g _ _ _) H1.out (by decide) HAB.out t2
    rw [← hW2]
    have y4 : W2.cell? ⟨ab, 4, none⟩ = some (.int .i64 q8) := cell_at h2 rfl
    have yf := froz_at h2
    have L2 := hid l2
    have H2 := hid h2
    clear hW2 t2 h2 l2 L1 H1
    go_upto_if 80 with fail
    go_cut [] from 81 to 81 (fun wx => Hid (As4 w wx (Ho s ls ns (2 * i)) (Ho t lt nt (2 * i)) (Ho u [X] n1 (2 * i)) (Go4 g X (2 * i)) ∧ wx.heap[ab]? = some (.cells #[.int .i64 ac.kd, .int .i64 ac.cl, .int .i64 ac.tk, .int .i64 ac.rn, .int .i64 (apS ac.st), .int .i64 ac.od, .int .u16 ac.k.sp, .string ac.k.nm, .int .i64 ac.o.va, .int .i64 ac.o.fl.kd, .int .i64 ac.o.fl.cd, .int .i64 ac.o.fl.rn] 41 (0, 0))))
    case first =>
     by_cases hq : q8 < 0
     ·have HE : Hid (apS ac.st = 0) := hid (by rw [HQ8.out, if_pos hq])
      go_wp2
      go_meet
      case rel =>
       refine hid ⟨L2.out.box (ob_h _ _ _ _) (ob_h _ _ _ _) (ob_h _ _ _ _) (ob_g _ _ _) H2.out (by decide) HAB.out ((Touch.refl _ _).setCell (Or.inl (by simp)) _), ?_⟩
       rw [HE.out]
       have := bset H2.out (i := 4) (.int .i64 0)
       simpa using this
     ·have HE : Hid (apS ac.st = q8) := hid (by rw [HQ8.out, if_neg hq])
      go_wp2
      go_meet
      case rel => exact hid ⟨L2.out, by rw [HE.out]; exact H2.out⟩
    case rest =>
     obtain ⟨Wd, rfl⟩ : ∃ Wd, Wd = wc := ⟨_, rfl⟩
     have L3 := hid hcut.out.1
     have H3 := hid hcut.out.2
     clear hcut L2 H2 y4 yf HQ8
     obtain ⟨d, hd⟩ : ∃ d, d = apS ac.st := ⟨_, rfl⟩
     have hdb := apS_b ac.st
     rw [← hd] at H3 hdb
     have zd0 : 0 ≤ d := hdb.1
     have zd1 : d ≤ 7 := hdb.2
     clear hd hdb
     have y4 : Wd.cell? ⟨ab, 4, none⟩ = some (.int .i64 d) := cell_at H3.out rfl
     have y7 : Wd.cell? ⟨ab, 7, none⟩ = some (.string ac.k.nm) := cell_at H3.out rfl
     have HZD := hid (And.intro zd0 zd1)
     have HZN := hid (And.intro zn0 zn1)
     have HCO : Hid (ApI w Wd s t u g n0 (i + 1) (now + d) p) := hid (by
      have a := HPP.out
      have e := HZD.out
      exact ⟨ls, lt, X, ns, nt, n1, L3.out.mono (by omega) (by omega) (by omega) (by omega), ⟨a.l1, a.l2, by have := a.t1; omega, by have := a.t2; omega, by have := a.t3; omega, by have := a.z; omega, by have := a.y; omega, a.u1.mono (by omega), a.u2.mono (by omega), a.u3.mono (by omega), a.cm⟩⟩)
     by_cases hmx : 4611686018427387904 < now + d
     ·go_wp2
      go_roundw
      case rel => exact ⟨i + 1, by go_num, by omega, now + d, p, rfl, rfl, HCO⟩
      case measure => simp [intOf]; omega
     by_cases hsz : 64 < ac.k.nm.size
     ·have hsz' : (64 : Int) < (ac.k.nm.size : Int) := by omega
      go_wp2
      go_roundw
      case rel => exact ⟨i + 1, by go_num, by omega, now + d, p, rfl, rfl, HCO⟩
      case measure => simp [intOf]; omega
     have hsz' : ¬ (64 : Int) < (ac.k.nm.size : Int) := by omega
     clear HCO
     go_upto_region 17 with fail
     obtain ⟨nn, hnn⟩ : ∃ nn, nn = now + d := ⟨_, rfl⟩
     have HNN : Hid ((0 ≤ nn ∧ nn ≤ 4611686018427387904) ∧ ns ≤ nn ∧ nt ≤ nn ∧ n1 ≤ nn) := hid (by have a := HPP.out; have := a.t1; have := a.t2; have := a.t3; have := HZD.out; have := HZN.out; omega)
     have HKO : Hid (Ok (ac.k.sp, ac.k.nm) ∧ ac.k.nm.size ≤ 64) := hid ⟨HWx.out.2.2.2.2.2.2.1, by omega⟩
     rw [← hnn]
     clear hnn y4 y7 hmx hsz hsz' zn0 zn1 zd0 zd1 HZD HZN
     obtain ⟨k, hkk⟩ : ∃ k : K, k = (ac.k.sp, ac.k.nm) := ⟨_, rfl⟩
     have HKK := hid hkk
     obtain ⟨pk, hpk⟩ : ∃ pk, pk = Ky.plc k n0 := ⟨_, rfl⟩
     have HPK := hid hpk
     have hpl : pk < n0 := by rw [hpk]; exact Ky.plc_lt k H64.out.1
     have HPL0 := hid hpl
     clear hpk hkk hpl
     go_upto_if 96 with fail
     go_cut [16] from 97 to 100 (fun s16 wx => ∃ q : Nat, s16 = .int .i64 (q : Int) ∧ Hid (q < n0 ∧ ls[q]? = lt[q]? ∧ As4 w wx (Ho s ls ns (2 * i)) (Ho t lt nt (2 * i)) (Ho u [X] n1 (2 * i)) (Go4 g X (2 * i)) ∧ wx.heap[ab]? = some (.cells #[.int .i64 ac.kd, .int .i64 ac.cl, .int .i64 ac.tk, .int .i64 ac.rn, .int .i64 d, .int .i64 ac.od, .int .u16 ac.k.sp, .string ac.k.nm, .int .i64 ac.o.va, .int .i64 ac.o.fl.kd, .int .i64 ac.o.fl.cd, .int .i64 ac.o.fl.rn] 41 (0, 0))))
     case first =>
      rcases HPP.out.cm with ⟨e1, e2⟩ | ⟨q, e1, e2, e3⟩
      ·have HPL : Hid (Calls Tryz.prog 9 #[.pointer (some ⟨s, 0, none⟩), .agg #[.int .u16 ac.k.sp, .string ac.k.nm]] Wd fun e w6 => e = .returned (.int .i64 (pk : Int)) ∧ As4 w w6 (Ho s ls ns (2 * i)) (Ho t lt nt (2 * i)) (Ho u [X] n1 (2 * i)) (Go4 g X (2 * i)) ∧ KeepS Wd w6) := hid (by
        have := L3.out.placeS (ob_h _ _ _ _) (ob_h _ _ _ _) (ob_g _ _ _) (ac.k.sp, ac.k.nm) HKO.out.1
        rw [HPP.out.l1, ← HKK.out, ← HPK.out, HKK.out] at this
        exact this)
       have HE2 := hid e2
       have y6 : Wd.cell? ⟨ab, 6, none⟩ = some (.int .u16 ac.k.sp) := cell_at H3.out rfl
       have y7 : Wd.cell? ⟨ab, 7, none⟩ = some (.string ac.k.nm) := cell_at H3.out rfl
       subst e1
       clear e2 HPP
       go_wp2_with (go_at_call 9; refine HPL.out.mono ?_; rintro e w6 ⟨rfl, l6, k6⟩; have L6 := hid l6; have H6 := hid (k6 _ _ _ _ (by decide) H3.out); clear l6 k6 y6 y7)
       go_meet
       case rel => exact ⟨pk, rfl, hid ⟨HPL0.out, by rw [HE2.out], L6.out, H6.out⟩⟩
      ·have zq : ¬ p < 0 := by omega
       have HE : Hid (q < n0 ∧ ls[q]? = lt[q]?) := hid ⟨by rw [← HPP.out.l1]; exact e2, e3⟩
       subst e1
       clear e2 e3 HPP
       go_wp2
       go_meet
       case rel => exact ⟨q, rfl, hid ⟨HE.out.1, HE.out.2, L3.out, H3.out⟩⟩
     case rest =>
      obtain ⟨We, rfl⟩ : ∃ We, We = wc := ⟨_, rfl⟩
      obtain ⟨q, rfl, HC⟩ := hcut
      have HQ : Hid (q < n0 ∧ ls[q]? = lt[q]?) := hid ⟨HC.out.1, HC.out.2.1⟩
      have Lc := hid HC.out.2.2.1
      have Ha := hid HC.out.2.2.2
      clear HC L3 H3
      obtain ⟨Xs, hXs⟩ : ∃ Xs, ls[pk]? = some Xs := ⟨_, List.getElem?_eq_getElem (by rw [HPP.out.l1]; exact HPL0.out)⟩
      obtain ⟨N9, hg9, hT9⟩ := Lc.out.iv.2 Xs (List.mem_of_getElem? hXs)
      obtain ⟨M1, m1a, m1b, mc1, mc2⟩ := ap_cost Xs (2 * i) nn k ((i : Int) + 1) 0 ⟨N9, hg9, hT9⟩
      have hrun := jo_run hT9 nn k ((i : Int) + 1) 0
      have hgn := hg9.nt
      have hZX : ∀ c, Sit Xs c → c ≤ (i : Int) := HPP.out.u1 Xs (List.mem_of_getElem? hXs)
      have HUX := hid (jo_upto hT9 hZX nn k 0)
      have hX64 : W64 ((i : Int) + 1) := W64.mk (by omega) (by omega)
      have HSJ := hid (sj_ok (k := k) HNN.out.1.1 HNN.out.1.2 HNN.out.2.1 (by rw [HKK.out]; exact HKO.out.2) HPP.out.u1)
      have HTJ := hid (sj_ok (k := k) HNN.out.1.1 HNN.out.1.2 HNN.out.2.2.1 (by rw [HKK.out]; exact HKO.out.2) HPP.out.u2)
      have HUJ := hid (sj_ok (k := k) HNN.out.1.1 HNN.out.1.2 HNN.out.2.2.2 (by rw [HKK.out]; exact HKO.out.2) HPP.out.u3)
      have HOK : Hid (Ok k) := hid (by rw [HKK.out]; exact HKO.out.1)
      have HMI : Hid (2 * i + 2 ≤ 2800000000000) := hid (by have := HIA.out; omega)
      have HMC := hid (And.intro (And.intro m1a m1b) (And.intro mc1 mc2))
      have HRN : Hid (0 ≤ (joJ Xs nn k ((i : Int) + 1) 0).run ∧ (joJ Xs nn k ((i : Int) + 1) 0).run ≤ 3000000000000) := hid (by have := HIA.out; omega)
      have HXS := hid hXs
      have HX64 := hid hX64
      have HUX3 : Hid (∀ c, Sit (joX X nn k ((i : Int) + 1) 0) c → c ≤ ((i + 1 : Nat) : Int)) := hid (by
       obtain ⟨N8, hg8, hT8⟩ := Lc.out.rot.rot.iv.2 X (by simp)
       exact jo_upto hT8 (HPP.out.u3 X (by simp)) nn k 0)
      have HMY : Hid (mayE X nn k ((i : Int) + 1) 0 = 0) := hid (sj_may (l := [X]) (p := 0) Lc.out.rot.rot.iv.1 HUJ.out rfl)
      have HJ1 : Hid (Calls Tryz.prog 10 #[.pointer (some ⟨s, 0, none⟩), .int .i64 nn, .agg #[.int .u16 ac.k.sp, .string ac.k.nm], .int .i64 ((i : Int) + 1), .int .i64 0] We fun e w5 => ∃ a m c, e = .returned (.tuple #[.agg (jcl (sjJ n0 pk (joJ Xs nn k ((i : Int) + 1) 0)) a m c), .int .i64 0]) ∧ As4 w w5 (Ho s (ls.set pk (joX Xs nn k ((i : Int) + 1) 0)) nn M1) (Ho t lt nt (2 * i)) (Ho u [X] n1 (2 * i)) (Go4 g X (2 * i)) ∧ KeepS We w5) := hid (by
       have := Lc.out.joinS (ob_h _ _ _ _) (ob_h _ _ _ _) (ob_g _ _ _) (by have := HMI.out; omega) m1a nn k HOK.out hX64 (by rfl) HSJ.out (X := Xs) (by rw [HPP.out.l1, ← HPK.out]; exact hXs) mc1
       rw [HPP.out.l1, ← HPK.out] at this
       have e : kv k = .agg #[.int .u16 ac.k.sp, .string ac.k.nm] := by rw [HKK.out]; rfl
       rw [e] at this
       exact this)
      have hKV : kv k = .agg #[.int .u16 ac.k.sp, .string ac.k.nm] := by rw [HKK.out]; rfl
      have HKV := hid hKV
      clear hXs hg9 hT9 m1a m1b mc1 mc2 hrun hgn hZX hX64 N9 hKV
      obtain ⟨Js, hJs⟩ : ∃ Js, Js = joJ Xs nn k ((i : Int) + 1) 0 := ⟨_, rfl⟩
      have HJS : Hid (joJ Xs nn k ((i : Int) + 1) 0 = Js) := hid hJs.symm
      rw [← hJs] at HJ1 HMC HRN
      clear hJs
      obtain ⟨X1, hX1⟩ : ∃ X1, X1 = joX Xs nn k ((i : Int) + 1) 0 := ⟨_, rfl⟩
      have HX1 := hid hX1
      rw [← hX1] at HJ1 HMC HUX
      clear hX1
      unfold jcl sjJ at HJ1
      dsimp only at HJ1
      have ka6 : We.cell? ⟨ab, 6, none⟩ = some (.int .u16 ac.k.sp) := cell_at Ha.out rfl
      have ka7 : We.cell? ⟨ab, 7, none⟩ = some (.string ac.k.nm) := cell_at Ha.out rfl
      go_upto_region 20 with (go_at_call 10; refine HJ1.out.mono ?_; rintro e w5 ⟨ra5, rm5, rc5, rfl, l5, k5⟩; have Lc := hid l5; have Ha := hid (k5 _ _ _ _ (by decide) Ha.out); clear l5 k5; clear ka6 ka7)
      obtain ⟨W5, hW5⟩ : ∃ W, W = w5.alloc (.cells #[.int .i64 Js.how, .int .i64 (numW n0 (pk : Int) Js.run), .bool Js.bg, .int .i64 Js.o.1, .int .i64 Js.o.2.1, .int .i64 Js.o.2.2.1, .int .i64 Js.o.2.2.2, .slice ra5 rm5 rc5] 45) := ⟨_, rfl⟩
      have t5 : Touch [] w5 W5 := by rw [hW5]; exact (Touch.refl _ _).alloc _
      have h5 := heap_alloc_new w5 (.cells #[.int .i64 Js.how, .int .i64 (numW n0 (pk : Int) Js.run), .bool Js.bg, .int .i64 Js.o.1, .int .i64 Js.o.2.1, .int .i64 Js.o.2.2.1, .int .i64 Js.o.2.2.2, .slice ra5 rm5 rc5] 45)
      rw [← hW5] at h5 ⊢
      obtain ⟨bbx, hbx⟩ : ∃ b, b = w5.heap.size := ⟨_, rfl⟩
      rw [← hbx] at h5 ⊢
      have Lc := hid (Lc.out.keep0 (ob_h _ _ _ _) (ob_h _ _ _ _) (ob_h _ _ _ _) (ob_g _ _ _) t5)
      have Ha := hid (t5.keepS _ _ _ _ (by decide) Ha.out)
      have Hx := hid h5
      clear hW5 t5 h5 hbx
      obtain ⟨X2, hX2⟩ : ∃ X2, X2 = joX X nn k ((i : Int) + 1) 0 := ⟨_, rfl⟩
      have HJ2 : Hid (Calls Tryz.prog 10 #[.pointer (some ⟨u, 0, none⟩), .int .i64 nn, .agg #[.int .u16 ac.k.sp, .string ac.k.nm], .int .i64 ((i : Int) + 1), .int .i64 0] W5 fun e w6 => ∃ a m c, e = .returned (.tuple #[.agg (jcl (joJ X nn k ((i : Int) + 1) 0) a m c), .int .i64 0]) ∧ As4 w w6 (Ho s (ls.set pk X1) nn M1) (Ho t lt nt (2 * i)) (Ho u [X2] nn (2 * i + 2)) (Go4 g X (2 * i)) ∧ KeepS W5 w6) := hid (by
       have := ap_ju Lc.out (ob_h _ _ _ _) (ob_h _ _ _ _) (ob_g _ _ _) (by have := HMI.out; omega) nn k HOK.out HX64.out HUJ.out
       rw [HKV.out, ← hX2] at this
       exact this)
      have HX2 := hid hX2
      have HJ3 : Hid (∀ W, As4 w W (Ho s (ls.set pk X1) nn M1) (Ho t lt nt (2 * i)) (Ho u [X2] nn (2 * i + 2)) (Go4 g X (2 * i)) → Calls Tryz.prog 11 #[.pointer (some ⟨g, 0, none⟩), .int .i64 nn, .agg #[.int .u16 ac.k.sp, .string ac.k.nm], .int .i64 ((i : Int) + 1), .int .i64 0] W fun e w7 => ∃ a m c, e = .returned (.tuple #[.agg (jcl (joJ X nn k ((i : Int) + 1) 0) a m c), .int .i64 0]) ∧ As4 w w7 (Ho s (ls.set pk X1) nn M1) (Ho t lt nt (2 * i)) (Ho u [X2] nn (2 * i + 2)) (Go4 g X2 (2 * i + 2)) ∧ KeepS W w7) := hid (fun W h => by
       have := ap_jg h (ob_h _ _ _ _) (ob_h _ _ _ _) (ob_h _ _ _ _) (by have := HMI.out; omega) nn k HOK.out HX64.out HMY.out
       rw [HKV.out, ← hX2] at this
       exact this)
      rw [← hX2] at HUX3
      clear hX2 HX2 HMY HUJ
      generalize joJ X nn k ((i : Int) + 1) 0 = Jx at *
      unfold jcl at HJ2 HJ3
      clear HJ1
      have ka6 : W5.cell? ⟨ab, 6, none⟩ = some (.int .u16 ac.k.sp) := cell_at Ha.out rfl
      have ka7 : W5.cell? ⟨ab, 7, none⟩ = some (.string ac.k.nm) := cell_at Ha.out rfl
      go_upto_region 21 with (go_at_call 10; refine HJ2.out.mono ?_; rintro e w6 ⟨ra6, rm6, rc6, rfl, l6, k6⟩; have Lc := hid l6; have Ha := hid (k6 _ _ _ _ (by decide) Ha.out); have Hx := hid (k6 _ _ _ _ (by decide) Hx.out); clear l6 k6; clear ka6 ka7)
      obtain ⟨W6, hW6⟩ : ∃ W, W = w6.alloc (.cells #[.int .i64 Jx.how, .int .i64 Jx.run, .bool Jx.bg, .int .i64 Jx.o.1, .int .i64 Jx.o.2.1, .int .i64 Jx.o.2.2.1, .int .i64 Jx.o.2.2.2, .slice ra6 rm6 rc6] 45) := ⟨_, rfl⟩
      have t6 : Touch [] w6 W6 := by rw [hW6]; exact (Touch.refl _ _).alloc _
      have h6 := heap_alloc_new w6 (.cells #[.int .i64 Jx.how, .int .i64 Jx.run, .bool Jx.bg, .int .i64 Jx.o.1, .int .i64 Jx.o.2.1, .int .i64 Jx.o.2.2.1, .int .i64 Jx.o.2.2.2, .slice ra6 rm6 rc6] 45)
      rw [← hW6] at h6 ⊢
      obtain ⟨bby, hby⟩ : ∃ b, b = w6.heap.size := ⟨_, rfl⟩
      rw [← hby] at h6 ⊢
      have Lc := hid (Lc.out.keep0 (ob_h _ _ _ _) (ob_h _ _ _ _) (ob_h _ _ _ _) (ob_g _ _ _) t6)
      have Ha := hid (t6.keepS _ _ _ _ (by decide) Ha.out)
      have Hx := hid (t6.keepS _ _ _ _ (by decide) Hx.out)
      have Hy := hid h6
      clear hW6 t6 h6 hby
      have HJ4 := hid (HJ3.out _ Lc.out)
      clear HJ2 HJ3
      have ka6 : W6.cell? ⟨ab, 6, none⟩ = some (.int .u16 ac.k.sp) := cell_at Ha.out rfl
      have ka7 : W6.cell? ⟨ab, 7, none⟩ = some (.string ac.k.nm) := cell_at Ha.out rfl
      go_upto_region 22 with (go_at_call 11; refine HJ4.out.mono ?_; rintro e w7 ⟨ra7, rm7, rc7, rfl, l7, k7⟩; have Lc := hid l7; have Ha := hid (k7 _ _ _ _ (by decide) Ha.out); have Hx := hid (k7 _ _ _ _ (by decide) Hx.out); have Hy := hid (k7 _ _ _ _ (by decide) Hy.out); clear l7 k7; clear ka6 ka7)
      obtain ⟨W7, hW7⟩ : ∃ W, W = w7.alloc (.cells #[.int .i64 Jx.how, .int .i64 Jx.run, .bool Jx.bg, .int .i64 Jx.o.1, .int .i64 Jx.o.2.1, .int .i64 Jx.o.2.2.1, .int .i64 Jx.o.2.2.2, .slice ra7 rm7 rc7] 45) := ⟨_, rfl⟩
      have t7 : Touch [] w7 W7 := by rw [hW7]; exact (Touch.refl _ _).alloc _
      have h7 := heap_alloc_new w7 (.cells #[.int .i64 Jx.how, .int .i64 Jx.run, .bool Jx.bg, .int .i64 Jx.o.1, .int .i64 Jx.o.2.1, .int .i64 Jx.o.2.2.1, .int .i64 Jx.o.2.2.2, .slice ra7 rm7 rc7] 45)
      rw [← hW7] at h7 ⊢
      obtain ⟨bbz, hbz⟩ : ∃ b, b = w7.heap.size := ⟨_, rfl⟩
      rw [← hbz] at h7 ⊢
      have Lc := hid (Lc.out.keep0 (ob_h _ _ _ _) (ob_h _ _ _ _) (ob_h _ _ _ _) (ob_g _ _ _) t7)
      have Ha := hid (t7.keepS _ _ _ _ (by decide) Ha.out)
      have Hx := hid (t7.keepS _ _ _ _ (by decide) Hx.out)
      have Hy := hid (t7.keepS _ _ _ _ (by decide) Hy.out)
      have Hz := hid h7
      clear hW7 t7 h7 hbz
      clear HJ4
      have ky0 : W7.cell? ⟨bby, 0, none⟩ = some (.int .i64 Jx.how) := cell_at Hy.out rfl
      have ky1 : W7.cell? ⟨bby, 1, none⟩ = some (.int .i64 Jx.run) := cell_at Hy.out rfl
      have ky2 : W7.cell? ⟨bby, 2, none⟩ = some (.bool Jx.bg) := cell_at Hy.out rfl
      have ky3 : W7.cell? ⟨bby, 3, none⟩ = some (.int .i64 Jx.o.1) := cell_at Hy.out rfl
      have ky4 : W7.cell? ⟨bby, 4, none⟩ = some (.int .i64 Jx.o.2.1) := cell_at Hy.out rfl
      have ky5 : W7.cell? ⟨bby, 5, none⟩ = some (.int .i64 Jx.o.2.2.1) := cell_at Hy.out rfl
      have ky6 : W7.cell? ⟨bby, 6, none⟩ = some (.int .i64 Jx.o.2.2.2) := cell_at Hy.out rfl
      have kz0 : W7.cell? ⟨bbz, 0, none⟩ = some (.int .i64 Jx.how) := cell_at Hz.out rfl
      have kz1 : W7.cell? ⟨bbz, 1, none⟩ = some (.int .i64 Jx.run) := cell_at Hz.out rfl
      have kz2 : W7.cell? ⟨bbz, 2, none⟩ = some (.bool Jx.bg) := cell_at Hz.out rfl
      have kz3 : W7.cell? ⟨bbz, 3, none⟩ = some (.int .i64 Jx.o.1) := cell_at Hz.out rfl
      have kz4 : W7.cell? ⟨bbz, 4, none⟩ = some (.int .i64 Jx.o.2.1) := cell_at Hz.out rfl
      have kz5 : W7.cell? ⟨bbz, 5, none⟩ = some (.int .i64 Jx.o.2.2.1) := cell_at Hz.out rfl
      have kz6 : W7.cell? ⟨bbz, 6, none⟩ = some (.int .i64 Jx.o.2.2.2) := cell_at Hz.out rfl
      have hno := fun w => neqO w Jx.o.1 Jx.o.2.1 Jx.o.2.2.1 Jx.o.2.2.2
      go_upto_region 24 with fail
      clear ky0 ky1 ky2 ky3 ky4 ky5 ky6
      clear kz0 kz1 kz2 kz3 kz4 kz5 kz6
      clear hno Hy Hz
      have HPL : Hid (Calls Tryz.prog 9 #[.pointer (some ⟨s, 0, none⟩), .agg #[.int .u16 ac.k.sp, .string ac.k.nm]] W7 fun e w8 => e = .returned (.int .i64 (pk : Int)) ∧ As4 w w8 (Ho s (ls.set pk X1) nn M1) (Ho t lt nt (2 * i)) (Ho u [X2] nn (2 * i + 2)) (Go4 g X2 (2 * i + 2)) ∧ KeepS W7 w8) := hid (by
       have := Lc.out.placeS (ob_h _ _ _ _) (ob_h _ _ _ _) (ob_g _ _ _) k HOK.out
       rw [List.length_set, HPP.out.l1, ← HPK.out, HKV.out] at this
       exact this)
      have ka6 : W7.cell? ⟨ab, 6, none⟩ = some (.int .u16 ac.k.sp) := cell_at Ha.out rfl
      have ka7 : W7.cell? ⟨ab, 7, none⟩ = some (.string ac.k.nm) := cell_at Ha.out rfl
      go_upto_if 167 with (go_at_call 9; refine HPL.out.mono ?_; rintro e w8 ⟨rfl, l8, k8⟩; have Lc := hid l8; have Ha := hid (k8 _ _ _ _ (by decide) Ha.out); have Hx := hid (k8 _ _ _ _ (by decide) Hx.out); clear l8 k8; clear ka6 ka7)
      clear HPL
      have HU1 : Hid (Upto (ls.set pk X1) (i + 1)) := hid ((HPP.out.u1.mono (by omega)).set HUX.out)
      obtain ⟨bq, hbq⟩ : ∃ bq, bq = ((pk : Int) != (q : Int)) := ⟨_, rfl⟩
      rw [← hbq]
      have HBQ := hid hbq
      clear hbq
      by_cases hpq : pk ≠ q
      ·have hbt : bq = true := HBQ.out.trans (by simp; omega)
       subst hbt
       have HFI : Hid (ApI w w8 s t u g n0 (i + 1) nn (q : Int)) := hid (by
        have a := HPP.out
        have e := HNN.out
        have e2 := HMC.out.1
        refine ⟨_, _, _, _, _, _, Lc.out.mono (by omega) (by omega) (by omega) (by omega), ⟨by rw [List.length_set]; exact a.l1, a.l2, Int.le_refl _, e.2.2.1, Int.le_refl _, e.1.1, by omega, HU1.out, a.u2.mono (by omega), fun Z hZ c hc => ?_, ?_⟩⟩
        ·rw [List.mem_singleton.1 hZ] at hc
         exact HUX3.out c hc
        ·exact Or.inr ⟨q, rfl, by rw [List.length_set, a.l1]; exact HQ.out.1, by rw [List.getElem?_set_ne hpq]; exact HQ.out.2⟩)
       clear hpq HBQ
       go_wp2
       go_roundw
       case rel => exact ⟨i + 1, by go_num, by omega, nn, (q : Int), rfl, rfl, HFI⟩
       case measure => simp [intOf]; omega
      have hpq' : pk = q := by omega
      subst hpq'
      have hbt : bq = false := HBQ.out.trans (by simp)
      subst hbt
      clear hpq HBQ
      have hXt : lt[pk]? = some Xs := by rw [← HQ.out.2]; exact HXS.out
      have HJ5 : Hid (Calls Tryz.prog 10 #[.pointer (some ⟨t, 0, none⟩), .int .i64 nn, .agg #[.int .u16 ac.k.sp, .string ac.k.nm], .int .i64 ((i : Int) + 1), .int .i64 0] w8 fun e w9 => ∃ a m c, e = .returned (.tuple #[.agg (jcl (sjJ n0 pk Js) a m c), .int .i64 0]) ∧ As4 w w9 (Ho s (ls.set pk X1) nn M1) (Ho t (lt.set pk X1) nn M1) (Ho u [X2] nn (2 * i + 2)) (Go4 g X2 (2 * i + 2)) ∧ KeepS w8 w9) := hid (by
       have := ap_jt Lc.out (ob_h _ _ _ _) (ob_h _ _ _ _) (ob_g _ _ _) (by have := HMI.out; omega) HMC.out.1.1 nn k HOK.out HX64.out HTJ.out (X := Xs) (by rw [HPP.out.l2, ← HPK.out]; exact hXt) (by rw [← HX1.out]; exact HMC.out.2.1)
       rw [HPP.out.l2, ← HPK.out, HKV.out, ← HX1.out] at this
       rw [HJS.out] at this
       exact this)
      have HXT := hid hXt
      clear hXt
      unfold jcl sjJ at HJ5
      dsimp only at HJ5
      have ka6 : w8.cell? ⟨ab, 6, none⟩ = some (.int .u16 ac.k.sp) := cell_at Ha.out rfl
      have ka7 : w8.cell? ⟨ab, 7, none⟩ = some (.string ac.k.nm) := cell_at Ha.out rfl
      go_upto_region 26 with (go_at_call 10; refine HJ5.out.mono ?_; rintro e w9 ⟨ra9, rm9, rc9, rfl, l9, k9⟩; have Lc := hid l9; have Ha := hid (k9 _ _ _ _ (by decide) Ha.out); have Hx := hid (k9 _ _ _ _ (by decide) Hx.out); clear l9 k9; clear ka6 ka7)
      obtain ⟨W9, hW9⟩ : ∃ W, W = w9.alloc (.cells #[.int .i64 Js.how, .int .i64 (numW n0 (pk : Int) Js.run), .bool Js.bg, .int .i64 Js.o.1, .int .i64 Js.o.2.1, .int .i64 Js.o.2.2.1, .int .i64 Js.o.2.2.2, .slice ra9 rm9 rc9] 45) := ⟨_, rfl⟩
      have t9 : Touch [] w9 W9 := by rw [hW9]; exact (Touch.refl _ _).alloc _
      have h9 := heap_alloc_new w9 (.cells #[.int .i64 Js.how, .int .i64 (numW n0 (pk : Int) Js.run), .bool Js.bg, .int .i64 Js.o.1, .int .i64 Js.o.2.1, .int .i64 Js.o.2.2.1, .int .i64 Js.o.2.2.2, .slice ra9 rm9 rc9] 45)
      rw [← hW9] at h9 ⊢
      obtain ⟨bbv, hbv⟩ : ∃ b, b = w9.heap.size := ⟨_, rfl⟩
      rw [← hbv] at h9 ⊢
      have Lc := hid (Lc.out.keep0 (ob_h _ _ _ _) (ob_h _ _ _ _) (ob_h _ _ _ _) (ob_g _ _ _) t9)
      have Ha := hid (t9.keepS _ _ _ _ (by decide) Ha.out)
      have Hx := hid (t9.keepS _ _ _ _ (by decide) Hx.out)
      have Hv := hid h9
      clear hW9 t9 h9 hbv
      clear HJ5
      have kx0 : W9.cell? ⟨bbx, 0, none⟩ = some (.int .i64 Js.how) := cell_at Hx.out rfl
      have kx1 : W9.cell? ⟨bbx, 1, none⟩ = some (.int .i64 (numW n0 (pk : Int) Js.run)) := cell_at Hx.out rfl
      have kx2 : W9.cell? ⟨bbx, 2, none⟩ = some (.bool Js.bg) := cell_at Hx.out rfl
      have kx3 : W9.cell? ⟨bbx, 3, none⟩ = some (.int .i64 Js.o.1) := cell_at Hx.out rfl
      have kx4 : W9.cell? ⟨bbx, 4, none⟩ = some (.int .i64 Js.o.2.1) := cell_at Hx.out rfl
      have kx5 : W9.cell? ⟨bbx, 5, none⟩ = some (.int .i64 Js.o.2.2.1) := cell_at Hx.out rfl
      have kx6 : W9.cell? ⟨bbx, 6, none⟩ = some (.int .i64 Js.o.2.2.2) := cell_at Hx.out rfl
      have kv0 : W9.cell? ⟨bbv, 0, none⟩ = some (.int .i64 Js.how) := cell_at Hv.out rfl
      have kv1 : W9.cell? ⟨bbv, 1, none⟩ = some (.int .i64 (numW n0 (pk : Int) Js.run)) := cell_at Hv.out rfl
      have kv2 : W9.cell? ⟨bbv, 2, none⟩ = some (.bool Js.bg) := cell_at Hv.out rfl
      have kv3 : W9.cell? ⟨bbv, 3, none⟩ = some (.int .i64 Js.o.1) := cell_at Hv.out rfl
      have kv4 : W9.cell? ⟨bbv, 4, none⟩ = some (.int .i64 Js.o.2.1) := cell_at Hv.out rfl
      have kv5 : W9.cell? ⟨bbv, 5, none⟩ = some (.int .i64 Js.o.2.2.1) := cell_at Hv.out rfl
      have kv6 : W9.cell? ⟨bbv, 6, none⟩ = some (.int .i64 Js.o.2.2.2) := cell_at Hv.out rfl
      have hno := fun w => neqO w Js.o.1 Js.o.2.1 Js.o.2.2.1 Js.o.2.2.2
      go_upto_region 28 with fail
      clear kx0 kx1 kx2 kx3 kx4 kx5 kx6
      clear kv0 kv1 kv2 kv3 kv4 kv5 kv6
      clear hno Hv
      have ka3 : W9.cell? ⟨ab, 3, none⟩ = some (.int .i64 ac.rn) := cell_at Ha.out rfl
      have kx1 : W9.cell? ⟨bbx, 1, none⟩ = some (.int .i64 (numW n0 (pk : Int) Js.run)) := cell_at Hx.out rfl
      have HGO : Hid (∀ ls2 lt2 W, As4 w W (Ho s ls2 nn (2 * i + 2)) (Ho t lt2 nn (2 * i + 2)) (Ho u [X2] nn (2 * i + 2)) (Go4 g X2 (2 * i + 2)) → ls2.length = n0 → lt2.length = n0 → Upto ls2 (i + 1) → Upto lt2 (i + 1) → ls2[pk]? = lt2[pk]? → ApI w W s t u g n0 (i + 1) nn (pk : Int)) := hid (fun ls2 lt2 W h g1 g2 g3 g4 g5 => by
       have e := HNN.out
       refine ⟨_, _, _, _, _, _, h, ⟨g1, g2, Int.le_refl _, Int.le_refl _, Int.le_refl _, e.1.1, by omega, g3, g4, fun Z hZ c hc => ?_, Or.inr ⟨pk, rfl, by rw [g1]; exact HPL0.out, g5⟩⟩⟩
       rw [List.mem_singleton.1 hZ] at hc
       exact HUX3.out c hc)
      have HU2 : Hid (Upto (lt.set pk X1) (i + 1)) := hid ((HPP.out.u2.mono (by omega)).set HUX.out)
      have HAT : Hid ((ls.set pk X1)[pk]? = some X1 ∧ (lt.set pk X1)[pk]? = some X1) := hid ⟨List.getElem?_set_self (by rw [HPP.out.l1]; exact HPL0.out), List.getElem?_set_self (by rw [HPP.out.l2]; exact HPL0.out)⟩
      have HLN : Hid ((ls.set pk X1).length = n0 ∧ (lt.set pk X1).length = n0) := hid ⟨by rw [List.length_set]; exact HPP.out.l1, by rw [List.length_set]; exact HPP.out.l2⟩
      have HNO : Hid (ApI w W9 s t u g n0 (i + 1) nn (pk : Int)) := hid (HGO.out _ _ _ (Lc.out.mono HMC.out.1.2 HMC.out.1.2 (Nat.le_refl _) (Nat.le_refl _)) HLN.out.1 HLN.out.2 HU1.out HU2.out (by rw [HAT.out.1, HAT.out.2]))
      obtain ⟨xr, hxr⟩ : ∃ xr, xr = numW n0 (pk : Int) Js.run := ⟨_, rfl⟩
      have HXR := hid hxr
      rw [← hxr] at kx1 Hx
      clear hxr
      by_cases hev : ac.rn.tmod 2 = 0
      ·have hev' : (ac.rn.tmod 2 == 0) = true := by simpa using hev
       by_cases hxp : 0 < xr
       ·have HJR : Hid (1 ≤ Js.run ∧ Js.run ≤ 3000000000000) := hid (by
         have h := HRN.out
         refine ⟨?_, h.2⟩
         rcases (by omega : Js.run = 0 ∨ 1 ≤ Js.run) with e | e
         ·rw [HXR.out, e] at hxp
          simp [numW] at hxp
         ·exact e)
        have HE1 : Hid (Calls Tryz.prog 12 #[.pointer (some ⟨s, 0, none⟩), .int .i64 nn, .int .i64 xr, .agg #[.int .i64 (i : Int), .int .i64 0, .int .i64 0, .int .i64 0]] W9 fun e w10 => (∃ d E, e = .returned (.tuple #[.agg d, .int .i64 E])) ∧ As4 w w10 (Ho s (edL (ls.set pk X1) pk X1 nn Js.run ((i : Int), 0, 0, 0)) nn (2 * i + 2)) (Ho t (lt.set pk X1) nn M1) (Ho u [X2] nn (2 * i + 2)) (Go4 g X2 (2 * i + 2)) ∧ KeepS W9 w10) := hid (by
         have hp : pk < (ls.set pk X1).length := by rw [HLN.out.1]; exact HPL0.out
         have := ap_es Lc.out (ob_h _ _ _ _) (ob_h _ _ _ _) (ob_g _ _ _) (by have := HMI.out; have := HMC.out.1; omega) HMC.out.1.2 HNN.out.1.1 HNN.out.1.2 HJR.out.1 HJR.out.2 hp ((i : Int), 0, 0, 0) HAT.out.1 (fun N a b c => HMC.out.2.2 (by have := HJR.out; omega) N _ a b c)
         rw [HLN.out.1, ← HXR.out] at this
         exact this)
        have HE2 : Hid (∀ W, As4 w W (Ho s (edL (ls.set pk X1) pk X1 nn Js.run ((i : Int), 0, 0, 0)) nn (2 * i + 2)) (Ho t (lt.set pk X1) nn M1) (Ho u [X2] nn (2 * i + 2)) (Go4 g X2 (2 * i + 2)) → Calls Tryz.prog 12 #[.pointer (some ⟨t, 0, none⟩), .int .i64 nn, .int .i64 xr, .agg #[.int .i64 (i : Int), .int .i64 0, .int .i64 0, .int .i64 0]] W fun e w11 => (∃ d E, e = .returned (.tuple #[.agg d, .int .i64 E])) ∧ As4 w w11 (Ho s (edL (ls.set pk X1) pk X1 nn Js.run ((i : Int), 0, 0, 0)) nn (2 * i + 2)) (Ho t (edL (lt.set pk X1) pk X1 nn Js.run ((i : Int), 0, 0, 0)) nn (2 * i + 2)) (Ho u [X2] nn (2 * i + 2)) (Go4 g X2 (2 * i + 2)) ∧ KeepS W w11) := hid (fun W h => by
         have hp : pk < (lt.set pk X1).length := by rw [HLN.out.2]; exact HPL0.out
         have := ap_et h (ob_h _ _ _ _) (ob_h _ _ _ _) (ob_g _ _ _) (by have := HMI.out; have := HMC.out.1; omega) HMC.out.1.2 HNN.out.1.1 HNN.out.1.2 HJR.out.1 HJR.out.2 hp ((i : Int), 0, 0, 0) HAT.out.2 (fun N a b c => HMC.out.2.2 (by have := HJR.out; omega) N _ a b c)
         rw [HLN.out.2, ← HXR.out] at this
         exact this)
        have HXB : Hid (∀ W2 W3, KeepS W2 W3 → W2.heap[bbx]? = some (.cells #[.int .i64 Js.how, .int .i64 xr, .bool Js.bg, .int .i64 Js.o.1, .int .i64 Js.o.2.1, .int .i64 Js.o.2.2.1, .int .i64 Js.o.2.2.2, .slice ra5 rm5 rc5] 45 (0, 0)) → W3.cell? ⟨bbx, 1, none⟩ = some (.int .i64 xr)) := hid (fun W2 W3 ks hb => cell_at (ks _ _ _ _ (by decide) hb) rfl)
        clear hev
        go_upto_region 30 with (go_at_call 12; refine HE1.out.mono ?_; rintro e w10 ⟨⟨d1, E1, rfl⟩, l10, k10⟩; have L10 := hid l10; have ky1 := HXB.out _ _ k10 Hx.out; clear l10 k10)
        have HE3 := hid (HE2.out _ L10.out)
        clear HE1 HE2 HXB kx1
        go_upto_region 31 with (go_at_call 12; refine HE3.out.mono ?_; rintro e w11 ⟨⟨d2, E2, rfl⟩, l11, k11⟩; have L11 := hid l11; clear l11 k11)
        have HFI : Hid (ApI w w11 s t u g n0 (i + 1) nn (pk : Int)) := hid (HGO.out _ _ _ L11.out (by rw [edL_len]; exact HLN.out.1) (by rw [edL_len]; exact HLN.out.2) (edL_upto HU1.out (List.mem_of_getElem? HAT.out.1) _ _ _) (edL_upto HU2.out (List.mem_of_getElem? HAT.out.2) _ _ _) (edL_at HAT.out.1 HAT.out.2 _ _ _))
        go_wp2
        go_roundw
        case rel => exact ⟨i + 1, by go_num, by omega, nn, (pk : Int), rfl, rfl, HFI⟩
        case measure => simp [intOf]; omega
       ·clear hev
        go_wp2
        go_roundw
        case rel => exact ⟨i + 1, by go_num, by omega, nn, (pk : Int), rfl, rfl, HNO⟩
        case measure => simp [intOf]; omega
      ·have hev' : (ac.rn.tmod 2 == 0) = false := by simpa using hev
       clear hev
       go_wp2
       go_roundw
       case rel => exact ⟨i + 1, by go_num, by omega, nn, (pk : Int), rfl, rfl, HNO⟩
       case measure => simp [intOf]; omega
   ·have zi : ¬ (i : Int) < (A : Int) := by omega
    have HZ : Hid (Touch [] w wr) := hid (by obtain ⟨_, _, _, _, _, _, h, _⟩ := HR.out; exact h.tch)
    clear HR hi hlt
    go_wp2
    go_ret
    exact ⟨rfl, HZ.out⟩
 ·have HN1 : Hid (∀ w1, Calls Tryz.prog 6 #[.int .i64 n, .agg c.cs] w1 fun e w2 => ∃ o E, e = .returned (.tuple #[.pointer o, .int .i64 E]) ∧ Touch [] w1 w2 ∧ (E != 0) = true) := hid (fun w1 => (snew_any n c.cf hw7 w1).mono (fun e w2 ⟨o, E, h1, h2, h3⟩ => ⟨o, E, h1, h2, h3 hN⟩))
  have HN2 : Hid (∀ w1, Calls Tryz.prog 6 #[.int .i64 1, .agg c.cs] w1 fun e w2 => ∃ o E, e = .returned (.tuple #[.pointer o, .int .i64 E]) ∧ Touch [] w1 w2) := hid (fun w1 => (snew_any 1 c.cf hw7 w1).mono (fun e w2 ⟨o, E, h1, h2, h3⟩ => ⟨o, E, h1, h2⟩))
  have HN3 : Hid (∀ w1, Calls Tryz.prog 7 #[.agg c.cs] w1 fun e w2 => ∃ o E, e = .returned (.tuple #[.pointer o, .int .i64 E]) ∧ Touch [] w1 w2) := hid (fun w1 => gnew_any c.cf hw7 w1)
  have HAW := hid (fun w => sawake_ w)
  have hb := HB0.out
  clear hN hn hcv hw7 HRow HAx HWf HLe HB0
  unfold CfG.cs at *
  have c0 := cell_at (j := 0) (v := .int .i64 c.t) hb rfl
  have c1 := cell_at (j := 1) (v := .int .i64 c.n) hb rfl
  have c2 := cell_at (j := 2) (v := .int .i64 c.s) hb rfl
  have c3 := cell_at (j := 3) (v := .int .i64 c.e) hb rfl
  have c4 := cell_at (j := 4) (v := .int .i64 c.f) hb rfl
  have c5 := cell_at (j := 5) (v := .int .i64 c.b) hb rfl
  have c6 := cell_at (j := 6) (v := .int .i64 c.d) hb rfl
  clear hb
  go_enter Tryz.func3, Tryz.ntmps3
  go_upto_region 1 with fail
  rw [← hV]
  clear hV
  go_upto_region 2 with (go_at_call 6; refine (HN1.out _).mono ?_; rintro e w1 ⟨o1, E1, rfl, r1, z1⟩; have R1 := hid r1; clear c0 c1 c2 c3 c4 c5 c6; have hb := HCB.out _ r1; have c0 := cell_at (j := 0) (v := .int .i64 c.t) hb rfl; have c1 := cell_at (j := 1) (v := .int .i64 c.n) hb rfl; have c2 := cell_at (j := 2) (v := .int .i64 c.s) hb rfl; have c3 := cell_at (j := 3) (v := .int .i64 c.e) hb rfl; have c4 := cell_at (j := 4) (v := .int .i64 c.f) hb rfl; have c5 := cell_at (j := 5) (v := .int .i64 c.b) hb rfl; have c6 := cell_at (j := 6) (v := .int .i64 c.d) hb rfl; clear hb r1)
  go_upto_region 3 with (go_at_call 6; refine (HN1.out _).mono ?_; rintro e w2 ⟨o2, E2, rfl, r2, z2⟩; have R2 := hid (R1.out.trans' r2); clear c0 c1 c2 c3 c4 c5 c6; have hb := HCB.out _ R2.out; have c0 := cell_at (j := 0) (v := .int .i64 c.t) hb rfl; have c1 := cell_at (j := 1) (v := .int .i64 c.n) hb rfl; have c2 := cell_at (j := 2) (v := .int .i64 c.s) hb rfl; have c3 := cell_at (j := 3) (v := .int .i64 c.e) hb rfl; have c4 := cell_at (j := 4) (v := .int .i64 c.f) hb rfl; have c5 := cell_at (j := 5) (v := .int .i64 c.b) hb rfl; have c6 := cell_at (j := 6) (v := .int .i64 c.d) hb rfl; clear hb r2)
  go_upto_region 4 with (go_at_call 6; refine (HN2.out _).mono ?_; rintro e w3 ⟨o3, E3, rfl, r3⟩; have R3 := hid (R2.out.trans' r3); clear c0 c1 c2 c3 c4 c5 c6; have hb := HCB.out _ R3.out; have c0 := cell_at (j := 0) (v := .int .i64 c.t) hb rfl; have c1 := cell_at (j := 1) (v := .int .i64 c.n) hb rfl; have c2 := cell_at (j := 2) (v := .int .i64 c.s) hb rfl; have c3 := cell_at (j := 3) (v := .int .i64 c.e) hb rfl; have c4 := cell_at (j := 4) (v := .int .i64 c.f) hb rfl; have c5 := cell_at (j := 5) (v := .int .i64 c.b) hb rfl; have c6 := cell_at (j := 6) (v := .int .i64 c.d) hb rfl; clear hb r3)
  go_upto_region 5 with (go_at_call 7; refine (HN3.out _).mono ?_; rintro e w4 ⟨o4, E4, rfl, r4⟩; have R4 := hid (R3.out.trans' r4); clear r4 c0 c1 c2 c3 c4 c5 c6)
  go_upto_region 6 with (go_at_call 8; refine (HAW.out _).mono ?_; rintro e w5 ⟨rfl, t5⟩; have R5 := hid (R4.out.trans' t5); clear t5)
  go_wp2_with (go_at_call 8; refine (HAW.out _).mono ?_; rintro e w6 ⟨rfl, t6⟩; have R6 := hid (R5.out.trans' t6); clear t6)
  go_ret
  exact ⟨rfl, TV.out.trans' R6.out⟩
end Go.Proofs.YtllchnancjgijaaGreat
