/- The law's one, whatever is done; what the law reads of a client and its state; the conditions are those that each states. -/
import Derived.Test.YthakboiecdjgnaaDoorCok
import Derived.Test.YthakboiecdjgnaaDoorCop
namespace Go.Proofs.YthakboiecdjgnaaDoor.Ci
open Go.RowKit Go.Maps Go.ChangeMaps
set_option linter.unusedVariables false
set_option linter.unusedSimpArgs false
section
variable {B b : Nat} {w w' : World} {pv lv pv2 lv2 : Value} {cs : Array Value} {S : Cs} {T : Ls}
theorem one_ (h : Iv B w b pv lv cs pv2 lv2 S T) (k a1 a2 : Int) (g : Gz) (hl : S.log.length ≤ 2000000000000) : Calls Tryd.prog 18 #[.pointer (some ⟨b, 0, none⟩), .agg cs, actv k a1 a2 g] w fun e w' => OnE e w w' B b lv S := by
  by_cases h0 : k = 0
  · subst h0; exact one_go h a1 a2 g
  by_cases h1 : k = 1
  · subst h1; exact one_use h a1 a2 g
  by_cases h2 : k = 2
  · subst h2
    cases hm : mayG T.L.length g with
    | false => exact one_had_no h a1 a2 g hm
    | true => exact one_had_ok h a1 a2 g hl hm
  by_cases h6 : ¬ (0 ≤ k ∧ k ≤ 5)
  · exact one_clone h k a1 a2 g h6 hl
  by_cases hn : 0 ≤ a1 ∧ a1 < 16
  · obtain ⟨i, rfl⟩ : ∃ i : Nat, a1 = (i : Nat) := ⟨a1.toNat, by omega⟩
    have hi : i < 16 := by omega
    by_cases h3 : k = 3
    · subst h3
      by_cases ha : 1 ≤ a2
      · exact one_put_ok h i a2 g hi ha
      · exact one_put_arg h i a2 g hi ha
    by_cases h4 : k = 4
    · subst h4
      by_cases hf : T.st i = 2 ∧ T.ca i = a2
      · exact one_fill_ok h i a2 g hi hf.1 hf.2
      · exact one_fill_not h i a2 g hi hf
    obtain rfl : k = 5 := by omega
    by_cases hf : T.st i = 3
    · exact one_take_full h i a2 g hi hf
    · exact one_take_not h i a2 g hi hf
  · by_cases h3 : k = 3
    · subst h3; exact one_put_no h a1 a2 g hn
    by_cases h4 : k = 4
    · subst h4; exact one_fill_no h a1 a2 g hn
    obtain rfl : k = 5 := by omega
    exact one_take_no h a1 a2 g hn
theorem Iv.more (h : Iv B w b pv lv cs pv2 lv2 S T) (hlt : S.at_ < S.L.length) : ∃ lb lo c d, nextV S = (d, (S.at_ : Int), true) ∧ cs[0]? = some (.slice (some ⟨lb, lo, none⟩) S.L.length c) ∧ cs[1]? = some (.int .i64 (S.at_ : Nat)) ∧ cs[2]? = some (.int .i64 S.tok) ∧
    ∀ w', Touch [] w w' → w'.cell? ⟨lb, lo + S.at_ * 5, none⟩ = some (.int .i64 d.op) ∧ w'.cell? ⟨lb, lo + S.at_ * 5 + 1, none⟩ = some (.int .u16 d.sp) ∧ w'.cell? ⟨lb, lo + S.at_ * 5 + 2, none⟩ = some (.string d.nm) ∧ w'.cell? ⟨lb, lo + S.at_ * 5 + 3, none⟩ = some (.int .i64 d.n) ∧ w'.cell? ⟨lb, lo + S.at_ * 5 + 4, none⟩ = some (.int .i64 d.sl) := by
  obtain ⟨a, c, e⟩ := own_form h.p2
  subst e
  have hp := h.p2
  have hs := h.s
  have hr := h.r
  obtain ⟨tl, ta, tt, tg, ts⟩ := hr
  rw [tl] at hp
  have c0 := hs.c0
  rw [tl] at c0
  have c1 := hs.c1
  rw [ta] at c1
  have c2 := hs.c2
  rw [tt] at c2
  have q := sl_ownT hp
  obtain ⟨lb, lo, rfl, _⟩ := q S.at_ hlt
  refine ⟨lb, lo, c, S.L[S.at_], by unfold nextV; rw [List.getElem?_eq_getElem hlt], c0, c1, c2, fun w' t => ?_⟩
  obtain ⟨lb', lo', e, z⟩ := (q.touch t) S.at_ hlt
  cases e
  exact z
theorem Iv.done (h : Iv B w b pv lv cs pv2 lv2 S T) (hlt : ¬ S.at_ < S.L.length) : ∃ a c, nextV S = (d0, 0, false) ∧ cs[0]? = some (.slice a S.L.length c) ∧ cs[1]? = some (.int .i64 (S.at_ : Nat)) ∧ cs[2]? = some (.int .i64 S.tok) := by
  obtain ⟨a, c, e⟩ := own_form h.p2
  subst e
  have hs := h.s
  obtain ⟨tl, ta, tt, tg, ts⟩ := h.r
  have c0 := hs.c0
  rw [tl] at c0
  have c1 := hs.c1
  rw [ta] at c1
  have c2 := hs.c2
  rw [tt] at c2
  exact ⟨a, c, by unfold nextV; rw [List.getElem?_eq_none (by omega)], c0, c1, c2⟩
theorem Iv.siz (h : Iv B w b pv lv cs pv2 lv2 S T) : cs.size = 148 ∧ cs.all (·.oneCell') = true := by
  obtain ⟨a, c, e⟩ := own_form h.p2
  obtain ⟨a', c', e'⟩ := own_form h.g2
  exact ⟨h.s.n, h.s.one (by rw [e]; rfl) (by rw [e']; rfl)⟩
end
theorem cellsG_at (L : List Gz) (i j : Nat) (h : i < L.length) (hj : j < 7) : (cellsG L)[i * 7 + j]? = L[i].cells[j]? := flat_at Gz.cells_len L i j L[i] (List.getElem?_eq_getElem h) hj
/-- A log in memory. -/
def Sg (w : World) (a : Option Addr) (G : List Gz) : Prop := ∀ i, (h : i < G.length) → ∃ b off, a = some ⟨b, off, none⟩ ∧ w.cell? ⟨b, off + i * 7, none⟩ = some (.int .i64 G[i].pl) ∧ w.cell? ⟨b, off + i * 7 + 1, none⟩ = some (.int .i64 G[i].ho) ∧ w.cell? ⟨b, off + i * 7 + 2, none⟩ = some (.int .i64 G[i].va) ∧ w.cell? ⟨b, off + i * 7 + 3, none⟩ = some (.int .i64 G[i].kd) ∧ w.cell? ⟨b, off + i * 7 + 4, none⟩ = some (.int .i64 G[i].cd) ∧ w.cell? ⟨b, off + i * 7 + 5, none⟩ = some (.int .i64 G[i].rn) ∧ w.cell? ⟨b, off + i * 7 + 6, none⟩ = some (.int .i64 G[i].tm)
theorem sg_own {w : World} {B e : Nat} {a : Option Addr} {c : Nat} {G : List Gz} (h : w.ownsRow B e 7 (.slice a G.length c) G.length (cellsG G)) : Sg w a G := fun i hi => by
  obtain ⟨b, c', e, _, _⟩ := own_some h (by omega)
  cases e
  have q := fun j (hj : j < 7) (y : Value) (hy : G[i].cells[j]? = some y) => own_cell h (p := i * 7 + j) (v := y) (by rw [cellsG_at G i j hi hj]; exact hy)
  exact ⟨b, 0, rfl, by simpa using q 0 (by omega) _ rfl, by simpa using q 1 (by omega) _ rfl, by simpa using q 2 (by omega) _ rfl, by simpa using q 3 (by omega) _ rfl, by simpa using q 4 (by omega) _ rfl, by simpa using q 5 (by omega) _ rfl, by simpa using q 6 (by omega) _ rfl⟩
theorem Sg.touch {w w' : World} {a : Option Addr} {G : List Gz} (h : Sg w a G) (t : Touch [] w w') : Sg w' a G := fun i hi => by
  obtain ⟨b, off, e, c0, c1, c2, c3, c4, c5, c6⟩ := h i hi
  exact ⟨b, off, e, tcell t c0, tcell t c1, tcell t c2, tcell t c3, tcell t c4, tcell t c5, tcell t c6⟩
def gz (a : GoA) : Gz := ⟨a.pl, a.ho, a.o.va, a.o.f.kd, a.o.f.cd, a.o.f.rn, a.tm⟩
/-- The acts in memory. -/
def SlX (w : World) (a : Option Addr) (X : List AcA) : Prop := 0 < X.length → ∃ b off, a = some ⟨b, off, none⟩ ∧ RowAcA w b off X
theorem slx_of {w : World} {v : Value} {X : List AcA} (h : SlAcA w v X) : ∃ a c, v = .slice a X.length c ∧ SlX w a X := by
  rcases h with ⟨rfl, a, c, rfl⟩ | ⟨b, off, c, rfl, r⟩
  · exact ⟨a, c, rfl, fun h => by simp at h⟩
  · exact ⟨_, c, rfl, fun _ => ⟨b, off, rfl, r⟩⟩
set_option maxRecDepth 20000 in
set_option maxHeartbeats 1000000 in
theorem sc_new (pv2 : Value) (L : List Dz) : Sc (Tryd.zeroCells63.setIfInBounds 0 pv2) pv2 (.slice none 0 0) ⟨L, 0, 0, [], fun _ => 0, fun _ => 0, fun _ => g0⟩ := by
  have hz : ∀ j, 0 < j → (Tryd.zeroCells63.setIfInBounds 0 pv2)[j]? = Tryd.zeroCells63[j]? := fun j hj => Array.getElem?_setIfInBounds_ne (by omega)
  refine ⟨by simp [Tryd.zeroCells63], by simp [Tryd.zeroCells63], by simp [Tryd.zeroCells63], by simp [Tryd.zeroCells63], by simp [Tryd.zeroCells63], ?_, ?_, ?_⟩
  · intro i hi
    rw [hz _ (by omega)]
    unfold Tryd.zeroCells63
    rcases (by omega : i = 0 ∨ i = 1 ∨ i = 2 ∨ i = 3 ∨ i = 4 ∨ i = 5 ∨ i = 6 ∨ i = 7 ∨ i = 8 ∨ i = 9 ∨ i = 10 ∨ i = 11 ∨ i = 12 ∨ i = 13 ∨ i = 14 ∨ i = 15) with rfl | rfl | rfl | rfl | rfl | rfl | rfl | rfl | rfl | rfl | rfl | rfl | rfl | rfl | rfl | rfl <;> rfl
  · intro i hi
    rw [hz _ (by omega)]
    unfold Tryd.zeroCells63
    rcases (by omega : i = 0 ∨ i = 1 ∨ i = 2 ∨ i = 3 ∨ i = 4 ∨ i = 5 ∨ i = 6 ∨ i = 7 ∨ i = 8 ∨ i = 9 ∨ i = 10 ∨ i = 11 ∨ i = 12 ∨ i = 13 ∨ i = 14 ∨ i = 15) with rfl | rfl | rfl | rfl | rfl | rfl | rfl | rfl | rfl | rfl | rfl | rfl | rfl | rfl | rfl | rfl <;> rfl
  · intro i j hi hj
    rw [hz _ (by omega)]
    unfold Tryd.zeroCells63
    rcases (by omega : i = 0 ∨ i = 1 ∨ i = 2 ∨ i = 3 ∨ i = 4 ∨ i = 5 ∨ i = 6 ∨ i = 7 ∨ i = 8 ∨ i = 9 ∨ i = 10 ∨ i = 11 ∨ i = 12 ∨ i = 13 ∨ i = 14 ∨ i = 15) with rfl | rfl | rfl | rfl | rfl | rfl | rfl | rfl | rfl | rfl | rfl | rfl | rfl | rfl | rfl | rfl <;> rcases (by omega : j = 0 ∨ j = 1 ∨ j = 2 ∨ j = 3 ∨ j = 4 ∨ j = 5 ∨ j = 6) with rfl | rfl | rfl | rfl | rfl | rfl | rfl <;> rfl
theorem zs_new {pv2 : Value} (h : pv2.oneCell' = true) : (Tryd.zeroCells63.setIfInBounds 0 pv2).size = 148 ∧ (Tryd.zeroCells63.setIfInBounds 0 pv2).all (·.oneCell') = true := ⟨(sc_new pv2 []).n, (sc_new pv2 []).one h rfl⟩
theorem iv_new {B : Nat} {w : World} {b : Nat} {pv pv2 : Value} {L : List Dz} (hq : Cq w b pv (.slice none 0 0) (newS L)) (ho : w.ownsRow 0 47 5 pv2 L.length (cellsD L)) (hb : B ≤ b) :
    Iv B w b pv (.slice none 0 0) (Tryd.zeroCells63.setIfInBounds 0 pv2) pv2 (.slice none 0 0) (newS L) ⟨L, 0, 0, [], fun _ => 0, fun _ => 0, fun _ => g0⟩ :=
  ⟨hq, sc_new _ _, ⟨rfl, rfl, rfl, rfl, fun i hi => Or.inl ⟨rfl, rfl, rfl⟩⟩, ho, own_nil _ _ _ _, (fun k hk => by cases hk), hb, (fun k hk => by cases hk)⟩
end Go.Proofs.YthakboiecdjgnaaDoor.Ci
