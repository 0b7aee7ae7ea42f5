/- What place and takeAway leave behind each kind: chairs, rows and maps in the midst of a step; no conditions. -/
import Derived.Test.YtlmmljmhfghlnaaVrw
import Derived.Test.YtlmmljmhfghlnaaVst
namespace Go.Proofs.Ytlmmljmhfghlnaa
open Go.RowKit Go.Maps Go.ChangeMaps
set_option linter.unusedVariables false
set_option linter.unusedSimpArgs false
def upd2 (A : Nat → Nat → Option Nat) (k : Nat) (o v : Option Nat) : Nat → Nat → Option Nat := fun k' => if k' = k then updO (A k') o v else A k'
theorem upd2_at (A : Nat → Nat → Option Nat) (k : Nat) (o v : Option Nat) : upd2 A k o v k = updO (A k) o v := by simp [upd2]
theorem upd2_ne (A : Nat → Nat → Option Nat) {k j : Nat} (h : j ≠ k) (o v : Option Nat) : upd2 A k o v j = A j := by simp [upd2, h]
theorem upd2_hit (A : Nat → Nat → Option Nat) (k q : Nat) (v : Option Nat) : (fun j => upd2 A k (some q) v j q) = updN (fun j => A j q) k v := by
  funext j
  unfold upd2 updN updO
  by_cases h : j = k <;> simp [h]
theorem upd2_miss (A : Nat → Nat → Option Nat) (k q : Nat) {o : Option Nat} (h : o ≠ some q) (v : Option Nat) : (fun j => upd2 A k o v j q) = fun j => A j q := by
  funext j
  unfold upd2 updO
  by_cases h' : j = k <;> simp [h', h]
theorem Ch.keep {w w' : World} {CH : List Chr} {A B : Nat → Nat → Option Nat} {F : List Nat} (h : Ch w CH A B) (T : Touch F w w') (hF : ∀ p ∈ CH, ¬ p.1 ∈ F) : Ch w' CH A B := fun p hp => T.keep (h p hp) (hF p hp)
theorem Ch.is {w : World} {CH : List Chr} {A B : Nat → Nat → Option Nat} (h : Ch w CH A B) {q : Nat} (hq : q ∈ CH.map Prod.fst) : isCh w q := by
  obtain ⟨p, hp, rfl⟩ := List.mem_map.1 hq
  exact ⟨_, _, _, h p hp⟩
theorem row_mem {CH : List Chr} {k : Nat} {n : Int} {q : Nat} (h : q ∈ rowOf k n CH) : q ∈ CH.map Prod.fst := by
  obtain ⟨p, hp, rfl⟩ := List.mem_map.1 h
  exact List.mem_map.2 ⟨p, (List.mem_filter.1 hp).1, rfl⟩
theorem row_nd {CH : List Chr} (h : (CH.map Prod.fst).Nodup) (k : Nat) (n : Int) : (rowOf k n CH).Nodup := h.sublist (List.filter_sublist.map _)
/-- Behind add. -/
theorem Ch.added {w w' : World} {CH : List Chr} {A B : Nat → Nat → Option Nat} {k rb q : Nat} {f l : Option Nat} (h : Ch w CH A B) (hE : AdE w w' k rb q f l) (hrb : ∀ p ∈ CH, p.1 ≠ rb) (hlq : l ≠ some q) : Ch w' CH (upd2 A k (some q) l) (upd2 B k l (some q)) := fun p hp => by
  have hp0 := h p hp
  by_cases e : p.1 = q
  · rw [e] at hp0 ⊢
    rw [upd2_hit, upd2_miss _ _ _ hlq]
    exact hE.at_ _ _ _ hp0
  · rw [upd2_miss _ _ _ (fun e' => e (by simp only [Option.some.injEq] at e'; exact e'.symm))]
    by_cases e2 : l = some p.1
    · rw [e2, upd2_hit]
      exact hE.be p.1 _ _ _ e2 hp0
    · rw [upd2_miss _ _ _ e2]
      refine hE.t.keep hp0 (fun e3 => ?_)
      simp only [List.mem_cons, Option.mem_toList] at e3
      rcases e3 with e3 | e3 | e3
      · exact hrb p hp e3
      · exact e e3
      · exact e2 e3
/-- Behind remove. -/
theorem Ch.removed {w w' : World} {CH : List Chr} {A B : Nat → Nat → Option Nat} {k rb q : Nat} {f l a b : Option Nat} (h : Ch w CH A B) (hE : RmE w w' k rb q f l a b) (hrb : ∀ p ∈ CH, p.1 ≠ rb) (hab : ∀ p, a = some p → b ≠ some p) : Ch w' CH (upd2 A k b a) (upd2 B k a b) := fun p hp => by
  have hp0 := h p hp
  by_cases e : a = some p.1
  · have e2 : b ≠ some p.1 := hab _ e
    rw [upd2_miss _ _ _ e2, e, upd2_hit]
    exact hE.ah p.1 _ _ _ e hp0
  · rw [upd2_miss _ _ _ e]
    by_cases e2 : b = some p.1
    · rw [e2, upd2_hit]
      exact hE.be p.1 _ _ _ e2 hp0
    · rw [upd2_miss _ _ _ e2]
      refine hE.t.keep hp0 (fun e3 => ?_)
      simp only [List.mem_cons, List.mem_append, Option.mem_toList] at e3
      rcases e3 with e3 | e3 | e3
      · exact hrb p hp e3
      · exact e e3
      · exact e2 e3
theorem row_snoc (CH : List Chr) (q : Nat) (x : Se) (k : Nat) (n : Int) : rowOf k n (CH ++ [(q, x)]) = if num k x = n then rowOf k n CH ++ [q] else rowOf k n CH := by
  unfold rowOf
  rw [List.filter_append, List.map_append]
  by_cases h : num k x = n <;> simp [h]
/-- A row's head behind one more. -/
theorem head_snoc (xs : List Nat) (q : Nat) : (xs ++ [q]).head? = if lastO none xs = none then some q else xs.head? := by
  cases xs with
  | nil => rfl
  | cons a r =>
    rw [if_neg (fun e => by have := lastO_none e; cases this)]
    rfl
theorem last_snoc (xs : List Nat) (q : Nat) : lastO none (xs ++ [q]) = some q := by rw [lastO_append]; rfl
/-- Rows of which the first kinds are those of one list, the others those of another. -/
def rmid (i : Nat) (CH' CH : List Chr) (n : Nm) : Option Value := if n.1 < (i : Int) then rmap CH' n else rmap CH n
theorem rmid0 (CH' CH : List Chr) {n : Nm} : rmid 0 CH' CH n = rmap CH n := by
  unfold rmid
  by_cases h : n.1 < ((0 : Nat) : Int)
  · rw [if_pos h]
    unfold rmap
    rw [if_neg (fun e => by have := e.1; omega), if_neg (fun e => by have := e.1; omega)]
  · rw [if_neg h]
theorem rmid3 (CH' CH : List Chr) {n : Nm} : rmid 3 CH' CH n = rmap CH' n := by
  unfold rmid
  by_cases h : n.1 < ((3 : Nat) : Int)
  · rw [if_pos h]
  · rw [if_neg h]
    unfold rmap
    rw [if_neg (fun e => by have := e.2.1; omega), if_neg (fun e => by have := e.2.1; omega)]
/-- One kind more, where only one row of it is other. -/
theorem rmid_step {CH' CH : List Chr} {i : Nat} (hi : i < 3) {m : Int} (ho : ∀ n, n ≠ m → rowOf i n CH' = rowOf i n CH) (n : Nm) (f : Nm → Option Value) (hf : f ((i : Int), m) = rmap CH' ((i : Int), m)) (hg : ∀ n, n ≠ ((i : Int), m) → f n = rmid i CH' CH n) : f n = rmid (i + 1) CH' CH n := by
  by_cases e : n = ((i : Int), m)
  · subst e
    rw [hf]
    unfold rmid
    rw [if_pos (by simp only; omega)]
  · rw [hg n e]
    unfold rmid
    by_cases h1 : n.1 < (i : Int)
    · rw [if_pos h1, if_pos (by omega)]
    · rw [if_neg h1]
      by_cases h2 : n.1 < ((i + 1 : Nat) : Int)
      · rw [if_pos h2]
        have e1 : n.1 = (i : Int) := by omega
        have e2 : n.2 ≠ m := fun e2 => e (Prod.ext e1 e2)
        unfold rmap
        rw [e1, Int.toNat_natCast, ho n.2 e2]
      · rw [if_neg h2]
theorem rmap_row {CH : List Chr} {k : Nat} (hk : k < 3) (n : Int) (h : rowOf k n CH ≠ []) : rmap CH ((k : Int), n) = some (rowV (rowOf k n CH)) := by
  unfold rmap
  simp only [Int.toNat_natCast]
  rw [if_pos ⟨by omega, by omega, h⟩]
theorem rmap_no {CH : List Chr} {k : Nat} (n : Int) (h : rowOf k n CH = []) : rmap CH ((k : Int), n) = none := by
  unfold rmap
  simp only [Int.toNat_natCast]
  rw [if_neg (fun e => e.2.2 h)]
theorem num_wf {x : Se} (h : Wf x) (k : Nat) : W64 (num k x) := by
  match k with
  | 0 => exact W64.mk (by show _ ≤ (0 : Int); omega) (by show (0 : Int) ≤ _; omega)
  | 1 => exact h.2.1
  | k + 2 => exact h.2.2
theorem ok_name {x : Se} (h : Wf x) {k : Nat} (hk : k < 3) : OkN ((k : Int), num k x) := ⟨w64k hk, num_wf h k⟩
/-- In the midst of a step: so many kinds of rows are done; CH are the chairs in memory, C0 those of the rows to come, C1 those of the rows that are done. -/
structure Md (w : World) (s b d : Nat) (mk : Option Nat) (nr : Nat) (CH C0 C1 : List Chr) (G : List Int) (i : Nat) (Z : (Nat → Nat → Option Nat) → (Nat → Nat → Option Nat) → Nat → Prop) : Prop where
  hb : w.heap[s]? = some (.cells (sbc (some b) (some d) mk) 60 (0, 0))
  bd : b ≠ d
  cm : MapK KI w b C1.length (cmap C1)
  rm : ∃ n, n ≤ nr ∧ MapK KN w d n (rmid i C1 C0)
  km : (mk = none ∧ G = []) ∨ ∃ b, mk = some b ∧ MapK KI w b G.length (kmap G)
  kc : ∀ c, mk = some c → c ≠ b ∧ c ≠ d
  lk : ∃ A B, Ch w CH A B ∧ (∀ k, k < 3 → k < i → ∀ n, Lk (A k) (B k) none (rowOf k n C1)) ∧ (∀ k, k < 3 → i ≤ k → Z A B k ∧ ∀ n, Lk (A k) (B k) none (rowOf k n C0))
def fpM (s b d : Nat) (mk : Option Nat) (CH : List Chr) : List Nat := fpS s (some b) (some d) mk CH
section
variable {w w' : World} {s b d nr i : Nat} {mk : Option Nat} {CH C0 C1 : List Chr} {G : List Int} {X : List Nat} {Z : (Nat → Nat → Option Nat) → (Nat → Nat → Option Nat) → Nat → Prop}
theorem Md.keep (h : Md w s b d mk nr CH C0 C1 G i Z) (T : Touch X w w') (hX : ∀ q, q ∈ fpM s b d mk CH → ¬ q ∈ X) : Md w' s b d mk nr CH C0 C1 G i Z := by
  refine ⟨T.keep h.hb (hX s (mem_fpS.2 (Or.inl rfl))), h.bd, h.cm.keep T (hX b (mem_fpS.2 (Or.inr (Or.inl rfl)))), ?_, ?_, h.kc, ?_⟩
  · obtain ⟨n, h1, h2⟩ := h.rm
    exact ⟨n, h1, h2.keep T (hX d (mem_fpS.2 (Or.inr (Or.inr (Or.inl rfl)))))⟩
  · rcases h.km with h1 | ⟨c, h1, h2⟩
    · exact Or.inl h1
    · exact Or.inr ⟨c, h1, h2.keep T (hX c (mem_fpS.2 (Or.inr (Or.inr (Or.inr (Or.inl h1))))))⟩
  · obtain ⟨A, B, h1, h2⟩ := h.lk
    exact ⟨A, B, h1.keep T (fun p hp => hX p.1 (mem_fpS.2 (Or.inr (Or.inr (Or.inr (Or.inr (List.mem_map.2 ⟨p, hp, rfl⟩))))))), h2⟩
theorem Md.keep0 (h : Md w s b d mk nr CH C0 C1 G i Z) (T : Touch [] w w') : Md w' s b d mk nr CH C0 C1 G i Z := h.keep T (fun _ _ e => by cases e)
theorem Md.own (h : Md w s b d mk nr CH C0 C1 G i Z) : ∀ q, q ∈ fpM s b d mk CH → Own1 w q := fun q hq => by
  rcases mem_fpS.1 hq with e | e | e | e | e
  · subst e; exact Or.inl ⟨_, _, h.hb⟩
  · cases e; exact Or.inr (Or.inr h.cm.kind)
  · cases e; obtain ⟨n, _, h2⟩ := h.rm; exact Or.inr (Or.inr h2.kind)
  · rcases h.km with ⟨h1, _⟩ | ⟨c, h1, h2⟩
    · rw [h1] at e; cases e
    · rw [h1] at e; cases e; exact Or.inr (Or.inr h2.kind)
  · obtain ⟨p, hp, rfl⟩ := List.mem_map.1 e
    obtain ⟨A, B, h1, _⟩ := h.lk
    exact Or.inr (Or.inl ⟨_, _, h1 p hp⟩)
/-- The row of a kind that is to come. -/
theorem Md.lookR (h : Md w s b d mk nr CH C0 C1 G i Z) (hi : i < 3) {m : Int} (hm : W64 m) : (Instr.lookup 57 (.map (some d)) (.agg #[.int .i64 (i : Int), .int .i64 m]) false).run Try.prog w = .ok (rowV (rowOf i m C0)) w := by
  obtain ⟨n, h1, h2⟩ := h.rm
  have := h2.look (t := 57) Try.underlying57 (zeroRow w) (k := ((i : Int), m)) ⟨w64k hi, hm⟩
  rw [show rmid i C1 C0 ((i : Int), m) = rmap C0 ((i : Int), m) by unfold rmid; rw [if_neg (by simp only; omega)], (rmap_get C0 hi m).1] at this
  exact this
theorem Md.cell (h : Md w s b d mk nr CH C0 C1 G i Z) : w.cell? ⟨s, 1, none⟩ = some (.map (some d)) := cell_at h.hb rfl
end
end Go.Proofs.Ytlmmljmhfghlnaa
