/- What Make, Hold, Let and Cancel make of tokens as a plain list, and what holds of all such lists; no program, no conditions. -/
import Derived.Test.YtbjnajiicljnbaaThy
namespace Go.Proofs.Ytbjnajiicljnbaa
set_option linter.unusedVariables false
theorem ups_congr {S S' : List Tk} (hp : ParLt S) {B : Nat} (h : ∀ m, 1 ≤ m → m ≤ B → (tk S' m).par = (tk S m).par) (n : Nat) : ∀ f p, p ≤ B → ups S' f p n = ups S f p n
  | 0, p, _ => rfl
  | f + 1, p, hb => by
    unfold ups
    by_cases e : p = 0
    · simp [e]
    · have := hp.all (m := p) (by omega)
      rw [h p (by omega) hb, ups_congr hp h n f (tk S p).par (by omega)]
theorem hg_congr {S S' : List Tk} (hp : ParLt S) {B : Nat} (h : ∀ m, 1 ≤ m → m ≤ B → (tk S' m).par = (tk S m).par) (n : Nat) {m : Nat} (h1 : 1 ≤ m) (hb : m ≤ B) : hg S' m n = hg S m n := by
  unfold hg
  have := hp.all h1
  rw [h m h1 hb, ups_congr hp h n _ _ (by omega)]
theorem kids_congr {S S' : List Tk} (hl : S'.length = S.length) (h : ∀ m, 1 ≤ m → m ≤ S.length → (tk S' m).par = (tk S m).par) (n : Nat) : kids S' n = kids S n := by
  unfold kids
  rw [hl]
  congr 1
  apply List.filter_congr
  intro m hm
  rw [List.mem_range'_1] at hm
  rw [h m (by omega) (by omega)]
/-- Only the holders, or why, of some are otherwise. -/
structure Alike (S S' : List Tk) : Prop where
  len : S'.length = S.length
  par : ∀ m, 1 ≤ m → m ≤ S.length → (tk S' m).par = (tk S m).par
  ch : ∀ m, 1 ≤ m → m ≤ S.length → (tk S' m).ch = (tk S m).ch
  el : ∀ m, 1 ≤ m → m ≤ S.length → (tk S' m).el = (tk S m).el
section
variable {S S' : List Tk} {n p : Nat}
theorem Alike.parLt (a : Alike S S') (h : ParLt S) : ParLt S' := fun m h1 h2 => by
  rw [a.len] at h2
  rw [a.par m h1 h2]; exact h m h1 h2
theorem Alike.lk (a : Alike S S') (h : Ok S) : ∀ n, 1 ≤ n → n ≤ S'.length → Lk S' (tk S' n).ch (kids S' n) := fun n h1 h2 => by
  rw [a.len] at h2
  rw [a.ch n h1 h2, kids_congr a.len a.par]
  refine Lk.congr (fun k hk => ?_) (h.lk n h1 h2)
  have := mem_kids.1 hk
  exact a.el k this.1 this.2.1
theorem Alike.hg (a : Alike S S') (h : Ok S) {m : Nat} (n : Nat) (h1 : 1 ≤ m) (h2 : m ≤ S.length) : hg S' m n = Ytbjnajiicljnbaa.hg S m n := hg_congr h.par a.par n h1 h2
theorem Ok.hol (h : Ok S) (a : Alike S S') (hw : ∀ m, 1 ≤ m → m ≤ S.length → (tk S' m).why = (tk S m).why) : Ok S' := by
  refine ⟨a.parLt h.par, a.lk h, fun m h1 h2 h3 h4 => ?_, fun m h1 h2 h3 => ?_⟩
  · rw [a.len] at h2
    have hp := h.par m h1 h2
    rw [a.par m h1 h2] at h3 h4
    rw [hw _ (by omega) (by omega)] at h4
    rw [hw m h1 h2]
    exact h.dn m h1 h2 h3 h4
  · rw [a.len] at h2
    rw [hw m h1 h2] at h3 ⊢
    obtain ⟨h4, h5⟩ := h.wy m h1 h2 h3
    have hb : 1 ≤ (tk S m).why ∧ (tk S m).why ≤ m := by
      rcases h4 with h4 | h4
      · omega
      · have := hg_lt h.par m _ h1 h4; omega
    rw [a.hg h _ h1 h2, hw _ hb.1 (by omega)]
    exact ⟨h4, h5⟩
def holdS (S : List Tk) (n : Nat) : List Tk := S.set (n - 1) { tk S n with hol := (tk S n).hol + 1 }
def lowS (S : List Tk) (n : Nat) : List Tk := S.set (n - 1) { tk S n with hol := (tk S n).hol - 1 }
theorem Ok.setHol (h : Ok S) (h1 : 1 ≤ n) (h2 : n ≤ S.length) (k : Nat) : Ok (S.set (n - 1) { tk S n with hol := k }) := by
  have t := fun j hj => tk_set (S := S) (m := n) (j := j) (x := { tk S n with hol := k }) h1 h2 hj
  refine h.hol ⟨by simp, fun m a b => ?_, fun m a b => ?_, fun m a b => ?_⟩ (fun m a b => ?_)
  all_goals
    rw [t m a]
    split
    · rename_i e; rw [e]
    · rfl
theorem Ok.hold (h : Ok S) (h1 : 1 ≤ n) (h2 : n ≤ S.length) : Ok (holdS S n) := h.setHol h1 h2 _
theorem Ok.low (h : Ok S) (h1 : 1 ≤ n) (h2 : n ≤ S.length) : Ok (lowS S n) := h.setHol h1 h2 _
/-- Why of all of a list. -/
def wyS (n : Nat) : List Nat → List Tk → List Tk
  | [], S => S
  | m :: l, S => wyS n l (S.set (m - 1) { tk S m with why := n })
theorem wyS_snoc (n m : Nat) : ∀ (l : List Nat) (S : List Tk), wyS n (l ++ [m]) S = (wyS n l S).set (m - 1) { tk (wyS n l S) m with why := n }
  | [], S => rfl
  | k :: l, S => by simp only [List.cons_append, wyS]; rw [wyS_snoc n m l]
theorem wyS_len (n : Nat) : ∀ (l : List Nat) (S : List Tk), (wyS n l S).length = S.length
  | [], S => rfl
  | k :: l, S => by simp only [wyS]; rw [wyS_len n l]; simp
theorem wyS_tk (n : Nat) : ∀ (l : List Nat) (S : List Tk), (∀ m, m ∈ l → 1 ≤ m ∧ m ≤ S.length) → ∀ j, 1 ≤ j → tk (wyS n l S) j = if j ∈ l then { tk S j with why := n } else tk S j
  | [], S, _, j, _ => by simp [wyS]
  | m :: l, S, hl, j, hj => by
    have hm := hl m List.mem_cons_self
    simp only [wyS]
    rw [wyS_tk n l _ (fun k hk => by rw [List.length_set]; exact hl k (List.mem_cons_of_mem _ hk)) j hj, tk_set hm.1 hm.2 hj]
    by_cases e : j = m
    · subst e
      simp
    · simp [e]
def liv (S : List Tk) (m : Nat) : Bool := (tk S m).why == 0
def gnL (S : List Tk) (n : Nat) : List Nat := if (tk S n).why = 0 then brL S (liv S) n else []
def canS (S : List Tk) (n : Nat) : List Tk := wyS n (gnL S n) S
theorem mem_brL {q : Nat → Bool} {m : Nat} : m ∈ brL S q n ↔ (1 ≤ m ∧ m ≤ S.length) ∧ (m = n ∨ (hg S m n = true ∧ q m = true)) := by
  unfold brL
  rw [List.mem_filter, List.mem_range'_1]
  simp
  omega
theorem liv_closed (h : Ok S) (hn : (tk S n).why = 0) : ∀ m, 1 ≤ m → m ≤ S.length → hg S m n = true → liv S m = true → (tk S m).par = n ∨ liv S (tk S m).par = true := fun m h1 h2 h3 h4 => by
  right
  have h5 := ((hg_iff h.par h1 n).1 h3).1
  unfold liv at h4 ⊢
  simp at h4 ⊢
  apply Classical.byContradiction
  intro h6
  exact h.dn m h1 h2 h5 h6 h4
theorem Ok.can (h : Ok S) (h1 : 1 ≤ n) (h2 : n ≤ S.length) : Ok (canS S n) := by
  unfold canS gnL
  by_cases hw : (tk S n).why = 0
  · rw [if_pos hw]
    have hl : ∀ m, m ∈ brL S (liv S) n → 1 ≤ m ∧ m ≤ S.length := fun m hm => (mem_brL.1 hm).1
    have t := wyS_tk n (brL S (liv S) n) S hl
    have a : Alike S (wyS n (brL S (liv S) n) S) := by
      refine ⟨wyS_len _ _ _, fun m a b => ?_, fun m a b => ?_, fun m a b => ?_⟩
      all_goals
        rw [t m a]
        split <;> rfl
    have hwy : ∀ m, 1 ≤ m → (tk (wyS n (brL S (liv S) n) S) m).why = if m ∈ brL S (liv S) n then n else (tk S m).why := fun m hm => by
      rw [t m hm]
      split <;> rfl
    have hne : ∀ m, 1 ≤ m → (tk S m).why ≠ 0 → (tk (wyS n (brL S (liv S) n) S) m).why ≠ 0 := fun m hm hm2 => by
      rw [hwy m hm]
      split
      · omega
      · exact hm2
    have hnn : n ∈ brL S (liv S) n := mem_brL.2 ⟨⟨h1, h2⟩, Or.inl rfl⟩
    refine ⟨a.parLt h.par, a.lk h, fun m m1 m2 m3 m4 => ?_, fun m m1 m2 m3 => ?_⟩
    · rw [a.len] at m2
      have hp := h.par m m1 m2
      rw [a.par m m1 m2] at m3 m4
      rw [hwy _ (by omega)] at m4
      by_cases e : (tk S m).why = 0
      · rw [hwy m m1]
        split at m4
        · rename_i e2
          rw [if_pos]
          · omega
          · refine mem_brL.2 ⟨⟨m1, m2⟩, Or.inr ⟨(hg_iff h.par m1 n).2 ⟨m3, ?_⟩, by simp [liv, e]⟩⟩
            rcases (mem_brL.1 e2).2 with e3 | e3
            · exact Or.inl e3
            · exact Or.inr e3.1
        · exact absurd e (h.dn m m1 m2 m3 m4)
      · exact hne m m1 e
    · rw [a.len] at m2
      rw [hwy m m1] at m3 ⊢
      split
      · rename_i e
        refine ⟨?_, by rw [hwy n h1, if_pos hnn]; omega⟩
        rcases (mem_brL.1 e).2 with e3 | e3
        · exact Or.inl e3.symm
        · right; rw [a.hg h n m1 m2]; exact e3.1
      · rename_i e
        rw [if_neg e] at m3
        obtain ⟨h4, h5⟩ := h.wy m m1 m2 m3
        rw [a.hg h _ m1 m2]
        exact ⟨h4, hne _ (by omega) h5⟩
  · rw [if_neg hw]
    exact h
theorem tk_new' {T : List Tk} {x : Tk} {N : Nat} (h : N = T.length) : tk (T ++ [x]) (N + 1) = x := by
  subst h
  exact tk_new
def makeS (S : List Tk) (p : Nat) : List Tk := if p = 0 then S ++ [tk0] else S.set (p - 1) { tk S p with ch := S.length + 1 } ++ [⟨p, 0, (tk S p).why, 0, (tk S p).ch⟩]
theorem makeS_len (S : List Tk) (p : Nat) : (makeS S p).length = S.length + 1 := by
  unfold makeS
  split <;> simp
theorem makeS_old (hp : p ≤ S.length) {m : Nat} (h1 : 1 ≤ m) (h2 : m ≤ S.length) : tk (makeS S p) m = if m = p then { tk S p with ch := S.length + 1 } else tk S m := by
  unfold makeS
  split
  · rename_i e
    rw [tk_app h1 h2, if_neg (by omega)]
  · rename_i e
    rw [tk_app h1 (by simpa using h2), tk_set (by omega) hp h1]
theorem makeS_new (S : List Tk) (p : Nat) : tk (makeS S p) (S.length + 1) = if p = 0 then tk0 else ⟨p, 0, (tk S p).why, 0, (tk S p).ch⟩ := by
  unfold makeS
  split
  · rw [tk_new]
  · exact tk_new' (by simp)
theorem Ok.make (h : Ok S) (hp : p ≤ S.length) : Ok (makeS S p) := by
  have hlen := makeS_len S p
  have o := fun m h1 h2 => makeS_old (S := S) (p := p) (m := m) hp h1 h2
  have nw := makeS_new S p
  have op : ∀ m, 1 ≤ m → m ≤ S.length → (tk (makeS S p) m).par = (tk S m).par := fun m h1 h2 => by
    rw [o m h1 h2]; split
    · rename_i e; rw [e]
    · rfl
  have ow : ∀ m, 1 ≤ m → m ≤ S.length → (tk (makeS S p) m).why = (tk S m).why := fun m h1 h2 => by
    rw [o m h1 h2]; split
    · rename_i e; rw [e]
    · rfl
  have oe : ∀ m, 1 ≤ m → m ≤ S.length → (tk (makeS S p) m).el = (tk S m).el := fun m h1 h2 => by
    rw [o m h1 h2]; split
    · rename_i e; rw [e]
    · rfl
  have oc : ∀ m, 1 ≤ m → m ≤ S.length → (tk (makeS S p) m).ch = if m = p then S.length + 1 else (tk S m).ch := fun m h1 h2 => by
    rw [o m h1 h2]; split <;> rfl
  have np : (tk (makeS S p) (S.length + 1)).par = p := by
    rw [nw]; split
    · rename_i e; rw [e]; rfl
    · rfl
  have nww : (tk (makeS S p) (S.length + 1)).why = if p = 0 then 0 else (tk S p).why := by
    rw [nw]; split <;> rfl
  have nc : (tk (makeS S p) (S.length + 1)).ch = 0 := by
    rw [nw]; split <;> rfl
  have ne : p ≠ 0 → (tk (makeS S p) (S.length + 1)).el = (tk S p).ch := fun e => by
    rw [nw, if_neg e]
  have pl : ParLt (makeS S p) := fun m h1 h2 => by
    rw [hlen] at h2
    by_cases e : m = S.length + 1
    · rw [e, np]; omega
    · rw [op m h1 (by omega)]; exact h.par m h1 (by omega)
  have hk : ∀ n, 1 ≤ n → kids (makeS S p) n = (if p = n then [S.length + 1] else []) ++ kids S n := fun n hn => by
    unfold kids
    rw [hlen, List.range'_1_concat, List.filter_append, List.reverse_append, Nat.add_comm 1 S.length]
    congr 1
    · simp only [List.filter_cons, List.filter_nil, np]
      by_cases e : p = n
      · simp [e]
      · simp [e]
    · congr 1
      apply List.filter_congr
      intro m hm
      rw [List.mem_range'_1] at hm
      rw [op m (by omega) (by omega)]
  have hgo : ∀ m n, 1 ≤ m → m ≤ S.length → hg (makeS S p) m n = hg S m n := fun m n h1 h2 => hg_congr h.par op n h1 h2
  refine ⟨pl, fun n h1 h2 => ?_, fun m h1 h2 h3 h4 => ?_, fun m h1 h2 h3 => ?_⟩
  · rw [hlen] at h2
    rw [hk n h1]
    by_cases e : n = S.length + 1
    · subst e
      rw [nc, if_neg (by omega)]
      have : kids S (S.length + 1) = [] := by
        rw [List.eq_nil_iff_forall_not_mem]
        intro m hm
        have h3 := mem_kids.1 hm
        have := h.par m h3.1 h3.2.1
        omega
      rw [this]
      rfl
    · have hl : Lk (makeS S p) (tk S n).ch (kids S n) := by
        refine Lk.congr (fun k hk => ?_) (h.lk n h1 (by omega))
        have h3 := mem_kids.1 hk
        exact oe k h3.1 h3.2.1
      rw [oc n h1 (by omega)]
      by_cases e2 : p = n
      · subst e2
        rw [if_pos rfl, if_pos rfl]
        refine ⟨rfl, ?_⟩
        rw [ne (by omega)]
        exact hl
      · rw [if_neg (Ne.symm e2), if_neg e2]
        exact hl
  · rw [hlen] at h2
    by_cases e : m = S.length + 1
    · subst e
      rw [np] at h3 h4
      rw [ow p (by omega) hp] at h4
      rw [nww, if_neg h3]
      exact h4
    · have h5 := h.par m h1 (by omega)
      rw [op m h1 (by omega)] at h3 h4
      rw [ow _ (by omega) (by omega)] at h4
      rw [ow m h1 (by omega)]
      exact h.dn m h1 (by omega) h3 h4
  · rw [hlen] at h2
    have hb : ∀ m, 1 ≤ m → m ≤ S.length → (tk S m).why ≠ 0 → 1 ≤ (tk S m).why ∧ (tk S m).why ≤ m := fun m h1 h2 h3 => by
      rcases (h.wy m h1 h2 h3).1 with h4 | h4
      · omega
      · have := hg_lt h.par m _ h1 h4; omega
    by_cases e : m = S.length + 1
    · subst e
      rw [nww] at h3 ⊢
      by_cases ep : p = 0
      · rw [if_pos ep] at h3; exact absurd rfl h3
      · rw [if_neg ep] at h3 ⊢
        obtain ⟨h4, h5⟩ := h.wy p (by omega) hp h3
        have h6 := hb p (by omega) hp h3
        refine ⟨Or.inr ((hg_iff pl h1 _).2 ?_), by rw [ow _ h6.1 (by omega)]; exact h5⟩
        rw [np]
        refine ⟨ep, ?_⟩
        rw [hgo p _ (by omega) hp]
        rcases h4 with h4 | h4
        · exact Or.inl h4.symm
        · exact Or.inr h4
    · rw [ow m h1 (by omega)] at h3 ⊢
      obtain ⟨h4, h5⟩ := h.wy m h1 (by omega) h3
      have h6 := hb m h1 (by omega) h3
      rw [hgo m _ h1 (by omega), ow _ h6.1 (by omega)]
      exact ⟨h4, h5⟩
theorem Ok.start : Ok [] := ⟨fun m h1 h2 => by simp at h2; omega, fun n h1 h2 => by simp at h2; omega, fun m h1 h2 => by simp at h2; omega, fun m h1 h2 => by simp at h2; omega⟩
def undL (S : List Tk) (n : Nat) : List Nat := (List.range' 1 S.length).filter (fun m => hg S m n)
theorem brL_all (h : ParLt S) (h1 : 1 ≤ n) (h2 : n ≤ S.length) : brL S (fun _ => true) n = n :: undL S n := by
  have hu : (undL S n).Pairwise (· < ·) := (List.pairwise_lt_range' 1).filter _
  have hm : ∀ m, m ∈ undL S n ↔ (1 ≤ m ∧ m ≤ S.length) ∧ hg S m n = true := fun m => by
    unfold undL
    rw [List.mem_filter, List.mem_range'_1]
    simp
    omega
  have hc : (n :: undL S n).Pairwise (· < ·) := by
    rw [List.pairwise_cons]
    exact ⟨fun m hm' => (hg_lt h m n ((hm m).1 hm').1.1 ((hm m).1 hm').2).1, hu⟩
  refine List.Perm.eq_of_pairwise (le := fun x y : Nat => x < y) (fun a b _ _ h1 h2 => by omega) (brL_lt S _ n) hc ?_
  refine (List.perm_ext_iff_of_nodup ((brL_lt S _ n).imp (fun h => Nat.ne_of_lt h)) (hc.imp (fun h => Nat.ne_of_lt h))).2 (fun m => ?_)
  rw [mem_brL, List.mem_cons, hm]
  simp
  constructor
  · rintro ⟨a, b | b⟩
    · exact Or.inl b
    · exact Or.inr ⟨a, b⟩
  · rintro (rfl | ⟨a, b⟩)
    · exact ⟨⟨h1, h2⟩, Or.inl rfl⟩
    · exact ⟨a, Or.inr b⟩
def livL (S : List Tk) : List Nat := (List.range' 1 S.length).filter (liv S)
end
end Go.Proofs.Ytbjnajiicljnbaa
