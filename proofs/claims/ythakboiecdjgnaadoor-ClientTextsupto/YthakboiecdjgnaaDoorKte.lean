/- A thing that may be is read back from its line, and a program from its text; in plain words. -/
import Derived.Test.YthakboiecdjgnaaDoorKtd
import Derived.Test.YthakboiecdjgnaaDoorCtx
namespace Go.Proofs.YthakboiecdjgnaaDoor.Kt
open Go.RowKit Go.Sort Go.Shelf
open Go.Proofs.YthakboiecdjgnaaDoor.Ci
set_option linter.unusedVariables false
theorem cls (k : Nat) (h1 : 1 ≤ k) (h2 : k ≤ 9) : 0 ≤ kNl k ∧ kNh k ≤ 4611686018427387904 ∧ 0 ≤ kSh k ∧ kSh k ≤ 15 ∧ (0 < kNh k ∨ (kNh k = 0 ∧ kNl k = 0)) ∧ (0 < kNh k → kKey k = false ∧ ¬ 0 < kSh k) ∧ (¬ 0 < kNh k → kKey k = true ∨ 0 < kSh k) ∧ (kWord k).size ≤ 6 := by
  match k, h1, h2 with
  | 1, _, _ => decide
  | 2, _, _ => decide
  | 3, _, _ => decide
  | 4, _, _ => decide
  | 5, _, _ => decide
  | 6, _, _ => decide
  | 7, _, _ => decide
  | 8, _, _ => decide
  | 9, _, _ => decide
theorem may_parts {d : Dz} (h : mayZ d = true) : ∃ k : Nat, 1 ≤ k ∧ k ≤ 9 ∧ d.op = k ∧ keyB (kKey k) d.sp d.nm = true ∧ (kNl k ≤ d.n ∧ d.n ≤ kNh k) ∧ (0 ≤ d.sl ∧ d.sl ≤ kSh k) := by
  unfold mayZ at h
  simp only [Bool.and_eq_true, decide_eq_true_eq] at h
  exact ⟨d.op.toNat, by omega, by omega, by omega, h.2.1, h.2.2.1, h.2.2.2⟩
def Usp (d : Dz) : Prop := 0 ≤ d.sp ∧ d.sp ≤ 65535
theorem keyB_t {sp : Int} {nm : ByteArray} (h : keyB true sp nm = true) : nm.size ≤ 64 := by
  unfold keyB at h
  simpa using h
theorem keyB_f {sp : Int} {nm : ByteArray} (h : keyB false sp nm = true) : sp = 0 ∧ nm = ⟨#[]⟩ := by
  unfold keyB at h
  simp only [Bool.false_eq_true, if_false, Bool.and_eq_true, decide_eq_true_eq] at h
  refine ⟨h.1, ba_ext ?_⟩
  rw [← ByteArray.toList_eq, h.2]
/-- the four forms of a line -/
def LnF (d : Dz) : Prop :=
  (∃ (k : Nat) (h1 : 1 ≤ k) (h2 : k ≤ 9) (a : kKey k = true ∧ ¬ 0 < kNh k ∧ ¬ 0 < kSh k) (sp : Nat) (hs : sp ≤ 65535) (hn : d.nm.size ≤ 64) (e : d = ⟨k, sp, d.nm, 0, 0⟩), ln d = kWord k ++ (⟨#[32]⟩ ++ textB sp d.nm)) ∨
  (∃ (k : Nat) (h1 : 1 ≤ k) (h2 : k ≤ 9) (a : kKey k = true ∧ ¬ 0 < kNh k ∧ 0 < kSh k) (sp : Nat) (hs : sp ≤ 65535) (hn : d.nm.size ≤ 64) (sl : Nat) (hsl : sl ≤ 15) (e : d = ⟨k, sp, d.nm, 0, sl⟩), ln d = kWord k ++ (⟨#[32]⟩ ++ (textB sp d.nm ++ (⟨#[32]⟩ ++ itoaB sl)))) ∨
  (∃ (k : Nat) (h1 : 1 ≤ k) (h2 : k ≤ 9) (a : kKey k = false ∧ ¬ 0 < kNh k ∧ 0 < kSh k) (sl : Nat) (hsl : sl ≤ 15) (e : d = ⟨k, 0, ⟨#[]⟩, 0, sl⟩), ln d = kWord k ++ (⟨#[32]⟩ ++ itoaB sl)) ∨
  (∃ (k : Nat) (h1 : 1 ≤ k) (h2 : k ≤ 9) (a : kKey k = false ∧ 0 < kNh k ∧ ¬ 0 < kSh k) (n : Nat) (hn : n ≤ 4611686018427387904) (e : d = ⟨k, 0, ⟨#[]⟩, n, 0⟩), ln d = kWord k ++ (⟨#[32]⟩ ++ itoaB n))
theorem lnF {d : Dz} (h : mayZ d = true) (hu : Usp d) : LnF d := by
  obtain ⟨k, h1, h2, e0, hk, hn, hs⟩ := may_parts h
  obtain ⟨c1, c2, c3, c4, c5, c6, c7, c8⟩ := cls k h1 h2
  obtain ⟨op, sp, nm, n, sl⟩ := d
  dsimp only at *
  subst e0
  obtain ⟨u1, u2⟩ := hu
  dsimp only at u1 u2
  have eop : ((k : Int)).toNat = k := by omega
  by_cases n0 : 0 < kNh k
  · obtain ⟨x1, x2⟩ := c6 n0
    rw [x1] at hk
    obtain ⟨rfl, rfl⟩ := keyB_f hk
    obtain ⟨m, rfl⟩ : ∃ m : Nat, n = m := ⟨n.toNat, by omega⟩
    obtain rfl : sl = 0 := by omega
    refine Or.inr (Or.inr (Or.inr ⟨k, h1, h2, ⟨x1, n0, x2⟩, m, by omega, rfl, ?_⟩))
    unfold ln addP
    dsimp only
    rw [eop, x1, decide_eq_true n0, decide_eq_false x2]
    rfl
  · have z1 : kNh k = 0 ∧ kNl k = 0 := by rcases c5 with h | h; exact absurd h n0; exact h
    obtain rfl : n = 0 := by omega
    by_cases s0 : 0 < kSh k
    · obtain ⟨m, rfl⟩ : ∃ m : Nat, sl = m := ⟨sl.toNat, by omega⟩
      cases x1 : kKey k with
      | true =>
        rw [x1] at hk
        refine Or.inr (Or.inl ⟨k, h1, h2, ⟨x1, n0, s0⟩, sp.toNat, by omega, keyB_t hk, m, by omega, by congr 1; omega, ?_⟩)
        unfold ln addP
        dsimp only
        rw [eop, x1, decide_eq_false n0, decide_eq_true s0]
        simp only [if_true, Bool.false_eq_true, if_false, ByteArray.append_assoc]
      | false =>
        rw [x1] at hk
        obtain ⟨rfl, rfl⟩ := keyB_f hk
        refine Or.inr (Or.inr (Or.inl ⟨k, h1, h2, ⟨x1, n0, s0⟩, m, by omega, rfl, ?_⟩))
        unfold ln addP
        dsimp only
        rw [eop, x1, decide_eq_false n0, decide_eq_true s0]
        rfl
    · obtain rfl : sl = 0 := by omega
      have x1 : kKey k = true := by rcases c7 n0 with h | h; exact h; exact absurd h s0
      rw [x1] at hk
      refine Or.inl ⟨k, h1, h2, ⟨x1, n0, s0⟩, sp.toNat, by omega, keyB_t hk, by congr 1; omega, ?_⟩
      unfold ln addP
      dsimp only
      rw [eop, x1, decide_eq_false n0, decide_eq_false s0]
      rfl
theorem gLine_ln {d : Dz} (h : mayZ d = true) (hu : Usp d) : gLine (ln d) = d := by
  rcases lnF h hu with ⟨k, h1, h2, a, sp, hs, hn, e, l⟩ | ⟨k, h1, h2, a, sp, hs, hn, sl, hsl, e, l⟩ | ⟨k, h1, h2, a, sl, hsl, e, l⟩ | ⟨k, h1, h2, a, n, hn, e, l⟩
  · rw [l, gLine_of k h1 h2, gRest_key k sp d.nm a.1 a.2.1 a.2.2 hs hn]; exact e.symm
  · rw [l, gLine_of k h1 h2, gRest_both k sp d.nm sl a.1 a.2.1 a.2.2 hs hn (by omega)]; exact e.symm
  · rw [l, gLine_of k h1 h2, gRest_slot k sl a.1 a.2.1 a.2.2 (by omega)]; exact e.symm
  · rw [l, gLine_of k h1 h2, gRest_num k n a.1 a.2.1 a.2.2 (by omega)]; exact e.symm
theorem ln_size {d : Dz} (h : mayZ d = true) (hu : Usp d) : (ln d).size ≤ 1000 := by
  have h32 : (ByteArray.mk #[32]).size = 1 := rfl
  rcases lnF h hu with ⟨k, h1, h2, a, sp, hs, hn, e, l⟩ | ⟨k, h1, h2, a, sp, hs, hn, sl, hsl, e, l⟩ | ⟨k, h1, h2, a, sl, hsl, e, l⟩ | ⟨k, h1, h2, a, n, hn, e, l⟩
  · rw [l, ByteArray.size_append, ByteArray.size_append, textB_size, h32]; have := (cls k h1 h2).2.2.2.2.2.2.2; have := itoaB_len sp (by omega); omega
  · rw [l, ByteArray.size_append, ByteArray.size_append, ByteArray.size_append, ByteArray.size_append, textB_size, h32]; have := (cls k h1 h2).2.2.2.2.2.2.2; have := itoaB_len sp (by omega); have := itoaB_len sl (by omega); omega
  · rw [l, ByteArray.size_append, ByteArray.size_append, h32]; have := (cls k h1 h2).2.2.2.2.2.2.2; have := itoaB_len sl (by omega); omega
  · rw [l, ByteArray.size_append, ByteArray.size_append, h32]; have := (cls k h1 h2).2.2.2.2.2.2.2; have := itoaB_len n (by omega); omega
theorem gKey_usp (op : Nat) (r : ByteArray) (n : Int) : Usp (gKey op r n) := by
  unfold Usp gKey
  dsimp only
  have := kp_sp r
  split <;> omega
theorem gKey_nm (op : Nat) (r : ByteArray) (n : Int) : (gKey op r n).nm.size ≤ 64 := by
  unfold gKey
  dsimp only
  split
  · exact kp_nm r
  · exact Nat.zero_le _
theorem gLine_usp (s : ByteArray) : Usp (gLine s) := gKey_usp _ _ _
theorem gLine_nm (s : ByteArray) : (gLine s).nm.size ≤ 64 := gKey_nm _ _ _
def rdZ (s : ByteArray) : Option Dz := if mayZ (gLine s) = true ∧ ln (gLine s) = s then some (gLine s) else none
theorem rdZ_ln {d : Dz} (h : mayZ d = true) (hu : Usp d) : rdZ (ln d) = some d := by
  unfold rdZ
  rw [gLine_ln h hu, if_pos ⟨h, rfl⟩]
theorem rdZ_some {s : ByteArray} {d : Dz} (h : rdZ s = some d) : d = gLine s ∧ mayZ d = true ∧ ln d = s ∧ Usp d := by
  unfold rdZ at h
  split at h
  · rename_i g
    injection h with h
    subst h
    exact ⟨rfl, g.1, g.2, gLine_usp s⟩
  · cases h
theorem rdZ_yes {s : ByteArray} (h1 : mayZ (gLine s) = true) (h2 : ln (gLine s) = s) : rdZ s = some (gLine s) := if_pos ⟨h1, h2⟩
theorem rdZ_may {s : ByteArray} (h1 : mayZ (gLine s) = false) : rdZ s = none := if_neg (fun h => by rw [h1] at h; cases h.1)
theorem rdZ_ln_no {s : ByteArray} (h2 : ln (gLine s) ≠ s) : rdZ s = none := if_neg (fun h => h2 h.2)
theorem cut_lt (l : List UInt8) (h : (Lib.cut l [10]).2.2 = true) : (Lib.cut l [10]).2.1.length < l.length := by
  unfold Lib.cut at h ⊢
  split
  · rename_i h0
    have h1 := Lib.index_room l [10] h0
    simp only [List.length_drop, List.length_cons, List.length_nil] at h1 ⊢
    omega
  · rename_i h0
    rw [if_neg h0] at h
    cases h
def prsF : Nat → List UInt8 → Nat → List Dz → List Dz × Nat × Int
  | 0, l, n, out => if l = [] then (if 256 < n then ([], 256, 3) else (out, 0, 0)) else ([], n, 212)
  | f + 1, l, n, out => if l = [] then (if 256 < n then ([], 256, 3) else (out, 0, 0))
    else if (Lib.cut l [10]).2.2 = true then (match rdZ ⟨(Lib.cut l [10]).1.toArray⟩ with
      | none => ([], n, 212)
      | some d => prsF f (Lib.cut l [10]).2.1 (n + 1) (out ++ [d]))
    else ([], n, 212)
/-- what a text is read as -/
def prs (l : List UInt8) (n : Nat) (out : List Dz) : List Dz × Nat × Int := prsF l.length l n out
theorem prsF_more : ∀ (f g : Nat) (l : List UInt8) (n : Nat) (out : List Dz), l.length ≤ f → l.length ≤ g → prsF f l n out = prsF g l n out := by
  intro f
  induction f with
  | zero =>
    intro g l n out hf hg
    obtain rfl : l = [] := List.length_eq_zero_iff.1 (by omega)
    cases g <;> simp [prsF]
  | succ f ih =>
    intro g l n out hf hg
    by_cases h0 : l = []
    · subst h0
      cases g <;> simp [prsF]
    · cases g with
      | zero => exact absurd (List.length_eq_zero_iff.1 (by omega)) h0
      | succ g =>
        simp only [prsF, if_neg h0]
        by_cases hc : (Lib.cut l [10]).2.2 = true
        · rw [if_pos hc, if_pos hc]
          have := cut_lt l hc
          cases rdZ ⟨(Lib.cut l [10]).1.toArray⟩ with
          | none => rfl
          | some d => exact ih g _ (n + 1) _ (by omega) (by omega)
        · rw [if_neg hc, if_neg hc]
theorem prs_nil (n : Nat) (out : List Dz) : prs [] n out = if 256 < n then ([], 256, 3) else (out, 0, 0) := by simp [prs, prsF]
theorem prs_open {l : List UInt8} (n : Nat) (out : List Dz) (h0 : l ≠ []) (h : (Lib.cut l [10]).2.2 = false) : prs l n out = ([], n, 212) := by
  unfold prs
  cases l.length with
  | zero => simp only [prsF, if_neg h0]
  | succ f => simp only [prsF, if_neg h0]; rw [if_neg (by rw [h]; simp)]
theorem prs_bad {l : List UInt8} (n : Nat) (out : List Dz) (h0 : l ≠ []) (h : rdZ ⟨(Lib.cut l [10]).1.toArray⟩ = none) : prs l n out = ([], n, 212) := by
  unfold prs
  cases l.length with
  | zero => simp only [prsF, if_neg h0]
  | succ f =>
    simp only [prsF, if_neg h0]
    split
    · rw [h]
    · rfl
theorem prs_go {l : List UInt8} (n : Nat) (out : List Dz) (d : Dz) (h0 : l ≠ []) (h : (Lib.cut l [10]).2.2 = true) (hd : rdZ ⟨(Lib.cut l [10]).1.toArray⟩ = some d) : prs l n out = prs (Lib.cut l [10]).2.1 (n + 1) (out ++ [d]) := by
  unfold prs
  have hlt := cut_lt l h
  obtain ⟨f, hf⟩ : ∃ f, l.length = f + 1 := ⟨l.length - 1, by omega⟩
  rw [hf]
  simp only [prsF, if_neg h0]
  rw [if_pos h, hd]
  exact prsF_more _ _ _ _ _ (by omega) (Nat.le_refl _)
theorem prs_out {l : List UInt8} : ∀ (m : Nat), l.length ≤ m → ∀ (n : Nat) (out : List Dz), out.length = n → (prs l n out).2.2 = 0 → (prs l n out).1.length ≤ 256 := by
  intro m
  induction m generalizing l with
  | zero =>
    intro hl n out ho h
    obtain rfl : l = [] := List.length_eq_zero_iff.1 (by omega)
    rw [prs_nil] at h ⊢
    split <;> simp_all <;> omega
  | succ m ih =>
    intro hl n out ho h
    by_cases h0 : l = []
    · subst h0
      rw [prs_nil] at h ⊢
      split <;> simp_all <;> omega
    · cases hc : (Lib.cut l [10]).2.2 with
      | false => rw [prs_open n out h0 hc] at h; cases h
      | true =>
        cases hr : rdZ ⟨(Lib.cut l [10]).1.toArray⟩ with
        | none => rw [prs_bad n out h0 hr] at h; cases h
        | some d =>
          rw [prs_go n out d h0 hc hr] at h ⊢
          have := cut_lt l hc
          exact ih (by omega) (n + 1) _ (by simp [ho]) h
theorem nl_no {d : Dz} (h : nlB d = false) : noB 10 d.nm.data.toList := by
  unfold nlB at h
  rw [decide_eq_false_iff_not] at h
  intro c hc e
  obtain ⟨i, hi, rfl⟩ := List.getElem_of_mem hc
  have h1 : Lib.indexByte d.nm.data.toList 10 = -1 := by
    have := Lib.indexByte_ge d.nm.data.toList 10
    omega
  exact Lib.indexByte_none h1 i (by rw [List.getElem?_eq_getElem hi, e])
theorem noB_word10 (k : Nat) (h1 : 1 ≤ k) (h2 : k ≤ 9) : noB 10 (kWord k).data.toList := by
  match k, h1, h2 with
  | 1, _, _ => decide
  | 2, _, _ => decide
  | 3, _, _ => decide
  | 4, _, _ => decide
  | 5, _, _ => decide
  | 6, _, _ => decide
  | 7, _, _ => decide
  | 8, _, _ => decide
  | 9, _, _ => decide
theorem noB_app {x : UInt8} {a b : ByteArray} (ha : noB x a.data.toList) (hb : noB x b.data.toList) : noB x (a ++ b).data.toList := by
  intro c hc
  rw [ByteArray.data_append, Array.toList_append, List.mem_append] at hc
  rcases hc with h | h
  · exact ha c h
  · exact hb c h
theorem noB_sp10 : noB 10 (ByteArray.mk #[32]).data.toList := by decide
theorem noB_itoa (n : Nat) : noB 10 (itoaB n).data.toList := by rw [itoaB_list]; exact noB_dec 10 (by decide) n
theorem noB_text {a : Nat} {s : ByteArray} (h : noB 10 s.data.toList) : noB 10 (textB a s).data.toList := by
  unfold textB
  exact noB_app (noB_app (noB_itoa a) (by decide)) h
theorem ln_nl {d : Dz} (h : mayZ d = true) (hu : Usp d) (hn : nlB d = false) : noB 10 (ln d).data.toList := by
  have hm := nl_no hn
  rcases lnF h hu with ⟨k, h1, h2, a, sp, hs, hn, e, l⟩ | ⟨k, h1, h2, a, sp, hs, hn, sl, hsl, e, l⟩ | ⟨k, h1, h2, a, sl, hsl, e, l⟩ | ⟨k, h1, h2, a, n, hn, e, l⟩
  · rw [l]; exact noB_app (noB_word10 k h1 h2) (noB_app noB_sp10 (noB_text hm))
  · rw [l]; exact noB_app (noB_word10 k h1 h2) (noB_app noB_sp10 (noB_app (noB_text hm) (noB_app noB_sp10 (noB_itoa sl))))
  · rw [l]; exact noB_app (noB_word10 k h1 h2) (noB_app noB_sp10 (noB_itoa sl))
  · rw [l]; exact noB_app (noB_word10 k h1 h2) (noB_app noB_sp10 (noB_itoa n))
theorem prs_txt : ∀ (L : List Dz) (n : Nat) (out : List Dz), (∀ x ∈ L, mayZ x = true ∧ Usp x ∧ nlB x = false) → prs (txtL ln L) n out = prs [] (n + L.length) (out ++ L) := by
  intro L
  induction L with
  | nil => intro n out _; simp [txtL]
  | cons a r ih =>
    intro n out h
    obtain ⟨h1, h2, h3⟩ := h a (by simp)
    have e : txtL ln (a :: r) = (ln a).data.toList ++ 10 :: txtL ln r := by simp [txtL]
    have hc := cut_at 10 _ (txtL ln r) (ln_nl h1 h2 h3)
    rw [e, prs_go n out a (by simp) (by rw [hc]) (by rw [hc]; exact (congrArg rdZ (ba_ext (by simp))).trans (rdZ_ln h1 h2)), hc]
    dsimp only
    rw [ih (n + 1) (out ++ [a]) (fun x hx => h x (by simp [hx]))]
    rw [show n + 1 + r.length = n + (a :: r).length by simp; omega, show out ++ [a] ++ r = out ++ a :: r by simp]
end Go.Proofs.YthakboiecdjgnaaDoor.Kt
