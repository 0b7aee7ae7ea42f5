/- Tokens between the acts of a law: what each act makes of them, whatever number it is given. -/
import Derived.Test.YtbjnajiicljnbaaNil
namespace Go.Proofs.Ytbjnajiicljnbaa
open Go.RowKit Go.Maps Go.ChangeMaps
set_option linter.unusedVariables false
/-- The program's tokens since the world w; the blocks X lie apart. -/
structure Sl (w wr : World) (t : Nat) (sl : Value) (S : List Tk) (n : Nat) (X : List Nat) : Prop where
  tn : Tn wr t sl S
  ok : Ok S
  fr : ∀ k, k ∈ ft t sl → w.heap.size ≤ k
  tc : Touch [] w wr
  ho : ∀ m, (tk S m).hol ≤ n
  le : S.length ≤ n
  ap : ∀ k, k ∈ X → ¬ k ∈ ft t sl ∧ k < wr.heap.size
def St (w wr : World) (t : Nat) (S : List Tk) (n : Nat) (X : List Nat) : Prop := ∃ sl, Sl w wr t sl S n X
/-- A step that leaves the blocks X as they were. -/
def Sn (w wr w' : World) (t : Nat) (S : List Tk) (n : Nat) (X : List Nat) : Prop := St w w' t S n X ∧ ∀ k, k ∈ X → w'.heap[k]? = wr.heap[k]?
section
variable {w wr w' : World} {t : Nat} {sl sl' : Value} {S S' : List Tk} {n n' : Nat} {X : List Nat}
theorem Sl.quiet (h : Sl w wr t sl S n X) (T : Touch [] wr w') : Sl w w' t sl S n X :=
  ⟨h.tn.keep0 T, h.ok, h.fr, h.tc.trans' T, h.ho, h.le, fun k hk => ⟨(h.ap k hk).1, Nat.lt_of_lt_of_le (h.ap k hk).2 T.size⟩⟩
theorem St.quiet (h : St w wr t S n X) (T : Touch [] wr w') : St w w' t S n X := by
  obtain ⟨sl, h⟩ := h
  exact ⟨sl, h.quiet T⟩
theorem St.tc (h : St w wr t S n X) : Touch [] w wr := by
  obtain ⟨sl, h⟩ := h
  exact h.tc
theorem St.ok (h : St w wr t S n X) : Ok S := by
  obtain ⟨sl, h⟩ := h
  exact h.ok
theorem St.le (h : St w wr t S n X) : S.length ≤ n := by
  obtain ⟨sl, h⟩ := h
  exact h.le
theorem St.le2 (h : St w wr t S n X) : S.length ≤ 65536 := by
  obtain ⟨sl, h⟩ := h
  exact h.tn.le
theorem St.ho (h : St w wr t S n X) : ∀ m, (tk S m).hol ≤ n := by
  obtain ⟨sl, h⟩ := h
  exact h.ho
theorem St.mono (h : St w wr t S n X) (hn : n ≤ n') : St w wr t S n' X := by
  obtain ⟨sl, h⟩ := h
  exact ⟨sl, h.tn, h.ok, h.fr, h.tc, fun m => Nat.le_trans (h.ho m) hn, Nat.le_trans h.le hn, h.ap⟩
theorem St.less (h : St w wr t S n X) {Y : List Nat} (hY : ∀ k, k ∈ Y → k ∈ X) : St w wr t S n Y := by
  obtain ⟨sl, h⟩ := h
  exact ⟨sl, h.tn, h.ok, h.fr, h.tc, h.ho, h.le, fun k hk => h.ap k (hY k hk)⟩
theorem St.add (h : St w wr t S n X) {g : Nat} (T : Touch [] wr w') (h1 : wr.heap.size ≤ g) (h2 : g < w'.heap.size) : St w w' t S n (g :: X) := by
  obtain ⟨sl, h⟩ := h
  refine ⟨sl, (h.quiet T).tn, h.ok, h.fr, h.tc.trans' T, h.ho, h.le, fun k hk => ?_⟩
  rcases List.mem_cons.1 hk with rfl | hk
  · exact ⟨fun e => by have := h.tn.lt k e; omega, h2⟩
  · exact (h.quiet T).ap k hk
/-- Blocks that lie apart may be written. -/
theorem St.other (h : St w wr t S n X) {F : List Nat} (T : Touch F wr w') (hF : ∀ k, k ∈ F → k ∈ X) (hw : ∀ k, k ∈ F → w.heap.size ≤ k) : St w w' t S n X := by
  obtain ⟨sl, h⟩ := h
  exact ⟨sl, h.tn.keep T (fun k hk e => (h.ap k (hF k e)).1 hk), h.ok, h.fr, h.tc.trans T (fun i hi => Or.inr (hw i hi)), h.ho, h.le, fun k hk => ⟨(h.ap k hk).1, Nat.lt_of_lt_of_le (h.ap k hk).2 T.size⟩⟩
theorem St.start (h : Tn wr t (.slice none 0 0) []) (ht : w.heap.size ≤ t) (T : Touch [] w wr) : St w wr t [] 0 [] :=
  ⟨_, h, Ok.start, fun k hk => by simp [ft, Value.ownBlock] at hk; omega, T, fun m => by simp [tk, tk0], by simp, fun k hk => by simp at hk⟩
theorem Sl.step (h : Sl w wr t sl S n X) (h' : Tn w' t sl' S') (ok : Ok S') (T : Touch (ft t sl) wr w') (N : Nf wr (ft t sl) (ft t sl')) (ho : ∀ m, (tk S' m).hol ≤ n') (le : S'.length ≤ n') : Sn w wr w' t S' n' X := by
  refine ⟨⟨sl', h', ok, fun k hk => ?_, h.tc.trans T (fun i hi => Or.inr (h.fr i hi)), ho, le, fun k hk => ⟨fun e => ?_, Nat.lt_of_lt_of_le (h.ap k hk).2 T.size⟩⟩, fun k hk => T.block k (h.ap k hk).2 (h.ap k hk).1⟩
  · rcases N k hk with e | e
    · exact h.fr k e
    · exact Nat.le_trans h.tc.size e
  · rcases N k e with e | e
    · exact (h.ap k hk).1 e
    · have := (h.ap k hk).2; omega
theorem Sl.same (h : Sl w wr t sl S n X) (hn : n ≤ n') : Sn w wr wr t S n' X := ⟨St.mono ⟨sl, h⟩ hn, fun _ _ => rfl⟩
end
theorem va_no {S : List Tk} {i : Int} (h : vaB S i = false) : ¬ Va S i := by
  intro ⟨h1, h2⟩
  simp [vaB, h1, h2] at h
theorem va_yes {S : List Tk} {i : Int} (h : vaB S i = true) : ∃ m : Nat, i = (m : Int) ∧ 1 ≤ m ∧ m ≤ S.length := by
  simp [vaB] at h
  exact va_nat ⟨h.1, h.2⟩
/-- Make of any number. -/
def mkB (S : List Tk) (i : Int) : Bool := i == 0 || vaB S i
def mkS (S : List Tk) (i : Int) : List Tk := if mkB S i then makeS S i.toNat else S
def mkN (S : List Tk) (i : Int) : Int := if mkB S i then (S.length : Int) + 1 else 0
def mkE (S : List Tk) (i : Int) : Int := if mkB S i then 0 else 60
/-- Cancel of any number. -/
def caS (S : List Tk) (i : Int) : List Tk := if vaB S i then canS S i.toNat else S
def caL (S : List Tk) (i : Int) : List Nat := if vaB S i then gnL S i.toNat else []
def vaE (S : List Tk) (i : Int) : Int := if vaB S i then 0 else 60
/-- Hold of any number. -/
def hoS (S : List Tk) (i : Int) : List Tk := if vaB S i then holdS S i.toNat else S
/-- Let of any number. -/
def leS (S : List Tk) (i : Int) : List Tk := if vaB S i then (if (tk S i.toNat).hol = 0 then S else if (tk S i.toNat).hol = 1 then canS (lowS S i.toNat) i.toNat else lowS S i.toNat) else S
def leL (S : List Tk) (i : Int) : List Nat := if vaB S i then (if (tk S i.toNat).hol = 1 then gnL (lowS S i.toNat) i.toNat else []) else []
def leE (S : List Tk) (i : Int) : Int := if vaB S i then (if (tk S i.toNat).hol = 0 then 61 else 0) else 60
section
variable {S : List Tk} {n m : Nat}
theorem canS_len (S : List Tk) (n : Nat) : (canS S n).length = S.length := wyS_len _ _ _
theorem gnL_mem (h : m ∈ gnL S n) : 1 ≤ m ∧ m ≤ S.length := by
  unfold gnL at h
  split at h
  · exact (mem_brL.1 h).1
  · simp at h
theorem tk_zero (S : List Tk) : tk S 0 = tk S 1 := rfl
theorem canS_tk (S : List Tk) (n : Nat) (hm : 1 ≤ m) : tk (canS S n) m = if m ∈ gnL S n then { tk S m with why := n } else tk S m := wyS_tk n _ _ (fun k hk => gnL_mem hk) m hm
theorem canS_hol (S : List Tk) (n m : Nat) : (tk (canS S n) m).hol = (tk S m).hol := by
  by_cases e : m = 0
  · subst e
    rw [tk_zero, tk_zero, canS_tk S n (Nat.le_refl 1)]
    split <;> rfl
  · rw [canS_tk S n (by omega)]
    split <;> rfl
theorem set_hol {x : Tk} (h1 : 1 ≤ n) (h2 : n ≤ S.length) (m : Nat) : (tk (S.set (n - 1) x) m).hol ≤ max x.hol (tk S m).hol := by
  by_cases e : m = 0
  · subst e
    rw [tk_zero, tk_zero, tk_set h1 h2 (Nat.le_refl 1)]
    split
    · exact Nat.le_max_left _ _
    · exact Nat.le_max_right _ _
  · rw [tk_set h1 h2 (by omega)]
    split
    · exact Nat.le_max_left _ _
    · exact Nat.le_max_right _ _
theorem lowS_len (S : List Tk) (n : Nat) : (lowS S n).length = S.length := by simp [lowS]
theorem holdS_len (S : List Tk) (n : Nat) : (holdS S n).length = S.length := by simp [holdS]
theorem lowS_hol (h1 : 1 ≤ n) (h2 : n ≤ S.length) {k : Nat} (h : ∀ m, (tk S m).hol ≤ k) (m : Nat) : (tk (lowS S n) m).hol ≤ k := by
  have := set_hol (S := S) (x := { tk S n with hol := (tk S n).hol - 1 }) h1 h2 m
  have a := h n
  have b := h m
  exact Nat.le_trans this (Nat.max_le.2 ⟨by show (tk S n).hol - 1 ≤ k; omega, b⟩)
theorem holdS_hol (h1 : 1 ≤ n) (h2 : n ≤ S.length) {k : Nat} (h : ∀ m, (tk S m).hol ≤ k) (m : Nat) : (tk (holdS S n) m).hol ≤ k + 1 := by
  have := set_hol (S := S) (x := { tk S n with hol := (tk S n).hol + 1 }) h1 h2 m
  have a := h n
  have b := h m
  exact Nat.le_trans this (Nat.max_le.2 ⟨by show (tk S n).hol + 1 ≤ k + 1; omega, by omega⟩)
theorem makeS_hol (h2 : n ≤ S.length) {k : Nat} (h : ∀ m, (tk S m).hol ≤ k) (m : Nat) : (tk (makeS S n) m).hol ≤ k := by
  have key : ∀ m, 1 ≤ m → (tk (makeS S n) m).hol ≤ k := fun m hm => by
    by_cases e : m ≤ S.length
    · rw [makeS_old h2 hm e]
      split
      · exact h n
      · exact h m
    · by_cases e2 : m = S.length + 1
      · rw [e2, makeS_new]
        split <;> simp [tk0]
      · rw [tk_out (by rw [makeS_len]; omega)]
        simp [tk0]
  by_cases e : m = 0
  · subst e; rw [tk_zero]; exact key 1 (Nat.le_refl 1)
  · exact key m (by omega)
end
section
variable {w wr : World} {t : Nat} {S : List Tk} {n : Nat} {X : List Nat}
def MkE (e : Ending) (w wr w' : World) (t : Nat) (S : List Tk) (n : Nat) (X : List Nat) (i : Int) : Prop := e = .returned (.tuple #[.int .i64 (mkN S i), .int .i64 (mkE S i)]) ∧ Sn w wr w' t (mkS S i) (n + 1) X
theorem St.make (h : St w wr t S n X) (hn : n < 65536) (i : Int) : Calls Try.prog 17 #[PT t, .int .i64 i] wr fun e w' => MkE e w wr w' t S n X i := by
  obtain ⟨sl, h⟩ := h
  have hl := h.le
  unfold MkE mkN mkE mkS
  by_cases h0 : i = 0
  · subst h0
    have e : mkB S 0 = true := by simp [mkB]
    rw [e, if_pos rfl, if_pos rfl, if_pos rfl]
    refine (make17_top wr t sl S h.tn (by omega)).mono ?_
    rintro e w' ⟨he, sl', r1, r2, r3⟩
    refine ⟨by rw [he]; rfl, h.step r1 (h.ok.make (Nat.zero_le _)) r2 r3 (fun m => Nat.le_trans (makeS_hol (Nat.zero_le _) h.ho m) (by omega)) (by rw [makeS_len]; omega)⟩
  · by_cases hv : vaB S i = true
    · have e : mkB S i = true := by simp [mkB, hv]
      rw [e, if_pos rfl, if_pos rfl, if_pos rfl]
      obtain ⟨m, rfl, h1, h2⟩ := va_yes hv
      refine (make17_ok wr t sl S m h.tn (by omega) h1 h2).mono ?_
      rintro e w' ⟨he, sl', r1, r2, r3⟩
      refine ⟨by rw [he]; rfl, h.step r1 (h.ok.make h2) r2 r3 (fun k => Nat.le_trans (makeS_hol h2 h.ho k) (by omega)) (by rw [Int.toNat_natCast, makeS_len]; omega)⟩
    · have hv : vaB S i = false := by simpa using hv
      have e : mkB S i = false := by
        unfold mkB
        rw [hv]
        simp [h0]
      rw [e]
      refine (make17_token wr t sl S i h.tn h0 (va_no hv)).mono ?_
      rintro e w' ⟨he, rfl⟩
      exact ⟨he, h.same (by omega)⟩
def CnE (e : Ending) (w wr w' : World) (t : Nat) (S : List Tk) (n : Nat) (X : List Nat) (i : Int) : Prop := ∃ a c, e = .returned (.tuple #[.slice a (caL S i).length c, .int .i64 (vaE S i)]) ∧ RI w' wr.heap.size (.slice a (caL S i).length c) (caL S i) ∧ Sn w wr w' t (caS S i) (n + 1) X
theorem St.cancel (h : St w wr t S n X) (i : Int) : Calls Try.prog 8 #[PT t, .int .i64 i] wr fun e w' => CnE e w wr w' t S n X i := by
  obtain ⟨sl, h⟩ := h
  have hl := h.le
  unfold CnE caS caL vaE
  by_cases hv : vaB S i = true
  · rw [hv]
    simp only [if_true]
    obtain ⟨m, rfl, h1, h2⟩ := va_yes hv
    refine (Cancel8 wr t sl S m h.tn h.ok h1 h2).mono ?_
    rintro e w' ⟨a, c, he, r1, r2, r3⟩
    exact ⟨a, c, he, r1, h.step r2 (h.ok.can h1 h2) r3 (Nf.refl _ _) (fun k => by rw [Int.toNat_natCast, canS_hol]; have := h.ho k; omega) (by rw [Int.toNat_natCast, canS_len]; omega)⟩
  · have hv : vaB S i = false := by simpa using hv
    rw [hv]
    refine (Cancel8_no wr t sl S i h.tn (va_no hv)).mono ?_
    rintro e w' ⟨he, rfl⟩
    exact ⟨none, 0, he, RI.nil _ _, h.same (by omega)⟩
def HoE (e : Ending) (w wr w' : World) (t : Nat) (S : List Tk) (n : Nat) (X : List Nat) (i : Int) : Prop := e = .returned (.int .i64 (vaE S i)) ∧ Sn w wr w' t (hoS S i) (n + 1) X
theorem St.hold (h : St w wr t S n X) (hn : n < 65536) (i : Int) : Calls Try.prog 12 #[PT t, .int .i64 i] wr fun e w' => HoE e w wr w' t S n X i := by
  obtain ⟨sl, h⟩ := h
  have hl := h.le
  unfold HoE hoS vaE
  by_cases hv : vaB S i = true
  · rw [hv]
    simp only [if_true]
    obtain ⟨m, rfl, h1, h2⟩ := va_yes hv
    refine (hold12 wr t sl S m h.tn h1 h2 (by have := h.ho m; omega)).mono ?_
    rintro e w' ⟨he, r1, r2⟩
    exact ⟨he, h.step r1 (h.ok.hold h1 h2) r2 (Nf.refl _ _) (fun k => holdS_hol h1 h2 h.ho k) (by rw [Int.toNat_natCast, holdS_len]; omega)⟩
  · have hv : vaB S i = false := by simpa using hv
    rw [hv]
    refine (hold12_no wr t sl S i h.tn (va_no hv)).mono ?_
    rintro e w' ⟨he, rfl⟩
    exact ⟨he, h.same (by omega)⟩
def LeE (e : Ending) (w wr w' : World) (t : Nat) (S : List Tk) (n : Nat) (X : List Nat) (i : Int) : Prop := ∃ a c, e = .returned (.tuple #[.slice a (leL S i).length c, .int .i64 (leE S i)]) ∧ RI w' wr.heap.size (.slice a (leL S i).length c) (leL S i) ∧ Sn w wr w' t (leS S i) (n + 1) X
theorem St.let_ (h : St w wr t S n X) (hn : n < 65536) (i : Int) : Calls Try.prog 13 #[PT t, .int .i64 i] wr fun e w' => LeE e w wr w' t S n X i := by
  obtain ⟨sl, h⟩ := h
  have hl := h.le
  unfold LeE leS leL leE
  by_cases hv : vaB S i = true
  · rw [hv]
    simp only [if_true]
    obtain ⟨m, rfl, h1, h2⟩ := va_yes hv
    rw [Int.toNat_natCast]
    by_cases e0 : (tk S m).hol = 0
    · rw [if_pos e0, if_neg (by omega), if_pos e0]
      refine (let13_held wr t sl S m h.tn h1 h2 e0).mono ?_
      rintro e w' ⟨he, rfl⟩
      exact ⟨none, 0, he, RI.nil _ _, h.same (by omega)⟩
    · rw [if_neg e0, if_neg e0]
      by_cases e1 : (tk S m).hol = 1
      · rw [if_pos e1, if_pos e1]
        refine (let13_last wr t sl S m h.tn h.ok h1 h2 e1).mono ?_
        rintro e w' ⟨a, c, he, r1, r2, r3⟩
        exact ⟨a, c, he, r1, h.step r2 ((h.ok.low h1 h2).can h1 (by rw [lowS_len]; exact h2)) r3 (Nf.refl _ _) (fun k => by rw [canS_hol]; have := lowS_hol h1 h2 h.ho k; omega) (by rw [canS_len, lowS_len]; omega)⟩
      · rw [if_neg e1, if_neg e1]
        refine (let13_more wr t sl S m h.tn h1 h2 (by omega) (by have := h.ho m; omega)).mono ?_
        rintro e w' ⟨he, r1, r2⟩
        exact ⟨none, 0, he, RI.nil _ _, h.step r1 (h.ok.low h1 h2) r2 (Nf.refl _ _) (fun k => by have := lowS_hol h1 h2 h.ho k; omega) (by rw [lowS_len]; omega)⟩
  · have hv : vaB S i = false := by simpa using hv
    rw [hv]
    refine (let13_no wr t sl S i h.tn (va_no hv)).mono ?_
    rintro e w' ⟨he, rfl⟩
    exact ⟨none, 0, he, RI.nil _ _, h.same (by omega)⟩
theorem St.why (h : St w wr t S n X) (i : Int) : Calls Try.prog 21 #[PT t, .int .i64 i] wr fun e w' => e = .returned (.int .i64 (fI Tk.why S i)) ∧ w' = wr := by
  obtain ⟨sl, h⟩ := h
  exact why21 wr t sl S i h.tn
theorem St.is (h : St w wr t S n X) (i : Int) : Calls Try.prog 22 #[PT t, .int .i64 i] wr fun e w' => e = .returned (.bool (fI Tk.why S i != 0)) ∧ w' = wr := by
  obtain ⟨sl, h⟩ := h
  exact is22 wr t sl S i h.tn
theorem St.parent (h : St w wr t S n X) (i : Int) : Calls Try.prog 20 #[PT t, .int .i64 i] wr fun e w' => e = .returned (.int .i64 (fI Tk.par S i)) ∧ w' = wr := by
  obtain ⟨sl, h⟩ := h
  exact parent20 wr t sl S i h.tn
theorem St.holders (h : St w wr t S n X) (i : Int) : Calls Try.prog 24 #[PT t, .int .i64 i] wr fun e w' => e = .returned (.int .i64 (fI Tk.hol S i)) ∧ w' = wr := by
  obtain ⟨sl, h⟩ := h
  exact holders24 wr t sl S i h.tn
theorem St.len (h : St w wr t S n X) : Calls Try.prog 19 #[PT t] wr fun e w' => e = .returned (.int .i64 (S.length : Nat)) ∧ w' = wr := by
  obtain ⟨sl, h⟩ := h
  exact len19 wr t sl S h.tn
theorem St.live (h : St w wr t S n X) : Calls Try.prog 23 #[PT t] wr fun e w' => RiE e wr w' (livL S) := by
  obtain ⟨sl, h⟩ := h
  exact live23 wr t sl S h.tn
def unL (S : List Tk) (i : Int) : List Nat := if vaB S i then undL S i.toNat else []
theorem St.under (h : St w wr t S n X) (i : Int) : Calls Try.prog 25 #[PT t, .int .i64 i] wr fun e w' => RiE e wr w' (unL S i) := by
  obtain ⟨sl, h⟩ := h
  unfold unL
  by_cases hv : vaB S i = true
  · rw [hv]
    obtain ⟨m, rfl, h1, h2⟩ := va_yes hv
    exact under25 wr t sl S m h.tn h.ok h1 h2
  · have hv : vaB S i = false := by simpa using hv
    rw [hv]
    exact under25_no wr t sl S i h.tn (va_no hv)
end
end Go.Proofs.Ytbjnajiicljnbaa
