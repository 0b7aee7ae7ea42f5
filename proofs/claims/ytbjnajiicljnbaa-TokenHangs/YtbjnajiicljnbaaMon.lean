/- What is cancelled stays so, whatever is done; what a map holds of who was cancelled. -/
import Derived.Test.YtbjnajiicljnbaaStp
namespace Go.Proofs.Ytbjnajiicljnbaa
open Go.RowKit Go.Maps Go.ChangeMaps
set_option linter.unusedVariables false
def Mono (S S' : List Tk) : Prop := ∀ k : Int, fI Tk.why S k ≠ 0 → fI Tk.why S' k ≠ 0
section
variable {S S' S'' : List Tk} {n p : Nat}
theorem Mono.refl (S : List Tk) : Mono S S := fun _ h => h
theorem Mono.trans (h : Mono S S') (k : Mono S' S'') : Mono S S'' := fun i hi => k i (h i hi)
theorem Mono.of (hl : S.length ≤ S'.length) (h : ∀ m, 1 ≤ m → m ≤ S.length → (tk S m).why ≠ 0 → (tk S' m).why ≠ 0) : Mono S S' := fun k hk => by
  by_cases hv : Va S k
  · obtain ⟨m, rfl, h1, h2⟩ := va_nat hv
    rw [fI_ok h1 h2] at hk
    rw [fI_ok h1 (by omega)]
    have := h m h1 h2 (by omega)
    omega
  · rw [fI_no hv] at hk
    exact absurd rfl hk
theorem mono_make (hp : p ≤ S.length) : Mono S (makeS S p) := Mono.of (by rw [makeS_len]; omega) (fun m h1 h2 h3 => by
  rw [makeS_old hp h1 h2]
  split
  · rename_i e; rw [← e]; exact h3
  · exact h3)
theorem mono_set {x : Tk} (h1 : 1 ≤ n) (h2 : n ≤ S.length) (hx : x.why = (tk S n).why) : Mono S (S.set (n - 1) x) := Mono.of (by simp) (fun m m1 m2 h3 => by
  rw [tk_set h1 h2 m1]
  split
  · rename_i e; rw [hx, ← e]; exact h3
  · exact h3)
theorem mono_can (h1 : 1 ≤ n) : Mono S (canS S n) := Mono.of (by rw [canS_len]; exact Nat.le_refl _) (fun m m1 m2 h3 => by
  rw [canS_tk S n m1]
  split
  · show n ≠ 0; omega
  · exact h3)
end
section
variable {S : List Tk} (i : Int)
theorem mono_mk : Mono S (mkS S i) := by
  unfold mkS
  split
  · rename_i e
    unfold mkB at e
    rw [Bool.or_eq_true] at e
    rcases e with e | e
    · have : i = 0 := by simpa using e
      subst this
      exact mono_make (Nat.zero_le _)
    · obtain ⟨m, rfl, h1, h2⟩ := va_yes e
      exact mono_make h2
  · exact Mono.refl _
theorem mono_ca : Mono S (caS S i) := by
  unfold caS
  split
  · rename_i e
    obtain ⟨m, rfl, h1, h2⟩ := va_yes e
    exact mono_can h1
  · exact Mono.refl _
theorem mono_ho : Mono S (hoS S i) := by
  unfold hoS
  split
  · rename_i e
    obtain ⟨m, rfl, h1, h2⟩ := va_yes e
    exact mono_set h1 h2 rfl
  · exact Mono.refl _
theorem mono_le : Mono S (leS S i) := by
  unfold leS
  split
  · rename_i e
    obtain ⟨m, rfl, h1, h2⟩ := va_yes e
    rw [Int.toNat_natCast]
    have hlow : Mono S (lowS S m) := mono_set h1 h2 rfl
    split
    · exact Mono.refl _
    · split
      · exact hlow.trans (mono_can h1)
      · exact hlow
  · exact Mono.refl _
end
/-- What the map says is so. -/
def Wa (f : Int → Option Value) (S : List Tk) : Prop := ∀ k v, f k = some v → ∃ B, v = .bool B ∧ (B = true → fI Tk.why S k ≠ 0)
theorem Wa.mono {f : Int → Option Value} {S S' : List Tk} (h : Wa f S) (m : Mono S S') : Wa f S' := fun k v hk => by
  obtain ⟨B, h1, h2⟩ := h k v hk
  exact ⟨B, h1, fun e => m k (h2 e)⟩
theorem Wa.get {f : Int → Option Value} {S : List Tk} (h : Wa f S) (k : Int) : ∃ B, (f k).getD (.bool false) = .bool B ∧ (B = true → fI Tk.why S k ≠ 0) := by
  cases e : f k with
  | none => exact ⟨false, rfl, fun h => by cases h⟩
  | some v =>
    obtain ⟨B, h1, h2⟩ := h k v e
    exact ⟨B, by rw [h1]; rfl, h2⟩
theorem Wa.upd {f : Int → Option Value} {S : List Tk} (h : Wa f S) (k : Int) : Wa (Ytbjnajiicljnbaa.upd f k (.bool (fI Tk.why S k != 0))) S := fun j v hj => by
  unfold Ytbjnajiicljnbaa.upd at hj
  split at hj
  · rename_i e
    subst e
    injection hj with hj
    exact ⟨_, hj.symm, fun e => by simpa using e⟩
  · exact h j v hj
/-- Tokens, and the map beside them. -/
def Hs (w wr : World) (t b : Nat) (S : List Tk) (n c : Nat) (X : List Nat) : Prop := St w wr t S n (b :: X) ∧ w.heap.size ≤ b ∧ ∃ cnt f, MapAt wr b cnt f ∧ cnt ≤ c ∧ Wa f S
section
variable {w wr w' : World} {t b : Nat} {S S' : List Tk} {n n' c c' : Nat} {X : List Nat}
theorem Hs.step (h : Hs w wr t b S n c X) (hs : Sn w wr w' t S' n' (b :: X)) (hm : Mono S S') : Hs w w' t b S' n' c X := by
  obtain ⟨h1, h2, cnt, f, h3, h4, h5⟩ := h
  exact ⟨hs.1, h2, cnt, f, h3.kept (hs.2 b (by simp)), h4, h5.mono hm⟩
theorem Hs.quiet (h : Hs w wr t b S n c X) (T : Touch [] wr w') : Hs w w' t b S n c X := by
  obtain ⟨h1, h2, cnt, f, h3, h4, h5⟩ := h
  exact ⟨h1.quiet T, h2, cnt, f, h3.kept (T.block b h3.lt (by simp)), h4, h5⟩
theorem Hs.mono (h : Hs w wr t b S n c X) (hc : c ≤ c') : Hs w wr t b S n c' X := by
  obtain ⟨h1, h2, cnt, f, h3, h4, h5⟩ := h
  exact ⟨h1, h2, cnt, f, h3, by omega, h5⟩
end
theorem Hs.upd {w wr : World} {t b : Nat} {S : List Tk} {n c cnt : Nat} {f : Int → Option Value} {ob : Obj} {k : Int} (h1 : St w wr t S n [b]) (h2 : w.heap.size ≤ b) (hm : MapAt (setBlock wr b ob) b (if (f k).isSome then cnt else cnt + 1) (Ytbjnajiicljnbaa.upd f k (.bool (fI Tk.why S k != 0)))) (hc : cnt ≤ c) (hw : Wa f S) : Hs w (setBlock wr b ob) t b S n (c + 1) [] := by
  have T : Touch [b] wr (setBlock wr b ob) := touch_setBlock (Touch.refl _ _) (Or.inl (by simp)) ob
  refine ⟨h1.other T (fun k hk => hk) (fun k hk => by simp at hk; omega), h2, _, _, hm, ?_, hw.upd k⟩
  split <;> omega
/-- Where a token's why lies. -/
theorem why_par {S : List Tk} (ok : Ok S) {m : Nat} (h1 : 1 ≤ m) (h2 : m ≤ S.length) : 0 ≤ fI Tk.par S m ∧ fI Tk.par S m < (m : Int) ∧ ((fI Tk.par S m != 0) = true → (fI Tk.why S (fI Tk.par S m) != 0) = true → (fI Tk.why S m != 0) = true) := by
  have hp := ok.par m h1 h2
  rw [fI_ok (f := Tk.par) h1 h2]
  refine ⟨by omega, by omega, fun a b => ?_⟩
  have a' : (tk S m).par ≠ 0 := by
    rw [bne_iff_ne] at a; omega
  rw [fI_ok (by omega) (by omega), bne_iff_ne] at b
  rw [fI_ok h1 h2, bne_iff_ne]
  have := ok.dn m h1 h2 a' (by omega)
  omega
/-- The way up to it. -/
def Up (S : List Tk) (k : Nat) (y : Int) : Prop := 1 ≤ k ∧ k ≤ S.length ∧ ((k : Int) = y ∨ ∃ n : Nat, y = (n : Int) ∧ hg S k n = true)
theorem up_start {S : List Tk} (ok : Ok S) {m : Nat} (h1 : 1 ≤ m) (h2 : m ≤ S.length) (h : fI Tk.why S m ≠ 0) : Up S m (fI Tk.why S m) ∧ (fI Tk.why S (fI Tk.why S m) != 0) = true := by
  rw [fI_ok h1 h2] at h ⊢
  obtain ⟨a, b⟩ := ok.wy m h1 h2 (by omega)
  refine ⟨⟨h1, h2, ?_⟩, ?_⟩
  · rcases a with a | a
    · left; omega
    · exact Or.inr ⟨_, rfl, a⟩
  · have hb : 1 ≤ (tk S m).why ∧ (tk S m).why ≤ m := by
      rcases a with a | a
      · omega
      · have := hg_lt ok.par m _ h1 a; omega
    rw [fI_ok hb.1 (by omega), bne_iff_ne]
    omega
theorem up_step {S : List Tk} (ok : Ok S) {k : Nat} {y : Int} (h : Up S k y) (hy : (k : Int) ≠ y) : ∃ k' : Nat, fI Tk.par S k = (k' : Int) ∧ k' < k ∧ Up S k' y := by
  obtain ⟨h1, h2, h3 | ⟨n, rfl, h3⟩⟩ := h
  · exact absurd h3 hy
  · have hp := ok.par k h1 h2
    obtain ⟨a, b⟩ := (hg_iff ok.par h1 n).1 h3
    refine ⟨(tk S k).par, fI_ok h1 h2, hp, by omega, by omega, ?_⟩
    rcases b with b | b
    · left; rw [b]
    · exact Or.inr ⟨n, rfl, b⟩
end Go.Proofs.Ytbjnajiicljnbaa
