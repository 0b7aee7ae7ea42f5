/- The contracts of a queue by turn: how it stands as a list. -/
import Derived.Test.YtmbjjkdocmcpdaaChn
namespace Go.Proofs.Ytmbjjkdocmcpdaa
open Go.RowKit Go.Maps Go.ChangeMaps
set_option linter.unusedVariables false

structure TQ (w : World) (q : Nat) (m : Option Nat) (xs : List Int) : Prop where
  nd : xs.Nodup
  wf : ∀ x ∈ xs, W64 x
  le : xs.length ≤ 65536
  st : ∃ f l, TC w q f l m ∧ ((m = none ∧ xs = []) ∨ ∃ b be af, m = some b ∧ MapAt w b xs.length (lmap be af xs) ∧ Chn f l be af xs)
def fp (q : Nat) (m : Option Nat) : List Nat := q :: m.toList
def Nx (w : World) (m m' : Option Nat) : Prop := ∀ b, m' = some b → m = some b ∨ w.heap.size ≤ b
theorem Nx.refl (w : World) (m : Option Nat) : Nx w m m := fun b h => Or.inl h
theorem TC.map_ne {w : World} {q b n : Nat} {f l : Int} {m : Option Nat} {g : Int → Option Value} (h : TC w q f l m) (hm : MapAt w b n g) : b ≠ q := fun e => by
  obtain ⟨D, ⟨es, cl, hb, _⟩, _⟩ := hm
  unfold TC at h
  rw [← e, hb] at h
  simp at h
theorem TC.keep {F : List Nat} {w w' : World} {q : Nat} {f l : Int} {m : Option Nat} (h : TC w q f l m) (ht : Touch F w w') (hn : ¬ q ∈ F) : TC w' q f l m := ht.keep h hn
theorem TQ.keep {F : List Nat} {w w' : World} {q : Nat} {m : Option Nat} {xs : List Int} (h : TQ w q m xs) (ht : Touch F w w') (hn : ∀ k, k ∈ fp q m → ¬ k ∈ F) : TQ w' q m xs := by
  obtain ⟨h1, h2, h3, f, l, hc, hs⟩ := h
  refine ⟨h1, h2, h3, f, l, hc.keep ht (hn q (by simp [fp])), ?_⟩
  rcases hs with ⟨rfl, rfl⟩ | ⟨b, be, af, rfl, hm, hch⟩
  · exact Or.inl ⟨rfl, rfl⟩
  · exact Or.inr ⟨b, be, af, rfl, hm.kept (ht.block b hm.lt (hn b (by simp [fp]))), hch⟩
theorem TQ.keep0 {w w' : World} {q : Nat} {m : Option Nat} {xs : List Int} (h : TQ w q m xs) (ht : Touch [] w w') : TQ w' q m xs := h.keep ht (fun _ _ h => by cases h)
theorem TQ.lt {w : World} {q : Nat} {m : Option Nat} {xs : List Int} (h : TQ w q m xs) : ∀ k, k ∈ fp q m → k < w.heap.size := by
  obtain ⟨h1, h2, h3, f, l, hc, hs⟩ := h
  intro k hk
  rcases hs with ⟨rfl, rfl⟩ | ⟨b, be, af, rfl, hm, hch⟩
  · simp [fp] at hk; subst hk; exact block_lt hc
  · simp [fp] at hk
    rcases hk with rfl | rfl
    · exact block_lt hc
    · exact hm.lt
def P (q : Nat) : Value := .pointer (some ⟨q, 0, none⟩)
theorem lmap_at {be af : Int → Int} {xs : List Int} {k : Int} (h : k ∈ xs) : lmap be af xs k = some (lnk (be k) (af k)) := by simp [lmap, h]
theorem lmap_no {be af : Int → Int} {xs : List Int} {k : Int} (h : ¬ k ∈ xs) : lmap be af xs k = none := by simp [lmap, h]

set_option maxHeartbeats 2000000 in
theorem len31 (w : World) (q : Nat) (m : Option Nat) (xs : List Int) (h : TQ w q m xs) :
    Calls Try.prog 36 #[P q] w fun e w' => e = .returned (.int .i64 xs.length) ∧ w' = w := by
  obtain ⟨h1, h2, h3, f, l, hc, hs⟩ := h
  have c2 := hc.c2
  rcases hs with ⟨rfl, rfl⟩ | ⟨b, be, af, rfl, hm, hch⟩
  · have hl := fun ty => Maps.len_nil (P := Try.prog) (w := w) Try.underlying77 ty
    unfold P
    go_enter Try.func36, Try.ntmps36
    go_wp2
    go_ret
    exact ⟨rfl, rfl⟩
  · have hl := fun ty => hm.len (t := 77) Try.underlying77 ty
    have hle : (xs.length : Int) ≤ 65536 := by omega
    clear hm hch h1 h2
    generalize xs.length = n at *
    unfold P
    go_enter Try.func36, Try.ntmps36
    go_wp2
    go_ret
    exact ⟨rfl, rfl⟩

set_option maxHeartbeats 2000000 in
theorem has30 (w : World) (q : Nat) (m : Option Nat) (xs : List Int) (k : Int) (hk : W64 k) (h : TQ w q m xs) :
    Calls Try.prog 43 #[P q, .int .i64 k] w fun e w' => e = .returned (.bool (decide (k ∈ xs))) ∧ Touch [] w w' := by
  obtain ⟨h1, h2, h3, f, l, hc, hs⟩ := h
  have c2 := hc.c2
  rcases hs with ⟨rfl, rfl⟩ | ⟨b, be, af, rfl, hm, hch⟩
  · have hl := Maps.look_nil (P := Try.prog) (w := w) true keyed3 Try.underlying77 (zero79 w) (key3 hk)
    simp only [if_true] at hl
    unfold P
    go_enter Try.func43, Try.ntmps43
    go_wp2
    go_ret
    exact ⟨rfl, (Touch.refl _ _).alloc _⟩
  · have hl := hm.lookOk (t := 77) Try.underlying77 (zero79 w) hk
    have hv : ∃ x y, (lmap be af xs k).getD (.agg #[.int .i64 0, .int .i64 0]) = .agg #[.int .i64 x, .int .i64 y] := by
      by_cases h : k ∈ xs
      · exact ⟨be k, af k, by simp [lmap_at h, lnk]⟩
      · exact ⟨0, 0, by simp [lmap_no h]⟩
    have hb : (lmap be af xs k).isSome = decide (k ∈ xs) := by
      by_cases h : k ∈ xs
      · simp [lmap_at h, h]
      · simp [lmap_no h, h]
    obtain ⟨x, y, hv⟩ := hv
    rw [hv, hb] at hl
    clear hm hch h1 h2 hv hb h3
    generalize decide (k ∈ xs) = B at *
    unfold P
    go_enter Try.func43, Try.ntmps43
    go_wp2
    go_ret
    exact ⟨rfl, (Touch.refl _ _).alloc _⟩

set_option maxHeartbeats 2000000 in
theorem front28 (w : World) (q : Nat) (m : Option Nat) (xs : List Int) (h : TQ w q m xs) :
    Calls Try.prog 37 #[P q] w fun e w' => e = .returned (.tuple #[.int .i64 (xs.headD 0), .bool (decide (0 < xs.length))]) ∧ w' = w := by
  have hlen := len31 w q m xs h
  obtain ⟨h1, h2, h3, f, l, hc, hs⟩ := h
  have c0 := hc.c0
  have hle : (xs.length : Int) ≤ 65536 := by omega
  cases xs with
  | nil =>
    have hlen : Calls Try.prog 36 #[P q] w fun e w' => e = .returned (.int .i64 0) ∧ w' = w := hlen
    clear h1 h2 h3 hs hle
    unfold P at *
    go_enter Try.func37, Try.ntmps37
    go_wp2_with (go_at_call 36; refine hlen.mono ?_; rintro e w' ⟨rfl, rfl⟩)
    exact bodyPost_ret (v := .tuple #[.int .i64 0, .bool false]) (by simp [results, Try.results37, go_sem]) rfl ⟨rfl, rfl⟩
  | cons x r =>
    have hf : f = x := by
      rcases hs with ⟨_, hx⟩ | ⟨b, be, af, _, hm, hch⟩
      · cases hx
      · exact hch.first (by simp)
    subst hf
    have hne : (((f :: r).length : Int) == 0) = false := by simp; omega
    have ht : decide (0 < (f :: r).length) = true := by simp
    rw [ht]
    simp only [List.headD_cons]
    clear h1 h2 h3 hs ht
    generalize ((f :: r).length : Int) = n at *
    unfold P at *
    go_enter Try.func37, Try.ntmps37
    go_wp2_with (go_at_call 36; refine hlen.mono ?_; rintro e w' ⟨rfl, rfl⟩)
    exact bodyPost_ret (v := .tuple #[.int .i64 f, .bool true]) (by simp [results, Try.results37, go_sem]) rfl ⟨rfl, rfl⟩
end Go.Proofs.Ytmbjjkdocmcpdaa
