/- The contracts of names and place; no conditions but those that each states. -/
import Derived.Test.YtlmmljmhfghlnaaVpt
namespace Go.Proofs.Ytlmmljmhfghlnaa
open Go.RowKit Go.Maps Go.ChangeMaps
set_option linter.unusedVariables false
set_option linter.unusedSimpArgs false
def nm3 (x : Se) : Array Value := #[.int .i64 0, .int .i64 0, .int .i64 1, .int .i64 x.2.1, .int .i64 2, .int .i64 x.2.2]
set_option maxRecDepth 100000 in
theorem names_ (w : World) (x : Se) : Calls Try.prog 39 #[sv x] w fun e w' => e = .returned (.agg (nm3 x)) ∧ Touch [] w w' := by
  have HT : Hid (Touch [] w ((w.alloc (.cells #[.int .i64 x.1, .int .i64 x.2.1, .int .i64 x.2.2] 33)).alloc (.cells (nm3 x) 84))) := hid (((Touch.refl _ _).alloc _).alloc _)
  unfold sv nm3 at *
  go_enter Try.func39, Try.ntmps39
  go_wp2
  refine bodyPost_ret (v := .agg #[.int .i64 0, .int .i64 0, .int .i64 1, .int .i64 x.2.1, .int .i64 2, .int .i64 x.2.2]) (by simp [results, Try.results39, go_sem]) rfl ⟨rfl, ?_⟩
  exact HT.out
theorem ixN0 (w : World) (r t : Int) : (Instr.index 84 (.agg #[.int .i64 0, .int .i64 0, .int .i64 1, .int .i64 r, .int .i64 2, .int .i64 t]) (.int .i64 0)).run Try.prog w = .ok (.agg #[.int .i64 0, .int .i64 0]) w := by kernel_rfl
theorem ixN1 (w : World) (r t : Int) : (Instr.index 84 (.agg #[.int .i64 0, .int .i64 0, .int .i64 1, .int .i64 r, .int .i64 2, .int .i64 t]) (.int .i64 1)).run Try.prog w = .ok (.agg #[.int .i64 1, .int .i64 r]) w := by kernel_rfl
theorem ixN2 (w : World) (r t : Int) : (Instr.index 84 (.agg #[.int .i64 0, .int .i64 0, .int .i64 1, .int .i64 r, .int .i64 2, .int .i64 t]) (.int .i64 2)).run Try.prog w = .ok (.agg #[.int .i64 2, .int .i64 t]) w := by kernel_rfl
set_option maxRecDepth 100000 in
theorem ixN (w : World) (r t : Int) (x : Se) (hr : x.2.1 = r) (ht : x.2.2 = t) {i : Nat} (hi : i < 3) : (Instr.index 84 (.agg #[.int .i64 0, .int .i64 0, .int .i64 1, .int .i64 r, .int .i64 2, .int .i64 t]) (.int .i64 (i : Int))).run Try.prog w = .ok (.agg #[.int .i64 (i : Int), .int .i64 (num i x)]) w := by
  subst hr ht
  match i, hi with
  | 0, _ => exact ixN0 w _ _
  | 1, _ => exact ixN1 w _ _
  | 2, _ => exact ixN2 w _ _
theorem cmap_snoc {CH : List Chr} {q : Nat} {x : Se} (hn : ∀ p ∈ CH, p.2.1 ≠ x.1) (c : Int) : kupd (cmap CH) x.1 (PT q) c = cmap (CH ++ [(q, x)]) c := by
  unfold kupd cmap
  rw [List.find?_append]
  by_cases e : c = x.1
  · subst e
    rw [if_pos rfl, List.find?_eq_none.2 (fun p hp => by simp [hn p hp])]
    simp
  · rw [if_neg e]
    cases List.find? (fun p => decide (p.2.1 = c)) CH with
    | some p => rfl
    | none =>
      have hne : ¬ x.1 = c := fun e' => e e'.symm
      simp [hne]
def PlE (w w' : World) (s : Nat) (mc mr mk : Option Nat) (nr : Nat) (CH : List Chr) (G : List Int) (x : Se) : Prop := ∃ b d q n, n ≤ nr + 3 ∧ Sm w' s (some b) (some d) mk n (CH ++ [(q, x)]) G ∧ Touch (fpS s mc mr mk CH) w w' ∧ w.heap.size ≤ q ∧ (mc = some b ∨ w.heap.size ≤ b) ∧ (mr = some d ∨ w.heap.size ≤ d)
def PlA (V wx : World) (s : Nat) (mc mr mk : Option Nat) (nr : Nat) (CH : List Chr) (G : List Int) (b d n : Nat) : Prop := n ≤ nr ∧ Sm wx s (some b) (some d) mk n CH G ∧ Touch (fpS s mc mr mk CH) V wx ∧ (mc = some b ∨ V.heap.size ≤ b) ∧ (mr = some d ∨ V.heap.size ≤ d)
section
variable {w V wx : World} {s nr : Nat} {mc mr mk : Option Nat} {CH : List Chr} {G : List Int}
theorem rmap_nil : rmap [] = fun _ => none := by
  funext n
  unfold rmap
  rw [if_neg (fun e => e.2.2 rfl)]
/-- The maps are made. -/
theorem pl_made (h : Sm V s none mr mk nr CH G) : PlA V ((((V.setCell ⟨s, 0, none⟩ (.map (some V.heap.size))).setCell ⟨s, 1, none⟩ (.map (some (V.heap.size + 1)))).alloc (.map #[] 0)).alloc (.map #[] 0)) s none mr mk nr CH G V.heap.size (V.heap.size + 1) 0 := by
  have hs := block_lt h.hb
  obtain ⟨rfl, e⟩ : mr = none ∧ CH = [] := by
    rcases h.cm with ⟨_, h1, h2⟩ | ⟨b, d, h1, _⟩
    · exact ⟨h1, h2⟩
    · cases h1
  obtain ⟨V2, hV2⟩ : ∃ V2, V2 = (V.setCell ⟨s, 0, none⟩ (.map (some V.heap.size))).setCell ⟨s, 1, none⟩ (.map (some (V.heap.size + 1))) := ⟨_, rfl⟩
  have t2 : Touch [s] V V2 := by rw [hV2]; exact ((Touch.refl _ _).setCell (Or.inl (by simp)) _).setCell (Or.inl (by simp)) _
  have hb2 : V2.heap[s]? = some (.cells (sbc (some V.heap.size) (some (V.heap.size + 1)) mk) 60 (0, 0)) := by
    have := bset (i := 1) (bset (i := 0) h.hb (.map (some V.heap.size))) (.map (some (V.heap.size + 1)))
    rw [hV2]
    simpa [sbc] using this
  have hz : V2.heap.size = V.heap.size := by rw [hV2]; simp [World.setCell]
  rw [← hV2]
  clear hV2
  have t1 : Touch [] V2 ((V2.alloc (.map #[] 0)).alloc (.map #[] 0)) := ((Touch.refl _ _).alloc _).alloc _
  have m1 : MapK KI ((V2.alloc (.map #[] 0)).alloc (.map #[] 0)) V.heap.size 0 (fun _ => none) := by
    rw [← hz]
    exact (mapK_made KI V2).keep ((Touch.refl [] _).alloc _) (by simp)
  have m2 : MapK KN ((V2.alloc (.map #[] 0)).alloc (.map #[] 0)) (V.heap.size + 1) 0 (fun _ => none) := by
    have := mapK_made KN (V2.alloc (.map #[] 0))
    rwa [World.size_alloc, hz] at this
  refine ⟨Nat.zero_le _, ⟨t1.keep hb2 (by simp), Or.inr ⟨_, _, rfl, rfl, by omega, ?_, ?_⟩, ?_, fun b hb => ?_, ⟨fun _ _ => none, fun _ _ => none, ?_, ?_⟩, ?_⟩, (t2.mono (fun z hz => mem_fpS.2 (Or.inl (by simpa using hz)))).trans t1 (fun _ e => by cases e), Or.inr (Nat.le_refl _), Or.inr (Nat.le_succ _)⟩
  · rw [e]
    exact m1.congr (fun _ _ => rfl)
  · rw [e, rmap_nil]
    exact m2
  · rcases h.km with h1 | ⟨b, h1, h3⟩
    · exact Or.inl h1
    · refine Or.inr ⟨b, h1, (h3.keep t2 ?_).keep t1 (by simp)⟩
      obtain ⟨es, cl, h4⟩ := h3.kind
      simp only [List.mem_singleton]
      intro e2
      rw [e2, h.hb] at h4
      cases h4
  · have : b < V.heap.size := by
      rcases h.km with ⟨h1, _⟩ | ⟨b', h1, h3⟩
      · rw [h1] at hb; cases hb
      · rw [h1] at hb; cases hb; exact h3.lt
    exact ⟨fun e => by cases e; omega, fun e => by cases e; omega⟩
  · intro p hp
    rw [e] at hp
    cases hp
  · intro k _ n
    rw [e]
    trivial
  · rw [e]; simp
theorem pl_there {b : Nat} (h : Sm V s (some b) mr mk nr CH G) : ∃ d, mr = some d ∧ PlA V V s (some b) mr mk nr CH G b d nr := by
  rcases h.cm with ⟨h1, _⟩ | ⟨b', d, h1, rfl, _⟩
  · cases h1
  · cases h1
    exact ⟨d, rfl, Nat.le_refl _, h, Touch.refl _ _, Or.inl rfl, Or.inl rfl⟩
/-- The chair stands, and its caller has it. -/
theorem pl_chair {b d n : Nat} {x : Se} (h : Sm wx s (some b) (some d) mk n CH G) (hx : Wf x) (hn : ∀ p ∈ CH, p.2.1 ≠ x.1) (hl : CH.length + 1 < maxLen) :
    ∃ o, (Instr.mapUpdate 56 (.map (some b)) (.int .i64 x.1) (.pointer (some ⟨wx.heap.size, 0, none⟩))).run Try.prog (wx.alloc (.cells (chc x (fun _ => none) (fun _ => none)) 69)).drew = .ok () (setBlock (wx.alloc (.cells (chc x (fun _ => none) (fun _ => none)) 69)).drew b o) ∧
      Md (setBlock (wx.alloc (.cells (chc x (fun _ => none) (fun _ => none)) 69)).drew b o) s b d mk n (CH ++ [(wx.heap.size, x)]) CH (CH ++ [(wx.heap.size, x)]) G 0 (Zp wx.heap.size) ∧ Touch [b] wx (setBlock (wx.alloc (.cells (chc x (fun _ => none) (fun _ => none)) 69)).drew b o) ∧ ((CH ++ [(wx.heap.size, x)]).map Prod.fst).Nodup := by
  obtain ⟨b', d', e1, e2, hbd, mb, md⟩ : ∃ b' d', some b = some b' ∧ some d = some d' ∧ b' ≠ d' ∧ MapK KI wx b' CH.length (cmap CH) ∧ MapK KN wx d' n (rmap CH) := by
    rcases h.cm with ⟨h1, _⟩ | h1
    · cases h1
    · exact h1
  cases e1
  cases e2
  have t1 : Touch [] wx (wx.alloc (.cells (chc x (fun _ => none) (fun _ => none)) 69)).drew := ((Touch.refl _ _).alloc _).drew
  have hnew : (wx.alloc (.cells (chc x (fun _ => none) (fun _ => none)) 69)).drew.heap[wx.heap.size]? = some (.cells (chc x (fun _ => none) (fun _ => none)) 69 (0, 0)) := heap_alloc_new wx _
  have h1 := h.keep0 t1
  have hlt := h.own
  generalize (wx.alloc (.cells (chc x (fun _ => none) (fun _ => none)) 69)).drew = W1 at *
  have mb1 := mb.keep t1 (by simp)
  have hf : cmap CH x.1 = none := by
    unfold cmap
    rw [List.find?_eq_none.2 (fun p hp => by simp [hn p hp])]
    rfl
  obtain ⟨o, o1, o2⟩ := mb1.set (t := 56) Try.underlying56 (by omega) (k := x.1) hx.1 (PT wx.heap.size)
  rw [hf] at o2
  have tb : Touch [b] W1 (setBlock W1 b o) := touch_setBlock (Touch.refl _ _) (Or.inl (by simp)) o
  have hsb : s ≠ b := fun e => by
    obtain ⟨es, cl, h3⟩ := mb.kind
    have := h.hb; rw [e, h3] at this; cases this
  have hnb : wx.heap.size ≠ b := fun e => by have := mb.lt; omega
  refine ⟨o, o1, ⟨tb.keep h1.hb (by simpa using hsb), hbd, ?_, ⟨n, by omega, ((md.keep t1 (by simp)).keep tb (by simp; exact fun e => hbd e.symm)).congr (fun z _ => (rmid0 _ _).symm)⟩, ?_, fun c hc => ?_, ?_⟩, (t1.mono (fun _ e => by cases e)).trans tb (fun z hz => Or.inl hz), ?_⟩
  · have e : (CH ++ [(wx.heap.size, x)]).length = CH.length + 1 := by simp
    rw [e]
    simp only [Option.isSome_none, Bool.false_eq_true, if_false] at o2
    exact o2.congr (fun c _ => cmap_snoc hn c)
  · rcases h1.km with h3 | ⟨c, h3, h4⟩
    · exact Or.inl h3
    · exact Or.inr ⟨c, h3, h4.keep tb (by simp; exact fun e => (h.kc c h3).1 (by rw [e]))⟩
  · have := h.kc c hc
    exact ⟨fun e => this.1 (by rw [e]), fun e => this.2 (by rw [e])⟩
  · obtain ⟨A, B, h3, h4⟩ := h1.lk
    refine ⟨fun k j => if j = wx.heap.size then none else A k j, fun k j => if j = wx.heap.size then none else B k j, fun p hp => ?_, fun k _ hk => absurd hk (Nat.not_lt_zero _), fun k hk _ => ⟨by simp [Zp], fun n => ?_⟩⟩
    · rcases List.mem_append.1 hp with e | e
      · have hp0 : p.1 < wx.heap.size := (hlt p.1 (mem_fpS.2 (Or.inr (Or.inr (Or.inr (Or.inr (List.mem_map.2 ⟨p, e, rfl⟩))))))).lt
        have hne : p.1 ≠ wx.heap.size := by omega
        simp only [hne, if_false]
        refine tb.keep (h3 p e) (fun e2 => ?_)
        simp only [List.mem_singleton] at e2
        obtain ⟨es, cl, h5⟩ := mb1.kind
        have := h3 p e
        rw [e2, h5] at this
        cases this
      · simp only [List.mem_singleton] at e
        subst e
        simp only [if_true]
        exact tb.keep hnew (by simpa using hnb)
    · refine (h4 k hk n).congr (fun z hz => ?_)
      have : z < wx.heap.size := (hlt z (mem_fpS.2 (Or.inr (Or.inr (Or.inr (Or.inr (row_mem hz))))))).lt
      have hne : z ≠ wx.heap.size := by omega
      simp [hne]
  · rw [List.map_append, List.nodup_append]
    refine ⟨h.nb, by simp, fun a ha c hc e => ?_⟩
    simp only [List.map_cons, List.map_nil, List.mem_singleton] at hc
    have : a < wx.heap.size := (hlt a (mem_fpS.2 (Or.inr (Or.inr (Or.inr (Or.inr ha)))))).lt
    omega
/-- All three rows are done. -/
theorem pl_fin {wr : World} {b d n q : Nat} {x : Se} (h : Md wr s b d mk (n + 3) (CH ++ [(q, x)]) CH (CH ++ [(q, x)]) G 3 (Zp q)) (nd : ((CH ++ [(q, x)]).map Prod.fst).Nodup) : ∃ n', n' ≤ n + 3 ∧ Sm wr s (some b) (some d) mk n' (CH ++ [(q, x)]) G := by
  obtain ⟨n', h1, h2⟩ := h.rm
  obtain ⟨A, B, h3, h4, _⟩ := h.lk
  exact ⟨n', h1, h.hb, Or.inr ⟨b, d, rfl, rfl, h.bd, h.cm, h2.congr (fun z _ => rmid3 _ _)⟩, h.km, fun c hc => ⟨fun e => (h.kc c hc).1 (by cases e; rfl), fun e => (h.kc c hc).2 (by cases e; rfl)⟩, ⟨A, B, h3, fun k hk n => h4 k hk hk n⟩, nd⟩
end
end Go.Proofs.Ytlmmljmhfghlnaa
